/- What Go functions answer: generated. -/
import Derived.Test.YtjhgiaafaahbjaaF1
namespace Go.Proofs.Ytjhgiaafaahbjaa
open Go.RowKit
set_option linter.unusedVariables false
set_option linter.unnecessarySimpa false
set_option linter.unusedSimpArgs false
set_option maxRecDepth 20000
noncomputable def fn_ref17_TakeBounds_l1 (xa : (List UInt8)) (i277 : Int) : (Int × (List (Int × Int)) × Int) → Option ((Int × (List (Int × Int)) × Int) ⊕ ((Int × (List (Int × Int))) ⊕ ((List (Int × Int)) × Int × Int))) := fun ((i458, l459, i464) : (Int × (List (Int × Int)) × Int)) => cond (decide (i464 < i277)) ((subL xa i458 (((xa.length : Nat) : Int))).bind fun y509 => (fn_ref02_Take y509).bind fun (i513, i514, i515) => cond (!decide (i515 = 0)) (some (.inr ((.inr (([], 0, i515)))))) ((subL xa (IntKind.wrap .i64 (i458 + i514)) (((xa.length : Nat) : Int))).bind fun y521 => (fn_ref02_Take y521).bind fun (i525, i526, i527) => cond (!decide (i527 = 0)) (some (.inr ((.inr (([], 0, i527)))))) ((app l459 (([(i513, i525)] : List (Int × Int)))).bind fun z536 => some (.inl ((IntKind.wrap .i64 ((IntKind.wrap .i64 (i458 + i514)) + i526), z536, IntKind.wrap .i64 (i464 + 1))))))) (some (.inr ((.inl (i458, l459)))))
noncomputable def fn_ref17_TakeBounds (xa : (List UInt8)) (xb : Int) : Option (((List (Int × Int)) × Int × Int)) :=
  (fn_ref02_Take xa).bind fun (i277, i278, i279) => cond (!decide (i279 = 0)) (some (([], 0, i279))) (cond (decide (xb < i277)) (some (([], 0, 6))) ((loop (fn_ref17_TakeBounds_l1 xa i277) ((i278, ([] : List (Int × Int)), 0)) : Option ((Int × (List (Int × Int))) ⊕ ((List (Int × Int)) × Int × Int))).bind fun o => match o with | .inr r => some r | .inl (i411, l412) => some ((l412, i411, 0))))
set_option maxRecDepth 100000 in
set_option maxHeartbeats 4000000 in
theorem ref17_TakeBounds_ok {K : Hp} {xa : (List UInt8)} {xb : Int}   {r : ((List (Int × Int)) × Int × Int)} (h : fn_ref17_TakeBounds xa xb = some r) :
    Tr Try.prog 19 #[.string ⟨xa.toArray⟩, .int .i64 xb] K [] (fun v K' L' => (∃ (l268 : (List (Int × Int))) (i273 : Int) (i274 : Int) (ad269 : Option Addr) (cp270 : Nat), (l268, i273, i274) = r ∧ .tuple #[.slice ad269 l268.length cp270, .int .i64 i273, .int .i64 i274] = v ∧ L' = [Row Hp.nil 63 (.cons (.int .i64) (.one (.int .i64))) (.slice ad269 l268.length cp270) l268]) ∧ K = K') := by
  refine Tr.k ?_
  refine Tr.of Try.func19 rfl Try.ntmps19 rfl (fun E F => ?_)
  unfold fn_ref17_TakeBounds at h
  refine CJ.seq ?_
  refine CJ.region ?_
  refine J.val (v := .slice none 0 0) rfl rfl (V.as rfl) ?_
  refine J.val (v := .int .i64 0) rfl rfl (V.as rfl) ?_
  refine J.val (v := .int .i64 0) rfl rfl (V.as rfl) ?_
  refine J.nil ?_
  refine CJ.seq ?_
  refine CJ.region ?_
  refine J.val (v := .string ⟨xa.toArray⟩) rfl rfl (V.mv rfl) ?_
  obtain ⟨r275, hr276, h⟩ := ob h
  refine J.op rfl (A.call (L1 := []) Try.call40 rfl (ref02_Take_ok hr276) rfl rfl) ?_
  rintro _ _ _ ⟨v280, _, rfl, ⟨⟨i277, i278, i279, rfl, rfl, rfl⟩, rfl⟩, _, rfl⟩
  refine J.val (v := .tuple #[.int .i64 i277, .int .i64 i278, .int .i64 i279]) rfl rfl (V.mv rfl) ?_
  refine J.val (v := .int .i64 i277) rfl rfl (V.ext rfl rfl) ?_
  refine J.val (v := .int .i64 i278) rfl rfl (V.ext rfl rfl) ?_
  refine J.val (v := .int .i64 i279) rfl rfl (V.ext rfl rfl) ?_
  refine J.val (v := .int .i64 i277) rfl rfl (V.as rfl) ?_
  refine J.val (v := .int .i64 i278) rfl rfl (V.as rfl) ?_
  refine J.val (v := .int .i64 i279) rfl rfl (V.as rfl) ?_
  refine J.nil ?_
  refine CJ.seq ?_
  refine CJ.seq ?_
  refine CJ.region ?_
  refine J.val (v := .int .i64 i279) rfl rfl (V.mv rfl) ?_
  refine J.val (v := .bool (!decide (i279 = 0))) rfl rfl (V.neq rfl rfl) ?_
  refine J.nil ?_
  refine CJ.cond rfl (fun hc283 => ?_) (fun hc283 => ?_)
  · have h := ct hc283 h
    refine CJ.seq ?_
    refine CJ.region ?_
    refine J.val (v := .int .i64 i279) rfl rfl (V.mv rfl) ?_
    refine J.val (v := .slice none 0 0) rfl rfl (V.as rfl) ?_
    refine J.val (v := .int .i64 0) rfl rfl (V.as rfl) ?_
    refine J.val (v := .int .i64 i279) rfl rfl (V.as rfl) ?_
    refine J.nil ?_
    refine CJ.by (fun w hs => Sep.rowNil (e := 63) (t := (.cons (.int .i64) (.one (.int .i64)))) hs) ?_
    refine CJ.ret ?_
    have e := Option.some.inj h
    subst e
    exact ⟨_, [Row Hp.nil 63 (.cons (.int .i64) (.one (.int .i64))) (.slice none ((([] : List (Int × Int))).length) 0) (([] : List (Int × Int)))], Res.three rfl rfl rfl rfl, ⟨[], 0, i279, none, 0, rfl, rfl, rfl⟩, (Hp.le_refl _), fun w hs => hs⟩
  · have h := cf hc283 h
    refine CJ.skip ?_
    refine CJ.seq ?_
    refine CJ.seq ?_
    refine CJ.region ?_
    refine J.val (v := .int .i64 i277) rfl rfl (V.mv rfl) ?_
    refine J.val (v := .int .i64 xb) rfl rfl (V.mv rfl) ?_
    refine J.val (v := .bool (decide (xb < i277))) rfl rfl (V.gtr rfl rfl) ?_
    refine J.nil ?_
    refine CJ.cond rfl (fun hc285 => ?_) (fun hc285 => ?_)
    · have h := ct hc285 h
      refine CJ.seq ?_
      refine CJ.region ?_
      refine J.val (v := .slice none 0 0) rfl rfl (V.as rfl) ?_
      refine J.val (v := .int .i64 0) rfl rfl (V.as rfl) ?_
      refine J.val (v := .int .i64 6) rfl rfl (V.as rfl) ?_
      refine J.nil ?_
      refine CJ.by (fun w hs => Sep.rowNil (e := 63) (t := (.cons (.int .i64) (.one (.int .i64)))) hs) ?_
      refine CJ.ret ?_
      have e := Option.some.inj h
      subst e
      exact ⟨_, [Row Hp.nil 63 (.cons (.int .i64) (.one (.int .i64))) (.slice none ((([] : List (Int × Int))).length) 0) (([] : List (Int × Int)))], Res.three rfl rfl rfl rfl, ⟨[], 0, 6, none, 0, rfl, rfl, rfl⟩, (Hp.le_refl _), fun w hs => hs⟩
    · have h := cf hc285 h
      refine CJ.skip ?_
      refine CJ.seq ?_
      refine CJ.region ?_
      refine J.op rfl (A.lit (K0 := Hp.nil) (ty := (.cons (.int .i64) (.one (.int .i64)))) (xs := ([] : List (Int × Int))) Try.underlying22 inf63 rfl (by decide) rfl rfl rfl rfl rfl (by decide)) ?_
      rintro _ _ _ ⟨b287, rfl, rfl, rfl⟩
      have hn288 : ([] : List (Int × Int)) ≠ [] → ∃ g, (some ⟨b287, 0, none⟩ : Option Addr) = some ⟨g, 0, none⟩ := fun _ => ⟨b287, rfl⟩
      refine J.val (v := .slice (some ⟨b287, 0, none⟩) ((([] : List (Int × Int))).length) 0) rfl rfl (V.as rfl) ?_
      refine J.nil ?_
      refine CJ.seq ?_
      refine CJ.seq ?_
      refine CJ.region ?_
      refine J.val (v := .int .i64 0) rfl rfl (V.as rfl) ?_
      refine J.nil ?_
      obtain ⟨o417, ho418, h⟩ := ob h
      refine CJ.joinN (o := o417) (fun s ρ K' L' => ∃ (i411 : Int) (l412 : (List (Int × Int))) (ad413 : Option Addr) (cp414 : Nat), (i411, l412) = s ∧ Fits [(8, .int .i64 i411), (10, .slice ad413 l412.length cp414)] ρ ∧ K = K' ∧ L' = Row Hp.nil 63 (.cons (.int .i64) (.one (.int .i64))) (.slice ad413 l412.length cp414) l412 :: F) ?_ ?_
      · skip
        refine CJ.block ?_
        refine CJ.loop (fun s ρ K' L' => ∃ (i458 : Int) (l459 : (List (Int × Int))) (i464 : Int) (ad460 : Option Addr) (cp461 : Nat), (i458, l459, i464) = s ∧ Fits [(0, .string ⟨xa.toArray⟩), (7, .int .i64 i277), (8, .int .i64 i458), (10, .slice ad460 l459.length cp461), (11, .int .i64 i464)] ρ ∧ K = K' ∧ L' = Row Hp.nil 63 (.cons (.int .i64) (.one (.int .i64))) (.slice ad460 l459.length cp461) l459 :: F) ho418 ⟨i278, ([] : List (Int × Int)), 0, (some ⟨b287, 0, none⟩), 0, rfl, ⟨rfl, rfl, rfl, rfl, rfl, trivial⟩, rfl, rfl⟩ ?_
        rintro s ρ _ _ r507 ⟨i458, l459, i464, ad460, cp461, rfl, hf505, rfl, rfl⟩ h504
        obtain ⟨ρ, rfl⟩ := hf505.ex
        refine CJ.wit Row.hn (fun hn463 => ?_)
        refine CJ.seq ?_
        refine CJ.seq ?_
        refine CJ.region ?_
        refine J.val (v := .int .i64 i464) rfl rfl (V.mv rfl) ?_
        refine J.val (v := .int .i64 i277) rfl rfl (V.mv rfl) ?_
        refine J.val (v := .bool (decide (i464 < i277))) rfl rfl (V.lss rfl rfl) ?_
        refine J.nil ?_
        refine CJ.cond rfl (fun hc508 => ?_) (fun hc508 => ?_)
        · have h504 := ct hc508 h504
          refine CJ.skip ?_
          refine CJ.seq ?_
          refine CJ.block ?_
          refine CJ.seq ?_
          refine CJ.region ?_
          refine J.val (v := .string ⟨xa.toArray⟩) rfl rfl (V.mv rfl) ?_
          refine J.val (v := .int .i64 i458) rfl rfl (V.mv rfl) ?_
          obtain ⟨y509, hy510, h504⟩ := ob h504
          refine J.val (v := .string ⟨y509.toArray⟩) rfl rfl (V.subs Try.underlying9 rfl (fun _ h => by cases h; exact ⟨_, rfl⟩) nofun nofun (fun _ => rfl) hy510) ?_
          obtain ⟨r511, hr512, h504⟩ := ob h504
          refine J.op rfl (A.call (L1 := []) Try.call40 rfl (ref02_Take_ok hr512) rfl rfl) ?_
          rintro _ _ _ ⟨v516, _, rfl, ⟨⟨i513, i514, i515, rfl, rfl, rfl⟩, rfl⟩, _, rfl⟩
          refine J.val (v := .tuple #[.int .i64 i513, .int .i64 i514, .int .i64 i515]) rfl rfl (V.mv rfl) ?_
          refine J.val (v := .int .i64 i513) rfl rfl (V.ext rfl rfl) ?_
          refine J.val (v := .int .i64 i514) rfl rfl (V.ext rfl rfl) ?_
          refine J.val (v := .int .i64 i515) rfl rfl (V.ext rfl rfl) ?_
          refine J.val (v := .int .i64 i513) rfl rfl (V.as rfl) ?_
          refine J.val (v := .int .i64 i514) rfl rfl (V.as rfl) ?_
          refine J.val (v := .int .i64 i515) rfl rfl (V.as rfl) ?_
          refine J.nil ?_
          refine CJ.seq ?_
          refine CJ.seq ?_
          refine CJ.region ?_
          refine J.val (v := .int .i64 i515) rfl rfl (V.mv rfl) ?_
          refine J.val (v := .bool (!decide (i515 = 0))) rfl rfl (V.neq rfl rfl) ?_
          refine J.nil ?_
          refine CJ.cond rfl (fun hc519 => ?_) (fun hc519 => ?_)
          · have h504 := ct hc519 h504
            refine CJ.seq ?_
            refine CJ.region ?_
            refine J.val (v := .int .i64 i515) rfl rfl (V.mv rfl) ?_
            refine J.val (v := .slice none 0 0) rfl rfl (V.as rfl) ?_
            refine J.val (v := .int .i64 0) rfl rfl (V.as rfl) ?_
            refine J.val (v := .int .i64 i515) rfl rfl (V.as rfl) ?_
            refine J.nil ?_
            refine CJ.by (fun w hs => Sep.rowNil (e := 63) (t := (.cons (.int .i64) (.one (.int .i64)))) hs) ?_
            refine CJ.ret ?_
            have e := Option.some.inj h504
            subst e
            refine ⟨nofun, fun e => ?_⟩
            subst e
            refine .inr ⟨nofun, ?_⟩
            have e := Option.some.inj h
            subst e
            exact ⟨_, [Row Hp.nil 63 (.cons (.int .i64) (.one (.int .i64))) (.slice none ((([] : List (Int × Int))).length) 0) (([] : List (Int × Int)))], Res.three rfl rfl rfl rfl, ⟨[], 0, i515, none, 0, rfl, rfl, rfl⟩, (Hp.le_refl _), fun w hs => (Sep.dropAt 1 rfl hs)⟩
          · have h504 := cf hc519 h504
            refine CJ.skip ?_
            refine CJ.seq ?_
            refine CJ.region ?_
            refine J.val (v := .string ⟨xa.toArray⟩) rfl rfl (V.mv rfl) ?_
            refine J.val (v := .int .i64 i458) rfl rfl (V.mv rfl) ?_
            refine J.val (v := .int .i64 i514) rfl rfl (V.mv rfl) ?_
            refine J.val (v := .int .i64 (IntKind.wrap .i64 (i458 + i514))) rfl rfl (V.add rfl rfl) ?_
            obtain ⟨y521, hy522, h504⟩ := ob h504
            refine J.val (v := .string ⟨y521.toArray⟩) rfl rfl (V.subs Try.underlying9 rfl (fun _ h => by cases h; exact ⟨_, rfl⟩) nofun nofun (fun _ => rfl) hy522) ?_
            obtain ⟨r523, hr524, h504⟩ := ob h504
            refine J.op rfl (A.call (L1 := []) Try.call40 rfl (ref02_Take_ok hr524) rfl rfl) ?_
            rintro _ _ _ ⟨v528, _, rfl, ⟨⟨i525, i526, i527, rfl, rfl, rfl⟩, rfl⟩, _, rfl⟩
            refine J.val (v := .tuple #[.int .i64 i525, .int .i64 i526, .int .i64 i527]) rfl rfl (V.mv rfl) ?_
            refine J.val (v := .int .i64 i525) rfl rfl (V.ext rfl rfl) ?_
            refine J.val (v := .int .i64 i526) rfl rfl (V.ext rfl rfl) ?_
            refine J.val (v := .int .i64 i527) rfl rfl (V.ext rfl rfl) ?_
            refine J.val (v := .int .i64 i525) rfl rfl (V.as rfl) ?_
            refine J.val (v := .int .i64 i526) rfl rfl (V.as rfl) ?_
            refine J.val (v := .int .i64 i527) rfl rfl (V.as rfl) ?_
            refine J.nil ?_
            refine CJ.seq ?_
            refine CJ.seq ?_
            refine CJ.region ?_
            refine J.val (v := .int .i64 i527) rfl rfl (V.mv rfl) ?_
            refine J.val (v := .bool (!decide (i527 = 0))) rfl rfl (V.neq rfl rfl) ?_
            refine J.nil ?_
            refine CJ.cond rfl (fun hc531 => ?_) (fun hc531 => ?_)
            · have h504 := ct hc531 h504
              refine CJ.seq ?_
              refine CJ.region ?_
              refine J.val (v := .int .i64 i527) rfl rfl (V.mv rfl) ?_
              refine J.val (v := .slice none 0 0) rfl rfl (V.as rfl) ?_
              refine J.val (v := .int .i64 0) rfl rfl (V.as rfl) ?_
              refine J.val (v := .int .i64 i527) rfl rfl (V.as rfl) ?_
              refine J.nil ?_
              refine CJ.by (fun w hs => Sep.rowNil (e := 63) (t := (.cons (.int .i64) (.one (.int .i64)))) hs) ?_
              refine CJ.ret ?_
              have e := Option.some.inj h504
              subst e
              refine ⟨nofun, fun e => ?_⟩
              subst e
              refine .inr ⟨nofun, ?_⟩
              have e := Option.some.inj h
              subst e
              exact ⟨_, [Row Hp.nil 63 (.cons (.int .i64) (.one (.int .i64))) (.slice none ((([] : List (Int × Int))).length) 0) (([] : List (Int × Int)))], Res.three rfl rfl rfl rfl, ⟨[], 0, i527, none, 0, rfl, rfl, rfl⟩, (Hp.le_refl _), fun w hs => (Sep.dropAt 1 rfl hs)⟩
            · have h504 := cf hc531 h504
              refine CJ.skip ?_
              refine CJ.seq ?_
              refine CJ.region ?_
              refine J.val (v := .slice ad460 l459.length cp461) rfl rfl (V.mv rfl) ?_
              refine J.val (v := .int .i64 i513) rfl rfl (V.mv rfl) ?_
              refine J.val (v := .int .i64 i525) rfl rfl (V.mv rfl) ?_
              refine J.val (v := .agg #[.int .i64 i513, .int .i64 i525]) rfl rfl (V.build inf63 places63 rfl rfl) ?_
              refine J.op rfl (A.lit (K0 := Hp.nil) (ty := (.cons (.int .i64) (.one (.int .i64)))) (xs := ([(i513, i525)] : List (Int × Int))) Try.underlying22 inf63 rfl (by decide) rfl rfl rfl ⟨_, _, rfl, ⟨_, _, rfl, rfl, rfl, rfl⟩, rfl⟩ rfl (by decide)) ?_
              rintro _ _ _ ⟨b533, rfl, rfl, rfl⟩
              have hn534 : ([(i513, i525)] : List (Int × Int)) ≠ [] → ∃ g, (some ⟨b533, 0, none⟩ : Option Addr) = some ⟨g, 0, none⟩ := fun _ => ⟨b533, rfl⟩
              obtain ⟨z536, hz537, h504⟩ := ob h504
              refine J.front 1 rfl ?_
              refine J.op rfl (A.appR (Kr := Hp.nil) Try.underlying22 inf63 rfl rfl (by decide) (by decide) rfl rfl (Els.flat rfl) (Els.flat rfl) hz537) ?_
              rintro _ _ _ ⟨v538, rfl, rfl, rfl⟩
              refine J.wit Row.form ?_
              rintro ⟨ad539, cp540, rfl, _, _, hn541⟩
              refine J.val (v := .slice ad539 z536.length cp540) rfl rfl (V.as rfl) ?_
              refine J.nil ?_
              refine CJ.region ?_
              refine J.val (v := .int .i64 i458) rfl rfl (V.mv rfl) ?_
              refine J.val (v := .int .i64 i514) rfl rfl (V.mv rfl) ?_
              refine J.val (v := .int .i64 (IntKind.wrap .i64 (i458 + i514))) rfl rfl (V.add rfl rfl) ?_
              refine J.val (v := .int .i64 i526) rfl rfl (V.mv rfl) ?_
              refine J.val (v := .int .i64 (IntKind.wrap .i64 ((IntKind.wrap .i64 (i458 + i514)) + i526))) rfl rfl (V.add rfl rfl) ?_
              refine J.val (v := .int .i64 (IntKind.wrap .i64 ((IntKind.wrap .i64 (i458 + i514)) + i526))) rfl rfl (V.as rfl) ?_
              refine J.nil ?_
              refine CJ.region ?_
              refine J.val (v := .int .i64 i464) rfl rfl (V.mv rfl) ?_
              refine J.val (v := .int .i64 (IntKind.wrap .i64 (i464 + 1))) rfl rfl (V.add rfl rfl) ?_
              refine J.val (v := .int .i64 (IntKind.wrap .i64 (i464 + 1))) rfl rfl (V.as rfl) ?_
              refine J.nil ?_
              have e := Option.some.inj h504
              subst e
              exact ⟨rfl, ⟨IntKind.wrap .i64 ((IntKind.wrap .i64 (i458 + i514)) + i526), z536, IntKind.wrap .i64 (i464 + 1), ad539, cp540, rfl, ⟨rfl, rfl, rfl, rfl, rfl, trivial⟩, rfl, rfl⟩⟩
        · have h504 := cf hc508 h504
          refine CJ.exit ?_
          have e := Option.some.inj h504
          subst e
          refine ⟨nofun, fun e => ?_⟩
          subst e
          exact .inl ⟨rfl, _, rfl, ⟨i458, l459, ad460, cp461, rfl, ⟨rfl, rfl, trivial⟩, rfl, rfl⟩⟩
      · rintro s ρ _ _ ho542 ⟨i411, l412, ad413, cp414, rfl, hf543, rfl, rfl⟩
        subst ho542
        obtain ⟨ρ, rfl⟩ := hf543.ex
        refine PJ.wit Row.hn (fun hn416 => ?_)
        refine PJ.done ?_
        refine CJ.seq ?_
        refine CJ.region ?_
        refine J.val (v := .slice ad413 l412.length cp414) rfl rfl (V.mv rfl) ?_
        refine J.val (v := .int .i64 i411) rfl rfl (V.mv rfl) ?_
        refine J.val (v := .slice ad413 l412.length cp414) rfl rfl (V.as rfl) ?_
        refine J.val (v := .int .i64 i411) rfl rfl (V.as rfl) ?_
        refine J.val (v := .int .i64 0) rfl rfl (V.as rfl) ?_
        refine J.nil ?_
        refine CJ.ret ?_
        have e := Option.some.inj h
        subst e
        exact ⟨_, [Row Hp.nil 63 (.cons (.int .i64) (.one (.int .i64))) (.slice ad413 l412.length cp414) l412], Res.three rfl rfl rfl rfl, ⟨l412, i411, 0, ad413, cp414, rfl, rfl, rfl⟩, (Hp.le_refl _), fun w hs => hs⟩

noncomputable def fn_sig_Take_1_p0p1p2_si_innn_i (qa0 : List UInt8) (qa1 : Int) (qb0 : Int) (qc0 : Int) : Option (Int × Int × Int) :=
  (fn_sig_reader_number_p0_si qa0 qa1).bind fun (i14, i15, i17) => some ((i17, i14, i15))
set_option maxRecDepth 100000 in
set_option maxHeartbeats 4000000 in
theorem sig_Take_1_p0p1p2_si_innn_i_ok {K : Hp} {qa0 : List UInt8} {qa1 : Int} {qb0 : Int} {qc0 : Int} {pba : Nat} {pbb : Nat} {pbc : Nat}  {r : (Int × Int × Int)} (h : fn_sig_Take_1_p0p1p2_si_innn_i qa0 qa1 qb0 qc0 = some r) :
    Tr Try.prog 42 #[.pointer (some ⟨pba, 0, none⟩), .pointer (some ⟨pbb, 0, none⟩), .pointer (some ⟨pbc, 0, none⟩)] K [Cl pba 74 [.string ⟨qa0.toArray⟩, .int .i64 qa1], Cl pbb 28 [.int .i64 qb0, .slice none 0 0, .slice none 0 0, .slice none 0 0], Cl pbc 35 [.int .i64 qc0]] (fun v K' L' => (∃ (i9 : Int) (i10 : Int) (i11 : Int), (i9, i10, i11) = r ∧ .tuple #[] = v ∧ L' = [Cl pba 74 [.string ⟨qa0.toArray⟩, .int .i64 i9], Cl pbb 28 [.int .i64 i10, .slice none 0 0, .slice none 0 0, .slice none 0 0], Cl pbc 35 [.int .i64 i11]]) ∧ K = K') := by
  refine Tr.k ?_
  refine Tr.of Try.func42 rfl Try.ntmps42 rfl (fun E F => ?_)
  unfold fn_sig_Take_1_p0p1p2_si_innn_i at h
  refine CJ.region ?_
  obtain ⟨r12, hr13, h⟩ := ob h
  refine J.op rfl (A.call (L1 := [Cl pba 74 [.string ⟨qa0.toArray⟩, .int .i64 qa1]]) Try.call43 rfl (sig_reader_number_p0_si_ok hr13) rfl rfl) ?_
  rintro _ _ _ ⟨v18, _, rfl, ⟨⟨i14, i15, i17, rfl, rfl, rfl⟩, rfl⟩, _, rfl⟩
  refine J.val (v := .tuple #[.int .i64 i14, .int .i64 i15]) rfl rfl (V.mv rfl) ?_
  refine J.val (v := .int .i64 i14) rfl rfl (V.ext rfl rfl) ?_
  refine J.val (v := .int .i64 i15) rfl rfl (V.ext rfl rfl) ?_
  refine J.val rfl rfl (V.fad Try.underlying28 rfl nz3 rfl) ?_
  refine J.front 1 rfl ?_
  refine J.op rfl (A.store1 (v := .int .i64 i14) (cs' := [.int .i64 i14, .slice none 0 0, .slice none 0 0, .slice none 0 0]) sz3 rfl rfl rfl rfl rfl rfl) ?_
  rintro _ _ _ ⟨rfl, rfl, rfl⟩
  refine J.front 2 rfl ?_
  refine J.op rfl (A.store1 (v := .int .i64 i15) (cs' := [.int .i64 i15]) sz35 rfl rfl rfl rfl rfl rfl) ?_
  rintro _ _ _ ⟨rfl, rfl, rfl⟩
  refine J.nil ?_
  have e := Option.some.inj h
  subst e
  exact ⟨_, [Cl pba 74 [.string ⟨qa0.toArray⟩, .int .i64 i17], Cl pbb 28 [.int .i64 i14, .slice none 0 0, .slice none 0 0, .slice none 0 0], Cl pbc 35 [.int .i64 i15]], Res.zero rfl, ⟨i17, i14, i15, rfl, rfl, rfl⟩, (Hp.le_refl _), fun w hs => (Sep.front 2 rfl (Sep.front 1 rfl hs))⟩

noncomputable def fn_sig_Take_2_p0p1p2_si_innn_i (qa0 : List UInt8) (qa1 : Int) (qb0 : Int) (qc0 : Int) : Option ((Int × Int × (List (Int × Int)) × Int)) :=
  (fn_sig_reader_bounds_p0i_si 16 qa0 qa1).bind fun (l23, i24, i25) => some ((i25, qb0, l23, i24))
set_option maxRecDepth 100000 in
set_option maxHeartbeats 4000000 in
theorem sig_Take_2_p0p1p2_si_innn_i_ok {K : Hp} {qa0 : List UInt8} {qa1 : Int} {qb0 : Int} {qc0 : Int} {pba : Nat} {pbb : Nat} {pbc : Nat}  {r : (Int × Int × (List (Int × Int)) × Int)} (h : fn_sig_Take_2_p0p1p2_si_innn_i qa0 qa1 qb0 qc0 = some r) :
    Tr Try.prog 44 #[.pointer (some ⟨pba, 0, none⟩), .pointer (some ⟨pbb, 0, none⟩), .pointer (some ⟨pbc, 0, none⟩)] K [Cl pba 74 [.string ⟨qa0.toArray⟩, .int .i64 qa1], Cl pbb 28 [.int .i64 qb0, .slice none 0 0, .slice none 0 0, .slice none 0 0], Cl pbc 35 [.int .i64 qc0]] (fun v K' L' => (∃ (i13 : Int) (i14 : Int) (l15 : (List (Int × Int))) (i20 : Int) (ad16 : Option Addr) (cp17 : Nat), (i13, i14, l15, i20) = r ∧ .tuple #[] = v ∧ L' = [Cl pba 74 [.string ⟨qa0.toArray⟩, .int .i64 i13], Cl pbb 28 [.int .i64 i14, .slice ad16 l15.length cp17, .slice none 0 0, .slice none 0 0], Cl pbc 35 [.int .i64 i20], Row Hp.nil 63 (.cons (.int .i64) (.one (.int .i64))) (.slice ad16 l15.length cp17) l15]) ∧ K = K') := by
  refine Tr.k ?_
  refine Tr.of Try.func44 rfl Try.ntmps44 rfl (fun E F => ?_)
  unfold fn_sig_Take_2_p0p1p2_si_innn_i at h
  refine CJ.region ?_
  obtain ⟨r21, hr22, h⟩ := ob h
  refine J.op rfl (A.call (L1 := [Cl pba 74 [.string ⟨qa0.toArray⟩, .int .i64 qa1]]) Try.call41 rfl (sig_reader_bounds_p0i_si_ok hr22) rfl rfl) ?_
  rintro _ _ _ ⟨v29, _, rfl, ⟨⟨l23, i24, i25, ad26, cp27, rfl, rfl, rfl⟩, rfl⟩, _, rfl⟩
  refine J.front 1 rfl ?_
  refine J.wit Row.hn (fun hn28 => ?_)
  refine J.val (v := .tuple #[.slice ad26 l23.length cp27, .int .i64 i24]) rfl rfl (V.mv rfl) ?_
  refine J.val (v := .slice ad26 l23.length cp27) rfl rfl (V.ext rfl rfl) ?_
  refine J.val (v := .int .i64 i24) rfl rfl (V.ext rfl rfl) ?_
  refine J.val rfl rfl (V.fad Try.underlying28 rfl nz22 rfl) ?_
  refine J.front 2 rfl ?_
  refine J.op rfl (A.store1 (v := .slice ad26 l23.length cp27) (cs' := [.int .i64 qb0, .slice ad26 l23.length cp27, .slice none 0 0, .slice none 0 0]) sz22 rfl rfl rfl rfl rfl rfl) ?_
  rintro _ _ _ ⟨rfl, rfl, rfl⟩
  refine J.front 3 rfl ?_
  refine J.op rfl (A.store1 (v := .int .i64 i24) (cs' := [.int .i64 i24]) sz35 rfl rfl rfl rfl rfl rfl) ?_
  rintro _ _ _ ⟨rfl, rfl, rfl⟩
  refine J.nil ?_
  have e := Option.some.inj h
  subst e
  exact ⟨_, [Cl pba 74 [.string ⟨qa0.toArray⟩, .int .i64 i25], Cl pbb 28 [.int .i64 qb0, .slice ad26 l23.length cp27, .slice none 0 0, .slice none 0 0], Cl pbc 35 [.int .i64 i24], Row Hp.nil 63 (.cons (.int .i64) (.one (.int .i64))) (.slice ad26 l23.length cp27) l23], Res.zero rfl, ⟨i25, qb0, l23, i24, ad26, cp27, rfl, rfl, rfl⟩, (Hp.le_refl _), fun w hs => (Sep.front 3 rfl (Sep.front 2 rfl (Sep.front 1 rfl (Sep.front 2 rfl hs))))⟩
noncomputable def fn_sig_reader_types_p0_si_l1 (qa0 : List UInt8) (i270 : Int) : ((List (List (Int × Bool))) × Int × Int × Int) → Option (((List (List (Int × Bool))) × Int × Int × Int) ⊕ ((List (List (Int × Bool))) × Int × Int)) := fun ((l446, i451, i452, i453) : ((List (List (Int × Bool))) × Int × Int × Int)) => cond ((decide (i452 < i270)) && (decide (i451 = 0))) ((fn_sig_reader_typ_p0_si qa0 i453).bind fun (l504, i505, i506) => (app l446 (([l504] : List (List (Int × Bool))))).bind fun z520 => some (.inl ((z520, i505, IntKind.wrap .i64 (i452 + 1), i506)))) (some (.inr (((l446, i451, i453)))))
noncomputable def fn_sig_reader_types_p0_si (qa0 : List UInt8) (qa1 : Int) : Option (((List (List (Int × Bool))) × Int × Int)) :=
  (fn_sig_reader_many_p0i_si 16 qa0 qa1).bind fun (i270, i271, i272) => (loop (fn_sig_reader_types_p0_si_l1 qa0 i270) ([], i271, 0, i272) : Option (((List (List (Int × Bool))) × Int × Int))).bind fun (l397, i402, i403) => some ((l397, i402, i403))
set_option maxRecDepth 100000 in
set_option maxHeartbeats 4000000 in
theorem sig_reader_types_p0_si_ok {K : Hp} {qa0 : List UInt8} {qa1 : Int} {pba : Nat}  {r : ((List (List (Int × Bool))) × Int × Int)} (h : fn_sig_reader_types_p0_si qa0 qa1 = some r) :
    Tr Try.prog 46 #[.pointer (some ⟨pba, 0, none⟩)] K [Cl pba 74 [.string ⟨qa0.toArray⟩, .int .i64 qa1]] (fun v K' L' => (∃ (l261 : (List (List (Int × Bool)))) (i266 : Int) (i267 : Int) (ad262 : Option Addr) (cp263 : Nat), (l261, i266, i267) = r ∧ .tuple #[.slice ad262 l261.length cp263, .int .i64 i266] = v ∧ L' = [Cl pba 74 [.string ⟨qa0.toArray⟩, .int .i64 i267], Row K' 26 (.one (.sl (.cons (.int .i64) (.one .bool)))) (.slice ad262 l261.length cp263) l261])) := by
  refine Tr.of Try.func46 rfl Try.ntmps46 rfl (fun E F => ?_)
  unfold fn_sig_reader_types_p0_si at h
  refine CJ.seq ?_
  refine CJ.region ?_
  refine J.val (v := .slice none 0 0) rfl rfl (V.as rfl) ?_
  refine J.val (v := .int .i64 0) rfl rfl (V.as rfl) ?_
  refine J.nil ?_
  refine CJ.seq ?_
  refine CJ.region ?_
  refine J.val (v := .slice none 0 0) rfl rfl (V.as rfl) ?_
  refine J.nil ?_
  refine CJ.seq ?_
  refine CJ.region ?_
  refine J.val rfl rfl (V.mv rfl) ?_
  obtain ⟨r268, hr269, h⟩ := ob h
  refine J.op rfl (A.call (L1 := [Cl pba 74 [.string ⟨qa0.toArray⟩, .int .i64 qa1]]) Try.call60 rfl (sig_reader_many_p0i_si_ok hr269) rfl rfl) ?_
  rintro _ _ _ ⟨v273, _, rfl, ⟨⟨i270, i271, i272, rfl, rfl, rfl⟩, rfl⟩, _, rfl⟩
  refine J.val (v := .tuple #[.int .i64 i270, .int .i64 i271]) rfl rfl (V.mv rfl) ?_
  refine J.val (v := .int .i64 i270) rfl rfl (V.ext rfl rfl) ?_
  refine J.val (v := .int .i64 i271) rfl rfl (V.ext rfl rfl) ?_
  refine J.val (v := .int .i64 i270) rfl rfl (V.as rfl) ?_
  refine J.val (v := .int .i64 i271) rfl rfl (V.as rfl) ?_
  refine J.nil ?_
  refine CJ.seq ?_
  refine CJ.seq ?_
  refine CJ.region ?_
  refine J.val (v := .int .i64 0) rfl rfl (V.as rfl) ?_
  refine J.nil ?_
  obtain ⟨o404, ho405, h⟩ := ob h
  refine CJ.meetN (fun ρ K' L' => ∃ (l397 : (List (List (Int × Bool)))) (i402 : Int) (i403 : Int) (ad398 : Option Addr) (cp399 : Nat), (l397, i402, i403) = o404 ∧ Fits [(4, .slice ad398 l397.length cp399), (6, .int .i64 i402)] ρ ∧ Hp.le K K' ∧ L' = Cl pba 74 [.string ⟨qa0.toArray⟩, .int .i64 i403] :: Row K' 26 (.one (.sl (.cons (.int .i64) (.one .bool)))) (.slice ad398 l397.length cp399) l397 :: F) ?_ ?_
  · skip
    refine CJ.block ?_
    refine CJ.by (fun w hs => Sep.rowNil (e := 26) (t := (.one (.sl (.cons (.int .i64) (.one .bool))))) hs) ?_
    refine CJ.by (fun w hs => hs.mono (Row.mono (Hp.nil_le K))) ?_
    refine CJ.front 1 rfl ?_
    refine CJ.loop (fun s ρ K' L' => ∃ (l446 : (List (List (Int × Bool)))) (i451 : Int) (i452 : Int) (i453 : Int) (ad447 : Option Addr) (cp448 : Nat), (l446, i451, i452, i453) = s ∧ Fits [(0, .pointer (some ⟨pba, 0, none⟩)), (4, .slice ad447 l446.length cp448), (5, .int .i64 i270), (6, .int .i64 i451), (7, .int .i64 i452)] ρ ∧ Hp.le K K' ∧ L' = Cl pba 74 [.string ⟨qa0.toArray⟩, .int .i64 i453] :: Row K' 26 (.one (.sl (.cons (.int .i64) (.one .bool)))) (.slice ad447 l446.length cp448) l446 :: F) ho405 ⟨[], i271, 0, i272, none, 0, rfl, ⟨rfl, rfl, rfl, rfl, rfl, trivial⟩, (Hp.le_refl _), rfl⟩ ?_
    rintro s ρ K445 _ r496 ⟨l446, i451, i452, i453, ad447, cp448, rfl, hf494, hk495, rfl⟩ h492
    obtain ⟨ρ, rfl⟩ := hf494.ex
    refine CJ.front 1 rfl ?_
    refine CJ.wit Row.hn (fun hn450 => ?_)
    refine CJ.seq ?_
    refine CJ.seq ?_
    refine CJ.region ?_
    refine J.val (v := .int .i64 i452) rfl rfl (V.mv rfl) ?_
    refine J.val (v := .int .i64 i270) rfl rfl (V.mv rfl) ?_
    refine J.val (v := .bool (decide (i452 < i270))) rfl rfl (V.lss rfl rfl) ?_
    refine J.val (v := .bool (decide (i452 < i270))) rfl rfl (V.mv rfl) ?_
    refine J.cut 3 ?_
    refine @J.meet _ _ _ _ _ _ _ _ _ _ (fun ρ K' L' => Fits [(20, .bool ((decide (i452 < i270)) && (decide (i451 = 0)))), (0, .pointer (some ⟨pba, 0, none⟩)), (4, .slice ad447 l446.length cp448), (5, .int .i64 i270), (6, .int .i64 i451), (7, .int .i64 i452)] ρ ∧ K445 = K' ∧ L' = Row K445 26 (.one (.sl (.cons (.int .i64) (.one .bool)))) (.slice ad447 l446.length cp448) l446 :: Cl pba 74 [.string ⟨qa0.toArray⟩, .int .i64 i453] :: F) ?_ ?_
    · skip
      rcases bt (decide (i452 < i270)) with hc499 | hc499
      · skip
        refine J.run rfl rfl rfl hc499 ?_
        refine J.val (v := .int .i64 i451) rfl rfl (V.mv rfl) ?_
        refine J.run rfl rfl rfl hc499 ?_
        refine J.val (v := .bool (decide (i451 = 0))) rfl rfl (V.eql rfl rfl) ?_
        refine J.val (v := .bool (decide (i451 = 0))) rfl rfl (V.pickT rfl hc499 rfl) ?_
        refine J.nil ?_
        exact ⟨rfl, ⟨(by simp only [hc499]; rfl), rfl, rfl, rfl, rfl, rfl, trivial⟩, rfl, rfl⟩
      · skip
        refine J.skip rfl rfl rfl rfl hc499 ?_
        refine J.skip rfl rfl rfl rfl hc499 ?_
        refine J.val (v := .bool false) rfl rfl (V.pickF rfl hc499 rfl) ?_
        refine J.nil ?_
        exact ⟨rfl, ⟨(by simp only [hc499]; rfl), rfl, rfl, rfl, rfl, rfl, trivial⟩, rfl, rfl⟩
    · rintro ρ _ _ ⟨hf, rfl, rfl⟩
      obtain ⟨ρ, rfl⟩ := hf.ex
      refine J.nil ?_
      refine CJ.cond rfl (fun hc500 => ?_) (fun hc500 => ?_)
      · have h492 := ct hc500 h492
        refine CJ.skip ?_
        refine CJ.seq ?_
        refine CJ.block ?_
        refine CJ.seq ?_
        refine CJ.region ?_
        refine J.op rfl (A.alloc (cs := [.slice none 0 0]) inf26 rfl) ?_
        rintro _ _ _ ⟨b501, rfl, rfl, rfl⟩
        refine J.nil ?_
        refine CJ.seq ?_
        refine CJ.region ?_
        refine J.val rfl rfl (V.mv rfl) ?_
        obtain ⟨r502, hr503, h492⟩ := ob h492
        refine J.front 2 rfl ?_
        refine J.op rfl (A.call (L1 := [Cl pba 74 [.string ⟨qa0.toArray⟩, .int .i64 i453]]) Try.call39 rfl (sig_reader_typ_p0_si_ok hr503) rfl rfl) ?_
        rintro _ _ _ ⟨v510, _, rfl, ⟨⟨l504, i505, i506, ad507, cp508, rfl, rfl, rfl⟩, rfl⟩, _, rfl⟩
        refine J.front 1 rfl ?_
        refine J.wit Row.hn (fun hn509 => ?_)
        refine J.val (v := .tuple #[.agg #[.slice ad507 l504.length cp508], .int .i64 i505]) rfl rfl (V.mv rfl) ?_
        refine J.val (v := .agg #[.slice ad507 l504.length cp508]) rfl rfl (V.ext rfl rfl) ?_
        refine J.val (v := .int .i64 i505) rfl rfl (V.ext rfl rfl) ?_
        refine J.front 2 rfl ?_
        refine J.op rfl (A.store (v := .agg #[.slice ad507 l504.length cp508]) (cs' := [.slice ad507 l504.length cp508]) sz26 rfl rfl rfl rfl rfl rfl) ?_
        rintro _ _ _ ⟨rfl, rfl, rfl⟩
        refine J.val (v := .int .i64 i505) rfl rfl (V.as rfl) ?_
        refine J.nil ?_
        refine CJ.region ?_
        refine J.val (v := .slice ad447 l446.length cp448) rfl rfl (V.mv rfl) ?_
        refine J.val (v := .agg #[.slice ad507 l504.length cp508]) rfl rfl (V.ld rfl (Ld.agg (cs := [.slice ad507 l504.length cp508]) Try.underlying26 sz26 rfl (Rd.cls 0 0 rfl rfl))) ?_
        refine J.front 1 rfl ?_
        refine J.persist (Hp.nil_le _) (by decide) (fun K514 hK515 f516 => ?_)
        refine J.op rfl (A.lit (K0 := K514) (ty := (.one (.sl (.cons (.int .i64) (.one .bool))))) (xs := ([l504] : List (List (Int × Bool)))) Try.underlying23 inf26 rfl (by decide) rfl rfl rfl ⟨_, _, rfl, f516, rfl⟩ rfl (by decide)) ?_
        rintro _ _ _ ⟨b517, rfl, rfl, rfl⟩
        have hn518 : ([l504] : List (List (Int × Bool))) ≠ [] → ∃ g, (some ⟨b517, 0, none⟩ : Option Addr) = some ⟨g, 0, none⟩ := fun _ => ⟨b517, rfl⟩
        obtain ⟨z520, hz521, h492⟩ := ob h492
        refine J.front 3 rfl ?_
        refine J.op rfl (A.appR (Kr := K514) Try.underlying23 inf26 rfl rfl (by decide) (by decide) rfl rfl (Els.mono hK515) (Els.mono (Hp.le_refl _)) hz521) ?_
        rintro _ _ _ ⟨v522, rfl, rfl, rfl⟩
        refine J.wit Row.form ?_
        rintro ⟨ad523, cp524, rfl, _, _, hn525⟩
        refine J.val (v := .slice ad523 z520.length cp524) rfl rfl (V.as rfl) ?_
        refine J.nil ?_
        refine CJ.region ?_
        refine J.val (v := .int .i64 i452) rfl rfl (V.mv rfl) ?_
        refine J.val (v := .int .i64 (IntKind.wrap .i64 (i452 + 1))) rfl rfl (V.add rfl rfl) ?_
        refine J.val (v := .int .i64 (IntKind.wrap .i64 (i452 + 1))) rfl rfl (V.as rfl) ?_
        refine J.dropAt 1 rfl ?_
        refine J.front 1 rfl ?_
        refine J.nil ?_
        have e := Option.some.inj h492
        subst e
        exact ⟨rfl, ⟨z520, i505, IntKind.wrap .i64 (i452 + 1), i506, ad523, cp524, rfl, ⟨rfl, rfl, rfl, rfl, rfl, trivial⟩, (hk495.trans hK515), rfl⟩⟩
      · have h492 := cf hc500 h492
        refine CJ.front 1 rfl ?_
        refine CJ.exit ?_
        have e := Option.some.inj h492
        subst e
        refine ⟨nofun, fun e => ?_⟩
        subst e
        exact ⟨rfl, ⟨l446, i451, i453, ad447, cp448, rfl, ⟨rfl, rfl, trivial⟩, hk495, rfl⟩⟩
  · rintro ρ K396 _ ⟨l397, i402, i403, ad398, cp399, rfl, hf526, hk527, rfl⟩
    obtain ⟨ρ, rfl⟩ := hf526.ex
    refine PJ.front 1 rfl ?_
    refine PJ.wit Row.hn (fun hn401 => ?_)
    refine PJ.done ?_
    refine CJ.seq ?_
    refine CJ.region ?_
    refine J.val (v := .slice ad398 l397.length cp399) rfl rfl (V.mv rfl) ?_
    refine J.val (v := .int .i64 i402) rfl rfl (V.mv rfl) ?_
    refine J.val (v := .slice ad398 l397.length cp399) rfl rfl (V.as rfl) ?_
    refine J.val (v := .int .i64 i402) rfl rfl (V.as rfl) ?_
    refine J.nil ?_
    refine CJ.ret ?_
    have e := Option.some.inj h
    subst e
    exact ⟨_, [Cl pba 74 [.string ⟨qa0.toArray⟩, .int .i64 i403], Row K396 26 (.one (.sl (.cons (.int .i64) (.one .bool)))) (.slice ad398 l397.length cp399) l397], Res.two rfl rfl rfl, ⟨l397, i402, i403, ad398, cp399, rfl, rfl, rfl⟩, hk527, fun w hs => (Sep.front 1 rfl hs)⟩

noncomputable def fn_sig_Take_3_p0p1p2_si_irnn_i (qa0 : List UInt8) (qa1 : Int) (qb0 : Int) (qb1 : (List (Int × Int))) (qc0 : Int) : Option ((Int × Int × (List (Int × Int)) × (List (List (Int × Bool))) × Int)) :=
  (fn_sig_reader_types_p0_si qa0 qa1).bind fun (l28, i29, i30) => some ((i30, qb0, qb1, l28, i29))
set_option maxRecDepth 100000 in
set_option maxHeartbeats 4000000 in
theorem sig_Take_3_p0p1p2_si_irnn_i_ok {K : Hp} {qa0 : List UInt8} {qa1 : Int} {qb0 : Int} {qb1 : (List (Int × Int))} {qc0 : Int} {pba : Nat} {pbb : Nat} {pbc : Nat} {adqb1 : Option Addr} {cpqb1 : Nat}  {r : (Int × Int × (List (Int × Int)) × (List (List (Int × Bool))) × Int)} (h : fn_sig_Take_3_p0p1p2_si_irnn_i qa0 qa1 qb0 qb1 qc0 = some r) :
    Tr Try.prog 45 #[.pointer (some ⟨pba, 0, none⟩), .pointer (some ⟨pbb, 0, none⟩), .pointer (some ⟨pbc, 0, none⟩)] K [Cl pba 74 [.string ⟨qa0.toArray⟩, .int .i64 qa1], Cl pbb 28 [.int .i64 qb0, .slice adqb1 qb1.length cpqb1, .slice none 0 0, .slice none 0 0], Cl pbc 35 [.int .i64 qc0], Row Hp.nil 63 (.cons (.int .i64) (.one (.int .i64))) (.slice adqb1 qb1.length cpqb1) qb1] (fun v K' L' => (∃ (i13 : Int) (i14 : Int) (l15 : (List (Int × Int))) (l20 : (List (List (Int × Bool)))) (i25 : Int) (ad16 : Option Addr) (cp17 : Nat) (ad21 : Option Addr) (cp22 : Nat), (i13, i14, l15, l20, i25) = r ∧ .tuple #[] = v ∧ L' = [Cl pba 74 [.string ⟨qa0.toArray⟩, .int .i64 i13], Cl pbb 28 [.int .i64 i14, .slice ad16 l15.length cp17, .slice ad21 l20.length cp22, .slice none 0 0], Cl pbc 35 [.int .i64 i25], Row Hp.nil 63 (.cons (.int .i64) (.one (.int .i64))) (.slice ad16 l15.length cp17) l15, Row K' 26 (.one (.sl (.cons (.int .i64) (.one .bool)))) (.slice ad21 l20.length cp22) l20])) := by
  refine Tr.of Try.func45 rfl Try.ntmps45 rfl (fun E F => ?_)
  unfold fn_sig_Take_3_p0p1p2_si_irnn_i at h
  refine CJ.front 3 rfl ?_
  refine CJ.wit Row.hn (fun hnqb1 => ?_)
  refine CJ.region ?_
  obtain ⟨r26, hr27, h⟩ := ob h
  refine J.front 1 rfl ?_
  refine J.op rfl (A.call (L1 := [Cl pba 74 [.string ⟨qa0.toArray⟩, .int .i64 qa1]]) Try.call46 rfl (sig_reader_types_p0_si_ok hr27) rfl rfl) ?_
  rintro _ K35 _ ⟨v34, _, rfl, ⟨l28, i29, i30, ad31, cp32, rfl, rfl, rfl⟩, hK36, rfl⟩
  refine J.front 1 rfl ?_
  refine J.wit Row.hn (fun hn33 => ?_)
  refine J.val (v := .tuple #[.slice ad31 l28.length cp32, .int .i64 i29]) rfl rfl (V.mv rfl) ?_
  refine J.val (v := .slice ad31 l28.length cp32) rfl rfl (V.ext rfl rfl) ?_
  refine J.val (v := .int .i64 i29) rfl rfl (V.ext rfl rfl) ?_
  refine J.val rfl rfl (V.fad Try.underlying28 rfl nz23 rfl) ?_
  refine J.front 3 rfl ?_
  refine J.op rfl (A.store1 (v := .slice ad31 l28.length cp32) (cs' := [.int .i64 qb0, .slice adqb1 qb1.length cpqb1, .slice ad31 l28.length cp32, .slice none 0 0]) sz23 rfl rfl rfl rfl rfl rfl) ?_
  rintro _ _ _ ⟨rfl, rfl, rfl⟩
  refine J.front 4 rfl ?_
  refine J.op rfl (A.store1 (v := .int .i64 i29) (cs' := [.int .i64 i29]) sz35 rfl rfl rfl rfl rfl rfl) ?_
  rintro _ _ _ ⟨rfl, rfl, rfl⟩
  refine J.nil ?_
  have e := Option.some.inj h
  subst e
  exact ⟨_, [Cl pba 74 [.string ⟨qa0.toArray⟩, .int .i64 i30], Cl pbb 28 [.int .i64 qb0, .slice adqb1 qb1.length cpqb1, .slice ad31 l28.length cp32, .slice none 0 0], Cl pbc 35 [.int .i64 i29], Row Hp.nil 63 (.cons (.int .i64) (.one (.int .i64))) (.slice adqb1 qb1.length cpqb1) qb1, Row K35 26 (.one (.sl (.cons (.int .i64) (.one .bool)))) (.slice ad31 l28.length cp32) l28], Res.zero rfl, ⟨i30, qb0, qb1, l28, i29, adqb1, cpqb1, ad31, cp32, rfl, rfl, rfl⟩, hK36, fun w hs => (Sep.front 4 rfl (Sep.front 3 rfl (Sep.front 2 rfl (Sep.front 4 rfl (Sep.front 2 rfl hs)))))⟩

noncomputable def fn_sig_Take_4_p0p1p2_si_irrn_i (qa0 : List UInt8) (qa1 : Int) (qb0 : Int) (qb1 : (List (Int × Int))) (qb2 : (List (List (Int × Bool)))) (qc0 : Int) : Option ((Int × Int × (List (Int × Int)) × (List (List (Int × Bool))) × (List (Int × Bool)) × Int)) :=
  (fn_sig_reader_typ_p0_si qa0 qa1).bind fun (l33, i34, i35) => some ((i35, qb0, qb1, qb2, l33, i34))
set_option maxRecDepth 100000 in
set_option maxHeartbeats 4000000 in
theorem sig_Take_4_p0p1p2_si_irrn_i_ok {K : Hp} {qa0 : List UInt8} {qa1 : Int} {qb0 : Int} {qb1 : (List (Int × Int))} {qb2 : (List (List (Int × Bool)))} {qc0 : Int} {pba : Nat} {pbb : Nat} {pbc : Nat} {adqb1 : Option Addr} {cpqb1 : Nat} {adqb2 : Option Addr} {cpqb2 : Nat}  {r : (Int × Int × (List (Int × Int)) × (List (List (Int × Bool))) × (List (Int × Bool)) × Int)} (h : fn_sig_Take_4_p0p1p2_si_irrn_i qa0 qa1 qb0 qb1 qb2 qc0 = some r) :
    Tr Try.prog 47 #[.pointer (some ⟨pba, 0, none⟩), .pointer (some ⟨pbb, 0, none⟩), .pointer (some ⟨pbc, 0, none⟩)] K [Cl pba 74 [.string ⟨qa0.toArray⟩, .int .i64 qa1], Cl pbb 28 [.int .i64 qb0, .slice adqb1 qb1.length cpqb1, .slice adqb2 qb2.length cpqb2, .slice none 0 0], Cl pbc 35 [.int .i64 qc0], Row Hp.nil 63 (.cons (.int .i64) (.one (.int .i64))) (.slice adqb1 qb1.length cpqb1) qb1, Row K 26 (.one (.sl (.cons (.int .i64) (.one .bool)))) (.slice adqb2 qb2.length cpqb2) qb2] (fun v K' L' => (∃ (i13 : Int) (i14 : Int) (l15 : (List (Int × Int))) (l20 : (List (List (Int × Bool)))) (l25 : (List (Int × Bool))) (i30 : Int) (ad16 : Option Addr) (cp17 : Nat) (ad21 : Option Addr) (cp22 : Nat) (ad26 : Option Addr) (cp27 : Nat), (i13, i14, l15, l20, l25, i30) = r ∧ .tuple #[] = v ∧ L' = [Cl pba 74 [.string ⟨qa0.toArray⟩, .int .i64 i13], Cl pbb 28 [.int .i64 i14, .slice ad16 l15.length cp17, .slice ad21 l20.length cp22, .slice ad26 l25.length cp27], Cl pbc 35 [.int .i64 i30], Row Hp.nil 63 (.cons (.int .i64) (.one (.int .i64))) (.slice ad16 l15.length cp17) l15, Row K' 26 (.one (.sl (.cons (.int .i64) (.one .bool)))) (.slice ad21 l20.length cp22) l20, Row Hp.nil 60 (.cons (.int .i64) (.one .bool)) (.slice ad26 l25.length cp27) l25])) := by
  refine Tr.of Try.func47 rfl Try.ntmps47 rfl (fun E F => ?_)
  unfold fn_sig_Take_4_p0p1p2_si_irrn_i at h
  refine CJ.front 3 rfl ?_
  refine CJ.wit Row.hn (fun hnqb1 => ?_)
  refine CJ.front 4 rfl ?_
  refine CJ.wit Row.hn (fun hnqb2 => ?_)
  refine CJ.region ?_
  obtain ⟨r31, hr32, h⟩ := ob h
  refine J.front 2 rfl ?_
  refine J.op rfl (A.call (L1 := [Cl pba 74 [.string ⟨qa0.toArray⟩, .int .i64 qa1]]) Try.call39 rfl (sig_reader_typ_p0_si_ok hr32) rfl rfl) ?_
  rintro _ _ _ ⟨v39, _, rfl, ⟨⟨l33, i34, i35, ad36, cp37, rfl, rfl, rfl⟩, rfl⟩, _, rfl⟩
  refine J.front 1 rfl ?_
  refine J.wit Row.hn (fun hn38 => ?_)
  refine J.val (v := .tuple #[.agg #[.slice ad36 l33.length cp37], .int .i64 i34]) rfl rfl (V.mv rfl) ?_
  refine J.val (v := .agg #[.slice ad36 l33.length cp37]) rfl rfl (V.ext rfl rfl) ?_
  refine J.val (v := .int .i64 i34) rfl rfl (V.ext rfl rfl) ?_
  refine J.val rfl rfl (V.fad Try.underlying28 rfl nz26 rfl) ?_
  refine J.front 4 rfl ?_
  refine J.op rfl (A.store (v := .agg #[.slice ad36 l33.length cp37]) (cs' := [.int .i64 qb0, .slice adqb1 qb1.length cpqb1, .slice adqb2 qb2.length cpqb2, .slice ad36 l33.length cp37]) sz26 rfl rfl rfl rfl rfl rfl) ?_
  rintro _ _ _ ⟨rfl, rfl, rfl⟩
  refine J.front 5 rfl ?_
  refine J.op rfl (A.store1 (v := .int .i64 i34) (cs' := [.int .i64 i34]) sz35 rfl rfl rfl rfl rfl rfl) ?_
  rintro _ _ _ ⟨rfl, rfl, rfl⟩
  refine J.nil ?_
  have e := Option.some.inj h
  subst e
  exact ⟨_, [Cl pba 74 [.string ⟨qa0.toArray⟩, .int .i64 i35], Cl pbb 28 [.int .i64 qb0, .slice adqb1 qb1.length cpqb1, .slice adqb2 qb2.length cpqb2, .slice ad36 l33.length cp37], Cl pbc 35 [.int .i64 i34], Row Hp.nil 63 (.cons (.int .i64) (.one (.int .i64))) (.slice adqb1 qb1.length cpqb1) qb1, Row K 26 (.one (.sl (.cons (.int .i64) (.one .bool)))) (.slice adqb2 qb2.length cpqb2) qb2, Row Hp.nil 60 (.cons (.int .i64) (.one .bool)) (.slice ad36 l33.length cp37) l33], Res.zero rfl, ⟨i35, qb0, qb1, qb2, l33, i34, adqb1, cpqb1, adqb2, cpqb2, ad36, cp37, rfl, rfl, rfl⟩, (Hp.le_refl _), fun w hs => (Sep.front 5 rfl (Sep.front 4 rfl (Sep.front 3 rfl (Sep.front 5 rfl (Sep.front 4 rfl (Sep.front 2 rfl hs))))))⟩

noncomputable def fn_sig_Take (xa : (List UInt8)) : Option ((Int × (List (Int × Int)) × (List (List (Int × Bool))) × (List (Int × Bool)) × Int × Int)) :=
  (fn_sig_Take_1_p0p1p2_si_innn_i xa 0 0 0).bind fun (i102, i103, i104) => cond (!decide (i104 = 0)) (some ((0, [], [], [], 0, i104))) ((fn_sig_Take_2_p0p1p2_si_innn_i xa i102 i103 i104).bind fun (i114, i115, l116, i117) => cond (!decide (i117 = 0)) (some ((0, [], [], [], 0, i117))) ((fn_sig_Take_3_p0p1p2_si_irnn_i xa i114 i115 l116 i117).bind fun (i131, i132, l133, l134, i135) => cond (!decide (i135 = 0)) (some ((0, [], [], [], 0, i135))) ((fn_sig_Take_4_p0p1p2_si_irrn_i xa i131 i132 l133 l134 i135).bind fun (i154, i155, l156, l157, l158, i159) => cond (!decide (i159 = 0)) (some ((0, [], [], [], 0, i159))) (some ((i155, l156, l157, l158, i154, 0))))))
set_option maxRecDepth 100000 in
set_option maxHeartbeats 4000000 in
theorem sig_Take_ok {K : Hp} {xa : (List UInt8)}   {r : (Int × (List (Int × Int)) × (List (List (Int × Bool))) × (List (Int × Bool)) × Int × Int)} (h : fn_sig_Take xa = some r) :
    Tr Try.prog 20 #[.string ⟨xa.toArray⟩] K [] (fun v K' L' => (∃ (i77 : Int) (l78 : (List (Int × Int))) (l83 : (List (List (Int × Bool)))) (l88 : (List (Int × Bool))) (i93 : Int) (i94 : Int) (ad79 : Option Addr) (cp80 : Nat) (ad84 : Option Addr) (cp85 : Nat) (ad89 : Option Addr) (cp90 : Nat), (i77, l78, l83, l88, i93, i94) = r ∧ .tuple #[.agg #[.int .i64 i77, .slice ad79 l78.length cp80, .slice ad84 l83.length cp85, .slice ad89 l88.length cp90], .int .i64 i93, .int .i64 i94] = v ∧ L' = [Row Hp.nil 63 (.cons (.int .i64) (.one (.int .i64))) (.slice ad79 l78.length cp80) l78, Row K' 26 (.one (.sl (.cons (.int .i64) (.one .bool)))) (.slice ad84 l83.length cp85) l83, Row Hp.nil 60 (.cons (.int .i64) (.one .bool)) (.slice ad89 l88.length cp90) l88])) := by
  refine Tr.of Try.func20 rfl Try.ntmps20 rfl (fun E F => ?_)
  unfold fn_sig_Take at h
  refine CJ.seq ?_
  refine CJ.region ?_
  refine J.op rfl (A.alloc (cs := [.int .i64 0, .slice none 0 0, .slice none 0 0, .slice none 0 0]) inf28 rfl) ?_
  rintro _ _ _ ⟨b95, rfl, rfl, rfl⟩
  refine J.val (v := .int .i64 0) rfl rfl (V.as rfl) ?_
  refine J.val (v := .int .i64 0) rfl rfl (V.as rfl) ?_
  refine J.nil ?_
  refine CJ.seq ?_
  refine CJ.region ?_
  refine J.val (v := .string ⟨xa.toArray⟩) rfl rfl (V.mv rfl) ?_
  refine J.val (v := .agg #[.string ⟨xa.toArray⟩, .int .i64 0]) rfl rfl (V.build inf74 places74 rfl rfl) ?_
  refine J.op rfl (A.alloc (cs := [.string ⟨([] : List UInt8).toArray⟩, .int .i64 0]) inf74 rfl) ?_
  rintro _ _ _ ⟨b96, rfl, rfl, rfl⟩
  refine J.op rfl (A.store (v := .agg #[.string ⟨xa.toArray⟩, .int .i64 0]) (cs' := [.string ⟨xa.toArray⟩, .int .i64 0]) sz74 rfl rfl rfl rfl rfl rfl) ?_
  rintro _ _ _ ⟨rfl, rfl, rfl⟩
  refine J.nil ?_
  refine CJ.seq ?_
  refine CJ.region ?_
  refine J.op rfl (A.alloc (cs := [.int .i64 0, .slice none 0 0, .slice none 0 0, .slice none 0 0]) inf28 rfl) ?_
  rintro _ _ _ ⟨b97, rfl, rfl, rfl⟩
  refine J.nil ?_
  refine CJ.seq ?_
  refine CJ.region ?_
  refine J.op rfl (A.alloc (cs := [.int .i64 0]) inf35 rfl) ?_
  rintro _ _ _ ⟨b98, rfl, rfl, rfl⟩
  refine J.nil ?_
  refine CJ.seq ?_
  refine CJ.region ?_
  refine J.val (v := .func (.func 42) #[] #[.pointer (some ⟨b96, 0, none⟩), .pointer (some ⟨b97, 0, none⟩), .pointer (some ⟨b98, 0, none⟩)]) rfl rfl (V.mkf rfl) ?_
  refine J.val (v := .func (.func 44) #[] #[.pointer (some ⟨b96, 0, none⟩), .pointer (some ⟨b97, 0, none⟩), .pointer (some ⟨b98, 0, none⟩)]) rfl rfl (V.mkf rfl) ?_
  refine J.val (v := .func (.func 45) #[] #[.pointer (some ⟨b96, 0, none⟩), .pointer (some ⟨b97, 0, none⟩), .pointer (some ⟨b98, 0, none⟩)]) rfl rfl (V.mkf rfl) ?_
  refine J.val (v := .func (.func 47) #[] #[.pointer (some ⟨b96, 0, none⟩), .pointer (some ⟨b97, 0, none⟩), .pointer (some ⟨b98, 0, none⟩)]) rfl rfl (V.mkf rfl) ?_
  refine J.op rfl (A.litC (cs := [.func (.func 42) #[] #[.pointer (some ⟨b96, 0, none⟩), .pointer (some ⟨b97, 0, none⟩), .pointer (some ⟨b98, 0, none⟩)], .func (.func 44) #[] #[.pointer (some ⟨b96, 0, none⟩), .pointer (some ⟨b97, 0, none⟩), .pointer (some ⟨b98, 0, none⟩)], .func (.func 45) #[] #[.pointer (some ⟨b96, 0, none⟩), .pointer (some ⟨b97, 0, none⟩), .pointer (some ⟨b98, 0, none⟩)], .func (.func 47) #[] #[.pointer (some ⟨b96, 0, none⟩), .pointer (some ⟨b97, 0, none⟩), .pointer (some ⟨b98, 0, none⟩)]]) Try.underlying84 inf1 (by decide) rfl rfl (by decide)) ?_
  rintro _ _ _ ⟨b99, rfl, rfl, rfl⟩
  refine J.val (v := .slice (some ⟨b99, 0, none⟩) 4 4) rfl rfl (V.as rfl) ?_
  refine J.nil ?_
  refine CJ.seq ?_
  refine CJ.seq ?_
  refine CJ.region ?_
  refine J.val (v := .slice (some ⟨b99, 0, none⟩) 4 4) rfl rfl (V.mv rfl) ?_
  refine J.val (v := .int .i64 4) rfl rfl (Val.eq (V.len Try.underlying84 rfl) rfl) ?_
  refine J.val (v := .int .i64 0) rfl rfl (V.mv rfl) ?_
  refine J.nil ?_
  refine CJ.block ?_
  refine CJ.unroll 64 ?_
  refine RJ.next ?_
  refine CJ.seq ?_
  refine CJ.region ?_
  refine J.val (v := .bool true) rfl rfl (Val.eq (V.lss rfl rfl) rfl) ?_
  refine J.nil ?_
  refine CJ.seq ?_
  refine CJ.condK (b := true) rfl rfl ?_
  refine CJ.skip ?_
  refine CJ.seq ?_
  refine CJ.block ?_
  refine CJ.seq ?_
  refine CJ.region ?_
  refine J.val rfl rfl (Val.eq (V.iad Try.underlying84 sz1 rfl rfl rfl (by decide) (by decide)) rfl) ?_
  refine J.val (v := .func (.func 42) #[] #[.pointer (some ⟨b96, 0, none⟩), .pointer (some ⟨b97, 0, none⟩), .pointer (some ⟨b98, 0, none⟩)]) rfl rfl (V.ld rfl (Ld.sc sc1 (Rd.cl 0 rfl rfl))) ?_
  refine J.val (v := .func (.func 42) #[] #[.pointer (some ⟨b96, 0, none⟩), .pointer (some ⟨b97, 0, none⟩), .pointer (some ⟨b98, 0, none⟩)]) rfl rfl (V.as rfl) ?_
  refine J.nil ?_
  refine CJ.seq ?_
  refine CJ.region ?_
  refine J.val (v := .func (.func 42) #[] #[.pointer (some ⟨b96, 0, none⟩), .pointer (some ⟨b97, 0, none⟩), .pointer (some ⟨b98, 0, none⟩)]) rfl rfl (V.mv rfl) ?_
  obtain ⟨r100, hr101, h⟩ := ob h
  refine J.front 1 rfl ?_
  refine J.front 2 rfl ?_
  refine J.front 3 rfl ?_
  refine J.op rfl (A.call (L1 := [Cl b96 74 [.string ⟨xa.toArray⟩, .int .i64 0], Cl b97 28 [.int .i64 0, .slice none 0 0, .slice none 0 0, .slice none 0 0], Cl b98 35 [.int .i64 0]]) Try.call42 rfl (sig_Take_1_p0p1p2_si_innn_i_ok hr101) rfl rfl) ?_
  rintro _ _ _ ⟨v105, _, rfl, ⟨⟨i102, i103, i104, rfl, rfl, rfl⟩, rfl⟩, _, rfl⟩
  refine J.nil ?_
  refine CJ.seq ?_
  refine CJ.region ?_
  refine J.val (v := .int .i64 i104) rfl rfl (V.ld rfl (Ld.sc sc35 (Rd.cl 2 rfl rfl))) ?_
  refine J.val (v := .bool (!decide (i104 = 0))) rfl rfl (V.neq rfl rfl) ?_
  refine J.nil ?_
  refine CJ.cond rfl (fun hc108 => ?_) (fun hc108 => ?_)
  · have h := ct hc108 h
    refine CJ.seq ?_
    refine CJ.mix [Cl b96 74 [.string ⟨xa.toArray⟩, .int .i64 i102], Cl b97 28 [.int .i64 i103, .slice none 0 0, .slice none 0 0, .slice none 0 0], Cl b98 35 [.int .i64 i104], Cl b99 1 [.func (.func 42) #[] #[.pointer (some ⟨b96, 0, none⟩), .pointer (some ⟨b97, 0, none⟩), .pointer (some ⟨b98, 0, none⟩)], .func (.func 44) #[] #[.pointer (some ⟨b96, 0, none⟩), .pointer (some ⟨b97, 0, none⟩), .pointer (some ⟨b98, 0, none⟩)], .func (.func 45) #[] #[.pointer (some ⟨b96, 0, none⟩), .pointer (some ⟨b97, 0, none⟩), .pointer (some ⟨b98, 0, none⟩)], .func (.func 47) #[] #[.pointer (some ⟨b96, 0, none⟩), .pointer (some ⟨b97, 0, none⟩), .pointer (some ⟨b98, 0, none⟩)]], Cl b95 28 [.int .i64 0, .slice none 0 0, .slice none 0 0, .slice none 0 0]] [([0, 1], 2)] [3, 4] [] mixO (by decide +kernel) ⟨0, rfl, 0, rfl, 0, rfl, 0, rfl, 0, rfl, trivial⟩ rfl rfl rfl ?_
    refine JM.cons ?_
    refine JQ.val (v := .agg #[.int .i64 0, .slice none 0 0, .slice none 0 0, .slice none 0 0]) rfl rfl (V.build inf28 places28 rfl rfl) ?_
    refine JQ.val (v := .int .i64 i104) rfl rfl (V.ld rfl (Ld.sc sc35 (Rd.cl 2 rfl rfl))) ?_
    refine JQ.nil ?_
    refine JA.front 4 rfl ?_
    refine JA.op rfl (A.store (v := .agg #[.int .i64 0, .slice none 0 0, .slice none 0 0, .slice none 0 0]) (cs' := [.int .i64 0, .slice none 0 0, .slice none 0 0, .slice none 0 0]) sz28 rfl rfl rfl rfl rfl rfl) ?_
    rintro _ _ _ ⟨rfl, rfl, rfl⟩
    refine ⟨fun w hs => Hold.sub (Hp.le_refl _) ⟨1, rfl, 1, rfl, 1, rfl, 1, rfl, 0, rfl, trivial⟩ hs, ?_⟩
    refine JM.nil ?_
    refine JQ.val (v := .int .i64 0) rfl rfl (V.as rfl) ?_
    refine JQ.val (v := .int .i64 i104) rfl rfl (V.as rfl) ?_
    refine JQ.nil ?_
    refine J.nil ?_
    refine CJ.by (fun w hs => Sep.rowNil (e := 63) (t := (.cons (.int .i64) (.one (.int .i64)))) hs) ?_
    refine CJ.by (fun w hs => Sep.rowNil (e := 26) (t := (.one (.sl (.cons (.int .i64) (.one .bool))))) hs) ?_
    refine CJ.by (fun w hs => Sep.rowNil (e := 60) (t := (.cons (.int .i64) (.one .bool))) hs) ?_
    refine CJ.ret ?_
    have e := Option.some.inj h
    subst e
    exact ⟨_, [Row Hp.nil 63 (.cons (.int .i64) (.one (.int .i64))) (.slice none ((([] : List (Int × Int))).length) 0) (([] : List (Int × Int))), Row Hp.nil 26 (.one (.sl (.cons (.int .i64) (.one .bool)))) (.slice none ((([] : List (List (Int × Bool)))).length) 0) (([] : List (List (Int × Bool)))), Row Hp.nil 60 (.cons (.int .i64) (.one .bool)) (.slice none ((([] : List (Int × Bool))).length) 0) (([] : List (Int × Bool)))], Res.three rfl ⟨_, _, rfl, Ld.agg (cs := [.int .i64 0, .slice none 0 0, .slice none 0 0, .slice none 0 0]) Try.underlying28 sz28 rfl (Rd.cls 3 0 rfl rfl)⟩ rfl rfl, ⟨0, [], [], [], 0, i104, none, 0, none, 0, none, 0, rfl, rfl, rfl⟩, (Hp.le_refl _), fun w hs => (Sep.front 2 rfl (Sep.front 1 rfl (Sep.dropAt 3 rfl (Sep.dropAt 3 rfl (Sep.dropAt 3 rfl (Sep.dropAt 3 rfl (Sep.dropAt 3 rfl hs)))))))⟩
  · have h := cf hc108 h
    refine CJ.skip ?_
    refine CJ.region ?_
    refine J.val (v := .int .i64 1) rfl rfl (Val.eq (V.add rfl rfl) rfl) ?_
    refine J.val (v := .int .i64 1) rfl rfl (V.mv rfl) ?_
    refine J.nil ?_
    refine RJ.next ?_
    refine CJ.seq ?_
    refine CJ.region ?_
    refine J.val (v := .bool true) rfl rfl (Val.eq (V.lss rfl rfl) rfl) ?_
    refine J.nil ?_
    refine CJ.seq ?_
    refine CJ.condK (b := true) rfl rfl ?_
    refine CJ.skip ?_
    refine CJ.seq ?_
    refine CJ.block ?_
    refine CJ.seq ?_
    refine CJ.region ?_
    refine J.val rfl rfl (Val.eq (V.iad Try.underlying84 sz1 rfl rfl rfl (by decide) (by decide)) rfl) ?_
    refine J.val (v := .func (.func 44) #[] #[.pointer (some ⟨b96, 0, none⟩), .pointer (some ⟨b97, 0, none⟩), .pointer (some ⟨b98, 0, none⟩)]) rfl rfl (V.ld rfl (Ld.sc sc1 (Rd.cl 3 rfl rfl))) ?_
    refine J.val (v := .func (.func 44) #[] #[.pointer (some ⟨b96, 0, none⟩), .pointer (some ⟨b97, 0, none⟩), .pointer (some ⟨b98, 0, none⟩)]) rfl rfl (V.as rfl) ?_
    refine J.nil ?_
    refine CJ.seq ?_
    refine CJ.region ?_
    refine J.val (v := .func (.func 44) #[] #[.pointer (some ⟨b96, 0, none⟩), .pointer (some ⟨b97, 0, none⟩), .pointer (some ⟨b98, 0, none⟩)]) rfl rfl (V.mv rfl) ?_
    obtain ⟨r112, hr113, h⟩ := ob h
    refine J.op rfl (A.call (L1 := [Cl b96 74 [.string ⟨xa.toArray⟩, .int .i64 i102], Cl b97 28 [.int .i64 i103, .slice none 0 0, .slice none 0 0, .slice none 0 0], Cl b98 35 [.int .i64 i104]]) Try.call44 rfl (sig_Take_2_p0p1p2_si_innn_i_ok hr113) rfl rfl) ?_
    rintro _ _ _ ⟨v121, _, rfl, ⟨⟨i114, i115, l116, i117, ad118, cp119, rfl, rfl, rfl⟩, rfl⟩, _, rfl⟩
    refine J.front 3 rfl ?_
    refine J.wit Row.hn (fun hn120 => ?_)
    refine J.nil ?_
    refine CJ.seq ?_
    refine CJ.region ?_
    refine J.val (v := .int .i64 i117) rfl rfl (V.ld rfl (Ld.sc sc35 (Rd.cl 3 rfl rfl))) ?_
    refine J.val (v := .bool (!decide (i117 = 0))) rfl rfl (V.neq rfl rfl) ?_
    refine J.nil ?_
    refine CJ.cond rfl (fun hc125 => ?_) (fun hc125 => ?_)
    · have h := ct hc125 h
      refine CJ.seq ?_
      refine CJ.mix [Row Hp.nil 63 (.cons (.int .i64) (.one (.int .i64))) (.slice ad118 l116.length cp119) l116, Cl b96 74 [.string ⟨xa.toArray⟩, .int .i64 i114], Cl b97 28 [.int .i64 i115, .slice ad118 l116.length cp119, .slice none 0 0, .slice none 0 0], Cl b98 35 [.int .i64 i117], Cl b99 1 [.func (.func 42) #[] #[.pointer (some ⟨b96, 0, none⟩), .pointer (some ⟨b97, 0, none⟩), .pointer (some ⟨b98, 0, none⟩)], .func (.func 44) #[] #[.pointer (some ⟨b96, 0, none⟩), .pointer (some ⟨b97, 0, none⟩), .pointer (some ⟨b98, 0, none⟩)], .func (.func 45) #[] #[.pointer (some ⟨b96, 0, none⟩), .pointer (some ⟨b97, 0, none⟩), .pointer (some ⟨b98, 0, none⟩)], .func (.func 47) #[] #[.pointer (some ⟨b96, 0, none⟩), .pointer (some ⟨b97, 0, none⟩), .pointer (some ⟨b98, 0, none⟩)]], Cl b95 28 [.int .i64 0, .slice none 0 0, .slice none 0 0, .slice none 0 0]] [([0, 1], 2)] [3, 4] [] mixO (by decide +kernel) ⟨0, rfl, 0, rfl, 0, rfl, 0, rfl, 0, rfl, 0, rfl, trivial⟩ rfl rfl rfl ?_
      refine JM.cons ?_
      refine JQ.val (v := .agg #[.int .i64 0, .slice none 0 0, .slice none 0 0, .slice none 0 0]) rfl rfl (V.build inf28 places28 rfl rfl) ?_
      refine JQ.val (v := .int .i64 i117) rfl rfl (V.ld rfl (Ld.sc sc35 (Rd.cl 3 rfl rfl))) ?_
      refine JQ.nil ?_
      refine JA.front 5 rfl ?_
      refine JA.op rfl (A.store (v := .agg #[.int .i64 0, .slice none 0 0, .slice none 0 0, .slice none 0 0]) (cs' := [.int .i64 0, .slice none 0 0, .slice none 0 0, .slice none 0 0]) sz28 rfl rfl rfl rfl rfl rfl) ?_
      rintro _ _ _ ⟨rfl, rfl, rfl⟩
      refine ⟨fun w hs => Hold.sub (Hp.le_refl _) ⟨1, rfl, 1, rfl, 1, rfl, 1, rfl, 1, rfl, 0, rfl, trivial⟩ hs, ?_⟩
      refine JM.nil ?_
      refine JQ.val (v := .int .i64 0) rfl rfl (V.as rfl) ?_
      refine JQ.val (v := .int .i64 i117) rfl rfl (V.as rfl) ?_
      refine JQ.nil ?_
      refine J.nil ?_
      refine CJ.by (fun w hs => Sep.rowNil (e := 63) (t := (.cons (.int .i64) (.one (.int .i64)))) hs) ?_
      refine CJ.by (fun w hs => Sep.rowNil (e := 26) (t := (.one (.sl (.cons (.int .i64) (.one .bool))))) hs) ?_
      refine CJ.by (fun w hs => Sep.rowNil (e := 60) (t := (.cons (.int .i64) (.one .bool))) hs) ?_
      refine CJ.ret ?_
      have e := Option.some.inj h
      subst e
      exact ⟨_, [Row Hp.nil 63 (.cons (.int .i64) (.one (.int .i64))) (.slice none ((([] : List (Int × Int))).length) 0) (([] : List (Int × Int))), Row Hp.nil 26 (.one (.sl (.cons (.int .i64) (.one .bool)))) (.slice none ((([] : List (List (Int × Bool)))).length) 0) (([] : List (List (Int × Bool)))), Row Hp.nil 60 (.cons (.int .i64) (.one .bool)) (.slice none ((([] : List (Int × Bool))).length) 0) (([] : List (Int × Bool)))], Res.three rfl ⟨_, _, rfl, Ld.agg (cs := [.int .i64 0, .slice none 0 0, .slice none 0 0, .slice none 0 0]) Try.underlying28 sz28 rfl (Rd.cls 3 0 rfl rfl)⟩ rfl rfl, ⟨0, [], [], [], 0, i117, none, 0, none, 0, none, 0, rfl, rfl, rfl⟩, (Hp.le_refl _), fun w hs => (Sep.front 2 rfl (Sep.front 1 rfl (Sep.dropAt 3 rfl (Sep.dropAt 3 rfl (Sep.dropAt 3 rfl (Sep.dropAt 3 rfl (Sep.dropAt 3 rfl (Sep.dropAt 3 rfl hs))))))))⟩
    · have h := cf hc125 h
      refine CJ.skip ?_
      refine CJ.region ?_
      refine J.val (v := .int .i64 2) rfl rfl (Val.eq (V.add rfl rfl) rfl) ?_
      refine J.val (v := .int .i64 2) rfl rfl (V.mv rfl) ?_
      refine J.nil ?_
      refine RJ.next ?_
      refine CJ.seq ?_
      refine CJ.region ?_
      refine J.val (v := .bool true) rfl rfl (Val.eq (V.lss rfl rfl) rfl) ?_
      refine J.nil ?_
      refine CJ.seq ?_
      refine CJ.condK (b := true) rfl rfl ?_
      refine CJ.skip ?_
      refine CJ.seq ?_
      refine CJ.block ?_
      refine CJ.seq ?_
      refine CJ.region ?_
      refine J.val rfl rfl (Val.eq (V.iad Try.underlying84 sz1 rfl rfl rfl (by decide) (by decide)) rfl) ?_
      refine J.val (v := .func (.func 45) #[] #[.pointer (some ⟨b96, 0, none⟩), .pointer (some ⟨b97, 0, none⟩), .pointer (some ⟨b98, 0, none⟩)]) rfl rfl (V.ld rfl (Ld.sc sc1 (Rd.cl 4 rfl rfl))) ?_
      refine J.val (v := .func (.func 45) #[] #[.pointer (some ⟨b96, 0, none⟩), .pointer (some ⟨b97, 0, none⟩), .pointer (some ⟨b98, 0, none⟩)]) rfl rfl (V.as rfl) ?_
      refine J.nil ?_
      refine CJ.seq ?_
      refine CJ.region ?_
      refine J.val (v := .func (.func 45) #[] #[.pointer (some ⟨b96, 0, none⟩), .pointer (some ⟨b97, 0, none⟩), .pointer (some ⟨b98, 0, none⟩)]) rfl rfl (V.mv rfl) ?_
      obtain ⟨r129, hr130, h⟩ := ob h
      refine J.front 3 rfl ?_
      refine J.front 3 rfl ?_
      refine J.front 3 rfl ?_
      refine J.op rfl (A.call (L1 := [Cl b96 74 [.string ⟨xa.toArray⟩, .int .i64 i114], Cl b97 28 [.int .i64 i115, .slice ad118 l116.length cp119, .slice none 0 0, .slice none 0 0], Cl b98 35 [.int .i64 i117], Row Hp.nil 63 (.cons (.int .i64) (.one (.int .i64))) (.slice ad118 l116.length cp119) l116]) Try.call45 rfl (sig_Take_3_p0p1p2_si_irnn_i_ok hr130) rfl rfl) ?_
      rintro _ K143 _ ⟨v142, _, rfl, ⟨i131, i132, l133, l134, i135, ad136, cp137, ad138, cp139, rfl, rfl, rfl⟩, hK144, rfl⟩
      refine J.front 3 rfl ?_
      refine J.wit Row.hn (fun hn140 => ?_)
      refine J.front 4 rfl ?_
      refine J.wit Row.hn (fun hn141 => ?_)
      refine J.nil ?_
      refine CJ.seq ?_
      refine CJ.region ?_
      refine J.val (v := .int .i64 i135) rfl rfl (V.ld rfl (Ld.sc sc35 (Rd.cl 4 rfl rfl))) ?_
      refine J.val (v := .bool (!decide (i135 = 0))) rfl rfl (V.neq rfl rfl) ?_
      refine J.nil ?_
      refine CJ.cond rfl (fun hc148 => ?_) (fun hc148 => ?_)
      · have h := ct hc148 h
        refine CJ.seq ?_
        refine CJ.mix [Row K143 26 (.one (.sl (.cons (.int .i64) (.one .bool)))) (.slice ad138 l134.length cp139) l134, Row Hp.nil 63 (.cons (.int .i64) (.one (.int .i64))) (.slice ad136 l133.length cp137) l133, Cl b96 74 [.string ⟨xa.toArray⟩, .int .i64 i131], Cl b97 28 [.int .i64 i132, .slice ad136 l133.length cp137, .slice ad138 l134.length cp139, .slice none 0 0], Cl b98 35 [.int .i64 i135], Cl b99 1 [.func (.func 42) #[] #[.pointer (some ⟨b96, 0, none⟩), .pointer (some ⟨b97, 0, none⟩), .pointer (some ⟨b98, 0, none⟩)], .func (.func 44) #[] #[.pointer (some ⟨b96, 0, none⟩), .pointer (some ⟨b97, 0, none⟩), .pointer (some ⟨b98, 0, none⟩)], .func (.func 45) #[] #[.pointer (some ⟨b96, 0, none⟩), .pointer (some ⟨b97, 0, none⟩), .pointer (some ⟨b98, 0, none⟩)], .func (.func 47) #[] #[.pointer (some ⟨b96, 0, none⟩), .pointer (some ⟨b97, 0, none⟩), .pointer (some ⟨b98, 0, none⟩)]], Cl b95 28 [.int .i64 0, .slice none 0 0, .slice none 0 0, .slice none 0 0]] [([0, 1], 2)] [3, 4] [] mixO (by decide +kernel) ⟨0, rfl, 0, rfl, 0, rfl, 0, rfl, 0, rfl, 0, rfl, 0, rfl, trivial⟩ rfl rfl rfl ?_
        refine JM.cons ?_
        refine JQ.val (v := .agg #[.int .i64 0, .slice none 0 0, .slice none 0 0, .slice none 0 0]) rfl rfl (V.build inf28 places28 rfl rfl) ?_
        refine JQ.val (v := .int .i64 i135) rfl rfl (V.ld rfl (Ld.sc sc35 (Rd.cl 4 rfl rfl))) ?_
        refine JQ.nil ?_
        refine JA.front 6 rfl ?_
        refine JA.op rfl (A.store (v := .agg #[.int .i64 0, .slice none 0 0, .slice none 0 0, .slice none 0 0]) (cs' := [.int .i64 0, .slice none 0 0, .slice none 0 0, .slice none 0 0]) sz28 rfl rfl rfl rfl rfl rfl) ?_
        rintro _ _ _ ⟨rfl, rfl, rfl⟩
        refine ⟨fun w hs => Hold.sub (Hp.le_refl _) ⟨1, rfl, 1, rfl, 1, rfl, 1, rfl, 1, rfl, 1, rfl, 0, rfl, trivial⟩ hs, ?_⟩
        refine JM.nil ?_
        refine JQ.val (v := .int .i64 0) rfl rfl (V.as rfl) ?_
        refine JQ.val (v := .int .i64 i135) rfl rfl (V.as rfl) ?_
        refine JQ.nil ?_
        refine J.nil ?_
        refine CJ.by (fun w hs => Sep.rowNil (e := 63) (t := (.cons (.int .i64) (.one (.int .i64)))) hs) ?_
        refine CJ.by (fun w hs => Sep.rowNil (e := 26) (t := (.one (.sl (.cons (.int .i64) (.one .bool))))) hs) ?_
        refine CJ.by (fun w hs => Sep.rowNil (e := 60) (t := (.cons (.int .i64) (.one .bool))) hs) ?_
        refine CJ.ret ?_
        have e := Option.some.inj h
        subst e
        exact ⟨_, [Row Hp.nil 63 (.cons (.int .i64) (.one (.int .i64))) (.slice none ((([] : List (Int × Int))).length) 0) (([] : List (Int × Int))), Row Hp.nil 26 (.one (.sl (.cons (.int .i64) (.one .bool)))) (.slice none ((([] : List (List (Int × Bool)))).length) 0) (([] : List (List (Int × Bool)))), Row Hp.nil 60 (.cons (.int .i64) (.one .bool)) (.slice none ((([] : List (Int × Bool))).length) 0) (([] : List (Int × Bool)))], Res.three rfl ⟨_, _, rfl, Ld.agg (cs := [.int .i64 0, .slice none 0 0, .slice none 0 0, .slice none 0 0]) Try.underlying28 sz28 rfl (Rd.cls 3 0 rfl rfl)⟩ rfl rfl, ⟨0, [], [], [], 0, i135, none, 0, none, 0, none, 0, rfl, rfl, rfl⟩, hK144, fun w hs => (Sep.front 2 rfl (Sep.front 1 rfl (Sep.dropAt 3 rfl (Sep.dropAt 3 rfl (Sep.dropAt 3 rfl (Sep.dropAt 3 rfl (Sep.dropAt 3 rfl (Sep.dropAt 3 rfl (Sep.dropAt 3 rfl hs)))))))))⟩
      · have h := cf hc148 h
        refine CJ.skip ?_
        refine CJ.region ?_
        refine J.val (v := .int .i64 3) rfl rfl (Val.eq (V.add rfl rfl) rfl) ?_
        refine J.val (v := .int .i64 3) rfl rfl (V.mv rfl) ?_
        refine J.nil ?_
        refine RJ.next ?_
        refine CJ.seq ?_
        refine CJ.region ?_
        refine J.val (v := .bool true) rfl rfl (Val.eq (V.lss rfl rfl) rfl) ?_
        refine J.nil ?_
        refine CJ.seq ?_
        refine CJ.condK (b := true) rfl rfl ?_
        refine CJ.skip ?_
        refine CJ.seq ?_
        refine CJ.block ?_
        refine CJ.seq ?_
        refine CJ.region ?_
        refine J.val rfl rfl (Val.eq (V.iad Try.underlying84 sz1 rfl rfl rfl (by decide) (by decide)) rfl) ?_
        refine J.val (v := .func (.func 47) #[] #[.pointer (some ⟨b96, 0, none⟩), .pointer (some ⟨b97, 0, none⟩), .pointer (some ⟨b98, 0, none⟩)]) rfl rfl (V.ld rfl (Ld.sc sc1 (Rd.cl 5 rfl rfl))) ?_
        refine J.val (v := .func (.func 47) #[] #[.pointer (some ⟨b96, 0, none⟩), .pointer (some ⟨b97, 0, none⟩), .pointer (some ⟨b98, 0, none⟩)]) rfl rfl (V.as rfl) ?_
        refine J.nil ?_
        refine CJ.seq ?_
        refine CJ.region ?_
        refine J.val (v := .func (.func 47) #[] #[.pointer (some ⟨b96, 0, none⟩), .pointer (some ⟨b97, 0, none⟩), .pointer (some ⟨b98, 0, none⟩)]) rfl rfl (V.mv rfl) ?_
        obtain ⟨r152, hr153, h⟩ := ob h
        refine J.front 1 rfl ?_
        refine J.front 4 rfl ?_
        refine J.front 4 rfl ?_
        refine J.front 4 rfl ?_
        refine J.op rfl (A.call (L1 := [Cl b96 74 [.string ⟨xa.toArray⟩, .int .i64 i131], Cl b97 28 [.int .i64 i132, .slice ad136 l133.length cp137, .slice ad138 l134.length cp139, .slice none 0 0], Cl b98 35 [.int .i64 i135], Row Hp.nil 63 (.cons (.int .i64) (.one (.int .i64))) (.slice ad136 l133.length cp137) l133, Row K143 26 (.one (.sl (.cons (.int .i64) (.one .bool)))) (.slice ad138 l134.length cp139) l134]) Try.call47 rfl (sig_Take_4_p0p1p2_si_irrn_i_ok hr153) rfl rfl) ?_
        rintro _ K170 _ ⟨v169, _, rfl, ⟨i154, i155, l156, l157, l158, i159, ad160, cp161, ad162, cp163, ad164, cp165, rfl, rfl, rfl⟩, hK171, rfl⟩
        refine J.front 3 rfl ?_
        refine J.wit Row.hn (fun hn166 => ?_)
        refine J.front 4 rfl ?_
        refine J.wit Row.hn (fun hn167 => ?_)
        refine J.front 5 rfl ?_
        refine J.wit Row.hn (fun hn168 => ?_)
        refine J.nil ?_
        refine CJ.seq ?_
        refine CJ.region ?_
        refine J.val (v := .int .i64 i159) rfl rfl (V.ld rfl (Ld.sc sc35 (Rd.cl 5 rfl rfl))) ?_
        refine J.val (v := .bool (!decide (i159 = 0))) rfl rfl (V.neq rfl rfl) ?_
        refine J.nil ?_
        refine CJ.cond rfl (fun hc177 => ?_) (fun hc177 => ?_)
        · have h := ct hc177 h
          refine CJ.seq ?_
          refine CJ.mix [Row Hp.nil 60 (.cons (.int .i64) (.one .bool)) (.slice ad164 l158.length cp165) l158, Row K170 26 (.one (.sl (.cons (.int .i64) (.one .bool)))) (.slice ad162 l157.length cp163) l157, Row Hp.nil 63 (.cons (.int .i64) (.one (.int .i64))) (.slice ad160 l156.length cp161) l156, Cl b96 74 [.string ⟨xa.toArray⟩, .int .i64 i154], Cl b97 28 [.int .i64 i155, .slice ad160 l156.length cp161, .slice ad162 l157.length cp163, .slice ad164 l158.length cp165], Cl b98 35 [.int .i64 i159], Cl b99 1 [.func (.func 42) #[] #[.pointer (some ⟨b96, 0, none⟩), .pointer (some ⟨b97, 0, none⟩), .pointer (some ⟨b98, 0, none⟩)], .func (.func 44) #[] #[.pointer (some ⟨b96, 0, none⟩), .pointer (some ⟨b97, 0, none⟩), .pointer (some ⟨b98, 0, none⟩)], .func (.func 45) #[] #[.pointer (some ⟨b96, 0, none⟩), .pointer (some ⟨b97, 0, none⟩), .pointer (some ⟨b98, 0, none⟩)], .func (.func 47) #[] #[.pointer (some ⟨b96, 0, none⟩), .pointer (some ⟨b97, 0, none⟩), .pointer (some ⟨b98, 0, none⟩)]], Cl b95 28 [.int .i64 0, .slice none 0 0, .slice none 0 0, .slice none 0 0]] [([0, 1], 2)] [3, 4] [] mixO (by decide +kernel) ⟨0, rfl, 0, rfl, 0, rfl, 0, rfl, 0, rfl, 0, rfl, 0, rfl, 0, rfl, trivial⟩ rfl rfl rfl ?_
          refine JM.cons ?_
          refine JQ.val (v := .agg #[.int .i64 0, .slice none 0 0, .slice none 0 0, .slice none 0 0]) rfl rfl (V.build inf28 places28 rfl rfl) ?_
          refine JQ.val (v := .int .i64 i159) rfl rfl (V.ld rfl (Ld.sc sc35 (Rd.cl 5 rfl rfl))) ?_
          refine JQ.nil ?_
          refine JA.front 7 rfl ?_
          refine JA.op rfl (A.store (v := .agg #[.int .i64 0, .slice none 0 0, .slice none 0 0, .slice none 0 0]) (cs' := [.int .i64 0, .slice none 0 0, .slice none 0 0, .slice none 0 0]) sz28 rfl rfl rfl rfl rfl rfl) ?_
          rintro _ _ _ ⟨rfl, rfl, rfl⟩
          refine ⟨fun w hs => Hold.sub (Hp.le_refl _) ⟨1, rfl, 1, rfl, 1, rfl, 1, rfl, 1, rfl, 1, rfl, 1, rfl, 0, rfl, trivial⟩ hs, ?_⟩
          refine JM.nil ?_
          refine JQ.val (v := .int .i64 0) rfl rfl (V.as rfl) ?_
          refine JQ.val (v := .int .i64 i159) rfl rfl (V.as rfl) ?_
          refine JQ.nil ?_
          refine J.nil ?_
          refine CJ.by (fun w hs => Sep.rowNil (e := 63) (t := (.cons (.int .i64) (.one (.int .i64)))) hs) ?_
          refine CJ.by (fun w hs => Sep.rowNil (e := 26) (t := (.one (.sl (.cons (.int .i64) (.one .bool))))) hs) ?_
          refine CJ.by (fun w hs => Sep.rowNil (e := 60) (t := (.cons (.int .i64) (.one .bool))) hs) ?_
          refine CJ.ret ?_
          have e := Option.some.inj h
          subst e
          exact ⟨_, [Row Hp.nil 63 (.cons (.int .i64) (.one (.int .i64))) (.slice none ((([] : List (Int × Int))).length) 0) (([] : List (Int × Int))), Row Hp.nil 26 (.one (.sl (.cons (.int .i64) (.one .bool)))) (.slice none ((([] : List (List (Int × Bool)))).length) 0) (([] : List (List (Int × Bool)))), Row Hp.nil 60 (.cons (.int .i64) (.one .bool)) (.slice none ((([] : List (Int × Bool))).length) 0) (([] : List (Int × Bool)))], Res.three rfl ⟨_, _, rfl, Ld.agg (cs := [.int .i64 0, .slice none 0 0, .slice none 0 0, .slice none 0 0]) Try.underlying28 sz28 rfl (Rd.cls 3 0 rfl rfl)⟩ rfl rfl, ⟨0, [], [], [], 0, i159, none, 0, none, 0, none, 0, rfl, rfl, rfl⟩, (hK144.trans hK171), fun w hs => (Sep.front 2 rfl (Sep.front 1 rfl (Sep.dropAt 3 rfl (Sep.dropAt 3 rfl (Sep.dropAt 3 rfl (Sep.dropAt 3 rfl (Sep.dropAt 3 rfl (Sep.dropAt 3 rfl (Sep.dropAt 3 rfl (Sep.dropAt 3 rfl hs))))))))))⟩
        · have h := cf hc177 h
          refine CJ.skip ?_
          refine CJ.region ?_
          refine J.val (v := .int .i64 4) rfl rfl (Val.eq (V.add rfl rfl) rfl) ?_
          refine J.val (v := .int .i64 4) rfl rfl (V.mv rfl) ?_
          refine J.nil ?_
          refine RJ.next ?_
          refine CJ.seq ?_
          refine CJ.region ?_
          refine J.val (v := .bool false) rfl rfl (Val.eq (V.lss rfl rfl) rfl) ?_
          refine J.nil ?_
          refine CJ.seq ?_
          refine CJ.condK (b := false) rfl rfl ?_
          refine CJ.exit ?_
          refine CJ.seq ?_
          refine CJ.mix [Row Hp.nil 60 (.cons (.int .i64) (.one .bool)) (.slice ad164 l158.length cp165) l158, Row K170 26 (.one (.sl (.cons (.int .i64) (.one .bool)))) (.slice ad162 l157.length cp163) l157, Row Hp.nil 63 (.cons (.int .i64) (.one (.int .i64))) (.slice ad160 l156.length cp161) l156, Cl b96 74 [.string ⟨xa.toArray⟩, .int .i64 i154], Cl b97 28 [.int .i64 i155, .slice ad160 l156.length cp161, .slice ad162 l157.length cp163, .slice ad164 l158.length cp165], Cl b98 35 [.int .i64 i159], Cl b99 1 [.func (.func 42) #[] #[.pointer (some ⟨b96, 0, none⟩), .pointer (some ⟨b97, 0, none⟩), .pointer (some ⟨b98, 0, none⟩)], .func (.func 44) #[] #[.pointer (some ⟨b96, 0, none⟩), .pointer (some ⟨b97, 0, none⟩), .pointer (some ⟨b98, 0, none⟩)], .func (.func 45) #[] #[.pointer (some ⟨b96, 0, none⟩), .pointer (some ⟨b97, 0, none⟩), .pointer (some ⟨b98, 0, none⟩)], .func (.func 47) #[] #[.pointer (some ⟨b96, 0, none⟩), .pointer (some ⟨b97, 0, none⟩), .pointer (some ⟨b98, 0, none⟩)]]] [([0, 1, 2], 3)] [4, 5] [] mixO (by decide +kernel) ⟨0, rfl, 0, rfl, 0, rfl, 0, rfl, 0, rfl, 0, rfl, 0, rfl, trivial⟩ rfl rfl rfl ?_
          refine JM.cons ?_
          refine JQ.val (v := .agg #[.int .i64 i155, .slice ad160 l156.length cp161, .slice ad162 l157.length cp163, .slice ad164 l158.length cp165]) rfl rfl (V.ld rfl (Ld.agg (cs := [.int .i64 i155, .slice ad160 l156.length cp161, .slice ad162 l157.length cp163, .slice ad164 l158.length cp165]) Try.underlying28 sz28 rfl (Rd.cls 4 0 rfl rfl))) ?_
          refine JQ.val rfl rfl (V.fad Try.underlying74 rfl nz3 rfl) ?_
          refine JQ.val (v := .int .i64 i154) rfl rfl (V.ld rfl (Ld.sc sc3 (Rd.cl 3 rfl rfl))) ?_
          refine JQ.nil ?_
          refine JA.front 7 rfl ?_
          refine JA.op rfl (A.store (v := .agg #[.int .i64 i155, .slice ad160 l156.length cp161, .slice ad162 l157.length cp163, .slice ad164 l158.length cp165]) (cs' := [.int .i64 i155, .slice ad160 l156.length cp161, .slice ad162 l157.length cp163, .slice ad164 l158.length cp165]) sz28 rfl rfl rfl rfl rfl rfl) ?_
          rintro _ _ _ ⟨rfl, rfl, rfl⟩
          refine ⟨fun w hs => Hold.sub (Hp.le_refl _) ⟨1, rfl, 1, rfl, 1, rfl, 1, rfl, 1, rfl, 1, rfl, 1, rfl, trivial⟩ hs, ?_⟩
          refine JM.nil ?_
          refine JQ.val (v := .int .i64 i154) rfl rfl (V.as rfl) ?_
          refine JQ.val (v := .int .i64 0) rfl rfl (V.as rfl) ?_
          refine JQ.nil ?_
          refine J.nil ?_
          refine CJ.ret ?_
          have e := Option.some.inj h
          subst e
          exact ⟨_, [Row Hp.nil 63 (.cons (.int .i64) (.one (.int .i64))) (.slice ad160 l156.length cp161) l156, Row K170 26 (.one (.sl (.cons (.int .i64) (.one .bool)))) (.slice ad162 l157.length cp163) l157, Row Hp.nil 60 (.cons (.int .i64) (.one .bool)) (.slice ad164 l158.length cp165) l158], Res.three rfl ⟨_, _, rfl, Ld.agg (cs := [.int .i64 i155, .slice ad160 l156.length cp161, .slice ad162 l157.length cp163, .slice ad164 l158.length cp165]) Try.underlying28 sz28 rfl (Rd.cls 0 0 rfl rfl)⟩ rfl rfl, ⟨i155, l156, l157, l158, i154, 0, ad160, cp161, ad162, cp163, ad164, cp165, rfl, rfl, rfl⟩, (hK144.trans hK171), fun w hs => (Sep.front 2 rfl (Sep.front 1 rfl (Sep.dropAt 3 rfl (Sep.dropAt 3 rfl (Sep.dropAt 3 rfl (Sep.dropAt 3 rfl (Sep.dropAt 0 rfl hs)))))))⟩
noncomputable def fn_ref17_Take_l1 (xa : (List UInt8)) (i354 : Int) : (Int × (List (List (Int × Bool))) × Int) → Option ((Int × (List (List (Int × Bool))) × Int) ⊕ ((Int × (List (List (Int × Bool)))) ⊕ (Int × (List (Int × Int)) × (List (List (Int × Bool))) × (List (Int × Bool)) × Int × Int))) := fun ((i531, l532, i537) : (Int × (List (List (Int × Bool))) × Int)) => cond (decide (i537 < i354)) ((subL xa i531 (((xa.length : Nat) : Int))).bind fun y580 => (fn_ref17_TakeType y580).bind fun (l584, i585, i586) => cond (!decide (i586 = 0)) (some (.inr ((.inr ((0, [], [], [], 0, i586)))))) ((app l532 (([l584] : List (List (Int × Bool))))).bind fun z605 => some (.inl ((IntKind.wrap .i64 (i531 + i585), z605, IntKind.wrap .i64 (i537 + 1)))))) (some (.inr ((.inl (i531, l532)))))
noncomputable def fn_ref17_Take (xa : (List UInt8)) : Option ((Int × (List (Int × Int)) × (List (List (Int × Bool))) × (List (Int × Bool)) × Int × Int)) :=
  (fn_ref02_Take xa).bind fun (i322, i323, i324) => cond (!decide (i324 = 0)) (some ((0, [], [], [], 0, i324))) ((subL xa i323 (((xa.length : Nat) : Int))).bind fun y332 => (fn_ref17_TakeBounds y332 16).bind fun (l336, i337, i338) => cond (!decide (i338 = 0)) (some ((0, [], [], [], 0, i338))) ((subL xa (IntKind.wrap .i64 (i323 + i337)) (((xa.length : Nat) : Int))).bind fun y350 => (fn_ref02_Take y350).bind fun (i354, i355, i356) => cond (!decide (i356 = 0)) (some ((0, [], [], [], 0, i356))) (cond (decide (16 < i354)) (some ((0, [], [], [], 0, 6))) ((loop (fn_ref17_Take_l1 xa i354) ((IntKind.wrap .i64 ((IntKind.wrap .i64 (i323 + i337)) + i355), ([] : List (List (Int × Bool))), 0)) : Option ((Int × (List (List (Int × Bool)))) ⊕ (Int × (List (Int × Int)) × (List (List (Int × Bool))) × (List (Int × Bool)) × Int × Int))).bind fun o => match o with | .inr r => some r | .inl (i486, l487) => (subL xa i486 (((xa.length : Nat) : Int))).bind fun y614 => (fn_ref17_TakeType y614).bind fun (l618, i619, i620) => cond (!decide (i620 = 0)) (some ((0, [], [], [], 0, i620))) (some ((i322, l336, l487, l618, IntKind.wrap .i64 (i486 + i619), 0)))))))
set_option maxRecDepth 100000 in
set_option maxHeartbeats 4000000 in
theorem ref17_Take_ok {K : Hp} {xa : (List UInt8)}   {r : (Int × (List (Int × Int)) × (List (List (Int × Bool))) × (List (Int × Bool)) × Int × Int)} (h : fn_ref17_Take xa = some r) :
    Tr Try.prog 21 #[.string ⟨xa.toArray⟩] K [] (fun v K' L' => (∃ (i301 : Int) (l302 : (List (Int × Int))) (l307 : (List (List (Int × Bool)))) (l312 : (List (Int × Bool))) (i317 : Int) (i318 : Int) (ad303 : Option Addr) (cp304 : Nat) (ad308 : Option Addr) (cp309 : Nat) (ad313 : Option Addr) (cp314 : Nat), (i301, l302, l307, l312, i317, i318) = r ∧ .tuple #[.agg #[.int .i64 i301, .slice ad303 l302.length cp304, .slice ad308 l307.length cp309, .slice ad313 l312.length cp314], .int .i64 i317, .int .i64 i318] = v ∧ L' = [Row Hp.nil 63 (.cons (.int .i64) (.one (.int .i64))) (.slice ad303 l302.length cp304) l302, Row K' 26 (.one (.sl (.cons (.int .i64) (.one .bool)))) (.slice ad308 l307.length cp309) l307, Row Hp.nil 60 (.cons (.int .i64) (.one .bool)) (.slice ad313 l312.length cp314) l312])) := by
  refine Tr.of Try.func21 rfl Try.ntmps21 rfl (fun E F => ?_)
  unfold fn_ref17_Take at h
  refine CJ.seq ?_
  refine CJ.region ?_
  refine J.op rfl (A.alloc (cs := [.int .i64 0, .slice none 0 0, .slice none 0 0, .slice none 0 0]) inf28 rfl) ?_
  rintro _ _ _ ⟨b319, rfl, rfl, rfl⟩
  refine J.val (v := .int .i64 0) rfl rfl (V.as rfl) ?_
  refine J.val (v := .int .i64 0) rfl rfl (V.as rfl) ?_
  refine J.nil ?_
  refine CJ.seq ?_
  refine CJ.region ?_
  refine J.val (v := .string ⟨xa.toArray⟩) rfl rfl (V.mv rfl) ?_
  obtain ⟨r320, hr321, h⟩ := ob h
  refine J.op rfl (A.call (L1 := []) Try.call40 rfl (ref02_Take_ok hr321) rfl rfl) ?_
  rintro _ _ _ ⟨v325, _, rfl, ⟨⟨i322, i323, i324, rfl, rfl, rfl⟩, rfl⟩, _, rfl⟩
  refine J.val (v := .tuple #[.int .i64 i322, .int .i64 i323, .int .i64 i324]) rfl rfl (V.mv rfl) ?_
  refine J.val (v := .int .i64 i322) rfl rfl (V.ext rfl rfl) ?_
  refine J.val (v := .int .i64 i323) rfl rfl (V.ext rfl rfl) ?_
  refine J.val (v := .int .i64 i324) rfl rfl (V.ext rfl rfl) ?_
  refine J.val (v := .int .i64 i322) rfl rfl (V.as rfl) ?_
  refine J.val (v := .int .i64 i323) rfl rfl (V.as rfl) ?_
  refine J.val (v := .int .i64 i324) rfl rfl (V.as rfl) ?_
  refine J.nil ?_
  refine CJ.seq ?_
  refine CJ.seq ?_
  refine CJ.region ?_
  refine J.val (v := .int .i64 i324) rfl rfl (V.mv rfl) ?_
  refine J.val (v := .bool (!decide (i324 = 0))) rfl rfl (V.neq rfl rfl) ?_
  refine J.nil ?_
  refine CJ.cond rfl (fun hc328 => ?_) (fun hc328 => ?_)
  · have h := ct hc328 h
    refine CJ.seq ?_
    refine CJ.region ?_
    refine J.val (v := .agg #[.int .i64 0, .slice none 0 0, .slice none 0 0, .slice none 0 0]) rfl rfl (V.build inf28 places28 rfl rfl) ?_
    refine J.val (v := .int .i64 i324) rfl rfl (V.mv rfl) ?_
    refine J.op rfl (A.store (v := .agg #[.int .i64 0, .slice none 0 0, .slice none 0 0, .slice none 0 0]) (cs' := [.int .i64 0, .slice none 0 0, .slice none 0 0, .slice none 0 0]) sz28 rfl rfl rfl rfl rfl rfl) ?_
    rintro _ _ _ ⟨rfl, rfl, rfl⟩
    refine J.val (v := .int .i64 0) rfl rfl (V.as rfl) ?_
    refine J.val (v := .int .i64 i324) rfl rfl (V.as rfl) ?_
    refine J.nil ?_
    refine CJ.by (fun w hs => Sep.rowNil (e := 63) (t := (.cons (.int .i64) (.one (.int .i64)))) hs) ?_
    refine CJ.by (fun w hs => Sep.rowNil (e := 26) (t := (.one (.sl (.cons (.int .i64) (.one .bool))))) hs) ?_
    refine CJ.by (fun w hs => Sep.rowNil (e := 60) (t := (.cons (.int .i64) (.one .bool))) hs) ?_
    refine CJ.ret ?_
    have e := Option.some.inj h
    subst e
    exact ⟨_, [Row Hp.nil 63 (.cons (.int .i64) (.one (.int .i64))) (.slice none ((([] : List (Int × Int))).length) 0) (([] : List (Int × Int))), Row Hp.nil 26 (.one (.sl (.cons (.int .i64) (.one .bool)))) (.slice none ((([] : List (List (Int × Bool)))).length) 0) (([] : List (List (Int × Bool)))), Row Hp.nil 60 (.cons (.int .i64) (.one .bool)) (.slice none ((([] : List (Int × Bool))).length) 0) (([] : List (Int × Bool)))], Res.three rfl ⟨_, _, rfl, Ld.agg (cs := [.int .i64 0, .slice none 0 0, .slice none 0 0, .slice none 0 0]) Try.underlying28 sz28 rfl (Rd.cls 3 0 rfl rfl)⟩ rfl rfl, ⟨0, [], [], [], 0, i324, none, 0, none, 0, none, 0, rfl, rfl, rfl⟩, (Hp.le_refl _), fun w hs => (Sep.front 2 rfl (Sep.front 1 rfl (Sep.dropAt 3 rfl hs)))⟩
  · have h := cf hc328 h
    refine CJ.skip ?_
    refine CJ.seq ?_
    refine CJ.region ?_
    refine J.val (v := .string ⟨xa.toArray⟩) rfl rfl (V.mv rfl) ?_
    refine J.val (v := .int .i64 i323) rfl rfl (V.mv rfl) ?_
    obtain ⟨y332, hy333, h⟩ := ob h
    refine J.val (v := .string ⟨y332.toArray⟩) rfl rfl (V.subs Try.underlying9 rfl (fun _ h => by cases h; exact ⟨_, rfl⟩) nofun nofun (fun _ => rfl) hy333) ?_
    obtain ⟨r334, hr335, h⟩ := ob h
    refine J.op rfl (A.call (L1 := []) Try.call19 rfl (ref17_TakeBounds_ok hr335) rfl rfl) ?_
    rintro _ _ _ ⟨v342, _, rfl, ⟨⟨l336, i337, i338, ad339, cp340, rfl, rfl, rfl⟩, rfl⟩, _, rfl⟩
    refine J.wit Row.hn (fun hn341 => ?_)
    refine J.val (v := .tuple #[.slice ad339 l336.length cp340, .int .i64 i337, .int .i64 i338]) rfl rfl (V.mv rfl) ?_
    refine J.val (v := .slice ad339 l336.length cp340) rfl rfl (V.ext rfl rfl) ?_
    refine J.val (v := .int .i64 i337) rfl rfl (V.ext rfl rfl) ?_
    refine J.val (v := .int .i64 i338) rfl rfl (V.ext rfl rfl) ?_
    refine J.val (v := .slice ad339 l336.length cp340) rfl rfl (V.as rfl) ?_
    refine J.val (v := .int .i64 i337) rfl rfl (V.as rfl) ?_
    refine J.val (v := .int .i64 i338) rfl rfl (V.as rfl) ?_
    refine J.nil ?_
    refine CJ.seq ?_
    refine CJ.seq ?_
    refine CJ.region ?_
    refine J.val (v := .int .i64 i338) rfl rfl (V.mv rfl) ?_
    refine J.val (v := .bool (!decide (i338 = 0))) rfl rfl (V.neq rfl rfl) ?_
    refine J.nil ?_
    refine CJ.cond rfl (fun hc346 => ?_) (fun hc346 => ?_)
    · have h := ct hc346 h
      refine CJ.seq ?_
      refine CJ.region ?_
      refine J.val (v := .agg #[.int .i64 0, .slice none 0 0, .slice none 0 0, .slice none 0 0]) rfl rfl (V.build inf28 places28 rfl rfl) ?_
      refine J.val (v := .int .i64 i338) rfl rfl (V.mv rfl) ?_
      refine J.front 1 rfl ?_
      refine J.op rfl (A.store (v := .agg #[.int .i64 0, .slice none 0 0, .slice none 0 0, .slice none 0 0]) (cs' := [.int .i64 0, .slice none 0 0, .slice none 0 0, .slice none 0 0]) sz28 rfl rfl rfl rfl rfl rfl) ?_
      rintro _ _ _ ⟨rfl, rfl, rfl⟩
      refine J.val (v := .int .i64 0) rfl rfl (V.as rfl) ?_
      refine J.val (v := .int .i64 i338) rfl rfl (V.as rfl) ?_
      refine J.nil ?_
      refine CJ.by (fun w hs => Sep.rowNil (e := 63) (t := (.cons (.int .i64) (.one (.int .i64)))) hs) ?_
      refine CJ.by (fun w hs => Sep.rowNil (e := 26) (t := (.one (.sl (.cons (.int .i64) (.one .bool))))) hs) ?_
      refine CJ.by (fun w hs => Sep.rowNil (e := 60) (t := (.cons (.int .i64) (.one .bool))) hs) ?_
      refine CJ.ret ?_
      have e := Option.some.inj h
      subst e
      exact ⟨_, [Row Hp.nil 63 (.cons (.int .i64) (.one (.int .i64))) (.slice none ((([] : List (Int × Int))).length) 0) (([] : List (Int × Int))), Row Hp.nil 26 (.one (.sl (.cons (.int .i64) (.one .bool)))) (.slice none ((([] : List (List (Int × Bool)))).length) 0) (([] : List (List (Int × Bool)))), Row Hp.nil 60 (.cons (.int .i64) (.one .bool)) (.slice none ((([] : List (Int × Bool))).length) 0) (([] : List (Int × Bool)))], Res.three rfl ⟨_, _, rfl, Ld.agg (cs := [.int .i64 0, .slice none 0 0, .slice none 0 0, .slice none 0 0]) Try.underlying28 sz28 rfl (Rd.cls 3 0 rfl rfl)⟩ rfl rfl, ⟨0, [], [], [], 0, i338, none, 0, none, 0, none, 0, rfl, rfl, rfl⟩, (Hp.le_refl _), fun w hs => (Sep.front 2 rfl (Sep.front 1 rfl (Sep.dropAt 3 rfl (Sep.dropAt 3 rfl hs))))⟩
    · have h := cf hc346 h
      refine CJ.skip ?_
      refine CJ.seq ?_
      refine CJ.region ?_
      refine J.val (v := .int .i64 i323) rfl rfl (V.mv rfl) ?_
      refine J.val (v := .int .i64 i337) rfl rfl (V.mv rfl) ?_
      refine J.val (v := .int .i64 (IntKind.wrap .i64 (i323 + i337))) rfl rfl (V.add rfl rfl) ?_
      refine J.val (v := .int .i64 (IntKind.wrap .i64 (i323 + i337))) rfl rfl (V.as rfl) ?_
      refine J.nil ?_
      refine CJ.seq ?_
      refine CJ.region ?_
      refine J.val (v := .string ⟨xa.toArray⟩) rfl rfl (V.mv rfl) ?_
      refine J.val (v := .int .i64 (IntKind.wrap .i64 (i323 + i337))) rfl rfl (V.mv rfl) ?_
      obtain ⟨y350, hy351, h⟩ := ob h
      refine J.val (v := .string ⟨y350.toArray⟩) rfl rfl (V.subs Try.underlying9 rfl (fun _ h => by cases h; exact ⟨_, rfl⟩) nofun nofun (fun _ => rfl) hy351) ?_
      obtain ⟨r352, hr353, h⟩ := ob h
      refine J.op rfl (A.call (L1 := []) Try.call40 rfl (ref02_Take_ok hr353) rfl rfl) ?_
      rintro _ _ _ ⟨v357, _, rfl, ⟨⟨i354, i355, i356, rfl, rfl, rfl⟩, rfl⟩, _, rfl⟩
      refine J.val (v := .tuple #[.int .i64 i354, .int .i64 i355, .int .i64 i356]) rfl rfl (V.mv rfl) ?_
      refine J.val (v := .int .i64 i354) rfl rfl (V.ext rfl rfl) ?_
      refine J.val (v := .int .i64 i355) rfl rfl (V.ext rfl rfl) ?_
      refine J.val (v := .int .i64 i356) rfl rfl (V.ext rfl rfl) ?_
      refine J.val (v := .int .i64 i354) rfl rfl (V.as rfl) ?_
      refine J.val (v := .int .i64 i355) rfl rfl (V.as rfl) ?_
      refine J.val (v := .int .i64 i356) rfl rfl (V.as rfl) ?_
      refine J.nil ?_
      refine CJ.seq ?_
      refine CJ.seq ?_
      refine CJ.region ?_
      refine J.val (v := .int .i64 i356) rfl rfl (V.mv rfl) ?_
      refine J.val (v := .bool (!decide (i356 = 0))) rfl rfl (V.neq rfl rfl) ?_
      refine J.nil ?_
      refine CJ.cond rfl (fun hc360 => ?_) (fun hc360 => ?_)
      · have h := ct hc360 h
        refine CJ.seq ?_
        refine CJ.region ?_
        refine J.val (v := .agg #[.int .i64 0, .slice none 0 0, .slice none 0 0, .slice none 0 0]) rfl rfl (V.build inf28 places28 rfl rfl) ?_
        refine J.val (v := .int .i64 i356) rfl rfl (V.mv rfl) ?_
        refine J.front 1 rfl ?_
        refine J.op rfl (A.store (v := .agg #[.int .i64 0, .slice none 0 0, .slice none 0 0, .slice none 0 0]) (cs' := [.int .i64 0, .slice none 0 0, .slice none 0 0, .slice none 0 0]) sz28 rfl rfl rfl rfl rfl rfl) ?_
        rintro _ _ _ ⟨rfl, rfl, rfl⟩
        refine J.val (v := .int .i64 0) rfl rfl (V.as rfl) ?_
        refine J.val (v := .int .i64 i356) rfl rfl (V.as rfl) ?_
        refine J.nil ?_
        refine CJ.by (fun w hs => Sep.rowNil (e := 63) (t := (.cons (.int .i64) (.one (.int .i64)))) hs) ?_
        refine CJ.by (fun w hs => Sep.rowNil (e := 26) (t := (.one (.sl (.cons (.int .i64) (.one .bool))))) hs) ?_
        refine CJ.by (fun w hs => Sep.rowNil (e := 60) (t := (.cons (.int .i64) (.one .bool))) hs) ?_
        refine CJ.ret ?_
        have e := Option.some.inj h
        subst e
        exact ⟨_, [Row Hp.nil 63 (.cons (.int .i64) (.one (.int .i64))) (.slice none ((([] : List (Int × Int))).length) 0) (([] : List (Int × Int))), Row Hp.nil 26 (.one (.sl (.cons (.int .i64) (.one .bool)))) (.slice none ((([] : List (List (Int × Bool)))).length) 0) (([] : List (List (Int × Bool)))), Row Hp.nil 60 (.cons (.int .i64) (.one .bool)) (.slice none ((([] : List (Int × Bool))).length) 0) (([] : List (Int × Bool)))], Res.three rfl ⟨_, _, rfl, Ld.agg (cs := [.int .i64 0, .slice none 0 0, .slice none 0 0, .slice none 0 0]) Try.underlying28 sz28 rfl (Rd.cls 3 0 rfl rfl)⟩ rfl rfl, ⟨0, [], [], [], 0, i356, none, 0, none, 0, none, 0, rfl, rfl, rfl⟩, (Hp.le_refl _), fun w hs => (Sep.front 2 rfl (Sep.front 1 rfl (Sep.dropAt 3 rfl (Sep.dropAt 3 rfl hs))))⟩
      · have h := cf hc360 h
        refine CJ.skip ?_
        refine CJ.seq ?_
        refine CJ.seq ?_
        refine CJ.region ?_
        refine J.val (v := .int .i64 i354) rfl rfl (V.mv rfl) ?_
        refine J.val (v := .bool (decide (16 < i354))) rfl rfl (V.gtr rfl rfl) ?_
        refine J.nil ?_
        refine CJ.cond rfl (fun hc364 => ?_) (fun hc364 => ?_)
        · have h := ct hc364 h
          refine CJ.seq ?_
          refine CJ.region ?_
          refine J.val (v := .agg #[.int .i64 0, .slice none 0 0, .slice none 0 0, .slice none 0 0]) rfl rfl (V.build inf28 places28 rfl rfl) ?_
          refine J.front 1 rfl ?_
          refine J.op rfl (A.store (v := .agg #[.int .i64 0, .slice none 0 0, .slice none 0 0, .slice none 0 0]) (cs' := [.int .i64 0, .slice none 0 0, .slice none 0 0, .slice none 0 0]) sz28 rfl rfl rfl rfl rfl rfl) ?_
          rintro _ _ _ ⟨rfl, rfl, rfl⟩
          refine J.val (v := .int .i64 0) rfl rfl (V.as rfl) ?_
          refine J.val (v := .int .i64 6) rfl rfl (V.as rfl) ?_
          refine J.nil ?_
          refine CJ.by (fun w hs => Sep.rowNil (e := 63) (t := (.cons (.int .i64) (.one (.int .i64)))) hs) ?_
          refine CJ.by (fun w hs => Sep.rowNil (e := 26) (t := (.one (.sl (.cons (.int .i64) (.one .bool))))) hs) ?_
          refine CJ.by (fun w hs => Sep.rowNil (e := 60) (t := (.cons (.int .i64) (.one .bool))) hs) ?_
          refine CJ.ret ?_
          have e := Option.some.inj h
          subst e
          exact ⟨_, [Row Hp.nil 63 (.cons (.int .i64) (.one (.int .i64))) (.slice none ((([] : List (Int × Int))).length) 0) (([] : List (Int × Int))), Row Hp.nil 26 (.one (.sl (.cons (.int .i64) (.one .bool)))) (.slice none ((([] : List (List (Int × Bool)))).length) 0) (([] : List (List (Int × Bool)))), Row Hp.nil 60 (.cons (.int .i64) (.one .bool)) (.slice none ((([] : List (Int × Bool))).length) 0) (([] : List (Int × Bool)))], Res.three rfl ⟨_, _, rfl, Ld.agg (cs := [.int .i64 0, .slice none 0 0, .slice none 0 0, .slice none 0 0]) Try.underlying28 sz28 rfl (Rd.cls 3 0 rfl rfl)⟩ rfl rfl, ⟨0, [], [], [], 0, 6, none, 0, none, 0, none, 0, rfl, rfl, rfl⟩, (Hp.le_refl _), fun w hs => (Sep.front 2 rfl (Sep.front 1 rfl (Sep.dropAt 3 rfl (Sep.dropAt 3 rfl hs))))⟩
        · have h := cf hc364 h
          refine CJ.skip ?_
          refine CJ.seq ?_
          refine CJ.region ?_
          refine J.val (v := .int .i64 (IntKind.wrap .i64 (i323 + i337))) rfl rfl (V.mv rfl) ?_
          refine J.val (v := .int .i64 i355) rfl rfl (V.mv rfl) ?_
          refine J.val (v := .int .i64 (IntKind.wrap .i64 ((IntKind.wrap .i64 (i323 + i337)) + i355))) rfl rfl (V.add rfl rfl) ?_
          refine J.val (v := .int .i64 (IntKind.wrap .i64 ((IntKind.wrap .i64 (i323 + i337)) + i355))) rfl rfl (V.as rfl) ?_
          refine J.nil ?_
          refine CJ.seq ?_
          refine CJ.region ?_
          refine J.op rfl (A.lit (K0 := K) (ty := (.one (.sl (.cons (.int .i64) (.one .bool))))) (xs := ([] : List (List (Int × Bool)))) Try.underlying23 inf26 rfl (by decide) rfl rfl rfl rfl rfl (by decide)) ?_
          rintro _ _ _ ⟨b368, rfl, rfl, rfl⟩
          have hn369 : ([] : List (List (Int × Bool))) ≠ [] → ∃ g, (some ⟨b368, 0, none⟩ : Option Addr) = some ⟨g, 0, none⟩ := fun _ => ⟨b368, rfl⟩
          refine J.val (v := .slice (some ⟨b368, 0, none⟩) ((([] : List (List (Int × Bool)))).length) 0) rfl rfl (V.as rfl) ?_
          refine J.nil ?_
          refine CJ.seq ?_
          refine CJ.seq ?_
          refine CJ.region ?_
          refine J.val (v := .int .i64 0) rfl rfl (V.as rfl) ?_
          refine J.nil ?_
          obtain ⟨o492, ho493, h⟩ := ob h
          refine CJ.joinN (o := o492) (fun s ρ K' L' => ∃ (i486 : Int) (l487 : (List (List (Int × Bool)))) (ad488 : Option Addr) (cp489 : Nat), (i486, l487) = s ∧ Fits [(0, .string ⟨xa.toArray⟩), (2, .pointer (some ⟨b319, 0, none⟩)), (5, .int .i64 i322), (6, .int .i64 i486), (8, .slice ad339 l336.length cp340), (14, .slice ad488 l487.length cp489)] ρ ∧ Hp.le K K' ∧ L' = Cl b319 28 [.int .i64 0, .slice none 0 0, .slice none 0 0, .slice none 0 0] :: Row Hp.nil 63 (.cons (.int .i64) (.one (.int .i64))) (.slice ad339 l336.length cp340) l336 :: Row K' 26 (.one (.sl (.cons (.int .i64) (.one .bool)))) (.slice ad488 l487.length cp489) l487 :: F) ?_ ?_
          · skip
            refine CJ.block ?_
            refine CJ.front 1 rfl ?_
            refine CJ.front 2 rfl ?_
            refine CJ.loop (fun s ρ K' L' => ∃ (i531 : Int) (l532 : (List (List (Int × Bool)))) (i537 : Int) (ad533 : Option Addr) (cp534 : Nat), (i531, l532, i537) = s ∧ Fits [(0, .string ⟨xa.toArray⟩), (2, .pointer (some ⟨b319, 0, none⟩)), (5, .int .i64 i322), (6, .int .i64 i531), (8, .slice ad339 l336.length cp340), (11, .int .i64 i354), (14, .slice ad533 l532.length cp534), (15, .int .i64 i537)] ρ ∧ Hp.le K K' ∧ L' = Cl b319 28 [.int .i64 0, .slice none 0 0, .slice none 0 0, .slice none 0 0] :: Row Hp.nil 63 (.cons (.int .i64) (.one (.int .i64))) (.slice ad339 l336.length cp340) l336 :: Row K' 26 (.one (.sl (.cons (.int .i64) (.one .bool)))) (.slice ad533 l532.length cp534) l532 :: F) ho493 ⟨IntKind.wrap .i64 ((IntKind.wrap .i64 (i323 + i337)) + i355), ([] : List (List (Int × Bool))), 0, (some ⟨b368, 0, none⟩), 0, rfl, ⟨rfl, rfl, rfl, rfl, rfl, rfl, rfl, rfl, trivial⟩, (Hp.le_refl _), rfl⟩ ?_
            rintro s ρ K530 _ r578 ⟨i531, l532, i537, ad533, cp534, rfl, hf576, hk577, rfl⟩ h575
            obtain ⟨ρ, rfl⟩ := hf576.ex
            refine CJ.front 2 rfl ?_
            refine CJ.wit Row.hn (fun hn536 => ?_)
            refine CJ.seq ?_
            refine CJ.seq ?_
            refine CJ.region ?_
            refine J.val (v := .int .i64 i537) rfl rfl (V.mv rfl) ?_
            refine J.val (v := .int .i64 i354) rfl rfl (V.mv rfl) ?_
            refine J.val (v := .bool (decide (i537 < i354))) rfl rfl (V.lss rfl rfl) ?_
            refine J.nil ?_
            refine CJ.cond rfl (fun hc579 => ?_) (fun hc579 => ?_)
            · have h575 := ct hc579 h575
              refine CJ.skip ?_
              refine CJ.seq ?_
              refine CJ.block ?_
              refine CJ.seq ?_
              refine CJ.region ?_
              refine J.val (v := .string ⟨xa.toArray⟩) rfl rfl (V.mv rfl) ?_
              refine J.val (v := .int .i64 i531) rfl rfl (V.mv rfl) ?_
              obtain ⟨y580, hy581, h575⟩ := ob h575
              refine J.val (v := .string ⟨y580.toArray⟩) rfl rfl (V.subs Try.underlying9 rfl (fun _ h => by cases h; exact ⟨_, rfl⟩) nofun nofun (fun _ => rfl) hy581) ?_
              obtain ⟨r582, hr583, h575⟩ := ob h575
              refine J.op rfl (A.call (L1 := []) Try.call17 rfl (ref17_TakeType_ok hr583) rfl rfl) ?_
              rintro _ _ _ ⟨v590, _, rfl, ⟨⟨l584, i585, i586, ad587, cp588, rfl, rfl, rfl⟩, rfl⟩, _, rfl⟩
              refine J.wit Row.hn (fun hn589 => ?_)
              refine J.val (v := .tuple #[.agg #[.slice ad587 l584.length cp588], .int .i64 i585, .int .i64 i586]) rfl rfl (V.mv rfl) ?_
              refine J.val (v := .agg #[.slice ad587 l584.length cp588]) rfl rfl (V.ext rfl rfl) ?_
              refine J.val (v := .int .i64 i585) rfl rfl (V.ext rfl rfl) ?_
              refine J.val (v := .int .i64 i586) rfl rfl (V.ext rfl rfl) ?_
              refine J.op rfl (A.alloc (cs := [.slice none 0 0]) inf26 rfl) ?_
              rintro _ _ _ ⟨b594, rfl, rfl, rfl⟩
              refine J.op rfl (A.store (v := .agg #[.slice ad587 l584.length cp588]) (cs' := [.slice ad587 l584.length cp588]) sz26 rfl rfl rfl rfl rfl rfl) ?_
              rintro _ _ _ ⟨rfl, rfl, rfl⟩
              refine J.val (v := .int .i64 i585) rfl rfl (V.as rfl) ?_
              refine J.val (v := .int .i64 i586) rfl rfl (V.as rfl) ?_
              refine J.nil ?_
              refine CJ.seq ?_
              refine CJ.seq ?_
              refine CJ.region ?_
              refine J.val (v := .int .i64 i586) rfl rfl (V.mv rfl) ?_
              refine J.val (v := .bool (!decide (i586 = 0))) rfl rfl (V.neq rfl rfl) ?_
              refine J.nil ?_
              refine CJ.cond rfl (fun hc595 => ?_) (fun hc595 => ?_)
              · have h575 := ct hc595 h575
                refine CJ.seq ?_
                refine CJ.region ?_
                refine J.val (v := .agg #[.int .i64 0, .slice none 0 0, .slice none 0 0, .slice none 0 0]) rfl rfl (V.build inf28 places28 rfl rfl) ?_
                refine J.val (v := .int .i64 i586) rfl rfl (V.mv rfl) ?_
                refine J.front 3 rfl ?_
                refine J.op rfl (A.store (v := .agg #[.int .i64 0, .slice none 0 0, .slice none 0 0, .slice none 0 0]) (cs' := [.int .i64 0, .slice none 0 0, .slice none 0 0, .slice none 0 0]) sz28 rfl rfl rfl rfl rfl rfl) ?_
                rintro _ _ _ ⟨rfl, rfl, rfl⟩
                refine J.val (v := .int .i64 0) rfl rfl (V.as rfl) ?_
                refine J.val (v := .int .i64 i586) rfl rfl (V.as rfl) ?_
                refine J.nil ?_
                refine CJ.by (fun w hs => Sep.rowNil (e := 63) (t := (.cons (.int .i64) (.one (.int .i64)))) hs) ?_
                refine CJ.by (fun w hs => Sep.rowNil (e := 26) (t := (.one (.sl (.cons (.int .i64) (.one .bool))))) hs) ?_
                refine CJ.by (fun w hs => Sep.rowNil (e := 60) (t := (.cons (.int .i64) (.one .bool))) hs) ?_
                refine CJ.ret ?_
                have e := Option.some.inj h575
                subst e
                refine ⟨nofun, fun e => ?_⟩
                subst e
                refine .inr ⟨nofun, ?_⟩
                have e := Option.some.inj h
                subst e
                exact ⟨_, [Row Hp.nil 63 (.cons (.int .i64) (.one (.int .i64))) (.slice none ((([] : List (Int × Int))).length) 0) (([] : List (Int × Int))), Row Hp.nil 26 (.one (.sl (.cons (.int .i64) (.one .bool)))) (.slice none ((([] : List (List (Int × Bool)))).length) 0) (([] : List (List (Int × Bool)))), Row Hp.nil 60 (.cons (.int .i64) (.one .bool)) (.slice none ((([] : List (Int × Bool))).length) 0) (([] : List (Int × Bool)))], Res.three rfl ⟨_, _, rfl, Ld.agg (cs := [.int .i64 0, .slice none 0 0, .slice none 0 0, .slice none 0 0]) Try.underlying28 sz28 rfl (Rd.cls 3 0 rfl rfl)⟩ rfl rfl, ⟨0, [], [], [], 0, i586, none, 0, none, 0, none, 0, rfl, rfl, rfl⟩, hk577, fun w hs => (Sep.front 2 rfl (Sep.front 1 rfl (Sep.dropAt 3 rfl (Sep.dropAt 3 rfl (Sep.dropAt 3 rfl (Sep.dropAt 3 rfl (Sep.dropAt 3 rfl hs)))))))⟩
              · have h575 := cf hc595 h575
                refine CJ.skip ?_
                refine CJ.seq ?_
                refine CJ.region ?_
                refine J.val (v := .slice ad533 l532.length cp534) rfl rfl (V.mv rfl) ?_
                refine J.val (v := .agg #[.slice ad587 l584.length cp588]) rfl rfl (V.ld rfl (Ld.agg (cs := [.slice ad587 l584.length cp588]) Try.underlying26 sz26 rfl (Rd.cls 0 0 rfl rfl))) ?_
                refine J.front 1 rfl ?_
                refine J.persist (Hp.nil_le _) (by decide) (fun K599 hK600 f601 => ?_)
                refine J.op rfl (A.lit (K0 := K599) (ty := (.one (.sl (.cons (.int .i64) (.one .bool))))) (xs := ([l584] : List (List (Int × Bool)))) Try.underlying23 inf26 rfl (by decide) rfl rfl rfl ⟨_, _, rfl, f601, rfl⟩ rfl (by decide)) ?_
                rintro _ _ _ ⟨b602, rfl, rfl, rfl⟩
                have hn603 : ([l584] : List (List (Int × Bool))) ≠ [] → ∃ g, (some ⟨b602, 0, none⟩ : Option Addr) = some ⟨g, 0, none⟩ := fun _ => ⟨b602, rfl⟩
                obtain ⟨z605, hz606, h575⟩ := ob h575
                refine J.front 2 rfl ?_
                refine J.op rfl (A.appR (Kr := K599) Try.underlying23 inf26 rfl rfl (by decide) (by decide) rfl rfl (Els.mono hK600) (Els.mono (Hp.le_refl _)) hz606) ?_
                rintro _ _ _ ⟨v607, rfl, rfl, rfl⟩
                refine J.wit Row.form ?_
                rintro ⟨ad608, cp609, rfl, _, _, hn610⟩
                refine J.val (v := .slice ad608 z605.length cp609) rfl rfl (V.as rfl) ?_
                refine J.nil ?_
                refine CJ.region ?_
                refine J.val (v := .int .i64 i531) rfl rfl (V.mv rfl) ?_
                refine J.val (v := .int .i64 i585) rfl rfl (V.mv rfl) ?_
                refine J.val (v := .int .i64 (IntKind.wrap .i64 (i531 + i585))) rfl rfl (V.add rfl rfl) ?_
                refine J.val (v := .int .i64 (IntKind.wrap .i64 (i531 + i585))) rfl rfl (V.as rfl) ?_
                refine J.nil ?_
                refine CJ.region ?_
                refine J.val (v := .int .i64 i537) rfl rfl (V.mv rfl) ?_
                refine J.val (v := .int .i64 (IntKind.wrap .i64 (i537 + 1))) rfl rfl (V.add rfl rfl) ?_
                refine J.val (v := .int .i64 (IntKind.wrap .i64 (i537 + 1))) rfl rfl (V.as rfl) ?_
                refine J.dropAt 1 rfl ?_
                refine J.front 2 rfl ?_
                refine J.front 2 rfl ?_
                refine J.nil ?_
                have e := Option.some.inj h575
                subst e
                exact ⟨rfl, ⟨IntKind.wrap .i64 (i531 + i585), z605, IntKind.wrap .i64 (i537 + 1), ad608, cp609, rfl, ⟨rfl, rfl, rfl, rfl, rfl, rfl, rfl, rfl, trivial⟩, (hk577.trans hK600), rfl⟩⟩
            · have h575 := cf hc579 h575
              refine CJ.front 2 rfl ?_
              refine CJ.front 2 rfl ?_
              refine CJ.exit ?_
              have e := Option.some.inj h575
              subst e
              refine ⟨nofun, fun e => ?_⟩
              subst e
              exact .inl ⟨rfl, _, rfl, ⟨i531, l532, ad533, cp534, rfl, ⟨rfl, rfl, rfl, rfl, rfl, rfl, trivial⟩, hk577, rfl⟩⟩
          · rintro s ρ K485 _ ho611 ⟨i486, l487, ad488, cp489, rfl, hf612, hk613, rfl⟩
            subst ho611
            obtain ⟨ρ, rfl⟩ := hf612.ex
            refine PJ.front 2 rfl ?_
            refine PJ.wit Row.hn (fun hn491 => ?_)
            refine PJ.done ?_
            refine CJ.seq ?_
            refine CJ.region ?_
            refine J.val (v := .string ⟨xa.toArray⟩) rfl rfl (V.mv rfl) ?_
            refine J.val (v := .int .i64 i486) rfl rfl (V.mv rfl) ?_
            obtain ⟨y614, hy615, h⟩ := ob h
            refine J.val (v := .string ⟨y614.toArray⟩) rfl rfl (V.subs Try.underlying9 rfl (fun _ h => by cases h; exact ⟨_, rfl⟩) nofun nofun (fun _ => rfl) hy615) ?_
            obtain ⟨r616, hr617, h⟩ := ob h
            refine J.op rfl (A.call (L1 := []) Try.call17 rfl (ref17_TakeType_ok hr617) rfl rfl) ?_
            rintro _ _ _ ⟨v624, _, rfl, ⟨⟨l618, i619, i620, ad621, cp622, rfl, rfl, rfl⟩, rfl⟩, _, rfl⟩
            refine J.wit Row.hn (fun hn623 => ?_)
            refine J.val (v := .tuple #[.agg #[.slice ad621 l618.length cp622], .int .i64 i619, .int .i64 i620]) rfl rfl (V.mv rfl) ?_
            refine J.val (v := .agg #[.slice ad621 l618.length cp622]) rfl rfl (V.ext rfl rfl) ?_
            refine J.val (v := .int .i64 i619) rfl rfl (V.ext rfl rfl) ?_
            refine J.val (v := .int .i64 i620) rfl rfl (V.ext rfl rfl) ?_
            refine J.op rfl (A.alloc (cs := [.slice none 0 0]) inf26 rfl) ?_
            rintro _ _ _ ⟨b628, rfl, rfl, rfl⟩
            refine J.op rfl (A.store (v := .agg #[.slice ad621 l618.length cp622]) (cs' := [.slice ad621 l618.length cp622]) sz26 rfl rfl rfl rfl rfl rfl) ?_
            rintro _ _ _ ⟨rfl, rfl, rfl⟩
            refine J.val (v := .int .i64 i619) rfl rfl (V.as rfl) ?_
            refine J.val (v := .int .i64 i620) rfl rfl (V.as rfl) ?_
            refine J.nil ?_
            refine CJ.seq ?_
            refine CJ.seq ?_
            refine CJ.region ?_
            refine J.val (v := .int .i64 i620) rfl rfl (V.mv rfl) ?_
            refine J.val (v := .bool (!decide (i620 = 0))) rfl rfl (V.neq rfl rfl) ?_
            refine J.nil ?_
            refine CJ.cond rfl (fun hc629 => ?_) (fun hc629 => ?_)
            · have h := ct hc629 h
              refine CJ.seq ?_
              refine CJ.region ?_
              refine J.val (v := .agg #[.int .i64 0, .slice none 0 0, .slice none 0 0, .slice none 0 0]) rfl rfl (V.build inf28 places28 rfl rfl) ?_
              refine J.val (v := .int .i64 i620) rfl rfl (V.mv rfl) ?_
              refine J.front 3 rfl ?_
              refine J.op rfl (A.store (v := .agg #[.int .i64 0, .slice none 0 0, .slice none 0 0, .slice none 0 0]) (cs' := [.int .i64 0, .slice none 0 0, .slice none 0 0, .slice none 0 0]) sz28 rfl rfl rfl rfl rfl rfl) ?_
              rintro _ _ _ ⟨rfl, rfl, rfl⟩
              refine J.val (v := .int .i64 0) rfl rfl (V.as rfl) ?_
              refine J.val (v := .int .i64 i620) rfl rfl (V.as rfl) ?_
              refine J.nil ?_
              refine CJ.by (fun w hs => Sep.rowNil (e := 63) (t := (.cons (.int .i64) (.one (.int .i64)))) hs) ?_
              refine CJ.by (fun w hs => Sep.rowNil (e := 26) (t := (.one (.sl (.cons (.int .i64) (.one .bool))))) hs) ?_
              refine CJ.by (fun w hs => Sep.rowNil (e := 60) (t := (.cons (.int .i64) (.one .bool))) hs) ?_
              refine CJ.ret ?_
              have e := Option.some.inj h
              subst e
              exact ⟨_, [Row Hp.nil 63 (.cons (.int .i64) (.one (.int .i64))) (.slice none ((([] : List (Int × Int))).length) 0) (([] : List (Int × Int))), Row Hp.nil 26 (.one (.sl (.cons (.int .i64) (.one .bool)))) (.slice none ((([] : List (List (Int × Bool)))).length) 0) (([] : List (List (Int × Bool)))), Row Hp.nil 60 (.cons (.int .i64) (.one .bool)) (.slice none ((([] : List (Int × Bool))).length) 0) (([] : List (Int × Bool)))], Res.three rfl ⟨_, _, rfl, Ld.agg (cs := [.int .i64 0, .slice none 0 0, .slice none 0 0, .slice none 0 0]) Try.underlying28 sz28 rfl (Rd.cls 3 0 rfl rfl)⟩ rfl rfl, ⟨0, [], [], [], 0, i620, none, 0, none, 0, none, 0, rfl, rfl, rfl⟩, hk613, fun w hs => (Sep.front 2 rfl (Sep.front 1 rfl (Sep.dropAt 3 rfl (Sep.dropAt 3 rfl (Sep.dropAt 3 rfl (Sep.dropAt 3 rfl (Sep.dropAt 3 rfl hs)))))))⟩
            · have h := cf hc629 h
              refine CJ.skip ?_
              refine CJ.seq ?_
              refine CJ.region ?_
              refine J.val (v := .int .i64 i322) rfl rfl (V.mv rfl) ?_
              refine J.val (v := .slice ad339 l336.length cp340) rfl rfl (V.mv rfl) ?_
              refine J.val (v := .slice ad488 l487.length cp489) rfl rfl (V.mv rfl) ?_
              refine J.val (v := .agg #[.slice ad621 l618.length cp622]) rfl rfl (V.ld rfl (Ld.agg (cs := [.slice ad621 l618.length cp622]) Try.underlying26 sz26 rfl (Rd.cls 0 0 rfl rfl))) ?_
              refine J.val (v := .agg #[.int .i64 i322, .slice ad339 l336.length cp340, .slice ad488 l487.length cp489, .slice ad621 l618.length cp622]) rfl rfl (V.build inf28 places28 rfl rfl) ?_
              refine J.val (v := .int .i64 i486) rfl rfl (V.mv rfl) ?_
              refine J.val (v := .int .i64 i619) rfl rfl (V.mv rfl) ?_
              refine J.val (v := .int .i64 (IntKind.wrap .i64 (i486 + i619))) rfl rfl (V.add rfl rfl) ?_
              refine J.front 3 rfl ?_
              refine J.op rfl (A.store (v := .agg #[.int .i64 i322, .slice ad339 l336.length cp340, .slice ad488 l487.length cp489, .slice ad621 l618.length cp622]) (cs' := [.int .i64 i322, .slice ad339 l336.length cp340, .slice ad488 l487.length cp489, .slice ad621 l618.length cp622]) sz28 rfl rfl rfl rfl rfl rfl) ?_
              rintro _ _ _ ⟨rfl, rfl, rfl⟩
              refine J.val (v := .int .i64 (IntKind.wrap .i64 (i486 + i619))) rfl rfl (V.as rfl) ?_
              refine J.val (v := .int .i64 0) rfl rfl (V.as rfl) ?_
              refine J.nil ?_
              refine CJ.ret ?_
              have e := Option.some.inj h
              subst e
              exact ⟨_, [Row Hp.nil 63 (.cons (.int .i64) (.one (.int .i64))) (.slice ad339 l336.length cp340) l336, Row K485 26 (.one (.sl (.cons (.int .i64) (.one .bool)))) (.slice ad488 l487.length cp489) l487, Row Hp.nil 60 (.cons (.int .i64) (.one .bool)) (.slice ad621 l618.length cp622) l618], Res.three rfl ⟨_, _, rfl, Ld.agg (cs := [.int .i64 i322, .slice ad339 l336.length cp340, .slice ad488 l487.length cp489, .slice ad621 l618.length cp622]) Try.underlying28 sz28 rfl (Rd.cls 0 0 rfl rfl)⟩ rfl rfl, ⟨i322, l336, l487, l618, IntKind.wrap .i64 (i486 + i619), 0, ad339, cp340, ad488, cp489, ad621, cp622, rfl, rfl, rfl⟩, hk613, fun w hs => (Sep.front 2 rfl (Sep.front 1 rfl (Sep.dropAt 0 rfl (Sep.dropAt 0 rfl hs))))⟩
noncomputable def fn_ref15_Shape_l1 (xa : (List (Int × Bool))) (xb : (List (Int × Bool))) : Int → Option (Int ⊕ (Unit ⊕ Bool)) := fun (i417 : Int) => cond (decide (i417 < (((xa.length : Nat) : Int)))) ((getI xa i417).bind fun x480 => (getI xb i417).bind fun x489 => cond (!(x480.2 == x489.2)) (some (.inr ((.inr (false))))) (some (.inl (IntKind.wrap .i64 (i417 + 1))))) (some (.inr ((.inl ()))))
noncomputable def fn_ref15_Shape (xa : (List (Int × Bool))) (xb : (List (Int × Bool))) : Option Bool :=
  cond (!decide ((((xa.length : Nat) : Int)) = (((xb.length : Nat) : Int)))) (some (false)) ((loop (fn_ref15_Shape_l1 xa xb) 0 : Option (Unit ⊕ Bool)).bind fun o => match o with | .inr r => some r | .inl () => some (true))
set_option maxRecDepth 100000 in
set_option maxHeartbeats 4000000 in
theorem ref15_Shape_ok {K : Hp} {xa : (List (Int × Bool))} {xb : (List (Int × Bool))} {adxa_0 : Option Addr} {cpxa_0 : Nat} {adxb_0 : Option Addr} {cpxb_0 : Nat} (fxa_0 : Is K (.sl (.cons (.int .i64) (.one .bool))) [.slice adxa_0 xa.length cpxa_0] xa) (fxb_0 : Is K (.sl (.cons (.int .i64) (.one .bool))) [.slice adxb_0 xb.length cpxb_0] xb) {r : Bool} (h : fn_ref15_Shape xa xb = some r) :
    Tr Try.prog 48 #[.agg #[.slice adxa_0 xa.length cpxa_0], .agg #[.slice adxb_0 xb.length cpxb_0]] K [] (fun v K' L' => (∃ (t251 : Bool), t251 = r ∧ .bool t251 = v ∧ L' = []) ∧ K = K') := by
  refine Tr.k ?_
  refine Tr.of Try.func48 rfl Try.ntmps48 rfl (fun E F => ?_)
  unfold fn_ref15_Shape at h
  refine CJ.seq ?_
  refine CJ.region ?_
  refine J.op rfl (A.box (v := .agg #[.slice adxa_0 xa.length cpxa_0]) (cs := [.slice adxa_0 xa.length cpxa_0]) rfl rfl) ?_
  rintro _ _ _ ⟨b252, rfl, rfl, rfl⟩
  refine J.op rfl (A.box (v := .agg #[.slice adxb_0 xb.length cpxb_0]) (cs := [.slice adxb_0 xb.length cpxb_0]) rfl rfl) ?_
  rintro _ _ _ ⟨b253, rfl, rfl, rfl⟩
  refine J.val (v := .bool false) rfl rfl (V.as rfl) ?_
  refine J.nil ?_
  refine CJ.seq ?_
  refine CJ.seq ?_
  refine CJ.region ?_
  refine J.val rfl rfl (V.fad Try.underlying26 rfl nz24 rfl) ?_
  refine J.val (v := .slice adxa_0 xa.length cpxa_0) rfl rfl (V.ld rfl (Ld.sc sc24 (Rd.cl 1 rfl rfl))) ?_
  refine J.val (v := .int .i64 (((xa.length : Nat) : Int))) rfl rfl (V.len Try.underlying24 rfl) ?_
  refine J.val rfl rfl (V.fad Try.underlying26 rfl nz24 rfl) ?_
  refine J.val (v := .slice adxb_0 xb.length cpxb_0) rfl rfl (V.ld rfl (Ld.sc sc24 (Rd.cl 0 rfl rfl))) ?_
  refine J.val (v := .int .i64 (((xb.length : Nat) : Int))) rfl rfl (V.len Try.underlying24 rfl) ?_
  refine J.val (v := .bool (!decide ((((xa.length : Nat) : Int)) = (((xb.length : Nat) : Int))))) rfl rfl (V.neq rfl rfl) ?_
  refine J.nil ?_
  refine CJ.cond rfl (fun hc254 => ?_) (fun hc254 => ?_)
  · have h := ct hc254 h
    refine CJ.seq ?_
    refine CJ.region ?_
    refine J.val (v := .bool false) rfl rfl (V.as rfl) ?_
    refine J.nil ?_
    refine CJ.ret ?_
    have e := Option.some.inj h
    subst e
    exact ⟨_, [], Res.one rfl rfl, ⟨false, rfl, rfl, rfl⟩, (Hp.le_refl _), fun w hs => (Sep.dropAt 0 rfl (Sep.dropAt 0 rfl hs))⟩
  · have h := cf hc254 h
    refine CJ.skip ?_
    refine CJ.seq ?_
    refine CJ.seq ?_
    refine CJ.region ?_
    refine J.val (v := .int .i64 0) rfl rfl (V.as rfl) ?_
    refine J.nil ?_
    obtain ⟨o376, ho377, h⟩ := ob h
    refine CJ.joinN (o := o376) (fun s ρ K' L' => () = s ∧ Fits [] ρ ∧ K = K' ∧ F = L') ?_ ?_
    · skip
      refine CJ.block ?_
      refine CJ.front 1 rfl ?_
      refine CJ.loop (fun s ρ K' L' => ∃ (i417 : Int), i417 = s ∧ Fits [(2, .pointer (some ⟨b252, 0, none⟩)), (3, .pointer (some ⟨b253, 0, none⟩)), (5, .int .i64 i417)] ρ ∧ K = K' ∧ L' = Cl b252 26 [.slice adxa_0 xa.length cpxa_0] :: Cl b253 26 [.slice adxb_0 xb.length cpxb_0] :: F) ho377 ⟨0, rfl, ⟨rfl, rfl, rfl, trivial⟩, rfl, rfl⟩ ?_
      rintro s ρ _ _ r460 ⟨i417, rfl, hf458, rfl, rfl⟩ h457
      obtain ⟨ρ, rfl⟩ := hf458.ex
      refine CJ.seq ?_
      refine CJ.seq ?_
      refine CJ.region ?_
      refine J.val (v := .int .i64 i417) rfl rfl (V.mv rfl) ?_
      refine J.val rfl rfl (V.fad Try.underlying26 rfl nz24 rfl) ?_
      refine J.val (v := .slice adxa_0 xa.length cpxa_0) rfl rfl (V.ld rfl (Ld.sc sc24 (Rd.cl 0 rfl rfl))) ?_
      refine J.val (v := .int .i64 (((xa.length : Nat) : Int))) rfl rfl (V.len Try.underlying24 rfl) ?_
      refine J.val (v := .bool (decide (i417 < (((xa.length : Nat) : Int))))) rfl rfl (V.lss rfl rfl) ?_
      refine J.nil ?_
      refine CJ.cond rfl (fun hc461 => ?_) (fun hc461 => ?_)
      · have h457 := ct hc461 h457
        refine CJ.skip ?_
        refine CJ.seq ?_
        refine CJ.block ?_
        refine CJ.seq ?_
        refine CJ.mix [Cl b252 26 [.slice adxa_0 xa.length cpxa_0], Cl b253 26 [.slice adxb_0 xb.length cpxb_0]] [] [0, 1, 2, 3, 4, 5, 6, 7, 8, 9, 10, 11, 12] [] mixO (by decide +kernel) ⟨0, rfl, 0, rfl, trivial⟩ rfl rfl rfl ?_
        refine JM.nil ?_
        refine JQ.val rfl rfl (V.fad Try.underlying26 rfl nz24 rfl) ?_
        refine JQ.val (v := .slice adxa_0 xa.length cpxa_0) rfl rfl (V.ld rfl (Ld.sc sc24 (Rd.cl 0 rfl rfl))) ?_
        refine JQ.val (v := .int .i64 i417) rfl rfl (V.mv rfl) ?_
        obtain ⟨x480, hx481, h457⟩ := ob h457
        obtain ⟨p482, p483, p484⟩ := getI_some hx481
        obtain ⟨b485, o486, e487, a488⟩ := (fxa_0).at p483
        refine JQ.val rfl rfl (V.iad Try.underlying24 sz60 rfl e487 rfl p482 p484) ?_
        refine JQ.val rfl rfl (V.fad Try.underlying60 rfl nz4 rfl) ?_
        refine JQ.val (v := .bool x480.2) rfl rfl (V.ld rfl (Ld.sc sc4 (Rd.k (((a488).snd).one).bool (Hp.le_refl _)))) ?_
        refine JQ.val rfl rfl (V.fad Try.underlying26 rfl nz24 rfl) ?_
        refine JQ.val (v := .slice adxb_0 xb.length cpxb_0) rfl rfl (V.ld rfl (Ld.sc sc24 (Rd.cl 1 rfl rfl))) ?_
        refine JQ.val (v := .int .i64 i417) rfl rfl (V.mv rfl) ?_
        obtain ⟨x489, hx490, h457⟩ := ob h457
        obtain ⟨p491, p492, p493⟩ := getI_some hx490
        obtain ⟨b494, o495, e496, a497⟩ := (fxb_0).at p492
        refine JQ.val rfl rfl (V.iad Try.underlying24 sz60 rfl e496 rfl p491 p493) ?_
        refine JQ.val rfl rfl (V.fad Try.underlying60 rfl nz4 rfl) ?_
        refine JQ.val (v := .bool x489.2) rfl rfl (V.ld rfl (Ld.sc sc4 (Rd.k (((a497).snd).one).bool (Hp.le_refl _)))) ?_
        refine JQ.val (v := .bool (!(x480.2 == x489.2))) rfl rfl (V.neb Try.underlying4 rfl rfl) ?_
        refine JQ.nil ?_
        refine J.nil ?_
        refine CJ.cond rfl (fun hc498 => ?_) (fun hc498 => ?_)
        · have h457 := ct hc498 h457
          refine CJ.seq ?_
          refine CJ.region ?_
          refine J.val (v := .bool false) rfl rfl (V.as rfl) ?_
          refine J.nil ?_
          refine CJ.ret ?_
          have e := Option.some.inj h457
          subst e
          refine ⟨nofun, fun e => ?_⟩
          subst e
          refine .inr ⟨nofun, ?_⟩
          have e := Option.some.inj h
          subst e
          exact ⟨_, [], Res.one rfl rfl, ⟨false, rfl, rfl, rfl⟩, (Hp.le_refl _), fun w hs => (Sep.dropAt 0 rfl (Sep.dropAt 0 rfl hs))⟩
        · have h457 := cf hc498 h457
          refine CJ.skip ?_
          refine CJ.region ?_
          refine J.val (v := .int .i64 i417) rfl rfl (V.mv rfl) ?_
          refine J.val (v := .int .i64 (IntKind.wrap .i64 (i417 + 1))) rfl rfl (V.add rfl rfl) ?_
          refine J.val (v := .int .i64 (IntKind.wrap .i64 (i417 + 1))) rfl rfl (V.as rfl) ?_
          refine J.nil ?_
          have e := Option.some.inj h457
          subst e
          exact ⟨rfl, ⟨IntKind.wrap .i64 (i417 + 1), rfl, ⟨rfl, rfl, rfl, trivial⟩, rfl, rfl⟩⟩
      · have h457 := cf hc461 h457
        refine CJ.dropAt 0 rfl ?_
        refine CJ.dropAt 0 rfl ?_
        refine CJ.exit ?_
        have e := Option.some.inj h457
        subst e
        refine ⟨nofun, fun e => ?_⟩
        subst e
        exact .inl ⟨rfl, _, rfl, ⟨rfl, trivial, rfl, rfl⟩⟩
    · rintro s ρ _ _ ho499 ⟨rfl, hf500, rfl, rfl⟩
      subst ho499
      obtain ⟨ρ, rfl⟩ := hf500.ex
      refine PJ.done ?_
      refine CJ.seq ?_
      refine CJ.region ?_
      refine J.val (v := .bool true) rfl rfl (V.as rfl) ?_
      refine J.nil ?_
      refine CJ.ret ?_
      have e := Option.some.inj h
      subst e
      exact ⟨_, [], Res.one rfl rfl, ⟨true, rfl, rfl, rfl⟩, (Hp.le_refl _), fun w hs => hs⟩
noncomputable def fn_ref15_Same_l1 (xa : (List (Int × Bool))) (xb : (List (Int × Bool))) : Int → Option (Int ⊕ (Unit ⊕ Bool)) := fun (i429 : Int) => cond (decide (i429 < (((xa.length : Nat) : Int)))) ((getI xa i429).bind fun x492 => (getI xb i429).bind fun x501 => cond (!decide (x492.1 = x501.1)) (some (.inr ((.inr (false))))) (some (.inl (IntKind.wrap .i64 (i429 + 1))))) (some (.inr ((.inl ()))))
noncomputable def fn_ref15_Same (xa : (List (Int × Bool))) (xb : (List (Int × Bool))) : Option Bool :=
  (fn_ref15_Shape xa xb).bind fun t262 => cond (!t262) (some (false)) ((loop (fn_ref15_Same_l1 xa xb) 0 : Option (Unit ⊕ Bool)).bind fun o => match o with | .inr r => some r | .inl () => some (true))
set_option maxRecDepth 100000 in
set_option maxHeartbeats 4000000 in
theorem ref15_Same_ok {K : Hp} {xa : (List (Int × Bool))} {xb : (List (Int × Bool))} {adxa_0 : Option Addr} {cpxa_0 : Nat} {adxb_0 : Option Addr} {cpxb_0 : Nat} (fxa_0 : Is K (.sl (.cons (.int .i64) (.one .bool))) [.slice adxa_0 xa.length cpxa_0] xa) (fxb_0 : Is K (.sl (.cons (.int .i64) (.one .bool))) [.slice adxb_0 xb.length cpxb_0] xb) {r : Bool} (h : fn_ref15_Same xa xb = some r) :
    Tr Try.prog 22 #[.agg #[.slice adxa_0 xa.length cpxa_0], .agg #[.slice adxb_0 xb.length cpxb_0]] K [] (fun v K' L' => (∃ (t257 : Bool), t257 = r ∧ .bool t257 = v ∧ L' = []) ∧ K = K') := by
  refine Tr.k ?_
  refine Tr.of Try.func22 rfl Try.ntmps22 rfl (fun E F => ?_)
  unfold fn_ref15_Same at h
  refine CJ.seq ?_
  refine CJ.region ?_
  refine J.op rfl (A.box (v := .agg #[.slice adxa_0 xa.length cpxa_0]) (cs := [.slice adxa_0 xa.length cpxa_0]) rfl rfl) ?_
  rintro _ _ _ ⟨b258, rfl, rfl, rfl⟩
  refine J.op rfl (A.box (v := .agg #[.slice adxb_0 xb.length cpxb_0]) (cs := [.slice adxb_0 xb.length cpxb_0]) rfl rfl) ?_
  rintro _ _ _ ⟨b259, rfl, rfl, rfl⟩
  refine J.val (v := .bool false) rfl rfl (V.as rfl) ?_
  refine J.nil ?_
  refine CJ.seq ?_
  refine CJ.seq ?_
  refine CJ.region ?_
  refine J.val (v := .agg #[.slice adxa_0 xa.length cpxa_0]) rfl rfl (V.ld rfl (Ld.agg (cs := [.slice adxa_0 xa.length cpxa_0]) Try.underlying26 sz26 rfl (Rd.cls 1 0 rfl rfl))) ?_
  refine J.val (v := .agg #[.slice adxb_0 xb.length cpxb_0]) rfl rfl (V.ld rfl (Ld.agg (cs := [.slice adxb_0 xb.length cpxb_0]) Try.underlying26 sz26 rfl (Rd.cls 0 0 rfl rfl))) ?_
  obtain ⟨r260, hr261, h⟩ := ob h
  refine J.op rfl (A.call (L1 := []) Try.call48 rfl (ref15_Shape_ok fxa_0 fxb_0 hr261) rfl rfl) ?_
  rintro _ _ _ ⟨v263, _, rfl, ⟨⟨t262, rfl, rfl, rfl⟩, rfl⟩, _, rfl⟩
  refine J.val (v := .bool (!t262)) rfl rfl (V.not rfl) ?_
  refine J.nil ?_
  refine CJ.cond rfl (fun hc266 => ?_) (fun hc266 => ?_)
  · have h := ct hc266 h
    refine CJ.seq ?_
    refine CJ.region ?_
    refine J.val (v := .bool false) rfl rfl (V.as rfl) ?_
    refine J.nil ?_
    refine CJ.ret ?_
    have e := Option.some.inj h
    subst e
    exact ⟨_, [], Res.one rfl rfl, ⟨false, rfl, rfl, rfl⟩, (Hp.le_refl _), fun w hs => (Sep.dropAt 0 rfl (Sep.dropAt 0 rfl hs))⟩
  · have h := cf hc266 h
    refine CJ.skip ?_
    refine CJ.seq ?_
    refine CJ.seq ?_
    refine CJ.region ?_
    refine J.val (v := .int .i64 0) rfl rfl (V.as rfl) ?_
    refine J.nil ?_
    obtain ⟨o388, ho389, h⟩ := ob h
    refine CJ.joinN (o := o388) (fun s ρ K' L' => () = s ∧ Fits [] ρ ∧ K = K' ∧ F = L') ?_ ?_
    · skip
      refine CJ.block ?_
      refine CJ.front 1 rfl ?_
      refine CJ.loop (fun s ρ K' L' => ∃ (i429 : Int), i429 = s ∧ Fits [(2, .pointer (some ⟨b258, 0, none⟩)), (3, .pointer (some ⟨b259, 0, none⟩)), (5, .int .i64 i429)] ρ ∧ K = K' ∧ L' = Cl b258 26 [.slice adxa_0 xa.length cpxa_0] :: Cl b259 26 [.slice adxb_0 xb.length cpxb_0] :: F) ho389 ⟨0, rfl, ⟨rfl, rfl, rfl, trivial⟩, rfl, rfl⟩ ?_
      rintro s ρ _ _ r472 ⟨i429, rfl, hf470, rfl, rfl⟩ h469
      obtain ⟨ρ, rfl⟩ := hf470.ex
      refine CJ.seq ?_
      refine CJ.seq ?_
      refine CJ.region ?_
      refine J.val (v := .int .i64 i429) rfl rfl (V.mv rfl) ?_
      refine J.val rfl rfl (V.fad Try.underlying26 rfl nz24 rfl) ?_
      refine J.val (v := .slice adxa_0 xa.length cpxa_0) rfl rfl (V.ld rfl (Ld.sc sc24 (Rd.cl 0 rfl rfl))) ?_
      refine J.val (v := .int .i64 (((xa.length : Nat) : Int))) rfl rfl (V.len Try.underlying24 rfl) ?_
      refine J.val (v := .bool (decide (i429 < (((xa.length : Nat) : Int))))) rfl rfl (V.lss rfl rfl) ?_
      refine J.nil ?_
      refine CJ.cond rfl (fun hc473 => ?_) (fun hc473 => ?_)
      · have h469 := ct hc473 h469
        refine CJ.skip ?_
        refine CJ.seq ?_
        refine CJ.block ?_
        refine CJ.seq ?_
        refine CJ.mix [Cl b258 26 [.slice adxa_0 xa.length cpxa_0], Cl b259 26 [.slice adxb_0 xb.length cpxb_0]] [] [0, 1, 2, 3, 4, 5, 6, 7, 8, 9, 10, 11, 12] [] mixO (by decide +kernel) ⟨0, rfl, 0, rfl, trivial⟩ rfl rfl rfl ?_
        refine JM.nil ?_
        refine JQ.val rfl rfl (V.fad Try.underlying26 rfl nz24 rfl) ?_
        refine JQ.val (v := .slice adxa_0 xa.length cpxa_0) rfl rfl (V.ld rfl (Ld.sc sc24 (Rd.cl 0 rfl rfl))) ?_
        refine JQ.val (v := .int .i64 i429) rfl rfl (V.mv rfl) ?_
        obtain ⟨x492, hx493, h469⟩ := ob h469
        obtain ⟨p494, p495, p496⟩ := getI_some hx493
        obtain ⟨b497, o498, e499, a500⟩ := (fxa_0).at p495
        refine JQ.val rfl rfl (V.iad Try.underlying24 sz60 rfl e499 rfl p494 p496) ?_
        refine JQ.val rfl rfl (V.fad Try.underlying60 rfl nz3 rfl) ?_
        refine JQ.val (v := .int .i64 x492.1) rfl rfl (V.ld rfl (Ld.sc sc3 (Rd.k ((a500).fst).int (Hp.le_refl _)))) ?_
        refine JQ.val rfl rfl (V.fad Try.underlying26 rfl nz24 rfl) ?_
        refine JQ.val (v := .slice adxb_0 xb.length cpxb_0) rfl rfl (V.ld rfl (Ld.sc sc24 (Rd.cl 1 rfl rfl))) ?_
        refine JQ.val (v := .int .i64 i429) rfl rfl (V.mv rfl) ?_
        obtain ⟨x501, hx502, h469⟩ := ob h469
        obtain ⟨p503, p504, p505⟩ := getI_some hx502
        obtain ⟨b506, o507, e508, a509⟩ := (fxb_0).at p504
        refine JQ.val rfl rfl (V.iad Try.underlying24 sz60 rfl e508 rfl p503 p505) ?_
        refine JQ.val rfl rfl (V.fad Try.underlying60 rfl nz3 rfl) ?_
        refine JQ.val (v := .int .i64 x501.1) rfl rfl (V.ld rfl (Ld.sc sc3 (Rd.k ((a509).fst).int (Hp.le_refl _)))) ?_
        refine JQ.val (v := .bool (!decide (x492.1 = x501.1))) rfl rfl (V.neq rfl rfl) ?_
        refine JQ.nil ?_
        refine J.nil ?_
        refine CJ.cond rfl (fun hc510 => ?_) (fun hc510 => ?_)
        · have h469 := ct hc510 h469
          refine CJ.seq ?_
          refine CJ.region ?_
          refine J.val (v := .bool false) rfl rfl (V.as rfl) ?_
          refine J.nil ?_
          refine CJ.ret ?_
          have e := Option.some.inj h469
          subst e
          refine ⟨nofun, fun e => ?_⟩
          subst e
          refine .inr ⟨nofun, ?_⟩
          have e := Option.some.inj h
          subst e
          exact ⟨_, [], Res.one rfl rfl, ⟨false, rfl, rfl, rfl⟩, (Hp.le_refl _), fun w hs => (Sep.dropAt 0 rfl (Sep.dropAt 0 rfl hs))⟩
        · have h469 := cf hc510 h469
          refine CJ.skip ?_
          refine CJ.region ?_
          refine J.val (v := .int .i64 i429) rfl rfl (V.mv rfl) ?_
          refine J.val (v := .int .i64 (IntKind.wrap .i64 (i429 + 1))) rfl rfl (V.add rfl rfl) ?_
          refine J.val (v := .int .i64 (IntKind.wrap .i64 (i429 + 1))) rfl rfl (V.as rfl) ?_
          refine J.nil ?_
          have e := Option.some.inj h469
          subst e
          exact ⟨rfl, ⟨IntKind.wrap .i64 (i429 + 1), rfl, ⟨rfl, rfl, rfl, trivial⟩, rfl, rfl⟩⟩
      · have h469 := cf hc473 h469
        refine CJ.dropAt 0 rfl ?_
        refine CJ.dropAt 0 rfl ?_
        refine CJ.exit ?_
        have e := Option.some.inj h469
        subst e
        refine ⟨nofun, fun e => ?_⟩
        subst e
        exact .inl ⟨rfl, _, rfl, ⟨rfl, trivial, rfl, rfl⟩⟩
    · rintro s ρ _ _ ho511 ⟨rfl, hf512, rfl, rfl⟩
      subst ho511
      obtain ⟨ρ, rfl⟩ := hf512.ex
      refine PJ.done ?_
      refine CJ.seq ?_
      refine CJ.region ?_
      refine J.val (v := .bool true) rfl rfl (V.as rfl) ?_
      refine J.nil ?_
      refine CJ.ret ?_
      have e := Option.some.inj h
      subst e
      exact ⟨_, [], Res.one rfl rfl, ⟨true, rfl, rfl, rfl⟩, (Hp.le_refl _), fun w hs => hs⟩
noncomputable def fn_ref17_Bounds_l1 (xa : (List (Int × Int))) (xb : (List (Int × Int))) : Int → Option (Int ⊕ (Unit ⊕ Bool)) := fun (i413 : Int) => cond (decide (i413 < (((xa.length : Nat) : Int)))) ((getI xa i413).bind fun x476 => (getI xb i413).bind fun x485 => cond (!((decide (x476.1 = x485.1)) && ((decide (x476.2 = x485.2))))) (some (.inr ((.inr (false))))) (some (.inl (IntKind.wrap .i64 (i413 + 1))))) (some (.inr ((.inl ()))))
noncomputable def fn_ref17_Bounds (xa : (List (Int × Int))) (xb : (List (Int × Int))) : Option Bool :=
  cond (!decide ((((xa.length : Nat) : Int)) = (((xb.length : Nat) : Int)))) (some (false)) ((loop (fn_ref17_Bounds_l1 xa xb) 0 : Option (Unit ⊕ Bool)).bind fun o => match o with | .inr r => some r | .inl () => some (true))
set_option maxRecDepth 100000 in
set_option maxHeartbeats 4000000 in
theorem ref17_Bounds_ok {K : Hp} {xa : (List (Int × Int))} {xb : (List (Int × Int))} {adxa_0 : Option Addr} {cpxa_0 : Nat} {adxb_0 : Option Addr} {cpxb_0 : Nat} (fxa_0 : Is K (.sl (.cons (.int .i64) (.one (.int .i64)))) [.slice adxa_0 xa.length cpxa_0] xa) (fxb_0 : Is K (.sl (.cons (.int .i64) (.one (.int .i64)))) [.slice adxb_0 xb.length cpxb_0] xb) {r : Bool} (h : fn_ref17_Bounds xa xb = some r) :
    Tr Try.prog 23 #[.slice adxa_0 xa.length cpxa_0, .slice adxb_0 xb.length cpxb_0] K [] (fun v K' L' => (∃ (t249 : Bool), t249 = r ∧ .bool t249 = v ∧ L' = []) ∧ K = K') := by
  refine Tr.k ?_
  refine Tr.of Try.func23 rfl Try.ntmps23 rfl (fun E F => ?_)
  unfold fn_ref17_Bounds at h
  refine CJ.seq ?_
  refine CJ.region ?_
  refine J.val (v := .bool false) rfl rfl (V.as rfl) ?_
  refine J.nil ?_
  refine CJ.seq ?_
  refine CJ.seq ?_
  refine CJ.region ?_
  refine J.val (v := .slice adxa_0 xa.length cpxa_0) rfl rfl (V.mv rfl) ?_
  refine J.val (v := .int .i64 (((xa.length : Nat) : Int))) rfl rfl (V.len Try.underlying22 rfl) ?_
  refine J.val (v := .slice adxb_0 xb.length cpxb_0) rfl rfl (V.mv rfl) ?_
  refine J.val (v := .int .i64 (((xb.length : Nat) : Int))) rfl rfl (V.len Try.underlying22 rfl) ?_
  refine J.val (v := .bool (!decide ((((xa.length : Nat) : Int)) = (((xb.length : Nat) : Int))))) rfl rfl (V.neq rfl rfl) ?_
  refine J.nil ?_
  refine CJ.cond rfl (fun hc250 => ?_) (fun hc250 => ?_)
  · have h := ct hc250 h
    refine CJ.seq ?_
    refine CJ.region ?_
    refine J.val (v := .bool false) rfl rfl (V.as rfl) ?_
    refine J.nil ?_
    refine CJ.ret ?_
    have e := Option.some.inj h
    subst e
    exact ⟨_, [], Res.one rfl rfl, ⟨false, rfl, rfl, rfl⟩, (Hp.le_refl _), fun w hs => hs⟩
  · have h := cf hc250 h
    refine CJ.skip ?_
    refine CJ.seq ?_
    refine CJ.seq ?_
    refine CJ.region ?_
    refine J.val (v := .int .i64 0) rfl rfl (V.as rfl) ?_
    refine J.nil ?_
    obtain ⟨o372, ho373, h⟩ := ob h
    refine CJ.joinN (o := o372) (fun s ρ K' L' => () = s ∧ Fits [] ρ ∧ K = K' ∧ F = L') ?_ ?_
    · skip
      refine CJ.block ?_
      refine CJ.loop (fun s ρ K' L' => ∃ (i413 : Int), i413 = s ∧ Fits [(0, .slice adxa_0 xa.length cpxa_0), (1, .slice adxb_0 xb.length cpxb_0), (5, .int .i64 i413)] ρ ∧ K = K' ∧ F = L') ho373 ⟨0, rfl, ⟨rfl, rfl, rfl, trivial⟩, rfl, rfl⟩ ?_
      rintro s ρ _ _ r456 ⟨i413, rfl, hf454, rfl, rfl⟩ h453
      obtain ⟨ρ, rfl⟩ := hf454.ex
      refine CJ.seq ?_
      refine CJ.seq ?_
      refine CJ.region ?_
      refine J.val (v := .int .i64 i413) rfl rfl (V.mv rfl) ?_
      refine J.val (v := .slice adxa_0 xa.length cpxa_0) rfl rfl (V.mv rfl) ?_
      refine J.val (v := .int .i64 (((xa.length : Nat) : Int))) rfl rfl (V.len Try.underlying22 rfl) ?_
      refine J.val (v := .bool (decide (i413 < (((xa.length : Nat) : Int))))) rfl rfl (V.lss rfl rfl) ?_
      refine J.nil ?_
      refine CJ.cond rfl (fun hc457 => ?_) (fun hc457 => ?_)
      · have h453 := ct hc457 h453
        refine CJ.skip ?_
        refine CJ.seq ?_
        refine CJ.block ?_
        refine CJ.seq ?_
        refine CJ.mix [] [] [0, 1, 2, 3, 4, 5, 6, 7, 8] [] mixO (by decide +kernel) trivial rfl rfl rfl ?_
        refine JM.nil ?_
        refine JQ.val (v := .slice adxa_0 xa.length cpxa_0) rfl rfl (V.mv rfl) ?_
        refine JQ.val (v := .int .i64 i413) rfl rfl (V.mv rfl) ?_
        obtain ⟨x476, hx477, h453⟩ := ob h453
        obtain ⟨p478, p479, p480⟩ := getI_some hx477
        obtain ⟨b481, o482, e483, a484⟩ := (fxa_0).at p479
        refine JQ.val rfl rfl (V.iad Try.underlying22 sz63 rfl e483 rfl p478 p480) ?_
        refine JQ.val (v := .agg #[.int .i64 x476.1, .int .i64 x476.2]) rfl rfl (V.ld rfl (Ld.aggK (cs := [.int .i64 x476.1, .int .i64 x476.2]) Try.underlying63 sz63 rfl ⟨((a484).fst).int, (((a484).snd).one).int, trivial⟩ (Hp.le_refl _))) ?_
        refine JQ.val (v := .slice adxb_0 xb.length cpxb_0) rfl rfl (V.mv rfl) ?_
        refine JQ.val (v := .int .i64 i413) rfl rfl (V.mv rfl) ?_
        obtain ⟨x485, hx486, h453⟩ := ob h453
        obtain ⟨p487, p488, p489⟩ := getI_some hx486
        obtain ⟨b490, o491, e492, a493⟩ := (fxb_0).at p488
        refine JQ.val rfl rfl (V.iad Try.underlying22 sz63 rfl e492 rfl p487 p489) ?_
        refine JQ.val (v := .agg #[.int .i64 x485.1, .int .i64 x485.2]) rfl rfl (V.ld rfl (Ld.aggK (cs := [.int .i64 x485.1, .int .i64 x485.2]) Try.underlying63 sz63 rfl ⟨((a493).fst).int, (((a493).snd).one).int, trivial⟩ (Hp.le_refl _))) ?_
        refine JQ.val (v := .bool (!((decide (x476.1 = x485.1)) && ((decide (x476.2 = x485.2)))))) rfl rfl (V.nest eqg63 (EqIn.st (d := 9999) rfl Try.underlying63 sih63 (EqFs.cons (by decide) (Ld0.sc sc3 rfl) (Ld0.sc sc3 rfl) (EqIn.int (d := 9998) rfl Try.underlying3) (EqFs.last (by decide) (Ld0.sc sc3 rfl) (Ld0.sc sc3 rfl) (EqIn.int (d := 9998) rfl Try.underlying3)))) rfl rfl) ?_
        refine JQ.nil ?_
        refine J.nil ?_
        refine CJ.cond rfl (fun hc494 => ?_) (fun hc494 => ?_)
        · have h453 := ct hc494 h453
          refine CJ.seq ?_
          refine CJ.region ?_
          refine J.val (v := .bool false) rfl rfl (V.as rfl) ?_
          refine J.nil ?_
          refine CJ.ret ?_
          have e := Option.some.inj h453
          subst e
          refine ⟨nofun, fun e => ?_⟩
          subst e
          refine .inr ⟨nofun, ?_⟩
          have e := Option.some.inj h
          subst e
          exact ⟨_, [], Res.one rfl rfl, ⟨false, rfl, rfl, rfl⟩, (Hp.le_refl _), fun w hs => hs⟩
        · have h453 := cf hc494 h453
          refine CJ.skip ?_
          refine CJ.region ?_
          refine J.val (v := .int .i64 i413) rfl rfl (V.mv rfl) ?_
          refine J.val (v := .int .i64 (IntKind.wrap .i64 (i413 + 1))) rfl rfl (V.add rfl rfl) ?_
          refine J.val (v := .int .i64 (IntKind.wrap .i64 (i413 + 1))) rfl rfl (V.as rfl) ?_
          refine J.nil ?_
          have e := Option.some.inj h453
          subst e
          exact ⟨rfl, ⟨IntKind.wrap .i64 (i413 + 1), rfl, ⟨rfl, rfl, rfl, trivial⟩, rfl, rfl⟩⟩
      · have h453 := cf hc457 h453
        refine CJ.exit ?_
        have e := Option.some.inj h453
        subst e
        refine ⟨nofun, fun e => ?_⟩
        subst e
        exact .inl ⟨rfl, _, rfl, ⟨rfl, trivial, rfl, rfl⟩⟩
    · rintro s ρ _ _ ho495 ⟨rfl, hf496, rfl, rfl⟩
      subst ho495
      obtain ⟨ρ, rfl⟩ := hf496.ex
      refine PJ.done ?_
      refine CJ.seq ?_
      refine CJ.region ?_
      refine J.val (v := .bool true) rfl rfl (V.as rfl) ?_
      refine J.nil ?_
      refine CJ.ret ?_
      have e := Option.some.inj h
      subst e
      exact ⟨_, [], Res.one rfl rfl, ⟨true, rfl, rfl, rfl⟩, (Hp.le_refl _), fun w hs => hs⟩
noncomputable def fn_ref17_Types_l1 (xa : (List (List (Int × Bool)))) (xb : (List (List (Int × Bool)))) : Int → Option (Int ⊕ (Unit ⊕ Bool)) := fun (i693 : Int) => cond (decide (i693 < (((xa.length : Nat) : Int)))) ((getI xa i693).bind fun x798 => (getI xb i693).bind fun x811 => (fn_ref15_Same x798 x811).bind fun t826 => cond (!t826) (some (.inr ((.inr (false))))) (some (.inl (IntKind.wrap .i64 (i693 + 1))))) (some (.inr ((.inl ()))))
noncomputable def fn_ref17_Types (xa : (List (List (Int × Bool)))) (xb : (List (List (Int × Bool)))) : Option Bool :=
  cond (!decide ((((xa.length : Nat) : Int)) = (((xb.length : Nat) : Int)))) (some (false)) ((loop (fn_ref17_Types_l1 xa xb) 0 : Option (Unit ⊕ Bool)).bind fun o => match o with | .inr r => some r | .inl () => some (true))
set_option maxRecDepth 100000 in
set_option maxHeartbeats 4000000 in
theorem ref17_Types_ok {K : Hp} {xa : (List (List (Int × Bool)))} {xb : (List (List (Int × Bool)))} {adxa_0 : Option Addr} {cpxa_0 : Nat} {adxb_0 : Option Addr} {cpxb_0 : Nat} (fxa_0 : Is K (.sl (.one (.sl (.cons (.int .i64) (.one .bool))))) [.slice adxa_0 xa.length cpxa_0] xa) (fxb_0 : Is K (.sl (.one (.sl (.cons (.int .i64) (.one .bool))))) [.slice adxb_0 xb.length cpxb_0] xb) {r : Bool} (h : fn_ref17_Types xa xb = some r) :
    Tr Try.prog 49 #[.slice adxa_0 xa.length cpxa_0, .slice adxb_0 xb.length cpxb_0] K [] (fun v K' L' => (∃ (t417 : Bool), t417 = r ∧ .bool t417 = v ∧ L' = []) ∧ K = K') := by
  refine Tr.k ?_
  refine Tr.of Try.func49 rfl Try.ntmps49 rfl (fun E F => ?_)
  unfold fn_ref17_Types at h
  refine CJ.seq ?_
  refine CJ.region ?_
  refine J.val (v := .bool false) rfl rfl (V.as rfl) ?_
  refine J.nil ?_
  refine CJ.seq ?_
  refine CJ.seq ?_
  refine CJ.region ?_
  refine J.val (v := .slice adxa_0 xa.length cpxa_0) rfl rfl (V.mv rfl) ?_
  refine J.val (v := .int .i64 (((xa.length : Nat) : Int))) rfl rfl (V.len Try.underlying23 rfl) ?_
  refine J.val (v := .slice adxb_0 xb.length cpxb_0) rfl rfl (V.mv rfl) ?_
  refine J.val (v := .int .i64 (((xb.length : Nat) : Int))) rfl rfl (V.len Try.underlying23 rfl) ?_
  refine J.val (v := .bool (!decide ((((xa.length : Nat) : Int)) = (((xb.length : Nat) : Int))))) rfl rfl (V.neq rfl rfl) ?_
  refine J.nil ?_
  refine CJ.cond rfl (fun hc418 => ?_) (fun hc418 => ?_)
  · have h := ct hc418 h
    refine CJ.seq ?_
    refine CJ.region ?_
    refine J.val (v := .bool false) rfl rfl (V.as rfl) ?_
    refine J.nil ?_
    refine CJ.ret ?_
    have e := Option.some.inj h
    subst e
    exact ⟨_, [], Res.one rfl rfl, ⟨false, rfl, rfl, rfl⟩, (Hp.le_refl _), fun w hs => hs⟩
  · have h := cf hc418 h
    refine CJ.skip ?_
    refine CJ.seq ?_
    refine CJ.seq ?_
    refine CJ.region ?_
    refine J.val (v := .int .i64 0) rfl rfl (V.as rfl) ?_
    refine J.nil ?_
    obtain ⟨o624, ho625, h⟩ := ob h
    refine CJ.joinN (o := o624) (fun s ρ K' L' => () = s ∧ Fits [] ρ ∧ K = K' ∧ F = L') ?_ ?_
    · skip
      refine CJ.block ?_
      refine CJ.loop (fun s ρ K' L' => ∃ (i693 : Int), i693 = s ∧ Fits [(0, .slice adxa_0 xa.length cpxa_0), (1, .slice adxb_0 xb.length cpxb_0), (5, .int .i64 i693)] ρ ∧ K = K' ∧ F = L') ho625 ⟨0, rfl, ⟨rfl, rfl, rfl, trivial⟩, rfl, rfl⟩ ?_
      rintro s ρ _ _ r764 ⟨i693, rfl, hf762, rfl, rfl⟩ h761
      obtain ⟨ρ, rfl⟩ := hf762.ex
      refine CJ.seq ?_
      refine CJ.seq ?_
      refine CJ.region ?_
      refine J.val (v := .int .i64 i693) rfl rfl (V.mv rfl) ?_
      refine J.val (v := .slice adxa_0 xa.length cpxa_0) rfl rfl (V.mv rfl) ?_
      refine J.val (v := .int .i64 (((xa.length : Nat) : Int))) rfl rfl (V.len Try.underlying23 rfl) ?_
      refine J.val (v := .bool (decide (i693 < (((xa.length : Nat) : Int))))) rfl rfl (V.lss rfl rfl) ?_
      refine J.nil ?_
      refine CJ.cond rfl (fun hc765 => ?_) (fun hc765 => ?_)
      · have h761 := ct hc765 h761
        refine CJ.skip ?_
        refine CJ.seq ?_
        refine CJ.block ?_
        refine CJ.seq ?_
        refine CJ.mix [] [([0, 1, 2, 3, 4, 5, 6, 7], 8)] [9] [] mixO (by decide +kernel) trivial rfl rfl rfl ?_
        refine JM.cons ?_
        refine JQ.val (v := .slice adxa_0 xa.length cpxa_0) rfl rfl (V.mv rfl) ?_
        refine JQ.val (v := .int .i64 i693) rfl rfl (V.mv rfl) ?_
        obtain ⟨x798, hx799, h761⟩ := ob h761
        obtain ⟨p800, p801, p802⟩ := getI_some hx799
        obtain ⟨b803, o804, e805, a806⟩ := (fxa_0).at p801
        refine JQ.val rfl rfl (V.iad Try.underlying23 sz26 rfl e805 rfl p800 p802) ?_
        obtain ⟨ad807, cp808, c809, f810⟩ := ((a806).one).sl
        refine JQ.val (v := .agg #[.slice ad807 x798.length cp808]) rfl rfl (V.ld rfl (Ld.aggK (cs := [.slice ad807 x798.length cp808]) Try.underlying26 sz26 rfl ⟨c809, trivial⟩ (Hp.le_refl _))) ?_
        refine JQ.val (v := .slice adxb_0 xb.length cpxb_0) rfl rfl (V.mv rfl) ?_
        refine JQ.val (v := .int .i64 i693) rfl rfl (V.mv rfl) ?_
        obtain ⟨x811, hx812, h761⟩ := ob h761
        obtain ⟨p813, p814, p815⟩ := getI_some hx812
        obtain ⟨b816, o817, e818, a819⟩ := (fxb_0).at p814
        refine JQ.val rfl rfl (V.iad Try.underlying23 sz26 rfl e818 rfl p813 p815) ?_
        obtain ⟨ad820, cp821, c822, f823⟩ := ((a819).one).sl
        refine JQ.val (v := .agg #[.slice ad820 x811.length cp821]) rfl rfl (V.ld rfl (Ld.aggK (cs := [.slice ad820 x811.length cp821]) Try.underlying26 sz26 rfl ⟨c822, trivial⟩ (Hp.le_refl _))) ?_
        refine JQ.nil ?_
        obtain ⟨r824, hr825, h761⟩ := ob h761
        refine JA.op rfl (A.call (L1 := []) Try.call22 rfl (ref15_Same_ok f810 f823 hr825) rfl rfl) ?_
        rintro _ _ _ ⟨v827, _, rfl, ⟨⟨t826, rfl, rfl, rfl⟩, rfl⟩, _, rfl⟩
        refine ⟨fun w hs => Hold.sub (Hp.le_refl _) trivial hs, ?_⟩
        refine JM.nil ?_
        refine JQ.val (v := .bool (!t826)) rfl rfl (V.not rfl) ?_
        refine JQ.nil ?_
        refine J.nil ?_
        refine CJ.cond rfl (fun hc830 => ?_) (fun hc830 => ?_)
        · have h761 := ct hc830 h761
          refine CJ.seq ?_
          refine CJ.region ?_
          refine J.val (v := .bool false) rfl rfl (V.as rfl) ?_
          refine J.nil ?_
          refine CJ.ret ?_
          have e := Option.some.inj h761
          subst e
          refine ⟨nofun, fun e => ?_⟩
          subst e
          refine .inr ⟨nofun, ?_⟩
          have e := Option.some.inj h
          subst e
          exact ⟨_, [], Res.one rfl rfl, ⟨false, rfl, rfl, rfl⟩, (Hp.le_refl _), fun w hs => hs⟩
        · have h761 := cf hc830 h761
          refine CJ.skip ?_
          refine CJ.region ?_
          refine J.val (v := .int .i64 i693) rfl rfl (V.mv rfl) ?_
          refine J.val (v := .int .i64 (IntKind.wrap .i64 (i693 + 1))) rfl rfl (V.add rfl rfl) ?_
          refine J.val (v := .int .i64 (IntKind.wrap .i64 (i693 + 1))) rfl rfl (V.as rfl) ?_
          refine J.nil ?_
          have e := Option.some.inj h761
          subst e
          exact ⟨rfl, ⟨IntKind.wrap .i64 (i693 + 1), rfl, ⟨rfl, rfl, rfl, trivial⟩, rfl, rfl⟩⟩
      · have h761 := cf hc765 h761
        refine CJ.exit ?_
        have e := Option.some.inj h761
        subst e
        refine ⟨nofun, fun e => ?_⟩
        subst e
        exact .inl ⟨rfl, _, rfl, ⟨rfl, trivial, rfl, rfl⟩⟩
    · rintro s ρ _ _ ho831 ⟨rfl, hf832, rfl, rfl⟩
      subst ho831
      obtain ⟨ρ, rfl⟩ := hf832.ex
      refine PJ.done ?_
      refine CJ.seq ?_
      refine CJ.region ?_
      refine J.val (v := .bool true) rfl rfl (V.as rfl) ?_
      refine J.nil ?_
      refine CJ.ret ?_
      have e := Option.some.inj h
      subst e
      exact ⟨_, [], Res.one rfl rfl, ⟨true, rfl, rfl, rfl⟩, (Hp.le_refl _), fun w hs => hs⟩

noncomputable def fn_ref17_Same (xa : (Int × (List (Int × Int)) × (List (List (Int × Bool))) × (List (Int × Bool)))) (xb : (Int × (List (Int × Int)) × (List (List (Int × Bool))) × (List (Int × Bool)))) : Option Bool :=
  (cond (decide (xa.1 = xb.1)) ((fn_ref17_Bounds xa.2.1 xb.2.1).bind fun t66 => some (t66)) (some (false))).bind fun t61 => (cond (t61) ((fn_ref17_Types xa.2.2.1 xb.2.2.1).bind fun t82 => some (t82)) (some (false))).bind fun t77 => (cond (t77) ((fn_ref15_Same xa.2.2.2 xb.2.2.2).bind fun t98 => some (t98)) (some (false))).bind fun t93 => some (t93)
set_option maxRecDepth 100000 in
set_option maxHeartbeats 4000000 in
theorem ref17_Same_ok {K : Hp} {xa : (Int × (List (Int × Int)) × (List (List (Int × Bool))) × (List (Int × Bool)))} {xb : (Int × (List (Int × Int)) × (List (List (Int × Bool))) × (List (Int × Bool)))} {adxa_1 : Option Addr} {cpxa_1 : Nat} {adxa_2 : Option Addr} {cpxa_2 : Nat} {adxa_3 : Option Addr} {cpxa_3 : Nat} {adxb_1 : Option Addr} {cpxb_1 : Nat} {adxb_2 : Option Addr} {cpxb_2 : Nat} {adxb_3 : Option Addr} {cpxb_3 : Nat} (fxa_1 : Is K (.sl (.cons (.int .i64) (.one (.int .i64)))) [.slice adxa_1 xa.2.1.length cpxa_1] xa.2.1) (fxa_2 : Is K (.sl (.one (.sl (.cons (.int .i64) (.one .bool))))) [.slice adxa_2 xa.2.2.1.length cpxa_2] xa.2.2.1) (fxa_3 : Is K (.sl (.cons (.int .i64) (.one .bool))) [.slice adxa_3 xa.2.2.2.length cpxa_3] xa.2.2.2) (fxb_1 : Is K (.sl (.cons (.int .i64) (.one (.int .i64)))) [.slice adxb_1 xb.2.1.length cpxb_1] xb.2.1) (fxb_2 : Is K (.sl (.one (.sl (.cons (.int .i64) (.one .bool))))) [.slice adxb_2 xb.2.2.1.length cpxb_2] xb.2.2.1) (fxb_3 : Is K (.sl (.cons (.int .i64) (.one .bool))) [.slice adxb_3 xb.2.2.2.length cpxb_3] xb.2.2.2) {r : Bool} (h : fn_ref17_Same xa xb = some r) :
    Tr Try.prog 24 #[.agg #[.int .i64 xa.1, .slice adxa_1 xa.2.1.length cpxa_1, .slice adxa_2 xa.2.2.1.length cpxa_2, .slice adxa_3 xa.2.2.2.length cpxa_3], .agg #[.int .i64 xb.1, .slice adxb_1 xb.2.1.length cpxb_1, .slice adxb_2 xb.2.2.1.length cpxb_2, .slice adxb_3 xb.2.2.2.length cpxb_3]] K [] (fun v K' L' => (∃ (t51 : Bool), t51 = r ∧ .bool t51 = v ∧ L' = []) ∧ K = K') := by
  refine Tr.k ?_
  refine Tr.of Try.func24 rfl Try.ntmps24 rfl (fun E F => ?_)
  unfold fn_ref17_Same at h
  refine CJ.seq ?_
  refine CJ.region ?_
  refine J.op rfl (A.box (v := .agg #[.int .i64 xa.1, .slice adxa_1 xa.2.1.length cpxa_1, .slice adxa_2 xa.2.2.1.length cpxa_2, .slice adxa_3 xa.2.2.2.length cpxa_3]) (cs := [.int .i64 xa.1, .slice adxa_1 xa.2.1.length cpxa_1, .slice adxa_2 xa.2.2.1.length cpxa_2, .slice adxa_3 xa.2.2.2.length cpxa_3]) rfl rfl) ?_
  rintro _ _ _ ⟨b52, rfl, rfl, rfl⟩
  refine J.op rfl (A.box (v := .agg #[.int .i64 xb.1, .slice adxb_1 xb.2.1.length cpxb_1, .slice adxb_2 xb.2.2.1.length cpxb_2, .slice adxb_3 xb.2.2.2.length cpxb_3]) (cs := [.int .i64 xb.1, .slice adxb_1 xb.2.1.length cpxb_1, .slice adxb_2 xb.2.2.1.length cpxb_2, .slice adxb_3 xb.2.2.2.length cpxb_3]) rfl rfl) ?_
  rintro _ _ _ ⟨b53, rfl, rfl, rfl⟩
  refine J.val (v := .bool false) rfl rfl (V.as rfl) ?_
  refine J.nil ?_
  refine CJ.seq ?_
  refine CJ.region ?_
  refine J.val rfl rfl (V.fad Try.underlying28 rfl nz3 rfl) ?_
  refine J.val (v := .int .i64 xa.1) rfl rfl (V.ld rfl (Ld.sc sc3 (Rd.cl 1 rfl rfl))) ?_
  refine J.val rfl rfl (V.fad Try.underlying28 rfl nz3 rfl) ?_
  refine J.val (v := .int .i64 xb.1) rfl rfl (V.ld rfl (Ld.sc sc3 (Rd.cl 0 rfl rfl))) ?_
  refine J.val (v := .bool (decide (xa.1 = xb.1))) rfl rfl (V.eql rfl rfl) ?_
  refine J.val (v := .bool (decide (xa.1 = xb.1))) rfl rfl (V.mv rfl) ?_
  refine J.cut 6 ?_
  obtain ⟨t61, ht62, h⟩ := ob h
  refine @J.meet _ _ _ _ _ _ _ _ _ _ (fun ρ K' L' => Fits [(16, .bool t61), (2, .pointer (some ⟨b52, 0, none⟩)), (3, .pointer (some ⟨b53, 0, none⟩))] ρ ∧ K = K' ∧ L' = Cl b53 28 [.int .i64 xb.1, .slice adxb_1 xb.2.1.length cpxb_1, .slice adxb_2 xb.2.2.1.length cpxb_2, .slice adxb_3 xb.2.2.2.length cpxb_3] :: Cl b52 28 [.int .i64 xa.1, .slice adxa_1 xa.2.1.length cpxa_1, .slice adxa_2 xa.2.2.1.length cpxa_2, .slice adxa_3 xa.2.2.2.length cpxa_3] :: F) ?_ ?_
  · skip
    rcases bt (decide (xa.1 = xb.1)) with hc63 | hc63
    · have ht62 := ct hc63 ht62
      refine J.run rfl rfl rfl hc63 ?_
      refine J.val rfl rfl (V.fad Try.underlying28 rfl nz22 rfl) ?_
      refine J.run rfl rfl rfl hc63 ?_
      refine J.val (v := .slice adxa_1 xa.2.1.length cpxa_1) rfl rfl (V.ld rfl (Ld.sc sc22 (Rd.cl 1 rfl rfl))) ?_
      refine J.run rfl rfl rfl hc63 ?_
      refine J.val rfl rfl (V.fad Try.underlying28 rfl nz22 rfl) ?_
      refine J.run rfl rfl rfl hc63 ?_
      refine J.val (v := .slice adxb_1 xb.2.1.length cpxb_1) rfl rfl (V.ld rfl (Ld.sc sc22 (Rd.cl 0 rfl rfl))) ?_
      refine J.run rfl rfl rfl hc63 ?_
      obtain ⟨r64, hr65, ht62⟩ := ob ht62
      refine J.op rfl (A.call (L1 := []) Try.call23 rfl (ref17_Bounds_ok fxa_1 fxb_1 hr65) rfl rfl) ?_
      rintro _ _ _ ⟨v67, _, rfl, ⟨⟨t66, rfl, rfl, rfl⟩, rfl⟩, _, rfl⟩
      refine J.val (v := .bool t66) rfl rfl (V.pickT rfl hc63 rfl) ?_
      refine J.nil ?_
      have e := Option.some.inj ht62
      subst e
      exact ⟨rfl, ⟨rfl, rfl, rfl, trivial⟩, rfl, rfl⟩
    · have ht62 := cf hc63 ht62
      refine J.skip rfl rfl rfl rfl hc63 ?_
      refine J.skip rfl rfl rfl rfl hc63 ?_
      refine J.skip rfl rfl rfl rfl hc63 ?_
      refine J.skip rfl rfl rfl rfl hc63 ?_
      refine J.skip rfl rfl rfl rfl hc63 ?_
      refine J.val (v := .bool false) rfl rfl (V.pickF rfl hc63 rfl) ?_
      refine J.nil ?_
      have e := Option.some.inj ht62
      subst e
      exact ⟨rfl, ⟨rfl, rfl, rfl, trivial⟩, rfl, rfl⟩
  · rintro ρ _ _ ⟨hf, rfl, rfl⟩
    obtain ⟨ρ, rfl⟩ := hf.ex
    refine J.val (v := .bool t61) rfl rfl (V.mv rfl) ?_
    refine J.cut 6 ?_
    obtain ⟨t77, ht78, h⟩ := ob h
    refine @J.meet _ _ _ _ _ _ _ _ _ _ (fun ρ K' L' => Fits [(23, .bool t77), (2, .pointer (some ⟨b52, 0, none⟩)), (3, .pointer (some ⟨b53, 0, none⟩))] ρ ∧ K = K' ∧ L' = Cl b53 28 [.int .i64 xb.1, .slice adxb_1 xb.2.1.length cpxb_1, .slice adxb_2 xb.2.2.1.length cpxb_2, .slice adxb_3 xb.2.2.2.length cpxb_3] :: Cl b52 28 [.int .i64 xa.1, .slice adxa_1 xa.2.1.length cpxa_1, .slice adxa_2 xa.2.2.1.length cpxa_2, .slice adxa_3 xa.2.2.2.length cpxa_3] :: F) ?_ ?_
    · skip
      rcases bt (t61) with hc79 | hc79
      · have ht78 := ct hc79 ht78
        refine J.run rfl rfl rfl hc79 ?_
        refine J.val rfl rfl (V.fad Try.underlying28 rfl nz23 rfl) ?_
        refine J.run rfl rfl rfl hc79 ?_
        refine J.val (v := .slice adxa_2 xa.2.2.1.length cpxa_2) rfl rfl (V.ld rfl (Ld.sc sc23 (Rd.cl 1 rfl rfl))) ?_
        refine J.run rfl rfl rfl hc79 ?_
        refine J.val rfl rfl (V.fad Try.underlying28 rfl nz23 rfl) ?_
        refine J.run rfl rfl rfl hc79 ?_
        refine J.val (v := .slice adxb_2 xb.2.2.1.length cpxb_2) rfl rfl (V.ld rfl (Ld.sc sc23 (Rd.cl 0 rfl rfl))) ?_
        refine J.run rfl rfl rfl hc79 ?_
        obtain ⟨r80, hr81, ht78⟩ := ob ht78
        refine J.op rfl (A.call (L1 := []) Try.call49 rfl (ref17_Types_ok fxa_2 fxb_2 hr81) rfl rfl) ?_
        rintro _ _ _ ⟨v83, _, rfl, ⟨⟨t82, rfl, rfl, rfl⟩, rfl⟩, _, rfl⟩
        refine J.val (v := .bool t82) rfl rfl (V.pickT rfl hc79 rfl) ?_
        refine J.nil ?_
        have e := Option.some.inj ht78
        subst e
        exact ⟨rfl, ⟨rfl, rfl, rfl, trivial⟩, rfl, rfl⟩
      · have ht78 := cf hc79 ht78
        refine J.skip rfl rfl rfl rfl hc79 ?_
        refine J.skip rfl rfl rfl rfl hc79 ?_
        refine J.skip rfl rfl rfl rfl hc79 ?_
        refine J.skip rfl rfl rfl rfl hc79 ?_
        refine J.skip rfl rfl rfl rfl hc79 ?_
        refine J.val (v := .bool false) rfl rfl (V.pickF rfl hc79 rfl) ?_
        refine J.nil ?_
        have e := Option.some.inj ht78
        subst e
        exact ⟨rfl, ⟨rfl, rfl, rfl, trivial⟩, rfl, rfl⟩
    · rintro ρ _ _ ⟨hf, rfl, rfl⟩
      obtain ⟨ρ, rfl⟩ := hf.ex
      refine J.val (v := .bool t77) rfl rfl (V.mv rfl) ?_
      refine J.cut 6 ?_
      obtain ⟨t93, ht94, h⟩ := ob h
      refine @J.meet _ _ _ _ _ _ _ _ _ _ (fun ρ K' L' => Fits [(30, .bool t93)] ρ ∧ K = K' ∧ L' = Cl b53 28 [.int .i64 xb.1, .slice adxb_1 xb.2.1.length cpxb_1, .slice adxb_2 xb.2.2.1.length cpxb_2, .slice adxb_3 xb.2.2.2.length cpxb_3] :: Cl b52 28 [.int .i64 xa.1, .slice adxa_1 xa.2.1.length cpxa_1, .slice adxa_2 xa.2.2.1.length cpxa_2, .slice adxa_3 xa.2.2.2.length cpxa_3] :: F) ?_ ?_
      · skip
        rcases bt (t77) with hc95 | hc95
        · have ht94 := ct hc95 ht94
          refine J.run rfl rfl rfl hc95 ?_
          refine J.val rfl rfl (V.fad Try.underlying28 rfl nz26 rfl) ?_
          refine J.run rfl rfl rfl hc95 ?_
          refine J.val (v := .agg #[.slice adxa_3 xa.2.2.2.length cpxa_3]) rfl rfl (V.ld rfl (Ld.agg (cs := [.slice adxa_3 xa.2.2.2.length cpxa_3]) Try.underlying26 sz26 rfl (Rd.cls 1 3 rfl rfl))) ?_
          refine J.run rfl rfl rfl hc95 ?_
          refine J.val rfl rfl (V.fad Try.underlying28 rfl nz26 rfl) ?_
          refine J.run rfl rfl rfl hc95 ?_
          refine J.val (v := .agg #[.slice adxb_3 xb.2.2.2.length cpxb_3]) rfl rfl (V.ld rfl (Ld.agg (cs := [.slice adxb_3 xb.2.2.2.length cpxb_3]) Try.underlying26 sz26 rfl (Rd.cls 0 3 rfl rfl))) ?_
          refine J.run rfl rfl rfl hc95 ?_
          obtain ⟨r96, hr97, ht94⟩ := ob ht94
          refine J.op rfl (A.call (L1 := []) Try.call22 rfl (ref15_Same_ok fxa_3 fxb_3 hr97) rfl rfl) ?_
          rintro _ _ _ ⟨v99, _, rfl, ⟨⟨t98, rfl, rfl, rfl⟩, rfl⟩, _, rfl⟩
          refine J.val (v := .bool t98) rfl rfl (V.pickT rfl hc95 rfl) ?_
          refine J.nil ?_
          have e := Option.some.inj ht94
          subst e
          exact ⟨rfl, ⟨rfl, trivial⟩, rfl, rfl⟩
        · have ht94 := cf hc95 ht94
          refine J.skip rfl rfl rfl rfl hc95 ?_
          refine J.skip rfl rfl rfl rfl hc95 ?_
          refine J.skip rfl rfl rfl rfl hc95 ?_
          refine J.skip rfl rfl rfl rfl hc95 ?_
          refine J.skip rfl rfl rfl rfl hc95 ?_
          refine J.val (v := .bool false) rfl rfl (V.pickF rfl hc95 rfl) ?_
          refine J.nil ?_
          have e := Option.some.inj ht94
          subst e
          exact ⟨rfl, ⟨rfl, trivial⟩, rfl, rfl⟩
      · rintro ρ _ _ ⟨hf, rfl, rfl⟩
        obtain ⟨ρ, rfl⟩ := hf.ex
        refine J.val (v := .bool t93) rfl rfl (V.as rfl) ?_
        refine J.nil ?_
        refine CJ.ret ?_
        have e := Option.some.inj h
        subst e
        exact ⟨_, [], Res.one rfl rfl, ⟨t93, rfl, rfl, rfl⟩, (Hp.le_refl _), fun w hs => (Sep.dropAt 0 rfl (Sep.dropAt 0 rfl hs))⟩

noncomputable def fn_law17_SigTakes (xa : (List UInt8)) (xb : Int) : Option Bool :=
  cond (decide (300 < (((xa.length : Nat) : Int)))) ((fn_law17_awake).bind fun t237 => some (t237)) ((fn_sig_TakeType xa).bind fun (l243, i244, i245) => (fn_ref17_TakeType xa).bind fun (l256, i257, i258) => (fn_sig_TakeBounds xa xb).bind fun (l269, i270, i271) => (fn_ref17_TakeBounds xa xb).bind fun (l281, i282, i283) => (fn_sig_Take xa).bind fun (i293, l294, l295, l296, i297, i298) => (fn_ref17_Take xa).bind fun (i317, l318, l319, l320, i321, i322) => (fn_ref15_Same l243 l256).bind fun t347 => (cond ((t347 && (decide (i244 = i257))) && (decide (i245 = i258))) ((fn_ref17_Bounds l269 l281).bind fun t381 => some (t381)) (some (false))).bind fun t370 => (cond ((t370 && (decide (i270 = i282))) && (decide (i271 = i283))) ((fn_ref17_Same (i293, l294, l295, l296) (i317, l318, l319, l320)).bind fun t439 => some (t439)) (some (false))).bind fun t416 => (cond ((t416 && (decide (i297 = i321))) && (decide (i298 = i322))) ((fn_law17_awake).bind fun t461 => some (t461)) (some (false))).bind fun t456 => some (t456))
set_option maxRecDepth 100000 in
set_option maxHeartbeats 4000000 in
theorem law17_SigTakes_ok {K : Hp} {xa : (List UInt8)} {xb : Int}   {r : Bool} (h : fn_law17_SigTakes xa xb = some r) :
    Tr Try.prog 4 #[.string ⟨xa.toArray⟩, .int .i64 xb] K [] (fun v K' L' => (∃ (t233 : Bool), t233 = r ∧ .bool t233 = v ∧ L' = []) ∧ K = K') := by
  refine Tr.k ?_
  refine Tr.of Try.func4 rfl Try.ntmps4 rfl (fun E F => ?_)
  unfold fn_law17_SigTakes at h
  refine CJ.seq ?_
  refine CJ.region ?_
  refine J.val (v := .bool false) rfl rfl (V.as rfl) ?_
  refine J.nil ?_
  refine CJ.seq ?_
  refine CJ.seq ?_
  refine CJ.region ?_
  refine J.val (v := .string ⟨xa.toArray⟩) rfl rfl (V.mv rfl) ?_
  refine J.val (v := .int .i64 (((xa.length : Nat) : Int))) rfl rfl (V.lens Try.underlying9 rfl) ?_
  refine J.val (v := .bool (decide (300 < (((xa.length : Nat) : Int))))) rfl rfl (V.gtr rfl rfl) ?_
  refine J.nil ?_
  refine CJ.cond rfl (fun hc234 => ?_) (fun hc234 => ?_)
  · have h := ct hc234 h
    refine CJ.seq ?_
    refine CJ.region ?_
    obtain ⟨r235, hr236, h⟩ := ob h
    refine J.op rfl (A.call (L1 := []) Try.call9 rfl (law17_awake_ok hr236) rfl rfl) ?_
    rintro _ _ _ ⟨v238, _, rfl, ⟨⟨t237, rfl, rfl, rfl⟩, rfl⟩, _, rfl⟩
    refine J.val (v := .bool t237) rfl rfl (V.as rfl) ?_
    refine J.nil ?_
    refine CJ.ret ?_
    have e := Option.some.inj h
    subst e
    exact ⟨_, [], Res.one rfl rfl, ⟨t237, rfl, rfl, rfl⟩, (Hp.le_refl _), fun w hs => hs⟩
  · have h := cf hc234 h
    refine CJ.skip ?_
    refine CJ.seq ?_
    refine CJ.region ?_
    refine J.val (v := .string ⟨xa.toArray⟩) rfl rfl (V.mv rfl) ?_
    obtain ⟨r241, hr242, h⟩ := ob h
    refine J.op rfl (A.call (L1 := []) Try.call16 rfl (sig_TakeType_ok hr242) rfl rfl) ?_
    rintro _ _ _ ⟨v249, _, rfl, ⟨⟨l243, i244, i245, ad246, cp247, rfl, rfl, rfl⟩, rfl⟩, _, rfl⟩
    refine J.wit Row.hn (fun hn248 => ?_)
    refine J.val (v := .tuple #[.agg #[.slice ad246 l243.length cp247], .int .i64 i244, .int .i64 i245]) rfl rfl (V.mv rfl) ?_
    refine J.val (v := .agg #[.slice ad246 l243.length cp247]) rfl rfl (V.ext rfl rfl) ?_
    refine J.val (v := .int .i64 i244) rfl rfl (V.ext rfl rfl) ?_
    refine J.val (v := .int .i64 i245) rfl rfl (V.ext rfl rfl) ?_
    refine J.op rfl (A.alloc (cs := [.slice none 0 0]) inf26 rfl) ?_
    rintro _ _ _ ⟨b253, rfl, rfl, rfl⟩
    refine J.op rfl (A.store (v := .agg #[.slice ad246 l243.length cp247]) (cs' := [.slice ad246 l243.length cp247]) sz26 rfl rfl rfl rfl rfl rfl) ?_
    rintro _ _ _ ⟨rfl, rfl, rfl⟩
    refine J.val (v := .int .i64 i244) rfl rfl (V.as rfl) ?_
    refine J.val (v := .int .i64 i245) rfl rfl (V.as rfl) ?_
    refine J.nil ?_
    refine CJ.seq ?_
    refine CJ.region ?_
    refine J.val (v := .string ⟨xa.toArray⟩) rfl rfl (V.mv rfl) ?_
    obtain ⟨r254, hr255, h⟩ := ob h
    refine J.op rfl (A.call (L1 := []) Try.call17 rfl (ref17_TakeType_ok hr255) rfl rfl) ?_
    rintro _ _ _ ⟨v262, _, rfl, ⟨⟨l256, i257, i258, ad259, cp260, rfl, rfl, rfl⟩, rfl⟩, _, rfl⟩
    refine J.wit Row.hn (fun hn261 => ?_)
    refine J.val (v := .tuple #[.agg #[.slice ad259 l256.length cp260], .int .i64 i257, .int .i64 i258]) rfl rfl (V.mv rfl) ?_
    refine J.val (v := .agg #[.slice ad259 l256.length cp260]) rfl rfl (V.ext rfl rfl) ?_
    refine J.val (v := .int .i64 i257) rfl rfl (V.ext rfl rfl) ?_
    refine J.val (v := .int .i64 i258) rfl rfl (V.ext rfl rfl) ?_
    refine J.op rfl (A.alloc (cs := [.slice none 0 0]) inf26 rfl) ?_
    rintro _ _ _ ⟨b266, rfl, rfl, rfl⟩
    refine J.op rfl (A.store (v := .agg #[.slice ad259 l256.length cp260]) (cs' := [.slice ad259 l256.length cp260]) sz26 rfl rfl rfl rfl rfl rfl) ?_
    rintro _ _ _ ⟨rfl, rfl, rfl⟩
    refine J.val (v := .int .i64 i257) rfl rfl (V.as rfl) ?_
    refine J.val (v := .int .i64 i258) rfl rfl (V.as rfl) ?_
    refine J.nil ?_
    refine CJ.seq ?_
    refine CJ.region ?_
    refine J.val (v := .string ⟨xa.toArray⟩) rfl rfl (V.mv rfl) ?_
    refine J.val (v := .int .i64 xb) rfl rfl (V.mv rfl) ?_
    obtain ⟨r267, hr268, h⟩ := ob h
    refine J.op rfl (A.call (L1 := []) Try.call18 rfl (sig_TakeBounds_ok hr268) rfl rfl) ?_
    rintro _ _ _ ⟨v275, _, rfl, ⟨⟨l269, i270, i271, ad272, cp273, rfl, rfl, rfl⟩, rfl⟩, _, rfl⟩
    refine J.wit Row.hn (fun hn274 => ?_)
    refine J.val (v := .tuple #[.slice ad272 l269.length cp273, .int .i64 i270, .int .i64 i271]) rfl rfl (V.mv rfl) ?_
    refine J.val (v := .slice ad272 l269.length cp273) rfl rfl (V.ext rfl rfl) ?_
    refine J.val (v := .int .i64 i270) rfl rfl (V.ext rfl rfl) ?_
    refine J.val (v := .int .i64 i271) rfl rfl (V.ext rfl rfl) ?_
    refine J.val (v := .slice ad272 l269.length cp273) rfl rfl (V.as rfl) ?_
    refine J.val (v := .int .i64 i270) rfl rfl (V.as rfl) ?_
    refine J.val (v := .int .i64 i271) rfl rfl (V.as rfl) ?_
    refine J.nil ?_
    refine CJ.seq ?_
    refine CJ.region ?_
    refine J.val (v := .string ⟨xa.toArray⟩) rfl rfl (V.mv rfl) ?_
    refine J.val (v := .int .i64 xb) rfl rfl (V.mv rfl) ?_
    obtain ⟨r279, hr280, h⟩ := ob h
    refine J.op rfl (A.call (L1 := []) Try.call19 rfl (ref17_TakeBounds_ok hr280) rfl rfl) ?_
    rintro _ _ _ ⟨v287, _, rfl, ⟨⟨l281, i282, i283, ad284, cp285, rfl, rfl, rfl⟩, rfl⟩, _, rfl⟩
    refine J.wit Row.hn (fun hn286 => ?_)
    refine J.val (v := .tuple #[.slice ad284 l281.length cp285, .int .i64 i282, .int .i64 i283]) rfl rfl (V.mv rfl) ?_
    refine J.val (v := .slice ad284 l281.length cp285) rfl rfl (V.ext rfl rfl) ?_
    refine J.val (v := .int .i64 i282) rfl rfl (V.ext rfl rfl) ?_
    refine J.val (v := .int .i64 i283) rfl rfl (V.ext rfl rfl) ?_
    refine J.val (v := .slice ad284 l281.length cp285) rfl rfl (V.as rfl) ?_
    refine J.val (v := .int .i64 i282) rfl rfl (V.as rfl) ?_
    refine J.val (v := .int .i64 i283) rfl rfl (V.as rfl) ?_
    refine J.nil ?_
    refine CJ.seq ?_
    refine CJ.region ?_
    refine J.val (v := .string ⟨xa.toArray⟩) rfl rfl (V.mv rfl) ?_
    obtain ⟨r291, hr292, h⟩ := ob h
    refine J.op rfl (A.call (L1 := []) Try.call20 rfl (sig_Take_ok hr292) rfl rfl) ?_
    rintro _ K309 _ ⟨v308, _, rfl, ⟨i293, l294, l295, l296, i297, i298, ad299, cp300, ad301, cp302, ad303, cp304, rfl, rfl, rfl⟩, hK310, rfl⟩
    refine J.wit Row.hn (fun hn305 => ?_)
    refine J.front 1 rfl ?_
    refine J.wit Row.hn (fun hn306 => ?_)
    refine J.front 2 rfl ?_
    refine J.wit Row.hn (fun hn307 => ?_)
    refine J.val (v := .tuple #[.agg #[.int .i64 i293, .slice ad299 l294.length cp300, .slice ad301 l295.length cp302, .slice ad303 l296.length cp304], .int .i64 i297, .int .i64 i298]) rfl rfl (V.mv rfl) ?_
    refine J.val (v := .agg #[.int .i64 i293, .slice ad299 l294.length cp300, .slice ad301 l295.length cp302, .slice ad303 l296.length cp304]) rfl rfl (V.ext rfl rfl) ?_
    refine J.val (v := .int .i64 i297) rfl rfl (V.ext rfl rfl) ?_
    refine J.val (v := .int .i64 i298) rfl rfl (V.ext rfl rfl) ?_
    refine J.op rfl (A.alloc (cs := [.int .i64 0, .slice none 0 0, .slice none 0 0, .slice none 0 0]) inf28 rfl) ?_
    rintro _ _ _ ⟨b314, rfl, rfl, rfl⟩
    refine J.op rfl (A.store (v := .agg #[.int .i64 i293, .slice ad299 l294.length cp300, .slice ad301 l295.length cp302, .slice ad303 l296.length cp304]) (cs' := [.int .i64 i293, .slice ad299 l294.length cp300, .slice ad301 l295.length cp302, .slice ad303 l296.length cp304]) sz28 rfl rfl rfl rfl rfl rfl) ?_
    rintro _ _ _ ⟨rfl, rfl, rfl⟩
    refine J.val (v := .int .i64 i297) rfl rfl (V.as rfl) ?_
    refine J.val (v := .int .i64 i298) rfl rfl (V.as rfl) ?_
    refine J.nil ?_
    refine CJ.seq ?_
    refine CJ.region ?_
    refine J.val (v := .string ⟨xa.toArray⟩) rfl rfl (V.mv rfl) ?_
    obtain ⟨r315, hr316, h⟩ := ob h
    refine J.op rfl (A.call (L1 := []) Try.call21 rfl (ref17_Take_ok hr316) rfl rfl) ?_
    rintro _ K333 _ ⟨v332, _, rfl, ⟨i317, l318, l319, l320, i321, i322, ad323, cp324, ad325, cp326, ad327, cp328, rfl, rfl, rfl⟩, hK334, rfl⟩
    refine J.wit Row.hn (fun hn329 => ?_)
    refine J.front 1 rfl ?_
    refine J.wit Row.hn (fun hn330 => ?_)
    refine J.front 2 rfl ?_
    refine J.wit Row.hn (fun hn331 => ?_)
    refine J.val (v := .tuple #[.agg #[.int .i64 i317, .slice ad323 l318.length cp324, .slice ad325 l319.length cp326, .slice ad327 l320.length cp328], .int .i64 i321, .int .i64 i322]) rfl rfl (V.mv rfl) ?_
    refine J.val (v := .agg #[.int .i64 i317, .slice ad323 l318.length cp324, .slice ad325 l319.length cp326, .slice ad327 l320.length cp328]) rfl rfl (V.ext rfl rfl) ?_
    refine J.val (v := .int .i64 i321) rfl rfl (V.ext rfl rfl) ?_
    refine J.val (v := .int .i64 i322) rfl rfl (V.ext rfl rfl) ?_
    refine J.op rfl (A.alloc (cs := [.int .i64 0, .slice none 0 0, .slice none 0 0, .slice none 0 0]) inf28 rfl) ?_
    rintro _ _ _ ⟨b338, rfl, rfl, rfl⟩
    refine J.op rfl (A.store (v := .agg #[.int .i64 i317, .slice ad323 l318.length cp324, .slice ad325 l319.length cp326, .slice ad327 l320.length cp328]) (cs' := [.int .i64 i317, .slice ad323 l318.length cp324, .slice ad325 l319.length cp326, .slice ad327 l320.length cp328]) sz28 rfl rfl rfl rfl rfl rfl) ?_
    rintro _ _ _ ⟨rfl, rfl, rfl⟩
    refine J.val (v := .int .i64 i321) rfl rfl (V.as rfl) ?_
    refine J.val (v := .int .i64 i322) rfl rfl (V.as rfl) ?_
    refine J.nil ?_
    refine CJ.seq ?_
    refine CJ.region ?_
    refine J.val (v := .agg #[.slice ad246 l243.length cp247]) rfl rfl (V.ld rfl (Ld.agg (cs := [.slice ad246 l243.length cp247]) Try.underlying26 sz26 rfl (Rd.cls 12 0 rfl rfl))) ?_
    refine J.val (v := .agg #[.slice ad259 l256.length cp260]) rfl rfl (V.ld rfl (Ld.agg (cs := [.slice ad259 l256.length cp260]) Try.underlying26 sz26 rfl (Rd.cls 10 0 rfl rfl))) ?_
    obtain ⟨r339, hr340, h⟩ := ob h
    refine J.front 11 rfl ?_
    refine J.front 13 rfl ?_
    refine J.op rfl (A.call (L1 := [Row Hp.nil 60 (.cons (.int .i64) (.one .bool)) (.slice ad246 l243.length cp247) l243, Row Hp.nil 60 (.cons (.int .i64) (.one .bool)) (.slice ad259 l256.length cp260) l256]) Try.call22 rfl (Tr.lend (Hp.nil_le _) (by decide) (fun K341 hK342 f343 => Tr.lend (Hp.nil_le _) (by decide) (fun K344 hK345 f346 => ref15_Same_ok (f343.mono hK345) f346 hr340))) rfl rfl) ?_
    rintro _ _ _ ⟨v348, _, rfl, ⟨⟨_, ⟨_, ⟨t347, rfl, rfl, rfl⟩, rfl⟩, rfl⟩, rfl⟩, _, rfl⟩
    refine J.val (v := .bool t347) rfl rfl (V.mv rfl) ?_
    refine J.cut 4 ?_
    refine @J.meet _ _ _ _ _ _ _ _ _ _ (fun ρ K' L' => Fits [(72, .bool (t347 && (decide (i244 = i257)))), (7, .int .i64 i245), (10, .int .i64 i258), (11, .slice ad272 l269.length cp273), (12, .int .i64 i270), (13, .int .i64 i271), (14, .slice ad284 l281.length cp285), (15, .int .i64 i282), (16, .int .i64 i283), (17, .pointer (some ⟨b314, 0, none⟩)), (18, .int .i64 i297), (19, .int .i64 i298), (20, .pointer (some ⟨b338, 0, none⟩)), (21, .int .i64 i321), (22, .int .i64 i322)] ρ ∧ K333 = K' ∧ L' = Row Hp.nil 60 (.cons (.int .i64) (.one .bool)) (.slice ad246 l243.length cp247) l243 :: Row Hp.nil 60 (.cons (.int .i64) (.one .bool)) (.slice ad259 l256.length cp260) l256 :: Cl b338 28 [.int .i64 i317, .slice ad323 l318.length cp324, .slice ad325 l319.length cp326, .slice ad327 l320.length cp328] :: Row Hp.nil 60 (.cons (.int .i64) (.one .bool)) (.slice ad327 l320.length cp328) l320 :: Row K333 26 (.one (.sl (.cons (.int .i64) (.one .bool)))) (.slice ad325 l319.length cp326) l319 :: Row Hp.nil 63 (.cons (.int .i64) (.one (.int .i64))) (.slice ad323 l318.length cp324) l318 :: Cl b314 28 [.int .i64 i293, .slice ad299 l294.length cp300, .slice ad301 l295.length cp302, .slice ad303 l296.length cp304] :: Row Hp.nil 60 (.cons (.int .i64) (.one .bool)) (.slice ad303 l296.length cp304) l296 :: Row K309 26 (.one (.sl (.cons (.int .i64) (.one .bool)))) (.slice ad301 l295.length cp302) l295 :: Row Hp.nil 63 (.cons (.int .i64) (.one (.int .i64))) (.slice ad299 l294.length cp300) l294 :: Row Hp.nil 63 (.cons (.int .i64) (.one (.int .i64))) (.slice ad284 l281.length cp285) l281 :: Row Hp.nil 63 (.cons (.int .i64) (.one (.int .i64))) (.slice ad272 l269.length cp273) l269 :: Cl b266 26 [.slice ad259 l256.length cp260] :: Cl b253 26 [.slice ad246 l243.length cp247] :: F) ?_ ?_
    · skip
      rcases bt (t347) with hc353 | hc353
      · skip
        refine J.run rfl rfl rfl hc353 ?_
        refine J.val (v := .int .i64 i244) rfl rfl (V.mv rfl) ?_
        refine J.run rfl rfl rfl hc353 ?_
        refine J.val (v := .int .i64 i257) rfl rfl (V.mv rfl) ?_
        refine J.run rfl rfl rfl hc353 ?_
        refine J.val (v := .bool (decide (i244 = i257))) rfl rfl (V.eql rfl rfl) ?_
        refine J.val (v := .bool (decide (i244 = i257))) rfl rfl (V.pickT rfl hc353 rfl) ?_
        refine J.nil ?_
        exact ⟨rfl, ⟨(by simp only [hc353]; rfl), rfl, rfl, rfl, rfl, rfl, rfl, rfl, rfl, rfl, rfl, rfl, rfl, rfl, rfl, trivial⟩, rfl, rfl⟩
      · skip
        refine J.skip rfl rfl rfl rfl hc353 ?_
        refine J.skip rfl rfl rfl rfl hc353 ?_
        refine J.skip rfl rfl rfl rfl hc353 ?_
        refine J.val (v := .bool false) rfl rfl (V.pickF rfl hc353 rfl) ?_
        refine J.nil ?_
        exact ⟨rfl, ⟨(by simp only [hc353]; rfl), rfl, rfl, rfl, rfl, rfl, rfl, rfl, rfl, rfl, rfl, rfl, rfl, rfl, rfl, trivial⟩, rfl, rfl⟩
    · rintro ρ _ _ ⟨hf, rfl, rfl⟩
      obtain ⟨ρ, rfl⟩ := hf.ex
      refine J.val (v := .bool (t347 && (decide (i244 = i257)))) rfl rfl (V.mv rfl) ?_
      refine J.cut 4 ?_
      refine @J.meet _ _ _ _ _ _ _ _ _ _ (fun ρ K' L' => Fits [(77, .bool ((t347 && (decide (i244 = i257))) && (decide (i245 = i258)))), (11, .slice ad272 l269.length cp273), (12, .int .i64 i270), (13, .int .i64 i271), (14, .slice ad284 l281.length cp285), (15, .int .i64 i282), (16, .int .i64 i283), (17, .pointer (some ⟨b314, 0, none⟩)), (18, .int .i64 i297), (19, .int .i64 i298), (20, .pointer (some ⟨b338, 0, none⟩)), (21, .int .i64 i321), (22, .int .i64 i322)] ρ ∧ K333 = K' ∧ L' = Row Hp.nil 60 (.cons (.int .i64) (.one .bool)) (.slice ad246 l243.length cp247) l243 :: Row Hp.nil 60 (.cons (.int .i64) (.one .bool)) (.slice ad259 l256.length cp260) l256 :: Cl b338 28 [.int .i64 i317, .slice ad323 l318.length cp324, .slice ad325 l319.length cp326, .slice ad327 l320.length cp328] :: Row Hp.nil 60 (.cons (.int .i64) (.one .bool)) (.slice ad327 l320.length cp328) l320 :: Row K333 26 (.one (.sl (.cons (.int .i64) (.one .bool)))) (.slice ad325 l319.length cp326) l319 :: Row Hp.nil 63 (.cons (.int .i64) (.one (.int .i64))) (.slice ad323 l318.length cp324) l318 :: Cl b314 28 [.int .i64 i293, .slice ad299 l294.length cp300, .slice ad301 l295.length cp302, .slice ad303 l296.length cp304] :: Row Hp.nil 60 (.cons (.int .i64) (.one .bool)) (.slice ad303 l296.length cp304) l296 :: Row K309 26 (.one (.sl (.cons (.int .i64) (.one .bool)))) (.slice ad301 l295.length cp302) l295 :: Row Hp.nil 63 (.cons (.int .i64) (.one (.int .i64))) (.slice ad299 l294.length cp300) l294 :: Row Hp.nil 63 (.cons (.int .i64) (.one (.int .i64))) (.slice ad284 l281.length cp285) l281 :: Row Hp.nil 63 (.cons (.int .i64) (.one (.int .i64))) (.slice ad272 l269.length cp273) l269 :: Cl b266 26 [.slice ad259 l256.length cp260] :: Cl b253 26 [.slice ad246 l243.length cp247] :: F) ?_ ?_
      · skip
        rcases bt (t347 && (decide (i244 = i257))) with hc356 | hc356
        · skip
          refine J.run rfl rfl rfl hc356 ?_
          refine J.val (v := .int .i64 i245) rfl rfl (V.mv rfl) ?_
          refine J.run rfl rfl rfl hc356 ?_
          refine J.val (v := .int .i64 i258) rfl rfl (V.mv rfl) ?_
          refine J.run rfl rfl rfl hc356 ?_
          refine J.val (v := .bool (decide (i245 = i258))) rfl rfl (V.eql rfl rfl) ?_
          refine J.val (v := .bool (decide (i245 = i258))) rfl rfl (V.pickT rfl hc356 rfl) ?_
          refine J.nil ?_
          exact ⟨rfl, ⟨(by simp only [hc356]; rfl), rfl, rfl, rfl, rfl, rfl, rfl, rfl, rfl, rfl, rfl, rfl, rfl, trivial⟩, rfl, rfl⟩
        · skip
          refine J.skip rfl rfl rfl rfl hc356 ?_
          refine J.skip rfl rfl rfl rfl hc356 ?_
          refine J.skip rfl rfl rfl rfl hc356 ?_
          refine J.val (v := .bool false) rfl rfl (V.pickF rfl hc356 rfl) ?_
          refine J.nil ?_
          exact ⟨rfl, ⟨(by simp only [hc356]; rfl), rfl, rfl, rfl, rfl, rfl, rfl, rfl, rfl, rfl, rfl, rfl, rfl, trivial⟩, rfl, rfl⟩
      · rintro ρ _ _ ⟨hf, rfl, rfl⟩
        obtain ⟨ρ, rfl⟩ := hf.ex
        refine J.val (v := .bool ((t347 && (decide (i244 = i257))) && (decide (i245 = i258)))) rfl rfl (V.mv rfl) ?_
        refine J.cut 4 ?_
        obtain ⟨t370, ht371, h⟩ := ob h
        refine @J.meet _ _ _ _ _ _ _ _ _ _ (fun ρ K' L' => Fits [(82, .bool t370), (12, .int .i64 i270), (13, .int .i64 i271), (15, .int .i64 i282), (16, .int .i64 i283), (17, .pointer (some ⟨b314, 0, none⟩)), (18, .int .i64 i297), (19, .int .i64 i298), (20, .pointer (some ⟨b338, 0, none⟩)), (21, .int .i64 i321), (22, .int .i64 i322)] ρ ∧ K333 = K' ∧ L' = Row Hp.nil 60 (.cons (.int .i64) (.one .bool)) (.slice ad246 l243.length cp247) l243 :: Row Hp.nil 60 (.cons (.int .i64) (.one .bool)) (.slice ad259 l256.length cp260) l256 :: Cl b338 28 [.int .i64 i317, .slice ad323 l318.length cp324, .slice ad325 l319.length cp326, .slice ad327 l320.length cp328] :: Row Hp.nil 60 (.cons (.int .i64) (.one .bool)) (.slice ad327 l320.length cp328) l320 :: Row K333 26 (.one (.sl (.cons (.int .i64) (.one .bool)))) (.slice ad325 l319.length cp326) l319 :: Row Hp.nil 63 (.cons (.int .i64) (.one (.int .i64))) (.slice ad323 l318.length cp324) l318 :: Cl b314 28 [.int .i64 i293, .slice ad299 l294.length cp300, .slice ad301 l295.length cp302, .slice ad303 l296.length cp304] :: Row Hp.nil 60 (.cons (.int .i64) (.one .bool)) (.slice ad303 l296.length cp304) l296 :: Row K309 26 (.one (.sl (.cons (.int .i64) (.one .bool)))) (.slice ad301 l295.length cp302) l295 :: Row Hp.nil 63 (.cons (.int .i64) (.one (.int .i64))) (.slice ad299 l294.length cp300) l294 :: Row Hp.nil 63 (.cons (.int .i64) (.one (.int .i64))) (.slice ad284 l281.length cp285) l281 :: Row Hp.nil 63 (.cons (.int .i64) (.one (.int .i64))) (.slice ad272 l269.length cp273) l269 :: Cl b266 26 [.slice ad259 l256.length cp260] :: Cl b253 26 [.slice ad246 l243.length cp247] :: F) ?_ ?_
        · skip
          rcases bt ((t347 && (decide (i244 = i257))) && (decide (i245 = i258))) with hc372 | hc372
          · have ht371 := ct hc372 ht371
            refine J.run rfl rfl rfl hc372 ?_
            refine J.val (v := .slice ad272 l269.length cp273) rfl rfl (V.mv rfl) ?_
            refine J.run rfl rfl rfl hc372 ?_
            refine J.val (v := .slice ad284 l281.length cp285) rfl rfl (V.mv rfl) ?_
            refine J.run rfl rfl rfl hc372 ?_
            obtain ⟨r373, hr374, ht371⟩ := ob ht371
            refine J.front 10 rfl ?_
            refine J.front 11 rfl ?_
            refine J.op rfl (A.call (L1 := [Row Hp.nil 63 (.cons (.int .i64) (.one (.int .i64))) (.slice ad272 l269.length cp273) l269, Row Hp.nil 63 (.cons (.int .i64) (.one (.int .i64))) (.slice ad284 l281.length cp285) l281]) Try.call23 rfl (Tr.lend (Hp.nil_le _) (by decide) (fun K375 hK376 f377 => Tr.lend (Hp.nil_le _) (by decide) (fun K378 hK379 f380 => ref17_Bounds_ok (f377.mono hK379) f380 hr374))) rfl rfl) ?_
            rintro _ _ _ ⟨v382, _, rfl, ⟨⟨_, ⟨_, ⟨t381, rfl, rfl, rfl⟩, rfl⟩, rfl⟩, rfl⟩, _, rfl⟩
            refine J.val (v := .bool t381) rfl rfl (V.pickT rfl hc372 rfl) ?_
            refine J.front 13 rfl ?_
            refine J.front 13 rfl ?_
            refine J.front 2 rfl ?_
            refine J.front 3 rfl ?_
            refine J.front 13 rfl ?_
            refine J.front 13 rfl ?_
            refine J.front 13 rfl ?_
            refine J.front 13 rfl ?_
            refine J.front 13 rfl ?_
            refine J.front 13 rfl ?_
            refine J.front 13 rfl ?_
            refine J.front 13 rfl ?_
            refine J.front 13 rfl ?_
            refine J.front 13 rfl ?_
            refine J.nil ?_
            have e := Option.some.inj ht371
            subst e
            exact ⟨rfl, ⟨rfl, rfl, rfl, rfl, rfl, rfl, rfl, rfl, rfl, rfl, rfl, trivial⟩, rfl, rfl⟩
          · have ht371 := cf hc372 ht371
            refine J.skip rfl rfl rfl rfl hc372 ?_
            refine J.skip rfl rfl rfl rfl hc372 ?_
            refine J.skip rfl rfl rfl rfl hc372 ?_
            refine J.val (v := .bool false) rfl rfl (V.pickF rfl hc372 rfl) ?_
            refine J.nil ?_
            have e := Option.some.inj ht371
            subst e
            exact ⟨rfl, ⟨rfl, rfl, rfl, rfl, rfl, rfl, rfl, rfl, rfl, rfl, rfl, trivial⟩, rfl, rfl⟩
        · rintro ρ _ _ ⟨hf, rfl, rfl⟩
          obtain ⟨ρ, rfl⟩ := hf.ex
          refine J.val (v := .bool t370) rfl rfl (V.mv rfl) ?_
          refine J.cut 4 ?_
          refine @J.meet _ _ _ _ _ _ _ _ _ _ (fun ρ K' L' => Fits [(87, .bool (t370 && (decide (i270 = i282)))), (13, .int .i64 i271), (16, .int .i64 i283), (17, .pointer (some ⟨b314, 0, none⟩)), (18, .int .i64 i297), (19, .int .i64 i298), (20, .pointer (some ⟨b338, 0, none⟩)), (21, .int .i64 i321), (22, .int .i64 i322)] ρ ∧ K333 = K' ∧ L' = Row Hp.nil 60 (.cons (.int .i64) (.one .bool)) (.slice ad246 l243.length cp247) l243 :: Row Hp.nil 60 (.cons (.int .i64) (.one .bool)) (.slice ad259 l256.length cp260) l256 :: Cl b338 28 [.int .i64 i317, .slice ad323 l318.length cp324, .slice ad325 l319.length cp326, .slice ad327 l320.length cp328] :: Row Hp.nil 60 (.cons (.int .i64) (.one .bool)) (.slice ad327 l320.length cp328) l320 :: Row K333 26 (.one (.sl (.cons (.int .i64) (.one .bool)))) (.slice ad325 l319.length cp326) l319 :: Row Hp.nil 63 (.cons (.int .i64) (.one (.int .i64))) (.slice ad323 l318.length cp324) l318 :: Cl b314 28 [.int .i64 i293, .slice ad299 l294.length cp300, .slice ad301 l295.length cp302, .slice ad303 l296.length cp304] :: Row Hp.nil 60 (.cons (.int .i64) (.one .bool)) (.slice ad303 l296.length cp304) l296 :: Row K309 26 (.one (.sl (.cons (.int .i64) (.one .bool)))) (.slice ad301 l295.length cp302) l295 :: Row Hp.nil 63 (.cons (.int .i64) (.one (.int .i64))) (.slice ad299 l294.length cp300) l294 :: Row Hp.nil 63 (.cons (.int .i64) (.one (.int .i64))) (.slice ad284 l281.length cp285) l281 :: Row Hp.nil 63 (.cons (.int .i64) (.one (.int .i64))) (.slice ad272 l269.length cp273) l269 :: Cl b266 26 [.slice ad259 l256.length cp260] :: Cl b253 26 [.slice ad246 l243.length cp247] :: F) ?_ ?_
          · skip
            rcases bt (t370) with hc387 | hc387
            · skip
              refine J.run rfl rfl rfl hc387 ?_
              refine J.val (v := .int .i64 i270) rfl rfl (V.mv rfl) ?_
              refine J.run rfl rfl rfl hc387 ?_
              refine J.val (v := .int .i64 i282) rfl rfl (V.mv rfl) ?_
              refine J.run rfl rfl rfl hc387 ?_
              refine J.val (v := .bool (decide (i270 = i282))) rfl rfl (V.eql rfl rfl) ?_
              refine J.val (v := .bool (decide (i270 = i282))) rfl rfl (V.pickT rfl hc387 rfl) ?_
              refine J.nil ?_
              exact ⟨rfl, ⟨(by simp only [hc387]; rfl), rfl, rfl, rfl, rfl, rfl, rfl, rfl, rfl, trivial⟩, rfl, rfl⟩
            · skip
              refine J.skip rfl rfl rfl rfl hc387 ?_
              refine J.skip rfl rfl rfl rfl hc387 ?_
              refine J.skip rfl rfl rfl rfl hc387 ?_
              refine J.val (v := .bool false) rfl rfl (V.pickF rfl hc387 rfl) ?_
              refine J.nil ?_
              exact ⟨rfl, ⟨(by simp only [hc387]; rfl), rfl, rfl, rfl, rfl, rfl, rfl, rfl, rfl, trivial⟩, rfl, rfl⟩
          · rintro ρ _ _ ⟨hf, rfl, rfl⟩
            obtain ⟨ρ, rfl⟩ := hf.ex
            refine J.val (v := .bool (t370 && (decide (i270 = i282)))) rfl rfl (V.mv rfl) ?_
            refine J.cut 4 ?_
            refine @J.meet _ _ _ _ _ _ _ _ _ _ (fun ρ K' L' => Fits [(92, .bool ((t370 && (decide (i270 = i282))) && (decide (i271 = i283)))), (17, .pointer (some ⟨b314, 0, none⟩)), (18, .int .i64 i297), (19, .int .i64 i298), (20, .pointer (some ⟨b338, 0, none⟩)), (21, .int .i64 i321), (22, .int .i64 i322)] ρ ∧ K333 = K' ∧ L' = Row Hp.nil 60 (.cons (.int .i64) (.one .bool)) (.slice ad246 l243.length cp247) l243 :: Row Hp.nil 60 (.cons (.int .i64) (.one .bool)) (.slice ad259 l256.length cp260) l256 :: Cl b338 28 [.int .i64 i317, .slice ad323 l318.length cp324, .slice ad325 l319.length cp326, .slice ad327 l320.length cp328] :: Row Hp.nil 60 (.cons (.int .i64) (.one .bool)) (.slice ad327 l320.length cp328) l320 :: Row K333 26 (.one (.sl (.cons (.int .i64) (.one .bool)))) (.slice ad325 l319.length cp326) l319 :: Row Hp.nil 63 (.cons (.int .i64) (.one (.int .i64))) (.slice ad323 l318.length cp324) l318 :: Cl b314 28 [.int .i64 i293, .slice ad299 l294.length cp300, .slice ad301 l295.length cp302, .slice ad303 l296.length cp304] :: Row Hp.nil 60 (.cons (.int .i64) (.one .bool)) (.slice ad303 l296.length cp304) l296 :: Row K309 26 (.one (.sl (.cons (.int .i64) (.one .bool)))) (.slice ad301 l295.length cp302) l295 :: Row Hp.nil 63 (.cons (.int .i64) (.one (.int .i64))) (.slice ad299 l294.length cp300) l294 :: Row Hp.nil 63 (.cons (.int .i64) (.one (.int .i64))) (.slice ad284 l281.length cp285) l281 :: Row Hp.nil 63 (.cons (.int .i64) (.one (.int .i64))) (.slice ad272 l269.length cp273) l269 :: Cl b266 26 [.slice ad259 l256.length cp260] :: Cl b253 26 [.slice ad246 l243.length cp247] :: F) ?_ ?_
            · skip
              rcases bt (t370 && (decide (i270 = i282))) with hc390 | hc390
              · skip
                refine J.run rfl rfl rfl hc390 ?_
                refine J.val (v := .int .i64 i271) rfl rfl (V.mv rfl) ?_
                refine J.run rfl rfl rfl hc390 ?_
                refine J.val (v := .int .i64 i283) rfl rfl (V.mv rfl) ?_
                refine J.run rfl rfl rfl hc390 ?_
                refine J.val (v := .bool (decide (i271 = i283))) rfl rfl (V.eql rfl rfl) ?_
                refine J.val (v := .bool (decide (i271 = i283))) rfl rfl (V.pickT rfl hc390 rfl) ?_
                refine J.nil ?_
                exact ⟨rfl, ⟨(by simp only [hc390]; rfl), rfl, rfl, rfl, rfl, rfl, rfl, trivial⟩, rfl, rfl⟩
              · skip
                refine J.skip rfl rfl rfl rfl hc390 ?_
                refine J.skip rfl rfl rfl rfl hc390 ?_
                refine J.skip rfl rfl rfl rfl hc390 ?_
                refine J.val (v := .bool false) rfl rfl (V.pickF rfl hc390 rfl) ?_
                refine J.nil ?_
                exact ⟨rfl, ⟨(by simp only [hc390]; rfl), rfl, rfl, rfl, rfl, rfl, rfl, trivial⟩, rfl, rfl⟩
            · rintro ρ _ _ ⟨hf, rfl, rfl⟩
              obtain ⟨ρ, rfl⟩ := hf.ex
              refine J.val (v := .bool ((t370 && (decide (i270 = i282))) && (decide (i271 = i283)))) rfl rfl (V.mv rfl) ?_
              refine J.cut 4 ?_
              obtain ⟨t416, ht417, h⟩ := ob h
              refine @J.meet _ _ _ _ _ _ _ _ _ _ (fun ρ K' L' => Fits [(97, .bool t416), (18, .int .i64 i297), (19, .int .i64 i298), (21, .int .i64 i321), (22, .int .i64 i322)] ρ ∧ K333 = K' ∧ L' = Row Hp.nil 60 (.cons (.int .i64) (.one .bool)) (.slice ad246 l243.length cp247) l243 :: Row Hp.nil 60 (.cons (.int .i64) (.one .bool)) (.slice ad259 l256.length cp260) l256 :: Cl b338 28 [.int .i64 i317, .slice ad323 l318.length cp324, .slice ad325 l319.length cp326, .slice ad327 l320.length cp328] :: Row Hp.nil 60 (.cons (.int .i64) (.one .bool)) (.slice ad327 l320.length cp328) l320 :: Row K333 26 (.one (.sl (.cons (.int .i64) (.one .bool)))) (.slice ad325 l319.length cp326) l319 :: Row Hp.nil 63 (.cons (.int .i64) (.one (.int .i64))) (.slice ad323 l318.length cp324) l318 :: Cl b314 28 [.int .i64 i293, .slice ad299 l294.length cp300, .slice ad301 l295.length cp302, .slice ad303 l296.length cp304] :: Row Hp.nil 60 (.cons (.int .i64) (.one .bool)) (.slice ad303 l296.length cp304) l296 :: Row K309 26 (.one (.sl (.cons (.int .i64) (.one .bool)))) (.slice ad301 l295.length cp302) l295 :: Row Hp.nil 63 (.cons (.int .i64) (.one (.int .i64))) (.slice ad299 l294.length cp300) l294 :: Row Hp.nil 63 (.cons (.int .i64) (.one (.int .i64))) (.slice ad284 l281.length cp285) l281 :: Row Hp.nil 63 (.cons (.int .i64) (.one (.int .i64))) (.slice ad272 l269.length cp273) l269 :: Cl b266 26 [.slice ad259 l256.length cp260] :: Cl b253 26 [.slice ad246 l243.length cp247] :: F) ?_ ?_
              · skip
                rcases bt ((t370 && (decide (i270 = i282))) && (decide (i271 = i283))) with hc418 | hc418
                · have ht417 := ct hc418 ht417
                  refine J.run rfl rfl rfl hc418 ?_
                  refine J.val (v := .agg #[.int .i64 i293, .slice ad299 l294.length cp300, .slice ad301 l295.length cp302, .slice ad303 l296.length cp304]) rfl rfl (V.ld rfl (Ld.agg (cs := [.int .i64 i293, .slice ad299 l294.length cp300, .slice ad301 l295.length cp302, .slice ad303 l296.length cp304]) Try.underlying28 sz28 rfl (Rd.cls 6 0 rfl rfl))) ?_
                  refine J.run rfl rfl rfl hc418 ?_
                  refine J.val (v := .agg #[.int .i64 i317, .slice ad323 l318.length cp324, .slice ad325 l319.length cp326, .slice ad327 l320.length cp328]) rfl rfl (V.ld rfl (Ld.agg (cs := [.int .i64 i317, .slice ad323 l318.length cp324, .slice ad325 l319.length cp326, .slice ad327 l320.length cp328]) Try.underlying28 sz28 rfl (Rd.cls 2 0 rfl rfl))) ?_
                  refine J.run rfl rfl rfl hc418 ?_
                  obtain ⟨r419, hr420, ht417⟩ := ob ht417
                  refine J.front 3 rfl ?_
                  refine J.front 4 rfl ?_
                  refine J.front 5 rfl ?_
                  refine J.front 7 rfl ?_
                  refine J.front 8 rfl ?_
                  refine J.front 9 rfl ?_
                  refine J.op rfl (A.call (L1 := [Row Hp.nil 63 (.cons (.int .i64) (.one (.int .i64))) (.slice ad299 l294.length cp300) l294, Row K309 26 (.one (.sl (.cons (.int .i64) (.one .bool)))) (.slice ad301 l295.length cp302) l295, Row Hp.nil 60 (.cons (.int .i64) (.one .bool)) (.slice ad303 l296.length cp304) l296, Row Hp.nil 63 (.cons (.int .i64) (.one (.int .i64))) (.slice ad323 l318.length cp324) l318, Row K333 26 (.one (.sl (.cons (.int .i64) (.one .bool)))) (.slice ad325 l319.length cp326) l319, Row Hp.nil 60 (.cons (.int .i64) (.one .bool)) (.slice ad327 l320.length cp328) l320]) Try.call24 rfl (Tr.lend (Hp.nil_le _) (by decide) (fun K421 hK422 f423 => Tr.lend (Hp.le.trans hK334 hK422) (by decide) (fun K424 hK425 f426 => Tr.lend (Hp.nil_le _) (by decide) (fun K427 hK428 f429 => Tr.lend (Hp.nil_le _) (by decide) (fun K430 hK431 f432 => Tr.lend (Hp.le.trans (Hp.le.trans (Hp.le.trans (Hp.le.trans (Hp.le_refl _) hK422) hK425) hK428) hK431) (by decide) (fun K433 hK434 f435 => Tr.lend (Hp.nil_le _) (by decide) (fun K436 hK437 f438 => ref17_Same_ok (((((f423.mono hK425).mono hK428).mono hK431).mono hK434).mono hK437) ((((f426.mono hK428).mono hK431).mono hK434).mono hK437) (((f429.mono hK431).mono hK434).mono hK437) ((f432.mono hK434).mono hK437) (f435.mono hK437) f438 hr420))))))) rfl rfl) ?_
                  rintro _ _ _ ⟨v440, _, rfl, ⟨⟨_, ⟨_, ⟨_, ⟨_, ⟨_, ⟨_, ⟨t439, rfl, rfl, rfl⟩, rfl⟩, rfl⟩, rfl⟩, rfl⟩, rfl⟩, rfl⟩, rfl⟩, _, rfl⟩
                  refine J.val (v := .bool t439) rfl rfl (V.pickT rfl hc418 rfl) ?_
                  refine J.front 13 rfl ?_
                  refine J.front 13 rfl ?_
                  refine J.front 13 rfl ?_
                  refine J.front 13 rfl ?_
                  refine J.front 4 rfl ?_
                  refine J.front 5 rfl ?_
                  refine J.front 6 rfl ?_
                  refine J.front 13 rfl ?_
                  refine J.front 8 rfl ?_
                  refine J.front 9 rfl ?_
                  refine J.front 10 rfl ?_
                  refine J.front 13 rfl ?_
                  refine J.front 13 rfl ?_
                  refine J.front 13 rfl ?_
                  refine J.nil ?_
                  have e := Option.some.inj ht417
                  subst e
                  exact ⟨rfl, ⟨rfl, rfl, rfl, rfl, rfl, trivial⟩, rfl, rfl⟩
                · have ht417 := cf hc418 ht417
                  refine J.skip rfl rfl rfl rfl hc418 ?_
                  refine J.skip rfl rfl rfl rfl hc418 ?_
                  refine J.skip rfl rfl rfl rfl hc418 ?_
                  refine J.val (v := .bool false) rfl rfl (V.pickF rfl hc418 rfl) ?_
                  refine J.nil ?_
                  have e := Option.some.inj ht417
                  subst e
                  exact ⟨rfl, ⟨rfl, rfl, rfl, rfl, rfl, trivial⟩, rfl, rfl⟩
              · rintro ρ _ _ ⟨hf, rfl, rfl⟩
                obtain ⟨ρ, rfl⟩ := hf.ex
                refine J.val (v := .bool t416) rfl rfl (V.mv rfl) ?_
                refine J.cut 4 ?_
                refine @J.meet _ _ _ _ _ _ _ _ _ _ (fun ρ K' L' => Fits [(102, .bool (t416 && (decide (i297 = i321)))), (19, .int .i64 i298), (22, .int .i64 i322)] ρ ∧ K333 = K' ∧ L' = Row Hp.nil 60 (.cons (.int .i64) (.one .bool)) (.slice ad246 l243.length cp247) l243 :: Row Hp.nil 60 (.cons (.int .i64) (.one .bool)) (.slice ad259 l256.length cp260) l256 :: Cl b338 28 [.int .i64 i317, .slice ad323 l318.length cp324, .slice ad325 l319.length cp326, .slice ad327 l320.length cp328] :: Row Hp.nil 60 (.cons (.int .i64) (.one .bool)) (.slice ad327 l320.length cp328) l320 :: Row K333 26 (.one (.sl (.cons (.int .i64) (.one .bool)))) (.slice ad325 l319.length cp326) l319 :: Row Hp.nil 63 (.cons (.int .i64) (.one (.int .i64))) (.slice ad323 l318.length cp324) l318 :: Cl b314 28 [.int .i64 i293, .slice ad299 l294.length cp300, .slice ad301 l295.length cp302, .slice ad303 l296.length cp304] :: Row Hp.nil 60 (.cons (.int .i64) (.one .bool)) (.slice ad303 l296.length cp304) l296 :: Row K309 26 (.one (.sl (.cons (.int .i64) (.one .bool)))) (.slice ad301 l295.length cp302) l295 :: Row Hp.nil 63 (.cons (.int .i64) (.one (.int .i64))) (.slice ad299 l294.length cp300) l294 :: Row Hp.nil 63 (.cons (.int .i64) (.one (.int .i64))) (.slice ad284 l281.length cp285) l281 :: Row Hp.nil 63 (.cons (.int .i64) (.one (.int .i64))) (.slice ad272 l269.length cp273) l269 :: Cl b266 26 [.slice ad259 l256.length cp260] :: Cl b253 26 [.slice ad246 l243.length cp247] :: F) ?_ ?_
                · skip
                  rcases bt (t416) with hc445 | hc445
                  · skip
                    refine J.run rfl rfl rfl hc445 ?_
                    refine J.val (v := .int .i64 i297) rfl rfl (V.mv rfl) ?_
                    refine J.run rfl rfl rfl hc445 ?_
                    refine J.val (v := .int .i64 i321) rfl rfl (V.mv rfl) ?_
                    refine J.run rfl rfl rfl hc445 ?_
                    refine J.val (v := .bool (decide (i297 = i321))) rfl rfl (V.eql rfl rfl) ?_
                    refine J.val (v := .bool (decide (i297 = i321))) rfl rfl (V.pickT rfl hc445 rfl) ?_
                    refine J.nil ?_
                    exact ⟨rfl, ⟨(by simp only [hc445]; rfl), rfl, rfl, trivial⟩, rfl, rfl⟩
                  · skip
                    refine J.skip rfl rfl rfl rfl hc445 ?_
                    refine J.skip rfl rfl rfl rfl hc445 ?_
                    refine J.skip rfl rfl rfl rfl hc445 ?_
                    refine J.val (v := .bool false) rfl rfl (V.pickF rfl hc445 rfl) ?_
                    refine J.nil ?_
                    exact ⟨rfl, ⟨(by simp only [hc445]; rfl), rfl, rfl, trivial⟩, rfl, rfl⟩
                · rintro ρ _ _ ⟨hf, rfl, rfl⟩
                  obtain ⟨ρ, rfl⟩ := hf.ex
                  refine J.val (v := .bool (t416 && (decide (i297 = i321)))) rfl rfl (V.mv rfl) ?_
                  refine J.cut 4 ?_
                  refine @J.meet _ _ _ _ _ _ _ _ _ _ (fun ρ K' L' => Fits [(107, .bool ((t416 && (decide (i297 = i321))) && (decide (i298 = i322))))] ρ ∧ K333 = K' ∧ L' = Row Hp.nil 60 (.cons (.int .i64) (.one .bool)) (.slice ad246 l243.length cp247) l243 :: Row Hp.nil 60 (.cons (.int .i64) (.one .bool)) (.slice ad259 l256.length cp260) l256 :: Cl b338 28 [.int .i64 i317, .slice ad323 l318.length cp324, .slice ad325 l319.length cp326, .slice ad327 l320.length cp328] :: Row Hp.nil 60 (.cons (.int .i64) (.one .bool)) (.slice ad327 l320.length cp328) l320 :: Row K333 26 (.one (.sl (.cons (.int .i64) (.one .bool)))) (.slice ad325 l319.length cp326) l319 :: Row Hp.nil 63 (.cons (.int .i64) (.one (.int .i64))) (.slice ad323 l318.length cp324) l318 :: Cl b314 28 [.int .i64 i293, .slice ad299 l294.length cp300, .slice ad301 l295.length cp302, .slice ad303 l296.length cp304] :: Row Hp.nil 60 (.cons (.int .i64) (.one .bool)) (.slice ad303 l296.length cp304) l296 :: Row K309 26 (.one (.sl (.cons (.int .i64) (.one .bool)))) (.slice ad301 l295.length cp302) l295 :: Row Hp.nil 63 (.cons (.int .i64) (.one (.int .i64))) (.slice ad299 l294.length cp300) l294 :: Row Hp.nil 63 (.cons (.int .i64) (.one (.int .i64))) (.slice ad284 l281.length cp285) l281 :: Row Hp.nil 63 (.cons (.int .i64) (.one (.int .i64))) (.slice ad272 l269.length cp273) l269 :: Cl b266 26 [.slice ad259 l256.length cp260] :: Cl b253 26 [.slice ad246 l243.length cp247] :: F) ?_ ?_
                  · skip
                    rcases bt (t416 && (decide (i297 = i321))) with hc448 | hc448
                    · skip
                      refine J.run rfl rfl rfl hc448 ?_
                      refine J.val (v := .int .i64 i298) rfl rfl (V.mv rfl) ?_
                      refine J.run rfl rfl rfl hc448 ?_
                      refine J.val (v := .int .i64 i322) rfl rfl (V.mv rfl) ?_
                      refine J.run rfl rfl rfl hc448 ?_
                      refine J.val (v := .bool (decide (i298 = i322))) rfl rfl (V.eql rfl rfl) ?_
                      refine J.val (v := .bool (decide (i298 = i322))) rfl rfl (V.pickT rfl hc448 rfl) ?_
                      refine J.nil ?_
                      exact ⟨rfl, ⟨(by simp only [hc448]; rfl), trivial⟩, rfl, rfl⟩
                    · skip
                      refine J.skip rfl rfl rfl rfl hc448 ?_
                      refine J.skip rfl rfl rfl rfl hc448 ?_
                      refine J.skip rfl rfl rfl rfl hc448 ?_
                      refine J.val (v := .bool false) rfl rfl (V.pickF rfl hc448 rfl) ?_
                      refine J.nil ?_
                      exact ⟨rfl, ⟨(by simp only [hc448]; rfl), trivial⟩, rfl, rfl⟩
                  · rintro ρ _ _ ⟨hf, rfl, rfl⟩
                    obtain ⟨ρ, rfl⟩ := hf.ex
                    refine J.val (v := .bool ((t416 && (decide (i297 = i321))) && (decide (i298 = i322)))) rfl rfl (V.mv rfl) ?_
                    refine J.cut 2 ?_
                    obtain ⟨t456, ht457, h⟩ := ob h
                    refine @J.meet _ _ _ _ _ _ _ _ _ _ (fun ρ K' L' => Fits [(110, .bool t456)] ρ ∧ K333 = K' ∧ L' = Row Hp.nil 60 (.cons (.int .i64) (.one .bool)) (.slice ad246 l243.length cp247) l243 :: Row Hp.nil 60 (.cons (.int .i64) (.one .bool)) (.slice ad259 l256.length cp260) l256 :: Cl b338 28 [.int .i64 i317, .slice ad323 l318.length cp324, .slice ad325 l319.length cp326, .slice ad327 l320.length cp328] :: Row Hp.nil 60 (.cons (.int .i64) (.one .bool)) (.slice ad327 l320.length cp328) l320 :: Row K333 26 (.one (.sl (.cons (.int .i64) (.one .bool)))) (.slice ad325 l319.length cp326) l319 :: Row Hp.nil 63 (.cons (.int .i64) (.one (.int .i64))) (.slice ad323 l318.length cp324) l318 :: Cl b314 28 [.int .i64 i293, .slice ad299 l294.length cp300, .slice ad301 l295.length cp302, .slice ad303 l296.length cp304] :: Row Hp.nil 60 (.cons (.int .i64) (.one .bool)) (.slice ad303 l296.length cp304) l296 :: Row K309 26 (.one (.sl (.cons (.int .i64) (.one .bool)))) (.slice ad301 l295.length cp302) l295 :: Row Hp.nil 63 (.cons (.int .i64) (.one (.int .i64))) (.slice ad299 l294.length cp300) l294 :: Row Hp.nil 63 (.cons (.int .i64) (.one (.int .i64))) (.slice ad284 l281.length cp285) l281 :: Row Hp.nil 63 (.cons (.int .i64) (.one (.int .i64))) (.slice ad272 l269.length cp273) l269 :: Cl b266 26 [.slice ad259 l256.length cp260] :: Cl b253 26 [.slice ad246 l243.length cp247] :: F) ?_ ?_
                    · skip
                      rcases bt ((t416 && (decide (i297 = i321))) && (decide (i298 = i322))) with hc458 | hc458
                      · have ht457 := ct hc458 ht457
                        refine J.run rfl rfl rfl hc458 ?_
                        obtain ⟨r459, hr460, ht457⟩ := ob ht457
                        refine J.op rfl (A.call (L1 := []) Try.call9 rfl (law17_awake_ok hr460) rfl rfl) ?_
                        rintro _ _ _ ⟨v462, _, rfl, ⟨⟨t461, rfl, rfl, rfl⟩, rfl⟩, _, rfl⟩
                        refine J.val (v := .bool t461) rfl rfl (V.pickT rfl hc458 rfl) ?_
                        refine J.nil ?_
                        have e := Option.some.inj ht457
                        subst e
                        exact ⟨rfl, ⟨rfl, trivial⟩, rfl, rfl⟩
                      · have ht457 := cf hc458 ht457
                        refine J.skip rfl rfl rfl rfl hc458 ?_
                        refine J.val (v := .bool false) rfl rfl (V.pickF rfl hc458 rfl) ?_
                        refine J.nil ?_
                        have e := Option.some.inj ht457
                        subst e
                        exact ⟨rfl, ⟨rfl, trivial⟩, rfl, rfl⟩
                    · rintro ρ _ _ ⟨hf, rfl, rfl⟩
                      obtain ⟨ρ, rfl⟩ := hf.ex
                      refine J.val (v := .bool t456) rfl rfl (V.as rfl) ?_
                      refine J.nil ?_
                      refine CJ.ret ?_
                      have e := Option.some.inj h
                      subst e
                      exact ⟨_, [], Res.one rfl rfl, ⟨t456, rfl, rfl, rfl⟩, (hK310.trans hK334), fun w hs => (Sep.dropAt 0 rfl (Sep.dropAt 0 rfl (Sep.dropAt 0 rfl (Sep.dropAt 0 rfl (Sep.dropAt 0 rfl (Sep.dropAt 0 rfl (Sep.dropAt 0 rfl (Sep.dropAt 0 rfl (Sep.dropAt 0 rfl (Sep.dropAt 0 rfl (Sep.dropAt 0 rfl (Sep.dropAt 0 rfl (Sep.dropAt 0 rfl (Sep.dropAt 0 rfl hs))))))))))))))⟩

noncomputable def fn_ref15_Few (xa : (List (Int × Bool))) (xb : Int) : Option Bool :=
  some (decide ((((xa.length : Nat) : Int)) ≤ xb))
set_option maxRecDepth 100000 in
set_option maxHeartbeats 4000000 in
theorem ref15_Few_ok {K : Hp} {xa : (List (Int × Bool))} {xb : Int} {adxa_0 : Option Addr} {cpxa_0 : Nat} (fxa_0 : Is K (.sl (.cons (.int .i64) (.one .bool))) [.slice adxa_0 xa.length cpxa_0] xa) {r : Bool} (h : fn_ref15_Few xa xb = some r) :
    Tr Try.prog 8 #[.agg #[.slice adxa_0 xa.length cpxa_0], .int .i64 xb] K [] (fun v K' L' => (∃ (t2 : Bool), t2 = r ∧ .bool t2 = v ∧ L' = []) ∧ K = K') := by
  refine Tr.k ?_
  refine Tr.of Try.func8 rfl Try.ntmps8 rfl (fun E F => ?_)
  unfold fn_ref15_Few at h
  refine CJ.seq ?_
  refine CJ.region ?_
  refine J.op rfl (A.box (v := .agg #[.slice adxa_0 xa.length cpxa_0]) (cs := [.slice adxa_0 xa.length cpxa_0]) rfl rfl) ?_
  rintro _ _ _ ⟨b3, rfl, rfl, rfl⟩
  refine J.val (v := .bool false) rfl rfl (V.as rfl) ?_
  refine J.nil ?_
  refine CJ.seq ?_
  refine CJ.region ?_
  refine J.val rfl rfl (V.fad Try.underlying26 rfl nz24 rfl) ?_
  refine J.val (v := .slice adxa_0 xa.length cpxa_0) rfl rfl (V.ld rfl (Ld.sc sc24 (Rd.cl 0 rfl rfl))) ?_
  refine J.val (v := .int .i64 (((xa.length : Nat) : Int))) rfl rfl (V.len Try.underlying24 rfl) ?_
  refine J.val (v := .int .i64 xb) rfl rfl (V.mv rfl) ?_
  refine J.val (v := .bool (decide ((((xa.length : Nat) : Int)) ≤ xb))) rfl rfl (V.leq rfl rfl) ?_
  refine J.val (v := .bool (decide ((((xa.length : Nat) : Int)) ≤ xb))) rfl rfl (V.as rfl) ?_
  refine J.nil ?_
  refine CJ.ret ?_
  have e := Option.some.inj h
  subst e
  exact ⟨_, [], Res.one rfl rfl, ⟨decide ((((xa.length : Nat) : Int)) ≤ xb), rfl, rfl, rfl⟩, (Hp.le_refl _), fun w hs => (Sep.dropAt 0 rfl hs)⟩
end Go.Proofs.Ytjhgiaafaahbjaa
