/- What Go functions answer: generated. -/
import Derived.Test.YtaaicohpbafegaaF1
namespace Go.Proofs.Ytaaicohpbafegaa
open Go.RowKit
set_option linter.unusedVariables false

noncomputable def fn_ref18_Dst (xa : Int) : Option Bool :=
  some ((((decide (xa = 1)) || (decide (xa = 2))) || (decide (xa = 3))) || (decide (xa = 5)))
set_option maxRecDepth 100000 in
set_option maxHeartbeats 4000000 in
theorem ref18_Dst_ok {K : Hp} {xa : Int}   {r : Bool} (h : fn_ref18_Dst xa = some r) :
    Tr Try.prog 24 #[.int .i64 xa] K [] (fun v K' L' => (∃ (t10 : Bool), t10 = r ∧ .bool t10 = v ∧ L' = []) ∧ K = K') := by
  refine Tr.k ?_
  refine Tr.of Try.func24 rfl Try.ntmps24 rfl (fun E F => ?_)
  unfold fn_ref18_Dst at h
  refine CJ.seq ?_
  refine CJ.region ?_
  refine J.val (v := .bool false) rfl rfl (V.as rfl) ?_
  refine J.nil ?_
  refine CJ.seq ?_
  refine CJ.region ?_
  refine J.val (v := .int .i64 xa) rfl rfl (V.mv rfl) ?_
  refine J.val (v := .bool (decide (xa = 1))) rfl rfl (V.eql rfl rfl) ?_
  refine J.val (v := .bool (decide (xa = 1))) rfl rfl (V.mv rfl) ?_
  refine J.cut 3 ?_
  refine @J.meet _ _ _ _ _ _ _ _ _ _ (fun ρ K' L' => Fits [(8, .bool ((decide (xa = 1)) || (decide (xa = 2)))), (0, .int .i64 xa)] ρ ∧ K = K' ∧ F = L') ?_ ?_
  · skip
    rcases bt (decide (xa = 1)) with hc13 | hc13
    · skip
      refine J.skip rfl rfl rfl rfl hc13 ?_
      refine J.skip rfl rfl rfl rfl hc13 ?_
      refine J.val (v := .bool true) rfl rfl (V.pickT rfl hc13 rfl) ?_
      refine J.nil ?_
      exact ⟨rfl, ⟨(by simp only [hc13]; rfl), rfl, trivial⟩, rfl, rfl⟩
    · skip
      refine J.run rfl rfl rfl hc13 ?_
      refine J.val (v := .int .i64 xa) rfl rfl (V.mv rfl) ?_
      refine J.run rfl rfl rfl hc13 ?_
      refine J.val (v := .bool (decide (xa = 2))) rfl rfl (V.eql rfl rfl) ?_
      refine J.val (v := .bool (decide (xa = 2))) rfl rfl (V.pickF rfl hc13 rfl) ?_
      refine J.nil ?_
      exact ⟨rfl, ⟨(by simp only [hc13]; rfl), rfl, trivial⟩, rfl, rfl⟩
  · rintro ρ _ _ ⟨hf, rfl, rfl⟩
    obtain ⟨ρ, rfl⟩ := hf.ex
    refine J.val (v := .bool ((decide (xa = 1)) || (decide (xa = 2)))) rfl rfl (V.mv rfl) ?_
    refine J.cut 3 ?_
    refine @J.meet _ _ _ _ _ _ _ _ _ _ (fun ρ K' L' => Fits [(12, .bool (((decide (xa = 1)) || (decide (xa = 2))) || (decide (xa = 3)))), (0, .int .i64 xa)] ρ ∧ K = K' ∧ F = L') ?_ ?_
    · skip
      rcases bt ((decide (xa = 1)) || (decide (xa = 2))) with hc16 | hc16
      · skip
        refine J.skip rfl rfl rfl rfl hc16 ?_
        refine J.skip rfl rfl rfl rfl hc16 ?_
        refine J.val (v := .bool true) rfl rfl (V.pickT rfl hc16 rfl) ?_
        refine J.nil ?_
        exact ⟨rfl, ⟨(by simp only [hc16]; rfl), rfl, trivial⟩, rfl, rfl⟩
      · skip
        refine J.run rfl rfl rfl hc16 ?_
        refine J.val (v := .int .i64 xa) rfl rfl (V.mv rfl) ?_
        refine J.run rfl rfl rfl hc16 ?_
        refine J.val (v := .bool (decide (xa = 3))) rfl rfl (V.eql rfl rfl) ?_
        refine J.val (v := .bool (decide (xa = 3))) rfl rfl (V.pickF rfl hc16 rfl) ?_
        refine J.nil ?_
        exact ⟨rfl, ⟨(by simp only [hc16]; rfl), rfl, trivial⟩, rfl, rfl⟩
    · rintro ρ _ _ ⟨hf, rfl, rfl⟩
      obtain ⟨ρ, rfl⟩ := hf.ex
      refine J.val (v := .bool (((decide (xa = 1)) || (decide (xa = 2))) || (decide (xa = 3)))) rfl rfl (V.mv rfl) ?_
      refine J.cut 3 ?_
      refine @J.meet _ _ _ _ _ _ _ _ _ _ (fun ρ K' L' => Fits [(16, .bool ((((decide (xa = 1)) || (decide (xa = 2))) || (decide (xa = 3))) || (decide (xa = 5))))] ρ ∧ K = K' ∧ F = L') ?_ ?_
      · skip
        rcases bt (((decide (xa = 1)) || (decide (xa = 2))) || (decide (xa = 3))) with hc19 | hc19
        · skip
          refine J.skip rfl rfl rfl rfl hc19 ?_
          refine J.skip rfl rfl rfl rfl hc19 ?_
          refine J.val (v := .bool true) rfl rfl (V.pickT rfl hc19 rfl) ?_
          refine J.nil ?_
          exact ⟨rfl, ⟨(by simp only [hc19]; rfl), trivial⟩, rfl, rfl⟩
        · skip
          refine J.run rfl rfl rfl hc19 ?_
          refine J.val (v := .int .i64 xa) rfl rfl (V.mv rfl) ?_
          refine J.run rfl rfl rfl hc19 ?_
          refine J.val (v := .bool (decide (xa = 5))) rfl rfl (V.eql rfl rfl) ?_
          refine J.val (v := .bool (decide (xa = 5))) rfl rfl (V.pickF rfl hc19 rfl) ?_
          refine J.nil ?_
          exact ⟨rfl, ⟨(by simp only [hc19]; rfl), trivial⟩, rfl, rfl⟩
      · rintro ρ _ _ ⟨hf, rfl, rfl⟩
        obtain ⟨ρ, rfl⟩ := hf.ex
        refine J.val (v := .bool ((((decide (xa = 1)) || (decide (xa = 2))) || (decide (xa = 3))) || (decide (xa = 5)))) rfl rfl (V.as rfl) ?_
        refine J.nil ?_
        refine CJ.ret ?_
        have e := Option.some.inj h
        subst e
        exact ⟨_, [], Res.one rfl rfl, ⟨(((decide (xa = 1)) || (decide (xa = 2))) || (decide (xa = 3))) || (decide (xa = 5)), rfl, rfl, rfl⟩, (Hp.le_refl _), fun w hs => hs⟩

noncomputable def fn_ref18_Src (xa : Int) : Option Bool :=
  some ((decide (1 ≤ xa)) && (decide (xa ≤ 4)))
set_option maxRecDepth 100000 in
set_option maxHeartbeats 4000000 in
theorem ref18_Src_ok {K : Hp} {xa : Int}   {r : Bool} (h : fn_ref18_Src xa = some r) :
    Tr Try.prog 25 #[.int .i64 xa] K [] (fun v K' L' => (∃ (t4 : Bool), t4 = r ∧ .bool t4 = v ∧ L' = []) ∧ K = K') := by
  refine Tr.k ?_
  refine Tr.of Try.func25 rfl Try.ntmps25 rfl (fun E F => ?_)
  unfold fn_ref18_Src at h
  refine CJ.seq ?_
  refine CJ.region ?_
  refine J.val (v := .bool false) rfl rfl (V.as rfl) ?_
  refine J.nil ?_
  refine CJ.seq ?_
  refine CJ.region ?_
  refine J.val (v := .int .i64 xa) rfl rfl (V.mv rfl) ?_
  refine J.val (v := .bool (decide (1 ≤ xa))) rfl rfl (V.geq rfl rfl) ?_
  refine J.val (v := .bool (decide (1 ≤ xa))) rfl rfl (V.mv rfl) ?_
  refine J.cut 3 ?_
  refine @J.meet _ _ _ _ _ _ _ _ _ _ (fun ρ K' L' => Fits [(8, .bool ((decide (1 ≤ xa)) && (decide (xa ≤ 4))))] ρ ∧ K = K' ∧ F = L') ?_ ?_
  · skip
    rcases bt (decide (1 ≤ xa)) with hc7 | hc7
    · skip
      refine J.run rfl rfl rfl hc7 ?_
      refine J.val (v := .int .i64 xa) rfl rfl (V.mv rfl) ?_
      refine J.run rfl rfl rfl hc7 ?_
      refine J.val (v := .bool (decide (xa ≤ 4))) rfl rfl (V.leq rfl rfl) ?_
      refine J.val (v := .bool (decide (xa ≤ 4))) rfl rfl (V.pickT rfl hc7 rfl) ?_
      refine J.nil ?_
      exact ⟨rfl, ⟨(by simp only [hc7]; rfl), trivial⟩, rfl, rfl⟩
    · skip
      refine J.skip rfl rfl rfl rfl hc7 ?_
      refine J.skip rfl rfl rfl rfl hc7 ?_
      refine J.val (v := .bool false) rfl rfl (V.pickF rfl hc7 rfl) ?_
      refine J.nil ?_
      exact ⟨rfl, ⟨(by simp only [hc7]; rfl), trivial⟩, rfl, rfl⟩
  · rintro ρ _ _ ⟨hf, rfl, rfl⟩
    obtain ⟨ρ, rfl⟩ := hf.ex
    refine J.val (v := .bool ((decide (1 ≤ xa)) && (decide (xa ≤ 4)))) rfl rfl (V.as rfl) ?_
    refine J.nil ?_
    refine CJ.ret ?_
    have e := Option.some.inj h
    subst e
    exact ⟨_, [], Res.one rfl rfl, ⟨(decide (1 ≤ xa)) && (decide (xa ≤ 4)), rfl, rfl, rfl⟩, (Hp.le_refl _), fun w hs => hs⟩

noncomputable def fn_ref18_Region (xa : Int) : Option Bool :=
  some ((decide (xa = 2)) || (decide (xa = 3)))
set_option maxRecDepth 100000 in
set_option maxHeartbeats 4000000 in
theorem ref18_Region_ok {K : Hp} {xa : Int}   {r : Bool} (h : fn_ref18_Region xa = some r) :
    Tr Try.prog 26 #[.int .i64 xa] K [] (fun v K' L' => (∃ (t4 : Bool), t4 = r ∧ .bool t4 = v ∧ L' = []) ∧ K = K') := by
  refine Tr.k ?_
  refine Tr.of Try.func26 rfl Try.ntmps26 rfl (fun E F => ?_)
  unfold fn_ref18_Region at h
  refine CJ.seq ?_
  refine CJ.region ?_
  refine J.val (v := .bool false) rfl rfl (V.as rfl) ?_
  refine J.nil ?_
  refine CJ.seq ?_
  refine CJ.region ?_
  refine J.val (v := .int .i64 xa) rfl rfl (V.mv rfl) ?_
  refine J.val (v := .bool (decide (xa = 2))) rfl rfl (V.eql rfl rfl) ?_
  refine J.val (v := .bool (decide (xa = 2))) rfl rfl (V.mv rfl) ?_
  refine J.cut 3 ?_
  refine @J.meet _ _ _ _ _ _ _ _ _ _ (fun ρ K' L' => Fits [(8, .bool ((decide (xa = 2)) || (decide (xa = 3))))] ρ ∧ K = K' ∧ F = L') ?_ ?_
  · skip
    rcases bt (decide (xa = 2)) with hc7 | hc7
    · skip
      refine J.skip rfl rfl rfl rfl hc7 ?_
      refine J.skip rfl rfl rfl rfl hc7 ?_
      refine J.val (v := .bool true) rfl rfl (V.pickT rfl hc7 rfl) ?_
      refine J.nil ?_
      exact ⟨rfl, ⟨(by simp only [hc7]; rfl), trivial⟩, rfl, rfl⟩
    · skip
      refine J.run rfl rfl rfl hc7 ?_
      refine J.val (v := .int .i64 xa) rfl rfl (V.mv rfl) ?_
      refine J.run rfl rfl rfl hc7 ?_
      refine J.val (v := .bool (decide (xa = 3))) rfl rfl (V.eql rfl rfl) ?_
      refine J.val (v := .bool (decide (xa = 3))) rfl rfl (V.pickF rfl hc7 rfl) ?_
      refine J.nil ?_
      exact ⟨rfl, ⟨(by simp only [hc7]; rfl), trivial⟩, rfl, rfl⟩
  · rintro ρ _ _ ⟨hf, rfl, rfl⟩
    obtain ⟨ρ, rfl⟩ := hf.ex
    refine J.val (v := .bool ((decide (xa = 2)) || (decide (xa = 3)))) rfl rfl (V.as rfl) ?_
    refine J.nil ?_
    refine CJ.ret ?_
    have e := Option.some.inj h
    subst e
    exact ⟨_, [], Res.one rfl rfl, ⟨(decide (xa = 2)) || (decide (xa = 3)), rfl, rfl, rfl⟩, (Hp.le_refl _), fun w hs => hs⟩

noncomputable def fn_ref18_Form (xa : (Int × Int × Int × Int × Bool)) : Option Bool :=
  (cond ((decide (0 ≤ xa.1)) && (decide (xa.1 ≤ 5))) ((fn_ref18_Dst xa.1).bind fun t103 => some (t103 || (decide (xa.2.1 = 0)))) (some (false))).bind fun t98 => (cond (t98) ((fn_ref18_Src xa.1).bind fun t125 => some (t125 || (decide (xa.2.2.1 = 0)))) (some (false))).bind fun t120 => (cond (t120) ((fn_ref18_Region xa.1).bind fun t153 => some (t153 || ((decide (xa.2.2.2.1 = 0)) && (!xa.2.2.2.2)))) (some (false))).bind fun t148 => some (t148)
set_option maxRecDepth 100000 in
set_option maxHeartbeats 4000000 in
theorem ref18_Form_ok {K : Hp} {xa : (Int × Int × Int × Int × Bool)}   {r : Bool} (h : fn_ref18_Form xa = some r) :
    Tr Try.prog 23 #[.agg #[.int .i64 xa.1, .int .i64 xa.2.1, .int .i64 xa.2.2.1, .int .i64 xa.2.2.2.1, .bool xa.2.2.2.2]] K [] (fun v K' L' => (∃ (t83 : Bool), t83 = r ∧ .bool t83 = v ∧ L' = []) ∧ K = K') := by
  refine Tr.k ?_
  refine Tr.of Try.func23 rfl Try.ntmps23 rfl (fun E F => ?_)
  unfold fn_ref18_Form at h
  refine CJ.seq ?_
  refine CJ.region ?_
  refine J.op rfl (A.box (v := .agg #[.int .i64 xa.1, .int .i64 xa.2.1, .int .i64 xa.2.2.1, .int .i64 xa.2.2.2.1, .bool xa.2.2.2.2]) (cs := [.int .i64 xa.1, .int .i64 xa.2.1, .int .i64 xa.2.2.1, .int .i64 xa.2.2.2.1, .bool xa.2.2.2.2]) rfl rfl) ?_
  rintro _ _ _ ⟨b84, rfl, rfl, rfl⟩
  refine J.val (v := .bool false) rfl rfl (V.as rfl) ?_
  refine J.nil ?_
  refine CJ.seq ?_
  refine CJ.region ?_
  refine J.val rfl rfl (V.fad Try.underlying23 rfl nz3 rfl) ?_
  refine J.val (v := .int .i64 xa.1) rfl rfl (V.ld rfl (Ld.sc sc3 (Rd.cl 0 rfl rfl))) ?_
  refine J.val (v := .bool (decide (0 ≤ xa.1))) rfl rfl (V.geq rfl rfl) ?_
  refine J.val (v := .bool (decide (0 ≤ xa.1))) rfl rfl (V.mv rfl) ?_
  refine J.cut 4 ?_
  refine @J.meet _ _ _ _ _ _ _ _ _ _ (fun ρ K' L' => Fits [(10, .bool ((decide (0 ≤ xa.1)) && (decide (xa.1 ≤ 5)))), (1, .pointer (some ⟨b84, 0, none⟩))] ρ ∧ K = K' ∧ L' = Cl b84 23 [.int .i64 xa.1, .int .i64 xa.2.1, .int .i64 xa.2.2.1, .int .i64 xa.2.2.2.1, .bool xa.2.2.2.2] :: F) ?_ ?_
  · skip
    rcases bt (decide (0 ≤ xa.1)) with hc87 | hc87
    · skip
      refine J.run rfl rfl rfl hc87 ?_
      refine J.val rfl rfl (V.fad Try.underlying23 rfl nz3 rfl) ?_
      refine J.run rfl rfl rfl hc87 ?_
      refine J.val (v := .int .i64 xa.1) rfl rfl (V.ld rfl (Ld.sc sc3 (Rd.cl 0 rfl rfl))) ?_
      refine J.run rfl rfl rfl hc87 ?_
      refine J.val (v := .bool (decide (xa.1 ≤ 5))) rfl rfl (V.leq rfl rfl) ?_
      refine J.val (v := .bool (decide (xa.1 ≤ 5))) rfl rfl (V.pickT rfl hc87 rfl) ?_
      refine J.nil ?_
      exact ⟨rfl, ⟨(by simp only [hc87]; rfl), rfl, trivial⟩, rfl, rfl⟩
    · skip
      refine J.skip rfl rfl rfl rfl hc87 ?_
      refine J.skip rfl rfl rfl rfl hc87 ?_
      refine J.skip rfl rfl rfl rfl hc87 ?_
      refine J.val (v := .bool false) rfl rfl (V.pickF rfl hc87 rfl) ?_
      refine J.nil ?_
      exact ⟨rfl, ⟨(by simp only [hc87]; rfl), rfl, trivial⟩, rfl, rfl⟩
  · rintro ρ _ _ ⟨hf, rfl, rfl⟩
    obtain ⟨ρ, rfl⟩ := hf.ex
    refine J.val (v := .bool ((decide (0 ≤ xa.1)) && (decide (xa.1 ≤ 5)))) rfl rfl (V.mv rfl) ?_
    refine J.cut 9 ?_
    obtain ⟨t98, ht99, h⟩ := ob h
    refine @J.meet _ _ _ _ _ _ _ _ _ _ (fun ρ K' L' => Fits [(20, .bool t98), (1, .pointer (some ⟨b84, 0, none⟩))] ρ ∧ K = K' ∧ L' = Cl b84 23 [.int .i64 xa.1, .int .i64 xa.2.1, .int .i64 xa.2.2.1, .int .i64 xa.2.2.2.1, .bool xa.2.2.2.2] :: F) ?_ ?_
    · skip
      rcases bt ((decide (0 ≤ xa.1)) && (decide (xa.1 ≤ 5))) with hc100 | hc100
      · have ht99 := ct hc100 ht99
        refine J.run rfl rfl rfl hc100 ?_
        refine J.val rfl rfl (V.fad Try.underlying23 rfl nz3 rfl) ?_
        refine J.run rfl rfl rfl hc100 ?_
        refine J.val (v := .int .i64 xa.1) rfl rfl (V.ld rfl (Ld.sc sc3 (Rd.cl 0 rfl rfl))) ?_
        refine J.run rfl rfl rfl hc100 ?_
        obtain ⟨r101, hr102, ht99⟩ := ob ht99
        refine J.op rfl (A.call (L1 := []) Try.call24 rfl (ref18_Dst_ok hr102) rfl rfl) ?_
        rintro _ _ _ ⟨v104, _, rfl, ⟨⟨t103, rfl, rfl, rfl⟩, rfl⟩, _, rfl⟩
        refine J.run rfl rfl rfl hc100 ?_
        refine J.val (v := .bool t103) rfl rfl (V.mv rfl) ?_
        refine J.cut 4 ?_
        refine @J.meet _ _ _ _ _ _ _ _ _ _ (fun ρ K' L' => Fits [(19, .bool (t103 || (decide (xa.2.1 = 0)))), (1, .pointer (some ⟨b84, 0, none⟩)), (11, .bool ((decide (0 ≤ xa.1)) && (decide (xa.1 ≤ 5))))] ρ ∧ K = K' ∧ L' = Cl b84 23 [.int .i64 xa.1, .int .i64 xa.2.1, .int .i64 xa.2.2.1, .int .i64 xa.2.2.2.1, .bool xa.2.2.2.2] :: F) ?_ ?_
        · skip
          rcases bt (t103) with hc109 | hc109
          · skip
            refine J.skip rfl rfl rfl rfl hc109 ?_
            refine J.skip rfl rfl rfl rfl hc109 ?_
            refine J.skip rfl rfl rfl rfl hc109 ?_
            refine J.run rfl rfl rfl hc100 ?_
            refine J.val (v := .bool true) rfl rfl (V.pickT rfl hc109 rfl) ?_
            refine J.nil ?_
            exact ⟨rfl, ⟨(by simp only [hc109]; rfl), rfl, rfl, trivial⟩, rfl, rfl⟩
          · skip
            refine J.run rfl rfl rfl hc109 ?_
            refine J.val rfl rfl (V.fad Try.underlying23 rfl nz3 rfl) ?_
            refine J.run rfl rfl rfl hc109 ?_
            refine J.val (v := .int .i64 xa.2.1) rfl rfl (V.ld rfl (Ld.sc sc3 (Rd.cl 0 rfl rfl))) ?_
            refine J.run rfl rfl rfl hc109 ?_
            refine J.val (v := .bool (decide (xa.2.1 = 0))) rfl rfl (V.eql rfl rfl) ?_
            refine J.run rfl rfl rfl hc100 ?_
            refine J.val (v := .bool (decide (xa.2.1 = 0))) rfl rfl (V.pickF rfl hc109 rfl) ?_
            refine J.nil ?_
            exact ⟨rfl, ⟨(by simp only [hc109]; rfl), rfl, rfl, trivial⟩, rfl, rfl⟩
        · rintro ρ _ _ ⟨hf, rfl, rfl⟩
          obtain ⟨ρ, rfl⟩ := hf.ex
          refine J.val (v := .bool (t103 || (decide (xa.2.1 = 0)))) rfl rfl (V.pickT rfl hc100 rfl) ?_
          refine J.nil ?_
          have e := Option.some.inj ht99
          subst e
          exact ⟨rfl, ⟨rfl, rfl, trivial⟩, rfl, rfl⟩
      · have ht99 := cf hc100 ht99
        refine J.skip rfl rfl rfl rfl hc100 ?_
        refine J.skip rfl rfl rfl rfl hc100 ?_
        refine J.skip rfl rfl rfl rfl hc100 ?_
        refine J.skip rfl rfl rfl rfl hc100 ?_
        refine J.skipu rfl rfl rfl rfl ?_
        refine J.skipu rfl rfl rfl rfl ?_
        refine J.skipu rfl rfl rfl rfl ?_
        refine J.skip rfl rfl rfl rfl hc100 ?_
        refine J.val (v := .bool false) rfl rfl (V.pickF rfl hc100 rfl) ?_
        refine J.nil ?_
        have e := Option.some.inj ht99
        subst e
        exact ⟨rfl, ⟨rfl, rfl, trivial⟩, rfl, rfl⟩
    · rintro ρ _ _ ⟨hf, rfl, rfl⟩
      obtain ⟨ρ, rfl⟩ := hf.ex
      refine J.val (v := .bool t98) rfl rfl (V.mv rfl) ?_
      refine J.cut 9 ?_
      obtain ⟨t120, ht121, h⟩ := ob h
      refine @J.meet _ _ _ _ _ _ _ _ _ _ (fun ρ K' L' => Fits [(30, .bool t120), (1, .pointer (some ⟨b84, 0, none⟩))] ρ ∧ K = K' ∧ L' = Cl b84 23 [.int .i64 xa.1, .int .i64 xa.2.1, .int .i64 xa.2.2.1, .int .i64 xa.2.2.2.1, .bool xa.2.2.2.2] :: F) ?_ ?_
      · skip
        rcases bt (t98) with hc122 | hc122
        · have ht121 := ct hc122 ht121
          refine J.run rfl rfl rfl hc122 ?_
          refine J.val rfl rfl (V.fad Try.underlying23 rfl nz3 rfl) ?_
          refine J.run rfl rfl rfl hc122 ?_
          refine J.val (v := .int .i64 xa.1) rfl rfl (V.ld rfl (Ld.sc sc3 (Rd.cl 0 rfl rfl))) ?_
          refine J.run rfl rfl rfl hc122 ?_
          obtain ⟨r123, hr124, ht121⟩ := ob ht121
          refine J.op rfl (A.call (L1 := []) Try.call25 rfl (ref18_Src_ok hr124) rfl rfl) ?_
          rintro _ _ _ ⟨v126, _, rfl, ⟨⟨t125, rfl, rfl, rfl⟩, rfl⟩, _, rfl⟩
          refine J.run rfl rfl rfl hc122 ?_
          refine J.val (v := .bool t125) rfl rfl (V.mv rfl) ?_
          refine J.cut 4 ?_
          refine @J.meet _ _ _ _ _ _ _ _ _ _ (fun ρ K' L' => Fits [(29, .bool (t125 || (decide (xa.2.2.1 = 0)))), (1, .pointer (some ⟨b84, 0, none⟩)), (21, .bool t98)] ρ ∧ K = K' ∧ L' = Cl b84 23 [.int .i64 xa.1, .int .i64 xa.2.1, .int .i64 xa.2.2.1, .int .i64 xa.2.2.2.1, .bool xa.2.2.2.2] :: F) ?_ ?_
          · skip
            rcases bt (t125) with hc131 | hc131
            · skip
              refine J.skip rfl rfl rfl rfl hc131 ?_
              refine J.skip rfl rfl rfl rfl hc131 ?_
              refine J.skip rfl rfl rfl rfl hc131 ?_
              refine J.run rfl rfl rfl hc122 ?_
              refine J.val (v := .bool true) rfl rfl (V.pickT rfl hc131 rfl) ?_
              refine J.nil ?_
              exact ⟨rfl, ⟨(by simp only [hc131]; rfl), rfl, rfl, trivial⟩, rfl, rfl⟩
            · skip
              refine J.run rfl rfl rfl hc131 ?_
              refine J.val rfl rfl (V.fad Try.underlying23 rfl nz3 rfl) ?_
              refine J.run rfl rfl rfl hc131 ?_
              refine J.val (v := .int .i64 xa.2.2.1) rfl rfl (V.ld rfl (Ld.sc sc3 (Rd.cl 0 rfl rfl))) ?_
              refine J.run rfl rfl rfl hc131 ?_
              refine J.val (v := .bool (decide (xa.2.2.1 = 0))) rfl rfl (V.eql rfl rfl) ?_
              refine J.run rfl rfl rfl hc122 ?_
              refine J.val (v := .bool (decide (xa.2.2.1 = 0))) rfl rfl (V.pickF rfl hc131 rfl) ?_
              refine J.nil ?_
              exact ⟨rfl, ⟨(by simp only [hc131]; rfl), rfl, rfl, trivial⟩, rfl, rfl⟩
          · rintro ρ _ _ ⟨hf, rfl, rfl⟩
            obtain ⟨ρ, rfl⟩ := hf.ex
            refine J.val (v := .bool (t125 || (decide (xa.2.2.1 = 0)))) rfl rfl (V.pickT rfl hc122 rfl) ?_
            refine J.nil ?_
            have e := Option.some.inj ht121
            subst e
            exact ⟨rfl, ⟨rfl, rfl, trivial⟩, rfl, rfl⟩
        · have ht121 := cf hc122 ht121
          refine J.skip rfl rfl rfl rfl hc122 ?_
          refine J.skip rfl rfl rfl rfl hc122 ?_
          refine J.skip rfl rfl rfl rfl hc122 ?_
          refine J.skip rfl rfl rfl rfl hc122 ?_
          refine J.skipu rfl rfl rfl rfl ?_
          refine J.skipu rfl rfl rfl rfl ?_
          refine J.skipu rfl rfl rfl rfl ?_
          refine J.skip rfl rfl rfl rfl hc122 ?_
          refine J.val (v := .bool false) rfl rfl (V.pickF rfl hc122 rfl) ?_
          refine J.nil ?_
          have e := Option.some.inj ht121
          subst e
          exact ⟨rfl, ⟨rfl, rfl, trivial⟩, rfl, rfl⟩
      · rintro ρ _ _ ⟨hf, rfl, rfl⟩
        obtain ⟨ρ, rfl⟩ := hf.ex
        refine J.val (v := .bool t120) rfl rfl (V.mv rfl) ?_
        refine J.cut 14 ?_
        obtain ⟨t148, ht149, h⟩ := ob h
        refine @J.meet _ _ _ _ _ _ _ _ _ _ (fun ρ K' L' => Fits [(45, .bool t148)] ρ ∧ K = K' ∧ L' = Cl b84 23 [.int .i64 xa.1, .int .i64 xa.2.1, .int .i64 xa.2.2.1, .int .i64 xa.2.2.2.1, .bool xa.2.2.2.2] :: F) ?_ ?_
        · skip
          rcases bt (t120) with hc150 | hc150
          · have ht149 := ct hc150 ht149
            refine J.run rfl rfl rfl hc150 ?_
            refine J.val rfl rfl (V.fad Try.underlying23 rfl nz3 rfl) ?_
            refine J.run rfl rfl rfl hc150 ?_
            refine J.val (v := .int .i64 xa.1) rfl rfl (V.ld rfl (Ld.sc sc3 (Rd.cl 0 rfl rfl))) ?_
            refine J.run rfl rfl rfl hc150 ?_
            obtain ⟨r151, hr152, ht149⟩ := ob ht149
            refine J.op rfl (A.call (L1 := []) Try.call26 rfl (ref18_Region_ok hr152) rfl rfl) ?_
            rintro _ _ _ ⟨v154, _, rfl, ⟨⟨t153, rfl, rfl, rfl⟩, rfl⟩, _, rfl⟩
            refine J.run rfl rfl rfl hc150 ?_
            refine J.val (v := .bool t153) rfl rfl (V.mv rfl) ?_
            refine J.cut 9 ?_
            refine @J.meet _ _ _ _ _ _ _ _ _ _ (fun ρ K' L' => Fits [(44, .bool (t153 || ((decide (xa.2.2.2.1 = 0)) && (!xa.2.2.2.2)))), (31, .bool t120)] ρ ∧ K = K' ∧ L' = Cl b84 23 [.int .i64 xa.1, .int .i64 xa.2.1, .int .i64 xa.2.2.1, .int .i64 xa.2.2.2.1, .bool xa.2.2.2.2] :: F) ?_ ?_
            · skip
              rcases bt (t153) with hc162 | hc162
              · skip
                refine J.skip rfl rfl rfl rfl hc162 ?_
                refine J.skip rfl rfl rfl rfl hc162 ?_
                refine J.skip rfl rfl rfl rfl hc162 ?_
                refine J.skip rfl rfl rfl rfl hc162 ?_
                refine J.skipu rfl rfl rfl rfl ?_
                refine J.skipu rfl rfl rfl rfl ?_
                refine J.skipu rfl rfl rfl rfl ?_
                refine J.skip rfl rfl rfl rfl hc162 ?_
                refine J.run rfl rfl rfl hc150 ?_
                refine J.val (v := .bool true) rfl rfl (V.pickT rfl hc162 rfl) ?_
                refine J.nil ?_
                exact ⟨rfl, ⟨(by simp only [hc162]; rfl), rfl, trivial⟩, rfl, rfl⟩
              · skip
                refine J.run rfl rfl rfl hc162 ?_
                refine J.val rfl rfl (V.fad Try.underlying23 rfl nz3 rfl) ?_
                refine J.run rfl rfl rfl hc162 ?_
                refine J.val (v := .int .i64 xa.2.2.2.1) rfl rfl (V.ld rfl (Ld.sc sc3 (Rd.cl 0 rfl rfl))) ?_
                refine J.run rfl rfl rfl hc162 ?_
                refine J.val (v := .bool (decide (xa.2.2.2.1 = 0))) rfl rfl (V.eql rfl rfl) ?_
                refine J.run rfl rfl rfl hc162 ?_
                refine J.val (v := .bool (decide (xa.2.2.2.1 = 0))) rfl rfl (V.mv rfl) ?_
                refine J.cut 4 ?_
                refine @J.meet _ _ _ _ _ _ _ _ _ _ (fun ρ K' L' => Fits [(43, .bool ((decide (xa.2.2.2.1 = 0)) && (!xa.2.2.2.2))), (31, .bool t120), (35, .bool t153)] ρ ∧ K = K' ∧ L' = Cl b84 23 [.int .i64 xa.1, .int .i64 xa.2.1, .int .i64 xa.2.2.1, .int .i64 xa.2.2.2.1, .bool xa.2.2.2.2] :: F) ?_ ?_
                · skip
                  rcases bt (decide (xa.2.2.2.1 = 0)) with hc165 | hc165
                  · skip
                    refine J.run rfl rfl rfl hc165 ?_
                    refine J.val rfl rfl (V.fad Try.underlying23 rfl nz4 rfl) ?_
                    refine J.run rfl rfl rfl hc165 ?_
                    refine J.val (v := .bool xa.2.2.2.2) rfl rfl (V.ld rfl (Ld.sc sc4 (Rd.cl 0 rfl rfl))) ?_
                    refine J.run rfl rfl rfl hc165 ?_
                    refine J.val (v := .bool (!xa.2.2.2.2)) rfl rfl (V.not rfl) ?_
                    refine J.run rfl rfl rfl hc162 ?_
                    refine J.val (v := .bool (!xa.2.2.2.2)) rfl rfl (V.pickT rfl hc165 rfl) ?_
                    refine J.nil ?_
                    exact ⟨rfl, ⟨(by simp only [hc165]; rfl), rfl, rfl, trivial⟩, rfl, rfl⟩
                  · skip
                    refine J.skip rfl rfl rfl rfl hc165 ?_
                    refine J.skip rfl rfl rfl rfl hc165 ?_
                    refine J.skip rfl rfl rfl rfl hc165 ?_
                    refine J.run rfl rfl rfl hc162 ?_
                    refine J.val (v := .bool false) rfl rfl (V.pickF rfl hc165 rfl) ?_
                    refine J.nil ?_
                    exact ⟨rfl, ⟨(by simp only [hc165]; rfl), rfl, rfl, trivial⟩, rfl, rfl⟩
                · rintro ρ _ _ ⟨hf, rfl, rfl⟩
                  obtain ⟨ρ, rfl⟩ := hf.ex
                  refine J.run rfl rfl rfl hc150 ?_
                  refine J.val (v := .bool ((decide (xa.2.2.2.1 = 0)) && (!xa.2.2.2.2))) rfl rfl (V.pickF rfl hc162 rfl) ?_
                  refine J.nil ?_
                  exact ⟨rfl, ⟨(by simp only [hc162]; rfl), rfl, trivial⟩, rfl, rfl⟩
            · rintro ρ _ _ ⟨hf, rfl, rfl⟩
              obtain ⟨ρ, rfl⟩ := hf.ex
              refine J.val (v := .bool (t153 || ((decide (xa.2.2.2.1 = 0)) && (!xa.2.2.2.2)))) rfl rfl (V.pickT rfl hc150 rfl) ?_
              refine J.nil ?_
              have e := Option.some.inj ht149
              subst e
              exact ⟨rfl, ⟨rfl, trivial⟩, rfl, rfl⟩
          · have ht149 := cf hc150 ht149
            refine J.skip rfl rfl rfl rfl hc150 ?_
            refine J.skip rfl rfl rfl rfl hc150 ?_
            refine J.skip rfl rfl rfl rfl hc150 ?_
            refine J.skip rfl rfl rfl rfl hc150 ?_
            refine J.skipu rfl rfl rfl rfl ?_
            refine J.skipu rfl rfl rfl rfl ?_
            refine J.skipu rfl rfl rfl rfl ?_
            refine J.skipu rfl rfl rfl rfl ?_
            refine J.skipu rfl rfl rfl rfl ?_
            refine J.skipu rfl rfl rfl rfl ?_
            refine J.skipu rfl rfl rfl rfl ?_
            refine J.skipu rfl rfl rfl rfl ?_
            refine J.skip rfl rfl rfl rfl hc150 ?_
            refine J.val (v := .bool false) rfl rfl (V.pickF rfl hc150 rfl) ?_
            refine J.nil ?_
            have e := Option.some.inj ht149
            subst e
            exact ⟨rfl, ⟨rfl, trivial⟩, rfl, rfl⟩
        · rintro ρ _ _ ⟨hf, rfl, rfl⟩
          obtain ⟨ρ, rfl⟩ := hf.ex
          refine J.val (v := .bool t148) rfl rfl (V.as rfl) ?_
          refine J.nil ?_
          refine CJ.ret ?_
          have e := Option.some.inj h
          subst e
          exact ⟨_, [], Res.one rfl rfl, ⟨t148, rfl, rfl, rfl⟩, (Hp.le_refl _), fun w hs => (Sep.dropAt 0 rfl hs)⟩
noncomputable def fn_ref15_Shape_l1 (xa : (List (Int × Bool))) (xb : (List (Int × Bool))) : Int → Option (Int ⊕ (Unit ⊕ Bool)) := fun (i417 : Int) => cond (decide (i417 < (((xa.length : Nat) : Int)))) ((getI xa i417).bind fun x480 => (getI xb i417).bind fun x489 => cond (!(x480.2 == x489.2)) (some (.inr ((.inr (false))))) (some (.inl (IntKind.wrap .i64 (i417 + 1))))) (some (.inr ((.inl ()))))
noncomputable def fn_ref15_Shape (xa : (List (Int × Bool))) (xb : (List (Int × Bool))) : Option Bool :=
  cond (!decide ((((xa.length : Nat) : Int)) = (((xb.length : Nat) : Int)))) (some (false)) ((loop (fn_ref15_Shape_l1 xa xb) 0 : Option (Unit ⊕ Bool)).bind fun o => match o with | .inr r => some r | .inl () => some (true))
set_option maxRecDepth 100000 in
set_option maxHeartbeats 4000000 in
theorem ref15_Shape_ok {K : Hp} {xa : (List (Int × Bool))} {xb : (List (Int × Bool))} {adxa_0 : Option Addr} {cpxa_0 : Nat} {adxb_0 : Option Addr} {cpxb_0 : Nat} (fxa_0 : Is K (.sl (.cons (.int .i64) (.one .bool))) [.slice adxa_0 xa.length cpxa_0] xa) (fxb_0 : Is K (.sl (.cons (.int .i64) (.one .bool))) [.slice adxb_0 xb.length cpxb_0] xb) {r : Bool} (h : fn_ref15_Shape xa xb = some r) :
    Tr Try.prog 41 #[.agg #[.slice adxa_0 xa.length cpxa_0], .agg #[.slice adxb_0 xb.length cpxb_0]] K [] (fun v K' L' => (∃ (t251 : Bool), t251 = r ∧ .bool t251 = v ∧ L' = []) ∧ K = K') := by
  refine Tr.k ?_
  refine Tr.of Try.func41 rfl Try.ntmps41 rfl (fun E F => ?_)
  unfold fn_ref15_Shape at h
  refine CJ.seq ?_
  refine CJ.region ?_
  refine J.op rfl (A.box (v := .agg #[.slice adxa_0 xa.length cpxa_0]) (cs := [.slice adxa_0 xa.length cpxa_0]) rfl rfl) ?_
  rintro _ _ _ ⟨b252, rfl, rfl, rfl⟩
  refine J.op rfl (A.box (v := .agg #[.slice adxb_0 xb.length cpxb_0]) (cs := [.slice adxb_0 xb.length cpxb_0]) rfl rfl) ?_
  rintro _ _ _ ⟨b253, rfl, rfl, rfl⟩
  refine J.val (v := .bool false) rfl rfl (V.as rfl) ?_
  refine J.nil ?_
  refine CJ.seq ?_
  refine CJ.seq ?_
  refine CJ.region ?_
  refine J.val rfl rfl (V.fad Try.underlying47 rfl nz45 rfl) ?_
  refine J.val (v := .slice adxa_0 xa.length cpxa_0) rfl rfl (V.ld rfl (Ld.sc sc45 (Rd.cl 1 rfl rfl))) ?_
  refine J.val (v := .int .i64 (((xa.length : Nat) : Int))) rfl rfl (V.len Try.underlying45 rfl) ?_
  refine J.val rfl rfl (V.fad Try.underlying47 rfl nz45 rfl) ?_
  refine J.val (v := .slice adxb_0 xb.length cpxb_0) rfl rfl (V.ld rfl (Ld.sc sc45 (Rd.cl 0 rfl rfl))) ?_
  refine J.val (v := .int .i64 (((xb.length : Nat) : Int))) rfl rfl (V.len Try.underlying45 rfl) ?_
  refine J.val (v := .bool (!decide ((((xa.length : Nat) : Int)) = (((xb.length : Nat) : Int))))) rfl rfl (V.neq rfl rfl) ?_
  refine J.nil ?_
  refine CJ.cond rfl (fun hc254 => ?_) (fun hc254 => ?_)
  · have h := ct hc254 h
    refine CJ.seq ?_
    refine CJ.region ?_
    refine J.val (v := .bool false) rfl rfl (V.as rfl) ?_
    refine J.nil ?_
    refine CJ.ret ?_
    have e := Option.some.inj h
    subst e
    exact ⟨_, [], Res.one rfl rfl, ⟨false, rfl, rfl, rfl⟩, (Hp.le_refl _), fun w hs => (Sep.dropAt 0 rfl (Sep.dropAt 0 rfl hs))⟩
  · have h := cf hc254 h
    refine CJ.skip ?_
    refine CJ.seq ?_
    refine CJ.seq ?_
    refine CJ.region ?_
    refine J.val (v := .int .i64 0) rfl rfl (V.as rfl) ?_
    refine J.nil ?_
    obtain ⟨o376, ho377, h⟩ := ob h
    refine CJ.joinN (o := o376) (fun s ρ K' L' => () = s ∧ Fits [] ρ ∧ K = K' ∧ F = L') ?_ ?_
    · skip
      refine CJ.block ?_
      refine CJ.front 1 rfl ?_
      refine CJ.loop (fun s ρ K' L' => ∃ (i417 : Int), i417 = s ∧ Fits [(2, .pointer (some ⟨b252, 0, none⟩)), (3, .pointer (some ⟨b253, 0, none⟩)), (5, .int .i64 i417)] ρ ∧ K = K' ∧ L' = Cl b252 47 [.slice adxa_0 xa.length cpxa_0] :: Cl b253 47 [.slice adxb_0 xb.length cpxb_0] :: F) ho377 ⟨0, rfl, ⟨rfl, rfl, rfl, trivial⟩, rfl, rfl⟩ ?_
      rintro s ρ _ _ r460 ⟨i417, rfl, hf458, rfl, rfl⟩ h457
      obtain ⟨ρ, rfl⟩ := hf458.ex
      refine CJ.seq ?_
      refine CJ.seq ?_
      refine CJ.region ?_
      refine J.val (v := .int .i64 i417) rfl rfl (V.mv rfl) ?_
      refine J.val rfl rfl (V.fad Try.underlying47 rfl nz45 rfl) ?_
      refine J.val (v := .slice adxa_0 xa.length cpxa_0) rfl rfl (V.ld rfl (Ld.sc sc45 (Rd.cl 0 rfl rfl))) ?_
      refine J.val (v := .int .i64 (((xa.length : Nat) : Int))) rfl rfl (V.len Try.underlying45 rfl) ?_
      refine J.val (v := .bool (decide (i417 < (((xa.length : Nat) : Int))))) rfl rfl (V.lss rfl rfl) ?_
      refine J.nil ?_
      refine CJ.cond rfl (fun hc461 => ?_) (fun hc461 => ?_)
      · have h457 := ct hc461 h457
        refine CJ.skip ?_
        refine CJ.seq ?_
        refine CJ.block ?_
        refine CJ.seq ?_
        refine CJ.mix [Cl b252 47 [.slice adxa_0 xa.length cpxa_0], Cl b253 47 [.slice adxb_0 xb.length cpxb_0]] [] [0, 1, 2, 3, 4, 5, 6, 7, 8, 9, 10, 11, 12] [] mixO (by decide +kernel) ⟨0, rfl, 0, rfl, trivial⟩ rfl rfl rfl ?_
        refine JM.nil ?_
        refine JQ.val rfl rfl (V.fad Try.underlying47 rfl nz45 rfl) ?_
        refine JQ.val (v := .slice adxa_0 xa.length cpxa_0) rfl rfl (V.ld rfl (Ld.sc sc45 (Rd.cl 0 rfl rfl))) ?_
        refine JQ.val (v := .int .i64 i417) rfl rfl (V.mv rfl) ?_
        obtain ⟨x480, hx481, h457⟩ := ob h457
        obtain ⟨p482, p483, p484⟩ := getI_some hx481
        obtain ⟨b485, o486, e487, a488⟩ := (fxa_0).at p483
        refine JQ.val rfl rfl (V.iad Try.underlying45 sz74 rfl e487 rfl p482 p484) ?_
        refine JQ.val rfl rfl (V.fad Try.underlying74 rfl nz4 rfl) ?_
        refine JQ.val (v := .bool x480.2) rfl rfl (V.ld rfl (Ld.sc sc4 (Rd.k (((a488).snd).one).bool (Hp.le_refl _)))) ?_
        refine JQ.val rfl rfl (V.fad Try.underlying47 rfl nz45 rfl) ?_
        refine JQ.val (v := .slice adxb_0 xb.length cpxb_0) rfl rfl (V.ld rfl (Ld.sc sc45 (Rd.cl 1 rfl rfl))) ?_
        refine JQ.val (v := .int .i64 i417) rfl rfl (V.mv rfl) ?_
        obtain ⟨x489, hx490, h457⟩ := ob h457
        obtain ⟨p491, p492, p493⟩ := getI_some hx490
        obtain ⟨b494, o495, e496, a497⟩ := (fxb_0).at p492
        refine JQ.val rfl rfl (V.iad Try.underlying45 sz74 rfl e496 rfl p491 p493) ?_
        refine JQ.val rfl rfl (V.fad Try.underlying74 rfl nz4 rfl) ?_
        refine JQ.val (v := .bool x489.2) rfl rfl (V.ld rfl (Ld.sc sc4 (Rd.k (((a497).snd).one).bool (Hp.le_refl _)))) ?_
        refine JQ.val (v := .bool (!(x480.2 == x489.2))) rfl rfl (V.neb Try.underlying4 rfl rfl) ?_
        refine JQ.nil ?_
        refine J.nil ?_
        refine CJ.cond rfl (fun hc498 => ?_) (fun hc498 => ?_)
        · have h457 := ct hc498 h457
          refine CJ.seq ?_
          refine CJ.region ?_
          refine J.val (v := .bool false) rfl rfl (V.as rfl) ?_
          refine J.nil ?_
          refine CJ.ret ?_
          have e := Option.some.inj h457
          subst e
          refine ⟨nofun, fun e => ?_⟩
          subst e
          refine .inr ⟨nofun, ?_⟩
          have e := Option.some.inj h
          subst e
          exact ⟨_, [], Res.one rfl rfl, ⟨false, rfl, rfl, rfl⟩, (Hp.le_refl _), fun w hs => (Sep.dropAt 0 rfl (Sep.dropAt 0 rfl hs))⟩
        · have h457 := cf hc498 h457
          refine CJ.skip ?_
          refine CJ.region ?_
          refine J.val (v := .int .i64 i417) rfl rfl (V.mv rfl) ?_
          refine J.val (v := .int .i64 (IntKind.wrap .i64 (i417 + 1))) rfl rfl (V.add rfl rfl) ?_
          refine J.val (v := .int .i64 (IntKind.wrap .i64 (i417 + 1))) rfl rfl (V.as rfl) ?_
          refine J.nil ?_
          have e := Option.some.inj h457
          subst e
          exact ⟨rfl, ⟨IntKind.wrap .i64 (i417 + 1), rfl, ⟨rfl, rfl, rfl, trivial⟩, rfl, rfl⟩⟩
      · have h457 := cf hc461 h457
        refine CJ.dropAt 0 rfl ?_
        refine CJ.dropAt 0 rfl ?_
        refine CJ.exit ?_
        have e := Option.some.inj h457
        subst e
        refine ⟨nofun, fun e => ?_⟩
        subst e
        exact .inl ⟨rfl, _, rfl, ⟨rfl, trivial, rfl, rfl⟩⟩
    · rintro s ρ _ _ ho499 ⟨rfl, hf500, rfl, rfl⟩
      subst ho499
      obtain ⟨ρ, rfl⟩ := hf500.ex
      refine PJ.done ?_
      refine CJ.seq ?_
      refine CJ.region ?_
      refine J.val (v := .bool true) rfl rfl (V.as rfl) ?_
      refine J.nil ?_
      refine CJ.ret ?_
      have e := Option.some.inj h
      subst e
      exact ⟨_, [], Res.one rfl rfl, ⟨true, rfl, rfl, rfl⟩, (Hp.le_refl _), fun w hs => hs⟩
noncomputable def fn_ref16_slots_rkkii_l1 (xb : (List (Int × Bool))) (xc : (List (Int × Bool))) (xd : Int) (xe : Int) : ((List (Int × Int × Int × Int × Bool)) × Int) → Option (((List (Int × Int × Int × Int × Bool)) × Int) ⊕ (List (Int × Int × Int × Int × Bool))) := fun ((l1164, i1169) : ((List (Int × Int × Int × Int × Bool)) × Int)) => cond (decide (i1169 < (((xb.length : Nat) : Int)))) ((getI xb i1169).bind fun x1309 => (getI xc i1169).bind fun x1318 => (app l1164 (([(x1309.1, x1318.1, xd, IntKind.wrap .i64 (xe + i1169), false)] : List (Int × Int × Int × Int × Bool)))).bind fun z1330 => (getI xc i1169).bind fun x1336 => cond (x1336.2) ((getI xc i1169).bind fun x1367 => (getI xb i1169).bind fun x1376 => (app z1330 (([(x1367.1, x1376.1, xd, IntKind.wrap .i64 (xe + i1169), true)] : List (Int × Int × Int × Int × Bool)))).bind fun z1388 => some (.inl ((z1388, IntKind.wrap .i64 (i1169 + 1))))) (some (.inl ((z1330, IntKind.wrap .i64 (i1169 + 1)))))) (some (.inr (l1164)))
noncomputable def fn_ref16_slots_rkkii (xb : (List (Int × Bool))) (xc : (List (Int × Bool))) (xd : Int) (xe : Int) (qxa : (List (Int × Int × Int × Int × Bool))) : Option ((List (Int × Int × Int × Int × Bool))) :=
  (loop (fn_ref16_slots_rkkii_l1 xb xc xd xe) (qxa, 0) : Option ((List (Int × Int × Int × Int × Bool)))).bind fun l1044 => some (l1044)
set_option maxRecDepth 100000 in
set_option maxHeartbeats 4000000 in
theorem ref16_slots_rkkii_ok {K : Hp} {xb : (List (Int × Bool))} {xc : (List (Int × Bool))} {xd : Int} {xe : Int} {qxa : (List (Int × Int × Int × Int × Bool))} {adxb_0 : Option Addr} {cpxb_0 : Nat} {adxc_0 : Option Addr} {cpxc_0 : Nat} {adqxa : Option Addr} {cpqxa : Nat} (fxb_0 : Is K (.sl (.cons (.int .i64) (.one .bool))) [.slice adxb_0 xb.length cpxb_0] xb) (fxc_0 : Is K (.sl (.cons (.int .i64) (.one .bool))) [.slice adxc_0 xc.length cpxc_0] xc) {r : (List (Int × Int × Int × Int × Bool))} (h : fn_ref16_slots_rkkii xb xc xd xe qxa = some r) :
    Tr Try.prog 42 #[.slice adqxa qxa.length cpqxa, .slice adxb_0 xb.length cpxb_0, .slice adxc_0 xc.length cpxc_0, .int .i64 xd, .int .i64 xe] K [Row Hp.nil 59 (.cons (.int .i64) (.cons (.int .i64) (.cons (.int .i64) (.cons (.int .i64) (.one .bool))))) (.slice adqxa qxa.length cpqxa) qxa] (fun v K' L' => (∃ (l696 : (List (Int × Int × Int × Int × Bool))) (ad697 : Option Addr) (cp698 : Nat), l696 = r ∧ .slice ad697 l696.length cp698 = v ∧ L' = [Row Hp.nil 59 (.cons (.int .i64) (.cons (.int .i64) (.cons (.int .i64) (.cons (.int .i64) (.one .bool))))) (.slice ad697 l696.length cp698) l696]) ∧ K = K') := by
  refine Tr.k ?_
  refine Tr.of Try.func42 rfl Try.ntmps42 rfl (fun E F => ?_)
  unfold fn_ref16_slots_rkkii at h
  refine CJ.wit Row.hn (fun hnqxa => ?_)
  refine CJ.seq ?_
  refine CJ.region ?_
  refine J.val (v := .slice none 0 0) rfl rfl (V.as rfl) ?_
  refine J.nil ?_
  refine CJ.seq ?_
  refine CJ.seq ?_
  refine CJ.region ?_
  refine J.val (v := .int .i64 0) rfl rfl (V.as rfl) ?_
  refine J.nil ?_
  obtain ⟨o1049, ho1050, h⟩ := ob h
  refine CJ.meetN (fun ρ K' L' => ∃ (l1044 : (List (Int × Int × Int × Int × Bool))) (ad1045 : Option Addr) (cp1046 : Nat), l1044 = o1049 ∧ Fits [(0, .slice ad1045 l1044.length cp1046)] ρ ∧ K = K' ∧ L' = Row Hp.nil 59 (.cons (.int .i64) (.cons (.int .i64) (.cons (.int .i64) (.cons (.int .i64) (.one .bool))))) (.slice ad1045 l1044.length cp1046) l1044 :: F) ?_ ?_
  · skip
    refine CJ.block ?_
    refine CJ.loop (fun s ρ K' L' => ∃ (l1164 : (List (Int × Int × Int × Int × Bool))) (i1169 : Int) (ad1165 : Option Addr) (cp1166 : Nat), (l1164, i1169) = s ∧ Fits [(0, .slice ad1165 l1164.length cp1166), (1, .slice adxb_0 xb.length cpxb_0), (2, .slice adxc_0 xc.length cpxc_0), (3, .int .i64 xd), (4, .int .i64 xe), (11, .int .i64 i1169)] ρ ∧ K = K' ∧ L' = Row Hp.nil 59 (.cons (.int .i64) (.cons (.int .i64) (.cons (.int .i64) (.cons (.int .i64) (.one .bool))))) (.slice ad1165 l1164.length cp1166) l1164 :: F) ho1050 ⟨qxa, 0, adqxa, cpqxa, rfl, ⟨rfl, rfl, rfl, rfl, rfl, rfl, trivial⟩, rfl, rfl⟩ ?_
    rintro s ρ _ _ r1286 ⟨l1164, i1169, ad1165, cp1166, rfl, hf1284, rfl, rfl⟩ h1283
    obtain ⟨ρ, rfl⟩ := hf1284.ex
    refine CJ.wit Row.hn (fun hn1168 => ?_)
    refine CJ.seq ?_
    refine CJ.seq ?_
    refine CJ.region ?_
    refine J.val (v := .int .i64 i1169) rfl rfl (V.mv rfl) ?_
    refine J.val (v := .slice adxb_0 xb.length cpxb_0) rfl rfl (V.mv rfl) ?_
    refine J.val (v := .int .i64 (((xb.length : Nat) : Int))) rfl rfl (V.len Try.underlying45 rfl) ?_
    refine J.val (v := .bool (decide (i1169 < (((xb.length : Nat) : Int))))) rfl rfl (V.lss rfl rfl) ?_
    refine J.nil ?_
    refine CJ.cond rfl (fun hc1287 => ?_) (fun hc1287 => ?_)
    · have h1283 := ct hc1287 h1283
      refine CJ.skip ?_
      refine CJ.seq ?_
      refine CJ.block ?_
      refine CJ.seq ?_
      refine CJ.mix [Row Hp.nil 59 (.cons (.int .i64) (.cons (.int .i64) (.cons (.int .i64) (.cons (.int .i64) (.one .bool))))) (.slice ad1165 l1164.length cp1166) l1164] [([0, 1, 2, 3, 4, 5, 6, 7, 8, 9, 10, 11, 12, 13, 14, 15], 16)] [] [17, 18] mixO (by decide +kernel) ⟨0, rfl, trivial⟩ rfl rfl rfl ?_
      refine JM.cons ?_
      refine JQ.val (v := .slice ad1165 l1164.length cp1166) rfl rfl (V.mv rfl) ?_
      refine JQ.val (v := .slice adxb_0 xb.length cpxb_0) rfl rfl (V.mv rfl) ?_
      refine JQ.val (v := .int .i64 i1169) rfl rfl (V.mv rfl) ?_
      obtain ⟨x1309, hx1310, h1283⟩ := ob h1283
      obtain ⟨p1311, p1312, p1313⟩ := getI_some hx1310
      obtain ⟨b1314, o1315, e1316, a1317⟩ := (fxb_0).at p1312
      refine JQ.val rfl rfl (V.iad Try.underlying45 sz74 rfl e1316 rfl p1311 p1313) ?_
      refine JQ.val rfl rfl (V.fad Try.underlying74 rfl nz3 rfl) ?_
      refine JQ.val (v := .int .i64 x1309.1) rfl rfl (V.ld rfl (Ld.sc sc3 (Rd.k ((a1317).fst).int (Hp.le_refl _)))) ?_
      refine JQ.val (v := .slice adxc_0 xc.length cpxc_0) rfl rfl (V.mv rfl) ?_
      refine JQ.val (v := .int .i64 i1169) rfl rfl (V.mv rfl) ?_
      obtain ⟨x1318, hx1319, h1283⟩ := ob h1283
      obtain ⟨p1320, p1321, p1322⟩ := getI_some hx1319
      obtain ⟨b1323, o1324, e1325, a1326⟩ := (fxc_0).at p1321
      refine JQ.val rfl rfl (V.iad Try.underlying45 sz74 rfl e1325 rfl p1320 p1322) ?_
      refine JQ.val rfl rfl (V.fad Try.underlying74 rfl nz3 rfl) ?_
      refine JQ.val (v := .int .i64 x1318.1) rfl rfl (V.ld rfl (Ld.sc sc3 (Rd.k ((a1326).fst).int (Hp.le_refl _)))) ?_
      refine JQ.val (v := .int .i64 xd) rfl rfl (V.mv rfl) ?_
      refine JQ.val (v := .int .i64 xe) rfl rfl (V.mv rfl) ?_
      refine JQ.val (v := .int .i64 i1169) rfl rfl (V.mv rfl) ?_
      refine JQ.val (v := .int .i64 (IntKind.wrap .i64 (xe + i1169))) rfl rfl (V.add rfl rfl) ?_
      refine JQ.val (v := .agg #[.int .i64 x1309.1, .int .i64 x1318.1, .int .i64 xd, .int .i64 (IntKind.wrap .i64 (xe + i1169)), .bool false]) rfl rfl (V.build inf59 places59 rfl rfl) ?_
      refine JQ.nil ?_
      refine JA.op rfl (A.lit (K0 := Hp.nil) (ty := (.cons (.int .i64) (.cons (.int .i64) (.cons (.int .i64) (.cons (.int .i64) (.one .bool)))))) (xs := ([(x1309.1, x1318.1, xd, IntKind.wrap .i64 (xe + i1169), false)] : List (Int × Int × Int × Int × Bool))) Try.underlying31 inf59 rfl (by decide) rfl rfl rfl ⟨_, _, rfl, ⟨_, _, rfl, rfl, rfl, ⟨_, _, rfl, rfl, rfl, ⟨_, _, rfl, rfl, rfl, ⟨_, _, rfl, rfl, rfl, rfl⟩⟩⟩⟩, rfl⟩ rfl (by decide)) ?_
      rintro _ _ _ ⟨b1327, rfl, rfl, rfl⟩
      have hn1328 : ([(x1309.1, x1318.1, xd, IntKind.wrap .i64 (xe + i1169), false)] : List (Int × Int × Int × Int × Bool)) ≠ [] → ∃ g, (some ⟨b1327, 0, none⟩ : Option Addr) = some ⟨g, 0, none⟩ := fun _ => ⟨b1327, rfl⟩
      refine ⟨fun w hs => Hold.sub (Hp.le_refl _) ⟨1, rfl, trivial⟩ hs, ?_⟩
      refine JM.nil ?_
      refine JQ.nil ?_
      obtain ⟨z1330, hz1331, h1283⟩ := ob h1283
      refine J.front 1 rfl ?_
      refine J.op rfl (A.appR (Kr := Hp.nil) Try.underlying31 inf59 rfl rfl (by decide) (by decide) rfl rfl (Els.flat rfl) (Els.flat rfl) hz1331) ?_
      rintro _ _ _ ⟨v1332, rfl, rfl, rfl⟩
      refine J.wit Row.form ?_
      rintro ⟨ad1333, cp1334, rfl, _, _, hn1335⟩
      refine J.val (v := .slice ad1333 z1330.length cp1334) rfl rfl (V.as rfl) ?_
      refine J.nil ?_
      refine CJ.seq ?_
      refine CJ.region ?_
      refine J.val (v := .slice adxc_0 xc.length cpxc_0) rfl rfl (V.mv rfl) ?_
      refine J.val (v := .int .i64 i1169) rfl rfl (V.mv rfl) ?_
      obtain ⟨x1336, hx1337, h1283⟩ := ob h1283
      obtain ⟨p1338, p1339, p1340⟩ := getI_some hx1337
      obtain ⟨b1341, o1342, e1343, a1344⟩ := (fxc_0).at p1339
      refine J.val rfl rfl (V.iad Try.underlying45 sz74 rfl e1343 rfl p1338 p1340) ?_
      refine J.val rfl rfl (V.fad Try.underlying74 rfl nz4 rfl) ?_
      refine J.val (v := .bool x1336.2) rfl rfl (V.ld rfl (Ld.sc sc4 (Rd.k (((a1344).snd).one).bool (Hp.le_refl _)))) ?_
      refine J.nil ?_
      refine CJ.cond rfl (fun hc1345 => ?_) (fun hc1345 => ?_)
      · have h1283 := ct hc1345 h1283
        refine CJ.mix [Row Hp.nil 59 (.cons (.int .i64) (.cons (.int .i64) (.cons (.int .i64) (.cons (.int .i64) (.one .bool))))) (.slice ad1333 z1330.length cp1334) z1330] [([0, 1, 2, 3, 4, 5, 6, 7, 8, 9, 10, 11, 12, 13, 14, 15], 16)] [] [17, 18] mixO (by decide +kernel) ⟨0, rfl, trivial⟩ rfl rfl rfl ?_
        refine JM.cons ?_
        refine JQ.val (v := .slice ad1333 z1330.length cp1334) rfl rfl (V.mv rfl) ?_
        refine JQ.val (v := .slice adxc_0 xc.length cpxc_0) rfl rfl (V.mv rfl) ?_
        refine JQ.val (v := .int .i64 i1169) rfl rfl (V.mv rfl) ?_
        obtain ⟨x1367, hx1368, h1283⟩ := ob h1283
        obtain ⟨p1369, p1370, p1371⟩ := getI_some hx1368
        obtain ⟨b1372, o1373, e1374, a1375⟩ := (fxc_0).at p1370
        refine JQ.val rfl rfl (V.iad Try.underlying45 sz74 rfl e1374 rfl p1369 p1371) ?_
        refine JQ.val rfl rfl (V.fad Try.underlying74 rfl nz3 rfl) ?_
        refine JQ.val (v := .int .i64 x1367.1) rfl rfl (V.ld rfl (Ld.sc sc3 (Rd.k ((a1375).fst).int (Hp.le_refl _)))) ?_
        refine JQ.val (v := .slice adxb_0 xb.length cpxb_0) rfl rfl (V.mv rfl) ?_
        refine JQ.val (v := .int .i64 i1169) rfl rfl (V.mv rfl) ?_
        obtain ⟨x1376, hx1377, h1283⟩ := ob h1283
        obtain ⟨p1378, p1379, p1380⟩ := getI_some hx1377
        obtain ⟨b1381, o1382, e1383, a1384⟩ := (fxb_0).at p1379
        refine JQ.val rfl rfl (V.iad Try.underlying45 sz74 rfl e1383 rfl p1378 p1380) ?_
        refine JQ.val rfl rfl (V.fad Try.underlying74 rfl nz3 rfl) ?_
        refine JQ.val (v := .int .i64 x1376.1) rfl rfl (V.ld rfl (Ld.sc sc3 (Rd.k ((a1384).fst).int (Hp.le_refl _)))) ?_
        refine JQ.val (v := .int .i64 xd) rfl rfl (V.mv rfl) ?_
        refine JQ.val (v := .int .i64 xe) rfl rfl (V.mv rfl) ?_
        refine JQ.val (v := .int .i64 i1169) rfl rfl (V.mv rfl) ?_
        refine JQ.val (v := .int .i64 (IntKind.wrap .i64 (xe + i1169))) rfl rfl (V.add rfl rfl) ?_
        refine JQ.val (v := .agg #[.int .i64 x1367.1, .int .i64 x1376.1, .int .i64 xd, .int .i64 (IntKind.wrap .i64 (xe + i1169)), .bool true]) rfl rfl (V.build inf59 places59 rfl rfl) ?_
        refine JQ.nil ?_
        refine JA.op rfl (A.lit (K0 := Hp.nil) (ty := (.cons (.int .i64) (.cons (.int .i64) (.cons (.int .i64) (.cons (.int .i64) (.one .bool)))))) (xs := ([(x1367.1, x1376.1, xd, IntKind.wrap .i64 (xe + i1169), true)] : List (Int × Int × Int × Int × Bool))) Try.underlying31 inf59 rfl (by decide) rfl rfl rfl ⟨_, _, rfl, ⟨_, _, rfl, rfl, rfl, ⟨_, _, rfl, rfl, rfl, ⟨_, _, rfl, rfl, rfl, ⟨_, _, rfl, rfl, rfl, rfl⟩⟩⟩⟩, rfl⟩ rfl (by decide)) ?_
        rintro _ _ _ ⟨b1385, rfl, rfl, rfl⟩
        have hn1386 : ([(x1367.1, x1376.1, xd, IntKind.wrap .i64 (xe + i1169), true)] : List (Int × Int × Int × Int × Bool)) ≠ [] → ∃ g, (some ⟨b1385, 0, none⟩ : Option Addr) = some ⟨g, 0, none⟩ := fun _ => ⟨b1385, rfl⟩
        refine ⟨fun w hs => Hold.sub (Hp.le_refl _) ⟨1, rfl, trivial⟩ hs, ?_⟩
        refine JM.nil ?_
        refine JQ.nil ?_
        obtain ⟨z1388, hz1389, h1283⟩ := ob h1283
        refine J.front 1 rfl ?_
        refine J.op rfl (A.appR (Kr := Hp.nil) Try.underlying31 inf59 rfl rfl (by decide) (by decide) rfl rfl (Els.flat rfl) (Els.flat rfl) hz1389) ?_
        rintro _ _ _ ⟨v1390, rfl, rfl, rfl⟩
        refine J.wit Row.form ?_
        rintro ⟨ad1391, cp1392, rfl, _, _, hn1393⟩
        refine J.val (v := .slice ad1391 z1388.length cp1392) rfl rfl (V.as rfl) ?_
        refine J.nil ?_
        refine CJ.region ?_
        refine J.val (v := .int .i64 i1169) rfl rfl (V.mv rfl) ?_
        refine J.val (v := .int .i64 (IntKind.wrap .i64 (i1169 + 1))) rfl rfl (V.add rfl rfl) ?_
        refine J.val (v := .int .i64 (IntKind.wrap .i64 (i1169 + 1))) rfl rfl (V.as rfl) ?_
        refine J.nil ?_
        have e := Option.some.inj h1283
        subst e
        exact ⟨rfl, ⟨z1388, IntKind.wrap .i64 (i1169 + 1), ad1391, cp1392, rfl, ⟨rfl, rfl, rfl, rfl, rfl, rfl, trivial⟩, rfl, rfl⟩⟩
      · have h1283 := cf hc1345 h1283
        refine CJ.skip ?_
        refine CJ.region ?_
        refine J.val (v := .int .i64 i1169) rfl rfl (V.mv rfl) ?_
        refine J.val (v := .int .i64 (IntKind.wrap .i64 (i1169 + 1))) rfl rfl (V.add rfl rfl) ?_
        refine J.val (v := .int .i64 (IntKind.wrap .i64 (i1169 + 1))) rfl rfl (V.as rfl) ?_
        refine J.nil ?_
        have e := Option.some.inj h1283
        subst e
        exact ⟨rfl, ⟨z1330, IntKind.wrap .i64 (i1169 + 1), ad1333, cp1334, rfl, ⟨rfl, rfl, rfl, rfl, rfl, rfl, trivial⟩, rfl, rfl⟩⟩
    · have h1283 := cf hc1287 h1283
      refine CJ.exit ?_
      have e := Option.some.inj h1283
      subst e
      refine ⟨nofun, fun e => ?_⟩
      subst e
      exact ⟨rfl, ⟨l1164, ad1165, cp1166, rfl, ⟨rfl, trivial⟩, rfl, rfl⟩⟩
  · rintro ρ _ _ ⟨l1044, ad1045, cp1046, rfl, hf1394, rfl, rfl⟩
    obtain ⟨ρ, rfl⟩ := hf1394.ex
    refine PJ.wit Row.hn (fun hn1048 => ?_)
    refine PJ.done ?_
    refine CJ.seq ?_
    refine CJ.region ?_
    refine J.val (v := .slice ad1045 l1044.length cp1046) rfl rfl (V.mv rfl) ?_
    refine J.val (v := .slice ad1045 l1044.length cp1046) rfl rfl (V.as rfl) ?_
    refine J.nil ?_
    refine CJ.ret ?_
    have e := Option.some.inj h
    subst e
    exact ⟨_, [Row Hp.nil 59 (.cons (.int .i64) (.cons (.int .i64) (.cons (.int .i64) (.cons (.int .i64) (.one .bool))))) (.slice ad1045 l1044.length cp1046) l1044], Res.one rfl rfl, ⟨l1044, ad1045, cp1046, rfl, rfl, rfl⟩, (Hp.le_refl _), fun w hs => hs⟩

noncomputable def fn_ref16_Flow (xa : (List (Int × Bool))) (xb : (List (Int × Bool))) (xc : Int) (xd : Int) : Option (((List (Int × Int × Int × Int × Bool)) × Int)) :=
  (fn_ref15_Shape xa xb).bind fun t34 => cond (!t34) (some (([], 8))) ((fn_ref16_slots_rkkii xa xb xc xd (([] : List (Int × Int × Int × Int × Bool)))).bind fun l45 => some ((l45, 0)))
set_option maxRecDepth 100000 in
set_option maxHeartbeats 4000000 in
theorem ref16_Flow_ok {K : Hp} {xa : (List (Int × Bool))} {xb : (List (Int × Bool))} {xc : Int} {xd : Int} {adxa_0 : Option Addr} {cpxa_0 : Nat} {adxb_0 : Option Addr} {cpxb_0 : Nat} (fxa_0 : Is K (.sl (.cons (.int .i64) (.one .bool))) [.slice adxa_0 xa.length cpxa_0] xa) (fxb_0 : Is K (.sl (.cons (.int .i64) (.one .bool))) [.slice adxb_0 xb.length cpxb_0] xb) {r : ((List (Int × Int × Int × Int × Bool)) × Int)} (h : fn_ref16_Flow xa xb xc xd = some r) :
    Tr Try.prog 27 #[.agg #[.slice adxa_0 xa.length cpxa_0], .agg #[.slice adxb_0 xb.length cpxb_0], .int .i64 xc, .int .i64 xd] K [] (fun v K' L' => (∃ (l24 : (List (Int × Int × Int × Int × Bool))) (i29 : Int) (ad25 : Option Addr) (cp26 : Nat), (l24, i29) = r ∧ .tuple #[.slice ad25 l24.length cp26, .int .i64 i29] = v ∧ L' = [Row Hp.nil 59 (.cons (.int .i64) (.cons (.int .i64) (.cons (.int .i64) (.cons (.int .i64) (.one .bool))))) (.slice ad25 l24.length cp26) l24]) ∧ K = K') := by
  refine Tr.k ?_
  refine Tr.of Try.func27 rfl Try.ntmps27 rfl (fun E F => ?_)
  unfold fn_ref16_Flow at h
  refine CJ.seq ?_
  refine CJ.region ?_
  refine J.op rfl (A.box (v := .agg #[.slice adxa_0 xa.length cpxa_0]) (cs := [.slice adxa_0 xa.length cpxa_0]) rfl rfl) ?_
  rintro _ _ _ ⟨b30, rfl, rfl, rfl⟩
  refine J.op rfl (A.box (v := .agg #[.slice adxb_0 xb.length cpxb_0]) (cs := [.slice adxb_0 xb.length cpxb_0]) rfl rfl) ?_
  rintro _ _ _ ⟨b31, rfl, rfl, rfl⟩
  refine J.val (v := .slice none 0 0) rfl rfl (V.as rfl) ?_
  refine J.val (v := .int .i64 0) rfl rfl (V.as rfl) ?_
  refine J.nil ?_
  refine CJ.seq ?_
  refine CJ.seq ?_
  refine CJ.region ?_
  refine J.val (v := .agg #[.slice adxa_0 xa.length cpxa_0]) rfl rfl (V.ld rfl (Ld.agg (cs := [.slice adxa_0 xa.length cpxa_0]) Try.underlying47 sz47 rfl (Rd.cls 1 0 rfl rfl))) ?_
  refine J.val (v := .agg #[.slice adxb_0 xb.length cpxb_0]) rfl rfl (V.ld rfl (Ld.agg (cs := [.slice adxb_0 xb.length cpxb_0]) Try.underlying47 sz47 rfl (Rd.cls 0 0 rfl rfl))) ?_
  obtain ⟨r32, hr33, h⟩ := ob h
  refine J.op rfl (A.call (L1 := []) Try.call41 rfl (ref15_Shape_ok fxa_0 fxb_0 hr33) rfl rfl) ?_
  rintro _ _ _ ⟨v35, _, rfl, ⟨⟨t34, rfl, rfl, rfl⟩, rfl⟩, _, rfl⟩
  refine J.val (v := .bool (!t34)) rfl rfl (V.not rfl) ?_
  refine J.nil ?_
  refine CJ.cond rfl (fun hc38 => ?_) (fun hc38 => ?_)
  · have h := ct hc38 h
    refine CJ.seq ?_
    refine CJ.region ?_
    refine J.val (v := .slice none 0 0) rfl rfl (V.as rfl) ?_
    refine J.val (v := .int .i64 8) rfl rfl (V.as rfl) ?_
    refine J.nil ?_
    refine CJ.by (fun w hs => Sep.rowNil (e := 59) (t := (.cons (.int .i64) (.cons (.int .i64) (.cons (.int .i64) (.cons (.int .i64) (.one .bool)))))) hs) ?_
    refine CJ.ret ?_
    have e := Option.some.inj h
    subst e
    exact ⟨_, [Row Hp.nil 59 (.cons (.int .i64) (.cons (.int .i64) (.cons (.int .i64) (.cons (.int .i64) (.one .bool))))) (.slice none ((([] : List (Int × Int × Int × Int × Bool))).length) 0) (([] : List (Int × Int × Int × Int × Bool)))], Res.two rfl rfl rfl, ⟨[], 8, none, 0, rfl, rfl, rfl⟩, (Hp.le_refl _), fun w hs => (Sep.dropAt 1 rfl (Sep.dropAt 1 rfl hs))⟩
  · have h := cf hc38 h
    refine CJ.skip ?_
    refine CJ.seq ?_
    refine CJ.region ?_
    refine J.op rfl (A.lit (K0 := Hp.nil) (ty := (.cons (.int .i64) (.cons (.int .i64) (.cons (.int .i64) (.cons (.int .i64) (.one .bool)))))) (xs := ([] : List (Int × Int × Int × Int × Bool))) Try.underlying31 inf59 rfl (by decide) rfl rfl rfl rfl rfl (by decide)) ?_
    rintro _ _ _ ⟨b40, rfl, rfl, rfl⟩
    have hn41 : ([] : List (Int × Int × Int × Int × Bool)) ≠ [] → ∃ g, (some ⟨b40, 0, none⟩ : Option Addr) = some ⟨g, 0, none⟩ := fun _ => ⟨b40, rfl⟩
    refine J.val rfl rfl (V.fad Try.underlying47 rfl nz45 rfl) ?_
    refine J.val (v := .slice adxa_0 xa.length cpxa_0) rfl rfl (V.ld rfl (Ld.sc sc45 (Rd.cl 2 rfl rfl))) ?_
    refine J.val rfl rfl (V.fad Try.underlying47 rfl nz45 rfl) ?_
    refine J.val (v := .slice adxb_0 xb.length cpxb_0) rfl rfl (V.ld rfl (Ld.sc sc45 (Rd.cl 1 rfl rfl))) ?_
    refine J.val (v := .int .i64 xc) rfl rfl (V.mv rfl) ?_
    refine J.val (v := .int .i64 xd) rfl rfl (V.mv rfl) ?_
    obtain ⟨r43, hr44, h⟩ := ob h
    refine J.op rfl (A.call (L1 := [Row Hp.nil 59 (.cons (.int .i64) (.cons (.int .i64) (.cons (.int .i64) (.cons (.int .i64) (.one .bool))))) (.slice (some ⟨b40, 0, none⟩) ((([] : List (Int × Int × Int × Int × Bool))).length) 0) (([] : List (Int × Int × Int × Int × Bool)))]) Try.call42 rfl (ref16_slots_rkkii_ok fxa_0 fxb_0 hr44) rfl rfl) ?_
    rintro _ _ _ ⟨v49, _, rfl, ⟨⟨l45, ad46, cp47, rfl, rfl, rfl⟩, rfl⟩, _, rfl⟩
    refine J.wit Row.hn (fun hn48 => ?_)
    refine J.val (v := .slice ad46 l45.length cp47) rfl rfl (V.as rfl) ?_
    refine J.val (v := .int .i64 0) rfl rfl (V.as rfl) ?_
    refine J.nil ?_
    refine CJ.ret ?_
    have e := Option.some.inj h
    subst e
    exact ⟨_, [Row Hp.nil 59 (.cons (.int .i64) (.cons (.int .i64) (.cons (.int .i64) (.cons (.int .i64) (.one .bool))))) (.slice ad46 l45.length cp47) l45], Res.two rfl rfl rfl, ⟨l45, 0, ad46, cp47, rfl, rfl, rfl⟩, (Hp.le_refl _), fun w hs => (Sep.dropAt 1 rfl (Sep.dropAt 1 rfl hs))⟩
noncomputable def fn_ref15_Ref_l1 (xa : (List (Int × Bool))) (xc : Bool) : ((List (Int × Bool)) × Int) → Option (((List (Int × Bool)) × Int) ⊕ (List (Int × Bool))) := fun ((l734, i739) : ((List (Int × Bool)) × Int)) => cond (decide (i739 < (((xa.length : Nat) : Int)))) ((getI xa i739).bind fun x839 => (getI xa i739).bind fun x848 => cond (x848.2) ((app l734 (([(x839.1, true)] : List (Int × Bool)))).bind fun z861 => some (.inl ((z861, IntKind.wrap .i64 (i739 + 1))))) ((app l734 (([(x839.1, xc)] : List (Int × Bool)))).bind fun z870 => some (.inl ((z870, IntKind.wrap .i64 (i739 + 1)))))) (some (.inr (l734)))
noncomputable def fn_ref15_Ref (xa : (List (Int × Bool))) (xb : Int) (xc : Bool) : Option ((List (Int × Bool))) :=
  (loop (fn_ref15_Ref_l1 xa xc) ((([(xb, false)] : List (Int × Bool)), 0)) : Option ((List (Int × Bool)))).bind fun l658 => some (l658)
set_option maxRecDepth 100000 in
set_option maxHeartbeats 4000000 in
theorem ref15_Ref_ok {K : Hp} {xa : (List (Int × Bool))} {xb : Int} {xc : Bool} {adxa_0 : Option Addr} {cpxa_0 : Nat} (fxa_0 : Is K (.sl (.cons (.int .i64) (.one .bool))) [.slice adxa_0 xa.length cpxa_0] xa) {r : (List (Int × Bool))} (h : fn_ref15_Ref xa xb xc = some r) :
    Tr Try.prog 43 #[.agg #[.slice adxa_0 xa.length cpxa_0], .int .i64 xb, .bool xc] K [] (fun v K' L' => (∃ (l437 : (List (Int × Bool))) (ad438 : Option Addr) (cp439 : Nat), l437 = r ∧ .agg #[.slice ad438 l437.length cp439] = v ∧ L' = [Row Hp.nil 74 (.cons (.int .i64) (.one .bool)) (.slice ad438 l437.length cp439) l437]) ∧ K = K') := by
  refine Tr.k ?_
  refine Tr.of Try.func43 rfl Try.ntmps43 rfl (fun E F => ?_)
  unfold fn_ref15_Ref at h
  refine CJ.seq ?_
  refine CJ.region ?_
  refine J.op rfl (A.box (v := .agg #[.slice adxa_0 xa.length cpxa_0]) (cs := [.slice adxa_0 xa.length cpxa_0]) rfl rfl) ?_
  rintro _ _ _ ⟨b442, rfl, rfl, rfl⟩
  refine J.op rfl (A.alloc (cs := [.slice none 0 0]) inf47 rfl) ?_
  rintro _ _ _ ⟨b443, rfl, rfl, rfl⟩
  refine J.nil ?_
  refine CJ.seq ?_
  refine CJ.region ?_
  refine J.val (v := .int .i64 xb) rfl rfl (V.mv rfl) ?_
  refine J.val (v := .agg #[.int .i64 xb, .bool false]) rfl rfl (V.build inf74 places74 rfl rfl) ?_
  refine J.op rfl (A.lit (K0 := Hp.nil) (ty := (.cons (.int .i64) (.one .bool))) (xs := ([(xb, false)] : List (Int × Bool))) Try.underlying45 inf74 rfl (by decide) rfl rfl rfl ⟨_, _, rfl, ⟨_, _, rfl, rfl, rfl, rfl⟩, rfl⟩ rfl (by decide)) ?_
  rintro _ _ _ ⟨b444, rfl, rfl, rfl⟩
  have hn445 : ([(xb, false)] : List (Int × Bool)) ≠ [] → ∃ g, (some ⟨b444, 0, none⟩ : Option Addr) = some ⟨g, 0, none⟩ := fun _ => ⟨b444, rfl⟩
  refine J.val (v := .slice (some ⟨b444, 0, none⟩) ((([(xb, false)] : List (Int × Bool))).length) 1) rfl rfl (V.as rfl) ?_
  refine J.nil ?_
  refine CJ.seq ?_
  refine CJ.seq ?_
  refine CJ.region ?_
  refine J.val (v := .int .i64 0) rfl rfl (V.as rfl) ?_
  refine J.nil ?_
  obtain ⟨o663, ho664, h⟩ := ob h
  refine CJ.meetN (fun ρ K' L' => ∃ (l658 : (List (Int × Bool))) (ad659 : Option Addr) (cp660 : Nat), l658 = o663 ∧ Fits [(6, .pointer (some ⟨b443, 0, none⟩)), (7, .slice ad659 l658.length cp660)] ρ ∧ K = K' ∧ L' = Cl b443 47 [.slice none 0 0] :: Row Hp.nil 74 (.cons (.int .i64) (.one .bool)) (.slice ad659 l658.length cp660) l658 :: F) ?_ ?_
  · skip
    refine CJ.block ?_
    refine CJ.front 1 rfl ?_
    refine CJ.front 2 rfl ?_
    refine CJ.loop (fun s ρ K' L' => ∃ (l734 : (List (Int × Bool))) (i739 : Int) (ad735 : Option Addr) (cp736 : Nat), (l734, i739) = s ∧ Fits [(2, .bool xc), (3, .pointer (some ⟨b442, 0, none⟩)), (6, .pointer (some ⟨b443, 0, none⟩)), (7, .slice ad735 l734.length cp736), (8, .int .i64 i739)] ρ ∧ K = K' ∧ L' = Cl b442 47 [.slice adxa_0 xa.length cpxa_0] :: Cl b443 47 [.slice none 0 0] :: Row Hp.nil 74 (.cons (.int .i64) (.one .bool)) (.slice ad735 l734.length cp736) l734 :: F) ho664 ⟨([(xb, false)] : List (Int × Bool)), 0, (some ⟨b444, 0, none⟩), 1, rfl, ⟨rfl, rfl, rfl, rfl, rfl, trivial⟩, rfl, rfl⟩ ?_
    rintro s ρ _ _ r812 ⟨l734, i739, ad735, cp736, rfl, hf810, rfl, rfl⟩ h809
    obtain ⟨ρ, rfl⟩ := hf810.ex
    refine CJ.front 2 rfl ?_
    refine CJ.wit Row.hn (fun hn738 => ?_)
    refine CJ.seq ?_
    refine CJ.seq ?_
    refine CJ.region ?_
    refine J.val (v := .int .i64 i739) rfl rfl (V.mv rfl) ?_
    refine J.val rfl rfl (V.fad Try.underlying47 rfl nz45 rfl) ?_
    refine J.val (v := .slice adxa_0 xa.length cpxa_0) rfl rfl (V.ld rfl (Ld.sc sc45 (Rd.cl 1 rfl rfl))) ?_
    refine J.val (v := .int .i64 (((xa.length : Nat) : Int))) rfl rfl (V.len Try.underlying45 rfl) ?_
    refine J.val (v := .bool (decide (i739 < (((xa.length : Nat) : Int))))) rfl rfl (V.lss rfl rfl) ?_
    refine J.nil ?_
    refine CJ.cond rfl (fun hc813 => ?_) (fun hc813 => ?_)
    · have h809 := ct hc813 h809
      refine CJ.skip ?_
      refine CJ.seq ?_
      refine CJ.block ?_
      refine CJ.mix [Row Hp.nil 74 (.cons (.int .i64) (.one .bool)) (.slice ad735 l734.length cp736) l734, Cl b442 47 [.slice adxa_0 xa.length cpxa_0], Cl b443 47 [.slice none 0 0]] [([0, 1, 2, 3, 4, 5, 6, 7, 8, 9, 10, 11, 12, 13, 14, 15, 16], 17)] [] [18, 19] mixO (by decide +kernel) ⟨0, rfl, 0, rfl, 0, rfl, trivial⟩ rfl rfl rfl ?_
      refine JM.cons ?_
      refine JQ.val (v := .slice ad735 l734.length cp736) rfl rfl (V.mv rfl) ?_
      refine JQ.val rfl rfl (V.fad Try.underlying47 rfl nz45 rfl) ?_
      refine JQ.val (v := .slice adxa_0 xa.length cpxa_0) rfl rfl (V.ld rfl (Ld.sc sc45 (Rd.cl 1 rfl rfl))) ?_
      refine JQ.val (v := .int .i64 i739) rfl rfl (V.mv rfl) ?_
      obtain ⟨x839, hx840, h809⟩ := ob h809
      obtain ⟨p841, p842, p843⟩ := getI_some hx840
      obtain ⟨b844, o845, e846, a847⟩ := (fxa_0).at p842
      refine JQ.val rfl rfl (V.iad Try.underlying45 sz74 rfl e846 rfl p841 p843) ?_
      refine JQ.val rfl rfl (V.fad Try.underlying74 rfl nz3 rfl) ?_
      refine JQ.val (v := .int .i64 x839.1) rfl rfl (V.ld rfl (Ld.sc sc3 (Rd.k ((a847).fst).int (Hp.le_refl _)))) ?_
      refine JQ.val rfl rfl (V.fad Try.underlying47 rfl nz45 rfl) ?_
      refine JQ.val (v := .slice adxa_0 xa.length cpxa_0) rfl rfl (V.ld rfl (Ld.sc sc45 (Rd.cl 1 rfl rfl))) ?_
      refine JQ.val (v := .int .i64 i739) rfl rfl (V.mv rfl) ?_
      obtain ⟨x848, hx849, h809⟩ := ob h809
      obtain ⟨p850, p851, p852⟩ := getI_some hx849
      obtain ⟨b853, o854, e855, a856⟩ := (fxa_0).at p851
      refine JQ.val rfl rfl (V.iad Try.underlying45 sz74 rfl e855 rfl p850 p852) ?_
      refine JQ.val rfl rfl (V.fad Try.underlying74 rfl nz4 rfl) ?_
      refine JQ.val (v := .bool x848.2) rfl rfl (V.ld rfl (Ld.sc sc4 (Rd.k (((a856).snd).one).bool (Hp.le_refl _)))) ?_
      refine JQ.val (v := .bool x848.2) rfl rfl (V.mv rfl) ?_
      rcases bt (x848.2) with hc857 | hc857
      · have h809 := ct hc857 h809
        refine JQ.skip rfl rfl rfl rfl hc857 ?_
        refine JQ.val (v := .bool true) rfl rfl (V.pickT rfl hc857 rfl) ?_
        refine JQ.val (v := .agg #[.int .i64 x839.1, .bool true]) rfl rfl (V.build inf74 places74 rfl rfl) ?_
        refine JQ.nil ?_
        refine JA.op rfl (A.lit (K0 := Hp.nil) (ty := (.cons (.int .i64) (.one .bool))) (xs := ([(x839.1, true)] : List (Int × Bool))) Try.underlying45 inf74 rfl (by decide) rfl rfl rfl ⟨_, _, rfl, ⟨_, _, rfl, rfl, rfl, rfl⟩, rfl⟩ rfl (by decide)) ?_
        rintro _ _ _ ⟨b858, rfl, rfl, rfl⟩
        have hn859 : ([(x839.1, true)] : List (Int × Bool)) ≠ [] → ∃ g, (some ⟨b858, 0, none⟩ : Option Addr) = some ⟨g, 0, none⟩ := fun _ => ⟨b858, rfl⟩
        refine ⟨fun w hs => Hold.sub (Hp.le_refl _) ⟨1, rfl, 1, rfl, 1, rfl, trivial⟩ hs, ?_⟩
        refine JM.nil ?_
        refine JQ.nil ?_
        obtain ⟨z861, hz862, h809⟩ := ob h809
        refine J.front 1 rfl ?_
        refine J.op rfl (A.appR (Kr := Hp.nil) Try.underlying45 inf74 rfl rfl (by decide) (by decide) rfl rfl (Els.flat rfl) (Els.flat rfl) hz862) ?_
        rintro _ _ _ ⟨v863, rfl, rfl, rfl⟩
        refine J.wit Row.form ?_
        rintro ⟨ad864, cp865, rfl, _, _, hn866⟩
        refine J.val (v := .slice ad864 z861.length cp865) rfl rfl (V.as rfl) ?_
        refine J.nil ?_
        refine CJ.region ?_
        refine J.val (v := .int .i64 i739) rfl rfl (V.mv rfl) ?_
        refine J.val (v := .int .i64 (IntKind.wrap .i64 (i739 + 1))) rfl rfl (V.add rfl rfl) ?_
        refine J.val (v := .int .i64 (IntKind.wrap .i64 (i739 + 1))) rfl rfl (V.as rfl) ?_
        refine J.front 2 rfl ?_
        refine J.front 2 rfl ?_
        refine J.nil ?_
        have e := Option.some.inj h809
        subst e
        exact ⟨rfl, ⟨z861, IntKind.wrap .i64 (i739 + 1), ad864, cp865, rfl, ⟨rfl, rfl, rfl, rfl, rfl, trivial⟩, rfl, rfl⟩⟩
      · have h809 := cf hc857 h809
        refine JQ.run rfl rfl rfl hc857 ?_
        refine JQ.val (v := .bool xc) rfl rfl (V.mv rfl) ?_
        refine JQ.val (v := .bool xc) rfl rfl (V.pickF rfl hc857 rfl) ?_
        refine JQ.val (v := .agg #[.int .i64 x839.1, .bool xc]) rfl rfl (V.build inf74 places74 rfl rfl) ?_
        refine JQ.nil ?_
        refine JA.op rfl (A.lit (K0 := Hp.nil) (ty := (.cons (.int .i64) (.one .bool))) (xs := ([(x839.1, xc)] : List (Int × Bool))) Try.underlying45 inf74 rfl (by decide) rfl rfl rfl ⟨_, _, rfl, ⟨_, _, rfl, rfl, rfl, rfl⟩, rfl⟩ rfl (by decide)) ?_
        rintro _ _ _ ⟨b867, rfl, rfl, rfl⟩
        have hn868 : ([(x839.1, xc)] : List (Int × Bool)) ≠ [] → ∃ g, (some ⟨b867, 0, none⟩ : Option Addr) = some ⟨g, 0, none⟩ := fun _ => ⟨b867, rfl⟩
        refine ⟨fun w hs => Hold.sub (Hp.le_refl _) ⟨1, rfl, 1, rfl, 1, rfl, trivial⟩ hs, ?_⟩
        refine JM.nil ?_
        refine JQ.nil ?_
        obtain ⟨z870, hz871, h809⟩ := ob h809
        refine J.front 1 rfl ?_
        refine J.op rfl (A.appR (Kr := Hp.nil) Try.underlying45 inf74 rfl rfl (by decide) (by decide) rfl rfl (Els.flat rfl) (Els.flat rfl) hz871) ?_
        rintro _ _ _ ⟨v872, rfl, rfl, rfl⟩
        refine J.wit Row.form ?_
        rintro ⟨ad873, cp874, rfl, _, _, hn875⟩
        refine J.val (v := .slice ad873 z870.length cp874) rfl rfl (V.as rfl) ?_
        refine J.nil ?_
        refine CJ.region ?_
        refine J.val (v := .int .i64 i739) rfl rfl (V.mv rfl) ?_
        refine J.val (v := .int .i64 (IntKind.wrap .i64 (i739 + 1))) rfl rfl (V.add rfl rfl) ?_
        refine J.val (v := .int .i64 (IntKind.wrap .i64 (i739 + 1))) rfl rfl (V.as rfl) ?_
        refine J.front 2 rfl ?_
        refine J.front 2 rfl ?_
        refine J.nil ?_
        have e := Option.some.inj h809
        subst e
        exact ⟨rfl, ⟨z870, IntKind.wrap .i64 (i739 + 1), ad873, cp874, rfl, ⟨rfl, rfl, rfl, rfl, rfl, trivial⟩, rfl, rfl⟩⟩
    · have h809 := cf hc813 h809
      refine CJ.dropAt 1 rfl ?_
      refine CJ.front 1 rfl ?_
      refine CJ.exit ?_
      have e := Option.some.inj h809
      subst e
      refine ⟨nofun, fun e => ?_⟩
      subst e
      exact ⟨rfl, ⟨l734, ad735, cp736, rfl, ⟨rfl, rfl, trivial⟩, rfl, rfl⟩⟩
  · rintro ρ _ _ ⟨l658, ad659, cp660, rfl, hf876, rfl, rfl⟩
    obtain ⟨ρ, rfl⟩ := hf876.ex
    refine PJ.front 1 rfl ?_
    refine PJ.wit Row.hn (fun hn662 => ?_)
    refine PJ.done ?_
    refine CJ.seq ?_
    refine CJ.region ?_
    refine J.val (v := .slice ad659 l658.length cp660) rfl rfl (V.mv rfl) ?_
    refine J.val (v := .agg #[.slice ad659 l658.length cp660]) rfl rfl (V.build inf47 places47 rfl rfl) ?_
    refine J.front 1 rfl ?_
    refine J.op rfl (A.store (v := .agg #[.slice ad659 l658.length cp660]) (cs' := [.slice ad659 l658.length cp660]) sz47 rfl rfl rfl rfl rfl rfl) ?_
    rintro _ _ _ ⟨rfl, rfl, rfl⟩
    refine J.nil ?_
    refine CJ.ret ?_
    have e := Option.some.inj h
    subst e
    exact ⟨_, [Row Hp.nil 74 (.cons (.int .i64) (.one .bool)) (.slice ad659 l658.length cp660) l658], Res.one rfl ⟨_, _, rfl, Ld.agg (cs := [.slice ad659 l658.length cp660]) Try.underlying47 sz47 rfl (Rd.cls 0 0 rfl rfl)⟩, ⟨l658, ad659, cp660, rfl, rfl, rfl⟩, (Hp.le_refl _), fun w hs => (Sep.dropAt 0 rfl hs)⟩

noncomputable def fn_ref16_Loan (xa : (List (Int × Bool))) (xb : (List (Int × Bool))) (xc : Int) (xd : Bool) : Option (((List (Int × Int × Int × Int × Bool)) × Int)) :=
  (fn_ref15_Ref xa xc xd).bind fun l117 => (fn_ref15_Shape l117 xb).bind fun t130 => cond (!t130) (some (([], 8))) ((getI xb 0).bind fun x136 => (subL xb 1 (((xb.length : Nat) : Int))).bind fun y165 => (fn_ref16_slots_rkkii xa y165 1 1 (([(xc, x136.1, 2, 0, false)] : List (Int × Int × Int × Int × Bool)))).bind fun l173 => some ((l173, 0)))
set_option maxRecDepth 100000 in
set_option maxHeartbeats 4000000 in
theorem ref16_Loan_ok {K : Hp} {xa : (List (Int × Bool))} {xb : (List (Int × Bool))} {xc : Int} {xd : Bool} {adxa_0 : Option Addr} {cpxa_0 : Nat} {adxb_0 : Option Addr} {cpxb_0 : Nat} (fxa_0 : Is K (.sl (.cons (.int .i64) (.one .bool))) [.slice adxa_0 xa.length cpxa_0] xa) (fxb_0 : Is K (.sl (.cons (.int .i64) (.one .bool))) [.slice adxb_0 xb.length cpxb_0] xb) {r : ((List (Int × Int × Int × Int × Bool)) × Int)} (h : fn_ref16_Loan xa xb xc xd = some r) :
    Tr Try.prog 28 #[.agg #[.slice adxa_0 xa.length cpxa_0], .agg #[.slice adxb_0 xb.length cpxb_0], .int .i64 xc, .bool xd] K [] (fun v K' L' => (∃ (l88 : (List (Int × Int × Int × Int × Bool))) (i93 : Int) (ad89 : Option Addr) (cp90 : Nat), (l88, i93) = r ∧ .tuple #[.slice ad89 l88.length cp90, .int .i64 i93] = v ∧ L' = [Row Hp.nil 59 (.cons (.int .i64) (.cons (.int .i64) (.cons (.int .i64) (.cons (.int .i64) (.one .bool))))) (.slice ad89 l88.length cp90) l88]) ∧ K = K') := by
  refine Tr.k ?_
  refine Tr.of Try.func28 rfl Try.ntmps28 rfl (fun E F => ?_)
  unfold fn_ref16_Loan at h
  refine CJ.seq ?_
  refine CJ.region ?_
  refine J.op rfl (A.box (v := .agg #[.slice adxa_0 xa.length cpxa_0]) (cs := [.slice adxa_0 xa.length cpxa_0]) rfl rfl) ?_
  rintro _ _ _ ⟨b94, rfl, rfl, rfl⟩
  refine J.op rfl (A.box (v := .agg #[.slice adxb_0 xb.length cpxb_0]) (cs := [.slice adxb_0 xb.length cpxb_0]) rfl rfl) ?_
  rintro _ _ _ ⟨b95, rfl, rfl, rfl⟩
  refine J.val (v := .slice none 0 0) rfl rfl (V.as rfl) ?_
  refine J.val (v := .int .i64 0) rfl rfl (V.as rfl) ?_
  refine J.nil ?_
  refine CJ.seq ?_
  refine CJ.seq ?_
  refine CJ.mix [Cl b95 47 [.slice adxb_0 xb.length cpxb_0], Cl b94 47 [.slice adxa_0 xa.length cpxa_0]] [([0, 1, 2, 4], 3), ([], 5)] [6] [] mixO (by decide +kernel) ⟨0, rfl, 0, rfl, trivial⟩ rfl rfl rfl ?_
  refine JM.cons ?_
  refine JQ.val (v := .agg #[.slice adxa_0 xa.length cpxa_0]) rfl rfl (V.ld rfl (Ld.agg (cs := [.slice adxa_0 xa.length cpxa_0]) Try.underlying47 sz47 rfl (Rd.cls 1 0 rfl rfl))) ?_
  refine JQ.val (v := .int .i64 xc) rfl rfl (V.mv rfl) ?_
  refine JQ.val (v := .bool xd) rfl rfl (V.mv rfl) ?_
  refine JQ.val (v := .agg #[.slice adxb_0 xb.length cpxb_0]) rfl rfl (V.ld rfl (Ld.agg (cs := [.slice adxb_0 xb.length cpxb_0]) Try.underlying47 sz47 rfl (Rd.cls 0 0 rfl rfl))) ?_
  refine JQ.nil ?_
  obtain ⟨r115, hr116, h⟩ := ob h
  refine JA.op rfl (A.call (L1 := []) Try.call43 rfl (ref15_Ref_ok fxa_0 hr116) rfl rfl) ?_
  rintro _ _ _ ⟨v121, _, rfl, ⟨⟨l117, ad118, cp119, rfl, rfl, rfl⟩, rfl⟩, _, rfl⟩
  refine ⟨fun w hs => Hold.sub (Hp.le_refl _) ⟨1, rfl, 1, rfl, trivial⟩ hs, ?_⟩
  refine JM.wit Row.hn (fun hn120 => ?_)
  refine JM.cons ?_
  refine JQ.nil ?_
  obtain ⟨r125, hr126, h⟩ := ob h
  refine JA.op rfl (A.call (L1 := [Row Hp.nil 74 (.cons (.int .i64) (.one .bool)) (.slice ad118 l117.length cp119) l117]) Try.call41 rfl (Tr.lend (Hp.nil_le _) (by decide) (fun K127 hK128 f129 => ref15_Shape_ok f129 (fxb_0.mono hK128) hr126)) rfl rfl) ?_
  rintro _ _ _ ⟨v131, _, rfl, ⟨⟨_, ⟨t130, rfl, rfl, rfl⟩, rfl⟩, rfl⟩, _, rfl⟩
  refine ⟨fun w hs => Hold.sub (Hp.le_refl _) ⟨1, rfl, 1, rfl, trivial⟩ hs, ?_⟩
  refine JM.nil ?_
  refine JQ.val (v := .bool (!t130)) rfl rfl (V.not rfl) ?_
  refine JQ.nil ?_
  refine J.nil ?_
  refine CJ.cond rfl (fun hc134 => ?_) (fun hc134 => ?_)
  · have h := ct hc134 h
    refine CJ.seq ?_
    refine CJ.region ?_
    refine J.val (v := .slice none 0 0) rfl rfl (V.as rfl) ?_
    refine J.val (v := .int .i64 8) rfl rfl (V.as rfl) ?_
    refine J.nil ?_
    refine CJ.by (fun w hs => Sep.rowNil (e := 59) (t := (.cons (.int .i64) (.cons (.int .i64) (.cons (.int .i64) (.cons (.int .i64) (.one .bool)))))) hs) ?_
    refine CJ.ret ?_
    have e := Option.some.inj h
    subst e
    exact ⟨_, [Row Hp.nil 59 (.cons (.int .i64) (.cons (.int .i64) (.cons (.int .i64) (.cons (.int .i64) (.one .bool))))) (.slice none ((([] : List (Int × Int × Int × Int × Bool))).length) 0) (([] : List (Int × Int × Int × Int × Bool)))], Res.two rfl rfl rfl, ⟨[], 8, none, 0, rfl, rfl, rfl⟩, (Hp.le_refl _), fun w hs => (Sep.dropAt 1 rfl (Sep.dropAt 1 rfl (Sep.dropAt 1 rfl hs)))⟩
  · have h := cf hc134 h
    refine CJ.skip ?_
    refine CJ.seq ?_
    refine CJ.region ?_
    refine J.val (v := .int .i64 xc) rfl rfl (V.mv rfl) ?_
    refine J.val rfl rfl (V.fad Try.underlying47 rfl nz45 rfl) ?_
    refine J.val (v := .slice adxb_0 xb.length cpxb_0) rfl rfl (V.ld rfl (Ld.sc sc45 (Rd.cl 1 rfl rfl))) ?_
    obtain ⟨x136, hx137, h⟩ := ob h
    obtain ⟨p138, p139, p140⟩ := getI_some hx137
    obtain ⟨b141, o142, e143, a144⟩ := (fxb_0).at p139
    refine J.val rfl rfl (V.iad Try.underlying45 sz74 rfl e143 rfl p138 p140) ?_
    refine J.val rfl rfl (V.fad Try.underlying74 rfl nz3 rfl) ?_
    refine J.val (v := .int .i64 x136.1) rfl rfl (V.ld rfl (Ld.sc sc3 (Rd.k ((a144).fst).int (Hp.le_refl _)))) ?_
    refine J.val (v := .agg #[.int .i64 xc, .int .i64 x136.1, .int .i64 2, .int .i64 0, .bool false]) rfl rfl (V.build inf59 places59 rfl rfl) ?_
    refine J.op rfl (A.lit (K0 := Hp.nil) (ty := (.cons (.int .i64) (.cons (.int .i64) (.cons (.int .i64) (.cons (.int .i64) (.one .bool)))))) (xs := ([(xc, x136.1, 2, 0, false)] : List (Int × Int × Int × Int × Bool))) Try.underlying31 inf59 rfl (by decide) rfl rfl rfl ⟨_, _, rfl, ⟨_, _, rfl, rfl, rfl, ⟨_, _, rfl, rfl, rfl, ⟨_, _, rfl, rfl, rfl, ⟨_, _, rfl, rfl, rfl, rfl⟩⟩⟩⟩, rfl⟩ rfl (by decide)) ?_
    rintro _ _ _ ⟨b145, rfl, rfl, rfl⟩
    have hn146 : ([(xc, x136.1, 2, 0, false)] : List (Int × Int × Int × Int × Bool)) ≠ [] → ∃ g, (some ⟨b145, 0, none⟩ : Option Addr) = some ⟨g, 0, none⟩ := fun _ => ⟨b145, rfl⟩
    refine J.val (v := .slice (some ⟨b145, 0, none⟩) ((([(xc, x136.1, 2, 0, false)] : List (Int × Int × Int × Int × Bool))).length) 1) rfl rfl (V.as rfl) ?_
    refine J.nil ?_
    refine CJ.seq ?_
    refine CJ.mix [Row Hp.nil 74 (.cons (.int .i64) (.one .bool)) (.slice ad118 l117.length cp119) l117, Cl b95 47 [.slice adxb_0 xb.length cpxb_0], Cl b94 47 [.slice adxa_0 xa.length cpxa_0]] [([0, 1, 2, 3, 4, 5], 6)] [7, 8] [] mixO (by decide +kernel) ⟨1, rfl, 1, rfl, 1, rfl, trivial⟩ rfl rfl rfl ?_
    refine JM.cons ?_
    refine JQ.val (v := .slice (some ⟨b145, 0, none⟩) ((([(xc, x136.1, 2, 0, false)] : List (Int × Int × Int × Int × Bool))).length) 1) rfl rfl (V.mv rfl) ?_
    refine JQ.val rfl rfl (V.fad Try.underlying47 rfl nz45 rfl) ?_
    refine JQ.val (v := .slice adxa_0 xa.length cpxa_0) rfl rfl (V.ld rfl (Ld.sc sc45 (Rd.cl 2 rfl rfl))) ?_
    refine JQ.val rfl rfl (V.fad Try.underlying47 rfl nz45 rfl) ?_
    refine JQ.val (v := .slice adxb_0 xb.length cpxb_0) rfl rfl (V.ld rfl (Ld.sc sc45 (Rd.cl 1 rfl rfl))) ?_
    obtain ⟨y165, hy166, h⟩ := ob h
    obtain ⟨ad167, cp168, hv169, f170⟩ := V.subI (tp := (.cons (.int .i64) (.one .bool))) Try.underlying45 sz74 fxb_0 hy166
    refine JQ.val (v := .slice ad167 y165.length cp168) rfl rfl (hv169 rfl (fun _ h => by cases h; exact ⟨_, rfl⟩) nofun nofun (fun _ => rfl)) ?_
    refine JQ.nil ?_
    obtain ⟨r171, hr172, h⟩ := ob h
    refine JA.op rfl (A.call (L1 := [Row Hp.nil 59 (.cons (.int .i64) (.cons (.int .i64) (.cons (.int .i64) (.cons (.int .i64) (.one .bool))))) (.slice (some ⟨b145, 0, none⟩) ((([(xc, x136.1, 2, 0, false)] : List (Int × Int × Int × Int × Bool))).length) 1) (([(xc, x136.1, 2, 0, false)] : List (Int × Int × Int × Int × Bool)))]) Try.call42 rfl (ref16_slots_rkkii_ok fxa_0 f170 hr172) rfl rfl) ?_
    rintro _ _ _ ⟨v177, _, rfl, ⟨⟨l173, ad174, cp175, rfl, rfl, rfl⟩, rfl⟩, _, rfl⟩
    refine ⟨fun w hs => Hold.sub (Hp.le_refl _) ⟨1, rfl, 1, rfl, 1, rfl, trivial⟩ hs, ?_⟩
    refine JM.wit Row.hn (fun hn176 => ?_)
    refine JM.nil ?_
    refine JQ.val (v := .slice ad174 l173.length cp175) rfl rfl (V.as rfl) ?_
    refine JQ.val (v := .int .i64 0) rfl rfl (V.as rfl) ?_
    refine JQ.nil ?_
    refine J.nil ?_
    refine CJ.ret ?_
    have e := Option.some.inj h
    subst e
    exact ⟨_, [Row Hp.nil 59 (.cons (.int .i64) (.cons (.int .i64) (.cons (.int .i64) (.cons (.int .i64) (.one .bool))))) (.slice ad174 l173.length cp175) l173], Res.two rfl rfl rfl, ⟨l173, 0, ad174, cp175, rfl, rfl, rfl⟩, (Hp.le_refl _), fun w hs => (Sep.dropAt 1 rfl (Sep.dropAt 1 rfl (Sep.dropAt 1 rfl hs)))⟩
noncomputable def fn_ref16_Again_l1 (xa : (List (Int × Bool))) (xd : Bool) : Int → Option (Int ⊕ (Unit ⊕ ((List (Int × Int × Int × Int × Bool)) × Int))) := fun (i448 : Int) => cond (decide (i448 < (((xa.length : Nat) : Int)))) ((cond (xd) ((getI xa i448).bind fun x492 => some (!x492.2)) (some (false))).bind fun t489 => cond (t489) (some (.inr ((.inr (([], 8)))))) (some (.inl (IntKind.wrap .i64 (i448 + 1))))) (some (.inr ((.inl ()))))
noncomputable def fn_ref16_Again (xa : (List (Int × Bool))) (xb : (List (Int × Bool))) (xc : Int) (xd : Bool) : Option (((List (Int × Int × Int × Int × Bool)) × Int)) :=
  (cond (decide ((((xa.length : Nat) : Int)) = 0)) (some (true)) ((fn_ref15_Shape xa xb).bind fun t314 => some (!t314))).bind fun t309 => (cond (t309) (some (true)) ((getI xa 0).bind fun x331 => some (x331.2))).bind fun t328 => cond (t328) (some (([], 8))) ((loop (fn_ref16_Again_l1 xa xd) 1 : Option (Unit ⊕ ((List (Int × Int × Int × Int × Bool)) × Int))).bind fun o => match o with | .inr r => some r | .inl () => (getI xa 0).bind fun x527 => (getI xb 0).bind fun x536 => (subL xa 1 (((xa.length : Nat) : Int))).bind fun y571 => (subL xb 1 (((xb.length : Nat) : Int))).bind fun y577 => (fn_ref16_slots_rkkii y571 y577 1 1 (([(x527.1, xc, 3, 0, false), (xc, x536.1, 2, 0, false)] : List (Int × Int × Int × Int × Bool)))).bind fun l585 => some ((l585, 0)))
set_option maxRecDepth 100000 in
set_option maxHeartbeats 4000000 in
theorem ref16_Again_ok {K : Hp} {xa : (List (Int × Bool))} {xb : (List (Int × Bool))} {xc : Int} {xd : Bool} {adxa_0 : Option Addr} {cpxa_0 : Nat} {adxb_0 : Option Addr} {cpxb_0 : Nat} (fxa_0 : Is K (.sl (.cons (.int .i64) (.one .bool))) [.slice adxa_0 xa.length cpxa_0] xa) (fxb_0 : Is K (.sl (.cons (.int .i64) (.one .bool))) [.slice adxb_0 xb.length cpxb_0] xb) {r : ((List (Int × Int × Int × Int × Bool)) × Int)} (h : fn_ref16_Again xa xb xc xd = some r) :
    Tr Try.prog 29 #[.agg #[.slice adxa_0 xa.length cpxa_0], .agg #[.slice adxb_0 xb.length cpxb_0], .int .i64 xc, .bool xd] K [] (fun v K' L' => (∃ (l294 : (List (Int × Int × Int × Int × Bool))) (i299 : Int) (ad295 : Option Addr) (cp296 : Nat), (l294, i299) = r ∧ .tuple #[.slice ad295 l294.length cp296, .int .i64 i299] = v ∧ L' = [Row Hp.nil 59 (.cons (.int .i64) (.cons (.int .i64) (.cons (.int .i64) (.cons (.int .i64) (.one .bool))))) (.slice ad295 l294.length cp296) l294]) ∧ K = K') := by
  refine Tr.k ?_
  refine Tr.of Try.func29 rfl Try.ntmps29 rfl (fun E F => ?_)
  unfold fn_ref16_Again at h
  refine CJ.seq ?_
  refine CJ.region ?_
  refine J.op rfl (A.box (v := .agg #[.slice adxa_0 xa.length cpxa_0]) (cs := [.slice adxa_0 xa.length cpxa_0]) rfl rfl) ?_
  rintro _ _ _ ⟨b300, rfl, rfl, rfl⟩
  refine J.op rfl (A.box (v := .agg #[.slice adxb_0 xb.length cpxb_0]) (cs := [.slice adxb_0 xb.length cpxb_0]) rfl rfl) ?_
  rintro _ _ _ ⟨b301, rfl, rfl, rfl⟩
  refine J.val (v := .slice none 0 0) rfl rfl (V.as rfl) ?_
  refine J.val (v := .int .i64 0) rfl rfl (V.as rfl) ?_
  refine J.nil ?_
  refine CJ.seq ?_
  refine CJ.seq ?_
  refine CJ.region ?_
  refine J.val rfl rfl (V.fad Try.underlying47 rfl nz45 rfl) ?_
  refine J.val (v := .slice adxa_0 xa.length cpxa_0) rfl rfl (V.ld rfl (Ld.sc sc45 (Rd.cl 1 rfl rfl))) ?_
  refine J.val (v := .int .i64 (((xa.length : Nat) : Int))) rfl rfl (V.len Try.underlying45 rfl) ?_
  refine J.val (v := .bool (decide ((((xa.length : Nat) : Int)) = 0))) rfl rfl (V.eql rfl rfl) ?_
  refine J.val (v := .bool (decide ((((xa.length : Nat) : Int)) = 0))) rfl rfl (V.mv rfl) ?_
  refine J.cut 5 ?_
  obtain ⟨t309, ht310, h⟩ := ob h
  refine @J.meet _ _ _ _ _ _ _ _ _ _ (fun ρ K' L' => Fits [(21, .bool t309), (2, .int .i64 xc), (3, .bool xd), (4, .pointer (some ⟨b300, 0, none⟩)), (5, .pointer (some ⟨b301, 0, none⟩))] ρ ∧ K = K' ∧ L' = Cl b301 47 [.slice adxb_0 xb.length cpxb_0] :: Cl b300 47 [.slice adxa_0 xa.length cpxa_0] :: F) ?_ ?_
  · skip
    rcases bt (decide ((((xa.length : Nat) : Int)) = 0)) with hc311 | hc311
    · have ht310 := ct hc311 ht310
      refine J.skip rfl rfl rfl rfl hc311 ?_
      refine J.skip rfl rfl rfl rfl hc311 ?_
      refine J.skip rfl rfl rfl rfl hc311 ?_
      refine J.skip rfl rfl rfl rfl hc311 ?_
      refine J.val (v := .bool true) rfl rfl (V.pickT rfl hc311 rfl) ?_
      refine J.nil ?_
      have e := Option.some.inj ht310
      subst e
      exact ⟨rfl, ⟨rfl, rfl, rfl, rfl, rfl, trivial⟩, rfl, rfl⟩
    · have ht310 := cf hc311 ht310
      refine J.run rfl rfl rfl hc311 ?_
      refine J.val (v := .agg #[.slice adxa_0 xa.length cpxa_0]) rfl rfl (V.ld rfl (Ld.agg (cs := [.slice adxa_0 xa.length cpxa_0]) Try.underlying47 sz47 rfl (Rd.cls 1 0 rfl rfl))) ?_
      refine J.run rfl rfl rfl hc311 ?_
      refine J.val (v := .agg #[.slice adxb_0 xb.length cpxb_0]) rfl rfl (V.ld rfl (Ld.agg (cs := [.slice adxb_0 xb.length cpxb_0]) Try.underlying47 sz47 rfl (Rd.cls 0 0 rfl rfl))) ?_
      refine J.run rfl rfl rfl hc311 ?_
      obtain ⟨r312, hr313, ht310⟩ := ob ht310
      refine J.op rfl (A.call (L1 := []) Try.call41 rfl (ref15_Shape_ok fxa_0 fxb_0 hr313) rfl rfl) ?_
      rintro _ _ _ ⟨v315, _, rfl, ⟨⟨t314, rfl, rfl, rfl⟩, rfl⟩, _, rfl⟩
      refine J.run rfl rfl rfl hc311 ?_
      refine J.val (v := .bool (!t314)) rfl rfl (V.not rfl) ?_
      refine J.val (v := .bool (!t314)) rfl rfl (V.pickF rfl hc311 rfl) ?_
      refine J.nil ?_
      have e := Option.some.inj ht310
      subst e
      exact ⟨rfl, ⟨rfl, rfl, rfl, rfl, rfl, trivial⟩, rfl, rfl⟩
  · rintro ρ _ _ ⟨hf, rfl, rfl⟩
    obtain ⟨ρ, rfl⟩ := hf.ex
    refine J.val (v := .bool t309) rfl rfl (V.mv rfl) ?_
    refine J.cut 6 ?_
    obtain ⟨t328, ht329, h⟩ := ob h
    refine @J.meet _ _ _ _ _ _ _ _ _ _ (fun ρ K' L' => Fits [(28, .bool t328), (2, .int .i64 xc), (3, .bool xd), (4, .pointer (some ⟨b300, 0, none⟩)), (5, .pointer (some ⟨b301, 0, none⟩))] ρ ∧ K = K' ∧ L' = Cl b301 47 [.slice adxb_0 xb.length cpxb_0] :: Cl b300 47 [.slice adxa_0 xa.length cpxa_0] :: F) ?_ ?_
    · skip
      rcases bt (t309) with hc330 | hc330
      · have ht329 := ct hc330 ht329
        refine J.skip rfl rfl rfl rfl hc330 ?_
        refine J.skip rfl rfl rfl rfl hc330 ?_
        refine J.skip rfl rfl rfl rfl hc330 ?_
        refine J.skip rfl rfl rfl rfl hc330 ?_
        refine J.skip rfl rfl rfl rfl hc330 ?_
        refine J.val (v := .bool true) rfl rfl (V.pickT rfl hc330 rfl) ?_
        refine J.nil ?_
        have e := Option.some.inj ht329
        subst e
        exact ⟨rfl, ⟨rfl, rfl, rfl, rfl, rfl, trivial⟩, rfl, rfl⟩
      · have ht329 := cf hc330 ht329
        refine J.run rfl rfl rfl hc330 ?_
        refine J.val rfl rfl (V.fad Try.underlying47 rfl nz45 rfl) ?_
        refine J.run rfl rfl rfl hc330 ?_
        refine J.val (v := .slice adxa_0 xa.length cpxa_0) rfl rfl (V.ld rfl (Ld.sc sc45 (Rd.cl 1 rfl rfl))) ?_
        refine J.run rfl rfl rfl hc330 ?_
        obtain ⟨x331, hx332, ht329⟩ := ob ht329
        obtain ⟨p333, p334, p335⟩ := getI_some hx332
        obtain ⟨b336, o337, e338, a339⟩ := (fxa_0).at p334
        refine J.val rfl rfl (V.iad Try.underlying45 sz74 rfl e338 rfl p333 p335) ?_
        refine J.run rfl rfl rfl hc330 ?_
        refine J.val rfl rfl (V.fad Try.underlying74 rfl nz4 rfl) ?_
        refine J.run rfl rfl rfl hc330 ?_
        refine J.val (v := .bool x331.2) rfl rfl (V.ld rfl (Ld.sc sc4 (Rd.k (((a339).snd).one).bool (Hp.le_refl _)))) ?_
        refine J.val (v := .bool x331.2) rfl rfl (V.pickF rfl hc330 rfl) ?_
        refine J.nil ?_
        have e := Option.some.inj ht329
        subst e
        exact ⟨rfl, ⟨rfl, rfl, rfl, rfl, rfl, trivial⟩, rfl, rfl⟩
    · rintro ρ _ _ ⟨hf, rfl, rfl⟩
      obtain ⟨ρ, rfl⟩ := hf.ex
      refine J.nil ?_
      refine CJ.cond rfl (fun hc340 => ?_) (fun hc340 => ?_)
      · have h := ct hc340 h
        refine CJ.seq ?_
        refine CJ.region ?_
        refine J.val (v := .slice none 0 0) rfl rfl (V.as rfl) ?_
        refine J.val (v := .int .i64 8) rfl rfl (V.as rfl) ?_
        refine J.nil ?_
        refine CJ.by (fun w hs => Sep.rowNil (e := 59) (t := (.cons (.int .i64) (.cons (.int .i64) (.cons (.int .i64) (.cons (.int .i64) (.one .bool)))))) hs) ?_
        refine CJ.ret ?_
        have e := Option.some.inj h
        subst e
        exact ⟨_, [Row Hp.nil 59 (.cons (.int .i64) (.cons (.int .i64) (.cons (.int .i64) (.cons (.int .i64) (.one .bool))))) (.slice none ((([] : List (Int × Int × Int × Int × Bool))).length) 0) (([] : List (Int × Int × Int × Int × Bool)))], Res.two rfl rfl rfl, ⟨[], 8, none, 0, rfl, rfl, rfl⟩, (Hp.le_refl _), fun w hs => (Sep.dropAt 1 rfl (Sep.dropAt 1 rfl hs))⟩
      · have h := cf hc340 h
        refine CJ.skip ?_
        refine CJ.seq ?_
        refine CJ.seq ?_
        refine CJ.region ?_
        refine J.val (v := .int .i64 1) rfl rfl (V.as rfl) ?_
        refine J.nil ?_
        obtain ⟨o421, ho422, h⟩ := ob h
        refine CJ.joinN (o := o421) (fun s ρ K' L' => () = s ∧ Fits [(2, .int .i64 xc), (4, .pointer (some ⟨b300, 0, none⟩)), (5, .pointer (some ⟨b301, 0, none⟩))] ρ ∧ K = K' ∧ L' = Cl b300 47 [.slice adxa_0 xa.length cpxa_0] :: Cl b301 47 [.slice adxb_0 xb.length cpxb_0] :: F) ?_ ?_
        · skip
          refine CJ.block ?_
          refine CJ.front 1 rfl ?_
          refine CJ.loop (fun s ρ K' L' => ∃ (i448 : Int), i448 = s ∧ Fits [(2, .int .i64 xc), (3, .bool xd), (4, .pointer (some ⟨b300, 0, none⟩)), (5, .pointer (some ⟨b301, 0, none⟩)), (10, .int .i64 i448)] ρ ∧ K = K' ∧ L' = Cl b300 47 [.slice adxa_0 xa.length cpxa_0] :: Cl b301 47 [.slice adxb_0 xb.length cpxb_0] :: F) ho422 ⟨1, rfl, ⟨rfl, rfl, rfl, rfl, rfl, trivial⟩, rfl, rfl⟩ ?_
          rintro s ρ _ _ r477 ⟨i448, rfl, hf475, rfl, rfl⟩ h474
          obtain ⟨ρ, rfl⟩ := hf475.ex
          refine CJ.seq ?_
          refine CJ.seq ?_
          refine CJ.region ?_
          refine J.val (v := .int .i64 i448) rfl rfl (V.mv rfl) ?_
          refine J.val rfl rfl (V.fad Try.underlying47 rfl nz45 rfl) ?_
          refine J.val (v := .slice adxa_0 xa.length cpxa_0) rfl rfl (V.ld rfl (Ld.sc sc45 (Rd.cl 0 rfl rfl))) ?_
          refine J.val (v := .int .i64 (((xa.length : Nat) : Int))) rfl rfl (V.len Try.underlying45 rfl) ?_
          refine J.val (v := .bool (decide (i448 < (((xa.length : Nat) : Int))))) rfl rfl (V.lss rfl rfl) ?_
          refine J.nil ?_
          refine CJ.cond rfl (fun hc478 => ?_) (fun hc478 => ?_)
          · have h474 := ct hc478 h474
            refine CJ.skip ?_
            refine CJ.seq ?_
            refine CJ.block ?_
            refine CJ.seq ?_
            refine CJ.region ?_
            refine J.val (v := .bool xd) rfl rfl (V.mv rfl) ?_
            refine J.val (v := .bool xd) rfl rfl (V.mv rfl) ?_
            refine J.cut 8 ?_
            obtain ⟨t489, ht490, h474⟩ := ob h474
            refine @J.meet _ _ _ _ _ _ _ _ _ _ (fun ρ K' L' => Fits [(45, .bool t489), (2, .int .i64 xc), (3, .bool xd), (4, .pointer (some ⟨b300, 0, none⟩)), (5, .pointer (some ⟨b301, 0, none⟩)), (10, .int .i64 i448)] ρ ∧ K = K' ∧ L' = Cl b300 47 [.slice adxa_0 xa.length cpxa_0] :: Cl b301 47 [.slice adxb_0 xb.length cpxb_0] :: F) ?_ ?_
            · skip
              rcases bt (xd) with hc491 | hc491
              · have ht490 := ct hc491 ht490
                refine J.run rfl rfl rfl hc491 ?_
                refine J.val rfl rfl (V.fad Try.underlying47 rfl nz45 rfl) ?_
                refine J.run rfl rfl rfl hc491 ?_
                refine J.val (v := .slice adxa_0 xa.length cpxa_0) rfl rfl (V.ld rfl (Ld.sc sc45 (Rd.cl 0 rfl rfl))) ?_
                refine J.run rfl rfl rfl hc491 ?_
                refine J.val (v := .int .i64 i448) rfl rfl (V.mv rfl) ?_
                refine J.run rfl rfl rfl hc491 ?_
                obtain ⟨x492, hx493, ht490⟩ := ob ht490
                obtain ⟨p494, p495, p496⟩ := getI_some hx493
                obtain ⟨b497, o498, e499, a500⟩ := (fxa_0).at p495
                refine J.val rfl rfl (V.iad Try.underlying45 sz74 rfl e499 rfl p494 p496) ?_
                refine J.run rfl rfl rfl hc491 ?_
                refine J.val rfl rfl (V.fad Try.underlying74 rfl nz4 rfl) ?_
                refine J.run rfl rfl rfl hc491 ?_
                refine J.val (v := .bool x492.2) rfl rfl (V.ld rfl (Ld.sc sc4 (Rd.k (((a500).snd).one).bool (Hp.le_refl _)))) ?_
                refine J.run rfl rfl rfl hc491 ?_
                refine J.val (v := .bool (!x492.2)) rfl rfl (V.not rfl) ?_
                refine J.val (v := .bool (!x492.2)) rfl rfl (V.pickT rfl hc491 rfl) ?_
                refine J.nil ?_
                have e := Option.some.inj ht490
                subst e
                exact ⟨rfl, ⟨rfl, rfl, rfl, rfl, rfl, rfl, trivial⟩, rfl, rfl⟩
              · have ht490 := cf hc491 ht490
                refine J.skip rfl rfl rfl rfl hc491 ?_
                refine J.skip rfl rfl rfl rfl hc491 ?_
                refine J.skip rfl rfl rfl rfl hc491 ?_
                refine J.skip rfl rfl rfl rfl hc491 ?_
                refine J.skip rfl rfl rfl rfl hc491 ?_
                refine J.skip rfl rfl rfl rfl hc491 ?_
                refine J.skip rfl rfl rfl rfl hc491 ?_
                refine J.val (v := .bool false) rfl rfl (V.pickF rfl hc491 rfl) ?_
                refine J.nil ?_
                have e := Option.some.inj ht490
                subst e
                exact ⟨rfl, ⟨rfl, rfl, rfl, rfl, rfl, rfl, trivial⟩, rfl, rfl⟩
            · rintro ρ _ _ ⟨hf, rfl, rfl⟩
              obtain ⟨ρ, rfl⟩ := hf.ex
              refine J.nil ?_
              refine CJ.cond rfl (fun hc501 => ?_) (fun hc501 => ?_)
              · have h474 := ct hc501 h474
                refine CJ.seq ?_
                refine CJ.region ?_
                refine J.val (v := .slice none 0 0) rfl rfl (V.as rfl) ?_
                refine J.val (v := .int .i64 8) rfl rfl (V.as rfl) ?_
                refine J.nil ?_
                refine CJ.by (fun w hs => Sep.rowNil (e := 59) (t := (.cons (.int .i64) (.cons (.int .i64) (.cons (.int .i64) (.cons (.int .i64) (.one .bool)))))) hs) ?_
                refine CJ.ret ?_
                have e := Option.some.inj h474
                subst e
                refine ⟨nofun, fun e => ?_⟩
                subst e
                refine .inr ⟨nofun, ?_⟩
                have e := Option.some.inj h
                subst e
                exact ⟨_, [Row Hp.nil 59 (.cons (.int .i64) (.cons (.int .i64) (.cons (.int .i64) (.cons (.int .i64) (.one .bool))))) (.slice none ((([] : List (Int × Int × Int × Int × Bool))).length) 0) (([] : List (Int × Int × Int × Int × Bool)))], Res.two rfl rfl rfl, ⟨[], 8, none, 0, rfl, rfl, rfl⟩, (Hp.le_refl _), fun w hs => (Sep.dropAt 1 rfl (Sep.dropAt 1 rfl hs))⟩
              · have h474 := cf hc501 h474
                refine CJ.skip ?_
                refine CJ.region ?_
                refine J.val (v := .int .i64 i448) rfl rfl (V.mv rfl) ?_
                refine J.val (v := .int .i64 (IntKind.wrap .i64 (i448 + 1))) rfl rfl (V.add rfl rfl) ?_
                refine J.val (v := .int .i64 (IntKind.wrap .i64 (i448 + 1))) rfl rfl (V.as rfl) ?_
                refine J.nil ?_
                have e := Option.some.inj h474
                subst e
                exact ⟨rfl, ⟨IntKind.wrap .i64 (i448 + 1), rfl, ⟨rfl, rfl, rfl, rfl, rfl, trivial⟩, rfl, rfl⟩⟩
          · have h474 := cf hc478 h474
            refine CJ.exit ?_
            have e := Option.some.inj h474
            subst e
            refine ⟨nofun, fun e => ?_⟩
            subst e
            exact .inl ⟨rfl, _, rfl, ⟨rfl, ⟨rfl, rfl, rfl, trivial⟩, rfl, rfl⟩⟩
        · rintro s ρ _ _ ho503 ⟨rfl, hf504, rfl, rfl⟩
          subst ho503
          obtain ⟨ρ, rfl⟩ := hf504.ex
          refine PJ.done ?_
          refine CJ.seq ?_
          refine CJ.mix [Cl b300 47 [.slice adxa_0 xa.length cpxa_0], Cl b301 47 [.slice adxb_0 xb.length cpxb_0]] [([0, 1, 2, 3, 4, 5, 6, 7, 8, 9, 10, 11, 12, 13], 14)] [15] [] mixO (by decide +kernel) ⟨0, rfl, 0, rfl, trivial⟩ rfl rfl rfl ?_
          refine JM.cons ?_
          refine JQ.val rfl rfl (V.fad Try.underlying47 rfl nz45 rfl) ?_
          refine JQ.val (v := .slice adxa_0 xa.length cpxa_0) rfl rfl (V.ld rfl (Ld.sc sc45 (Rd.cl 0 rfl rfl))) ?_
          obtain ⟨x527, hx528, h⟩ := ob h
          obtain ⟨p529, p530, p531⟩ := getI_some hx528
          obtain ⟨b532, o533, e534, a535⟩ := (fxa_0).at p530
          refine JQ.val rfl rfl (V.iad Try.underlying45 sz74 rfl e534 rfl p529 p531) ?_
          refine JQ.val rfl rfl (V.fad Try.underlying74 rfl nz3 rfl) ?_
          refine JQ.val (v := .int .i64 x527.1) rfl rfl (V.ld rfl (Ld.sc sc3 (Rd.k ((a535).fst).int (Hp.le_refl _)))) ?_
          refine JQ.val (v := .int .i64 xc) rfl rfl (V.mv rfl) ?_
          refine JQ.val (v := .agg #[.int .i64 x527.1, .int .i64 xc, .int .i64 3, .int .i64 0, .bool false]) rfl rfl (V.build inf59 places59 rfl rfl) ?_
          refine JQ.val (v := .int .i64 xc) rfl rfl (V.mv rfl) ?_
          refine JQ.val rfl rfl (V.fad Try.underlying47 rfl nz45 rfl) ?_
          refine JQ.val (v := .slice adxb_0 xb.length cpxb_0) rfl rfl (V.ld rfl (Ld.sc sc45 (Rd.cl 1 rfl rfl))) ?_
          obtain ⟨x536, hx537, h⟩ := ob h
          obtain ⟨p538, p539, p540⟩ := getI_some hx537
          obtain ⟨b541, o542, e543, a544⟩ := (fxb_0).at p539
          refine JQ.val rfl rfl (V.iad Try.underlying45 sz74 rfl e543 rfl p538 p540) ?_
          refine JQ.val rfl rfl (V.fad Try.underlying74 rfl nz3 rfl) ?_
          refine JQ.val (v := .int .i64 x536.1) rfl rfl (V.ld rfl (Ld.sc sc3 (Rd.k ((a544).fst).int (Hp.le_refl _)))) ?_
          refine JQ.val (v := .agg #[.int .i64 xc, .int .i64 x536.1, .int .i64 2, .int .i64 0, .bool false]) rfl rfl (V.build inf59 places59 rfl rfl) ?_
          refine JQ.nil ?_
          refine JA.op rfl (A.lit (K0 := Hp.nil) (ty := (.cons (.int .i64) (.cons (.int .i64) (.cons (.int .i64) (.cons (.int .i64) (.one .bool)))))) (xs := ([(x527.1, xc, 3, 0, false), (xc, x536.1, 2, 0, false)] : List (Int × Int × Int × Int × Bool))) Try.underlying31 inf59 rfl (by decide) rfl rfl rfl ⟨_, _, rfl, ⟨_, _, rfl, rfl, rfl, ⟨_, _, rfl, rfl, rfl, ⟨_, _, rfl, rfl, rfl, ⟨_, _, rfl, rfl, rfl, rfl⟩⟩⟩⟩, ⟨_, _, rfl, ⟨_, _, rfl, rfl, rfl, ⟨_, _, rfl, rfl, rfl, ⟨_, _, rfl, rfl, rfl, ⟨_, _, rfl, rfl, rfl, rfl⟩⟩⟩⟩, rfl⟩⟩ rfl (by decide)) ?_
          rintro _ _ _ ⟨b545, rfl, rfl, rfl⟩
          have hn546 : ([(x527.1, xc, 3, 0, false), (xc, x536.1, 2, 0, false)] : List (Int × Int × Int × Int × Bool)) ≠ [] → ∃ g, (some ⟨b545, 0, none⟩ : Option Addr) = some ⟨g, 0, none⟩ := fun _ => ⟨b545, rfl⟩
          refine ⟨fun w hs => Hold.sub (Hp.le_refl _) ⟨1, rfl, 1, rfl, trivial⟩ hs, ?_⟩
          refine JM.nil ?_
          refine JQ.val (v := .slice (some ⟨b545, 0, none⟩) ((([(x527.1, xc, 3, 0, false), (xc, x536.1, 2, 0, false)] : List (Int × Int × Int × Int × Bool))).length) 2) rfl rfl (V.as rfl) ?_
          refine JQ.nil ?_
          refine J.nil ?_
          refine CJ.seq ?_
          refine CJ.mix [Cl b300 47 [.slice adxa_0 xa.length cpxa_0], Cl b301 47 [.slice adxb_0 xb.length cpxb_0]] [([0, 1, 2, 3, 4, 5, 6], 7)] [8, 9] [] mixO (by decide +kernel) ⟨1, rfl, 1, rfl, trivial⟩ rfl rfl rfl ?_
          refine JM.cons ?_
          refine JQ.val (v := .slice (some ⟨b545, 0, none⟩) ((([(x527.1, xc, 3, 0, false), (xc, x536.1, 2, 0, false)] : List (Int × Int × Int × Int × Bool))).length) 2) rfl rfl (V.mv rfl) ?_
          refine JQ.val rfl rfl (V.fad Try.underlying47 rfl nz45 rfl) ?_
          refine JQ.val (v := .slice adxa_0 xa.length cpxa_0) rfl rfl (V.ld rfl (Ld.sc sc45 (Rd.cl 0 rfl rfl))) ?_
          obtain ⟨y571, hy572, h⟩ := ob h
          obtain ⟨ad573, cp574, hv575, f576⟩ := V.subI (tp := (.cons (.int .i64) (.one .bool))) Try.underlying45 sz74 fxa_0 hy572
          refine JQ.val (v := .slice ad573 y571.length cp574) rfl rfl (hv575 rfl (fun _ h => by cases h; exact ⟨_, rfl⟩) nofun nofun (fun _ => rfl)) ?_
          refine JQ.val rfl rfl (V.fad Try.underlying47 rfl nz45 rfl) ?_
          refine JQ.val (v := .slice adxb_0 xb.length cpxb_0) rfl rfl (V.ld rfl (Ld.sc sc45 (Rd.cl 1 rfl rfl))) ?_
          obtain ⟨y577, hy578, h⟩ := ob h
          obtain ⟨ad579, cp580, hv581, f582⟩ := V.subI (tp := (.cons (.int .i64) (.one .bool))) Try.underlying45 sz74 fxb_0 hy578
          refine JQ.val (v := .slice ad579 y577.length cp580) rfl rfl (hv581 rfl (fun _ h => by cases h; exact ⟨_, rfl⟩) nofun nofun (fun _ => rfl)) ?_
          refine JQ.nil ?_
          obtain ⟨r583, hr584, h⟩ := ob h
          refine JA.op rfl (A.call (L1 := [Row Hp.nil 59 (.cons (.int .i64) (.cons (.int .i64) (.cons (.int .i64) (.cons (.int .i64) (.one .bool))))) (.slice (some ⟨b545, 0, none⟩) ((([(x527.1, xc, 3, 0, false), (xc, x536.1, 2, 0, false)] : List (Int × Int × Int × Int × Bool))).length) 2) (([(x527.1, xc, 3, 0, false), (xc, x536.1, 2, 0, false)] : List (Int × Int × Int × Int × Bool)))]) Try.call42 rfl (ref16_slots_rkkii_ok f576 f582 hr584) rfl rfl) ?_
          rintro _ _ _ ⟨v589, _, rfl, ⟨⟨l585, ad586, cp587, rfl, rfl, rfl⟩, rfl⟩, _, rfl⟩
          refine ⟨fun w hs => Hold.sub (Hp.le_refl _) ⟨1, rfl, 1, rfl, trivial⟩ hs, ?_⟩
          refine JM.wit Row.hn (fun hn588 => ?_)
          refine JM.nil ?_
          refine JQ.val (v := .slice ad586 l585.length cp587) rfl rfl (V.as rfl) ?_
          refine JQ.val (v := .int .i64 0) rfl rfl (V.as rfl) ?_
          refine JQ.nil ?_
          refine J.nil ?_
          refine CJ.ret ?_
          have e := Option.some.inj h
          subst e
          exact ⟨_, [Row Hp.nil 59 (.cons (.int .i64) (.cons (.int .i64) (.cons (.int .i64) (.cons (.int .i64) (.one .bool))))) (.slice ad586 l585.length cp587) l585], Res.two rfl rfl rfl, ⟨l585, 0, ad586, cp587, rfl, rfl, rfl⟩, (Hp.le_refl _), fun w hs => (Sep.dropAt 1 rfl (Sep.dropAt 1 rfl hs))⟩

noncomputable def fn_ref18_Needs (xa : (Int × Int × Int × Int × Bool)) (xb : (List (List (Int × Bool)))) (xc : Int) : Option (((List (Int × Int × Int × Int × Bool)) × Int)) :=
  (fn_ref18_Form (xa.1, xa.2.1, xa.2.2.1, xa.2.2.2.1, xa.2.2.2.2)).bind fun t327 => cond (!t327) (some (([], 3))) ((fn_ref18_Dst xa.1).bind fun t335 => (cond (t335 && ((decide (xa.2.1 < 0)) || (decide ((((xb.length : Nat) : Int)) ≤ xa.2.1)))) (some (true)) ((fn_ref18_Src xa.1).bind fun t369 => some (t369 && ((decide (xa.2.2.1 < 0)) || (decide ((((xb.length : Nat) : Int)) ≤ xa.2.2.1)))))).bind fun t364 => (cond (t364) (some (true)) ((fn_ref18_Region xa.1).bind fun t403 => some (t403 && ((decide (xa.2.2.2.1 < 0)) || (decide (xc ≤ xa.2.2.2.1)))))).bind fun t398 => cond (t398) (some (([], 7))) (cond (decide (xa.1 = 1)) ((getI xb xa.2.2.1).bind fun x456 => (getI xb xa.2.1).bind fun x469 => (fn_ref16_Flow x456 x469 1 0).bind fun (l484, i485) => some ((l484, i485))) (cond (decide (xa.1 = 2)) ((getI xb xa.2.2.1).bind fun x531 => (getI xb xa.2.1).bind fun x544 => (fn_ref16_Loan x531 x544 xa.2.2.2.1 xa.2.2.2.2).bind fun (l559, i560) => some ((l559, i560))) (cond (decide (xa.1 = 3)) ((getI xb xa.2.2.1).bind fun x606 => (getI xb xa.2.1).bind fun x619 => (fn_ref16_Again x606 x619 xa.2.2.2.1 xa.2.2.2.2).bind fun (l634, i635) => some ((l634, i635))) (some (([], 0)))))))
set_option maxRecDepth 100000 in
set_option maxHeartbeats 4000000 in
theorem ref18_Needs_ok {K : Hp} {xa : (Int × Int × Int × Int × Bool)} {xb : (List (List (Int × Bool)))} {xc : Int} {adxb_0 : Option Addr} {cpxb_0 : Nat} (fxb_0 : Is K (.sl (.one (.sl (.cons (.int .i64) (.one .bool))))) [.slice adxb_0 xb.length cpxb_0] xb) {r : ((List (Int × Int × Int × Int × Bool)) × Int)} (h : fn_ref18_Needs xa xb xc = some r) :
    Tr Try.prog 9 #[.agg #[.int .i64 xa.1, .int .i64 xa.2.1, .int .i64 xa.2.2.1, .int .i64 xa.2.2.2.1, .bool xa.2.2.2.2], .slice adxb_0 xb.length cpxb_0, .int .i64 xc] K [] (fun v K' L' => (∃ (l318 : (List (Int × Int × Int × Int × Bool))) (i323 : Int) (ad319 : Option Addr) (cp320 : Nat), (l318, i323) = r ∧ .tuple #[.slice ad319 l318.length cp320, .int .i64 i323] = v ∧ L' = [Row Hp.nil 59 (.cons (.int .i64) (.cons (.int .i64) (.cons (.int .i64) (.cons (.int .i64) (.one .bool))))) (.slice ad319 l318.length cp320) l318]) ∧ K = K') := by
  refine Tr.k ?_
  refine Tr.of Try.func9 rfl Try.ntmps9 rfl (fun E F => ?_)
  unfold fn_ref18_Needs at h
  refine CJ.seq ?_
  refine CJ.region ?_
  refine J.op rfl (A.box (v := .agg #[.int .i64 xa.1, .int .i64 xa.2.1, .int .i64 xa.2.2.1, .int .i64 xa.2.2.2.1, .bool xa.2.2.2.2]) (cs := [.int .i64 xa.1, .int .i64 xa.2.1, .int .i64 xa.2.2.1, .int .i64 xa.2.2.2.1, .bool xa.2.2.2.2]) rfl rfl) ?_
  rintro _ _ _ ⟨b324, rfl, rfl, rfl⟩
  refine J.val (v := .slice none 0 0) rfl rfl (V.as rfl) ?_
  refine J.val (v := .int .i64 0) rfl rfl (V.as rfl) ?_
  refine J.nil ?_
  refine CJ.seq ?_
  refine CJ.seq ?_
  refine CJ.region ?_
  refine J.val (v := .agg #[.int .i64 xa.1, .int .i64 xa.2.1, .int .i64 xa.2.2.1, .int .i64 xa.2.2.2.1, .bool xa.2.2.2.2]) rfl rfl (V.ld rfl (Ld.agg (cs := [.int .i64 xa.1, .int .i64 xa.2.1, .int .i64 xa.2.2.1, .int .i64 xa.2.2.2.1, .bool xa.2.2.2.2]) Try.underlying23 sz23 rfl (Rd.cls 0 0 rfl rfl))) ?_
  obtain ⟨r325, hr326, h⟩ := ob h
  refine J.op rfl (A.call (L1 := []) Try.call23 rfl (ref18_Form_ok hr326) rfl rfl) ?_
  rintro _ _ _ ⟨v328, _, rfl, ⟨⟨t327, rfl, rfl, rfl⟩, rfl⟩, _, rfl⟩
  refine J.val (v := .bool (!t327)) rfl rfl (V.not rfl) ?_
  refine J.nil ?_
  refine CJ.cond rfl (fun hc331 => ?_) (fun hc331 => ?_)
  · have h := ct hc331 h
    refine CJ.seq ?_
    refine CJ.region ?_
    refine J.val (v := .slice none 0 0) rfl rfl (V.as rfl) ?_
    refine J.val (v := .int .i64 3) rfl rfl (V.as rfl) ?_
    refine J.nil ?_
    refine CJ.by (fun w hs => Sep.rowNil (e := 59) (t := (.cons (.int .i64) (.cons (.int .i64) (.cons (.int .i64) (.cons (.int .i64) (.one .bool)))))) hs) ?_
    refine CJ.ret ?_
    have e := Option.some.inj h
    subst e
    exact ⟨_, [Row Hp.nil 59 (.cons (.int .i64) (.cons (.int .i64) (.cons (.int .i64) (.cons (.int .i64) (.one .bool))))) (.slice none ((([] : List (Int × Int × Int × Int × Bool))).length) 0) (([] : List (Int × Int × Int × Int × Bool)))], Res.two rfl rfl rfl, ⟨[], 3, none, 0, rfl, rfl, rfl⟩, (Hp.le_refl _), fun w hs => (Sep.dropAt 1 rfl hs)⟩
  · have h := cf hc331 h
    refine CJ.skip ?_
    refine CJ.seq ?_
    refine CJ.seq ?_
    refine CJ.region ?_
    refine J.val rfl rfl (V.fad Try.underlying23 rfl nz3 rfl) ?_
    refine J.val (v := .int .i64 xa.1) rfl rfl (V.ld rfl (Ld.sc sc3 (Rd.cl 0 rfl rfl))) ?_
    obtain ⟨r333, hr334, h⟩ := ob h
    refine J.op rfl (A.call (L1 := []) Try.call24 rfl (ref18_Dst_ok hr334) rfl rfl) ?_
    rintro _ _ _ ⟨v336, _, rfl, ⟨⟨t335, rfl, rfl, rfl⟩, rfl⟩, _, rfl⟩
    refine J.val (v := .bool t335) rfl rfl (V.mv rfl) ?_
    refine J.cut 11 ?_
    refine @J.meet _ _ _ _ _ _ _ _ _ _ (fun ρ K' L' => Fits [(25, .bool (t335 && ((decide (xa.2.1 < 0)) || (decide ((((xb.length : Nat) : Int)) ≤ xa.2.1))))), (1, .slice adxb_0 xb.length cpxb_0), (2, .int .i64 xc), (3, .pointer (some ⟨b324, 0, none⟩))] ρ ∧ K = K' ∧ L' = Cl b324 23 [.int .i64 xa.1, .int .i64 xa.2.1, .int .i64 xa.2.2.1, .int .i64 xa.2.2.2.1, .bool xa.2.2.2.2] :: F) ?_ ?_
    · skip
      rcases bt (t335) with hc344 | hc344
      · skip
        refine J.run rfl rfl rfl hc344 ?_
        refine J.val rfl rfl (V.fad Try.underlying23 rfl nz3 rfl) ?_
        refine J.run rfl rfl rfl hc344 ?_
        refine J.val (v := .int .i64 xa.2.1) rfl rfl (V.ld rfl (Ld.sc sc3 (Rd.cl 0 rfl rfl))) ?_
        refine J.run rfl rfl rfl hc344 ?_
        refine J.val (v := .bool (decide (xa.2.1 < 0))) rfl rfl (V.lss rfl rfl) ?_
        refine J.run rfl rfl rfl hc344 ?_
        refine J.val (v := .bool (decide (xa.2.1 < 0))) rfl rfl (V.mv rfl) ?_
        refine J.cut 6 ?_
        refine @J.meet _ _ _ _ _ _ _ _ _ _ (fun ρ K' L' => Fits [(24, .bool ((decide (xa.2.1 < 0)) || (decide ((((xb.length : Nat) : Int)) ≤ xa.2.1)))), (1, .slice adxb_0 xb.length cpxb_0), (2, .int .i64 xc), (3, .pointer (some ⟨b324, 0, none⟩)), (14, .bool t335)] ρ ∧ K = K' ∧ L' = Cl b324 23 [.int .i64 xa.1, .int .i64 xa.2.1, .int .i64 xa.2.2.1, .int .i64 xa.2.2.2.1, .bool xa.2.2.2.2] :: F) ?_ ?_
        · skip
          rcases bt (decide (xa.2.1 < 0)) with hc347 | hc347
          · skip
            refine J.skip rfl rfl rfl rfl hc347 ?_
            refine J.skip rfl rfl rfl rfl hc347 ?_
            refine J.skip rfl rfl rfl rfl hc347 ?_
            refine J.skip rfl rfl rfl rfl hc347 ?_
            refine J.skip rfl rfl rfl rfl hc347 ?_
            refine J.run rfl rfl rfl hc344 ?_
            refine J.val (v := .bool true) rfl rfl (V.pickT rfl hc347 rfl) ?_
            refine J.nil ?_
            exact ⟨rfl, ⟨(by simp only [hc347]; rfl), rfl, rfl, rfl, rfl, trivial⟩, rfl, rfl⟩
          · skip
            refine J.run rfl rfl rfl hc347 ?_
            refine J.val rfl rfl (V.fad Try.underlying23 rfl nz3 rfl) ?_
            refine J.run rfl rfl rfl hc347 ?_
            refine J.val (v := .int .i64 xa.2.1) rfl rfl (V.ld rfl (Ld.sc sc3 (Rd.cl 0 rfl rfl))) ?_
            refine J.run rfl rfl rfl hc347 ?_
            refine J.val (v := .slice adxb_0 xb.length cpxb_0) rfl rfl (V.mv rfl) ?_
            refine J.run rfl rfl rfl hc347 ?_
            refine J.val (v := .int .i64 (((xb.length : Nat) : Int))) rfl rfl (V.len Try.underlying24 rfl) ?_
            refine J.run rfl rfl rfl hc347 ?_
            refine J.val (v := .bool (decide ((((xb.length : Nat) : Int)) ≤ xa.2.1))) rfl rfl (V.geq rfl rfl) ?_
            refine J.run rfl rfl rfl hc344 ?_
            refine J.val (v := .bool (decide ((((xb.length : Nat) : Int)) ≤ xa.2.1))) rfl rfl (V.pickF rfl hc347 rfl) ?_
            refine J.nil ?_
            exact ⟨rfl, ⟨(by simp only [hc347]; rfl), rfl, rfl, rfl, rfl, trivial⟩, rfl, rfl⟩
        · rintro ρ _ _ ⟨hf, rfl, rfl⟩
          obtain ⟨ρ, rfl⟩ := hf.ex
          refine J.val (v := .bool ((decide (xa.2.1 < 0)) || (decide ((((xb.length : Nat) : Int)) ≤ xa.2.1)))) rfl rfl (V.pickT rfl hc344 rfl) ?_
          refine J.nil ?_
          exact ⟨rfl, ⟨(by simp only [hc344]; rfl), rfl, rfl, rfl, trivial⟩, rfl, rfl⟩
      · skip
        refine J.skip rfl rfl rfl rfl hc344 ?_
        refine J.skip rfl rfl rfl rfl hc344 ?_
        refine J.skip rfl rfl rfl rfl hc344 ?_
        refine J.skip rfl rfl rfl rfl hc344 ?_
        refine J.skipu rfl rfl rfl rfl ?_
        refine J.skipu rfl rfl rfl rfl ?_
        refine J.skipu rfl rfl rfl rfl ?_
        refine J.skipu rfl rfl rfl rfl ?_
        refine J.skipu rfl rfl rfl rfl ?_
        refine J.skip rfl rfl rfl rfl hc344 ?_
        refine J.val (v := .bool false) rfl rfl (V.pickF rfl hc344 rfl) ?_
        refine J.nil ?_
        exact ⟨rfl, ⟨(by simp only [hc344]; rfl), rfl, rfl, rfl, trivial⟩, rfl, rfl⟩
    · rintro ρ _ _ ⟨hf, rfl, rfl⟩
      obtain ⟨ρ, rfl⟩ := hf.ex
      refine J.val (v := .bool (t335 && ((decide (xa.2.1 < 0)) || (decide ((((xb.length : Nat) : Int)) ≤ xa.2.1))))) rfl rfl (V.mv rfl) ?_
      refine J.cut 16 ?_
      obtain ⟨t364, ht365, h⟩ := ob h
      refine @J.meet _ _ _ _ _ _ _ _ _ _ (fun ρ K' L' => Fits [(42, .bool t364), (1, .slice adxb_0 xb.length cpxb_0), (2, .int .i64 xc), (3, .pointer (some ⟨b324, 0, none⟩))] ρ ∧ K = K' ∧ L' = Cl b324 23 [.int .i64 xa.1, .int .i64 xa.2.1, .int .i64 xa.2.2.1, .int .i64 xa.2.2.2.1, .bool xa.2.2.2.2] :: F) ?_ ?_
      · skip
        rcases bt (t335 && ((decide (xa.2.1 < 0)) || (decide ((((xb.length : Nat) : Int)) ≤ xa.2.1)))) with hc366 | hc366
        · have ht365 := ct hc366 ht365
          refine J.skip rfl rfl rfl rfl hc366 ?_
          refine J.skip rfl rfl rfl rfl hc366 ?_
          refine J.skip rfl rfl rfl rfl hc366 ?_
          refine J.skip rfl rfl rfl rfl hc366 ?_
          refine J.skipu rfl rfl rfl rfl ?_
          refine J.skipu rfl rfl rfl rfl ?_
          refine J.skipu rfl rfl rfl rfl ?_
          refine J.skipu rfl rfl rfl rfl ?_
          refine J.skipu rfl rfl rfl rfl ?_
          refine J.skipu rfl rfl rfl rfl ?_
          refine J.skipu rfl rfl rfl rfl ?_
          refine J.skipu rfl rfl rfl rfl ?_
          refine J.skipu rfl rfl rfl rfl ?_
          refine J.skipu rfl rfl rfl rfl ?_
          refine J.skip rfl rfl rfl rfl hc366 ?_
          refine J.val (v := .bool true) rfl rfl (V.pickT rfl hc366 rfl) ?_
          refine J.nil ?_
          have e := Option.some.inj ht365
          subst e
          exact ⟨rfl, ⟨rfl, rfl, rfl, rfl, trivial⟩, rfl, rfl⟩
        · have ht365 := cf hc366 ht365
          refine J.run rfl rfl rfl hc366 ?_
          refine J.val rfl rfl (V.fad Try.underlying23 rfl nz3 rfl) ?_
          refine J.run rfl rfl rfl hc366 ?_
          refine J.val (v := .int .i64 xa.1) rfl rfl (V.ld rfl (Ld.sc sc3 (Rd.cl 0 rfl rfl))) ?_
          refine J.run rfl rfl rfl hc366 ?_
          obtain ⟨r367, hr368, ht365⟩ := ob ht365
          refine J.op rfl (A.call (L1 := []) Try.call25 rfl (ref18_Src_ok hr368) rfl rfl) ?_
          rintro _ _ _ ⟨v370, _, rfl, ⟨⟨t369, rfl, rfl, rfl⟩, rfl⟩, _, rfl⟩
          refine J.run rfl rfl rfl hc366 ?_
          refine J.val (v := .bool t369) rfl rfl (V.mv rfl) ?_
          refine J.cut 11 ?_
          refine @J.meet _ _ _ _ _ _ _ _ _ _ (fun ρ K' L' => Fits [(41, .bool (t369 && ((decide (xa.2.2.1 < 0)) || (decide ((((xb.length : Nat) : Int)) ≤ xa.2.2.1))))), (1, .slice adxb_0 xb.length cpxb_0), (2, .int .i64 xc), (3, .pointer (some ⟨b324, 0, none⟩)), (26, .bool (t335 && ((decide (xa.2.1 < 0)) || (decide ((((xb.length : Nat) : Int)) ≤ xa.2.1)))))] ρ ∧ K = K' ∧ L' = Cl b324 23 [.int .i64 xa.1, .int .i64 xa.2.1, .int .i64 xa.2.2.1, .int .i64 xa.2.2.2.1, .bool xa.2.2.2.2] :: F) ?_ ?_
          · skip
            rcases bt (t369) with hc378 | hc378
            · skip
              refine J.run rfl rfl rfl hc378 ?_
              refine J.val rfl rfl (V.fad Try.underlying23 rfl nz3 rfl) ?_
              refine J.run rfl rfl rfl hc378 ?_
              refine J.val (v := .int .i64 xa.2.2.1) rfl rfl (V.ld rfl (Ld.sc sc3 (Rd.cl 0 rfl rfl))) ?_
              refine J.run rfl rfl rfl hc378 ?_
              refine J.val (v := .bool (decide (xa.2.2.1 < 0))) rfl rfl (V.lss rfl rfl) ?_
              refine J.run rfl rfl rfl hc378 ?_
              refine J.val (v := .bool (decide (xa.2.2.1 < 0))) rfl rfl (V.mv rfl) ?_
              refine J.cut 6 ?_
              refine @J.meet _ _ _ _ _ _ _ _ _ _ (fun ρ K' L' => Fits [(40, .bool ((decide (xa.2.2.1 < 0)) || (decide ((((xb.length : Nat) : Int)) ≤ xa.2.2.1)))), (1, .slice adxb_0 xb.length cpxb_0), (2, .int .i64 xc), (3, .pointer (some ⟨b324, 0, none⟩)), (26, .bool (t335 && ((decide (xa.2.1 < 0)) || (decide ((((xb.length : Nat) : Int)) ≤ xa.2.1))))), (30, .bool t369)] ρ ∧ K = K' ∧ L' = Cl b324 23 [.int .i64 xa.1, .int .i64 xa.2.1, .int .i64 xa.2.2.1, .int .i64 xa.2.2.2.1, .bool xa.2.2.2.2] :: F) ?_ ?_
              · skip
                rcases bt (decide (xa.2.2.1 < 0)) with hc381 | hc381
                · skip
                  refine J.skip rfl rfl rfl rfl hc381 ?_
                  refine J.skip rfl rfl rfl rfl hc381 ?_
                  refine J.skip rfl rfl rfl rfl hc381 ?_
                  refine J.skip rfl rfl rfl rfl hc381 ?_
                  refine J.skip rfl rfl rfl rfl hc381 ?_
                  refine J.run rfl rfl rfl hc378 ?_
                  refine J.val (v := .bool true) rfl rfl (V.pickT rfl hc381 rfl) ?_
                  refine J.nil ?_
                  exact ⟨rfl, ⟨(by simp only [hc381]; rfl), rfl, rfl, rfl, rfl, rfl, trivial⟩, rfl, rfl⟩
                · skip
                  refine J.run rfl rfl rfl hc381 ?_
                  refine J.val rfl rfl (V.fad Try.underlying23 rfl nz3 rfl) ?_
                  refine J.run rfl rfl rfl hc381 ?_
                  refine J.val (v := .int .i64 xa.2.2.1) rfl rfl (V.ld rfl (Ld.sc sc3 (Rd.cl 0 rfl rfl))) ?_
                  refine J.run rfl rfl rfl hc381 ?_
                  refine J.val (v := .slice adxb_0 xb.length cpxb_0) rfl rfl (V.mv rfl) ?_
                  refine J.run rfl rfl rfl hc381 ?_
                  refine J.val (v := .int .i64 (((xb.length : Nat) : Int))) rfl rfl (V.len Try.underlying24 rfl) ?_
                  refine J.run rfl rfl rfl hc381 ?_
                  refine J.val (v := .bool (decide ((((xb.length : Nat) : Int)) ≤ xa.2.2.1))) rfl rfl (V.geq rfl rfl) ?_
                  refine J.run rfl rfl rfl hc378 ?_
                  refine J.val (v := .bool (decide ((((xb.length : Nat) : Int)) ≤ xa.2.2.1))) rfl rfl (V.pickF rfl hc381 rfl) ?_
                  refine J.nil ?_
                  exact ⟨rfl, ⟨(by simp only [hc381]; rfl), rfl, rfl, rfl, rfl, rfl, trivial⟩, rfl, rfl⟩
              · rintro ρ _ _ ⟨hf, rfl, rfl⟩
                obtain ⟨ρ, rfl⟩ := hf.ex
                refine J.run rfl rfl rfl hc366 ?_
                refine J.val (v := .bool ((decide (xa.2.2.1 < 0)) || (decide ((((xb.length : Nat) : Int)) ≤ xa.2.2.1)))) rfl rfl (V.pickT rfl hc378 rfl) ?_
                refine J.nil ?_
                exact ⟨rfl, ⟨(by simp only [hc378]; rfl), rfl, rfl, rfl, rfl, trivial⟩, rfl, rfl⟩
            · skip
              refine J.skip rfl rfl rfl rfl hc378 ?_
              refine J.skip rfl rfl rfl rfl hc378 ?_
              refine J.skip rfl rfl rfl rfl hc378 ?_
              refine J.skip rfl rfl rfl rfl hc378 ?_
              refine J.skipu rfl rfl rfl rfl ?_
              refine J.skipu rfl rfl rfl rfl ?_
              refine J.skipu rfl rfl rfl rfl ?_
              refine J.skipu rfl rfl rfl rfl ?_
              refine J.skipu rfl rfl rfl rfl ?_
              refine J.skip rfl rfl rfl rfl hc378 ?_
              refine J.run rfl rfl rfl hc366 ?_
              refine J.val (v := .bool false) rfl rfl (V.pickF rfl hc378 rfl) ?_
              refine J.nil ?_
              exact ⟨rfl, ⟨(by simp only [hc378]; rfl), rfl, rfl, rfl, rfl, trivial⟩, rfl, rfl⟩
          · rintro ρ _ _ ⟨hf, rfl, rfl⟩
            obtain ⟨ρ, rfl⟩ := hf.ex
            refine J.val (v := .bool (t369 && ((decide (xa.2.2.1 < 0)) || (decide ((((xb.length : Nat) : Int)) ≤ xa.2.2.1))))) rfl rfl (V.pickF rfl hc366 rfl) ?_
            refine J.nil ?_
            have e := Option.some.inj ht365
            subst e
            exact ⟨rfl, ⟨rfl, rfl, rfl, rfl, trivial⟩, rfl, rfl⟩
      · rintro ρ _ _ ⟨hf, rfl, rfl⟩
        obtain ⟨ρ, rfl⟩ := hf.ex
        refine J.val (v := .bool t364) rfl rfl (V.mv rfl) ?_
        refine J.cut 15 ?_
        obtain ⟨t398, ht399, h⟩ := ob h
        refine @J.meet _ _ _ _ _ _ _ _ _ _ (fun ρ K' L' => Fits [(58, .bool t398), (1, .slice adxb_0 xb.length cpxb_0), (3, .pointer (some ⟨b324, 0, none⟩))] ρ ∧ K = K' ∧ L' = Cl b324 23 [.int .i64 xa.1, .int .i64 xa.2.1, .int .i64 xa.2.2.1, .int .i64 xa.2.2.2.1, .bool xa.2.2.2.2] :: F) ?_ ?_
        · skip
          rcases bt (t364) with hc400 | hc400
          · have ht399 := ct hc400 ht399
            refine J.skip rfl rfl rfl rfl hc400 ?_
            refine J.skip rfl rfl rfl rfl hc400 ?_
            refine J.skip rfl rfl rfl rfl hc400 ?_
            refine J.skip rfl rfl rfl rfl hc400 ?_
            refine J.skipu rfl rfl rfl rfl ?_
            refine J.skipu rfl rfl rfl rfl ?_
            refine J.skipu rfl rfl rfl rfl ?_
            refine J.skipu rfl rfl rfl rfl ?_
            refine J.skipu rfl rfl rfl rfl ?_
            refine J.skipu rfl rfl rfl rfl ?_
            refine J.skipu rfl rfl rfl rfl ?_
            refine J.skipu rfl rfl rfl rfl ?_
            refine J.skipu rfl rfl rfl rfl ?_
            refine J.skip rfl rfl rfl rfl hc400 ?_
            refine J.val (v := .bool true) rfl rfl (V.pickT rfl hc400 rfl) ?_
            refine J.nil ?_
            have e := Option.some.inj ht399
            subst e
            exact ⟨rfl, ⟨rfl, rfl, rfl, trivial⟩, rfl, rfl⟩
          · have ht399 := cf hc400 ht399
            refine J.run rfl rfl rfl hc400 ?_
            refine J.val rfl rfl (V.fad Try.underlying23 rfl nz3 rfl) ?_
            refine J.run rfl rfl rfl hc400 ?_
            refine J.val (v := .int .i64 xa.1) rfl rfl (V.ld rfl (Ld.sc sc3 (Rd.cl 0 rfl rfl))) ?_
            refine J.run rfl rfl rfl hc400 ?_
            obtain ⟨r401, hr402, ht399⟩ := ob ht399
            refine J.op rfl (A.call (L1 := []) Try.call26 rfl (ref18_Region_ok hr402) rfl rfl) ?_
            rintro _ _ _ ⟨v404, _, rfl, ⟨⟨t403, rfl, rfl, rfl⟩, rfl⟩, _, rfl⟩
            refine J.run rfl rfl rfl hc400 ?_
            refine J.val (v := .bool t403) rfl rfl (V.mv rfl) ?_
            refine J.cut 10 ?_
            refine @J.meet _ _ _ _ _ _ _ _ _ _ (fun ρ K' L' => Fits [(57, .bool (t403 && ((decide (xa.2.2.2.1 < 0)) || (decide (xc ≤ xa.2.2.2.1))))), (1, .slice adxb_0 xb.length cpxb_0), (3, .pointer (some ⟨b324, 0, none⟩)), (43, .bool t364)] ρ ∧ K = K' ∧ L' = Cl b324 23 [.int .i64 xa.1, .int .i64 xa.2.1, .int .i64 xa.2.2.1, .int .i64 xa.2.2.2.1, .bool xa.2.2.2.2] :: F) ?_ ?_
            · skip
              rcases bt (t403) with hc412 | hc412
              · skip
                refine J.run rfl rfl rfl hc412 ?_
                refine J.val rfl rfl (V.fad Try.underlying23 rfl nz3 rfl) ?_
                refine J.run rfl rfl rfl hc412 ?_
                refine J.val (v := .int .i64 xa.2.2.2.1) rfl rfl (V.ld rfl (Ld.sc sc3 (Rd.cl 0 rfl rfl))) ?_
                refine J.run rfl rfl rfl hc412 ?_
                refine J.val (v := .bool (decide (xa.2.2.2.1 < 0))) rfl rfl (V.lss rfl rfl) ?_
                refine J.run rfl rfl rfl hc412 ?_
                refine J.val (v := .bool (decide (xa.2.2.2.1 < 0))) rfl rfl (V.mv rfl) ?_
                refine J.cut 5 ?_
                refine @J.meet _ _ _ _ _ _ _ _ _ _ (fun ρ K' L' => Fits [(56, .bool ((decide (xa.2.2.2.1 < 0)) || (decide (xc ≤ xa.2.2.2.1)))), (1, .slice adxb_0 xb.length cpxb_0), (3, .pointer (some ⟨b324, 0, none⟩)), (43, .bool t364), (47, .bool t403)] ρ ∧ K = K' ∧ L' = Cl b324 23 [.int .i64 xa.1, .int .i64 xa.2.1, .int .i64 xa.2.2.1, .int .i64 xa.2.2.2.1, .bool xa.2.2.2.2] :: F) ?_ ?_
                · skip
                  rcases bt (decide (xa.2.2.2.1 < 0)) with hc415 | hc415
                  · skip
                    refine J.skip rfl rfl rfl rfl hc415 ?_
                    refine J.skip rfl rfl rfl rfl hc415 ?_
                    refine J.skip rfl rfl rfl rfl hc415 ?_
                    refine J.skip rfl rfl rfl rfl hc415 ?_
                    refine J.run rfl rfl rfl hc412 ?_
                    refine J.val (v := .bool true) rfl rfl (V.pickT rfl hc415 rfl) ?_
                    refine J.nil ?_
                    exact ⟨rfl, ⟨(by simp only [hc415]; rfl), rfl, rfl, rfl, rfl, trivial⟩, rfl, rfl⟩
                  · skip
                    refine J.run rfl rfl rfl hc415 ?_
                    refine J.val rfl rfl (V.fad Try.underlying23 rfl nz3 rfl) ?_
                    refine J.run rfl rfl rfl hc415 ?_
                    refine J.val (v := .int .i64 xa.2.2.2.1) rfl rfl (V.ld rfl (Ld.sc sc3 (Rd.cl 0 rfl rfl))) ?_
                    refine J.run rfl rfl rfl hc415 ?_
                    refine J.val (v := .int .i64 xc) rfl rfl (V.mv rfl) ?_
                    refine J.run rfl rfl rfl hc415 ?_
                    refine J.val (v := .bool (decide (xc ≤ xa.2.2.2.1))) rfl rfl (V.geq rfl rfl) ?_
                    refine J.run rfl rfl rfl hc412 ?_
                    refine J.val (v := .bool (decide (xc ≤ xa.2.2.2.1))) rfl rfl (V.pickF rfl hc415 rfl) ?_
                    refine J.nil ?_
                    exact ⟨rfl, ⟨(by simp only [hc415]; rfl), rfl, rfl, rfl, rfl, trivial⟩, rfl, rfl⟩
                · rintro ρ _ _ ⟨hf, rfl, rfl⟩
                  obtain ⟨ρ, rfl⟩ := hf.ex
                  refine J.run rfl rfl rfl hc400 ?_
                  refine J.val (v := .bool ((decide (xa.2.2.2.1 < 0)) || (decide (xc ≤ xa.2.2.2.1)))) rfl rfl (V.pickT rfl hc412 rfl) ?_
                  refine J.nil ?_
                  exact ⟨rfl, ⟨(by simp only [hc412]; rfl), rfl, rfl, rfl, trivial⟩, rfl, rfl⟩
              · skip
                refine J.skip rfl rfl rfl rfl hc412 ?_
                refine J.skip rfl rfl rfl rfl hc412 ?_
                refine J.skip rfl rfl rfl rfl hc412 ?_
                refine J.skip rfl rfl rfl rfl hc412 ?_
                refine J.skipu rfl rfl rfl rfl ?_
                refine J.skipu rfl rfl rfl rfl ?_
                refine J.skipu rfl rfl rfl rfl ?_
                refine J.skipu rfl rfl rfl rfl ?_
                refine J.skip rfl rfl rfl rfl hc412 ?_
                refine J.run rfl rfl rfl hc400 ?_
                refine J.val (v := .bool false) rfl rfl (V.pickF rfl hc412 rfl) ?_
                refine J.nil ?_
                exact ⟨rfl, ⟨(by simp only [hc412]; rfl), rfl, rfl, rfl, trivial⟩, rfl, rfl⟩
            · rintro ρ _ _ ⟨hf, rfl, rfl⟩
              obtain ⟨ρ, rfl⟩ := hf.ex
              refine J.val (v := .bool (t403 && ((decide (xa.2.2.2.1 < 0)) || (decide (xc ≤ xa.2.2.2.1))))) rfl rfl (V.pickF rfl hc400 rfl) ?_
              refine J.nil ?_
              have e := Option.some.inj ht399
              subst e
              exact ⟨rfl, ⟨rfl, rfl, rfl, trivial⟩, rfl, rfl⟩
        · rintro ρ _ _ ⟨hf, rfl, rfl⟩
          obtain ⟨ρ, rfl⟩ := hf.ex
          refine J.nil ?_
          refine CJ.cond rfl (fun hc416 => ?_) (fun hc416 => ?_)
          · have h := ct hc416 h
            refine CJ.seq ?_
            refine CJ.region ?_
            refine J.val (v := .slice none 0 0) rfl rfl (V.as rfl) ?_
            refine J.val (v := .int .i64 7) rfl rfl (V.as rfl) ?_
            refine J.nil ?_
            refine CJ.by (fun w hs => Sep.rowNil (e := 59) (t := (.cons (.int .i64) (.cons (.int .i64) (.cons (.int .i64) (.cons (.int .i64) (.one .bool)))))) hs) ?_
            refine CJ.ret ?_
            have e := Option.some.inj h
            subst e
            exact ⟨_, [Row Hp.nil 59 (.cons (.int .i64) (.cons (.int .i64) (.cons (.int .i64) (.cons (.int .i64) (.one .bool))))) (.slice none ((([] : List (Int × Int × Int × Int × Bool))).length) 0) (([] : List (Int × Int × Int × Int × Bool)))], Res.two rfl rfl rfl, ⟨[], 7, none, 0, rfl, rfl, rfl⟩, (Hp.le_refl _), fun w hs => (Sep.dropAt 1 rfl hs)⟩
          · have h := cf hc416 h
            refine CJ.skip ?_
            refine CJ.seq ?_
            refine CJ.seq ?_
            refine CJ.region ?_
            refine J.val rfl rfl (V.fad Try.underlying23 rfl nz3 rfl) ?_
            refine J.val (v := .int .i64 xa.1) rfl rfl (V.ld rfl (Ld.sc sc3 (Rd.cl 0 rfl rfl))) ?_
            refine J.val (v := .bool (decide (xa.1 = 1))) rfl rfl (V.eql rfl rfl) ?_
            refine J.nil ?_
            refine CJ.cond rfl (fun hc418 => ?_) (fun hc418 => ?_)
            · have h := ct hc418 h
              refine CJ.seq ?_
              refine CJ.mix [Cl b324 23 [.int .i64 xa.1, .int .i64 xa.2.1, .int .i64 xa.2.2.1, .int .i64 xa.2.2.2.1, .bool xa.2.2.2.2]] [([0, 1, 2, 3, 4, 5, 6, 7, 8, 9], 10)] [11, 12, 13, 14] [] mixO (by decide +kernel) ⟨0, rfl, trivial⟩ rfl rfl rfl ?_
              refine JM.cons ?_
              refine JQ.val (v := .slice adxb_0 xb.length cpxb_0) rfl rfl (V.mv rfl) ?_
              refine JQ.val rfl rfl (V.fad Try.underlying23 rfl nz3 rfl) ?_
              refine JQ.val (v := .int .i64 xa.2.2.1) rfl rfl (V.ld rfl (Ld.sc sc3 (Rd.cl 0 rfl rfl))) ?_
              obtain ⟨x456, hx457, h⟩ := ob h
              obtain ⟨p458, p459, p460⟩ := getI_some hx457
              obtain ⟨b461, o462, e463, a464⟩ := (fxb_0).at p459
              refine JQ.val rfl rfl (V.iad Try.underlying24 sz47 rfl e463 rfl p458 p460) ?_
              obtain ⟨ad465, cp466, c467, f468⟩ := ((a464).one).sl
              refine JQ.val (v := .agg #[.slice ad465 x456.length cp466]) rfl rfl (V.ld rfl (Ld.aggK (cs := [.slice ad465 x456.length cp466]) Try.underlying47 sz47 rfl ⟨c467, trivial⟩ (Hp.le_refl _))) ?_
              refine JQ.val (v := .slice adxb_0 xb.length cpxb_0) rfl rfl (V.mv rfl) ?_
              refine JQ.val rfl rfl (V.fad Try.underlying23 rfl nz3 rfl) ?_
              refine JQ.val (v := .int .i64 xa.2.1) rfl rfl (V.ld rfl (Ld.sc sc3 (Rd.cl 0 rfl rfl))) ?_
              obtain ⟨x469, hx470, h⟩ := ob h
              obtain ⟨p471, p472, p473⟩ := getI_some hx470
              obtain ⟨b474, o475, e476, a477⟩ := (fxb_0).at p472
              refine JQ.val rfl rfl (V.iad Try.underlying24 sz47 rfl e476 rfl p471 p473) ?_
              obtain ⟨ad478, cp479, c480, f481⟩ := ((a477).one).sl
              refine JQ.val (v := .agg #[.slice ad478 x469.length cp479]) rfl rfl (V.ld rfl (Ld.aggK (cs := [.slice ad478 x469.length cp479]) Try.underlying47 sz47 rfl ⟨c480, trivial⟩ (Hp.le_refl _))) ?_
              refine JQ.nil ?_
              obtain ⟨r482, hr483, h⟩ := ob h
              refine JA.op rfl (A.call (L1 := []) Try.call27 rfl (ref16_Flow_ok f468 f481 hr483) rfl rfl) ?_
              rintro _ _ _ ⟨v489, _, rfl, ⟨⟨l484, i485, ad486, cp487, rfl, rfl, rfl⟩, rfl⟩, _, rfl⟩
              refine ⟨fun w hs => Hold.sub (Hp.le_refl _) ⟨1, rfl, trivial⟩ hs, ?_⟩
              refine JM.wit Row.hn (fun hn488 => ?_)
              refine JM.nil ?_
              refine JQ.val (v := .slice ad486 l484.length cp487) rfl rfl (V.ext rfl rfl) ?_
              refine JQ.val (v := .int .i64 i485) rfl rfl (V.ext rfl rfl) ?_
              refine JQ.val (v := .slice ad486 l484.length cp487) rfl rfl (V.as rfl) ?_
              refine JQ.val (v := .int .i64 i485) rfl rfl (V.as rfl) ?_
              refine JQ.nil ?_
              refine J.nil ?_
              refine CJ.ret ?_
              have e := Option.some.inj h
              subst e
              exact ⟨_, [Row Hp.nil 59 (.cons (.int .i64) (.cons (.int .i64) (.cons (.int .i64) (.cons (.int .i64) (.one .bool))))) (.slice ad486 l484.length cp487) l484], Res.two rfl rfl rfl, ⟨l484, i485, ad486, cp487, rfl, rfl, rfl⟩, (Hp.le_refl _), fun w hs => (Sep.dropAt 1 rfl hs)⟩
            · have h := cf hc418 h
              refine CJ.skip ?_
              refine CJ.seq ?_
              refine CJ.seq ?_
              refine CJ.region ?_
              refine J.val rfl rfl (V.fad Try.underlying23 rfl nz3 rfl) ?_
              refine J.val (v := .int .i64 xa.1) rfl rfl (V.ld rfl (Ld.sc sc3 (Rd.cl 0 rfl rfl))) ?_
              refine J.val (v := .bool (decide (xa.1 = 2))) rfl rfl (V.eql rfl rfl) ?_
              refine J.nil ?_
              refine CJ.cond rfl (fun hc493 => ?_) (fun hc493 => ?_)
              · have h := ct hc493 h
                refine CJ.seq ?_
                refine CJ.mix [Cl b324 23 [.int .i64 xa.1, .int .i64 xa.2.1, .int .i64 xa.2.2.1, .int .i64 xa.2.2.2.1, .bool xa.2.2.2.2]] [([0, 1, 2, 3, 4, 5, 6, 7, 8, 9, 10, 11, 12, 13], 14)] [15, 16, 17, 18] [] mixO (by decide +kernel) ⟨0, rfl, trivial⟩ rfl rfl rfl ?_
                refine JM.cons ?_
                refine JQ.val (v := .slice adxb_0 xb.length cpxb_0) rfl rfl (V.mv rfl) ?_
                refine JQ.val rfl rfl (V.fad Try.underlying23 rfl nz3 rfl) ?_
                refine JQ.val (v := .int .i64 xa.2.2.1) rfl rfl (V.ld rfl (Ld.sc sc3 (Rd.cl 0 rfl rfl))) ?_
                obtain ⟨x531, hx532, h⟩ := ob h
                obtain ⟨p533, p534, p535⟩ := getI_some hx532
                obtain ⟨b536, o537, e538, a539⟩ := (fxb_0).at p534
                refine JQ.val rfl rfl (V.iad Try.underlying24 sz47 rfl e538 rfl p533 p535) ?_
                obtain ⟨ad540, cp541, c542, f543⟩ := ((a539).one).sl
                refine JQ.val (v := .agg #[.slice ad540 x531.length cp541]) rfl rfl (V.ld rfl (Ld.aggK (cs := [.slice ad540 x531.length cp541]) Try.underlying47 sz47 rfl ⟨c542, trivial⟩ (Hp.le_refl _))) ?_
                refine JQ.val (v := .slice adxb_0 xb.length cpxb_0) rfl rfl (V.mv rfl) ?_
                refine JQ.val rfl rfl (V.fad Try.underlying23 rfl nz3 rfl) ?_
                refine JQ.val (v := .int .i64 xa.2.1) rfl rfl (V.ld rfl (Ld.sc sc3 (Rd.cl 0 rfl rfl))) ?_
                obtain ⟨x544, hx545, h⟩ := ob h
                obtain ⟨p546, p547, p548⟩ := getI_some hx545
                obtain ⟨b549, o550, e551, a552⟩ := (fxb_0).at p547
                refine JQ.val rfl rfl (V.iad Try.underlying24 sz47 rfl e551 rfl p546 p548) ?_
                obtain ⟨ad553, cp554, c555, f556⟩ := ((a552).one).sl
                refine JQ.val (v := .agg #[.slice ad553 x544.length cp554]) rfl rfl (V.ld rfl (Ld.aggK (cs := [.slice ad553 x544.length cp554]) Try.underlying47 sz47 rfl ⟨c555, trivial⟩ (Hp.le_refl _))) ?_
                refine JQ.val rfl rfl (V.fad Try.underlying23 rfl nz3 rfl) ?_
                refine JQ.val (v := .int .i64 xa.2.2.2.1) rfl rfl (V.ld rfl (Ld.sc sc3 (Rd.cl 0 rfl rfl))) ?_
                refine JQ.val rfl rfl (V.fad Try.underlying23 rfl nz4 rfl) ?_
                refine JQ.val (v := .bool xa.2.2.2.2) rfl rfl (V.ld rfl (Ld.sc sc4 (Rd.cl 0 rfl rfl))) ?_
                refine JQ.nil ?_
                obtain ⟨r557, hr558, h⟩ := ob h
                refine JA.op rfl (A.call (L1 := []) Try.call28 rfl (ref16_Loan_ok f543 f556 hr558) rfl rfl) ?_
                rintro _ _ _ ⟨v564, _, rfl, ⟨⟨l559, i560, ad561, cp562, rfl, rfl, rfl⟩, rfl⟩, _, rfl⟩
                refine ⟨fun w hs => Hold.sub (Hp.le_refl _) ⟨1, rfl, trivial⟩ hs, ?_⟩
                refine JM.wit Row.hn (fun hn563 => ?_)
                refine JM.nil ?_
                refine JQ.val (v := .slice ad561 l559.length cp562) rfl rfl (V.ext rfl rfl) ?_
                refine JQ.val (v := .int .i64 i560) rfl rfl (V.ext rfl rfl) ?_
                refine JQ.val (v := .slice ad561 l559.length cp562) rfl rfl (V.as rfl) ?_
                refine JQ.val (v := .int .i64 i560) rfl rfl (V.as rfl) ?_
                refine JQ.nil ?_
                refine J.nil ?_
                refine CJ.ret ?_
                have e := Option.some.inj h
                subst e
                exact ⟨_, [Row Hp.nil 59 (.cons (.int .i64) (.cons (.int .i64) (.cons (.int .i64) (.cons (.int .i64) (.one .bool))))) (.slice ad561 l559.length cp562) l559], Res.two rfl rfl rfl, ⟨l559, i560, ad561, cp562, rfl, rfl, rfl⟩, (Hp.le_refl _), fun w hs => (Sep.dropAt 1 rfl hs)⟩
              · have h := cf hc493 h
                refine CJ.skip ?_
                refine CJ.seq ?_
                refine CJ.seq ?_
                refine CJ.region ?_
                refine J.val rfl rfl (V.fad Try.underlying23 rfl nz3 rfl) ?_
                refine J.val (v := .int .i64 xa.1) rfl rfl (V.ld rfl (Ld.sc sc3 (Rd.cl 0 rfl rfl))) ?_
                refine J.val (v := .bool (decide (xa.1 = 3))) rfl rfl (V.eql rfl rfl) ?_
                refine J.nil ?_
                refine CJ.cond rfl (fun hc568 => ?_) (fun hc568 => ?_)
                · have h := ct hc568 h
                  refine CJ.seq ?_
                  refine CJ.mix [Cl b324 23 [.int .i64 xa.1, .int .i64 xa.2.1, .int .i64 xa.2.2.1, .int .i64 xa.2.2.2.1, .bool xa.2.2.2.2]] [([0, 1, 2, 3, 4, 5, 6, 7, 8, 9, 10, 11, 12, 13], 14)] [15, 16, 17, 18] [] mixO (by decide +kernel) ⟨0, rfl, trivial⟩ rfl rfl rfl ?_
                  refine JM.cons ?_
                  refine JQ.val (v := .slice adxb_0 xb.length cpxb_0) rfl rfl (V.mv rfl) ?_
                  refine JQ.val rfl rfl (V.fad Try.underlying23 rfl nz3 rfl) ?_
                  refine JQ.val (v := .int .i64 xa.2.2.1) rfl rfl (V.ld rfl (Ld.sc sc3 (Rd.cl 0 rfl rfl))) ?_
                  obtain ⟨x606, hx607, h⟩ := ob h
                  obtain ⟨p608, p609, p610⟩ := getI_some hx607
                  obtain ⟨b611, o612, e613, a614⟩ := (fxb_0).at p609
                  refine JQ.val rfl rfl (V.iad Try.underlying24 sz47 rfl e613 rfl p608 p610) ?_
                  obtain ⟨ad615, cp616, c617, f618⟩ := ((a614).one).sl
                  refine JQ.val (v := .agg #[.slice ad615 x606.length cp616]) rfl rfl (V.ld rfl (Ld.aggK (cs := [.slice ad615 x606.length cp616]) Try.underlying47 sz47 rfl ⟨c617, trivial⟩ (Hp.le_refl _))) ?_
                  refine JQ.val (v := .slice adxb_0 xb.length cpxb_0) rfl rfl (V.mv rfl) ?_
                  refine JQ.val rfl rfl (V.fad Try.underlying23 rfl nz3 rfl) ?_
                  refine JQ.val (v := .int .i64 xa.2.1) rfl rfl (V.ld rfl (Ld.sc sc3 (Rd.cl 0 rfl rfl))) ?_
                  obtain ⟨x619, hx620, h⟩ := ob h
                  obtain ⟨p621, p622, p623⟩ := getI_some hx620
                  obtain ⟨b624, o625, e626, a627⟩ := (fxb_0).at p622
                  refine JQ.val rfl rfl (V.iad Try.underlying24 sz47 rfl e626 rfl p621 p623) ?_
                  obtain ⟨ad628, cp629, c630, f631⟩ := ((a627).one).sl
                  refine JQ.val (v := .agg #[.slice ad628 x619.length cp629]) rfl rfl (V.ld rfl (Ld.aggK (cs := [.slice ad628 x619.length cp629]) Try.underlying47 sz47 rfl ⟨c630, trivial⟩ (Hp.le_refl _))) ?_
                  refine JQ.val rfl rfl (V.fad Try.underlying23 rfl nz3 rfl) ?_
                  refine JQ.val (v := .int .i64 xa.2.2.2.1) rfl rfl (V.ld rfl (Ld.sc sc3 (Rd.cl 0 rfl rfl))) ?_
                  refine JQ.val rfl rfl (V.fad Try.underlying23 rfl nz4 rfl) ?_
                  refine JQ.val (v := .bool xa.2.2.2.2) rfl rfl (V.ld rfl (Ld.sc sc4 (Rd.cl 0 rfl rfl))) ?_
                  refine JQ.nil ?_
                  obtain ⟨r632, hr633, h⟩ := ob h
                  refine JA.op rfl (A.call (L1 := []) Try.call29 rfl (ref16_Again_ok f618 f631 hr633) rfl rfl) ?_
                  rintro _ _ _ ⟨v639, _, rfl, ⟨⟨l634, i635, ad636, cp637, rfl, rfl, rfl⟩, rfl⟩, _, rfl⟩
                  refine ⟨fun w hs => Hold.sub (Hp.le_refl _) ⟨1, rfl, trivial⟩ hs, ?_⟩
                  refine JM.wit Row.hn (fun hn638 => ?_)
                  refine JM.nil ?_
                  refine JQ.val (v := .slice ad636 l634.length cp637) rfl rfl (V.ext rfl rfl) ?_
                  refine JQ.val (v := .int .i64 i635) rfl rfl (V.ext rfl rfl) ?_
                  refine JQ.val (v := .slice ad636 l634.length cp637) rfl rfl (V.as rfl) ?_
                  refine JQ.val (v := .int .i64 i635) rfl rfl (V.as rfl) ?_
                  refine JQ.nil ?_
                  refine J.nil ?_
                  refine CJ.ret ?_
                  have e := Option.some.inj h
                  subst e
                  exact ⟨_, [Row Hp.nil 59 (.cons (.int .i64) (.cons (.int .i64) (.cons (.int .i64) (.cons (.int .i64) (.one .bool))))) (.slice ad636 l634.length cp637) l634], Res.two rfl rfl rfl, ⟨l634, i635, ad636, cp637, rfl, rfl, rfl⟩, (Hp.le_refl _), fun w hs => (Sep.dropAt 1 rfl hs)⟩
                · have h := cf hc568 h
                  refine CJ.skip ?_
                  refine CJ.seq ?_
                  refine CJ.region ?_
                  refine J.val (v := .slice none 0 0) rfl rfl (V.as rfl) ?_
                  refine J.val (v := .int .i64 0) rfl rfl (V.as rfl) ?_
                  refine J.nil ?_
                  refine CJ.by (fun w hs => Sep.rowNil (e := 59) (t := (.cons (.int .i64) (.cons (.int .i64) (.cons (.int .i64) (.cons (.int .i64) (.one .bool)))))) hs) ?_
                  refine CJ.ret ?_
                  have e := Option.some.inj h
                  subst e
                  exact ⟨_, [Row Hp.nil 59 (.cons (.int .i64) (.cons (.int .i64) (.cons (.int .i64) (.cons (.int .i64) (.one .bool))))) (.slice none ((([] : List (Int × Int × Int × Int × Bool))).length) 0) (([] : List (Int × Int × Int × Int × Bool)))], Res.two rfl rfl rfl, ⟨[], 0, none, 0, rfl, rfl, rfl⟩, (Hp.le_refl _), fun w hs => (Sep.dropAt 1 rfl hs)⟩
noncomputable def fn_law16_Doc_l1 (xa : (List (Int × Int × Int × Int × Bool))) : ((List (Int × Int × Int × Int × Bool)) × Int) → Option (((List (Int × Int × Int × Int × Bool)) × Int) ⊕ (List (Int × Int × Int × Int × Bool))) := fun ((l1130, i1135) : ((List (Int × Int × Int × Int × Bool)) × Int)) => cond (decide (i1135 < (((xa.length : Nat) : Int)))) ((getI xa i1135).bind fun x1298 => (getI xa i1135).bind fun x1307 => (getI xa i1135).bind fun x1316 => (getI xa i1135).bind fun x1325 => (getI xa i1135).bind fun x1334 => (app l1130 (([(x1298.1, x1307.2.1, x1316.2.2.1, x1325.2.2.2.1, x1334.2.2.2.2)] : List (Int × Int × Int × Int × Bool)))).bind fun z1346 => some (.inl ((z1346, IntKind.wrap .i64 (i1135 + 1))))) (some (.inr (l1130)))
noncomputable def fn_law16_Doc (xa : (List (Int × Int × Int × Int × Bool))) : Option ((List (Int × Int × Int × Int × Bool))) :=
  (loop (fn_law16_Doc_l1 xa) ((([] : List (Int × Int × Int × Int × Bool)), 0)) : Option ((List (Int × Int × Int × Int × Bool)))).bind fun l1014 => some (l1014)
set_option maxRecDepth 100000 in
set_option maxHeartbeats 4000000 in
theorem law16_Doc_ok {K : Hp} {xa : (List (Int × Int × Int × Int × Bool))} {adxa_0 : Option Addr} {cpxa_0 : Nat} (fxa_0 : Is K (.sl (.cons (.int .i64) (.cons (.int .i64) (.cons (.int .i64) (.cons (.int .i64) (.one .bool)))))) [.slice adxa_0 xa.length cpxa_0] xa) {r : (List (Int × Int × Int × Int × Bool))} (h : fn_law16_Doc xa = some r) :
    Tr Try.prog 11 #[.slice adxa_0 xa.length cpxa_0] K [] (fun v K' L' => (∃ (l675 : (List (Int × Int × Int × Int × Bool))) (ad676 : Option Addr) (cp677 : Nat), l675 = r ∧ .slice ad676 l675.length cp677 = v ∧ L' = [Row Hp.nil 59 (.cons (.int .i64) (.cons (.int .i64) (.cons (.int .i64) (.cons (.int .i64) (.one .bool))))) (.slice ad676 l675.length cp677) l675]) ∧ K = K') := by
  refine Tr.k ?_
  refine Tr.of Try.func11 rfl Try.ntmps11 rfl (fun E F => ?_)
  unfold fn_law16_Doc at h
  refine CJ.seq ?_
  refine CJ.region ?_
  refine J.val (v := .slice none 0 0) rfl rfl (V.as rfl) ?_
  refine J.nil ?_
  refine CJ.seq ?_
  refine CJ.region ?_
  refine J.op rfl (A.lit (K0 := Hp.nil) (ty := (.cons (.int .i64) (.cons (.int .i64) (.cons (.int .i64) (.cons (.int .i64) (.one .bool)))))) (xs := ([] : List (Int × Int × Int × Int × Bool))) Try.underlying31 inf59 rfl (by decide) rfl rfl rfl rfl rfl (by decide)) ?_
  rintro _ _ _ ⟨b680, rfl, rfl, rfl⟩
  have hn681 : ([] : List (Int × Int × Int × Int × Bool)) ≠ [] → ∃ g, (some ⟨b680, 0, none⟩ : Option Addr) = some ⟨g, 0, none⟩ := fun _ => ⟨b680, rfl⟩
  refine J.val (v := .slice (some ⟨b680, 0, none⟩) ((([] : List (Int × Int × Int × Int × Bool))).length) 0) rfl rfl (V.as rfl) ?_
  refine J.nil ?_
  refine CJ.seq ?_
  refine CJ.seq ?_
  refine CJ.region ?_
  refine J.val (v := .int .i64 0) rfl rfl (V.as rfl) ?_
  refine J.nil ?_
  obtain ⟨o1019, ho1020, h⟩ := ob h
  refine CJ.meetN (fun ρ K' L' => ∃ (l1014 : (List (Int × Int × Int × Int × Bool))) (ad1015 : Option Addr) (cp1016 : Nat), l1014 = o1019 ∧ Fits [(3, .slice ad1015 l1014.length cp1016)] ρ ∧ K = K' ∧ L' = Row Hp.nil 59 (.cons (.int .i64) (.cons (.int .i64) (.cons (.int .i64) (.cons (.int .i64) (.one .bool))))) (.slice ad1015 l1014.length cp1016) l1014 :: F) ?_ ?_
  · skip
    refine CJ.block ?_
    refine CJ.loop (fun s ρ K' L' => ∃ (l1130 : (List (Int × Int × Int × Int × Bool))) (i1135 : Int) (ad1131 : Option Addr) (cp1132 : Nat), (l1130, i1135) = s ∧ Fits [(0, .slice adxa_0 xa.length cpxa_0), (3, .slice ad1131 l1130.length cp1132), (4, .int .i64 i1135)] ρ ∧ K = K' ∧ L' = Row Hp.nil 59 (.cons (.int .i64) (.cons (.int .i64) (.cons (.int .i64) (.cons (.int .i64) (.one .bool))))) (.slice ad1131 l1130.length cp1132) l1130 :: F) ho1020 ⟨([] : List (Int × Int × Int × Int × Bool)), 0, (some ⟨b680, 0, none⟩), 0, rfl, ⟨rfl, rfl, rfl, trivial⟩, rfl, rfl⟩ ?_
    rintro s ρ _ _ r1248 ⟨l1130, i1135, ad1131, cp1132, rfl, hf1246, rfl, rfl⟩ h1245
    obtain ⟨ρ, rfl⟩ := hf1246.ex
    refine CJ.wit Row.hn (fun hn1134 => ?_)
    refine CJ.seq ?_
    refine CJ.seq ?_
    refine CJ.region ?_
    refine J.val (v := .int .i64 i1135) rfl rfl (V.mv rfl) ?_
    refine J.val (v := .slice adxa_0 xa.length cpxa_0) rfl rfl (V.mv rfl) ?_
    refine J.val (v := .int .i64 (((xa.length : Nat) : Int))) rfl rfl (V.len Try.underlying27 rfl) ?_
    refine J.val (v := .bool (decide (i1135 < (((xa.length : Nat) : Int))))) rfl rfl (V.lss rfl rfl) ?_
    refine J.nil ?_
    refine CJ.cond rfl (fun hc1249 => ?_) (fun hc1249 => ?_)
    · have h1245 := ct hc1249 h1245
      refine CJ.skip ?_
      refine CJ.seq ?_
      refine CJ.block ?_
      refine CJ.mix [Row Hp.nil 59 (.cons (.int .i64) (.cons (.int .i64) (.cons (.int .i64) (.cons (.int .i64) (.one .bool))))) (.slice ad1131 l1130.length cp1132) l1130] [([0, 1, 2, 3, 4, 5, 6, 7, 8, 9, 10, 11, 12, 13, 14, 15, 16, 17, 18, 19, 20, 21, 22, 23, 24, 25, 26], 27)] [] [28, 29] mixO (by decide +kernel) ⟨0, rfl, trivial⟩ rfl rfl rfl ?_
      refine JM.cons ?_
      refine JQ.val (v := .slice ad1131 l1130.length cp1132) rfl rfl (V.mv rfl) ?_
      refine JQ.val (v := .slice adxa_0 xa.length cpxa_0) rfl rfl (V.mv rfl) ?_
      refine JQ.val (v := .int .i64 i1135) rfl rfl (V.mv rfl) ?_
      obtain ⟨x1298, hx1299, h1245⟩ := ob h1245
      obtain ⟨p1300, p1301, p1302⟩ := getI_some hx1299
      obtain ⟨b1303, o1304, e1305, a1306⟩ := (fxa_0).at p1301
      refine JQ.val rfl rfl (V.iad Try.underlying27 sz60 rfl e1305 rfl p1300 p1302) ?_
      refine JQ.val rfl rfl (V.fad Try.underlying60 rfl nz3 rfl) ?_
      refine JQ.val (v := .int .i64 x1298.1) rfl rfl (V.ld rfl (Ld.sc sc3 (Rd.k ((a1306).fst).int (Hp.le_refl _)))) ?_
      refine JQ.val (v := .slice adxa_0 xa.length cpxa_0) rfl rfl (V.mv rfl) ?_
      refine JQ.val (v := .int .i64 i1135) rfl rfl (V.mv rfl) ?_
      obtain ⟨x1307, hx1308, h1245⟩ := ob h1245
      obtain ⟨p1309, p1310, p1311⟩ := getI_some hx1308
      obtain ⟨b1312, o1313, e1314, a1315⟩ := (fxa_0).at p1310
      refine JQ.val rfl rfl (V.iad Try.underlying27 sz60 rfl e1314 rfl p1309 p1311) ?_
      refine JQ.val rfl rfl (V.fad Try.underlying60 rfl nz3 rfl) ?_
      refine JQ.val (v := .int .i64 x1307.2.1) rfl rfl (V.ld rfl (Ld.sc sc3 (Rd.k (((a1315).snd).fst).int (Hp.le_refl _)))) ?_
      refine JQ.val (v := .slice adxa_0 xa.length cpxa_0) rfl rfl (V.mv rfl) ?_
      refine JQ.val (v := .int .i64 i1135) rfl rfl (V.mv rfl) ?_
      obtain ⟨x1316, hx1317, h1245⟩ := ob h1245
      obtain ⟨p1318, p1319, p1320⟩ := getI_some hx1317
      obtain ⟨b1321, o1322, e1323, a1324⟩ := (fxa_0).at p1319
      refine JQ.val rfl rfl (V.iad Try.underlying27 sz60 rfl e1323 rfl p1318 p1320) ?_
      refine JQ.val rfl rfl (V.fad Try.underlying60 rfl nz3 rfl) ?_
      refine JQ.val (v := .int .i64 x1316.2.2.1) rfl rfl (V.ld rfl (Ld.sc sc3 (Rd.k ((((a1324).snd).snd).fst).int (Hp.le_refl _)))) ?_
      refine JQ.val (v := .slice adxa_0 xa.length cpxa_0) rfl rfl (V.mv rfl) ?_
      refine JQ.val (v := .int .i64 i1135) rfl rfl (V.mv rfl) ?_
      obtain ⟨x1325, hx1326, h1245⟩ := ob h1245
      obtain ⟨p1327, p1328, p1329⟩ := getI_some hx1326
      obtain ⟨b1330, o1331, e1332, a1333⟩ := (fxa_0).at p1328
      refine JQ.val rfl rfl (V.iad Try.underlying27 sz60 rfl e1332 rfl p1327 p1329) ?_
      refine JQ.val rfl rfl (V.fad Try.underlying60 rfl nz3 rfl) ?_
      refine JQ.val (v := .int .i64 x1325.2.2.2.1) rfl rfl (V.ld rfl (Ld.sc sc3 (Rd.k (((((a1333).snd).snd).snd).fst).int (Hp.le_refl _)))) ?_
      refine JQ.val (v := .slice adxa_0 xa.length cpxa_0) rfl rfl (V.mv rfl) ?_
      refine JQ.val (v := .int .i64 i1135) rfl rfl (V.mv rfl) ?_
      obtain ⟨x1334, hx1335, h1245⟩ := ob h1245
      obtain ⟨p1336, p1337, p1338⟩ := getI_some hx1335
      obtain ⟨b1339, o1340, e1341, a1342⟩ := (fxa_0).at p1337
      refine JQ.val rfl rfl (V.iad Try.underlying27 sz60 rfl e1341 rfl p1336 p1338) ?_
      refine JQ.val rfl rfl (V.fad Try.underlying60 rfl nz4 rfl) ?_
      refine JQ.val (v := .bool x1334.2.2.2.2) rfl rfl (V.ld rfl (Ld.sc sc4 (Rd.k ((((((a1342).snd).snd).snd).snd).one).bool (Hp.le_refl _)))) ?_
      refine JQ.val (v := .agg #[.int .i64 x1298.1, .int .i64 x1307.2.1, .int .i64 x1316.2.2.1, .int .i64 x1325.2.2.2.1, .bool x1334.2.2.2.2]) rfl rfl (V.build inf59 places59 rfl rfl) ?_
      refine JQ.nil ?_
      refine JA.op rfl (A.lit (K0 := Hp.nil) (ty := (.cons (.int .i64) (.cons (.int .i64) (.cons (.int .i64) (.cons (.int .i64) (.one .bool)))))) (xs := ([(x1298.1, x1307.2.1, x1316.2.2.1, x1325.2.2.2.1, x1334.2.2.2.2)] : List (Int × Int × Int × Int × Bool))) Try.underlying31 inf59 rfl (by decide) rfl rfl rfl ⟨_, _, rfl, ⟨_, _, rfl, rfl, rfl, ⟨_, _, rfl, rfl, rfl, ⟨_, _, rfl, rfl, rfl, ⟨_, _, rfl, rfl, rfl, rfl⟩⟩⟩⟩, rfl⟩ rfl (by decide)) ?_
      rintro _ _ _ ⟨b1343, rfl, rfl, rfl⟩
      have hn1344 : ([(x1298.1, x1307.2.1, x1316.2.2.1, x1325.2.2.2.1, x1334.2.2.2.2)] : List (Int × Int × Int × Int × Bool)) ≠ [] → ∃ g, (some ⟨b1343, 0, none⟩ : Option Addr) = some ⟨g, 0, none⟩ := fun _ => ⟨b1343, rfl⟩
      refine ⟨fun w hs => Hold.sub (Hp.le_refl _) ⟨1, rfl, trivial⟩ hs, ?_⟩
      refine JM.nil ?_
      refine JQ.nil ?_
      obtain ⟨z1346, hz1347, h1245⟩ := ob h1245
      refine J.front 1 rfl ?_
      refine J.op rfl (A.appR (Kr := Hp.nil) Try.underlying31 inf59 rfl rfl (by decide) (by decide) rfl rfl (Els.flat rfl) (Els.flat rfl) hz1347) ?_
      rintro _ _ _ ⟨v1348, rfl, rfl, rfl⟩
      refine J.wit Row.form ?_
      rintro ⟨ad1349, cp1350, rfl, _, _, hn1351⟩
      refine J.val (v := .slice ad1349 z1346.length cp1350) rfl rfl (V.as rfl) ?_
      refine J.nil ?_
      refine CJ.region ?_
      refine J.val (v := .int .i64 i1135) rfl rfl (V.mv rfl) ?_
      refine J.val (v := .int .i64 (IntKind.wrap .i64 (i1135 + 1))) rfl rfl (V.add rfl rfl) ?_
      refine J.val (v := .int .i64 (IntKind.wrap .i64 (i1135 + 1))) rfl rfl (V.as rfl) ?_
      refine J.nil ?_
      have e := Option.some.inj h1245
      subst e
      exact ⟨rfl, ⟨z1346, IntKind.wrap .i64 (i1135 + 1), ad1349, cp1350, rfl, ⟨rfl, rfl, rfl, trivial⟩, rfl, rfl⟩⟩
    · have h1245 := cf hc1249 h1245
      refine CJ.exit ?_
      have e := Option.some.inj h1245
      subst e
      refine ⟨nofun, fun e => ?_⟩
      subst e
      exact ⟨rfl, ⟨l1130, ad1131, cp1132, rfl, ⟨rfl, trivial⟩, rfl, rfl⟩⟩
  · rintro ρ _ _ ⟨l1014, ad1015, cp1016, rfl, hf1352, rfl, rfl⟩
    obtain ⟨ρ, rfl⟩ := hf1352.ex
    refine PJ.wit Row.hn (fun hn1018 => ?_)
    refine PJ.done ?_
    refine CJ.seq ?_
    refine CJ.region ?_
    refine J.val (v := .slice ad1015 l1014.length cp1016) rfl rfl (V.mv rfl) ?_
    refine J.val (v := .slice ad1015 l1014.length cp1016) rfl rfl (V.as rfl) ?_
    refine J.nil ?_
    refine CJ.ret ?_
    have e := Option.some.inj h
    subst e
    exact ⟨_, [Row Hp.nil 59 (.cons (.int .i64) (.cons (.int .i64) (.cons (.int .i64) (.cons (.int .i64) (.one .bool))))) (.slice ad1015 l1014.length cp1016) l1014], Res.one rfl rfl, ⟨l1014, ad1015, cp1016, rfl, rfl, rfl⟩, (Hp.le_refl _), fun w hs => hs⟩
noncomputable def fn_ref16_Same_l1 (xa : (List (Int × Int × Int × Int × Bool))) (xb : (List (Int × Int × Int × Int × Bool))) : Int → Option (Int ⊕ (Unit ⊕ Bool)) := fun (i413 : Int) => cond (decide (i413 < (((xa.length : Nat) : Int)))) ((getI xa i413).bind fun x476 => (getI xb i413).bind fun x485 => cond (!((decide (x476.1 = x485.1)) && ((decide (x476.2.1 = x485.2.1)) && ((decide (x476.2.2.1 = x485.2.2.1)) && ((decide (x476.2.2.2.1 = x485.2.2.2.1)) && (x476.2.2.2.2 == x485.2.2.2.2)))))) (some (.inr ((.inr (false))))) (some (.inl (IntKind.wrap .i64 (i413 + 1))))) (some (.inr ((.inl ()))))
noncomputable def fn_ref16_Same (xa : (List (Int × Int × Int × Int × Bool))) (xb : (List (Int × Int × Int × Int × Bool))) : Option Bool :=
  cond (!decide ((((xa.length : Nat) : Int)) = (((xb.length : Nat) : Int)))) (some (false)) ((loop (fn_ref16_Same_l1 xa xb) 0 : Option (Unit ⊕ Bool)).bind fun o => match o with | .inr r => some r | .inl () => some (true))
set_option maxRecDepth 100000 in
set_option maxHeartbeats 4000000 in
theorem ref16_Same_ok {K : Hp} {xa : (List (Int × Int × Int × Int × Bool))} {xb : (List (Int × Int × Int × Int × Bool))} {adxa_0 : Option Addr} {cpxa_0 : Nat} {adxb_0 : Option Addr} {cpxb_0 : Nat} (fxa_0 : Is K (.sl (.cons (.int .i64) (.cons (.int .i64) (.cons (.int .i64) (.cons (.int .i64) (.one .bool)))))) [.slice adxa_0 xa.length cpxa_0] xa) (fxb_0 : Is K (.sl (.cons (.int .i64) (.cons (.int .i64) (.cons (.int .i64) (.cons (.int .i64) (.one .bool)))))) [.slice adxb_0 xb.length cpxb_0] xb) {r : Bool} (h : fn_ref16_Same xa xb = some r) :
    Tr Try.prog 10 #[.slice adxa_0 xa.length cpxa_0, .slice adxb_0 xb.length cpxb_0] K [] (fun v K' L' => (∃ (t249 : Bool), t249 = r ∧ .bool t249 = v ∧ L' = []) ∧ K = K') := by
  refine Tr.k ?_
  refine Tr.of Try.func10 rfl Try.ntmps10 rfl (fun E F => ?_)
  unfold fn_ref16_Same at h
  refine CJ.seq ?_
  refine CJ.region ?_
  refine J.val (v := .bool false) rfl rfl (V.as rfl) ?_
  refine J.nil ?_
  refine CJ.seq ?_
  refine CJ.seq ?_
  refine CJ.region ?_
  refine J.val (v := .slice adxa_0 xa.length cpxa_0) rfl rfl (V.mv rfl) ?_
  refine J.val (v := .int .i64 (((xa.length : Nat) : Int))) rfl rfl (V.len Try.underlying31 rfl) ?_
  refine J.val (v := .slice adxb_0 xb.length cpxb_0) rfl rfl (V.mv rfl) ?_
  refine J.val (v := .int .i64 (((xb.length : Nat) : Int))) rfl rfl (V.len Try.underlying31 rfl) ?_
  refine J.val (v := .bool (!decide ((((xa.length : Nat) : Int)) = (((xb.length : Nat) : Int))))) rfl rfl (V.neq rfl rfl) ?_
  refine J.nil ?_
  refine CJ.cond rfl (fun hc250 => ?_) (fun hc250 => ?_)
  · have h := ct hc250 h
    refine CJ.seq ?_
    refine CJ.region ?_
    refine J.val (v := .bool false) rfl rfl (V.as rfl) ?_
    refine J.nil ?_
    refine CJ.ret ?_
    have e := Option.some.inj h
    subst e
    exact ⟨_, [], Res.one rfl rfl, ⟨false, rfl, rfl, rfl⟩, (Hp.le_refl _), fun w hs => hs⟩
  · have h := cf hc250 h
    refine CJ.skip ?_
    refine CJ.seq ?_
    refine CJ.seq ?_
    refine CJ.region ?_
    refine J.val (v := .int .i64 0) rfl rfl (V.as rfl) ?_
    refine J.nil ?_
    obtain ⟨o372, ho373, h⟩ := ob h
    refine CJ.joinN (o := o372) (fun s ρ K' L' => () = s ∧ Fits [] ρ ∧ K = K' ∧ F = L') ?_ ?_
    · skip
      refine CJ.block ?_
      refine CJ.loop (fun s ρ K' L' => ∃ (i413 : Int), i413 = s ∧ Fits [(0, .slice adxa_0 xa.length cpxa_0), (1, .slice adxb_0 xb.length cpxb_0), (5, .int .i64 i413)] ρ ∧ K = K' ∧ F = L') ho373 ⟨0, rfl, ⟨rfl, rfl, rfl, trivial⟩, rfl, rfl⟩ ?_
      rintro s ρ _ _ r456 ⟨i413, rfl, hf454, rfl, rfl⟩ h453
      obtain ⟨ρ, rfl⟩ := hf454.ex
      refine CJ.seq ?_
      refine CJ.seq ?_
      refine CJ.region ?_
      refine J.val (v := .int .i64 i413) rfl rfl (V.mv rfl) ?_
      refine J.val (v := .slice adxa_0 xa.length cpxa_0) rfl rfl (V.mv rfl) ?_
      refine J.val (v := .int .i64 (((xa.length : Nat) : Int))) rfl rfl (V.len Try.underlying31 rfl) ?_
      refine J.val (v := .bool (decide (i413 < (((xa.length : Nat) : Int))))) rfl rfl (V.lss rfl rfl) ?_
      refine J.nil ?_
      refine CJ.cond rfl (fun hc457 => ?_) (fun hc457 => ?_)
      · have h453 := ct hc457 h453
        refine CJ.skip ?_
        refine CJ.seq ?_
        refine CJ.block ?_
        refine CJ.seq ?_
        refine CJ.mix [] [] [0, 1, 2, 3, 4, 5, 6, 7, 8] [] mixO (by decide +kernel) trivial rfl rfl rfl ?_
        refine JM.nil ?_
        refine JQ.val (v := .slice adxa_0 xa.length cpxa_0) rfl rfl (V.mv rfl) ?_
        refine JQ.val (v := .int .i64 i413) rfl rfl (V.mv rfl) ?_
        obtain ⟨x476, hx477, h453⟩ := ob h453
        obtain ⟨p478, p479, p480⟩ := getI_some hx477
        obtain ⟨b481, o482, e483, a484⟩ := (fxa_0).at p479
        refine JQ.val rfl rfl (V.iad Try.underlying31 sz59 rfl e483 rfl p478 p480) ?_
        refine JQ.val (v := .agg #[.int .i64 x476.1, .int .i64 x476.2.1, .int .i64 x476.2.2.1, .int .i64 x476.2.2.2.1, .bool x476.2.2.2.2]) rfl rfl (V.ld rfl (Ld.aggK (cs := [.int .i64 x476.1, .int .i64 x476.2.1, .int .i64 x476.2.2.1, .int .i64 x476.2.2.2.1, .bool x476.2.2.2.2]) Try.underlying59 sz59 rfl ⟨((a484).fst).int, (((a484).snd).fst).int, ((((a484).snd).snd).fst).int, (((((a484).snd).snd).snd).fst).int, ((((((a484).snd).snd).snd).snd).one).bool, trivial⟩ (Hp.le_refl _))) ?_
        refine JQ.val (v := .slice adxb_0 xb.length cpxb_0) rfl rfl (V.mv rfl) ?_
        refine JQ.val (v := .int .i64 i413) rfl rfl (V.mv rfl) ?_
        obtain ⟨x485, hx486, h453⟩ := ob h453
        obtain ⟨p487, p488, p489⟩ := getI_some hx486
        obtain ⟨b490, o491, e492, a493⟩ := (fxb_0).at p488
        refine JQ.val rfl rfl (V.iad Try.underlying31 sz59 rfl e492 rfl p487 p489) ?_
        refine JQ.val (v := .agg #[.int .i64 x485.1, .int .i64 x485.2.1, .int .i64 x485.2.2.1, .int .i64 x485.2.2.2.1, .bool x485.2.2.2.2]) rfl rfl (V.ld rfl (Ld.aggK (cs := [.int .i64 x485.1, .int .i64 x485.2.1, .int .i64 x485.2.2.1, .int .i64 x485.2.2.2.1, .bool x485.2.2.2.2]) Try.underlying59 sz59 rfl ⟨((a493).fst).int, (((a493).snd).fst).int, ((((a493).snd).snd).fst).int, (((((a493).snd).snd).snd).fst).int, ((((((a493).snd).snd).snd).snd).one).bool, trivial⟩ (Hp.le_refl _))) ?_
        refine JQ.val (v := .bool (!((decide (x476.1 = x485.1)) && ((decide (x476.2.1 = x485.2.1)) && ((decide (x476.2.2.1 = x485.2.2.1)) && ((decide (x476.2.2.2.1 = x485.2.2.2.1)) && (x476.2.2.2.2 == x485.2.2.2.2))))))) rfl rfl (V.nest eqg59 (EqIn.st (d := 9999) rfl Try.underlying59 sih59 (EqFs.cons (by decide) (Ld0.sc sc3 rfl) (Ld0.sc sc3 rfl) (EqIn.int (d := 9998) rfl Try.underlying3) (EqFs.cons (by decide) (Ld0.sc sc3 rfl) (Ld0.sc sc3 rfl) (EqIn.int (d := 9998) rfl Try.underlying3) (EqFs.cons (by decide) (Ld0.sc sc3 rfl) (Ld0.sc sc3 rfl) (EqIn.int (d := 9998) rfl Try.underlying3) (EqFs.cons (by decide) (Ld0.sc sc3 rfl) (Ld0.sc sc3 rfl) (EqIn.int (d := 9998) rfl Try.underlying3) (EqFs.last (by decide) (Ld0.sc sc4 rfl) (Ld0.sc sc4 rfl) (EqIn.bool (d := 9998) rfl Try.underlying4))))))) rfl rfl) ?_
        refine JQ.nil ?_
        refine J.nil ?_
        refine CJ.cond rfl (fun hc494 => ?_) (fun hc494 => ?_)
        · have h453 := ct hc494 h453
          refine CJ.seq ?_
          refine CJ.region ?_
          refine J.val (v := .bool false) rfl rfl (V.as rfl) ?_
          refine J.nil ?_
          refine CJ.ret ?_
          have e := Option.some.inj h453
          subst e
          refine ⟨nofun, fun e => ?_⟩
          subst e
          refine .inr ⟨nofun, ?_⟩
          have e := Option.some.inj h
          subst e
          exact ⟨_, [], Res.one rfl rfl, ⟨false, rfl, rfl, rfl⟩, (Hp.le_refl _), fun w hs => hs⟩
        · have h453 := cf hc494 h453
          refine CJ.skip ?_
          refine CJ.region ?_
          refine J.val (v := .int .i64 i413) rfl rfl (V.mv rfl) ?_
          refine J.val (v := .int .i64 (IntKind.wrap .i64 (i413 + 1))) rfl rfl (V.add rfl rfl) ?_
          refine J.val (v := .int .i64 (IntKind.wrap .i64 (i413 + 1))) rfl rfl (V.as rfl) ?_
          refine J.nil ?_
          have e := Option.some.inj h453
          subst e
          exact ⟨rfl, ⟨IntKind.wrap .i64 (i413 + 1), rfl, ⟨rfl, rfl, rfl, trivial⟩, rfl, rfl⟩⟩
      · have h453 := cf hc457 h453
        refine CJ.exit ?_
        have e := Option.some.inj h453
        subst e
        refine ⟨nofun, fun e => ?_⟩
        subst e
        exact .inl ⟨rfl, _, rfl, ⟨rfl, trivial, rfl, rfl⟩⟩
    · rintro s ρ _ _ ho495 ⟨rfl, hf496, rfl, rfl⟩
      subst ho495
      obtain ⟨ρ, rfl⟩ := hf496.ex
      refine PJ.done ?_
      refine CJ.seq ?_
      refine CJ.region ?_
      refine J.val (v := .bool true) rfl rfl (V.as rfl) ?_
      refine J.nil ?_
      refine CJ.ret ?_
      have e := Option.some.inj h
      subst e
      exact ⟨_, [], Res.one rfl rfl, ⟨true, rfl, rfl, rfl⟩, (Hp.le_refl _), fun w hs => hs⟩

noncomputable def fn_stmt_Check (xa : (Int × Int × Int × Int × Bool)) (xb : (List (List (Int × Bool)))) (xc : Int) : Option Int :=
  (fn_stmt_Needs (xa.1, xa.2.1, xa.2.2.1, xa.2.2.2.1, xa.2.2.2.2) xb xc).bind fun (l17, i18) => some (i18)
set_option maxRecDepth 100000 in
set_option maxHeartbeats 4000000 in
theorem stmt_Check_ok {K : Hp} {xa : (Int × Int × Int × Int × Bool)} {xb : (List (List (Int × Bool)))} {xc : Int} {adxb_0 : Option Addr} {cpxb_0 : Nat} (fxb_0 : Is K (.sl (.one (.sl (.cons (.int .i64) (.one .bool))))) [.slice adxb_0 xb.length cpxb_0] xb) {r : Int} (h : fn_stmt_Check xa xb xc = some r) :
    Tr Try.prog 12 #[.agg #[.int .i64 xa.1, .int .i64 xa.2.1, .int .i64 xa.2.2.1, .int .i64 xa.2.2.2.1, .bool xa.2.2.2.2], .slice adxb_0 xb.length cpxb_0, .int .i64 xc] K [] (fun v K' L' => (∃ (i13 : Int), i13 = r ∧ .int .i64 i13 = v ∧ L' = []) ∧ K = K') := by
  refine Tr.k ?_
  refine Tr.of Try.func12 rfl Try.ntmps12 rfl (fun E F => ?_)
  unfold fn_stmt_Check at h
  refine CJ.seq ?_
  refine CJ.region ?_
  refine J.op rfl (A.box (v := .agg #[.int .i64 xa.1, .int .i64 xa.2.1, .int .i64 xa.2.2.1, .int .i64 xa.2.2.2.1, .bool xa.2.2.2.2]) (cs := [.int .i64 xa.1, .int .i64 xa.2.1, .int .i64 xa.2.2.1, .int .i64 xa.2.2.2.1, .bool xa.2.2.2.2]) rfl rfl) ?_
  rintro _ _ _ ⟨b14, rfl, rfl, rfl⟩
  refine J.val (v := .int .i64 0) rfl rfl (V.as rfl) ?_
  refine J.nil ?_
  refine CJ.seq ?_
  refine CJ.region ?_
  refine J.val (v := .agg #[.int .i64 xa.1, .int .i64 xa.2.1, .int .i64 xa.2.2.1, .int .i64 xa.2.2.2.1, .bool xa.2.2.2.2]) rfl rfl (V.ld rfl (Ld.agg (cs := [.int .i64 xa.1, .int .i64 xa.2.1, .int .i64 xa.2.2.1, .int .i64 xa.2.2.2.1, .bool xa.2.2.2.2]) Try.underlying23 sz23 rfl (Rd.cls 0 0 rfl rfl))) ?_
  refine J.val (v := .slice adxb_0 xb.length cpxb_0) rfl rfl (V.mv rfl) ?_
  refine J.val (v := .int .i64 xc) rfl rfl (V.mv rfl) ?_
  obtain ⟨r15, hr16, h⟩ := ob h
  refine J.op rfl (A.call (L1 := []) Try.call8 rfl (stmt_Needs_ok fxb_0 hr16) rfl rfl) ?_
  rintro _ _ _ ⟨v22, _, rfl, ⟨⟨l17, i18, ad19, cp20, rfl, rfl, rfl⟩, rfl⟩, _, rfl⟩
  refine J.wit Row.hn (fun hn21 => ?_)
  refine J.val (v := .tuple #[.slice ad19 l17.length cp20, .int .i64 i18]) rfl rfl (V.mv rfl) ?_
  refine J.val (v := .slice ad19 l17.length cp20) rfl rfl (V.ext rfl rfl) ?_
  refine J.val (v := .int .i64 i18) rfl rfl (V.ext rfl rfl) ?_
  refine J.val (v := .slice ad19 l17.length cp20) rfl rfl (V.as rfl) ?_
  refine J.val (v := .int .i64 i18) rfl rfl (V.as rfl) ?_
  refine J.nil ?_
  refine CJ.seq ?_
  refine CJ.region ?_
  refine J.val (v := .int .i64 i18) rfl rfl (V.mv rfl) ?_
  refine J.val (v := .int .i64 i18) rfl rfl (V.as rfl) ?_
  refine J.nil ?_
  refine CJ.ret ?_
  have e := Option.some.inj h
  subst e
  exact ⟨_, [], Res.one rfl rfl, ⟨i18, rfl, rfl, rfl⟩, (Hp.le_refl _), fun w hs => (Sep.dropAt 0 rfl (Sep.dropAt 0 rfl hs))⟩

noncomputable def fn_law18_StmtNeeds (xa : (Int × Int × Int × Int × Bool)) (xb : (List (List (Int × Bool)))) (xc : Int) : Option Bool :=
  (fn_law18_few xb).bind fun t101 => cond (!t101) ((fn_law18_awake).bind fun t108 => some (t108)) ((fn_stmt_Needs (xa.1, xa.2.1, xa.2.2.1, xa.2.2.2.1, xa.2.2.2.2) xb xc).bind fun (l114, i115) => (fn_ref18_Needs (xa.1, xa.2.1, xa.2.2.1, xa.2.2.2.1, xa.2.2.2.2) xb xc).bind fun (l125, i126) => (fn_law16_Doc l114).bind fun l139 => (fn_ref16_Same l139 l125).bind fun t155 => (cond (t155 && (decide (i115 = i126))) ((fn_stmt_Check (xa.1, xa.2.1, xa.2.2.1, xa.2.2.2.1, xa.2.2.2.2) xb xc).bind fun i174 => some (decide (i174 = i126))) (some (false))).bind fun t169 => (cond (t169) ((fn_law18_awake).bind fun t190 => some (t190)) (some (false))).bind fun t185 => some (t185))
set_option maxRecDepth 100000 in
set_option maxHeartbeats 4000000 in
theorem law18_StmtNeeds_ok {K : Hp} {xa : (Int × Int × Int × Int × Bool)} {xb : (List (List (Int × Bool)))} {xc : Int} {adxb_0 : Option Addr} {cpxb_0 : Nat} (fxb_0 : Is K (.sl (.one (.sl (.cons (.int .i64) (.one .bool))))) [.slice adxb_0 xb.length cpxb_0] xb) {r : Bool} (h : fn_law18_StmtNeeds xa xb xc = some r) :
    Tr Try.prog 3 #[.agg #[.int .i64 xa.1, .int .i64 xa.2.1, .int .i64 xa.2.2.1, .int .i64 xa.2.2.2.1, .bool xa.2.2.2.2], .slice adxb_0 xb.length cpxb_0, .int .i64 xc] K [] (fun v K' L' => (∃ (t97 : Bool), t97 = r ∧ .bool t97 = v ∧ L' = []) ∧ K = K') := by
  refine Tr.k ?_
  refine Tr.of Try.func3 rfl Try.ntmps3 rfl (fun E F => ?_)
  unfold fn_law18_StmtNeeds at h
  refine CJ.seq ?_
  refine CJ.region ?_
  refine J.op rfl (A.box (v := .agg #[.int .i64 xa.1, .int .i64 xa.2.1, .int .i64 xa.2.2.1, .int .i64 xa.2.2.2.1, .bool xa.2.2.2.2]) (cs := [.int .i64 xa.1, .int .i64 xa.2.1, .int .i64 xa.2.2.1, .int .i64 xa.2.2.2.1, .bool xa.2.2.2.2]) rfl rfl) ?_
  rintro _ _ _ ⟨b98, rfl, rfl, rfl⟩
  refine J.val (v := .bool false) rfl rfl (V.as rfl) ?_
  refine J.nil ?_
  refine CJ.seq ?_
  refine CJ.seq ?_
  refine CJ.region ?_
  refine J.val (v := .slice adxb_0 xb.length cpxb_0) rfl rfl (V.mv rfl) ?_
  obtain ⟨r99, hr100, h⟩ := ob h
  refine J.op rfl (A.call (L1 := []) Try.call6 rfl (law18_few_ok fxb_0 hr100) rfl rfl) ?_
  rintro _ _ _ ⟨v102, _, rfl, ⟨⟨t101, rfl, rfl, rfl⟩, rfl⟩, _, rfl⟩
  refine J.val (v := .bool (!t101)) rfl rfl (V.not rfl) ?_
  refine J.nil ?_
  refine CJ.cond rfl (fun hc105 => ?_) (fun hc105 => ?_)
  · have h := ct hc105 h
    refine CJ.seq ?_
    refine CJ.region ?_
    obtain ⟨r106, hr107, h⟩ := ob h
    refine J.op rfl (A.call (L1 := []) Try.call7 rfl (law18_awake_ok hr107) rfl rfl) ?_
    rintro _ _ _ ⟨v109, _, rfl, ⟨⟨t108, rfl, rfl, rfl⟩, rfl⟩, _, rfl⟩
    refine J.val (v := .bool t108) rfl rfl (V.as rfl) ?_
    refine J.nil ?_
    refine CJ.ret ?_
    have e := Option.some.inj h
    subst e
    exact ⟨_, [], Res.one rfl rfl, ⟨t108, rfl, rfl, rfl⟩, (Hp.le_refl _), fun w hs => (Sep.dropAt 0 rfl hs)⟩
  · have h := cf hc105 h
    refine CJ.skip ?_
    refine CJ.seq ?_
    refine CJ.region ?_
    refine J.val (v := .agg #[.int .i64 xa.1, .int .i64 xa.2.1, .int .i64 xa.2.2.1, .int .i64 xa.2.2.2.1, .bool xa.2.2.2.2]) rfl rfl (V.ld rfl (Ld.agg (cs := [.int .i64 xa.1, .int .i64 xa.2.1, .int .i64 xa.2.2.1, .int .i64 xa.2.2.2.1, .bool xa.2.2.2.2]) Try.underlying23 sz23 rfl (Rd.cls 0 0 rfl rfl))) ?_
    refine J.val (v := .slice adxb_0 xb.length cpxb_0) rfl rfl (V.mv rfl) ?_
    refine J.val (v := .int .i64 xc) rfl rfl (V.mv rfl) ?_
    obtain ⟨r112, hr113, h⟩ := ob h
    refine J.op rfl (A.call (L1 := []) Try.call8 rfl (stmt_Needs_ok fxb_0 hr113) rfl rfl) ?_
    rintro _ _ _ ⟨v119, _, rfl, ⟨⟨l114, i115, ad116, cp117, rfl, rfl, rfl⟩, rfl⟩, _, rfl⟩
    refine J.wit Row.hn (fun hn118 => ?_)
    refine J.val (v := .tuple #[.slice ad116 l114.length cp117, .int .i64 i115]) rfl rfl (V.mv rfl) ?_
    refine J.val (v := .slice ad116 l114.length cp117) rfl rfl (V.ext rfl rfl) ?_
    refine J.val (v := .int .i64 i115) rfl rfl (V.ext rfl rfl) ?_
    refine J.val (v := .slice ad116 l114.length cp117) rfl rfl (V.as rfl) ?_
    refine J.val (v := .int .i64 i115) rfl rfl (V.as rfl) ?_
    refine J.nil ?_
    refine CJ.seq ?_
    refine CJ.region ?_
    refine J.val (v := .agg #[.int .i64 xa.1, .int .i64 xa.2.1, .int .i64 xa.2.2.1, .int .i64 xa.2.2.2.1, .bool xa.2.2.2.2]) rfl rfl (V.ld rfl (Ld.agg (cs := [.int .i64 xa.1, .int .i64 xa.2.1, .int .i64 xa.2.2.1, .int .i64 xa.2.2.2.1, .bool xa.2.2.2.2]) Try.underlying23 sz23 rfl (Rd.cls 1 0 rfl rfl))) ?_
    refine J.val (v := .slice adxb_0 xb.length cpxb_0) rfl rfl (V.mv rfl) ?_
    refine J.val (v := .int .i64 xc) rfl rfl (V.mv rfl) ?_
    obtain ⟨r123, hr124, h⟩ := ob h
    refine J.op rfl (A.call (L1 := []) Try.call9 rfl (ref18_Needs_ok fxb_0 hr124) rfl rfl) ?_
    rintro _ _ _ ⟨v130, _, rfl, ⟨⟨l125, i126, ad127, cp128, rfl, rfl, rfl⟩, rfl⟩, _, rfl⟩
    refine J.wit Row.hn (fun hn129 => ?_)
    refine J.val (v := .tuple #[.slice ad127 l125.length cp128, .int .i64 i126]) rfl rfl (V.mv rfl) ?_
    refine J.val (v := .slice ad127 l125.length cp128) rfl rfl (V.ext rfl rfl) ?_
    refine J.val (v := .int .i64 i126) rfl rfl (V.ext rfl rfl) ?_
    refine J.val (v := .slice ad127 l125.length cp128) rfl rfl (V.as rfl) ?_
    refine J.val (v := .int .i64 i126) rfl rfl (V.as rfl) ?_
    refine J.nil ?_
    refine CJ.seq ?_
    refine CJ.region ?_
    refine J.val (v := .slice ad116 l114.length cp117) rfl rfl (V.mv rfl) ?_
    refine J.front 1 rfl ?_
    refine J.persist (Hp.nil_le _) (by decide) (fun K134 hK135 f136 => ?_)
    obtain ⟨r137, hr138, h⟩ := ob h
    refine J.op rfl (A.call (L1 := []) Try.call11 rfl (law16_Doc_ok f136 hr138) rfl rfl) ?_
    rintro _ _ _ ⟨v143, _, rfl, ⟨⟨l139, ad140, cp141, rfl, rfl, rfl⟩, rfl⟩, _, rfl⟩
    refine J.wit Row.hn (fun hn142 => ?_)
    refine J.val (v := .slice ad127 l125.length cp128) rfl rfl (V.mv rfl) ?_
    obtain ⟨r147, hr148, h⟩ := ob h
    refine J.op rfl (A.call (L1 := [Row Hp.nil 59 (.cons (.int .i64) (.cons (.int .i64) (.cons (.int .i64) (.cons (.int .i64) (.one .bool))))) (.slice ad140 l139.length cp141) l139, Row Hp.nil 59 (.cons (.int .i64) (.cons (.int .i64) (.cons (.int .i64) (.cons (.int .i64) (.one .bool))))) (.slice ad127 l125.length cp128) l125]) Try.call10 rfl (Tr.lend (Hp.nil_le _) (by decide) (fun K149 hK150 f151 => Tr.lend (Hp.nil_le _) (by decide) (fun K152 hK153 f154 => ref16_Same_ok (f151.mono hK153) f154 hr148))) rfl rfl) ?_
    rintro _ _ _ ⟨v156, _, rfl, ⟨⟨_, ⟨_, ⟨t155, rfl, rfl, rfl⟩, rfl⟩, rfl⟩, rfl⟩, _, rfl⟩
    refine J.val (v := .bool t155) rfl rfl (V.mv rfl) ?_
    refine J.cut 4 ?_
    refine @J.meet _ _ _ _ _ _ _ _ _ _ (fun ρ K' L' => Fits [(37, .bool (t155 && (decide (i115 = i126)))), (1, .slice adxb_0 xb.length cpxb_0), (2, .int .i64 xc), (3, .pointer (some ⟨b98, 0, none⟩)), (10, .int .i64 i126)] ρ ∧ K134 = K' ∧ L' = Row Hp.nil 59 (.cons (.int .i64) (.cons (.int .i64) (.cons (.int .i64) (.cons (.int .i64) (.one .bool))))) (.slice ad140 l139.length cp141) l139 :: Row Hp.nil 59 (.cons (.int .i64) (.cons (.int .i64) (.cons (.int .i64) (.cons (.int .i64) (.one .bool))))) (.slice ad127 l125.length cp128) l125 :: Cl b98 23 [.int .i64 xa.1, .int .i64 xa.2.1, .int .i64 xa.2.2.1, .int .i64 xa.2.2.2.1, .bool xa.2.2.2.2] :: F) ?_ ?_
    · skip
      rcases bt (t155) with hc161 | hc161
      · skip
        refine J.run rfl rfl rfl hc161 ?_
        refine J.val (v := .int .i64 i115) rfl rfl (V.mv rfl) ?_
        refine J.run rfl rfl rfl hc161 ?_
        refine J.val (v := .int .i64 i126) rfl rfl (V.mv rfl) ?_
        refine J.run rfl rfl rfl hc161 ?_
        refine J.val (v := .bool (decide (i115 = i126))) rfl rfl (V.eql rfl rfl) ?_
        refine J.val (v := .bool (decide (i115 = i126))) rfl rfl (V.pickT rfl hc161 rfl) ?_
        refine J.nil ?_
        exact ⟨rfl, ⟨(by simp only [hc161]; rfl), rfl, rfl, rfl, rfl, trivial⟩, rfl, rfl⟩
      · skip
        refine J.skip rfl rfl rfl rfl hc161 ?_
        refine J.skip rfl rfl rfl rfl hc161 ?_
        refine J.skip rfl rfl rfl rfl hc161 ?_
        refine J.val (v := .bool false) rfl rfl (V.pickF rfl hc161 rfl) ?_
        refine J.nil ?_
        exact ⟨rfl, ⟨(by simp only [hc161]; rfl), rfl, rfl, rfl, rfl, trivial⟩, rfl, rfl⟩
    · rintro ρ _ _ ⟨hf, rfl, rfl⟩
      obtain ⟨ρ, rfl⟩ := hf.ex
      refine J.val (v := .bool (t155 && (decide (i115 = i126)))) rfl rfl (V.mv rfl) ?_
      refine J.cut 7 ?_
      obtain ⟨t169, ht170, h⟩ := ob h
      refine @J.meet _ _ _ _ _ _ _ _ _ _ (fun ρ K' L' => Fits [(45, .bool t169)] ρ ∧ K134 = K' ∧ L' = Row Hp.nil 59 (.cons (.int .i64) (.cons (.int .i64) (.cons (.int .i64) (.cons (.int .i64) (.one .bool))))) (.slice ad140 l139.length cp141) l139 :: Row Hp.nil 59 (.cons (.int .i64) (.cons (.int .i64) (.cons (.int .i64) (.cons (.int .i64) (.one .bool))))) (.slice ad127 l125.length cp128) l125 :: Cl b98 23 [.int .i64 xa.1, .int .i64 xa.2.1, .int .i64 xa.2.2.1, .int .i64 xa.2.2.2.1, .bool xa.2.2.2.2] :: F) ?_ ?_
      · skip
        rcases bt (t155 && (decide (i115 = i126))) with hc171 | hc171
        · have ht170 := ct hc171 ht170
          refine J.run rfl rfl rfl hc171 ?_
          refine J.val (v := .agg #[.int .i64 xa.1, .int .i64 xa.2.1, .int .i64 xa.2.2.1, .int .i64 xa.2.2.2.1, .bool xa.2.2.2.2]) rfl rfl (V.ld rfl (Ld.agg (cs := [.int .i64 xa.1, .int .i64 xa.2.1, .int .i64 xa.2.2.1, .int .i64 xa.2.2.2.1, .bool xa.2.2.2.2]) Try.underlying23 sz23 rfl (Rd.cls 2 0 rfl rfl))) ?_
          refine J.run rfl rfl rfl hc171 ?_
          refine J.val (v := .slice adxb_0 xb.length cpxb_0) rfl rfl (V.mv rfl) ?_
          refine J.run rfl rfl rfl hc171 ?_
          refine J.val (v := .int .i64 xc) rfl rfl (V.mv rfl) ?_
          refine J.run rfl rfl rfl hc171 ?_
          obtain ⟨r172, hr173, ht170⟩ := ob ht170
          refine J.op rfl (A.call (L1 := []) Try.call12 rfl (stmt_Check_ok (fxb_0.mono hK135) hr173) rfl rfl) ?_
          rintro _ _ _ ⟨v175, _, rfl, ⟨⟨i174, rfl, rfl, rfl⟩, rfl⟩, _, rfl⟩
          refine J.run rfl rfl rfl hc171 ?_
          refine J.val (v := .int .i64 i126) rfl rfl (V.mv rfl) ?_
          refine J.run rfl rfl rfl hc171 ?_
          refine J.val (v := .bool (decide (i174 = i126))) rfl rfl (V.eql rfl rfl) ?_
          refine J.val (v := .bool (decide (i174 = i126))) rfl rfl (V.pickT rfl hc171 rfl) ?_
          refine J.nil ?_
          have e := Option.some.inj ht170
          subst e
          exact ⟨rfl, ⟨rfl, trivial⟩, rfl, rfl⟩
        · have ht170 := cf hc171 ht170
          refine J.skip rfl rfl rfl rfl hc171 ?_
          refine J.skip rfl rfl rfl rfl hc171 ?_
          refine J.skip rfl rfl rfl rfl hc171 ?_
          refine J.skip rfl rfl rfl rfl hc171 ?_
          refine J.skip rfl rfl rfl rfl hc171 ?_
          refine J.skip rfl rfl rfl rfl hc171 ?_
          refine J.val (v := .bool false) rfl rfl (V.pickF rfl hc171 rfl) ?_
          refine J.nil ?_
          have e := Option.some.inj ht170
          subst e
          exact ⟨rfl, ⟨rfl, trivial⟩, rfl, rfl⟩
      · rintro ρ _ _ ⟨hf, rfl, rfl⟩
        obtain ⟨ρ, rfl⟩ := hf.ex
        refine J.val (v := .bool t169) rfl rfl (V.mv rfl) ?_
        refine J.cut 2 ?_
        obtain ⟨t185, ht186, h⟩ := ob h
        refine @J.meet _ _ _ _ _ _ _ _ _ _ (fun ρ K' L' => Fits [(48, .bool t185)] ρ ∧ K134 = K' ∧ L' = Row Hp.nil 59 (.cons (.int .i64) (.cons (.int .i64) (.cons (.int .i64) (.cons (.int .i64) (.one .bool))))) (.slice ad140 l139.length cp141) l139 :: Row Hp.nil 59 (.cons (.int .i64) (.cons (.int .i64) (.cons (.int .i64) (.cons (.int .i64) (.one .bool))))) (.slice ad127 l125.length cp128) l125 :: Cl b98 23 [.int .i64 xa.1, .int .i64 xa.2.1, .int .i64 xa.2.2.1, .int .i64 xa.2.2.2.1, .bool xa.2.2.2.2] :: F) ?_ ?_
        · skip
          rcases bt (t169) with hc187 | hc187
          · have ht186 := ct hc187 ht186
            refine J.run rfl rfl rfl hc187 ?_
            obtain ⟨r188, hr189, ht186⟩ := ob ht186
            refine J.op rfl (A.call (L1 := []) Try.call7 rfl (law18_awake_ok hr189) rfl rfl) ?_
            rintro _ _ _ ⟨v191, _, rfl, ⟨⟨t190, rfl, rfl, rfl⟩, rfl⟩, _, rfl⟩
            refine J.val (v := .bool t190) rfl rfl (V.pickT rfl hc187 rfl) ?_
            refine J.nil ?_
            have e := Option.some.inj ht186
            subst e
            exact ⟨rfl, ⟨rfl, trivial⟩, rfl, rfl⟩
          · have ht186 := cf hc187 ht186
            refine J.skip rfl rfl rfl rfl hc187 ?_
            refine J.val (v := .bool false) rfl rfl (V.pickF rfl hc187 rfl) ?_
            refine J.nil ?_
            have e := Option.some.inj ht186
            subst e
            exact ⟨rfl, ⟨rfl, trivial⟩, rfl, rfl⟩
        · rintro ρ _ _ ⟨hf, rfl, rfl⟩
          obtain ⟨ρ, rfl⟩ := hf.ex
          refine J.val (v := .bool t185) rfl rfl (V.as rfl) ?_
          refine J.nil ?_
          refine CJ.ret ?_
          have e := Option.some.inj h
          subst e
          exact ⟨_, [], Res.one rfl rfl, ⟨t185, rfl, rfl, rfl⟩, hK135, fun w hs => (Sep.dropAt 0 rfl (Sep.dropAt 0 rfl (Sep.dropAt 0 rfl hs)))⟩
noncomputable def fn_leb_Take_l1 (xa : (List UInt8)) (x100 : UInt8) : (Int × Int) → Option ((Int × Int) ⊕ Int) := fun ((i153, i154) : (Int × Int)) => cond (decide (i154 ≤ (IntKind.wrap .i64 ((IntKind.wrap .i64 (((x100.toNat : Nat) : Int))) - 247)))) ((getI xa i154).bind fun x168 => some (.inl ((IntKind.wrap .i64 ((BitVec.ofInt (IntKind.bits .i64) (IntKind.wrap .i64 (i153 * 2 ^ (min (Int.toNat 8) (IntKind.bits .i64)))) ||| BitVec.ofInt (IntKind.bits .i64) (IntKind.wrap .i64 (((x168.toNat : Nat) : Int)))).toNat : Int), IntKind.wrap .i64 (i154 + 1))))) (some (.inr (i153)))
noncomputable def fn_leb_Take (xa : (List UInt8)) : Option (Int × Int × Int) :=
  cond (decide (xa = ([] : List UInt8))) (some ((0, 0, 4))) ((getI xa 0).bind fun x100 => cond (decide ((IntKind.wrap .i64 (((x100.toNat : Nat) : Int))) < 248)) (some ((IntKind.wrap .i64 (((x100.toNat : Nat) : Int)), 1, 0))) ((fn_leb_digits 4294967295).bind fun i108 => cond (decide (i108 < (IntKind.wrap .i64 ((IntKind.wrap .i64 (((x100.toNat : Nat) : Int))) - 247)))) (some ((0, 0, 3))) (cond (decide ((((xa.length : Nat) : Int)) ≤ (IntKind.wrap .i64 ((IntKind.wrap .i64 (((x100.toNat : Nat) : Int))) - 247)))) (some ((0, 0, 4))) ((loop (fn_leb_Take_l1 xa x100) (0, 1) : Option Int).bind fun i142 => (cond (decide (i142 < 248)) (some (true)) ((fn_leb_digits i142).bind fun i187 => some (decide (i187 < (IntKind.wrap .i64 ((IntKind.wrap .i64 (((x100.toNat : Nat) : Int))) - 247)))))).bind fun t182 => cond (t182) (some ((0, 0, 3))) (some ((i142, IntKind.wrap .i64 (1 + (IntKind.wrap .i64 ((IntKind.wrap .i64 (((x100.toNat : Nat) : Int))) - 247))), 0)))))))
set_option maxRecDepth 100000 in
set_option maxHeartbeats 4000000 in
theorem leb_Take_ok {K : Hp} {xa : (List UInt8)}   {r : (Int × Int × Int)} (h : fn_leb_Take xa = some r) :
    Tr Try.prog 30 #[.string ⟨xa.toArray⟩] K [] (fun v K' L' => (∃ (i96 : Int) (i97 : Int) (i98 : Int), (i96, i97, i98) = r ∧ .tuple #[.int .i64 i96, .int .i64 i97, .int .i64 i98] = v ∧ L' = []) ∧ K = K') := by
  refine Tr.k ?_
  refine Tr.of Try.func30 rfl Try.ntmps30 rfl (fun E F => ?_)
  unfold fn_leb_Take at h
  refine CJ.seq ?_
  refine CJ.region ?_
  refine J.val (v := .int .i64 0) rfl rfl (V.as rfl) ?_
  refine J.val (v := .int .i64 0) rfl rfl (V.as rfl) ?_
  refine J.val (v := .int .i64 0) rfl rfl (V.as rfl) ?_
  refine J.nil ?_
  refine CJ.seq ?_
  refine CJ.seq ?_
  refine CJ.region ?_
  refine J.val (v := .string ⟨xa.toArray⟩) rfl rfl (V.mv rfl) ?_
  refine J.val (v := .bool (decide (xa = ([] : List UInt8)))) rfl rfl (V.eqs rfl rfl) ?_
  refine J.nil ?_
  refine CJ.cond rfl (fun hc99 => ?_) (fun hc99 => ?_)
  · have h := ct hc99 h
    refine CJ.seq ?_
    refine CJ.region ?_
    refine J.val (v := .int .i64 0) rfl rfl (V.as rfl) ?_
    refine J.val (v := .int .i64 0) rfl rfl (V.as rfl) ?_
    refine J.val (v := .int .i64 4) rfl rfl (V.as rfl) ?_
    refine J.nil ?_
    refine CJ.ret ?_
    have e := Option.some.inj h
    subst e
    exact ⟨_, [], Res.three rfl rfl rfl rfl, ⟨0, 0, 4, rfl, rfl, rfl⟩, (Hp.le_refl _), fun w hs => hs⟩
  · have h := cf hc99 h
    refine CJ.skip ?_
    refine CJ.seq ?_
    refine CJ.region ?_
    refine J.val (v := .string ⟨xa.toArray⟩) rfl rfl (V.mv rfl) ?_
    obtain ⟨x100, hx101, h⟩ := ob h
    obtain ⟨p102, p103, p104⟩ := getI_some hx101
    refine J.val (v := .int .u8 (((x100.toNat : Nat) : Int))) rfl rfl (V.ixs Try.underlying9 rfl rfl p102 p103) ?_
    refine J.val (v := .int .i64 (IntKind.wrap .i64 (((x100.toNat : Nat) : Int)))) rfl rfl (V.conv Try.underlying5 Try.underlying3 rfl) ?_
    refine J.val (v := .int .i64 (IntKind.wrap .i64 (((x100.toNat : Nat) : Int)))) rfl rfl (V.as rfl) ?_
    refine J.nil ?_
    refine CJ.seq ?_
    refine CJ.seq ?_
    refine CJ.region ?_
    refine J.val (v := .int .i64 (IntKind.wrap .i64 (((x100.toNat : Nat) : Int)))) rfl rfl (V.mv rfl) ?_
    refine J.val (v := .bool (decide ((IntKind.wrap .i64 (((x100.toNat : Nat) : Int))) < 248))) rfl rfl (V.lss rfl rfl) ?_
    refine J.nil ?_
    refine CJ.cond rfl (fun hc105 => ?_) (fun hc105 => ?_)
    · have h := ct hc105 h
      refine CJ.seq ?_
      refine CJ.region ?_
      refine J.val (v := .int .i64 (IntKind.wrap .i64 (((x100.toNat : Nat) : Int)))) rfl rfl (V.mv rfl) ?_
      refine J.val (v := .int .i64 (IntKind.wrap .i64 (((x100.toNat : Nat) : Int)))) rfl rfl (V.as rfl) ?_
      refine J.val (v := .int .i64 1) rfl rfl (V.as rfl) ?_
      refine J.val (v := .int .i64 0) rfl rfl (V.as rfl) ?_
      refine J.nil ?_
      refine CJ.ret ?_
      have e := Option.some.inj h
      subst e
      exact ⟨_, [], Res.three rfl rfl rfl rfl, ⟨IntKind.wrap .i64 (((x100.toNat : Nat) : Int)), 1, 0, rfl, rfl, rfl⟩, (Hp.le_refl _), fun w hs => hs⟩
    · have h := cf hc105 h
      refine CJ.skip ?_
      refine CJ.seq ?_
      refine CJ.region ?_
      refine J.val (v := .int .i64 (IntKind.wrap .i64 (((x100.toNat : Nat) : Int)))) rfl rfl (V.mv rfl) ?_
      refine J.val (v := .int .i64 (IntKind.wrap .i64 ((IntKind.wrap .i64 (((x100.toNat : Nat) : Int))) - 247))) rfl rfl (V.sub rfl rfl) ?_
      refine J.val (v := .int .i64 (IntKind.wrap .i64 ((IntKind.wrap .i64 (((x100.toNat : Nat) : Int))) - 247))) rfl rfl (V.as rfl) ?_
      refine J.nil ?_
      refine CJ.seq ?_
      refine CJ.seq ?_
      refine CJ.region ?_
      refine J.val (v := .int .i64 (IntKind.wrap .i64 ((IntKind.wrap .i64 (((x100.toNat : Nat) : Int))) - 247))) rfl rfl (V.mv rfl) ?_
      obtain ⟨r106, hr107, h⟩ := ob h
      refine J.op rfl (A.call (L1 := []) Try.call44 rfl (leb_digits_ok hr107) rfl rfl) ?_
      rintro _ _ _ ⟨v109, _, rfl, ⟨⟨i108, rfl, rfl, rfl⟩, rfl⟩, _, rfl⟩
      refine J.val (v := .bool (decide (i108 < (IntKind.wrap .i64 ((IntKind.wrap .i64 (((x100.toNat : Nat) : Int))) - 247))))) rfl rfl (V.gtr rfl rfl) ?_
      refine J.nil ?_
      refine CJ.cond rfl (fun hc112 => ?_) (fun hc112 => ?_)
      · have h := ct hc112 h
        refine CJ.seq ?_
        refine CJ.region ?_
        refine J.val (v := .int .i64 0) rfl rfl (V.as rfl) ?_
        refine J.val (v := .int .i64 0) rfl rfl (V.as rfl) ?_
        refine J.val (v := .int .i64 3) rfl rfl (V.as rfl) ?_
        refine J.nil ?_
        refine CJ.ret ?_
        have e := Option.some.inj h
        subst e
        exact ⟨_, [], Res.three rfl rfl rfl rfl, ⟨0, 0, 3, rfl, rfl, rfl⟩, (Hp.le_refl _), fun w hs => hs⟩
      · have h := cf hc112 h
        refine CJ.skip ?_
        refine CJ.seq ?_
        refine CJ.seq ?_
        refine CJ.region ?_
        refine J.val (v := .string ⟨xa.toArray⟩) rfl rfl (V.mv rfl) ?_
        refine J.val (v := .int .i64 (((xa.length : Nat) : Int))) rfl rfl (V.lens Try.underlying9 rfl) ?_
        refine J.val (v := .int .i64 (IntKind.wrap .i64 ((IntKind.wrap .i64 (((x100.toNat : Nat) : Int))) - 247))) rfl rfl (V.mv rfl) ?_
        refine J.val (v := .bool (decide ((((xa.length : Nat) : Int)) ≤ (IntKind.wrap .i64 ((IntKind.wrap .i64 (((x100.toNat : Nat) : Int))) - 247))))) rfl rfl (V.leq rfl rfl) ?_
        refine J.nil ?_
        refine CJ.cond rfl (fun hc113 => ?_) (fun hc113 => ?_)
        · have h := ct hc113 h
          refine CJ.seq ?_
          refine CJ.region ?_
          refine J.val (v := .int .i64 0) rfl rfl (V.as rfl) ?_
          refine J.val (v := .int .i64 0) rfl rfl (V.as rfl) ?_
          refine J.val (v := .int .i64 4) rfl rfl (V.as rfl) ?_
          refine J.nil ?_
          refine CJ.ret ?_
          have e := Option.some.inj h
          subst e
          exact ⟨_, [], Res.three rfl rfl rfl rfl, ⟨0, 0, 4, rfl, rfl, rfl⟩, (Hp.le_refl _), fun w hs => hs⟩
        · have h := cf hc113 h
          refine CJ.skip ?_
          refine CJ.seq ?_
          refine CJ.region ?_
          refine J.val (v := .int .i64 0) rfl rfl (V.as rfl) ?_
          refine J.nil ?_
          refine CJ.seq ?_
          refine CJ.seq ?_
          refine CJ.region ?_
          refine J.val (v := .int .i64 1) rfl rfl (V.as rfl) ?_
          refine J.nil ?_
          obtain ⟨o143, ho144, h⟩ := ob h
          refine CJ.meetN (fun ρ K' L' => ∃ (i142 : Int), i142 = o143 ∧ Fits [(6, .int .i64 (IntKind.wrap .i64 ((IntKind.wrap .i64 (((x100.toNat : Nat) : Int))) - 247))), (7, .int .i64 i142)] ρ ∧ K = K' ∧ F = L') ?_ ?_
          · skip
            refine CJ.block ?_
            refine CJ.loop (fun s ρ K' L' => ∃ (i153 : Int) (i154 : Int), (i153, i154) = s ∧ Fits [(0, .string ⟨xa.toArray⟩), (6, .int .i64 (IntKind.wrap .i64 ((IntKind.wrap .i64 (((x100.toNat : Nat) : Int))) - 247))), (7, .int .i64 i153), (8, .int .i64 i154)] ρ ∧ K = K' ∧ F = L') ho144 ⟨0, 1, rfl, ⟨rfl, rfl, rfl, rfl, trivial⟩, rfl, rfl⟩ ?_
            rintro s ρ _ _ r166 ⟨i153, i154, rfl, hf164, rfl, rfl⟩ h163
            obtain ⟨ρ, rfl⟩ := hf164.ex
            refine CJ.seq ?_
            refine CJ.seq ?_
            refine CJ.region ?_
            refine J.val (v := .int .i64 i154) rfl rfl (V.mv rfl) ?_
            refine J.val (v := .int .i64 (IntKind.wrap .i64 ((IntKind.wrap .i64 (((x100.toNat : Nat) : Int))) - 247))) rfl rfl (V.mv rfl) ?_
            refine J.val (v := .bool (decide (i154 ≤ (IntKind.wrap .i64 ((IntKind.wrap .i64 (((x100.toNat : Nat) : Int))) - 247))))) rfl rfl (V.leq rfl rfl) ?_
            refine J.nil ?_
            refine CJ.cond rfl (fun hc167 => ?_) (fun hc167 => ?_)
            · have h163 := ct hc167 h163
              refine CJ.skip ?_
              refine CJ.seq ?_
              refine CJ.block ?_
              refine CJ.region ?_
              refine J.val (v := .int .i64 i153) rfl rfl (V.mv rfl) ?_
              refine J.val (v := .int .i64 (IntKind.wrap .i64 (i153 * 2 ^ (min (Int.toNat 8) (IntKind.bits .i64))))) rfl rfl (V.shl rfl rfl (by decide)) ?_
              refine J.val (v := .string ⟨xa.toArray⟩) rfl rfl (V.mv rfl) ?_
              refine J.val (v := .int .i64 i154) rfl rfl (V.mv rfl) ?_
              obtain ⟨x168, hx169, h163⟩ := ob h163
              obtain ⟨p170, p171, p172⟩ := getI_some hx169
              refine J.val (v := .int .u8 (((x168.toNat : Nat) : Int))) rfl rfl (V.ixs Try.underlying9 rfl rfl p170 p171) ?_
              refine J.val (v := .int .i64 (IntKind.wrap .i64 (((x168.toNat : Nat) : Int)))) rfl rfl (V.conv Try.underlying5 Try.underlying3 rfl) ?_
              refine J.val (v := .int .i64 (IntKind.wrap .i64 ((BitVec.ofInt (IntKind.bits .i64) (IntKind.wrap .i64 (i153 * 2 ^ (min (Int.toNat 8) (IntKind.bits .i64)))) ||| BitVec.ofInt (IntKind.bits .i64) (IntKind.wrap .i64 (((x168.toNat : Nat) : Int)))).toNat : Int))) rfl rfl (V.or rfl rfl) ?_
              refine J.val (v := .int .i64 (IntKind.wrap .i64 ((BitVec.ofInt (IntKind.bits .i64) (IntKind.wrap .i64 (i153 * 2 ^ (min (Int.toNat 8) (IntKind.bits .i64)))) ||| BitVec.ofInt (IntKind.bits .i64) (IntKind.wrap .i64 (((x168.toNat : Nat) : Int)))).toNat : Int))) rfl rfl (V.as rfl) ?_
              refine J.nil ?_
              refine CJ.region ?_
              refine J.val (v := .int .i64 i154) rfl rfl (V.mv rfl) ?_
              refine J.val (v := .int .i64 (IntKind.wrap .i64 (i154 + 1))) rfl rfl (V.add rfl rfl) ?_
              refine J.val (v := .int .i64 (IntKind.wrap .i64 (i154 + 1))) rfl rfl (V.as rfl) ?_
              refine J.nil ?_
              have e := Option.some.inj h163
              subst e
              exact ⟨rfl, ⟨IntKind.wrap .i64 ((BitVec.ofInt (IntKind.bits .i64) (IntKind.wrap .i64 (i153 * 2 ^ (min (Int.toNat 8) (IntKind.bits .i64)))) ||| BitVec.ofInt (IntKind.bits .i64) (IntKind.wrap .i64 (((x168.toNat : Nat) : Int)))).toNat : Int), IntKind.wrap .i64 (i154 + 1), rfl, ⟨rfl, rfl, rfl, rfl, trivial⟩, rfl, rfl⟩⟩
            · have h163 := cf hc167 h163
              refine CJ.exit ?_
              have e := Option.some.inj h163
              subst e
              refine ⟨nofun, fun e => ?_⟩
              subst e
              exact ⟨rfl, ⟨i153, rfl, ⟨rfl, rfl, trivial⟩, rfl, rfl⟩⟩
          · rintro ρ _ _ ⟨i142, rfl, hf173, rfl, rfl⟩
            obtain ⟨ρ, rfl⟩ := hf173.ex
            refine PJ.done ?_
            refine CJ.seq ?_
            refine CJ.seq ?_
            refine CJ.region ?_
            refine J.val (v := .int .i64 i142) rfl rfl (V.mv rfl) ?_
            refine J.val (v := .bool (decide (i142 < 248))) rfl rfl (V.lss rfl rfl) ?_
            refine J.val (v := .bool (decide (i142 < 248))) rfl rfl (V.mv rfl) ?_
            refine J.cut 5 ?_
            obtain ⟨t182, ht183, h⟩ := ob h
            refine @J.meet _ _ _ _ _ _ _ _ _ _ (fun ρ K' L' => Fits [(45, .bool t182), (6, .int .i64 (IntKind.wrap .i64 ((IntKind.wrap .i64 (((x100.toNat : Nat) : Int))) - 247))), (7, .int .i64 i142)] ρ ∧ K = K' ∧ F = L') ?_ ?_
            · skip
              rcases bt (decide (i142 < 248)) with hc184 | hc184
              · have ht183 := ct hc184 ht183
                refine J.skip rfl rfl rfl rfl hc184 ?_
                refine J.skip rfl rfl rfl rfl hc184 ?_
                refine J.skip rfl rfl rfl rfl hc184 ?_
                refine J.skip rfl rfl rfl rfl hc184 ?_
                refine J.val (v := .bool true) rfl rfl (V.pickT rfl hc184 rfl) ?_
                refine J.nil ?_
                have e := Option.some.inj ht183
                subst e
                exact ⟨rfl, ⟨rfl, rfl, rfl, trivial⟩, rfl, rfl⟩
              · have ht183 := cf hc184 ht183
                refine J.run rfl rfl rfl hc184 ?_
                refine J.val (v := .int .i64 i142) rfl rfl (V.mv rfl) ?_
                refine J.run rfl rfl rfl hc184 ?_
                obtain ⟨r185, hr186, ht183⟩ := ob ht183
                refine J.op rfl (A.call (L1 := []) Try.call44 rfl (leb_digits_ok hr186) rfl rfl) ?_
                rintro _ _ _ ⟨v188, _, rfl, ⟨⟨i187, rfl, rfl, rfl⟩, rfl⟩, _, rfl⟩
                refine J.run rfl rfl rfl hc184 ?_
                refine J.val (v := .int .i64 (IntKind.wrap .i64 ((IntKind.wrap .i64 (((x100.toNat : Nat) : Int))) - 247))) rfl rfl (V.mv rfl) ?_
                refine J.run rfl rfl rfl hc184 ?_
                refine J.val (v := .bool (decide (i187 < (IntKind.wrap .i64 ((IntKind.wrap .i64 (((x100.toNat : Nat) : Int))) - 247))))) rfl rfl (V.lss rfl rfl) ?_
                refine J.val (v := .bool (decide (i187 < (IntKind.wrap .i64 ((IntKind.wrap .i64 (((x100.toNat : Nat) : Int))) - 247))))) rfl rfl (V.pickF rfl hc184 rfl) ?_
                refine J.nil ?_
                have e := Option.some.inj ht183
                subst e
                exact ⟨rfl, ⟨rfl, rfl, rfl, trivial⟩, rfl, rfl⟩
            · rintro ρ _ _ ⟨hf, rfl, rfl⟩
              obtain ⟨ρ, rfl⟩ := hf.ex
              refine J.nil ?_
              refine CJ.cond rfl (fun hc191 => ?_) (fun hc191 => ?_)
              · have h := ct hc191 h
                refine CJ.seq ?_
                refine CJ.region ?_
                refine J.val (v := .int .i64 0) rfl rfl (V.as rfl) ?_
                refine J.val (v := .int .i64 0) rfl rfl (V.as rfl) ?_
                refine J.val (v := .int .i64 3) rfl rfl (V.as rfl) ?_
                refine J.nil ?_
                refine CJ.ret ?_
                have e := Option.some.inj h
                subst e
                exact ⟨_, [], Res.three rfl rfl rfl rfl, ⟨0, 0, 3, rfl, rfl, rfl⟩, (Hp.le_refl _), fun w hs => hs⟩
              · have h := cf hc191 h
                refine CJ.skip ?_
                refine CJ.seq ?_
                refine CJ.region ?_
                refine J.val (v := .int .i64 i142) rfl rfl (V.mv rfl) ?_
                refine J.val (v := .int .i64 (IntKind.wrap .i64 ((IntKind.wrap .i64 (((x100.toNat : Nat) : Int))) - 247))) rfl rfl (V.mv rfl) ?_
                refine J.val (v := .int .i64 (IntKind.wrap .i64 (1 + (IntKind.wrap .i64 ((IntKind.wrap .i64 (((x100.toNat : Nat) : Int))) - 247))))) rfl rfl (V.add rfl rfl) ?_
                refine J.val (v := .int .i64 i142) rfl rfl (V.as rfl) ?_
                refine J.val (v := .int .i64 (IntKind.wrap .i64 (1 + (IntKind.wrap .i64 ((IntKind.wrap .i64 (((x100.toNat : Nat) : Int))) - 247))))) rfl rfl (V.as rfl) ?_
                refine J.val (v := .int .i64 0) rfl rfl (V.as rfl) ?_
                refine J.nil ?_
                refine CJ.ret ?_
                have e := Option.some.inj h
                subst e
                exact ⟨_, [], Res.three rfl rfl rfl rfl, ⟨i142, IntKind.wrap .i64 (1 + (IntKind.wrap .i64 ((IntKind.wrap .i64 (((x100.toNat : Nat) : Int))) - 247))), 0, rfl, rfl, rfl⟩, (Hp.le_refl _), fun w hs => hs⟩

noncomputable def fn_stmt_Take_1_bp0p1p2_i_s_i (xa : Bool) (qa0 : Int) (qb0 : List UInt8) (qc0 : Int) : Option (Int × Int × Int) :=
  cond ((!xa) || (!decide (qa0 = 0))) (some ((0, qa0, qc0))) ((subL qb0 qc0 (((qb0.length : Nat) : Int))).bind fun y23 => (fn_leb_Take y23).bind fun (i27, i28, i29) => some ((i27, i29, IntKind.wrap .i64 (qc0 + i28))))
set_option maxRecDepth 100000 in
set_option maxHeartbeats 4000000 in
theorem stmt_Take_1_bp0p1p2_i_s_i_ok {K : Hp} {xa : Bool} {qa0 : Int} {qb0 : List UInt8} {qc0 : Int} {pba : Nat} {pbb : Nat} {pbc : Nat}  {r : (Int × Int × Int)} (h : fn_stmt_Take_1_bp0p1p2_i_s_i xa qa0 qb0 qc0 = some r) :
    Tr Try.prog 32 #[.bool xa, .pointer (some ⟨pba, 0, none⟩), .pointer (some ⟨pbb, 0, none⟩), .pointer (some ⟨pbc, 0, none⟩)] K [Cl pba 28 [.int .i64 qa0], Cl pbb 9 [.string ⟨qb0.toArray⟩], Cl pbc 3 [.int .i64 qc0]] (fun v K' L' => (∃ (i15 : Int) (i17 : Int) (i18 : Int), (i15, i17, i18) = r ∧ .int .i64 i15 = v ∧ L' = [Cl pba 28 [.int .i64 i17], Cl pbb 9 [.string ⟨qb0.toArray⟩], Cl pbc 3 [.int .i64 i18]]) ∧ K = K') := by
  refine Tr.k ?_
  refine Tr.of Try.func32 rfl Try.ntmps32 rfl (fun E F => ?_)
  unfold fn_stmt_Take_1_bp0p1p2_i_s_i at h
  refine CJ.seq ?_
  refine CJ.region ?_
  refine J.val (v := .int .i64 0) rfl rfl (V.as rfl) ?_
  refine J.nil ?_
  refine CJ.seq ?_
  refine CJ.seq ?_
  refine CJ.region ?_
  refine J.val (v := .bool xa) rfl rfl (V.mv rfl) ?_
  refine J.val (v := .bool (!xa)) rfl rfl (V.not rfl) ?_
  refine J.val (v := .bool (!xa)) rfl rfl (V.mv rfl) ?_
  refine J.cut 3 ?_
  refine @J.meet _ _ _ _ _ _ _ _ _ _ (fun ρ K' L' => Fits [(14, .bool ((!xa) || (!decide (qa0 = 0)))), (1, .pointer (some ⟨pba, 0, none⟩)), (2, .pointer (some ⟨pbb, 0, none⟩)), (3, .pointer (some ⟨pbc, 0, none⟩))] ρ ∧ K = K' ∧ L' = Cl pba 28 [.int .i64 qa0] :: Cl pbb 9 [.string ⟨qb0.toArray⟩] :: Cl pbc 3 [.int .i64 qc0] :: F) ?_ ?_
  · skip
    rcases bt (!xa) with hc21 | hc21
    · skip
      refine J.skip rfl rfl rfl rfl hc21 ?_
      refine J.skip rfl rfl rfl rfl hc21 ?_
      refine J.val (v := .bool true) rfl rfl (V.pickT rfl hc21 rfl) ?_
      refine J.nil ?_
      exact ⟨rfl, ⟨(by simp only [hc21]; rfl), rfl, rfl, rfl, trivial⟩, rfl, rfl⟩
    · skip
      refine J.run rfl rfl rfl hc21 ?_
      refine J.val (v := .int .i64 qa0) rfl rfl (V.ld rfl (Ld.sc sc28 (Rd.cl 0 rfl rfl))) ?_
      refine J.run rfl rfl rfl hc21 ?_
      refine J.val (v := .bool (!decide (qa0 = 0))) rfl rfl (V.neq rfl rfl) ?_
      refine J.val (v := .bool (!decide (qa0 = 0))) rfl rfl (V.pickF rfl hc21 rfl) ?_
      refine J.nil ?_
      exact ⟨rfl, ⟨(by simp only [hc21]; rfl), rfl, rfl, rfl, trivial⟩, rfl, rfl⟩
  · rintro ρ _ _ ⟨hf, rfl, rfl⟩
    obtain ⟨ρ, rfl⟩ := hf.ex
    refine J.nil ?_
    refine CJ.cond rfl (fun hc22 => ?_) (fun hc22 => ?_)
    · have h := ct hc22 h
      refine CJ.seq ?_
      refine CJ.region ?_
      refine J.val (v := .int .i64 0) rfl rfl (V.as rfl) ?_
      refine J.nil ?_
      refine CJ.ret ?_
      have e := Option.some.inj h
      subst e
      exact ⟨_, [Cl pba 28 [.int .i64 qa0], Cl pbb 9 [.string ⟨qb0.toArray⟩], Cl pbc 3 [.int .i64 qc0]], Res.one rfl rfl, ⟨0, qa0, qc0, rfl, rfl, rfl⟩, (Hp.le_refl _), fun w hs => hs⟩
    · have h := cf hc22 h
      refine CJ.skip ?_
      refine CJ.seq ?_
      refine CJ.region ?_
      refine J.val (v := .string ⟨qb0.toArray⟩) rfl rfl (V.ld rfl (Ld.sc sc9 (Rd.cl 1 rfl rfl))) ?_
      refine J.val (v := .int .i64 qc0) rfl rfl (V.ld rfl (Ld.sc sc3 (Rd.cl 2 rfl rfl))) ?_
      obtain ⟨y23, hy24, h⟩ := ob h
      refine J.val (v := .string ⟨y23.toArray⟩) rfl rfl (V.subs Try.underlying9 rfl (fun _ h => by cases h; exact ⟨_, rfl⟩) nofun nofun (fun _ => rfl) hy24) ?_
      obtain ⟨r25, hr26, h⟩ := ob h
      refine J.op rfl (A.call (L1 := []) Try.call30 rfl (leb_Take_ok hr26) rfl rfl) ?_
      rintro _ _ _ ⟨v30, _, rfl, ⟨⟨i27, i28, i29, rfl, rfl, rfl⟩, rfl⟩, _, rfl⟩
      refine J.val (v := .tuple #[.int .i64 i27, .int .i64 i28, .int .i64 i29]) rfl rfl (V.mv rfl) ?_
      refine J.val (v := .int .i64 i27) rfl rfl (V.ext rfl rfl) ?_
      refine J.val (v := .int .i64 i28) rfl rfl (V.ext rfl rfl) ?_
      refine J.val (v := .int .i64 i29) rfl rfl (V.ext rfl rfl) ?_
      refine J.val (v := .int .i64 i27) rfl rfl (V.as rfl) ?_
      refine J.val (v := .int .i64 i28) rfl rfl (V.as rfl) ?_
      refine J.val (v := .int .i64 i29) rfl rfl (V.as rfl) ?_
      refine J.nil ?_
      refine CJ.seq ?_
      refine CJ.region ?_
      refine J.val (v := .int .i64 qc0) rfl rfl (V.ld rfl (Ld.sc sc3 (Rd.cl 2 rfl rfl))) ?_
      refine J.val (v := .int .i64 i28) rfl rfl (V.mv rfl) ?_
      refine J.val (v := .int .i64 (IntKind.wrap .i64 (qc0 + i28))) rfl rfl (V.add rfl rfl) ?_
      refine J.val (v := .int .i64 i29) rfl rfl (V.mv rfl) ?_
      refine J.front 2 rfl ?_
      refine J.op rfl (A.store1 (v := .int .i64 (IntKind.wrap .i64 (qc0 + i28))) (cs' := [.int .i64 (IntKind.wrap .i64 (qc0 + i28))]) sz3 rfl rfl rfl rfl rfl rfl) ?_
      rintro _ _ _ ⟨rfl, rfl, rfl⟩
      refine J.front 1 rfl ?_
      refine J.op rfl (A.store1 (v := .int .i64 i29) (cs' := [.int .i64 i29]) sz28 rfl rfl rfl rfl rfl rfl) ?_
      rintro _ _ _ ⟨rfl, rfl, rfl⟩
      refine J.nil ?_
      refine CJ.seq ?_
      refine CJ.region ?_
      refine J.val (v := .int .i64 i27) rfl rfl (V.mv rfl) ?_
      refine J.val (v := .int .i64 i27) rfl rfl (V.as rfl) ?_
      refine J.nil ?_
      refine CJ.ret ?_
      have e := Option.some.inj h
      subst e
      exact ⟨_, [Cl pba 28 [.int .i64 i29], Cl pbb 9 [.string ⟨qb0.toArray⟩], Cl pbc 3 [.int .i64 (IntKind.wrap .i64 (qc0 + i28))]], Res.one rfl rfl, ⟨i27, i29, IntKind.wrap .i64 (qc0 + i28), rfl, rfl, rfl⟩, (Hp.le_refl _), fun w hs => (Sep.front 2 rfl (Sep.front 2 rfl (Sep.front 1 rfl hs)))⟩
end Go.Proofs.Ytaaicohpbafegaa
