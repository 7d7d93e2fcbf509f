/- What Go functions answer: generated. -/
import Derived.Test.YtjhgiaafaahbjaaDt
import Derived.Test.YtjhgiaafaahbjaaRows
import Derived.Test.YtjhgiaafaahbjaaBd
namespace Go.Proofs.Ytjhgiaafaahbjaa
open Go.RowKit
set_option linter.unusedVariables false
theorem sz28 : (Try.prog.info? 28).map (·.size) = some 4 := by kernel_rfl
theorem nz22 : Try.prog.cellsOf 22 ≠ 0 := by decide +kernel
theorem sc22 : scalar Try.prog 22 = true := by kernel_rfl
theorem nz23 : Try.prog.cellsOf 23 ≠ 0 := by decide +kernel
theorem sc23 : scalar Try.prog 23 = true := by kernel_rfl
theorem nz26 : Try.prog.cellsOf 26 ≠ 0 := by decide +kernel
theorem sz26 : (Try.prog.info? 26).map (·.size) = some 1 := by kernel_rfl
theorem nz24 : Try.prog.cellsOf 24 ≠ 0 := by decide +kernel
theorem sc24 : scalar Try.prog 24 = true := by kernel_rfl
theorem inf26 : Inf Try.prog 26 (.agg #[.slice none 0 0]) 1 24 := by unfold Inf; kernel_rfl
theorem inf74 : Inf Try.prog 74 (.agg #[.string ⟨[].toArray⟩, .int .i64 0]) 2 24 := by unfold Inf; kernel_rfl
theorem places74 : Places Try.prog 74 [(0, 1), (1, 1)] := ⟨_, Try.underlying74, by kernel_rfl⟩
theorem sz74 : (Try.prog.info? 74).map (·.size) = some 2 := by kernel_rfl
theorem nz9 : Try.prog.cellsOf 9 ≠ 0 := by decide +kernel
theorem sc9 : scalar Try.prog 9 = true := by kernel_rfl
theorem nz3 : Try.prog.cellsOf 3 ≠ 0 := by decide +kernel
theorem sc3 : scalar Try.prog 3 = true := by kernel_rfl
theorem mixO : Try.prog.follows .mixedOrders = true := by kernel_rfl
theorem sz3 : (Try.prog.info? 3).map (·.size) = some 1 := by kernel_rfl
theorem inf60 : Inf Try.prog 60 (.agg #[.int .i64 0, .bool false]) 2 16 := by unfold Inf; kernel_rfl
theorem places60 : Places Try.prog 60 [(0, 1), (1, 1)] := ⟨_, Try.underlying60, by kernel_rfl⟩
theorem sz24 : (Try.prog.info? 24).map (·.size) = some 1 := by kernel_rfl
theorem places26 : Places Try.prog 26 [(0, 1)] := ⟨_, Try.underlying26, by kernel_rfl⟩
theorem inf3 : Inf Try.prog 3 (.int .i64 0) 1 8 := by unfold Inf; kernel_rfl
theorem sz60 : (Try.prog.info? 60).map (·.size) = some 2 := by kernel_rfl
theorem nz4 : Try.prog.cellsOf 4 ≠ 0 := by decide +kernel
theorem sc4 : scalar Try.prog 4 = true := by kernel_rfl
theorem inf89 : Inf Try.prog 89 (.agg #[.pointer none, .slice none 0 0]) 2 32 := by unfold Inf; kernel_rfl
theorem inf28 : Inf Try.prog 28 (.agg #[.int .i64 0, .slice none 0 0, .slice none 0 0, .slice none 0 0]) 4 80 := by unfold Inf; kernel_rfl
theorem places28 : Places Try.prog 28 [(0, 1), (1, 1), (2, 1), (3, 1)] := ⟨_, Try.underlying28, by kernel_rfl⟩
theorem sz63 : (Try.prog.info? 63).map (·.size) = some 2 := by kernel_rfl
theorem inf63 : Inf Try.prog 63 (.agg #[.int .i64 0, .int .i64 0]) 2 16 := by unfold Inf; kernel_rfl
theorem inf65 : Inf Try.prog 65 (.agg #[.int .i64 0, .int .i64 0, .int .i64 0, .int .i64 0, .bool false]) 5 40 := by unfold Inf; kernel_rfl
theorem places65 : Places Try.prog 65 [(0, 1), (1, 1), (2, 1), (3, 1), (4, 1)] := ⟨_, Try.underlying65, by kernel_rfl⟩
theorem inf69 : Inf Try.prog 69 (.agg #[.int .i64 0, .int .i64 0, .int .i64 0, .int .i64 0, .bool false]) 5 40 := by unfold Inf; kernel_rfl
theorem places69 : Places Try.prog 69 [(0, 1), (1, 1), (2, 1), (3, 1), (4, 1)] := ⟨_, Try.underlying69, by kernel_rfl⟩
theorem sz65 : (Try.prog.info? 65).map (·.size) = some 5 := by kernel_rfl
theorem sz69 : (Try.prog.info? 69).map (·.size) = some 5 := by kernel_rfl
theorem sih69 : Try.prog.stoodInHeld 69 = false := by kernel_rfl
theorem eqg69 : Try.prog.eqGuardType Try.prog.depth 69 = false := by kernel_rfl

noncomputable def fn_ref15_Few (xa : (List (Int × Bool))) (xb : Int) : Option Bool :=
  some (decide ((((xa.length : Nat) : Int)) ≤ xb))
set_option maxRecDepth 100000 in
set_option maxHeartbeats 4000000 in
theorem ref15_Few_ok {K : Hp} {xa : (List (Int × Bool))} {xb : Int} {adxa_0 : Option Addr} {cpxa_0 : Nat} (fxa_0 : Is K (.sl (.cons (.int .i64) (.one .bool))) [.slice adxa_0 xa.length cpxa_0] xa) {r : Bool} (h : fn_ref15_Few xa xb = some r) :
    Tr Try.prog 8 #[.agg #[.slice adxa_0 xa.length cpxa_0], .int .i64 xb] K [] (fun v K' L' => (∃ (t2 : Bool), t2 = r ∧ .bool t2 = v ∧ L' = []) ∧ K = K') := by
  refine Tr.k ?_
  refine Tr.of Try.func8 rfl Try.ntmps8 rfl (fun E F => ?_)
  unfold fn_ref15_Few at h
  refine CJ.seq ?_
  refine CJ.region ?_
  refine J.op rfl (A.box (v := .agg #[.slice adxa_0 xa.length cpxa_0]) (cs := [.slice adxa_0 xa.length cpxa_0]) rfl rfl) ?_
  rintro _ _ _ ⟨b3, rfl, rfl, rfl⟩
  refine J.val (v := .bool false) rfl rfl (V.as rfl) ?_
  refine J.nil ?_
  refine CJ.seq ?_
  refine CJ.region ?_
  refine J.val rfl rfl (V.fad Try.underlying26 rfl nz24 rfl) ?_
  refine J.val (v := .slice adxa_0 xa.length cpxa_0) rfl rfl (V.ld rfl (Ld.sc sc24 (Rd.cl 0 rfl rfl))) ?_
  refine J.val (v := .int .i64 (((xa.length : Nat) : Int))) rfl rfl (V.len Try.underlying24 rfl) ?_
  refine J.val (v := .int .i64 xb) rfl rfl (V.mv rfl) ?_
  refine J.val (v := .bool (decide ((((xa.length : Nat) : Int)) ≤ xb))) rfl rfl (V.leq rfl rfl) ?_
  refine J.val (v := .bool (decide ((((xa.length : Nat) : Int)) ≤ xb))) rfl rfl (V.as rfl) ?_
  refine J.nil ?_
  refine CJ.ret ?_
  have e := Option.some.inj h
  subst e
  exact ⟨_, [], Res.one rfl rfl, ⟨decide ((((xa.length : Nat) : Int)) ≤ xb), rfl, rfl, rfl⟩, (Hp.le_refl _), fun w hs => (Sep.dropAt 0 rfl hs)⟩
noncomputable def fn_ref17_Few_l1 (xa : (Int × (List (Int × Int)) × (List (List (Int × Bool))) × (List (Int × Bool)))) : Int → Option (Int ⊕ (Unit ⊕ Bool)) := fun (i283 : Int) => cond (decide (i283 < (((xa.2.2.1.length : Nat) : Int)))) ((getI xa.2.2.1 i283).bind fun x311 => (fn_ref15_Few x311 20).bind fun t326 => cond (!t326) (some (.inr ((.inr (false))))) (some (.inl (IntKind.wrap .i64 (i283 + 1))))) (some (.inr ((.inl ()))))
noncomputable def fn_ref17_Few (xa : (Int × (List (Int × Int)) × (List (List (Int × Bool))) × (List (Int × Bool)))) : Option Bool :=
  (cond ((decide (20 < (((xa.2.1.length : Nat) : Int)))) || (decide (20 < (((xa.2.2.1.length : Nat) : Int))))) (some (true)) ((fn_ref15_Few xa.2.2.2 20).bind fun t184 => some (!t184))).bind fun t179 => cond (t179) (some (false)) ((loop (fn_ref17_Few_l1 xa) 0 : Option (Unit ⊕ Bool)).bind fun o => match o with | .inr r => some r | .inl () => some (true))
set_option maxRecDepth 100000 in
set_option maxHeartbeats 4000000 in
theorem ref17_Few_ok {K : Hp} {xa : (Int × (List (Int × Int)) × (List (List (Int × Bool))) × (List (Int × Bool)))} {adxa_1 : Option Addr} {cpxa_1 : Nat} {adxa_2 : Option Addr} {cpxa_2 : Nat} {adxa_3 : Option Addr} {cpxa_3 : Nat} (fxa_1 : Is K (.sl (.cons (.int .i64) (.one (.int .i64)))) [.slice adxa_1 xa.2.1.length cpxa_1] xa.2.1) (fxa_2 : Is K (.sl (.one (.sl (.cons (.int .i64) (.one .bool))))) [.slice adxa_2 xa.2.2.1.length cpxa_2] xa.2.2.1) (fxa_3 : Is K (.sl (.cons (.int .i64) (.one .bool))) [.slice adxa_3 xa.2.2.2.length cpxa_3] xa.2.2.2) {r : Bool} (h : fn_ref17_Few xa = some r) :
    Tr Try.prog 6 #[.agg #[.int .i64 xa.1, .slice adxa_1 xa.2.1.length cpxa_1, .slice adxa_2 xa.2.2.1.length cpxa_2, .slice adxa_3 xa.2.2.2.length cpxa_3]] K [] (fun v K' L' => (∃ (t167 : Bool), t167 = r ∧ .bool t167 = v ∧ L' = []) ∧ K = K') := by
  refine Tr.k ?_
  refine Tr.of Try.func6 rfl Try.ntmps6 rfl (fun E F => ?_)
  unfold fn_ref17_Few at h
  refine CJ.seq ?_
  refine CJ.region ?_
  refine J.op rfl (A.box (v := .agg #[.int .i64 xa.1, .slice adxa_1 xa.2.1.length cpxa_1, .slice adxa_2 xa.2.2.1.length cpxa_2, .slice adxa_3 xa.2.2.2.length cpxa_3]) (cs := [.int .i64 xa.1, .slice adxa_1 xa.2.1.length cpxa_1, .slice adxa_2 xa.2.2.1.length cpxa_2, .slice adxa_3 xa.2.2.2.length cpxa_3]) rfl rfl) ?_
  rintro _ _ _ ⟨b168, rfl, rfl, rfl⟩
  refine J.val (v := .bool false) rfl rfl (V.as rfl) ?_
  refine J.nil ?_
  refine CJ.seq ?_
  refine CJ.seq ?_
  refine CJ.region ?_
  refine J.val rfl rfl (V.fad Try.underlying28 rfl nz22 rfl) ?_
  refine J.val (v := .slice adxa_1 xa.2.1.length cpxa_1) rfl rfl (V.ld rfl (Ld.sc sc22 (Rd.cl 0 rfl rfl))) ?_
  refine J.val (v := .int .i64 (((xa.2.1.length : Nat) : Int))) rfl rfl (V.len Try.underlying22 rfl) ?_
  refine J.val (v := .bool (decide (20 < (((xa.2.1.length : Nat) : Int))))) rfl rfl (V.gtr rfl rfl) ?_
  refine J.val (v := .bool (decide (20 < (((xa.2.1.length : Nat) : Int))))) rfl rfl (V.mv rfl) ?_
  refine J.cut 5 ?_
  refine @J.meet _ _ _ _ _ _ _ _ _ _ (fun ρ K' L' => Fits [(13, .bool ((decide (20 < (((xa.2.1.length : Nat) : Int)))) || (decide (20 < (((xa.2.2.1.length : Nat) : Int)))))), (1, .pointer (some ⟨b168, 0, none⟩))] ρ ∧ K = K' ∧ L' = Cl b168 28 [.int .i64 xa.1, .slice adxa_1 xa.2.1.length cpxa_1, .slice adxa_2 xa.2.2.1.length cpxa_2, .slice adxa_3 xa.2.2.2.length cpxa_3] :: F) ?_ ?_
  · skip
    rcases bt (decide (20 < (((xa.2.1.length : Nat) : Int)))) with hc171 | hc171
    · skip
      refine J.skip rfl rfl rfl rfl hc171 ?_
      refine J.skip rfl rfl rfl rfl hc171 ?_
      refine J.skip rfl rfl rfl rfl hc171 ?_
      refine J.skip rfl rfl rfl rfl hc171 ?_
      refine J.val (v := .bool true) rfl rfl (V.pickT rfl hc171 rfl) ?_
      refine J.nil ?_
      exact ⟨rfl, ⟨(by simp only [hc171]; rfl), rfl, trivial⟩, rfl, rfl⟩
    · skip
      refine J.run rfl rfl rfl hc171 ?_
      refine J.val rfl rfl (V.fad Try.underlying28 rfl nz23 rfl) ?_
      refine J.run rfl rfl rfl hc171 ?_
      refine J.val (v := .slice adxa_2 xa.2.2.1.length cpxa_2) rfl rfl (V.ld rfl (Ld.sc sc23 (Rd.cl 0 rfl rfl))) ?_
      refine J.run rfl rfl rfl hc171 ?_
      refine J.val (v := .int .i64 (((xa.2.2.1.length : Nat) : Int))) rfl rfl (V.len Try.underlying23 rfl) ?_
      refine J.run rfl rfl rfl hc171 ?_
      refine J.val (v := .bool (decide (20 < (((xa.2.2.1.length : Nat) : Int))))) rfl rfl (V.gtr rfl rfl) ?_
      refine J.val (v := .bool (decide (20 < (((xa.2.2.1.length : Nat) : Int))))) rfl rfl (V.pickF rfl hc171 rfl) ?_
      refine J.nil ?_
      exact ⟨rfl, ⟨(by simp only [hc171]; rfl), rfl, trivial⟩, rfl, rfl⟩
  · rintro ρ _ _ ⟨hf, rfl, rfl⟩
    obtain ⟨ρ, rfl⟩ := hf.ex
    refine J.val (v := .bool ((decide (20 < (((xa.2.1.length : Nat) : Int)))) || (decide (20 < (((xa.2.2.1.length : Nat) : Int)))))) rfl rfl (V.mv rfl) ?_
    refine J.cut 5 ?_
    obtain ⟨t179, ht180, h⟩ := ob h
    refine @J.meet _ _ _ _ _ _ _ _ _ _ (fun ρ K' L' => Fits [(19, .bool t179), (1, .pointer (some ⟨b168, 0, none⟩))] ρ ∧ K = K' ∧ L' = Cl b168 28 [.int .i64 xa.1, .slice adxa_1 xa.2.1.length cpxa_1, .slice adxa_2 xa.2.2.1.length cpxa_2, .slice adxa_3 xa.2.2.2.length cpxa_3] :: F) ?_ ?_
    · skip
      rcases bt ((decide (20 < (((xa.2.1.length : Nat) : Int)))) || (decide (20 < (((xa.2.2.1.length : Nat) : Int))))) with hc181 | hc181
      · have ht180 := ct hc181 ht180
        refine J.skip rfl rfl rfl rfl hc181 ?_
        refine J.skip rfl rfl rfl rfl hc181 ?_
        refine J.skip rfl rfl rfl rfl hc181 ?_
        refine J.skip rfl rfl rfl rfl hc181 ?_
        refine J.val (v := .bool true) rfl rfl (V.pickT rfl hc181 rfl) ?_
        refine J.nil ?_
        have e := Option.some.inj ht180
        subst e
        exact ⟨rfl, ⟨rfl, rfl, trivial⟩, rfl, rfl⟩
      · have ht180 := cf hc181 ht180
        refine J.run rfl rfl rfl hc181 ?_
        refine J.val rfl rfl (V.fad Try.underlying28 rfl nz26 rfl) ?_
        refine J.run rfl rfl rfl hc181 ?_
        refine J.val (v := .agg #[.slice adxa_3 xa.2.2.2.length cpxa_3]) rfl rfl (V.ld rfl (Ld.agg (cs := [.slice adxa_3 xa.2.2.2.length cpxa_3]) Try.underlying26 sz26 rfl (Rd.cls 0 3 rfl rfl))) ?_
        refine J.run rfl rfl rfl hc181 ?_
        obtain ⟨r182, hr183, ht180⟩ := ob ht180
        refine J.op rfl (A.call (L1 := []) Try.call8 rfl (ref15_Few_ok fxa_3 hr183) rfl rfl) ?_
        rintro _ _ _ ⟨v185, _, rfl, ⟨⟨t184, rfl, rfl, rfl⟩, rfl⟩, _, rfl⟩
        refine J.run rfl rfl rfl hc181 ?_
        refine J.val (v := .bool (!t184)) rfl rfl (V.not rfl) ?_
        refine J.val (v := .bool (!t184)) rfl rfl (V.pickF rfl hc181 rfl) ?_
        refine J.nil ?_
        have e := Option.some.inj ht180
        subst e
        exact ⟨rfl, ⟨rfl, rfl, trivial⟩, rfl, rfl⟩
    · rintro ρ _ _ ⟨hf, rfl, rfl⟩
      obtain ⟨ρ, rfl⟩ := hf.ex
      refine J.nil ?_
      refine CJ.cond rfl (fun hc188 => ?_) (fun hc188 => ?_)
      · have h := ct hc188 h
        refine CJ.seq ?_
        refine CJ.region ?_
        refine J.val (v := .bool false) rfl rfl (V.as rfl) ?_
        refine J.nil ?_
        refine CJ.ret ?_
        have e := Option.some.inj h
        subst e
        exact ⟨_, [], Res.one rfl rfl, ⟨false, rfl, rfl, rfl⟩, (Hp.le_refl _), fun w hs => (Sep.dropAt 0 rfl hs)⟩
      · have h := cf hc188 h
        refine CJ.skip ?_
        refine CJ.seq ?_
        refine CJ.seq ?_
        refine CJ.region ?_
        refine J.val (v := .int .i64 0) rfl rfl (V.as rfl) ?_
        refine J.nil ?_
        obtain ⟨o259, ho260, h⟩ := ob h
        refine CJ.joinN (o := o259) (fun s ρ K' L' => () = s ∧ Fits [] ρ ∧ K = K' ∧ F = L') ?_ ?_
        · skip
          refine CJ.block ?_
          refine CJ.loop (fun s ρ K' L' => ∃ (i283 : Int), i283 = s ∧ Fits [(1, .pointer (some ⟨b168, 0, none⟩)), (3, .int .i64 i283)] ρ ∧ K = K' ∧ L' = Cl b168 28 [.int .i64 xa.1, .slice adxa_1 xa.2.1.length cpxa_1, .slice adxa_2 xa.2.2.1.length cpxa_2, .slice adxa_3 xa.2.2.2.length cpxa_3] :: F) ho260 ⟨0, rfl, ⟨rfl, rfl, trivial⟩, rfl, rfl⟩ ?_
          rintro s ρ _ _ r309 ⟨i283, rfl, hf307, rfl, rfl⟩ h306
          obtain ⟨ρ, rfl⟩ := hf307.ex
          refine CJ.seq ?_
          refine CJ.seq ?_
          refine CJ.region ?_
          refine J.val (v := .int .i64 i283) rfl rfl (V.mv rfl) ?_
          refine J.val rfl rfl (V.fad Try.underlying28 rfl nz23 rfl) ?_
          refine J.val (v := .slice adxa_2 xa.2.2.1.length cpxa_2) rfl rfl (V.ld rfl (Ld.sc sc23 (Rd.cl 0 rfl rfl))) ?_
          refine J.val (v := .int .i64 (((xa.2.2.1.length : Nat) : Int))) rfl rfl (V.len Try.underlying23 rfl) ?_
          refine J.val (v := .bool (decide (i283 < (((xa.2.2.1.length : Nat) : Int))))) rfl rfl (V.lss rfl rfl) ?_
          refine J.nil ?_
          refine CJ.cond rfl (fun hc310 => ?_) (fun hc310 => ?_)
          · have h306 := ct hc310 h306
            refine CJ.skip ?_
            refine CJ.seq ?_
            refine CJ.block ?_
            refine CJ.seq ?_
            refine CJ.region ?_
            refine J.val rfl rfl (V.fad Try.underlying28 rfl nz23 rfl) ?_
            refine J.val (v := .slice adxa_2 xa.2.2.1.length cpxa_2) rfl rfl (V.ld rfl (Ld.sc sc23 (Rd.cl 0 rfl rfl))) ?_
            refine J.val (v := .int .i64 i283) rfl rfl (V.mv rfl) ?_
            obtain ⟨x311, hx312, h306⟩ := ob h306
            obtain ⟨p313, p314, p315⟩ := getI_some hx312
            obtain ⟨b316, o317, e318, a319⟩ := (fxa_2).at p314
            refine J.val rfl rfl (V.iad Try.underlying23 sz26 rfl e318 rfl p313 p315) ?_
            obtain ⟨ad320, cp321, c322, f323⟩ := ((a319).one).sl
            refine J.val (v := .agg #[.slice ad320 x311.length cp321]) rfl rfl (V.ld rfl (Ld.aggK (cs := [.slice ad320 x311.length cp321]) Try.underlying26 sz26 rfl ⟨c322, trivial⟩ (Hp.le_refl _))) ?_
            obtain ⟨r324, hr325, h306⟩ := ob h306
            refine J.op rfl (A.call (L1 := []) Try.call8 rfl (ref15_Few_ok f323 hr325) rfl rfl) ?_
            rintro _ _ _ ⟨v327, _, rfl, ⟨⟨t326, rfl, rfl, rfl⟩, rfl⟩, _, rfl⟩
            refine J.val (v := .bool (!t326)) rfl rfl (V.not rfl) ?_
            refine J.nil ?_
            refine CJ.cond rfl (fun hc330 => ?_) (fun hc330 => ?_)
            · have h306 := ct hc330 h306
              refine CJ.seq ?_
              refine CJ.region ?_
              refine J.val (v := .bool false) rfl rfl (V.as rfl) ?_
              refine J.nil ?_
              refine CJ.ret ?_
              have e := Option.some.inj h306
              subst e
              refine ⟨nofun, fun e => ?_⟩
              subst e
              refine .inr ⟨nofun, ?_⟩
              have e := Option.some.inj h
              subst e
              exact ⟨_, [], Res.one rfl rfl, ⟨false, rfl, rfl, rfl⟩, (Hp.le_refl _), fun w hs => (Sep.dropAt 0 rfl hs)⟩
            · have h306 := cf hc330 h306
              refine CJ.skip ?_
              refine CJ.region ?_
              refine J.val (v := .int .i64 i283) rfl rfl (V.mv rfl) ?_
              refine J.val (v := .int .i64 (IntKind.wrap .i64 (i283 + 1))) rfl rfl (V.add rfl rfl) ?_
              refine J.val (v := .int .i64 (IntKind.wrap .i64 (i283 + 1))) rfl rfl (V.as rfl) ?_
              refine J.nil ?_
              have e := Option.some.inj h306
              subst e
              exact ⟨rfl, ⟨IntKind.wrap .i64 (i283 + 1), rfl, ⟨rfl, rfl, trivial⟩, rfl, rfl⟩⟩
          · have h306 := cf hc310 h306
            refine CJ.dropAt 0 rfl ?_
            refine CJ.exit ?_
            have e := Option.some.inj h306
            subst e
            refine ⟨nofun, fun e => ?_⟩
            subst e
            exact .inl ⟨rfl, _, rfl, ⟨rfl, trivial, rfl, rfl⟩⟩
        · rintro s ρ _ _ ho331 ⟨rfl, hf332, rfl, rfl⟩
          subst ho331
          obtain ⟨ρ, rfl⟩ := hf332.ex
          refine PJ.done ?_
          refine CJ.seq ?_
          refine CJ.region ?_
          refine J.val (v := .bool true) rfl rfl (V.as rfl) ?_
          refine J.nil ?_
          refine CJ.ret ?_
          have e := Option.some.inj h
          subst e
          exact ⟨_, [], Res.one rfl rfl, ⟨true, rfl, rfl, rfl⟩, (Hp.le_refl _), fun w hs => hs⟩
noncomputable def fn_law17_few_l1 (xa : (List (List (Int × Bool)))) : Int → Option (Int ⊕ (Unit ⊕ Bool)) := fun (i244 : Int) => cond (decide (i244 < (((xa.length : Nat) : Int)))) ((getI xa i244).bind fun x272 => (fn_ref15_Few x272 20).bind fun t287 => cond (!t287) (some (.inr ((.inr (false))))) (some (.inl (IntKind.wrap .i64 (i244 + 1))))) (some (.inr ((.inl ()))))
noncomputable def fn_law17_few (xa : (List (List (Int × Bool)))) : Option Bool :=
  cond (decide (20 < (((xa.length : Nat) : Int)))) (some (false)) ((loop (fn_law17_few_l1 xa) 0 : Option (Unit ⊕ Bool)).bind fun o => match o with | .inr r => some r | .inl () => some (true))
set_option maxRecDepth 100000 in
set_option maxHeartbeats 4000000 in
theorem law17_few_ok {K : Hp} {xa : (List (List (Int × Bool)))} {adxa_0 : Option Addr} {cpxa_0 : Nat} (fxa_0 : Is K (.sl (.one (.sl (.cons (.int .i64) (.one .bool))))) [.slice adxa_0 xa.length cpxa_0] xa) {r : Bool} (h : fn_law17_few xa = some r) :
    Tr Try.prog 7 #[.slice adxa_0 xa.length cpxa_0] K [] (fun v K' L' => (∃ (t148 : Bool), t148 = r ∧ .bool t148 = v ∧ L' = []) ∧ K = K') := by
  refine Tr.k ?_
  refine Tr.of Try.func7 rfl Try.ntmps7 rfl (fun E F => ?_)
  unfold fn_law17_few at h
  refine CJ.seq ?_
  refine CJ.region ?_
  refine J.val (v := .bool false) rfl rfl (V.as rfl) ?_
  refine J.nil ?_
  refine CJ.seq ?_
  refine CJ.seq ?_
  refine CJ.region ?_
  refine J.val (v := .slice adxa_0 xa.length cpxa_0) rfl rfl (V.mv rfl) ?_
  refine J.val (v := .int .i64 (((xa.length : Nat) : Int))) rfl rfl (V.len Try.underlying23 rfl) ?_
  refine J.val (v := .bool (decide (20 < (((xa.length : Nat) : Int))))) rfl rfl (V.gtr rfl rfl) ?_
  refine J.nil ?_
  refine CJ.cond rfl (fun hc149 => ?_) (fun hc149 => ?_)
  · have h := ct hc149 h
    refine CJ.seq ?_
    refine CJ.region ?_
    refine J.val (v := .bool false) rfl rfl (V.as rfl) ?_
    refine J.nil ?_
    refine CJ.ret ?_
    have e := Option.some.inj h
    subst e
    exact ⟨_, [], Res.one rfl rfl, ⟨false, rfl, rfl, rfl⟩, (Hp.le_refl _), fun w hs => hs⟩
  · have h := cf hc149 h
    refine CJ.skip ?_
    refine CJ.seq ?_
    refine CJ.seq ?_
    refine CJ.region ?_
    refine J.val (v := .int .i64 0) rfl rfl (V.as rfl) ?_
    refine J.nil ?_
    obtain ⟨o220, ho221, h⟩ := ob h
    refine CJ.joinN (o := o220) (fun s ρ K' L' => () = s ∧ Fits [] ρ ∧ K = K' ∧ F = L') ?_ ?_
    · skip
      refine CJ.block ?_
      refine CJ.loop (fun s ρ K' L' => ∃ (i244 : Int), i244 = s ∧ Fits [(0, .slice adxa_0 xa.length cpxa_0), (3, .int .i64 i244)] ρ ∧ K = K' ∧ F = L') ho221 ⟨0, rfl, ⟨rfl, rfl, trivial⟩, rfl, rfl⟩ ?_
      rintro s ρ _ _ r270 ⟨i244, rfl, hf268, rfl, rfl⟩ h267
      obtain ⟨ρ, rfl⟩ := hf268.ex
      refine CJ.seq ?_
      refine CJ.seq ?_
      refine CJ.region ?_
      refine J.val (v := .int .i64 i244) rfl rfl (V.mv rfl) ?_
      refine J.val (v := .slice adxa_0 xa.length cpxa_0) rfl rfl (V.mv rfl) ?_
      refine J.val (v := .int .i64 (((xa.length : Nat) : Int))) rfl rfl (V.len Try.underlying23 rfl) ?_
      refine J.val (v := .bool (decide (i244 < (((xa.length : Nat) : Int))))) rfl rfl (V.lss rfl rfl) ?_
      refine J.nil ?_
      refine CJ.cond rfl (fun hc271 => ?_) (fun hc271 => ?_)
      · have h267 := ct hc271 h267
        refine CJ.skip ?_
        refine CJ.seq ?_
        refine CJ.block ?_
        refine CJ.seq ?_
        refine CJ.region ?_
        refine J.val (v := .slice adxa_0 xa.length cpxa_0) rfl rfl (V.mv rfl) ?_
        refine J.val (v := .int .i64 i244) rfl rfl (V.mv rfl) ?_
        obtain ⟨x272, hx273, h267⟩ := ob h267
        obtain ⟨p274, p275, p276⟩ := getI_some hx273
        obtain ⟨b277, o278, e279, a280⟩ := (fxa_0).at p275
        refine J.val rfl rfl (V.iad Try.underlying23 sz26 rfl e279 rfl p274 p276) ?_
        obtain ⟨ad281, cp282, c283, f284⟩ := ((a280).one).sl
        refine J.val (v := .agg #[.slice ad281 x272.length cp282]) rfl rfl (V.ld rfl (Ld.aggK (cs := [.slice ad281 x272.length cp282]) Try.underlying26 sz26 rfl ⟨c283, trivial⟩ (Hp.le_refl _))) ?_
        obtain ⟨r285, hr286, h267⟩ := ob h267
        refine J.op rfl (A.call (L1 := []) Try.call8 rfl (ref15_Few_ok f284 hr286) rfl rfl) ?_
        rintro _ _ _ ⟨v288, _, rfl, ⟨⟨t287, rfl, rfl, rfl⟩, rfl⟩, _, rfl⟩
        refine J.val (v := .bool (!t287)) rfl rfl (V.not rfl) ?_
        refine J.nil ?_
        refine CJ.cond rfl (fun hc291 => ?_) (fun hc291 => ?_)
        · have h267 := ct hc291 h267
          refine CJ.seq ?_
          refine CJ.region ?_
          refine J.val (v := .bool false) rfl rfl (V.as rfl) ?_
          refine J.nil ?_
          refine CJ.ret ?_
          have e := Option.some.inj h267
          subst e
          refine ⟨nofun, fun e => ?_⟩
          subst e
          refine .inr ⟨nofun, ?_⟩
          have e := Option.some.inj h
          subst e
          exact ⟨_, [], Res.one rfl rfl, ⟨false, rfl, rfl, rfl⟩, (Hp.le_refl _), fun w hs => hs⟩
        · have h267 := cf hc291 h267
          refine CJ.skip ?_
          refine CJ.region ?_
          refine J.val (v := .int .i64 i244) rfl rfl (V.mv rfl) ?_
          refine J.val (v := .int .i64 (IntKind.wrap .i64 (i244 + 1))) rfl rfl (V.add rfl rfl) ?_
          refine J.val (v := .int .i64 (IntKind.wrap .i64 (i244 + 1))) rfl rfl (V.as rfl) ?_
          refine J.nil ?_
          have e := Option.some.inj h267
          subst e
          exact ⟨rfl, ⟨IntKind.wrap .i64 (i244 + 1), rfl, ⟨rfl, rfl, trivial⟩, rfl, rfl⟩⟩
      · have h267 := cf hc271 h267
        refine CJ.exit ?_
        have e := Option.some.inj h267
        subst e
        refine ⟨nofun, fun e => ?_⟩
        subst e
        exact .inl ⟨rfl, _, rfl, ⟨rfl, trivial, rfl, rfl⟩⟩
    · rintro s ρ _ _ ho292 ⟨rfl, hf293, rfl, rfl⟩
      subst ho292
      obtain ⟨ρ, rfl⟩ := hf293.ex
      refine PJ.done ?_
      refine CJ.seq ?_
      refine CJ.region ?_
      refine J.val (v := .bool true) rfl rfl (V.as rfl) ?_
      refine J.nil ?_
      refine CJ.ret ?_
      have e := Option.some.inj h
      subst e
      exact ⟨_, [], Res.one rfl rfl, ⟨true, rfl, rfl, rfl⟩, (Hp.le_refl _), fun w hs => hs⟩
noncomputable def fn_leb_digits_l1  : (Int × Int) → Option ((Int × Int) ⊕ Int) := fun ((i53, i54) : (Int × Int)) => cond (decide (0 < i53)) (some (.inl ((Int.fdiv i53 (2 ^ (min (Int.toNat 8) (IntKind.bits .i64))), IntKind.wrap .i64 (i54 + 1))))) (some (.inr (i54)))
noncomputable def fn_leb_digits (xa : Int) : Option Int :=
  (loop (fn_leb_digits_l1) (xa, 0) : Option Int).bind fun i47 => some (i47)
set_option maxRecDepth 100000 in
set_option maxHeartbeats 4000000 in
theorem leb_digits_ok {K : Hp} {xa : Int}   {r : Int} (h : fn_leb_digits xa = some r) :
    Tr Try.prog 71 #[.int .i64 xa] K [] (fun v K' L' => (∃ (i33 : Int), i33 = r ∧ .int .i64 i33 = v ∧ L' = []) ∧ K = K') := by
  refine Tr.k ?_
  refine Tr.of Try.func71 rfl Try.ntmps71 rfl (fun E F => ?_)
  unfold fn_leb_digits at h
  refine CJ.seq ?_
  refine CJ.region ?_
  refine J.val (v := .int .i64 0) rfl rfl (V.as rfl) ?_
  refine J.nil ?_
  refine CJ.seq ?_
  refine CJ.region ?_
  refine J.val (v := .int .i64 0) rfl rfl (V.as rfl) ?_
  refine J.nil ?_
  refine CJ.seq ?_
  obtain ⟨o48, ho49, h⟩ := ob h
  refine CJ.meetN (fun ρ K' L' => ∃ (i47 : Int), i47 = o48 ∧ Fits [(3, .int .i64 i47)] ρ ∧ K = K' ∧ F = L') ?_ ?_
  · skip
    refine CJ.block ?_
    refine CJ.loop (fun s ρ K' L' => ∃ (i53 : Int) (i54 : Int), (i53, i54) = s ∧ Fits [(0, .int .i64 i53), (3, .int .i64 i54)] ρ ∧ K = K' ∧ F = L') ho49 ⟨xa, 0, rfl, ⟨rfl, rfl, trivial⟩, rfl, rfl⟩ ?_
    rintro s ρ _ _ r61 ⟨i53, i54, rfl, hf59, rfl, rfl⟩ h58
    obtain ⟨ρ, rfl⟩ := hf59.ex
    refine CJ.seq ?_
    refine CJ.seq ?_
    refine CJ.region ?_
    refine J.val (v := .int .i64 i53) rfl rfl (V.mv rfl) ?_
    refine J.val (v := .bool (decide (0 < i53))) rfl rfl (V.gtr rfl rfl) ?_
    refine J.nil ?_
    refine CJ.cond rfl (fun hc62 => ?_) (fun hc62 => ?_)
    · have h58 := ct hc62 h58
      refine CJ.skip ?_
      refine CJ.seq ?_
      refine CJ.block ?_
      refine CJ.region ?_
      refine J.val (v := .int .i64 i54) rfl rfl (V.mv rfl) ?_
      refine J.val (v := .int .i64 (IntKind.wrap .i64 (i54 + 1))) rfl rfl (V.add rfl rfl) ?_
      refine J.val (v := .int .i64 (IntKind.wrap .i64 (i54 + 1))) rfl rfl (V.as rfl) ?_
      refine J.nil ?_
      refine CJ.region ?_
      refine J.val (v := .int .i64 i53) rfl rfl (V.mv rfl) ?_
      refine J.val (v := .int .i64 (Int.fdiv i53 (2 ^ (min (Int.toNat 8) (IntKind.bits .i64))))) rfl rfl (V.shr rfl rfl (by decide)) ?_
      refine J.val (v := .int .i64 (Int.fdiv i53 (2 ^ (min (Int.toNat 8) (IntKind.bits .i64))))) rfl rfl (V.as rfl) ?_
      refine J.nil ?_
      have e := Option.some.inj h58
      subst e
      exact ⟨rfl, ⟨Int.fdiv i53 (2 ^ (min (Int.toNat 8) (IntKind.bits .i64))), IntKind.wrap .i64 (i54 + 1), rfl, ⟨rfl, rfl, trivial⟩, rfl, rfl⟩⟩
    · have h58 := cf hc62 h58
      refine CJ.exit ?_
      have e := Option.some.inj h58
      subst e
      refine ⟨nofun, fun e => ?_⟩
      subst e
      exact ⟨rfl, ⟨i54, rfl, ⟨rfl, trivial⟩, rfl, rfl⟩⟩
  · rintro ρ _ _ ⟨i47, rfl, hf63, rfl, rfl⟩
    obtain ⟨ρ, rfl⟩ := hf63.ex
    refine PJ.done ?_
    refine CJ.seq ?_
    refine CJ.region ?_
    refine J.val (v := .int .i64 i47) rfl rfl (V.mv rfl) ?_
    refine J.val (v := .int .i64 i47) rfl rfl (V.as rfl) ?_
    refine J.nil ?_
    refine CJ.ret ?_
    have e := Option.some.inj h
    subst e
    exact ⟨_, [], Res.one rfl rfl, ⟨i47, rfl, rfl, rfl⟩, (Hp.le_refl _), fun w hs => hs⟩
noncomputable def fn_leb_Take_l1 (xa : (List UInt8)) (x100 : UInt8) : (Int × Int) → Option ((Int × Int) ⊕ Int) := fun ((i153, i154) : (Int × Int)) => cond (decide (i154 ≤ (IntKind.wrap .i64 ((IntKind.wrap .i64 (((x100.toNat : Nat) : Int))) - 247)))) ((getI xa i154).bind fun x168 => some (.inl ((IntKind.wrap .i64 ((BitVec.ofInt (IntKind.bits .i64) (IntKind.wrap .i64 (i153 * 2 ^ (min (Int.toNat 8) (IntKind.bits .i64)))) ||| BitVec.ofInt (IntKind.bits .i64) (IntKind.wrap .i64 (((x168.toNat : Nat) : Int)))).toNat : Int), IntKind.wrap .i64 (i154 + 1))))) (some (.inr (i153)))
noncomputable def fn_leb_Take (xa : (List UInt8)) : Option (Int × Int × Int) :=
  cond (decide (xa = ([] : List UInt8))) (some ((0, 0, 4))) ((getI xa 0).bind fun x100 => cond (decide ((IntKind.wrap .i64 (((x100.toNat : Nat) : Int))) < 248)) (some ((IntKind.wrap .i64 (((x100.toNat : Nat) : Int)), 1, 0))) ((fn_leb_digits 4294967295).bind fun i108 => cond (decide (i108 < (IntKind.wrap .i64 ((IntKind.wrap .i64 (((x100.toNat : Nat) : Int))) - 247)))) (some ((0, 0, 3))) (cond (decide ((((xa.length : Nat) : Int)) ≤ (IntKind.wrap .i64 ((IntKind.wrap .i64 (((x100.toNat : Nat) : Int))) - 247)))) (some ((0, 0, 4))) ((loop (fn_leb_Take_l1 xa x100) (0, 1) : Option Int).bind fun i142 => (cond (decide (i142 < 248)) (some (true)) ((fn_leb_digits i142).bind fun i187 => some (decide (i187 < (IntKind.wrap .i64 ((IntKind.wrap .i64 (((x100.toNat : Nat) : Int))) - 247)))))).bind fun t182 => cond (t182) (some ((0, 0, 3))) (some ((i142, IntKind.wrap .i64 (1 + (IntKind.wrap .i64 ((IntKind.wrap .i64 (((x100.toNat : Nat) : Int))) - 247))), 0)))))))
set_option maxRecDepth 100000 in
set_option maxHeartbeats 4000000 in
theorem leb_Take_ok {K : Hp} {xa : (List UInt8)}   {r : (Int × Int × Int)} (h : fn_leb_Take xa = some r) :
    Tr Try.prog 61 #[.string ⟨xa.toArray⟩] K [] (fun v K' L' => (∃ (i96 : Int) (i97 : Int) (i98 : Int), (i96, i97, i98) = r ∧ .tuple #[.int .i64 i96, .int .i64 i97, .int .i64 i98] = v ∧ L' = []) ∧ K = K') := by
  refine Tr.k ?_
  refine Tr.of Try.func61 rfl Try.ntmps61 rfl (fun E F => ?_)
  unfold fn_leb_Take at h
  refine CJ.seq ?_
  refine CJ.region ?_
  refine J.val (v := .int .i64 0) rfl rfl (V.as rfl) ?_
  refine J.val (v := .int .i64 0) rfl rfl (V.as rfl) ?_
  refine J.val (v := .int .i64 0) rfl rfl (V.as rfl) ?_
  refine J.nil ?_
  refine CJ.seq ?_
  refine CJ.seq ?_
  refine CJ.region ?_
  refine J.val (v := .string ⟨xa.toArray⟩) rfl rfl (V.mv rfl) ?_
  refine J.val (v := .bool (decide (xa = ([] : List UInt8)))) rfl rfl (V.eqs rfl rfl) ?_
  refine J.nil ?_
  refine CJ.cond rfl (fun hc99 => ?_) (fun hc99 => ?_)
  · have h := ct hc99 h
    refine CJ.seq ?_
    refine CJ.region ?_
    refine J.val (v := .int .i64 0) rfl rfl (V.as rfl) ?_
    refine J.val (v := .int .i64 0) rfl rfl (V.as rfl) ?_
    refine J.val (v := .int .i64 4) rfl rfl (V.as rfl) ?_
    refine J.nil ?_
    refine CJ.ret ?_
    have e := Option.some.inj h
    subst e
    exact ⟨_, [], Res.three rfl rfl rfl rfl, ⟨0, 0, 4, rfl, rfl, rfl⟩, (Hp.le_refl _), fun w hs => hs⟩
  · have h := cf hc99 h
    refine CJ.skip ?_
    refine CJ.seq ?_
    refine CJ.region ?_
    refine J.val (v := .string ⟨xa.toArray⟩) rfl rfl (V.mv rfl) ?_
    obtain ⟨x100, hx101, h⟩ := ob h
    obtain ⟨p102, p103, p104⟩ := getI_some hx101
    refine J.val (v := .int .u8 (((x100.toNat : Nat) : Int))) rfl rfl (V.ixs Try.underlying9 rfl rfl p102 p103) ?_
    refine J.val (v := .int .i64 (IntKind.wrap .i64 (((x100.toNat : Nat) : Int)))) rfl rfl (V.conv Try.underlying5 Try.underlying3 rfl) ?_
    refine J.val (v := .int .i64 (IntKind.wrap .i64 (((x100.toNat : Nat) : Int)))) rfl rfl (V.as rfl) ?_
    refine J.nil ?_
    refine CJ.seq ?_
    refine CJ.seq ?_
    refine CJ.region ?_
    refine J.val (v := .int .i64 (IntKind.wrap .i64 (((x100.toNat : Nat) : Int)))) rfl rfl (V.mv rfl) ?_
    refine J.val (v := .bool (decide ((IntKind.wrap .i64 (((x100.toNat : Nat) : Int))) < 248))) rfl rfl (V.lss rfl rfl) ?_
    refine J.nil ?_
    refine CJ.cond rfl (fun hc105 => ?_) (fun hc105 => ?_)
    · have h := ct hc105 h
      refine CJ.seq ?_
      refine CJ.region ?_
      refine J.val (v := .int .i64 (IntKind.wrap .i64 (((x100.toNat : Nat) : Int)))) rfl rfl (V.mv rfl) ?_
      refine J.val (v := .int .i64 (IntKind.wrap .i64 (((x100.toNat : Nat) : Int)))) rfl rfl (V.as rfl) ?_
      refine J.val (v := .int .i64 1) rfl rfl (V.as rfl) ?_
      refine J.val (v := .int .i64 0) rfl rfl (V.as rfl) ?_
      refine J.nil ?_
      refine CJ.ret ?_
      have e := Option.some.inj h
      subst e
      exact ⟨_, [], Res.three rfl rfl rfl rfl, ⟨IntKind.wrap .i64 (((x100.toNat : Nat) : Int)), 1, 0, rfl, rfl, rfl⟩, (Hp.le_refl _), fun w hs => hs⟩
    · have h := cf hc105 h
      refine CJ.skip ?_
      refine CJ.seq ?_
      refine CJ.region ?_
      refine J.val (v := .int .i64 (IntKind.wrap .i64 (((x100.toNat : Nat) : Int)))) rfl rfl (V.mv rfl) ?_
      refine J.val (v := .int .i64 (IntKind.wrap .i64 ((IntKind.wrap .i64 (((x100.toNat : Nat) : Int))) - 247))) rfl rfl (V.sub rfl rfl) ?_
      refine J.val (v := .int .i64 (IntKind.wrap .i64 ((IntKind.wrap .i64 (((x100.toNat : Nat) : Int))) - 247))) rfl rfl (V.as rfl) ?_
      refine J.nil ?_
      refine CJ.seq ?_
      refine CJ.seq ?_
      refine CJ.region ?_
      refine J.val (v := .int .i64 (IntKind.wrap .i64 ((IntKind.wrap .i64 (((x100.toNat : Nat) : Int))) - 247))) rfl rfl (V.mv rfl) ?_
      obtain ⟨r106, hr107, h⟩ := ob h
      refine J.op rfl (A.call (L1 := []) Try.call71 rfl (leb_digits_ok hr107) rfl rfl) ?_
      rintro _ _ _ ⟨v109, _, rfl, ⟨⟨i108, rfl, rfl, rfl⟩, rfl⟩, _, rfl⟩
      refine J.val (v := .bool (decide (i108 < (IntKind.wrap .i64 ((IntKind.wrap .i64 (((x100.toNat : Nat) : Int))) - 247))))) rfl rfl (V.gtr rfl rfl) ?_
      refine J.nil ?_
      refine CJ.cond rfl (fun hc112 => ?_) (fun hc112 => ?_)
      · have h := ct hc112 h
        refine CJ.seq ?_
        refine CJ.region ?_
        refine J.val (v := .int .i64 0) rfl rfl (V.as rfl) ?_
        refine J.val (v := .int .i64 0) rfl rfl (V.as rfl) ?_
        refine J.val (v := .int .i64 3) rfl rfl (V.as rfl) ?_
        refine J.nil ?_
        refine CJ.ret ?_
        have e := Option.some.inj h
        subst e
        exact ⟨_, [], Res.three rfl rfl rfl rfl, ⟨0, 0, 3, rfl, rfl, rfl⟩, (Hp.le_refl _), fun w hs => hs⟩
      · have h := cf hc112 h
        refine CJ.skip ?_
        refine CJ.seq ?_
        refine CJ.seq ?_
        refine CJ.region ?_
        refine J.val (v := .string ⟨xa.toArray⟩) rfl rfl (V.mv rfl) ?_
        refine J.val (v := .int .i64 (((xa.length : Nat) : Int))) rfl rfl (V.lens Try.underlying9 rfl) ?_
        refine J.val (v := .int .i64 (IntKind.wrap .i64 ((IntKind.wrap .i64 (((x100.toNat : Nat) : Int))) - 247))) rfl rfl (V.mv rfl) ?_
        refine J.val (v := .bool (decide ((((xa.length : Nat) : Int)) ≤ (IntKind.wrap .i64 ((IntKind.wrap .i64 (((x100.toNat : Nat) : Int))) - 247))))) rfl rfl (V.leq rfl rfl) ?_
        refine J.nil ?_
        refine CJ.cond rfl (fun hc113 => ?_) (fun hc113 => ?_)
        · have h := ct hc113 h
          refine CJ.seq ?_
          refine CJ.region ?_
          refine J.val (v := .int .i64 0) rfl rfl (V.as rfl) ?_
          refine J.val (v := .int .i64 0) rfl rfl (V.as rfl) ?_
          refine J.val (v := .int .i64 4) rfl rfl (V.as rfl) ?_
          refine J.nil ?_
          refine CJ.ret ?_
          have e := Option.some.inj h
          subst e
          exact ⟨_, [], Res.three rfl rfl rfl rfl, ⟨0, 0, 4, rfl, rfl, rfl⟩, (Hp.le_refl _), fun w hs => hs⟩
        · have h := cf hc113 h
          refine CJ.skip ?_
          refine CJ.seq ?_
          refine CJ.region ?_
          refine J.val (v := .int .i64 0) rfl rfl (V.as rfl) ?_
          refine J.nil ?_
          refine CJ.seq ?_
          refine CJ.seq ?_
          refine CJ.region ?_
          refine J.val (v := .int .i64 1) rfl rfl (V.as rfl) ?_
          refine J.nil ?_
          obtain ⟨o143, ho144, h⟩ := ob h
          refine CJ.meetN (fun ρ K' L' => ∃ (i142 : Int), i142 = o143 ∧ Fits [(6, .int .i64 (IntKind.wrap .i64 ((IntKind.wrap .i64 (((x100.toNat : Nat) : Int))) - 247))), (7, .int .i64 i142)] ρ ∧ K = K' ∧ F = L') ?_ ?_
          · skip
            refine CJ.block ?_
            refine CJ.loop (fun s ρ K' L' => ∃ (i153 : Int) (i154 : Int), (i153, i154) = s ∧ Fits [(0, .string ⟨xa.toArray⟩), (6, .int .i64 (IntKind.wrap .i64 ((IntKind.wrap .i64 (((x100.toNat : Nat) : Int))) - 247))), (7, .int .i64 i153), (8, .int .i64 i154)] ρ ∧ K = K' ∧ F = L') ho144 ⟨0, 1, rfl, ⟨rfl, rfl, rfl, rfl, trivial⟩, rfl, rfl⟩ ?_
            rintro s ρ _ _ r166 ⟨i153, i154, rfl, hf164, rfl, rfl⟩ h163
            obtain ⟨ρ, rfl⟩ := hf164.ex
            refine CJ.seq ?_
            refine CJ.seq ?_
            refine CJ.region ?_
            refine J.val (v := .int .i64 i154) rfl rfl (V.mv rfl) ?_
            refine J.val (v := .int .i64 (IntKind.wrap .i64 ((IntKind.wrap .i64 (((x100.toNat : Nat) : Int))) - 247))) rfl rfl (V.mv rfl) ?_
            refine J.val (v := .bool (decide (i154 ≤ (IntKind.wrap .i64 ((IntKind.wrap .i64 (((x100.toNat : Nat) : Int))) - 247))))) rfl rfl (V.leq rfl rfl) ?_
            refine J.nil ?_
            refine CJ.cond rfl (fun hc167 => ?_) (fun hc167 => ?_)
            · have h163 := ct hc167 h163
              refine CJ.skip ?_
              refine CJ.seq ?_
              refine CJ.block ?_
              refine CJ.region ?_
              refine J.val (v := .int .i64 i153) rfl rfl (V.mv rfl) ?_
              refine J.val (v := .int .i64 (IntKind.wrap .i64 (i153 * 2 ^ (min (Int.toNat 8) (IntKind.bits .i64))))) rfl rfl (V.shl rfl rfl (by decide)) ?_
              refine J.val (v := .string ⟨xa.toArray⟩) rfl rfl (V.mv rfl) ?_
              refine J.val (v := .int .i64 i154) rfl rfl (V.mv rfl) ?_
              obtain ⟨x168, hx169, h163⟩ := ob h163
              obtain ⟨p170, p171, p172⟩ := getI_some hx169
              refine J.val (v := .int .u8 (((x168.toNat : Nat) : Int))) rfl rfl (V.ixs Try.underlying9 rfl rfl p170 p171) ?_
              refine J.val (v := .int .i64 (IntKind.wrap .i64 (((x168.toNat : Nat) : Int)))) rfl rfl (V.conv Try.underlying5 Try.underlying3 rfl) ?_
              refine J.val (v := .int .i64 (IntKind.wrap .i64 ((BitVec.ofInt (IntKind.bits .i64) (IntKind.wrap .i64 (i153 * 2 ^ (min (Int.toNat 8) (IntKind.bits .i64)))) ||| BitVec.ofInt (IntKind.bits .i64) (IntKind.wrap .i64 (((x168.toNat : Nat) : Int)))).toNat : Int))) rfl rfl (V.or rfl rfl) ?_
              refine J.val (v := .int .i64 (IntKind.wrap .i64 ((BitVec.ofInt (IntKind.bits .i64) (IntKind.wrap .i64 (i153 * 2 ^ (min (Int.toNat 8) (IntKind.bits .i64)))) ||| BitVec.ofInt (IntKind.bits .i64) (IntKind.wrap .i64 (((x168.toNat : Nat) : Int)))).toNat : Int))) rfl rfl (V.as rfl) ?_
              refine J.nil ?_
              refine CJ.region ?_
              refine J.val (v := .int .i64 i154) rfl rfl (V.mv rfl) ?_
              refine J.val (v := .int .i64 (IntKind.wrap .i64 (i154 + 1))) rfl rfl (V.add rfl rfl) ?_
              refine J.val (v := .int .i64 (IntKind.wrap .i64 (i154 + 1))) rfl rfl (V.as rfl) ?_
              refine J.nil ?_
              have e := Option.some.inj h163
              subst e
              exact ⟨rfl, ⟨IntKind.wrap .i64 ((BitVec.ofInt (IntKind.bits .i64) (IntKind.wrap .i64 (i153 * 2 ^ (min (Int.toNat 8) (IntKind.bits .i64)))) ||| BitVec.ofInt (IntKind.bits .i64) (IntKind.wrap .i64 (((x168.toNat : Nat) : Int)))).toNat : Int), IntKind.wrap .i64 (i154 + 1), rfl, ⟨rfl, rfl, rfl, rfl, trivial⟩, rfl, rfl⟩⟩
            · have h163 := cf hc167 h163
              refine CJ.exit ?_
              have e := Option.some.inj h163
              subst e
              refine ⟨nofun, fun e => ?_⟩
              subst e
              exact ⟨rfl, ⟨i153, rfl, ⟨rfl, rfl, trivial⟩, rfl, rfl⟩⟩
          · rintro ρ _ _ ⟨i142, rfl, hf173, rfl, rfl⟩
            obtain ⟨ρ, rfl⟩ := hf173.ex
            refine PJ.done ?_
            refine CJ.seq ?_
            refine CJ.seq ?_
            refine CJ.region ?_
            refine J.val (v := .int .i64 i142) rfl rfl (V.mv rfl) ?_
            refine J.val (v := .bool (decide (i142 < 248))) rfl rfl (V.lss rfl rfl) ?_
            refine J.val (v := .bool (decide (i142 < 248))) rfl rfl (V.mv rfl) ?_
            refine J.cut 5 ?_
            obtain ⟨t182, ht183, h⟩ := ob h
            refine @J.meet _ _ _ _ _ _ _ _ _ _ (fun ρ K' L' => Fits [(45, .bool t182), (6, .int .i64 (IntKind.wrap .i64 ((IntKind.wrap .i64 (((x100.toNat : Nat) : Int))) - 247))), (7, .int .i64 i142)] ρ ∧ K = K' ∧ F = L') ?_ ?_
            · skip
              rcases bt (decide (i142 < 248)) with hc184 | hc184
              · have ht183 := ct hc184 ht183
                refine J.skip rfl rfl rfl rfl hc184 ?_
                refine J.skip rfl rfl rfl rfl hc184 ?_
                refine J.skip rfl rfl rfl rfl hc184 ?_
                refine J.skip rfl rfl rfl rfl hc184 ?_
                refine J.val (v := .bool true) rfl rfl (V.pickT rfl hc184 rfl) ?_
                refine J.nil ?_
                have e := Option.some.inj ht183
                subst e
                exact ⟨rfl, ⟨rfl, rfl, rfl, trivial⟩, rfl, rfl⟩
              · have ht183 := cf hc184 ht183
                refine J.run rfl rfl rfl hc184 ?_
                refine J.val (v := .int .i64 i142) rfl rfl (V.mv rfl) ?_
                refine J.run rfl rfl rfl hc184 ?_
                obtain ⟨r185, hr186, ht183⟩ := ob ht183
                refine J.op rfl (A.call (L1 := []) Try.call71 rfl (leb_digits_ok hr186) rfl rfl) ?_
                rintro _ _ _ ⟨v188, _, rfl, ⟨⟨i187, rfl, rfl, rfl⟩, rfl⟩, _, rfl⟩
                refine J.run rfl rfl rfl hc184 ?_
                refine J.val (v := .int .i64 (IntKind.wrap .i64 ((IntKind.wrap .i64 (((x100.toNat : Nat) : Int))) - 247))) rfl rfl (V.mv rfl) ?_
                refine J.run rfl rfl rfl hc184 ?_
                refine J.val (v := .bool (decide (i187 < (IntKind.wrap .i64 ((IntKind.wrap .i64 (((x100.toNat : Nat) : Int))) - 247))))) rfl rfl (V.lss rfl rfl) ?_
                refine J.val (v := .bool (decide (i187 < (IntKind.wrap .i64 ((IntKind.wrap .i64 (((x100.toNat : Nat) : Int))) - 247))))) rfl rfl (V.pickF rfl hc184 rfl) ?_
                refine J.nil ?_
                have e := Option.some.inj ht183
                subst e
                exact ⟨rfl, ⟨rfl, rfl, rfl, trivial⟩, rfl, rfl⟩
            · rintro ρ _ _ ⟨hf, rfl, rfl⟩
              obtain ⟨ρ, rfl⟩ := hf.ex
              refine J.nil ?_
              refine CJ.cond rfl (fun hc191 => ?_) (fun hc191 => ?_)
              · have h := ct hc191 h
                refine CJ.seq ?_
                refine CJ.region ?_
                refine J.val (v := .int .i64 0) rfl rfl (V.as rfl) ?_
                refine J.val (v := .int .i64 0) rfl rfl (V.as rfl) ?_
                refine J.val (v := .int .i64 3) rfl rfl (V.as rfl) ?_
                refine J.nil ?_
                refine CJ.ret ?_
                have e := Option.some.inj h
                subst e
                exact ⟨_, [], Res.three rfl rfl rfl rfl, ⟨0, 0, 3, rfl, rfl, rfl⟩, (Hp.le_refl _), fun w hs => hs⟩
              · have h := cf hc191 h
                refine CJ.skip ?_
                refine CJ.seq ?_
                refine CJ.region ?_
                refine J.val (v := .int .i64 i142) rfl rfl (V.mv rfl) ?_
                refine J.val (v := .int .i64 (IntKind.wrap .i64 ((IntKind.wrap .i64 (((x100.toNat : Nat) : Int))) - 247))) rfl rfl (V.mv rfl) ?_
                refine J.val (v := .int .i64 (IntKind.wrap .i64 (1 + (IntKind.wrap .i64 ((IntKind.wrap .i64 (((x100.toNat : Nat) : Int))) - 247))))) rfl rfl (V.add rfl rfl) ?_
                refine J.val (v := .int .i64 i142) rfl rfl (V.as rfl) ?_
                refine J.val (v := .int .i64 (IntKind.wrap .i64 (1 + (IntKind.wrap .i64 ((IntKind.wrap .i64 (((x100.toNat : Nat) : Int))) - 247))))) rfl rfl (V.as rfl) ?_
                refine J.val (v := .int .i64 0) rfl rfl (V.as rfl) ?_
                refine J.nil ?_
                refine CJ.ret ?_
                have e := Option.some.inj h
                subst e
                exact ⟨_, [], Res.three rfl rfl rfl rfl, ⟨i142, IntKind.wrap .i64 (1 + (IntKind.wrap .i64 ((IntKind.wrap .i64 (((x100.toNat : Nat) : Int))) - 247))), 0, rfl, rfl, rfl⟩, (Hp.le_refl _), fun w hs => hs⟩

noncomputable def fn_sig_reader_number_p0_si (qa0 : List UInt8) (qa1 : Int) : Option (Int × Int × Int) :=
  (subL qa0 qa1 (((qa0.length : Nat) : Int))).bind fun y35 => (fn_leb_Take y35).bind fun (i39, i40, i41) => some ((i39, i41, IntKind.wrap .i64 (qa1 + i40)))
set_option maxRecDepth 100000 in
set_option maxHeartbeats 4000000 in
theorem sig_reader_number_p0_si_ok {K : Hp} {qa0 : List UInt8} {qa1 : Int} {pba : Nat}  {r : (Int × Int × Int)} (h : fn_sig_reader_number_p0_si qa0 qa1 = some r) :
    Tr Try.prog 43 #[.pointer (some ⟨pba, 0, none⟩)] K [Cl pba 74 [.string ⟨qa0.toArray⟩, .int .i64 qa1]] (fun v K' L' => (∃ (i22 : Int) (i23 : Int) (i24 : Int), (i22, i23, i24) = r ∧ .tuple #[.int .i64 i22, .int .i64 i23] = v ∧ L' = [Cl pba 74 [.string ⟨qa0.toArray⟩, .int .i64 i24]]) ∧ K = K') := by
  refine Tr.k ?_
  refine Tr.of Try.func43 rfl Try.ntmps43 rfl (fun E F => ?_)
  unfold fn_sig_reader_number_p0_si at h
  refine CJ.seq ?_
  refine CJ.region ?_
  refine J.val (v := .int .i64 0) rfl rfl (V.as rfl) ?_
  refine J.val (v := .int .i64 0) rfl rfl (V.as rfl) ?_
  refine J.nil ?_
  refine CJ.seq ?_
  refine CJ.mix [Cl pba 74 [.string ⟨qa0.toArray⟩, .int .i64 qa1]] [([0, 1, 2, 3, 4, 5, 6, 7, 8], 9)] [10, 11, 12, 13, 14, 15, 16] [] mixO (by decide +kernel) ⟨0, rfl, trivial⟩ rfl rfl rfl ?_
  refine JM.cons ?_
  refine JQ.val rfl rfl (V.mv rfl) ?_
  refine JQ.val rfl rfl (V.nck rfl) ?_
  refine JQ.val rfl rfl (V.fad Try.underlying74 rfl nz9 rfl) ?_
  refine JQ.val (v := .string ⟨qa0.toArray⟩) rfl rfl (V.ld rfl (Ld.sc sc9 (Rd.cl 0 rfl rfl))) ?_
  refine JQ.val rfl rfl (V.mv rfl) ?_
  refine JQ.val rfl rfl (V.nck rfl) ?_
  refine JQ.val rfl rfl (V.fad Try.underlying74 rfl nz3 rfl) ?_
  refine JQ.val (v := .int .i64 qa1) rfl rfl (V.ld rfl (Ld.sc sc3 (Rd.cl 0 rfl rfl))) ?_
  obtain ⟨y35, hy36, h⟩ := ob h
  refine JQ.val (v := .string ⟨y35.toArray⟩) rfl rfl (V.subs Try.underlying9 rfl (fun _ h => by cases h; exact ⟨_, rfl⟩) nofun nofun (fun _ => rfl) hy36) ?_
  refine JQ.nil ?_
  obtain ⟨r37, hr38, h⟩ := ob h
  refine JA.op rfl (A.call (L1 := []) Try.call61 rfl (leb_Take_ok hr38) rfl rfl) ?_
  rintro _ _ _ ⟨v42, _, rfl, ⟨⟨i39, i40, i41, rfl, rfl, rfl⟩, rfl⟩, _, rfl⟩
  refine ⟨fun w hs => Hold.sub (Hp.le_refl _) ⟨0, rfl, trivial⟩ hs, ?_⟩
  refine JM.nil ?_
  refine JQ.val (v := .tuple #[.int .i64 i39, .int .i64 i40, .int .i64 i41]) rfl rfl (V.mv rfl) ?_
  refine JQ.val (v := .int .i64 i39) rfl rfl (V.ext rfl rfl) ?_
  refine JQ.val (v := .int .i64 i40) rfl rfl (V.ext rfl rfl) ?_
  refine JQ.val (v := .int .i64 i41) rfl rfl (V.ext rfl rfl) ?_
  refine JQ.val (v := .int .i64 i39) rfl rfl (V.as rfl) ?_
  refine JQ.val (v := .int .i64 i40) rfl rfl (V.as rfl) ?_
  refine JQ.val (v := .int .i64 i41) rfl rfl (V.as rfl) ?_
  refine JQ.nil ?_
  refine J.nil ?_
  refine CJ.seq ?_
  refine CJ.region ?_
  refine J.val rfl rfl (V.mv rfl) ?_
  refine J.val rfl rfl (V.nck rfl) ?_
  refine J.val rfl rfl (V.fad Try.underlying74 rfl nz3 rfl) ?_
  refine J.val (v := .int .i64 qa1) rfl rfl (V.ld rfl (Ld.sc sc3 (Rd.cl 0 rfl rfl))) ?_
  refine J.val (v := .int .i64 i40) rfl rfl (V.mv rfl) ?_
  refine J.val (v := .int .i64 (IntKind.wrap .i64 (qa1 + i40))) rfl rfl (V.add rfl rfl) ?_
  refine J.val rfl rfl (V.nck rfl) ?_
  refine J.val rfl rfl (V.fad Try.underlying74 rfl nz3 rfl) ?_
  refine J.op rfl (A.store1 (v := .int .i64 (IntKind.wrap .i64 (qa1 + i40))) (cs' := [.string ⟨qa0.toArray⟩, .int .i64 (IntKind.wrap .i64 (qa1 + i40))]) sz3 rfl rfl rfl rfl rfl rfl) ?_
  rintro _ _ _ ⟨rfl, rfl, rfl⟩
  refine J.nil ?_
  refine CJ.seq ?_
  refine CJ.region ?_
  refine J.val (v := .int .i64 i39) rfl rfl (V.mv rfl) ?_
  refine J.val (v := .int .i64 i41) rfl rfl (V.mv rfl) ?_
  refine J.val (v := .int .i64 i39) rfl rfl (V.as rfl) ?_
  refine J.val (v := .int .i64 i41) rfl rfl (V.as rfl) ?_
  refine J.nil ?_
  refine CJ.ret ?_
  have e := Option.some.inj h
  subst e
  exact ⟨_, [Cl pba 74 [.string ⟨qa0.toArray⟩, .int .i64 (IntKind.wrap .i64 (qa1 + i40))]], Res.two rfl rfl rfl, ⟨i39, i41, IntKind.wrap .i64 (qa1 + i40), rfl, rfl, rfl⟩, (Hp.le_refl _), fun w hs => hs⟩

noncomputable def fn_sig_reader_many_p0i_si (xb : Int) (qa0 : List UInt8) (qa1 : Int) : Option (Int × Int × Int) :=
  (fn_sig_reader_number_p0_si qa0 qa1).bind fun (i18, i19, i20) => cond ((decide (i19 = 0)) && (decide (xb < i18))) (some ((0, 6, i20))) (some ((i18, i19, i20)))
set_option maxRecDepth 100000 in
set_option maxHeartbeats 4000000 in
theorem sig_reader_many_p0i_si_ok {K : Hp} {xb : Int} {qa0 : List UInt8} {qa1 : Int} {pba : Nat}  {r : (Int × Int × Int)} (h : fn_sig_reader_many_p0i_si xb qa0 qa1 = some r) :
    Tr Try.prog 60 #[.pointer (some ⟨pba, 0, none⟩), .int .i64 xb] K [Cl pba 74 [.string ⟨qa0.toArray⟩, .int .i64 qa1]] (fun v K' L' => (∃ (i13 : Int) (i14 : Int) (i15 : Int), (i13, i14, i15) = r ∧ .tuple #[.int .i64 i13, .int .i64 i14] = v ∧ L' = [Cl pba 74 [.string ⟨qa0.toArray⟩, .int .i64 i15]]) ∧ K = K') := by
  refine Tr.k ?_
  refine Tr.of Try.func60 rfl Try.ntmps60 rfl (fun E F => ?_)
  unfold fn_sig_reader_many_p0i_si at h
  refine CJ.seq ?_
  refine CJ.region ?_
  refine J.val (v := .int .i64 0) rfl rfl (V.as rfl) ?_
  refine J.val (v := .int .i64 0) rfl rfl (V.as rfl) ?_
  refine J.nil ?_
  refine CJ.seq ?_
  refine CJ.region ?_
  refine J.val rfl rfl (V.mv rfl) ?_
  obtain ⟨r16, hr17, h⟩ := ob h
  refine J.op rfl (A.call (L1 := [Cl pba 74 [.string ⟨qa0.toArray⟩, .int .i64 qa1]]) Try.call43 rfl (sig_reader_number_p0_si_ok hr17) rfl rfl) ?_
  rintro _ _ _ ⟨v21, _, rfl, ⟨⟨i18, i19, i20, rfl, rfl, rfl⟩, rfl⟩, _, rfl⟩
  refine J.val (v := .tuple #[.int .i64 i18, .int .i64 i19]) rfl rfl (V.mv rfl) ?_
  refine J.val (v := .int .i64 i18) rfl rfl (V.ext rfl rfl) ?_
  refine J.val (v := .int .i64 i19) rfl rfl (V.ext rfl rfl) ?_
  refine J.val (v := .int .i64 i18) rfl rfl (V.as rfl) ?_
  refine J.val (v := .int .i64 i19) rfl rfl (V.as rfl) ?_
  refine J.nil ?_
  refine CJ.seq ?_
  refine CJ.seq ?_
  refine CJ.region ?_
  refine J.val (v := .int .i64 i19) rfl rfl (V.mv rfl) ?_
  refine J.val (v := .bool (decide (i19 = 0))) rfl rfl (V.eql rfl rfl) ?_
  refine J.val (v := .bool (decide (i19 = 0))) rfl rfl (V.mv rfl) ?_
  refine J.cut 4 ?_
  refine @J.meet _ _ _ _ _ _ _ _ _ _ (fun ρ K' L' => Fits [(19, .bool ((decide (i19 = 0)) && (decide (xb < i18)))), (6, .int .i64 i18), (7, .int .i64 i19)] ρ ∧ K = K' ∧ L' = Cl pba 74 [.string ⟨qa0.toArray⟩, .int .i64 i20] :: F) ?_ ?_
  · skip
    rcases bt (decide (i19 = 0)) with hc26 | hc26
    · skip
      refine J.run rfl rfl rfl hc26 ?_
      refine J.val (v := .int .i64 i18) rfl rfl (V.mv rfl) ?_
      refine J.run rfl rfl rfl hc26 ?_
      refine J.val (v := .int .i64 xb) rfl rfl (V.mv rfl) ?_
      refine J.run rfl rfl rfl hc26 ?_
      refine J.val (v := .bool (decide (xb < i18))) rfl rfl (V.gtr rfl rfl) ?_
      refine J.val (v := .bool (decide (xb < i18))) rfl rfl (V.pickT rfl hc26 rfl) ?_
      refine J.nil ?_
      exact ⟨rfl, ⟨(by simp only [hc26]; rfl), rfl, rfl, trivial⟩, rfl, rfl⟩
    · skip
      refine J.skip rfl rfl rfl rfl hc26 ?_
      refine J.skip rfl rfl rfl rfl hc26 ?_
      refine J.skip rfl rfl rfl rfl hc26 ?_
      refine J.val (v := .bool false) rfl rfl (V.pickF rfl hc26 rfl) ?_
      refine J.nil ?_
      exact ⟨rfl, ⟨(by simp only [hc26]; rfl), rfl, rfl, trivial⟩, rfl, rfl⟩
  · rintro ρ _ _ ⟨hf, rfl, rfl⟩
    obtain ⟨ρ, rfl⟩ := hf.ex
    refine J.nil ?_
    refine CJ.cond rfl (fun hc27 => ?_) (fun hc27 => ?_)
    · have h := ct hc27 h
      refine CJ.seq ?_
      refine CJ.region ?_
      refine J.val (v := .int .i64 0) rfl rfl (V.as rfl) ?_
      refine J.val (v := .int .i64 6) rfl rfl (V.as rfl) ?_
      refine J.nil ?_
      refine CJ.ret ?_
      have e := Option.some.inj h
      subst e
      exact ⟨_, [Cl pba 74 [.string ⟨qa0.toArray⟩, .int .i64 i20]], Res.two rfl rfl rfl, ⟨0, 6, i20, rfl, rfl, rfl⟩, (Hp.le_refl _), fun w hs => hs⟩
    · have h := cf hc27 h
      refine CJ.skip ?_
      refine CJ.seq ?_
      refine CJ.region ?_
      refine J.val (v := .int .i64 i18) rfl rfl (V.mv rfl) ?_
      refine J.val (v := .int .i64 i19) rfl rfl (V.mv rfl) ?_
      refine J.val (v := .int .i64 i18) rfl rfl (V.as rfl) ?_
      refine J.val (v := .int .i64 i19) rfl rfl (V.as rfl) ?_
      refine J.nil ?_
      refine CJ.ret ?_
      have e := Option.some.inj h
      subst e
      exact ⟨_, [Cl pba 74 [.string ⟨qa0.toArray⟩, .int .i64 i20]], Res.two rfl rfl rfl, ⟨i18, i19, i20, rfl, rfl, rfl⟩, (Hp.le_refl _), fun w hs => hs⟩
noncomputable def fn_sig_reader_typ_p0_si_l1 (qa0 : List UInt8) (i221 : Int) : (Int × Int × Int × (List (Int × Bool))) → Option ((Int × Int × Int × (List (Int × Bool))) ⊕ (Int × Int × (List (Int × Bool)))) := fun ((i361, i362, i363, l364) : (Int × Int × Int × (List (Int × Bool)))) => cond ((decide (i362 < i221)) && (decide (i361 = 0))) ((fn_sig_reader_number_p0_si qa0 i363).bind fun (i409, i410, i411) => (app l364 (([(IntKind.wrap .i64 (Int.tdiv i409 2), decide ((Int.tmod i409 2) = 1))] : List (Int × Bool)))).bind fun z418 => some (.inl ((i410, IntKind.wrap .i64 (i362 + 1), i411, z418)))) (some (.inr (((i361, i363, l364)))))
noncomputable def fn_sig_reader_typ_p0_si (qa0 : List UInt8) (qa1 : Int) : Option (((List (Int × Bool)) × Int × Int)) :=
  (fn_sig_reader_many_p0i_si 16 qa0 qa1).bind fun (i221, i222, i223) => (loop (fn_sig_reader_typ_p0_si_l1 qa0 i221) (i222, 0, i223, []) : Option ((Int × Int × (List (Int × Bool))))).bind fun (i321, i322, l323) => some ((l323, i321, i322))
set_option maxRecDepth 100000 in
set_option maxHeartbeats 4000000 in
theorem sig_reader_typ_p0_si_ok {K : Hp} {qa0 : List UInt8} {qa1 : Int} {pba : Nat}  {r : ((List (Int × Bool)) × Int × Int)} (h : fn_sig_reader_typ_p0_si qa0 qa1 = some r) :
    Tr Try.prog 39 #[.pointer (some ⟨pba, 0, none⟩)] K [Cl pba 74 [.string ⟨qa0.toArray⟩, .int .i64 qa1]] (fun v K' L' => (∃ (l210 : (List (Int × Bool))) (i215 : Int) (i216 : Int) (ad211 : Option Addr) (cp212 : Nat), (l210, i215, i216) = r ∧ .tuple #[.agg #[.slice ad211 l210.length cp212], .int .i64 i215] = v ∧ L' = [Cl pba 74 [.string ⟨qa0.toArray⟩, .int .i64 i216], Row Hp.nil 60 (.cons (.int .i64) (.one .bool)) (.slice ad211 l210.length cp212) l210]) ∧ K = K') := by
  refine Tr.k ?_
  refine Tr.of Try.func39 rfl Try.ntmps39 rfl (fun E F => ?_)
  unfold fn_sig_reader_typ_p0_si at h
  refine CJ.seq ?_
  refine CJ.region ?_
  refine J.op rfl (A.alloc (cs := [.slice none 0 0]) inf26 rfl) ?_
  rintro _ _ _ ⟨b217, rfl, rfl, rfl⟩
  refine J.val (v := .int .i64 0) rfl rfl (V.as rfl) ?_
  refine J.nil ?_
  refine CJ.seq ?_
  refine CJ.region ?_
  refine J.op rfl (A.alloc (cs := [.slice none 0 0]) inf26 rfl) ?_
  rintro _ _ _ ⟨b218, rfl, rfl, rfl⟩
  refine J.nil ?_
  refine CJ.seq ?_
  refine CJ.region ?_
  refine J.val rfl rfl (V.mv rfl) ?_
  obtain ⟨r219, hr220, h⟩ := ob h
  refine J.front 2 rfl ?_
  refine J.op rfl (A.call (L1 := [Cl pba 74 [.string ⟨qa0.toArray⟩, .int .i64 qa1]]) Try.call60 rfl (sig_reader_many_p0i_si_ok hr220) rfl rfl) ?_
  rintro _ _ _ ⟨v224, _, rfl, ⟨⟨i221, i222, i223, rfl, rfl, rfl⟩, rfl⟩, _, rfl⟩
  refine J.val (v := .tuple #[.int .i64 i221, .int .i64 i222]) rfl rfl (V.mv rfl) ?_
  refine J.val (v := .int .i64 i221) rfl rfl (V.ext rfl rfl) ?_
  refine J.val (v := .int .i64 i222) rfl rfl (V.ext rfl rfl) ?_
  refine J.val (v := .int .i64 i221) rfl rfl (V.as rfl) ?_
  refine J.val (v := .int .i64 i222) rfl rfl (V.as rfl) ?_
  refine J.nil ?_
  refine CJ.seq ?_
  refine CJ.seq ?_
  refine CJ.region ?_
  refine J.val (v := .int .i64 0) rfl rfl (V.as rfl) ?_
  refine J.nil ?_
  obtain ⟨o328, ho329, h⟩ := ob h
  refine CJ.meetN (fun ρ K' L' => ∃ (i321 : Int) (i322 : Int) (l323 : (List (Int × Bool))) (ad324 : Option Addr) (cp325 : Nat), (i321, i322, l323) = o328 ∧ Fits [(2, .pointer (some ⟨b217, 0, none⟩)), (4, .pointer (some ⟨b218, 0, none⟩)), (6, .int .i64 i321)] ρ ∧ K = K' ∧ L' = Cl pba 74 [.string ⟨qa0.toArray⟩, .int .i64 i322] :: Cl b217 26 [.slice none 0 0] :: Cl b218 26 [.slice ad324 l323.length cp325] :: Row Hp.nil 60 (.cons (.int .i64) (.one .bool)) (.slice ad324 l323.length cp325) l323 :: F) ?_ ?_
  · skip
    refine CJ.block ?_
    refine CJ.by (fun w hs => Sep.rowNil (e := 60) (t := (.cons (.int .i64) (.one .bool))) hs) ?_
    refine CJ.front 2 rfl ?_
    refine CJ.front 3 rfl ?_
    refine CJ.front 3 rfl ?_
    refine CJ.loop (fun s ρ K' L' => ∃ (i361 : Int) (i362 : Int) (i363 : Int) (l364 : (List (Int × Bool))) (ad365 : Option Addr) (cp366 : Nat), (i361, i362, i363, l364) = s ∧ Fits [(0, .pointer (some ⟨pba, 0, none⟩)), (2, .pointer (some ⟨b217, 0, none⟩)), (4, .pointer (some ⟨b218, 0, none⟩)), (5, .int .i64 i221), (6, .int .i64 i361), (7, .int .i64 i362)] ρ ∧ K = K' ∧ L' = Cl pba 74 [.string ⟨qa0.toArray⟩, .int .i64 i363] :: Cl b217 26 [.slice none 0 0] :: Cl b218 26 [.slice ad365 l364.length cp366] :: Row Hp.nil 60 (.cons (.int .i64) (.one .bool)) (.slice ad365 l364.length cp366) l364 :: F) ho329 ⟨i222, 0, i223, [], none, 0, rfl, ⟨rfl, rfl, rfl, rfl, rfl, rfl, trivial⟩, rfl, rfl⟩ ?_
    rintro s ρ _ _ r402 ⟨i361, i362, i363, l364, ad365, cp366, rfl, hf400, rfl, rfl⟩ h398
    obtain ⟨ρ, rfl⟩ := hf400.ex
    refine CJ.front 3 rfl ?_
    refine CJ.wit Row.hn (fun hn368 => ?_)
    refine CJ.seq ?_
    refine CJ.seq ?_
    refine CJ.region ?_
    refine J.val (v := .int .i64 i362) rfl rfl (V.mv rfl) ?_
    refine J.val (v := .int .i64 i221) rfl rfl (V.mv rfl) ?_
    refine J.val (v := .bool (decide (i362 < i221))) rfl rfl (V.lss rfl rfl) ?_
    refine J.val (v := .bool (decide (i362 < i221))) rfl rfl (V.mv rfl) ?_
    refine J.cut 3 ?_
    refine @J.meet _ _ _ _ _ _ _ _ _ _ (fun ρ K' L' => Fits [(20, .bool ((decide (i362 < i221)) && (decide (i361 = 0)))), (0, .pointer (some ⟨pba, 0, none⟩)), (2, .pointer (some ⟨b217, 0, none⟩)), (4, .pointer (some ⟨b218, 0, none⟩)), (5, .int .i64 i221), (6, .int .i64 i361), (7, .int .i64 i362)] ρ ∧ K = K' ∧ L' = Row Hp.nil 60 (.cons (.int .i64) (.one .bool)) (.slice ad365 l364.length cp366) l364 :: Cl pba 74 [.string ⟨qa0.toArray⟩, .int .i64 i363] :: Cl b217 26 [.slice none 0 0] :: Cl b218 26 [.slice ad365 l364.length cp366] :: F) ?_ ?_
    · skip
      rcases bt (decide (i362 < i221)) with hc405 | hc405
      · skip
        refine J.run rfl rfl rfl hc405 ?_
        refine J.val (v := .int .i64 i361) rfl rfl (V.mv rfl) ?_
        refine J.run rfl rfl rfl hc405 ?_
        refine J.val (v := .bool (decide (i361 = 0))) rfl rfl (V.eql rfl rfl) ?_
        refine J.val (v := .bool (decide (i361 = 0))) rfl rfl (V.pickT rfl hc405 rfl) ?_
        refine J.nil ?_
        exact ⟨rfl, ⟨(by simp only [hc405]; rfl), rfl, rfl, rfl, rfl, rfl, rfl, trivial⟩, rfl, rfl⟩
      · skip
        refine J.skip rfl rfl rfl rfl hc405 ?_
        refine J.skip rfl rfl rfl rfl hc405 ?_
        refine J.val (v := .bool false) rfl rfl (V.pickF rfl hc405 rfl) ?_
        refine J.nil ?_
        exact ⟨rfl, ⟨(by simp only [hc405]; rfl), rfl, rfl, rfl, rfl, rfl, rfl, trivial⟩, rfl, rfl⟩
    · rintro ρ _ _ ⟨hf, rfl, rfl⟩
      obtain ⟨ρ, rfl⟩ := hf.ex
      refine J.nil ?_
      refine CJ.cond rfl (fun hc406 => ?_) (fun hc406 => ?_)
      · have h398 := ct hc406 h398
        refine CJ.skip ?_
        refine CJ.seq ?_
        refine CJ.block ?_
        refine CJ.seq ?_
        refine CJ.region ?_
        refine J.val (v := .int .i64 0) rfl rfl (V.as rfl) ?_
        refine J.nil ?_
        refine CJ.seq ?_
        refine CJ.region ?_
        refine J.val rfl rfl (V.mv rfl) ?_
        obtain ⟨r407, hr408, h398⟩ := ob h398
        refine J.front 1 rfl ?_
        refine J.op rfl (A.call (L1 := [Cl pba 74 [.string ⟨qa0.toArray⟩, .int .i64 i363]]) Try.call43 rfl (sig_reader_number_p0_si_ok hr408) rfl rfl) ?_
        rintro _ _ _ ⟨v412, _, rfl, ⟨⟨i409, i410, i411, rfl, rfl, rfl⟩, rfl⟩, _, rfl⟩
        refine J.val (v := .tuple #[.int .i64 i409, .int .i64 i410]) rfl rfl (V.mv rfl) ?_
        refine J.val (v := .int .i64 i409) rfl rfl (V.ext rfl rfl) ?_
        refine J.val (v := .int .i64 i410) rfl rfl (V.ext rfl rfl) ?_
        refine J.val (v := .int .i64 i409) rfl rfl (V.as rfl) ?_
        refine J.val (v := .int .i64 i410) rfl rfl (V.as rfl) ?_
        refine J.nil ?_
        refine CJ.region ?_
        refine J.val rfl rfl (V.fad Try.underlying26 rfl nz24 rfl) ?_
        refine J.val (v := .slice ad365 l364.length cp366) rfl rfl (V.ld rfl (Ld.sc sc24 (Rd.cl 3 rfl rfl))) ?_
        refine J.val (v := .int .i64 i409) rfl rfl (V.mv rfl) ?_
        refine J.val (v := .int .i64 (IntKind.wrap .i64 (Int.tdiv i409 2))) rfl rfl (V.quo rfl rfl (by decide)) ?_
        refine J.val (v := .int .i64 i409) rfl rfl (V.mv rfl) ?_
        refine J.val (v := .int .i64 (Int.tmod i409 2)) rfl rfl (V.rem rfl rfl (by decide)) ?_
        refine J.val (v := .bool (decide ((Int.tmod i409 2) = 1))) rfl rfl (V.eql rfl rfl) ?_
        refine J.val (v := .agg #[.int .i64 (IntKind.wrap .i64 (Int.tdiv i409 2)), .bool (decide ((Int.tmod i409 2) = 1))]) rfl rfl (V.build inf60 places60 rfl rfl) ?_
        refine J.op rfl (A.lit (K0 := Hp.nil) (ty := (.cons (.int .i64) (.one .bool))) (xs := ([(IntKind.wrap .i64 (Int.tdiv i409 2), decide ((Int.tmod i409 2) = 1))] : List (Int × Bool))) Try.underlying24 inf60 rfl (by decide) rfl rfl rfl ⟨_, _, rfl, ⟨_, _, rfl, rfl, rfl, rfl⟩, rfl⟩ rfl (by decide)) ?_
        rintro _ _ _ ⟨b415, rfl, rfl, rfl⟩
        have hn416 : ([(IntKind.wrap .i64 (Int.tdiv i409 2), decide ((Int.tmod i409 2) = 1))] : List (Int × Bool)) ≠ [] → ∃ g, (some ⟨b415, 0, none⟩ : Option Addr) = some ⟨g, 0, none⟩ := fun _ => ⟨b415, rfl⟩
        obtain ⟨z418, hz419, h398⟩ := ob h398
        refine J.front 2 rfl ?_
        refine J.op rfl (A.appR (Kr := Hp.nil) Try.underlying24 inf60 rfl rfl (by decide) (by decide) rfl rfl (Els.flat rfl) (Els.flat rfl) hz419) ?_
        rintro _ _ _ ⟨v420, rfl, rfl, rfl⟩
        refine J.wit Row.form ?_
        rintro ⟨ad421, cp422, rfl, _, _, hn423⟩
        refine J.val rfl rfl (V.fad Try.underlying26 rfl nz24 rfl) ?_
        refine J.front 3 rfl ?_
        refine J.op rfl (A.store1 (v := .slice ad421 z418.length cp422) (cs' := [.slice ad421 z418.length cp422]) sz24 rfl rfl rfl rfl rfl rfl) ?_
        rintro _ _ _ ⟨rfl, rfl, rfl⟩
        refine J.nil ?_
        refine CJ.region ?_
        refine J.val (v := .int .i64 i362) rfl rfl (V.mv rfl) ?_
        refine J.val (v := .int .i64 (IntKind.wrap .i64 (i362 + 1))) rfl rfl (V.add rfl rfl) ?_
        refine J.val (v := .int .i64 (IntKind.wrap .i64 (i362 + 1))) rfl rfl (V.as rfl) ?_
        refine J.front 1 rfl ?_
        refine J.front 1 rfl ?_
        refine J.front 3 rfl ?_
        refine J.front 3 rfl ?_
        refine J.nil ?_
        have e := Option.some.inj h398
        subst e
        exact ⟨rfl, ⟨i410, IntKind.wrap .i64 (i362 + 1), i411, z418, ad421, cp422, rfl, ⟨rfl, rfl, rfl, rfl, rfl, rfl, trivial⟩, rfl, rfl⟩⟩
      · have h398 := cf hc406 h398
        refine CJ.front 3 rfl ?_
        refine CJ.front 3 rfl ?_
        refine CJ.front 3 rfl ?_
        refine CJ.exit ?_
        have e := Option.some.inj h398
        subst e
        refine ⟨nofun, fun e => ?_⟩
        subst e
        exact ⟨rfl, ⟨i361, i363, l364, ad365, cp366, rfl, ⟨rfl, rfl, rfl, trivial⟩, rfl, rfl⟩⟩
  · rintro ρ _ _ ⟨i321, i322, l323, ad324, cp325, rfl, hf424, rfl, rfl⟩
    obtain ⟨ρ, rfl⟩ := hf424.ex
    refine PJ.front 3 rfl ?_
    refine PJ.wit Row.hn (fun hn327 => ?_)
    refine PJ.done ?_
    refine CJ.seq ?_
    refine CJ.region ?_
    refine J.val (v := .agg #[.slice ad324 l323.length cp325]) rfl rfl (V.ld rfl (Ld.agg (cs := [.slice ad324 l323.length cp325]) Try.underlying26 sz26 rfl (Rd.cls 3 0 rfl rfl))) ?_
    refine J.val (v := .int .i64 i321) rfl rfl (V.mv rfl) ?_
    refine J.front 2 rfl ?_
    refine J.op rfl (A.store (v := .agg #[.slice ad324 l323.length cp325]) (cs' := [.slice ad324 l323.length cp325]) sz26 rfl rfl rfl rfl rfl rfl) ?_
    rintro _ _ _ ⟨rfl, rfl, rfl⟩
    refine J.val (v := .int .i64 i321) rfl rfl (V.as rfl) ?_
    refine J.nil ?_
    refine CJ.ret ?_
    have e := Option.some.inj h
    subst e
    exact ⟨_, [Cl pba 74 [.string ⟨qa0.toArray⟩, .int .i64 i322], Row Hp.nil 60 (.cons (.int .i64) (.one .bool)) (.slice ad324 l323.length cp325) l323], Res.two rfl ⟨_, _, rfl, Ld.agg (cs := [.slice ad324 l323.length cp325]) Try.underlying26 sz26 rfl (Rd.cls 0 0 rfl rfl)⟩ rfl, ⟨l323, i321, i322, ad324, cp325, rfl, rfl, rfl⟩, (Hp.le_refl _), fun w hs => (Sep.front 1 rfl (Sep.dropAt 2 rfl (Sep.dropAt 0 rfl hs)))⟩

noncomputable def fn_sig_TakeType (xa : (List UInt8)) : Option (((List (Int × Bool)) × Int × Int)) :=
  (fn_sig_reader_typ_p0_si xa 0).bind fun (l28, i29, i30) => cond (!decide (i29 = 0)) (some (([], 0, i29))) (some ((l28, i30, 0)))
set_option maxRecDepth 100000 in
set_option maxHeartbeats 4000000 in
theorem sig_TakeType_ok {K : Hp} {xa : (List UInt8)}   {r : ((List (Int × Bool)) × Int × Int)} (h : fn_sig_TakeType xa = some r) :
    Tr Try.prog 16 #[.string ⟨xa.toArray⟩] K [] (fun v K' L' => (∃ (l17 : (List (Int × Bool))) (i22 : Int) (i23 : Int) (ad18 : Option Addr) (cp19 : Nat), (l17, i22, i23) = r ∧ .tuple #[.agg #[.slice ad18 l17.length cp19], .int .i64 i22, .int .i64 i23] = v ∧ L' = [Row Hp.nil 60 (.cons (.int .i64) (.one .bool)) (.slice ad18 l17.length cp19) l17]) ∧ K = K') := by
  refine Tr.k ?_
  refine Tr.of Try.func16 rfl Try.ntmps16 rfl (fun E F => ?_)
  unfold fn_sig_TakeType at h
  refine CJ.seq ?_
  refine CJ.region ?_
  refine J.op rfl (A.alloc (cs := [.slice none 0 0]) inf26 rfl) ?_
  rintro _ _ _ ⟨b24, rfl, rfl, rfl⟩
  refine J.val (v := .int .i64 0) rfl rfl (V.as rfl) ?_
  refine J.val (v := .int .i64 0) rfl rfl (V.as rfl) ?_
  refine J.nil ?_
  refine CJ.seq ?_
  refine CJ.region ?_
  refine J.val (v := .string ⟨xa.toArray⟩) rfl rfl (V.mv rfl) ?_
  refine J.val (v := .agg #[.string ⟨xa.toArray⟩, .int .i64 0]) rfl rfl (V.build inf74 places74 rfl rfl) ?_
  refine J.op rfl (A.alloc (cs := [.string ⟨([] : List UInt8).toArray⟩, .int .i64 0]) inf74 rfl) ?_
  rintro _ _ _ ⟨b25, rfl, rfl, rfl⟩
  refine J.op rfl (A.store (v := .agg #[.string ⟨xa.toArray⟩, .int .i64 0]) (cs' := [.string ⟨xa.toArray⟩, .int .i64 0]) sz74 rfl rfl rfl rfl rfl rfl) ?_
  rintro _ _ _ ⟨rfl, rfl, rfl⟩
  refine J.nil ?_
  refine CJ.seq ?_
  refine CJ.region ?_
  obtain ⟨r26, hr27, h⟩ := ob h
  refine J.op rfl (A.call (L1 := [Cl b25 74 [.string ⟨xa.toArray⟩, .int .i64 0]]) Try.call39 rfl (sig_reader_typ_p0_si_ok hr27) rfl rfl) ?_
  rintro _ _ _ ⟨v34, _, rfl, ⟨⟨l28, i29, i30, ad31, cp32, rfl, rfl, rfl⟩, rfl⟩, _, rfl⟩
  refine J.front 1 rfl ?_
  refine J.wit Row.hn (fun hn33 => ?_)
  refine J.val (v := .tuple #[.agg #[.slice ad31 l28.length cp32], .int .i64 i29]) rfl rfl (V.mv rfl) ?_
  refine J.val (v := .agg #[.slice ad31 l28.length cp32]) rfl rfl (V.ext rfl rfl) ?_
  refine J.val (v := .int .i64 i29) rfl rfl (V.ext rfl rfl) ?_
  refine J.op rfl (A.alloc (cs := [.slice none 0 0]) inf26 rfl) ?_
  rintro _ _ _ ⟨b38, rfl, rfl, rfl⟩
  refine J.op rfl (A.store (v := .agg #[.slice ad31 l28.length cp32]) (cs' := [.slice ad31 l28.length cp32]) sz26 rfl rfl rfl rfl rfl rfl) ?_
  rintro _ _ _ ⟨rfl, rfl, rfl⟩
  refine J.val (v := .int .i64 i29) rfl rfl (V.as rfl) ?_
  refine J.nil ?_
  refine CJ.seq ?_
  refine CJ.seq ?_
  refine CJ.region ?_
  refine J.val (v := .int .i64 i29) rfl rfl (V.mv rfl) ?_
  refine J.val (v := .bool (!decide (i29 = 0))) rfl rfl (V.neq rfl rfl) ?_
  refine J.nil ?_
  refine CJ.cond rfl (fun hc39 => ?_) (fun hc39 => ?_)
  · have h := ct hc39 h
    refine CJ.seq ?_
    refine CJ.region ?_
    refine J.val (v := .agg #[.slice none 0 0]) rfl rfl (V.build inf26 places26 rfl rfl) ?_
    refine J.val (v := .int .i64 i29) rfl rfl (V.mv rfl) ?_
    refine J.front 3 rfl ?_
    refine J.op rfl (A.store (v := .agg #[.slice none 0 0]) (cs' := [.slice none 0 0]) sz26 rfl rfl rfl rfl rfl rfl) ?_
    rintro _ _ _ ⟨rfl, rfl, rfl⟩
    refine J.val (v := .int .i64 0) rfl rfl (V.as rfl) ?_
    refine J.val (v := .int .i64 i29) rfl rfl (V.as rfl) ?_
    refine J.nil ?_
    refine CJ.by (fun w hs => Sep.rowNil (e := 60) (t := (.cons (.int .i64) (.one .bool))) hs) ?_
    refine CJ.ret ?_
    have e := Option.some.inj h
    subst e
    exact ⟨_, [Row Hp.nil 60 (.cons (.int .i64) (.one .bool)) (.slice none ((([] : List (Int × Bool))).length) 0) (([] : List (Int × Bool)))], Res.three rfl ⟨_, _, rfl, Ld.agg (cs := [.slice none 0 0]) Try.underlying26 sz26 rfl (Rd.cls 1 0 rfl rfl)⟩ rfl rfl, ⟨[], 0, i29, none, 0, rfl, rfl, rfl⟩, (Hp.le_refl _), fun w hs => (Sep.dropAt 1 rfl (Sep.dropAt 1 rfl (Sep.dropAt 1 rfl (Sep.dropAt 1 rfl hs))))⟩
  · have h := cf hc39 h
    refine CJ.skip ?_
    refine CJ.seq ?_
    refine CJ.mix [Cl b38 26 [.slice ad31 l28.length cp32], Row Hp.nil 60 (.cons (.int .i64) (.one .bool)) (.slice ad31 l28.length cp32) l28, Cl b25 74 [.string ⟨xa.toArray⟩, .int .i64 i30]] [([0, 1, 2], 3)] [4, 5] [] mixO (by decide +kernel) ⟨0, rfl, 0, rfl, 0, rfl, trivial⟩ rfl rfl rfl ?_
    refine JM.cons ?_
    refine JQ.val (v := .agg #[.slice ad31 l28.length cp32]) rfl rfl (V.ld rfl (Ld.agg (cs := [.slice ad31 l28.length cp32]) Try.underlying26 sz26 rfl (Rd.cls 0 0 rfl rfl))) ?_
    refine JQ.val rfl rfl (V.fad Try.underlying74 rfl nz3 rfl) ?_
    refine JQ.val (v := .int .i64 i30) rfl rfl (V.ld rfl (Ld.sc sc3 (Rd.cl 2 rfl rfl))) ?_
    refine JQ.nil ?_
    refine JA.front 3 rfl ?_
    refine JA.op rfl (A.store (v := .agg #[.slice ad31 l28.length cp32]) (cs' := [.slice ad31 l28.length cp32]) sz26 rfl rfl rfl rfl rfl rfl) ?_
    rintro _ _ _ ⟨rfl, rfl, rfl⟩
    refine ⟨fun w hs => Hold.sub (Hp.le_refl _) ⟨1, rfl, 1, rfl, 1, rfl, trivial⟩ hs, ?_⟩
    refine JM.nil ?_
    refine JQ.val (v := .int .i64 i30) rfl rfl (V.as rfl) ?_
    refine JQ.val (v := .int .i64 0) rfl rfl (V.as rfl) ?_
    refine JQ.nil ?_
    refine J.nil ?_
    refine CJ.ret ?_
    have e := Option.some.inj h
    subst e
    exact ⟨_, [Row Hp.nil 60 (.cons (.int .i64) (.one .bool)) (.slice ad31 l28.length cp32) l28], Res.three rfl ⟨_, _, rfl, Ld.agg (cs := [.slice ad31 l28.length cp32]) Try.underlying26 sz26 rfl (Rd.cls 0 0 rfl rfl)⟩ rfl rfl, ⟨l28, i30, 0, ad31, cp32, rfl, rfl, rfl⟩, (Hp.le_refl _), fun w hs => (Sep.dropAt 1 rfl (Sep.dropAt 0 rfl (Sep.dropAt 0 rfl hs)))⟩

noncomputable def fn_leb_Size (xa : Int) : Option Int :=
  cond ((decide (xa < 0)) || (decide (4294967295 < xa))) (some (0)) (cond (decide (xa < 248)) (some (1)) ((fn_leb_digits xa).bind fun i21 => some (IntKind.wrap .i64 (1 + i21))))
set_option maxRecDepth 100000 in
set_option maxHeartbeats 4000000 in
theorem leb_Size_ok {K : Hp} {xa : Int}   {r : Int} (h : fn_leb_Size xa = some r) :
    Tr Try.prog 63 #[.int .i64 xa] K [] (fun v K' L' => (∃ (i13 : Int), i13 = r ∧ .int .i64 i13 = v ∧ L' = []) ∧ K = K') := by
  refine Tr.k ?_
  refine Tr.of Try.func63 rfl Try.ntmps63 rfl (fun E F => ?_)
  unfold fn_leb_Size at h
  refine CJ.seq ?_
  refine CJ.region ?_
  refine J.val (v := .int .i64 0) rfl rfl (V.as rfl) ?_
  refine J.nil ?_
  refine CJ.seq ?_
  refine CJ.block ?_
  refine CJ.seq ?_
  refine CJ.region ?_
  refine J.val (v := .int .i64 xa) rfl rfl (V.mv rfl) ?_
  refine J.val (v := .bool (decide (xa < 0))) rfl rfl (V.lss rfl rfl) ?_
  refine J.val (v := .bool (decide (xa < 0))) rfl rfl (V.mv rfl) ?_
  refine J.cut 3 ?_
  refine @J.meet _ _ _ _ _ _ _ _ _ _ (fun ρ K' L' => Fits [(9, .bool ((decide (xa < 0)) || (decide (4294967295 < xa)))), (0, .int .i64 xa)] ρ ∧ K = K' ∧ F = L') ?_ ?_
  · skip
    rcases bt (decide (xa < 0)) with hc16 | hc16
    · skip
      refine J.skip rfl rfl rfl rfl hc16 ?_
      refine J.skip rfl rfl rfl rfl hc16 ?_
      refine J.val (v := .bool true) rfl rfl (V.pickT rfl hc16 rfl) ?_
      refine J.nil ?_
      exact ⟨rfl, ⟨(by simp only [hc16]; rfl), rfl, trivial⟩, rfl, rfl⟩
    · skip
      refine J.run rfl rfl rfl hc16 ?_
      refine J.val (v := .int .i64 xa) rfl rfl (V.mv rfl) ?_
      refine J.run rfl rfl rfl hc16 ?_
      refine J.val (v := .bool (decide (4294967295 < xa))) rfl rfl (V.gtr rfl rfl) ?_
      refine J.val (v := .bool (decide (4294967295 < xa))) rfl rfl (V.pickF rfl hc16 rfl) ?_
      refine J.nil ?_
      exact ⟨rfl, ⟨(by simp only [hc16]; rfl), rfl, trivial⟩, rfl, rfl⟩
  · rintro ρ _ _ ⟨hf, rfl, rfl⟩
    obtain ⟨ρ, rfl⟩ := hf.ex
    refine J.val (v := .bool ((decide (xa < 0)) || (decide (4294967295 < xa)))) rfl rfl (V.as rfl) ?_
    refine J.nil ?_
    refine CJ.cond rfl (fun hc17 => ?_) (fun hc17 => ?_)
    · have h := ct hc17 h
      refine CJ.seq ?_
      refine CJ.region ?_
      refine J.val (v := .int .i64 0) rfl rfl (V.as rfl) ?_
      refine J.nil ?_
      refine CJ.ret ?_
      have e := Option.some.inj h
      subst e
      exact ⟨_, [], Res.one rfl rfl, ⟨0, rfl, rfl, rfl⟩, (Hp.le_refl _), fun w hs => hs⟩
    · have h := cf hc17 h
      refine CJ.seq ?_
      refine CJ.region ?_
      refine J.val (v := .int .i64 xa) rfl rfl (V.mv rfl) ?_
      refine J.val (v := .bool (decide (xa < 248))) rfl rfl (V.lss rfl rfl) ?_
      refine J.val (v := .bool (decide (xa < 248))) rfl rfl (V.as rfl) ?_
      refine J.nil ?_
      refine CJ.cond rfl (fun hc18 => ?_) (fun hc18 => ?_)
      · have h := ct hc18 h
        refine CJ.seq ?_
        refine CJ.region ?_
        refine J.val (v := .int .i64 1) rfl rfl (V.as rfl) ?_
        refine J.nil ?_
        refine CJ.ret ?_
        have e := Option.some.inj h
        subst e
        exact ⟨_, [], Res.one rfl rfl, ⟨1, rfl, rfl, rfl⟩, (Hp.le_refl _), fun w hs => hs⟩
      · have h := cf hc18 h
        refine CJ.skip ?_
        refine CJ.seq ?_
        refine CJ.region ?_
        refine J.val (v := .int .i64 xa) rfl rfl (V.mv rfl) ?_
        obtain ⟨r19, hr20, h⟩ := ob h
        refine J.op rfl (A.call (L1 := []) Try.call71 rfl (leb_digits_ok hr20) rfl rfl) ?_
        rintro _ _ _ ⟨v22, _, rfl, ⟨⟨i21, rfl, rfl, rfl⟩, rfl⟩, _, rfl⟩
        refine J.val (v := .int .i64 (IntKind.wrap .i64 (1 + i21))) rfl rfl (V.add rfl rfl) ?_
        refine J.val (v := .int .i64 (IntKind.wrap .i64 (1 + i21))) rfl rfl (V.as rfl) ?_
        refine J.nil ?_
        refine CJ.ret ?_
        have e := Option.some.inj h
        subst e
        exact ⟨_, [], Res.one rfl rfl, ⟨IntKind.wrap .i64 (1 + i21), rfl, rfl, rfl⟩, (Hp.le_refl _), fun w hs => hs⟩
noncomputable def fn_leb_All_l1 (x997 : Int) : (Int × List UInt8) → Option ((Int × List UInt8) ⊕ List UInt8) := fun ((i1059, s1060) : (Int × List UInt8)) => cond (decide (0 ≤ i1059)) ((ge0 i1059).bind fun u1074 => (wrB s1060 (IntKind.wrap .u8 (Int.fdiv x997 (2 ^ (min (Int.toNat i1059) (IntKind.bits .i64)))))).bind fun s1076 => some (.inl ((IntKind.wrap .i64 (i1059 - 8), s1076)))) (some (.inr (s1060)))
noncomputable def fn_leb_All_l2 (xa : (List Int)) : (Int × List UInt8) → Option ((Int × List UInt8) ⊕ List UInt8) := fun ((i903, s904) : (Int × List UInt8)) => cond (decide (i903 < (((xa.length : Nat) : Int)))) ((getI xa i903).bind fun x997 => (fn_leb_Size x997).bind fun i1008 => cond (decide (i1008 = 0)) (some (.inl ((IntKind.wrap .i64 (i903 + 1), s904)))) (cond (decide (i1008 = 1)) ((wrB s904 (IntKind.wrap .u8 x997)).bind fun s1014 => some (.inl ((IntKind.wrap .i64 (i903 + 1), s1014)))) ((wrB s904 (IntKind.wrap .u8 (IntKind.wrap .i64 ((IntKind.wrap .i64 (247 + i1008)) - 1)))).bind fun s1017 => (loop (fn_leb_All_l1 x997) ((IntKind.wrap .i64 (8 * (IntKind.wrap .i64 (i1008 - 2))), s1017)) : Option (List UInt8)).bind fun s1048 => some (.inl ((IntKind.wrap .i64 (i903 + 1), s1048)))))) (some (.inr (s904)))
noncomputable def fn_leb_All (xa : (List Int)) : Option (List UInt8) :=
  (loop (fn_leb_All_l2 xa) ((0, ([] : List UInt8))) : Option (List UInt8)).bind fun s813 => ((some s813 : Option (List UInt8))).bind fun s1083 => some (s1083)
set_option maxRecDepth 100000 in
set_option maxHeartbeats 4000000 in
theorem leb_All_ok {K : Hp} {xa : (List Int)} {adxa_0 : Option Addr} {cpxa_0 : Nat} (fxa_0 : Is K (.sl (.int .i64)) [.slice adxa_0 xa.length cpxa_0] xa) {r : List UInt8} (h : fn_leb_All xa = some r) :
    Tr Try.prog 53 #[.slice adxa_0 xa.length cpxa_0] K [] (fun v K' L' => (∃ (s546 : List UInt8), s546 = r ∧ .string ⟨s546.toArray⟩ = v ∧ L' = []) ∧ K = K') := by
  refine Tr.k ?_
  refine Tr.of Try.func53 rfl Try.ntmps53 rfl (fun E F => ?_)
  unfold fn_leb_All at h
  refine CJ.seq ?_
  refine CJ.region ?_
  refine J.val (v := .string ⟨([] : List UInt8).toArray⟩) rfl rfl (V.as rfl) ?_
  refine J.nil ?_
  refine CJ.seq ?_
  refine CJ.region ?_
  refine J.op rfl (A.alloc (cs := [.pointer none, .slice none 0 0]) inf89 rfl) ?_
  rintro _ _ _ ⟨b547, rfl, rfl, rfl⟩
  refine J.by (fun w hs => Bld.fresh hs) ?_
  refine J.nil ?_
  refine CJ.seq ?_
  refine CJ.seq ?_
  refine CJ.region ?_
  refine J.val (v := .slice adxa_0 xa.length cpxa_0) rfl rfl (V.mv rfl) ?_
  refine J.val (v := .int .i64 (((xa.length : Nat) : Int))) rfl rfl (V.len Try.underlying29 rfl) ?_
  refine J.val (v := .int .i64 0) rfl rfl (V.mv rfl) ?_
  refine J.nil ?_
  obtain ⟨o814, ho815, h⟩ := ob h
  refine CJ.meetN (fun ρ K' L' => ∃ (s813 : List UInt8), s813 = o814 ∧ Fits [(3, .pointer (some ⟨b547, 0, none⟩))] ρ ∧ K = K' ∧ L' = Bld b547 s813 :: F) ?_ ?_
  · skip
    refine CJ.block ?_
    refine CJ.loop (fun s ρ K' L' => ∃ (i903 : Int) (s904 : List UInt8), (i903, s904) = s ∧ Fits [(3, .pointer (some ⟨b547, 0, none⟩)), (8, .slice adxa_0 xa.length cpxa_0), (9, .int .i64 (((xa.length : Nat) : Int))), (10, .int .i64 i903)] ρ ∧ K = K' ∧ L' = Bld b547 s904 :: F) ho815 ⟨0, ([] : List UInt8), rfl, ⟨rfl, rfl, rfl, rfl, trivial⟩, rfl, rfl⟩ ?_
    rintro s ρ _ _ r995 ⟨i903, s904, rfl, hf993, rfl, rfl⟩ h992
    obtain ⟨ρ, rfl⟩ := hf993.ex
    refine CJ.seq ?_
    refine CJ.region ?_
    refine J.val (v := .bool (decide (i903 < (((xa.length : Nat) : Int))))) rfl rfl (V.lss rfl rfl) ?_
    refine J.nil ?_
    refine CJ.seq ?_
    refine CJ.cond rfl (fun hc996 => ?_) (fun hc996 => ?_)
    · have h992 := ct hc996 h992
      refine CJ.skip ?_
      refine CJ.seq ?_
      refine CJ.block ?_
      refine CJ.seq ?_
      refine CJ.region ?_
      obtain ⟨x997, hx998, h992⟩ := ob h992
      obtain ⟨p999, p1000, p1001⟩ := getI_some hx998
      obtain ⟨b1002, o1003, e1004, a1005⟩ := (fxa_0).at p1000
      refine J.val rfl rfl (V.iad Try.underlying29 sz3 rfl e1004 rfl p999 p1001) ?_
      refine J.val (v := .int .i64 x997) rfl rfl (V.ld rfl (Ld.sc sc3 (Rd.k (a1005).int (Hp.le_refl _)))) ?_
      refine J.val (v := .int .i64 x997) rfl rfl (V.as rfl) ?_
      refine J.nil ?_
      refine CJ.seq ?_
      refine CJ.region ?_
      refine J.val (v := .int .i64 x997) rfl rfl (V.mv rfl) ?_
      obtain ⟨r1006, hr1007, h992⟩ := ob h992
      refine J.op rfl (A.call (L1 := []) Try.call63 rfl (leb_Size_ok hr1007) rfl rfl) ?_
      rintro _ _ _ ⟨v1009, _, rfl, ⟨⟨i1008, rfl, rfl, rfl⟩, rfl⟩, _, rfl⟩
      refine J.val (v := .int .i64 i1008) rfl rfl (V.as rfl) ?_
      refine J.nil ?_
      refine CJ.seq ?_
      refine CJ.region ?_
      refine J.val (v := .int .i64 i1008) rfl rfl (V.mv rfl) ?_
      refine J.nil ?_
      refine CJ.block ?_
      refine CJ.seq ?_
      refine CJ.region ?_
      refine J.val (v := .bool (decide (i1008 = 0))) rfl rfl (V.eql rfl rfl) ?_
      refine J.val (v := .bool (decide (i1008 = 0))) rfl rfl (V.as rfl) ?_
      refine J.nil ?_
      refine CJ.cond rfl (fun hc1012 => ?_) (fun hc1012 => ?_)
      · have h992 := ct hc1012 h992
        refine CJ.skip ?_
        refine CJ.region ?_
        refine J.val (v := .int .i64 (IntKind.wrap .i64 (i903 + 1))) rfl rfl (V.add rfl rfl) ?_
        refine J.val (v := .int .i64 (IntKind.wrap .i64 (i903 + 1))) rfl rfl (V.mv rfl) ?_
        refine J.nil ?_
        have e := Option.some.inj h992
        subst e
        exact ⟨rfl, ⟨IntKind.wrap .i64 (i903 + 1), s904, rfl, ⟨rfl, rfl, rfl, rfl, trivial⟩, rfl, rfl⟩⟩
      · have h992 := cf hc1012 h992
        refine CJ.seq ?_
        refine CJ.region ?_
        refine J.val (v := .bool (decide (i1008 = 1))) rfl rfl (V.eql rfl rfl) ?_
        refine J.val (v := .bool (decide (i1008 = 1))) rfl rfl (V.as rfl) ?_
        refine J.nil ?_
        refine CJ.cond rfl (fun hc1013 => ?_) (fun hc1013 => ?_)
        · have h992 := ct hc1013 h992
          refine CJ.region ?_
          refine J.val (v := .int .i64 x997) rfl rfl (V.mv rfl) ?_
          refine J.val (v := .int .u8 (IntKind.wrap .u8 x997)) rfl rfl (V.conv Try.underlying3 Try.underlying5 rfl) ?_
          obtain ⟨s1014, hs1015, h992⟩ := ob h992
          refine J.op rfl (A.call (L1 := [Bld b547 s904]) Try.call64 rfl (WriteByte_ok hs1015) rfl rfl) ?_
          rintro _ _ _ ⟨v1016, _, rfl, ⟨⟨s1014, rfl, rfl, rfl⟩, rfl⟩, _, rfl⟩
          refine J.nil ?_
          refine CJ.region ?_
          refine J.val (v := .int .i64 (IntKind.wrap .i64 (i903 + 1))) rfl rfl (V.add rfl rfl) ?_
          refine J.val (v := .int .i64 (IntKind.wrap .i64 (i903 + 1))) rfl rfl (V.mv rfl) ?_
          refine J.nil ?_
          have e := Option.some.inj h992
          subst e
          exact ⟨rfl, ⟨IntKind.wrap .i64 (i903 + 1), s1014, rfl, ⟨rfl, rfl, rfl, rfl, trivial⟩, rfl, rfl⟩⟩
        · have h992 := cf hc1013 h992
          refine CJ.seq ?_
          refine CJ.region ?_
          refine J.val (v := .int .i64 i1008) rfl rfl (V.mv rfl) ?_
          refine J.val (v := .int .i64 (IntKind.wrap .i64 (247 + i1008))) rfl rfl (V.add rfl rfl) ?_
          refine J.val (v := .int .i64 (IntKind.wrap .i64 ((IntKind.wrap .i64 (247 + i1008)) - 1))) rfl rfl (V.sub rfl rfl) ?_
          refine J.val (v := .int .u8 (IntKind.wrap .u8 (IntKind.wrap .i64 ((IntKind.wrap .i64 (247 + i1008)) - 1)))) rfl rfl (V.conv Try.underlying3 Try.underlying5 rfl) ?_
          obtain ⟨s1017, hs1018, h992⟩ := ob h992
          refine J.op rfl (A.call (L1 := [Bld b547 s904]) Try.call64 rfl (WriteByte_ok hs1018) rfl rfl) ?_
          rintro _ _ _ ⟨v1019, _, rfl, ⟨⟨s1017, rfl, rfl, rfl⟩, rfl⟩, _, rfl⟩
          refine J.nil ?_
          refine CJ.seq ?_
          refine CJ.region ?_
          refine J.val (v := .int .i64 i1008) rfl rfl (V.mv rfl) ?_
          refine J.val (v := .int .i64 (IntKind.wrap .i64 (i1008 - 2))) rfl rfl (V.sub rfl rfl) ?_
          refine J.val (v := .int .i64 (IntKind.wrap .i64 (8 * (IntKind.wrap .i64 (i1008 - 2))))) rfl rfl (V.mul rfl rfl) ?_
          refine J.val (v := .int .i64 (IntKind.wrap .i64 (8 * (IntKind.wrap .i64 (i1008 - 2))))) rfl rfl (V.as rfl) ?_
          refine J.nil ?_
          obtain ⟨o1049, ho1050, h992⟩ := ob h992
          refine CJ.meetN (fun ρ K' L' => ∃ (s1048 : List UInt8), s1048 = o1049 ∧ Fits [(3, .pointer (some ⟨b547, 0, none⟩)), (8, .slice adxa_0 xa.length cpxa_0), (9, .int .i64 (((xa.length : Nat) : Int))), (10, .int .i64 i903)] ρ ∧ K = K' ∧ L' = Bld b547 s1048 :: F) ?_ ?_
          · skip
            refine CJ.block ?_
            refine CJ.loop (fun s ρ K' L' => ∃ (i1059 : Int) (s1060 : List UInt8), (i1059, s1060) = s ∧ Fits [(3, .pointer (some ⟨b547, 0, none⟩)), (5, .int .i64 x997), (7, .int .i64 i1059), (8, .slice adxa_0 xa.length cpxa_0), (9, .int .i64 (((xa.length : Nat) : Int))), (10, .int .i64 i903)] ρ ∧ K = K' ∧ L' = Bld b547 s1060 :: F) ho1050 ⟨IntKind.wrap .i64 (8 * (IntKind.wrap .i64 (i1008 - 2))), s1017, rfl, ⟨rfl, rfl, rfl, rfl, rfl, rfl, trivial⟩, rfl, rfl⟩ ?_
            rintro s ρ _ _ r1072 ⟨i1059, s1060, rfl, hf1070, rfl, rfl⟩ h1069
            obtain ⟨ρ, rfl⟩ := hf1070.ex
            refine CJ.seq ?_
            refine CJ.seq ?_
            refine CJ.region ?_
            refine J.val (v := .int .i64 i1059) rfl rfl (V.mv rfl) ?_
            refine J.val (v := .bool (decide (0 ≤ i1059))) rfl rfl (V.geq rfl rfl) ?_
            refine J.nil ?_
            refine CJ.cond rfl (fun hc1073 => ?_) (fun hc1073 => ?_)
            · have h1069 := ct hc1073 h1069
              refine CJ.skip ?_
              refine CJ.seq ?_
              refine CJ.block ?_
              refine CJ.region ?_
              refine J.val (v := .int .i64 x997) rfl rfl (V.mv rfl) ?_
              refine J.val (v := .int .i64 i1059) rfl rfl (V.mv rfl) ?_
              obtain ⟨u1074, hu1075, h1069⟩ := ob h1069
              refine J.val (v := .int .i64 (Int.fdiv x997 (2 ^ (min (Int.toNat i1059) (IntKind.bits .i64))))) rfl rfl (V.shr rfl rfl (ge0_some hu1075)) ?_
              refine J.val (v := .int .u8 (IntKind.wrap .u8 (Int.fdiv x997 (2 ^ (min (Int.toNat i1059) (IntKind.bits .i64)))))) rfl rfl (V.conv Try.underlying3 Try.underlying5 rfl) ?_
              obtain ⟨s1076, hs1077, h1069⟩ := ob h1069
              refine J.op rfl (A.call (L1 := [Bld b547 s1060]) Try.call64 rfl (WriteByte_ok hs1077) rfl rfl) ?_
              rintro _ _ _ ⟨v1078, _, rfl, ⟨⟨s1076, rfl, rfl, rfl⟩, rfl⟩, _, rfl⟩
              refine J.nil ?_
              refine CJ.region ?_
              refine J.val (v := .int .i64 i1059) rfl rfl (V.mv rfl) ?_
              refine J.val (v := .int .i64 (IntKind.wrap .i64 (i1059 - 8))) rfl rfl (V.sub rfl rfl) ?_
              refine J.val (v := .int .i64 (IntKind.wrap .i64 (i1059 - 8))) rfl rfl (V.as rfl) ?_
              refine J.nil ?_
              have e := Option.some.inj h1069
              subst e
              exact ⟨rfl, ⟨IntKind.wrap .i64 (i1059 - 8), s1076, rfl, ⟨rfl, rfl, rfl, rfl, rfl, rfl, trivial⟩, rfl, rfl⟩⟩
            · have h1069 := cf hc1073 h1069
              refine CJ.exit ?_
              have e := Option.some.inj h1069
              subst e
              refine ⟨nofun, fun e => ?_⟩
              subst e
              exact ⟨rfl, ⟨s1060, rfl, ⟨rfl, rfl, rfl, rfl, trivial⟩, rfl, rfl⟩⟩
          · rintro ρ _ _ ⟨s1048, rfl, hf1079, rfl, rfl⟩
            obtain ⟨ρ, rfl⟩ := hf1079.ex
            refine PJ.done ?_
            refine CJ.region ?_
            refine J.val (v := .int .i64 (IntKind.wrap .i64 (i903 + 1))) rfl rfl (V.add rfl rfl) ?_
            refine J.val (v := .int .i64 (IntKind.wrap .i64 (i903 + 1))) rfl rfl (V.mv rfl) ?_
            refine J.nil ?_
            have e := Option.some.inj h992
            subst e
            exact ⟨rfl, ⟨IntKind.wrap .i64 (i903 + 1), s1048, rfl, ⟨rfl, rfl, rfl, rfl, trivial⟩, rfl, rfl⟩⟩
    · have h992 := cf hc996 h992
      refine CJ.exit ?_
      have e := Option.some.inj h992
      subst e
      refine ⟨nofun, fun e => ?_⟩
      subst e
      exact ⟨rfl, ⟨s904, rfl, ⟨rfl, trivial⟩, rfl, rfl⟩⟩
  · rintro ρ _ _ ⟨s813, rfl, hf1081, rfl, rfl⟩
    obtain ⟨ρ, rfl⟩ := hf1081.ex
    refine PJ.done ?_
    refine CJ.seq ?_
    refine CJ.region ?_
    obtain ⟨s1083, hs1084, h⟩ := ob h
    refine J.op rfl (A.call (L1 := [Bld b547 s813]) Try.call52 rfl (BString_ok hs1084) rfl rfl) ?_
    rintro _ _ _ ⟨v1085, _, rfl, ⟨⟨s1083, rfl, rfl, rfl⟩, rfl⟩, _, rfl⟩
    refine J.val (v := .string ⟨s1083.toArray⟩) rfl rfl (V.as rfl) ?_
    refine J.nil ?_
    refine CJ.ret ?_
    have e := Option.some.inj h
    subst e
    exact ⟨_, [], Res.one rfl rfl, ⟨s1083, rfl, rfl, rfl⟩, (Hp.le_refl _), fun w hs => hs⟩
noncomputable def fn_sig_PutType_l1 (xa : (List (Int × Bool))) : ((List Int) × Int) → Option (((List Int) × Int) ⊕ (List Int)) := fun ((l384, i389) : ((List Int) × Int)) => cond (decide (i389 < (((xa.length : Nat) : Int)))) ((getI xa i389).bind fun x428 => (cond (x428.2) (some (IntKind.wrap .i64 ((IntKind.wrap .i64 (2 * x428.1)) + 1))) (some (IntKind.wrap .i64 (2 * x428.1))) : Option Int).bind fun i439 => (app l384 ([i439] : List Int)).bind fun z448 => some (.inl ((z448, IntKind.wrap .i64 (i389 + 1))))) (some (.inr (l384)))
noncomputable def fn_sig_PutType (xa : (List (Int × Bool))) : Option (List UInt8) :=
  (loop (fn_sig_PutType_l1 xa) ((([((xa.length : Nat) : Int)] : List Int), 0)) : Option (List Int)).bind fun l344 => (fn_leb_All l344).bind fun s461 => some (s461)
set_option maxRecDepth 100000 in
set_option maxHeartbeats 4000000 in
theorem sig_PutType_ok {K : Hp} {xa : (List (Int × Bool))} {adxa_0 : Option Addr} {cpxa_0 : Nat} (fxa_0 : Is K (.sl (.cons (.int .i64) (.one .bool))) [.slice adxa_0 xa.length cpxa_0] xa) {r : List UInt8} (h : fn_sig_PutType xa = some r) :
    Tr Try.prog 26 #[.agg #[.slice adxa_0 xa.length cpxa_0]] K [] (fun v K' L' => (∃ (s236 : List UInt8), s236 = r ∧ .string ⟨s236.toArray⟩ = v ∧ L' = []) ∧ K = K') := by
  refine Tr.k ?_
  refine Tr.of Try.func26 rfl Try.ntmps26 rfl (fun E F => ?_)
  unfold fn_sig_PutType at h
  refine CJ.seq ?_
  refine CJ.region ?_
  refine J.op rfl (A.box (v := .agg #[.slice adxa_0 xa.length cpxa_0]) (cs := [.slice adxa_0 xa.length cpxa_0]) rfl rfl) ?_
  rintro _ _ _ ⟨b237, rfl, rfl, rfl⟩
  refine J.val (v := .string ⟨([] : List UInt8).toArray⟩) rfl rfl (V.as rfl) ?_
  refine J.nil ?_
  refine CJ.seq ?_
  refine CJ.region ?_
  refine J.val rfl rfl (V.fad Try.underlying26 rfl nz24 rfl) ?_
  refine J.val (v := .slice adxa_0 xa.length cpxa_0) rfl rfl (V.ld rfl (Ld.sc sc24 (Rd.cl 0 rfl rfl))) ?_
  refine J.val (v := .int .i64 (((xa.length : Nat) : Int))) rfl rfl (V.len Try.underlying24 rfl) ?_
  refine J.op rfl (A.lit (K0 := Hp.nil) (ty := (.int .i64)) (xs := ([((xa.length : Nat) : Int)] : List Int)) Try.underlying29 inf3 rfl (by decide) rfl rfl rfl ⟨_, _, rfl, rfl, rfl⟩ rfl (by decide)) ?_
  rintro _ _ _ ⟨b238, rfl, rfl, rfl⟩
  have hn239 : ([((xa.length : Nat) : Int)] : List Int) ≠ [] → ∃ g, (some ⟨b238, 0, none⟩ : Option Addr) = some ⟨g, 0, none⟩ := fun _ => ⟨b238, rfl⟩
  refine J.val (v := .slice (some ⟨b238, 0, none⟩) ((([((xa.length : Nat) : Int)] : List Int)).length) 1) rfl rfl (V.as rfl) ?_
  refine J.nil ?_
  refine CJ.seq ?_
  refine CJ.seq ?_
  refine CJ.region ?_
  refine J.val rfl rfl (V.fad Try.underlying26 rfl nz24 rfl) ?_
  refine J.val (v := .slice adxa_0 xa.length cpxa_0) rfl rfl (V.ld rfl (Ld.sc sc24 (Rd.cl 1 rfl rfl))) ?_
  refine J.val (v := .int .i64 (((xa.length : Nat) : Int))) rfl rfl (V.len Try.underlying24 rfl) ?_
  refine J.val (v := .int .i64 0) rfl rfl (V.mv rfl) ?_
  refine J.nil ?_
  obtain ⟨o349, ho350, h⟩ := ob h
  refine CJ.meetN (fun ρ K' L' => ∃ (l344 : (List Int)) (ad345 : Option Addr) (cp346 : Nat), l344 = o349 ∧ Fits [(3, .slice ad345 l344.length cp346)] ρ ∧ K = K' ∧ L' = Row Hp.nil 3 (.int .i64) (.slice ad345 l344.length cp346) l344 :: F) ?_ ?_
  · skip
    refine CJ.block ?_
    refine CJ.dropAt 1 rfl ?_
    refine CJ.loop (fun s ρ K' L' => ∃ (l384 : (List Int)) (i389 : Int) (ad385 : Option Addr) (cp386 : Nat), (l384, i389) = s ∧ Fits [(3, .slice ad385 l384.length cp386), (12, .slice adxa_0 xa.length cpxa_0), (13, .int .i64 (((xa.length : Nat) : Int))), (14, .int .i64 i389)] ρ ∧ K = K' ∧ L' = Row Hp.nil 3 (.int .i64) (.slice ad385 l384.length cp386) l384 :: F) ho350 ⟨([((xa.length : Nat) : Int)] : List Int), 0, (some ⟨b238, 0, none⟩), 1, rfl, ⟨rfl, rfl, rfl, rfl, trivial⟩, rfl, rfl⟩ ?_
    rintro s ρ _ _ r426 ⟨l384, i389, ad385, cp386, rfl, hf424, rfl, rfl⟩ h423
    obtain ⟨ρ, rfl⟩ := hf424.ex
    refine CJ.wit Row.hn (fun hn388 => ?_)
    refine CJ.seq ?_
    refine CJ.region ?_
    refine J.val (v := .bool (decide (i389 < (((xa.length : Nat) : Int))))) rfl rfl (V.lss rfl rfl) ?_
    refine J.nil ?_
    refine CJ.seq ?_
    refine CJ.cond rfl (fun hc427 => ?_) (fun hc427 => ?_)
    · have h423 := ct hc427 h423
      refine CJ.skip ?_
      refine CJ.seq ?_
      refine CJ.block ?_
      refine CJ.seq ?_
      refine CJ.region ?_
      obtain ⟨x428, hx429, h423⟩ := ob h423
      obtain ⟨p430, p431, p432⟩ := getI_some hx429
      obtain ⟨b433, o434, e435, a436⟩ := (fxa_0).at p431
      refine J.val rfl rfl (V.iad Try.underlying24 sz60 rfl e435 rfl p430 p432) ?_
      refine J.val (v := .agg #[.int .i64 x428.1, .bool x428.2]) rfl rfl (V.ld rfl (Ld.aggK (cs := [.int .i64 x428.1, .bool x428.2]) Try.underlying60 sz60 rfl ⟨((a436).fst).int, (((a436).snd).one).bool, trivial⟩ (Hp.le_refl _))) ?_
      refine J.op rfl (A.alloc (cs := [.int .i64 0, .bool false]) inf60 rfl) ?_
      rintro _ _ _ ⟨b437, rfl, rfl, rfl⟩
      refine J.op rfl (A.store (v := .agg #[.int .i64 x428.1, .bool x428.2]) (cs' := [.int .i64 x428.1, .bool x428.2]) sz60 rfl rfl rfl rfl rfl rfl) ?_
      rintro _ _ _ ⟨rfl, rfl, rfl⟩
      refine J.nil ?_
      refine CJ.seq ?_
      refine CJ.region ?_
      refine J.val rfl rfl (V.fad Try.underlying60 rfl nz3 rfl) ?_
      refine J.val (v := .int .i64 x428.1) rfl rfl (V.ld rfl (Ld.sc sc3 (Rd.cl 0 rfl rfl))) ?_
      refine J.val (v := .int .i64 (IntKind.wrap .i64 (2 * x428.1))) rfl rfl (V.mul rfl rfl) ?_
      refine J.val (v := .int .i64 (IntKind.wrap .i64 (2 * x428.1))) rfl rfl (V.as rfl) ?_
      refine J.nil ?_
      refine CJ.seq ?_
      obtain ⟨o440, ho441, h423⟩ := ob h423
      refine CJ.meetN (fun ρ K' L' => ∃ (i439 : Int), i439 = o440 ∧ Fits [(3, .slice ad385 l384.length cp386), (6, .int .i64 i439), (12, .slice adxa_0 xa.length cpxa_0), (13, .int .i64 (((xa.length : Nat) : Int))), (14, .int .i64 i389)] ρ ∧ K = K' ∧ L' = Row Hp.nil 3 (.int .i64) (.slice ad385 l384.length cp386) l384 :: F) ?_ ?_
      · skip
        refine CJ.seq ?_
        refine CJ.region ?_
        refine J.val rfl rfl (V.fad Try.underlying60 rfl nz4 rfl) ?_
        refine J.val (v := .bool x428.2) rfl rfl (V.ld rfl (Ld.sc sc4 (Rd.cl 0 rfl rfl))) ?_
        refine J.nil ?_
        refine CJ.cond rfl (fun hc442 => ?_) (fun hc442 => ?_)
        · have ho441 := ct hc442 ho441
          refine CJ.region ?_
          refine J.val (v := .int .i64 (IntKind.wrap .i64 (2 * x428.1))) rfl rfl (V.mv rfl) ?_
          refine J.val (v := .int .i64 (IntKind.wrap .i64 ((IntKind.wrap .i64 (2 * x428.1)) + 1))) rfl rfl (V.add rfl rfl) ?_
          refine J.val (v := .int .i64 (IntKind.wrap .i64 ((IntKind.wrap .i64 (2 * x428.1)) + 1))) rfl rfl (V.as rfl) ?_
          refine J.dropAt 0 rfl ?_
          refine J.nil ?_
          have e := Option.some.inj ho441
          subst e
          exact ⟨rfl, ⟨IntKind.wrap .i64 ((IntKind.wrap .i64 (2 * x428.1)) + 1), rfl, ⟨rfl, rfl, rfl, rfl, rfl, trivial⟩, rfl, rfl⟩⟩
        · have ho441 := cf hc442 ho441
          refine CJ.dropAt 0 rfl ?_
          refine CJ.skip ?_
          have e := Option.some.inj ho441
          subst e
          exact ⟨rfl, ⟨IntKind.wrap .i64 (2 * x428.1), rfl, ⟨rfl, rfl, rfl, rfl, rfl, trivial⟩, rfl, rfl⟩⟩
      · rintro ρ _ _ ⟨i439, rfl, hf443, rfl, rfl⟩
        obtain ⟨ρ, rfl⟩ := hf443.ex
        refine PJ.done ?_
        refine CJ.region ?_
        refine J.val (v := .slice ad385 l384.length cp386) rfl rfl (V.mv rfl) ?_
        refine J.val (v := .int .i64 i439) rfl rfl (V.mv rfl) ?_
        refine J.op rfl (A.lit (K0 := Hp.nil) (ty := (.int .i64)) (xs := ([i439] : List Int)) Try.underlying29 inf3 rfl (by decide) rfl rfl rfl ⟨_, _, rfl, rfl, rfl⟩ rfl (by decide)) ?_
        rintro _ _ _ ⟨b445, rfl, rfl, rfl⟩
        have hn446 : ([i439] : List Int) ≠ [] → ∃ g, (some ⟨b445, 0, none⟩ : Option Addr) = some ⟨g, 0, none⟩ := fun _ => ⟨b445, rfl⟩
        obtain ⟨z448, hz449, h423⟩ := ob h423
        refine J.front 1 rfl ?_
        refine J.op rfl (A.appR (Kr := Hp.nil) Try.underlying29 inf3 rfl rfl (by decide) (by decide) rfl rfl (Els.flat rfl) (Els.flat rfl) hz449) ?_
        rintro _ _ _ ⟨v450, rfl, rfl, rfl⟩
        refine J.wit Row.form ?_
        rintro ⟨ad451, cp452, rfl, _, _, hn453⟩
        refine J.val (v := .slice ad451 z448.length cp452) rfl rfl (V.as rfl) ?_
        refine J.nil ?_
        refine CJ.region ?_
        refine J.val (v := .int .i64 (IntKind.wrap .i64 (i389 + 1))) rfl rfl (V.add rfl rfl) ?_
        refine J.val (v := .int .i64 (IntKind.wrap .i64 (i389 + 1))) rfl rfl (V.mv rfl) ?_
        refine J.nil ?_
        have e := Option.some.inj h423
        subst e
        exact ⟨rfl, ⟨z448, IntKind.wrap .i64 (i389 + 1), ad451, cp452, rfl, ⟨rfl, rfl, rfl, rfl, trivial⟩, rfl, rfl⟩⟩
    · have h423 := cf hc427 h423
      refine CJ.exit ?_
      have e := Option.some.inj h423
      subst e
      refine ⟨nofun, fun e => ?_⟩
      subst e
      exact ⟨rfl, ⟨l384, ad385, cp386, rfl, ⟨rfl, trivial⟩, rfl, rfl⟩⟩
  · rintro ρ _ _ ⟨l344, ad345, cp346, rfl, hf454, rfl, rfl⟩
    obtain ⟨ρ, rfl⟩ := hf454.ex
    refine PJ.wit Row.hn (fun hn348 => ?_)
    refine PJ.done ?_
    refine CJ.seq ?_
    refine CJ.region ?_
    refine J.val (v := .slice ad345 l344.length cp346) rfl rfl (V.mv rfl) ?_
    obtain ⟨r456, hr457, h⟩ := ob h
    refine J.op rfl (A.call (L1 := [Row Hp.nil 3 (.int .i64) (.slice ad345 l344.length cp346) l344]) Try.call53 rfl (Tr.lend (Hp.nil_le _) (by decide) (fun K458 hK459 f460 => leb_All_ok f460 hr457)) rfl rfl) ?_
    rintro _ _ _ ⟨v462, _, rfl, ⟨⟨_, ⟨s461, rfl, rfl, rfl⟩, rfl⟩, rfl⟩, _, rfl⟩
    refine J.val (v := .string ⟨s461.toArray⟩) rfl rfl (V.as rfl) ?_
    refine J.nil ?_
    refine CJ.ret ?_
    have e := Option.some.inj h
    subst e
    exact ⟨_, [], Res.one rfl rfl, ⟨s461, rfl, rfl, rfl⟩, (Hp.le_refl _), fun w hs => (Sep.dropAt 0 rfl hs)⟩

noncomputable def fn_sig_Check_1_ip0_ikkk (xa : Int) (qa0 : Int) (qa1 : (List (Int × Int))) (qa2 : (List (List (Int × Bool)))) (qa3 : (List (Int × Bool))) : Option ((Bool × Int × (List (Int × Int)) × (List (List (Int × Bool))) × (List (Int × Bool)))) :=
  some (((decide (0 ≤ xa)) && (decide (xa < qa0)), qa0, qa1, qa2, qa3))
set_option maxRecDepth 100000 in
set_option maxHeartbeats 4000000 in
theorem sig_Check_1_ip0_ikkk_ok {K : Hp} {xa : Int} {qa0 : Int} {qa1 : (List (Int × Int))} {qa2 : (List (List (Int × Bool)))} {qa3 : (List (Int × Bool))} {pba : Nat} {adqa1 : Option Addr} {cpqa1 : Nat} {adqa2 : Option Addr} {cpqa2 : Nat} {adqa3 : Option Addr} {cpqa3 : Nat} (fqa1 : Is K (.sl (.cons (.int .i64) (.one (.int .i64)))) [.slice adqa1 qa1.length cpqa1] qa1) (fqa2 : Is K (.sl (.one (.sl (.cons (.int .i64) (.one .bool))))) [.slice adqa2 qa2.length cpqa2] qa2) (fqa3 : Is K (.sl (.cons (.int .i64) (.one .bool))) [.slice adqa3 qa3.length cpqa3] qa3) {r : (Bool × Int × (List (Int × Int)) × (List (List (Int × Bool))) × (List (Int × Bool)))} (h : fn_sig_Check_1_ip0_ikkk xa qa0 qa1 qa2 qa3 = some r) :
    Tr Try.prog 36 #[.int .i64 xa, .pointer (some ⟨pba, 0, none⟩)] K [Cl pba 28 [.int .i64 qa0, .slice adqa1 qa1.length cpqa1, .slice adqa2 qa2.length cpqa2, .slice adqa3 qa3.length cpqa3]] (fun v K' L' => (∃ (t4 : Bool) (i5 : Int) (l6 : (List (Int × Int))) (l10 : (List (List (Int × Bool)))) (l14 : (List (Int × Bool))) (ad7 : Option Addr) (cp8 : Nat) (ad11 : Option Addr) (cp12 : Nat) (ad15 : Option Addr) (cp16 : Nat), (t4, i5, l6, l10, l14) = r ∧ .bool t4 = v ∧ Is K' (.sl (.cons (.int .i64) (.one (.int .i64)))) [.slice ad7 l6.length cp8] l6 ∧ Is K' (.sl (.one (.sl (.cons (.int .i64) (.one .bool))))) [.slice ad11 l10.length cp12] l10 ∧ Is K' (.sl (.cons (.int .i64) (.one .bool))) [.slice ad15 l14.length cp16] l14 ∧ L' = [Cl pba 28 [.int .i64 i5, .slice ad7 l6.length cp8, .slice ad11 l10.length cp12, .slice ad15 l14.length cp16]])) := by
  refine Tr.of Try.func36 rfl Try.ntmps36 rfl (fun E F => ?_)
  unfold fn_sig_Check_1_ip0_ikkk at h
  refine CJ.seq ?_
  refine CJ.region ?_
  refine J.val (v := .bool false) rfl rfl (V.as rfl) ?_
  refine J.nil ?_
  refine CJ.seq ?_
  refine CJ.region ?_
  refine J.val (v := .int .i64 xa) rfl rfl (V.mv rfl) ?_
  refine J.val (v := .bool (decide (0 ≤ xa))) rfl rfl (V.geq rfl rfl) ?_
  refine J.val (v := .bool (decide (0 ≤ xa))) rfl rfl (V.mv rfl) ?_
  refine J.cut 5 ?_
  refine @J.meet _ _ _ _ _ _ _ _ _ _ (fun ρ K' L' => Fits [(11, .bool ((decide (0 ≤ xa)) && (decide (xa < qa0))))] ρ ∧ K = K' ∧ L' = Cl pba 28 [.int .i64 qa0, .slice adqa1 qa1.length cpqa1, .slice adqa2 qa2.length cpqa2, .slice adqa3 qa3.length cpqa3] :: F) ?_ ?_
  · skip
    rcases bt (decide (0 ≤ xa)) with hc20 | hc20
    · skip
      refine J.run rfl rfl rfl hc20 ?_
      refine J.val (v := .int .i64 xa) rfl rfl (V.mv rfl) ?_
      refine J.run rfl rfl rfl hc20 ?_
      refine J.val rfl rfl (V.fad Try.underlying28 rfl nz3 rfl) ?_
      refine J.run rfl rfl rfl hc20 ?_
      refine J.val (v := .int .i64 qa0) rfl rfl (V.ld rfl (Ld.sc sc3 (Rd.cl 0 rfl rfl))) ?_
      refine J.run rfl rfl rfl hc20 ?_
      refine J.val (v := .bool (decide (xa < qa0))) rfl rfl (V.lss rfl rfl) ?_
      refine J.val (v := .bool (decide (xa < qa0))) rfl rfl (V.pickT rfl hc20 rfl) ?_
      refine J.nil ?_
      exact ⟨rfl, ⟨(by simp only [hc20]; rfl), trivial⟩, rfl, rfl⟩
    · skip
      refine J.skip rfl rfl rfl rfl hc20 ?_
      refine J.skip rfl rfl rfl rfl hc20 ?_
      refine J.skip rfl rfl rfl rfl hc20 ?_
      refine J.skip rfl rfl rfl rfl hc20 ?_
      refine J.val (v := .bool false) rfl rfl (V.pickF rfl hc20 rfl) ?_
      refine J.nil ?_
      exact ⟨rfl, ⟨(by simp only [hc20]; rfl), trivial⟩, rfl, rfl⟩
  · rintro ρ _ _ ⟨hf, rfl, rfl⟩
    obtain ⟨ρ, rfl⟩ := hf.ex
    refine J.val (v := .bool ((decide (0 ≤ xa)) && (decide (xa < qa0)))) rfl rfl (V.as rfl) ?_
    refine J.nil ?_
    refine CJ.ret ?_
    have e := Option.some.inj h
    subst e
    exact ⟨_, [Cl pba 28 [.int .i64 qa0, .slice adqa1 qa1.length cpqa1, .slice adqa2 qa2.length cpqa2, .slice adqa3 qa3.length cpqa3]], Res.one rfl rfl, ⟨(decide (0 ≤ xa)) && (decide (xa < qa0)), qa0, qa1, qa2, qa3, adqa1, cpqa1, adqa2, cpqa2, adqa3, cpqa3, rfl, rfl, fqa1, fqa2, fqa3, rfl⟩, (Hp.le_refl _), fun w hs => hs⟩

noncomputable def fn_row_within_1_ap0_i (xa : (Int × Bool)) (qa0 : Int) : Option (Bool × Int) :=
  some (((decide (xa.1 < 0)) || (decide (qa0 ≤ xa.1)), qa0))
set_option maxRecDepth 100000 in
set_option maxHeartbeats 4000000 in
theorem row_within_1_ap0_i_ok {K : Hp} {xa : (Int × Bool)} {qa0 : Int} {pba : Nat}  {r : (Bool × Int)} (h : fn_row_within_1_ap0_i xa qa0 = some r) :
    Tr Try.prog 69 #[.agg #[.int .i64 xa.1, .bool xa.2], .pointer (some ⟨pba, 0, none⟩)] K [Cl pba 3 [.int .i64 qa0]] (fun v K' L' => (∃ (t5 : Bool) (i6 : Int), (t5, i6) = r ∧ .bool t5 = v ∧ L' = [Cl pba 3 [.int .i64 i6]]) ∧ K = K') := by
  refine Tr.k ?_
  refine Tr.of Try.func69 rfl Try.ntmps69 rfl (fun E F => ?_)
  unfold fn_row_within_1_ap0_i at h
  refine CJ.seq ?_
  refine CJ.region ?_
  refine J.op rfl (A.box (v := .agg #[.int .i64 xa.1, .bool xa.2]) (cs := [.int .i64 xa.1, .bool xa.2]) rfl rfl) ?_
  rintro _ _ _ ⟨b7, rfl, rfl, rfl⟩
  refine J.val (v := .bool false) rfl rfl (V.as rfl) ?_
  refine J.nil ?_
  refine CJ.seq ?_
  refine CJ.region ?_
  refine J.val rfl rfl (V.fad Try.underlying60 rfl nz3 rfl) ?_
  refine J.val (v := .int .i64 xa.1) rfl rfl (V.ld rfl (Ld.sc sc3 (Rd.cl 0 rfl rfl))) ?_
  refine J.val (v := .bool (decide (xa.1 < 0))) rfl rfl (V.lss rfl rfl) ?_
  refine J.val (v := .bool (decide (xa.1 < 0))) rfl rfl (V.mv rfl) ?_
  refine J.cut 5 ?_
  refine @J.meet _ _ _ _ _ _ _ _ _ _ (fun ρ K' L' => Fits [(12, .bool ((decide (xa.1 < 0)) || (decide (qa0 ≤ xa.1))))] ρ ∧ K = K' ∧ L' = Cl b7 60 [.int .i64 xa.1, .bool xa.2] :: Cl pba 3 [.int .i64 qa0] :: F) ?_ ?_
  · skip
    rcases bt (decide (xa.1 < 0)) with hc10 | hc10
    · skip
      refine J.skip rfl rfl rfl rfl hc10 ?_
      refine J.skip rfl rfl rfl rfl hc10 ?_
      refine J.skip rfl rfl rfl rfl hc10 ?_
      refine J.skip rfl rfl rfl rfl hc10 ?_
      refine J.val (v := .bool true) rfl rfl (V.pickT rfl hc10 rfl) ?_
      refine J.nil ?_
      exact ⟨rfl, ⟨(by simp only [hc10]; rfl), trivial⟩, rfl, rfl⟩
    · skip
      refine J.run rfl rfl rfl hc10 ?_
      refine J.val rfl rfl (V.fad Try.underlying60 rfl nz3 rfl) ?_
      refine J.run rfl rfl rfl hc10 ?_
      refine J.val (v := .int .i64 xa.1) rfl rfl (V.ld rfl (Ld.sc sc3 (Rd.cl 0 rfl rfl))) ?_
      refine J.run rfl rfl rfl hc10 ?_
      refine J.val (v := .int .i64 qa0) rfl rfl (V.ld rfl (Ld.sc sc3 (Rd.cl 1 rfl rfl))) ?_
      refine J.run rfl rfl rfl hc10 ?_
      refine J.val (v := .bool (decide (qa0 ≤ xa.1))) rfl rfl (V.geq rfl rfl) ?_
      refine J.val (v := .bool (decide (qa0 ≤ xa.1))) rfl rfl (V.pickF rfl hc10 rfl) ?_
      refine J.nil ?_
      exact ⟨rfl, ⟨(by simp only [hc10]; rfl), trivial⟩, rfl, rfl⟩
  · rintro ρ _ _ ⟨hf, rfl, rfl⟩
    obtain ⟨ρ, rfl⟩ := hf.ex
    refine J.val (v := .bool ((decide (xa.1 < 0)) || (decide (qa0 ≤ xa.1)))) rfl rfl (V.as rfl) ?_
    refine J.nil ?_
    refine CJ.ret ?_
    have e := Option.some.inj h
    subst e
    exact ⟨_, [Cl pba 3 [.int .i64 qa0]], Res.one rfl rfl, ⟨(decide (xa.1 < 0)) || (decide (qa0 ≤ xa.1)), qa0, rfl, rfl, rfl⟩, (Hp.le_refl _), fun w hs => (Sep.dropAt 0 rfl hs)⟩
noncomputable def fn_slices_IndexFunc_api_Slot_api_Slot_k_row_within_1_p0_i_l1 (xa : (List (Int × Bool))) : (Int × Int) → Option ((Int × Int) ⊕ (Int ⊕ (Int × Int))) := fun ((i224, i225) : (Int × Int)) => cond (decide (i224 < (((xa.length : Nat) : Int)))) ((getI xa i224).bind fun x251 => (fn_row_within_1_ap0_i (x251.1, x251.2) i225).bind fun (t262, i263) => cond (t262) (some (.inr ((.inr ((i224, i263)))))) (some (.inl ((IntKind.wrap .i64 (i224 + 1), i263))))) (some (.inr (.inl i225)))
noncomputable def fn_slices_IndexFunc_api_Slot_api_Slot_k_row_within_1_p0_i (xa : (List (Int × Bool))) (qa0 : Int) : Option (Int × Int) :=
  (loop (fn_slices_IndexFunc_api_Slot_api_Slot_k_row_within_1_p0_i_l1 xa) (0, qa0) : Option (Int ⊕ (Int × Int))).bind fun o => match o with | .inr r => some r | .inl i201 => some (((-1), i201))
set_option maxRecDepth 100000 in
set_option maxHeartbeats 4000000 in
theorem slices_IndexFunc_api_Slot_api_Slot_k_row_within_1_p0_i_ok {K : Hp} {xa : (List (Int × Bool))} {qa0 : Int} {pba : Nat} {adxa_0 : Option Addr} {cpxa_0 : Nat} (fxa_0 : Is K (.sl (.cons (.int .i64) (.one .bool))) [.slice adxa_0 xa.length cpxa_0] xa) {r : (Int × Int)} (h : fn_slices_IndexFunc_api_Slot_api_Slot_k_row_within_1_p0_i xa qa0 = some r) :
    Tr Try.prog 73 #[.slice adxa_0 xa.length cpxa_0, .func (.func 69) #[] #[.pointer (some ⟨pba, 0, none⟩)]] K [Cl pba 3 [.int .i64 qa0]] (fun v K' L' => (∃ (i135 : Int) (i136 : Int), (i135, i136) = r ∧ .int .i64 i135 = v ∧ L' = [Cl pba 3 [.int .i64 i136]]) ∧ K = K') := by
  refine Tr.k ?_
  refine Tr.of Try.func73 rfl Try.ntmps73 rfl (fun E F => ?_)
  unfold fn_slices_IndexFunc_api_Slot_api_Slot_k_row_within_1_p0_i at h
  refine CJ.seq ?_
  refine CJ.region ?_
  refine J.val (v := .int .i64 0) rfl rfl (V.as rfl) ?_
  refine J.nil ?_
  refine CJ.seq ?_
  refine CJ.seq ?_
  refine CJ.region ?_
  refine J.val (v := .slice adxa_0 xa.length cpxa_0) rfl rfl (V.mv rfl) ?_
  refine J.val (v := .int .i64 (((xa.length : Nat) : Int))) rfl rfl (V.len Try.underlying24 rfl) ?_
  refine J.val (v := .int .i64 0) rfl rfl (V.mv rfl) ?_
  refine J.nil ?_
  obtain ⟨o202, ho203, h⟩ := ob h
  refine CJ.joinN (o := o202) (fun s ρ K' L' => ∃ (i201 : Int), i201 = s ∧ Fits [] ρ ∧ K = K' ∧ L' = Cl pba 3 [.int .i64 i201] :: F) ?_ ?_
  · skip
    refine CJ.block ?_
    refine CJ.loop (fun s ρ K' L' => ∃ (i224 : Int) (i225 : Int), (i224, i225) = s ∧ Fits [(0, .slice adxa_0 xa.length cpxa_0), (1, .func (.func 69) #[] #[.pointer (some ⟨pba, 0, none⟩)]), (7, .int .i64 (((xa.length : Nat) : Int))), (8, .int .i64 i224)] ρ ∧ K = K' ∧ L' = Cl pba 3 [.int .i64 i225] :: F) ho203 ⟨0, qa0, rfl, ⟨rfl, rfl, rfl, rfl, trivial⟩, rfl, rfl⟩ ?_
    rintro s ρ _ _ r249 ⟨i224, i225, rfl, hf247, rfl, rfl⟩ h246
    obtain ⟨ρ, rfl⟩ := hf247.ex
    refine CJ.seq ?_
    refine CJ.region ?_
    refine J.val (v := .bool (decide (i224 < (((xa.length : Nat) : Int))))) rfl rfl (V.lss rfl rfl) ?_
    refine J.nil ?_
    refine CJ.seq ?_
    refine CJ.cond rfl (fun hc250 => ?_) (fun hc250 => ?_)
    · have h246 := ct hc250 h246
      refine CJ.skip ?_
      refine CJ.seq ?_
      refine CJ.block ?_
      refine CJ.seq ?_
      refine CJ.region ?_
      refine J.val (v := .int .i64 i224) rfl rfl (V.mv rfl) ?_
      refine J.val (v := .int .i64 i224) rfl rfl (V.as rfl) ?_
      refine J.nil ?_
      refine CJ.seq ?_
      refine CJ.region ?_
      refine J.val (v := .func (.func 69) #[] #[.pointer (some ⟨pba, 0, none⟩)]) rfl rfl (V.mv rfl) ?_
      refine J.val (v := .slice adxa_0 xa.length cpxa_0) rfl rfl (V.mv rfl) ?_
      refine J.val (v := .int .i64 i224) rfl rfl (V.mv rfl) ?_
      obtain ⟨x251, hx252, h246⟩ := ob h246
      obtain ⟨p253, p254, p255⟩ := getI_some hx252
      obtain ⟨b256, o257, e258, a259⟩ := (fxa_0).at p254
      refine J.val rfl rfl (V.iad Try.underlying24 sz60 rfl e258 rfl p253 p255) ?_
      refine J.val (v := .agg #[.int .i64 x251.1, .bool x251.2]) rfl rfl (V.ld rfl (Ld.aggK (cs := [.int .i64 x251.1, .bool x251.2]) Try.underlying60 sz60 rfl ⟨((a259).fst).int, (((a259).snd).one).bool, trivial⟩ (Hp.le_refl _))) ?_
      obtain ⟨r260, hr261, h246⟩ := ob h246
      refine J.op rfl (A.call (L1 := [Cl pba 3 [.int .i64 i225]]) Try.call69 rfl (row_within_1_ap0_i_ok hr261) rfl rfl) ?_
      rintro _ _ _ ⟨v264, _, rfl, ⟨⟨t262, i263, rfl, rfl, rfl⟩, rfl⟩, _, rfl⟩
      refine J.nil ?_
      refine CJ.cond rfl (fun hc267 => ?_) (fun hc267 => ?_)
      · have h246 := ct hc267 h246
        refine CJ.seq ?_
        refine CJ.region ?_
        refine J.val (v := .int .i64 i224) rfl rfl (V.mv rfl) ?_
        refine J.val (v := .int .i64 i224) rfl rfl (V.as rfl) ?_
        refine J.nil ?_
        refine CJ.ret ?_
        have e := Option.some.inj h246
        subst e
        refine ⟨nofun, fun e => ?_⟩
        subst e
        refine .inr ⟨nofun, ?_⟩
        have e := Option.some.inj h
        subst e
        exact ⟨_, [Cl pba 3 [.int .i64 i263]], Res.one rfl rfl, ⟨i224, i263, rfl, rfl, rfl⟩, (Hp.le_refl _), fun w hs => hs⟩
      · have h246 := cf hc267 h246
        refine CJ.skip ?_
        refine CJ.region ?_
        refine J.val (v := .int .i64 (IntKind.wrap .i64 (i224 + 1))) rfl rfl (V.add rfl rfl) ?_
        refine J.val (v := .int .i64 (IntKind.wrap .i64 (i224 + 1))) rfl rfl (V.mv rfl) ?_
        refine J.nil ?_
        have e := Option.some.inj h246
        subst e
        exact ⟨rfl, ⟨IntKind.wrap .i64 (i224 + 1), i263, rfl, ⟨rfl, rfl, rfl, rfl, trivial⟩, rfl, rfl⟩⟩
    · have h246 := cf hc250 h246
      refine CJ.exit ?_
      have e := Option.some.inj h246
      subst e
      refine ⟨nofun, fun e => ?_⟩
      subst e
      exact .inl ⟨rfl, _, rfl, ⟨i225, rfl, trivial, rfl, rfl⟩⟩
  · rintro s ρ _ _ ho268 ⟨i201, rfl, hf269, rfl, rfl⟩
    subst ho268
    obtain ⟨ρ, rfl⟩ := hf269.ex
    refine PJ.done ?_
    refine CJ.seq ?_
    refine CJ.region ?_
    refine J.val (v := .int .i64 (-1)) rfl rfl (V.as rfl) ?_
    refine J.nil ?_
    refine CJ.ret ?_
    have e := Option.some.inj h
    subst e
    exact ⟨_, [Cl pba 3 [.int .i64 i201]], Res.one rfl rfl, ⟨(-1), i201, rfl, rfl, rfl⟩, (Hp.le_refl _), fun w hs => hs⟩

noncomputable def fn_slices_ContainsFunc_api_Slot_api_Slot_k_row_within_1_p0_i (xa : (List (Int × Bool))) (qa0 : Int) : Option (Bool × Int) :=
  (fn_slices_IndexFunc_api_Slot_api_Slot_k_row_within_1_p0_i xa qa0).bind fun (i12, i13) => some ((decide (0 ≤ i12), i13))
set_option maxRecDepth 100000 in
set_option maxHeartbeats 4000000 in
theorem slices_ContainsFunc_api_Slot_api_Slot_k_row_within_1_p0_i_ok {K : Hp} {xa : (List (Int × Bool))} {qa0 : Int} {pba : Nat} {adxa_0 : Option Addr} {cpxa_0 : Nat} (fxa_0 : Is K (.sl (.cons (.int .i64) (.one .bool))) [.slice adxa_0 xa.length cpxa_0] xa) {r : (Bool × Int)} (h : fn_slices_ContainsFunc_api_Slot_api_Slot_k_row_within_1_p0_i xa qa0 = some r) :
    Tr Try.prog 68 #[.slice adxa_0 xa.length cpxa_0, .func (.func 69) #[] #[.pointer (some ⟨pba, 0, none⟩)]] K [Cl pba 3 [.int .i64 qa0]] (fun v K' L' => (∃ (t8 : Bool) (i9 : Int), (t8, i9) = r ∧ .bool t8 = v ∧ L' = [Cl pba 3 [.int .i64 i9]]) ∧ K = K') := by
  refine Tr.k ?_
  refine Tr.of Try.func68 rfl Try.ntmps68 rfl (fun E F => ?_)
  unfold fn_slices_ContainsFunc_api_Slot_api_Slot_k_row_within_1_p0_i at h
  refine CJ.seq ?_
  refine CJ.region ?_
  refine J.val (v := .bool false) rfl rfl (V.as rfl) ?_
  refine J.nil ?_
  refine CJ.seq ?_
  refine CJ.region ?_
  refine J.val (v := .slice adxa_0 xa.length cpxa_0) rfl rfl (V.mv rfl) ?_
  refine J.val (v := .func (.func 69) #[] #[.pointer (some ⟨pba, 0, none⟩)]) rfl rfl (V.mv rfl) ?_
  obtain ⟨r10, hr11, h⟩ := ob h
  refine J.op rfl (A.call (L1 := [Cl pba 3 [.int .i64 qa0]]) Try.call73 rfl (slices_IndexFunc_api_Slot_api_Slot_k_row_within_1_p0_i_ok fxa_0 hr11) rfl rfl) ?_
  rintro _ _ _ ⟨v14, _, rfl, ⟨⟨i12, i13, rfl, rfl, rfl⟩, rfl⟩, _, rfl⟩
  refine J.val (v := .bool (decide (0 ≤ i12))) rfl rfl (V.geq rfl rfl) ?_
  refine J.val (v := .bool (decide (0 ≤ i12))) rfl rfl (V.as rfl) ?_
  refine J.nil ?_
  refine CJ.ret ?_
  have e := Option.some.inj h
  subst e
  exact ⟨_, [Cl pba 3 [.int .i64 i13]], Res.one rfl rfl, ⟨decide (0 ≤ i12), i13, rfl, rfl, rfl⟩, (Hp.le_refl _), fun w hs => hs⟩

noncomputable def fn_row_within (xa : (List (Int × Bool))) (xb : Int) : Option Bool :=
  (fn_slices_ContainsFunc_api_Slot_api_Slot_k_row_within_1_p0_i xa xb).bind fun (t15, i17) => some (!t15)
set_option maxRecDepth 100000 in
set_option maxHeartbeats 4000000 in
theorem row_within_ok {K : Hp} {xa : (List (Int × Bool))} {xb : Int} {adxa_0 : Option Addr} {cpxa_0 : Nat} (fxa_0 : Is K (.sl (.cons (.int .i64) (.one .bool))) [.slice adxa_0 xa.length cpxa_0] xa) {r : Bool} (h : fn_row_within xa xb = some r) :
    Tr Try.prog 56 #[.agg #[.slice adxa_0 xa.length cpxa_0], .int .i64 xb] K [] (fun v K' L' => (∃ (t10 : Bool), t10 = r ∧ .bool t10 = v ∧ L' = []) ∧ K = K') := by
  refine Tr.k ?_
  refine Tr.of Try.func56 rfl Try.ntmps56 rfl (fun E F => ?_)
  unfold fn_row_within at h
  refine CJ.seq ?_
  refine CJ.region ?_
  refine J.op rfl (A.box (v := .agg #[.slice adxa_0 xa.length cpxa_0]) (cs := [.slice adxa_0 xa.length cpxa_0]) rfl rfl) ?_
  rintro _ _ _ ⟨b11, rfl, rfl, rfl⟩
  refine J.op rfl (A.box (v := .int .i64 xb) (cs := [.int .i64 xb]) rfl rfl) ?_
  rintro _ _ _ ⟨b12, rfl, rfl, rfl⟩
  refine J.val (v := .bool false) rfl rfl (V.as rfl) ?_
  refine J.nil ?_
  refine CJ.seq ?_
  refine CJ.region ?_
  refine J.val rfl rfl (V.fad Try.underlying26 rfl nz24 rfl) ?_
  refine J.val (v := .slice adxa_0 xa.length cpxa_0) rfl rfl (V.ld rfl (Ld.sc sc24 (Rd.cl 1 rfl rfl))) ?_
  refine J.val (v := .func (.func 69) #[] #[.pointer (some ⟨b12, 0, none⟩)]) rfl rfl (V.mkf rfl) ?_
  obtain ⟨r13, hr14, h⟩ := ob h
  refine J.op rfl (A.call (L1 := [Cl b12 3 [.int .i64 xb]]) Try.call68 rfl (slices_ContainsFunc_api_Slot_api_Slot_k_row_within_1_p0_i_ok fxa_0 hr14) rfl rfl) ?_
  rintro _ _ _ ⟨v18, _, rfl, ⟨⟨t15, i17, rfl, rfl, rfl⟩, rfl⟩, _, rfl⟩
  refine J.val (v := .bool (!t15)) rfl rfl (V.not rfl) ?_
  refine J.val (v := .bool (!t15)) rfl rfl (V.as rfl) ?_
  refine J.nil ?_
  refine CJ.ret ?_
  have e := Option.some.inj h
  subst e
  exact ⟨_, [], Res.one rfl rfl, ⟨!t15, rfl, rfl, rfl⟩, (Hp.le_refl _), fun w hs => (Sep.dropAt 0 rfl (Sep.dropAt 0 rfl hs))⟩

noncomputable def fn_row_Check (xa : (List (Int × Bool))) (xb : Int) : Option Int :=
  cond (decide (16 < (((xa.length : Nat) : Int)))) (some (6)) ((fn_row_within xa xb).bind fun t15 => cond (!t15) (some (7)) (some (0)))
set_option maxRecDepth 100000 in
set_option maxHeartbeats 4000000 in
theorem row_Check_ok {K : Hp} {xa : (List (Int × Bool))} {xb : Int} {adxa_0 : Option Addr} {cpxa_0 : Nat} (fxa_0 : Is K (.sl (.cons (.int .i64) (.one .bool))) [.slice adxa_0 xa.length cpxa_0] xa) {r : Int} (h : fn_row_Check xa xb = some r) :
    Tr Try.prog 37 #[.agg #[.slice adxa_0 xa.length cpxa_0], .int .i64 xb] K [] (fun v K' L' => (∃ (i10 : Int), i10 = r ∧ .int .i64 i10 = v ∧ L' = []) ∧ K = K') := by
  refine Tr.k ?_
  refine Tr.of Try.func37 rfl Try.ntmps37 rfl (fun E F => ?_)
  unfold fn_row_Check at h
  refine CJ.seq ?_
  refine CJ.region ?_
  refine J.op rfl (A.box (v := .agg #[.slice adxa_0 xa.length cpxa_0]) (cs := [.slice adxa_0 xa.length cpxa_0]) rfl rfl) ?_
  rintro _ _ _ ⟨b11, rfl, rfl, rfl⟩
  refine J.val (v := .int .i64 0) rfl rfl (V.as rfl) ?_
  refine J.nil ?_
  refine CJ.seq ?_
  refine CJ.seq ?_
  refine CJ.region ?_
  refine J.val rfl rfl (V.fad Try.underlying26 rfl nz24 rfl) ?_
  refine J.val (v := .slice adxa_0 xa.length cpxa_0) rfl rfl (V.ld rfl (Ld.sc sc24 (Rd.cl 0 rfl rfl))) ?_
  refine J.val (v := .int .i64 (((xa.length : Nat) : Int))) rfl rfl (V.len Try.underlying24 rfl) ?_
  refine J.val (v := .bool (decide (16 < (((xa.length : Nat) : Int))))) rfl rfl (V.gtr rfl rfl) ?_
  refine J.nil ?_
  refine CJ.cond rfl (fun hc12 => ?_) (fun hc12 => ?_)
  · have h := ct hc12 h
    refine CJ.seq ?_
    refine CJ.region ?_
    refine J.val (v := .int .i64 6) rfl rfl (V.as rfl) ?_
    refine J.nil ?_
    refine CJ.ret ?_
    have e := Option.some.inj h
    subst e
    exact ⟨_, [], Res.one rfl rfl, ⟨6, rfl, rfl, rfl⟩, (Hp.le_refl _), fun w hs => (Sep.dropAt 0 rfl hs)⟩
  · have h := cf hc12 h
    refine CJ.skip ?_
    refine CJ.seq ?_
    refine CJ.seq ?_
    refine CJ.region ?_
    refine J.val (v := .agg #[.slice adxa_0 xa.length cpxa_0]) rfl rfl (V.ld rfl (Ld.agg (cs := [.slice adxa_0 xa.length cpxa_0]) Try.underlying26 sz26 rfl (Rd.cls 0 0 rfl rfl))) ?_
    refine J.val (v := .int .i64 xb) rfl rfl (V.mv rfl) ?_
    obtain ⟨r13, hr14, h⟩ := ob h
    refine J.op rfl (A.call (L1 := []) Try.call56 rfl (row_within_ok fxa_0 hr14) rfl rfl) ?_
    rintro _ _ _ ⟨v16, _, rfl, ⟨⟨t15, rfl, rfl, rfl⟩, rfl⟩, _, rfl⟩
    refine J.val (v := .bool (!t15)) rfl rfl (V.not rfl) ?_
    refine J.nil ?_
    refine CJ.cond rfl (fun hc19 => ?_) (fun hc19 => ?_)
    · have h := ct hc19 h
      refine CJ.seq ?_
      refine CJ.region ?_
      refine J.val (v := .int .i64 7) rfl rfl (V.as rfl) ?_
      refine J.nil ?_
      refine CJ.ret ?_
      have e := Option.some.inj h
      subst e
      exact ⟨_, [], Res.one rfl rfl, ⟨7, rfl, rfl, rfl⟩, (Hp.le_refl _), fun w hs => (Sep.dropAt 0 rfl hs)⟩
    · have h := cf hc19 h
      refine CJ.skip ?_
      refine CJ.seq ?_
      refine CJ.region ?_
      refine J.val (v := .int .i64 0) rfl rfl (V.as rfl) ?_
      refine J.nil ?_
      refine CJ.ret ?_
      have e := Option.some.inj h
      subst e
      exact ⟨_, [], Res.one rfl rfl, ⟨0, rfl, rfl, rfl⟩, (Hp.le_refl _), fun w hs => (Sep.dropAt 0 rfl hs)⟩
noncomputable def fn_sig_Check_l1 (xa : (Int × (List (Int × Int)) × (List (List (Int × Bool))) × (List (Int × Bool)))) : (Int × Int × (List (Int × Int)) × (List (List (Int × Bool))) × (List (Int × Bool))) → Option ((Int × Int × (List (Int × Int)) × (List (List (Int × Bool))) × (List (Int × Bool))) ⊕ ((Int × (List (Int × Int)) × (List (List (Int × Bool))) × (List (Int × Bool))) ⊕ Int)) := fun ((i1082, i1083, l1084, l1088, l1092) : (Int × Int × (List (Int × Int)) × (List (List (Int × Bool))) × (List (Int × Bool)))) => cond (decide (i1082 < (((xa.2.1.length : Nat) : Int)))) ((getI xa.2.1 i1082).bind fun x1187 => (fn_sig_Check_1_ip0_ikkk x1187.1 i1083 l1084 l1088 l1092).bind fun (t1199, i1200, l1201, l1202, l1203) => cond (!t1199) (some (.inr ((.inr (7))))) ((fn_sig_Check_1_ip0_ikkk x1187.2 i1200 l1201 l1202 l1203).bind fun (t1239, i1240, l1241, l1242, l1243) => cond (!t1239) (some (.inr ((.inr (7))))) (some (.inl ((IntKind.wrap .i64 (i1082 + 1), i1240, l1241, l1242, l1243)))))) (some (.inr ((.inl (i1083, l1084, l1088, l1092)))))
noncomputable def fn_sig_Check_l2 (i981 : Int) (l986 : (List (List (Int × Bool)))) : Int → Option (Int ⊕ (Unit ⊕ Int)) := fun (i1358 : Int) => cond (decide (i1358 < (((l986.length : Nat) : Int)))) ((getI l986 i1358).bind fun x1387 => (fn_row_Check x1387 i981).bind fun i1403 => cond (!decide (i1403 = 0)) (some (.inr ((.inr (i1403))))) (some (.inl (IntKind.wrap .i64 (i1358 + 1))))) (some (.inr ((.inl ()))))
noncomputable def fn_sig_Check (xa : (Int × (List (Int × Int)) × (List (List (Int × Bool))) × (List (Int × Bool)))) : Option Int :=
  cond (decide (xa.1 < 0)) (some (7)) (cond (((decide (16 < xa.1)) || (decide (16 < (((xa.2.1.length : Nat) : Int))))) || (decide (16 < (((xa.2.2.1.length : Nat) : Int))))) (some (6)) ((loop (fn_sig_Check_l1 xa) (0, xa.1, xa.2.1, xa.2.2.1, xa.2.2.2) : Option ((Int × (List (Int × Int)) × (List (List (Int × Bool))) × (List (Int × Bool))) ⊕ Int)).bind fun o => match o with | .inr r => some r | .inl (i981, l982, l986, l990) => (loop (fn_sig_Check_l2 i981 l986) 0 : Option (Unit ⊕ Int)).bind fun o => match o with | .inr r => some r | .inl () => (fn_row_Check l990 i981).bind fun i1413 => some (i1413)))
set_option maxRecDepth 100000 in
set_option maxHeartbeats 4000000 in
theorem sig_Check_ok {K : Hp} {xa : (Int × (List (Int × Int)) × (List (List (Int × Bool))) × (List (Int × Bool)))} {adxa_1 : Option Addr} {cpxa_1 : Nat} {adxa_2 : Option Addr} {cpxa_2 : Nat} {adxa_3 : Option Addr} {cpxa_3 : Nat} (fxa_1 : Is K (.sl (.cons (.int .i64) (.one (.int .i64)))) [.slice adxa_1 xa.2.1.length cpxa_1] xa.2.1) (fxa_2 : Is K (.sl (.one (.sl (.cons (.int .i64) (.one .bool))))) [.slice adxa_2 xa.2.2.1.length cpxa_2] xa.2.2.1) (fxa_3 : Is K (.sl (.cons (.int .i64) (.one .bool))) [.slice adxa_3 xa.2.2.2.length cpxa_3] xa.2.2.2) {r : Int} (h : fn_sig_Check xa = some r) :
    Tr Try.prog 12 #[.agg #[.int .i64 xa.1, .slice adxa_1 xa.2.1.length cpxa_1, .slice adxa_2 xa.2.2.1.length cpxa_2, .slice adxa_3 xa.2.2.2.length cpxa_3]] K [] (fun v K' L' => (∃ (i709 : Int), i709 = r ∧ .int .i64 i709 = v ∧ L' = []) ∧ K = K') := by
  refine Tr.k ?_
  refine Tr.of Try.func12 rfl Try.ntmps12 rfl (fun E F => ?_)
  unfold fn_sig_Check at h
  refine CJ.seq ?_
  refine CJ.region ?_
  refine J.op rfl (A.box (v := .agg #[.int .i64 xa.1, .slice adxa_1 xa.2.1.length cpxa_1, .slice adxa_2 xa.2.2.1.length cpxa_2, .slice adxa_3 xa.2.2.2.length cpxa_3]) (cs := [.int .i64 xa.1, .slice adxa_1 xa.2.1.length cpxa_1, .slice adxa_2 xa.2.2.1.length cpxa_2, .slice adxa_3 xa.2.2.2.length cpxa_3]) rfl rfl) ?_
  rintro _ _ _ ⟨b710, rfl, rfl, rfl⟩
  refine J.val (v := .int .i64 0) rfl rfl (V.as rfl) ?_
  refine J.nil ?_
  refine CJ.seq ?_
  refine CJ.seq ?_
  refine CJ.region ?_
  refine J.val rfl rfl (V.fad Try.underlying28 rfl nz3 rfl) ?_
  refine J.val (v := .int .i64 xa.1) rfl rfl (V.ld rfl (Ld.sc sc3 (Rd.cl 0 rfl rfl))) ?_
  refine J.val (v := .bool (decide (xa.1 < 0))) rfl rfl (V.lss rfl rfl) ?_
  refine J.nil ?_
  refine CJ.cond rfl (fun hc711 => ?_) (fun hc711 => ?_)
  · have h := ct hc711 h
    refine CJ.seq ?_
    refine CJ.region ?_
    refine J.val (v := .int .i64 7) rfl rfl (V.as rfl) ?_
    refine J.nil ?_
    refine CJ.ret ?_
    have e := Option.some.inj h
    subst e
    exact ⟨_, [], Res.one rfl rfl, ⟨7, rfl, rfl, rfl⟩, (Hp.le_refl _), fun w hs => (Sep.dropAt 0 rfl hs)⟩
  · have h := cf hc711 h
    refine CJ.skip ?_
    refine CJ.seq ?_
    refine CJ.seq ?_
    refine CJ.region ?_
    refine J.val rfl rfl (V.fad Try.underlying28 rfl nz3 rfl) ?_
    refine J.val (v := .int .i64 xa.1) rfl rfl (V.ld rfl (Ld.sc sc3 (Rd.cl 0 rfl rfl))) ?_
    refine J.val (v := .bool (decide (16 < xa.1))) rfl rfl (V.gtr rfl rfl) ?_
    refine J.val (v := .bool (decide (16 < xa.1))) rfl rfl (V.mv rfl) ?_
    refine J.cut 5 ?_
    refine @J.meet _ _ _ _ _ _ _ _ _ _ (fun ρ K' L' => Fits [(20, .bool ((decide (16 < xa.1)) || (decide (16 < (((xa.2.1.length : Nat) : Int)))))), (1, .pointer (some ⟨b710, 0, none⟩))] ρ ∧ K = K' ∧ L' = Cl b710 28 [.int .i64 xa.1, .slice adxa_1 xa.2.1.length cpxa_1, .slice adxa_2 xa.2.2.1.length cpxa_2, .slice adxa_3 xa.2.2.2.length cpxa_3] :: F) ?_ ?_
    · skip
      rcases bt (decide (16 < xa.1)) with hc714 | hc714
      · skip
        refine J.skip rfl rfl rfl rfl hc714 ?_
        refine J.skip rfl rfl rfl rfl hc714 ?_
        refine J.skip rfl rfl rfl rfl hc714 ?_
        refine J.skip rfl rfl rfl rfl hc714 ?_
        refine J.val (v := .bool true) rfl rfl (V.pickT rfl hc714 rfl) ?_
        refine J.nil ?_
        exact ⟨rfl, ⟨(by simp only [hc714]; rfl), rfl, trivial⟩, rfl, rfl⟩
      · skip
        refine J.run rfl rfl rfl hc714 ?_
        refine J.val rfl rfl (V.fad Try.underlying28 rfl nz22 rfl) ?_
        refine J.run rfl rfl rfl hc714 ?_
        refine J.val (v := .slice adxa_1 xa.2.1.length cpxa_1) rfl rfl (V.ld rfl (Ld.sc sc22 (Rd.cl 0 rfl rfl))) ?_
        refine J.run rfl rfl rfl hc714 ?_
        refine J.val (v := .int .i64 (((xa.2.1.length : Nat) : Int))) rfl rfl (V.len Try.underlying22 rfl) ?_
        refine J.run rfl rfl rfl hc714 ?_
        refine J.val (v := .bool (decide (16 < (((xa.2.1.length : Nat) : Int))))) rfl rfl (V.gtr rfl rfl) ?_
        refine J.val (v := .bool (decide (16 < (((xa.2.1.length : Nat) : Int))))) rfl rfl (V.pickF rfl hc714 rfl) ?_
        refine J.nil ?_
        exact ⟨rfl, ⟨(by simp only [hc714]; rfl), rfl, trivial⟩, rfl, rfl⟩
    · rintro ρ _ _ ⟨hf, rfl, rfl⟩
      obtain ⟨ρ, rfl⟩ := hf.ex
      refine J.val (v := .bool ((decide (16 < xa.1)) || (decide (16 < (((xa.2.1.length : Nat) : Int)))))) rfl rfl (V.mv rfl) ?_
      refine J.cut 5 ?_
      refine @J.meet _ _ _ _ _ _ _ _ _ _ (fun ρ K' L' => Fits [(26, .bool (((decide (16 < xa.1)) || (decide (16 < (((xa.2.1.length : Nat) : Int))))) || (decide (16 < (((xa.2.2.1.length : Nat) : Int)))))), (1, .pointer (some ⟨b710, 0, none⟩))] ρ ∧ K = K' ∧ L' = Cl b710 28 [.int .i64 xa.1, .slice adxa_1 xa.2.1.length cpxa_1, .slice adxa_2 xa.2.2.1.length cpxa_2, .slice adxa_3 xa.2.2.2.length cpxa_3] :: F) ?_ ?_
      · skip
        rcases bt ((decide (16 < xa.1)) || (decide (16 < (((xa.2.1.length : Nat) : Int))))) with hc717 | hc717
        · skip
          refine J.skip rfl rfl rfl rfl hc717 ?_
          refine J.skip rfl rfl rfl rfl hc717 ?_
          refine J.skip rfl rfl rfl rfl hc717 ?_
          refine J.skip rfl rfl rfl rfl hc717 ?_
          refine J.val (v := .bool true) rfl rfl (V.pickT rfl hc717 rfl) ?_
          refine J.nil ?_
          exact ⟨rfl, ⟨(by simp only [hc717]; rfl), rfl, trivial⟩, rfl, rfl⟩
        · skip
          refine J.run rfl rfl rfl hc717 ?_
          refine J.val rfl rfl (V.fad Try.underlying28 rfl nz23 rfl) ?_
          refine J.run rfl rfl rfl hc717 ?_
          refine J.val (v := .slice adxa_2 xa.2.2.1.length cpxa_2) rfl rfl (V.ld rfl (Ld.sc sc23 (Rd.cl 0 rfl rfl))) ?_
          refine J.run rfl rfl rfl hc717 ?_
          refine J.val (v := .int .i64 (((xa.2.2.1.length : Nat) : Int))) rfl rfl (V.len Try.underlying23 rfl) ?_
          refine J.run rfl rfl rfl hc717 ?_
          refine J.val (v := .bool (decide (16 < (((xa.2.2.1.length : Nat) : Int))))) rfl rfl (V.gtr rfl rfl) ?_
          refine J.val (v := .bool (decide (16 < (((xa.2.2.1.length : Nat) : Int))))) rfl rfl (V.pickF rfl hc717 rfl) ?_
          refine J.nil ?_
          exact ⟨rfl, ⟨(by simp only [hc717]; rfl), rfl, trivial⟩, rfl, rfl⟩
      · rintro ρ _ _ ⟨hf, rfl, rfl⟩
        obtain ⟨ρ, rfl⟩ := hf.ex
        refine J.nil ?_
        refine CJ.cond rfl (fun hc718 => ?_) (fun hc718 => ?_)
        · have h := ct hc718 h
          refine CJ.seq ?_
          refine CJ.region ?_
          refine J.val (v := .int .i64 6) rfl rfl (V.as rfl) ?_
          refine J.nil ?_
          refine CJ.ret ?_
          have e := Option.some.inj h
          subst e
          exact ⟨_, [], Res.one rfl rfl, ⟨6, rfl, rfl, rfl⟩, (Hp.le_refl _), fun w hs => (Sep.dropAt 0 rfl hs)⟩
        · have h := cf hc718 h
          refine CJ.skip ?_
          refine CJ.seq ?_
          refine CJ.region ?_
          refine J.val (v := .func (.func 36) #[] #[.pointer (some ⟨b710, 0, none⟩)]) rfl rfl (V.mkf rfl) ?_
          refine J.val (v := .func (.func 36) #[] #[.pointer (some ⟨b710, 0, none⟩)]) rfl rfl (V.as rfl) ?_
          refine J.nil ?_
          refine CJ.seq ?_
          refine CJ.seq ?_
          refine CJ.region ?_
          refine J.val rfl rfl (V.fad Try.underlying28 rfl nz22 rfl) ?_
          refine J.val (v := .slice adxa_1 xa.2.1.length cpxa_1) rfl rfl (V.ld rfl (Ld.sc sc22 (Rd.cl 0 rfl rfl))) ?_
          refine J.val (v := .int .i64 (((xa.2.1.length : Nat) : Int))) rfl rfl (V.len Try.underlying22 rfl) ?_
          refine J.val (v := .int .i64 0) rfl rfl (V.mv rfl) ?_
          refine J.nil ?_
          obtain ⟨o994, ho995, h⟩ := ob h
          refine CJ.joinN (o := o994) (fun s ρ K' L' => ∃ (i981 : Int) (l982 : (List (Int × Int))) (l986 : (List (List (Int × Bool)))) (l990 : (List (Int × Bool))) (ad983 : Option Addr) (cp984 : Nat) (ad987 : Option Addr) (cp988 : Nat) (ad991 : Option Addr) (cp992 : Nat), (i981, l982, l986, l990) = s ∧ Fits [(1, .pointer (some ⟨b710, 0, none⟩))] ρ ∧ Hp.le K K' ∧ Is K' (.sl (.cons (.int .i64) (.one (.int .i64)))) [.slice ad983 l982.length cp984] l982 ∧ Is K' (.sl (.one (.sl (.cons (.int .i64) (.one .bool))))) [.slice ad987 l986.length cp988] l986 ∧ Is K' (.sl (.cons (.int .i64) (.one .bool))) [.slice ad991 l990.length cp992] l990 ∧ L' = Cl b710 28 [.int .i64 i981, .slice ad983 l982.length cp984, .slice ad987 l986.length cp988, .slice ad991 l990.length cp992] :: F) ?_ ?_
          · skip
            refine CJ.block ?_
            refine CJ.loop (fun s ρ K' L' => ∃ (i1082 : Int) (i1083 : Int) (l1084 : (List (Int × Int))) (l1088 : (List (List (Int × Bool)))) (l1092 : (List (Int × Bool))) (ad1085 : Option Addr) (cp1086 : Nat) (ad1089 : Option Addr) (cp1090 : Nat) (ad1093 : Option Addr) (cp1094 : Nat), (i1082, i1083, l1084, l1088, l1092) = s ∧ Fits [(1, .pointer (some ⟨b710, 0, none⟩)), (3, .func (.func 36) #[] #[.pointer (some ⟨b710, 0, none⟩)]), (29, .slice adxa_1 xa.2.1.length cpxa_1), (30, .int .i64 (((xa.2.1.length : Nat) : Int))), (31, .int .i64 i1082)] ρ ∧ Hp.le K K' ∧ Is K' (.sl (.cons (.int .i64) (.one (.int .i64)))) [.slice ad1085 l1084.length cp1086] l1084 ∧ Is K' (.sl (.one (.sl (.cons (.int .i64) (.one .bool))))) [.slice ad1089 l1088.length cp1090] l1088 ∧ Is K' (.sl (.cons (.int .i64) (.one .bool))) [.slice ad1093 l1092.length cp1094] l1092 ∧ L' = Cl b710 28 [.int .i64 i1083, .slice ad1085 l1084.length cp1086, .slice ad1089 l1088.length cp1090, .slice ad1093 l1092.length cp1094] :: F) ho995 ⟨0, xa.1, xa.2.1, xa.2.2.1, xa.2.2.2, adxa_1, cpxa_1, adxa_2, cpxa_2, adxa_3, cpxa_3, rfl, ⟨rfl, rfl, rfl, rfl, rfl, trivial⟩, (Hp.le_refl _), fxa_1, fxa_2, fxa_3, rfl⟩ ?_
            rintro s ρ K1081 _ r1185 ⟨i1082, i1083, l1084, l1088, l1092, ad1085, cp1086, ad1089, cp1090, ad1093, cp1094, rfl, hf1183, hk1184, f1087, f1091, f1095, rfl⟩ h1182
            obtain ⟨ρ, rfl⟩ := hf1183.ex
            refine CJ.seq ?_
            refine CJ.region ?_
            refine J.val (v := .bool (decide (i1082 < (((xa.2.1.length : Nat) : Int))))) rfl rfl (V.lss rfl rfl) ?_
            refine J.nil ?_
            refine CJ.seq ?_
            refine CJ.cond rfl (fun hc1186 => ?_) (fun hc1186 => ?_)
            · have h1182 := ct hc1186 h1182
              refine CJ.skip ?_
              refine CJ.seq ?_
              refine CJ.block ?_
              refine CJ.seq ?_
              refine CJ.region ?_
              obtain ⟨x1187, hx1188, h1182⟩ := ob h1182
              obtain ⟨p1189, p1190, p1191⟩ := getI_some hx1188
              obtain ⟨b1192, o1193, e1194, a1195⟩ := ((fxa_1.mono hk1184)).at p1190
              refine J.val rfl rfl (V.iad Try.underlying22 sz63 rfl e1194 rfl p1189 p1191) ?_
              refine J.val (v := .agg #[.int .i64 x1187.1, .int .i64 x1187.2]) rfl rfl (V.ld rfl (Ld.aggK (cs := [.int .i64 x1187.1, .int .i64 x1187.2]) Try.underlying63 sz63 rfl ⟨((a1195).fst).int, (((a1195).snd).one).int, trivial⟩ (Hp.le_refl _))) ?_
              refine J.op rfl (A.alloc (cs := [.int .i64 0, .int .i64 0]) inf63 rfl) ?_
              rintro _ _ _ ⟨b1196, rfl, rfl, rfl⟩
              refine J.op rfl (A.store (v := .agg #[.int .i64 x1187.1, .int .i64 x1187.2]) (cs' := [.int .i64 x1187.1, .int .i64 x1187.2]) sz63 rfl rfl rfl rfl rfl rfl) ?_
              rintro _ _ _ ⟨rfl, rfl, rfl⟩
              refine J.nil ?_
              refine CJ.seq ?_
              refine CJ.region ?_
              refine J.val (v := .func (.func 36) #[] #[.pointer (some ⟨b710, 0, none⟩)]) rfl rfl (V.mv rfl) ?_
              refine J.val rfl rfl (V.fad Try.underlying63 rfl nz3 rfl) ?_
              refine J.val (v := .int .i64 x1187.1) rfl rfl (V.ld rfl (Ld.sc sc3 (Rd.cl 0 rfl rfl))) ?_
              obtain ⟨r1197, hr1198, h1182⟩ := ob h1182
              refine J.front 1 rfl ?_
              refine J.op rfl (A.call (L1 := [Cl b710 28 [.int .i64 i1083, .slice ad1085 l1084.length cp1086, .slice ad1089 l1088.length cp1090, .slice ad1093 l1092.length cp1094]]) Try.call36 rfl (sig_Check_1_ip0_ikkk_ok f1087 f1091 f1095 hr1198) rfl rfl) ?_
              rintro _ K1214 _ ⟨v1213, _, rfl, ⟨t1199, i1200, l1201, l1202, l1203, ad1204, cp1205, ad1206, cp1207, ad1208, cp1209, rfl, rfl, f1210, f1211, f1212, rfl⟩, hK1215, rfl⟩
              refine J.val (v := .bool (!t1199)) rfl rfl (V.not rfl) ?_
              refine J.val (v := .bool (!t1199)) rfl rfl (V.mv rfl) ?_
              rcases bt (!t1199) with hc1236 | hc1236
              · have h1182 := ct hc1236 h1182
                refine J.skip rfl rfl rfl rfl hc1236 ?_
                refine J.skip rfl rfl rfl rfl hc1236 ?_
                refine J.skip rfl rfl rfl rfl hc1236 ?_
                refine J.skip rfl rfl rfl rfl hc1236 ?_
                refine J.skip rfl rfl rfl rfl hc1236 ?_
                refine J.val (v := .bool true) rfl rfl (V.pickT rfl hc1236 rfl) ?_
                refine J.nil ?_
                refine CJ.condK (b := true) rfl rfl ?_
                refine CJ.seq ?_
                refine CJ.region ?_
                refine J.val (v := .int .i64 7) rfl rfl (V.as rfl) ?_
                refine J.nil ?_
                refine CJ.ret ?_
                have e := Option.some.inj h1182
                subst e
                refine ⟨nofun, fun e => ?_⟩
                subst e
                refine .inr ⟨nofun, ?_⟩
                have e := Option.some.inj h
                subst e
                exact ⟨_, [], Res.one rfl rfl, ⟨7, rfl, rfl, rfl⟩, (hk1184.trans hK1215), fun w hs => (Sep.dropAt 0 rfl (Sep.dropAt 0 rfl hs))⟩
              · have h1182 := cf hc1236 h1182
                refine J.run rfl rfl rfl hc1236 ?_
                refine J.val (v := .func (.func 36) #[] #[.pointer (some ⟨b710, 0, none⟩)]) rfl rfl (V.mv rfl) ?_
                refine J.run rfl rfl rfl hc1236 ?_
                refine J.val rfl rfl (V.fad Try.underlying63 rfl nz3 rfl) ?_
                refine J.run rfl rfl rfl hc1236 ?_
                refine J.val (v := .int .i64 x1187.2) rfl rfl (V.ld rfl (Ld.sc sc3 (Rd.cl 1 rfl rfl))) ?_
                refine J.run rfl rfl rfl hc1236 ?_
                obtain ⟨r1237, hr1238, h1182⟩ := ob h1182
                refine J.op rfl (A.call (L1 := [Cl b710 28 [.int .i64 i1200, .slice ad1204 l1201.length cp1205, .slice ad1206 l1202.length cp1207, .slice ad1208 l1203.length cp1209]]) Try.call36 rfl (sig_Check_1_ip0_ikkk_ok f1210 f1211 f1212 hr1238) rfl rfl) ?_
                rintro _ K1254 _ ⟨v1253, _, rfl, ⟨t1239, i1240, l1241, l1242, l1243, ad1244, cp1245, ad1246, cp1247, ad1248, cp1249, rfl, rfl, f1250, f1251, f1252, rfl⟩, hK1255, rfl⟩
                refine J.run rfl rfl rfl hc1236 ?_
                refine J.val (v := .bool (!t1239)) rfl rfl (V.not rfl) ?_
                refine J.val (v := .bool (!t1239)) rfl rfl (V.pickF rfl hc1236 rfl) ?_
                refine J.nil ?_
                refine CJ.cond rfl (fun hc1256 => ?_) (fun hc1256 => ?_)
                · have h1182 := ct hc1256 h1182
                  refine CJ.seq ?_
                  refine CJ.region ?_
                  refine J.val (v := .int .i64 7) rfl rfl (V.as rfl) ?_
                  refine J.nil ?_
                  refine CJ.ret ?_
                  have e := Option.some.inj h1182
                  subst e
                  refine ⟨nofun, fun e => ?_⟩
                  subst e
                  refine .inr ⟨nofun, ?_⟩
                  have e := Option.some.inj h
                  subst e
                  exact ⟨_, [], Res.one rfl rfl, ⟨7, rfl, rfl, rfl⟩, ((hk1184.trans hK1215).trans hK1255), fun w hs => (Sep.dropAt 0 rfl (Sep.dropAt 0 rfl hs))⟩
                · have h1182 := cf hc1256 h1182
                  refine CJ.skip ?_
                  refine CJ.region ?_
                  refine J.val (v := .int .i64 (IntKind.wrap .i64 (i1082 + 1))) rfl rfl (V.add rfl rfl) ?_
                  refine J.val (v := .int .i64 (IntKind.wrap .i64 (i1082 + 1))) rfl rfl (V.mv rfl) ?_
                  refine J.dropAt 1 rfl ?_
                  refine J.nil ?_
                  have e := Option.some.inj h1182
                  subst e
                  exact ⟨rfl, ⟨IntKind.wrap .i64 (i1082 + 1), i1240, l1241, l1242, l1243, ad1244, cp1245, ad1246, cp1247, ad1248, cp1249, rfl, ⟨rfl, rfl, rfl, rfl, rfl, trivial⟩, ((hk1184.trans hK1215).trans hK1255), f1250, f1251, f1252, rfl⟩⟩
            · have h1182 := cf hc1186 h1182
              refine CJ.exit ?_
              have e := Option.some.inj h1182
              subst e
              refine ⟨nofun, fun e => ?_⟩
              subst e
              exact .inl ⟨rfl, _, rfl, ⟨i1083, l1084, l1088, l1092, ad1085, cp1086, ad1089, cp1090, ad1093, cp1094, rfl, ⟨rfl, trivial⟩, hk1184, f1087, f1091, f1095, rfl⟩⟩
          · rintro s ρ K980 _ ho1257 ⟨i981, l982, l986, l990, ad983, cp984, ad987, cp988, ad991, cp992, rfl, hf1258, hk1259, f985, f989, f993, rfl⟩
            subst ho1257
            obtain ⟨ρ, rfl⟩ := hf1258.ex
            refine PJ.done ?_
            refine CJ.seq ?_
            refine CJ.seq ?_
            refine CJ.region ?_
            refine J.val rfl rfl (V.fad Try.underlying28 rfl nz23 rfl) ?_
            refine J.val (v := .slice ad987 l986.length cp988) rfl rfl (V.ld rfl (Ld.sc sc23 (Rd.cl 0 rfl rfl))) ?_
            refine J.val (v := .int .i64 (((l986.length : Nat) : Int))) rfl rfl (V.len Try.underlying23 rfl) ?_
            refine J.val (v := .int .i64 0) rfl rfl (V.mv rfl) ?_
            refine J.nil ?_
            obtain ⟨o1333, ho1334, h⟩ := ob h
            refine CJ.joinN (o := o1333) (fun s ρ K' L' => () = s ∧ Fits [(1, .pointer (some ⟨b710, 0, none⟩))] ρ ∧ K980 = K' ∧ L' = Cl b710 28 [.int .i64 i981, .slice ad983 l982.length cp984, .slice ad987 l986.length cp988, .slice ad991 l990.length cp992] :: F) ?_ ?_
            · skip
              refine CJ.block ?_
              refine CJ.loop (fun s ρ K' L' => ∃ (i1358 : Int), i1358 = s ∧ Fits [(1, .pointer (some ⟨b710, 0, none⟩)), (49, .slice ad987 l986.length cp988), (50, .int .i64 (((l986.length : Nat) : Int))), (51, .int .i64 i1358)] ρ ∧ K980 = K' ∧ L' = Cl b710 28 [.int .i64 i981, .slice ad983 l982.length cp984, .slice ad987 l986.length cp988, .slice ad991 l990.length cp992] :: F) ho1334 ⟨0, rfl, ⟨rfl, rfl, rfl, rfl, trivial⟩, rfl, rfl⟩ ?_
              rintro s ρ _ _ r1385 ⟨i1358, rfl, hf1383, rfl, rfl⟩ h1382
              obtain ⟨ρ, rfl⟩ := hf1383.ex
              refine CJ.seq ?_
              refine CJ.region ?_
              refine J.val (v := .bool (decide (i1358 < (((l986.length : Nat) : Int))))) rfl rfl (V.lss rfl rfl) ?_
              refine J.nil ?_
              refine CJ.seq ?_
              refine CJ.cond rfl (fun hc1386 => ?_) (fun hc1386 => ?_)
              · have h1382 := ct hc1386 h1382
                refine CJ.skip ?_
                refine CJ.seq ?_
                refine CJ.block ?_
                refine CJ.seq ?_
                refine CJ.region ?_
                obtain ⟨x1387, hx1388, h1382⟩ := ob h1382
                obtain ⟨p1389, p1390, p1391⟩ := getI_some hx1388
                obtain ⟨b1392, o1393, e1394, a1395⟩ := (f989).at p1390
                refine J.val rfl rfl (V.iad Try.underlying23 sz26 rfl e1394 rfl p1389 p1391) ?_
                obtain ⟨ad1396, cp1397, c1398, f1399⟩ := ((a1395).one).sl
                refine J.val (v := .agg #[.slice ad1396 x1387.length cp1397]) rfl rfl (V.ld rfl (Ld.aggK (cs := [.slice ad1396 x1387.length cp1397]) Try.underlying26 sz26 rfl ⟨c1398, trivial⟩ (Hp.le_refl _))) ?_
                refine J.op rfl (A.alloc (cs := [.slice none 0 0]) inf26 rfl) ?_
                rintro _ _ _ ⟨b1400, rfl, rfl, rfl⟩
                refine J.op rfl (A.store (v := .agg #[.slice ad1396 x1387.length cp1397]) (cs' := [.slice ad1396 x1387.length cp1397]) sz26 rfl rfl rfl rfl rfl rfl) ?_
                rintro _ _ _ ⟨rfl, rfl, rfl⟩
                refine J.nil ?_
                refine CJ.seq ?_
                refine CJ.region ?_
                refine J.val (v := .agg #[.slice ad1396 x1387.length cp1397]) rfl rfl (V.ld rfl (Ld.agg (cs := [.slice ad1396 x1387.length cp1397]) Try.underlying26 sz26 rfl (Rd.cls 0 0 rfl rfl))) ?_
                refine J.val rfl rfl (V.fad Try.underlying28 rfl nz3 rfl) ?_
                refine J.val (v := .int .i64 i981) rfl rfl (V.ld rfl (Ld.sc sc3 (Rd.cl 1 rfl rfl))) ?_
                obtain ⟨r1401, hr1402, h1382⟩ := ob h1382
                refine J.op rfl (A.call (L1 := []) Try.call37 rfl (row_Check_ok f1399 hr1402) rfl rfl) ?_
                rintro _ _ _ ⟨v1404, _, rfl, ⟨⟨i1403, rfl, rfl, rfl⟩, rfl⟩, _, rfl⟩
                refine J.val (v := .int .i64 i1403) rfl rfl (V.as rfl) ?_
                refine J.nil ?_
                refine CJ.seq ?_
                refine CJ.region ?_
                refine J.val (v := .int .i64 i1403) rfl rfl (V.mv rfl) ?_
                refine J.val (v := .bool (!decide (i1403 = 0))) rfl rfl (V.neq rfl rfl) ?_
                refine J.nil ?_
                refine CJ.cond rfl (fun hc1407 => ?_) (fun hc1407 => ?_)
                · have h1382 := ct hc1407 h1382
                  refine CJ.seq ?_
                  refine CJ.region ?_
                  refine J.val (v := .int .i64 i1403) rfl rfl (V.mv rfl) ?_
                  refine J.val (v := .int .i64 i1403) rfl rfl (V.as rfl) ?_
                  refine J.nil ?_
                  refine CJ.ret ?_
                  have e := Option.some.inj h1382
                  subst e
                  refine ⟨nofun, fun e => ?_⟩
                  subst e
                  refine .inr ⟨nofun, ?_⟩
                  have e := Option.some.inj h
                  subst e
                  exact ⟨_, [], Res.one rfl rfl, ⟨i1403, rfl, rfl, rfl⟩, hk1259, fun w hs => (Sep.dropAt 0 rfl (Sep.dropAt 0 rfl hs))⟩
                · have h1382 := cf hc1407 h1382
                  refine CJ.skip ?_
                  refine CJ.region ?_
                  refine J.val (v := .int .i64 (IntKind.wrap .i64 (i1358 + 1))) rfl rfl (V.add rfl rfl) ?_
                  refine J.val (v := .int .i64 (IntKind.wrap .i64 (i1358 + 1))) rfl rfl (V.mv rfl) ?_
                  refine J.dropAt 0 rfl ?_
                  refine J.nil ?_
                  have e := Option.some.inj h1382
                  subst e
                  exact ⟨rfl, ⟨IntKind.wrap .i64 (i1358 + 1), rfl, ⟨rfl, rfl, rfl, rfl, trivial⟩, rfl, rfl⟩⟩
              · have h1382 := cf hc1386 h1382
                refine CJ.exit ?_
                have e := Option.some.inj h1382
                subst e
                refine ⟨nofun, fun e => ?_⟩
                subst e
                exact .inl ⟨rfl, _, rfl, ⟨rfl, ⟨rfl, trivial⟩, rfl, rfl⟩⟩
            · rintro s ρ _ _ ho1408 ⟨rfl, hf1409, rfl, rfl⟩
              subst ho1408
              obtain ⟨ρ, rfl⟩ := hf1409.ex
              refine PJ.done ?_
              refine CJ.seq ?_
              refine CJ.region ?_
              refine J.val rfl rfl (V.fad Try.underlying28 rfl nz26 rfl) ?_
              refine J.val (v := .agg #[.slice ad991 l990.length cp992]) rfl rfl (V.ld rfl (Ld.agg (cs := [.slice ad991 l990.length cp992]) Try.underlying26 sz26 rfl (Rd.cls 0 3 rfl rfl))) ?_
              refine J.val rfl rfl (V.fad Try.underlying28 rfl nz3 rfl) ?_
              refine J.val (v := .int .i64 i981) rfl rfl (V.ld rfl (Ld.sc sc3 (Rd.cl 0 rfl rfl))) ?_
              obtain ⟨r1411, hr1412, h⟩ := ob h
              refine J.op rfl (A.call (L1 := []) Try.call37 rfl (row_Check_ok f993 hr1412) rfl rfl) ?_
              rintro _ _ _ ⟨v1414, _, rfl, ⟨⟨i1413, rfl, rfl, rfl⟩, rfl⟩, _, rfl⟩
              refine J.val (v := .int .i64 i1413) rfl rfl (V.as rfl) ?_
              refine J.nil ?_
              refine CJ.ret ?_
              have e := Option.some.inj h
              subst e
              exact ⟨_, [], Res.one rfl rfl, ⟨i1413, rfl, rfl, rfl⟩, hk1259, fun w hs => (Sep.dropAt 0 rfl hs)⟩

noncomputable def fn_law17_awake  : Option Bool :=
  (fn_sig_TakeType ([2, 6, 9] : List UInt8)).bind fun (l69, i70, i71) => (fn_sig_PutType l69).bind fun s85 => (cond ((((decide (s85 = ([2, 6, 9] : List UInt8))) && (decide (i70 = 3))) && (decide (i71 = 0))) && (decide ((((l69.length : Nat) : Int)) = 2))) ((getI l69 1).bind fun x109 => some (x109.2)) (some (false))).bind fun t106 => (cond (t106) ((fn_sig_Check (17, [], [], [])).bind fun i128 => some (decide (i128 = 6))) (some (false))).bind fun t123 => some (t123)
set_option maxRecDepth 100000 in
set_option maxHeartbeats 4000000 in
theorem law17_awake_ok {K : Hp}    {r : Bool} (h : fn_law17_awake = some r) :
    Tr Try.prog 9 #[] K [] (fun v K' L' => (∃ (t66 : Bool), t66 = r ∧ .bool t66 = v ∧ L' = []) ∧ K = K') := by
  refine Tr.k ?_
  refine Tr.of Try.func9 rfl Try.ntmps9 rfl (fun E F => ?_)
  unfold fn_law17_awake at h
  refine CJ.seq ?_
  refine CJ.region ?_
  refine J.val (v := .bool false) rfl rfl (V.as rfl) ?_
  refine J.nil ?_
  refine CJ.seq ?_
  refine CJ.region ?_
  obtain ⟨r67, hr68, h⟩ := ob h
  refine J.op rfl (A.call (L1 := []) Try.call16 rfl (sig_TakeType_ok hr68) rfl rfl) ?_
  rintro _ _ _ ⟨v75, _, rfl, ⟨⟨l69, i70, i71, ad72, cp73, rfl, rfl, rfl⟩, rfl⟩, _, rfl⟩
  refine J.wit Row.hn (fun hn74 => ?_)
  refine J.val (v := .tuple #[.agg #[.slice ad72 l69.length cp73], .int .i64 i70, .int .i64 i71]) rfl rfl (V.mv rfl) ?_
  refine J.val (v := .agg #[.slice ad72 l69.length cp73]) rfl rfl (V.ext rfl rfl) ?_
  refine J.val (v := .int .i64 i70) rfl rfl (V.ext rfl rfl) ?_
  refine J.val (v := .int .i64 i71) rfl rfl (V.ext rfl rfl) ?_
  refine J.op rfl (A.alloc (cs := [.slice none 0 0]) inf26 rfl) ?_
  rintro _ _ _ ⟨b79, rfl, rfl, rfl⟩
  refine J.op rfl (A.store (v := .agg #[.slice ad72 l69.length cp73]) (cs' := [.slice ad72 l69.length cp73]) sz26 rfl rfl rfl rfl rfl rfl) ?_
  rintro _ _ _ ⟨rfl, rfl, rfl⟩
  refine J.val (v := .int .i64 i70) rfl rfl (V.as rfl) ?_
  refine J.val (v := .int .i64 i71) rfl rfl (V.as rfl) ?_
  refine J.nil ?_
  refine CJ.seq ?_
  refine CJ.region ?_
  refine J.val (v := .agg #[.slice ad72 l69.length cp73]) rfl rfl (V.ld rfl (Ld.agg (cs := [.slice ad72 l69.length cp73]) Try.underlying26 sz26 rfl (Rd.cls 0 0 rfl rfl))) ?_
  obtain ⟨r80, hr81, h⟩ := ob h
  refine J.front 1 rfl ?_
  refine J.op rfl (A.call (L1 := [Row Hp.nil 60 (.cons (.int .i64) (.one .bool)) (.slice ad72 l69.length cp73) l69]) Try.call26 rfl (Tr.lend (Hp.nil_le _) (by decide) (fun K82 hK83 f84 => sig_PutType_ok f84 hr81)) rfl rfl) ?_
  rintro _ _ _ ⟨v86, _, rfl, ⟨⟨_, ⟨s85, rfl, rfl, rfl⟩, rfl⟩, rfl⟩, _, rfl⟩
  refine J.val (v := .bool (decide (s85 = ([2, 6, 9] : List UInt8)))) rfl rfl (V.eqs rfl rfl) ?_
  refine J.val (v := .bool (decide (s85 = ([2, 6, 9] : List UInt8)))) rfl rfl (V.mv rfl) ?_
  refine J.cut 3 ?_
  refine @J.meet _ _ _ _ _ _ _ _ _ _ (fun ρ K' L' => Fits [(15, .bool ((decide (s85 = ([2, 6, 9] : List UInt8))) && (decide (i70 = 3)))), (1, .pointer (some ⟨b79, 0, none⟩)), (3, .int .i64 i71)] ρ ∧ K = K' ∧ L' = Row Hp.nil 60 (.cons (.int .i64) (.one .bool)) (.slice ad72 l69.length cp73) l69 :: Cl b79 26 [.slice ad72 l69.length cp73] :: F) ?_ ?_
  · skip
    rcases bt (decide (s85 = ([2, 6, 9] : List UInt8))) with hc91 | hc91
    · skip
      refine J.run rfl rfl rfl hc91 ?_
      refine J.val (v := .int .i64 i70) rfl rfl (V.mv rfl) ?_
      refine J.run rfl rfl rfl hc91 ?_
      refine J.val (v := .bool (decide (i70 = 3))) rfl rfl (V.eql rfl rfl) ?_
      refine J.val (v := .bool (decide (i70 = 3))) rfl rfl (V.pickT rfl hc91 rfl) ?_
      refine J.nil ?_
      exact ⟨rfl, ⟨(by simp only [hc91]; rfl), rfl, rfl, trivial⟩, rfl, rfl⟩
    · skip
      refine J.skip rfl rfl rfl rfl hc91 ?_
      refine J.skip rfl rfl rfl rfl hc91 ?_
      refine J.val (v := .bool false) rfl rfl (V.pickF rfl hc91 rfl) ?_
      refine J.nil ?_
      exact ⟨rfl, ⟨(by simp only [hc91]; rfl), rfl, rfl, trivial⟩, rfl, rfl⟩
  · rintro ρ _ _ ⟨hf, rfl, rfl⟩
    obtain ⟨ρ, rfl⟩ := hf.ex
    refine J.val (v := .bool ((decide (s85 = ([2, 6, 9] : List UInt8))) && (decide (i70 = 3)))) rfl rfl (V.mv rfl) ?_
    refine J.cut 3 ?_
    refine @J.meet _ _ _ _ _ _ _ _ _ _ (fun ρ K' L' => Fits [(19, .bool (((decide (s85 = ([2, 6, 9] : List UInt8))) && (decide (i70 = 3))) && (decide (i71 = 0)))), (1, .pointer (some ⟨b79, 0, none⟩))] ρ ∧ K = K' ∧ L' = Row Hp.nil 60 (.cons (.int .i64) (.one .bool)) (.slice ad72 l69.length cp73) l69 :: Cl b79 26 [.slice ad72 l69.length cp73] :: F) ?_ ?_
    · skip
      rcases bt ((decide (s85 = ([2, 6, 9] : List UInt8))) && (decide (i70 = 3))) with hc94 | hc94
      · skip
        refine J.run rfl rfl rfl hc94 ?_
        refine J.val (v := .int .i64 i71) rfl rfl (V.mv rfl) ?_
        refine J.run rfl rfl rfl hc94 ?_
        refine J.val (v := .bool (decide (i71 = 0))) rfl rfl (V.eql rfl rfl) ?_
        refine J.val (v := .bool (decide (i71 = 0))) rfl rfl (V.pickT rfl hc94 rfl) ?_
        refine J.nil ?_
        exact ⟨rfl, ⟨(by simp only [hc94]; rfl), rfl, trivial⟩, rfl, rfl⟩
      · skip
        refine J.skip rfl rfl rfl rfl hc94 ?_
        refine J.skip rfl rfl rfl rfl hc94 ?_
        refine J.val (v := .bool false) rfl rfl (V.pickF rfl hc94 rfl) ?_
        refine J.nil ?_
        exact ⟨rfl, ⟨(by simp only [hc94]; rfl), rfl, trivial⟩, rfl, rfl⟩
    · rintro ρ _ _ ⟨hf, rfl, rfl⟩
      obtain ⟨ρ, rfl⟩ := hf.ex
      refine J.val (v := .bool (((decide (s85 = ([2, 6, 9] : List UInt8))) && (decide (i70 = 3))) && (decide (i71 = 0)))) rfl rfl (V.mv rfl) ?_
      refine J.cut 5 ?_
      refine @J.meet _ _ _ _ _ _ _ _ _ _ (fun ρ K' L' => Fits [(25, .bool ((((decide (s85 = ([2, 6, 9] : List UInt8))) && (decide (i70 = 3))) && (decide (i71 = 0))) && (decide ((((l69.length : Nat) : Int)) = 2)))), (1, .pointer (some ⟨b79, 0, none⟩))] ρ ∧ K = K' ∧ L' = Row Hp.nil 60 (.cons (.int .i64) (.one .bool)) (.slice ad72 l69.length cp73) l69 :: Cl b79 26 [.slice ad72 l69.length cp73] :: F) ?_ ?_
      · skip
        rcases bt (((decide (s85 = ([2, 6, 9] : List UInt8))) && (decide (i70 = 3))) && (decide (i71 = 0))) with hc97 | hc97
        · skip
          refine J.run rfl rfl rfl hc97 ?_
          refine J.val rfl rfl (V.fad Try.underlying26 rfl nz24 rfl) ?_
          refine J.run rfl rfl rfl hc97 ?_
          refine J.val (v := .slice ad72 l69.length cp73) rfl rfl (V.ld rfl (Ld.sc sc24 (Rd.cl 1 rfl rfl))) ?_
          refine J.run rfl rfl rfl hc97 ?_
          refine J.val (v := .int .i64 (((l69.length : Nat) : Int))) rfl rfl (V.len Try.underlying24 rfl) ?_
          refine J.run rfl rfl rfl hc97 ?_
          refine J.val (v := .bool (decide ((((l69.length : Nat) : Int)) = 2))) rfl rfl (V.eql rfl rfl) ?_
          refine J.val (v := .bool (decide ((((l69.length : Nat) : Int)) = 2))) rfl rfl (V.pickT rfl hc97 rfl) ?_
          refine J.nil ?_
          exact ⟨rfl, ⟨(by simp only [hc97]; rfl), rfl, trivial⟩, rfl, rfl⟩
        · skip
          refine J.skip rfl rfl rfl rfl hc97 ?_
          refine J.skip rfl rfl rfl rfl hc97 ?_
          refine J.skip rfl rfl rfl rfl hc97 ?_
          refine J.skip rfl rfl rfl rfl hc97 ?_
          refine J.val (v := .bool false) rfl rfl (V.pickF rfl hc97 rfl) ?_
          refine J.nil ?_
          exact ⟨rfl, ⟨(by simp only [hc97]; rfl), rfl, trivial⟩, rfl, rfl⟩
      · rintro ρ _ _ ⟨hf, rfl, rfl⟩
        obtain ⟨ρ, rfl⟩ := hf.ex
        refine J.val (v := .bool ((((decide (s85 = ([2, 6, 9] : List UInt8))) && (decide (i70 = 3))) && (decide (i71 = 0))) && (decide ((((l69.length : Nat) : Int)) = 2)))) rfl rfl (V.mv rfl) ?_
        refine J.cut 6 ?_
        obtain ⟨t106, ht107, h⟩ := ob h
        refine @J.meet _ _ _ _ _ _ _ _ _ _ (fun ρ K' L' => Fits [(32, .bool t106)] ρ ∧ K = K' ∧ L' = Row Hp.nil 60 (.cons (.int .i64) (.one .bool)) (.slice ad72 l69.length cp73) l69 :: Cl b79 26 [.slice ad72 l69.length cp73] :: F) ?_ ?_
        · skip
          rcases bt ((((decide (s85 = ([2, 6, 9] : List UInt8))) && (decide (i70 = 3))) && (decide (i71 = 0))) && (decide ((((l69.length : Nat) : Int)) = 2))) with hc108 | hc108
          · have ht107 := ct hc108 ht107
            refine J.run rfl rfl rfl hc108 ?_
            refine J.val rfl rfl (V.fad Try.underlying26 rfl nz24 rfl) ?_
            refine J.run rfl rfl rfl hc108 ?_
            refine J.val (v := .slice ad72 l69.length cp73) rfl rfl (V.ld rfl (Ld.sc sc24 (Rd.cl 1 rfl rfl))) ?_
            refine J.run rfl rfl rfl hc108 ?_
            obtain ⟨x109, hx110, ht107⟩ := ob ht107
            obtain ⟨p111, p112, p113⟩ := getI_some hx110
            obtain ⟨g114, e115⟩ := hn74 (fun e => by rw [e] at p112; simp at p112)
            refine J.val rfl rfl (V.iad Try.underlying24 sz60 rfl e115 rfl p111 p113) ?_
            refine J.run rfl rfl rfl hc108 ?_
            refine J.val rfl rfl (V.fad Try.underlying60 rfl nz4 rfl) ?_
            refine J.run rfl rfl rfl hc108 ?_
            refine J.val (v := .bool x109.2) rfl rfl (V.ld rfl (Ld.sc sc4 (Rd.row 0 rfl e115 p112 (q := 1) (by simp [Tp.size]) (by decide) (by rintro _ ⟨_, _, rfl, _, rfl, rfl⟩; rfl)))) ?_
            refine J.val (v := .bool x109.2) rfl rfl (V.pickT rfl hc108 rfl) ?_
            refine J.nil ?_
            have e := Option.some.inj ht107
            subst e
            exact ⟨rfl, ⟨rfl, trivial⟩, rfl, rfl⟩
          · have ht107 := cf hc108 ht107
            refine J.skip rfl rfl rfl rfl hc108 ?_
            refine J.skip rfl rfl rfl rfl hc108 ?_
            refine J.skip rfl rfl rfl rfl hc108 ?_
            refine J.skip rfl rfl rfl rfl hc108 ?_
            refine J.skip rfl rfl rfl rfl hc108 ?_
            refine J.val (v := .bool false) rfl rfl (V.pickF rfl hc108 rfl) ?_
            refine J.nil ?_
            have e := Option.some.inj ht107
            subst e
            exact ⟨rfl, ⟨rfl, trivial⟩, rfl, rfl⟩
        · rintro ρ _ _ ⟨hf, rfl, rfl⟩
          obtain ⟨ρ, rfl⟩ := hf.ex
          refine J.val (v := .bool t106) rfl rfl (V.mv rfl) ?_
          refine J.cut 4 ?_
          obtain ⟨t123, ht124, h⟩ := ob h
          refine @J.meet _ _ _ _ _ _ _ _ _ _ (fun ρ K' L' => Fits [(37, .bool t123)] ρ ∧ K = K' ∧ L' = Row Hp.nil 60 (.cons (.int .i64) (.one .bool)) (.slice ad72 l69.length cp73) l69 :: Cl b79 26 [.slice ad72 l69.length cp73] :: F) ?_ ?_
          · skip
            rcases bt (t106) with hc125 | hc125
            · have ht124 := ct hc125 ht124
              refine J.run rfl rfl rfl hc125 ?_
              refine J.val (v := .agg #[.int .i64 17, .slice none 0 0, .slice none 0 0, .slice none 0 0]) rfl rfl (V.build inf28 places28 rfl rfl) ?_
              refine J.run rfl rfl rfl hc125 ?_
              obtain ⟨r126, hr127, ht124⟩ := ob ht124
              refine J.op rfl (A.call (L1 := []) Try.call12 rfl (sig_Check_ok isNil isNil isNil hr127) rfl rfl) ?_
              rintro _ _ _ ⟨v129, _, rfl, ⟨⟨i128, rfl, rfl, rfl⟩, rfl⟩, _, rfl⟩
              refine J.run rfl rfl rfl hc125 ?_
              refine J.val (v := .bool (decide (i128 = 6))) rfl rfl (V.eql rfl rfl) ?_
              refine J.val (v := .bool (decide (i128 = 6))) rfl rfl (V.pickT rfl hc125 rfl) ?_
              refine J.nil ?_
              have e := Option.some.inj ht124
              subst e
              exact ⟨rfl, ⟨rfl, trivial⟩, rfl, rfl⟩
            · have ht124 := cf hc125 ht124
              refine J.skip rfl rfl rfl rfl hc125 ?_
              refine J.skip rfl rfl rfl rfl hc125 ?_
              refine J.skip rfl rfl rfl rfl hc125 ?_
              refine J.val (v := .bool false) rfl rfl (V.pickF rfl hc125 rfl) ?_
              refine J.nil ?_
              have e := Option.some.inj ht124
              subst e
              exact ⟨rfl, ⟨rfl, trivial⟩, rfl, rfl⟩
          · rintro ρ _ _ ⟨hf, rfl, rfl⟩
            obtain ⟨ρ, rfl⟩ := hf.ex
            refine J.val (v := .bool t123) rfl rfl (V.as rfl) ?_
            refine J.nil ?_
            refine CJ.ret ?_
            have e := Option.some.inj h
            subst e
            exact ⟨_, [], Res.one rfl rfl, ⟨t123, rfl, rfl, rfl⟩, (Hp.le_refl _), fun w hs => (Sep.dropAt 0 rfl (Sep.dropAt 0 rfl hs))⟩

noncomputable def fn_row_Shape_1 (xa : (Int × Bool)) (xb : (Int × Bool)) : Option Bool :=
  some (xa.2 == xb.2)
set_option maxRecDepth 100000 in
set_option maxHeartbeats 4000000 in
theorem row_Shape_1_ok {K : Hp} {xa : (Int × Bool)} {xb : (Int × Bool)}   {r : Bool} (h : fn_row_Shape_1 xa xb = some r) :
    Tr Try.prog 67 #[.agg #[.int .i64 xa.1, .bool xa.2], .agg #[.int .i64 xb.1, .bool xb.2]] K [] (fun v K' L' => (∃ (t3 : Bool), t3 = r ∧ .bool t3 = v ∧ L' = []) ∧ K = K') := by
  refine Tr.k ?_
  refine Tr.of Try.func67 rfl Try.ntmps67 rfl (fun E F => ?_)
  unfold fn_row_Shape_1 at h
  refine CJ.seq ?_
  refine CJ.region ?_
  refine J.op rfl (A.box (v := .agg #[.int .i64 xa.1, .bool xa.2]) (cs := [.int .i64 xa.1, .bool xa.2]) rfl rfl) ?_
  rintro _ _ _ ⟨b4, rfl, rfl, rfl⟩
  refine J.op rfl (A.box (v := .agg #[.int .i64 xb.1, .bool xb.2]) (cs := [.int .i64 xb.1, .bool xb.2]) rfl rfl) ?_
  rintro _ _ _ ⟨b5, rfl, rfl, rfl⟩
  refine J.val (v := .bool false) rfl rfl (V.as rfl) ?_
  refine J.nil ?_
  refine CJ.seq ?_
  refine CJ.region ?_
  refine J.val rfl rfl (V.fad Try.underlying60 rfl nz4 rfl) ?_
  refine J.val (v := .bool xa.2) rfl rfl (V.ld rfl (Ld.sc sc4 (Rd.cl 1 rfl rfl))) ?_
  refine J.val rfl rfl (V.fad Try.underlying60 rfl nz4 rfl) ?_
  refine J.val (v := .bool xb.2) rfl rfl (V.ld rfl (Ld.sc sc4 (Rd.cl 0 rfl rfl))) ?_
  refine J.val (v := .bool (xa.2 == xb.2)) rfl rfl (V.eqb Try.underlying4 rfl rfl) ?_
  refine J.val (v := .bool (xa.2 == xb.2)) rfl rfl (V.as rfl) ?_
  refine J.nil ?_
  refine CJ.ret ?_
  have e := Option.some.inj h
  subst e
  exact ⟨_, [], Res.one rfl rfl, ⟨xa.2 == xb.2, rfl, rfl, rfl⟩, (Hp.le_refl _), fun w hs => (Sep.dropAt 0 rfl (Sep.dropAt 0 rfl hs))⟩
noncomputable def fn_slices_EqualFunc_api_Slot_api_Slot_api_Slot_api_Slot_kk_row_Shape_1_l1 (xa : (List (Int × Bool))) (xb : (List (Int × Bool))) : Int → Option (Int ⊕ (Unit ⊕ Bool)) := fun (i313 : Int) => cond (decide (i313 < (((xa.length : Nat) : Int)))) ((getI xa i313).bind fun x348 => (getI xb i313).bind fun x358 => (fn_row_Shape_1 (x348.1, x348.2) (x358.1, x358.2)).bind fun t370 => cond (!t370) (some (.inr ((.inr (false))))) (some (.inl (IntKind.wrap .i64 (i313 + 1))))) (some (.inr ((.inl ()))))
noncomputable def fn_slices_EqualFunc_api_Slot_api_Slot_api_Slot_api_Slot_kk_row_Shape_1 (xa : (List (Int × Bool))) (xb : (List (Int × Bool))) : Option Bool :=
  cond (!decide ((((xa.length : Nat) : Int)) = (((xb.length : Nat) : Int)))) (some (false)) ((loop (fn_slices_EqualFunc_api_Slot_api_Slot_api_Slot_api_Slot_kk_row_Shape_1_l1 xa xb) 0 : Option (Unit ⊕ Bool)).bind fun o => match o with | .inr r => some r | .inl () => some (true))
set_option maxRecDepth 100000 in
set_option maxHeartbeats 4000000 in
theorem slices_EqualFunc_api_Slot_api_Slot_api_Slot_api_Slot_kk_row_Shape_1_ok {K : Hp} {xa : (List (Int × Bool))} {xb : (List (Int × Bool))} {adxa_0 : Option Addr} {cpxa_0 : Nat} {adxb_0 : Option Addr} {cpxb_0 : Nat} (fxa_0 : Is K (.sl (.cons (.int .i64) (.one .bool))) [.slice adxa_0 xa.length cpxa_0] xa) (fxb_0 : Is K (.sl (.cons (.int .i64) (.one .bool))) [.slice adxb_0 xb.length cpxb_0] xb) {r : Bool} (h : fn_slices_EqualFunc_api_Slot_api_Slot_api_Slot_api_Slot_kk_row_Shape_1 xa xb = some r) :
    Tr Try.prog 66 #[.slice adxa_0 xa.length cpxa_0, .slice adxb_0 xb.length cpxb_0, .func (.func 67) #[] #[]] K [] (fun v K' L' => (∃ (t189 : Bool), t189 = r ∧ .bool t189 = v ∧ L' = []) ∧ K = K') := by
  refine Tr.k ?_
  refine Tr.of Try.func66 rfl Try.ntmps66 rfl (fun E F => ?_)
  unfold fn_slices_EqualFunc_api_Slot_api_Slot_api_Slot_api_Slot_kk_row_Shape_1 at h
  refine CJ.seq ?_
  refine CJ.region ?_
  refine J.val (v := .bool false) rfl rfl (V.as rfl) ?_
  refine J.nil ?_
  refine CJ.seq ?_
  refine CJ.seq ?_
  refine CJ.region ?_
  refine J.val (v := .slice adxa_0 xa.length cpxa_0) rfl rfl (V.mv rfl) ?_
  refine J.val (v := .int .i64 (((xa.length : Nat) : Int))) rfl rfl (V.len Try.underlying24 rfl) ?_
  refine J.val (v := .slice adxb_0 xb.length cpxb_0) rfl rfl (V.mv rfl) ?_
  refine J.val (v := .int .i64 (((xb.length : Nat) : Int))) rfl rfl (V.len Try.underlying24 rfl) ?_
  refine J.val (v := .bool (!decide ((((xa.length : Nat) : Int)) = (((xb.length : Nat) : Int))))) rfl rfl (V.neq rfl rfl) ?_
  refine J.nil ?_
  refine CJ.cond rfl (fun hc190 => ?_) (fun hc190 => ?_)
  · have h := ct hc190 h
    refine CJ.seq ?_
    refine CJ.region ?_
    refine J.val (v := .bool false) rfl rfl (V.as rfl) ?_
    refine J.nil ?_
    refine CJ.ret ?_
    have e := Option.some.inj h
    subst e
    exact ⟨_, [], Res.one rfl rfl, ⟨false, rfl, rfl, rfl⟩, (Hp.le_refl _), fun w hs => hs⟩
  · have h := cf hc190 h
    refine CJ.skip ?_
    refine CJ.seq ?_
    refine CJ.seq ?_
    refine CJ.region ?_
    refine J.val (v := .slice adxa_0 xa.length cpxa_0) rfl rfl (V.mv rfl) ?_
    refine J.val (v := .int .i64 (((xa.length : Nat) : Int))) rfl rfl (V.len Try.underlying24 rfl) ?_
    refine J.val (v := .int .i64 0) rfl rfl (V.mv rfl) ?_
    refine J.nil ?_
    obtain ⟨o282, ho283, h⟩ := ob h
    refine CJ.joinN (o := o282) (fun s ρ K' L' => () = s ∧ Fits [] ρ ∧ K = K' ∧ F = L') ?_ ?_
    · skip
      refine CJ.block ?_
      refine CJ.loop (fun s ρ K' L' => ∃ (i313 : Int), i313 = s ∧ Fits [(1, .slice adxb_0 xb.length cpxb_0), (2, .func (.func 67) #[] #[]), (15, .slice adxa_0 xa.length cpxa_0), (16, .int .i64 (((xa.length : Nat) : Int))), (17, .int .i64 i313)] ρ ∧ K = K' ∧ F = L') ho283 ⟨0, rfl, ⟨rfl, rfl, rfl, rfl, rfl, trivial⟩, rfl, rfl⟩ ?_
      rintro s ρ _ _ r346 ⟨i313, rfl, hf344, rfl, rfl⟩ h343
      obtain ⟨ρ, rfl⟩ := hf344.ex
      refine CJ.seq ?_
      refine CJ.region ?_
      refine J.val (v := .bool (decide (i313 < (((xa.length : Nat) : Int))))) rfl rfl (V.lss rfl rfl) ?_
      refine J.nil ?_
      refine CJ.seq ?_
      refine CJ.cond rfl (fun hc347 => ?_) (fun hc347 => ?_)
      · have h343 := ct hc347 h343
        refine CJ.skip ?_
        refine CJ.seq ?_
        refine CJ.block ?_
        refine CJ.seq ?_
        refine CJ.region ?_
        refine J.val (v := .int .i64 i313) rfl rfl (V.mv rfl) ?_
        obtain ⟨x348, hx349, h343⟩ := ob h343
        obtain ⟨p350, p351, p352⟩ := getI_some hx349
        obtain ⟨b353, o354, e355, a356⟩ := (fxa_0).at p351
        refine J.val rfl rfl (V.iad Try.underlying24 sz60 rfl e355 rfl p350 p352) ?_
        refine J.val (v := .agg #[.int .i64 x348.1, .bool x348.2]) rfl rfl (V.ld rfl (Ld.aggK (cs := [.int .i64 x348.1, .bool x348.2]) Try.underlying60 sz60 rfl ⟨((a356).fst).int, (((a356).snd).one).bool, trivial⟩ (Hp.le_refl _))) ?_
        refine J.op rfl (A.alloc (cs := [.int .i64 0, .bool false]) inf60 rfl) ?_
        rintro _ _ _ ⟨b357, rfl, rfl, rfl⟩
        refine J.val (v := .int .i64 i313) rfl rfl (V.as rfl) ?_
        refine J.op rfl (A.store (v := .agg #[.int .i64 x348.1, .bool x348.2]) (cs' := [.int .i64 x348.1, .bool x348.2]) sz60 rfl rfl rfl rfl rfl rfl) ?_
        rintro _ _ _ ⟨rfl, rfl, rfl⟩
        refine J.nil ?_
        refine CJ.seq ?_
        refine CJ.region ?_
        refine J.val (v := .slice adxb_0 xb.length cpxb_0) rfl rfl (V.mv rfl) ?_
        refine J.val (v := .int .i64 i313) rfl rfl (V.mv rfl) ?_
        obtain ⟨x358, hx359, h343⟩ := ob h343
        obtain ⟨p360, p361, p362⟩ := getI_some hx359
        obtain ⟨b363, o364, e365, a366⟩ := (fxb_0).at p361
        refine J.val rfl rfl (V.iad Try.underlying24 sz60 rfl e365 rfl p360 p362) ?_
        refine J.val (v := .agg #[.int .i64 x358.1, .bool x358.2]) rfl rfl (V.ld rfl (Ld.aggK (cs := [.int .i64 x358.1, .bool x358.2]) Try.underlying60 sz60 rfl ⟨((a366).fst).int, (((a366).snd).one).bool, trivial⟩ (Hp.le_refl _))) ?_
        refine J.op rfl (A.alloc (cs := [.int .i64 0, .bool false]) inf60 rfl) ?_
        rintro _ _ _ ⟨b367, rfl, rfl, rfl⟩
        refine J.op rfl (A.store (v := .agg #[.int .i64 x358.1, .bool x358.2]) (cs' := [.int .i64 x358.1, .bool x358.2]) sz60 rfl rfl rfl rfl rfl rfl) ?_
        rintro _ _ _ ⟨rfl, rfl, rfl⟩
        refine J.nil ?_
        refine CJ.seq ?_
        refine CJ.region ?_
        refine J.val (v := .func (.func 67) #[] #[]) rfl rfl (V.mv rfl) ?_
        refine J.val (v := .agg #[.int .i64 x348.1, .bool x348.2]) rfl rfl (V.ld rfl (Ld.agg (cs := [.int .i64 x348.1, .bool x348.2]) Try.underlying60 sz60 rfl (Rd.cls 1 0 rfl rfl))) ?_
        refine J.val (v := .agg #[.int .i64 x358.1, .bool x358.2]) rfl rfl (V.ld rfl (Ld.agg (cs := [.int .i64 x358.1, .bool x358.2]) Try.underlying60 sz60 rfl (Rd.cls 0 0 rfl rfl))) ?_
        obtain ⟨r368, hr369, h343⟩ := ob h343
        refine J.op rfl (A.call (L1 := []) Try.call67 rfl (row_Shape_1_ok hr369) rfl rfl) ?_
        rintro _ _ _ ⟨v371, _, rfl, ⟨⟨t370, rfl, rfl, rfl⟩, rfl⟩, _, rfl⟩
        refine J.val (v := .bool (!t370)) rfl rfl (V.not rfl) ?_
        refine J.nil ?_
        refine CJ.cond rfl (fun hc374 => ?_) (fun hc374 => ?_)
        · have h343 := ct hc374 h343
          refine CJ.seq ?_
          refine CJ.region ?_
          refine J.val (v := .bool false) rfl rfl (V.as rfl) ?_
          refine J.nil ?_
          refine CJ.ret ?_
          have e := Option.some.inj h343
          subst e
          refine ⟨nofun, fun e => ?_⟩
          subst e
          refine .inr ⟨nofun, ?_⟩
          have e := Option.some.inj h
          subst e
          exact ⟨_, [], Res.one rfl rfl, ⟨false, rfl, rfl, rfl⟩, (Hp.le_refl _), fun w hs => (Sep.dropAt 0 rfl (Sep.dropAt 0 rfl hs))⟩
        · have h343 := cf hc374 h343
          refine CJ.skip ?_
          refine CJ.region ?_
          refine J.val (v := .int .i64 (IntKind.wrap .i64 (i313 + 1))) rfl rfl (V.add rfl rfl) ?_
          refine J.val (v := .int .i64 (IntKind.wrap .i64 (i313 + 1))) rfl rfl (V.mv rfl) ?_
          refine J.dropAt 0 rfl ?_
          refine J.dropAt 0 rfl ?_
          refine J.nil ?_
          have e := Option.some.inj h343
          subst e
          exact ⟨rfl, ⟨IntKind.wrap .i64 (i313 + 1), rfl, ⟨rfl, rfl, rfl, rfl, rfl, trivial⟩, rfl, rfl⟩⟩
      · have h343 := cf hc347 h343
        refine CJ.exit ?_
        have e := Option.some.inj h343
        subst e
        refine ⟨nofun, fun e => ?_⟩
        subst e
        exact .inl ⟨rfl, _, rfl, ⟨rfl, trivial, rfl, rfl⟩⟩
    · rintro s ρ _ _ ho375 ⟨rfl, hf376, rfl, rfl⟩
      subst ho375
      obtain ⟨ρ, rfl⟩ := hf376.ex
      refine PJ.done ?_
      refine CJ.seq ?_
      refine CJ.region ?_
      refine J.val (v := .bool true) rfl rfl (V.as rfl) ?_
      refine J.nil ?_
      refine CJ.ret ?_
      have e := Option.some.inj h
      subst e
      exact ⟨_, [], Res.one rfl rfl, ⟨true, rfl, rfl, rfl⟩, (Hp.le_refl _), fun w hs => hs⟩

noncomputable def fn_row_Shape (xa : (List (Int × Bool))) (xb : (List (Int × Bool))) : Option Bool :=
  (fn_slices_EqualFunc_api_Slot_api_Slot_api_Slot_api_Slot_kk_row_Shape_1 xa xb).bind fun t14 => some (t14)
set_option maxRecDepth 100000 in
set_option maxHeartbeats 4000000 in
theorem row_Shape_ok {K : Hp} {xa : (List (Int × Bool))} {xb : (List (Int × Bool))} {adxa_0 : Option Addr} {cpxa_0 : Nat} {adxb_0 : Option Addr} {cpxb_0 : Nat} (fxa_0 : Is K (.sl (.cons (.int .i64) (.one .bool))) [.slice adxa_0 xa.length cpxa_0] xa) (fxb_0 : Is K (.sl (.cons (.int .i64) (.one .bool))) [.slice adxb_0 xb.length cpxb_0] xb) {r : Bool} (h : fn_row_Shape xa xb = some r) :
    Tr Try.prog 55 #[.agg #[.slice adxa_0 xa.length cpxa_0], .agg #[.slice adxb_0 xb.length cpxb_0]] K [] (fun v K' L' => (∃ (t9 : Bool), t9 = r ∧ .bool t9 = v ∧ L' = []) ∧ K = K') := by
  refine Tr.k ?_
  refine Tr.of Try.func55 rfl Try.ntmps55 rfl (fun E F => ?_)
  unfold fn_row_Shape at h
  refine CJ.seq ?_
  refine CJ.region ?_
  refine J.op rfl (A.box (v := .agg #[.slice adxa_0 xa.length cpxa_0]) (cs := [.slice adxa_0 xa.length cpxa_0]) rfl rfl) ?_
  rintro _ _ _ ⟨b10, rfl, rfl, rfl⟩
  refine J.op rfl (A.box (v := .agg #[.slice adxb_0 xb.length cpxb_0]) (cs := [.slice adxb_0 xb.length cpxb_0]) rfl rfl) ?_
  rintro _ _ _ ⟨b11, rfl, rfl, rfl⟩
  refine J.val (v := .bool false) rfl rfl (V.as rfl) ?_
  refine J.nil ?_
  refine CJ.seq ?_
  refine CJ.region ?_
  refine J.val rfl rfl (V.fad Try.underlying26 rfl nz24 rfl) ?_
  refine J.val (v := .slice adxa_0 xa.length cpxa_0) rfl rfl (V.ld rfl (Ld.sc sc24 (Rd.cl 1 rfl rfl))) ?_
  refine J.val rfl rfl (V.fad Try.underlying26 rfl nz24 rfl) ?_
  refine J.val (v := .slice adxb_0 xb.length cpxb_0) rfl rfl (V.ld rfl (Ld.sc sc24 (Rd.cl 0 rfl rfl))) ?_
  obtain ⟨r12, hr13, h⟩ := ob h
  refine J.op rfl (A.call (L1 := []) Try.call66 rfl (slices_EqualFunc_api_Slot_api_Slot_api_Slot_api_Slot_kk_row_Shape_1_ok fxa_0 fxb_0 hr13) rfl rfl) ?_
  rintro _ _ _ ⟨v15, _, rfl, ⟨⟨t14, rfl, rfl, rfl⟩, rfl⟩, _, rfl⟩
  refine J.val (v := .bool t14) rfl rfl (V.as rfl) ?_
  refine J.nil ?_
  refine CJ.ret ?_
  have e := Option.some.inj h
  subst e
  exact ⟨_, [], Res.one rfl rfl, ⟨t14, rfl, rfl, rfl⟩, (Hp.le_refl _), fun w hs => (Sep.dropAt 0 rfl (Sep.dropAt 0 rfl hs))⟩
noncomputable def fn_sig_callable_l1 (xa : (Int × (List (Int × Int)) × (List (List (Int × Bool))) × (List (Int × Bool)))) (xc : (List (List (Int × Bool)))) : Int → Option (Int ⊕ (Unit ⊕ Int)) := fun (i605 : Int) => cond (decide (i605 < (((xa.2.2.1.length : Nat) : Int)))) ((getI xa.2.2.1 i605).bind fun x666 => (getI xc i605).bind fun x699 => (fn_row_Shape x699 x666).bind fun t714 => cond (!t714) (some (.inr ((.inr (8))))) (some (.inl (IntKind.wrap .i64 (i605 + 1))))) (some (.inr ((.inl ()))))
noncomputable def fn_sig_callable (xa : (Int × (List (Int × Int)) × (List (List (Int × Bool))) × (List (Int × Bool)))) (xb : (List Int)) (xc : (List (List (Int × Bool)))) (xd : (List (Int × Bool))) : Option Int :=
  (fn_sig_Check (xa.1, xa.2.1, xa.2.2.1, xa.2.2.2)).bind fun i370 => cond (!decide (i370 = 0)) (some (i370)) (cond ((!decide ((((xb.length : Nat) : Int)) = xa.1)) || (!decide ((((xc.length : Nat) : Int)) = (((xa.2.2.1.length : Nat) : Int))))) (some (2)) ((loop (fn_sig_callable_l1 xa xc) 0 : Option (Unit ⊕ Int)).bind fun o => match o with | .inr r => some r | .inl () => (fn_row_Shape xd xa.2.2.2).bind fun t724 => cond (!t724) (some (8)) (some (0))))
set_option maxRecDepth 100000 in
set_option maxHeartbeats 4000000 in
theorem sig_callable_ok {K : Hp} {xa : (Int × (List (Int × Int)) × (List (List (Int × Bool))) × (List (Int × Bool)))} {xb : (List Int)} {xc : (List (List (Int × Bool)))} {xd : (List (Int × Bool))} {adxa_1 : Option Addr} {cpxa_1 : Nat} {adxa_2 : Option Addr} {cpxa_2 : Nat} {adxa_3 : Option Addr} {cpxa_3 : Nat} {adxb_0 : Option Addr} {cpxb_0 : Nat} {adxc_0 : Option Addr} {cpxc_0 : Nat} {adxd_0 : Option Addr} {cpxd_0 : Nat} (fxa_1 : Is K (.sl (.cons (.int .i64) (.one (.int .i64)))) [.slice adxa_1 xa.2.1.length cpxa_1] xa.2.1) (fxa_2 : Is K (.sl (.one (.sl (.cons (.int .i64) (.one .bool))))) [.slice adxa_2 xa.2.2.1.length cpxa_2] xa.2.2.1) (fxa_3 : Is K (.sl (.cons (.int .i64) (.one .bool))) [.slice adxa_3 xa.2.2.2.length cpxa_3] xa.2.2.2) (fxb_0 : Is K (.sl (.int .i64)) [.slice adxb_0 xb.length cpxb_0] xb) (fxc_0 : Is K (.sl (.one (.sl (.cons (.int .i64) (.one .bool))))) [.slice adxc_0 xc.length cpxc_0] xc) (fxd_0 : Is K (.sl (.cons (.int .i64) (.one .bool))) [.slice adxd_0 xd.length cpxd_0] xd) {r : Int} (h : fn_sig_callable xa xb xc xd = some r) :
    Tr Try.prog 31 #[.agg #[.int .i64 xa.1, .slice adxa_1 xa.2.1.length cpxa_1, .slice adxa_2 xa.2.2.1.length cpxa_2, .slice adxa_3 xa.2.2.2.length cpxa_3], .slice adxb_0 xb.length cpxb_0, .slice adxc_0 xc.length cpxc_0, .agg #[.slice adxd_0 xd.length cpxd_0]] K [] (fun v K' L' => (∃ (i365 : Int), i365 = r ∧ .int .i64 i365 = v ∧ L' = []) ∧ K = K') := by
  refine Tr.k ?_
  refine Tr.of Try.func31 rfl Try.ntmps31 rfl (fun E F => ?_)
  unfold fn_sig_callable at h
  refine CJ.seq ?_
  refine CJ.region ?_
  refine J.op rfl (A.box (v := .agg #[.int .i64 xa.1, .slice adxa_1 xa.2.1.length cpxa_1, .slice adxa_2 xa.2.2.1.length cpxa_2, .slice adxa_3 xa.2.2.2.length cpxa_3]) (cs := [.int .i64 xa.1, .slice adxa_1 xa.2.1.length cpxa_1, .slice adxa_2 xa.2.2.1.length cpxa_2, .slice adxa_3 xa.2.2.2.length cpxa_3]) rfl rfl) ?_
  rintro _ _ _ ⟨b366, rfl, rfl, rfl⟩
  refine J.op rfl (A.box (v := .agg #[.slice adxd_0 xd.length cpxd_0]) (cs := [.slice adxd_0 xd.length cpxd_0]) rfl rfl) ?_
  rintro _ _ _ ⟨b367, rfl, rfl, rfl⟩
  refine J.val (v := .int .i64 0) rfl rfl (V.as rfl) ?_
  refine J.nil ?_
  refine CJ.seq ?_
  refine CJ.seq ?_
  refine CJ.region ?_
  refine J.val (v := .agg #[.int .i64 xa.1, .slice adxa_1 xa.2.1.length cpxa_1, .slice adxa_2 xa.2.2.1.length cpxa_2, .slice adxa_3 xa.2.2.2.length cpxa_3]) rfl rfl (V.ld rfl (Ld.agg (cs := [.int .i64 xa.1, .slice adxa_1 xa.2.1.length cpxa_1, .slice adxa_2 xa.2.2.1.length cpxa_2, .slice adxa_3 xa.2.2.2.length cpxa_3]) Try.underlying28 sz28 rfl (Rd.cls 1 0 rfl rfl))) ?_
  obtain ⟨r368, hr369, h⟩ := ob h
  refine J.op rfl (A.call (L1 := []) Try.call12 rfl (sig_Check_ok fxa_1 fxa_2 fxa_3 hr369) rfl rfl) ?_
  rintro _ _ _ ⟨v371, _, rfl, ⟨⟨i370, rfl, rfl, rfl⟩, rfl⟩, _, rfl⟩
  refine J.val (v := .int .i64 i370) rfl rfl (V.as rfl) ?_
  refine J.nil ?_
  refine CJ.seq ?_
  refine CJ.region ?_
  refine J.val (v := .int .i64 i370) rfl rfl (V.mv rfl) ?_
  refine J.val (v := .bool (!decide (i370 = 0))) rfl rfl (V.neq rfl rfl) ?_
  refine J.nil ?_
  refine CJ.cond rfl (fun hc374 => ?_) (fun hc374 => ?_)
  · have h := ct hc374 h
    refine CJ.seq ?_
    refine CJ.region ?_
    refine J.val (v := .int .i64 i370) rfl rfl (V.mv rfl) ?_
    refine J.val (v := .int .i64 i370) rfl rfl (V.as rfl) ?_
    refine J.nil ?_
    refine CJ.ret ?_
    have e := Option.some.inj h
    subst e
    exact ⟨_, [], Res.one rfl rfl, ⟨i370, rfl, rfl, rfl⟩, (Hp.le_refl _), fun w hs => (Sep.dropAt 0 rfl (Sep.dropAt 0 rfl hs))⟩
  · have h := cf hc374 h
    refine CJ.skip ?_
    refine CJ.seq ?_
    refine CJ.seq ?_
    refine CJ.region ?_
    refine J.val (v := .slice adxb_0 xb.length cpxb_0) rfl rfl (V.mv rfl) ?_
    refine J.val (v := .int .i64 (((xb.length : Nat) : Int))) rfl rfl (V.len Try.underlying29 rfl) ?_
    refine J.val rfl rfl (V.fad Try.underlying28 rfl nz3 rfl) ?_
    refine J.val (v := .int .i64 xa.1) rfl rfl (V.ld rfl (Ld.sc sc3 (Rd.cl 1 rfl rfl))) ?_
    refine J.val (v := .bool (!decide ((((xb.length : Nat) : Int)) = xa.1))) rfl rfl (V.neq rfl rfl) ?_
    refine J.val (v := .bool (!decide ((((xb.length : Nat) : Int)) = xa.1))) rfl rfl (V.mv rfl) ?_
    refine J.cut 7 ?_
    refine @J.meet _ _ _ _ _ _ _ _ _ _ (fun ρ K' L' => Fits [(29, .bool ((!decide ((((xb.length : Nat) : Int)) = xa.1)) || (!decide ((((xc.length : Nat) : Int)) = (((xa.2.2.1.length : Nat) : Int)))))), (2, .slice adxc_0 xc.length cpxc_0), (4, .pointer (some ⟨b366, 0, none⟩)), (7, .pointer (some ⟨b367, 0, none⟩))] ρ ∧ K = K' ∧ L' = Cl b367 26 [.slice adxd_0 xd.length cpxd_0] :: Cl b366 28 [.int .i64 xa.1, .slice adxa_1 xa.2.1.length cpxa_1, .slice adxa_2 xa.2.2.1.length cpxa_2, .slice adxa_3 xa.2.2.2.length cpxa_3] :: F) ?_ ?_
    · skip
      rcases bt (!decide ((((xb.length : Nat) : Int)) = xa.1)) with hc377 | hc377
      · skip
        refine J.skip rfl rfl rfl rfl hc377 ?_
        refine J.skip rfl rfl rfl rfl hc377 ?_
        refine J.skip rfl rfl rfl rfl hc377 ?_
        refine J.skip rfl rfl rfl rfl hc377 ?_
        refine J.skip rfl rfl rfl rfl hc377 ?_
        refine J.skip rfl rfl rfl rfl hc377 ?_
        refine J.val (v := .bool true) rfl rfl (V.pickT rfl hc377 rfl) ?_
        refine J.nil ?_
        exact ⟨rfl, ⟨(by simp only [hc377]; rfl), rfl, rfl, rfl, trivial⟩, rfl, rfl⟩
      · skip
        refine J.run rfl rfl rfl hc377 ?_
        refine J.val (v := .slice adxc_0 xc.length cpxc_0) rfl rfl (V.mv rfl) ?_
        refine J.run rfl rfl rfl hc377 ?_
        refine J.val (v := .int .i64 (((xc.length : Nat) : Int))) rfl rfl (V.len Try.underlying23 rfl) ?_
        refine J.run rfl rfl rfl hc377 ?_
        refine J.val rfl rfl (V.fad Try.underlying28 rfl nz23 rfl) ?_
        refine J.run rfl rfl rfl hc377 ?_
        refine J.val (v := .slice adxa_2 xa.2.2.1.length cpxa_2) rfl rfl (V.ld rfl (Ld.sc sc23 (Rd.cl 1 rfl rfl))) ?_
        refine J.run rfl rfl rfl hc377 ?_
        refine J.val (v := .int .i64 (((xa.2.2.1.length : Nat) : Int))) rfl rfl (V.len Try.underlying23 rfl) ?_
        refine J.run rfl rfl rfl hc377 ?_
        refine J.val (v := .bool (!decide ((((xc.length : Nat) : Int)) = (((xa.2.2.1.length : Nat) : Int))))) rfl rfl (V.neq rfl rfl) ?_
        refine J.val (v := .bool (!decide ((((xc.length : Nat) : Int)) = (((xa.2.2.1.length : Nat) : Int))))) rfl rfl (V.pickF rfl hc377 rfl) ?_
        refine J.nil ?_
        exact ⟨rfl, ⟨(by simp only [hc377]; rfl), rfl, rfl, rfl, trivial⟩, rfl, rfl⟩
    · rintro ρ _ _ ⟨hf, rfl, rfl⟩
      obtain ⟨ρ, rfl⟩ := hf.ex
      refine J.nil ?_
      refine CJ.cond rfl (fun hc378 => ?_) (fun hc378 => ?_)
      · have h := ct hc378 h
        refine CJ.seq ?_
        refine CJ.region ?_
        refine J.val (v := .int .i64 2) rfl rfl (V.as rfl) ?_
        refine J.nil ?_
        refine CJ.ret ?_
        have e := Option.some.inj h
        subst e
        exact ⟨_, [], Res.one rfl rfl, ⟨2, rfl, rfl, rfl⟩, (Hp.le_refl _), fun w hs => (Sep.dropAt 0 rfl (Sep.dropAt 0 rfl hs))⟩
      · have h := cf hc378 h
        refine CJ.skip ?_
        refine CJ.seq ?_
        refine CJ.seq ?_
        refine CJ.region ?_
        refine J.val rfl rfl (V.fad Try.underlying28 rfl nz23 rfl) ?_
        refine J.val (v := .slice adxa_2 xa.2.2.1.length cpxa_2) rfl rfl (V.ld rfl (Ld.sc sc23 (Rd.cl 1 rfl rfl))) ?_
        refine J.val (v := .int .i64 (((xa.2.2.1.length : Nat) : Int))) rfl rfl (V.len Try.underlying23 rfl) ?_
        refine J.val (v := .int .i64 0) rfl rfl (V.mv rfl) ?_
        refine J.nil ?_
        obtain ⟨o548, ho549, h⟩ := ob h
        refine CJ.joinN (o := o548) (fun s ρ K' L' => () = s ∧ Fits [(4, .pointer (some ⟨b366, 0, none⟩)), (7, .pointer (some ⟨b367, 0, none⟩))] ρ ∧ K = K' ∧ L' = Cl b366 28 [.int .i64 xa.1, .slice adxa_1 xa.2.1.length cpxa_1, .slice adxa_2 xa.2.2.1.length cpxa_2, .slice adxa_3 xa.2.2.2.length cpxa_3] :: Cl b367 26 [.slice adxd_0 xd.length cpxd_0] :: F) ?_ ?_
        · skip
          refine CJ.block ?_
          refine CJ.front 1 rfl ?_
          refine CJ.loop (fun s ρ K' L' => ∃ (i605 : Int), i605 = s ∧ Fits [(2, .slice adxc_0 xc.length cpxc_0), (4, .pointer (some ⟨b366, 0, none⟩)), (7, .pointer (some ⟨b367, 0, none⟩)), (31, .slice adxa_2 xa.2.2.1.length cpxa_2), (32, .int .i64 (((xa.2.2.1.length : Nat) : Int))), (33, .int .i64 i605)] ρ ∧ K = K' ∧ L' = Cl b366 28 [.int .i64 xa.1, .slice adxa_1 xa.2.1.length cpxa_1, .slice adxa_2 xa.2.2.1.length cpxa_2, .slice adxa_3 xa.2.2.2.length cpxa_3] :: Cl b367 26 [.slice adxd_0 xd.length cpxd_0] :: F) ho549 ⟨0, rfl, ⟨rfl, rfl, rfl, rfl, rfl, rfl, trivial⟩, rfl, rfl⟩ ?_
          rintro s ρ _ _ r664 ⟨i605, rfl, hf662, rfl, rfl⟩ h661
          obtain ⟨ρ, rfl⟩ := hf662.ex
          refine CJ.seq ?_
          refine CJ.region ?_
          refine J.val (v := .bool (decide (i605 < (((xa.2.2.1.length : Nat) : Int))))) rfl rfl (V.lss rfl rfl) ?_
          refine J.nil ?_
          refine CJ.seq ?_
          refine CJ.cond rfl (fun hc665 => ?_) (fun hc665 => ?_)
          · have h661 := ct hc665 h661
            refine CJ.skip ?_
            refine CJ.seq ?_
            refine CJ.block ?_
            refine CJ.seq ?_
            refine CJ.region ?_
            refine J.val (v := .int .i64 i605) rfl rfl (V.mv rfl) ?_
            obtain ⟨x666, hx667, h661⟩ := ob h661
            obtain ⟨p668, p669, p670⟩ := getI_some hx667
            obtain ⟨b671, o672, e673, a674⟩ := (fxa_2).at p669
            refine J.val rfl rfl (V.iad Try.underlying23 sz26 rfl e673 rfl p668 p670) ?_
            obtain ⟨ad675, cp676, c677, f678⟩ := ((a674).one).sl
            refine J.val (v := .agg #[.slice ad675 x666.length cp676]) rfl rfl (V.ld rfl (Ld.aggK (cs := [.slice ad675 x666.length cp676]) Try.underlying26 sz26 rfl ⟨c677, trivial⟩ (Hp.le_refl _))) ?_
            refine J.op rfl (A.alloc (cs := [.slice none 0 0]) inf26 rfl) ?_
            rintro _ _ _ ⟨b679, rfl, rfl, rfl⟩
            refine J.val (v := .int .i64 i605) rfl rfl (V.as rfl) ?_
            refine J.op rfl (A.store (v := .agg #[.slice ad675 x666.length cp676]) (cs' := [.slice ad675 x666.length cp676]) sz26 rfl rfl rfl rfl rfl rfl) ?_
            rintro _ _ _ ⟨rfl, rfl, rfl⟩
            refine J.nil ?_
            refine CJ.seq ?_
            refine CJ.mix [Cl b679 26 [.slice ad675 x666.length cp676], Cl b366 28 [.int .i64 xa.1, .slice adxa_1 xa.2.1.length cpxa_1, .slice adxa_2 xa.2.2.1.length cpxa_2, .slice adxa_3 xa.2.2.2.length cpxa_3], Cl b367 26 [.slice adxd_0 xd.length cpxd_0]] [([0, 1, 2, 3, 4], 5)] [6] [] mixO (by decide +kernel) ⟨0, rfl, 0, rfl, 0, rfl, trivial⟩ rfl rfl rfl ?_
            refine JM.cons ?_
            refine JQ.val (v := .slice adxc_0 xc.length cpxc_0) rfl rfl (V.mv rfl) ?_
            refine JQ.val (v := .int .i64 i605) rfl rfl (V.mv rfl) ?_
            obtain ⟨x699, hx700, h661⟩ := ob h661
            obtain ⟨p701, p702, p703⟩ := getI_some hx700
            obtain ⟨b704, o705, e706, a707⟩ := (fxc_0).at p702
            refine JQ.val rfl rfl (V.iad Try.underlying23 sz26 rfl e706 rfl p701 p703) ?_
            obtain ⟨ad708, cp709, c710, f711⟩ := ((a707).one).sl
            refine JQ.val (v := .agg #[.slice ad708 x699.length cp709]) rfl rfl (V.ld rfl (Ld.aggK (cs := [.slice ad708 x699.length cp709]) Try.underlying26 sz26 rfl ⟨c710, trivial⟩ (Hp.le_refl _))) ?_
            refine JQ.val (v := .agg #[.slice ad675 x666.length cp676]) rfl rfl (V.ld rfl (Ld.agg (cs := [.slice ad675 x666.length cp676]) Try.underlying26 sz26 rfl (Rd.cls 0 0 rfl rfl))) ?_
            refine JQ.nil ?_
            obtain ⟨r712, hr713, h661⟩ := ob h661
            refine JA.op rfl (A.call (L1 := []) Try.call55 rfl (row_Shape_ok f711 f678 hr713) rfl rfl) ?_
            rintro _ _ _ ⟨v715, _, rfl, ⟨⟨t714, rfl, rfl, rfl⟩, rfl⟩, _, rfl⟩
            refine ⟨fun w hs => Hold.sub (Hp.le_refl _) ⟨0, rfl, 0, rfl, 0, rfl, trivial⟩ hs, ?_⟩
            refine JM.nil ?_
            refine JQ.val (v := .bool (!t714)) rfl rfl (V.not rfl) ?_
            refine JQ.nil ?_
            refine J.nil ?_
            refine CJ.cond rfl (fun hc718 => ?_) (fun hc718 => ?_)
            · have h661 := ct hc718 h661
              refine CJ.seq ?_
              refine CJ.region ?_
              refine J.val (v := .int .i64 8) rfl rfl (V.as rfl) ?_
              refine J.nil ?_
              refine CJ.ret ?_
              have e := Option.some.inj h661
              subst e
              refine ⟨nofun, fun e => ?_⟩
              subst e
              refine .inr ⟨nofun, ?_⟩
              have e := Option.some.inj h
              subst e
              exact ⟨_, [], Res.one rfl rfl, ⟨8, rfl, rfl, rfl⟩, (Hp.le_refl _), fun w hs => (Sep.dropAt 0 rfl (Sep.dropAt 0 rfl (Sep.dropAt 0 rfl hs)))⟩
            · have h661 := cf hc718 h661
              refine CJ.skip ?_
              refine CJ.region ?_
              refine J.val (v := .int .i64 (IntKind.wrap .i64 (i605 + 1))) rfl rfl (V.add rfl rfl) ?_
              refine J.val (v := .int .i64 (IntKind.wrap .i64 (i605 + 1))) rfl rfl (V.mv rfl) ?_
              refine J.dropAt 0 rfl ?_
              refine J.nil ?_
              have e := Option.some.inj h661
              subst e
              exact ⟨rfl, ⟨IntKind.wrap .i64 (i605 + 1), rfl, ⟨rfl, rfl, rfl, rfl, rfl, rfl, trivial⟩, rfl, rfl⟩⟩
          · have h661 := cf hc665 h661
            refine CJ.exit ?_
            have e := Option.some.inj h661
            subst e
            refine ⟨nofun, fun e => ?_⟩
            subst e
            exact .inl ⟨rfl, _, rfl, ⟨rfl, ⟨rfl, rfl, trivial⟩, rfl, rfl⟩⟩
        · rintro s ρ _ _ ho719 ⟨rfl, hf720, rfl, rfl⟩
          subst ho719
          obtain ⟨ρ, rfl⟩ := hf720.ex
          refine PJ.done ?_
          refine CJ.seq ?_
          refine CJ.seq ?_
          refine CJ.region ?_
          refine J.val (v := .agg #[.slice adxd_0 xd.length cpxd_0]) rfl rfl (V.ld rfl (Ld.agg (cs := [.slice adxd_0 xd.length cpxd_0]) Try.underlying26 sz26 rfl (Rd.cls 1 0 rfl rfl))) ?_
          refine J.val rfl rfl (V.fad Try.underlying28 rfl nz26 rfl) ?_
          refine J.val (v := .agg #[.slice adxa_3 xa.2.2.2.length cpxa_3]) rfl rfl (V.ld rfl (Ld.agg (cs := [.slice adxa_3 xa.2.2.2.length cpxa_3]) Try.underlying26 sz26 rfl (Rd.cls 0 3 rfl rfl))) ?_
          obtain ⟨r722, hr723, h⟩ := ob h
          refine J.op rfl (A.call (L1 := []) Try.call55 rfl (row_Shape_ok fxd_0 fxa_3 hr723) rfl rfl) ?_
          rintro _ _ _ ⟨v725, _, rfl, ⟨⟨t724, rfl, rfl, rfl⟩, rfl⟩, _, rfl⟩
          refine J.val (v := .bool (!t724)) rfl rfl (V.not rfl) ?_
          refine J.nil ?_
          refine CJ.cond rfl (fun hc728 => ?_) (fun hc728 => ?_)
          · have h := ct hc728 h
            refine CJ.seq ?_
            refine CJ.region ?_
            refine J.val (v := .int .i64 8) rfl rfl (V.as rfl) ?_
            refine J.nil ?_
            refine CJ.ret ?_
            have e := Option.some.inj h
            subst e
            exact ⟨_, [], Res.one rfl rfl, ⟨8, rfl, rfl, rfl⟩, (Hp.le_refl _), fun w hs => (Sep.dropAt 0 rfl (Sep.dropAt 0 rfl hs))⟩
          · have h := cf hc728 h
            refine CJ.skip ?_
            refine CJ.seq ?_
            refine CJ.region ?_
            refine J.val (v := .int .i64 0) rfl rfl (V.as rfl) ?_
            refine J.nil ?_
            refine CJ.ret ?_
            have e := Option.some.inj h
            subst e
            exact ⟨_, [], Res.one rfl rfl, ⟨0, rfl, rfl, rfl⟩, (Hp.le_refl _), fun w hs => (Sep.dropAt 0 rfl (Sep.dropAt 0 rfl hs))⟩

noncomputable def fn_slices_Clone_api_Slot_api_Slot (xa : (List (Int × Bool))) : Option ((List (Int × Bool))) :=
  nilb xa (some ([])) ((app (([] : List (Int × Bool))) xa).bind fun z21 => some (z21))
set_option maxRecDepth 100000 in
set_option maxHeartbeats 4000000 in
theorem slices_Clone_api_Slot_api_Slot_ok {K : Hp} {xa : (List (Int × Bool))} {adxa_0 : Option Addr} {cpxa_0 : Nat} (fxa_0 : Is K (.sl (.cons (.int .i64) (.one .bool))) [.slice adxa_0 xa.length cpxa_0] xa) {r : (List (Int × Bool))} (h : fn_slices_Clone_api_Slot_api_Slot xa = some r) :
    Tr Try.prog 70 #[.slice adxa_0 xa.length cpxa_0] K [] (fun v K' L' => (∃ (l11 : (List (Int × Bool))) (ad12 : Option Addr) (cp13 : Nat), l11 = r ∧ .slice ad12 l11.length cp13 = v ∧ L' = [Row Hp.nil 60 (.cons (.int .i64) (.one .bool)) (.slice ad12 l11.length cp13) l11]) ∧ K = K') := by
  refine Tr.k ?_
  refine Tr.of Try.func70 rfl Try.ntmps70 rfl (fun E F => ?_)
  unfold fn_slices_Clone_api_Slot_api_Slot at h
  refine CJ.seq ?_
  refine CJ.region ?_
  refine J.val (v := .slice none 0 0) rfl rfl (V.as rfl) ?_
  refine J.nil ?_
  refine CJ.seq ?_
  refine CJ.seq ?_
  refine CJ.region ?_
  refine J.val (v := .slice adxa_0 xa.length cpxa_0) rfl rfl (V.mv rfl) ?_
  refine J.val (v := .bool adxa_0.isNone) rfl rfl (V.sn_eql Try.underlying24 rfl rfl) ?_
  refine J.nil ?_
  rcases adxa_0 with _ | ad16
  · have h := nilb_nil ((fxa_0).nil_of) h
    refine CJ.condK (b := true) rfl rfl ?_
    refine CJ.seq ?_
    refine CJ.region ?_
    refine J.val (v := .slice none 0 0) rfl rfl (V.as rfl) ?_
    refine J.nil ?_
    refine CJ.by (fun w hs => Sep.rowNil (e := 60) (t := (.cons (.int .i64) (.one .bool))) hs) ?_
    refine CJ.ret ?_
    have e := Option.some.inj h
    subst e
    exact ⟨_, [Row Hp.nil 60 (.cons (.int .i64) (.one .bool)) (.slice none ((([] : List (Int × Bool))).length) 0) (([] : List (Int × Bool)))], Res.one rfl rfl, ⟨[], none, 0, rfl, rfl, rfl⟩, (Hp.le_refl _), fun w hs => hs⟩
  · have h := nilb_cons h
    refine CJ.condK (b := false) rfl rfl ?_
    refine CJ.skip ?_
    refine CJ.seq ?_
    refine CJ.region ?_
    refine J.op rfl (A.lit (K0 := Hp.nil) (ty := (.cons (.int .i64) (.one .bool))) (xs := ([] : List (Int × Bool))) Try.underlying24 inf60 rfl (by decide) rfl rfl rfl rfl rfl (by decide)) ?_
    rintro _ _ _ ⟨b18, rfl, rfl, rfl⟩
    have hn19 : ([] : List (Int × Bool)) ≠ [] → ∃ g, (some ⟨b18, 0, none⟩ : Option Addr) = some ⟨g, 0, none⟩ := fun _ => ⟨b18, rfl⟩
    refine J.val (v := .slice (some ad16) xa.length cpxa_0) rfl rfl (V.mv rfl) ?_
    obtain ⟨z21, hz22, h⟩ := ob h
    refine J.op rfl (A.appP (Kr := Hp.nil) (K1 := K) Try.underlying24 inf60 rfl rfl (by decide) (by decide) rfl rfl fxa_0 (Hp.le_refl _) (Els.flat rfl) (Els.flat rfl) hz22) ?_
    rintro _ _ _ ⟨v23, rfl, rfl, rfl⟩
    refine J.wit Row.form ?_
    rintro ⟨ad24, cp25, rfl, _, _, hn26⟩
    refine J.val (v := .slice ad24 z21.length cp25) rfl rfl (V.as rfl) ?_
    refine J.nil ?_
    refine CJ.ret ?_
    have e := Option.some.inj h
    subst e
    exact ⟨_, [Row Hp.nil 60 (.cons (.int .i64) (.one .bool)) (.slice ad24 z21.length cp25) z21], Res.one rfl rfl, ⟨z21, ad24, cp25, rfl, rfl, rfl⟩, (Hp.le_refl _), fun w hs => hs⟩

noncomputable def fn_row_Clone (xa : (List (Int × Bool))) : Option ((List (Int × Bool))) :=
  (fn_slices_Clone_api_Slot_api_Slot xa).bind fun l22 => some (l22)
set_option maxRecDepth 100000 in
set_option maxHeartbeats 4000000 in
theorem row_Clone_ok {K : Hp} {xa : (List (Int × Bool))} {adxa_0 : Option Addr} {cpxa_0 : Nat} (fxa_0 : Is K (.sl (.cons (.int .i64) (.one .bool))) [.slice adxa_0 xa.length cpxa_0] xa) {r : (List (Int × Bool))} (h : fn_row_Clone xa = some r) :
    Tr Try.prog 57 #[.agg #[.slice adxa_0 xa.length cpxa_0]] K [] (fun v K' L' => (∃ (l13 : (List (Int × Bool))) (ad14 : Option Addr) (cp15 : Nat), l13 = r ∧ .agg #[.slice ad14 l13.length cp15] = v ∧ L' = [Row Hp.nil 60 (.cons (.int .i64) (.one .bool)) (.slice ad14 l13.length cp15) l13]) ∧ K = K') := by
  refine Tr.k ?_
  refine Tr.of Try.func57 rfl Try.ntmps57 rfl (fun E F => ?_)
  unfold fn_row_Clone at h
  refine CJ.seq ?_
  refine CJ.region ?_
  refine J.op rfl (A.box (v := .agg #[.slice adxa_0 xa.length cpxa_0]) (cs := [.slice adxa_0 xa.length cpxa_0]) rfl rfl) ?_
  rintro _ _ _ ⟨b18, rfl, rfl, rfl⟩
  refine J.op rfl (A.alloc (cs := [.slice none 0 0]) inf26 rfl) ?_
  rintro _ _ _ ⟨b19, rfl, rfl, rfl⟩
  refine J.nil ?_
  refine CJ.seq ?_
  refine CJ.region ?_
  refine J.val rfl rfl (V.fad Try.underlying26 rfl nz24 rfl) ?_
  refine J.val (v := .slice adxa_0 xa.length cpxa_0) rfl rfl (V.ld rfl (Ld.sc sc24 (Rd.cl 1 rfl rfl))) ?_
  obtain ⟨r20, hr21, h⟩ := ob h
  refine J.op rfl (A.call (L1 := []) Try.call70 rfl (slices_Clone_api_Slot_api_Slot_ok fxa_0 hr21) rfl rfl) ?_
  rintro _ _ _ ⟨v26, _, rfl, ⟨⟨l22, ad23, cp24, rfl, rfl, rfl⟩, rfl⟩, _, rfl⟩
  refine J.wit Row.hn (fun hn25 => ?_)
  refine J.val (v := .agg #[.slice ad23 l22.length cp24]) rfl rfl (V.build inf26 places26 rfl rfl) ?_
  refine J.front 1 rfl ?_
  refine J.op rfl (A.store (v := .agg #[.slice ad23 l22.length cp24]) (cs' := [.slice ad23 l22.length cp24]) sz26 rfl rfl rfl rfl rfl rfl) ?_
  rintro _ _ _ ⟨rfl, rfl, rfl⟩
  refine J.nil ?_
  refine CJ.ret ?_
  have e := Option.some.inj h
  subst e
  exact ⟨_, [Row Hp.nil 60 (.cons (.int .i64) (.one .bool)) (.slice ad23 l22.length cp24) l22], Res.one rfl ⟨_, _, rfl, Ld.agg (cs := [.slice ad23 l22.length cp24]) Try.underlying26 sz26 rfl (Rd.cls 0 0 rfl rfl)⟩, ⟨l22, ad23, cp24, rfl, rfl, rfl⟩, (Hp.le_refl _), fun w hs => (Sep.dropAt 1 rfl (Sep.dropAt 0 rfl hs))⟩
end Go.Proofs.Ytjhgiaafaahbjaa
