/- What Go functions answer: generated. -/
import Derived.Test.YtgeofnfjgjodgaaDt
import Derived.Test.YtgeofnfjgjodgaaRows
import Derived.Test.YtgeofnfjgjodgaaBd
namespace Go.Proofs.Ytgeofnfjgjodgaa
open Go.RowKit
set_option linter.unusedVariables false
set_option linter.unnecessarySimpa false
set_option linter.unusedSimpArgs false
set_option maxRecDepth 20000
theorem sz24 : (Try.prog.info? 24).map (·.size) = some 6 := by kernel_rfl
theorem sz31 : (Try.prog.info? 31).map (·.size) = some 5 := by kernel_rfl
theorem nz22 : Try.prog.cellsOf 22 ≠ 0 := by decide +kernel
theorem sc22 : scalar Try.prog 22 = true := by kernel_rfl
theorem nz25 : Try.prog.cellsOf 25 ≠ 0 := by decide +kernel
theorem sc25 : scalar Try.prog 25 = true := by kernel_rfl
theorem nz29 : Try.prog.cellsOf 29 ≠ 0 := by decide +kernel
theorem sc29 : scalar Try.prog 29 = true := by kernel_rfl
theorem nz28 : Try.prog.cellsOf 28 ≠ 0 := by decide +kernel
theorem sz28 : (Try.prog.info? 28).map (·.size) = some 1 := by kernel_rfl
theorem nz26 : Try.prog.cellsOf 26 ≠ 0 := by decide +kernel
theorem sc26 : scalar Try.prog 26 = true := by kernel_rfl
theorem sz57 : (Try.prog.info? 57).map (·.size) = some 4 := by kernel_rfl
theorem nz55 : Try.prog.cellsOf 55 ≠ 0 := by decide +kernel
theorem sc55 : scalar Try.prog 55 = true := by kernel_rfl
theorem inf3 : Inf Try.prog 3 (.int .i64 0) 1 8 := by unfold Inf; kernel_rfl
theorem inf24 : Inf Try.prog 24 (.agg #[.int .i64 0, .int .i64 0, .int .i64 0, .slice none 0 0, .slice none 0 0, .slice none 0 0]) 6 96 := by unfold Inf; kernel_rfl
theorem places24 : Places Try.prog 24 [(0, 1), (1, 1), (2, 1), (3, 1), (4, 1), (5, 1)] := ⟨_, Try.underlying24, by kernel_rfl⟩
theorem nz3 : Try.prog.cellsOf 3 ≠ 0 := by decide +kernel
theorem sc3 : scalar Try.prog 3 = true := by kernel_rfl
theorem inf82 : Inf Try.prog 82 (.agg #[.pointer none, .slice none 0 0]) 2 32 := by unfold Inf; kernel_rfl
theorem sz3 : (Try.prog.info? 3).map (·.size) = some 1 := by kernel_rfl
theorem mixO : Try.prog.follows .mixedOrders = true := by kernel_rfl
theorem inf34 : Inf Try.prog 34 (.agg #[.int .i64 0, .int .i64 0, .slice none 0 0, .slice none 0 0, .slice none 0 0]) 5 88 := by unfold Inf; kernel_rfl
theorem places34 : Places Try.prog 34 [(0, 1), (1, 1), (2, 1), (3, 1), (4, 1)] := ⟨_, Try.underlying34, by kernel_rfl⟩
theorem sz34 : (Try.prog.info? 34).map (·.size) = some 5 := by kernel_rfl
theorem sz111 : (Try.prog.info? 111).map (·.size) = some 2 := by kernel_rfl
theorem inf111 : Inf Try.prog 111 (.agg #[.int .i64 0, .bool false]) 2 16 := by unfold Inf; kernel_rfl
theorem nz4 : Try.prog.cellsOf 4 ≠ 0 := by decide +kernel
theorem sc4 : scalar Try.prog 4 = true := by kernel_rfl
theorem inf67 : Inf Try.prog 67 (.agg #[.int .i64 0, .int .i64 0, .int .i64 0, .int .i64 0, .bool false]) 5 40 := by unfold Inf; kernel_rfl
theorem places67 : Places Try.prog 67 [(0, 1), (1, 1), (2, 1), (3, 1), (4, 1)] := ⟨_, Try.underlying67, by kernel_rfl⟩
theorem inf28 : Inf Try.prog 28 (.agg #[.slice none 0 0]) 1 24 := by unfold Inf; kernel_rfl
theorem sz98 : (Try.prog.info? 98).map (·.size) = some 2 := by kernel_rfl
theorem inf98 : Inf Try.prog 98 (.agg #[.int .i64 0, .int .i64 0]) 2 16 := by unfold Inf; kernel_rfl
theorem places28 : Places Try.prog 28 [(0, 1)] := ⟨_, Try.underlying28, by kernel_rfl⟩
theorem inf66 : Inf Try.prog 66 (.agg #[.int .i64 0, .int .i64 0, .int .i64 0, .int .i64 0, .bool false]) 5 40 := by unfold Inf; kernel_rfl
theorem places66 : Places Try.prog 66 [(0, 1), (1, 1), (2, 1), (3, 1), (4, 1)] := ⟨_, Try.underlying66, by kernel_rfl⟩
theorem places111 : Places Try.prog 111 [(0, 1), (1, 1)] := ⟨_, Try.underlying111, by kernel_rfl⟩
theorem sz67 : (Try.prog.info? 67).map (·.size) = some 5 := by kernel_rfl
theorem sz66 : (Try.prog.info? 66).map (·.size) = some 5 := by kernel_rfl
theorem sih66 : Try.prog.stoodInHeld 66 = false := by kernel_rfl
theorem eqg66 : Try.prog.eqGuardType Try.prog.depth 66 = false := by kernel_rfl

noncomputable def fn_ref15_Few (xa : (List (Int × Bool))) (xb : Int) : Option Bool :=
  some (decide ((((xa.length : Nat) : Int)) ≤ xb))
set_option maxRecDepth 100000 in
set_option maxHeartbeats 4000000 in
theorem ref15_Few_ok {K : Hp} {xa : (List (Int × Bool))} {xb : Int} {adxa_0 : Option Addr} {cpxa_0 : Nat} (fxa_0 : Is K (.sl (.cons (.int .i64) (.one .bool))) [.slice adxa_0 xa.length cpxa_0] xa) {r : Bool} (h : fn_ref15_Few xa xb = some r) :
    Tr Try.prog 20 #[.agg #[.slice adxa_0 xa.length cpxa_0], .int .i64 xb] K [] (fun v K' L' => (∃ (t2 : Bool), t2 = r ∧ .bool t2 = v ∧ L' = []) ∧ K = K') := by
  refine Tr.k ?_
  refine Tr.of Try.func20 rfl Try.ntmps20 rfl (fun E F => ?_)
  unfold fn_ref15_Few at h
  refine CJ.seq ?_
  refine CJ.region ?_
  refine J.op rfl (A.box (v := .agg #[.slice adxa_0 xa.length cpxa_0]) (cs := [.slice adxa_0 xa.length cpxa_0]) rfl rfl) ?_
  rintro _ _ _ ⟨b3, rfl, rfl, rfl⟩
  refine J.val (v := .bool false) rfl rfl (V.as rfl) ?_
  refine J.nil ?_
  refine CJ.seq ?_
  refine CJ.region ?_
  refine J.val rfl rfl (V.fad Try.underlying28 rfl nz26 rfl) ?_
  refine J.val (v := .slice adxa_0 xa.length cpxa_0) rfl rfl (V.ld rfl (Ld.sc sc26 (Rd.cl 0 rfl rfl))) ?_
  refine J.val (v := .int .i64 (((xa.length : Nat) : Int))) rfl rfl (V.len Try.underlying26 rfl) ?_
  refine J.val (v := .int .i64 xb) rfl rfl (V.mv rfl) ?_
  refine J.val (v := .bool (decide ((((xa.length : Nat) : Int)) ≤ xb))) rfl rfl (V.leq rfl rfl) ?_
  refine J.val (v := .bool (decide ((((xa.length : Nat) : Int)) ≤ xb))) rfl rfl (V.as rfl) ?_
  refine J.nil ?_
  refine CJ.ret ?_
  have e := Option.some.inj h
  subst e
  exact ⟨_, [], Res.one rfl rfl, ⟨decide ((((xa.length : Nat) : Int)) ≤ xb), rfl, rfl, rfl⟩, (Hp.le_refl _), fun w hs => (Sep.dropAt 0 rfl hs)⟩
noncomputable def fn_ref17_Few_l1 (xa : (Int × (List (Int × Int)) × (List (List (Int × Bool))) × (List (Int × Bool)))) : Int → Option (Int ⊕ (Unit ⊕ Bool)) := fun (i283 : Int) => cond (decide (i283 < (((xa.2.2.1.length : Nat) : Int)))) ((getI xa.2.2.1 i283).bind fun x311 => (fn_ref15_Few x311 20).bind fun t326 => cond (!t326) (some (.inr ((.inr (false))))) (some (.inl (IntKind.wrap .i64 (i283 + 1))))) (some (.inr ((.inl ()))))
noncomputable def fn_ref17_Few (xa : (Int × (List (Int × Int)) × (List (List (Int × Bool))) × (List (Int × Bool)))) : Option Bool :=
  (cond ((decide (20 < (((xa.2.1.length : Nat) : Int)))) || (decide (20 < (((xa.2.2.1.length : Nat) : Int))))) (some (true)) ((fn_ref15_Few xa.2.2.2 20).bind fun t184 => some (!t184))).bind fun t179 => cond (t179) (some (false)) ((loop (fn_ref17_Few_l1 xa) 0 : Option (Unit ⊕ Bool)).bind fun o => match o with | .inr r => some r | .inl () => some (true))
set_option maxRecDepth 100000 in
set_option maxHeartbeats 4000000 in
theorem ref17_Few_ok {K : Hp} {xa : (Int × (List (Int × Int)) × (List (List (Int × Bool))) × (List (Int × Bool)))} {adxa_1 : Option Addr} {cpxa_1 : Nat} {adxa_2 : Option Addr} {cpxa_2 : Nat} {adxa_3 : Option Addr} {cpxa_3 : Nat} (fxa_1 : Is K (.sl (.cons (.int .i64) (.one (.int .i64)))) [.slice adxa_1 xa.2.1.length cpxa_1] xa.2.1) (fxa_2 : Is K (.sl (.one (.sl (.cons (.int .i64) (.one .bool))))) [.slice adxa_2 xa.2.2.1.length cpxa_2] xa.2.2.1) (fxa_3 : Is K (.sl (.cons (.int .i64) (.one .bool))) [.slice adxa_3 xa.2.2.2.length cpxa_3] xa.2.2.2) {r : Bool} (h : fn_ref17_Few xa = some r) :
    Tr Try.prog 21 #[.agg #[.int .i64 xa.1, .slice adxa_1 xa.2.1.length cpxa_1, .slice adxa_2 xa.2.2.1.length cpxa_2, .slice adxa_3 xa.2.2.2.length cpxa_3]] K [] (fun v K' L' => (∃ (t167 : Bool), t167 = r ∧ .bool t167 = v ∧ L' = []) ∧ K = K') := by
  refine Tr.k ?_
  refine Tr.of Try.func21 rfl Try.ntmps21 rfl (fun E F => ?_)
  unfold fn_ref17_Few at h
  refine CJ.seq ?_
  refine CJ.region ?_
  refine J.op rfl (A.box (v := .agg #[.int .i64 xa.1, .slice adxa_1 xa.2.1.length cpxa_1, .slice adxa_2 xa.2.2.1.length cpxa_2, .slice adxa_3 xa.2.2.2.length cpxa_3]) (cs := [.int .i64 xa.1, .slice adxa_1 xa.2.1.length cpxa_1, .slice adxa_2 xa.2.2.1.length cpxa_2, .slice adxa_3 xa.2.2.2.length cpxa_3]) rfl rfl) ?_
  rintro _ _ _ ⟨b168, rfl, rfl, rfl⟩
  refine J.val (v := .bool false) rfl rfl (V.as rfl) ?_
  refine J.nil ?_
  refine CJ.seq ?_
  refine CJ.seq ?_
  refine CJ.region ?_
  refine J.val rfl rfl (V.fad Try.underlying57 rfl nz55 rfl) ?_
  refine J.val (v := .slice adxa_1 xa.2.1.length cpxa_1) rfl rfl (V.ld rfl (Ld.sc sc55 (Rd.cl 0 rfl rfl))) ?_
  refine J.val (v := .int .i64 (((xa.2.1.length : Nat) : Int))) rfl rfl (V.len Try.underlying55 rfl) ?_
  refine J.val (v := .bool (decide (20 < (((xa.2.1.length : Nat) : Int))))) rfl rfl (V.gtr rfl rfl) ?_
  refine J.val (v := .bool (decide (20 < (((xa.2.1.length : Nat) : Int))))) rfl rfl (V.mv rfl) ?_
  refine J.cut 5 ?_
  refine @J.meet _ _ _ _ _ _ _ _ _ _ (fun ρ K' L' => Fits [(13, .bool ((decide (20 < (((xa.2.1.length : Nat) : Int)))) || (decide (20 < (((xa.2.2.1.length : Nat) : Int)))))), (1, .pointer (some ⟨b168, 0, none⟩))] ρ ∧ K = K' ∧ L' = Cl b168 57 [.int .i64 xa.1, .slice adxa_1 xa.2.1.length cpxa_1, .slice adxa_2 xa.2.2.1.length cpxa_2, .slice adxa_3 xa.2.2.2.length cpxa_3] :: F) ?_ ?_
  · skip
    rcases bt (decide (20 < (((xa.2.1.length : Nat) : Int)))) with hc171 | hc171
    · skip
      refine J.skip rfl rfl rfl rfl hc171 ?_
      refine J.skip rfl rfl rfl rfl hc171 ?_
      refine J.skip rfl rfl rfl rfl hc171 ?_
      refine J.skip rfl rfl rfl rfl hc171 ?_
      refine J.val (v := .bool true) rfl rfl (V.pickT rfl hc171 rfl) ?_
      refine J.nil ?_
      exact ⟨rfl, ⟨(by simp only [hc171]; rfl), rfl, trivial⟩, rfl, rfl⟩
    · skip
      refine J.run rfl rfl rfl hc171 ?_
      refine J.val rfl rfl (V.fad Try.underlying57 rfl nz25 rfl) ?_
      refine J.run rfl rfl rfl hc171 ?_
      refine J.val (v := .slice adxa_2 xa.2.2.1.length cpxa_2) rfl rfl (V.ld rfl (Ld.sc sc25 (Rd.cl 0 rfl rfl))) ?_
      refine J.run rfl rfl rfl hc171 ?_
      refine J.val (v := .int .i64 (((xa.2.2.1.length : Nat) : Int))) rfl rfl (V.len Try.underlying25 rfl) ?_
      refine J.run rfl rfl rfl hc171 ?_
      refine J.val (v := .bool (decide (20 < (((xa.2.2.1.length : Nat) : Int))))) rfl rfl (V.gtr rfl rfl) ?_
      refine J.val (v := .bool (decide (20 < (((xa.2.2.1.length : Nat) : Int))))) rfl rfl (V.pickF rfl hc171 rfl) ?_
      refine J.nil ?_
      exact ⟨rfl, ⟨(by simp only [hc171]; rfl), rfl, trivial⟩, rfl, rfl⟩
  · rintro ρ _ _ ⟨hf, rfl, rfl⟩
    obtain ⟨ρ, rfl⟩ := hf.ex
    refine J.val (v := .bool ((decide (20 < (((xa.2.1.length : Nat) : Int)))) || (decide (20 < (((xa.2.2.1.length : Nat) : Int)))))) rfl rfl (V.mv rfl) ?_
    refine J.cut 5 ?_
    obtain ⟨t179, ht180, h⟩ := ob h
    refine @J.meet _ _ _ _ _ _ _ _ _ _ (fun ρ K' L' => Fits [(19, .bool t179), (1, .pointer (some ⟨b168, 0, none⟩))] ρ ∧ K = K' ∧ L' = Cl b168 57 [.int .i64 xa.1, .slice adxa_1 xa.2.1.length cpxa_1, .slice adxa_2 xa.2.2.1.length cpxa_2, .slice adxa_3 xa.2.2.2.length cpxa_3] :: F) ?_ ?_
    · skip
      rcases bt ((decide (20 < (((xa.2.1.length : Nat) : Int)))) || (decide (20 < (((xa.2.2.1.length : Nat) : Int))))) with hc181 | hc181
      · have ht180 := ct hc181 ht180
        refine J.skip rfl rfl rfl rfl hc181 ?_
        refine J.skip rfl rfl rfl rfl hc181 ?_
        refine J.skip rfl rfl rfl rfl hc181 ?_
        refine J.skip rfl rfl rfl rfl hc181 ?_
        refine J.val (v := .bool true) rfl rfl (V.pickT rfl hc181 rfl) ?_
        refine J.nil ?_
        have e := Option.some.inj ht180
        subst e
        exact ⟨rfl, ⟨rfl, rfl, trivial⟩, rfl, rfl⟩
      · have ht180 := cf hc181 ht180
        refine J.run rfl rfl rfl hc181 ?_
        refine J.val rfl rfl (V.fad Try.underlying57 rfl nz28 rfl) ?_
        refine J.run rfl rfl rfl hc181 ?_
        refine J.val (v := .agg #[.slice adxa_3 xa.2.2.2.length cpxa_3]) rfl rfl (V.ld rfl (Ld.agg (cs := [.slice adxa_3 xa.2.2.2.length cpxa_3]) Try.underlying28 sz28 rfl (Rd.cls 0 3 rfl rfl))) ?_
        refine J.run rfl rfl rfl hc181 ?_
        obtain ⟨r182, hr183, ht180⟩ := ob ht180
        refine J.op rfl (A.call (L1 := []) Try.call20 rfl (ref15_Few_ok fxa_3 hr183) rfl rfl) ?_
        rintro _ _ _ ⟨v185, _, rfl, ⟨⟨t184, rfl, rfl, rfl⟩, rfl⟩, _, rfl⟩
        refine J.run rfl rfl rfl hc181 ?_
        refine J.val (v := .bool (!t184)) rfl rfl (V.not rfl) ?_
        refine J.val (v := .bool (!t184)) rfl rfl (V.pickF rfl hc181 rfl) ?_
        refine J.nil ?_
        have e := Option.some.inj ht180
        subst e
        exact ⟨rfl, ⟨rfl, rfl, trivial⟩, rfl, rfl⟩
    · rintro ρ _ _ ⟨hf, rfl, rfl⟩
      obtain ⟨ρ, rfl⟩ := hf.ex
      refine J.nil ?_
      refine CJ.cond rfl (fun hc188 => ?_) (fun hc188 => ?_)
      · have h := ct hc188 h
        refine CJ.seq ?_
        refine CJ.region ?_
        refine J.val (v := .bool false) rfl rfl (V.as rfl) ?_
        refine J.nil ?_
        refine CJ.ret ?_
        have e := Option.some.inj h
        subst e
        exact ⟨_, [], Res.one rfl rfl, ⟨false, rfl, rfl, rfl⟩, (Hp.le_refl _), fun w hs => (Sep.dropAt 0 rfl hs)⟩
      · have h := cf hc188 h
        refine CJ.skip ?_
        refine CJ.seq ?_
        refine CJ.seq ?_
        refine CJ.region ?_
        refine J.val (v := .int .i64 0) rfl rfl (V.as rfl) ?_
        refine J.nil ?_
        obtain ⟨o259, ho260, h⟩ := ob h
        refine CJ.joinN (o := o259) (fun s ρ K' L' => () = s ∧ Fits [] ρ ∧ K = K' ∧ F = L') ?_ ?_
        · skip
          refine CJ.block ?_
          refine CJ.loop (fun s ρ K' L' => ∃ (i283 : Int), i283 = s ∧ Fits [(1, .pointer (some ⟨b168, 0, none⟩)), (3, .int .i64 i283)] ρ ∧ K = K' ∧ L' = Cl b168 57 [.int .i64 xa.1, .slice adxa_1 xa.2.1.length cpxa_1, .slice adxa_2 xa.2.2.1.length cpxa_2, .slice adxa_3 xa.2.2.2.length cpxa_3] :: F) ho260 ⟨0, rfl, ⟨rfl, rfl, trivial⟩, rfl, rfl⟩ ?_
          rintro s ρ _ _ r309 ⟨i283, rfl, hf307, rfl, rfl⟩ h306
          obtain ⟨ρ, rfl⟩ := hf307.ex
          refine CJ.seq ?_
          refine CJ.seq ?_
          refine CJ.region ?_
          refine J.val (v := .int .i64 i283) rfl rfl (V.mv rfl) ?_
          refine J.val rfl rfl (V.fad Try.underlying57 rfl nz25 rfl) ?_
          refine J.val (v := .slice adxa_2 xa.2.2.1.length cpxa_2) rfl rfl (V.ld rfl (Ld.sc sc25 (Rd.cl 0 rfl rfl))) ?_
          refine J.val (v := .int .i64 (((xa.2.2.1.length : Nat) : Int))) rfl rfl (V.len Try.underlying25 rfl) ?_
          refine J.val (v := .bool (decide (i283 < (((xa.2.2.1.length : Nat) : Int))))) rfl rfl (V.lss rfl rfl) ?_
          refine J.nil ?_
          refine CJ.cond rfl (fun hc310 => ?_) (fun hc310 => ?_)
          · have h306 := ct hc310 h306
            refine CJ.skip ?_
            refine CJ.seq ?_
            refine CJ.block ?_
            refine CJ.seq ?_
            refine CJ.region ?_
            refine J.val rfl rfl (V.fad Try.underlying57 rfl nz25 rfl) ?_
            refine J.val (v := .slice adxa_2 xa.2.2.1.length cpxa_2) rfl rfl (V.ld rfl (Ld.sc sc25 (Rd.cl 0 rfl rfl))) ?_
            refine J.val (v := .int .i64 i283) rfl rfl (V.mv rfl) ?_
            obtain ⟨x311, hx312, h306⟩ := ob h306
            obtain ⟨p313, p314, p315⟩ := getI_some hx312
            obtain ⟨b316, o317, e318, a319⟩ := (fxa_2).at p314
            refine J.val rfl rfl (V.iad Try.underlying25 sz28 rfl e318 rfl p313 p315) ?_
            obtain ⟨ad320, cp321, c322, f323⟩ := ((a319).one).sl
            refine J.val (v := .agg #[.slice ad320 x311.length cp321]) rfl rfl (V.ld rfl (Ld.aggK (cs := [.slice ad320 x311.length cp321]) Try.underlying28 sz28 rfl ⟨c322, trivial⟩ (Hp.le_refl _))) ?_
            obtain ⟨r324, hr325, h306⟩ := ob h306
            refine J.op rfl (A.call (L1 := []) Try.call20 rfl (ref15_Few_ok f323 hr325) rfl rfl) ?_
            rintro _ _ _ ⟨v327, _, rfl, ⟨⟨t326, rfl, rfl, rfl⟩, rfl⟩, _, rfl⟩
            refine J.val (v := .bool (!t326)) rfl rfl (V.not rfl) ?_
            refine J.nil ?_
            refine CJ.cond rfl (fun hc330 => ?_) (fun hc330 => ?_)
            · have h306 := ct hc330 h306
              refine CJ.seq ?_
              refine CJ.region ?_
              refine J.val (v := .bool false) rfl rfl (V.as rfl) ?_
              refine J.nil ?_
              refine CJ.ret ?_
              have e := Option.some.inj h306
              subst e
              refine ⟨nofun, fun e => ?_⟩
              subst e
              refine .inr ⟨nofun, ?_⟩
              have e := Option.some.inj h
              subst e
              exact ⟨_, [], Res.one rfl rfl, ⟨false, rfl, rfl, rfl⟩, (Hp.le_refl _), fun w hs => (Sep.dropAt 0 rfl hs)⟩
            · have h306 := cf hc330 h306
              refine CJ.skip ?_
              refine CJ.region ?_
              refine J.val (v := .int .i64 i283) rfl rfl (V.mv rfl) ?_
              refine J.val (v := .int .i64 (IntKind.wrap .i64 (i283 + 1))) rfl rfl (V.add rfl rfl) ?_
              refine J.val (v := .int .i64 (IntKind.wrap .i64 (i283 + 1))) rfl rfl (V.as rfl) ?_
              refine J.nil ?_
              have e := Option.some.inj h306
              subst e
              exact ⟨rfl, ⟨IntKind.wrap .i64 (i283 + 1), rfl, ⟨rfl, rfl, trivial⟩, rfl, rfl⟩⟩
          · have h306 := cf hc310 h306
            refine CJ.dropAt 0 rfl ?_
            refine CJ.exit ?_
            have e := Option.some.inj h306
            subst e
            refine ⟨nofun, fun e => ?_⟩
            subst e
            exact .inl ⟨rfl, _, rfl, ⟨rfl, trivial, rfl, rfl⟩⟩
        · rintro s ρ _ _ ho331 ⟨rfl, hf332, rfl, rfl⟩
          subst ho331
          obtain ⟨ρ, rfl⟩ := hf332.ex
          refine PJ.done ?_
          refine CJ.seq ?_
          refine CJ.region ?_
          refine J.val (v := .bool true) rfl rfl (V.as rfl) ?_
          refine J.nil ?_
          refine CJ.ret ?_
          have e := Option.some.inj h
          subst e
          exact ⟨_, [], Res.one rfl rfl, ⟨true, rfl, rfl, rfl⟩, (Hp.le_refl _), fun w hs => hs⟩
noncomputable def fn_law19_few_l1 (xb : (Int × Int × (List (List (Int × Bool))) × (List (Int × Bool)) × (List (Int × (List (Int × Int)) × (List (List (Int × Bool))) × (List (Int × Bool)))))) : Int → Option (Int ⊕ (Unit ⊕ Bool)) := fun (i498 : Int) => cond (decide (i498 < (((xb.2.2.1.length : Nat) : Int)))) ((getI xb.2.2.1 i498).bind fun x526 => (fn_ref15_Few x526 20).bind fun t541 => cond (!t541) (some (.inr ((.inr (false))))) (some (.inl (IntKind.wrap .i64 (i498 + 1))))) (some (.inr ((.inl ()))))
noncomputable def fn_law19_few_l2 (xb : (Int × Int × (List (List (Int × Bool))) × (List (Int × Bool)) × (List (Int × (List (Int × Int)) × (List (List (Int × Bool))) × (List (Int × Bool)))))) : Int → Option (Int ⊕ (Unit ⊕ Bool)) := fun (i675 : Int) => cond (decide (i675 < (((xb.2.2.2.2.length : Nat) : Int)))) ((getI xb.2.2.2.2 i675).bind fun x711 => (fn_ref17_Few (x711.1, x711.2.1, x711.2.2.1, x711.2.2.2)).bind fun t734 => cond (!t734) (some (.inr ((.inr (false))))) (some (.inl (IntKind.wrap .i64 (i675 + 1))))) (some (.inr ((.inl ()))))
noncomputable def fn_law19_few (xa : (Int × Int × Int × (List Int) × (List Int) × (List Int))) (xb : (Int × Int × (List (List (Int × Bool))) × (List (Int × Bool)) × (List (Int × (List (Int × Int)) × (List (List (Int × Bool))) × (List (Int × Bool)))))) : Option Bool :=
  (cond (((((decide (20 < (((xa.2.2.2.1.length : Nat) : Int)))) || (decide (20 < (((xa.2.2.2.2.1.length : Nat) : Int))))) || (decide (20 < (((xa.2.2.2.2.2.length : Nat) : Int))))) || (decide (20 < (((xb.2.2.1.length : Nat) : Int))))) || (decide (8 < (((xb.2.2.2.2.length : Nat) : Int))))) (some (true)) ((fn_ref15_Few xb.2.2.2.1 20).bind fun t399 => some (!t399))).bind fun t394 => cond (t394) (some (false)) ((loop (fn_law19_few_l1 xb) 0 : Option (Unit ⊕ Bool)).bind fun o => match o with | .inr r => some r | .inl () => (loop (fn_law19_few_l2 xb) 0 : Option (Unit ⊕ Bool)).bind fun o => match o with | .inr r => some r | .inl () => some (true))
set_option maxRecDepth 100000 in
set_option maxHeartbeats 4000000 in
theorem law19_few_ok {K : Hp} {xa : (Int × Int × Int × (List Int) × (List Int) × (List Int))} {xb : (Int × Int × (List (List (Int × Bool))) × (List (Int × Bool)) × (List (Int × (List (Int × Int)) × (List (List (Int × Bool))) × (List (Int × Bool)))))} {adxa_3 : Option Addr} {cpxa_3 : Nat} {adxa_4 : Option Addr} {cpxa_4 : Nat} {adxa_5 : Option Addr} {cpxa_5 : Nat} {adxb_2 : Option Addr} {cpxb_2 : Nat} {adxb_3 : Option Addr} {cpxb_3 : Nat} {adxb_4 : Option Addr} {cpxb_4 : Nat} (fxa_3 : Is K (.sl (.int .i64)) [.slice adxa_3 xa.2.2.2.1.length cpxa_3] xa.2.2.2.1) (fxa_4 : Is K (.sl (.int .i64)) [.slice adxa_4 xa.2.2.2.2.1.length cpxa_4] xa.2.2.2.2.1) (fxa_5 : Is K (.sl (.int .i64)) [.slice adxa_5 xa.2.2.2.2.2.length cpxa_5] xa.2.2.2.2.2) (fxb_2 : Is K (.sl (.one (.sl (.cons (.int .i64) (.one .bool))))) [.slice adxb_2 xb.2.2.1.length cpxb_2] xb.2.2.1) (fxb_3 : Is K (.sl (.cons (.int .i64) (.one .bool))) [.slice adxb_3 xb.2.2.2.1.length cpxb_3] xb.2.2.2.1) (fxb_4 : Is K (.sl (.cons (.int .i64) (.cons (.sl (.cons (.int .i64) (.one (.int .i64)))) (.cons (.sl (.one (.sl (.cons (.int .i64) (.one .bool))))) (.one (.one (.sl (.cons (.int .i64) (.one .bool))))))))) [.slice adxb_4 xb.2.2.2.2.length cpxb_4] xb.2.2.2.2) {r : Bool} (h : fn_law19_few xa xb = some r) :
    Tr Try.prog 6 #[.agg #[.int .i64 xa.1, .int .i64 xa.2.1, .int .i64 xa.2.2.1, .slice adxa_3 xa.2.2.2.1.length cpxa_3, .slice adxa_4 xa.2.2.2.2.1.length cpxa_4, .slice adxa_5 xa.2.2.2.2.2.length cpxa_5], .agg #[.int .i64 xb.1, .int .i64 xb.2.1, .slice adxb_2 xb.2.2.1.length cpxb_2, .slice adxb_3 xb.2.2.2.1.length cpxb_3, .slice adxb_4 xb.2.2.2.2.length cpxb_4]] K [] (fun v K' L' => (∃ (t372 : Bool), t372 = r ∧ .bool t372 = v ∧ L' = []) ∧ K = K') := by
  refine Tr.k ?_
  refine Tr.of Try.func6 rfl Try.ntmps6 rfl (fun E F => ?_)
  unfold fn_law19_few at h
  refine CJ.seq ?_
  refine CJ.region ?_
  refine J.op rfl (A.box (v := .agg #[.int .i64 xa.1, .int .i64 xa.2.1, .int .i64 xa.2.2.1, .slice adxa_3 xa.2.2.2.1.length cpxa_3, .slice adxa_4 xa.2.2.2.2.1.length cpxa_4, .slice adxa_5 xa.2.2.2.2.2.length cpxa_5]) (cs := [.int .i64 xa.1, .int .i64 xa.2.1, .int .i64 xa.2.2.1, .slice adxa_3 xa.2.2.2.1.length cpxa_3, .slice adxa_4 xa.2.2.2.2.1.length cpxa_4, .slice adxa_5 xa.2.2.2.2.2.length cpxa_5]) rfl rfl) ?_
  rintro _ _ _ ⟨b373, rfl, rfl, rfl⟩
  refine J.op rfl (A.box (v := .agg #[.int .i64 xb.1, .int .i64 xb.2.1, .slice adxb_2 xb.2.2.1.length cpxb_2, .slice adxb_3 xb.2.2.2.1.length cpxb_3, .slice adxb_4 xb.2.2.2.2.length cpxb_4]) (cs := [.int .i64 xb.1, .int .i64 xb.2.1, .slice adxb_2 xb.2.2.1.length cpxb_2, .slice adxb_3 xb.2.2.2.1.length cpxb_3, .slice adxb_4 xb.2.2.2.2.length cpxb_4]) rfl rfl) ?_
  rintro _ _ _ ⟨b374, rfl, rfl, rfl⟩
  refine J.val (v := .bool false) rfl rfl (V.as rfl) ?_
  refine J.nil ?_
  refine CJ.seq ?_
  refine CJ.seq ?_
  refine CJ.region ?_
  refine J.val rfl rfl (V.fad Try.underlying24 rfl nz22 rfl) ?_
  refine J.val (v := .slice adxa_3 xa.2.2.2.1.length cpxa_3) rfl rfl (V.ld rfl (Ld.sc sc22 (Rd.cl 1 rfl rfl))) ?_
  refine J.val (v := .int .i64 (((xa.2.2.2.1.length : Nat) : Int))) rfl rfl (V.len Try.underlying22 rfl) ?_
  refine J.val (v := .bool (decide (20 < (((xa.2.2.2.1.length : Nat) : Int))))) rfl rfl (V.gtr rfl rfl) ?_
  refine J.val (v := .bool (decide (20 < (((xa.2.2.2.1.length : Nat) : Int))))) rfl rfl (V.mv rfl) ?_
  refine J.cut 5 ?_
  refine @J.meet _ _ _ _ _ _ _ _ _ _ (fun ρ K' L' => Fits [(16, .bool ((decide (20 < (((xa.2.2.2.1.length : Nat) : Int)))) || (decide (20 < (((xa.2.2.2.2.1.length : Nat) : Int)))))), (2, .pointer (some ⟨b373, 0, none⟩)), (3, .pointer (some ⟨b374, 0, none⟩))] ρ ∧ K = K' ∧ L' = Cl b374 31 [.int .i64 xb.1, .int .i64 xb.2.1, .slice adxb_2 xb.2.2.1.length cpxb_2, .slice adxb_3 xb.2.2.2.1.length cpxb_3, .slice adxb_4 xb.2.2.2.2.length cpxb_4] :: Cl b373 24 [.int .i64 xa.1, .int .i64 xa.2.1, .int .i64 xa.2.2.1, .slice adxa_3 xa.2.2.2.1.length cpxa_3, .slice adxa_4 xa.2.2.2.2.1.length cpxa_4, .slice adxa_5 xa.2.2.2.2.2.length cpxa_5] :: F) ?_ ?_
  · skip
    rcases bt (decide (20 < (((xa.2.2.2.1.length : Nat) : Int)))) with hc377 | hc377
    · skip
      refine J.skip rfl rfl rfl rfl hc377 ?_
      refine J.skip rfl rfl rfl rfl hc377 ?_
      refine J.skip rfl rfl rfl rfl hc377 ?_
      refine J.skip rfl rfl rfl rfl hc377 ?_
      refine J.val (v := .bool true) rfl rfl (V.pickT rfl hc377 rfl) ?_
      refine J.nil ?_
      exact ⟨rfl, ⟨(by simp only [hc377]; rfl), rfl, rfl, trivial⟩, rfl, rfl⟩
    · skip
      refine J.run rfl rfl rfl hc377 ?_
      refine J.val rfl rfl (V.fad Try.underlying24 rfl nz22 rfl) ?_
      refine J.run rfl rfl rfl hc377 ?_
      refine J.val (v := .slice adxa_4 xa.2.2.2.2.1.length cpxa_4) rfl rfl (V.ld rfl (Ld.sc sc22 (Rd.cl 1 rfl rfl))) ?_
      refine J.run rfl rfl rfl hc377 ?_
      refine J.val (v := .int .i64 (((xa.2.2.2.2.1.length : Nat) : Int))) rfl rfl (V.len Try.underlying22 rfl) ?_
      refine J.run rfl rfl rfl hc377 ?_
      refine J.val (v := .bool (decide (20 < (((xa.2.2.2.2.1.length : Nat) : Int))))) rfl rfl (V.gtr rfl rfl) ?_
      refine J.val (v := .bool (decide (20 < (((xa.2.2.2.2.1.length : Nat) : Int))))) rfl rfl (V.pickF rfl hc377 rfl) ?_
      refine J.nil ?_
      exact ⟨rfl, ⟨(by simp only [hc377]; rfl), rfl, rfl, trivial⟩, rfl, rfl⟩
  · rintro ρ _ _ ⟨hf, rfl, rfl⟩
    obtain ⟨ρ, rfl⟩ := hf.ex
    refine J.val (v := .bool ((decide (20 < (((xa.2.2.2.1.length : Nat) : Int)))) || (decide (20 < (((xa.2.2.2.2.1.length : Nat) : Int)))))) rfl rfl (V.mv rfl) ?_
    refine J.cut 5 ?_
    refine @J.meet _ _ _ _ _ _ _ _ _ _ (fun ρ K' L' => Fits [(22, .bool (((decide (20 < (((xa.2.2.2.1.length : Nat) : Int)))) || (decide (20 < (((xa.2.2.2.2.1.length : Nat) : Int))))) || (decide (20 < (((xa.2.2.2.2.2.length : Nat) : Int)))))), (3, .pointer (some ⟨b374, 0, none⟩))] ρ ∧ K = K' ∧ L' = Cl b374 31 [.int .i64 xb.1, .int .i64 xb.2.1, .slice adxb_2 xb.2.2.1.length cpxb_2, .slice adxb_3 xb.2.2.2.1.length cpxb_3, .slice adxb_4 xb.2.2.2.2.length cpxb_4] :: Cl b373 24 [.int .i64 xa.1, .int .i64 xa.2.1, .int .i64 xa.2.2.1, .slice adxa_3 xa.2.2.2.1.length cpxa_3, .slice adxa_4 xa.2.2.2.2.1.length cpxa_4, .slice adxa_5 xa.2.2.2.2.2.length cpxa_5] :: F) ?_ ?_
    · skip
      rcases bt ((decide (20 < (((xa.2.2.2.1.length : Nat) : Int)))) || (decide (20 < (((xa.2.2.2.2.1.length : Nat) : Int))))) with hc380 | hc380
      · skip
        refine J.skip rfl rfl rfl rfl hc380 ?_
        refine J.skip rfl rfl rfl rfl hc380 ?_
        refine J.skip rfl rfl rfl rfl hc380 ?_
        refine J.skip rfl rfl rfl rfl hc380 ?_
        refine J.val (v := .bool true) rfl rfl (V.pickT rfl hc380 rfl) ?_
        refine J.nil ?_
        exact ⟨rfl, ⟨(by simp only [hc380]; rfl), rfl, trivial⟩, rfl, rfl⟩
      · skip
        refine J.run rfl rfl rfl hc380 ?_
        refine J.val rfl rfl (V.fad Try.underlying24 rfl nz22 rfl) ?_
        refine J.run rfl rfl rfl hc380 ?_
        refine J.val (v := .slice adxa_5 xa.2.2.2.2.2.length cpxa_5) rfl rfl (V.ld rfl (Ld.sc sc22 (Rd.cl 1 rfl rfl))) ?_
        refine J.run rfl rfl rfl hc380 ?_
        refine J.val (v := .int .i64 (((xa.2.2.2.2.2.length : Nat) : Int))) rfl rfl (V.len Try.underlying22 rfl) ?_
        refine J.run rfl rfl rfl hc380 ?_
        refine J.val (v := .bool (decide (20 < (((xa.2.2.2.2.2.length : Nat) : Int))))) rfl rfl (V.gtr rfl rfl) ?_
        refine J.val (v := .bool (decide (20 < (((xa.2.2.2.2.2.length : Nat) : Int))))) rfl rfl (V.pickF rfl hc380 rfl) ?_
        refine J.nil ?_
        exact ⟨rfl, ⟨(by simp only [hc380]; rfl), rfl, trivial⟩, rfl, rfl⟩
    · rintro ρ _ _ ⟨hf, rfl, rfl⟩
      obtain ⟨ρ, rfl⟩ := hf.ex
      refine J.val (v := .bool (((decide (20 < (((xa.2.2.2.1.length : Nat) : Int)))) || (decide (20 < (((xa.2.2.2.2.1.length : Nat) : Int))))) || (decide (20 < (((xa.2.2.2.2.2.length : Nat) : Int)))))) rfl rfl (V.mv rfl) ?_
      refine J.cut 5 ?_
      refine @J.meet _ _ _ _ _ _ _ _ _ _ (fun ρ K' L' => Fits [(28, .bool ((((decide (20 < (((xa.2.2.2.1.length : Nat) : Int)))) || (decide (20 < (((xa.2.2.2.2.1.length : Nat) : Int))))) || (decide (20 < (((xa.2.2.2.2.2.length : Nat) : Int))))) || (decide (20 < (((xb.2.2.1.length : Nat) : Int)))))), (3, .pointer (some ⟨b374, 0, none⟩))] ρ ∧ K = K' ∧ L' = Cl b374 31 [.int .i64 xb.1, .int .i64 xb.2.1, .slice adxb_2 xb.2.2.1.length cpxb_2, .slice adxb_3 xb.2.2.2.1.length cpxb_3, .slice adxb_4 xb.2.2.2.2.length cpxb_4] :: Cl b373 24 [.int .i64 xa.1, .int .i64 xa.2.1, .int .i64 xa.2.2.1, .slice adxa_3 xa.2.2.2.1.length cpxa_3, .slice adxa_4 xa.2.2.2.2.1.length cpxa_4, .slice adxa_5 xa.2.2.2.2.2.length cpxa_5] :: F) ?_ ?_
      · skip
        rcases bt (((decide (20 < (((xa.2.2.2.1.length : Nat) : Int)))) || (decide (20 < (((xa.2.2.2.2.1.length : Nat) : Int))))) || (decide (20 < (((xa.2.2.2.2.2.length : Nat) : Int))))) with hc383 | hc383
        · skip
          refine J.skip rfl rfl rfl rfl hc383 ?_
          refine J.skip rfl rfl rfl rfl hc383 ?_
          refine J.skip rfl rfl rfl rfl hc383 ?_
          refine J.skip rfl rfl rfl rfl hc383 ?_
          refine J.val (v := .bool true) rfl rfl (V.pickT rfl hc383 rfl) ?_
          refine J.nil ?_
          exact ⟨rfl, ⟨(by simp only [hc383]; rfl), rfl, trivial⟩, rfl, rfl⟩
        · skip
          refine J.run rfl rfl rfl hc383 ?_
          refine J.val rfl rfl (V.fad Try.underlying31 rfl nz25 rfl) ?_
          refine J.run rfl rfl rfl hc383 ?_
          refine J.val (v := .slice adxb_2 xb.2.2.1.length cpxb_2) rfl rfl (V.ld rfl (Ld.sc sc25 (Rd.cl 0 rfl rfl))) ?_
          refine J.run rfl rfl rfl hc383 ?_
          refine J.val (v := .int .i64 (((xb.2.2.1.length : Nat) : Int))) rfl rfl (V.len Try.underlying25 rfl) ?_
          refine J.run rfl rfl rfl hc383 ?_
          refine J.val (v := .bool (decide (20 < (((xb.2.2.1.length : Nat) : Int))))) rfl rfl (V.gtr rfl rfl) ?_
          refine J.val (v := .bool (decide (20 < (((xb.2.2.1.length : Nat) : Int))))) rfl rfl (V.pickF rfl hc383 rfl) ?_
          refine J.nil ?_
          exact ⟨rfl, ⟨(by simp only [hc383]; rfl), rfl, trivial⟩, rfl, rfl⟩
      · rintro ρ _ _ ⟨hf, rfl, rfl⟩
        obtain ⟨ρ, rfl⟩ := hf.ex
        refine J.val (v := .bool ((((decide (20 < (((xa.2.2.2.1.length : Nat) : Int)))) || (decide (20 < (((xa.2.2.2.2.1.length : Nat) : Int))))) || (decide (20 < (((xa.2.2.2.2.2.length : Nat) : Int))))) || (decide (20 < (((xb.2.2.1.length : Nat) : Int)))))) rfl rfl (V.mv rfl) ?_
        refine J.cut 5 ?_
        refine @J.meet _ _ _ _ _ _ _ _ _ _ (fun ρ K' L' => Fits [(34, .bool (((((decide (20 < (((xa.2.2.2.1.length : Nat) : Int)))) || (decide (20 < (((xa.2.2.2.2.1.length : Nat) : Int))))) || (decide (20 < (((xa.2.2.2.2.2.length : Nat) : Int))))) || (decide (20 < (((xb.2.2.1.length : Nat) : Int))))) || (decide (8 < (((xb.2.2.2.2.length : Nat) : Int)))))), (3, .pointer (some ⟨b374, 0, none⟩))] ρ ∧ K = K' ∧ L' = Cl b374 31 [.int .i64 xb.1, .int .i64 xb.2.1, .slice adxb_2 xb.2.2.1.length cpxb_2, .slice adxb_3 xb.2.2.2.1.length cpxb_3, .slice adxb_4 xb.2.2.2.2.length cpxb_4] :: Cl b373 24 [.int .i64 xa.1, .int .i64 xa.2.1, .int .i64 xa.2.2.1, .slice adxa_3 xa.2.2.2.1.length cpxa_3, .slice adxa_4 xa.2.2.2.2.1.length cpxa_4, .slice adxa_5 xa.2.2.2.2.2.length cpxa_5] :: F) ?_ ?_
        · skip
          rcases bt ((((decide (20 < (((xa.2.2.2.1.length : Nat) : Int)))) || (decide (20 < (((xa.2.2.2.2.1.length : Nat) : Int))))) || (decide (20 < (((xa.2.2.2.2.2.length : Nat) : Int))))) || (decide (20 < (((xb.2.2.1.length : Nat) : Int))))) with hc386 | hc386
          · skip
            refine J.skip rfl rfl rfl rfl hc386 ?_
            refine J.skip rfl rfl rfl rfl hc386 ?_
            refine J.skip rfl rfl rfl rfl hc386 ?_
            refine J.skip rfl rfl rfl rfl hc386 ?_
            refine J.val (v := .bool true) rfl rfl (V.pickT rfl hc386 rfl) ?_
            refine J.nil ?_
            exact ⟨rfl, ⟨(by simp only [hc386]; rfl), rfl, trivial⟩, rfl, rfl⟩
          · skip
            refine J.run rfl rfl rfl hc386 ?_
            refine J.val rfl rfl (V.fad Try.underlying31 rfl nz29 rfl) ?_
            refine J.run rfl rfl rfl hc386 ?_
            refine J.val (v := .slice adxb_4 xb.2.2.2.2.length cpxb_4) rfl rfl (V.ld rfl (Ld.sc sc29 (Rd.cl 0 rfl rfl))) ?_
            refine J.run rfl rfl rfl hc386 ?_
            refine J.val (v := .int .i64 (((xb.2.2.2.2.length : Nat) : Int))) rfl rfl (V.len Try.underlying29 rfl) ?_
            refine J.run rfl rfl rfl hc386 ?_
            refine J.val (v := .bool (decide (8 < (((xb.2.2.2.2.length : Nat) : Int))))) rfl rfl (V.gtr rfl rfl) ?_
            refine J.val (v := .bool (decide (8 < (((xb.2.2.2.2.length : Nat) : Int))))) rfl rfl (V.pickF rfl hc386 rfl) ?_
            refine J.nil ?_
            exact ⟨rfl, ⟨(by simp only [hc386]; rfl), rfl, trivial⟩, rfl, rfl⟩
        · rintro ρ _ _ ⟨hf, rfl, rfl⟩
          obtain ⟨ρ, rfl⟩ := hf.ex
          refine J.val (v := .bool (((((decide (20 < (((xa.2.2.2.1.length : Nat) : Int)))) || (decide (20 < (((xa.2.2.2.2.1.length : Nat) : Int))))) || (decide (20 < (((xa.2.2.2.2.2.length : Nat) : Int))))) || (decide (20 < (((xb.2.2.1.length : Nat) : Int))))) || (decide (8 < (((xb.2.2.2.2.length : Nat) : Int)))))) rfl rfl (V.mv rfl) ?_
          refine J.cut 5 ?_
          obtain ⟨t394, ht395, h⟩ := ob h
          refine @J.meet _ _ _ _ _ _ _ _ _ _ (fun ρ K' L' => Fits [(40, .bool t394), (3, .pointer (some ⟨b374, 0, none⟩))] ρ ∧ K = K' ∧ L' = Cl b374 31 [.int .i64 xb.1, .int .i64 xb.2.1, .slice adxb_2 xb.2.2.1.length cpxb_2, .slice adxb_3 xb.2.2.2.1.length cpxb_3, .slice adxb_4 xb.2.2.2.2.length cpxb_4] :: Cl b373 24 [.int .i64 xa.1, .int .i64 xa.2.1, .int .i64 xa.2.2.1, .slice adxa_3 xa.2.2.2.1.length cpxa_3, .slice adxa_4 xa.2.2.2.2.1.length cpxa_4, .slice adxa_5 xa.2.2.2.2.2.length cpxa_5] :: F) ?_ ?_
          · skip
            rcases bt (((((decide (20 < (((xa.2.2.2.1.length : Nat) : Int)))) || (decide (20 < (((xa.2.2.2.2.1.length : Nat) : Int))))) || (decide (20 < (((xa.2.2.2.2.2.length : Nat) : Int))))) || (decide (20 < (((xb.2.2.1.length : Nat) : Int))))) || (decide (8 < (((xb.2.2.2.2.length : Nat) : Int))))) with hc396 | hc396
            · have ht395 := ct hc396 ht395
              refine J.skip rfl rfl rfl rfl hc396 ?_
              refine J.skip rfl rfl rfl rfl hc396 ?_
              refine J.skip rfl rfl rfl rfl hc396 ?_
              refine J.skip rfl rfl rfl rfl hc396 ?_
              refine J.val (v := .bool true) rfl rfl (V.pickT rfl hc396 rfl) ?_
              refine J.nil ?_
              have e := Option.some.inj ht395
              subst e
              exact ⟨rfl, ⟨rfl, rfl, trivial⟩, rfl, rfl⟩
            · have ht395 := cf hc396 ht395
              refine J.run rfl rfl rfl hc396 ?_
              refine J.val rfl rfl (V.fad Try.underlying31 rfl nz28 rfl) ?_
              refine J.run rfl rfl rfl hc396 ?_
              refine J.val (v := .agg #[.slice adxb_3 xb.2.2.2.1.length cpxb_3]) rfl rfl (V.ld rfl (Ld.agg (cs := [.slice adxb_3 xb.2.2.2.1.length cpxb_3]) Try.underlying28 sz28 rfl (Rd.cls 0 3 rfl rfl))) ?_
              refine J.run rfl rfl rfl hc396 ?_
              obtain ⟨r397, hr398, ht395⟩ := ob ht395
              refine J.op rfl (A.call (L1 := []) Try.call20 rfl (ref15_Few_ok fxb_3 hr398) rfl rfl) ?_
              rintro _ _ _ ⟨v400, _, rfl, ⟨⟨t399, rfl, rfl, rfl⟩, rfl⟩, _, rfl⟩
              refine J.run rfl rfl rfl hc396 ?_
              refine J.val (v := .bool (!t399)) rfl rfl (V.not rfl) ?_
              refine J.val (v := .bool (!t399)) rfl rfl (V.pickF rfl hc396 rfl) ?_
              refine J.nil ?_
              have e := Option.some.inj ht395
              subst e
              exact ⟨rfl, ⟨rfl, rfl, trivial⟩, rfl, rfl⟩
          · rintro ρ _ _ ⟨hf, rfl, rfl⟩
            obtain ⟨ρ, rfl⟩ := hf.ex
            refine J.nil ?_
            refine CJ.cond rfl (fun hc403 => ?_) (fun hc403 => ?_)
            · have h := ct hc403 h
              refine CJ.seq ?_
              refine CJ.region ?_
              refine J.val (v := .bool false) rfl rfl (V.as rfl) ?_
              refine J.nil ?_
              refine CJ.ret ?_
              have e := Option.some.inj h
              subst e
              exact ⟨_, [], Res.one rfl rfl, ⟨false, rfl, rfl, rfl⟩, (Hp.le_refl _), fun w hs => (Sep.dropAt 0 rfl (Sep.dropAt 0 rfl hs))⟩
            · have h := cf hc403 h
              refine CJ.skip ?_
              refine CJ.seq ?_
              refine CJ.seq ?_
              refine CJ.region ?_
              refine J.val (v := .int .i64 0) rfl rfl (V.as rfl) ?_
              refine J.nil ?_
              obtain ⟨o474, ho475, h⟩ := ob h
              refine CJ.joinN (o := o474) (fun s ρ K' L' => () = s ∧ Fits [(3, .pointer (some ⟨b374, 0, none⟩))] ρ ∧ K = K' ∧ L' = Cl b374 31 [.int .i64 xb.1, .int .i64 xb.2.1, .slice adxb_2 xb.2.2.1.length cpxb_2, .slice adxb_3 xb.2.2.2.1.length cpxb_3, .slice adxb_4 xb.2.2.2.2.length cpxb_4] :: F) ?_ ?_
              · skip
                refine CJ.block ?_
                refine CJ.dropAt 1 rfl ?_
                refine CJ.loop (fun s ρ K' L' => ∃ (i498 : Int), i498 = s ∧ Fits [(3, .pointer (some ⟨b374, 0, none⟩)), (5, .int .i64 i498)] ρ ∧ K = K' ∧ L' = Cl b374 31 [.int .i64 xb.1, .int .i64 xb.2.1, .slice adxb_2 xb.2.2.1.length cpxb_2, .slice adxb_3 xb.2.2.2.1.length cpxb_3, .slice adxb_4 xb.2.2.2.2.length cpxb_4] :: F) ho475 ⟨0, rfl, ⟨rfl, rfl, trivial⟩, rfl, rfl⟩ ?_
                rintro s ρ _ _ r524 ⟨i498, rfl, hf522, rfl, rfl⟩ h521
                obtain ⟨ρ, rfl⟩ := hf522.ex
                refine CJ.seq ?_
                refine CJ.seq ?_
                refine CJ.region ?_
                refine J.val (v := .int .i64 i498) rfl rfl (V.mv rfl) ?_
                refine J.val rfl rfl (V.fad Try.underlying31 rfl nz25 rfl) ?_
                refine J.val (v := .slice adxb_2 xb.2.2.1.length cpxb_2) rfl rfl (V.ld rfl (Ld.sc sc25 (Rd.cl 0 rfl rfl))) ?_
                refine J.val (v := .int .i64 (((xb.2.2.1.length : Nat) : Int))) rfl rfl (V.len Try.underlying25 rfl) ?_
                refine J.val (v := .bool (decide (i498 < (((xb.2.2.1.length : Nat) : Int))))) rfl rfl (V.lss rfl rfl) ?_
                refine J.nil ?_
                refine CJ.cond rfl (fun hc525 => ?_) (fun hc525 => ?_)
                · have h521 := ct hc525 h521
                  refine CJ.skip ?_
                  refine CJ.seq ?_
                  refine CJ.block ?_
                  refine CJ.seq ?_
                  refine CJ.region ?_
                  refine J.val rfl rfl (V.fad Try.underlying31 rfl nz25 rfl) ?_
                  refine J.val (v := .slice adxb_2 xb.2.2.1.length cpxb_2) rfl rfl (V.ld rfl (Ld.sc sc25 (Rd.cl 0 rfl rfl))) ?_
                  refine J.val (v := .int .i64 i498) rfl rfl (V.mv rfl) ?_
                  obtain ⟨x526, hx527, h521⟩ := ob h521
                  obtain ⟨p528, p529, p530⟩ := getI_some hx527
                  obtain ⟨b531, o532, e533, a534⟩ := (fxb_2).at p529
                  refine J.val rfl rfl (V.iad Try.underlying25 sz28 rfl e533 rfl p528 p530) ?_
                  obtain ⟨ad535, cp536, c537, f538⟩ := ((a534).one).sl
                  refine J.val (v := .agg #[.slice ad535 x526.length cp536]) rfl rfl (V.ld rfl (Ld.aggK (cs := [.slice ad535 x526.length cp536]) Try.underlying28 sz28 rfl ⟨c537, trivial⟩ (Hp.le_refl _))) ?_
                  obtain ⟨r539, hr540, h521⟩ := ob h521
                  refine J.op rfl (A.call (L1 := []) Try.call20 rfl (ref15_Few_ok f538 hr540) rfl rfl) ?_
                  rintro _ _ _ ⟨v542, _, rfl, ⟨⟨t541, rfl, rfl, rfl⟩, rfl⟩, _, rfl⟩
                  refine J.val (v := .bool (!t541)) rfl rfl (V.not rfl) ?_
                  refine J.nil ?_
                  refine CJ.cond rfl (fun hc545 => ?_) (fun hc545 => ?_)
                  · have h521 := ct hc545 h521
                    refine CJ.seq ?_
                    refine CJ.region ?_
                    refine J.val (v := .bool false) rfl rfl (V.as rfl) ?_
                    refine J.nil ?_
                    refine CJ.ret ?_
                    have e := Option.some.inj h521
                    subst e
                    refine ⟨nofun, fun e => ?_⟩
                    subst e
                    refine .inr ⟨nofun, ?_⟩
                    have e := Option.some.inj h
                    subst e
                    exact ⟨_, [], Res.one rfl rfl, ⟨false, rfl, rfl, rfl⟩, (Hp.le_refl _), fun w hs => (Sep.dropAt 0 rfl hs)⟩
                  · have h521 := cf hc545 h521
                    refine CJ.skip ?_
                    refine CJ.region ?_
                    refine J.val (v := .int .i64 i498) rfl rfl (V.mv rfl) ?_
                    refine J.val (v := .int .i64 (IntKind.wrap .i64 (i498 + 1))) rfl rfl (V.add rfl rfl) ?_
                    refine J.val (v := .int .i64 (IntKind.wrap .i64 (i498 + 1))) rfl rfl (V.as rfl) ?_
                    refine J.nil ?_
                    have e := Option.some.inj h521
                    subst e
                    exact ⟨rfl, ⟨IntKind.wrap .i64 (i498 + 1), rfl, ⟨rfl, rfl, trivial⟩, rfl, rfl⟩⟩
                · have h521 := cf hc525 h521
                  refine CJ.exit ?_
                  have e := Option.some.inj h521
                  subst e
                  refine ⟨nofun, fun e => ?_⟩
                  subst e
                  exact .inl ⟨rfl, _, rfl, ⟨rfl, ⟨rfl, trivial⟩, rfl, rfl⟩⟩
              · rintro s ρ _ _ ho546 ⟨rfl, hf547, rfl, rfl⟩
                subst ho546
                obtain ⟨ρ, rfl⟩ := hf547.ex
                refine PJ.done ?_
                refine CJ.seq ?_
                refine CJ.seq ?_
                refine CJ.region ?_
                refine J.val (v := .int .i64 0) rfl rfl (V.as rfl) ?_
                refine J.nil ?_
                obtain ⟨o643, ho644, h⟩ := ob h
                refine CJ.joinN (o := o643) (fun s ρ K' L' => () = s ∧ Fits [] ρ ∧ K = K' ∧ F = L') ?_ ?_
                · skip
                  refine CJ.block ?_
                  refine CJ.loop (fun s ρ K' L' => ∃ (i675 : Int), i675 = s ∧ Fits [(3, .pointer (some ⟨b374, 0, none⟩)), (6, .int .i64 i675)] ρ ∧ K = K' ∧ L' = Cl b374 31 [.int .i64 xb.1, .int .i64 xb.2.1, .slice adxb_2 xb.2.2.1.length cpxb_2, .slice adxb_3 xb.2.2.2.1.length cpxb_3, .slice adxb_4 xb.2.2.2.2.length cpxb_4] :: F) ho644 ⟨0, rfl, ⟨rfl, rfl, trivial⟩, rfl, rfl⟩ ?_
                  rintro s ρ _ _ r709 ⟨i675, rfl, hf707, rfl, rfl⟩ h706
                  obtain ⟨ρ, rfl⟩ := hf707.ex
                  refine CJ.seq ?_
                  refine CJ.seq ?_
                  refine CJ.region ?_
                  refine J.val (v := .int .i64 i675) rfl rfl (V.mv rfl) ?_
                  refine J.val rfl rfl (V.fad Try.underlying31 rfl nz29 rfl) ?_
                  refine J.val (v := .slice adxb_4 xb.2.2.2.2.length cpxb_4) rfl rfl (V.ld rfl (Ld.sc sc29 (Rd.cl 0 rfl rfl))) ?_
                  refine J.val (v := .int .i64 (((xb.2.2.2.2.length : Nat) : Int))) rfl rfl (V.len Try.underlying29 rfl) ?_
                  refine J.val (v := .bool (decide (i675 < (((xb.2.2.2.2.length : Nat) : Int))))) rfl rfl (V.lss rfl rfl) ?_
                  refine J.nil ?_
                  refine CJ.cond rfl (fun hc710 => ?_) (fun hc710 => ?_)
                  · have h706 := ct hc710 h706
                    refine CJ.skip ?_
                    refine CJ.seq ?_
                    refine CJ.block ?_
                    refine CJ.seq ?_
                    refine CJ.region ?_
                    refine J.val rfl rfl (V.fad Try.underlying31 rfl nz29 rfl) ?_
                    refine J.val (v := .slice adxb_4 xb.2.2.2.2.length cpxb_4) rfl rfl (V.ld rfl (Ld.sc sc29 (Rd.cl 0 rfl rfl))) ?_
                    refine J.val (v := .int .i64 i675) rfl rfl (V.mv rfl) ?_
                    obtain ⟨x711, hx712, h706⟩ := ob h706
                    obtain ⟨p713, p714, p715⟩ := getI_some hx712
                    obtain ⟨b716, o717, e718, a719⟩ := (fxb_4).at p714
                    refine J.val rfl rfl (V.iad Try.underlying29 sz57 rfl e718 rfl p713 p715) ?_
                    obtain ⟨ad720, cp721, c722, f723⟩ := (((a719).snd).fst).sl
                    obtain ⟨ad724, cp725, c726, f727⟩ := ((((a719).snd).snd).fst).sl
                    obtain ⟨ad728, cp729, c730, f731⟩ := ((((((a719).snd).snd).snd).one).one).sl
                    refine J.val (v := .agg #[.int .i64 x711.1, .slice ad720 x711.2.1.length cp721, .slice ad724 x711.2.2.1.length cp725, .slice ad728 x711.2.2.2.length cp729]) rfl rfl (V.ld rfl (Ld.aggK (cs := [.int .i64 x711.1, .slice ad720 x711.2.1.length cp721, .slice ad724 x711.2.2.1.length cp725, .slice ad728 x711.2.2.2.length cp729]) Try.underlying57 sz57 rfl ⟨((a719).fst).int, c722, c726, c730, trivial⟩ (Hp.le_refl _))) ?_
                    obtain ⟨r732, hr733, h706⟩ := ob h706
                    refine J.op rfl (A.call (L1 := []) Try.call21 rfl (ref17_Few_ok f723 f727 f731 hr733) rfl rfl) ?_
                    rintro _ _ _ ⟨v735, _, rfl, ⟨⟨t734, rfl, rfl, rfl⟩, rfl⟩, _, rfl⟩
                    refine J.val (v := .bool (!t734)) rfl rfl (V.not rfl) ?_
                    refine J.nil ?_
                    refine CJ.cond rfl (fun hc738 => ?_) (fun hc738 => ?_)
                    · have h706 := ct hc738 h706
                      refine CJ.seq ?_
                      refine CJ.region ?_
                      refine J.val (v := .bool false) rfl rfl (V.as rfl) ?_
                      refine J.nil ?_
                      refine CJ.ret ?_
                      have e := Option.some.inj h706
                      subst e
                      refine ⟨nofun, fun e => ?_⟩
                      subst e
                      refine .inr ⟨nofun, ?_⟩
                      have e := Option.some.inj h
                      subst e
                      exact ⟨_, [], Res.one rfl rfl, ⟨false, rfl, rfl, rfl⟩, (Hp.le_refl _), fun w hs => (Sep.dropAt 0 rfl hs)⟩
                    · have h706 := cf hc738 h706
                      refine CJ.skip ?_
                      refine CJ.region ?_
                      refine J.val (v := .int .i64 i675) rfl rfl (V.mv rfl) ?_
                      refine J.val (v := .int .i64 (IntKind.wrap .i64 (i675 + 1))) rfl rfl (V.add rfl rfl) ?_
                      refine J.val (v := .int .i64 (IntKind.wrap .i64 (i675 + 1))) rfl rfl (V.as rfl) ?_
                      refine J.nil ?_
                      have e := Option.some.inj h706
                      subst e
                      exact ⟨rfl, ⟨IntKind.wrap .i64 (i675 + 1), rfl, ⟨rfl, rfl, trivial⟩, rfl, rfl⟩⟩
                  · have h706 := cf hc710 h706
                    refine CJ.dropAt 0 rfl ?_
                    refine CJ.exit ?_
                    have e := Option.some.inj h706
                    subst e
                    refine ⟨nofun, fun e => ?_⟩
                    subst e
                    exact .inl ⟨rfl, _, rfl, ⟨rfl, trivial, rfl, rfl⟩⟩
                · rintro s ρ _ _ ho739 ⟨rfl, hf740, rfl, rfl⟩
                  subst ho739
                  obtain ⟨ρ, rfl⟩ := hf740.ex
                  refine PJ.done ?_
                  refine CJ.seq ?_
                  refine CJ.region ?_
                  refine J.val (v := .bool true) rfl rfl (V.as rfl) ?_
                  refine J.nil ?_
                  refine CJ.ret ?_
                  have e := Option.some.inj h
                  subst e
                  exact ⟨_, [], Res.one rfl rfl, ⟨true, rfl, rfl, rfl⟩, (Hp.le_refl _), fun w hs => hs⟩

noncomputable def fn_term_calls (xa : (Int × Int × Int × (List Int) × (List Int) × (List Int))) : Option Bool :=
  some (((!decide (xa.2.1 = 0)) || (!decide (xa.2.2.1 = 0))) || (decide (0 < (((xa.2.2.2.2.2.length : Nat) : Int)))))
set_option maxRecDepth 100000 in
set_option maxHeartbeats 4000000 in
theorem term_calls_ok {K : Hp} {xa : (Int × Int × Int × (List Int) × (List Int) × (List Int))} {adxa_3 : Option Addr} {cpxa_3 : Nat} {adxa_4 : Option Addr} {cpxa_4 : Nat} {adxa_5 : Option Addr} {cpxa_5 : Nat} (fxa_3 : Is K (.sl (.int .i64)) [.slice adxa_3 xa.2.2.2.1.length cpxa_3] xa.2.2.2.1) (fxa_4 : Is K (.sl (.int .i64)) [.slice adxa_4 xa.2.2.2.2.1.length cpxa_4] xa.2.2.2.2.1) (fxa_5 : Is K (.sl (.int .i64)) [.slice adxa_5 xa.2.2.2.2.2.length cpxa_5] xa.2.2.2.2.2) {r : Bool} (h : fn_term_calls xa = some r) :
    Tr Try.prog 44 #[.agg #[.int .i64 xa.1, .int .i64 xa.2.1, .int .i64 xa.2.2.1, .slice adxa_3 xa.2.2.2.1.length cpxa_3, .slice adxa_4 xa.2.2.2.2.1.length cpxa_4, .slice adxa_5 xa.2.2.2.2.2.length cpxa_5]] K [] (fun v K' L' => (∃ (t8 : Bool), t8 = r ∧ .bool t8 = v ∧ L' = []) ∧ K = K') := by
  refine Tr.k ?_
  refine Tr.of Try.func44 rfl Try.ntmps44 rfl (fun E F => ?_)
  unfold fn_term_calls at h
  refine CJ.seq ?_
  refine CJ.region ?_
  refine J.op rfl (A.box (v := .agg #[.int .i64 xa.1, .int .i64 xa.2.1, .int .i64 xa.2.2.1, .slice adxa_3 xa.2.2.2.1.length cpxa_3, .slice adxa_4 xa.2.2.2.2.1.length cpxa_4, .slice adxa_5 xa.2.2.2.2.2.length cpxa_5]) (cs := [.int .i64 xa.1, .int .i64 xa.2.1, .int .i64 xa.2.2.1, .slice adxa_3 xa.2.2.2.1.length cpxa_3, .slice adxa_4 xa.2.2.2.2.1.length cpxa_4, .slice adxa_5 xa.2.2.2.2.2.length cpxa_5]) rfl rfl) ?_
  rintro _ _ _ ⟨b9, rfl, rfl, rfl⟩
  refine J.val (v := .bool false) rfl rfl (V.as rfl) ?_
  refine J.nil ?_
  refine CJ.seq ?_
  refine CJ.region ?_
  refine J.val rfl rfl (V.fad Try.underlying24 rfl nz3 rfl) ?_
  refine J.val (v := .int .i64 xa.2.1) rfl rfl (V.ld rfl (Ld.sc sc3 (Rd.cl 0 rfl rfl))) ?_
  refine J.val (v := .bool (!decide (xa.2.1 = 0))) rfl rfl (V.neq rfl rfl) ?_
  refine J.val (v := .bool (!decide (xa.2.1 = 0))) rfl rfl (V.mv rfl) ?_
  refine J.cut 4 ?_
  refine @J.meet _ _ _ _ _ _ _ _ _ _ (fun ρ K' L' => Fits [(10, .bool ((!decide (xa.2.1 = 0)) || (!decide (xa.2.2.1 = 0)))), (1, .pointer (some ⟨b9, 0, none⟩))] ρ ∧ K = K' ∧ L' = Cl b9 24 [.int .i64 xa.1, .int .i64 xa.2.1, .int .i64 xa.2.2.1, .slice adxa_3 xa.2.2.2.1.length cpxa_3, .slice adxa_4 xa.2.2.2.2.1.length cpxa_4, .slice adxa_5 xa.2.2.2.2.2.length cpxa_5] :: F) ?_ ?_
  · skip
    rcases bt (!decide (xa.2.1 = 0)) with hc12 | hc12
    · skip
      refine J.skip rfl rfl rfl rfl hc12 ?_
      refine J.skip rfl rfl rfl rfl hc12 ?_
      refine J.skip rfl rfl rfl rfl hc12 ?_
      refine J.val (v := .bool true) rfl rfl (V.pickT rfl hc12 rfl) ?_
      refine J.nil ?_
      exact ⟨rfl, ⟨(by simp only [hc12]; rfl), rfl, trivial⟩, rfl, rfl⟩
    · skip
      refine J.run rfl rfl rfl hc12 ?_
      refine J.val rfl rfl (V.fad Try.underlying24 rfl nz3 rfl) ?_
      refine J.run rfl rfl rfl hc12 ?_
      refine J.val (v := .int .i64 xa.2.2.1) rfl rfl (V.ld rfl (Ld.sc sc3 (Rd.cl 0 rfl rfl))) ?_
      refine J.run rfl rfl rfl hc12 ?_
      refine J.val (v := .bool (!decide (xa.2.2.1 = 0))) rfl rfl (V.neq rfl rfl) ?_
      refine J.val (v := .bool (!decide (xa.2.2.1 = 0))) rfl rfl (V.pickF rfl hc12 rfl) ?_
      refine J.nil ?_
      exact ⟨rfl, ⟨(by simp only [hc12]; rfl), rfl, trivial⟩, rfl, rfl⟩
  · rintro ρ _ _ ⟨hf, rfl, rfl⟩
    obtain ⟨ρ, rfl⟩ := hf.ex
    refine J.val (v := .bool ((!decide (xa.2.1 = 0)) || (!decide (xa.2.2.1 = 0)))) rfl rfl (V.mv rfl) ?_
    refine J.cut 5 ?_
    refine @J.meet _ _ _ _ _ _ _ _ _ _ (fun ρ K' L' => Fits [(16, .bool (((!decide (xa.2.1 = 0)) || (!decide (xa.2.2.1 = 0))) || (decide (0 < (((xa.2.2.2.2.2.length : Nat) : Int))))))] ρ ∧ K = K' ∧ L' = Cl b9 24 [.int .i64 xa.1, .int .i64 xa.2.1, .int .i64 xa.2.2.1, .slice adxa_3 xa.2.2.2.1.length cpxa_3, .slice adxa_4 xa.2.2.2.2.1.length cpxa_4, .slice adxa_5 xa.2.2.2.2.2.length cpxa_5] :: F) ?_ ?_
    · skip
      rcases bt ((!decide (xa.2.1 = 0)) || (!decide (xa.2.2.1 = 0))) with hc15 | hc15
      · skip
        refine J.skip rfl rfl rfl rfl hc15 ?_
        refine J.skip rfl rfl rfl rfl hc15 ?_
        refine J.skip rfl rfl rfl rfl hc15 ?_
        refine J.skip rfl rfl rfl rfl hc15 ?_
        refine J.val (v := .bool true) rfl rfl (V.pickT rfl hc15 rfl) ?_
        refine J.nil ?_
        exact ⟨rfl, ⟨(by simp only [hc15]; rfl), trivial⟩, rfl, rfl⟩
      · skip
        refine J.run rfl rfl rfl hc15 ?_
        refine J.val rfl rfl (V.fad Try.underlying24 rfl nz22 rfl) ?_
        refine J.run rfl rfl rfl hc15 ?_
        refine J.val (v := .slice adxa_5 xa.2.2.2.2.2.length cpxa_5) rfl rfl (V.ld rfl (Ld.sc sc22 (Rd.cl 0 rfl rfl))) ?_
        refine J.run rfl rfl rfl hc15 ?_
        refine J.val (v := .int .i64 (((xa.2.2.2.2.2.length : Nat) : Int))) rfl rfl (V.len Try.underlying22 rfl) ?_
        refine J.run rfl rfl rfl hc15 ?_
        refine J.val (v := .bool (decide (0 < (((xa.2.2.2.2.2.length : Nat) : Int))))) rfl rfl (V.gtr rfl rfl) ?_
        refine J.val (v := .bool (decide (0 < (((xa.2.2.2.2.2.length : Nat) : Int))))) rfl rfl (V.pickF rfl hc15 rfl) ?_
        refine J.nil ?_
        exact ⟨rfl, ⟨(by simp only [hc15]; rfl), trivial⟩, rfl, rfl⟩
    · rintro ρ _ _ ⟨hf, rfl, rfl⟩
      obtain ⟨ρ, rfl⟩ := hf.ex
      refine J.val (v := .bool (((!decide (xa.2.1 = 0)) || (!decide (xa.2.2.1 = 0))) || (decide (0 < (((xa.2.2.2.2.2.length : Nat) : Int)))))) rfl rfl (V.as rfl) ?_
      refine J.nil ?_
      refine CJ.ret ?_
      have e := Option.some.inj h
      subst e
      exact ⟨_, [], Res.one rfl rfl, ⟨((!decide (xa.2.1 = 0)) || (!decide (xa.2.2.1 = 0))) || (decide (0 < (((xa.2.2.2.2.2.length : Nat) : Int)))), rfl, rfl, rfl⟩, (Hp.le_refl _), fun w hs => (Sep.dropAt 0 rfl hs)⟩

noncomputable def fn_term_form (xa : (Int × Int × Int × (List Int) × (List Int) × (List Int))) : Option Int :=
  (cond (decide (xa.1 = 1)) ((cond ((decide ((((xa.2.2.2.1.length : Nat) : Int)) = 1)) && (decide ((((xa.2.2.2.2.1.length : Nat) : Int)) = 0))) ((fn_term_calls (xa.1, xa.2.1, xa.2.2.1, xa.2.2.2.1, xa.2.2.2.2.1, xa.2.2.2.2.2)).bind fun t213 => some (!t213)) (some (false))).bind fun t208 => some (t208)) (cond (decide (xa.1 = 2)) ((cond (decide (0 < (((xa.2.2.2.1.length : Nat) : Int)))) ((fn_term_calls (xa.1, xa.2.1, xa.2.2.1, xa.2.2.2.1, xa.2.2.2.2.1, xa.2.2.2.2.2)).bind fun t230 => some (!t230)) (some (false))).bind fun t225 => some (t225)) (cond (decide (xa.1 = 3)) ((cond ((decide ((((xa.2.2.2.1.length : Nat) : Int)) = 0)) && (decide ((((xa.2.2.2.2.1.length : Nat) : Int)) = 0))) ((fn_term_calls (xa.1, xa.2.1, xa.2.2.1, xa.2.2.2.1, xa.2.2.2.2.1, xa.2.2.2.2.2)).bind fun t250 => some (!t250)) (some (false))).bind fun t245 => some (t245)) (cond (decide (xa.1 = 4)) (some (decide ((((xa.2.2.2.1.length : Nat) : Int)) = 1))) (some (false))))) : Option Bool).bind fun t194 => cond (!t194) (some (3)) (cond (((decide (16 < (((xa.2.2.2.1.length : Nat) : Int)))) || (decide (16 < (((xa.2.2.2.2.1.length : Nat) : Int))))) || (decide (16 < (((xa.2.2.2.2.2.length : Nat) : Int))))) (some (6)) (some (0)))
set_option maxRecDepth 100000 in
set_option maxHeartbeats 4000000 in
theorem term_form_ok {K : Hp} {xa : (Int × Int × Int × (List Int) × (List Int) × (List Int))} {adxa_3 : Option Addr} {cpxa_3 : Nat} {adxa_4 : Option Addr} {cpxa_4 : Nat} {adxa_5 : Option Addr} {cpxa_5 : Nat} (fxa_3 : Is K (.sl (.int .i64)) [.slice adxa_3 xa.2.2.2.1.length cpxa_3] xa.2.2.2.1) (fxa_4 : Is K (.sl (.int .i64)) [.slice adxa_4 xa.2.2.2.2.1.length cpxa_4] xa.2.2.2.2.1) (fxa_5 : Is K (.sl (.int .i64)) [.slice adxa_5 xa.2.2.2.2.2.length cpxa_5] xa.2.2.2.2.2) {r : Int} (h : fn_term_form xa = some r) :
    Tr Try.prog 22 #[.agg #[.int .i64 xa.1, .int .i64 xa.2.1, .int .i64 xa.2.2.1, .slice adxa_3 xa.2.2.2.1.length cpxa_3, .slice adxa_4 xa.2.2.2.2.1.length cpxa_4, .slice adxa_5 xa.2.2.2.2.2.length cpxa_5]] K [] (fun v K' L' => (∃ (i134 : Int), i134 = r ∧ .int .i64 i134 = v ∧ L' = []) ∧ K = K') := by
  refine Tr.k ?_
  refine Tr.of Try.func22 rfl Try.ntmps22 rfl (fun E F => ?_)
  unfold fn_term_form at h
  refine CJ.seq ?_
  refine CJ.region ?_
  refine J.op rfl (A.box (v := .agg #[.int .i64 xa.1, .int .i64 xa.2.1, .int .i64 xa.2.2.1, .slice adxa_3 xa.2.2.2.1.length cpxa_3, .slice adxa_4 xa.2.2.2.2.1.length cpxa_4, .slice adxa_5 xa.2.2.2.2.2.length cpxa_5]) (cs := [.int .i64 xa.1, .int .i64 xa.2.1, .int .i64 xa.2.2.1, .slice adxa_3 xa.2.2.2.1.length cpxa_3, .slice adxa_4 xa.2.2.2.2.1.length cpxa_4, .slice adxa_5 xa.2.2.2.2.2.length cpxa_5]) rfl rfl) ?_
  rintro _ _ _ ⟨b135, rfl, rfl, rfl⟩
  refine J.val (v := .int .i64 0) rfl rfl (V.as rfl) ?_
  refine J.nil ?_
  refine CJ.seq ?_
  refine CJ.region ?_
  refine J.val (v := .bool false) rfl rfl (V.as rfl) ?_
  refine J.nil ?_
  refine CJ.seq ?_
  obtain ⟨o195, ho196, h⟩ := ob h
  refine CJ.meetN (fun ρ K' L' => ∃ (t194 : Bool), t194 = o195 ∧ Fits [(1, .pointer (some ⟨b135, 0, none⟩)), (3, .bool t194)] ρ ∧ K = K' ∧ L' = Cl b135 24 [.int .i64 xa.1, .int .i64 xa.2.1, .int .i64 xa.2.2.1, .slice adxa_3 xa.2.2.2.1.length cpxa_3, .slice adxa_4 xa.2.2.2.2.1.length cpxa_4, .slice adxa_5 xa.2.2.2.2.2.length cpxa_5] :: F) ?_ ?_
  · skip
    refine CJ.seq ?_
    refine CJ.region ?_
    refine J.val rfl rfl (V.fad Try.underlying24 rfl nz3 rfl) ?_
    refine J.val (v := .int .i64 xa.1) rfl rfl (V.ld rfl (Ld.sc sc3 (Rd.cl 0 rfl rfl))) ?_
    refine J.nil ?_
    refine CJ.block ?_
    refine CJ.seq ?_
    refine CJ.region ?_
    refine J.val (v := .bool (decide (xa.1 = 1))) rfl rfl (V.eql rfl rfl) ?_
    refine J.val (v := .bool (decide (xa.1 = 1))) rfl rfl (V.as rfl) ?_
    refine J.nil ?_
    refine CJ.cond rfl (fun hc197 => ?_) (fun hc197 => ?_)
    · have ho196 := ct hc197 ho196
      refine CJ.region ?_
      refine J.val rfl rfl (V.fad Try.underlying24 rfl nz22 rfl) ?_
      refine J.val (v := .slice adxa_3 xa.2.2.2.1.length cpxa_3) rfl rfl (V.ld rfl (Ld.sc sc22 (Rd.cl 0 rfl rfl))) ?_
      refine J.val (v := .int .i64 (((xa.2.2.2.1.length : Nat) : Int))) rfl rfl (V.len Try.underlying22 rfl) ?_
      refine J.val (v := .bool (decide ((((xa.2.2.2.1.length : Nat) : Int)) = 1))) rfl rfl (V.eql rfl rfl) ?_
      refine J.val (v := .bool (decide ((((xa.2.2.2.1.length : Nat) : Int)) = 1))) rfl rfl (V.mv rfl) ?_
      refine J.cut 5 ?_
      refine @J.meet _ _ _ _ _ _ _ _ _ _ (fun ρ K' L' => Fits [(17, .bool ((decide ((((xa.2.2.2.1.length : Nat) : Int)) = 1)) && (decide ((((xa.2.2.2.2.1.length : Nat) : Int)) = 0)))), (1, .pointer (some ⟨b135, 0, none⟩))] ρ ∧ K = K' ∧ L' = Cl b135 24 [.int .i64 xa.1, .int .i64 xa.2.1, .int .i64 xa.2.2.1, .slice adxa_3 xa.2.2.2.1.length cpxa_3, .slice adxa_4 xa.2.2.2.2.1.length cpxa_4, .slice adxa_5 xa.2.2.2.2.2.length cpxa_5] :: F) ?_ ?_
      · skip
        rcases bt (decide ((((xa.2.2.2.1.length : Nat) : Int)) = 1)) with hc200 | hc200
        · skip
          refine J.run rfl rfl rfl hc200 ?_
          refine J.val rfl rfl (V.fad Try.underlying24 rfl nz22 rfl) ?_
          refine J.run rfl rfl rfl hc200 ?_
          refine J.val (v := .slice adxa_4 xa.2.2.2.2.1.length cpxa_4) rfl rfl (V.ld rfl (Ld.sc sc22 (Rd.cl 0 rfl rfl))) ?_
          refine J.run rfl rfl rfl hc200 ?_
          refine J.val (v := .int .i64 (((xa.2.2.2.2.1.length : Nat) : Int))) rfl rfl (V.len Try.underlying22 rfl) ?_
          refine J.run rfl rfl rfl hc200 ?_
          refine J.val (v := .bool (decide ((((xa.2.2.2.2.1.length : Nat) : Int)) = 0))) rfl rfl (V.eql rfl rfl) ?_
          refine J.val (v := .bool (decide ((((xa.2.2.2.2.1.length : Nat) : Int)) = 0))) rfl rfl (V.pickT rfl hc200 rfl) ?_
          refine J.nil ?_
          exact ⟨rfl, ⟨(by simp only [hc200]; rfl), rfl, trivial⟩, rfl, rfl⟩
        · skip
          refine J.skip rfl rfl rfl rfl hc200 ?_
          refine J.skip rfl rfl rfl rfl hc200 ?_
          refine J.skip rfl rfl rfl rfl hc200 ?_
          refine J.skip rfl rfl rfl rfl hc200 ?_
          refine J.val (v := .bool false) rfl rfl (V.pickF rfl hc200 rfl) ?_
          refine J.nil ?_
          exact ⟨rfl, ⟨(by simp only [hc200]; rfl), rfl, trivial⟩, rfl, rfl⟩
      · rintro ρ _ _ ⟨hf, rfl, rfl⟩
        obtain ⟨ρ, rfl⟩ := hf.ex
        refine J.val (v := .bool ((decide ((((xa.2.2.2.1.length : Nat) : Int)) = 1)) && (decide ((((xa.2.2.2.2.1.length : Nat) : Int)) = 0)))) rfl rfl (V.mv rfl) ?_
        refine J.cut 4 ?_
        obtain ⟨t208, ht209, ho196⟩ := ob ho196
        refine @J.meet _ _ _ _ _ _ _ _ _ _ (fun ρ K' L' => Fits [(22, .bool t208), (1, .pointer (some ⟨b135, 0, none⟩))] ρ ∧ K = K' ∧ L' = Cl b135 24 [.int .i64 xa.1, .int .i64 xa.2.1, .int .i64 xa.2.2.1, .slice adxa_3 xa.2.2.2.1.length cpxa_3, .slice adxa_4 xa.2.2.2.2.1.length cpxa_4, .slice adxa_5 xa.2.2.2.2.2.length cpxa_5] :: F) ?_ ?_
        · skip
          rcases bt ((decide ((((xa.2.2.2.1.length : Nat) : Int)) = 1)) && (decide ((((xa.2.2.2.2.1.length : Nat) : Int)) = 0))) with hc210 | hc210
          · have ht209 := ct hc210 ht209
            refine J.run rfl rfl rfl hc210 ?_
            refine J.val (v := .agg #[.int .i64 xa.1, .int .i64 xa.2.1, .int .i64 xa.2.2.1, .slice adxa_3 xa.2.2.2.1.length cpxa_3, .slice adxa_4 xa.2.2.2.2.1.length cpxa_4, .slice adxa_5 xa.2.2.2.2.2.length cpxa_5]) rfl rfl (V.ld rfl (Ld.agg (cs := [.int .i64 xa.1, .int .i64 xa.2.1, .int .i64 xa.2.2.1, .slice adxa_3 xa.2.2.2.1.length cpxa_3, .slice adxa_4 xa.2.2.2.2.1.length cpxa_4, .slice adxa_5 xa.2.2.2.2.2.length cpxa_5]) Try.underlying24 sz24 rfl (Rd.cls 0 0 rfl rfl))) ?_
            refine J.run rfl rfl rfl hc210 ?_
            obtain ⟨r211, hr212, ht209⟩ := ob ht209
            refine J.op rfl (A.call (L1 := []) Try.call44 rfl (term_calls_ok fxa_3 fxa_4 fxa_5 hr212) rfl rfl) ?_
            rintro _ _ _ ⟨v214, _, rfl, ⟨⟨t213, rfl, rfl, rfl⟩, rfl⟩, _, rfl⟩
            refine J.run rfl rfl rfl hc210 ?_
            refine J.val (v := .bool (!t213)) rfl rfl (V.not rfl) ?_
            refine J.val (v := .bool (!t213)) rfl rfl (V.pickT rfl hc210 rfl) ?_
            refine J.nil ?_
            have e := Option.some.inj ht209
            subst e
            exact ⟨rfl, ⟨rfl, rfl, trivial⟩, rfl, rfl⟩
          · have ht209 := cf hc210 ht209
            refine J.skip rfl rfl rfl rfl hc210 ?_
            refine J.skip rfl rfl rfl rfl hc210 ?_
            refine J.skip rfl rfl rfl rfl hc210 ?_
            refine J.val (v := .bool false) rfl rfl (V.pickF rfl hc210 rfl) ?_
            refine J.nil ?_
            have e := Option.some.inj ht209
            subst e
            exact ⟨rfl, ⟨rfl, rfl, trivial⟩, rfl, rfl⟩
        · rintro ρ _ _ ⟨hf, rfl, rfl⟩
          obtain ⟨ρ, rfl⟩ := hf.ex
          refine J.val (v := .bool t208) rfl rfl (V.as rfl) ?_
          refine J.nil ?_
          have e := Option.some.inj ho196
          subst e
          exact ⟨rfl, ⟨t208, rfl, ⟨rfl, rfl, trivial⟩, rfl, rfl⟩⟩
    · have ho196 := cf hc197 ho196
      refine CJ.seq ?_
      refine CJ.region ?_
      refine J.val (v := .bool (decide (xa.1 = 2))) rfl rfl (V.eql rfl rfl) ?_
      refine J.val (v := .bool (decide (xa.1 = 2))) rfl rfl (V.as rfl) ?_
      refine J.nil ?_
      refine CJ.cond rfl (fun hc217 => ?_) (fun hc217 => ?_)
      · have ho196 := ct hc217 ho196
        refine CJ.region ?_
        refine J.val rfl rfl (V.fad Try.underlying24 rfl nz22 rfl) ?_
        refine J.val (v := .slice adxa_3 xa.2.2.2.1.length cpxa_3) rfl rfl (V.ld rfl (Ld.sc sc22 (Rd.cl 0 rfl rfl))) ?_
        refine J.val (v := .int .i64 (((xa.2.2.2.1.length : Nat) : Int))) rfl rfl (V.len Try.underlying22 rfl) ?_
        refine J.val (v := .bool (decide (0 < (((xa.2.2.2.1.length : Nat) : Int))))) rfl rfl (V.gtr rfl rfl) ?_
        refine J.val (v := .bool (decide (0 < (((xa.2.2.2.1.length : Nat) : Int))))) rfl rfl (V.mv rfl) ?_
        refine J.cut 4 ?_
        obtain ⟨t225, ht226, ho196⟩ := ob ho196
        refine @J.meet _ _ _ _ _ _ _ _ _ _ (fun ρ K' L' => Fits [(33, .bool t225), (1, .pointer (some ⟨b135, 0, none⟩))] ρ ∧ K = K' ∧ L' = Cl b135 24 [.int .i64 xa.1, .int .i64 xa.2.1, .int .i64 xa.2.2.1, .slice adxa_3 xa.2.2.2.1.length cpxa_3, .slice adxa_4 xa.2.2.2.2.1.length cpxa_4, .slice adxa_5 xa.2.2.2.2.2.length cpxa_5] :: F) ?_ ?_
        · skip
          rcases bt (decide (0 < (((xa.2.2.2.1.length : Nat) : Int)))) with hc227 | hc227
          · have ht226 := ct hc227 ht226
            refine J.run rfl rfl rfl hc227 ?_
            refine J.val (v := .agg #[.int .i64 xa.1, .int .i64 xa.2.1, .int .i64 xa.2.2.1, .slice adxa_3 xa.2.2.2.1.length cpxa_3, .slice adxa_4 xa.2.2.2.2.1.length cpxa_4, .slice adxa_5 xa.2.2.2.2.2.length cpxa_5]) rfl rfl (V.ld rfl (Ld.agg (cs := [.int .i64 xa.1, .int .i64 xa.2.1, .int .i64 xa.2.2.1, .slice adxa_3 xa.2.2.2.1.length cpxa_3, .slice adxa_4 xa.2.2.2.2.1.length cpxa_4, .slice adxa_5 xa.2.2.2.2.2.length cpxa_5]) Try.underlying24 sz24 rfl (Rd.cls 0 0 rfl rfl))) ?_
            refine J.run rfl rfl rfl hc227 ?_
            obtain ⟨r228, hr229, ht226⟩ := ob ht226
            refine J.op rfl (A.call (L1 := []) Try.call44 rfl (term_calls_ok fxa_3 fxa_4 fxa_5 hr229) rfl rfl) ?_
            rintro _ _ _ ⟨v231, _, rfl, ⟨⟨t230, rfl, rfl, rfl⟩, rfl⟩, _, rfl⟩
            refine J.run rfl rfl rfl hc227 ?_
            refine J.val (v := .bool (!t230)) rfl rfl (V.not rfl) ?_
            refine J.val (v := .bool (!t230)) rfl rfl (V.pickT rfl hc227 rfl) ?_
            refine J.nil ?_
            have e := Option.some.inj ht226
            subst e
            exact ⟨rfl, ⟨rfl, rfl, trivial⟩, rfl, rfl⟩
          · have ht226 := cf hc227 ht226
            refine J.skip rfl rfl rfl rfl hc227 ?_
            refine J.skip rfl rfl rfl rfl hc227 ?_
            refine J.skip rfl rfl rfl rfl hc227 ?_
            refine J.val (v := .bool false) rfl rfl (V.pickF rfl hc227 rfl) ?_
            refine J.nil ?_
            have e := Option.some.inj ht226
            subst e
            exact ⟨rfl, ⟨rfl, rfl, trivial⟩, rfl, rfl⟩
        · rintro ρ _ _ ⟨hf, rfl, rfl⟩
          obtain ⟨ρ, rfl⟩ := hf.ex
          refine J.val (v := .bool t225) rfl rfl (V.as rfl) ?_
          refine J.nil ?_
          have e := Option.some.inj ho196
          subst e
          exact ⟨rfl, ⟨t225, rfl, ⟨rfl, rfl, trivial⟩, rfl, rfl⟩⟩
      · have ho196 := cf hc217 ho196
        refine CJ.seq ?_
        refine CJ.region ?_
        refine J.val (v := .bool (decide (xa.1 = 3))) rfl rfl (V.eql rfl rfl) ?_
        refine J.val (v := .bool (decide (xa.1 = 3))) rfl rfl (V.as rfl) ?_
        refine J.nil ?_
        refine CJ.cond rfl (fun hc234 => ?_) (fun hc234 => ?_)
        · have ho196 := ct hc234 ho196
          refine CJ.region ?_
          refine J.val rfl rfl (V.fad Try.underlying24 rfl nz22 rfl) ?_
          refine J.val (v := .slice adxa_3 xa.2.2.2.1.length cpxa_3) rfl rfl (V.ld rfl (Ld.sc sc22 (Rd.cl 0 rfl rfl))) ?_
          refine J.val (v := .int .i64 (((xa.2.2.2.1.length : Nat) : Int))) rfl rfl (V.len Try.underlying22 rfl) ?_
          refine J.val (v := .bool (decide ((((xa.2.2.2.1.length : Nat) : Int)) = 0))) rfl rfl (V.eql rfl rfl) ?_
          refine J.val (v := .bool (decide ((((xa.2.2.2.1.length : Nat) : Int)) = 0))) rfl rfl (V.mv rfl) ?_
          refine J.cut 5 ?_
          refine @J.meet _ _ _ _ _ _ _ _ _ _ (fun ρ K' L' => Fits [(45, .bool ((decide ((((xa.2.2.2.1.length : Nat) : Int)) = 0)) && (decide ((((xa.2.2.2.2.1.length : Nat) : Int)) = 0)))), (1, .pointer (some ⟨b135, 0, none⟩))] ρ ∧ K = K' ∧ L' = Cl b135 24 [.int .i64 xa.1, .int .i64 xa.2.1, .int .i64 xa.2.2.1, .slice adxa_3 xa.2.2.2.1.length cpxa_3, .slice adxa_4 xa.2.2.2.2.1.length cpxa_4, .slice adxa_5 xa.2.2.2.2.2.length cpxa_5] :: F) ?_ ?_
          · skip
            rcases bt (decide ((((xa.2.2.2.1.length : Nat) : Int)) = 0)) with hc237 | hc237
            · skip
              refine J.run rfl rfl rfl hc237 ?_
              refine J.val rfl rfl (V.fad Try.underlying24 rfl nz22 rfl) ?_
              refine J.run rfl rfl rfl hc237 ?_
              refine J.val (v := .slice adxa_4 xa.2.2.2.2.1.length cpxa_4) rfl rfl (V.ld rfl (Ld.sc sc22 (Rd.cl 0 rfl rfl))) ?_
              refine J.run rfl rfl rfl hc237 ?_
              refine J.val (v := .int .i64 (((xa.2.2.2.2.1.length : Nat) : Int))) rfl rfl (V.len Try.underlying22 rfl) ?_
              refine J.run rfl rfl rfl hc237 ?_
              refine J.val (v := .bool (decide ((((xa.2.2.2.2.1.length : Nat) : Int)) = 0))) rfl rfl (V.eql rfl rfl) ?_
              refine J.val (v := .bool (decide ((((xa.2.2.2.2.1.length : Nat) : Int)) = 0))) rfl rfl (V.pickT rfl hc237 rfl) ?_
              refine J.nil ?_
              exact ⟨rfl, ⟨(by simp only [hc237]; rfl), rfl, trivial⟩, rfl, rfl⟩
            · skip
              refine J.skip rfl rfl rfl rfl hc237 ?_
              refine J.skip rfl rfl rfl rfl hc237 ?_
              refine J.skip rfl rfl rfl rfl hc237 ?_
              refine J.skip rfl rfl rfl rfl hc237 ?_
              refine J.val (v := .bool false) rfl rfl (V.pickF rfl hc237 rfl) ?_
              refine J.nil ?_
              exact ⟨rfl, ⟨(by simp only [hc237]; rfl), rfl, trivial⟩, rfl, rfl⟩
          · rintro ρ _ _ ⟨hf, rfl, rfl⟩
            obtain ⟨ρ, rfl⟩ := hf.ex
            refine J.val (v := .bool ((decide ((((xa.2.2.2.1.length : Nat) : Int)) = 0)) && (decide ((((xa.2.2.2.2.1.length : Nat) : Int)) = 0)))) rfl rfl (V.mv rfl) ?_
            refine J.cut 4 ?_
            obtain ⟨t245, ht246, ho196⟩ := ob ho196
            refine @J.meet _ _ _ _ _ _ _ _ _ _ (fun ρ K' L' => Fits [(50, .bool t245), (1, .pointer (some ⟨b135, 0, none⟩))] ρ ∧ K = K' ∧ L' = Cl b135 24 [.int .i64 xa.1, .int .i64 xa.2.1, .int .i64 xa.2.2.1, .slice adxa_3 xa.2.2.2.1.length cpxa_3, .slice adxa_4 xa.2.2.2.2.1.length cpxa_4, .slice adxa_5 xa.2.2.2.2.2.length cpxa_5] :: F) ?_ ?_
            · skip
              rcases bt ((decide ((((xa.2.2.2.1.length : Nat) : Int)) = 0)) && (decide ((((xa.2.2.2.2.1.length : Nat) : Int)) = 0))) with hc247 | hc247
              · have ht246 := ct hc247 ht246
                refine J.run rfl rfl rfl hc247 ?_
                refine J.val (v := .agg #[.int .i64 xa.1, .int .i64 xa.2.1, .int .i64 xa.2.2.1, .slice adxa_3 xa.2.2.2.1.length cpxa_3, .slice adxa_4 xa.2.2.2.2.1.length cpxa_4, .slice adxa_5 xa.2.2.2.2.2.length cpxa_5]) rfl rfl (V.ld rfl (Ld.agg (cs := [.int .i64 xa.1, .int .i64 xa.2.1, .int .i64 xa.2.2.1, .slice adxa_3 xa.2.2.2.1.length cpxa_3, .slice adxa_4 xa.2.2.2.2.1.length cpxa_4, .slice adxa_5 xa.2.2.2.2.2.length cpxa_5]) Try.underlying24 sz24 rfl (Rd.cls 0 0 rfl rfl))) ?_
                refine J.run rfl rfl rfl hc247 ?_
                obtain ⟨r248, hr249, ht246⟩ := ob ht246
                refine J.op rfl (A.call (L1 := []) Try.call44 rfl (term_calls_ok fxa_3 fxa_4 fxa_5 hr249) rfl rfl) ?_
                rintro _ _ _ ⟨v251, _, rfl, ⟨⟨t250, rfl, rfl, rfl⟩, rfl⟩, _, rfl⟩
                refine J.run rfl rfl rfl hc247 ?_
                refine J.val (v := .bool (!t250)) rfl rfl (V.not rfl) ?_
                refine J.val (v := .bool (!t250)) rfl rfl (V.pickT rfl hc247 rfl) ?_
                refine J.nil ?_
                have e := Option.some.inj ht246
                subst e
                exact ⟨rfl, ⟨rfl, rfl, trivial⟩, rfl, rfl⟩
              · have ht246 := cf hc247 ht246
                refine J.skip rfl rfl rfl rfl hc247 ?_
                refine J.skip rfl rfl rfl rfl hc247 ?_
                refine J.skip rfl rfl rfl rfl hc247 ?_
                refine J.val (v := .bool false) rfl rfl (V.pickF rfl hc247 rfl) ?_
                refine J.nil ?_
                have e := Option.some.inj ht246
                subst e
                exact ⟨rfl, ⟨rfl, rfl, trivial⟩, rfl, rfl⟩
            · rintro ρ _ _ ⟨hf, rfl, rfl⟩
              obtain ⟨ρ, rfl⟩ := hf.ex
              refine J.val (v := .bool t245) rfl rfl (V.as rfl) ?_
              refine J.nil ?_
              have e := Option.some.inj ho196
              subst e
              exact ⟨rfl, ⟨t245, rfl, ⟨rfl, rfl, trivial⟩, rfl, rfl⟩⟩
        · have ho196 := cf hc234 ho196
          refine CJ.seq ?_
          refine CJ.region ?_
          refine J.val (v := .bool (decide (xa.1 = 4))) rfl rfl (V.eql rfl rfl) ?_
          refine J.val (v := .bool (decide (xa.1 = 4))) rfl rfl (V.as rfl) ?_
          refine J.nil ?_
          refine CJ.cond rfl (fun hc254 => ?_) (fun hc254 => ?_)
          · have ho196 := ct hc254 ho196
            refine CJ.region ?_
            refine J.val rfl rfl (V.fad Try.underlying24 rfl nz22 rfl) ?_
            refine J.val (v := .slice adxa_3 xa.2.2.2.1.length cpxa_3) rfl rfl (V.ld rfl (Ld.sc sc22 (Rd.cl 0 rfl rfl))) ?_
            refine J.val (v := .int .i64 (((xa.2.2.2.1.length : Nat) : Int))) rfl rfl (V.len Try.underlying22 rfl) ?_
            refine J.val (v := .bool (decide ((((xa.2.2.2.1.length : Nat) : Int)) = 1))) rfl rfl (V.eql rfl rfl) ?_
            refine J.val (v := .bool (decide ((((xa.2.2.2.1.length : Nat) : Int)) = 1))) rfl rfl (V.as rfl) ?_
            refine J.nil ?_
            have e := Option.some.inj ho196
            subst e
            exact ⟨rfl, ⟨decide ((((xa.2.2.2.1.length : Nat) : Int)) = 1), rfl, ⟨rfl, rfl, trivial⟩, rfl, rfl⟩⟩
          · have ho196 := cf hc254 ho196
            refine CJ.skip ?_
            have e := Option.some.inj ho196
            subst e
            exact ⟨rfl, ⟨false, rfl, ⟨rfl, rfl, trivial⟩, rfl, rfl⟩⟩
  · rintro ρ _ _ ⟨t194, rfl, hf255, rfl, rfl⟩
    obtain ⟨ρ, rfl⟩ := hf255.ex
    refine PJ.done ?_
    refine CJ.seq ?_
    refine CJ.seq ?_
    refine CJ.region ?_
    refine J.val (v := .bool t194) rfl rfl (V.mv rfl) ?_
    refine J.val (v := .bool (!t194)) rfl rfl (V.not rfl) ?_
    refine J.nil ?_
    refine CJ.cond rfl (fun hc257 => ?_) (fun hc257 => ?_)
    · have h := ct hc257 h
      refine CJ.seq ?_
      refine CJ.region ?_
      refine J.val (v := .int .i64 3) rfl rfl (V.as rfl) ?_
      refine J.nil ?_
      refine CJ.ret ?_
      have e := Option.some.inj h
      subst e
      exact ⟨_, [], Res.one rfl rfl, ⟨3, rfl, rfl, rfl⟩, (Hp.le_refl _), fun w hs => (Sep.dropAt 0 rfl hs)⟩
    · have h := cf hc257 h
      refine CJ.skip ?_
      refine CJ.seq ?_
      refine CJ.seq ?_
      refine CJ.region ?_
      refine J.val rfl rfl (V.fad Try.underlying24 rfl nz22 rfl) ?_
      refine J.val (v := .slice adxa_3 xa.2.2.2.1.length cpxa_3) rfl rfl (V.ld rfl (Ld.sc sc22 (Rd.cl 0 rfl rfl))) ?_
      refine J.val (v := .int .i64 (((xa.2.2.2.1.length : Nat) : Int))) rfl rfl (V.len Try.underlying22 rfl) ?_
      refine J.val (v := .bool (decide (16 < (((xa.2.2.2.1.length : Nat) : Int))))) rfl rfl (V.gtr rfl rfl) ?_
      refine J.val (v := .bool (decide (16 < (((xa.2.2.2.1.length : Nat) : Int))))) rfl rfl (V.mv rfl) ?_
      refine J.cut 5 ?_
      refine @J.meet _ _ _ _ _ _ _ _ _ _ (fun ρ K' L' => Fits [(68, .bool ((decide (16 < (((xa.2.2.2.1.length : Nat) : Int)))) || (decide (16 < (((xa.2.2.2.2.1.length : Nat) : Int)))))), (1, .pointer (some ⟨b135, 0, none⟩))] ρ ∧ K = K' ∧ L' = Cl b135 24 [.int .i64 xa.1, .int .i64 xa.2.1, .int .i64 xa.2.2.1, .slice adxa_3 xa.2.2.2.1.length cpxa_3, .slice adxa_4 xa.2.2.2.2.1.length cpxa_4, .slice adxa_5 xa.2.2.2.2.2.length cpxa_5] :: F) ?_ ?_
      · skip
        rcases bt (decide (16 < (((xa.2.2.2.1.length : Nat) : Int)))) with hc260 | hc260
        · skip
          refine J.skip rfl rfl rfl rfl hc260 ?_
          refine J.skip rfl rfl rfl rfl hc260 ?_
          refine J.skip rfl rfl rfl rfl hc260 ?_
          refine J.skip rfl rfl rfl rfl hc260 ?_
          refine J.val (v := .bool true) rfl rfl (V.pickT rfl hc260 rfl) ?_
          refine J.nil ?_
          exact ⟨rfl, ⟨(by simp only [hc260]; rfl), rfl, trivial⟩, rfl, rfl⟩
        · skip
          refine J.run rfl rfl rfl hc260 ?_
          refine J.val rfl rfl (V.fad Try.underlying24 rfl nz22 rfl) ?_
          refine J.run rfl rfl rfl hc260 ?_
          refine J.val (v := .slice adxa_4 xa.2.2.2.2.1.length cpxa_4) rfl rfl (V.ld rfl (Ld.sc sc22 (Rd.cl 0 rfl rfl))) ?_
          refine J.run rfl rfl rfl hc260 ?_
          refine J.val (v := .int .i64 (((xa.2.2.2.2.1.length : Nat) : Int))) rfl rfl (V.len Try.underlying22 rfl) ?_
          refine J.run rfl rfl rfl hc260 ?_
          refine J.val (v := .bool (decide (16 < (((xa.2.2.2.2.1.length : Nat) : Int))))) rfl rfl (V.gtr rfl rfl) ?_
          refine J.val (v := .bool (decide (16 < (((xa.2.2.2.2.1.length : Nat) : Int))))) rfl rfl (V.pickF rfl hc260 rfl) ?_
          refine J.nil ?_
          exact ⟨rfl, ⟨(by simp only [hc260]; rfl), rfl, trivial⟩, rfl, rfl⟩
      · rintro ρ _ _ ⟨hf, rfl, rfl⟩
        obtain ⟨ρ, rfl⟩ := hf.ex
        refine J.val (v := .bool ((decide (16 < (((xa.2.2.2.1.length : Nat) : Int)))) || (decide (16 < (((xa.2.2.2.2.1.length : Nat) : Int)))))) rfl rfl (V.mv rfl) ?_
        refine J.cut 5 ?_
        refine @J.meet _ _ _ _ _ _ _ _ _ _ (fun ρ K' L' => Fits [(74, .bool (((decide (16 < (((xa.2.2.2.1.length : Nat) : Int)))) || (decide (16 < (((xa.2.2.2.2.1.length : Nat) : Int))))) || (decide (16 < (((xa.2.2.2.2.2.length : Nat) : Int))))))] ρ ∧ K = K' ∧ L' = Cl b135 24 [.int .i64 xa.1, .int .i64 xa.2.1, .int .i64 xa.2.2.1, .slice adxa_3 xa.2.2.2.1.length cpxa_3, .slice adxa_4 xa.2.2.2.2.1.length cpxa_4, .slice adxa_5 xa.2.2.2.2.2.length cpxa_5] :: F) ?_ ?_
        · skip
          rcases bt ((decide (16 < (((xa.2.2.2.1.length : Nat) : Int)))) || (decide (16 < (((xa.2.2.2.2.1.length : Nat) : Int))))) with hc263 | hc263
          · skip
            refine J.skip rfl rfl rfl rfl hc263 ?_
            refine J.skip rfl rfl rfl rfl hc263 ?_
            refine J.skip rfl rfl rfl rfl hc263 ?_
            refine J.skip rfl rfl rfl rfl hc263 ?_
            refine J.val (v := .bool true) rfl rfl (V.pickT rfl hc263 rfl) ?_
            refine J.nil ?_
            exact ⟨rfl, ⟨(by simp only [hc263]; rfl), trivial⟩, rfl, rfl⟩
          · skip
            refine J.run rfl rfl rfl hc263 ?_
            refine J.val rfl rfl (V.fad Try.underlying24 rfl nz22 rfl) ?_
            refine J.run rfl rfl rfl hc263 ?_
            refine J.val (v := .slice adxa_5 xa.2.2.2.2.2.length cpxa_5) rfl rfl (V.ld rfl (Ld.sc sc22 (Rd.cl 0 rfl rfl))) ?_
            refine J.run rfl rfl rfl hc263 ?_
            refine J.val (v := .int .i64 (((xa.2.2.2.2.2.length : Nat) : Int))) rfl rfl (V.len Try.underlying22 rfl) ?_
            refine J.run rfl rfl rfl hc263 ?_
            refine J.val (v := .bool (decide (16 < (((xa.2.2.2.2.2.length : Nat) : Int))))) rfl rfl (V.gtr rfl rfl) ?_
            refine J.val (v := .bool (decide (16 < (((xa.2.2.2.2.2.length : Nat) : Int))))) rfl rfl (V.pickF rfl hc263 rfl) ?_
            refine J.nil ?_
            exact ⟨rfl, ⟨(by simp only [hc263]; rfl), trivial⟩, rfl, rfl⟩
        · rintro ρ _ _ ⟨hf, rfl, rfl⟩
          obtain ⟨ρ, rfl⟩ := hf.ex
          refine J.nil ?_
          refine CJ.cond rfl (fun hc264 => ?_) (fun hc264 => ?_)
          · have h := ct hc264 h
            refine CJ.seq ?_
            refine CJ.region ?_
            refine J.val (v := .int .i64 6) rfl rfl (V.as rfl) ?_
            refine J.nil ?_
            refine CJ.ret ?_
            have e := Option.some.inj h
            subst e
            exact ⟨_, [], Res.one rfl rfl, ⟨6, rfl, rfl, rfl⟩, (Hp.le_refl _), fun w hs => (Sep.dropAt 0 rfl hs)⟩
          · have h := cf hc264 h
            refine CJ.skip ?_
            refine CJ.seq ?_
            refine CJ.region ?_
            refine J.val (v := .int .i64 0) rfl rfl (V.as rfl) ?_
            refine J.nil ?_
            refine CJ.ret ?_
            have e := Option.some.inj h
            subst e
            exact ⟨_, [], Res.one rfl rfl, ⟨0, rfl, rfl, rfl⟩, (Hp.le_refl _), fun w hs => (Sep.dropAt 0 rfl hs)⟩
noncomputable def fn_leb_digits_l1  : (Int × Int) → Option ((Int × Int) ⊕ Int) := fun ((i53, i54) : (Int × Int)) => cond (decide (0 < i53)) (some (.inl ((Int.fdiv i53 (2 ^ (min (Int.toNat 8) (IntKind.bits .i64))), IntKind.wrap .i64 (i54 + 1))))) (some (.inr (i54)))
noncomputable def fn_leb_digits (xa : Int) : Option Int :=
  (loop (fn_leb_digits_l1) (xa, 0) : Option Int).bind fun i47 => some (i47)
set_option maxRecDepth 100000 in
set_option maxHeartbeats 4000000 in
theorem leb_digits_ok {K : Hp} {xa : Int}   {r : Int} (h : fn_leb_digits xa = some r) :
    Tr Try.prog 69 #[.int .i64 xa] K [] (fun v K' L' => (∃ (i33 : Int), i33 = r ∧ .int .i64 i33 = v ∧ L' = []) ∧ K = K') := by
  refine Tr.k ?_
  refine Tr.of Try.func69 rfl Try.ntmps69 rfl (fun E F => ?_)
  unfold fn_leb_digits at h
  refine CJ.seq ?_
  refine CJ.region ?_
  refine J.val (v := .int .i64 0) rfl rfl (V.as rfl) ?_
  refine J.nil ?_
  refine CJ.seq ?_
  refine CJ.region ?_
  refine J.val (v := .int .i64 0) rfl rfl (V.as rfl) ?_
  refine J.nil ?_
  refine CJ.seq ?_
  obtain ⟨o48, ho49, h⟩ := ob h
  refine CJ.meetN (fun ρ K' L' => ∃ (i47 : Int), i47 = o48 ∧ Fits [(3, .int .i64 i47)] ρ ∧ K = K' ∧ F = L') ?_ ?_
  · skip
    refine CJ.block ?_
    refine CJ.loop (fun s ρ K' L' => ∃ (i53 : Int) (i54 : Int), (i53, i54) = s ∧ Fits [(0, .int .i64 i53), (3, .int .i64 i54)] ρ ∧ K = K' ∧ F = L') ho49 ⟨xa, 0, rfl, ⟨rfl, rfl, trivial⟩, rfl, rfl⟩ ?_
    rintro s ρ _ _ r61 ⟨i53, i54, rfl, hf59, rfl, rfl⟩ h58
    obtain ⟨ρ, rfl⟩ := hf59.ex
    refine CJ.seq ?_
    refine CJ.seq ?_
    refine CJ.region ?_
    refine J.val (v := .int .i64 i53) rfl rfl (V.mv rfl) ?_
    refine J.val (v := .bool (decide (0 < i53))) rfl rfl (V.gtr rfl rfl) ?_
    refine J.nil ?_
    refine CJ.cond rfl (fun hc62 => ?_) (fun hc62 => ?_)
    · have h58 := ct hc62 h58
      refine CJ.skip ?_
      refine CJ.seq ?_
      refine CJ.block ?_
      refine CJ.region ?_
      refine J.val (v := .int .i64 i54) rfl rfl (V.mv rfl) ?_
      refine J.val (v := .int .i64 (IntKind.wrap .i64 (i54 + 1))) rfl rfl (V.add rfl rfl) ?_
      refine J.val (v := .int .i64 (IntKind.wrap .i64 (i54 + 1))) rfl rfl (V.as rfl) ?_
      refine J.nil ?_
      refine CJ.region ?_
      refine J.val (v := .int .i64 i53) rfl rfl (V.mv rfl) ?_
      refine J.val (v := .int .i64 (Int.fdiv i53 (2 ^ (min (Int.toNat 8) (IntKind.bits .i64))))) rfl rfl (V.shr rfl rfl (by decide)) ?_
      refine J.val (v := .int .i64 (Int.fdiv i53 (2 ^ (min (Int.toNat 8) (IntKind.bits .i64))))) rfl rfl (V.as rfl) ?_
      refine J.nil ?_
      have e := Option.some.inj h58
      subst e
      exact ⟨rfl, ⟨Int.fdiv i53 (2 ^ (min (Int.toNat 8) (IntKind.bits .i64))), IntKind.wrap .i64 (i54 + 1), rfl, ⟨rfl, rfl, trivial⟩, rfl, rfl⟩⟩
    · have h58 := cf hc62 h58
      refine CJ.exit ?_
      have e := Option.some.inj h58
      subst e
      refine ⟨nofun, fun e => ?_⟩
      subst e
      exact ⟨rfl, ⟨i54, rfl, ⟨rfl, trivial⟩, rfl, rfl⟩⟩
  · rintro ρ _ _ ⟨i47, rfl, hf63, rfl, rfl⟩
    obtain ⟨ρ, rfl⟩ := hf63.ex
    refine PJ.done ?_
    refine CJ.seq ?_
    refine CJ.region ?_
    refine J.val (v := .int .i64 i47) rfl rfl (V.mv rfl) ?_
    refine J.val (v := .int .i64 i47) rfl rfl (V.as rfl) ?_
    refine J.nil ?_
    refine CJ.ret ?_
    have e := Option.some.inj h
    subst e
    exact ⟨_, [], Res.one rfl rfl, ⟨i47, rfl, rfl, rfl⟩, (Hp.le_refl _), fun w hs => hs⟩

noncomputable def fn_leb_Size (xa : Int) : Option Int :=
  cond ((decide (xa < 0)) || (decide (4294967295 < xa))) (some (0)) (cond (decide (xa < 248)) (some (1)) ((fn_leb_digits xa).bind fun i21 => some (IntKind.wrap .i64 (1 + i21))))
set_option maxRecDepth 100000 in
set_option maxHeartbeats 4000000 in
theorem leb_Size_ok {K : Hp} {xa : Int}   {r : Int} (h : fn_leb_Size xa = some r) :
    Tr Try.prog 58 #[.int .i64 xa] K [] (fun v K' L' => (∃ (i13 : Int), i13 = r ∧ .int .i64 i13 = v ∧ L' = []) ∧ K = K') := by
  refine Tr.k ?_
  refine Tr.of Try.func58 rfl Try.ntmps58 rfl (fun E F => ?_)
  unfold fn_leb_Size at h
  refine CJ.seq ?_
  refine CJ.region ?_
  refine J.val (v := .int .i64 0) rfl rfl (V.as rfl) ?_
  refine J.nil ?_
  refine CJ.seq ?_
  refine CJ.block ?_
  refine CJ.seq ?_
  refine CJ.region ?_
  refine J.val (v := .int .i64 xa) rfl rfl (V.mv rfl) ?_
  refine J.val (v := .bool (decide (xa < 0))) rfl rfl (V.lss rfl rfl) ?_
  refine J.val (v := .bool (decide (xa < 0))) rfl rfl (V.mv rfl) ?_
  refine J.cut 3 ?_
  refine @J.meet _ _ _ _ _ _ _ _ _ _ (fun ρ K' L' => Fits [(9, .bool ((decide (xa < 0)) || (decide (4294967295 < xa)))), (0, .int .i64 xa)] ρ ∧ K = K' ∧ F = L') ?_ ?_
  · skip
    rcases bt (decide (xa < 0)) with hc16 | hc16
    · skip
      refine J.skip rfl rfl rfl rfl hc16 ?_
      refine J.skip rfl rfl rfl rfl hc16 ?_
      refine J.val (v := .bool true) rfl rfl (V.pickT rfl hc16 rfl) ?_
      refine J.nil ?_
      exact ⟨rfl, ⟨(by simp only [hc16]; rfl), rfl, trivial⟩, rfl, rfl⟩
    · skip
      refine J.run rfl rfl rfl hc16 ?_
      refine J.val (v := .int .i64 xa) rfl rfl (V.mv rfl) ?_
      refine J.run rfl rfl rfl hc16 ?_
      refine J.val (v := .bool (decide (4294967295 < xa))) rfl rfl (V.gtr rfl rfl) ?_
      refine J.val (v := .bool (decide (4294967295 < xa))) rfl rfl (V.pickF rfl hc16 rfl) ?_
      refine J.nil ?_
      exact ⟨rfl, ⟨(by simp only [hc16]; rfl), rfl, trivial⟩, rfl, rfl⟩
  · rintro ρ _ _ ⟨hf, rfl, rfl⟩
    obtain ⟨ρ, rfl⟩ := hf.ex
    refine J.val (v := .bool ((decide (xa < 0)) || (decide (4294967295 < xa)))) rfl rfl (V.as rfl) ?_
    refine J.nil ?_
    refine CJ.cond rfl (fun hc17 => ?_) (fun hc17 => ?_)
    · have h := ct hc17 h
      refine CJ.seq ?_
      refine CJ.region ?_
      refine J.val (v := .int .i64 0) rfl rfl (V.as rfl) ?_
      refine J.nil ?_
      refine CJ.ret ?_
      have e := Option.some.inj h
      subst e
      exact ⟨_, [], Res.one rfl rfl, ⟨0, rfl, rfl, rfl⟩, (Hp.le_refl _), fun w hs => hs⟩
    · have h := cf hc17 h
      refine CJ.seq ?_
      refine CJ.region ?_
      refine J.val (v := .int .i64 xa) rfl rfl (V.mv rfl) ?_
      refine J.val (v := .bool (decide (xa < 248))) rfl rfl (V.lss rfl rfl) ?_
      refine J.val (v := .bool (decide (xa < 248))) rfl rfl (V.as rfl) ?_
      refine J.nil ?_
      refine CJ.cond rfl (fun hc18 => ?_) (fun hc18 => ?_)
      · have h := ct hc18 h
        refine CJ.seq ?_
        refine CJ.region ?_
        refine J.val (v := .int .i64 1) rfl rfl (V.as rfl) ?_
        refine J.nil ?_
        refine CJ.ret ?_
        have e := Option.some.inj h
        subst e
        exact ⟨_, [], Res.one rfl rfl, ⟨1, rfl, rfl, rfl⟩, (Hp.le_refl _), fun w hs => hs⟩
      · have h := cf hc18 h
        refine CJ.skip ?_
        refine CJ.seq ?_
        refine CJ.region ?_
        refine J.val (v := .int .i64 xa) rfl rfl (V.mv rfl) ?_
        obtain ⟨r19, hr20, h⟩ := ob h
        refine J.op rfl (A.call (L1 := []) Try.call69 rfl (leb_digits_ok hr20) rfl rfl) ?_
        rintro _ _ _ ⟨v22, _, rfl, ⟨⟨i21, rfl, rfl, rfl⟩, rfl⟩, _, rfl⟩
        refine J.val (v := .int .i64 (IntKind.wrap .i64 (1 + i21))) rfl rfl (V.add rfl rfl) ?_
        refine J.val (v := .int .i64 (IntKind.wrap .i64 (1 + i21))) rfl rfl (V.as rfl) ?_
        refine J.nil ?_
        refine CJ.ret ?_
        have e := Option.some.inj h
        subst e
        exact ⟨_, [], Res.one rfl rfl, ⟨IntKind.wrap .i64 (1 + i21), rfl, rfl, rfl⟩, (Hp.le_refl _), fun w hs => hs⟩
noncomputable def fn_leb_All_l1 (x997 : Int) : (Int × List UInt8) → Option ((Int × List UInt8) ⊕ List UInt8) := fun ((i1059, s1060) : (Int × List UInt8)) => cond (decide (0 ≤ i1059)) ((ge0 i1059).bind fun u1074 => (wrB s1060 (IntKind.wrap .u8 (Int.fdiv x997 (2 ^ (min (Int.toNat i1059) (IntKind.bits .i64)))))).bind fun s1076 => some (.inl ((IntKind.wrap .i64 (i1059 - 8), s1076)))) (some (.inr (s1060)))
noncomputable def fn_leb_All_l2 (xa : (List Int)) : (Int × List UInt8) → Option ((Int × List UInt8) ⊕ List UInt8) := fun ((i903, s904) : (Int × List UInt8)) => cond (decide (i903 < (((xa.length : Nat) : Int)))) ((getI xa i903).bind fun x997 => (fn_leb_Size x997).bind fun i1008 => cond (decide (i1008 = 0)) (some (.inl ((IntKind.wrap .i64 (i903 + 1), s904)))) (cond (decide (i1008 = 1)) ((wrB s904 (IntKind.wrap .u8 x997)).bind fun s1014 => some (.inl ((IntKind.wrap .i64 (i903 + 1), s1014)))) ((wrB s904 (IntKind.wrap .u8 (IntKind.wrap .i64 ((IntKind.wrap .i64 (247 + i1008)) - 1)))).bind fun s1017 => (loop (fn_leb_All_l1 x997) ((IntKind.wrap .i64 (8 * (IntKind.wrap .i64 (i1008 - 2))), s1017)) : Option (List UInt8)).bind fun s1048 => some (.inl ((IntKind.wrap .i64 (i903 + 1), s1048)))))) (some (.inr (s904)))
noncomputable def fn_leb_All (xa : (List Int)) : Option (List UInt8) :=
  (loop (fn_leb_All_l2 xa) ((0, ([] : List UInt8))) : Option (List UInt8)).bind fun s813 => ((some s813 : Option (List UInt8))).bind fun s1083 => some (s1083)
set_option maxRecDepth 100000 in
set_option maxHeartbeats 4000000 in
theorem leb_All_ok {K : Hp} {xa : (List Int)} {adxa_0 : Option Addr} {cpxa_0 : Nat} (fxa_0 : Is K (.sl (.int .i64)) [.slice adxa_0 xa.length cpxa_0] xa) {r : List UInt8} (h : fn_leb_All xa = some r) :
    Tr Try.prog 40 #[.slice adxa_0 xa.length cpxa_0] K [] (fun v K' L' => (∃ (s546 : List UInt8), s546 = r ∧ .string ⟨s546.toArray⟩ = v ∧ L' = []) ∧ K = K') := by
  refine Tr.k ?_
  refine Tr.of Try.func40 rfl Try.ntmps40 rfl (fun E F => ?_)
  unfold fn_leb_All at h
  refine CJ.seq ?_
  refine CJ.region ?_
  refine J.val (v := .string ⟨([] : List UInt8).toArray⟩) rfl rfl (V.as rfl) ?_
  refine J.nil ?_
  refine CJ.seq ?_
  refine CJ.region ?_
  refine J.op rfl (A.alloc (cs := [.pointer none, .slice none 0 0]) inf82 rfl) ?_
  rintro _ _ _ ⟨b547, rfl, rfl, rfl⟩
  refine J.by (fun w hs => Bld.fresh hs) ?_
  refine J.nil ?_
  refine CJ.seq ?_
  refine CJ.seq ?_
  refine CJ.region ?_
  refine J.val (v := .slice adxa_0 xa.length cpxa_0) rfl rfl (V.mv rfl) ?_
  refine J.val (v := .int .i64 (((xa.length : Nat) : Int))) rfl rfl (V.len Try.underlying22 rfl) ?_
  refine J.val (v := .int .i64 0) rfl rfl (V.mv rfl) ?_
  refine J.nil ?_
  obtain ⟨o814, ho815, h⟩ := ob h
  refine CJ.meetN (fun ρ K' L' => ∃ (s813 : List UInt8), s813 = o814 ∧ Fits [(3, .pointer (some ⟨b547, 0, none⟩))] ρ ∧ K = K' ∧ L' = Bld b547 s813 :: F) ?_ ?_
  · skip
    refine CJ.block ?_
    refine CJ.loop (fun s ρ K' L' => ∃ (i903 : Int) (s904 : List UInt8), (i903, s904) = s ∧ Fits [(3, .pointer (some ⟨b547, 0, none⟩)), (8, .slice adxa_0 xa.length cpxa_0), (9, .int .i64 (((xa.length : Nat) : Int))), (10, .int .i64 i903)] ρ ∧ K = K' ∧ L' = Bld b547 s904 :: F) ho815 ⟨0, ([] : List UInt8), rfl, ⟨rfl, rfl, rfl, rfl, trivial⟩, rfl, rfl⟩ ?_
    rintro s ρ _ _ r995 ⟨i903, s904, rfl, hf993, rfl, rfl⟩ h992
    obtain ⟨ρ, rfl⟩ := hf993.ex
    refine CJ.seq ?_
    refine CJ.region ?_
    refine J.val (v := .bool (decide (i903 < (((xa.length : Nat) : Int))))) rfl rfl (V.lss rfl rfl) ?_
    refine J.nil ?_
    refine CJ.seq ?_
    refine CJ.cond rfl (fun hc996 => ?_) (fun hc996 => ?_)
    · have h992 := ct hc996 h992
      refine CJ.skip ?_
      refine CJ.seq ?_
      refine CJ.block ?_
      refine CJ.seq ?_
      refine CJ.region ?_
      obtain ⟨x997, hx998, h992⟩ := ob h992
      obtain ⟨p999, p1000, p1001⟩ := getI_some hx998
      obtain ⟨b1002, o1003, e1004, a1005⟩ := (fxa_0).at p1000
      refine J.val rfl rfl (V.iad Try.underlying22 sz3 rfl e1004 rfl p999 p1001) ?_
      refine J.val (v := .int .i64 x997) rfl rfl (V.ld rfl (Ld.sc sc3 (Rd.k (a1005).int (Hp.le_refl _)))) ?_
      refine J.val (v := .int .i64 x997) rfl rfl (V.as rfl) ?_
      refine J.nil ?_
      refine CJ.seq ?_
      refine CJ.region ?_
      refine J.val (v := .int .i64 x997) rfl rfl (V.mv rfl) ?_
      obtain ⟨r1006, hr1007, h992⟩ := ob h992
      refine J.op rfl (A.call (L1 := []) Try.call58 rfl (leb_Size_ok hr1007) rfl rfl) ?_
      rintro _ _ _ ⟨v1009, _, rfl, ⟨⟨i1008, rfl, rfl, rfl⟩, rfl⟩, _, rfl⟩
      refine J.val (v := .int .i64 i1008) rfl rfl (V.as rfl) ?_
      refine J.nil ?_
      refine CJ.seq ?_
      refine CJ.region ?_
      refine J.val (v := .int .i64 i1008) rfl rfl (V.mv rfl) ?_
      refine J.nil ?_
      refine CJ.block ?_
      refine CJ.seq ?_
      refine CJ.region ?_
      refine J.val (v := .bool (decide (i1008 = 0))) rfl rfl (V.eql rfl rfl) ?_
      refine J.val (v := .bool (decide (i1008 = 0))) rfl rfl (V.as rfl) ?_
      refine J.nil ?_
      refine CJ.cond rfl (fun hc1012 => ?_) (fun hc1012 => ?_)
      · have h992 := ct hc1012 h992
        refine CJ.skip ?_
        refine CJ.region ?_
        refine J.val (v := .int .i64 (IntKind.wrap .i64 (i903 + 1))) rfl rfl (V.add rfl rfl) ?_
        refine J.val (v := .int .i64 (IntKind.wrap .i64 (i903 + 1))) rfl rfl (V.mv rfl) ?_
        refine J.nil ?_
        have e := Option.some.inj h992
        subst e
        exact ⟨rfl, ⟨IntKind.wrap .i64 (i903 + 1), s904, rfl, ⟨rfl, rfl, rfl, rfl, trivial⟩, rfl, rfl⟩⟩
      · have h992 := cf hc1012 h992
        refine CJ.seq ?_
        refine CJ.region ?_
        refine J.val (v := .bool (decide (i1008 = 1))) rfl rfl (V.eql rfl rfl) ?_
        refine J.val (v := .bool (decide (i1008 = 1))) rfl rfl (V.as rfl) ?_
        refine J.nil ?_
        refine CJ.cond rfl (fun hc1013 => ?_) (fun hc1013 => ?_)
        · have h992 := ct hc1013 h992
          refine CJ.region ?_
          refine J.val (v := .int .i64 x997) rfl rfl (V.mv rfl) ?_
          refine J.val (v := .int .u8 (IntKind.wrap .u8 x997)) rfl rfl (V.conv Try.underlying3 Try.underlying5 rfl) ?_
          obtain ⟨s1014, hs1015, h992⟩ := ob h992
          refine J.op rfl (A.call (L1 := [Bld b547 s904]) Try.call59 rfl (WriteByte_ok hs1015) rfl rfl) ?_
          rintro _ _ _ ⟨v1016, _, rfl, ⟨⟨s1014, rfl, rfl, rfl⟩, rfl⟩, _, rfl⟩
          refine J.nil ?_
          refine CJ.region ?_
          refine J.val (v := .int .i64 (IntKind.wrap .i64 (i903 + 1))) rfl rfl (V.add rfl rfl) ?_
          refine J.val (v := .int .i64 (IntKind.wrap .i64 (i903 + 1))) rfl rfl (V.mv rfl) ?_
          refine J.nil ?_
          have e := Option.some.inj h992
          subst e
          exact ⟨rfl, ⟨IntKind.wrap .i64 (i903 + 1), s1014, rfl, ⟨rfl, rfl, rfl, rfl, trivial⟩, rfl, rfl⟩⟩
        · have h992 := cf hc1013 h992
          refine CJ.seq ?_
          refine CJ.region ?_
          refine J.val (v := .int .i64 i1008) rfl rfl (V.mv rfl) ?_
          refine J.val (v := .int .i64 (IntKind.wrap .i64 (247 + i1008))) rfl rfl (V.add rfl rfl) ?_
          refine J.val (v := .int .i64 (IntKind.wrap .i64 ((IntKind.wrap .i64 (247 + i1008)) - 1))) rfl rfl (V.sub rfl rfl) ?_
          refine J.val (v := .int .u8 (IntKind.wrap .u8 (IntKind.wrap .i64 ((IntKind.wrap .i64 (247 + i1008)) - 1)))) rfl rfl (V.conv Try.underlying3 Try.underlying5 rfl) ?_
          obtain ⟨s1017, hs1018, h992⟩ := ob h992
          refine J.op rfl (A.call (L1 := [Bld b547 s904]) Try.call59 rfl (WriteByte_ok hs1018) rfl rfl) ?_
          rintro _ _ _ ⟨v1019, _, rfl, ⟨⟨s1017, rfl, rfl, rfl⟩, rfl⟩, _, rfl⟩
          refine J.nil ?_
          refine CJ.seq ?_
          refine CJ.region ?_
          refine J.val (v := .int .i64 i1008) rfl rfl (V.mv rfl) ?_
          refine J.val (v := .int .i64 (IntKind.wrap .i64 (i1008 - 2))) rfl rfl (V.sub rfl rfl) ?_
          refine J.val (v := .int .i64 (IntKind.wrap .i64 (8 * (IntKind.wrap .i64 (i1008 - 2))))) rfl rfl (V.mul rfl rfl) ?_
          refine J.val (v := .int .i64 (IntKind.wrap .i64 (8 * (IntKind.wrap .i64 (i1008 - 2))))) rfl rfl (V.as rfl) ?_
          refine J.nil ?_
          obtain ⟨o1049, ho1050, h992⟩ := ob h992
          refine CJ.meetN (fun ρ K' L' => ∃ (s1048 : List UInt8), s1048 = o1049 ∧ Fits [(3, .pointer (some ⟨b547, 0, none⟩)), (8, .slice adxa_0 xa.length cpxa_0), (9, .int .i64 (((xa.length : Nat) : Int))), (10, .int .i64 i903)] ρ ∧ K = K' ∧ L' = Bld b547 s1048 :: F) ?_ ?_
          · skip
            refine CJ.block ?_
            refine CJ.loop (fun s ρ K' L' => ∃ (i1059 : Int) (s1060 : List UInt8), (i1059, s1060) = s ∧ Fits [(3, .pointer (some ⟨b547, 0, none⟩)), (5, .int .i64 x997), (7, .int .i64 i1059), (8, .slice adxa_0 xa.length cpxa_0), (9, .int .i64 (((xa.length : Nat) : Int))), (10, .int .i64 i903)] ρ ∧ K = K' ∧ L' = Bld b547 s1060 :: F) ho1050 ⟨IntKind.wrap .i64 (8 * (IntKind.wrap .i64 (i1008 - 2))), s1017, rfl, ⟨rfl, rfl, rfl, rfl, rfl, rfl, trivial⟩, rfl, rfl⟩ ?_
            rintro s ρ _ _ r1072 ⟨i1059, s1060, rfl, hf1070, rfl, rfl⟩ h1069
            obtain ⟨ρ, rfl⟩ := hf1070.ex
            refine CJ.seq ?_
            refine CJ.seq ?_
            refine CJ.region ?_
            refine J.val (v := .int .i64 i1059) rfl rfl (V.mv rfl) ?_
            refine J.val (v := .bool (decide (0 ≤ i1059))) rfl rfl (V.geq rfl rfl) ?_
            refine J.nil ?_
            refine CJ.cond rfl (fun hc1073 => ?_) (fun hc1073 => ?_)
            · have h1069 := ct hc1073 h1069
              refine CJ.skip ?_
              refine CJ.seq ?_
              refine CJ.block ?_
              refine CJ.region ?_
              refine J.val (v := .int .i64 x997) rfl rfl (V.mv rfl) ?_
              refine J.val (v := .int .i64 i1059) rfl rfl (V.mv rfl) ?_
              obtain ⟨u1074, hu1075, h1069⟩ := ob h1069
              refine J.val (v := .int .i64 (Int.fdiv x997 (2 ^ (min (Int.toNat i1059) (IntKind.bits .i64))))) rfl rfl (V.shr rfl rfl (ge0_some hu1075)) ?_
              refine J.val (v := .int .u8 (IntKind.wrap .u8 (Int.fdiv x997 (2 ^ (min (Int.toNat i1059) (IntKind.bits .i64)))))) rfl rfl (V.conv Try.underlying3 Try.underlying5 rfl) ?_
              obtain ⟨s1076, hs1077, h1069⟩ := ob h1069
              refine J.op rfl (A.call (L1 := [Bld b547 s1060]) Try.call59 rfl (WriteByte_ok hs1077) rfl rfl) ?_
              rintro _ _ _ ⟨v1078, _, rfl, ⟨⟨s1076, rfl, rfl, rfl⟩, rfl⟩, _, rfl⟩
              refine J.nil ?_
              refine CJ.region ?_
              refine J.val (v := .int .i64 i1059) rfl rfl (V.mv rfl) ?_
              refine J.val (v := .int .i64 (IntKind.wrap .i64 (i1059 - 8))) rfl rfl (V.sub rfl rfl) ?_
              refine J.val (v := .int .i64 (IntKind.wrap .i64 (i1059 - 8))) rfl rfl (V.as rfl) ?_
              refine J.nil ?_
              have e := Option.some.inj h1069
              subst e
              exact ⟨rfl, ⟨IntKind.wrap .i64 (i1059 - 8), s1076, rfl, ⟨rfl, rfl, rfl, rfl, rfl, rfl, trivial⟩, rfl, rfl⟩⟩
            · have h1069 := cf hc1073 h1069
              refine CJ.exit ?_
              have e := Option.some.inj h1069
              subst e
              refine ⟨nofun, fun e => ?_⟩
              subst e
              exact ⟨rfl, ⟨s1060, rfl, ⟨rfl, rfl, rfl, rfl, trivial⟩, rfl, rfl⟩⟩
          · rintro ρ _ _ ⟨s1048, rfl, hf1079, rfl, rfl⟩
            obtain ⟨ρ, rfl⟩ := hf1079.ex
            refine PJ.done ?_
            refine CJ.region ?_
            refine J.val (v := .int .i64 (IntKind.wrap .i64 (i903 + 1))) rfl rfl (V.add rfl rfl) ?_
            refine J.val (v := .int .i64 (IntKind.wrap .i64 (i903 + 1))) rfl rfl (V.mv rfl) ?_
            refine J.nil ?_
            have e := Option.some.inj h992
            subst e
            exact ⟨rfl, ⟨IntKind.wrap .i64 (i903 + 1), s1048, rfl, ⟨rfl, rfl, rfl, rfl, trivial⟩, rfl, rfl⟩⟩
    · have h992 := cf hc996 h992
      refine CJ.exit ?_
      have e := Option.some.inj h992
      subst e
      refine ⟨nofun, fun e => ?_⟩
      subst e
      exact ⟨rfl, ⟨s904, rfl, ⟨rfl, trivial⟩, rfl, rfl⟩⟩
  · rintro ρ _ _ ⟨s813, rfl, hf1081, rfl, rfl⟩
    obtain ⟨ρ, rfl⟩ := hf1081.ex
    refine PJ.done ?_
    refine CJ.seq ?_
    refine CJ.region ?_
    obtain ⟨s1083, hs1084, h⟩ := ob h
    refine J.op rfl (A.call (L1 := [Bld b547 s813]) Try.call41 rfl (BString_ok hs1084) rfl rfl) ?_
    rintro _ _ _ ⟨v1085, _, rfl, ⟨⟨s1083, rfl, rfl, rfl⟩, rfl⟩, _, rfl⟩
    refine J.val (v := .string ⟨s1083.toArray⟩) rfl rfl (V.as rfl) ?_
    refine J.nil ?_
    refine CJ.ret ?_
    have e := Option.some.inj h
    subst e
    exact ⟨_, [], Res.one rfl rfl, ⟨s1083, rfl, rfl, rfl⟩, (Hp.le_refl _), fun w hs => hs⟩

noncomputable def fn_leb_Put (xa : Int) : Option (List UInt8) :=
  (fn_leb_All ([xa] : List Int)).bind fun s23 => some (s23)
set_option maxRecDepth 100000 in
set_option maxHeartbeats 4000000 in
theorem leb_Put_ok {K : Hp} {xa : Int}   {r : List UInt8} (h : fn_leb_Put xa = some r) :
    Tr Try.prog 38 #[.int .i64 xa] K [] (fun v K' L' => (∃ (s14 : List UInt8), s14 = r ∧ .string ⟨s14.toArray⟩ = v ∧ L' = []) ∧ K = K') := by
  refine Tr.k ?_
  refine Tr.of Try.func38 rfl Try.ntmps38 rfl (fun E F => ?_)
  unfold fn_leb_Put at h
  refine CJ.seq ?_
  refine CJ.region ?_
  refine J.val (v := .string ⟨([] : List UInt8).toArray⟩) rfl rfl (V.as rfl) ?_
  refine J.nil ?_
  refine CJ.seq ?_
  refine CJ.region ?_
  refine J.val (v := .int .i64 xa) rfl rfl (V.mv rfl) ?_
  refine J.op rfl (A.lit (K0 := Hp.nil) (ty := (.int .i64)) (xs := ([xa] : List Int)) Try.underlying22 inf3 rfl (by decide) rfl rfl rfl ⟨_, _, rfl, rfl, rfl⟩ rfl (by decide)) ?_
  rintro _ _ _ ⟨b15, rfl, rfl, rfl⟩
  have hn16 : ([xa] : List Int) ≠ [] → ∃ g, (some ⟨b15, 0, none⟩ : Option Addr) = some ⟨g, 0, none⟩ := fun _ => ⟨b15, rfl⟩
  obtain ⟨r18, hr19, h⟩ := ob h
  refine J.op rfl (A.call (L1 := [Row Hp.nil 3 (.int .i64) (.slice (some ⟨b15, 0, none⟩) (([xa] : List Int).length) 1) ([xa] : List Int)]) Try.call40 rfl (Tr.lend (Hp.nil_le _) (by decide) (fun K20 hK21 f22 => leb_All_ok f22 hr19)) rfl rfl) ?_
  rintro _ _ _ ⟨v24, _, rfl, ⟨⟨_, ⟨s23, rfl, rfl, rfl⟩, rfl⟩, rfl⟩, _, rfl⟩
  refine J.val (v := .string ⟨s23.toArray⟩) rfl rfl (V.as rfl) ?_
  refine J.nil ?_
  refine CJ.ret ?_
  have e := Option.some.inj h
  subst e
  exact ⟨_, [], Res.one rfl rfl, ⟨s23, rfl, rfl, rfl⟩, (Hp.le_refl _), fun w hs => (Sep.dropAt 0 rfl hs)⟩

noncomputable def fn_term_putList (xa : (List Int)) : Option (List UInt8) :=
  (fn_leb_Put (((xa.length : Nat) : Int))).bind fun s18 => (fn_leb_All xa).bind fun s24 => (app s18 s24).bind fun z28 => some (z28)
set_option maxRecDepth 100000 in
set_option maxHeartbeats 4000000 in
theorem term_putList_ok {K : Hp} {xa : (List Int)} {adxa_0 : Option Addr} {cpxa_0 : Nat} (fxa_0 : Is K (.sl (.int .i64)) [.slice adxa_0 xa.length cpxa_0] xa) {r : List UInt8} (h : fn_term_putList xa = some r) :
    Tr Try.prog 39 #[.slice adxa_0 xa.length cpxa_0] K [] (fun v K' L' => (∃ (s15 : List UInt8), s15 = r ∧ .string ⟨s15.toArray⟩ = v ∧ L' = []) ∧ K = K') := by
  refine Tr.k ?_
  refine Tr.of Try.func39 rfl Try.ntmps39 rfl (fun E F => ?_)
  unfold fn_term_putList at h
  refine CJ.seq ?_
  refine CJ.region ?_
  refine J.val (v := .string ⟨([] : List UInt8).toArray⟩) rfl rfl (V.as rfl) ?_
  refine J.nil ?_
  refine CJ.seq ?_
  refine CJ.region ?_
  refine J.val (v := .slice adxa_0 xa.length cpxa_0) rfl rfl (V.mv rfl) ?_
  refine J.val (v := .int .i64 (((xa.length : Nat) : Int))) rfl rfl (V.len Try.underlying22 rfl) ?_
  obtain ⟨r16, hr17, h⟩ := ob h
  refine J.op rfl (A.call (L1 := []) Try.call38 rfl (leb_Put_ok hr17) rfl rfl) ?_
  rintro _ _ _ ⟨v19, _, rfl, ⟨⟨s18, rfl, rfl, rfl⟩, rfl⟩, _, rfl⟩
  refine J.val (v := .slice adxa_0 xa.length cpxa_0) rfl rfl (V.mv rfl) ?_
  obtain ⟨r22, hr23, h⟩ := ob h
  refine J.op rfl (A.call (L1 := []) Try.call40 rfl (leb_All_ok fxa_0 hr23) rfl rfl) ?_
  rintro _ _ _ ⟨v25, _, rfl, ⟨⟨s24, rfl, rfl, rfl⟩, rfl⟩, _, rfl⟩
  obtain ⟨z28, hz29, h⟩ := ob h
  refine J.val (v := .string ⟨z28.toArray⟩) rfl rfl (V.cat rfl rfl hz29) ?_
  refine J.val (v := .string ⟨z28.toArray⟩) rfl rfl (V.as rfl) ?_
  refine J.nil ?_
  refine CJ.ret ?_
  have e := Option.some.inj h
  subst e
  exact ⟨_, [], Res.one rfl rfl, ⟨z28, rfl, rfl, rfl⟩, (Hp.le_refl _), fun w hs => hs⟩

noncomputable def fn_term_Put (xa : (Int × Int × Int × (List Int) × (List Int) × (List Int))) : Option (List UInt8 × Int) :=
  (fn_term_form (xa.1, xa.2.1, xa.2.2.1, xa.2.2.2.1, xa.2.2.2.2.1, xa.2.2.2.2.2)).bind fun i141 => cond (!decide (i141 = 0)) (some ((([] : List UInt8), i141))) ((fn_leb_Put xa.1).bind fun s149 => (wrS ([] : List UInt8) s149).bind fun s153 => cond (decide (xa.1 = 1)) ((getI xa.2.2.2.1 0).bind fun x157 => (fn_leb_Put x157).bind fun s168 => (wrS s153 s168).bind fun s172 => ((some s172 : Option (List UInt8))).bind fun s175 => some ((s175, 0))) (cond (decide (xa.1 = 2)) ((fn_term_putList xa.2.2.2.1).bind fun s181 => (wrS s153 s181).bind fun s185 => (fn_term_putList xa.2.2.2.2.1).bind fun s190 => (wrS s185 s190).bind fun s194 => ((some s194 : Option (List UInt8))).bind fun s197 => some ((s197, 0))) (cond (decide (xa.1 = 4)) ((getI xa.2.2.2.1 0).bind fun x225 => (fn_leb_All ([xa.2.1, xa.2.2.1, x225] : List Int)).bind fun s242 => (wrS s153 s242).bind fun s246 => (fn_term_putList xa.2.2.2.2.2).bind fun s251 => (wrS s246 s251).bind fun s255 => (fn_term_putList xa.2.2.2.2.1).bind fun s260 => (wrS s255 s260).bind fun s264 => ((some s264 : Option (List UInt8))).bind fun s267 => some ((s267, 0))) (((some s153 : Option (List UInt8))).bind fun s270 => some ((s270, 0))))))
set_option maxRecDepth 100000 in
set_option maxHeartbeats 4000000 in
theorem term_Put_ok {K : Hp} {xa : (Int × Int × Int × (List Int) × (List Int) × (List Int))} {adxa_3 : Option Addr} {cpxa_3 : Nat} {adxa_4 : Option Addr} {cpxa_4 : Nat} {adxa_5 : Option Addr} {cpxa_5 : Nat} (fxa_3 : Is K (.sl (.int .i64)) [.slice adxa_3 xa.2.2.2.1.length cpxa_3] xa.2.2.2.1) (fxa_4 : Is K (.sl (.int .i64)) [.slice adxa_4 xa.2.2.2.2.1.length cpxa_4] xa.2.2.2.2.1) (fxa_5 : Is K (.sl (.int .i64)) [.slice adxa_5 xa.2.2.2.2.2.length cpxa_5] xa.2.2.2.2.2) {r : (List UInt8 × Int)} (h : fn_term_Put xa = some r) :
    Tr Try.prog 18 #[.agg #[.int .i64 xa.1, .int .i64 xa.2.1, .int .i64 xa.2.2.1, .slice adxa_3 xa.2.2.2.1.length cpxa_3, .slice adxa_4 xa.2.2.2.2.1.length cpxa_4, .slice adxa_5 xa.2.2.2.2.2.length cpxa_5]] K [] (fun v K' L' => (∃ (s136 : List UInt8) (i137 : Int), (s136, i137) = r ∧ .tuple #[.string ⟨s136.toArray⟩, .int .i64 i137] = v ∧ L' = []) ∧ K = K') := by
  refine Tr.k ?_
  refine Tr.of Try.func18 rfl Try.ntmps18 rfl (fun E F => ?_)
  unfold fn_term_Put at h
  refine CJ.seq ?_
  refine CJ.region ?_
  refine J.op rfl (A.box (v := .agg #[.int .i64 xa.1, .int .i64 xa.2.1, .int .i64 xa.2.2.1, .slice adxa_3 xa.2.2.2.1.length cpxa_3, .slice adxa_4 xa.2.2.2.2.1.length cpxa_4, .slice adxa_5 xa.2.2.2.2.2.length cpxa_5]) (cs := [.int .i64 xa.1, .int .i64 xa.2.1, .int .i64 xa.2.2.1, .slice adxa_3 xa.2.2.2.1.length cpxa_3, .slice adxa_4 xa.2.2.2.2.1.length cpxa_4, .slice adxa_5 xa.2.2.2.2.2.length cpxa_5]) rfl rfl) ?_
  rintro _ _ _ ⟨b138, rfl, rfl, rfl⟩
  refine J.val (v := .string ⟨([] : List UInt8).toArray⟩) rfl rfl (V.as rfl) ?_
  refine J.val (v := .int .i64 0) rfl rfl (V.as rfl) ?_
  refine J.nil ?_
  refine CJ.seq ?_
  refine CJ.seq ?_
  refine CJ.region ?_
  refine J.val (v := .agg #[.int .i64 xa.1, .int .i64 xa.2.1, .int .i64 xa.2.2.1, .slice adxa_3 xa.2.2.2.1.length cpxa_3, .slice adxa_4 xa.2.2.2.2.1.length cpxa_4, .slice adxa_5 xa.2.2.2.2.2.length cpxa_5]) rfl rfl (V.ld rfl (Ld.agg (cs := [.int .i64 xa.1, .int .i64 xa.2.1, .int .i64 xa.2.2.1, .slice adxa_3 xa.2.2.2.1.length cpxa_3, .slice adxa_4 xa.2.2.2.2.1.length cpxa_4, .slice adxa_5 xa.2.2.2.2.2.length cpxa_5]) Try.underlying24 sz24 rfl (Rd.cls 0 0 rfl rfl))) ?_
  obtain ⟨r139, hr140, h⟩ := ob h
  refine J.op rfl (A.call (L1 := []) Try.call22 rfl (term_form_ok fxa_3 fxa_4 fxa_5 hr140) rfl rfl) ?_
  rintro _ _ _ ⟨v142, _, rfl, ⟨⟨i141, rfl, rfl, rfl⟩, rfl⟩, _, rfl⟩
  refine J.val (v := .int .i64 i141) rfl rfl (V.as rfl) ?_
  refine J.nil ?_
  refine CJ.seq ?_
  refine CJ.region ?_
  refine J.val (v := .int .i64 i141) rfl rfl (V.mv rfl) ?_
  refine J.val (v := .bool (!decide (i141 = 0))) rfl rfl (V.neq rfl rfl) ?_
  refine J.nil ?_
  refine CJ.cond rfl (fun hc145 => ?_) (fun hc145 => ?_)
  · have h := ct hc145 h
    refine CJ.seq ?_
    refine CJ.region ?_
    refine J.val (v := .int .i64 i141) rfl rfl (V.mv rfl) ?_
    refine J.val (v := .string ⟨([] : List UInt8).toArray⟩) rfl rfl (V.as rfl) ?_
    refine J.val (v := .int .i64 i141) rfl rfl (V.as rfl) ?_
    refine J.nil ?_
    refine CJ.ret ?_
    have e := Option.some.inj h
    subst e
    exact ⟨_, [], Res.two rfl rfl rfl, ⟨([] : List UInt8), i141, rfl, rfl, rfl⟩, (Hp.le_refl _), fun w hs => (Sep.dropAt 0 rfl hs)⟩
  · have h := cf hc145 h
    refine CJ.skip ?_
    refine CJ.seq ?_
    refine CJ.region ?_
    refine J.op rfl (A.alloc (cs := [.pointer none, .slice none 0 0]) inf82 rfl) ?_
    rintro _ _ _ ⟨b146, rfl, rfl, rfl⟩
    refine J.by (fun w hs => Bld.fresh hs) ?_
    refine J.nil ?_
    refine CJ.seq ?_
    refine CJ.region ?_
    refine J.val rfl rfl (V.fad Try.underlying24 rfl nz3 rfl) ?_
    refine J.val (v := .int .i64 xa.1) rfl rfl (V.ld rfl (Ld.sc sc3 (Rd.cl 1 rfl rfl))) ?_
    obtain ⟨r147, hr148, h⟩ := ob h
    refine J.op rfl (A.call (L1 := []) Try.call38 rfl (leb_Put_ok hr148) rfl rfl) ?_
    rintro _ _ _ ⟨v150, _, rfl, ⟨⟨s149, rfl, rfl, rfl⟩, rfl⟩, _, rfl⟩
    obtain ⟨s153, hs154, h⟩ := ob h
    refine J.op rfl (A.call (L1 := [Bld b146 ([] : List UInt8)]) Try.call37 rfl (WriteString_ok hs154) rfl rfl) ?_
    rintro _ _ _ ⟨v155, _, rfl, ⟨⟨s153, rfl, rfl, rfl⟩, rfl⟩, _, rfl⟩
    refine J.nil ?_
    refine CJ.seq ?_
    refine CJ.seq ?_
    refine CJ.region ?_
    refine J.val rfl rfl (V.fad Try.underlying24 rfl nz3 rfl) ?_
    refine J.val (v := .int .i64 xa.1) rfl rfl (V.ld rfl (Ld.sc sc3 (Rd.cl 1 rfl rfl))) ?_
    refine J.nil ?_
    refine CJ.block ?_
    refine CJ.seq ?_
    refine CJ.region ?_
    refine J.val (v := .bool (decide (xa.1 = 1))) rfl rfl (V.eql rfl rfl) ?_
    refine J.val (v := .bool (decide (xa.1 = 1))) rfl rfl (V.as rfl) ?_
    refine J.nil ?_
    refine CJ.cond rfl (fun hc156 => ?_) (fun hc156 => ?_)
    · have h := ct hc156 h
      refine CJ.region ?_
      refine J.val rfl rfl (V.fad Try.underlying24 rfl nz22 rfl) ?_
      refine J.val (v := .slice adxa_3 xa.2.2.2.1.length cpxa_3) rfl rfl (V.ld rfl (Ld.sc sc22 (Rd.cl 1 rfl rfl))) ?_
      obtain ⟨x157, hx158, h⟩ := ob h
      obtain ⟨p159, p160, p161⟩ := getI_some hx158
      obtain ⟨b162, o163, e164, a165⟩ := (fxa_3).at p160
      refine J.val rfl rfl (V.iad Try.underlying22 sz3 rfl e164 rfl p159 p161) ?_
      refine J.val (v := .int .i64 x157) rfl rfl (V.ld rfl (Ld.sc sc3 (Rd.k (a165).int (Hp.le_refl _)))) ?_
      obtain ⟨r166, hr167, h⟩ := ob h
      refine J.op rfl (A.call (L1 := []) Try.call38 rfl (leb_Put_ok hr167) rfl rfl) ?_
      rintro _ _ _ ⟨v169, _, rfl, ⟨⟨s168, rfl, rfl, rfl⟩, rfl⟩, _, rfl⟩
      obtain ⟨s172, hs173, h⟩ := ob h
      refine J.op rfl (A.call (L1 := [Bld b146 s153]) Try.call37 rfl (WriteString_ok hs173) rfl rfl) ?_
      rintro _ _ _ ⟨v174, _, rfl, ⟨⟨s172, rfl, rfl, rfl⟩, rfl⟩, _, rfl⟩
      refine J.nil ?_
      refine CJ.seq ?_
      refine CJ.region ?_
      obtain ⟨s175, hs176, h⟩ := ob h
      refine J.op rfl (A.call (L1 := [Bld b146 s172]) Try.call41 rfl (BString_ok hs176) rfl rfl) ?_
      rintro _ _ _ ⟨v177, _, rfl, ⟨⟨s175, rfl, rfl, rfl⟩, rfl⟩, _, rfl⟩
      refine J.val (v := .string ⟨s175.toArray⟩) rfl rfl (V.as rfl) ?_
      refine J.val (v := .int .i64 0) rfl rfl (V.as rfl) ?_
      refine J.nil ?_
      refine CJ.ret ?_
      have e := Option.some.inj h
      subst e
      exact ⟨_, [], Res.two rfl rfl rfl, ⟨s175, 0, rfl, rfl, rfl⟩, (Hp.le_refl _), fun w hs => (Sep.dropAt 0 rfl hs)⟩
    · have h := cf hc156 h
      refine CJ.seq ?_
      refine CJ.region ?_
      refine J.val (v := .bool (decide (xa.1 = 2))) rfl rfl (V.eql rfl rfl) ?_
      refine J.val (v := .bool (decide (xa.1 = 2))) rfl rfl (V.as rfl) ?_
      refine J.nil ?_
      refine CJ.cond rfl (fun hc178 => ?_) (fun hc178 => ?_)
      · have h := ct hc178 h
        refine CJ.seq ?_
        refine CJ.region ?_
        refine J.val rfl rfl (V.fad Try.underlying24 rfl nz22 rfl) ?_
        refine J.val (v := .slice adxa_3 xa.2.2.2.1.length cpxa_3) rfl rfl (V.ld rfl (Ld.sc sc22 (Rd.cl 1 rfl rfl))) ?_
        obtain ⟨r179, hr180, h⟩ := ob h
        refine J.op rfl (A.call (L1 := []) Try.call39 rfl (term_putList_ok fxa_3 hr180) rfl rfl) ?_
        rintro _ _ _ ⟨v182, _, rfl, ⟨⟨s181, rfl, rfl, rfl⟩, rfl⟩, _, rfl⟩
        obtain ⟨s185, hs186, h⟩ := ob h
        refine J.op rfl (A.call (L1 := [Bld b146 s153]) Try.call37 rfl (WriteString_ok hs186) rfl rfl) ?_
        rintro _ _ _ ⟨v187, _, rfl, ⟨⟨s185, rfl, rfl, rfl⟩, rfl⟩, _, rfl⟩
        refine J.nil ?_
        refine CJ.region ?_
        refine J.val rfl rfl (V.fad Try.underlying24 rfl nz22 rfl) ?_
        refine J.val (v := .slice adxa_4 xa.2.2.2.2.1.length cpxa_4) rfl rfl (V.ld rfl (Ld.sc sc22 (Rd.cl 1 rfl rfl))) ?_
        obtain ⟨r188, hr189, h⟩ := ob h
        refine J.op rfl (A.call (L1 := []) Try.call39 rfl (term_putList_ok fxa_4 hr189) rfl rfl) ?_
        rintro _ _ _ ⟨v191, _, rfl, ⟨⟨s190, rfl, rfl, rfl⟩, rfl⟩, _, rfl⟩
        obtain ⟨s194, hs195, h⟩ := ob h
        refine J.op rfl (A.call (L1 := [Bld b146 s185]) Try.call37 rfl (WriteString_ok hs195) rfl rfl) ?_
        rintro _ _ _ ⟨v196, _, rfl, ⟨⟨s194, rfl, rfl, rfl⟩, rfl⟩, _, rfl⟩
        refine J.nil ?_
        refine CJ.seq ?_
        refine CJ.region ?_
        obtain ⟨s197, hs198, h⟩ := ob h
        refine J.op rfl (A.call (L1 := [Bld b146 s194]) Try.call41 rfl (BString_ok hs198) rfl rfl) ?_
        rintro _ _ _ ⟨v199, _, rfl, ⟨⟨s197, rfl, rfl, rfl⟩, rfl⟩, _, rfl⟩
        refine J.val (v := .string ⟨s197.toArray⟩) rfl rfl (V.as rfl) ?_
        refine J.val (v := .int .i64 0) rfl rfl (V.as rfl) ?_
        refine J.nil ?_
        refine CJ.ret ?_
        have e := Option.some.inj h
        subst e
        exact ⟨_, [], Res.two rfl rfl rfl, ⟨s197, 0, rfl, rfl, rfl⟩, (Hp.le_refl _), fun w hs => (Sep.dropAt 0 rfl hs)⟩
      · have h := cf hc178 h
        refine CJ.seq ?_
        refine CJ.region ?_
        refine J.val (v := .bool (decide (xa.1 = 4))) rfl rfl (V.eql rfl rfl) ?_
        refine J.val (v := .bool (decide (xa.1 = 4))) rfl rfl (V.as rfl) ?_
        refine J.nil ?_
        refine CJ.cond rfl (fun hc200 => ?_) (fun hc200 => ?_)
        · have h := ct hc200 h
          refine CJ.seq ?_
          refine CJ.mix [Cl b138 24 [.int .i64 xa.1, .int .i64 xa.2.1, .int .i64 xa.2.2.1, .slice adxa_3 xa.2.2.2.1.length cpxa_3, .slice adxa_4 xa.2.2.2.2.1.length cpxa_4, .slice adxa_5 xa.2.2.2.2.2.length cpxa_5]] [([0, 1, 2, 3, 4, 5, 6, 7], 8), ([], 9), ([], 10)] [] [] mixO (by decide +kernel) ⟨1, rfl, trivial⟩ rfl rfl rfl ?_
          refine JM.cons ?_
          refine JQ.val rfl rfl (V.fad Try.underlying24 rfl nz3 rfl) ?_
          refine JQ.val (v := .int .i64 xa.2.1) rfl rfl (V.ld rfl (Ld.sc sc3 (Rd.cl 0 rfl rfl))) ?_
          refine JQ.val rfl rfl (V.fad Try.underlying24 rfl nz3 rfl) ?_
          refine JQ.val (v := .int .i64 xa.2.2.1) rfl rfl (V.ld rfl (Ld.sc sc3 (Rd.cl 0 rfl rfl))) ?_
          refine JQ.val rfl rfl (V.fad Try.underlying24 rfl nz22 rfl) ?_
          refine JQ.val (v := .slice adxa_3 xa.2.2.2.1.length cpxa_3) rfl rfl (V.ld rfl (Ld.sc sc22 (Rd.cl 0 rfl rfl))) ?_
          obtain ⟨x225, hx226, h⟩ := ob h
          obtain ⟨p227, p228, p229⟩ := getI_some hx226
          obtain ⟨b230, o231, e232, a233⟩ := (fxa_3).at p228
          refine JQ.val rfl rfl (V.iad Try.underlying22 sz3 rfl e232 rfl p227 p229) ?_
          refine JQ.val (v := .int .i64 x225) rfl rfl (V.ld rfl (Ld.sc sc3 (Rd.k (a233).int (Hp.le_refl _)))) ?_
          refine JQ.nil ?_
          refine JA.op rfl (A.lit (K0 := Hp.nil) (ty := (.int .i64)) (xs := ([xa.2.1, xa.2.2.1, x225] : List Int)) Try.underlying22 inf3 rfl (by decide) rfl rfl rfl ⟨_, _, rfl, rfl, ⟨_, _, rfl, rfl, ⟨_, _, rfl, rfl, rfl⟩⟩⟩ rfl (by decide)) ?_
          rintro _ _ _ ⟨b234, rfl, rfl, rfl⟩
          have hn235 : ([xa.2.1, xa.2.2.1, x225] : List Int) ≠ [] → ∃ g, (some ⟨b234, 0, none⟩ : Option Addr) = some ⟨g, 0, none⟩ := fun _ => ⟨b234, rfl⟩
          refine ⟨fun w hs => Hold.sub (Hp.le_refl _) ⟨2, rfl, trivial⟩ hs, ?_⟩
          refine JM.cons ?_
          refine JQ.nil ?_
          obtain ⟨r237, hr238, h⟩ := ob h
          refine JA.op rfl (A.call (L1 := [Row Hp.nil 3 (.int .i64) (.slice (some ⟨b234, 0, none⟩) (([xa.2.1, xa.2.2.1, x225] : List Int).length) 3) ([xa.2.1, xa.2.2.1, x225] : List Int)]) Try.call40 rfl (Tr.lend (Hp.nil_le _) (by decide) (fun K239 hK240 f241 => leb_All_ok f241 hr238)) rfl rfl) ?_
          rintro _ _ _ ⟨v243, _, rfl, ⟨⟨_, ⟨s242, rfl, rfl, rfl⟩, rfl⟩, rfl⟩, _, rfl⟩
          refine ⟨fun w hs => Hold.sub (Hp.le_refl _) ⟨2, rfl, trivial⟩ hs, ?_⟩
          refine JM.cons ?_
          refine JQ.nil ?_
          refine JA.front 1 rfl ?_
          obtain ⟨s246, hs247, h⟩ := ob h
          refine JA.op rfl (A.call (L1 := [Bld b146 s153]) Try.call37 rfl (WriteString_ok hs247) rfl rfl) ?_
          rintro _ _ _ ⟨v248, _, rfl, ⟨⟨s246, rfl, rfl, rfl⟩, rfl⟩, _, rfl⟩
          refine ⟨fun w hs => Hold.sub (Hp.le_refl _) ⟨2, rfl, trivial⟩ hs, ?_⟩
          refine JM.nil ?_
          refine JQ.nil ?_
          refine J.nil ?_
          refine CJ.seq ?_
          refine CJ.region ?_
          refine J.val rfl rfl (V.fad Try.underlying24 rfl nz22 rfl) ?_
          refine J.val (v := .slice adxa_5 xa.2.2.2.2.2.length cpxa_5) rfl rfl (V.ld rfl (Ld.sc sc22 (Rd.cl 2 rfl rfl))) ?_
          obtain ⟨r249, hr250, h⟩ := ob h
          refine J.op rfl (A.call (L1 := []) Try.call39 rfl (term_putList_ok fxa_5 hr250) rfl rfl) ?_
          rintro _ _ _ ⟨v252, _, rfl, ⟨⟨s251, rfl, rfl, rfl⟩, rfl⟩, _, rfl⟩
          obtain ⟨s255, hs256, h⟩ := ob h
          refine J.op rfl (A.call (L1 := [Bld b146 s246]) Try.call37 rfl (WriteString_ok hs256) rfl rfl) ?_
          rintro _ _ _ ⟨v257, _, rfl, ⟨⟨s255, rfl, rfl, rfl⟩, rfl⟩, _, rfl⟩
          refine J.nil ?_
          refine CJ.region ?_
          refine J.val rfl rfl (V.fad Try.underlying24 rfl nz22 rfl) ?_
          refine J.val (v := .slice adxa_4 xa.2.2.2.2.1.length cpxa_4) rfl rfl (V.ld rfl (Ld.sc sc22 (Rd.cl 2 rfl rfl))) ?_
          obtain ⟨r258, hr259, h⟩ := ob h
          refine J.op rfl (A.call (L1 := []) Try.call39 rfl (term_putList_ok fxa_4 hr259) rfl rfl) ?_
          rintro _ _ _ ⟨v261, _, rfl, ⟨⟨s260, rfl, rfl, rfl⟩, rfl⟩, _, rfl⟩
          obtain ⟨s264, hs265, h⟩ := ob h
          refine J.op rfl (A.call (L1 := [Bld b146 s255]) Try.call37 rfl (WriteString_ok hs265) rfl rfl) ?_
          rintro _ _ _ ⟨v266, _, rfl, ⟨⟨s264, rfl, rfl, rfl⟩, rfl⟩, _, rfl⟩
          refine J.nil ?_
          refine CJ.seq ?_
          refine CJ.region ?_
          obtain ⟨s267, hs268, h⟩ := ob h
          refine J.op rfl (A.call (L1 := [Bld b146 s264]) Try.call41 rfl (BString_ok hs268) rfl rfl) ?_
          rintro _ _ _ ⟨v269, _, rfl, ⟨⟨s267, rfl, rfl, rfl⟩, rfl⟩, _, rfl⟩
          refine J.val (v := .string ⟨s267.toArray⟩) rfl rfl (V.as rfl) ?_
          refine J.val (v := .int .i64 0) rfl rfl (V.as rfl) ?_
          refine J.nil ?_
          refine CJ.ret ?_
          have e := Option.some.inj h
          subst e
          exact ⟨_, [], Res.two rfl rfl rfl, ⟨s267, 0, rfl, rfl, rfl⟩, (Hp.le_refl _), fun w hs => (Sep.dropAt 0 rfl (Sep.dropAt 0 rfl hs))⟩
        · have h := cf hc200 h
          refine CJ.skip ?_
          refine CJ.seq ?_
          refine CJ.region ?_
          obtain ⟨s270, hs271, h⟩ := ob h
          refine J.op rfl (A.call (L1 := [Bld b146 s153]) Try.call41 rfl (BString_ok hs271) rfl rfl) ?_
          rintro _ _ _ ⟨v272, _, rfl, ⟨⟨s270, rfl, rfl, rfl⟩, rfl⟩, _, rfl⟩
          refine J.val (v := .string ⟨s270.toArray⟩) rfl rfl (V.as rfl) ?_
          refine J.val (v := .int .i64 0) rfl rfl (V.as rfl) ?_
          refine J.nil ?_
          refine CJ.ret ?_
          have e := Option.some.inj h
          subst e
          exact ⟨_, [], Res.two rfl rfl rfl, ⟨s270, 0, rfl, rfl, rfl⟩, (Hp.le_refl _), fun w hs => (Sep.dropAt 0 rfl hs)⟩

noncomputable def fn_law19_awake  : Option Bool :=
  (fn_term_Put ((2, 0, 0, ([1, 2] : List Int), ([3] : List Int), []))).bind fun (s49, i50) => (fn_term_Put (1, 0, 0, [], [], [])).bind fun (s56, i57) => some (((decide (s49 = ([2, 2, 1, 2, 1, 3] : List UInt8))) && (decide (i50 = 0))) && (decide (i57 = 3)))
set_option maxRecDepth 100000 in
set_option maxHeartbeats 4000000 in
theorem law19_awake_ok {K : Hp}    {r : Bool} (h : fn_law19_awake = some r) :
    Tr Try.prog 7 #[] K [] (fun v K' L' => (∃ (t34 : Bool), t34 = r ∧ .bool t34 = v ∧ L' = []) ∧ K = K') := by
  refine Tr.k ?_
  refine Tr.of Try.func7 rfl Try.ntmps7 rfl (fun E F => ?_)
  unfold fn_law19_awake at h
  refine CJ.seq ?_
  refine CJ.region ?_
  refine J.val (v := .bool false) rfl rfl (V.as rfl) ?_
  refine J.nil ?_
  refine CJ.seq ?_
  refine CJ.region ?_
  refine J.op rfl (A.lit (K0 := Hp.nil) (ty := (.int .i64)) (xs := ([1, 2] : List Int)) Try.underlying22 inf3 rfl (by decide) rfl rfl rfl ⟨_, _, rfl, rfl, ⟨_, _, rfl, rfl, rfl⟩⟩ rfl (by decide)) ?_
  rintro _ _ _ ⟨b35, rfl, rfl, rfl⟩
  have hn36 : ([1, 2] : List Int) ≠ [] → ∃ g, (some ⟨b35, 0, none⟩ : Option Addr) = some ⟨g, 0, none⟩ := fun _ => ⟨b35, rfl⟩
  refine J.op rfl (A.lit (K0 := Hp.nil) (ty := (.int .i64)) (xs := ([3] : List Int)) Try.underlying22 inf3 rfl (by decide) rfl rfl rfl ⟨_, _, rfl, rfl, rfl⟩ rfl (by decide)) ?_
  rintro _ _ _ ⟨b38, rfl, rfl, rfl⟩
  have hn39 : ([3] : List Int) ≠ [] → ∃ g, (some ⟨b38, 0, none⟩ : Option Addr) = some ⟨g, 0, none⟩ := fun _ => ⟨b38, rfl⟩
  refine J.val (v := .agg #[.int .i64 2, .int .i64 0, .int .i64 0, .slice (some ⟨b35, 0, none⟩) (([1, 2] : List Int).length) 2, .slice (some ⟨b38, 0, none⟩) (([3] : List Int).length) 1, .slice none 0 0]) rfl rfl (V.build inf24 places24 rfl rfl) ?_
  obtain ⟨r41, hr42, h⟩ := ob h
  refine J.front 1 rfl ?_
  refine J.op rfl (A.call (L1 := [Row Hp.nil 3 (.int .i64) (.slice (some ⟨b35, 0, none⟩) (([1, 2] : List Int).length) 2) ([1, 2] : List Int), Row Hp.nil 3 (.int .i64) (.slice (some ⟨b38, 0, none⟩) (([3] : List Int).length) 1) ([3] : List Int)]) Try.call18 rfl (Tr.lend (Hp.nil_le _) (by decide) (fun K43 hK44 f45 => Tr.lend (Hp.nil_le _) (by decide) (fun K46 hK47 f48 => term_Put_ok (f45.mono hK47) f48 isNil hr42))) rfl rfl) ?_
  rintro _ _ _ ⟨v51, _, rfl, ⟨⟨_, ⟨_, ⟨s49, i50, rfl, rfl, rfl⟩, rfl⟩, rfl⟩, rfl⟩, _, rfl⟩
  refine J.val (v := .tuple #[.string ⟨s49.toArray⟩, .int .i64 i50]) rfl rfl (V.mv rfl) ?_
  refine J.val (v := .string ⟨s49.toArray⟩) rfl rfl (V.ext rfl rfl) ?_
  refine J.val (v := .int .i64 i50) rfl rfl (V.ext rfl rfl) ?_
  refine J.val (v := .string ⟨s49.toArray⟩) rfl rfl (V.as rfl) ?_
  refine J.val (v := .int .i64 i50) rfl rfl (V.as rfl) ?_
  refine J.nil ?_
  refine CJ.seq ?_
  refine CJ.region ?_
  refine J.val (v := .agg #[.int .i64 1, .int .i64 0, .int .i64 0, .slice none 0 0, .slice none 0 0, .slice none 0 0]) rfl rfl (V.build inf24 places24 rfl rfl) ?_
  obtain ⟨r54, hr55, h⟩ := ob h
  refine J.op rfl (A.call (L1 := []) Try.call18 rfl (term_Put_ok isNil isNil isNil hr55) rfl rfl) ?_
  rintro _ _ _ ⟨v58, _, rfl, ⟨⟨s56, i57, rfl, rfl, rfl⟩, rfl⟩, _, rfl⟩
  refine J.val (v := .tuple #[.string ⟨s56.toArray⟩, .int .i64 i57]) rfl rfl (V.mv rfl) ?_
  refine J.val (v := .string ⟨s56.toArray⟩) rfl rfl (V.ext rfl rfl) ?_
  refine J.val (v := .int .i64 i57) rfl rfl (V.ext rfl rfl) ?_
  refine J.val (v := .string ⟨s56.toArray⟩) rfl rfl (V.as rfl) ?_
  refine J.val (v := .int .i64 i57) rfl rfl (V.as rfl) ?_
  refine J.nil ?_
  refine CJ.seq ?_
  refine CJ.region ?_
  refine J.val (v := .string ⟨s49.toArray⟩) rfl rfl (V.mv rfl) ?_
  refine J.val (v := .bool (decide (s49 = ([2, 2, 1, 2, 1, 3] : List UInt8)))) rfl rfl (V.eqs rfl rfl) ?_
  refine J.val (v := .bool (decide (s49 = ([2, 2, 1, 2, 1, 3] : List UInt8)))) rfl rfl (V.mv rfl) ?_
  refine J.cut 3 ?_
  refine @J.meet _ _ _ _ _ _ _ _ _ _ (fun ρ K' L' => Fits [(22, .bool ((decide (s49 = ([2, 2, 1, 2, 1, 3] : List UInt8))) && (decide (i50 = 0)))), (4, .int .i64 i57)] ρ ∧ K = K' ∧ L' = Row Hp.nil 3 (.int .i64) (.slice (some ⟨b35, 0, none⟩) (([1, 2] : List Int).length) 2) ([1, 2] : List Int) :: Row Hp.nil 3 (.int .i64) (.slice (some ⟨b38, 0, none⟩) (([3] : List Int).length) 1) ([3] : List Int) :: F) ?_ ?_
  · skip
    rcases bt (decide (s49 = ([2, 2, 1, 2, 1, 3] : List UInt8))) with hc63 | hc63
    · skip
      refine J.run rfl rfl rfl hc63 ?_
      refine J.val (v := .int .i64 i50) rfl rfl (V.mv rfl) ?_
      refine J.run rfl rfl rfl hc63 ?_
      refine J.val (v := .bool (decide (i50 = 0))) rfl rfl (V.eql rfl rfl) ?_
      refine J.val (v := .bool (decide (i50 = 0))) rfl rfl (V.pickT rfl hc63 rfl) ?_
      refine J.nil ?_
      exact ⟨rfl, ⟨(by simp only [hc63]; rfl), rfl, trivial⟩, rfl, rfl⟩
    · skip
      refine J.skip rfl rfl rfl rfl hc63 ?_
      refine J.skip rfl rfl rfl rfl hc63 ?_
      refine J.val (v := .bool false) rfl rfl (V.pickF rfl hc63 rfl) ?_
      refine J.nil ?_
      exact ⟨rfl, ⟨(by simp only [hc63]; rfl), rfl, trivial⟩, rfl, rfl⟩
  · rintro ρ _ _ ⟨hf, rfl, rfl⟩
    obtain ⟨ρ, rfl⟩ := hf.ex
    refine J.val (v := .bool ((decide (s49 = ([2, 2, 1, 2, 1, 3] : List UInt8))) && (decide (i50 = 0)))) rfl rfl (V.mv rfl) ?_
    refine J.cut 3 ?_
    refine @J.meet _ _ _ _ _ _ _ _ _ _ (fun ρ K' L' => Fits [(26, .bool (((decide (s49 = ([2, 2, 1, 2, 1, 3] : List UInt8))) && (decide (i50 = 0))) && (decide (i57 = 3))))] ρ ∧ K = K' ∧ L' = Row Hp.nil 3 (.int .i64) (.slice (some ⟨b35, 0, none⟩) (([1, 2] : List Int).length) 2) ([1, 2] : List Int) :: Row Hp.nil 3 (.int .i64) (.slice (some ⟨b38, 0, none⟩) (([3] : List Int).length) 1) ([3] : List Int) :: F) ?_ ?_
    · skip
      rcases bt ((decide (s49 = ([2, 2, 1, 2, 1, 3] : List UInt8))) && (decide (i50 = 0))) with hc66 | hc66
      · skip
        refine J.run rfl rfl rfl hc66 ?_
        refine J.val (v := .int .i64 i57) rfl rfl (V.mv rfl) ?_
        refine J.run rfl rfl rfl hc66 ?_
        refine J.val (v := .bool (decide (i57 = 3))) rfl rfl (V.eql rfl rfl) ?_
        refine J.val (v := .bool (decide (i57 = 3))) rfl rfl (V.pickT rfl hc66 rfl) ?_
        refine J.nil ?_
        exact ⟨rfl, ⟨(by simp only [hc66]; rfl), trivial⟩, rfl, rfl⟩
      · skip
        refine J.skip rfl rfl rfl rfl hc66 ?_
        refine J.skip rfl rfl rfl rfl hc66 ?_
        refine J.val (v := .bool false) rfl rfl (V.pickF rfl hc66 rfl) ?_
        refine J.nil ?_
        exact ⟨rfl, ⟨(by simp only [hc66]; rfl), trivial⟩, rfl, rfl⟩
    · rintro ρ _ _ ⟨hf, rfl, rfl⟩
      obtain ⟨ρ, rfl⟩ := hf.ex
      refine J.val (v := .bool (((decide (s49 = ([2, 2, 1, 2, 1, 3] : List UInt8))) && (decide (i50 = 0))) && (decide (i57 = 3)))) rfl rfl (V.as rfl) ?_
      refine J.nil ?_
      refine CJ.ret ?_
      have e := Option.some.inj h
      subst e
      exact ⟨_, [], Res.one rfl rfl, ⟨((decide (s49 = ([2, 2, 1, 2, 1, 3] : List UInt8))) && (decide (i50 = 0))) && (decide (i57 = 3)), rfl, rfl, rfl⟩, (Hp.le_refl _), fun w hs => (Sep.dropAt 0 rfl (Sep.dropAt 0 rfl hs))⟩

noncomputable def fn_term_beyond (xa : Int) : Option Int :=
  some (xa)
set_option maxRecDepth 100000 in
set_option maxHeartbeats 4000000 in
theorem term_beyond_ok {K : Hp} {xa : Int}   {r : Int} (h : fn_term_beyond xa = some r) :
    Tr Try.prog 45 #[.int .i64 xa] K [] (fun v K' L' => (∃ (i3 : Int) (b2 : Nat), i3 = r ∧ .func (.func 61) #[] #[.pointer (some ⟨b2, 0, none⟩)] = v ∧ L' = [Cl b2 3 [.int .i64 i3]]) ∧ K = K') := by
  refine Tr.k ?_
  refine Tr.of Try.func45 rfl Try.ntmps45 rfl (fun E F => ?_)
  unfold fn_term_beyond at h
  refine CJ.seq ?_
  refine CJ.region ?_
  refine J.op rfl (A.box (v := .int .i64 xa) (cs := [.int .i64 xa]) rfl rfl) ?_
  rintro _ _ _ ⟨b4, rfl, rfl, rfl⟩
  refine J.val (v := .nilFunc) rfl rfl (V.as rfl) ?_
  refine J.nil ?_
  refine CJ.seq ?_
  refine CJ.region ?_
  refine J.val (v := .func (.func 61) #[] #[.pointer (some ⟨b4, 0, none⟩)]) rfl rfl (V.mkf rfl) ?_
  refine J.val (v := .func (.func 61) #[] #[.pointer (some ⟨b4, 0, none⟩)]) rfl rfl (V.as rfl) ?_
  refine J.nil ?_
  refine CJ.ret ?_
  have e := Option.some.inj h
  subst e
  exact ⟨_, [Cl b4 3 [.int .i64 xa]], Res.one rfl rfl, ⟨xa, b4, rfl, rfl, rfl⟩, (Hp.le_refl _), fun w hs => hs⟩

noncomputable def fn_term_beyond_1_ip0_i (xa : Int) (qa0 : Int) : Option (Bool × Int) :=
  some (((decide (xa < 0)) || (decide (qa0 ≤ xa)), qa0))
set_option maxRecDepth 100000 in
set_option maxHeartbeats 4000000 in
theorem term_beyond_1_ip0_i_ok {K : Hp} {xa : Int} {qa0 : Int} {pba : Nat}  {r : (Bool × Int)} (h : fn_term_beyond_1_ip0_i xa qa0 = some r) :
    Tr Try.prog 61 #[.int .i64 xa, .pointer (some ⟨pba, 0, none⟩)] K [Cl pba 3 [.int .i64 qa0]] (fun v K' L' => (∃ (t4 : Bool) (i5 : Int), (t4, i5) = r ∧ .bool t4 = v ∧ L' = [Cl pba 3 [.int .i64 i5]]) ∧ K = K') := by
  refine Tr.k ?_
  refine Tr.of Try.func61 rfl Try.ntmps61 rfl (fun E F => ?_)
  unfold fn_term_beyond_1_ip0_i at h
  refine CJ.seq ?_
  refine CJ.region ?_
  refine J.val (v := .bool false) rfl rfl (V.as rfl) ?_
  refine J.nil ?_
  refine CJ.seq ?_
  refine CJ.region ?_
  refine J.val (v := .int .i64 xa) rfl rfl (V.mv rfl) ?_
  refine J.val (v := .bool (decide (xa < 0))) rfl rfl (V.lss rfl rfl) ?_
  refine J.val (v := .bool (decide (xa < 0))) rfl rfl (V.mv rfl) ?_
  refine J.cut 4 ?_
  refine @J.meet _ _ _ _ _ _ _ _ _ _ (fun ρ K' L' => Fits [(10, .bool ((decide (xa < 0)) || (decide (qa0 ≤ xa))))] ρ ∧ K = K' ∧ L' = Cl pba 3 [.int .i64 qa0] :: F) ?_ ?_
  · skip
    rcases bt (decide (xa < 0)) with hc8 | hc8
    · skip
      refine J.skip rfl rfl rfl rfl hc8 ?_
      refine J.skip rfl rfl rfl rfl hc8 ?_
      refine J.skip rfl rfl rfl rfl hc8 ?_
      refine J.val (v := .bool true) rfl rfl (V.pickT rfl hc8 rfl) ?_
      refine J.nil ?_
      exact ⟨rfl, ⟨(by simp only [hc8]; rfl), trivial⟩, rfl, rfl⟩
    · skip
      refine J.run rfl rfl rfl hc8 ?_
      refine J.val (v := .int .i64 xa) rfl rfl (V.mv rfl) ?_
      refine J.run rfl rfl rfl hc8 ?_
      refine J.val (v := .int .i64 qa0) rfl rfl (V.ld rfl (Ld.sc sc3 (Rd.cl 0 rfl rfl))) ?_
      refine J.run rfl rfl rfl hc8 ?_
      refine J.val (v := .bool (decide (qa0 ≤ xa))) rfl rfl (V.geq rfl rfl) ?_
      refine J.val (v := .bool (decide (qa0 ≤ xa))) rfl rfl (V.pickF rfl hc8 rfl) ?_
      refine J.nil ?_
      exact ⟨rfl, ⟨(by simp only [hc8]; rfl), trivial⟩, rfl, rfl⟩
  · rintro ρ _ _ ⟨hf, rfl, rfl⟩
    obtain ⟨ρ, rfl⟩ := hf.ex
    refine J.val (v := .bool ((decide (xa < 0)) || (decide (qa0 ≤ xa)))) rfl rfl (V.as rfl) ?_
    refine J.nil ?_
    refine CJ.ret ?_
    have e := Option.some.inj h
    subst e
    exact ⟨_, [Cl pba 3 [.int .i64 qa0]], Res.one rfl rfl, ⟨(decide (xa < 0)) || (decide (qa0 ≤ xa)), qa0, rfl, rfl, rfl⟩, (Hp.le_refl _), fun w hs => hs⟩
noncomputable def fn_slices_IndexFunc_int_int_k_term_beyond_1_p0_i_l1 (xa : (List Int)) : (Int × Int) → Option ((Int × Int) ⊕ (Int ⊕ (Int × Int))) := fun ((i224, i225) : (Int × Int)) => cond (decide (i224 < (((xa.length : Nat) : Int)))) ((getI xa i224).bind fun x251 => (fn_term_beyond_1_ip0_i x251 i225).bind fun (t262, i263) => cond (t262) (some (.inr ((.inr ((i224, i263)))))) (some (.inl ((IntKind.wrap .i64 (i224 + 1), i263))))) (some (.inr (.inl i225)))
noncomputable def fn_slices_IndexFunc_int_int_k_term_beyond_1_p0_i (xa : (List Int)) (qa0 : Int) : Option (Int × Int) :=
  (loop (fn_slices_IndexFunc_int_int_k_term_beyond_1_p0_i_l1 xa) (0, qa0) : Option (Int ⊕ (Int × Int))).bind fun o => match o with | .inr r => some r | .inl i201 => some (((-1), i201))
set_option maxRecDepth 100000 in
set_option maxHeartbeats 4000000 in
theorem slices_IndexFunc_int_int_k_term_beyond_1_p0_i_ok {K : Hp} {xa : (List Int)} {qa0 : Int} {pba : Nat} {adxa_0 : Option Addr} {cpxa_0 : Nat} (fxa_0 : Is K (.sl (.int .i64)) [.slice adxa_0 xa.length cpxa_0] xa) {r : (Int × Int)} (h : fn_slices_IndexFunc_int_int_k_term_beyond_1_p0_i xa qa0 = some r) :
    Tr Try.prog 62 #[.slice adxa_0 xa.length cpxa_0, .func (.func 61) #[] #[.pointer (some ⟨pba, 0, none⟩)]] K [Cl pba 3 [.int .i64 qa0]] (fun v K' L' => (∃ (i135 : Int) (i136 : Int), (i135, i136) = r ∧ .int .i64 i135 = v ∧ L' = [Cl pba 3 [.int .i64 i136]]) ∧ K = K') := by
  refine Tr.k ?_
  refine Tr.of Try.func62 rfl Try.ntmps62 rfl (fun E F => ?_)
  unfold fn_slices_IndexFunc_int_int_k_term_beyond_1_p0_i at h
  refine CJ.seq ?_
  refine CJ.region ?_
  refine J.val (v := .int .i64 0) rfl rfl (V.as rfl) ?_
  refine J.nil ?_
  refine CJ.seq ?_
  refine CJ.seq ?_
  refine CJ.region ?_
  refine J.val (v := .slice adxa_0 xa.length cpxa_0) rfl rfl (V.mv rfl) ?_
  refine J.val (v := .int .i64 (((xa.length : Nat) : Int))) rfl rfl (V.len Try.underlying22 rfl) ?_
  refine J.val (v := .int .i64 0) rfl rfl (V.mv rfl) ?_
  refine J.nil ?_
  obtain ⟨o202, ho203, h⟩ := ob h
  refine CJ.joinN (o := o202) (fun s ρ K' L' => ∃ (i201 : Int), i201 = s ∧ Fits [] ρ ∧ K = K' ∧ L' = Cl pba 3 [.int .i64 i201] :: F) ?_ ?_
  · skip
    refine CJ.block ?_
    refine CJ.loop (fun s ρ K' L' => ∃ (i224 : Int) (i225 : Int), (i224, i225) = s ∧ Fits [(0, .slice adxa_0 xa.length cpxa_0), (1, .func (.func 61) #[] #[.pointer (some ⟨pba, 0, none⟩)]), (7, .int .i64 (((xa.length : Nat) : Int))), (8, .int .i64 i224)] ρ ∧ K = K' ∧ L' = Cl pba 3 [.int .i64 i225] :: F) ho203 ⟨0, qa0, rfl, ⟨rfl, rfl, rfl, rfl, trivial⟩, rfl, rfl⟩ ?_
    rintro s ρ _ _ r249 ⟨i224, i225, rfl, hf247, rfl, rfl⟩ h246
    obtain ⟨ρ, rfl⟩ := hf247.ex
    refine CJ.seq ?_
    refine CJ.region ?_
    refine J.val (v := .bool (decide (i224 < (((xa.length : Nat) : Int))))) rfl rfl (V.lss rfl rfl) ?_
    refine J.nil ?_
    refine CJ.seq ?_
    refine CJ.cond rfl (fun hc250 => ?_) (fun hc250 => ?_)
    · have h246 := ct hc250 h246
      refine CJ.skip ?_
      refine CJ.seq ?_
      refine CJ.block ?_
      refine CJ.seq ?_
      refine CJ.region ?_
      refine J.val (v := .int .i64 i224) rfl rfl (V.mv rfl) ?_
      refine J.val (v := .int .i64 i224) rfl rfl (V.as rfl) ?_
      refine J.nil ?_
      refine CJ.seq ?_
      refine CJ.region ?_
      refine J.val (v := .func (.func 61) #[] #[.pointer (some ⟨pba, 0, none⟩)]) rfl rfl (V.mv rfl) ?_
      refine J.val (v := .slice adxa_0 xa.length cpxa_0) rfl rfl (V.mv rfl) ?_
      refine J.val (v := .int .i64 i224) rfl rfl (V.mv rfl) ?_
      obtain ⟨x251, hx252, h246⟩ := ob h246
      obtain ⟨p253, p254, p255⟩ := getI_some hx252
      obtain ⟨b256, o257, e258, a259⟩ := (fxa_0).at p254
      refine J.val rfl rfl (V.iad Try.underlying22 sz3 rfl e258 rfl p253 p255) ?_
      refine J.val (v := .int .i64 x251) rfl rfl (V.ld rfl (Ld.sc sc3 (Rd.k (a259).int (Hp.le_refl _)))) ?_
      obtain ⟨r260, hr261, h246⟩ := ob h246
      refine J.op rfl (A.call (L1 := [Cl pba 3 [.int .i64 i225]]) Try.call61 rfl (term_beyond_1_ip0_i_ok hr261) rfl rfl) ?_
      rintro _ _ _ ⟨v264, _, rfl, ⟨⟨t262, i263, rfl, rfl, rfl⟩, rfl⟩, _, rfl⟩
      refine J.nil ?_
      refine CJ.cond rfl (fun hc267 => ?_) (fun hc267 => ?_)
      · have h246 := ct hc267 h246
        refine CJ.seq ?_
        refine CJ.region ?_
        refine J.val (v := .int .i64 i224) rfl rfl (V.mv rfl) ?_
        refine J.val (v := .int .i64 i224) rfl rfl (V.as rfl) ?_
        refine J.nil ?_
        refine CJ.ret ?_
        have e := Option.some.inj h246
        subst e
        refine ⟨nofun, fun e => ?_⟩
        subst e
        refine .inr ⟨nofun, ?_⟩
        have e := Option.some.inj h
        subst e
        exact ⟨_, [Cl pba 3 [.int .i64 i263]], Res.one rfl rfl, ⟨i224, i263, rfl, rfl, rfl⟩, (Hp.le_refl _), fun w hs => hs⟩
      · have h246 := cf hc267 h246
        refine CJ.skip ?_
        refine CJ.region ?_
        refine J.val (v := .int .i64 (IntKind.wrap .i64 (i224 + 1))) rfl rfl (V.add rfl rfl) ?_
        refine J.val (v := .int .i64 (IntKind.wrap .i64 (i224 + 1))) rfl rfl (V.mv rfl) ?_
        refine J.nil ?_
        have e := Option.some.inj h246
        subst e
        exact ⟨rfl, ⟨IntKind.wrap .i64 (i224 + 1), i263, rfl, ⟨rfl, rfl, rfl, rfl, trivial⟩, rfl, rfl⟩⟩
    · have h246 := cf hc250 h246
      refine CJ.exit ?_
      have e := Option.some.inj h246
      subst e
      refine ⟨nofun, fun e => ?_⟩
      subst e
      exact .inl ⟨rfl, _, rfl, ⟨i225, rfl, trivial, rfl, rfl⟩⟩
  · rintro s ρ _ _ ho268 ⟨i201, rfl, hf269, rfl, rfl⟩
    subst ho268
    obtain ⟨ρ, rfl⟩ := hf269.ex
    refine PJ.done ?_
    refine CJ.seq ?_
    refine CJ.region ?_
    refine J.val (v := .int .i64 (-1)) rfl rfl (V.as rfl) ?_
    refine J.nil ?_
    refine CJ.ret ?_
    have e := Option.some.inj h
    subst e
    exact ⟨_, [Cl pba 3 [.int .i64 i201]], Res.one rfl rfl, ⟨(-1), i201, rfl, rfl, rfl⟩, (Hp.le_refl _), fun w hs => hs⟩

noncomputable def fn_slices_ContainsFunc_int_int_k_term_beyond_1_p0_i (xa : (List Int)) (qa0 : Int) : Option (Bool × Int) :=
  (fn_slices_IndexFunc_int_int_k_term_beyond_1_p0_i xa qa0).bind fun (i12, i13) => some ((decide (0 ≤ i12), i13))
set_option maxRecDepth 100000 in
set_option maxHeartbeats 4000000 in
theorem slices_ContainsFunc_int_int_k_term_beyond_1_p0_i_ok {K : Hp} {xa : (List Int)} {qa0 : Int} {pba : Nat} {adxa_0 : Option Addr} {cpxa_0 : Nat} (fxa_0 : Is K (.sl (.int .i64)) [.slice adxa_0 xa.length cpxa_0] xa) {r : (Bool × Int)} (h : fn_slices_ContainsFunc_int_int_k_term_beyond_1_p0_i xa qa0 = some r) :
    Tr Try.prog 46 #[.slice adxa_0 xa.length cpxa_0, .func (.func 61) #[] #[.pointer (some ⟨pba, 0, none⟩)]] K [Cl pba 3 [.int .i64 qa0]] (fun v K' L' => (∃ (t8 : Bool) (i9 : Int), (t8, i9) = r ∧ .bool t8 = v ∧ L' = [Cl pba 3 [.int .i64 i9]]) ∧ K = K') := by
  refine Tr.k ?_
  refine Tr.of Try.func46 rfl Try.ntmps46 rfl (fun E F => ?_)
  unfold fn_slices_ContainsFunc_int_int_k_term_beyond_1_p0_i at h
  refine CJ.seq ?_
  refine CJ.region ?_
  refine J.val (v := .bool false) rfl rfl (V.as rfl) ?_
  refine J.nil ?_
  refine CJ.seq ?_
  refine CJ.region ?_
  refine J.val (v := .slice adxa_0 xa.length cpxa_0) rfl rfl (V.mv rfl) ?_
  refine J.val (v := .func (.func 61) #[] #[.pointer (some ⟨pba, 0, none⟩)]) rfl rfl (V.mv rfl) ?_
  obtain ⟨r10, hr11, h⟩ := ob h
  refine J.op rfl (A.call (L1 := [Cl pba 3 [.int .i64 qa0]]) Try.call62 rfl (slices_IndexFunc_int_int_k_term_beyond_1_p0_i_ok fxa_0 hr11) rfl rfl) ?_
  rintro _ _ _ ⟨v14, _, rfl, ⟨⟨i12, i13, rfl, rfl, rfl⟩, rfl⟩, _, rfl⟩
  refine J.val (v := .bool (decide (0 ≤ i12))) rfl rfl (V.geq rfl rfl) ?_
  refine J.val (v := .bool (decide (0 ≤ i12))) rfl rfl (V.as rfl) ?_
  refine J.nil ?_
  refine CJ.ret ?_
  have e := Option.some.inj h
  subst e
  exact ⟨_, [Cl pba 3 [.int .i64 i13]], Res.one rfl rfl, ⟨decide (0 ≤ i12), i13, rfl, rfl, rfl⟩, (Hp.le_refl _), fun w hs => hs⟩

noncomputable def fn_term_within (xa : (Int × Int × Int × (List Int) × (List Int) × (List Int))) (xb : (Int × Int × (List (List (Int × Bool))) × (List (Int × Bool)) × (List (Int × (List (Int × Int)) × (List (List (Int × Bool))) × (List (Int × Bool)))))) : Option Bool :=
  (fn_term_beyond (((xb.2.2.1.length : Nat) : Int))).bind fun i136 => (fn_term_beyond xb.1).bind fun i180 => (fn_slices_ContainsFunc_int_int_k_term_beyond_1_p0_i xa.2.2.2.1 i180).bind fun (t187, i188) => cond (t187) (some (false)) ((fn_slices_ContainsFunc_int_int_k_term_beyond_1_p0_i xa.2.2.2.2.1 i136).bind fun (t195, i196) => cond (t195) (some (false)) ((fn_term_beyond xb.2.1).bind fun i203 => (fn_slices_ContainsFunc_int_int_k_term_beyond_1_p0_i xa.2.2.2.2.2 i203).bind fun (t210, i211) => cond (t210) (some (false)) (cond (!decide (xa.1 = 4)) (some (true)) ((fn_term_beyond_1_ip0_i xa.2.2.1 i196).bind fun (t242, i243) => cond (!t242) ((fn_term_beyond (((xb.2.2.2.2.length : Nat) : Int))).bind fun i250 => (fn_term_beyond_1_ip0_i xa.2.1 i250).bind fun (t257, i258) => some (!t257)) (some (false))))))
set_option maxRecDepth 100000 in
set_option maxHeartbeats 4000000 in
theorem term_within_ok {K : Hp} {xa : (Int × Int × Int × (List Int) × (List Int) × (List Int))} {xb : (Int × Int × (List (List (Int × Bool))) × (List (Int × Bool)) × (List (Int × (List (Int × Int)) × (List (List (Int × Bool))) × (List (Int × Bool)))))} {adxa_3 : Option Addr} {cpxa_3 : Nat} {adxa_4 : Option Addr} {cpxa_4 : Nat} {adxa_5 : Option Addr} {cpxa_5 : Nat} {adxb_2 : Option Addr} {cpxb_2 : Nat} {adxb_3 : Option Addr} {cpxb_3 : Nat} {adxb_4 : Option Addr} {cpxb_4 : Nat} (fxa_3 : Is K (.sl (.int .i64)) [.slice adxa_3 xa.2.2.2.1.length cpxa_3] xa.2.2.2.1) (fxa_4 : Is K (.sl (.int .i64)) [.slice adxa_4 xa.2.2.2.2.1.length cpxa_4] xa.2.2.2.2.1) (fxa_5 : Is K (.sl (.int .i64)) [.slice adxa_5 xa.2.2.2.2.2.length cpxa_5] xa.2.2.2.2.2) (fxb_2 : Is K (.sl (.one (.sl (.cons (.int .i64) (.one .bool))))) [.slice adxb_2 xb.2.2.1.length cpxb_2] xb.2.2.1) (fxb_3 : Is K (.sl (.cons (.int .i64) (.one .bool))) [.slice adxb_3 xb.2.2.2.1.length cpxb_3] xb.2.2.2.1) (fxb_4 : Is K (.sl (.cons (.int .i64) (.cons (.sl (.cons (.int .i64) (.one (.int .i64)))) (.cons (.sl (.one (.sl (.cons (.int .i64) (.one .bool))))) (.one (.one (.sl (.cons (.int .i64) (.one .bool))))))))) [.slice adxb_4 xb.2.2.2.2.length cpxb_4] xb.2.2.2.2) {r : Bool} (h : fn_term_within xa xb = some r) :
    Tr Try.prog 23 #[.agg #[.int .i64 xa.1, .int .i64 xa.2.1, .int .i64 xa.2.2.1, .slice adxa_3 xa.2.2.2.1.length cpxa_3, .slice adxa_4 xa.2.2.2.2.1.length cpxa_4, .slice adxa_5 xa.2.2.2.2.2.length cpxa_5], .agg #[.int .i64 xb.1, .int .i64 xb.2.1, .slice adxb_2 xb.2.2.1.length cpxb_2, .slice adxb_3 xb.2.2.2.1.length cpxb_3, .slice adxb_4 xb.2.2.2.2.length cpxb_4]] K [] (fun v K' L' => (∃ (t131 : Bool), t131 = r ∧ .bool t131 = v ∧ L' = []) ∧ K = K') := by
  refine Tr.k ?_
  refine Tr.of Try.func23 rfl Try.ntmps23 rfl (fun E F => ?_)
  unfold fn_term_within at h
  refine CJ.seq ?_
  refine CJ.region ?_
  refine J.op rfl (A.box (v := .agg #[.int .i64 xa.1, .int .i64 xa.2.1, .int .i64 xa.2.2.1, .slice adxa_3 xa.2.2.2.1.length cpxa_3, .slice adxa_4 xa.2.2.2.2.1.length cpxa_4, .slice adxa_5 xa.2.2.2.2.2.length cpxa_5]) (cs := [.int .i64 xa.1, .int .i64 xa.2.1, .int .i64 xa.2.2.1, .slice adxa_3 xa.2.2.2.1.length cpxa_3, .slice adxa_4 xa.2.2.2.2.1.length cpxa_4, .slice adxa_5 xa.2.2.2.2.2.length cpxa_5]) rfl rfl) ?_
  rintro _ _ _ ⟨b132, rfl, rfl, rfl⟩
  refine J.op rfl (A.box (v := .agg #[.int .i64 xb.1, .int .i64 xb.2.1, .slice adxb_2 xb.2.2.1.length cpxb_2, .slice adxb_3 xb.2.2.2.1.length cpxb_3, .slice adxb_4 xb.2.2.2.2.length cpxb_4]) (cs := [.int .i64 xb.1, .int .i64 xb.2.1, .slice adxb_2 xb.2.2.1.length cpxb_2, .slice adxb_3 xb.2.2.2.1.length cpxb_3, .slice adxb_4 xb.2.2.2.2.length cpxb_4]) rfl rfl) ?_
  rintro _ _ _ ⟨b133, rfl, rfl, rfl⟩
  refine J.val (v := .bool false) rfl rfl (V.as rfl) ?_
  refine J.nil ?_
  refine CJ.seq ?_
  refine CJ.region ?_
  refine J.val rfl rfl (V.fad Try.underlying34 rfl nz25 rfl) ?_
  refine J.val (v := .slice adxb_2 xb.2.2.1.length cpxb_2) rfl rfl (V.ld rfl (Ld.sc sc25 (Rd.cl 0 rfl rfl))) ?_
  refine J.val (v := .int .i64 (((xb.2.2.1.length : Nat) : Int))) rfl rfl (V.len Try.underlying25 rfl) ?_
  obtain ⟨r134, hr135, h⟩ := ob h
  refine J.op rfl (A.call (L1 := []) Try.call45 rfl (term_beyond_ok hr135) rfl rfl) ?_
  rintro _ _ _ ⟨v138, _, rfl, ⟨⟨i136, b137, rfl, rfl, rfl⟩, rfl⟩, _, rfl⟩
  refine J.val (v := .func (.func 61) #[] #[.pointer (some ⟨b137, 0, none⟩)]) rfl rfl (V.as rfl) ?_
  refine J.nil ?_
  refine CJ.seq ?_
  refine CJ.seq ?_
  refine CJ.mix [Cl b133 34 [.int .i64 xb.1, .int .i64 xb.2.1, .slice adxb_2 xb.2.2.1.length cpxb_2, .slice adxb_3 xb.2.2.2.1.length cpxb_3, .slice adxb_4 xb.2.2.2.2.length cpxb_4], Cl b132 24 [.int .i64 xa.1, .int .i64 xa.2.1, .int .i64 xa.2.2.1, .slice adxa_3 xa.2.2.2.1.length cpxa_3, .slice adxa_4 xa.2.2.2.2.1.length cpxa_4, .slice adxa_5 xa.2.2.2.2.2.length cpxa_5]] [([0, 1, 2, 3], 4), ([], 5), ([6, 7, 8, 9], 10), ([11, 12, 13, 14, 15, 16], 17), ([], 18)] [19] [] mixO (by decide +kernel) ⟨1, rfl, 1, rfl, trivial⟩ rfl rfl rfl ?_
  refine JM.cons ?_
  refine JQ.val rfl rfl (V.fad Try.underlying24 rfl nz22 rfl) ?_
  refine JQ.val (v := .slice adxa_3 xa.2.2.2.1.length cpxa_3) rfl rfl (V.ld rfl (Ld.sc sc22 (Rd.cl 1 rfl rfl))) ?_
  refine JQ.val rfl rfl (V.fad Try.underlying34 rfl nz3 rfl) ?_
  refine JQ.val (v := .int .i64 xb.1) rfl rfl (V.ld rfl (Ld.sc sc3 (Rd.cl 0 rfl rfl))) ?_
  refine JQ.nil ?_
  obtain ⟨r178, hr179, h⟩ := ob h
  refine JA.op rfl (A.call (L1 := []) Try.call45 rfl (term_beyond_ok hr179) rfl rfl) ?_
  rintro _ _ _ ⟨v182, _, rfl, ⟨⟨i180, b181, rfl, rfl, rfl⟩, rfl⟩, _, rfl⟩
  refine ⟨fun w hs => Hold.sub (Hp.le_refl _) ⟨2, rfl, 2, rfl, trivial⟩ hs, ?_⟩
  refine JM.cons ?_
  refine JQ.nil ?_
  obtain ⟨r185, hr186, h⟩ := ob h
  refine JA.op rfl (A.call (L1 := [Cl b181 3 [.int .i64 i180]]) Try.call46 rfl (slices_ContainsFunc_int_int_k_term_beyond_1_p0_i_ok fxa_3 hr186) rfl rfl) ?_
  rintro _ _ _ ⟨v189, _, rfl, ⟨⟨t187, i188, rfl, rfl, rfl⟩, rfl⟩, _, rfl⟩
  refine ⟨fun w hs => Hold.sub (Hp.le_refl _) ⟨2, rfl, 2, rfl, trivial⟩ hs, ?_⟩
  refine JM.cons ?_
  refine JQ.val (v := .bool t187) rfl rfl (V.mv rfl) ?_
  rcases bt (t187) with hc192 | hc192
  · have h := ct hc192 h
    refine JQ.skip rfl rfl rfl rfl hc192 ?_
    refine JQ.skip rfl rfl rfl rfl hc192 ?_
    refine JQ.skip rfl rfl rfl rfl hc192 ?_
    refine JQ.nil ?_
    refine JA.skip rfl rfl rfl rfl hc192 ?_
    refine JM.cons ?_
    refine JQ.val (v := .bool true) rfl rfl (V.pickT rfl hc192 rfl) ?_
    refine JQ.val (v := .bool true) rfl rfl (V.mv rfl) ?_
    refine JQ.skip rfl rfl rfl rfl rfl ?_
    refine JQ.skip rfl rfl rfl rfl rfl ?_
    refine JQ.skip rfl rfl rfl rfl rfl ?_
    refine JQ.skip rfl rfl rfl rfl rfl ?_
    refine JQ.nil ?_
    refine JA.skip rfl rfl rfl rfl rfl ?_
    refine JM.cons ?_
    refine JQ.nil ?_
    refine JA.skip rfl rfl rfl rfl rfl ?_
    refine JM.nil ?_
    refine JQ.val (v := .bool true) rfl rfl (V.pickT rfl rfl rfl) ?_
    refine JQ.nil ?_
    refine J.nil ?_
    refine CJ.condK (b := true) rfl rfl ?_
    refine CJ.seq ?_
    refine CJ.region ?_
    refine J.val (v := .bool false) rfl rfl (V.as rfl) ?_
    refine J.nil ?_
    refine CJ.ret ?_
    have e := Option.some.inj h
    subst e
    exact ⟨_, [], Res.one rfl rfl, ⟨false, rfl, rfl, rfl⟩, (Hp.le_refl _), fun w hs => (Sep.dropAt 0 rfl (Sep.dropAt 0 rfl (Sep.dropAt 0 rfl (Sep.dropAt 0 rfl hs))))⟩
  · have h := cf hc192 h
    refine JQ.run rfl rfl rfl hc192 ?_
    refine JQ.val rfl rfl (V.fad Try.underlying24 rfl nz22 rfl) ?_
    refine JQ.run rfl rfl rfl hc192 ?_
    refine JQ.val (v := .slice adxa_4 xa.2.2.2.2.1.length cpxa_4) rfl rfl (V.ld rfl (Ld.sc sc22 (Rd.cl 1 rfl rfl))) ?_
    refine JQ.run rfl rfl rfl hc192 ?_
    refine JQ.val (v := .func (.func 61) #[] #[.pointer (some ⟨b137, 0, none⟩)]) rfl rfl (V.mv rfl) ?_
    refine JQ.nil ?_
    refine JA.run rfl rfl rfl hc192 ?_
    obtain ⟨r193, hr194, h⟩ := ob h
    refine JA.front 1 rfl ?_
    refine JA.op rfl (A.call (L1 := [Cl b137 3 [.int .i64 i136]]) Try.call46 rfl (slices_ContainsFunc_int_int_k_term_beyond_1_p0_i_ok fxa_4 hr194) rfl rfl) ?_
    rintro _ _ _ ⟨v197, _, rfl, ⟨⟨t195, i196, rfl, rfl, rfl⟩, rfl⟩, _, rfl⟩
    refine ⟨fun w hs => Hold.sub (Hp.le_refl _) ⟨2, rfl, 2, rfl, trivial⟩ hs, ?_⟩
    refine JM.cons ?_
    refine JQ.val (v := .bool t195) rfl rfl (V.pickF rfl hc192 rfl) ?_
    refine JQ.val (v := .bool t195) rfl rfl (V.mv rfl) ?_
    rcases bt (t195) with hc200 | hc200
    · have h := ct hc200 h
      refine JQ.skip rfl rfl rfl rfl hc200 ?_
      refine JQ.skip rfl rfl rfl rfl hc200 ?_
      refine JQ.skip rfl rfl rfl rfl hc200 ?_
      refine JQ.skip rfl rfl rfl rfl hc200 ?_
      refine JQ.nil ?_
      refine JA.skip rfl rfl rfl rfl hc200 ?_
      refine JM.cons ?_
      refine JQ.nil ?_
      refine JA.skip rfl rfl rfl rfl hc200 ?_
      refine JM.nil ?_
      refine JQ.val (v := .bool true) rfl rfl (V.pickT rfl hc200 rfl) ?_
      refine JQ.nil ?_
      refine J.nil ?_
      refine CJ.condK (b := true) rfl rfl ?_
      refine CJ.seq ?_
      refine CJ.region ?_
      refine J.val (v := .bool false) rfl rfl (V.as rfl) ?_
      refine J.nil ?_
      refine CJ.ret ?_
      have e := Option.some.inj h
      subst e
      exact ⟨_, [], Res.one rfl rfl, ⟨false, rfl, rfl, rfl⟩, (Hp.le_refl _), fun w hs => (Sep.dropAt 0 rfl (Sep.dropAt 0 rfl (Sep.dropAt 0 rfl (Sep.dropAt 0 rfl hs))))⟩
    · have h := cf hc200 h
      refine JQ.run rfl rfl rfl hc200 ?_
      refine JQ.val rfl rfl (V.fad Try.underlying24 rfl nz22 rfl) ?_
      refine JQ.run rfl rfl rfl hc200 ?_
      refine JQ.val (v := .slice adxa_5 xa.2.2.2.2.2.length cpxa_5) rfl rfl (V.ld rfl (Ld.sc sc22 (Rd.cl 1 rfl rfl))) ?_
      refine JQ.run rfl rfl rfl hc200 ?_
      refine JQ.val rfl rfl (V.fad Try.underlying34 rfl nz3 rfl) ?_
      refine JQ.run rfl rfl rfl hc200 ?_
      refine JQ.val (v := .int .i64 xb.2.1) rfl rfl (V.ld rfl (Ld.sc sc3 (Rd.cl 0 rfl rfl))) ?_
      refine JQ.nil ?_
      refine JA.run rfl rfl rfl hc200 ?_
      obtain ⟨r201, hr202, h⟩ := ob h
      refine JA.op rfl (A.call (L1 := []) Try.call45 rfl (term_beyond_ok hr202) rfl rfl) ?_
      rintro _ _ _ ⟨v205, _, rfl, ⟨⟨i203, b204, rfl, rfl, rfl⟩, rfl⟩, _, rfl⟩
      refine ⟨fun w hs => Hold.sub (Hp.le_refl _) ⟨3, rfl, 3, rfl, trivial⟩ hs, ?_⟩
      refine JM.cons ?_
      refine JQ.nil ?_
      refine JA.run rfl rfl rfl hc200 ?_
      obtain ⟨r208, hr209, h⟩ := ob h
      refine JA.op rfl (A.call (L1 := [Cl b204 3 [.int .i64 i203]]) Try.call46 rfl (slices_ContainsFunc_int_int_k_term_beyond_1_p0_i_ok fxa_5 hr209) rfl rfl) ?_
      rintro _ _ _ ⟨v212, _, rfl, ⟨⟨t210, i211, rfl, rfl, rfl⟩, rfl⟩, _, rfl⟩
      refine ⟨fun w hs => Hold.sub (Hp.le_refl _) ⟨3, rfl, 3, rfl, trivial⟩ hs, ?_⟩
      refine JM.nil ?_
      refine JQ.val (v := .bool t210) rfl rfl (V.pickF rfl hc200 rfl) ?_
      refine JQ.nil ?_
      refine J.nil ?_
      refine CJ.cond rfl (fun hc215 => ?_) (fun hc215 => ?_)
      · have h := ct hc215 h
        refine CJ.seq ?_
        refine CJ.region ?_
        refine J.val (v := .bool false) rfl rfl (V.as rfl) ?_
        refine J.nil ?_
        refine CJ.ret ?_
        have e := Option.some.inj h
        subst e
        exact ⟨_, [], Res.one rfl rfl, ⟨false, rfl, rfl, rfl⟩, (Hp.le_refl _), fun w hs => (Sep.dropAt 0 rfl (Sep.dropAt 0 rfl (Sep.dropAt 0 rfl (Sep.dropAt 0 rfl (Sep.dropAt 0 rfl hs)))))⟩
      · have h := cf hc215 h
        refine CJ.skip ?_
        refine CJ.seq ?_
        refine CJ.mix [Cl b204 3 [.int .i64 i211], Cl b181 3 [.int .i64 i188], Cl b133 34 [.int .i64 xb.1, .int .i64 xb.2.1, .slice adxb_2 xb.2.2.1.length cpxb_2, .slice adxb_3 xb.2.2.2.1.length cpxb_3, .slice adxb_4 xb.2.2.2.2.length cpxb_4], Cl b132 24 [.int .i64 xa.1, .int .i64 xa.2.1, .int .i64 xa.2.2.1, .slice adxa_3 xa.2.2.2.1.length cpxa_3, .slice adxa_4 xa.2.2.2.2.1.length cpxa_4, .slice adxa_5 xa.2.2.2.2.2.length cpxa_5]] [([0, 1, 2, 3, 4, 5, 6], 7), ([8, 9, 10, 11, 12, 14, 15], 13), ([], 16)] [17, 18, 19, 20] [] mixO (by decide +kernel) ⟨0, rfl, 1, rfl, 1, rfl, 1, rfl, trivial⟩ rfl rfl rfl ?_
        refine JM.cons ?_
        refine JQ.val rfl rfl (V.fad Try.underlying24 rfl nz3 rfl) ?_
        refine JQ.val (v := .int .i64 xa.1) rfl rfl (V.ld rfl (Ld.sc sc3 (Rd.cl 3 rfl rfl))) ?_
        refine JQ.val (v := .bool (!decide (xa.1 = 4))) rfl rfl (V.neq rfl rfl) ?_
        refine JQ.val (v := .bool (!decide (xa.1 = 4))) rfl rfl (V.mv rfl) ?_
        rcases bt (!decide (xa.1 = 4)) with hc239 | hc239
        · have h := ct hc239 h
          refine JQ.skip rfl rfl rfl rfl hc239 ?_
          refine JQ.skip rfl rfl rfl rfl hc239 ?_
          refine JQ.skip rfl rfl rfl rfl hc239 ?_
          refine JQ.nil ?_
          refine JA.skip rfl rfl rfl rfl hc239 ?_
          refine JM.cons ?_
          refine JQ.skip rfl rfl rfl rfl hc239 ?_
          refine JQ.skip rfl rfl rfl rfl hc239 ?_
          refine JQ.skipu rfl rfl rfl rfl ?_
          refine JQ.skipu rfl rfl rfl rfl ?_
          refine JQ.skipu rfl rfl rfl rfl ?_
          refine JQ.skipu rfl rfl rfl rfl ?_
          refine JQ.skipu rfl rfl rfl rfl ?_
          refine JQ.nil ?_
          refine JA.skipu rfl rfl rfl rfl ?_
          refine JM.cons ?_
          refine JQ.nil ?_
          refine JA.skipu rfl rfl rfl rfl ?_
          refine JM.nil ?_
          refine JQ.skipu rfl rfl rfl rfl ?_
          refine JQ.skip rfl rfl rfl rfl hc239 ?_
          refine JQ.val (v := .bool true) rfl rfl (V.pickT rfl hc239 rfl) ?_
          refine JQ.val (v := .bool true) rfl rfl (V.as rfl) ?_
          refine JQ.nil ?_
          refine J.nil ?_
          refine CJ.ret ?_
          have e := Option.some.inj h
          subst e
          exact ⟨_, [], Res.one rfl rfl, ⟨true, rfl, rfl, rfl⟩, (Hp.le_refl _), fun w hs => (Sep.dropAt 0 rfl (Sep.dropAt 0 rfl (Sep.dropAt 0 rfl (Sep.dropAt 0 rfl (Sep.dropAt 0 rfl hs)))))⟩
        · have h := cf hc239 h
          refine JQ.run rfl rfl rfl hc239 ?_
          refine JQ.val (v := .func (.func 61) #[] #[.pointer (some ⟨b137, 0, none⟩)]) rfl rfl (V.mv rfl) ?_
          refine JQ.run rfl rfl rfl hc239 ?_
          refine JQ.val rfl rfl (V.fad Try.underlying24 rfl nz3 rfl) ?_
          refine JQ.run rfl rfl rfl hc239 ?_
          refine JQ.val (v := .int .i64 xa.2.2.1) rfl rfl (V.ld rfl (Ld.sc sc3 (Rd.cl 3 rfl rfl))) ?_
          refine JQ.nil ?_
          refine JA.run rfl rfl rfl hc239 ?_
          obtain ⟨r240, hr241, h⟩ := ob h
          refine JA.front 1 rfl ?_
          refine JA.op rfl (A.call (L1 := [Cl b137 3 [.int .i64 i196]]) Try.call61 rfl (term_beyond_1_ip0_i_ok hr241) rfl rfl) ?_
          rintro _ _ _ ⟨v244, _, rfl, ⟨⟨t242, i243, rfl, rfl, rfl⟩, rfl⟩, _, rfl⟩
          refine ⟨fun w hs => Hold.sub (Hp.le_refl _) ⟨1, rfl, 1, rfl, 1, rfl, 1, rfl, trivial⟩ hs, ?_⟩
          refine JM.cons ?_
          refine JQ.run rfl rfl rfl hc239 ?_
          refine JQ.val (v := .bool (!t242)) rfl rfl (V.not rfl) ?_
          refine JQ.run rfl rfl rfl hc239 ?_
          refine JQ.val (v := .bool (!t242)) rfl rfl (V.mv rfl) ?_
          rcases bt (!t242) with hc247 | hc247
          · have h := ct hc247 h
            refine JQ.run rfl rfl rfl hc247 ?_
            refine JQ.val rfl rfl (V.fad Try.underlying34 rfl nz29 rfl) ?_
            refine JQ.run rfl rfl rfl hc247 ?_
            refine JQ.val (v := .slice adxb_4 xb.2.2.2.2.length cpxb_4) rfl rfl (V.ld rfl (Ld.sc sc29 (Rd.cl 2 rfl rfl))) ?_
            refine JQ.run rfl rfl rfl hc247 ?_
            refine JQ.val (v := .int .i64 (((xb.2.2.2.2.length : Nat) : Int))) rfl rfl (V.len Try.underlying29 rfl) ?_
            refine JQ.run rfl rfl rfl hc247 ?_
            refine JQ.val rfl rfl (V.fad Try.underlying24 rfl nz3 rfl) ?_
            refine JQ.run rfl rfl rfl hc247 ?_
            refine JQ.val (v := .int .i64 xa.2.1) rfl rfl (V.ld rfl (Ld.sc sc3 (Rd.cl 3 rfl rfl))) ?_
            refine JQ.nil ?_
            refine JA.run rfl rfl rfl hc247 ?_
            obtain ⟨r248, hr249, h⟩ := ob h
            refine JA.op rfl (A.call (L1 := []) Try.call45 rfl (term_beyond_ok hr249) rfl rfl) ?_
            rintro _ _ _ ⟨v252, _, rfl, ⟨⟨i250, b251, rfl, rfl, rfl⟩, rfl⟩, _, rfl⟩
            refine ⟨fun w hs => Hold.sub (Hp.le_refl _) ⟨2, rfl, 2, rfl, 2, rfl, 2, rfl, trivial⟩ hs, ?_⟩
            refine JM.cons ?_
            refine JQ.nil ?_
            refine JA.run rfl rfl rfl hc247 ?_
            obtain ⟨r255, hr256, h⟩ := ob h
            refine JA.op rfl (A.call (L1 := [Cl b251 3 [.int .i64 i250]]) Try.call61 rfl (term_beyond_1_ip0_i_ok hr256) rfl rfl) ?_
            rintro _ _ _ ⟨v259, _, rfl, ⟨⟨t257, i258, rfl, rfl, rfl⟩, rfl⟩, _, rfl⟩
            refine ⟨fun w hs => Hold.sub (Hp.le_refl _) ⟨2, rfl, 2, rfl, 2, rfl, 2, rfl, trivial⟩ hs, ?_⟩
            refine JM.nil ?_
            refine JQ.run rfl rfl rfl hc247 ?_
            refine JQ.val (v := .bool (!t257)) rfl rfl (V.not rfl) ?_
            refine JQ.run rfl rfl rfl hc239 ?_
            refine JQ.val (v := .bool (!t257)) rfl rfl (V.pickT rfl hc247 rfl) ?_
            refine JQ.val (v := .bool (!t257)) rfl rfl (V.pickF rfl hc239 rfl) ?_
            refine JQ.val (v := .bool (!t257)) rfl rfl (V.as rfl) ?_
            refine JQ.nil ?_
            refine J.nil ?_
            refine CJ.ret ?_
            have e := Option.some.inj h
            subst e
            exact ⟨_, [], Res.one rfl rfl, ⟨!t257, rfl, rfl, rfl⟩, (Hp.le_refl _), fun w hs => (Sep.dropAt 0 rfl (Sep.dropAt 0 rfl (Sep.dropAt 0 rfl (Sep.dropAt 0 rfl (Sep.dropAt 0 rfl (Sep.dropAt 0 rfl hs))))))⟩
          · have h := cf hc247 h
            refine JQ.skip rfl rfl rfl rfl hc247 ?_
            refine JQ.skip rfl rfl rfl rfl hc247 ?_
            refine JQ.skip rfl rfl rfl rfl hc247 ?_
            refine JQ.skip rfl rfl rfl rfl hc247 ?_
            refine JQ.skip rfl rfl rfl rfl hc247 ?_
            refine JQ.nil ?_
            refine JA.skip rfl rfl rfl rfl hc247 ?_
            refine JM.cons ?_
            refine JQ.nil ?_
            refine JA.skip rfl rfl rfl rfl hc247 ?_
            refine JM.nil ?_
            refine JQ.skip rfl rfl rfl rfl hc247 ?_
            refine JQ.run rfl rfl rfl hc239 ?_
            refine JQ.val (v := .bool false) rfl rfl (V.pickF rfl hc247 rfl) ?_
            refine JQ.val (v := .bool false) rfl rfl (V.pickF rfl hc239 rfl) ?_
            refine JQ.val (v := .bool false) rfl rfl (V.as rfl) ?_
            refine JQ.nil ?_
            refine J.nil ?_
            refine CJ.ret ?_
            have e := Option.some.inj h
            subst e
            exact ⟨_, [], Res.one rfl rfl, ⟨false, rfl, rfl, rfl⟩, (Hp.le_refl _), fun w hs => (Sep.dropAt 0 rfl (Sep.dropAt 0 rfl (Sep.dropAt 0 rfl (Sep.dropAt 0 rfl (Sep.dropAt 0 rfl hs)))))⟩

noncomputable def fn_row_Shape_1 (xa : (Int × Bool)) (xb : (Int × Bool)) : Option Bool :=
  some (xa.2 == xb.2)
set_option maxRecDepth 100000 in
set_option maxHeartbeats 4000000 in
theorem row_Shape_1_ok {K : Hp} {xa : (Int × Bool)} {xb : (Int × Bool)}   {r : Bool} (h : fn_row_Shape_1 xa xb = some r) :
    Tr Try.prog 64 #[.agg #[.int .i64 xa.1, .bool xa.2], .agg #[.int .i64 xb.1, .bool xb.2]] K [] (fun v K' L' => (∃ (t3 : Bool), t3 = r ∧ .bool t3 = v ∧ L' = []) ∧ K = K') := by
  refine Tr.k ?_
  refine Tr.of Try.func64 rfl Try.ntmps64 rfl (fun E F => ?_)
  unfold fn_row_Shape_1 at h
  refine CJ.seq ?_
  refine CJ.region ?_
  refine J.op rfl (A.box (v := .agg #[.int .i64 xa.1, .bool xa.2]) (cs := [.int .i64 xa.1, .bool xa.2]) rfl rfl) ?_
  rintro _ _ _ ⟨b4, rfl, rfl, rfl⟩
  refine J.op rfl (A.box (v := .agg #[.int .i64 xb.1, .bool xb.2]) (cs := [.int .i64 xb.1, .bool xb.2]) rfl rfl) ?_
  rintro _ _ _ ⟨b5, rfl, rfl, rfl⟩
  refine J.val (v := .bool false) rfl rfl (V.as rfl) ?_
  refine J.nil ?_
  refine CJ.seq ?_
  refine CJ.region ?_
  refine J.val rfl rfl (V.fad Try.underlying111 rfl nz4 rfl) ?_
  refine J.val (v := .bool xa.2) rfl rfl (V.ld rfl (Ld.sc sc4 (Rd.cl 1 rfl rfl))) ?_
  refine J.val rfl rfl (V.fad Try.underlying111 rfl nz4 rfl) ?_
  refine J.val (v := .bool xb.2) rfl rfl (V.ld rfl (Ld.sc sc4 (Rd.cl 0 rfl rfl))) ?_
  refine J.val (v := .bool (xa.2 == xb.2)) rfl rfl (V.eqb Try.underlying4 rfl rfl) ?_
  refine J.val (v := .bool (xa.2 == xb.2)) rfl rfl (V.as rfl) ?_
  refine J.nil ?_
  refine CJ.ret ?_
  have e := Option.some.inj h
  subst e
  exact ⟨_, [], Res.one rfl rfl, ⟨xa.2 == xb.2, rfl, rfl, rfl⟩, (Hp.le_refl _), fun w hs => (Sep.dropAt 0 rfl (Sep.dropAt 0 rfl hs))⟩
noncomputable def fn_slices_EqualFunc_api_Slot_api_Slot_api_Slot_api_Slot_kk_row_Shape_1_l1 (xa : (List (Int × Bool))) (xb : (List (Int × Bool))) : Int → Option (Int ⊕ (Unit ⊕ Bool)) := fun (i313 : Int) => cond (decide (i313 < (((xa.length : Nat) : Int)))) ((getI xa i313).bind fun x348 => (getI xb i313).bind fun x358 => (fn_row_Shape_1 (x348.1, x348.2) (x358.1, x358.2)).bind fun t370 => cond (!t370) (some (.inr ((.inr (false))))) (some (.inl (IntKind.wrap .i64 (i313 + 1))))) (some (.inr ((.inl ()))))
noncomputable def fn_slices_EqualFunc_api_Slot_api_Slot_api_Slot_api_Slot_kk_row_Shape_1 (xa : (List (Int × Bool))) (xb : (List (Int × Bool))) : Option Bool :=
  cond (!decide ((((xa.length : Nat) : Int)) = (((xb.length : Nat) : Int)))) (some (false)) ((loop (fn_slices_EqualFunc_api_Slot_api_Slot_api_Slot_api_Slot_kk_row_Shape_1_l1 xa xb) 0 : Option (Unit ⊕ Bool)).bind fun o => match o with | .inr r => some r | .inl () => some (true))
set_option maxRecDepth 100000 in
set_option maxHeartbeats 4000000 in
theorem slices_EqualFunc_api_Slot_api_Slot_api_Slot_api_Slot_kk_row_Shape_1_ok {K : Hp} {xa : (List (Int × Bool))} {xb : (List (Int × Bool))} {adxa_0 : Option Addr} {cpxa_0 : Nat} {adxb_0 : Option Addr} {cpxb_0 : Nat} (fxa_0 : Is K (.sl (.cons (.int .i64) (.one .bool))) [.slice adxa_0 xa.length cpxa_0] xa) (fxb_0 : Is K (.sl (.cons (.int .i64) (.one .bool))) [.slice adxb_0 xb.length cpxb_0] xb) {r : Bool} (h : fn_slices_EqualFunc_api_Slot_api_Slot_api_Slot_api_Slot_kk_row_Shape_1 xa xb = some r) :
    Tr Try.prog 63 #[.slice adxa_0 xa.length cpxa_0, .slice adxb_0 xb.length cpxb_0, .func (.func 64) #[] #[]] K [] (fun v K' L' => (∃ (t189 : Bool), t189 = r ∧ .bool t189 = v ∧ L' = []) ∧ K = K') := by
  refine Tr.k ?_
  refine Tr.of Try.func63 rfl Try.ntmps63 rfl (fun E F => ?_)
  unfold fn_slices_EqualFunc_api_Slot_api_Slot_api_Slot_api_Slot_kk_row_Shape_1 at h
  refine CJ.seq ?_
  refine CJ.region ?_
  refine J.val (v := .bool false) rfl rfl (V.as rfl) ?_
  refine J.nil ?_
  refine CJ.seq ?_
  refine CJ.seq ?_
  refine CJ.region ?_
  refine J.val (v := .slice adxa_0 xa.length cpxa_0) rfl rfl (V.mv rfl) ?_
  refine J.val (v := .int .i64 (((xa.length : Nat) : Int))) rfl rfl (V.len Try.underlying26 rfl) ?_
  refine J.val (v := .slice adxb_0 xb.length cpxb_0) rfl rfl (V.mv rfl) ?_
  refine J.val (v := .int .i64 (((xb.length : Nat) : Int))) rfl rfl (V.len Try.underlying26 rfl) ?_
  refine J.val (v := .bool (!decide ((((xa.length : Nat) : Int)) = (((xb.length : Nat) : Int))))) rfl rfl (V.neq rfl rfl) ?_
  refine J.nil ?_
  refine CJ.cond rfl (fun hc190 => ?_) (fun hc190 => ?_)
  · have h := ct hc190 h
    refine CJ.seq ?_
    refine CJ.region ?_
    refine J.val (v := .bool false) rfl rfl (V.as rfl) ?_
    refine J.nil ?_
    refine CJ.ret ?_
    have e := Option.some.inj h
    subst e
    exact ⟨_, [], Res.one rfl rfl, ⟨false, rfl, rfl, rfl⟩, (Hp.le_refl _), fun w hs => hs⟩
  · have h := cf hc190 h
    refine CJ.skip ?_
    refine CJ.seq ?_
    refine CJ.seq ?_
    refine CJ.region ?_
    refine J.val (v := .slice adxa_0 xa.length cpxa_0) rfl rfl (V.mv rfl) ?_
    refine J.val (v := .int .i64 (((xa.length : Nat) : Int))) rfl rfl (V.len Try.underlying26 rfl) ?_
    refine J.val (v := .int .i64 0) rfl rfl (V.mv rfl) ?_
    refine J.nil ?_
    obtain ⟨o282, ho283, h⟩ := ob h
    refine CJ.joinN (o := o282) (fun s ρ K' L' => () = s ∧ Fits [] ρ ∧ K = K' ∧ F = L') ?_ ?_
    · skip
      refine CJ.block ?_
      refine CJ.loop (fun s ρ K' L' => ∃ (i313 : Int), i313 = s ∧ Fits [(1, .slice adxb_0 xb.length cpxb_0), (2, .func (.func 64) #[] #[]), (15, .slice adxa_0 xa.length cpxa_0), (16, .int .i64 (((xa.length : Nat) : Int))), (17, .int .i64 i313)] ρ ∧ K = K' ∧ F = L') ho283 ⟨0, rfl, ⟨rfl, rfl, rfl, rfl, rfl, trivial⟩, rfl, rfl⟩ ?_
      rintro s ρ _ _ r346 ⟨i313, rfl, hf344, rfl, rfl⟩ h343
      obtain ⟨ρ, rfl⟩ := hf344.ex
      refine CJ.seq ?_
      refine CJ.region ?_
      refine J.val (v := .bool (decide (i313 < (((xa.length : Nat) : Int))))) rfl rfl (V.lss rfl rfl) ?_
      refine J.nil ?_
      refine CJ.seq ?_
      refine CJ.cond rfl (fun hc347 => ?_) (fun hc347 => ?_)
      · have h343 := ct hc347 h343
        refine CJ.skip ?_
        refine CJ.seq ?_
        refine CJ.block ?_
        refine CJ.seq ?_
        refine CJ.region ?_
        refine J.val (v := .int .i64 i313) rfl rfl (V.mv rfl) ?_
        obtain ⟨x348, hx349, h343⟩ := ob h343
        obtain ⟨p350, p351, p352⟩ := getI_some hx349
        obtain ⟨b353, o354, e355, a356⟩ := (fxa_0).at p351
        refine J.val rfl rfl (V.iad Try.underlying26 sz111 rfl e355 rfl p350 p352) ?_
        refine J.val (v := .agg #[.int .i64 x348.1, .bool x348.2]) rfl rfl (V.ld rfl (Ld.aggK (cs := [.int .i64 x348.1, .bool x348.2]) Try.underlying111 sz111 rfl ⟨((a356).fst).int, (((a356).snd).one).bool, trivial⟩ (Hp.le_refl _))) ?_
        refine J.op rfl (A.alloc (cs := [.int .i64 0, .bool false]) inf111 rfl) ?_
        rintro _ _ _ ⟨b357, rfl, rfl, rfl⟩
        refine J.val (v := .int .i64 i313) rfl rfl (V.as rfl) ?_
        refine J.op rfl (A.store (v := .agg #[.int .i64 x348.1, .bool x348.2]) (cs' := [.int .i64 x348.1, .bool x348.2]) sz111 rfl rfl rfl rfl rfl rfl) ?_
        rintro _ _ _ ⟨rfl, rfl, rfl⟩
        refine J.nil ?_
        refine CJ.seq ?_
        refine CJ.region ?_
        refine J.val (v := .slice adxb_0 xb.length cpxb_0) rfl rfl (V.mv rfl) ?_
        refine J.val (v := .int .i64 i313) rfl rfl (V.mv rfl) ?_
        obtain ⟨x358, hx359, h343⟩ := ob h343
        obtain ⟨p360, p361, p362⟩ := getI_some hx359
        obtain ⟨b363, o364, e365, a366⟩ := (fxb_0).at p361
        refine J.val rfl rfl (V.iad Try.underlying26 sz111 rfl e365 rfl p360 p362) ?_
        refine J.val (v := .agg #[.int .i64 x358.1, .bool x358.2]) rfl rfl (V.ld rfl (Ld.aggK (cs := [.int .i64 x358.1, .bool x358.2]) Try.underlying111 sz111 rfl ⟨((a366).fst).int, (((a366).snd).one).bool, trivial⟩ (Hp.le_refl _))) ?_
        refine J.op rfl (A.alloc (cs := [.int .i64 0, .bool false]) inf111 rfl) ?_
        rintro _ _ _ ⟨b367, rfl, rfl, rfl⟩
        refine J.op rfl (A.store (v := .agg #[.int .i64 x358.1, .bool x358.2]) (cs' := [.int .i64 x358.1, .bool x358.2]) sz111 rfl rfl rfl rfl rfl rfl) ?_
        rintro _ _ _ ⟨rfl, rfl, rfl⟩
        refine J.nil ?_
        refine CJ.seq ?_
        refine CJ.region ?_
        refine J.val (v := .func (.func 64) #[] #[]) rfl rfl (V.mv rfl) ?_
        refine J.val (v := .agg #[.int .i64 x348.1, .bool x348.2]) rfl rfl (V.ld rfl (Ld.agg (cs := [.int .i64 x348.1, .bool x348.2]) Try.underlying111 sz111 rfl (Rd.cls 1 0 rfl rfl))) ?_
        refine J.val (v := .agg #[.int .i64 x358.1, .bool x358.2]) rfl rfl (V.ld rfl (Ld.agg (cs := [.int .i64 x358.1, .bool x358.2]) Try.underlying111 sz111 rfl (Rd.cls 0 0 rfl rfl))) ?_
        obtain ⟨r368, hr369, h343⟩ := ob h343
        refine J.op rfl (A.call (L1 := []) Try.call64 rfl (row_Shape_1_ok hr369) rfl rfl) ?_
        rintro _ _ _ ⟨v371, _, rfl, ⟨⟨t370, rfl, rfl, rfl⟩, rfl⟩, _, rfl⟩
        refine J.val (v := .bool (!t370)) rfl rfl (V.not rfl) ?_
        refine J.nil ?_
        refine CJ.cond rfl (fun hc374 => ?_) (fun hc374 => ?_)
        · have h343 := ct hc374 h343
          refine CJ.seq ?_
          refine CJ.region ?_
          refine J.val (v := .bool false) rfl rfl (V.as rfl) ?_
          refine J.nil ?_
          refine CJ.ret ?_
          have e := Option.some.inj h343
          subst e
          refine ⟨nofun, fun e => ?_⟩
          subst e
          refine .inr ⟨nofun, ?_⟩
          have e := Option.some.inj h
          subst e
          exact ⟨_, [], Res.one rfl rfl, ⟨false, rfl, rfl, rfl⟩, (Hp.le_refl _), fun w hs => (Sep.dropAt 0 rfl (Sep.dropAt 0 rfl hs))⟩
        · have h343 := cf hc374 h343
          refine CJ.skip ?_
          refine CJ.region ?_
          refine J.val (v := .int .i64 (IntKind.wrap .i64 (i313 + 1))) rfl rfl (V.add rfl rfl) ?_
          refine J.val (v := .int .i64 (IntKind.wrap .i64 (i313 + 1))) rfl rfl (V.mv rfl) ?_
          refine J.dropAt 0 rfl ?_
          refine J.dropAt 0 rfl ?_
          refine J.nil ?_
          have e := Option.some.inj h343
          subst e
          exact ⟨rfl, ⟨IntKind.wrap .i64 (i313 + 1), rfl, ⟨rfl, rfl, rfl, rfl, rfl, trivial⟩, rfl, rfl⟩⟩
      · have h343 := cf hc347 h343
        refine CJ.exit ?_
        have e := Option.some.inj h343
        subst e
        refine ⟨nofun, fun e => ?_⟩
        subst e
        exact .inl ⟨rfl, _, rfl, ⟨rfl, trivial, rfl, rfl⟩⟩
    · rintro s ρ _ _ ho375 ⟨rfl, hf376, rfl, rfl⟩
      subst ho375
      obtain ⟨ρ, rfl⟩ := hf376.ex
      refine PJ.done ?_
      refine CJ.seq ?_
      refine CJ.region ?_
      refine J.val (v := .bool true) rfl rfl (V.as rfl) ?_
      refine J.nil ?_
      refine CJ.ret ?_
      have e := Option.some.inj h
      subst e
      exact ⟨_, [], Res.one rfl rfl, ⟨true, rfl, rfl, rfl⟩, (Hp.le_refl _), fun w hs => hs⟩

noncomputable def fn_row_Shape (xa : (List (Int × Bool))) (xb : (List (Int × Bool))) : Option Bool :=
  (fn_slices_EqualFunc_api_Slot_api_Slot_api_Slot_api_Slot_kk_row_Shape_1 xa xb).bind fun t14 => some (t14)
set_option maxRecDepth 100000 in
set_option maxHeartbeats 4000000 in
theorem row_Shape_ok {K : Hp} {xa : (List (Int × Bool))} {xb : (List (Int × Bool))} {adxa_0 : Option Addr} {cpxa_0 : Nat} {adxb_0 : Option Addr} {cpxb_0 : Nat} (fxa_0 : Is K (.sl (.cons (.int .i64) (.one .bool))) [.slice adxa_0 xa.length cpxa_0] xa) (fxb_0 : Is K (.sl (.cons (.int .i64) (.one .bool))) [.slice adxb_0 xb.length cpxb_0] xb) {r : Bool} (h : fn_row_Shape xa xb = some r) :
    Tr Try.prog 47 #[.agg #[.slice adxa_0 xa.length cpxa_0], .agg #[.slice adxb_0 xb.length cpxb_0]] K [] (fun v K' L' => (∃ (t9 : Bool), t9 = r ∧ .bool t9 = v ∧ L' = []) ∧ K = K') := by
  refine Tr.k ?_
  refine Tr.of Try.func47 rfl Try.ntmps47 rfl (fun E F => ?_)
  unfold fn_row_Shape at h
  refine CJ.seq ?_
  refine CJ.region ?_
  refine J.op rfl (A.box (v := .agg #[.slice adxa_0 xa.length cpxa_0]) (cs := [.slice adxa_0 xa.length cpxa_0]) rfl rfl) ?_
  rintro _ _ _ ⟨b10, rfl, rfl, rfl⟩
  refine J.op rfl (A.box (v := .agg #[.slice adxb_0 xb.length cpxb_0]) (cs := [.slice adxb_0 xb.length cpxb_0]) rfl rfl) ?_
  rintro _ _ _ ⟨b11, rfl, rfl, rfl⟩
  refine J.val (v := .bool false) rfl rfl (V.as rfl) ?_
  refine J.nil ?_
  refine CJ.seq ?_
  refine CJ.region ?_
  refine J.val rfl rfl (V.fad Try.underlying28 rfl nz26 rfl) ?_
  refine J.val (v := .slice adxa_0 xa.length cpxa_0) rfl rfl (V.ld rfl (Ld.sc sc26 (Rd.cl 1 rfl rfl))) ?_
  refine J.val rfl rfl (V.fad Try.underlying28 rfl nz26 rfl) ?_
  refine J.val (v := .slice adxb_0 xb.length cpxb_0) rfl rfl (V.ld rfl (Ld.sc sc26 (Rd.cl 0 rfl rfl))) ?_
  obtain ⟨r12, hr13, h⟩ := ob h
  refine J.op rfl (A.call (L1 := []) Try.call63 rfl (slices_EqualFunc_api_Slot_api_Slot_api_Slot_api_Slot_kk_row_Shape_1_ok fxa_0 fxb_0 hr13) rfl rfl) ?_
  rintro _ _ _ ⟨v15, _, rfl, ⟨⟨t14, rfl, rfl, rfl⟩, rfl⟩, _, rfl⟩
  refine J.val (v := .bool t14) rfl rfl (V.as rfl) ?_
  refine J.nil ?_
  refine CJ.ret ?_
  have e := Option.some.inj h
  subst e
  exact ⟨_, [], Res.one rfl rfl, ⟨t14, rfl, rfl, rfl⟩, (Hp.le_refl _), fun w hs => (Sep.dropAt 0 rfl (Sep.dropAt 0 rfl hs))⟩
noncomputable def fn_relate_related_l1 (xa : (List (Int × Bool))) (xb : (List (Int × Bool))) (xc : Int) (xd : Int) : ((List (Int × Int × Int × Int × Bool)) × Int) → Option (((List (Int × Int × Int × Int × Bool)) × Int) ⊕ (List (Int × Int × Int × Int × Bool))) := fun ((l1175, i1180) : ((List (Int × Int × Int × Int × Bool)) × Int)) => cond (decide (i1180 < (((xa.length : Nat) : Int)))) ((getI xa i1180).bind fun x1321 => (getI xb i1180).bind fun x1330 => (app l1175 (([(x1321.1, x1330.1, xc, IntKind.wrap .i64 (xd + i1180), false)] : List (Int × Int × Int × Int × Bool)))).bind fun z1342 => (getI xb i1180).bind fun x1348 => cond (x1348.2) ((getI xb i1180).bind fun x1379 => (getI xa i1180).bind fun x1388 => (app z1342 (([(x1379.1, x1388.1, xc, IntKind.wrap .i64 (xd + i1180), true)] : List (Int × Int × Int × Int × Bool)))).bind fun z1400 => some (.inl ((z1400, IntKind.wrap .i64 (i1180 + 1))))) (some (.inl ((z1342, IntKind.wrap .i64 (i1180 + 1)))))) (some (.inr (l1175)))
noncomputable def fn_relate_related (xa : (List (Int × Bool))) (xb : (List (Int × Bool))) (xc : Int) (xd : Int) : Option ((List (Int × Int × Int × Int × Bool))) :=
  (loop (fn_relate_related_l1 xa xb xc xd) ([], 0) : Option ((List (Int × Int × Int × Int × Bool)))).bind fun l1053 => some (l1053)
set_option maxRecDepth 100000 in
set_option maxHeartbeats 4000000 in
theorem relate_related_ok {K : Hp} {xa : (List (Int × Bool))} {xb : (List (Int × Bool))} {xc : Int} {xd : Int} {adxa_0 : Option Addr} {cpxa_0 : Nat} {adxb_0 : Option Addr} {cpxb_0 : Nat} (fxa_0 : Is K (.sl (.cons (.int .i64) (.one .bool))) [.slice adxa_0 xa.length cpxa_0] xa) (fxb_0 : Is K (.sl (.cons (.int .i64) (.one .bool))) [.slice adxb_0 xb.length cpxb_0] xb) {r : (List (Int × Int × Int × Int × Bool))} (h : fn_relate_related xa xb xc xd = some r) :
    Tr Try.prog 48 #[.slice adxa_0 xa.length cpxa_0, .slice adxb_0 xb.length cpxb_0, .int .i64 xc, .int .i64 xd] K [] (fun v K' L' => (∃ (l702 : (List (Int × Int × Int × Int × Bool))) (ad703 : Option Addr) (cp704 : Nat), l702 = r ∧ .slice ad703 l702.length cp704 = v ∧ L' = [Row Hp.nil 67 (.cons (.int .i64) (.cons (.int .i64) (.cons (.int .i64) (.cons (.int .i64) (.one .bool))))) (.slice ad703 l702.length cp704) l702]) ∧ K = K') := by
  refine Tr.k ?_
  refine Tr.of Try.func48 rfl Try.ntmps48 rfl (fun E F => ?_)
  unfold fn_relate_related at h
  refine CJ.seq ?_
  refine CJ.region ?_
  refine J.val (v := .slice none 0 0) rfl rfl (V.as rfl) ?_
  refine J.nil ?_
  refine CJ.seq ?_
  refine CJ.region ?_
  refine J.val (v := .slice none 0 0) rfl rfl (V.as rfl) ?_
  refine J.nil ?_
  refine CJ.seq ?_
  refine CJ.seq ?_
  refine CJ.region ?_
  refine J.val (v := .slice adxa_0 xa.length cpxa_0) rfl rfl (V.mv rfl) ?_
  refine J.val (v := .int .i64 (((xa.length : Nat) : Int))) rfl rfl (V.len Try.underlying26 rfl) ?_
  refine J.val (v := .int .i64 0) rfl rfl (V.mv rfl) ?_
  refine J.nil ?_
  obtain ⟨o1058, ho1059, h⟩ := ob h
  refine CJ.meetN (fun ρ K' L' => ∃ (l1053 : (List (Int × Int × Int × Int × Bool))) (ad1054 : Option Addr) (cp1055 : Nat), l1053 = o1058 ∧ Fits [(9, .slice ad1054 l1053.length cp1055)] ρ ∧ K = K' ∧ L' = Row Hp.nil 67 (.cons (.int .i64) (.cons (.int .i64) (.cons (.int .i64) (.cons (.int .i64) (.one .bool))))) (.slice ad1054 l1053.length cp1055) l1053 :: F) ?_ ?_
  · skip
    refine CJ.block ?_
    refine CJ.by (fun w hs => Sep.rowNil (e := 67) (t := (.cons (.int .i64) (.cons (.int .i64) (.cons (.int .i64) (.cons (.int .i64) (.one .bool)))))) hs) ?_
    refine CJ.loop (fun s ρ K' L' => ∃ (l1175 : (List (Int × Int × Int × Int × Bool))) (i1180 : Int) (ad1176 : Option Addr) (cp1177 : Nat), (l1175, i1180) = s ∧ Fits [(0, .slice adxa_0 xa.length cpxa_0), (1, .slice adxb_0 xb.length cpxb_0), (2, .int .i64 xc), (3, .int .i64 xd), (9, .slice ad1176 l1175.length cp1177), (12, .int .i64 (((xa.length : Nat) : Int))), (13, .int .i64 i1180)] ρ ∧ K = K' ∧ L' = Row Hp.nil 67 (.cons (.int .i64) (.cons (.int .i64) (.cons (.int .i64) (.cons (.int .i64) (.one .bool))))) (.slice ad1176 l1175.length cp1177) l1175 :: F) ho1059 ⟨[], 0, none, 0, rfl, ⟨rfl, rfl, rfl, rfl, rfl, rfl, rfl, trivial⟩, rfl, rfl⟩ ?_
    rintro s ρ _ _ r1298 ⟨l1175, i1180, ad1176, cp1177, rfl, hf1296, rfl, rfl⟩ h1294
    obtain ⟨ρ, rfl⟩ := hf1296.ex
    refine CJ.wit Row.hn (fun hn1179 => ?_)
    refine CJ.seq ?_
    refine CJ.region ?_
    refine J.val (v := .bool (decide (i1180 < (((xa.length : Nat) : Int))))) rfl rfl (V.lss rfl rfl) ?_
    refine J.nil ?_
    refine CJ.seq ?_
    refine CJ.cond rfl (fun hc1299 => ?_) (fun hc1299 => ?_)
    · have h1294 := ct hc1299 h1294
      refine CJ.skip ?_
      refine CJ.seq ?_
      refine CJ.block ?_
      refine CJ.seq ?_
      refine CJ.region ?_
      refine J.val (v := .int .i64 i1180) rfl rfl (V.mv rfl) ?_
      refine J.val (v := .int .i64 i1180) rfl rfl (V.as rfl) ?_
      refine J.nil ?_
      refine CJ.seq ?_
      refine CJ.mix [Row Hp.nil 67 (.cons (.int .i64) (.cons (.int .i64) (.cons (.int .i64) (.cons (.int .i64) (.one .bool))))) (.slice ad1176 l1175.length cp1177) l1175] [([0, 1, 2, 3, 4, 5, 6, 7, 8, 9, 10, 11, 12, 13, 14, 15], 16)] [] [17, 18] mixO (by decide +kernel) ⟨0, rfl, trivial⟩ rfl rfl rfl ?_
      refine JM.cons ?_
      refine JQ.val (v := .slice ad1176 l1175.length cp1177) rfl rfl (V.mv rfl) ?_
      refine JQ.val (v := .slice adxa_0 xa.length cpxa_0) rfl rfl (V.mv rfl) ?_
      refine JQ.val (v := .int .i64 i1180) rfl rfl (V.mv rfl) ?_
      obtain ⟨x1321, hx1322, h1294⟩ := ob h1294
      obtain ⟨p1323, p1324, p1325⟩ := getI_some hx1322
      obtain ⟨b1326, o1327, e1328, a1329⟩ := (fxa_0).at p1324
      refine JQ.val rfl rfl (V.iad Try.underlying26 sz111 rfl e1328 rfl p1323 p1325) ?_
      refine JQ.val rfl rfl (V.fad Try.underlying111 rfl nz3 rfl) ?_
      refine JQ.val (v := .int .i64 x1321.1) rfl rfl (V.ld rfl (Ld.sc sc3 (Rd.k ((a1329).fst).int (Hp.le_refl _)))) ?_
      refine JQ.val (v := .slice adxb_0 xb.length cpxb_0) rfl rfl (V.mv rfl) ?_
      refine JQ.val (v := .int .i64 i1180) rfl rfl (V.mv rfl) ?_
      obtain ⟨x1330, hx1331, h1294⟩ := ob h1294
      obtain ⟨p1332, p1333, p1334⟩ := getI_some hx1331
      obtain ⟨b1335, o1336, e1337, a1338⟩ := (fxb_0).at p1333
      refine JQ.val rfl rfl (V.iad Try.underlying26 sz111 rfl e1337 rfl p1332 p1334) ?_
      refine JQ.val rfl rfl (V.fad Try.underlying111 rfl nz3 rfl) ?_
      refine JQ.val (v := .int .i64 x1330.1) rfl rfl (V.ld rfl (Ld.sc sc3 (Rd.k ((a1338).fst).int (Hp.le_refl _)))) ?_
      refine JQ.val (v := .int .i64 xc) rfl rfl (V.mv rfl) ?_
      refine JQ.val (v := .int .i64 xd) rfl rfl (V.mv rfl) ?_
      refine JQ.val (v := .int .i64 i1180) rfl rfl (V.mv rfl) ?_
      refine JQ.val (v := .int .i64 (IntKind.wrap .i64 (xd + i1180))) rfl rfl (V.add rfl rfl) ?_
      refine JQ.val (v := .agg #[.int .i64 x1321.1, .int .i64 x1330.1, .int .i64 xc, .int .i64 (IntKind.wrap .i64 (xd + i1180)), .bool false]) rfl rfl (V.build inf67 places67 rfl rfl) ?_
      refine JQ.nil ?_
      refine JA.op rfl (A.lit (K0 := Hp.nil) (ty := (.cons (.int .i64) (.cons (.int .i64) (.cons (.int .i64) (.cons (.int .i64) (.one .bool)))))) (xs := ([(x1321.1, x1330.1, xc, IntKind.wrap .i64 (xd + i1180), false)] : List (Int × Int × Int × Int × Bool))) Try.underlying35 inf67 rfl (by decide) rfl rfl rfl ⟨_, _, rfl, ⟨_, _, rfl, rfl, rfl, ⟨_, _, rfl, rfl, rfl, ⟨_, _, rfl, rfl, rfl, ⟨_, _, rfl, rfl, rfl, rfl⟩⟩⟩⟩, rfl⟩ rfl (by decide)) ?_
      rintro _ _ _ ⟨b1339, rfl, rfl, rfl⟩
      have hn1340 : ([(x1321.1, x1330.1, xc, IntKind.wrap .i64 (xd + i1180), false)] : List (Int × Int × Int × Int × Bool)) ≠ [] → ∃ g, (some ⟨b1339, 0, none⟩ : Option Addr) = some ⟨g, 0, none⟩ := fun _ => ⟨b1339, rfl⟩
      refine ⟨fun w hs => Hold.sub (Hp.le_refl _) ⟨1, rfl, trivial⟩ hs, ?_⟩
      refine JM.nil ?_
      refine JQ.nil ?_
      obtain ⟨z1342, hz1343, h1294⟩ := ob h1294
      refine J.front 1 rfl ?_
      refine J.op rfl (A.appR (Kr := Hp.nil) Try.underlying35 inf67 rfl rfl (by decide) (by decide) rfl rfl (Els.flat rfl) (Els.flat rfl) hz1343) ?_
      rintro _ _ _ ⟨v1344, rfl, rfl, rfl⟩
      refine J.wit Row.form ?_
      rintro ⟨ad1345, cp1346, rfl, _, _, hn1347⟩
      refine J.val (v := .slice ad1345 z1342.length cp1346) rfl rfl (V.as rfl) ?_
      refine J.nil ?_
      refine CJ.seq ?_
      refine CJ.region ?_
      refine J.val (v := .slice adxb_0 xb.length cpxb_0) rfl rfl (V.mv rfl) ?_
      refine J.val (v := .int .i64 i1180) rfl rfl (V.mv rfl) ?_
      obtain ⟨x1348, hx1349, h1294⟩ := ob h1294
      obtain ⟨p1350, p1351, p1352⟩ := getI_some hx1349
      obtain ⟨b1353, o1354, e1355, a1356⟩ := (fxb_0).at p1351
      refine J.val rfl rfl (V.iad Try.underlying26 sz111 rfl e1355 rfl p1350 p1352) ?_
      refine J.val rfl rfl (V.fad Try.underlying111 rfl nz4 rfl) ?_
      refine J.val (v := .bool x1348.2) rfl rfl (V.ld rfl (Ld.sc sc4 (Rd.k (((a1356).snd).one).bool (Hp.le_refl _)))) ?_
      refine J.nil ?_
      refine CJ.cond rfl (fun hc1357 => ?_) (fun hc1357 => ?_)
      · have h1294 := ct hc1357 h1294
        refine CJ.mix [Row Hp.nil 67 (.cons (.int .i64) (.cons (.int .i64) (.cons (.int .i64) (.cons (.int .i64) (.one .bool))))) (.slice ad1345 z1342.length cp1346) z1342] [([0, 1, 2, 3, 4, 5, 6, 7, 8, 9, 10, 11, 12, 13, 14, 15], 16)] [] [17, 18] mixO (by decide +kernel) ⟨0, rfl, trivial⟩ rfl rfl rfl ?_
        refine JM.cons ?_
        refine JQ.val (v := .slice ad1345 z1342.length cp1346) rfl rfl (V.mv rfl) ?_
        refine JQ.val (v := .slice adxb_0 xb.length cpxb_0) rfl rfl (V.mv rfl) ?_
        refine JQ.val (v := .int .i64 i1180) rfl rfl (V.mv rfl) ?_
        obtain ⟨x1379, hx1380, h1294⟩ := ob h1294
        obtain ⟨p1381, p1382, p1383⟩ := getI_some hx1380
        obtain ⟨b1384, o1385, e1386, a1387⟩ := (fxb_0).at p1382
        refine JQ.val rfl rfl (V.iad Try.underlying26 sz111 rfl e1386 rfl p1381 p1383) ?_
        refine JQ.val rfl rfl (V.fad Try.underlying111 rfl nz3 rfl) ?_
        refine JQ.val (v := .int .i64 x1379.1) rfl rfl (V.ld rfl (Ld.sc sc3 (Rd.k ((a1387).fst).int (Hp.le_refl _)))) ?_
        refine JQ.val (v := .slice adxa_0 xa.length cpxa_0) rfl rfl (V.mv rfl) ?_
        refine JQ.val (v := .int .i64 i1180) rfl rfl (V.mv rfl) ?_
        obtain ⟨x1388, hx1389, h1294⟩ := ob h1294
        obtain ⟨p1390, p1391, p1392⟩ := getI_some hx1389
        obtain ⟨b1393, o1394, e1395, a1396⟩ := (fxa_0).at p1391
        refine JQ.val rfl rfl (V.iad Try.underlying26 sz111 rfl e1395 rfl p1390 p1392) ?_
        refine JQ.val rfl rfl (V.fad Try.underlying111 rfl nz3 rfl) ?_
        refine JQ.val (v := .int .i64 x1388.1) rfl rfl (V.ld rfl (Ld.sc sc3 (Rd.k ((a1396).fst).int (Hp.le_refl _)))) ?_
        refine JQ.val (v := .int .i64 xc) rfl rfl (V.mv rfl) ?_
        refine JQ.val (v := .int .i64 xd) rfl rfl (V.mv rfl) ?_
        refine JQ.val (v := .int .i64 i1180) rfl rfl (V.mv rfl) ?_
        refine JQ.val (v := .int .i64 (IntKind.wrap .i64 (xd + i1180))) rfl rfl (V.add rfl rfl) ?_
        refine JQ.val (v := .agg #[.int .i64 x1379.1, .int .i64 x1388.1, .int .i64 xc, .int .i64 (IntKind.wrap .i64 (xd + i1180)), .bool true]) rfl rfl (V.build inf67 places67 rfl rfl) ?_
        refine JQ.nil ?_
        refine JA.op rfl (A.lit (K0 := Hp.nil) (ty := (.cons (.int .i64) (.cons (.int .i64) (.cons (.int .i64) (.cons (.int .i64) (.one .bool)))))) (xs := ([(x1379.1, x1388.1, xc, IntKind.wrap .i64 (xd + i1180), true)] : List (Int × Int × Int × Int × Bool))) Try.underlying35 inf67 rfl (by decide) rfl rfl rfl ⟨_, _, rfl, ⟨_, _, rfl, rfl, rfl, ⟨_, _, rfl, rfl, rfl, ⟨_, _, rfl, rfl, rfl, ⟨_, _, rfl, rfl, rfl, rfl⟩⟩⟩⟩, rfl⟩ rfl (by decide)) ?_
        rintro _ _ _ ⟨b1397, rfl, rfl, rfl⟩
        have hn1398 : ([(x1379.1, x1388.1, xc, IntKind.wrap .i64 (xd + i1180), true)] : List (Int × Int × Int × Int × Bool)) ≠ [] → ∃ g, (some ⟨b1397, 0, none⟩ : Option Addr) = some ⟨g, 0, none⟩ := fun _ => ⟨b1397, rfl⟩
        refine ⟨fun w hs => Hold.sub (Hp.le_refl _) ⟨1, rfl, trivial⟩ hs, ?_⟩
        refine JM.nil ?_
        refine JQ.nil ?_
        obtain ⟨z1400, hz1401, h1294⟩ := ob h1294
        refine J.front 1 rfl ?_
        refine J.op rfl (A.appR (Kr := Hp.nil) Try.underlying35 inf67 rfl rfl (by decide) (by decide) rfl rfl (Els.flat rfl) (Els.flat rfl) hz1401) ?_
        rintro _ _ _ ⟨v1402, rfl, rfl, rfl⟩
        refine J.wit Row.form ?_
        rintro ⟨ad1403, cp1404, rfl, _, _, hn1405⟩
        refine J.val (v := .slice ad1403 z1400.length cp1404) rfl rfl (V.as rfl) ?_
        refine J.nil ?_
        refine CJ.region ?_
        refine J.val (v := .int .i64 (IntKind.wrap .i64 (i1180 + 1))) rfl rfl (V.add rfl rfl) ?_
        refine J.val (v := .int .i64 (IntKind.wrap .i64 (i1180 + 1))) rfl rfl (V.mv rfl) ?_
        refine J.nil ?_
        have e := Option.some.inj h1294
        subst e
        exact ⟨rfl, ⟨z1400, IntKind.wrap .i64 (i1180 + 1), ad1403, cp1404, rfl, ⟨rfl, rfl, rfl, rfl, rfl, rfl, rfl, trivial⟩, rfl, rfl⟩⟩
      · have h1294 := cf hc1357 h1294
        refine CJ.skip ?_
        refine CJ.region ?_
        refine J.val (v := .int .i64 (IntKind.wrap .i64 (i1180 + 1))) rfl rfl (V.add rfl rfl) ?_
        refine J.val (v := .int .i64 (IntKind.wrap .i64 (i1180 + 1))) rfl rfl (V.mv rfl) ?_
        refine J.nil ?_
        have e := Option.some.inj h1294
        subst e
        exact ⟨rfl, ⟨z1342, IntKind.wrap .i64 (i1180 + 1), ad1345, cp1346, rfl, ⟨rfl, rfl, rfl, rfl, rfl, rfl, rfl, trivial⟩, rfl, rfl⟩⟩
    · have h1294 := cf hc1299 h1294
      refine CJ.exit ?_
      have e := Option.some.inj h1294
      subst e
      refine ⟨nofun, fun e => ?_⟩
      subst e
      exact ⟨rfl, ⟨l1175, ad1176, cp1177, rfl, ⟨rfl, trivial⟩, rfl, rfl⟩⟩
  · rintro ρ _ _ ⟨l1053, ad1054, cp1055, rfl, hf1406, rfl, rfl⟩
    obtain ⟨ρ, rfl⟩ := hf1406.ex
    refine PJ.wit Row.hn (fun hn1057 => ?_)
    refine PJ.done ?_
    refine CJ.seq ?_
    refine CJ.region ?_
    refine J.val (v := .slice ad1054 l1053.length cp1055) rfl rfl (V.mv rfl) ?_
    refine J.val (v := .slice ad1054 l1053.length cp1055) rfl rfl (V.as rfl) ?_
    refine J.nil ?_
    refine CJ.ret ?_
    have e := Option.some.inj h
    subst e
    exact ⟨_, [Row Hp.nil 67 (.cons (.int .i64) (.cons (.int .i64) (.cons (.int .i64) (.cons (.int .i64) (.one .bool))))) (.slice ad1054 l1053.length cp1055) l1053], Res.one rfl rfl, ⟨l1053, ad1054, cp1055, rfl, rfl, rfl⟩, (Hp.le_refl _), fun w hs => hs⟩

noncomputable def fn_relate_Flow (xa : (List (Int × Bool))) (xb : (List (Int × Bool))) (xc : Int) (xd : Int) : Option (((List (Int × Int × Int × Int × Bool)) × Int)) :=
  (fn_row_Shape xa xb).bind fun t30 => cond (!t30) (some (([], 8))) ((fn_relate_related xa xb xc xd).bind fun l38 => some ((l38, 0)))
set_option maxRecDepth 100000 in
set_option maxHeartbeats 4000000 in
theorem relate_Flow_ok {K : Hp} {xa : (List (Int × Bool))} {xb : (List (Int × Bool))} {xc : Int} {xd : Int} {adxa_0 : Option Addr} {cpxa_0 : Nat} {adxb_0 : Option Addr} {cpxb_0 : Nat} (fxa_0 : Is K (.sl (.cons (.int .i64) (.one .bool))) [.slice adxa_0 xa.length cpxa_0] xa) (fxb_0 : Is K (.sl (.cons (.int .i64) (.one .bool))) [.slice adxb_0 xb.length cpxb_0] xb) {r : ((List (Int × Int × Int × Int × Bool)) × Int)} (h : fn_relate_Flow xa xb xc xd = some r) :
    Tr Try.prog 24 #[.agg #[.slice adxa_0 xa.length cpxa_0], .agg #[.slice adxb_0 xb.length cpxb_0], .int .i64 xc, .int .i64 xd] K [] (fun v K' L' => (∃ (l20 : (List (Int × Int × Int × Int × Bool))) (i25 : Int) (ad21 : Option Addr) (cp22 : Nat), (l20, i25) = r ∧ .tuple #[.slice ad21 l20.length cp22, .int .i64 i25] = v ∧ L' = [Row Hp.nil 67 (.cons (.int .i64) (.cons (.int .i64) (.cons (.int .i64) (.cons (.int .i64) (.one .bool))))) (.slice ad21 l20.length cp22) l20]) ∧ K = K') := by
  refine Tr.k ?_
  refine Tr.of Try.func24 rfl Try.ntmps24 rfl (fun E F => ?_)
  unfold fn_relate_Flow at h
  refine CJ.seq ?_
  refine CJ.region ?_
  refine J.op rfl (A.box (v := .agg #[.slice adxa_0 xa.length cpxa_0]) (cs := [.slice adxa_0 xa.length cpxa_0]) rfl rfl) ?_
  rintro _ _ _ ⟨b26, rfl, rfl, rfl⟩
  refine J.op rfl (A.box (v := .agg #[.slice adxb_0 xb.length cpxb_0]) (cs := [.slice adxb_0 xb.length cpxb_0]) rfl rfl) ?_
  rintro _ _ _ ⟨b27, rfl, rfl, rfl⟩
  refine J.val (v := .slice none 0 0) rfl rfl (V.as rfl) ?_
  refine J.val (v := .int .i64 0) rfl rfl (V.as rfl) ?_
  refine J.nil ?_
  refine CJ.seq ?_
  refine CJ.seq ?_
  refine CJ.region ?_
  refine J.val (v := .agg #[.slice adxa_0 xa.length cpxa_0]) rfl rfl (V.ld rfl (Ld.agg (cs := [.slice adxa_0 xa.length cpxa_0]) Try.underlying28 sz28 rfl (Rd.cls 1 0 rfl rfl))) ?_
  refine J.val (v := .agg #[.slice adxb_0 xb.length cpxb_0]) rfl rfl (V.ld rfl (Ld.agg (cs := [.slice adxb_0 xb.length cpxb_0]) Try.underlying28 sz28 rfl (Rd.cls 0 0 rfl rfl))) ?_
  obtain ⟨r28, hr29, h⟩ := ob h
  refine J.op rfl (A.call (L1 := []) Try.call47 rfl (row_Shape_ok fxa_0 fxb_0 hr29) rfl rfl) ?_
  rintro _ _ _ ⟨v31, _, rfl, ⟨⟨t30, rfl, rfl, rfl⟩, rfl⟩, _, rfl⟩
  refine J.val (v := .bool (!t30)) rfl rfl (V.not rfl) ?_
  refine J.nil ?_
  refine CJ.cond rfl (fun hc34 => ?_) (fun hc34 => ?_)
  · have h := ct hc34 h
    refine CJ.seq ?_
    refine CJ.region ?_
    refine J.val (v := .slice none 0 0) rfl rfl (V.as rfl) ?_
    refine J.val (v := .int .i64 8) rfl rfl (V.as rfl) ?_
    refine J.nil ?_
    refine CJ.by (fun w hs => Sep.rowNil (e := 67) (t := (.cons (.int .i64) (.cons (.int .i64) (.cons (.int .i64) (.cons (.int .i64) (.one .bool)))))) hs) ?_
    refine CJ.ret ?_
    have e := Option.some.inj h
    subst e
    exact ⟨_, [Row Hp.nil 67 (.cons (.int .i64) (.cons (.int .i64) (.cons (.int .i64) (.cons (.int .i64) (.one .bool))))) (.slice none ((([] : List (Int × Int × Int × Int × Bool))).length) 0) (([] : List (Int × Int × Int × Int × Bool)))], Res.two rfl rfl rfl, ⟨[], 8, none, 0, rfl, rfl, rfl⟩, (Hp.le_refl _), fun w hs => (Sep.dropAt 1 rfl (Sep.dropAt 1 rfl hs))⟩
  · have h := cf hc34 h
    refine CJ.skip ?_
    refine CJ.seq ?_
    refine CJ.region ?_
    refine J.val rfl rfl (V.fad Try.underlying28 rfl nz26 rfl) ?_
    refine J.val (v := .slice adxa_0 xa.length cpxa_0) rfl rfl (V.ld rfl (Ld.sc sc26 (Rd.cl 1 rfl rfl))) ?_
    refine J.val rfl rfl (V.fad Try.underlying28 rfl nz26 rfl) ?_
    refine J.val (v := .slice adxb_0 xb.length cpxb_0) rfl rfl (V.ld rfl (Ld.sc sc26 (Rd.cl 0 rfl rfl))) ?_
    refine J.val (v := .int .i64 xc) rfl rfl (V.mv rfl) ?_
    refine J.val (v := .int .i64 xd) rfl rfl (V.mv rfl) ?_
    obtain ⟨r36, hr37, h⟩ := ob h
    refine J.op rfl (A.call (L1 := []) Try.call48 rfl (relate_related_ok fxa_0 fxb_0 hr37) rfl rfl) ?_
    rintro _ _ _ ⟨v42, _, rfl, ⟨⟨l38, ad39, cp40, rfl, rfl, rfl⟩, rfl⟩, _, rfl⟩
    refine J.wit Row.hn (fun hn41 => ?_)
    refine J.val (v := .slice ad39 l38.length cp40) rfl rfl (V.as rfl) ?_
    refine J.val (v := .int .i64 0) rfl rfl (V.as rfl) ?_
    refine J.nil ?_
    refine CJ.ret ?_
    have e := Option.some.inj h
    subst e
    exact ⟨_, [Row Hp.nil 67 (.cons (.int .i64) (.cons (.int .i64) (.cons (.int .i64) (.cons (.int .i64) (.one .bool))))) (.slice ad39 l38.length cp40) l38], Res.two rfl rfl rfl, ⟨l38, 0, ad39, cp40, rfl, rfl, rfl⟩, (Hp.le_refl _), fun w hs => (Sep.dropAt 1 rfl (Sep.dropAt 1 rfl hs))⟩

noncomputable def fn_sig_Check_1_ip0_ikkk (xa : Int) (qa0 : Int) (qa1 : (List (Int × Int))) (qa2 : (List (List (Int × Bool)))) (qa3 : (List (Int × Bool))) : Option ((Bool × Int × (List (Int × Int)) × (List (List (Int × Bool))) × (List (Int × Bool)))) :=
  some (((decide (0 ≤ xa)) && (decide (xa < qa0)), qa0, qa1, qa2, qa3))
set_option maxRecDepth 100000 in
set_option maxHeartbeats 4000000 in
theorem sig_Check_1_ip0_ikkk_ok {K : Hp} {xa : Int} {qa0 : Int} {qa1 : (List (Int × Int))} {qa2 : (List (List (Int × Bool)))} {qa3 : (List (Int × Bool))} {pba : Nat} {adqa1 : Option Addr} {cpqa1 : Nat} {adqa2 : Option Addr} {cpqa2 : Nat} {adqa3 : Option Addr} {cpqa3 : Nat} (fqa1 : Is K (.sl (.cons (.int .i64) (.one (.int .i64)))) [.slice adqa1 qa1.length cpqa1] qa1) (fqa2 : Is K (.sl (.one (.sl (.cons (.int .i64) (.one .bool))))) [.slice adqa2 qa2.length cpqa2] qa2) (fqa3 : Is K (.sl (.cons (.int .i64) (.one .bool))) [.slice adqa3 qa3.length cpqa3] qa3) {r : (Bool × Int × (List (Int × Int)) × (List (List (Int × Bool))) × (List (Int × Bool)))} (h : fn_sig_Check_1_ip0_ikkk xa qa0 qa1 qa2 qa3 = some r) :
    Tr Try.prog 71 #[.int .i64 xa, .pointer (some ⟨pba, 0, none⟩)] K [Cl pba 57 [.int .i64 qa0, .slice adqa1 qa1.length cpqa1, .slice adqa2 qa2.length cpqa2, .slice adqa3 qa3.length cpqa3]] (fun v K' L' => (∃ (t4 : Bool) (i5 : Int) (l6 : (List (Int × Int))) (l10 : (List (List (Int × Bool)))) (l14 : (List (Int × Bool))) (ad7 : Option Addr) (cp8 : Nat) (ad11 : Option Addr) (cp12 : Nat) (ad15 : Option Addr) (cp16 : Nat), (t4, i5, l6, l10, l14) = r ∧ .bool t4 = v ∧ Is K' (.sl (.cons (.int .i64) (.one (.int .i64)))) [.slice ad7 l6.length cp8] l6 ∧ Is K' (.sl (.one (.sl (.cons (.int .i64) (.one .bool))))) [.slice ad11 l10.length cp12] l10 ∧ Is K' (.sl (.cons (.int .i64) (.one .bool))) [.slice ad15 l14.length cp16] l14 ∧ L' = [Cl pba 57 [.int .i64 i5, .slice ad7 l6.length cp8, .slice ad11 l10.length cp12, .slice ad15 l14.length cp16]])) := by
  refine Tr.of Try.func71 rfl Try.ntmps71 rfl (fun E F => ?_)
  unfold fn_sig_Check_1_ip0_ikkk at h
  refine CJ.seq ?_
  refine CJ.region ?_
  refine J.val (v := .bool false) rfl rfl (V.as rfl) ?_
  refine J.nil ?_
  refine CJ.seq ?_
  refine CJ.region ?_
  refine J.val (v := .int .i64 xa) rfl rfl (V.mv rfl) ?_
  refine J.val (v := .bool (decide (0 ≤ xa))) rfl rfl (V.geq rfl rfl) ?_
  refine J.val (v := .bool (decide (0 ≤ xa))) rfl rfl (V.mv rfl) ?_
  refine J.cut 5 ?_
  refine @J.meet _ _ _ _ _ _ _ _ _ _ (fun ρ K' L' => Fits [(11, .bool ((decide (0 ≤ xa)) && (decide (xa < qa0))))] ρ ∧ K = K' ∧ L' = Cl pba 57 [.int .i64 qa0, .slice adqa1 qa1.length cpqa1, .slice adqa2 qa2.length cpqa2, .slice adqa3 qa3.length cpqa3] :: F) ?_ ?_
  · skip
    rcases bt (decide (0 ≤ xa)) with hc20 | hc20
    · skip
      refine J.run rfl rfl rfl hc20 ?_
      refine J.val (v := .int .i64 xa) rfl rfl (V.mv rfl) ?_
      refine J.run rfl rfl rfl hc20 ?_
      refine J.val rfl rfl (V.fad Try.underlying57 rfl nz3 rfl) ?_
      refine J.run rfl rfl rfl hc20 ?_
      refine J.val (v := .int .i64 qa0) rfl rfl (V.ld rfl (Ld.sc sc3 (Rd.cl 0 rfl rfl))) ?_
      refine J.run rfl rfl rfl hc20 ?_
      refine J.val (v := .bool (decide (xa < qa0))) rfl rfl (V.lss rfl rfl) ?_
      refine J.val (v := .bool (decide (xa < qa0))) rfl rfl (V.pickT rfl hc20 rfl) ?_
      refine J.nil ?_
      exact ⟨rfl, ⟨(by simp only [hc20]; rfl), trivial⟩, rfl, rfl⟩
    · skip
      refine J.skip rfl rfl rfl rfl hc20 ?_
      refine J.skip rfl rfl rfl rfl hc20 ?_
      refine J.skip rfl rfl rfl rfl hc20 ?_
      refine J.skip rfl rfl rfl rfl hc20 ?_
      refine J.val (v := .bool false) rfl rfl (V.pickF rfl hc20 rfl) ?_
      refine J.nil ?_
      exact ⟨rfl, ⟨(by simp only [hc20]; rfl), trivial⟩, rfl, rfl⟩
  · rintro ρ _ _ ⟨hf, rfl, rfl⟩
    obtain ⟨ρ, rfl⟩ := hf.ex
    refine J.val (v := .bool ((decide (0 ≤ xa)) && (decide (xa < qa0)))) rfl rfl (V.as rfl) ?_
    refine J.nil ?_
    refine CJ.ret ?_
    have e := Option.some.inj h
    subst e
    exact ⟨_, [Cl pba 57 [.int .i64 qa0, .slice adqa1 qa1.length cpqa1, .slice adqa2 qa2.length cpqa2, .slice adqa3 qa3.length cpqa3]], Res.one rfl rfl, ⟨(decide (0 ≤ xa)) && (decide (xa < qa0)), qa0, qa1, qa2, qa3, adqa1, cpqa1, adqa2, cpqa2, adqa3, cpqa3, rfl, rfl, fqa1, fqa2, fqa3, rfl⟩, (Hp.le_refl _), fun w hs => hs⟩

noncomputable def fn_row_within_1_ap0_i (xa : (Int × Bool)) (qa0 : Int) : Option (Bool × Int) :=
  some (((decide (xa.1 < 0)) || (decide (qa0 ≤ xa.1)), qa0))
set_option maxRecDepth 100000 in
set_option maxHeartbeats 4000000 in
theorem row_within_1_ap0_i_ok {K : Hp} {xa : (Int × Bool)} {qa0 : Int} {pba : Nat}  {r : (Bool × Int)} (h : fn_row_within_1_ap0_i xa qa0 = some r) :
    Tr Try.prog 74 #[.agg #[.int .i64 xa.1, .bool xa.2], .pointer (some ⟨pba, 0, none⟩)] K [Cl pba 3 [.int .i64 qa0]] (fun v K' L' => (∃ (t5 : Bool) (i6 : Int), (t5, i6) = r ∧ .bool t5 = v ∧ L' = [Cl pba 3 [.int .i64 i6]]) ∧ K = K') := by
  refine Tr.k ?_
  refine Tr.of Try.func74 rfl Try.ntmps74 rfl (fun E F => ?_)
  unfold fn_row_within_1_ap0_i at h
  refine CJ.seq ?_
  refine CJ.region ?_
  refine J.op rfl (A.box (v := .agg #[.int .i64 xa.1, .bool xa.2]) (cs := [.int .i64 xa.1, .bool xa.2]) rfl rfl) ?_
  rintro _ _ _ ⟨b7, rfl, rfl, rfl⟩
  refine J.val (v := .bool false) rfl rfl (V.as rfl) ?_
  refine J.nil ?_
  refine CJ.seq ?_
  refine CJ.region ?_
  refine J.val rfl rfl (V.fad Try.underlying111 rfl nz3 rfl) ?_
  refine J.val (v := .int .i64 xa.1) rfl rfl (V.ld rfl (Ld.sc sc3 (Rd.cl 0 rfl rfl))) ?_
  refine J.val (v := .bool (decide (xa.1 < 0))) rfl rfl (V.lss rfl rfl) ?_
  refine J.val (v := .bool (decide (xa.1 < 0))) rfl rfl (V.mv rfl) ?_
  refine J.cut 5 ?_
  refine @J.meet _ _ _ _ _ _ _ _ _ _ (fun ρ K' L' => Fits [(12, .bool ((decide (xa.1 < 0)) || (decide (qa0 ≤ xa.1))))] ρ ∧ K = K' ∧ L' = Cl b7 111 [.int .i64 xa.1, .bool xa.2] :: Cl pba 3 [.int .i64 qa0] :: F) ?_ ?_
  · skip
    rcases bt (decide (xa.1 < 0)) with hc10 | hc10
    · skip
      refine J.skip rfl rfl rfl rfl hc10 ?_
      refine J.skip rfl rfl rfl rfl hc10 ?_
      refine J.skip rfl rfl rfl rfl hc10 ?_
      refine J.skip rfl rfl rfl rfl hc10 ?_
      refine J.val (v := .bool true) rfl rfl (V.pickT rfl hc10 rfl) ?_
      refine J.nil ?_
      exact ⟨rfl, ⟨(by simp only [hc10]; rfl), trivial⟩, rfl, rfl⟩
    · skip
      refine J.run rfl rfl rfl hc10 ?_
      refine J.val rfl rfl (V.fad Try.underlying111 rfl nz3 rfl) ?_
      refine J.run rfl rfl rfl hc10 ?_
      refine J.val (v := .int .i64 xa.1) rfl rfl (V.ld rfl (Ld.sc sc3 (Rd.cl 0 rfl rfl))) ?_
      refine J.run rfl rfl rfl hc10 ?_
      refine J.val (v := .int .i64 qa0) rfl rfl (V.ld rfl (Ld.sc sc3 (Rd.cl 1 rfl rfl))) ?_
      refine J.run rfl rfl rfl hc10 ?_
      refine J.val (v := .bool (decide (qa0 ≤ xa.1))) rfl rfl (V.geq rfl rfl) ?_
      refine J.val (v := .bool (decide (qa0 ≤ xa.1))) rfl rfl (V.pickF rfl hc10 rfl) ?_
      refine J.nil ?_
      exact ⟨rfl, ⟨(by simp only [hc10]; rfl), trivial⟩, rfl, rfl⟩
  · rintro ρ _ _ ⟨hf, rfl, rfl⟩
    obtain ⟨ρ, rfl⟩ := hf.ex
    refine J.val (v := .bool ((decide (xa.1 < 0)) || (decide (qa0 ≤ xa.1)))) rfl rfl (V.as rfl) ?_
    refine J.nil ?_
    refine CJ.ret ?_
    have e := Option.some.inj h
    subst e
    exact ⟨_, [Cl pba 3 [.int .i64 qa0]], Res.one rfl rfl, ⟨(decide (xa.1 < 0)) || (decide (qa0 ≤ xa.1)), qa0, rfl, rfl, rfl⟩, (Hp.le_refl _), fun w hs => (Sep.dropAt 0 rfl hs)⟩
end Go.Proofs.Ytgeofnfjgjodgaa
