/- What Go functions answer: generated. -/
import Derived.Test.YtaaicohpbafegaaDt
import Derived.Test.YtaaicohpbafegaaRows
import Derived.Test.YtaaicohpbafegaaBd
namespace Go.Proofs.Ytaaicohpbafegaa
open Go.RowKit
set_option linter.unusedVariables false
theorem sz47 : (Try.prog.info? 47).map (·.size) = some 1 := by kernel_rfl
theorem nz45 : Try.prog.cellsOf 45 ≠ 0 := by decide +kernel
theorem sc45 : scalar Try.prog 45 = true := by kernel_rfl
theorem inf23 : Inf Try.prog 23 (.agg #[.int .i64 0, .int .i64 0, .int .i64 0, .int .i64 0, .bool false]) 5 40 := by unfold Inf; kernel_rfl
theorem places23 : Places Try.prog 23 [(0, 1), (1, 1), (2, 1), (3, 1), (4, 1)] := ⟨_, Try.underlying23, by kernel_rfl⟩
theorem sz23 : (Try.prog.info? 23).map (·.size) = some 5 := by kernel_rfl
theorem inf49 : Inf Try.prog 49 (.agg #[.bool false, .bool false, .bool false]) 3 3 := by unfold Inf; kernel_rfl
theorem nz3 : Try.prog.cellsOf 3 ≠ 0 := by decide +kernel
theorem sc3 : scalar Try.prog 3 = true := by kernel_rfl
theorem places49 : Places Try.prog 49 [(0, 1), (1, 1), (2, 1)] := ⟨_, Try.underlying49, by kernel_rfl⟩
theorem sz49 : (Try.prog.info? 49).map (·.size) = some 3 := by kernel_rfl
theorem nz4 : Try.prog.cellsOf 4 ≠ 0 := by decide +kernel
theorem sc4 : scalar Try.prog 4 = true := by kernel_rfl
theorem sz3 : (Try.prog.info? 3).map (·.size) = some 1 := by kernel_rfl
theorem mixO : Try.prog.follows .mixedOrders = true := by kernel_rfl
theorem sz4 : (Try.prog.info? 4).map (·.size) = some 1 := by kernel_rfl
theorem sih23 : Try.prog.stoodInHeld 23 = false := by kernel_rfl
theorem eqg23 : Try.prog.eqGuardType Try.prog.depth 23 = false := by kernel_rfl
theorem inf3 : Inf Try.prog 3 (.int .i64 0) 1 8 := by unfold Inf; kernel_rfl
theorem inf82 : Inf Try.prog 82 (.agg #[.pointer none, .slice none 0 0]) 2 32 := by unfold Inf; kernel_rfl
theorem sc24 : scalar Try.prog 24 = true := by kernel_rfl
theorem sz74 : (Try.prog.info? 74).map (·.size) = some 2 := by kernel_rfl
theorem inf74 : Inf Try.prog 74 (.agg #[.int .i64 0, .bool false]) 2 16 := by unfold Inf; kernel_rfl
theorem inf60 : Inf Try.prog 60 (.agg #[.int .i64 0, .int .i64 0, .int .i64 0, .int .i64 0, .bool false]) 5 40 := by unfold Inf; kernel_rfl
theorem places60 : Places Try.prog 60 [(0, 1), (1, 1), (2, 1), (3, 1), (4, 1)] := ⟨_, Try.underlying60, by kernel_rfl⟩
theorem inf47 : Inf Try.prog 47 (.agg #[.slice none 0 0]) 1 24 := by unfold Inf; kernel_rfl
theorem places74 : Places Try.prog 74 [(0, 1), (1, 1)] := ⟨_, Try.underlying74, by kernel_rfl⟩
theorem places47 : Places Try.prog 47 [(0, 1)] := ⟨_, Try.underlying47, by kernel_rfl⟩
theorem inf59 : Inf Try.prog 59 (.agg #[.int .i64 0, .int .i64 0, .int .i64 0, .int .i64 0, .bool false]) 5 40 := by unfold Inf; kernel_rfl
theorem places59 : Places Try.prog 59 [(0, 1), (1, 1), (2, 1), (3, 1), (4, 1)] := ⟨_, Try.underlying59, by kernel_rfl⟩
theorem sz60 : (Try.prog.info? 60).map (·.size) = some 5 := by kernel_rfl
theorem sz59 : (Try.prog.info? 59).map (·.size) = some 5 := by kernel_rfl
theorem sih59 : Try.prog.stoodInHeld 59 = false := by kernel_rfl
theorem eqg59 : Try.prog.eqGuardType Try.prog.depth 59 = false := by kernel_rfl
theorem sc9 : scalar Try.prog 9 = true := by kernel_rfl
theorem inf28 : Inf Try.prog 28 (.int .i64 0) 1 8 := by unfold Inf; kernel_rfl
theorem sz28 : (Try.prog.info? 28).map (·.size) = some 1 := by kernel_rfl
theorem sc28 : scalar Try.prog 28 = true := by kernel_rfl
theorem inf5 : Inf Try.prog 5 (.int .u8 0) 1 1 := by unfold Inf; kernel_rfl

noncomputable def fn_ref15_Few (xa : (List (Int × Bool))) (xb : Int) : Option Bool :=
  some (decide ((((xa.length : Nat) : Int)) ≤ xb))
set_option maxRecDepth 100000 in
set_option maxHeartbeats 4000000 in
theorem ref15_Few_ok {K : Hp} {xa : (List (Int × Bool))} {xb : Int} {adxa_0 : Option Addr} {cpxa_0 : Nat} (fxa_0 : Is K (.sl (.cons (.int .i64) (.one .bool))) [.slice adxa_0 xa.length cpxa_0] xa) {r : Bool} (h : fn_ref15_Few xa xb = some r) :
    Tr Try.prog 17 #[.agg #[.slice adxa_0 xa.length cpxa_0], .int .i64 xb] K [] (fun v K' L' => (∃ (t2 : Bool), t2 = r ∧ .bool t2 = v ∧ L' = []) ∧ K = K') := by
  refine Tr.k ?_
  refine Tr.of Try.func17 rfl Try.ntmps17 rfl (fun E F => ?_)
  unfold fn_ref15_Few at h
  refine CJ.seq ?_
  refine CJ.region ?_
  refine J.op rfl (A.box (v := .agg #[.slice adxa_0 xa.length cpxa_0]) (cs := [.slice adxa_0 xa.length cpxa_0]) rfl rfl) ?_
  rintro _ _ _ ⟨b3, rfl, rfl, rfl⟩
  refine J.val (v := .bool false) rfl rfl (V.as rfl) ?_
  refine J.nil ?_
  refine CJ.seq ?_
  refine CJ.region ?_
  refine J.val rfl rfl (V.fad Try.underlying47 rfl nz45 rfl) ?_
  refine J.val (v := .slice adxa_0 xa.length cpxa_0) rfl rfl (V.ld rfl (Ld.sc sc45 (Rd.cl 0 rfl rfl))) ?_
  refine J.val (v := .int .i64 (((xa.length : Nat) : Int))) rfl rfl (V.len Try.underlying45 rfl) ?_
  refine J.val (v := .int .i64 xb) rfl rfl (V.mv rfl) ?_
  refine J.val (v := .bool (decide ((((xa.length : Nat) : Int)) ≤ xb))) rfl rfl (V.leq rfl rfl) ?_
  refine J.val (v := .bool (decide ((((xa.length : Nat) : Int)) ≤ xb))) rfl rfl (V.as rfl) ?_
  refine J.nil ?_
  refine CJ.ret ?_
  have e := Option.some.inj h
  subst e
  exact ⟨_, [], Res.one rfl rfl, ⟨decide ((((xa.length : Nat) : Int)) ≤ xb), rfl, rfl, rfl⟩, (Hp.le_refl _), fun w hs => (Sep.dropAt 0 rfl hs)⟩
noncomputable def fn_law18_few_l1 (xa : (List (List (Int × Bool)))) : Int → Option (Int ⊕ (Unit ⊕ Bool)) := fun (i244 : Int) => cond (decide (i244 < (((xa.length : Nat) : Int)))) ((getI xa i244).bind fun x272 => (fn_ref15_Few x272 20).bind fun t287 => cond (!t287) (some (.inr ((.inr (false))))) (some (.inl (IntKind.wrap .i64 (i244 + 1))))) (some (.inr ((.inl ()))))
noncomputable def fn_law18_few (xa : (List (List (Int × Bool)))) : Option Bool :=
  cond (decide (20 < (((xa.length : Nat) : Int)))) (some (false)) ((loop (fn_law18_few_l1 xa) 0 : Option (Unit ⊕ Bool)).bind fun o => match o with | .inr r => some r | .inl () => some (true))
set_option maxRecDepth 100000 in
set_option maxHeartbeats 4000000 in
theorem law18_few_ok {K : Hp} {xa : (List (List (Int × Bool)))} {adxa_0 : Option Addr} {cpxa_0 : Nat} (fxa_0 : Is K (.sl (.one (.sl (.cons (.int .i64) (.one .bool))))) [.slice adxa_0 xa.length cpxa_0] xa) {r : Bool} (h : fn_law18_few xa = some r) :
    Tr Try.prog 6 #[.slice adxa_0 xa.length cpxa_0] K [] (fun v K' L' => (∃ (t148 : Bool), t148 = r ∧ .bool t148 = v ∧ L' = []) ∧ K = K') := by
  refine Tr.k ?_
  refine Tr.of Try.func6 rfl Try.ntmps6 rfl (fun E F => ?_)
  unfold fn_law18_few at h
  refine CJ.seq ?_
  refine CJ.region ?_
  refine J.val (v := .bool false) rfl rfl (V.as rfl) ?_
  refine J.nil ?_
  refine CJ.seq ?_
  refine CJ.seq ?_
  refine CJ.region ?_
  refine J.val (v := .slice adxa_0 xa.length cpxa_0) rfl rfl (V.mv rfl) ?_
  refine J.val (v := .int .i64 (((xa.length : Nat) : Int))) rfl rfl (V.len Try.underlying24 rfl) ?_
  refine J.val (v := .bool (decide (20 < (((xa.length : Nat) : Int))))) rfl rfl (V.gtr rfl rfl) ?_
  refine J.nil ?_
  refine CJ.cond rfl (fun hc149 => ?_) (fun hc149 => ?_)
  · have h := ct hc149 h
    refine CJ.seq ?_
    refine CJ.region ?_
    refine J.val (v := .bool false) rfl rfl (V.as rfl) ?_
    refine J.nil ?_
    refine CJ.ret ?_
    have e := Option.some.inj h
    subst e
    exact ⟨_, [], Res.one rfl rfl, ⟨false, rfl, rfl, rfl⟩, (Hp.le_refl _), fun w hs => hs⟩
  · have h := cf hc149 h
    refine CJ.skip ?_
    refine CJ.seq ?_
    refine CJ.seq ?_
    refine CJ.region ?_
    refine J.val (v := .int .i64 0) rfl rfl (V.as rfl) ?_
    refine J.nil ?_
    obtain ⟨o220, ho221, h⟩ := ob h
    refine CJ.joinN (o := o220) (fun s ρ K' L' => () = s ∧ Fits [] ρ ∧ K = K' ∧ F = L') ?_ ?_
    · skip
      refine CJ.block ?_
      refine CJ.loop (fun s ρ K' L' => ∃ (i244 : Int), i244 = s ∧ Fits [(0, .slice adxa_0 xa.length cpxa_0), (3, .int .i64 i244)] ρ ∧ K = K' ∧ F = L') ho221 ⟨0, rfl, ⟨rfl, rfl, trivial⟩, rfl, rfl⟩ ?_
      rintro s ρ _ _ r270 ⟨i244, rfl, hf268, rfl, rfl⟩ h267
      obtain ⟨ρ, rfl⟩ := hf268.ex
      refine CJ.seq ?_
      refine CJ.seq ?_
      refine CJ.region ?_
      refine J.val (v := .int .i64 i244) rfl rfl (V.mv rfl) ?_
      refine J.val (v := .slice adxa_0 xa.length cpxa_0) rfl rfl (V.mv rfl) ?_
      refine J.val (v := .int .i64 (((xa.length : Nat) : Int))) rfl rfl (V.len Try.underlying24 rfl) ?_
      refine J.val (v := .bool (decide (i244 < (((xa.length : Nat) : Int))))) rfl rfl (V.lss rfl rfl) ?_
      refine J.nil ?_
      refine CJ.cond rfl (fun hc271 => ?_) (fun hc271 => ?_)
      · have h267 := ct hc271 h267
        refine CJ.skip ?_
        refine CJ.seq ?_
        refine CJ.block ?_
        refine CJ.seq ?_
        refine CJ.region ?_
        refine J.val (v := .slice adxa_0 xa.length cpxa_0) rfl rfl (V.mv rfl) ?_
        refine J.val (v := .int .i64 i244) rfl rfl (V.mv rfl) ?_
        obtain ⟨x272, hx273, h267⟩ := ob h267
        obtain ⟨p274, p275, p276⟩ := getI_some hx273
        obtain ⟨b277, o278, e279, a280⟩ := (fxa_0).at p275
        refine J.val rfl rfl (V.iad Try.underlying24 sz47 rfl e279 rfl p274 p276) ?_
        obtain ⟨ad281, cp282, c283, f284⟩ := ((a280).one).sl
        refine J.val (v := .agg #[.slice ad281 x272.length cp282]) rfl rfl (V.ld rfl (Ld.aggK (cs := [.slice ad281 x272.length cp282]) Try.underlying47 sz47 rfl ⟨c283, trivial⟩ (Hp.le_refl _))) ?_
        obtain ⟨r285, hr286, h267⟩ := ob h267
        refine J.op rfl (A.call (L1 := []) Try.call17 rfl (ref15_Few_ok f284 hr286) rfl rfl) ?_
        rintro _ _ _ ⟨v288, _, rfl, ⟨⟨t287, rfl, rfl, rfl⟩, rfl⟩, _, rfl⟩
        refine J.val (v := .bool (!t287)) rfl rfl (V.not rfl) ?_
        refine J.nil ?_
        refine CJ.cond rfl (fun hc291 => ?_) (fun hc291 => ?_)
        · have h267 := ct hc291 h267
          refine CJ.seq ?_
          refine CJ.region ?_
          refine J.val (v := .bool false) rfl rfl (V.as rfl) ?_
          refine J.nil ?_
          refine CJ.ret ?_
          have e := Option.some.inj h267
          subst e
          refine ⟨nofun, fun e => ?_⟩
          subst e
          refine .inr ⟨nofun, ?_⟩
          have e := Option.some.inj h
          subst e
          exact ⟨_, [], Res.one rfl rfl, ⟨false, rfl, rfl, rfl⟩, (Hp.le_refl _), fun w hs => hs⟩
        · have h267 := cf hc291 h267
          refine CJ.skip ?_
          refine CJ.region ?_
          refine J.val (v := .int .i64 i244) rfl rfl (V.mv rfl) ?_
          refine J.val (v := .int .i64 (IntKind.wrap .i64 (i244 + 1))) rfl rfl (V.add rfl rfl) ?_
          refine J.val (v := .int .i64 (IntKind.wrap .i64 (i244 + 1))) rfl rfl (V.as rfl) ?_
          refine J.nil ?_
          have e := Option.some.inj h267
          subst e
          exact ⟨rfl, ⟨IntKind.wrap .i64 (i244 + 1), rfl, ⟨rfl, rfl, trivial⟩, rfl, rfl⟩⟩
      · have h267 := cf hc271 h267
        refine CJ.exit ?_
        have e := Option.some.inj h267
        subst e
        refine ⟨nofun, fun e => ?_⟩
        subst e
        exact .inl ⟨rfl, _, rfl, ⟨rfl, trivial, rfl, rfl⟩⟩
    · rintro s ρ _ _ ho292 ⟨rfl, hf293, rfl, rfl⟩
      subst ho292
      obtain ⟨ρ, rfl⟩ := hf293.ex
      refine PJ.done ?_
      refine CJ.seq ?_
      refine CJ.region ?_
      refine J.val (v := .bool true) rfl rfl (V.as rfl) ?_
      refine J.nil ?_
      refine CJ.ret ?_
      have e := Option.some.inj h
      subst e
      exact ⟨_, [], Res.one rfl rfl, ⟨true, rfl, rfl, rfl⟩, (Hp.le_refl _), fun w hs => hs⟩

noncomputable def fn_stmt_fieldsOf (xa : Int) : Option (Bool × Bool × Bool × Bool) :=
  cond (decide (xa = 0)) (some ((false, false, false, true))) (cond (decide (xa = 1)) (some ((true, true, false, true))) ((cond (decide (xa = 2)) (some ((xa, decide (xa = 2)))) (some ((xa, decide (xa = 3)))) : Option (Int × Bool)).bind fun (i23, t24) => cond (t24) (some ((true, true, true, true))) (cond (decide (i23 = 4)) (some ((false, true, false, true))) (cond (decide (i23 = 5)) (some ((true, false, false, true))) (some ((false, false, false, false)))))))
set_option maxRecDepth 100000 in
set_option maxHeartbeats 4000000 in
theorem stmt_fieldsOf_ok {K : Hp} {xa : Int}   {r : (Bool × Bool × Bool × Bool)} (h : fn_stmt_fieldsOf xa = some r) :
    Tr Try.prog 31 #[.int .i64 xa] K [] (fun v K' L' => (∃ (t15 : Bool) (t16 : Bool) (t17 : Bool) (t18 : Bool), (t15, t16, t17, t18) = r ∧ .tuple #[.agg #[.bool t15, .bool t16, .bool t17], .bool t18] = v ∧ L' = []) ∧ K = K') := by
  refine Tr.k ?_
  refine Tr.of Try.func31 rfl Try.ntmps31 rfl (fun E F => ?_)
  unfold fn_stmt_fieldsOf at h
  refine CJ.seq ?_
  refine CJ.region ?_
  refine J.op rfl (A.alloc (cs := [.bool false, .bool false, .bool false]) inf49 rfl) ?_
  rintro _ _ _ ⟨b19, rfl, rfl, rfl⟩
  refine J.val (v := .bool false) rfl rfl (V.as rfl) ?_
  refine J.nil ?_
  refine CJ.seq ?_
  refine CJ.seq ?_
  refine CJ.region ?_
  refine J.val (v := .int .i64 xa) rfl rfl (V.mv rfl) ?_
  refine J.nil ?_
  refine CJ.block ?_
  refine CJ.seq ?_
  refine CJ.region ?_
  refine J.val (v := .bool (decide (xa = 0))) rfl rfl (V.eql rfl rfl) ?_
  refine J.val (v := .bool (decide (xa = 0))) rfl rfl (V.as rfl) ?_
  refine J.nil ?_
  refine CJ.cond rfl (fun hc20 => ?_) (fun hc20 => ?_)
  · have h := ct hc20 h
    refine CJ.seq ?_
    refine CJ.region ?_
    refine J.val (v := .agg #[.bool false, .bool false, .bool false]) rfl rfl (V.build inf49 places49 rfl rfl) ?_
    refine J.op rfl (A.store (v := .agg #[.bool false, .bool false, .bool false]) (cs' := [.bool false, .bool false, .bool false]) sz49 rfl rfl rfl rfl rfl rfl) ?_
    rintro _ _ _ ⟨rfl, rfl, rfl⟩
    refine J.val (v := .bool true) rfl rfl (V.as rfl) ?_
    refine J.nil ?_
    refine CJ.ret ?_
    have e := Option.some.inj h
    subst e
    exact ⟨_, [], Res.two rfl ⟨_, _, rfl, Ld.agg (cs := [.bool false, .bool false, .bool false]) Try.underlying49 sz49 rfl (Rd.cls 0 0 rfl rfl)⟩ rfl, ⟨false, false, false, true, rfl, rfl, rfl⟩, (Hp.le_refl _), fun w hs => (Sep.dropAt 0 rfl hs)⟩
  · have h := cf hc20 h
    refine CJ.seq ?_
    refine CJ.region ?_
    refine J.val (v := .bool (decide (xa = 1))) rfl rfl (V.eql rfl rfl) ?_
    refine J.val (v := .bool (decide (xa = 1))) rfl rfl (V.as rfl) ?_
    refine J.nil ?_
    refine CJ.cond rfl (fun hc21 => ?_) (fun hc21 => ?_)
    · have h := ct hc21 h
      refine CJ.seq ?_
      refine CJ.region ?_
      refine J.val (v := .agg #[.bool true, .bool true, .bool false]) rfl rfl (V.build inf49 places49 rfl rfl) ?_
      refine J.op rfl (A.store (v := .agg #[.bool true, .bool true, .bool false]) (cs' := [.bool true, .bool true, .bool false]) sz49 rfl rfl rfl rfl rfl rfl) ?_
      rintro _ _ _ ⟨rfl, rfl, rfl⟩
      refine J.val (v := .bool true) rfl rfl (V.as rfl) ?_
      refine J.nil ?_
      refine CJ.ret ?_
      have e := Option.some.inj h
      subst e
      exact ⟨_, [], Res.two rfl ⟨_, _, rfl, Ld.agg (cs := [.bool true, .bool true, .bool false]) Try.underlying49 sz49 rfl (Rd.cls 0 0 rfl rfl)⟩ rfl, ⟨true, true, false, true, rfl, rfl, rfl⟩, (Hp.le_refl _), fun w hs => (Sep.dropAt 0 rfl hs)⟩
    · have h := cf hc21 h
      refine CJ.seq ?_
      obtain ⟨o25, ho26, h⟩ := ob h
      refine CJ.meetN (fun ρ K' L' => ∃ (i23 : Int) (t24 : Bool), (i23, t24) = o25 ∧ Fits [(2, .pointer (some ⟨b19, 0, none⟩)), (4, .int .i64 i23), (11, .bool t24)] ρ ∧ K = K' ∧ L' = Cl b19 49 [.bool false, .bool false, .bool false] :: F) ?_ ?_
      · skip
        refine CJ.seq ?_
        refine CJ.region ?_
        refine J.val (v := .bool (decide (xa = 2))) rfl rfl (V.eql rfl rfl) ?_
        refine J.val (v := .bool (decide (xa = 2))) rfl rfl (V.as rfl) ?_
        refine J.nil ?_
        refine CJ.cond rfl (fun hc27 => ?_) (fun hc27 => ?_)
        · have ho26 := ct hc27 ho26
          refine CJ.skip ?_
          have e := Option.some.inj ho26
          subst e
          exact ⟨rfl, ⟨xa, decide (xa = 2), rfl, ⟨rfl, rfl, rfl, trivial⟩, rfl, rfl⟩⟩
        · have ho26 := cf hc27 ho26
          refine CJ.region ?_
          refine J.val (v := .bool (decide (xa = 3))) rfl rfl (V.eql rfl rfl) ?_
          refine J.val (v := .bool (decide (xa = 3))) rfl rfl (V.as rfl) ?_
          refine J.nil ?_
          have e := Option.some.inj ho26
          subst e
          exact ⟨rfl, ⟨xa, decide (xa = 3), rfl, ⟨rfl, rfl, rfl, trivial⟩, rfl, rfl⟩⟩
      · rintro ρ _ _ ⟨i23, t24, rfl, hf28, rfl, rfl⟩
        obtain ⟨ρ, rfl⟩ := hf28.ex
        refine PJ.done ?_
        refine CJ.cond rfl (fun hc30 => ?_) (fun hc30 => ?_)
        · have h := ct hc30 h
          refine CJ.seq ?_
          refine CJ.region ?_
          refine J.val (v := .agg #[.bool true, .bool true, .bool true]) rfl rfl (V.build inf49 places49 rfl rfl) ?_
          refine J.op rfl (A.store (v := .agg #[.bool true, .bool true, .bool true]) (cs' := [.bool true, .bool true, .bool true]) sz49 rfl rfl rfl rfl rfl rfl) ?_
          rintro _ _ _ ⟨rfl, rfl, rfl⟩
          refine J.val (v := .bool true) rfl rfl (V.as rfl) ?_
          refine J.nil ?_
          refine CJ.ret ?_
          have e := Option.some.inj h
          subst e
          exact ⟨_, [], Res.two rfl ⟨_, _, rfl, Ld.agg (cs := [.bool true, .bool true, .bool true]) Try.underlying49 sz49 rfl (Rd.cls 0 0 rfl rfl)⟩ rfl, ⟨true, true, true, true, rfl, rfl, rfl⟩, (Hp.le_refl _), fun w hs => (Sep.dropAt 0 rfl hs)⟩
        · have h := cf hc30 h
          refine CJ.seq ?_
          refine CJ.region ?_
          refine J.val (v := .bool (decide (i23 = 4))) rfl rfl (V.eql rfl rfl) ?_
          refine J.val (v := .bool (decide (i23 = 4))) rfl rfl (V.as rfl) ?_
          refine J.nil ?_
          refine CJ.cond rfl (fun hc31 => ?_) (fun hc31 => ?_)
          · have h := ct hc31 h
            refine CJ.seq ?_
            refine CJ.region ?_
            refine J.val (v := .agg #[.bool false, .bool true, .bool false]) rfl rfl (V.build inf49 places49 rfl rfl) ?_
            refine J.op rfl (A.store (v := .agg #[.bool false, .bool true, .bool false]) (cs' := [.bool false, .bool true, .bool false]) sz49 rfl rfl rfl rfl rfl rfl) ?_
            rintro _ _ _ ⟨rfl, rfl, rfl⟩
            refine J.val (v := .bool true) rfl rfl (V.as rfl) ?_
            refine J.nil ?_
            refine CJ.ret ?_
            have e := Option.some.inj h
            subst e
            exact ⟨_, [], Res.two rfl ⟨_, _, rfl, Ld.agg (cs := [.bool false, .bool true, .bool false]) Try.underlying49 sz49 rfl (Rd.cls 0 0 rfl rfl)⟩ rfl, ⟨false, true, false, true, rfl, rfl, rfl⟩, (Hp.le_refl _), fun w hs => (Sep.dropAt 0 rfl hs)⟩
          · have h := cf hc31 h
            refine CJ.seq ?_
            refine CJ.region ?_
            refine J.val (v := .bool (decide (i23 = 5))) rfl rfl (V.eql rfl rfl) ?_
            refine J.val (v := .bool (decide (i23 = 5))) rfl rfl (V.as rfl) ?_
            refine J.nil ?_
            refine CJ.cond rfl (fun hc32 => ?_) (fun hc32 => ?_)
            · have h := ct hc32 h
              refine CJ.seq ?_
              refine CJ.region ?_
              refine J.val (v := .agg #[.bool true, .bool false, .bool false]) rfl rfl (V.build inf49 places49 rfl rfl) ?_
              refine J.op rfl (A.store (v := .agg #[.bool true, .bool false, .bool false]) (cs' := [.bool true, .bool false, .bool false]) sz49 rfl rfl rfl rfl rfl rfl) ?_
              rintro _ _ _ ⟨rfl, rfl, rfl⟩
              refine J.val (v := .bool true) rfl rfl (V.as rfl) ?_
              refine J.nil ?_
              refine CJ.ret ?_
              have e := Option.some.inj h
              subst e
              exact ⟨_, [], Res.two rfl ⟨_, _, rfl, Ld.agg (cs := [.bool true, .bool false, .bool false]) Try.underlying49 sz49 rfl (Rd.cls 0 0 rfl rfl)⟩ rfl, ⟨true, false, false, true, rfl, rfl, rfl⟩, (Hp.le_refl _), fun w hs => (Sep.dropAt 0 rfl hs)⟩
            · have h := cf hc32 h
              refine CJ.skip ?_
              refine CJ.seq ?_
              refine CJ.region ?_
              refine J.val (v := .agg #[.bool false, .bool false, .bool false]) rfl rfl (V.build inf49 places49 rfl rfl) ?_
              refine J.op rfl (A.store (v := .agg #[.bool false, .bool false, .bool false]) (cs' := [.bool false, .bool false, .bool false]) sz49 rfl rfl rfl rfl rfl rfl) ?_
              rintro _ _ _ ⟨rfl, rfl, rfl⟩
              refine J.val (v := .bool false) rfl rfl (V.as rfl) ?_
              refine J.nil ?_
              refine CJ.ret ?_
              have e := Option.some.inj h
              subst e
              exact ⟨_, [], Res.two rfl ⟨_, _, rfl, Ld.agg (cs := [.bool false, .bool false, .bool false]) Try.underlying49 sz49 rfl (Rd.cls 0 0 rfl rfl)⟩ rfl, ⟨false, false, false, false, rfl, rfl, rfl⟩, (Hp.le_refl _), fun w hs => (Sep.dropAt 0 rfl hs)⟩

noncomputable def fn_stmt_own (xa : (Int × Int × Int × Int × Bool)) (xb : (Bool × Bool × Bool)) : Option (Int × Int × Int × Int × Bool) :=
  (cond (xb.1) (some ((xa.1, xa.2.1, xa.2.2.1, xa.2.2.2.1, 0, 0, 0, 0, xa.1, xa.2.1, 0, 0))) (some ((xa.1, xa.2.1, xa.2.2.1, xa.2.2.2.1, 0, 0, 0, 0, xa.1, 0, 0, 0))) : Option (Int × Int × Int × Int × Int × Int × Int × Int × Int × Int × Int × Int)).bind fun (i55, i56, i57, i58, i59, i60, i61, i62, i63, i65, i66, i67) => (cond (xb.2.1) (some (i57)) (some (i66)) : Option Int).bind fun i74 => cond (xb.2.2) (some ((i63, i65, i74, i58, xa.2.2.2.2))) (some ((i63, i65, i74, i67, false)))
set_option maxRecDepth 100000 in
set_option maxHeartbeats 4000000 in
theorem stmt_own_ok {K : Hp} {xa : (Int × Int × Int × Int × Bool)} {xb : (Bool × Bool × Bool)}   {r : (Int × Int × Int × Int × Bool)} (h : fn_stmt_own xa xb = some r) :
    Tr Try.prog 36 #[.agg #[.int .i64 xa.1, .int .i64 xa.2.1, .int .i64 xa.2.2.1, .int .i64 xa.2.2.2.1, .bool xa.2.2.2.2], .agg #[.bool xb.1, .bool xb.2.1, .bool xb.2.2]] K [] (fun v K' L' => (∃ (i45 : Int) (i46 : Int) (i47 : Int) (i48 : Int) (t49 : Bool), (i45, i46, i47, i48, t49) = r ∧ .agg #[.int .i64 i45, .int .i64 i46, .int .i64 i47, .int .i64 i48, .bool t49] = v ∧ L' = []) ∧ K = K') := by
  refine Tr.k ?_
  refine Tr.of Try.func36 rfl Try.ntmps36 rfl (fun E F => ?_)
  unfold fn_stmt_own at h
  refine CJ.seq ?_
  refine CJ.region ?_
  refine J.op rfl (A.box (v := .agg #[.int .i64 xa.1, .int .i64 xa.2.1, .int .i64 xa.2.2.1, .int .i64 xa.2.2.2.1, .bool xa.2.2.2.2]) (cs := [.int .i64 xa.1, .int .i64 xa.2.1, .int .i64 xa.2.2.1, .int .i64 xa.2.2.2.1, .bool xa.2.2.2.2]) rfl rfl) ?_
  rintro _ _ _ ⟨b50, rfl, rfl, rfl⟩
  refine J.op rfl (A.box (v := .agg #[.bool xb.1, .bool xb.2.1, .bool xb.2.2]) (cs := [.bool xb.1, .bool xb.2.1, .bool xb.2.2]) rfl rfl) ?_
  rintro _ _ _ ⟨b51, rfl, rfl, rfl⟩
  refine J.op rfl (A.alloc (cs := [.int .i64 0, .int .i64 0, .int .i64 0, .int .i64 0, .bool false]) inf23 rfl) ?_
  rintro _ _ _ ⟨b52, rfl, rfl, rfl⟩
  refine J.nil ?_
  refine CJ.seq ?_
  refine CJ.region ?_
  refine J.val rfl rfl (V.fad Try.underlying23 rfl nz3 rfl) ?_
  refine J.val (v := .int .i64 xa.1) rfl rfl (V.ld rfl (Ld.sc sc3 (Rd.cl 2 rfl rfl))) ?_
  refine J.val (v := .agg #[.int .i64 xa.1, .int .i64 0, .int .i64 0, .int .i64 0, .bool false]) rfl rfl (V.build inf23 places23 rfl rfl) ?_
  refine J.op rfl (A.alloc (cs := [.int .i64 0, .int .i64 0, .int .i64 0, .int .i64 0, .bool false]) inf23 rfl) ?_
  rintro _ _ _ ⟨b53, rfl, rfl, rfl⟩
  refine J.op rfl (A.store (v := .agg #[.int .i64 xa.1, .int .i64 0, .int .i64 0, .int .i64 0, .bool false]) (cs' := [.int .i64 xa.1, .int .i64 0, .int .i64 0, .int .i64 0, .bool false]) sz23 rfl rfl rfl rfl rfl rfl) ?_
  rintro _ _ _ ⟨rfl, rfl, rfl⟩
  refine J.nil ?_
  refine CJ.seq ?_
  obtain ⟨o68, ho69, h⟩ := ob h
  refine CJ.meetN (fun ρ K' L' => ∃ (i55 : Int) (i56 : Int) (i57 : Int) (i58 : Int) (i59 : Int) (i60 : Int) (i61 : Int) (i62 : Int) (i63 : Int) (i65 : Int) (i66 : Int) (i67 : Int), (i55, i56, i57, i58, i59, i60, i61, i62, i63, i65, i66, i67) = o68 ∧ Fits [(2, .pointer (some ⟨b50, 0, none⟩)), (3, .pointer (some ⟨b51, 0, none⟩)), (4, .pointer (some ⟨b52, 0, none⟩)), (5, .pointer (some ⟨b53, 0, none⟩))] ρ ∧ K = K' ∧ L' = Cl b50 23 [.int .i64 i55, .int .i64 i56, .int .i64 i57, .int .i64 i58, .bool xa.2.2.2.2] :: Cl b51 49 [.bool xb.1, .bool xb.2.1, .bool xb.2.2] :: Cl b52 23 [.int .i64 i59, .int .i64 i60, .int .i64 i61, .int .i64 i62, .bool false] :: Cl b53 23 [.int .i64 i63, .int .i64 i65, .int .i64 i66, .int .i64 i67, .bool false] :: F) ?_ ?_
  · skip
    refine CJ.seq ?_
    refine CJ.region ?_
    refine J.val rfl rfl (V.fad Try.underlying49 rfl nz4 rfl) ?_
    refine J.val (v := .bool xb.1) rfl rfl (V.ld rfl (Ld.sc sc4 (Rd.cl 2 rfl rfl))) ?_
    refine J.nil ?_
    refine CJ.cond rfl (fun hc70 => ?_) (fun hc70 => ?_)
    · have ho69 := ct hc70 ho69
      refine CJ.region ?_
      refine J.val rfl rfl (V.fad Try.underlying23 rfl nz3 rfl) ?_
      refine J.val (v := .int .i64 xa.2.1) rfl rfl (V.ld rfl (Ld.sc sc3 (Rd.cl 3 rfl rfl))) ?_
      refine J.val rfl rfl (V.fad Try.underlying23 rfl nz3 rfl) ?_
      refine J.op rfl (A.store1 (v := .int .i64 xa.2.1) (cs' := [.int .i64 xa.1, .int .i64 xa.2.1, .int .i64 0, .int .i64 0, .bool false]) sz3 rfl rfl rfl rfl rfl rfl) ?_
      rintro _ _ _ ⟨rfl, rfl, rfl⟩
      refine J.front 1 rfl ?_
      refine J.front 2 rfl ?_
      refine J.front 3 rfl ?_
      refine J.nil ?_
      have e := Option.some.inj ho69
      subst e
      exact ⟨rfl, ⟨xa.1, xa.2.1, xa.2.2.1, xa.2.2.2.1, 0, 0, 0, 0, xa.1, xa.2.1, 0, 0, rfl, ⟨rfl, rfl, rfl, rfl, trivial⟩, rfl, rfl⟩⟩
    · have ho69 := cf hc70 ho69
      refine CJ.front 1 rfl ?_
      refine CJ.front 2 rfl ?_
      refine CJ.front 3 rfl ?_
      refine CJ.skip ?_
      have e := Option.some.inj ho69
      subst e
      exact ⟨rfl, ⟨xa.1, xa.2.1, xa.2.2.1, xa.2.2.2.1, 0, 0, 0, 0, xa.1, 0, 0, 0, rfl, ⟨rfl, rfl, rfl, rfl, trivial⟩, rfl, rfl⟩⟩
  · rintro ρ _ _ ⟨i55, i56, i57, i58, i59, i60, i61, i62, i63, i65, i66, i67, rfl, hf71, rfl, rfl⟩
    obtain ⟨ρ, rfl⟩ := hf71.ex
    refine PJ.done ?_
    refine CJ.seq ?_
    obtain ⟨o75, ho76, h⟩ := ob h
    refine CJ.meetN (fun ρ K' L' => ∃ (i74 : Int), i74 = o75 ∧ Fits [(2, .pointer (some ⟨b50, 0, none⟩)), (3, .pointer (some ⟨b51, 0, none⟩)), (4, .pointer (some ⟨b52, 0, none⟩)), (5, .pointer (some ⟨b53, 0, none⟩))] ρ ∧ K = K' ∧ L' = Cl b50 23 [.int .i64 i55, .int .i64 i56, .int .i64 i57, .int .i64 i58, .bool xa.2.2.2.2] :: Cl b51 49 [.bool xb.1, .bool xb.2.1, .bool xb.2.2] :: Cl b52 23 [.int .i64 i59, .int .i64 i60, .int .i64 i61, .int .i64 i62, .bool false] :: Cl b53 23 [.int .i64 i63, .int .i64 i65, .int .i64 i74, .int .i64 i67, .bool false] :: F) ?_ ?_
    · skip
      refine CJ.seq ?_
      refine CJ.region ?_
      refine J.val rfl rfl (V.fad Try.underlying49 rfl nz4 rfl) ?_
      refine J.val (v := .bool xb.2.1) rfl rfl (V.ld rfl (Ld.sc sc4 (Rd.cl 1 rfl rfl))) ?_
      refine J.nil ?_
      refine CJ.cond rfl (fun hc77 => ?_) (fun hc77 => ?_)
      · have ho76 := ct hc77 ho76
        refine CJ.region ?_
        refine J.val rfl rfl (V.fad Try.underlying23 rfl nz3 rfl) ?_
        refine J.val (v := .int .i64 i57) rfl rfl (V.ld rfl (Ld.sc sc3 (Rd.cl 0 rfl rfl))) ?_
        refine J.val rfl rfl (V.fad Try.underlying23 rfl nz3 rfl) ?_
        refine J.front 3 rfl ?_
        refine J.op rfl (A.store1 (v := .int .i64 i57) (cs' := [.int .i64 i63, .int .i64 i65, .int .i64 i57, .int .i64 i67, .bool false]) sz3 rfl rfl rfl rfl rfl rfl) ?_
        rintro _ _ _ ⟨rfl, rfl, rfl⟩
        refine J.front 3 rfl ?_
        refine J.front 3 rfl ?_
        refine J.front 3 rfl ?_
        refine J.nil ?_
        have e := Option.some.inj ho76
        subst e
        exact ⟨rfl, ⟨i57, rfl, ⟨rfl, rfl, rfl, rfl, trivial⟩, rfl, rfl⟩⟩
      · have ho76 := cf hc77 ho76
        refine CJ.skip ?_
        have e := Option.some.inj ho76
        subst e
        exact ⟨rfl, ⟨i66, rfl, ⟨rfl, rfl, rfl, rfl, trivial⟩, rfl, rfl⟩⟩
    · rintro ρ _ _ ⟨i74, rfl, hf78, rfl, rfl⟩
      obtain ⟨ρ, rfl⟩ := hf78.ex
      refine PJ.done ?_
      refine CJ.seq ?_
      refine CJ.seq ?_
      refine CJ.region ?_
      refine J.val rfl rfl (V.fad Try.underlying49 rfl nz4 rfl) ?_
      refine J.val (v := .bool xb.2.2) rfl rfl (V.ld rfl (Ld.sc sc4 (Rd.cl 1 rfl rfl))) ?_
      refine J.nil ?_
      refine CJ.cond rfl (fun hc80 => ?_) (fun hc80 => ?_)
      · have h := ct hc80 h
        refine CJ.mix [Cl b50 23 [.int .i64 i55, .int .i64 i56, .int .i64 i57, .int .i64 i58, .bool xa.2.2.2.2], Cl b51 49 [.bool xb.1, .bool xb.2.1, .bool xb.2.2], Cl b52 23 [.int .i64 i59, .int .i64 i60, .int .i64 i61, .int .i64 i62, .bool false]] [([0, 1, 2, 3, 4], 5)] [6] [7] mixO (by decide +kernel) ⟨0, rfl, 0, rfl, 0, rfl, trivial⟩ rfl rfl rfl ?_
        refine JM.cons ?_
        refine JQ.val rfl rfl (V.fad Try.underlying23 rfl nz3 rfl) ?_
        refine JQ.val (v := .int .i64 i58) rfl rfl (V.ld rfl (Ld.sc sc3 (Rd.cl 0 rfl rfl))) ?_
        refine JQ.val rfl rfl (V.fad Try.underlying23 rfl nz4 rfl) ?_
        refine JQ.val (v := .bool xa.2.2.2.2) rfl rfl (V.ld rfl (Ld.sc sc4 (Rd.cl 0 rfl rfl))) ?_
        refine JQ.val rfl rfl (V.fad Try.underlying23 rfl nz3 rfl) ?_
        refine JQ.nil ?_
        refine JA.front 3 rfl ?_
        refine JA.op rfl (A.store1 (v := .int .i64 i58) (cs' := [.int .i64 i63, .int .i64 i65, .int .i64 i74, .int .i64 i58, .bool false]) sz3 rfl rfl rfl rfl rfl rfl) ?_
        rintro _ _ _ ⟨rfl, rfl, rfl⟩
        refine ⟨fun w hs => Hold.sub (Hp.le_refl _) ⟨1, rfl, 1, rfl, 1, rfl, trivial⟩ hs, ?_⟩
        refine JM.nil ?_
        refine JQ.val rfl rfl (V.fad Try.underlying23 rfl nz4 rfl) ?_
        refine JQ.nil ?_
        refine J.op rfl (A.store1 (v := .bool xa.2.2.2.2) (cs' := [.int .i64 i63, .int .i64 i65, .int .i64 i74, .int .i64 i58, .bool xa.2.2.2.2]) sz4 rfl rfl rfl rfl rfl rfl) ?_
        rintro _ _ _ ⟨rfl, rfl, rfl⟩
        refine J.nil ?_
        refine CJ.seq ?_
        refine CJ.region ?_
        refine J.val (v := .agg #[.int .i64 i63, .int .i64 i65, .int .i64 i74, .int .i64 i58, .bool xa.2.2.2.2]) rfl rfl (V.ld rfl (Ld.agg (cs := [.int .i64 i63, .int .i64 i65, .int .i64 i74, .int .i64 i58, .bool xa.2.2.2.2]) Try.underlying23 sz23 rfl (Rd.cls 0 0 rfl rfl))) ?_
        refine J.front 3 rfl ?_
        refine J.op rfl (A.store (v := .agg #[.int .i64 i63, .int .i64 i65, .int .i64 i74, .int .i64 i58, .bool xa.2.2.2.2]) (cs' := [.int .i64 i63, .int .i64 i65, .int .i64 i74, .int .i64 i58, .bool xa.2.2.2.2]) sz23 rfl rfl rfl rfl rfl rfl) ?_
        rintro _ _ _ ⟨rfl, rfl, rfl⟩
        refine J.nil ?_
        refine CJ.ret ?_
        have e := Option.some.inj h
        subst e
        exact ⟨_, [], Res.one rfl ⟨_, _, rfl, Ld.agg (cs := [.int .i64 i63, .int .i64 i65, .int .i64 i74, .int .i64 i58, .bool xa.2.2.2.2]) Try.underlying23 sz23 rfl (Rd.cls 0 0 rfl rfl)⟩, ⟨i63, i65, i74, i58, xa.2.2.2.2, rfl, rfl, rfl⟩, (Hp.le_refl _), fun w hs => (Sep.dropAt 0 rfl (Sep.dropAt 0 rfl (Sep.dropAt 0 rfl (Sep.dropAt 0 rfl hs))))⟩
      · have h := cf hc80 h
        refine CJ.skip ?_
        refine CJ.seq ?_
        refine CJ.region ?_
        refine J.val (v := .agg #[.int .i64 i63, .int .i64 i65, .int .i64 i74, .int .i64 i67, .bool false]) rfl rfl (V.ld rfl (Ld.agg (cs := [.int .i64 i63, .int .i64 i65, .int .i64 i74, .int .i64 i67, .bool false]) Try.underlying23 sz23 rfl (Rd.cls 3 0 rfl rfl))) ?_
        refine J.front 2 rfl ?_
        refine J.op rfl (A.store (v := .agg #[.int .i64 i63, .int .i64 i65, .int .i64 i74, .int .i64 i67, .bool false]) (cs' := [.int .i64 i63, .int .i64 i65, .int .i64 i74, .int .i64 i67, .bool false]) sz23 rfl rfl rfl rfl rfl rfl) ?_
        rintro _ _ _ ⟨rfl, rfl, rfl⟩
        refine J.nil ?_
        refine CJ.ret ?_
        have e := Option.some.inj h
        subst e
        exact ⟨_, [], Res.one rfl ⟨_, _, rfl, Ld.agg (cs := [.int .i64 i63, .int .i64 i65, .int .i64 i74, .int .i64 i67, .bool false]) Try.underlying23 sz23 rfl (Rd.cls 0 0 rfl rfl)⟩, ⟨i63, i65, i74, i67, false, rfl, rfl, rfl⟩, (Hp.le_refl _), fun w hs => (Sep.dropAt 0 rfl (Sep.dropAt 0 rfl (Sep.dropAt 0 rfl (Sep.dropAt 0 rfl hs))))⟩

noncomputable def fn_stmt_form (xa : (Int × Int × Int × Int × Bool)) : Option (Bool × Bool × Bool × Int) :=
  (fn_stmt_fieldsOf xa.1).bind fun (t45, t46, t47, t48) => cond (!t48) (some ((false, false, false, 3))) ((fn_stmt_own (xa.1, xa.2.1, xa.2.2.1, xa.2.2.2.1, xa.2.2.2.2) (t45, t46, t47)).bind fun (i67, i68, i69, i70, t71) => cond (!((decide (xa.1 = i67)) && ((decide (xa.2.1 = i68)) && ((decide (xa.2.2.1 = i69)) && ((decide (xa.2.2.2.1 = i70)) && (xa.2.2.2.2 == t71)))))) (some ((false, false, false, 3))) (some ((t45, t46, t47, 0))))
set_option maxRecDepth 100000 in
set_option maxHeartbeats 4000000 in
theorem stmt_form_ok {K : Hp} {xa : (Int × Int × Int × Int × Bool)}   {r : (Bool × Bool × Bool × Int)} (h : fn_stmt_form xa = some r) :
    Tr Try.prog 18 #[.agg #[.int .i64 xa.1, .int .i64 xa.2.1, .int .i64 xa.2.2.1, .int .i64 xa.2.2.2.1, .bool xa.2.2.2.2]] K [] (fun v K' L' => (∃ (t37 : Bool) (t38 : Bool) (t39 : Bool) (i40 : Int), (t37, t38, t39, i40) = r ∧ .tuple #[.agg #[.bool t37, .bool t38, .bool t39], .int .i64 i40] = v ∧ L' = []) ∧ K = K') := by
  refine Tr.k ?_
  refine Tr.of Try.func18 rfl Try.ntmps18 rfl (fun E F => ?_)
  unfold fn_stmt_form at h
  refine CJ.seq ?_
  refine CJ.region ?_
  refine J.op rfl (A.box (v := .agg #[.int .i64 xa.1, .int .i64 xa.2.1, .int .i64 xa.2.2.1, .int .i64 xa.2.2.2.1, .bool xa.2.2.2.2]) (cs := [.int .i64 xa.1, .int .i64 xa.2.1, .int .i64 xa.2.2.1, .int .i64 xa.2.2.2.1, .bool xa.2.2.2.2]) rfl rfl) ?_
  rintro _ _ _ ⟨b41, rfl, rfl, rfl⟩
  refine J.op rfl (A.alloc (cs := [.bool false, .bool false, .bool false]) inf49 rfl) ?_
  rintro _ _ _ ⟨b42, rfl, rfl, rfl⟩
  refine J.val (v := .int .i64 0) rfl rfl (V.as rfl) ?_
  refine J.nil ?_
  refine CJ.seq ?_
  refine CJ.region ?_
  refine J.val rfl rfl (V.fad Try.underlying23 rfl nz3 rfl) ?_
  refine J.val (v := .int .i64 xa.1) rfl rfl (V.ld rfl (Ld.sc sc3 (Rd.cl 1 rfl rfl))) ?_
  obtain ⟨r43, hr44, h⟩ := ob h
  refine J.op rfl (A.call (L1 := []) Try.call31 rfl (stmt_fieldsOf_ok hr44) rfl rfl) ?_
  rintro _ _ _ ⟨v49, _, rfl, ⟨⟨t45, t46, t47, t48, rfl, rfl, rfl⟩, rfl⟩, _, rfl⟩
  refine J.val (v := .tuple #[.agg #[.bool t45, .bool t46, .bool t47], .bool t48]) rfl rfl (V.mv rfl) ?_
  refine J.val (v := .agg #[.bool t45, .bool t46, .bool t47]) rfl rfl (V.ext rfl rfl) ?_
  refine J.val (v := .bool t48) rfl rfl (V.ext rfl rfl) ?_
  refine J.op rfl (A.alloc (cs := [.bool false, .bool false, .bool false]) inf49 rfl) ?_
  rintro _ _ _ ⟨b52, rfl, rfl, rfl⟩
  refine J.op rfl (A.store (v := .agg #[.bool t45, .bool t46, .bool t47]) (cs' := [.bool t45, .bool t46, .bool t47]) sz49 rfl rfl rfl rfl rfl rfl) ?_
  rintro _ _ _ ⟨rfl, rfl, rfl⟩
  refine J.val (v := .bool t48) rfl rfl (V.as rfl) ?_
  refine J.nil ?_
  refine CJ.seq ?_
  refine CJ.seq ?_
  refine CJ.mix [Cl b52 49 [.bool t45, .bool t46, .bool t47], Cl b42 49 [.bool false, .bool false, .bool false], Cl b41 23 [.int .i64 xa.1, .int .i64 xa.2.1, .int .i64 xa.2.2.1, .int .i64 xa.2.2.2.1, .bool xa.2.2.2.2]] [([0, 1, 2, 3, 4, 5], 6)] [7, 8] [] mixO (by decide +kernel) ⟨0, rfl, 0, rfl, 0, rfl, trivial⟩ rfl rfl rfl ?_
  refine JM.cons ?_
  refine JQ.val (v := .bool t48) rfl rfl (V.mv rfl) ?_
  refine JQ.val (v := .bool (!t48)) rfl rfl (V.not rfl) ?_
  refine JQ.val (v := .bool (!t48)) rfl rfl (V.mv rfl) ?_
  rcases bt (!t48) with hc64 | hc64
  · have h := ct hc64 h
    refine JQ.skip rfl rfl rfl rfl hc64 ?_
    refine JQ.skip rfl rfl rfl rfl hc64 ?_
    refine JQ.skip rfl rfl rfl rfl hc64 ?_
    refine JQ.nil ?_
    refine JA.skip rfl rfl rfl rfl hc64 ?_
    refine JM.nil ?_
    refine JQ.skip rfl rfl rfl rfl hc64 ?_
    refine JQ.val (v := .bool true) rfl rfl (V.pickT rfl hc64 rfl) ?_
    refine JQ.nil ?_
    refine J.nil ?_
    refine CJ.condK (b := true) rfl rfl ?_
    refine CJ.seq ?_
    refine CJ.region ?_
    refine J.val (v := .agg #[.bool false, .bool false, .bool false]) rfl rfl (V.build inf49 places49 rfl rfl) ?_
    refine J.front 1 rfl ?_
    refine J.op rfl (A.store (v := .agg #[.bool false, .bool false, .bool false]) (cs' := [.bool false, .bool false, .bool false]) sz49 rfl rfl rfl rfl rfl rfl) ?_
    rintro _ _ _ ⟨rfl, rfl, rfl⟩
    refine J.val (v := .int .i64 3) rfl rfl (V.as rfl) ?_
    refine J.nil ?_
    refine CJ.ret ?_
    have e := Option.some.inj h
    subst e
    exact ⟨_, [], Res.two rfl ⟨_, _, rfl, Ld.agg (cs := [.bool false, .bool false, .bool false]) Try.underlying49 sz49 rfl (Rd.cls 0 0 rfl rfl)⟩ rfl, ⟨false, false, false, 3, rfl, rfl, rfl⟩, (Hp.le_refl _), fun w hs => (Sep.dropAt 0 rfl (Sep.dropAt 0 rfl (Sep.dropAt 0 rfl hs)))⟩
  · have h := cf hc64 h
    refine JQ.run rfl rfl rfl hc64 ?_
    refine JQ.val (v := .agg #[.int .i64 xa.1, .int .i64 xa.2.1, .int .i64 xa.2.2.1, .int .i64 xa.2.2.2.1, .bool xa.2.2.2.2]) rfl rfl (V.ld rfl (Ld.agg (cs := [.int .i64 xa.1, .int .i64 xa.2.1, .int .i64 xa.2.2.1, .int .i64 xa.2.2.2.1, .bool xa.2.2.2.2]) Try.underlying23 sz23 rfl (Rd.cls 2 0 rfl rfl))) ?_
    refine JQ.run rfl rfl rfl hc64 ?_
    refine JQ.val (v := .agg #[.int .i64 xa.1, .int .i64 xa.2.1, .int .i64 xa.2.2.1, .int .i64 xa.2.2.2.1, .bool xa.2.2.2.2]) rfl rfl (V.ld rfl (Ld.agg (cs := [.int .i64 xa.1, .int .i64 xa.2.1, .int .i64 xa.2.2.1, .int .i64 xa.2.2.2.1, .bool xa.2.2.2.2]) Try.underlying23 sz23 rfl (Rd.cls 2 0 rfl rfl))) ?_
    refine JQ.run rfl rfl rfl hc64 ?_
    refine JQ.val (v := .agg #[.bool t45, .bool t46, .bool t47]) rfl rfl (V.ld rfl (Ld.agg (cs := [.bool t45, .bool t46, .bool t47]) Try.underlying49 sz49 rfl (Rd.cls 0 0 rfl rfl))) ?_
    refine JQ.nil ?_
    refine JA.run rfl rfl rfl hc64 ?_
    obtain ⟨r65, hr66, h⟩ := ob h
    refine JA.op rfl (A.call (L1 := []) Try.call36 rfl (stmt_own_ok hr66) rfl rfl) ?_
    rintro _ _ _ ⟨v72, _, rfl, ⟨⟨i67, i68, i69, i70, t71, rfl, rfl, rfl⟩, rfl⟩, _, rfl⟩
    refine ⟨fun w hs => Hold.sub (Hp.le_refl _) ⟨0, rfl, 0, rfl, 0, rfl, trivial⟩ hs, ?_⟩
    refine JM.nil ?_
    refine JQ.run rfl rfl rfl hc64 ?_
    refine JQ.val (v := .bool (!((decide (xa.1 = i67)) && ((decide (xa.2.1 = i68)) && ((decide (xa.2.2.1 = i69)) && ((decide (xa.2.2.2.1 = i70)) && (xa.2.2.2.2 == t71))))))) rfl rfl (V.nest eqg23 (EqIn.st (d := 9999) rfl Try.underlying23 sih23 (EqFs.cons (by decide) (Ld0.sc sc3 rfl) (Ld0.sc sc3 rfl) (EqIn.int (d := 9998) rfl Try.underlying3) (EqFs.cons (by decide) (Ld0.sc sc3 rfl) (Ld0.sc sc3 rfl) (EqIn.int (d := 9998) rfl Try.underlying3) (EqFs.cons (by decide) (Ld0.sc sc3 rfl) (Ld0.sc sc3 rfl) (EqIn.int (d := 9998) rfl Try.underlying3) (EqFs.cons (by decide) (Ld0.sc sc3 rfl) (Ld0.sc sc3 rfl) (EqIn.int (d := 9998) rfl Try.underlying3) (EqFs.last (by decide) (Ld0.sc sc4 rfl) (Ld0.sc sc4 rfl) (EqIn.bool (d := 9998) rfl Try.underlying4))))))) rfl rfl) ?_
    refine JQ.val (v := .bool (!((decide (xa.1 = i67)) && ((decide (xa.2.1 = i68)) && ((decide (xa.2.2.1 = i69)) && ((decide (xa.2.2.2.1 = i70)) && (xa.2.2.2.2 == t71))))))) rfl rfl (V.pickF rfl hc64 rfl) ?_
    refine JQ.nil ?_
    refine J.nil ?_
    refine CJ.cond rfl (fun hc75 => ?_) (fun hc75 => ?_)
    · have h := ct hc75 h
      refine CJ.seq ?_
      refine CJ.region ?_
      refine J.val (v := .agg #[.bool false, .bool false, .bool false]) rfl rfl (V.build inf49 places49 rfl rfl) ?_
      refine J.front 1 rfl ?_
      refine J.op rfl (A.store (v := .agg #[.bool false, .bool false, .bool false]) (cs' := [.bool false, .bool false, .bool false]) sz49 rfl rfl rfl rfl rfl rfl) ?_
      rintro _ _ _ ⟨rfl, rfl, rfl⟩
      refine J.val (v := .int .i64 3) rfl rfl (V.as rfl) ?_
      refine J.nil ?_
      refine CJ.ret ?_
      have e := Option.some.inj h
      subst e
      exact ⟨_, [], Res.two rfl ⟨_, _, rfl, Ld.agg (cs := [.bool false, .bool false, .bool false]) Try.underlying49 sz49 rfl (Rd.cls 0 0 rfl rfl)⟩ rfl, ⟨false, false, false, 3, rfl, rfl, rfl⟩, (Hp.le_refl _), fun w hs => (Sep.dropAt 0 rfl (Sep.dropAt 0 rfl (Sep.dropAt 0 rfl hs)))⟩
    · have h := cf hc75 h
      refine CJ.skip ?_
      refine CJ.seq ?_
      refine CJ.region ?_
      refine J.val (v := .agg #[.bool t45, .bool t46, .bool t47]) rfl rfl (V.ld rfl (Ld.agg (cs := [.bool t45, .bool t46, .bool t47]) Try.underlying49 sz49 rfl (Rd.cls 0 0 rfl rfl))) ?_
      refine J.front 1 rfl ?_
      refine J.op rfl (A.store (v := .agg #[.bool t45, .bool t46, .bool t47]) (cs' := [.bool t45, .bool t46, .bool t47]) sz49 rfl rfl rfl rfl rfl rfl) ?_
      rintro _ _ _ ⟨rfl, rfl, rfl⟩
      refine J.val (v := .int .i64 0) rfl rfl (V.as rfl) ?_
      refine J.nil ?_
      refine CJ.ret ?_
      have e := Option.some.inj h
      subst e
      exact ⟨_, [], Res.two rfl ⟨_, _, rfl, Ld.agg (cs := [.bool t45, .bool t46, .bool t47]) Try.underlying49 sz49 rfl (Rd.cls 0 0 rfl rfl)⟩ rfl, ⟨t45, t46, t47, 0, rfl, rfl, rfl⟩, (Hp.le_refl _), fun w hs => (Sep.dropAt 0 rfl (Sep.dropAt 0 rfl (Sep.dropAt 0 rfl hs)))⟩
noncomputable def fn_leb_digits_l1  : (Int × Int) → Option ((Int × Int) ⊕ Int) := fun ((i53, i54) : (Int × Int)) => cond (decide (0 < i53)) (some (.inl ((Int.fdiv i53 (2 ^ (min (Int.toNat 8) (IntKind.bits .i64))), IntKind.wrap .i64 (i54 + 1))))) (some (.inr (i54)))
noncomputable def fn_leb_digits (xa : Int) : Option Int :=
  (loop (fn_leb_digits_l1) (xa, 0) : Option Int).bind fun i47 => some (i47)
set_option maxRecDepth 100000 in
set_option maxHeartbeats 4000000 in
theorem leb_digits_ok {K : Hp} {xa : Int}   {r : Int} (h : fn_leb_digits xa = some r) :
    Tr Try.prog 44 #[.int .i64 xa] K [] (fun v K' L' => (∃ (i33 : Int), i33 = r ∧ .int .i64 i33 = v ∧ L' = []) ∧ K = K') := by
  refine Tr.k ?_
  refine Tr.of Try.func44 rfl Try.ntmps44 rfl (fun E F => ?_)
  unfold fn_leb_digits at h
  refine CJ.seq ?_
  refine CJ.region ?_
  refine J.val (v := .int .i64 0) rfl rfl (V.as rfl) ?_
  refine J.nil ?_
  refine CJ.seq ?_
  refine CJ.region ?_
  refine J.val (v := .int .i64 0) rfl rfl (V.as rfl) ?_
  refine J.nil ?_
  refine CJ.seq ?_
  obtain ⟨o48, ho49, h⟩ := ob h
  refine CJ.meetN (fun ρ K' L' => ∃ (i47 : Int), i47 = o48 ∧ Fits [(3, .int .i64 i47)] ρ ∧ K = K' ∧ F = L') ?_ ?_
  · skip
    refine CJ.block ?_
    refine CJ.loop (fun s ρ K' L' => ∃ (i53 : Int) (i54 : Int), (i53, i54) = s ∧ Fits [(0, .int .i64 i53), (3, .int .i64 i54)] ρ ∧ K = K' ∧ F = L') ho49 ⟨xa, 0, rfl, ⟨rfl, rfl, trivial⟩, rfl, rfl⟩ ?_
    rintro s ρ _ _ r61 ⟨i53, i54, rfl, hf59, rfl, rfl⟩ h58
    obtain ⟨ρ, rfl⟩ := hf59.ex
    refine CJ.seq ?_
    refine CJ.seq ?_
    refine CJ.region ?_
    refine J.val (v := .int .i64 i53) rfl rfl (V.mv rfl) ?_
    refine J.val (v := .bool (decide (0 < i53))) rfl rfl (V.gtr rfl rfl) ?_
    refine J.nil ?_
    refine CJ.cond rfl (fun hc62 => ?_) (fun hc62 => ?_)
    · have h58 := ct hc62 h58
      refine CJ.skip ?_
      refine CJ.seq ?_
      refine CJ.block ?_
      refine CJ.region ?_
      refine J.val (v := .int .i64 i54) rfl rfl (V.mv rfl) ?_
      refine J.val (v := .int .i64 (IntKind.wrap .i64 (i54 + 1))) rfl rfl (V.add rfl rfl) ?_
      refine J.val (v := .int .i64 (IntKind.wrap .i64 (i54 + 1))) rfl rfl (V.as rfl) ?_
      refine J.nil ?_
      refine CJ.region ?_
      refine J.val (v := .int .i64 i53) rfl rfl (V.mv rfl) ?_
      refine J.val (v := .int .i64 (Int.fdiv i53 (2 ^ (min (Int.toNat 8) (IntKind.bits .i64))))) rfl rfl (V.shr rfl rfl (by decide)) ?_
      refine J.val (v := .int .i64 (Int.fdiv i53 (2 ^ (min (Int.toNat 8) (IntKind.bits .i64))))) rfl rfl (V.as rfl) ?_
      refine J.nil ?_
      have e := Option.some.inj h58
      subst e
      exact ⟨rfl, ⟨Int.fdiv i53 (2 ^ (min (Int.toNat 8) (IntKind.bits .i64))), IntKind.wrap .i64 (i54 + 1), rfl, ⟨rfl, rfl, trivial⟩, rfl, rfl⟩⟩
    · have h58 := cf hc62 h58
      refine CJ.exit ?_
      have e := Option.some.inj h58
      subst e
      refine ⟨nofun, fun e => ?_⟩
      subst e
      exact ⟨rfl, ⟨i54, rfl, ⟨rfl, trivial⟩, rfl, rfl⟩⟩
  · rintro ρ _ _ ⟨i47, rfl, hf63, rfl, rfl⟩
    obtain ⟨ρ, rfl⟩ := hf63.ex
    refine PJ.done ?_
    refine CJ.seq ?_
    refine CJ.region ?_
    refine J.val (v := .int .i64 i47) rfl rfl (V.mv rfl) ?_
    refine J.val (v := .int .i64 i47) rfl rfl (V.as rfl) ?_
    refine J.nil ?_
    refine CJ.ret ?_
    have e := Option.some.inj h
    subst e
    exact ⟨_, [], Res.one rfl rfl, ⟨i47, rfl, rfl, rfl⟩, (Hp.le_refl _), fun w hs => hs⟩

noncomputable def fn_leb_Size (xa : Int) : Option Int :=
  cond ((decide (xa < 0)) || (decide (4294967295 < xa))) (some (0)) (cond (decide (xa < 248)) (some (1)) ((fn_leb_digits xa).bind fun i21 => some (IntKind.wrap .i64 (1 + i21))))
set_option maxRecDepth 100000 in
set_option maxHeartbeats 4000000 in
theorem leb_Size_ok {K : Hp} {xa : Int}   {r : Int} (h : fn_leb_Size xa = some r) :
    Tr Try.prog 45 #[.int .i64 xa] K [] (fun v K' L' => (∃ (i13 : Int), i13 = r ∧ .int .i64 i13 = v ∧ L' = []) ∧ K = K') := by
  refine Tr.k ?_
  refine Tr.of Try.func45 rfl Try.ntmps45 rfl (fun E F => ?_)
  unfold fn_leb_Size at h
  refine CJ.seq ?_
  refine CJ.region ?_
  refine J.val (v := .int .i64 0) rfl rfl (V.as rfl) ?_
  refine J.nil ?_
  refine CJ.seq ?_
  refine CJ.block ?_
  refine CJ.seq ?_
  refine CJ.region ?_
  refine J.val (v := .int .i64 xa) rfl rfl (V.mv rfl) ?_
  refine J.val (v := .bool (decide (xa < 0))) rfl rfl (V.lss rfl rfl) ?_
  refine J.val (v := .bool (decide (xa < 0))) rfl rfl (V.mv rfl) ?_
  refine J.cut 3 ?_
  refine @J.meet _ _ _ _ _ _ _ _ _ _ (fun ρ K' L' => Fits [(9, .bool ((decide (xa < 0)) || (decide (4294967295 < xa)))), (0, .int .i64 xa)] ρ ∧ K = K' ∧ F = L') ?_ ?_
  · skip
    rcases bt (decide (xa < 0)) with hc16 | hc16
    · skip
      refine J.skip rfl rfl rfl rfl hc16 ?_
      refine J.skip rfl rfl rfl rfl hc16 ?_
      refine J.val (v := .bool true) rfl rfl (V.pickT rfl hc16 rfl) ?_
      refine J.nil ?_
      exact ⟨rfl, ⟨(by simp only [hc16]; rfl), rfl, trivial⟩, rfl, rfl⟩
    · skip
      refine J.run rfl rfl rfl hc16 ?_
      refine J.val (v := .int .i64 xa) rfl rfl (V.mv rfl) ?_
      refine J.run rfl rfl rfl hc16 ?_
      refine J.val (v := .bool (decide (4294967295 < xa))) rfl rfl (V.gtr rfl rfl) ?_
      refine J.val (v := .bool (decide (4294967295 < xa))) rfl rfl (V.pickF rfl hc16 rfl) ?_
      refine J.nil ?_
      exact ⟨rfl, ⟨(by simp only [hc16]; rfl), rfl, trivial⟩, rfl, rfl⟩
  · rintro ρ _ _ ⟨hf, rfl, rfl⟩
    obtain ⟨ρ, rfl⟩ := hf.ex
    refine J.val (v := .bool ((decide (xa < 0)) || (decide (4294967295 < xa)))) rfl rfl (V.as rfl) ?_
    refine J.nil ?_
    refine CJ.cond rfl (fun hc17 => ?_) (fun hc17 => ?_)
    · have h := ct hc17 h
      refine CJ.seq ?_
      refine CJ.region ?_
      refine J.val (v := .int .i64 0) rfl rfl (V.as rfl) ?_
      refine J.nil ?_
      refine CJ.ret ?_
      have e := Option.some.inj h
      subst e
      exact ⟨_, [], Res.one rfl rfl, ⟨0, rfl, rfl, rfl⟩, (Hp.le_refl _), fun w hs => hs⟩
    · have h := cf hc17 h
      refine CJ.seq ?_
      refine CJ.region ?_
      refine J.val (v := .int .i64 xa) rfl rfl (V.mv rfl) ?_
      refine J.val (v := .bool (decide (xa < 248))) rfl rfl (V.lss rfl rfl) ?_
      refine J.val (v := .bool (decide (xa < 248))) rfl rfl (V.as rfl) ?_
      refine J.nil ?_
      refine CJ.cond rfl (fun hc18 => ?_) (fun hc18 => ?_)
      · have h := ct hc18 h
        refine CJ.seq ?_
        refine CJ.region ?_
        refine J.val (v := .int .i64 1) rfl rfl (V.as rfl) ?_
        refine J.nil ?_
        refine CJ.ret ?_
        have e := Option.some.inj h
        subst e
        exact ⟨_, [], Res.one rfl rfl, ⟨1, rfl, rfl, rfl⟩, (Hp.le_refl _), fun w hs => hs⟩
      · have h := cf hc18 h
        refine CJ.skip ?_
        refine CJ.seq ?_
        refine CJ.region ?_
        refine J.val (v := .int .i64 xa) rfl rfl (V.mv rfl) ?_
        obtain ⟨r19, hr20, h⟩ := ob h
        refine J.op rfl (A.call (L1 := []) Try.call44 rfl (leb_digits_ok hr20) rfl rfl) ?_
        rintro _ _ _ ⟨v22, _, rfl, ⟨⟨i21, rfl, rfl, rfl⟩, rfl⟩, _, rfl⟩
        refine J.val (v := .int .i64 (IntKind.wrap .i64 (1 + i21))) rfl rfl (V.add rfl rfl) ?_
        refine J.val (v := .int .i64 (IntKind.wrap .i64 (1 + i21))) rfl rfl (V.as rfl) ?_
        refine J.nil ?_
        refine CJ.ret ?_
        have e := Option.some.inj h
        subst e
        exact ⟨_, [], Res.one rfl rfl, ⟨IntKind.wrap .i64 (1 + i21), rfl, rfl, rfl⟩, (Hp.le_refl _), fun w hs => hs⟩
noncomputable def fn_leb_All_l1 (x997 : Int) : (Int × List UInt8) → Option ((Int × List UInt8) ⊕ List UInt8) := fun ((i1059, s1060) : (Int × List UInt8)) => cond (decide (0 ≤ i1059)) ((ge0 i1059).bind fun u1074 => (wrB s1060 (IntKind.wrap .u8 (Int.fdiv x997 (2 ^ (min (Int.toNat i1059) (IntKind.bits .i64)))))).bind fun s1076 => some (.inl ((IntKind.wrap .i64 (i1059 - 8), s1076)))) (some (.inr (s1060)))
noncomputable def fn_leb_All_l2 (xa : (List Int)) : (Int × List UInt8) → Option ((Int × List UInt8) ⊕ List UInt8) := fun ((i903, s904) : (Int × List UInt8)) => cond (decide (i903 < (((xa.length : Nat) : Int)))) ((getI xa i903).bind fun x997 => (fn_leb_Size x997).bind fun i1008 => cond (decide (i1008 = 0)) (some (.inl ((IntKind.wrap .i64 (i903 + 1), s904)))) (cond (decide (i1008 = 1)) ((wrB s904 (IntKind.wrap .u8 x997)).bind fun s1014 => some (.inl ((IntKind.wrap .i64 (i903 + 1), s1014)))) ((wrB s904 (IntKind.wrap .u8 (IntKind.wrap .i64 ((IntKind.wrap .i64 (247 + i1008)) - 1)))).bind fun s1017 => (loop (fn_leb_All_l1 x997) ((IntKind.wrap .i64 (8 * (IntKind.wrap .i64 (i1008 - 2))), s1017)) : Option (List UInt8)).bind fun s1048 => some (.inl ((IntKind.wrap .i64 (i903 + 1), s1048)))))) (some (.inr (s904)))
noncomputable def fn_leb_All (xa : (List Int)) : Option (List UInt8) :=
  (loop (fn_leb_All_l2 xa) ((0, ([] : List UInt8))) : Option (List UInt8)).bind fun s813 => ((some s813 : Option (List UInt8))).bind fun s1083 => some (s1083)
set_option maxRecDepth 100000 in
set_option maxHeartbeats 4000000 in
theorem leb_All_ok {K : Hp} {xa : (List Int)} {adxa_0 : Option Addr} {cpxa_0 : Nat} (fxa_0 : Is K (.sl (.int .i64)) [.slice adxa_0 xa.length cpxa_0] xa) {r : List UInt8} (h : fn_leb_All xa = some r) :
    Tr Try.prog 34 #[.slice adxa_0 xa.length cpxa_0] K [] (fun v K' L' => (∃ (s546 : List UInt8), s546 = r ∧ .string ⟨s546.toArray⟩ = v ∧ L' = []) ∧ K = K') := by
  refine Tr.k ?_
  refine Tr.of Try.func34 rfl Try.ntmps34 rfl (fun E F => ?_)
  unfold fn_leb_All at h
  refine CJ.seq ?_
  refine CJ.region ?_
  refine J.val (v := .string ⟨([] : List UInt8).toArray⟩) rfl rfl (V.as rfl) ?_
  refine J.nil ?_
  refine CJ.seq ?_
  refine CJ.region ?_
  refine J.op rfl (A.alloc (cs := [.pointer none, .slice none 0 0]) inf82 rfl) ?_
  rintro _ _ _ ⟨b547, rfl, rfl, rfl⟩
  refine J.by (fun w hs => Bld.fresh hs) ?_
  refine J.nil ?_
  refine CJ.seq ?_
  refine CJ.seq ?_
  refine CJ.region ?_
  refine J.val (v := .slice adxa_0 xa.length cpxa_0) rfl rfl (V.mv rfl) ?_
  refine J.val (v := .int .i64 (((xa.length : Nat) : Int))) rfl rfl (V.len Try.underlying66 rfl) ?_
  refine J.val (v := .int .i64 0) rfl rfl (V.mv rfl) ?_
  refine J.nil ?_
  obtain ⟨o814, ho815, h⟩ := ob h
  refine CJ.meetN (fun ρ K' L' => ∃ (s813 : List UInt8), s813 = o814 ∧ Fits [(3, .pointer (some ⟨b547, 0, none⟩))] ρ ∧ K = K' ∧ L' = Bld b547 s813 :: F) ?_ ?_
  · skip
    refine CJ.block ?_
    refine CJ.loop (fun s ρ K' L' => ∃ (i903 : Int) (s904 : List UInt8), (i903, s904) = s ∧ Fits [(3, .pointer (some ⟨b547, 0, none⟩)), (8, .slice adxa_0 xa.length cpxa_0), (9, .int .i64 (((xa.length : Nat) : Int))), (10, .int .i64 i903)] ρ ∧ K = K' ∧ L' = Bld b547 s904 :: F) ho815 ⟨0, ([] : List UInt8), rfl, ⟨rfl, rfl, rfl, rfl, trivial⟩, rfl, rfl⟩ ?_
    rintro s ρ _ _ r995 ⟨i903, s904, rfl, hf993, rfl, rfl⟩ h992
    obtain ⟨ρ, rfl⟩ := hf993.ex
    refine CJ.seq ?_
    refine CJ.region ?_
    refine J.val (v := .bool (decide (i903 < (((xa.length : Nat) : Int))))) rfl rfl (V.lss rfl rfl) ?_
    refine J.nil ?_
    refine CJ.seq ?_
    refine CJ.cond rfl (fun hc996 => ?_) (fun hc996 => ?_)
    · have h992 := ct hc996 h992
      refine CJ.skip ?_
      refine CJ.seq ?_
      refine CJ.block ?_
      refine CJ.seq ?_
      refine CJ.region ?_
      obtain ⟨x997, hx998, h992⟩ := ob h992
      obtain ⟨p999, p1000, p1001⟩ := getI_some hx998
      obtain ⟨b1002, o1003, e1004, a1005⟩ := (fxa_0).at p1000
      refine J.val rfl rfl (V.iad Try.underlying66 sz3 rfl e1004 rfl p999 p1001) ?_
      refine J.val (v := .int .i64 x997) rfl rfl (V.ld rfl (Ld.sc sc3 (Rd.k (a1005).int (Hp.le_refl _)))) ?_
      refine J.val (v := .int .i64 x997) rfl rfl (V.as rfl) ?_
      refine J.nil ?_
      refine CJ.seq ?_
      refine CJ.region ?_
      refine J.val (v := .int .i64 x997) rfl rfl (V.mv rfl) ?_
      obtain ⟨r1006, hr1007, h992⟩ := ob h992
      refine J.op rfl (A.call (L1 := []) Try.call45 rfl (leb_Size_ok hr1007) rfl rfl) ?_
      rintro _ _ _ ⟨v1009, _, rfl, ⟨⟨i1008, rfl, rfl, rfl⟩, rfl⟩, _, rfl⟩
      refine J.val (v := .int .i64 i1008) rfl rfl (V.as rfl) ?_
      refine J.nil ?_
      refine CJ.seq ?_
      refine CJ.region ?_
      refine J.val (v := .int .i64 i1008) rfl rfl (V.mv rfl) ?_
      refine J.nil ?_
      refine CJ.block ?_
      refine CJ.seq ?_
      refine CJ.region ?_
      refine J.val (v := .bool (decide (i1008 = 0))) rfl rfl (V.eql rfl rfl) ?_
      refine J.val (v := .bool (decide (i1008 = 0))) rfl rfl (V.as rfl) ?_
      refine J.nil ?_
      refine CJ.cond rfl (fun hc1012 => ?_) (fun hc1012 => ?_)
      · have h992 := ct hc1012 h992
        refine CJ.skip ?_
        refine CJ.region ?_
        refine J.val (v := .int .i64 (IntKind.wrap .i64 (i903 + 1))) rfl rfl (V.add rfl rfl) ?_
        refine J.val (v := .int .i64 (IntKind.wrap .i64 (i903 + 1))) rfl rfl (V.mv rfl) ?_
        refine J.nil ?_
        have e := Option.some.inj h992
        subst e
        exact ⟨rfl, ⟨IntKind.wrap .i64 (i903 + 1), s904, rfl, ⟨rfl, rfl, rfl, rfl, trivial⟩, rfl, rfl⟩⟩
      · have h992 := cf hc1012 h992
        refine CJ.seq ?_
        refine CJ.region ?_
        refine J.val (v := .bool (decide (i1008 = 1))) rfl rfl (V.eql rfl rfl) ?_
        refine J.val (v := .bool (decide (i1008 = 1))) rfl rfl (V.as rfl) ?_
        refine J.nil ?_
        refine CJ.cond rfl (fun hc1013 => ?_) (fun hc1013 => ?_)
        · have h992 := ct hc1013 h992
          refine CJ.region ?_
          refine J.val (v := .int .i64 x997) rfl rfl (V.mv rfl) ?_
          refine J.val (v := .int .u8 (IntKind.wrap .u8 x997)) rfl rfl (V.conv Try.underlying3 Try.underlying5 rfl) ?_
          obtain ⟨s1014, hs1015, h992⟩ := ob h992
          refine J.op rfl (A.call (L1 := [Bld b547 s904]) Try.call46 rfl (WriteByte_ok hs1015) rfl rfl) ?_
          rintro _ _ _ ⟨v1016, _, rfl, ⟨⟨s1014, rfl, rfl, rfl⟩, rfl⟩, _, rfl⟩
          refine J.nil ?_
          refine CJ.region ?_
          refine J.val (v := .int .i64 (IntKind.wrap .i64 (i903 + 1))) rfl rfl (V.add rfl rfl) ?_
          refine J.val (v := .int .i64 (IntKind.wrap .i64 (i903 + 1))) rfl rfl (V.mv rfl) ?_
          refine J.nil ?_
          have e := Option.some.inj h992
          subst e
          exact ⟨rfl, ⟨IntKind.wrap .i64 (i903 + 1), s1014, rfl, ⟨rfl, rfl, rfl, rfl, trivial⟩, rfl, rfl⟩⟩
        · have h992 := cf hc1013 h992
          refine CJ.seq ?_
          refine CJ.region ?_
          refine J.val (v := .int .i64 i1008) rfl rfl (V.mv rfl) ?_
          refine J.val (v := .int .i64 (IntKind.wrap .i64 (247 + i1008))) rfl rfl (V.add rfl rfl) ?_
          refine J.val (v := .int .i64 (IntKind.wrap .i64 ((IntKind.wrap .i64 (247 + i1008)) - 1))) rfl rfl (V.sub rfl rfl) ?_
          refine J.val (v := .int .u8 (IntKind.wrap .u8 (IntKind.wrap .i64 ((IntKind.wrap .i64 (247 + i1008)) - 1)))) rfl rfl (V.conv Try.underlying3 Try.underlying5 rfl) ?_
          obtain ⟨s1017, hs1018, h992⟩ := ob h992
          refine J.op rfl (A.call (L1 := [Bld b547 s904]) Try.call46 rfl (WriteByte_ok hs1018) rfl rfl) ?_
          rintro _ _ _ ⟨v1019, _, rfl, ⟨⟨s1017, rfl, rfl, rfl⟩, rfl⟩, _, rfl⟩
          refine J.nil ?_
          refine CJ.seq ?_
          refine CJ.region ?_
          refine J.val (v := .int .i64 i1008) rfl rfl (V.mv rfl) ?_
          refine J.val (v := .int .i64 (IntKind.wrap .i64 (i1008 - 2))) rfl rfl (V.sub rfl rfl) ?_
          refine J.val (v := .int .i64 (IntKind.wrap .i64 (8 * (IntKind.wrap .i64 (i1008 - 2))))) rfl rfl (V.mul rfl rfl) ?_
          refine J.val (v := .int .i64 (IntKind.wrap .i64 (8 * (IntKind.wrap .i64 (i1008 - 2))))) rfl rfl (V.as rfl) ?_
          refine J.nil ?_
          obtain ⟨o1049, ho1050, h992⟩ := ob h992
          refine CJ.meetN (fun ρ K' L' => ∃ (s1048 : List UInt8), s1048 = o1049 ∧ Fits [(3, .pointer (some ⟨b547, 0, none⟩)), (8, .slice adxa_0 xa.length cpxa_0), (9, .int .i64 (((xa.length : Nat) : Int))), (10, .int .i64 i903)] ρ ∧ K = K' ∧ L' = Bld b547 s1048 :: F) ?_ ?_
          · skip
            refine CJ.block ?_
            refine CJ.loop (fun s ρ K' L' => ∃ (i1059 : Int) (s1060 : List UInt8), (i1059, s1060) = s ∧ Fits [(3, .pointer (some ⟨b547, 0, none⟩)), (5, .int .i64 x997), (7, .int .i64 i1059), (8, .slice adxa_0 xa.length cpxa_0), (9, .int .i64 (((xa.length : Nat) : Int))), (10, .int .i64 i903)] ρ ∧ K = K' ∧ L' = Bld b547 s1060 :: F) ho1050 ⟨IntKind.wrap .i64 (8 * (IntKind.wrap .i64 (i1008 - 2))), s1017, rfl, ⟨rfl, rfl, rfl, rfl, rfl, rfl, trivial⟩, rfl, rfl⟩ ?_
            rintro s ρ _ _ r1072 ⟨i1059, s1060, rfl, hf1070, rfl, rfl⟩ h1069
            obtain ⟨ρ, rfl⟩ := hf1070.ex
            refine CJ.seq ?_
            refine CJ.seq ?_
            refine CJ.region ?_
            refine J.val (v := .int .i64 i1059) rfl rfl (V.mv rfl) ?_
            refine J.val (v := .bool (decide (0 ≤ i1059))) rfl rfl (V.geq rfl rfl) ?_
            refine J.nil ?_
            refine CJ.cond rfl (fun hc1073 => ?_) (fun hc1073 => ?_)
            · have h1069 := ct hc1073 h1069
              refine CJ.skip ?_
              refine CJ.seq ?_
              refine CJ.block ?_
              refine CJ.region ?_
              refine J.val (v := .int .i64 x997) rfl rfl (V.mv rfl) ?_
              refine J.val (v := .int .i64 i1059) rfl rfl (V.mv rfl) ?_
              obtain ⟨u1074, hu1075, h1069⟩ := ob h1069
              refine J.val (v := .int .i64 (Int.fdiv x997 (2 ^ (min (Int.toNat i1059) (IntKind.bits .i64))))) rfl rfl (V.shr rfl rfl (ge0_some hu1075)) ?_
              refine J.val (v := .int .u8 (IntKind.wrap .u8 (Int.fdiv x997 (2 ^ (min (Int.toNat i1059) (IntKind.bits .i64)))))) rfl rfl (V.conv Try.underlying3 Try.underlying5 rfl) ?_
              obtain ⟨s1076, hs1077, h1069⟩ := ob h1069
              refine J.op rfl (A.call (L1 := [Bld b547 s1060]) Try.call46 rfl (WriteByte_ok hs1077) rfl rfl) ?_
              rintro _ _ _ ⟨v1078, _, rfl, ⟨⟨s1076, rfl, rfl, rfl⟩, rfl⟩, _, rfl⟩
              refine J.nil ?_
              refine CJ.region ?_
              refine J.val (v := .int .i64 i1059) rfl rfl (V.mv rfl) ?_
              refine J.val (v := .int .i64 (IntKind.wrap .i64 (i1059 - 8))) rfl rfl (V.sub rfl rfl) ?_
              refine J.val (v := .int .i64 (IntKind.wrap .i64 (i1059 - 8))) rfl rfl (V.as rfl) ?_
              refine J.nil ?_
              have e := Option.some.inj h1069
              subst e
              exact ⟨rfl, ⟨IntKind.wrap .i64 (i1059 - 8), s1076, rfl, ⟨rfl, rfl, rfl, rfl, rfl, rfl, trivial⟩, rfl, rfl⟩⟩
            · have h1069 := cf hc1073 h1069
              refine CJ.exit ?_
              have e := Option.some.inj h1069
              subst e
              refine ⟨nofun, fun e => ?_⟩
              subst e
              exact ⟨rfl, ⟨s1060, rfl, ⟨rfl, rfl, rfl, rfl, trivial⟩, rfl, rfl⟩⟩
          · rintro ρ _ _ ⟨s1048, rfl, hf1079, rfl, rfl⟩
            obtain ⟨ρ, rfl⟩ := hf1079.ex
            refine PJ.done ?_
            refine CJ.region ?_
            refine J.val (v := .int .i64 (IntKind.wrap .i64 (i903 + 1))) rfl rfl (V.add rfl rfl) ?_
            refine J.val (v := .int .i64 (IntKind.wrap .i64 (i903 + 1))) rfl rfl (V.mv rfl) ?_
            refine J.nil ?_
            have e := Option.some.inj h992
            subst e
            exact ⟨rfl, ⟨IntKind.wrap .i64 (i903 + 1), s1048, rfl, ⟨rfl, rfl, rfl, rfl, trivial⟩, rfl, rfl⟩⟩
    · have h992 := cf hc996 h992
      refine CJ.exit ?_
      have e := Option.some.inj h992
      subst e
      refine ⟨nofun, fun e => ?_⟩
      subst e
      exact ⟨rfl, ⟨s904, rfl, ⟨rfl, trivial⟩, rfl, rfl⟩⟩
  · rintro ρ _ _ ⟨s813, rfl, hf1081, rfl, rfl⟩
    obtain ⟨ρ, rfl⟩ := hf1081.ex
    refine PJ.done ?_
    refine CJ.seq ?_
    refine CJ.region ?_
    obtain ⟨s1083, hs1084, h⟩ := ob h
    refine J.op rfl (A.call (L1 := [Bld b547 s813]) Try.call47 rfl (BString_ok hs1084) rfl rfl) ?_
    rintro _ _ _ ⟨v1085, _, rfl, ⟨⟨s1083, rfl, rfl, rfl⟩, rfl⟩, _, rfl⟩
    refine J.val (v := .string ⟨s1083.toArray⟩) rfl rfl (V.as rfl) ?_
    refine J.nil ?_
    refine CJ.ret ?_
    have e := Option.some.inj h
    subst e
    exact ⟨_, [], Res.one rfl rfl, ⟨s1083, rfl, rfl, rfl⟩, (Hp.le_refl _), fun w hs => hs⟩

noncomputable def fn_stmt_Put (xa : (Int × Int × Int × Int × Bool)) : Option (List UInt8 × Int) :=
  (fn_stmt_form (xa.1, xa.2.1, xa.2.2.1, xa.2.2.2.1, xa.2.2.2.2)).bind fun (t123, t124, t125, i126) => cond (!decide (i126 = 0)) (some ((([] : List UInt8), i126))) ((cond (t123) ((app ([xa.1] : List Int) ([xa.2.1] : List Int)).bind fun z156 => some (z156)) (some (([xa.1] : List Int))) : Option (List Int)).bind fun l145 => (cond (t124) ((app l145 ([xa.2.2.1] : List Int)).bind fun z185 => some (z185)) (some (l145)) : Option (List Int)).bind fun l174 => cond (t125) ((cond (xa.2.2.2.2) (some (IntKind.wrap .i64 ((IntKind.wrap .i64 (2 * xa.2.2.2.1)) + 1))) (some (IntKind.wrap .i64 (2 * xa.2.2.2.1))) : Option Int).bind fun i195 => (app l174 ([i195] : List Int)).bind fun z204 => (fn_leb_All z204).bind fun s215 => some ((s215, 0))) ((fn_leb_All l174).bind fun s224 => some ((s224, 0))))
set_option maxRecDepth 100000 in
set_option maxHeartbeats 4000000 in
theorem stmt_Put_ok {K : Hp} {xa : (Int × Int × Int × Int × Bool)}   {r : (List UInt8 × Int)} (h : fn_stmt_Put xa = some r) :
    Tr Try.prog 15 #[.agg #[.int .i64 xa.1, .int .i64 xa.2.1, .int .i64 xa.2.2.1, .int .i64 xa.2.2.2.1, .bool xa.2.2.2.2]] K [] (fun v K' L' => (∃ (s118 : List UInt8) (i119 : Int), (s118, i119) = r ∧ .tuple #[.string ⟨s118.toArray⟩, .int .i64 i119] = v ∧ L' = []) ∧ K = K') := by
  refine Tr.k ?_
  refine Tr.of Try.func15 rfl Try.ntmps15 rfl (fun E F => ?_)
  unfold fn_stmt_Put at h
  refine CJ.seq ?_
  refine CJ.region ?_
  refine J.op rfl (A.box (v := .agg #[.int .i64 xa.1, .int .i64 xa.2.1, .int .i64 xa.2.2.1, .int .i64 xa.2.2.2.1, .bool xa.2.2.2.2]) (cs := [.int .i64 xa.1, .int .i64 xa.2.1, .int .i64 xa.2.2.1, .int .i64 xa.2.2.2.1, .bool xa.2.2.2.2]) rfl rfl) ?_
  rintro _ _ _ ⟨b120, rfl, rfl, rfl⟩
  refine J.val (v := .string ⟨([] : List UInt8).toArray⟩) rfl rfl (V.as rfl) ?_
  refine J.val (v := .int .i64 0) rfl rfl (V.as rfl) ?_
  refine J.nil ?_
  refine CJ.seq ?_
  refine CJ.region ?_
  refine J.val (v := .agg #[.int .i64 xa.1, .int .i64 xa.2.1, .int .i64 xa.2.2.1, .int .i64 xa.2.2.2.1, .bool xa.2.2.2.2]) rfl rfl (V.ld rfl (Ld.agg (cs := [.int .i64 xa.1, .int .i64 xa.2.1, .int .i64 xa.2.2.1, .int .i64 xa.2.2.2.1, .bool xa.2.2.2.2]) Try.underlying23 sz23 rfl (Rd.cls 0 0 rfl rfl))) ?_
  obtain ⟨r121, hr122, h⟩ := ob h
  refine J.op rfl (A.call (L1 := []) Try.call18 rfl (stmt_form_ok hr122) rfl rfl) ?_
  rintro _ _ _ ⟨v127, _, rfl, ⟨⟨t123, t124, t125, i126, rfl, rfl, rfl⟩, rfl⟩, _, rfl⟩
  refine J.val (v := .tuple #[.agg #[.bool t123, .bool t124, .bool t125], .int .i64 i126]) rfl rfl (V.mv rfl) ?_
  refine J.val (v := .agg #[.bool t123, .bool t124, .bool t125]) rfl rfl (V.ext rfl rfl) ?_
  refine J.val (v := .int .i64 i126) rfl rfl (V.ext rfl rfl) ?_
  refine J.op rfl (A.alloc (cs := [.bool false, .bool false, .bool false]) inf49 rfl) ?_
  rintro _ _ _ ⟨b130, rfl, rfl, rfl⟩
  refine J.op rfl (A.store (v := .agg #[.bool t123, .bool t124, .bool t125]) (cs' := [.bool t123, .bool t124, .bool t125]) sz49 rfl rfl rfl rfl rfl rfl) ?_
  rintro _ _ _ ⟨rfl, rfl, rfl⟩
  refine J.val (v := .int .i64 i126) rfl rfl (V.as rfl) ?_
  refine J.nil ?_
  refine CJ.seq ?_
  refine CJ.seq ?_
  refine CJ.region ?_
  refine J.val (v := .int .i64 i126) rfl rfl (V.mv rfl) ?_
  refine J.val (v := .bool (!decide (i126 = 0))) rfl rfl (V.neq rfl rfl) ?_
  refine J.nil ?_
  refine CJ.cond rfl (fun hc131 => ?_) (fun hc131 => ?_)
  · have h := ct hc131 h
    refine CJ.seq ?_
    refine CJ.region ?_
    refine J.val (v := .int .i64 i126) rfl rfl (V.mv rfl) ?_
    refine J.val (v := .string ⟨([] : List UInt8).toArray⟩) rfl rfl (V.as rfl) ?_
    refine J.val (v := .int .i64 i126) rfl rfl (V.as rfl) ?_
    refine J.nil ?_
    refine CJ.ret ?_
    have e := Option.some.inj h
    subst e
    exact ⟨_, [], Res.two rfl rfl rfl, ⟨([] : List UInt8), i126, rfl, rfl, rfl⟩, (Hp.le_refl _), fun w hs => (Sep.dropAt 0 rfl (Sep.dropAt 0 rfl hs))⟩
  · have h := cf hc131 h
    refine CJ.skip ?_
    refine CJ.seq ?_
    refine CJ.region ?_
    refine J.val rfl rfl (V.fad Try.underlying23 rfl nz3 rfl) ?_
    refine J.val (v := .int .i64 xa.1) rfl rfl (V.ld rfl (Ld.sc sc3 (Rd.cl 1 rfl rfl))) ?_
    refine J.op rfl (A.lit (K0 := Hp.nil) (ty := (.int .i64)) (xs := ([xa.1] : List Int)) Try.underlying66 inf3 rfl (by decide) rfl rfl rfl ⟨_, _, rfl, rfl, rfl⟩ rfl (by decide)) ?_
    rintro _ _ _ ⟨b132, rfl, rfl, rfl⟩
    have hn133 : ([xa.1] : List Int) ≠ [] → ∃ g, (some ⟨b132, 0, none⟩ : Option Addr) = some ⟨g, 0, none⟩ := fun _ => ⟨b132, rfl⟩
    refine J.val (v := .slice (some ⟨b132, 0, none⟩) (([xa.1] : List Int).length) 1) rfl rfl (V.as rfl) ?_
    refine J.nil ?_
    refine CJ.seq ?_
    obtain ⟨o150, ho151, h⟩ := ob h
    refine CJ.meetN (fun ρ K' L' => ∃ (l145 : (List Int)) (ad146 : Option Addr) (cp147 : Nat), l145 = o150 ∧ Fits [(1, .pointer (some ⟨b120, 0, none⟩)), (4, .pointer (some ⟨b130, 0, none⟩)), (6, .slice ad146 l145.length cp147)] ρ ∧ K = K' ∧ L' = Cl b120 23 [.int .i64 xa.1, .int .i64 xa.2.1, .int .i64 xa.2.2.1, .int .i64 xa.2.2.2.1, .bool xa.2.2.2.2] :: Cl b130 49 [.bool t123, .bool t124, .bool t125] :: Row Hp.nil 3 (.int .i64) (.slice ad146 l145.length cp147) l145 :: F) ?_ ?_
    · skip
      refine CJ.seq ?_
      refine CJ.region ?_
      refine J.val rfl rfl (V.fad Try.underlying49 rfl nz4 rfl) ?_
      refine J.val (v := .bool t123) rfl rfl (V.ld rfl (Ld.sc sc4 (Rd.cl 1 rfl rfl))) ?_
      refine J.nil ?_
      refine CJ.cond rfl (fun hc152 => ?_) (fun hc152 => ?_)
      · have ho151 := ct hc152 ho151
        refine CJ.region ?_
        refine J.val (v := .slice (some ⟨b132, 0, none⟩) (([xa.1] : List Int).length) 1) rfl rfl (V.mv rfl) ?_
        refine J.val rfl rfl (V.fad Try.underlying23 rfl nz3 rfl) ?_
        refine J.val (v := .int .i64 xa.2.1) rfl rfl (V.ld rfl (Ld.sc sc3 (Rd.cl 2 rfl rfl))) ?_
        refine J.op rfl (A.lit (K0 := Hp.nil) (ty := (.int .i64)) (xs := ([xa.2.1] : List Int)) Try.underlying66 inf3 rfl (by decide) rfl rfl rfl ⟨_, _, rfl, rfl, rfl⟩ rfl (by decide)) ?_
        rintro _ _ _ ⟨b153, rfl, rfl, rfl⟩
        have hn154 : ([xa.2.1] : List Int) ≠ [] → ∃ g, (some ⟨b153, 0, none⟩ : Option Addr) = some ⟨g, 0, none⟩ := fun _ => ⟨b153, rfl⟩
        obtain ⟨z156, hz157, ho151⟩ := ob ho151
        refine J.front 1 rfl ?_
        refine J.op rfl (A.appR (Kr := Hp.nil) Try.underlying66 inf3 rfl rfl (by decide) (by decide) rfl rfl (Els.flat rfl) (Els.flat rfl) hz157) ?_
        rintro _ _ _ ⟨v158, rfl, rfl, rfl⟩
        refine J.wit Row.form ?_
        rintro ⟨ad159, cp160, rfl, _, _, hn161⟩
        refine J.val (v := .slice ad159 z156.length cp160) rfl rfl (V.as rfl) ?_
        refine J.front 1 rfl ?_
        refine J.front 2 rfl ?_
        refine J.nil ?_
        have e := Option.some.inj ho151
        subst e
        exact ⟨rfl, ⟨z156, ad159, cp160, rfl, ⟨rfl, rfl, rfl, trivial⟩, rfl, rfl⟩⟩
      · have ho151 := cf hc152 ho151
        refine CJ.front 1 rfl ?_
        refine CJ.front 2 rfl ?_
        refine CJ.skip ?_
        have e := Option.some.inj ho151
        subst e
        exact ⟨rfl, ⟨([xa.1] : List Int), (some ⟨b132, 0, none⟩), 1, rfl, ⟨rfl, rfl, rfl, trivial⟩, rfl, rfl⟩⟩
    · rintro ρ _ _ ⟨l145, ad146, cp147, rfl, hf162, rfl, rfl⟩
      obtain ⟨ρ, rfl⟩ := hf162.ex
      refine PJ.front 2 rfl ?_
      refine PJ.wit Row.hn (fun hn149 => ?_)
      refine PJ.done ?_
      refine CJ.seq ?_
      obtain ⟨o179, ho180, h⟩ := ob h
      refine CJ.meetN (fun ρ K' L' => ∃ (l174 : (List Int)) (ad175 : Option Addr) (cp176 : Nat), l174 = o179 ∧ Fits [(1, .pointer (some ⟨b120, 0, none⟩)), (4, .pointer (some ⟨b130, 0, none⟩)), (6, .slice ad175 l174.length cp176)] ρ ∧ K = K' ∧ L' = Cl b120 23 [.int .i64 xa.1, .int .i64 xa.2.1, .int .i64 xa.2.2.1, .int .i64 xa.2.2.2.1, .bool xa.2.2.2.2] :: Cl b130 49 [.bool t123, .bool t124, .bool t125] :: Row Hp.nil 3 (.int .i64) (.slice ad175 l174.length cp176) l174 :: F) ?_ ?_
      · skip
        refine CJ.seq ?_
        refine CJ.region ?_
        refine J.val rfl rfl (V.fad Try.underlying49 rfl nz4 rfl) ?_
        refine J.val (v := .bool t124) rfl rfl (V.ld rfl (Ld.sc sc4 (Rd.cl 2 rfl rfl))) ?_
        refine J.nil ?_
        refine CJ.cond rfl (fun hc181 => ?_) (fun hc181 => ?_)
        · have ho180 := ct hc181 ho180
          refine CJ.region ?_
          refine J.val (v := .slice ad146 l145.length cp147) rfl rfl (V.mv rfl) ?_
          refine J.val rfl rfl (V.fad Try.underlying23 rfl nz3 rfl) ?_
          refine J.val (v := .int .i64 xa.2.2.1) rfl rfl (V.ld rfl (Ld.sc sc3 (Rd.cl 1 rfl rfl))) ?_
          refine J.op rfl (A.lit (K0 := Hp.nil) (ty := (.int .i64)) (xs := ([xa.2.2.1] : List Int)) Try.underlying66 inf3 rfl (by decide) rfl rfl rfl ⟨_, _, rfl, rfl, rfl⟩ rfl (by decide)) ?_
          rintro _ _ _ ⟨b182, rfl, rfl, rfl⟩
          have hn183 : ([xa.2.2.1] : List Int) ≠ [] → ∃ g, (some ⟨b182, 0, none⟩ : Option Addr) = some ⟨g, 0, none⟩ := fun _ => ⟨b182, rfl⟩
          obtain ⟨z185, hz186, ho180⟩ := ob ho180
          refine J.front 1 rfl ?_
          refine J.op rfl (A.appR (Kr := Hp.nil) Try.underlying66 inf3 rfl rfl (by decide) (by decide) rfl rfl (Els.flat rfl) (Els.flat rfl) hz186) ?_
          rintro _ _ _ ⟨v187, rfl, rfl, rfl⟩
          refine J.wit Row.form ?_
          rintro ⟨ad188, cp189, rfl, _, _, hn190⟩
          refine J.val (v := .slice ad188 z185.length cp189) rfl rfl (V.as rfl) ?_
          refine J.front 2 rfl ?_
          refine J.front 2 rfl ?_
          refine J.nil ?_
          have e := Option.some.inj ho180
          subst e
          exact ⟨rfl, ⟨z185, ad188, cp189, rfl, ⟨rfl, rfl, rfl, trivial⟩, rfl, rfl⟩⟩
        · have ho180 := cf hc181 ho180
          refine CJ.front 2 rfl ?_
          refine CJ.front 2 rfl ?_
          refine CJ.skip ?_
          have e := Option.some.inj ho180
          subst e
          exact ⟨rfl, ⟨l145, ad146, cp147, rfl, ⟨rfl, rfl, rfl, trivial⟩, rfl, rfl⟩⟩
      · rintro ρ _ _ ⟨l174, ad175, cp176, rfl, hf191, rfl, rfl⟩
        obtain ⟨ρ, rfl⟩ := hf191.ex
        refine PJ.front 2 rfl ?_
        refine PJ.wit Row.hn (fun hn178 => ?_)
        refine PJ.done ?_
        refine CJ.seq ?_
        refine CJ.seq ?_
        refine CJ.region ?_
        refine J.val rfl rfl (V.fad Try.underlying49 rfl nz4 rfl) ?_
        refine J.val (v := .bool t125) rfl rfl (V.ld rfl (Ld.sc sc4 (Rd.cl 2 rfl rfl))) ?_
        refine J.nil ?_
        refine CJ.cond rfl (fun hc193 => ?_) (fun hc193 => ?_)
        · have h := ct hc193 h
          refine CJ.seq ?_
          refine CJ.region ?_
          refine J.val rfl rfl (V.fad Try.underlying23 rfl nz3 rfl) ?_
          refine J.val (v := .int .i64 xa.2.2.2.1) rfl rfl (V.ld rfl (Ld.sc sc3 (Rd.cl 1 rfl rfl))) ?_
          refine J.val (v := .int .i64 (IntKind.wrap .i64 (2 * xa.2.2.2.1))) rfl rfl (V.mul rfl rfl) ?_
          refine J.val (v := .int .i64 (IntKind.wrap .i64 (2 * xa.2.2.2.1))) rfl rfl (V.as rfl) ?_
          refine J.nil ?_
          refine CJ.seq ?_
          obtain ⟨o196, ho197, h⟩ := ob h
          refine CJ.meetN (fun ρ K' L' => ∃ (i195 : Int), i195 = o196 ∧ Fits [(6, .slice ad175 l174.length cp176), (7, .int .i64 i195)] ρ ∧ K = K' ∧ L' = Row Hp.nil 3 (.int .i64) (.slice ad175 l174.length cp176) l174 :: F) ?_ ?_
          · skip
            refine CJ.seq ?_
            refine CJ.region ?_
            refine J.val rfl rfl (V.fad Try.underlying23 rfl nz4 rfl) ?_
            refine J.val (v := .bool xa.2.2.2.2) rfl rfl (V.ld rfl (Ld.sc sc4 (Rd.cl 1 rfl rfl))) ?_
            refine J.nil ?_
            refine CJ.cond rfl (fun hc198 => ?_) (fun hc198 => ?_)
            · have ho197 := ct hc198 ho197
              refine CJ.region ?_
              refine J.val (v := .int .i64 (IntKind.wrap .i64 (2 * xa.2.2.2.1))) rfl rfl (V.mv rfl) ?_
              refine J.val (v := .int .i64 (IntKind.wrap .i64 ((IntKind.wrap .i64 (2 * xa.2.2.2.1)) + 1))) rfl rfl (V.add rfl rfl) ?_
              refine J.val (v := .int .i64 (IntKind.wrap .i64 ((IntKind.wrap .i64 (2 * xa.2.2.2.1)) + 1))) rfl rfl (V.as rfl) ?_
              refine J.dropAt 1 rfl ?_
              refine J.dropAt 1 rfl ?_
              refine J.nil ?_
              have e := Option.some.inj ho197
              subst e
              exact ⟨rfl, ⟨IntKind.wrap .i64 ((IntKind.wrap .i64 (2 * xa.2.2.2.1)) + 1), rfl, ⟨rfl, rfl, trivial⟩, rfl, rfl⟩⟩
            · have ho197 := cf hc198 ho197
              refine CJ.dropAt 1 rfl ?_
              refine CJ.dropAt 1 rfl ?_
              refine CJ.skip ?_
              have e := Option.some.inj ho197
              subst e
              exact ⟨rfl, ⟨IntKind.wrap .i64 (2 * xa.2.2.2.1), rfl, ⟨rfl, rfl, trivial⟩, rfl, rfl⟩⟩
          · rintro ρ _ _ ⟨i195, rfl, hf199, rfl, rfl⟩
            obtain ⟨ρ, rfl⟩ := hf199.ex
            refine PJ.done ?_
            refine CJ.region ?_
            refine J.val (v := .slice ad175 l174.length cp176) rfl rfl (V.mv rfl) ?_
            refine J.val (v := .int .i64 i195) rfl rfl (V.mv rfl) ?_
            refine J.op rfl (A.lit (K0 := Hp.nil) (ty := (.int .i64)) (xs := ([i195] : List Int)) Try.underlying66 inf3 rfl (by decide) rfl rfl rfl ⟨_, _, rfl, rfl, rfl⟩ rfl (by decide)) ?_
            rintro _ _ _ ⟨b201, rfl, rfl, rfl⟩
            have hn202 : ([i195] : List Int) ≠ [] → ∃ g, (some ⟨b201, 0, none⟩ : Option Addr) = some ⟨g, 0, none⟩ := fun _ => ⟨b201, rfl⟩
            obtain ⟨z204, hz205, h⟩ := ob h
            refine J.front 1 rfl ?_
            refine J.op rfl (A.appR (Kr := Hp.nil) Try.underlying66 inf3 rfl rfl (by decide) (by decide) rfl rfl (Els.flat rfl) (Els.flat rfl) hz205) ?_
            rintro _ _ _ ⟨v206, rfl, rfl, rfl⟩
            refine J.wit Row.form ?_
            rintro ⟨ad207, cp208, rfl, _, _, hn209⟩
            refine J.val (v := .slice ad207 z204.length cp208) rfl rfl (V.as rfl) ?_
            refine J.nil ?_
            refine CJ.seq ?_
            refine CJ.region ?_
            refine J.val (v := .slice ad207 z204.length cp208) rfl rfl (V.mv rfl) ?_
            obtain ⟨r210, hr211, h⟩ := ob h
            refine J.op rfl (A.call (L1 := [Row Hp.nil 3 (.int .i64) (.slice ad207 z204.length cp208) z204]) Try.call34 rfl (Tr.lend (Hp.nil_le _) (by decide) (fun K212 hK213 f214 => leb_All_ok f214 hr211)) rfl rfl) ?_
            rintro _ _ _ ⟨v216, _, rfl, ⟨⟨_, ⟨s215, rfl, rfl, rfl⟩, rfl⟩, rfl⟩, _, rfl⟩
            refine J.val (v := .string ⟨s215.toArray⟩) rfl rfl (V.as rfl) ?_
            refine J.val (v := .int .i64 0) rfl rfl (V.as rfl) ?_
            refine J.nil ?_
            refine CJ.ret ?_
            have e := Option.some.inj h
            subst e
            exact ⟨_, [], Res.two rfl rfl rfl, ⟨s215, 0, rfl, rfl, rfl⟩, (Hp.le_refl _), fun w hs => (Sep.dropAt 0 rfl hs)⟩
        · have h := cf hc193 h
          refine CJ.skip ?_
          refine CJ.seq ?_
          refine CJ.region ?_
          refine J.val (v := .slice ad175 l174.length cp176) rfl rfl (V.mv rfl) ?_
          obtain ⟨r219, hr220, h⟩ := ob h
          refine J.op rfl (A.call (L1 := [Row Hp.nil 3 (.int .i64) (.slice ad175 l174.length cp176) l174]) Try.call34 rfl (Tr.lend (Hp.nil_le _) (by decide) (fun K221 hK222 f223 => leb_All_ok f223 hr220)) rfl rfl) ?_
          rintro _ _ _ ⟨v225, _, rfl, ⟨⟨_, ⟨s224, rfl, rfl, rfl⟩, rfl⟩, rfl⟩, _, rfl⟩
          refine J.val (v := .string ⟨s224.toArray⟩) rfl rfl (V.as rfl) ?_
          refine J.val (v := .int .i64 0) rfl rfl (V.as rfl) ?_
          refine J.nil ?_
          refine CJ.ret ?_
          have e := Option.some.inj h
          subst e
          exact ⟨_, [], Res.two rfl rfl rfl, ⟨s224, 0, rfl, rfl, rfl⟩, (Hp.le_refl _), fun w hs => (Sep.dropAt 0 rfl (Sep.dropAt 0 rfl (Sep.dropAt 0 rfl hs)))⟩

noncomputable def fn_law18_awake  : Option Bool :=
  (fn_stmt_Put (2, 1, 2, 3, true)).bind fun (s24, i25) => (fn_stmt_Put (4, 1, 0, 0, false)).bind fun (s31, i33) => some (((decide (s24 = ([2, 1, 2, 7] : List UInt8))) && (decide (i25 = 0))) && (decide (i33 = 3)))
set_option maxRecDepth 100000 in
set_option maxHeartbeats 4000000 in
theorem law18_awake_ok {K : Hp}    {r : Bool} (h : fn_law18_awake = some r) :
    Tr Try.prog 7 #[] K [] (fun v K' L' => (∃ (t21 : Bool), t21 = r ∧ .bool t21 = v ∧ L' = []) ∧ K = K') := by
  refine Tr.k ?_
  refine Tr.of Try.func7 rfl Try.ntmps7 rfl (fun E F => ?_)
  unfold fn_law18_awake at h
  refine CJ.seq ?_
  refine CJ.region ?_
  refine J.val (v := .bool false) rfl rfl (V.as rfl) ?_
  refine J.nil ?_
  refine CJ.seq ?_
  refine CJ.region ?_
  refine J.val (v := .agg #[.int .i64 2, .int .i64 1, .int .i64 2, .int .i64 3, .bool true]) rfl rfl (V.build inf23 places23 rfl rfl) ?_
  obtain ⟨r22, hr23, h⟩ := ob h
  refine J.op rfl (A.call (L1 := []) Try.call15 rfl (stmt_Put_ok hr23) rfl rfl) ?_
  rintro _ _ _ ⟨v26, _, rfl, ⟨⟨s24, i25, rfl, rfl, rfl⟩, rfl⟩, _, rfl⟩
  refine J.val (v := .tuple #[.string ⟨s24.toArray⟩, .int .i64 i25]) rfl rfl (V.mv rfl) ?_
  refine J.val (v := .string ⟨s24.toArray⟩) rfl rfl (V.ext rfl rfl) ?_
  refine J.val (v := .int .i64 i25) rfl rfl (V.ext rfl rfl) ?_
  refine J.val (v := .string ⟨s24.toArray⟩) rfl rfl (V.as rfl) ?_
  refine J.val (v := .int .i64 i25) rfl rfl (V.as rfl) ?_
  refine J.nil ?_
  refine CJ.seq ?_
  refine CJ.region ?_
  refine J.val (v := .agg #[.int .i64 4, .int .i64 1, .int .i64 0, .int .i64 0, .bool false]) rfl rfl (V.build inf23 places23 rfl rfl) ?_
  obtain ⟨r29, hr30, h⟩ := ob h
  refine J.op rfl (A.call (L1 := []) Try.call15 rfl (stmt_Put_ok hr30) rfl rfl) ?_
  rintro _ _ _ ⟨v34, _, rfl, ⟨⟨s31, i33, rfl, rfl, rfl⟩, rfl⟩, _, rfl⟩
  refine J.val (v := .tuple #[.string ⟨s31.toArray⟩, .int .i64 i33]) rfl rfl (V.mv rfl) ?_
  refine J.val (v := .string ⟨s31.toArray⟩) rfl rfl (V.ext rfl rfl) ?_
  refine J.val (v := .int .i64 i33) rfl rfl (V.ext rfl rfl) ?_
  refine J.val (v := .string ⟨s31.toArray⟩) rfl rfl (V.as rfl) ?_
  refine J.val (v := .int .i64 i33) rfl rfl (V.as rfl) ?_
  refine J.nil ?_
  refine CJ.seq ?_
  refine CJ.region ?_
  refine J.val (v := .string ⟨s24.toArray⟩) rfl rfl (V.mv rfl) ?_
  refine J.val (v := .bool (decide (s24 = ([2, 1, 2, 7] : List UInt8)))) rfl rfl (V.eqs rfl rfl) ?_
  refine J.val (v := .bool (decide (s24 = ([2, 1, 2, 7] : List UInt8)))) rfl rfl (V.mv rfl) ?_
  refine J.cut 3 ?_
  refine @J.meet _ _ _ _ _ _ _ _ _ _ (fun ρ K' L' => Fits [(20, .bool ((decide (s24 = ([2, 1, 2, 7] : List UInt8))) && (decide (i25 = 0)))), (4, .int .i64 i33)] ρ ∧ K = K' ∧ F = L') ?_ ?_
  · skip
    rcases bt (decide (s24 = ([2, 1, 2, 7] : List UInt8))) with hc39 | hc39
    · skip
      refine J.run rfl rfl rfl hc39 ?_
      refine J.val (v := .int .i64 i25) rfl rfl (V.mv rfl) ?_
      refine J.run rfl rfl rfl hc39 ?_
      refine J.val (v := .bool (decide (i25 = 0))) rfl rfl (V.eql rfl rfl) ?_
      refine J.val (v := .bool (decide (i25 = 0))) rfl rfl (V.pickT rfl hc39 rfl) ?_
      refine J.nil ?_
      exact ⟨rfl, ⟨(by simp only [hc39]; rfl), rfl, trivial⟩, rfl, rfl⟩
    · skip
      refine J.skip rfl rfl rfl rfl hc39 ?_
      refine J.skip rfl rfl rfl rfl hc39 ?_
      refine J.val (v := .bool false) rfl rfl (V.pickF rfl hc39 rfl) ?_
      refine J.nil ?_
      exact ⟨rfl, ⟨(by simp only [hc39]; rfl), rfl, trivial⟩, rfl, rfl⟩
  · rintro ρ _ _ ⟨hf, rfl, rfl⟩
    obtain ⟨ρ, rfl⟩ := hf.ex
    refine J.val (v := .bool ((decide (s24 = ([2, 1, 2, 7] : List UInt8))) && (decide (i25 = 0)))) rfl rfl (V.mv rfl) ?_
    refine J.cut 3 ?_
    refine @J.meet _ _ _ _ _ _ _ _ _ _ (fun ρ K' L' => Fits [(24, .bool (((decide (s24 = ([2, 1, 2, 7] : List UInt8))) && (decide (i25 = 0))) && (decide (i33 = 3))))] ρ ∧ K = K' ∧ F = L') ?_ ?_
    · skip
      rcases bt ((decide (s24 = ([2, 1, 2, 7] : List UInt8))) && (decide (i25 = 0))) with hc42 | hc42
      · skip
        refine J.run rfl rfl rfl hc42 ?_
        refine J.val (v := .int .i64 i33) rfl rfl (V.mv rfl) ?_
        refine J.run rfl rfl rfl hc42 ?_
        refine J.val (v := .bool (decide (i33 = 3))) rfl rfl (V.eql rfl rfl) ?_
        refine J.val (v := .bool (decide (i33 = 3))) rfl rfl (V.pickT rfl hc42 rfl) ?_
        refine J.nil ?_
        exact ⟨rfl, ⟨(by simp only [hc42]; rfl), trivial⟩, rfl, rfl⟩
      · skip
        refine J.skip rfl rfl rfl rfl hc42 ?_
        refine J.skip rfl rfl rfl rfl hc42 ?_
        refine J.val (v := .bool false) rfl rfl (V.pickF rfl hc42 rfl) ?_
        refine J.nil ?_
        exact ⟨rfl, ⟨(by simp only [hc42]; rfl), trivial⟩, rfl, rfl⟩
    · rintro ρ _ _ ⟨hf, rfl, rfl⟩
      obtain ⟨ρ, rfl⟩ := hf.ex
      refine J.val (v := .bool (((decide (s24 = ([2, 1, 2, 7] : List UInt8))) && (decide (i25 = 0))) && (decide (i33 = 3)))) rfl rfl (V.as rfl) ?_
      refine J.nil ?_
      refine CJ.ret ?_
      have e := Option.some.inj h
      subst e
      exact ⟨_, [], Res.one rfl rfl, ⟨((decide (s24 = ([2, 1, 2, 7] : List UInt8))) && (decide (i25 = 0))) && (decide (i33 = 3)), rfl, rfl, rfl⟩, (Hp.le_refl _), fun w hs => hs⟩

noncomputable def fn_stmt_Needs_1_ip0_k (xa : Int) (qa0 : (List (List (Int × Bool)))) : Option Bool :=
  some ((decide (0 ≤ xa)) && (decide (xa < (((qa0.length : Nat) : Int)))))
set_option maxRecDepth 100000 in
set_option maxHeartbeats 4000000 in
theorem stmt_Needs_1_ip0_k_ok {K : Hp} {xa : Int} {qa0 : (List (List (Int × Bool)))} {pba : Nat} {adqa0 : Option Addr} {cpqa0 : Nat} (fqa0 : Is K (.sl (.one (.sl (.cons (.int .i64) (.one .bool))))) [.slice adqa0 qa0.length cpqa0] qa0) {r : Bool} (h : fn_stmt_Needs_1_ip0_k xa qa0 = some r) :
    Tr Try.prog 19 #[.int .i64 xa, .pointer (some ⟨pba, 0, none⟩)] K [Cl pba 24 [.slice adqa0 qa0.length cpqa0]] (fun v K' L' => (∃ (t4 : Bool), t4 = r ∧ .bool t4 = v ∧ L' = [Cl pba 24 [.slice adqa0 qa0.length cpqa0]]) ∧ K = K') := by
  refine Tr.k ?_
  refine Tr.of Try.func19 rfl Try.ntmps19 rfl (fun E F => ?_)
  unfold fn_stmt_Needs_1_ip0_k at h
  refine CJ.seq ?_
  refine CJ.region ?_
  refine J.val (v := .bool false) rfl rfl (V.as rfl) ?_
  refine J.nil ?_
  refine CJ.seq ?_
  refine CJ.region ?_
  refine J.val (v := .int .i64 xa) rfl rfl (V.mv rfl) ?_
  refine J.val (v := .bool (decide (0 ≤ xa))) rfl rfl (V.geq rfl rfl) ?_
  refine J.val (v := .bool (decide (0 ≤ xa))) rfl rfl (V.mv rfl) ?_
  refine J.cut 5 ?_
  refine @J.meet _ _ _ _ _ _ _ _ _ _ (fun ρ K' L' => Fits [(11, .bool ((decide (0 ≤ xa)) && (decide (xa < (((qa0.length : Nat) : Int))))))] ρ ∧ K = K' ∧ L' = Cl pba 24 [.slice adqa0 qa0.length cpqa0] :: F) ?_ ?_
  · skip
    rcases bt (decide (0 ≤ xa)) with hc7 | hc7
    · skip
      refine J.run rfl rfl rfl hc7 ?_
      refine J.val (v := .int .i64 xa) rfl rfl (V.mv rfl) ?_
      refine J.run rfl rfl rfl hc7 ?_
      refine J.val (v := .slice adqa0 qa0.length cpqa0) rfl rfl (V.ld rfl (Ld.sc sc24 (Rd.cl 0 rfl rfl))) ?_
      refine J.run rfl rfl rfl hc7 ?_
      refine J.val (v := .int .i64 (((qa0.length : Nat) : Int))) rfl rfl (V.len Try.underlying24 rfl) ?_
      refine J.run rfl rfl rfl hc7 ?_
      refine J.val (v := .bool (decide (xa < (((qa0.length : Nat) : Int))))) rfl rfl (V.lss rfl rfl) ?_
      refine J.val (v := .bool (decide (xa < (((qa0.length : Nat) : Int))))) rfl rfl (V.pickT rfl hc7 rfl) ?_
      refine J.nil ?_
      exact ⟨rfl, ⟨(by simp only [hc7]; rfl), trivial⟩, rfl, rfl⟩
    · skip
      refine J.skip rfl rfl rfl rfl hc7 ?_
      refine J.skip rfl rfl rfl rfl hc7 ?_
      refine J.skip rfl rfl rfl rfl hc7 ?_
      refine J.skip rfl rfl rfl rfl hc7 ?_
      refine J.val (v := .bool false) rfl rfl (V.pickF rfl hc7 rfl) ?_
      refine J.nil ?_
      exact ⟨rfl, ⟨(by simp only [hc7]; rfl), trivial⟩, rfl, rfl⟩
  · rintro ρ _ _ ⟨hf, rfl, rfl⟩
    obtain ⟨ρ, rfl⟩ := hf.ex
    refine J.val (v := .bool ((decide (0 ≤ xa)) && (decide (xa < (((qa0.length : Nat) : Int)))))) rfl rfl (V.as rfl) ?_
    refine J.nil ?_
    refine CJ.ret ?_
    have e := Option.some.inj h
    subst e
    exact ⟨_, [Cl pba 24 [.slice adqa0 qa0.length cpqa0]], Res.one rfl rfl, ⟨(decide (0 ≤ xa)) && (decide (xa < (((qa0.length : Nat) : Int)))), rfl, rfl, rfl⟩, (Hp.le_refl _), fun w hs => hs⟩

noncomputable def fn_row_Shape_1 (xa : (Int × Bool)) (xb : (Int × Bool)) : Option Bool :=
  some (xa.2 == xb.2)
set_option maxRecDepth 100000 in
set_option maxHeartbeats 4000000 in
theorem row_Shape_1_ok {K : Hp} {xa : (Int × Bool)} {xb : (Int × Bool)}   {r : Bool} (h : fn_row_Shape_1 xa xb = some r) :
    Tr Try.prog 50 #[.agg #[.int .i64 xa.1, .bool xa.2], .agg #[.int .i64 xb.1, .bool xb.2]] K [] (fun v K' L' => (∃ (t3 : Bool), t3 = r ∧ .bool t3 = v ∧ L' = []) ∧ K = K') := by
  refine Tr.k ?_
  refine Tr.of Try.func50 rfl Try.ntmps50 rfl (fun E F => ?_)
  unfold fn_row_Shape_1 at h
  refine CJ.seq ?_
  refine CJ.region ?_
  refine J.op rfl (A.box (v := .agg #[.int .i64 xa.1, .bool xa.2]) (cs := [.int .i64 xa.1, .bool xa.2]) rfl rfl) ?_
  rintro _ _ _ ⟨b4, rfl, rfl, rfl⟩
  refine J.op rfl (A.box (v := .agg #[.int .i64 xb.1, .bool xb.2]) (cs := [.int .i64 xb.1, .bool xb.2]) rfl rfl) ?_
  rintro _ _ _ ⟨b5, rfl, rfl, rfl⟩
  refine J.val (v := .bool false) rfl rfl (V.as rfl) ?_
  refine J.nil ?_
  refine CJ.seq ?_
  refine CJ.region ?_
  refine J.val rfl rfl (V.fad Try.underlying74 rfl nz4 rfl) ?_
  refine J.val (v := .bool xa.2) rfl rfl (V.ld rfl (Ld.sc sc4 (Rd.cl 1 rfl rfl))) ?_
  refine J.val rfl rfl (V.fad Try.underlying74 rfl nz4 rfl) ?_
  refine J.val (v := .bool xb.2) rfl rfl (V.ld rfl (Ld.sc sc4 (Rd.cl 0 rfl rfl))) ?_
  refine J.val (v := .bool (xa.2 == xb.2)) rfl rfl (V.eqb Try.underlying4 rfl rfl) ?_
  refine J.val (v := .bool (xa.2 == xb.2)) rfl rfl (V.as rfl) ?_
  refine J.nil ?_
  refine CJ.ret ?_
  have e := Option.some.inj h
  subst e
  exact ⟨_, [], Res.one rfl rfl, ⟨xa.2 == xb.2, rfl, rfl, rfl⟩, (Hp.le_refl _), fun w hs => (Sep.dropAt 0 rfl (Sep.dropAt 0 rfl hs))⟩
noncomputable def fn_slices_EqualFunc_api_Slot_api_Slot_api_Slot_api_Slot_kk_row_Shape_1_l1 (xa : (List (Int × Bool))) (xb : (List (Int × Bool))) : Int → Option (Int ⊕ (Unit ⊕ Bool)) := fun (i313 : Int) => cond (decide (i313 < (((xa.length : Nat) : Int)))) ((getI xa i313).bind fun x348 => (getI xb i313).bind fun x358 => (fn_row_Shape_1 (x348.1, x348.2) (x358.1, x358.2)).bind fun t370 => cond (!t370) (some (.inr ((.inr (false))))) (some (.inl (IntKind.wrap .i64 (i313 + 1))))) (some (.inr ((.inl ()))))
noncomputable def fn_slices_EqualFunc_api_Slot_api_Slot_api_Slot_api_Slot_kk_row_Shape_1 (xa : (List (Int × Bool))) (xb : (List (Int × Bool))) : Option Bool :=
  cond (!decide ((((xa.length : Nat) : Int)) = (((xb.length : Nat) : Int)))) (some (false)) ((loop (fn_slices_EqualFunc_api_Slot_api_Slot_api_Slot_api_Slot_kk_row_Shape_1_l1 xa xb) 0 : Option (Unit ⊕ Bool)).bind fun o => match o with | .inr r => some r | .inl () => some (true))
set_option maxRecDepth 100000 in
set_option maxHeartbeats 4000000 in
theorem slices_EqualFunc_api_Slot_api_Slot_api_Slot_api_Slot_kk_row_Shape_1_ok {K : Hp} {xa : (List (Int × Bool))} {xb : (List (Int × Bool))} {adxa_0 : Option Addr} {cpxa_0 : Nat} {adxb_0 : Option Addr} {cpxb_0 : Nat} (fxa_0 : Is K (.sl (.cons (.int .i64) (.one .bool))) [.slice adxa_0 xa.length cpxa_0] xa) (fxb_0 : Is K (.sl (.cons (.int .i64) (.one .bool))) [.slice adxb_0 xb.length cpxb_0] xb) {r : Bool} (h : fn_slices_EqualFunc_api_Slot_api_Slot_api_Slot_api_Slot_kk_row_Shape_1 xa xb = some r) :
    Tr Try.prog 49 #[.slice adxa_0 xa.length cpxa_0, .slice adxb_0 xb.length cpxb_0, .func (.func 50) #[] #[]] K [] (fun v K' L' => (∃ (t189 : Bool), t189 = r ∧ .bool t189 = v ∧ L' = []) ∧ K = K') := by
  refine Tr.k ?_
  refine Tr.of Try.func49 rfl Try.ntmps49 rfl (fun E F => ?_)
  unfold fn_slices_EqualFunc_api_Slot_api_Slot_api_Slot_api_Slot_kk_row_Shape_1 at h
  refine CJ.seq ?_
  refine CJ.region ?_
  refine J.val (v := .bool false) rfl rfl (V.as rfl) ?_
  refine J.nil ?_
  refine CJ.seq ?_
  refine CJ.seq ?_
  refine CJ.region ?_
  refine J.val (v := .slice adxa_0 xa.length cpxa_0) rfl rfl (V.mv rfl) ?_
  refine J.val (v := .int .i64 (((xa.length : Nat) : Int))) rfl rfl (V.len Try.underlying45 rfl) ?_
  refine J.val (v := .slice adxb_0 xb.length cpxb_0) rfl rfl (V.mv rfl) ?_
  refine J.val (v := .int .i64 (((xb.length : Nat) : Int))) rfl rfl (V.len Try.underlying45 rfl) ?_
  refine J.val (v := .bool (!decide ((((xa.length : Nat) : Int)) = (((xb.length : Nat) : Int))))) rfl rfl (V.neq rfl rfl) ?_
  refine J.nil ?_
  refine CJ.cond rfl (fun hc190 => ?_) (fun hc190 => ?_)
  · have h := ct hc190 h
    refine CJ.seq ?_
    refine CJ.region ?_
    refine J.val (v := .bool false) rfl rfl (V.as rfl) ?_
    refine J.nil ?_
    refine CJ.ret ?_
    have e := Option.some.inj h
    subst e
    exact ⟨_, [], Res.one rfl rfl, ⟨false, rfl, rfl, rfl⟩, (Hp.le_refl _), fun w hs => hs⟩
  · have h := cf hc190 h
    refine CJ.skip ?_
    refine CJ.seq ?_
    refine CJ.seq ?_
    refine CJ.region ?_
    refine J.val (v := .slice adxa_0 xa.length cpxa_0) rfl rfl (V.mv rfl) ?_
    refine J.val (v := .int .i64 (((xa.length : Nat) : Int))) rfl rfl (V.len Try.underlying45 rfl) ?_
    refine J.val (v := .int .i64 0) rfl rfl (V.mv rfl) ?_
    refine J.nil ?_
    obtain ⟨o282, ho283, h⟩ := ob h
    refine CJ.joinN (o := o282) (fun s ρ K' L' => () = s ∧ Fits [] ρ ∧ K = K' ∧ F = L') ?_ ?_
    · skip
      refine CJ.block ?_
      refine CJ.loop (fun s ρ K' L' => ∃ (i313 : Int), i313 = s ∧ Fits [(1, .slice adxb_0 xb.length cpxb_0), (2, .func (.func 50) #[] #[]), (15, .slice adxa_0 xa.length cpxa_0), (16, .int .i64 (((xa.length : Nat) : Int))), (17, .int .i64 i313)] ρ ∧ K = K' ∧ F = L') ho283 ⟨0, rfl, ⟨rfl, rfl, rfl, rfl, rfl, trivial⟩, rfl, rfl⟩ ?_
      rintro s ρ _ _ r346 ⟨i313, rfl, hf344, rfl, rfl⟩ h343
      obtain ⟨ρ, rfl⟩ := hf344.ex
      refine CJ.seq ?_
      refine CJ.region ?_
      refine J.val (v := .bool (decide (i313 < (((xa.length : Nat) : Int))))) rfl rfl (V.lss rfl rfl) ?_
      refine J.nil ?_
      refine CJ.seq ?_
      refine CJ.cond rfl (fun hc347 => ?_) (fun hc347 => ?_)
      · have h343 := ct hc347 h343
        refine CJ.skip ?_
        refine CJ.seq ?_
        refine CJ.block ?_
        refine CJ.seq ?_
        refine CJ.region ?_
        refine J.val (v := .int .i64 i313) rfl rfl (V.mv rfl) ?_
        obtain ⟨x348, hx349, h343⟩ := ob h343
        obtain ⟨p350, p351, p352⟩ := getI_some hx349
        obtain ⟨b353, o354, e355, a356⟩ := (fxa_0).at p351
        refine J.val rfl rfl (V.iad Try.underlying45 sz74 rfl e355 rfl p350 p352) ?_
        refine J.val (v := .agg #[.int .i64 x348.1, .bool x348.2]) rfl rfl (V.ld rfl (Ld.aggK (cs := [.int .i64 x348.1, .bool x348.2]) Try.underlying74 sz74 rfl ⟨((a356).fst).int, (((a356).snd).one).bool, trivial⟩ (Hp.le_refl _))) ?_
        refine J.op rfl (A.alloc (cs := [.int .i64 0, .bool false]) inf74 rfl) ?_
        rintro _ _ _ ⟨b357, rfl, rfl, rfl⟩
        refine J.val (v := .int .i64 i313) rfl rfl (V.as rfl) ?_
        refine J.op rfl (A.store (v := .agg #[.int .i64 x348.1, .bool x348.2]) (cs' := [.int .i64 x348.1, .bool x348.2]) sz74 rfl rfl rfl rfl rfl rfl) ?_
        rintro _ _ _ ⟨rfl, rfl, rfl⟩
        refine J.nil ?_
        refine CJ.seq ?_
        refine CJ.region ?_
        refine J.val (v := .slice adxb_0 xb.length cpxb_0) rfl rfl (V.mv rfl) ?_
        refine J.val (v := .int .i64 i313) rfl rfl (V.mv rfl) ?_
        obtain ⟨x358, hx359, h343⟩ := ob h343
        obtain ⟨p360, p361, p362⟩ := getI_some hx359
        obtain ⟨b363, o364, e365, a366⟩ := (fxb_0).at p361
        refine J.val rfl rfl (V.iad Try.underlying45 sz74 rfl e365 rfl p360 p362) ?_
        refine J.val (v := .agg #[.int .i64 x358.1, .bool x358.2]) rfl rfl (V.ld rfl (Ld.aggK (cs := [.int .i64 x358.1, .bool x358.2]) Try.underlying74 sz74 rfl ⟨((a366).fst).int, (((a366).snd).one).bool, trivial⟩ (Hp.le_refl _))) ?_
        refine J.op rfl (A.alloc (cs := [.int .i64 0, .bool false]) inf74 rfl) ?_
        rintro _ _ _ ⟨b367, rfl, rfl, rfl⟩
        refine J.op rfl (A.store (v := .agg #[.int .i64 x358.1, .bool x358.2]) (cs' := [.int .i64 x358.1, .bool x358.2]) sz74 rfl rfl rfl rfl rfl rfl) ?_
        rintro _ _ _ ⟨rfl, rfl, rfl⟩
        refine J.nil ?_
        refine CJ.seq ?_
        refine CJ.region ?_
        refine J.val (v := .func (.func 50) #[] #[]) rfl rfl (V.mv rfl) ?_
        refine J.val (v := .agg #[.int .i64 x348.1, .bool x348.2]) rfl rfl (V.ld rfl (Ld.agg (cs := [.int .i64 x348.1, .bool x348.2]) Try.underlying74 sz74 rfl (Rd.cls 1 0 rfl rfl))) ?_
        refine J.val (v := .agg #[.int .i64 x358.1, .bool x358.2]) rfl rfl (V.ld rfl (Ld.agg (cs := [.int .i64 x358.1, .bool x358.2]) Try.underlying74 sz74 rfl (Rd.cls 0 0 rfl rfl))) ?_
        obtain ⟨r368, hr369, h343⟩ := ob h343
        refine J.op rfl (A.call (L1 := []) Try.call50 rfl (row_Shape_1_ok hr369) rfl rfl) ?_
        rintro _ _ _ ⟨v371, _, rfl, ⟨⟨t370, rfl, rfl, rfl⟩, rfl⟩, _, rfl⟩
        refine J.val (v := .bool (!t370)) rfl rfl (V.not rfl) ?_
        refine J.nil ?_
        refine CJ.cond rfl (fun hc374 => ?_) (fun hc374 => ?_)
        · have h343 := ct hc374 h343
          refine CJ.seq ?_
          refine CJ.region ?_
          refine J.val (v := .bool false) rfl rfl (V.as rfl) ?_
          refine J.nil ?_
          refine CJ.ret ?_
          have e := Option.some.inj h343
          subst e
          refine ⟨nofun, fun e => ?_⟩
          subst e
          refine .inr ⟨nofun, ?_⟩
          have e := Option.some.inj h
          subst e
          exact ⟨_, [], Res.one rfl rfl, ⟨false, rfl, rfl, rfl⟩, (Hp.le_refl _), fun w hs => (Sep.dropAt 0 rfl (Sep.dropAt 0 rfl hs))⟩
        · have h343 := cf hc374 h343
          refine CJ.skip ?_
          refine CJ.region ?_
          refine J.val (v := .int .i64 (IntKind.wrap .i64 (i313 + 1))) rfl rfl (V.add rfl rfl) ?_
          refine J.val (v := .int .i64 (IntKind.wrap .i64 (i313 + 1))) rfl rfl (V.mv rfl) ?_
          refine J.dropAt 0 rfl ?_
          refine J.dropAt 0 rfl ?_
          refine J.nil ?_
          have e := Option.some.inj h343
          subst e
          exact ⟨rfl, ⟨IntKind.wrap .i64 (i313 + 1), rfl, ⟨rfl, rfl, rfl, rfl, rfl, trivial⟩, rfl, rfl⟩⟩
      · have h343 := cf hc347 h343
        refine CJ.exit ?_
        have e := Option.some.inj h343
        subst e
        refine ⟨nofun, fun e => ?_⟩
        subst e
        exact .inl ⟨rfl, _, rfl, ⟨rfl, trivial, rfl, rfl⟩⟩
    · rintro s ρ _ _ ho375 ⟨rfl, hf376, rfl, rfl⟩
      subst ho375
      obtain ⟨ρ, rfl⟩ := hf376.ex
      refine PJ.done ?_
      refine CJ.seq ?_
      refine CJ.region ?_
      refine J.val (v := .bool true) rfl rfl (V.as rfl) ?_
      refine J.nil ?_
      refine CJ.ret ?_
      have e := Option.some.inj h
      subst e
      exact ⟨_, [], Res.one rfl rfl, ⟨true, rfl, rfl, rfl⟩, (Hp.le_refl _), fun w hs => hs⟩

noncomputable def fn_row_Shape (xa : (List (Int × Bool))) (xb : (List (Int × Bool))) : Option Bool :=
  (fn_slices_EqualFunc_api_Slot_api_Slot_api_Slot_api_Slot_kk_row_Shape_1 xa xb).bind fun t14 => some (t14)
set_option maxRecDepth 100000 in
set_option maxHeartbeats 4000000 in
theorem row_Shape_ok {K : Hp} {xa : (List (Int × Bool))} {xb : (List (Int × Bool))} {adxa_0 : Option Addr} {cpxa_0 : Nat} {adxb_0 : Option Addr} {cpxb_0 : Nat} (fxa_0 : Is K (.sl (.cons (.int .i64) (.one .bool))) [.slice adxa_0 xa.length cpxa_0] xa) (fxb_0 : Is K (.sl (.cons (.int .i64) (.one .bool))) [.slice adxb_0 xb.length cpxb_0] xb) {r : Bool} (h : fn_row_Shape xa xb = some r) :
    Tr Try.prog 37 #[.agg #[.slice adxa_0 xa.length cpxa_0], .agg #[.slice adxb_0 xb.length cpxb_0]] K [] (fun v K' L' => (∃ (t9 : Bool), t9 = r ∧ .bool t9 = v ∧ L' = []) ∧ K = K') := by
  refine Tr.k ?_
  refine Tr.of Try.func37 rfl Try.ntmps37 rfl (fun E F => ?_)
  unfold fn_row_Shape at h
  refine CJ.seq ?_
  refine CJ.region ?_
  refine J.op rfl (A.box (v := .agg #[.slice adxa_0 xa.length cpxa_0]) (cs := [.slice adxa_0 xa.length cpxa_0]) rfl rfl) ?_
  rintro _ _ _ ⟨b10, rfl, rfl, rfl⟩
  refine J.op rfl (A.box (v := .agg #[.slice adxb_0 xb.length cpxb_0]) (cs := [.slice adxb_0 xb.length cpxb_0]) rfl rfl) ?_
  rintro _ _ _ ⟨b11, rfl, rfl, rfl⟩
  refine J.val (v := .bool false) rfl rfl (V.as rfl) ?_
  refine J.nil ?_
  refine CJ.seq ?_
  refine CJ.region ?_
  refine J.val rfl rfl (V.fad Try.underlying47 rfl nz45 rfl) ?_
  refine J.val (v := .slice adxa_0 xa.length cpxa_0) rfl rfl (V.ld rfl (Ld.sc sc45 (Rd.cl 1 rfl rfl))) ?_
  refine J.val rfl rfl (V.fad Try.underlying47 rfl nz45 rfl) ?_
  refine J.val (v := .slice adxb_0 xb.length cpxb_0) rfl rfl (V.ld rfl (Ld.sc sc45 (Rd.cl 0 rfl rfl))) ?_
  obtain ⟨r12, hr13, h⟩ := ob h
  refine J.op rfl (A.call (L1 := []) Try.call49 rfl (slices_EqualFunc_api_Slot_api_Slot_api_Slot_api_Slot_kk_row_Shape_1_ok fxa_0 fxb_0 hr13) rfl rfl) ?_
  rintro _ _ _ ⟨v15, _, rfl, ⟨⟨t14, rfl, rfl, rfl⟩, rfl⟩, _, rfl⟩
  refine J.val (v := .bool t14) rfl rfl (V.as rfl) ?_
  refine J.nil ?_
  refine CJ.ret ?_
  have e := Option.some.inj h
  subst e
  exact ⟨_, [], Res.one rfl rfl, ⟨t14, rfl, rfl, rfl⟩, (Hp.le_refl _), fun w hs => (Sep.dropAt 0 rfl (Sep.dropAt 0 rfl hs))⟩
noncomputable def fn_relate_related_l1 (xa : (List (Int × Bool))) (xb : (List (Int × Bool))) (xc : Int) (xd : Int) : ((List (Int × Int × Int × Int × Bool)) × Int) → Option (((List (Int × Int × Int × Int × Bool)) × Int) ⊕ (List (Int × Int × Int × Int × Bool))) := fun ((l1175, i1180) : ((List (Int × Int × Int × Int × Bool)) × Int)) => cond (decide (i1180 < (((xa.length : Nat) : Int)))) ((getI xa i1180).bind fun x1321 => (getI xb i1180).bind fun x1330 => (app l1175 (([(x1321.1, x1330.1, xc, IntKind.wrap .i64 (xd + i1180), false)] : List (Int × Int × Int × Int × Bool)))).bind fun z1342 => (getI xb i1180).bind fun x1348 => cond (x1348.2) ((getI xb i1180).bind fun x1379 => (getI xa i1180).bind fun x1388 => (app z1342 (([(x1379.1, x1388.1, xc, IntKind.wrap .i64 (xd + i1180), true)] : List (Int × Int × Int × Int × Bool)))).bind fun z1400 => some (.inl ((z1400, IntKind.wrap .i64 (i1180 + 1))))) (some (.inl ((z1342, IntKind.wrap .i64 (i1180 + 1)))))) (some (.inr (l1175)))
noncomputable def fn_relate_related (xa : (List (Int × Bool))) (xb : (List (Int × Bool))) (xc : Int) (xd : Int) : Option ((List (Int × Int × Int × Int × Bool))) :=
  (loop (fn_relate_related_l1 xa xb xc xd) ([], 0) : Option ((List (Int × Int × Int × Int × Bool)))).bind fun l1053 => some (l1053)
set_option maxRecDepth 100000 in
set_option maxHeartbeats 4000000 in
theorem relate_related_ok {K : Hp} {xa : (List (Int × Bool))} {xb : (List (Int × Bool))} {xc : Int} {xd : Int} {adxa_0 : Option Addr} {cpxa_0 : Nat} {adxb_0 : Option Addr} {cpxb_0 : Nat} (fxa_0 : Is K (.sl (.cons (.int .i64) (.one .bool))) [.slice adxa_0 xa.length cpxa_0] xa) (fxb_0 : Is K (.sl (.cons (.int .i64) (.one .bool))) [.slice adxb_0 xb.length cpxb_0] xb) {r : (List (Int × Int × Int × Int × Bool))} (h : fn_relate_related xa xb xc xd = some r) :
    Tr Try.prog 38 #[.slice adxa_0 xa.length cpxa_0, .slice adxb_0 xb.length cpxb_0, .int .i64 xc, .int .i64 xd] K [] (fun v K' L' => (∃ (l702 : (List (Int × Int × Int × Int × Bool))) (ad703 : Option Addr) (cp704 : Nat), l702 = r ∧ .slice ad703 l702.length cp704 = v ∧ L' = [Row Hp.nil 60 (.cons (.int .i64) (.cons (.int .i64) (.cons (.int .i64) (.cons (.int .i64) (.one .bool))))) (.slice ad703 l702.length cp704) l702]) ∧ K = K') := by
  refine Tr.k ?_
  refine Tr.of Try.func38 rfl Try.ntmps38 rfl (fun E F => ?_)
  unfold fn_relate_related at h
  refine CJ.seq ?_
  refine CJ.region ?_
  refine J.val (v := .slice none 0 0) rfl rfl (V.as rfl) ?_
  refine J.nil ?_
  refine CJ.seq ?_
  refine CJ.region ?_
  refine J.val (v := .slice none 0 0) rfl rfl (V.as rfl) ?_
  refine J.nil ?_
  refine CJ.seq ?_
  refine CJ.seq ?_
  refine CJ.region ?_
  refine J.val (v := .slice adxa_0 xa.length cpxa_0) rfl rfl (V.mv rfl) ?_
  refine J.val (v := .int .i64 (((xa.length : Nat) : Int))) rfl rfl (V.len Try.underlying45 rfl) ?_
  refine J.val (v := .int .i64 0) rfl rfl (V.mv rfl) ?_
  refine J.nil ?_
  obtain ⟨o1058, ho1059, h⟩ := ob h
  refine CJ.meetN (fun ρ K' L' => ∃ (l1053 : (List (Int × Int × Int × Int × Bool))) (ad1054 : Option Addr) (cp1055 : Nat), l1053 = o1058 ∧ Fits [(9, .slice ad1054 l1053.length cp1055)] ρ ∧ K = K' ∧ L' = Row Hp.nil 60 (.cons (.int .i64) (.cons (.int .i64) (.cons (.int .i64) (.cons (.int .i64) (.one .bool))))) (.slice ad1054 l1053.length cp1055) l1053 :: F) ?_ ?_
  · skip
    refine CJ.block ?_
    refine CJ.by (fun w hs => Sep.rowNil (e := 60) (t := (.cons (.int .i64) (.cons (.int .i64) (.cons (.int .i64) (.cons (.int .i64) (.one .bool)))))) hs) ?_
    refine CJ.loop (fun s ρ K' L' => ∃ (l1175 : (List (Int × Int × Int × Int × Bool))) (i1180 : Int) (ad1176 : Option Addr) (cp1177 : Nat), (l1175, i1180) = s ∧ Fits [(0, .slice adxa_0 xa.length cpxa_0), (1, .slice adxb_0 xb.length cpxb_0), (2, .int .i64 xc), (3, .int .i64 xd), (9, .slice ad1176 l1175.length cp1177), (12, .int .i64 (((xa.length : Nat) : Int))), (13, .int .i64 i1180)] ρ ∧ K = K' ∧ L' = Row Hp.nil 60 (.cons (.int .i64) (.cons (.int .i64) (.cons (.int .i64) (.cons (.int .i64) (.one .bool))))) (.slice ad1176 l1175.length cp1177) l1175 :: F) ho1059 ⟨[], 0, none, 0, rfl, ⟨rfl, rfl, rfl, rfl, rfl, rfl, rfl, trivial⟩, rfl, rfl⟩ ?_
    rintro s ρ _ _ r1298 ⟨l1175, i1180, ad1176, cp1177, rfl, hf1296, rfl, rfl⟩ h1294
    obtain ⟨ρ, rfl⟩ := hf1296.ex
    refine CJ.wit Row.hn (fun hn1179 => ?_)
    refine CJ.seq ?_
    refine CJ.region ?_
    refine J.val (v := .bool (decide (i1180 < (((xa.length : Nat) : Int))))) rfl rfl (V.lss rfl rfl) ?_
    refine J.nil ?_
    refine CJ.seq ?_
    refine CJ.cond rfl (fun hc1299 => ?_) (fun hc1299 => ?_)
    · have h1294 := ct hc1299 h1294
      refine CJ.skip ?_
      refine CJ.seq ?_
      refine CJ.block ?_
      refine CJ.seq ?_
      refine CJ.region ?_
      refine J.val (v := .int .i64 i1180) rfl rfl (V.mv rfl) ?_
      refine J.val (v := .int .i64 i1180) rfl rfl (V.as rfl) ?_
      refine J.nil ?_
      refine CJ.seq ?_
      refine CJ.mix [Row Hp.nil 60 (.cons (.int .i64) (.cons (.int .i64) (.cons (.int .i64) (.cons (.int .i64) (.one .bool))))) (.slice ad1176 l1175.length cp1177) l1175] [([0, 1, 2, 3, 4, 5, 6, 7, 8, 9, 10, 11, 12, 13, 14, 15], 16)] [] [17, 18] mixO (by decide +kernel) ⟨0, rfl, trivial⟩ rfl rfl rfl ?_
      refine JM.cons ?_
      refine JQ.val (v := .slice ad1176 l1175.length cp1177) rfl rfl (V.mv rfl) ?_
      refine JQ.val (v := .slice adxa_0 xa.length cpxa_0) rfl rfl (V.mv rfl) ?_
      refine JQ.val (v := .int .i64 i1180) rfl rfl (V.mv rfl) ?_
      obtain ⟨x1321, hx1322, h1294⟩ := ob h1294
      obtain ⟨p1323, p1324, p1325⟩ := getI_some hx1322
      obtain ⟨b1326, o1327, e1328, a1329⟩ := (fxa_0).at p1324
      refine JQ.val rfl rfl (V.iad Try.underlying45 sz74 rfl e1328 rfl p1323 p1325) ?_
      refine JQ.val rfl rfl (V.fad Try.underlying74 rfl nz3 rfl) ?_
      refine JQ.val (v := .int .i64 x1321.1) rfl rfl (V.ld rfl (Ld.sc sc3 (Rd.k ((a1329).fst).int (Hp.le_refl _)))) ?_
      refine JQ.val (v := .slice adxb_0 xb.length cpxb_0) rfl rfl (V.mv rfl) ?_
      refine JQ.val (v := .int .i64 i1180) rfl rfl (V.mv rfl) ?_
      obtain ⟨x1330, hx1331, h1294⟩ := ob h1294
      obtain ⟨p1332, p1333, p1334⟩ := getI_some hx1331
      obtain ⟨b1335, o1336, e1337, a1338⟩ := (fxb_0).at p1333
      refine JQ.val rfl rfl (V.iad Try.underlying45 sz74 rfl e1337 rfl p1332 p1334) ?_
      refine JQ.val rfl rfl (V.fad Try.underlying74 rfl nz3 rfl) ?_
      refine JQ.val (v := .int .i64 x1330.1) rfl rfl (V.ld rfl (Ld.sc sc3 (Rd.k ((a1338).fst).int (Hp.le_refl _)))) ?_
      refine JQ.val (v := .int .i64 xc) rfl rfl (V.mv rfl) ?_
      refine JQ.val (v := .int .i64 xd) rfl rfl (V.mv rfl) ?_
      refine JQ.val (v := .int .i64 i1180) rfl rfl (V.mv rfl) ?_
      refine JQ.val (v := .int .i64 (IntKind.wrap .i64 (xd + i1180))) rfl rfl (V.add rfl rfl) ?_
      refine JQ.val (v := .agg #[.int .i64 x1321.1, .int .i64 x1330.1, .int .i64 xc, .int .i64 (IntKind.wrap .i64 (xd + i1180)), .bool false]) rfl rfl (V.build inf60 places60 rfl rfl) ?_
      refine JQ.nil ?_
      refine JA.op rfl (A.lit (K0 := Hp.nil) (ty := (.cons (.int .i64) (.cons (.int .i64) (.cons (.int .i64) (.cons (.int .i64) (.one .bool)))))) (xs := ([(x1321.1, x1330.1, xc, IntKind.wrap .i64 (xd + i1180), false)] : List (Int × Int × Int × Int × Bool))) Try.underlying27 inf60 rfl (by decide) rfl rfl rfl ⟨_, _, rfl, ⟨_, _, rfl, rfl, rfl, ⟨_, _, rfl, rfl, rfl, ⟨_, _, rfl, rfl, rfl, ⟨_, _, rfl, rfl, rfl, rfl⟩⟩⟩⟩, rfl⟩ rfl (by decide)) ?_
      rintro _ _ _ ⟨b1339, rfl, rfl, rfl⟩
      have hn1340 : ([(x1321.1, x1330.1, xc, IntKind.wrap .i64 (xd + i1180), false)] : List (Int × Int × Int × Int × Bool)) ≠ [] → ∃ g, (some ⟨b1339, 0, none⟩ : Option Addr) = some ⟨g, 0, none⟩ := fun _ => ⟨b1339, rfl⟩
      refine ⟨fun w hs => Hold.sub (Hp.le_refl _) ⟨1, rfl, trivial⟩ hs, ?_⟩
      refine JM.nil ?_
      refine JQ.nil ?_
      obtain ⟨z1342, hz1343, h1294⟩ := ob h1294
      refine J.front 1 rfl ?_
      refine J.op rfl (A.appR (Kr := Hp.nil) Try.underlying27 inf60 rfl rfl (by decide) (by decide) rfl rfl (Els.flat rfl) (Els.flat rfl) hz1343) ?_
      rintro _ _ _ ⟨v1344, rfl, rfl, rfl⟩
      refine J.wit Row.form ?_
      rintro ⟨ad1345, cp1346, rfl, _, _, hn1347⟩
      refine J.val (v := .slice ad1345 z1342.length cp1346) rfl rfl (V.as rfl) ?_
      refine J.nil ?_
      refine CJ.seq ?_
      refine CJ.region ?_
      refine J.val (v := .slice adxb_0 xb.length cpxb_0) rfl rfl (V.mv rfl) ?_
      refine J.val (v := .int .i64 i1180) rfl rfl (V.mv rfl) ?_
      obtain ⟨x1348, hx1349, h1294⟩ := ob h1294
      obtain ⟨p1350, p1351, p1352⟩ := getI_some hx1349
      obtain ⟨b1353, o1354, e1355, a1356⟩ := (fxb_0).at p1351
      refine J.val rfl rfl (V.iad Try.underlying45 sz74 rfl e1355 rfl p1350 p1352) ?_
      refine J.val rfl rfl (V.fad Try.underlying74 rfl nz4 rfl) ?_
      refine J.val (v := .bool x1348.2) rfl rfl (V.ld rfl (Ld.sc sc4 (Rd.k (((a1356).snd).one).bool (Hp.le_refl _)))) ?_
      refine J.nil ?_
      refine CJ.cond rfl (fun hc1357 => ?_) (fun hc1357 => ?_)
      · have h1294 := ct hc1357 h1294
        refine CJ.mix [Row Hp.nil 60 (.cons (.int .i64) (.cons (.int .i64) (.cons (.int .i64) (.cons (.int .i64) (.one .bool))))) (.slice ad1345 z1342.length cp1346) z1342] [([0, 1, 2, 3, 4, 5, 6, 7, 8, 9, 10, 11, 12, 13, 14, 15], 16)] [] [17, 18] mixO (by decide +kernel) ⟨0, rfl, trivial⟩ rfl rfl rfl ?_
        refine JM.cons ?_
        refine JQ.val (v := .slice ad1345 z1342.length cp1346) rfl rfl (V.mv rfl) ?_
        refine JQ.val (v := .slice adxb_0 xb.length cpxb_0) rfl rfl (V.mv rfl) ?_
        refine JQ.val (v := .int .i64 i1180) rfl rfl (V.mv rfl) ?_
        obtain ⟨x1379, hx1380, h1294⟩ := ob h1294
        obtain ⟨p1381, p1382, p1383⟩ := getI_some hx1380
        obtain ⟨b1384, o1385, e1386, a1387⟩ := (fxb_0).at p1382
        refine JQ.val rfl rfl (V.iad Try.underlying45 sz74 rfl e1386 rfl p1381 p1383) ?_
        refine JQ.val rfl rfl (V.fad Try.underlying74 rfl nz3 rfl) ?_
        refine JQ.val (v := .int .i64 x1379.1) rfl rfl (V.ld rfl (Ld.sc sc3 (Rd.k ((a1387).fst).int (Hp.le_refl _)))) ?_
        refine JQ.val (v := .slice adxa_0 xa.length cpxa_0) rfl rfl (V.mv rfl) ?_
        refine JQ.val (v := .int .i64 i1180) rfl rfl (V.mv rfl) ?_
        obtain ⟨x1388, hx1389, h1294⟩ := ob h1294
        obtain ⟨p1390, p1391, p1392⟩ := getI_some hx1389
        obtain ⟨b1393, o1394, e1395, a1396⟩ := (fxa_0).at p1391
        refine JQ.val rfl rfl (V.iad Try.underlying45 sz74 rfl e1395 rfl p1390 p1392) ?_
        refine JQ.val rfl rfl (V.fad Try.underlying74 rfl nz3 rfl) ?_
        refine JQ.val (v := .int .i64 x1388.1) rfl rfl (V.ld rfl (Ld.sc sc3 (Rd.k ((a1396).fst).int (Hp.le_refl _)))) ?_
        refine JQ.val (v := .int .i64 xc) rfl rfl (V.mv rfl) ?_
        refine JQ.val (v := .int .i64 xd) rfl rfl (V.mv rfl) ?_
        refine JQ.val (v := .int .i64 i1180) rfl rfl (V.mv rfl) ?_
        refine JQ.val (v := .int .i64 (IntKind.wrap .i64 (xd + i1180))) rfl rfl (V.add rfl rfl) ?_
        refine JQ.val (v := .agg #[.int .i64 x1379.1, .int .i64 x1388.1, .int .i64 xc, .int .i64 (IntKind.wrap .i64 (xd + i1180)), .bool true]) rfl rfl (V.build inf60 places60 rfl rfl) ?_
        refine JQ.nil ?_
        refine JA.op rfl (A.lit (K0 := Hp.nil) (ty := (.cons (.int .i64) (.cons (.int .i64) (.cons (.int .i64) (.cons (.int .i64) (.one .bool)))))) (xs := ([(x1379.1, x1388.1, xc, IntKind.wrap .i64 (xd + i1180), true)] : List (Int × Int × Int × Int × Bool))) Try.underlying27 inf60 rfl (by decide) rfl rfl rfl ⟨_, _, rfl, ⟨_, _, rfl, rfl, rfl, ⟨_, _, rfl, rfl, rfl, ⟨_, _, rfl, rfl, rfl, ⟨_, _, rfl, rfl, rfl, rfl⟩⟩⟩⟩, rfl⟩ rfl (by decide)) ?_
        rintro _ _ _ ⟨b1397, rfl, rfl, rfl⟩
        have hn1398 : ([(x1379.1, x1388.1, xc, IntKind.wrap .i64 (xd + i1180), true)] : List (Int × Int × Int × Int × Bool)) ≠ [] → ∃ g, (some ⟨b1397, 0, none⟩ : Option Addr) = some ⟨g, 0, none⟩ := fun _ => ⟨b1397, rfl⟩
        refine ⟨fun w hs => Hold.sub (Hp.le_refl _) ⟨1, rfl, trivial⟩ hs, ?_⟩
        refine JM.nil ?_
        refine JQ.nil ?_
        obtain ⟨z1400, hz1401, h1294⟩ := ob h1294
        refine J.front 1 rfl ?_
        refine J.op rfl (A.appR (Kr := Hp.nil) Try.underlying27 inf60 rfl rfl (by decide) (by decide) rfl rfl (Els.flat rfl) (Els.flat rfl) hz1401) ?_
        rintro _ _ _ ⟨v1402, rfl, rfl, rfl⟩
        refine J.wit Row.form ?_
        rintro ⟨ad1403, cp1404, rfl, _, _, hn1405⟩
        refine J.val (v := .slice ad1403 z1400.length cp1404) rfl rfl (V.as rfl) ?_
        refine J.nil ?_
        refine CJ.region ?_
        refine J.val (v := .int .i64 (IntKind.wrap .i64 (i1180 + 1))) rfl rfl (V.add rfl rfl) ?_
        refine J.val (v := .int .i64 (IntKind.wrap .i64 (i1180 + 1))) rfl rfl (V.mv rfl) ?_
        refine J.nil ?_
        have e := Option.some.inj h1294
        subst e
        exact ⟨rfl, ⟨z1400, IntKind.wrap .i64 (i1180 + 1), ad1403, cp1404, rfl, ⟨rfl, rfl, rfl, rfl, rfl, rfl, rfl, trivial⟩, rfl, rfl⟩⟩
      · have h1294 := cf hc1357 h1294
        refine CJ.skip ?_
        refine CJ.region ?_
        refine J.val (v := .int .i64 (IntKind.wrap .i64 (i1180 + 1))) rfl rfl (V.add rfl rfl) ?_
        refine J.val (v := .int .i64 (IntKind.wrap .i64 (i1180 + 1))) rfl rfl (V.mv rfl) ?_
        refine J.nil ?_
        have e := Option.some.inj h1294
        subst e
        exact ⟨rfl, ⟨z1342, IntKind.wrap .i64 (i1180 + 1), ad1345, cp1346, rfl, ⟨rfl, rfl, rfl, rfl, rfl, rfl, rfl, trivial⟩, rfl, rfl⟩⟩
    · have h1294 := cf hc1299 h1294
      refine CJ.exit ?_
      have e := Option.some.inj h1294
      subst e
      refine ⟨nofun, fun e => ?_⟩
      subst e
      exact ⟨rfl, ⟨l1175, ad1176, cp1177, rfl, ⟨rfl, trivial⟩, rfl, rfl⟩⟩
  · rintro ρ _ _ ⟨l1053, ad1054, cp1055, rfl, hf1406, rfl, rfl⟩
    obtain ⟨ρ, rfl⟩ := hf1406.ex
    refine PJ.wit Row.hn (fun hn1057 => ?_)
    refine PJ.done ?_
    refine CJ.seq ?_
    refine CJ.region ?_
    refine J.val (v := .slice ad1054 l1053.length cp1055) rfl rfl (V.mv rfl) ?_
    refine J.val (v := .slice ad1054 l1053.length cp1055) rfl rfl (V.as rfl) ?_
    refine J.nil ?_
    refine CJ.ret ?_
    have e := Option.some.inj h
    subst e
    exact ⟨_, [Row Hp.nil 60 (.cons (.int .i64) (.cons (.int .i64) (.cons (.int .i64) (.cons (.int .i64) (.one .bool))))) (.slice ad1054 l1053.length cp1055) l1053], Res.one rfl rfl, ⟨l1053, ad1054, cp1055, rfl, rfl, rfl⟩, (Hp.le_refl _), fun w hs => hs⟩

noncomputable def fn_relate_Flow (xa : (List (Int × Bool))) (xb : (List (Int × Bool))) (xc : Int) (xd : Int) : Option (((List (Int × Int × Int × Int × Bool)) × Int)) :=
  (fn_row_Shape xa xb).bind fun t30 => cond (!t30) (some (([], 8))) ((fn_relate_related xa xb xc xd).bind fun l38 => some ((l38, 0)))
set_option maxRecDepth 100000 in
set_option maxHeartbeats 4000000 in
theorem relate_Flow_ok {K : Hp} {xa : (List (Int × Bool))} {xb : (List (Int × Bool))} {xc : Int} {xd : Int} {adxa_0 : Option Addr} {cpxa_0 : Nat} {adxb_0 : Option Addr} {cpxb_0 : Nat} (fxa_0 : Is K (.sl (.cons (.int .i64) (.one .bool))) [.slice adxa_0 xa.length cpxa_0] xa) (fxb_0 : Is K (.sl (.cons (.int .i64) (.one .bool))) [.slice adxb_0 xb.length cpxb_0] xb) {r : ((List (Int × Int × Int × Int × Bool)) × Int)} (h : fn_relate_Flow xa xb xc xd = some r) :
    Tr Try.prog 20 #[.agg #[.slice adxa_0 xa.length cpxa_0], .agg #[.slice adxb_0 xb.length cpxb_0], .int .i64 xc, .int .i64 xd] K [] (fun v K' L' => (∃ (l20 : (List (Int × Int × Int × Int × Bool))) (i25 : Int) (ad21 : Option Addr) (cp22 : Nat), (l20, i25) = r ∧ .tuple #[.slice ad21 l20.length cp22, .int .i64 i25] = v ∧ L' = [Row Hp.nil 60 (.cons (.int .i64) (.cons (.int .i64) (.cons (.int .i64) (.cons (.int .i64) (.one .bool))))) (.slice ad21 l20.length cp22) l20]) ∧ K = K') := by
  refine Tr.k ?_
  refine Tr.of Try.func20 rfl Try.ntmps20 rfl (fun E F => ?_)
  unfold fn_relate_Flow at h
  refine CJ.seq ?_
  refine CJ.region ?_
  refine J.op rfl (A.box (v := .agg #[.slice adxa_0 xa.length cpxa_0]) (cs := [.slice adxa_0 xa.length cpxa_0]) rfl rfl) ?_
  rintro _ _ _ ⟨b26, rfl, rfl, rfl⟩
  refine J.op rfl (A.box (v := .agg #[.slice adxb_0 xb.length cpxb_0]) (cs := [.slice adxb_0 xb.length cpxb_0]) rfl rfl) ?_
  rintro _ _ _ ⟨b27, rfl, rfl, rfl⟩
  refine J.val (v := .slice none 0 0) rfl rfl (V.as rfl) ?_
  refine J.val (v := .int .i64 0) rfl rfl (V.as rfl) ?_
  refine J.nil ?_
  refine CJ.seq ?_
  refine CJ.seq ?_
  refine CJ.region ?_
  refine J.val (v := .agg #[.slice adxa_0 xa.length cpxa_0]) rfl rfl (V.ld rfl (Ld.agg (cs := [.slice adxa_0 xa.length cpxa_0]) Try.underlying47 sz47 rfl (Rd.cls 1 0 rfl rfl))) ?_
  refine J.val (v := .agg #[.slice adxb_0 xb.length cpxb_0]) rfl rfl (V.ld rfl (Ld.agg (cs := [.slice adxb_0 xb.length cpxb_0]) Try.underlying47 sz47 rfl (Rd.cls 0 0 rfl rfl))) ?_
  obtain ⟨r28, hr29, h⟩ := ob h
  refine J.op rfl (A.call (L1 := []) Try.call37 rfl (row_Shape_ok fxa_0 fxb_0 hr29) rfl rfl) ?_
  rintro _ _ _ ⟨v31, _, rfl, ⟨⟨t30, rfl, rfl, rfl⟩, rfl⟩, _, rfl⟩
  refine J.val (v := .bool (!t30)) rfl rfl (V.not rfl) ?_
  refine J.nil ?_
  refine CJ.cond rfl (fun hc34 => ?_) (fun hc34 => ?_)
  · have h := ct hc34 h
    refine CJ.seq ?_
    refine CJ.region ?_
    refine J.val (v := .slice none 0 0) rfl rfl (V.as rfl) ?_
    refine J.val (v := .int .i64 8) rfl rfl (V.as rfl) ?_
    refine J.nil ?_
    refine CJ.by (fun w hs => Sep.rowNil (e := 60) (t := (.cons (.int .i64) (.cons (.int .i64) (.cons (.int .i64) (.cons (.int .i64) (.one .bool)))))) hs) ?_
    refine CJ.ret ?_
    have e := Option.some.inj h
    subst e
    exact ⟨_, [Row Hp.nil 60 (.cons (.int .i64) (.cons (.int .i64) (.cons (.int .i64) (.cons (.int .i64) (.one .bool))))) (.slice none ((([] : List (Int × Int × Int × Int × Bool))).length) 0) (([] : List (Int × Int × Int × Int × Bool)))], Res.two rfl rfl rfl, ⟨[], 8, none, 0, rfl, rfl, rfl⟩, (Hp.le_refl _), fun w hs => (Sep.dropAt 1 rfl (Sep.dropAt 1 rfl hs))⟩
  · have h := cf hc34 h
    refine CJ.skip ?_
    refine CJ.seq ?_
    refine CJ.region ?_
    refine J.val rfl rfl (V.fad Try.underlying47 rfl nz45 rfl) ?_
    refine J.val (v := .slice adxa_0 xa.length cpxa_0) rfl rfl (V.ld rfl (Ld.sc sc45 (Rd.cl 1 rfl rfl))) ?_
    refine J.val rfl rfl (V.fad Try.underlying47 rfl nz45 rfl) ?_
    refine J.val (v := .slice adxb_0 xb.length cpxb_0) rfl rfl (V.ld rfl (Ld.sc sc45 (Rd.cl 0 rfl rfl))) ?_
    refine J.val (v := .int .i64 xc) rfl rfl (V.mv rfl) ?_
    refine J.val (v := .int .i64 xd) rfl rfl (V.mv rfl) ?_
    obtain ⟨r36, hr37, h⟩ := ob h
    refine J.op rfl (A.call (L1 := []) Try.call38 rfl (relate_related_ok fxa_0 fxb_0 hr37) rfl rfl) ?_
    rintro _ _ _ ⟨v42, _, rfl, ⟨⟨l38, ad39, cp40, rfl, rfl, rfl⟩, rfl⟩, _, rfl⟩
    refine J.wit Row.hn (fun hn41 => ?_)
    refine J.val (v := .slice ad39 l38.length cp40) rfl rfl (V.as rfl) ?_
    refine J.val (v := .int .i64 0) rfl rfl (V.as rfl) ?_
    refine J.nil ?_
    refine CJ.ret ?_
    have e := Option.some.inj h
    subst e
    exact ⟨_, [Row Hp.nil 60 (.cons (.int .i64) (.cons (.int .i64) (.cons (.int .i64) (.cons (.int .i64) (.one .bool))))) (.slice ad39 l38.length cp40) l38], Res.two rfl rfl rfl, ⟨l38, 0, ad39, cp40, rfl, rfl, rfl⟩, (Hp.le_refl _), fun w hs => (Sep.dropAt 1 rfl (Sep.dropAt 1 rfl hs))⟩
noncomputable def fn_row_Ref_l1 (xa : (List (Int × Bool))) (xc : Bool) : ((List (Int × Bool)) × Int) → Option (((List (Int × Bool)) × Int) ⊕ (List (Int × Bool))) := fun ((l334, i339) : ((List (Int × Bool)) × Int)) => cond (decide (i339 < (((xa.length : Nat) : Int)))) ((getI xa i339).bind fun x374 => (app l334 (([(x374.1, x374.2 || xc)] : List (Int × Bool)))).bind fun z390 => some (.inl ((z390, IntKind.wrap .i64 (i339 + 1))))) (some (.inr (l334)))
noncomputable def fn_row_Ref (xa : (List (Int × Bool))) (xb : Int) (xc : Bool) : Option ((List (Int × Bool))) :=
  (loop (fn_row_Ref_l1 xa xc) ((([(xb, false)] : List (Int × Bool)), 0)) : Option ((List (Int × Bool)))).bind fun l298 => some (l298)
set_option maxRecDepth 100000 in
set_option maxHeartbeats 4000000 in
theorem row_Ref_ok {K : Hp} {xa : (List (Int × Bool))} {xb : Int} {xc : Bool} {adxa_0 : Option Addr} {cpxa_0 : Nat} (fxa_0 : Is K (.sl (.cons (.int .i64) (.one .bool))) [.slice adxa_0 xa.length cpxa_0] xa) {r : (List (Int × Bool))} (h : fn_row_Ref xa xb xc = some r) :
    Tr Try.prog 39 #[.agg #[.slice adxa_0 xa.length cpxa_0], .int .i64 xb, .bool xc] K [] (fun v K' L' => (∃ (l197 : (List (Int × Bool))) (ad198 : Option Addr) (cp199 : Nat), l197 = r ∧ .agg #[.slice ad198 l197.length cp199] = v ∧ L' = [Row Hp.nil 74 (.cons (.int .i64) (.one .bool)) (.slice ad198 l197.length cp199) l197]) ∧ K = K') := by
  refine Tr.k ?_
  refine Tr.of Try.func39 rfl Try.ntmps39 rfl (fun E F => ?_)
  unfold fn_row_Ref at h
  refine CJ.seq ?_
  refine CJ.region ?_
  refine J.op rfl (A.box (v := .agg #[.slice adxa_0 xa.length cpxa_0]) (cs := [.slice adxa_0 xa.length cpxa_0]) rfl rfl) ?_
  rintro _ _ _ ⟨b202, rfl, rfl, rfl⟩
  refine J.op rfl (A.alloc (cs := [.slice none 0 0]) inf47 rfl) ?_
  rintro _ _ _ ⟨b203, rfl, rfl, rfl⟩
  refine J.nil ?_
  refine CJ.seq ?_
  refine CJ.region ?_
  refine J.val (v := .int .i64 xb) rfl rfl (V.mv rfl) ?_
  refine J.val (v := .agg #[.int .i64 xb, .bool false]) rfl rfl (V.build inf74 places74 rfl rfl) ?_
  refine J.op rfl (A.lit (K0 := Hp.nil) (ty := (.cons (.int .i64) (.one .bool))) (xs := ([(xb, false)] : List (Int × Bool))) Try.underlying45 inf74 rfl (by decide) rfl rfl rfl ⟨_, _, rfl, ⟨_, _, rfl, rfl, rfl, rfl⟩, rfl⟩ rfl (by decide)) ?_
  rintro _ _ _ ⟨b204, rfl, rfl, rfl⟩
  have hn205 : ([(xb, false)] : List (Int × Bool)) ≠ [] → ∃ g, (some ⟨b204, 0, none⟩ : Option Addr) = some ⟨g, 0, none⟩ := fun _ => ⟨b204, rfl⟩
  refine J.val (v := .slice (some ⟨b204, 0, none⟩) ((([(xb, false)] : List (Int × Bool))).length) 1) rfl rfl (V.as rfl) ?_
  refine J.nil ?_
  refine CJ.seq ?_
  refine CJ.seq ?_
  refine CJ.region ?_
  refine J.val rfl rfl (V.fad Try.underlying47 rfl nz45 rfl) ?_
  refine J.val (v := .slice adxa_0 xa.length cpxa_0) rfl rfl (V.ld rfl (Ld.sc sc45 (Rd.cl 2 rfl rfl))) ?_
  refine J.val (v := .int .i64 (((xa.length : Nat) : Int))) rfl rfl (V.len Try.underlying45 rfl) ?_
  refine J.val (v := .int .i64 0) rfl rfl (V.mv rfl) ?_
  refine J.nil ?_
  obtain ⟨o303, ho304, h⟩ := ob h
  refine CJ.meetN (fun ρ K' L' => ∃ (l298 : (List (Int × Bool))) (ad299 : Option Addr) (cp300 : Nat), l298 = o303 ∧ Fits [(6, .pointer (some ⟨b203, 0, none⟩)), (7, .slice ad299 l298.length cp300)] ρ ∧ K = K' ∧ L' = Cl b203 47 [.slice none 0 0] :: Row Hp.nil 74 (.cons (.int .i64) (.one .bool)) (.slice ad299 l298.length cp300) l298 :: F) ?_ ?_
  · skip
    refine CJ.block ?_
    refine CJ.dropAt 2 rfl ?_
    refine CJ.front 1 rfl ?_
    refine CJ.loop (fun s ρ K' L' => ∃ (l334 : (List (Int × Bool))) (i339 : Int) (ad335 : Option Addr) (cp336 : Nat), (l334, i339) = s ∧ Fits [(2, .bool xc), (6, .pointer (some ⟨b203, 0, none⟩)), (7, .slice ad335 l334.length cp336), (14, .slice adxa_0 xa.length cpxa_0), (15, .int .i64 (((xa.length : Nat) : Int))), (16, .int .i64 i339)] ρ ∧ K = K' ∧ L' = Cl b203 47 [.slice none 0 0] :: Row Hp.nil 74 (.cons (.int .i64) (.one .bool)) (.slice ad335 l334.length cp336) l334 :: F) ho304 ⟨([(xb, false)] : List (Int × Bool)), 0, (some ⟨b204, 0, none⟩), 1, rfl, ⟨rfl, rfl, rfl, rfl, rfl, rfl, trivial⟩, rfl, rfl⟩ ?_
    rintro s ρ _ _ r372 ⟨l334, i339, ad335, cp336, rfl, hf370, rfl, rfl⟩ h369
    obtain ⟨ρ, rfl⟩ := hf370.ex
    refine CJ.front 1 rfl ?_
    refine CJ.wit Row.hn (fun hn338 => ?_)
    refine CJ.seq ?_
    refine CJ.region ?_
    refine J.val (v := .bool (decide (i339 < (((xa.length : Nat) : Int))))) rfl rfl (V.lss rfl rfl) ?_
    refine J.nil ?_
    refine CJ.seq ?_
    refine CJ.cond rfl (fun hc373 => ?_) (fun hc373 => ?_)
    · have h369 := ct hc373 h369
      refine CJ.skip ?_
      refine CJ.seq ?_
      refine CJ.block ?_
      refine CJ.seq ?_
      refine CJ.region ?_
      obtain ⟨x374, hx375, h369⟩ := ob h369
      obtain ⟨p376, p377, p378⟩ := getI_some hx375
      obtain ⟨b379, o380, e381, a382⟩ := (fxa_0).at p377
      refine J.val rfl rfl (V.iad Try.underlying45 sz74 rfl e381 rfl p376 p378) ?_
      refine J.val (v := .agg #[.int .i64 x374.1, .bool x374.2]) rfl rfl (V.ld rfl (Ld.aggK (cs := [.int .i64 x374.1, .bool x374.2]) Try.underlying74 sz74 rfl ⟨((a382).fst).int, (((a382).snd).one).bool, trivial⟩ (Hp.le_refl _))) ?_
      refine J.op rfl (A.alloc (cs := [.int .i64 0, .bool false]) inf74 rfl) ?_
      rintro _ _ _ ⟨b383, rfl, rfl, rfl⟩
      refine J.op rfl (A.store (v := .agg #[.int .i64 x374.1, .bool x374.2]) (cs' := [.int .i64 x374.1, .bool x374.2]) sz74 rfl rfl rfl rfl rfl rfl) ?_
      rintro _ _ _ ⟨rfl, rfl, rfl⟩
      refine J.nil ?_
      refine CJ.region ?_
      refine J.val (v := .slice ad335 l334.length cp336) rfl rfl (V.mv rfl) ?_
      refine J.val rfl rfl (V.fad Try.underlying74 rfl nz3 rfl) ?_
      refine J.val (v := .int .i64 x374.1) rfl rfl (V.ld rfl (Ld.sc sc3 (Rd.cl 0 rfl rfl))) ?_
      refine J.val rfl rfl (V.fad Try.underlying74 rfl nz4 rfl) ?_
      refine J.val (v := .bool x374.2) rfl rfl (V.ld rfl (Ld.sc sc4 (Rd.cl 0 rfl rfl))) ?_
      refine J.val (v := .bool x374.2) rfl rfl (V.mv rfl) ?_
      refine J.cut 2 ?_
      refine @J.meet _ _ _ _ _ _ _ _ _ _ (fun ρ K' L' => Fits [(27, .bool (x374.2 || xc)), (2, .bool xc), (6, .pointer (some ⟨b203, 0, none⟩)), (14, .slice adxa_0 xa.length cpxa_0), (15, .int .i64 (((xa.length : Nat) : Int))), (16, .int .i64 i339), (20, .slice ad335 l334.length cp336), (22, .int .i64 x374.1)] ρ ∧ K = K' ∧ L' = Cl b383 74 [.int .i64 x374.1, .bool x374.2] :: Row Hp.nil 74 (.cons (.int .i64) (.one .bool)) (.slice ad335 l334.length cp336) l334 :: Cl b203 47 [.slice none 0 0] :: F) ?_ ?_
      · skip
        rcases bt (x374.2) with hc386 | hc386
        · skip
          refine J.skip rfl rfl rfl rfl hc386 ?_
          refine J.val (v := .bool true) rfl rfl (V.pickT rfl hc386 rfl) ?_
          refine J.nil ?_
          exact ⟨rfl, ⟨(by simp only [hc386]; rfl), rfl, rfl, rfl, rfl, rfl, rfl, rfl, trivial⟩, rfl, rfl⟩
        · skip
          refine J.run rfl rfl rfl hc386 ?_
          refine J.val (v := .bool xc) rfl rfl (V.mv rfl) ?_
          refine J.val (v := .bool xc) rfl rfl (V.pickF rfl hc386 rfl) ?_
          refine J.nil ?_
          exact ⟨rfl, ⟨(by simp only [hc386]; rfl), rfl, rfl, rfl, rfl, rfl, rfl, rfl, trivial⟩, rfl, rfl⟩
      · rintro ρ _ _ ⟨hf, rfl, rfl⟩
        obtain ⟨ρ, rfl⟩ := hf.ex
        refine J.val (v := .agg #[.int .i64 x374.1, .bool (x374.2 || xc)]) rfl rfl (V.build inf74 places74 rfl rfl) ?_
        refine J.op rfl (A.lit (K0 := Hp.nil) (ty := (.cons (.int .i64) (.one .bool))) (xs := ([(x374.1, x374.2 || xc)] : List (Int × Bool))) Try.underlying45 inf74 rfl (by decide) rfl rfl rfl ⟨_, _, rfl, ⟨_, _, rfl, rfl, rfl, rfl⟩, rfl⟩ rfl (by decide)) ?_
        rintro _ _ _ ⟨b387, rfl, rfl, rfl⟩
        have hn388 : ([(x374.1, x374.2 || xc)] : List (Int × Bool)) ≠ [] → ∃ g, (some ⟨b387, 0, none⟩ : Option Addr) = some ⟨g, 0, none⟩ := fun _ => ⟨b387, rfl⟩
        obtain ⟨z390, hz391, h369⟩ := ob h369
        refine J.front 2 rfl ?_
        refine J.op rfl (A.appR (Kr := Hp.nil) Try.underlying45 inf74 rfl rfl (by decide) (by decide) rfl rfl (Els.flat rfl) (Els.flat rfl) hz391) ?_
        rintro _ _ _ ⟨v392, rfl, rfl, rfl⟩
        refine J.wit Row.form ?_
        rintro ⟨ad393, cp394, rfl, _, _, hn395⟩
        refine J.val (v := .slice ad393 z390.length cp394) rfl rfl (V.as rfl) ?_
        refine J.nil ?_
        refine CJ.region ?_
        refine J.val (v := .int .i64 (IntKind.wrap .i64 (i339 + 1))) rfl rfl (V.add rfl rfl) ?_
        refine J.val (v := .int .i64 (IntKind.wrap .i64 (i339 + 1))) rfl rfl (V.mv rfl) ?_
        refine J.dropAt 1 rfl ?_
        refine J.front 1 rfl ?_
        refine J.nil ?_
        have e := Option.some.inj h369
        subst e
        exact ⟨rfl, ⟨z390, IntKind.wrap .i64 (i339 + 1), ad393, cp394, rfl, ⟨rfl, rfl, rfl, rfl, rfl, rfl, trivial⟩, rfl, rfl⟩⟩
    · have h369 := cf hc373 h369
      refine CJ.front 1 rfl ?_
      refine CJ.exit ?_
      have e := Option.some.inj h369
      subst e
      refine ⟨nofun, fun e => ?_⟩
      subst e
      exact ⟨rfl, ⟨l334, ad335, cp336, rfl, ⟨rfl, rfl, trivial⟩, rfl, rfl⟩⟩
  · rintro ρ _ _ ⟨l298, ad299, cp300, rfl, hf396, rfl, rfl⟩
    obtain ⟨ρ, rfl⟩ := hf396.ex
    refine PJ.front 1 rfl ?_
    refine PJ.wit Row.hn (fun hn302 => ?_)
    refine PJ.done ?_
    refine CJ.seq ?_
    refine CJ.region ?_
    refine J.val (v := .slice ad299 l298.length cp300) rfl rfl (V.mv rfl) ?_
    refine J.val (v := .agg #[.slice ad299 l298.length cp300]) rfl rfl (V.build inf47 places47 rfl rfl) ?_
    refine J.front 1 rfl ?_
    refine J.op rfl (A.store (v := .agg #[.slice ad299 l298.length cp300]) (cs' := [.slice ad299 l298.length cp300]) sz47 rfl rfl rfl rfl rfl rfl) ?_
    rintro _ _ _ ⟨rfl, rfl, rfl⟩
    refine J.nil ?_
    refine CJ.ret ?_
    have e := Option.some.inj h
    subst e
    exact ⟨_, [Row Hp.nil 74 (.cons (.int .i64) (.one .bool)) (.slice ad299 l298.length cp300) l298], Res.one rfl ⟨_, _, rfl, Ld.agg (cs := [.slice ad299 l298.length cp300]) Try.underlying47 sz47 rfl (Rd.cls 0 0 rfl rfl)⟩, ⟨l298, ad299, cp300, rfl, rfl, rfl⟩, (Hp.le_refl _), fun w hs => (Sep.dropAt 0 rfl hs)⟩

noncomputable def fn_relate_Loan (xa : (List (Int × Bool))) (xb : (List (Int × Bool))) (xc : Int) (xd : Bool) : Option (((List (Int × Int × Int × Int × Bool)) × Int)) :=
  (fn_row_Ref xa xc xd).bind fun l121 => (fn_row_Shape xb l121).bind fun t134 => cond (!t134) (some (([], 8))) ((getI xb 0).bind fun x140 => (subL xb 1 (((xb.length : Nat) : Int))).bind fun y168 => (fn_relate_related xa y168 1 1).bind fun l176 => (app (([(xc, x140.1, 2, 0, false)] : List (Int × Int × Int × Int × Bool))) l176).bind fun z184 => some ((z184, 0)))
set_option maxRecDepth 100000 in
set_option maxHeartbeats 4000000 in
theorem relate_Loan_ok {K : Hp} {xa : (List (Int × Bool))} {xb : (List (Int × Bool))} {xc : Int} {xd : Bool} {adxa_0 : Option Addr} {cpxa_0 : Nat} {adxb_0 : Option Addr} {cpxb_0 : Nat} (fxa_0 : Is K (.sl (.cons (.int .i64) (.one .bool))) [.slice adxa_0 xa.length cpxa_0] xa) (fxb_0 : Is K (.sl (.cons (.int .i64) (.one .bool))) [.slice adxb_0 xb.length cpxb_0] xb) {r : ((List (Int × Int × Int × Int × Bool)) × Int)} (h : fn_relate_Loan xa xb xc xd = some r) :
    Tr Try.prog 21 #[.agg #[.slice adxa_0 xa.length cpxa_0], .agg #[.slice adxb_0 xb.length cpxb_0], .int .i64 xc, .bool xd] K [] (fun v K' L' => (∃ (l92 : (List (Int × Int × Int × Int × Bool))) (i97 : Int) (ad93 : Option Addr) (cp94 : Nat), (l92, i97) = r ∧ .tuple #[.slice ad93 l92.length cp94, .int .i64 i97] = v ∧ L' = [Row Hp.nil 60 (.cons (.int .i64) (.cons (.int .i64) (.cons (.int .i64) (.cons (.int .i64) (.one .bool))))) (.slice ad93 l92.length cp94) l92]) ∧ K = K') := by
  refine Tr.k ?_
  refine Tr.of Try.func21 rfl Try.ntmps21 rfl (fun E F => ?_)
  unfold fn_relate_Loan at h
  refine CJ.seq ?_
  refine CJ.region ?_
  refine J.op rfl (A.box (v := .agg #[.slice adxa_0 xa.length cpxa_0]) (cs := [.slice adxa_0 xa.length cpxa_0]) rfl rfl) ?_
  rintro _ _ _ ⟨b98, rfl, rfl, rfl⟩
  refine J.op rfl (A.box (v := .agg #[.slice adxb_0 xb.length cpxb_0]) (cs := [.slice adxb_0 xb.length cpxb_0]) rfl rfl) ?_
  rintro _ _ _ ⟨b99, rfl, rfl, rfl⟩
  refine J.val (v := .slice none 0 0) rfl rfl (V.as rfl) ?_
  refine J.val (v := .int .i64 0) rfl rfl (V.as rfl) ?_
  refine J.nil ?_
  refine CJ.seq ?_
  refine CJ.seq ?_
  refine CJ.mix [Cl b99 47 [.slice adxb_0 xb.length cpxb_0], Cl b98 47 [.slice adxa_0 xa.length cpxa_0]] [([0, 1, 2, 3], 4), ([], 5)] [6] [] mixO (by decide +kernel) ⟨0, rfl, 0, rfl, trivial⟩ rfl rfl rfl ?_
  refine JM.cons ?_
  refine JQ.val (v := .agg #[.slice adxb_0 xb.length cpxb_0]) rfl rfl (V.ld rfl (Ld.agg (cs := [.slice adxb_0 xb.length cpxb_0]) Try.underlying47 sz47 rfl (Rd.cls 0 0 rfl rfl))) ?_
  refine JQ.val (v := .agg #[.slice adxa_0 xa.length cpxa_0]) rfl rfl (V.ld rfl (Ld.agg (cs := [.slice adxa_0 xa.length cpxa_0]) Try.underlying47 sz47 rfl (Rd.cls 1 0 rfl rfl))) ?_
  refine JQ.val (v := .int .i64 xc) rfl rfl (V.mv rfl) ?_
  refine JQ.val (v := .bool xd) rfl rfl (V.mv rfl) ?_
  refine JQ.nil ?_
  obtain ⟨r119, hr120, h⟩ := ob h
  refine JA.op rfl (A.call (L1 := []) Try.call39 rfl (row_Ref_ok fxa_0 hr120) rfl rfl) ?_
  rintro _ _ _ ⟨v125, _, rfl, ⟨⟨l121, ad122, cp123, rfl, rfl, rfl⟩, rfl⟩, _, rfl⟩
  refine ⟨fun w hs => Hold.sub (Hp.le_refl _) ⟨1, rfl, 1, rfl, trivial⟩ hs, ?_⟩
  refine JM.wit Row.hn (fun hn124 => ?_)
  refine JM.cons ?_
  refine JQ.nil ?_
  obtain ⟨r129, hr130, h⟩ := ob h
  refine JA.op rfl (A.call (L1 := [Row Hp.nil 74 (.cons (.int .i64) (.one .bool)) (.slice ad122 l121.length cp123) l121]) Try.call37 rfl (Tr.lend (Hp.nil_le _) (by decide) (fun K131 hK132 f133 => row_Shape_ok (fxb_0.mono hK132) f133 hr130)) rfl rfl) ?_
  rintro _ _ _ ⟨v135, _, rfl, ⟨⟨_, ⟨t134, rfl, rfl, rfl⟩, rfl⟩, rfl⟩, _, rfl⟩
  refine ⟨fun w hs => Hold.sub (Hp.le_refl _) ⟨1, rfl, 1, rfl, trivial⟩ hs, ?_⟩
  refine JM.nil ?_
  refine JQ.val (v := .bool (!t134)) rfl rfl (V.not rfl) ?_
  refine JQ.nil ?_
  refine J.nil ?_
  refine CJ.cond rfl (fun hc138 => ?_) (fun hc138 => ?_)
  · have h := ct hc138 h
    refine CJ.seq ?_
    refine CJ.region ?_
    refine J.val (v := .slice none 0 0) rfl rfl (V.as rfl) ?_
    refine J.val (v := .int .i64 8) rfl rfl (V.as rfl) ?_
    refine J.nil ?_
    refine CJ.by (fun w hs => Sep.rowNil (e := 60) (t := (.cons (.int .i64) (.cons (.int .i64) (.cons (.int .i64) (.cons (.int .i64) (.one .bool)))))) hs) ?_
    refine CJ.ret ?_
    have e := Option.some.inj h
    subst e
    exact ⟨_, [Row Hp.nil 60 (.cons (.int .i64) (.cons (.int .i64) (.cons (.int .i64) (.cons (.int .i64) (.one .bool))))) (.slice none ((([] : List (Int × Int × Int × Int × Bool))).length) 0) (([] : List (Int × Int × Int × Int × Bool)))], Res.two rfl rfl rfl, ⟨[], 8, none, 0, rfl, rfl, rfl⟩, (Hp.le_refl _), fun w hs => (Sep.dropAt 1 rfl (Sep.dropAt 1 rfl (Sep.dropAt 1 rfl hs)))⟩
  · have h := cf hc138 h
    refine CJ.skip ?_
    refine CJ.seq ?_
    refine CJ.region ?_
    refine J.val (v := .int .i64 xc) rfl rfl (V.mv rfl) ?_
    refine J.val rfl rfl (V.fad Try.underlying47 rfl nz45 rfl) ?_
    refine J.val (v := .slice adxb_0 xb.length cpxb_0) rfl rfl (V.ld rfl (Ld.sc sc45 (Rd.cl 1 rfl rfl))) ?_
    obtain ⟨x140, hx141, h⟩ := ob h
    obtain ⟨p142, p143, p144⟩ := getI_some hx141
    obtain ⟨b145, o146, e147, a148⟩ := (fxb_0).at p143
    refine J.val rfl rfl (V.iad Try.underlying45 sz74 rfl e147 rfl p142 p144) ?_
    refine J.val rfl rfl (V.fad Try.underlying74 rfl nz3 rfl) ?_
    refine J.val (v := .int .i64 x140.1) rfl rfl (V.ld rfl (Ld.sc sc3 (Rd.k ((a148).fst).int (Hp.le_refl _)))) ?_
    refine J.val (v := .agg #[.int .i64 xc, .int .i64 x140.1, .int .i64 2, .int .i64 0, .bool false]) rfl rfl (V.build inf60 places60 rfl rfl) ?_
    refine J.op rfl (A.lit (K0 := Hp.nil) (ty := (.cons (.int .i64) (.cons (.int .i64) (.cons (.int .i64) (.cons (.int .i64) (.one .bool)))))) (xs := ([(xc, x140.1, 2, 0, false)] : List (Int × Int × Int × Int × Bool))) Try.underlying27 inf60 rfl (by decide) rfl rfl rfl ⟨_, _, rfl, ⟨_, _, rfl, rfl, rfl, ⟨_, _, rfl, rfl, rfl, ⟨_, _, rfl, rfl, rfl, ⟨_, _, rfl, rfl, rfl, rfl⟩⟩⟩⟩, rfl⟩ rfl (by decide)) ?_
    rintro _ _ _ ⟨b149, rfl, rfl, rfl⟩
    have hn150 : ([(xc, x140.1, 2, 0, false)] : List (Int × Int × Int × Int × Bool)) ≠ [] → ∃ g, (some ⟨b149, 0, none⟩ : Option Addr) = some ⟨g, 0, none⟩ := fun _ => ⟨b149, rfl⟩
    refine J.val (v := .slice (some ⟨b149, 0, none⟩) ((([(xc, x140.1, 2, 0, false)] : List (Int × Int × Int × Int × Bool))).length) 1) rfl rfl (V.as rfl) ?_
    refine J.nil ?_
    refine CJ.seq ?_
    refine CJ.mix [Row Hp.nil 60 (.cons (.int .i64) (.cons (.int .i64) (.cons (.int .i64) (.cons (.int .i64) (.one .bool))))) (.slice (some ⟨b149, 0, none⟩) ((([(xc, x140.1, 2, 0, false)] : List (Int × Int × Int × Int × Bool))).length) 1) (([(xc, x140.1, 2, 0, false)] : List (Int × Int × Int × Int × Bool))), Row Hp.nil 74 (.cons (.int .i64) (.one .bool)) (.slice ad122 l121.length cp123) l121, Cl b99 47 [.slice adxb_0 xb.length cpxb_0], Cl b98 47 [.slice adxa_0 xa.length cpxa_0]] [([0, 1, 2, 3, 4, 5], 6)] [] [7, 8, 9] mixO (by decide +kernel) ⟨0, rfl, 0, rfl, 0, rfl, 0, rfl, trivial⟩ rfl rfl rfl ?_
    refine JM.cons ?_
    refine JQ.val (v := .slice (some ⟨b149, 0, none⟩) ((([(xc, x140.1, 2, 0, false)] : List (Int × Int × Int × Int × Bool))).length) 1) rfl rfl (V.mv rfl) ?_
    refine JQ.val rfl rfl (V.fad Try.underlying47 rfl nz45 rfl) ?_
    refine JQ.val (v := .slice adxa_0 xa.length cpxa_0) rfl rfl (V.ld rfl (Ld.sc sc45 (Rd.cl 3 rfl rfl))) ?_
    refine JQ.val rfl rfl (V.fad Try.underlying47 rfl nz45 rfl) ?_
    refine JQ.val (v := .slice adxb_0 xb.length cpxb_0) rfl rfl (V.ld rfl (Ld.sc sc45 (Rd.cl 2 rfl rfl))) ?_
    obtain ⟨y168, hy169, h⟩ := ob h
    obtain ⟨ad170, cp171, hv172, f173⟩ := V.subI (tp := (.cons (.int .i64) (.one .bool))) Try.underlying45 sz74 fxb_0 hy169
    refine JQ.val (v := .slice ad170 y168.length cp171) rfl rfl (hv172 rfl (fun _ h => by cases h; exact ⟨_, rfl⟩) nofun nofun (fun _ => rfl)) ?_
    refine JQ.nil ?_
    obtain ⟨r174, hr175, h⟩ := ob h
    refine JA.op rfl (A.call (L1 := []) Try.call38 rfl (relate_related_ok fxa_0 f173 hr175) rfl rfl) ?_
    rintro _ _ _ ⟨v180, _, rfl, ⟨⟨l176, ad177, cp178, rfl, rfl, rfl⟩, rfl⟩, _, rfl⟩
    refine ⟨fun w hs => Hold.sub (Hp.le_refl _) ⟨1, rfl, 1, rfl, 1, rfl, 1, rfl, trivial⟩ hs, ?_⟩
    refine JM.wit Row.hn (fun hn179 => ?_)
    refine JM.nil ?_
    refine JQ.nil ?_
    obtain ⟨z184, hz185, h⟩ := ob h
    refine J.front 1 rfl ?_
    refine J.op rfl (A.appR (Kr := Hp.nil) Try.underlying27 inf60 rfl rfl (by decide) (by decide) rfl rfl (Els.flat rfl) (Els.flat rfl) hz185) ?_
    rintro _ _ _ ⟨v186, rfl, rfl, rfl⟩
    refine J.wit Row.form ?_
    rintro ⟨ad187, cp188, rfl, _, _, hn189⟩
    refine J.val (v := .slice ad187 z184.length cp188) rfl rfl (V.as rfl) ?_
    refine J.val (v := .int .i64 0) rfl rfl (V.as rfl) ?_
    refine J.nil ?_
    refine CJ.ret ?_
    have e := Option.some.inj h
    subst e
    exact ⟨_, [Row Hp.nil 60 (.cons (.int .i64) (.cons (.int .i64) (.cons (.int .i64) (.cons (.int .i64) (.one .bool))))) (.slice ad187 z184.length cp188) z184], Res.two rfl rfl rfl, ⟨z184, 0, ad187, cp188, rfl, rfl, rfl⟩, (Hp.le_refl _), fun w hs => (Sep.dropAt 1 rfl (Sep.dropAt 1 rfl (Sep.dropAt 1 rfl hs)))⟩

noncomputable def fn_relate_mayBorrowAgain_1 (xa : (Int × Bool)) : Option Bool :=
  some (!xa.2)
set_option maxRecDepth 100000 in
set_option maxHeartbeats 4000000 in
theorem relate_mayBorrowAgain_1_ok {K : Hp} {xa : (Int × Bool)}   {r : Bool} (h : fn_relate_mayBorrowAgain_1 xa = some r) :
    Tr Try.prog 52 #[.agg #[.int .i64 xa.1, .bool xa.2]] K [] (fun v K' L' => (∃ (t2 : Bool), t2 = r ∧ .bool t2 = v ∧ L' = []) ∧ K = K') := by
  refine Tr.k ?_
  refine Tr.of Try.func52 rfl Try.ntmps52 rfl (fun E F => ?_)
  unfold fn_relate_mayBorrowAgain_1 at h
  refine CJ.seq ?_
  refine CJ.region ?_
  refine J.op rfl (A.box (v := .agg #[.int .i64 xa.1, .bool xa.2]) (cs := [.int .i64 xa.1, .bool xa.2]) rfl rfl) ?_
  rintro _ _ _ ⟨b3, rfl, rfl, rfl⟩
  refine J.val (v := .bool false) rfl rfl (V.as rfl) ?_
  refine J.nil ?_
  refine CJ.seq ?_
  refine CJ.region ?_
  refine J.val rfl rfl (V.fad Try.underlying74 rfl nz4 rfl) ?_
  refine J.val (v := .bool xa.2) rfl rfl (V.ld rfl (Ld.sc sc4 (Rd.cl 0 rfl rfl))) ?_
  refine J.val (v := .bool (!xa.2)) rfl rfl (V.not rfl) ?_
  refine J.val (v := .bool (!xa.2)) rfl rfl (V.as rfl) ?_
  refine J.nil ?_
  refine CJ.ret ?_
  have e := Option.some.inj h
  subst e
  exact ⟨_, [], Res.one rfl rfl, ⟨!xa.2, rfl, rfl, rfl⟩, (Hp.le_refl _), fun w hs => (Sep.dropAt 0 rfl hs)⟩
noncomputable def fn_slices_IndexFunc_api_Slot_api_Slot_k_relate_mayBorrowAgain_1_l1 (xa : (List (Int × Bool))) : Int → Option (Int ⊕ (Unit ⊕ Int)) := fun (i201 : Int) => cond (decide (i201 < (((xa.length : Nat) : Int)))) ((getI xa i201).bind fun x225 => (fn_relate_mayBorrowAgain_1 (x225.1, x225.2)).bind fun t236 => cond (t236) (some (.inr ((.inr (i201))))) (some (.inl (IntKind.wrap .i64 (i201 + 1))))) (some (.inr ((.inl ()))))
noncomputable def fn_slices_IndexFunc_api_Slot_api_Slot_k_relate_mayBorrowAgain_1 (xa : (List (Int × Bool))) : Option Int :=
  (loop (fn_slices_IndexFunc_api_Slot_api_Slot_k_relate_mayBorrowAgain_1_l1 xa) 0 : Option (Unit ⊕ Int)).bind fun o => match o with | .inr r => some r | .inl () => some ((-1))
set_option maxRecDepth 100000 in
set_option maxHeartbeats 4000000 in
theorem slices_IndexFunc_api_Slot_api_Slot_k_relate_mayBorrowAgain_1_ok {K : Hp} {xa : (List (Int × Bool))} {adxa_0 : Option Addr} {cpxa_0 : Nat} (fxa_0 : Is K (.sl (.cons (.int .i64) (.one .bool))) [.slice adxa_0 xa.length cpxa_0] xa) {r : Int} (h : fn_slices_IndexFunc_api_Slot_api_Slot_k_relate_mayBorrowAgain_1 xa = some r) :
    Tr Try.prog 54 #[.slice adxa_0 xa.length cpxa_0, .func (.func 52) #[] #[]] K [] (fun v K' L' => (∃ (i122 : Int), i122 = r ∧ .int .i64 i122 = v ∧ L' = []) ∧ K = K') := by
  refine Tr.k ?_
  refine Tr.of Try.func54 rfl Try.ntmps54 rfl (fun E F => ?_)
  unfold fn_slices_IndexFunc_api_Slot_api_Slot_k_relate_mayBorrowAgain_1 at h
  refine CJ.seq ?_
  refine CJ.region ?_
  refine J.val (v := .int .i64 0) rfl rfl (V.as rfl) ?_
  refine J.nil ?_
  refine CJ.seq ?_
  refine CJ.seq ?_
  refine CJ.region ?_
  refine J.val (v := .slice adxa_0 xa.length cpxa_0) rfl rfl (V.mv rfl) ?_
  refine J.val (v := .int .i64 (((xa.length : Nat) : Int))) rfl rfl (V.len Try.underlying45 rfl) ?_
  refine J.val (v := .int .i64 0) rfl rfl (V.mv rfl) ?_
  refine J.nil ?_
  obtain ⟨o181, ho182, h⟩ := ob h
  refine CJ.joinN (o := o181) (fun s ρ K' L' => () = s ∧ Fits [] ρ ∧ K = K' ∧ F = L') ?_ ?_
  · skip
    refine CJ.block ?_
    refine CJ.loop (fun s ρ K' L' => ∃ (i201 : Int), i201 = s ∧ Fits [(0, .slice adxa_0 xa.length cpxa_0), (1, .func (.func 52) #[] #[]), (7, .int .i64 (((xa.length : Nat) : Int))), (8, .int .i64 i201)] ρ ∧ K = K' ∧ F = L') ho182 ⟨0, rfl, ⟨rfl, rfl, rfl, rfl, trivial⟩, rfl, rfl⟩ ?_
    rintro s ρ _ _ r223 ⟨i201, rfl, hf221, rfl, rfl⟩ h220
    obtain ⟨ρ, rfl⟩ := hf221.ex
    refine CJ.seq ?_
    refine CJ.region ?_
    refine J.val (v := .bool (decide (i201 < (((xa.length : Nat) : Int))))) rfl rfl (V.lss rfl rfl) ?_
    refine J.nil ?_
    refine CJ.seq ?_
    refine CJ.cond rfl (fun hc224 => ?_) (fun hc224 => ?_)
    · have h220 := ct hc224 h220
      refine CJ.skip ?_
      refine CJ.seq ?_
      refine CJ.block ?_
      refine CJ.seq ?_
      refine CJ.region ?_
      refine J.val (v := .int .i64 i201) rfl rfl (V.mv rfl) ?_
      refine J.val (v := .int .i64 i201) rfl rfl (V.as rfl) ?_
      refine J.nil ?_
      refine CJ.seq ?_
      refine CJ.region ?_
      refine J.val (v := .func (.func 52) #[] #[]) rfl rfl (V.mv rfl) ?_
      refine J.val (v := .slice adxa_0 xa.length cpxa_0) rfl rfl (V.mv rfl) ?_
      refine J.val (v := .int .i64 i201) rfl rfl (V.mv rfl) ?_
      obtain ⟨x225, hx226, h220⟩ := ob h220
      obtain ⟨p227, p228, p229⟩ := getI_some hx226
      obtain ⟨b230, o231, e232, a233⟩ := (fxa_0).at p228
      refine J.val rfl rfl (V.iad Try.underlying45 sz74 rfl e232 rfl p227 p229) ?_
      refine J.val (v := .agg #[.int .i64 x225.1, .bool x225.2]) rfl rfl (V.ld rfl (Ld.aggK (cs := [.int .i64 x225.1, .bool x225.2]) Try.underlying74 sz74 rfl ⟨((a233).fst).int, (((a233).snd).one).bool, trivial⟩ (Hp.le_refl _))) ?_
      obtain ⟨r234, hr235, h220⟩ := ob h220
      refine J.op rfl (A.call (L1 := []) Try.call52 rfl (relate_mayBorrowAgain_1_ok hr235) rfl rfl) ?_
      rintro _ _ _ ⟨v237, _, rfl, ⟨⟨t236, rfl, rfl, rfl⟩, rfl⟩, _, rfl⟩
      refine J.nil ?_
      refine CJ.cond rfl (fun hc240 => ?_) (fun hc240 => ?_)
      · have h220 := ct hc240 h220
        refine CJ.seq ?_
        refine CJ.region ?_
        refine J.val (v := .int .i64 i201) rfl rfl (V.mv rfl) ?_
        refine J.val (v := .int .i64 i201) rfl rfl (V.as rfl) ?_
        refine J.nil ?_
        refine CJ.ret ?_
        have e := Option.some.inj h220
        subst e
        refine ⟨nofun, fun e => ?_⟩
        subst e
        refine .inr ⟨nofun, ?_⟩
        have e := Option.some.inj h
        subst e
        exact ⟨_, [], Res.one rfl rfl, ⟨i201, rfl, rfl, rfl⟩, (Hp.le_refl _), fun w hs => hs⟩
      · have h220 := cf hc240 h220
        refine CJ.skip ?_
        refine CJ.region ?_
        refine J.val (v := .int .i64 (IntKind.wrap .i64 (i201 + 1))) rfl rfl (V.add rfl rfl) ?_
        refine J.val (v := .int .i64 (IntKind.wrap .i64 (i201 + 1))) rfl rfl (V.mv rfl) ?_
        refine J.nil ?_
        have e := Option.some.inj h220
        subst e
        exact ⟨rfl, ⟨IntKind.wrap .i64 (i201 + 1), rfl, ⟨rfl, rfl, rfl, rfl, trivial⟩, rfl, rfl⟩⟩
    · have h220 := cf hc224 h220
      refine CJ.exit ?_
      have e := Option.some.inj h220
      subst e
      refine ⟨nofun, fun e => ?_⟩
      subst e
      exact .inl ⟨rfl, _, rfl, ⟨rfl, trivial, rfl, rfl⟩⟩
  · rintro s ρ _ _ ho241 ⟨rfl, hf242, rfl, rfl⟩
    subst ho241
    obtain ⟨ρ, rfl⟩ := hf242.ex
    refine PJ.done ?_
    refine CJ.seq ?_
    refine CJ.region ?_
    refine J.val (v := .int .i64 (-1)) rfl rfl (V.as rfl) ?_
    refine J.nil ?_
    refine CJ.ret ?_
    have e := Option.some.inj h
    subst e
    exact ⟨_, [], Res.one rfl rfl, ⟨(-1), rfl, rfl, rfl⟩, (Hp.le_refl _), fun w hs => hs⟩

noncomputable def fn_slices_ContainsFunc_api_Slot_api_Slot_k_relate_mayBorrowAgain_1 (xa : (List (Int × Bool))) : Option Bool :=
  (fn_slices_IndexFunc_api_Slot_api_Slot_k_relate_mayBorrowAgain_1 xa).bind fun i10 => some (decide (0 ≤ i10))
set_option maxRecDepth 100000 in
set_option maxHeartbeats 4000000 in
theorem slices_ContainsFunc_api_Slot_api_Slot_k_relate_mayBorrowAgain_1_ok {K : Hp} {xa : (List (Int × Bool))} {adxa_0 : Option Addr} {cpxa_0 : Nat} (fxa_0 : Is K (.sl (.cons (.int .i64) (.one .bool))) [.slice adxa_0 xa.length cpxa_0] xa) {r : Bool} (h : fn_slices_ContainsFunc_api_Slot_api_Slot_k_relate_mayBorrowAgain_1 xa = some r) :
    Tr Try.prog 51 #[.slice adxa_0 xa.length cpxa_0, .func (.func 52) #[] #[]] K [] (fun v K' L' => (∃ (t7 : Bool), t7 = r ∧ .bool t7 = v ∧ L' = []) ∧ K = K') := by
  refine Tr.k ?_
  refine Tr.of Try.func51 rfl Try.ntmps51 rfl (fun E F => ?_)
  unfold fn_slices_ContainsFunc_api_Slot_api_Slot_k_relate_mayBorrowAgain_1 at h
  refine CJ.seq ?_
  refine CJ.region ?_
  refine J.val (v := .bool false) rfl rfl (V.as rfl) ?_
  refine J.nil ?_
  refine CJ.seq ?_
  refine CJ.region ?_
  refine J.val (v := .slice adxa_0 xa.length cpxa_0) rfl rfl (V.mv rfl) ?_
  refine J.val (v := .func (.func 52) #[] #[]) rfl rfl (V.mv rfl) ?_
  obtain ⟨r8, hr9, h⟩ := ob h
  refine J.op rfl (A.call (L1 := []) Try.call54 rfl (slices_IndexFunc_api_Slot_api_Slot_k_relate_mayBorrowAgain_1_ok fxa_0 hr9) rfl rfl) ?_
  rintro _ _ _ ⟨v11, _, rfl, ⟨⟨i10, rfl, rfl, rfl⟩, rfl⟩, _, rfl⟩
  refine J.val (v := .bool (decide (0 ≤ i10))) rfl rfl (V.geq rfl rfl) ?_
  refine J.val (v := .bool (decide (0 ≤ i10))) rfl rfl (V.as rfl) ?_
  refine J.nil ?_
  refine CJ.ret ?_
  have e := Option.some.inj h
  subst e
  exact ⟨_, [], Res.one rfl rfl, ⟨decide (0 ≤ i10), rfl, rfl, rfl⟩, (Hp.le_refl _), fun w hs => hs⟩

noncomputable def fn_relate_mayBorrowAgain (xa : (List (Int × Bool))) (xb : (List (Int × Bool))) (xc : Bool) : Option Bool :=
  (cond (decide ((((xa.length : Nat) : Int)) = 0)) (some (true)) ((getI xa 0).bind fun x73 => some (x73.2))).bind fun t70 => (cond (t70) (some (true)) ((fn_row_Shape xa xb).bind fun t94 => some (!t94))).bind fun t89 => cond (t89) (some (false)) ((subL xa 1 (((xa.length : Nat) : Int))).bind fun y99 => (fn_slices_ContainsFunc_api_Slot_api_Slot_k_relate_mayBorrowAgain_1 y99).bind fun t107 => some ((!xc) || (!t107)))
set_option maxRecDepth 100000 in
set_option maxHeartbeats 4000000 in
theorem relate_mayBorrowAgain_ok {K : Hp} {xa : (List (Int × Bool))} {xb : (List (Int × Bool))} {xc : Bool} {adxa_0 : Option Addr} {cpxa_0 : Nat} {adxb_0 : Option Addr} {cpxb_0 : Nat} (fxa_0 : Is K (.sl (.cons (.int .i64) (.one .bool))) [.slice adxa_0 xa.length cpxa_0] xa) (fxb_0 : Is K (.sl (.cons (.int .i64) (.one .bool))) [.slice adxb_0 xb.length cpxb_0] xb) {r : Bool} (h : fn_relate_mayBorrowAgain xa xb xc = some r) :
    Tr Try.prog 40 #[.agg #[.slice adxa_0 xa.length cpxa_0], .agg #[.slice adxb_0 xb.length cpxb_0], .bool xc] K [] (fun v K' L' => (∃ (t57 : Bool), t57 = r ∧ .bool t57 = v ∧ L' = []) ∧ K = K') := by
  refine Tr.k ?_
  refine Tr.of Try.func40 rfl Try.ntmps40 rfl (fun E F => ?_)
  unfold fn_relate_mayBorrowAgain at h
  refine CJ.seq ?_
  refine CJ.region ?_
  refine J.op rfl (A.box (v := .agg #[.slice adxa_0 xa.length cpxa_0]) (cs := [.slice adxa_0 xa.length cpxa_0]) rfl rfl) ?_
  rintro _ _ _ ⟨b58, rfl, rfl, rfl⟩
  refine J.op rfl (A.box (v := .agg #[.slice adxb_0 xb.length cpxb_0]) (cs := [.slice adxb_0 xb.length cpxb_0]) rfl rfl) ?_
  rintro _ _ _ ⟨b59, rfl, rfl, rfl⟩
  refine J.val (v := .bool false) rfl rfl (V.as rfl) ?_
  refine J.nil ?_
  refine CJ.seq ?_
  refine CJ.seq ?_
  refine CJ.region ?_
  refine J.val rfl rfl (V.fad Try.underlying47 rfl nz45 rfl) ?_
  refine J.val (v := .slice adxa_0 xa.length cpxa_0) rfl rfl (V.ld rfl (Ld.sc sc45 (Rd.cl 1 rfl rfl))) ?_
  refine J.val (v := .int .i64 (((xa.length : Nat) : Int))) rfl rfl (V.len Try.underlying45 rfl) ?_
  refine J.val (v := .bool (decide ((((xa.length : Nat) : Int)) = 0))) rfl rfl (V.eql rfl rfl) ?_
  refine J.val (v := .bool (decide ((((xa.length : Nat) : Int)) = 0))) rfl rfl (V.mv rfl) ?_
  refine J.cut 6 ?_
  obtain ⟨t70, ht71, h⟩ := ob h
  refine @J.meet _ _ _ _ _ _ _ _ _ _ (fun ρ K' L' => Fits [(18, .bool t70), (2, .bool xc), (3, .pointer (some ⟨b58, 0, none⟩)), (4, .pointer (some ⟨b59, 0, none⟩))] ρ ∧ K = K' ∧ L' = Cl b59 47 [.slice adxb_0 xb.length cpxb_0] :: Cl b58 47 [.slice adxa_0 xa.length cpxa_0] :: F) ?_ ?_
  · skip
    rcases bt (decide ((((xa.length : Nat) : Int)) = 0)) with hc72 | hc72
    · have ht71 := ct hc72 ht71
      refine J.skip rfl rfl rfl rfl hc72 ?_
      refine J.skip rfl rfl rfl rfl hc72 ?_
      refine J.skip rfl rfl rfl rfl hc72 ?_
      refine J.skip rfl rfl rfl rfl hc72 ?_
      refine J.skip rfl rfl rfl rfl hc72 ?_
      refine J.val (v := .bool true) rfl rfl (V.pickT rfl hc72 rfl) ?_
      refine J.nil ?_
      have e := Option.some.inj ht71
      subst e
      exact ⟨rfl, ⟨rfl, rfl, rfl, rfl, trivial⟩, rfl, rfl⟩
    · have ht71 := cf hc72 ht71
      refine J.run rfl rfl rfl hc72 ?_
      refine J.val rfl rfl (V.fad Try.underlying47 rfl nz45 rfl) ?_
      refine J.run rfl rfl rfl hc72 ?_
      refine J.val (v := .slice adxa_0 xa.length cpxa_0) rfl rfl (V.ld rfl (Ld.sc sc45 (Rd.cl 1 rfl rfl))) ?_
      refine J.run rfl rfl rfl hc72 ?_
      obtain ⟨x73, hx74, ht71⟩ := ob ht71
      obtain ⟨p75, p76, p77⟩ := getI_some hx74
      obtain ⟨b78, o79, e80, a81⟩ := (fxa_0).at p76
      refine J.val rfl rfl (V.iad Try.underlying45 sz74 rfl e80 rfl p75 p77) ?_
      refine J.run rfl rfl rfl hc72 ?_
      refine J.val rfl rfl (V.fad Try.underlying74 rfl nz4 rfl) ?_
      refine J.run rfl rfl rfl hc72 ?_
      refine J.val (v := .bool x73.2) rfl rfl (V.ld rfl (Ld.sc sc4 (Rd.k (((a81).snd).one).bool (Hp.le_refl _)))) ?_
      refine J.val (v := .bool x73.2) rfl rfl (V.pickF rfl hc72 rfl) ?_
      refine J.nil ?_
      have e := Option.some.inj ht71
      subst e
      exact ⟨rfl, ⟨rfl, rfl, rfl, rfl, trivial⟩, rfl, rfl⟩
  · rintro ρ _ _ ⟨hf, rfl, rfl⟩
    obtain ⟨ρ, rfl⟩ := hf.ex
    refine J.val (v := .bool t70) rfl rfl (V.mv rfl) ?_
    refine J.cut 5 ?_
    obtain ⟨t89, ht90, h⟩ := ob h
    refine @J.meet _ _ _ _ _ _ _ _ _ _ (fun ρ K' L' => Fits [(24, .bool t89), (2, .bool xc), (3, .pointer (some ⟨b58, 0, none⟩))] ρ ∧ K = K' ∧ L' = Cl b59 47 [.slice adxb_0 xb.length cpxb_0] :: Cl b58 47 [.slice adxa_0 xa.length cpxa_0] :: F) ?_ ?_
    · skip
      rcases bt (t70) with hc91 | hc91
      · have ht90 := ct hc91 ht90
        refine J.skip rfl rfl rfl rfl hc91 ?_
        refine J.skip rfl rfl rfl rfl hc91 ?_
        refine J.skip rfl rfl rfl rfl hc91 ?_
        refine J.skip rfl rfl rfl rfl hc91 ?_
        refine J.val (v := .bool true) rfl rfl (V.pickT rfl hc91 rfl) ?_
        refine J.nil ?_
        have e := Option.some.inj ht90
        subst e
        exact ⟨rfl, ⟨rfl, rfl, rfl, trivial⟩, rfl, rfl⟩
      · have ht90 := cf hc91 ht90
        refine J.run rfl rfl rfl hc91 ?_
        refine J.val (v := .agg #[.slice adxa_0 xa.length cpxa_0]) rfl rfl (V.ld rfl (Ld.agg (cs := [.slice adxa_0 xa.length cpxa_0]) Try.underlying47 sz47 rfl (Rd.cls 1 0 rfl rfl))) ?_
        refine J.run rfl rfl rfl hc91 ?_
        refine J.val (v := .agg #[.slice adxb_0 xb.length cpxb_0]) rfl rfl (V.ld rfl (Ld.agg (cs := [.slice adxb_0 xb.length cpxb_0]) Try.underlying47 sz47 rfl (Rd.cls 0 0 rfl rfl))) ?_
        refine J.run rfl rfl rfl hc91 ?_
        obtain ⟨r92, hr93, ht90⟩ := ob ht90
        refine J.op rfl (A.call (L1 := []) Try.call37 rfl (row_Shape_ok fxa_0 fxb_0 hr93) rfl rfl) ?_
        rintro _ _ _ ⟨v95, _, rfl, ⟨⟨t94, rfl, rfl, rfl⟩, rfl⟩, _, rfl⟩
        refine J.run rfl rfl rfl hc91 ?_
        refine J.val (v := .bool (!t94)) rfl rfl (V.not rfl) ?_
        refine J.val (v := .bool (!t94)) rfl rfl (V.pickF rfl hc91 rfl) ?_
        refine J.nil ?_
        have e := Option.some.inj ht90
        subst e
        exact ⟨rfl, ⟨rfl, rfl, rfl, trivial⟩, rfl, rfl⟩
    · rintro ρ _ _ ⟨hf, rfl, rfl⟩
      obtain ⟨ρ, rfl⟩ := hf.ex
      refine J.nil ?_
      refine CJ.cond rfl (fun hc98 => ?_) (fun hc98 => ?_)
      · have h := ct hc98 h
        refine CJ.seq ?_
        refine CJ.region ?_
        refine J.val (v := .bool false) rfl rfl (V.as rfl) ?_
        refine J.nil ?_
        refine CJ.ret ?_
        have e := Option.some.inj h
        subst e
        exact ⟨_, [], Res.one rfl rfl, ⟨false, rfl, rfl, rfl⟩, (Hp.le_refl _), fun w hs => (Sep.dropAt 0 rfl (Sep.dropAt 0 rfl hs))⟩
      · have h := cf hc98 h
        refine CJ.skip ?_
        refine CJ.seq ?_
        refine CJ.region ?_
        refine J.val rfl rfl (V.fad Try.underlying47 rfl nz45 rfl) ?_
        refine J.val (v := .slice adxa_0 xa.length cpxa_0) rfl rfl (V.ld rfl (Ld.sc sc45 (Rd.cl 1 rfl rfl))) ?_
        obtain ⟨y99, hy100, h⟩ := ob h
        obtain ⟨ad101, cp102, hv103, f104⟩ := V.subI (tp := (.cons (.int .i64) (.one .bool))) Try.underlying45 sz74 fxa_0 hy100
        refine J.val (v := .slice ad101 y99.length cp102) rfl rfl (hv103 rfl (fun _ h => by cases h; exact ⟨_, rfl⟩) nofun nofun (fun _ => rfl)) ?_
        obtain ⟨r105, hr106, h⟩ := ob h
        refine J.op rfl (A.call (L1 := []) Try.call51 rfl (slices_ContainsFunc_api_Slot_api_Slot_k_relate_mayBorrowAgain_1_ok f104 hr106) rfl rfl) ?_
        rintro _ _ _ ⟨v108, _, rfl, ⟨⟨t107, rfl, rfl, rfl⟩, rfl⟩, _, rfl⟩
        refine J.val (v := .bool t107) rfl rfl (V.as rfl) ?_
        refine J.nil ?_
        refine CJ.seq ?_
        refine CJ.region ?_
        refine J.val (v := .bool xc) rfl rfl (V.mv rfl) ?_
        refine J.val (v := .bool (!xc)) rfl rfl (V.not rfl) ?_
        refine J.val (v := .bool (!xc)) rfl rfl (V.mv rfl) ?_
        refine J.cut 3 ?_
        refine @J.meet _ _ _ _ _ _ _ _ _ _ (fun ρ K' L' => Fits [(34, .bool ((!xc) || (!t107)))] ρ ∧ K = K' ∧ L' = Cl b59 47 [.slice adxb_0 xb.length cpxb_0] :: Cl b58 47 [.slice adxa_0 xa.length cpxa_0] :: F) ?_ ?_
        · skip
          rcases bt (!xc) with hc113 | hc113
          · skip
            refine J.skip rfl rfl rfl rfl hc113 ?_
            refine J.skip rfl rfl rfl rfl hc113 ?_
            refine J.val (v := .bool true) rfl rfl (V.pickT rfl hc113 rfl) ?_
            refine J.nil ?_
            exact ⟨rfl, ⟨(by simp only [hc113]; rfl), trivial⟩, rfl, rfl⟩
          · skip
            refine J.run rfl rfl rfl hc113 ?_
            refine J.val (v := .bool t107) rfl rfl (V.mv rfl) ?_
            refine J.run rfl rfl rfl hc113 ?_
            refine J.val (v := .bool (!t107)) rfl rfl (V.not rfl) ?_
            refine J.val (v := .bool (!t107)) rfl rfl (V.pickF rfl hc113 rfl) ?_
            refine J.nil ?_
            exact ⟨rfl, ⟨(by simp only [hc113]; rfl), trivial⟩, rfl, rfl⟩
        · rintro ρ _ _ ⟨hf, rfl, rfl⟩
          obtain ⟨ρ, rfl⟩ := hf.ex
          refine J.val (v := .bool ((!xc) || (!t107))) rfl rfl (V.as rfl) ?_
          refine J.nil ?_
          refine CJ.ret ?_
          have e := Option.some.inj h
          subst e
          exact ⟨_, [], Res.one rfl rfl, ⟨(!xc) || (!t107), rfl, rfl, rfl⟩, (Hp.le_refl _), fun w hs => (Sep.dropAt 0 rfl (Sep.dropAt 0 rfl hs))⟩

noncomputable def fn_relate_Again (xa : (List (Int × Bool))) (xb : (List (Int × Bool))) (xc : Int) (xd : Bool) : Option (((List (Int × Int × Int × Int × Bool)) × Int)) :=
  (fn_relate_mayBorrowAgain xa xb xd).bind fun t112 => cond (!t112) (some (([], 8))) ((getI xa 0).bind fun x139 => (getI xb 0).bind fun x148 => (subL xa 1 (((xa.length : Nat) : Int))).bind fun y182 => (subL xb 1 (((xb.length : Nat) : Int))).bind fun y188 => (fn_relate_related y182 y188 1 1).bind fun l196 => (app (([(x139.1, xc, 3, 0, false), (xc, x148.1, 2, 0, false)] : List (Int × Int × Int × Int × Bool))) l196).bind fun z204 => some ((z204, 0)))
set_option maxRecDepth 100000 in
set_option maxHeartbeats 4000000 in
theorem relate_Again_ok {K : Hp} {xa : (List (Int × Bool))} {xb : (List (Int × Bool))} {xc : Int} {xd : Bool} {adxa_0 : Option Addr} {cpxa_0 : Nat} {adxb_0 : Option Addr} {cpxb_0 : Nat} (fxa_0 : Is K (.sl (.cons (.int .i64) (.one .bool))) [.slice adxa_0 xa.length cpxa_0] xa) (fxb_0 : Is K (.sl (.cons (.int .i64) (.one .bool))) [.slice adxb_0 xb.length cpxb_0] xb) {r : ((List (Int × Int × Int × Int × Bool)) × Int)} (h : fn_relate_Again xa xb xc xd = some r) :
    Tr Try.prog 22 #[.agg #[.slice adxa_0 xa.length cpxa_0], .agg #[.slice adxb_0 xb.length cpxb_0], .int .i64 xc, .bool xd] K [] (fun v K' L' => (∃ (l102 : (List (Int × Int × Int × Int × Bool))) (i107 : Int) (ad103 : Option Addr) (cp104 : Nat), (l102, i107) = r ∧ .tuple #[.slice ad103 l102.length cp104, .int .i64 i107] = v ∧ L' = [Row Hp.nil 60 (.cons (.int .i64) (.cons (.int .i64) (.cons (.int .i64) (.cons (.int .i64) (.one .bool))))) (.slice ad103 l102.length cp104) l102]) ∧ K = K') := by
  refine Tr.k ?_
  refine Tr.of Try.func22 rfl Try.ntmps22 rfl (fun E F => ?_)
  unfold fn_relate_Again at h
  refine CJ.seq ?_
  refine CJ.region ?_
  refine J.op rfl (A.box (v := .agg #[.slice adxa_0 xa.length cpxa_0]) (cs := [.slice adxa_0 xa.length cpxa_0]) rfl rfl) ?_
  rintro _ _ _ ⟨b108, rfl, rfl, rfl⟩
  refine J.op rfl (A.box (v := .agg #[.slice adxb_0 xb.length cpxb_0]) (cs := [.slice adxb_0 xb.length cpxb_0]) rfl rfl) ?_
  rintro _ _ _ ⟨b109, rfl, rfl, rfl⟩
  refine J.val (v := .slice none 0 0) rfl rfl (V.as rfl) ?_
  refine J.val (v := .int .i64 0) rfl rfl (V.as rfl) ?_
  refine J.nil ?_
  refine CJ.seq ?_
  refine CJ.seq ?_
  refine CJ.region ?_
  refine J.val (v := .agg #[.slice adxa_0 xa.length cpxa_0]) rfl rfl (V.ld rfl (Ld.agg (cs := [.slice adxa_0 xa.length cpxa_0]) Try.underlying47 sz47 rfl (Rd.cls 1 0 rfl rfl))) ?_
  refine J.val (v := .agg #[.slice adxb_0 xb.length cpxb_0]) rfl rfl (V.ld rfl (Ld.agg (cs := [.slice adxb_0 xb.length cpxb_0]) Try.underlying47 sz47 rfl (Rd.cls 0 0 rfl rfl))) ?_
  refine J.val (v := .bool xd) rfl rfl (V.mv rfl) ?_
  obtain ⟨r110, hr111, h⟩ := ob h
  refine J.op rfl (A.call (L1 := []) Try.call40 rfl (relate_mayBorrowAgain_ok fxa_0 fxb_0 hr111) rfl rfl) ?_
  rintro _ _ _ ⟨v113, _, rfl, ⟨⟨t112, rfl, rfl, rfl⟩, rfl⟩, _, rfl⟩
  refine J.val (v := .bool (!t112)) rfl rfl (V.not rfl) ?_
  refine J.nil ?_
  refine CJ.cond rfl (fun hc116 => ?_) (fun hc116 => ?_)
  · have h := ct hc116 h
    refine CJ.seq ?_
    refine CJ.region ?_
    refine J.val (v := .slice none 0 0) rfl rfl (V.as rfl) ?_
    refine J.val (v := .int .i64 8) rfl rfl (V.as rfl) ?_
    refine J.nil ?_
    refine CJ.by (fun w hs => Sep.rowNil (e := 60) (t := (.cons (.int .i64) (.cons (.int .i64) (.cons (.int .i64) (.cons (.int .i64) (.one .bool)))))) hs) ?_
    refine CJ.ret ?_
    have e := Option.some.inj h
    subst e
    exact ⟨_, [Row Hp.nil 60 (.cons (.int .i64) (.cons (.int .i64) (.cons (.int .i64) (.cons (.int .i64) (.one .bool))))) (.slice none ((([] : List (Int × Int × Int × Int × Bool))).length) 0) (([] : List (Int × Int × Int × Int × Bool)))], Res.two rfl rfl rfl, ⟨[], 8, none, 0, rfl, rfl, rfl⟩, (Hp.le_refl _), fun w hs => (Sep.dropAt 1 rfl (Sep.dropAt 1 rfl hs))⟩
  · have h := cf hc116 h
    refine CJ.skip ?_
    refine CJ.seq ?_
    refine CJ.mix [Cl b109 47 [.slice adxb_0 xb.length cpxb_0], Cl b108 47 [.slice adxa_0 xa.length cpxa_0]] [([0, 1, 2, 3, 4, 5, 6, 7, 8, 9, 10, 11, 12, 13], 14)] [15] [] mixO (by decide +kernel) ⟨0, rfl, 0, rfl, trivial⟩ rfl rfl rfl ?_
    refine JM.cons ?_
    refine JQ.val rfl rfl (V.fad Try.underlying47 rfl nz45 rfl) ?_
    refine JQ.val (v := .slice adxa_0 xa.length cpxa_0) rfl rfl (V.ld rfl (Ld.sc sc45 (Rd.cl 1 rfl rfl))) ?_
    obtain ⟨x139, hx140, h⟩ := ob h
    obtain ⟨p141, p142, p143⟩ := getI_some hx140
    obtain ⟨b144, o145, e146, a147⟩ := (fxa_0).at p142
    refine JQ.val rfl rfl (V.iad Try.underlying45 sz74 rfl e146 rfl p141 p143) ?_
    refine JQ.val rfl rfl (V.fad Try.underlying74 rfl nz3 rfl) ?_
    refine JQ.val (v := .int .i64 x139.1) rfl rfl (V.ld rfl (Ld.sc sc3 (Rd.k ((a147).fst).int (Hp.le_refl _)))) ?_
    refine JQ.val (v := .int .i64 xc) rfl rfl (V.mv rfl) ?_
    refine JQ.val (v := .agg #[.int .i64 x139.1, .int .i64 xc, .int .i64 3, .int .i64 0, .bool false]) rfl rfl (V.build inf60 places60 rfl rfl) ?_
    refine JQ.val (v := .int .i64 xc) rfl rfl (V.mv rfl) ?_
    refine JQ.val rfl rfl (V.fad Try.underlying47 rfl nz45 rfl) ?_
    refine JQ.val (v := .slice adxb_0 xb.length cpxb_0) rfl rfl (V.ld rfl (Ld.sc sc45 (Rd.cl 0 rfl rfl))) ?_
    obtain ⟨x148, hx149, h⟩ := ob h
    obtain ⟨p150, p151, p152⟩ := getI_some hx149
    obtain ⟨b153, o154, e155, a156⟩ := (fxb_0).at p151
    refine JQ.val rfl rfl (V.iad Try.underlying45 sz74 rfl e155 rfl p150 p152) ?_
    refine JQ.val rfl rfl (V.fad Try.underlying74 rfl nz3 rfl) ?_
    refine JQ.val (v := .int .i64 x148.1) rfl rfl (V.ld rfl (Ld.sc sc3 (Rd.k ((a156).fst).int (Hp.le_refl _)))) ?_
    refine JQ.val (v := .agg #[.int .i64 xc, .int .i64 x148.1, .int .i64 2, .int .i64 0, .bool false]) rfl rfl (V.build inf60 places60 rfl rfl) ?_
    refine JQ.nil ?_
    refine JA.op rfl (A.lit (K0 := Hp.nil) (ty := (.cons (.int .i64) (.cons (.int .i64) (.cons (.int .i64) (.cons (.int .i64) (.one .bool)))))) (xs := ([(x139.1, xc, 3, 0, false), (xc, x148.1, 2, 0, false)] : List (Int × Int × Int × Int × Bool))) Try.underlying27 inf60 rfl (by decide) rfl rfl rfl ⟨_, _, rfl, ⟨_, _, rfl, rfl, rfl, ⟨_, _, rfl, rfl, rfl, ⟨_, _, rfl, rfl, rfl, ⟨_, _, rfl, rfl, rfl, rfl⟩⟩⟩⟩, ⟨_, _, rfl, ⟨_, _, rfl, rfl, rfl, ⟨_, _, rfl, rfl, rfl, ⟨_, _, rfl, rfl, rfl, ⟨_, _, rfl, rfl, rfl, rfl⟩⟩⟩⟩, rfl⟩⟩ rfl (by decide)) ?_
    rintro _ _ _ ⟨b157, rfl, rfl, rfl⟩
    have hn158 : ([(x139.1, xc, 3, 0, false), (xc, x148.1, 2, 0, false)] : List (Int × Int × Int × Int × Bool)) ≠ [] → ∃ g, (some ⟨b157, 0, none⟩ : Option Addr) = some ⟨g, 0, none⟩ := fun _ => ⟨b157, rfl⟩
    refine ⟨fun w hs => Hold.sub (Hp.le_refl _) ⟨1, rfl, 1, rfl, trivial⟩ hs, ?_⟩
    refine JM.nil ?_
    refine JQ.val (v := .slice (some ⟨b157, 0, none⟩) ((([(x139.1, xc, 3, 0, false), (xc, x148.1, 2, 0, false)] : List (Int × Int × Int × Int × Bool))).length) 2) rfl rfl (V.as rfl) ?_
    refine JQ.nil ?_
    refine J.nil ?_
    refine CJ.seq ?_
    refine CJ.mix [Row Hp.nil 60 (.cons (.int .i64) (.cons (.int .i64) (.cons (.int .i64) (.cons (.int .i64) (.one .bool))))) (.slice (some ⟨b157, 0, none⟩) ((([(x139.1, xc, 3, 0, false), (xc, x148.1, 2, 0, false)] : List (Int × Int × Int × Int × Bool))).length) 2) (([(x139.1, xc, 3, 0, false), (xc, x148.1, 2, 0, false)] : List (Int × Int × Int × Int × Bool))), Cl b109 47 [.slice adxb_0 xb.length cpxb_0], Cl b108 47 [.slice adxa_0 xa.length cpxa_0]] [([0, 1, 2, 3, 4, 5, 6], 7)] [] [8, 9, 10] mixO (by decide +kernel) ⟨0, rfl, 0, rfl, 0, rfl, trivial⟩ rfl rfl rfl ?_
    refine JM.cons ?_
    refine JQ.val (v := .slice (some ⟨b157, 0, none⟩) ((([(x139.1, xc, 3, 0, false), (xc, x148.1, 2, 0, false)] : List (Int × Int × Int × Int × Bool))).length) 2) rfl rfl (V.mv rfl) ?_
    refine JQ.val rfl rfl (V.fad Try.underlying47 rfl nz45 rfl) ?_
    refine JQ.val (v := .slice adxa_0 xa.length cpxa_0) rfl rfl (V.ld rfl (Ld.sc sc45 (Rd.cl 2 rfl rfl))) ?_
    obtain ⟨y182, hy183, h⟩ := ob h
    obtain ⟨ad184, cp185, hv186, f187⟩ := V.subI (tp := (.cons (.int .i64) (.one .bool))) Try.underlying45 sz74 fxa_0 hy183
    refine JQ.val (v := .slice ad184 y182.length cp185) rfl rfl (hv186 rfl (fun _ h => by cases h; exact ⟨_, rfl⟩) nofun nofun (fun _ => rfl)) ?_
    refine JQ.val rfl rfl (V.fad Try.underlying47 rfl nz45 rfl) ?_
    refine JQ.val (v := .slice adxb_0 xb.length cpxb_0) rfl rfl (V.ld rfl (Ld.sc sc45 (Rd.cl 1 rfl rfl))) ?_
    obtain ⟨y188, hy189, h⟩ := ob h
    obtain ⟨ad190, cp191, hv192, f193⟩ := V.subI (tp := (.cons (.int .i64) (.one .bool))) Try.underlying45 sz74 fxb_0 hy189
    refine JQ.val (v := .slice ad190 y188.length cp191) rfl rfl (hv192 rfl (fun _ h => by cases h; exact ⟨_, rfl⟩) nofun nofun (fun _ => rfl)) ?_
    refine JQ.nil ?_
    obtain ⟨r194, hr195, h⟩ := ob h
    refine JA.op rfl (A.call (L1 := []) Try.call38 rfl (relate_related_ok f187 f193 hr195) rfl rfl) ?_
    rintro _ _ _ ⟨v200, _, rfl, ⟨⟨l196, ad197, cp198, rfl, rfl, rfl⟩, rfl⟩, _, rfl⟩
    refine ⟨fun w hs => Hold.sub (Hp.le_refl _) ⟨1, rfl, 1, rfl, 1, rfl, trivial⟩ hs, ?_⟩
    refine JM.wit Row.hn (fun hn199 => ?_)
    refine JM.nil ?_
    refine JQ.nil ?_
    obtain ⟨z204, hz205, h⟩ := ob h
    refine J.front 1 rfl ?_
    refine J.op rfl (A.appR (Kr := Hp.nil) Try.underlying27 inf60 rfl rfl (by decide) (by decide) rfl rfl (Els.flat rfl) (Els.flat rfl) hz205) ?_
    rintro _ _ _ ⟨v206, rfl, rfl, rfl⟩
    refine J.wit Row.form ?_
    rintro ⟨ad207, cp208, rfl, _, _, hn209⟩
    refine J.val (v := .slice ad207 z204.length cp208) rfl rfl (V.as rfl) ?_
    refine J.val (v := .int .i64 0) rfl rfl (V.as rfl) ?_
    refine J.nil ?_
    refine CJ.ret ?_
    have e := Option.some.inj h
    subst e
    exact ⟨_, [Row Hp.nil 60 (.cons (.int .i64) (.cons (.int .i64) (.cons (.int .i64) (.cons (.int .i64) (.one .bool))))) (.slice ad207 z204.length cp208) z204], Res.two rfl rfl rfl, ⟨z204, 0, ad207, cp208, rfl, rfl, rfl⟩, (Hp.le_refl _), fun w hs => (Sep.dropAt 1 rfl (Sep.dropAt 1 rfl hs))⟩

noncomputable def fn_stmt_Needs (xa : (Int × Int × Int × Int × Bool)) (xb : (List (List (Int × Bool)))) (xc : Int) : Option (((List (Int × Int × Int × Int × Bool)) × Int)) :=
  (fn_stmt_form (xa.1, xa.2.1, xa.2.2.1, xa.2.2.2.1, xa.2.2.2.2)).bind fun (t324, t325, t326, i327) => cond (!decide (i327 = 0)) (some (([], i327))) ((cond (t324) ((fn_stmt_Needs_1_ip0_k xa.2.1 xb).bind fun t346 => some (!t346)) (some (false))).bind fun t341 => (cond (t341) (some (true)) ((cond (t325) ((fn_stmt_Needs_1_ip0_k xa.2.2.1 xb).bind fun t382 => some (!t382)) (some (false))).bind fun t377 => some (t377))).bind fun t367 => cond (t367 || (t326 && ((decide (xa.2.2.2.1 < 0)) || (decide (xc ≤ xa.2.2.2.1))))) (some (([], 7))) (cond (decide (xa.1 = 1)) ((getI xb xa.2.2.1).bind fun x447 => (getI xb xa.2.1).bind fun x460 => (fn_relate_Flow x447 x460 1 0).bind fun (l475, i476) => some ((l475, i476))) (cond (decide (xa.1 = 2)) ((getI xb xa.2.2.1).bind fun x522 => (getI xb xa.2.1).bind fun x535 => (fn_relate_Loan x522 x535 xa.2.2.2.1 xa.2.2.2.2).bind fun (l550, i551) => some ((l550, i551))) (cond (decide (xa.1 = 3)) ((getI xb xa.2.2.1).bind fun x597 => (getI xb xa.2.1).bind fun x610 => (fn_relate_Again x597 x610 xa.2.2.2.1 xa.2.2.2.2).bind fun (l625, i626) => some ((l625, i626))) (some (([], 0)))))))
set_option maxRecDepth 100000 in
set_option maxHeartbeats 4000000 in
theorem stmt_Needs_ok {K : Hp} {xa : (Int × Int × Int × Int × Bool)} {xb : (List (List (Int × Bool)))} {xc : Int} {adxb_0 : Option Addr} {cpxb_0 : Nat} (fxb_0 : Is K (.sl (.one (.sl (.cons (.int .i64) (.one .bool))))) [.slice adxb_0 xb.length cpxb_0] xb) {r : ((List (Int × Int × Int × Int × Bool)) × Int)} (h : fn_stmt_Needs xa xb xc = some r) :
    Tr Try.prog 8 #[.agg #[.int .i64 xa.1, .int .i64 xa.2.1, .int .i64 xa.2.2.1, .int .i64 xa.2.2.2.1, .bool xa.2.2.2.2], .slice adxb_0 xb.length cpxb_0, .int .i64 xc] K [] (fun v K' L' => (∃ (l314 : (List (Int × Int × Int × Int × Bool))) (i319 : Int) (ad315 : Option Addr) (cp316 : Nat), (l314, i319) = r ∧ .tuple #[.slice ad315 l314.length cp316, .int .i64 i319] = v ∧ L' = [Row Hp.nil 60 (.cons (.int .i64) (.cons (.int .i64) (.cons (.int .i64) (.cons (.int .i64) (.one .bool))))) (.slice ad315 l314.length cp316) l314]) ∧ K = K') := by
  refine Tr.k ?_
  refine Tr.of Try.func8 rfl Try.ntmps8 rfl (fun E F => ?_)
  unfold fn_stmt_Needs at h
  refine CJ.seq ?_
  refine CJ.region ?_
  refine J.op rfl (A.box (v := .agg #[.int .i64 xa.1, .int .i64 xa.2.1, .int .i64 xa.2.2.1, .int .i64 xa.2.2.2.1, .bool xa.2.2.2.2]) (cs := [.int .i64 xa.1, .int .i64 xa.2.1, .int .i64 xa.2.2.1, .int .i64 xa.2.2.2.1, .bool xa.2.2.2.2]) rfl rfl) ?_
  rintro _ _ _ ⟨b320, rfl, rfl, rfl⟩
  refine J.op rfl (A.box (v := .slice adxb_0 xb.length cpxb_0) (cs := [.slice adxb_0 xb.length cpxb_0]) rfl rfl) ?_
  rintro _ _ _ ⟨b321, rfl, rfl, rfl⟩
  refine J.val (v := .slice none 0 0) rfl rfl (V.as rfl) ?_
  refine J.val (v := .int .i64 0) rfl rfl (V.as rfl) ?_
  refine J.nil ?_
  refine CJ.seq ?_
  refine CJ.region ?_
  refine J.val (v := .agg #[.int .i64 xa.1, .int .i64 xa.2.1, .int .i64 xa.2.2.1, .int .i64 xa.2.2.2.1, .bool xa.2.2.2.2]) rfl rfl (V.ld rfl (Ld.agg (cs := [.int .i64 xa.1, .int .i64 xa.2.1, .int .i64 xa.2.2.1, .int .i64 xa.2.2.2.1, .bool xa.2.2.2.2]) Try.underlying23 sz23 rfl (Rd.cls 1 0 rfl rfl))) ?_
  obtain ⟨r322, hr323, h⟩ := ob h
  refine J.op rfl (A.call (L1 := []) Try.call18 rfl (stmt_form_ok hr323) rfl rfl) ?_
  rintro _ _ _ ⟨v328, _, rfl, ⟨⟨t324, t325, t326, i327, rfl, rfl, rfl⟩, rfl⟩, _, rfl⟩
  refine J.val (v := .tuple #[.agg #[.bool t324, .bool t325, .bool t326], .int .i64 i327]) rfl rfl (V.mv rfl) ?_
  refine J.val (v := .agg #[.bool t324, .bool t325, .bool t326]) rfl rfl (V.ext rfl rfl) ?_
  refine J.val (v := .int .i64 i327) rfl rfl (V.ext rfl rfl) ?_
  refine J.op rfl (A.alloc (cs := [.bool false, .bool false, .bool false]) inf49 rfl) ?_
  rintro _ _ _ ⟨b331, rfl, rfl, rfl⟩
  refine J.op rfl (A.store (v := .agg #[.bool t324, .bool t325, .bool t326]) (cs' := [.bool t324, .bool t325, .bool t326]) sz49 rfl rfl rfl rfl rfl rfl) ?_
  rintro _ _ _ ⟨rfl, rfl, rfl⟩
  refine J.val (v := .int .i64 i327) rfl rfl (V.as rfl) ?_
  refine J.nil ?_
  refine CJ.seq ?_
  refine CJ.seq ?_
  refine CJ.region ?_
  refine J.val (v := .int .i64 i327) rfl rfl (V.mv rfl) ?_
  refine J.val (v := .bool (!decide (i327 = 0))) rfl rfl (V.neq rfl rfl) ?_
  refine J.nil ?_
  refine CJ.cond rfl (fun hc332 => ?_) (fun hc332 => ?_)
  · have h := ct hc332 h
    refine CJ.seq ?_
    refine CJ.region ?_
    refine J.val (v := .int .i64 i327) rfl rfl (V.mv rfl) ?_
    refine J.val (v := .slice none 0 0) rfl rfl (V.as rfl) ?_
    refine J.val (v := .int .i64 i327) rfl rfl (V.as rfl) ?_
    refine J.nil ?_
    refine CJ.by (fun w hs => Sep.rowNil (e := 60) (t := (.cons (.int .i64) (.cons (.int .i64) (.cons (.int .i64) (.cons (.int .i64) (.one .bool)))))) hs) ?_
    refine CJ.ret ?_
    have e := Option.some.inj h
    subst e
    exact ⟨_, [Row Hp.nil 60 (.cons (.int .i64) (.cons (.int .i64) (.cons (.int .i64) (.cons (.int .i64) (.one .bool))))) (.slice none ((([] : List (Int × Int × Int × Int × Bool))).length) 0) (([] : List (Int × Int × Int × Int × Bool)))], Res.two rfl rfl rfl, ⟨[], i327, none, 0, rfl, rfl, rfl⟩, (Hp.le_refl _), fun w hs => (Sep.dropAt 1 rfl (Sep.dropAt 1 rfl (Sep.dropAt 1 rfl hs)))⟩
  · have h := cf hc332 h
    refine CJ.skip ?_
    refine CJ.seq ?_
    refine CJ.region ?_
    refine J.val (v := .func (.func 19) #[] #[.pointer (some ⟨b321, 0, none⟩)]) rfl rfl (V.mkf rfl) ?_
    refine J.val (v := .func (.func 19) #[] #[.pointer (some ⟨b321, 0, none⟩)]) rfl rfl (V.as rfl) ?_
    refine J.nil ?_
    refine CJ.seq ?_
    refine CJ.seq ?_
    refine CJ.region ?_
    refine J.val rfl rfl (V.fad Try.underlying49 rfl nz4 rfl) ?_
    refine J.val (v := .bool t324) rfl rfl (V.ld rfl (Ld.sc sc4 (Rd.cl 0 rfl rfl))) ?_
    refine J.val (v := .bool t324) rfl rfl (V.mv rfl) ?_
    refine J.cut 6 ?_
    obtain ⟨t341, ht342, h⟩ := ob h
    refine @J.meet _ _ _ _ _ _ _ _ _ _ (fun ρ K' L' => Fits [(28, .bool t341), (2, .int .i64 xc), (3, .pointer (some ⟨b320, 0, none⟩)), (4, .pointer (some ⟨b321, 0, none⟩)), (8, .pointer (some ⟨b331, 0, none⟩)), (10, .func (.func 19) #[] #[.pointer (some ⟨b321, 0, none⟩)])] ρ ∧ K = K' ∧ L' = Cl b331 49 [.bool t324, .bool t325, .bool t326] :: Cl b321 24 [.slice adxb_0 xb.length cpxb_0] :: Cl b320 23 [.int .i64 xa.1, .int .i64 xa.2.1, .int .i64 xa.2.2.1, .int .i64 xa.2.2.2.1, .bool xa.2.2.2.2] :: F) ?_ ?_
    · skip
      rcases bt (t324) with hc343 | hc343
      · have ht342 := ct hc343 ht342
        refine J.run rfl rfl rfl hc343 ?_
        refine J.val (v := .func (.func 19) #[] #[.pointer (some ⟨b321, 0, none⟩)]) rfl rfl (V.mv rfl) ?_
        refine J.run rfl rfl rfl hc343 ?_
        refine J.val rfl rfl (V.fad Try.underlying23 rfl nz3 rfl) ?_
        refine J.run rfl rfl rfl hc343 ?_
        refine J.val (v := .int .i64 xa.2.1) rfl rfl (V.ld rfl (Ld.sc sc3 (Rd.cl 2 rfl rfl))) ?_
        refine J.run rfl rfl rfl hc343 ?_
        obtain ⟨r344, hr345, ht342⟩ := ob ht342
        refine J.front 1 rfl ?_
        refine J.op rfl (A.call (L1 := [Cl b321 24 [.slice adxb_0 xb.length cpxb_0]]) Try.call19 rfl (stmt_Needs_1_ip0_k_ok fxb_0 hr345) rfl rfl) ?_
        rintro _ _ _ ⟨v347, _, rfl, ⟨⟨t346, rfl, rfl, rfl⟩, rfl⟩, _, rfl⟩
        refine J.run rfl rfl rfl hc343 ?_
        refine J.val (v := .bool (!t346)) rfl rfl (V.not rfl) ?_
        refine J.val (v := .bool (!t346)) rfl rfl (V.pickT rfl hc343 rfl) ?_
        refine J.front 2 rfl ?_
        refine J.front 1 rfl ?_
        refine J.front 2 rfl ?_
        refine J.nil ?_
        have e := Option.some.inj ht342
        subst e
        exact ⟨rfl, ⟨rfl, rfl, rfl, rfl, rfl, rfl, trivial⟩, rfl, rfl⟩
      · have ht342 := cf hc343 ht342
        refine J.skip rfl rfl rfl rfl hc343 ?_
        refine J.skip rfl rfl rfl rfl hc343 ?_
        refine J.skip rfl rfl rfl rfl hc343 ?_
        refine J.skip rfl rfl rfl rfl hc343 ?_
        refine J.skip rfl rfl rfl rfl hc343 ?_
        refine J.val (v := .bool false) rfl rfl (V.pickF rfl hc343 rfl) ?_
        refine J.nil ?_
        have e := Option.some.inj ht342
        subst e
        exact ⟨rfl, ⟨rfl, rfl, rfl, rfl, rfl, rfl, trivial⟩, rfl, rfl⟩
    · rintro ρ _ _ ⟨hf, rfl, rfl⟩
      obtain ⟨ρ, rfl⟩ := hf.ex
      refine J.val (v := .bool t341) rfl rfl (V.mv rfl) ?_
      refine J.cut 10 ?_
      obtain ⟨t367, ht368, h⟩ := ob h
      refine @J.meet _ _ _ _ _ _ _ _ _ _ (fun ρ K' L' => Fits [(39, .bool t367), (2, .int .i64 xc), (3, .pointer (some ⟨b320, 0, none⟩)), (4, .pointer (some ⟨b321, 0, none⟩)), (8, .pointer (some ⟨b331, 0, none⟩))] ρ ∧ K = K' ∧ L' = Cl b331 49 [.bool t324, .bool t325, .bool t326] :: Cl b321 24 [.slice adxb_0 xb.length cpxb_0] :: Cl b320 23 [.int .i64 xa.1, .int .i64 xa.2.1, .int .i64 xa.2.2.1, .int .i64 xa.2.2.2.1, .bool xa.2.2.2.2] :: F) ?_ ?_
      · skip
        rcases bt (t341) with hc369 | hc369
        · have ht368 := ct hc369 ht368
          refine J.skip rfl rfl rfl rfl hc369 ?_
          refine J.skip rfl rfl rfl rfl hc369 ?_
          refine J.skip rfl rfl rfl rfl hc369 ?_
          refine J.skipu rfl rfl rfl rfl ?_
          refine J.skipu rfl rfl rfl rfl ?_
          refine J.skipu rfl rfl rfl rfl ?_
          refine J.skipu rfl rfl rfl rfl ?_
          refine J.skipu rfl rfl rfl rfl ?_
          refine J.skip rfl rfl rfl rfl hc369 ?_
          refine J.val (v := .bool true) rfl rfl (V.pickT rfl hc369 rfl) ?_
          refine J.nil ?_
          have e := Option.some.inj ht368
          subst e
          exact ⟨rfl, ⟨rfl, rfl, rfl, rfl, rfl, trivial⟩, rfl, rfl⟩
        · have ht368 := cf hc369 ht368
          refine J.run rfl rfl rfl hc369 ?_
          refine J.val rfl rfl (V.fad Try.underlying49 rfl nz4 rfl) ?_
          refine J.run rfl rfl rfl hc369 ?_
          refine J.val (v := .bool t325) rfl rfl (V.ld rfl (Ld.sc sc4 (Rd.cl 0 rfl rfl))) ?_
          refine J.run rfl rfl rfl hc369 ?_
          refine J.val (v := .bool t325) rfl rfl (V.mv rfl) ?_
          refine J.cut 6 ?_
          obtain ⟨t377, ht378, ht368⟩ := ob ht368
          refine @J.meet _ _ _ _ _ _ _ _ _ _ (fun ρ K' L' => Fits [(38, .bool t377), (2, .int .i64 xc), (3, .pointer (some ⟨b320, 0, none⟩)), (4, .pointer (some ⟨b321, 0, none⟩)), (8, .pointer (some ⟨b331, 0, none⟩)), (29, .bool t341)] ρ ∧ K = K' ∧ L' = Cl b331 49 [.bool t324, .bool t325, .bool t326] :: Cl b321 24 [.slice adxb_0 xb.length cpxb_0] :: Cl b320 23 [.int .i64 xa.1, .int .i64 xa.2.1, .int .i64 xa.2.2.1, .int .i64 xa.2.2.2.1, .bool xa.2.2.2.2] :: F) ?_ ?_
          · skip
            rcases bt (t325) with hc379 | hc379
            · have ht378 := ct hc379 ht378
              refine J.run rfl rfl rfl hc379 ?_
              refine J.val (v := .func (.func 19) #[] #[.pointer (some ⟨b321, 0, none⟩)]) rfl rfl (V.mv rfl) ?_
              refine J.run rfl rfl rfl hc379 ?_
              refine J.val rfl rfl (V.fad Try.underlying23 rfl nz3 rfl) ?_
              refine J.run rfl rfl rfl hc379 ?_
              refine J.val (v := .int .i64 xa.2.2.1) rfl rfl (V.ld rfl (Ld.sc sc3 (Rd.cl 2 rfl rfl))) ?_
              refine J.run rfl rfl rfl hc379 ?_
              obtain ⟨r380, hr381, ht378⟩ := ob ht378
              refine J.front 1 rfl ?_
              refine J.op rfl (A.call (L1 := [Cl b321 24 [.slice adxb_0 xb.length cpxb_0]]) Try.call19 rfl (stmt_Needs_1_ip0_k_ok fxb_0 hr381) rfl rfl) ?_
              rintro _ _ _ ⟨v383, _, rfl, ⟨⟨t382, rfl, rfl, rfl⟩, rfl⟩, _, rfl⟩
              refine J.run rfl rfl rfl hc379 ?_
              refine J.val (v := .bool (!t382)) rfl rfl (V.not rfl) ?_
              refine J.run rfl rfl rfl hc369 ?_
              refine J.val (v := .bool (!t382)) rfl rfl (V.pickT rfl hc379 rfl) ?_
              refine J.front 2 rfl ?_
              refine J.front 1 rfl ?_
              refine J.front 2 rfl ?_
              refine J.nil ?_
              have e := Option.some.inj ht378
              subst e
              exact ⟨rfl, ⟨rfl, rfl, rfl, rfl, rfl, rfl, trivial⟩, rfl, rfl⟩
            · have ht378 := cf hc379 ht378
              refine J.skip rfl rfl rfl rfl hc379 ?_
              refine J.skip rfl rfl rfl rfl hc379 ?_
              refine J.skip rfl rfl rfl rfl hc379 ?_
              refine J.skip rfl rfl rfl rfl hc379 ?_
              refine J.skip rfl rfl rfl rfl hc379 ?_
              refine J.run rfl rfl rfl hc369 ?_
              refine J.val (v := .bool false) rfl rfl (V.pickF rfl hc379 rfl) ?_
              refine J.nil ?_
              have e := Option.some.inj ht378
              subst e
              exact ⟨rfl, ⟨rfl, rfl, rfl, rfl, rfl, rfl, trivial⟩, rfl, rfl⟩
          · rintro ρ _ _ ⟨hf, rfl, rfl⟩
            obtain ⟨ρ, rfl⟩ := hf.ex
            refine J.val (v := .bool t377) rfl rfl (V.pickF rfl hc369 rfl) ?_
            refine J.nil ?_
            have e := Option.some.inj ht368
            subst e
            exact ⟨rfl, ⟨rfl, rfl, rfl, rfl, rfl, trivial⟩, rfl, rfl⟩
      · rintro ρ _ _ ⟨hf, rfl, rfl⟩
        obtain ⟨ρ, rfl⟩ := hf.ex
        refine J.val (v := .bool t367) rfl rfl (V.mv rfl) ?_
        refine J.cut 14 ?_
        refine @J.meet _ _ _ _ _ _ _ _ _ _ (fun ρ K' L' => Fits [(54, .bool (t367 || (t326 && ((decide (xa.2.2.2.1 < 0)) || (decide (xc ≤ xa.2.2.2.1)))))), (3, .pointer (some ⟨b320, 0, none⟩)), (4, .pointer (some ⟨b321, 0, none⟩))] ρ ∧ K = K' ∧ L' = Cl b331 49 [.bool t324, .bool t325, .bool t326] :: Cl b321 24 [.slice adxb_0 xb.length cpxb_0] :: Cl b320 23 [.int .i64 xa.1, .int .i64 xa.2.1, .int .i64 xa.2.2.1, .int .i64 xa.2.2.2.1, .bool xa.2.2.2.2] :: F) ?_ ?_
        · skip
          rcases bt (t367) with hc397 | hc397
          · skip
            refine J.skip rfl rfl rfl rfl hc397 ?_
            refine J.skip rfl rfl rfl rfl hc397 ?_
            refine J.skip rfl rfl rfl rfl hc397 ?_
            refine J.skipu rfl rfl rfl rfl ?_
            refine J.skipu rfl rfl rfl rfl ?_
            refine J.skipu rfl rfl rfl rfl ?_
            refine J.skipu rfl rfl rfl rfl ?_
            refine J.skipu rfl rfl rfl rfl ?_
            refine J.skipu rfl rfl rfl rfl ?_
            refine J.skipu rfl rfl rfl rfl ?_
            refine J.skipu rfl rfl rfl rfl ?_
            refine J.skipu rfl rfl rfl rfl ?_
            refine J.skip rfl rfl rfl rfl hc397 ?_
            refine J.val (v := .bool true) rfl rfl (V.pickT rfl hc397 rfl) ?_
            refine J.nil ?_
            exact ⟨rfl, ⟨(by simp only [hc397]; rfl), rfl, rfl, trivial⟩, rfl, rfl⟩
          · skip
            refine J.run rfl rfl rfl hc397 ?_
            refine J.val rfl rfl (V.fad Try.underlying49 rfl nz4 rfl) ?_
            refine J.run rfl rfl rfl hc397 ?_
            refine J.val (v := .bool t326) rfl rfl (V.ld rfl (Ld.sc sc4 (Rd.cl 0 rfl rfl))) ?_
            refine J.run rfl rfl rfl hc397 ?_
            refine J.val (v := .bool t326) rfl rfl (V.mv rfl) ?_
            refine J.cut 10 ?_
            refine @J.meet _ _ _ _ _ _ _ _ _ _ (fun ρ K' L' => Fits [(53, .bool (t326 && ((decide (xa.2.2.2.1 < 0)) || (decide (xc ≤ xa.2.2.2.1))))), (3, .pointer (some ⟨b320, 0, none⟩)), (4, .pointer (some ⟨b321, 0, none⟩)), (40, .bool t367)] ρ ∧ K = K' ∧ L' = Cl b331 49 [.bool t324, .bool t325, .bool t326] :: Cl b321 24 [.slice adxb_0 xb.length cpxb_0] :: Cl b320 23 [.int .i64 xa.1, .int .i64 xa.2.1, .int .i64 xa.2.2.1, .int .i64 xa.2.2.2.1, .bool xa.2.2.2.2] :: F) ?_ ?_
            · skip
              rcases bt (t326) with hc403 | hc403
              · skip
                refine J.run rfl rfl rfl hc403 ?_
                refine J.val rfl rfl (V.fad Try.underlying23 rfl nz3 rfl) ?_
                refine J.run rfl rfl rfl hc403 ?_
                refine J.val (v := .int .i64 xa.2.2.2.1) rfl rfl (V.ld rfl (Ld.sc sc3 (Rd.cl 2 rfl rfl))) ?_
                refine J.run rfl rfl rfl hc403 ?_
                refine J.val (v := .bool (decide (xa.2.2.2.1 < 0))) rfl rfl (V.lss rfl rfl) ?_
                refine J.run rfl rfl rfl hc403 ?_
                refine J.val (v := .bool (decide (xa.2.2.2.1 < 0))) rfl rfl (V.mv rfl) ?_
                refine J.cut 5 ?_
                refine @J.meet _ _ _ _ _ _ _ _ _ _ (fun ρ K' L' => Fits [(52, .bool ((decide (xa.2.2.2.1 < 0)) || (decide (xc ≤ xa.2.2.2.1)))), (3, .pointer (some ⟨b320, 0, none⟩)), (4, .pointer (some ⟨b321, 0, none⟩)), (40, .bool t367), (43, .bool t326)] ρ ∧ K = K' ∧ L' = Cl b331 49 [.bool t324, .bool t325, .bool t326] :: Cl b321 24 [.slice adxb_0 xb.length cpxb_0] :: Cl b320 23 [.int .i64 xa.1, .int .i64 xa.2.1, .int .i64 xa.2.2.1, .int .i64 xa.2.2.2.1, .bool xa.2.2.2.2] :: F) ?_ ?_
                · skip
                  rcases bt (decide (xa.2.2.2.1 < 0)) with hc406 | hc406
                  · skip
                    refine J.skip rfl rfl rfl rfl hc406 ?_
                    refine J.skip rfl rfl rfl rfl hc406 ?_
                    refine J.skip rfl rfl rfl rfl hc406 ?_
                    refine J.skip rfl rfl rfl rfl hc406 ?_
                    refine J.run rfl rfl rfl hc403 ?_
                    refine J.val (v := .bool true) rfl rfl (V.pickT rfl hc406 rfl) ?_
                    refine J.nil ?_
                    exact ⟨rfl, ⟨(by simp only [hc406]; rfl), rfl, rfl, rfl, rfl, trivial⟩, rfl, rfl⟩
                  · skip
                    refine J.run rfl rfl rfl hc406 ?_
                    refine J.val rfl rfl (V.fad Try.underlying23 rfl nz3 rfl) ?_
                    refine J.run rfl rfl rfl hc406 ?_
                    refine J.val (v := .int .i64 xa.2.2.2.1) rfl rfl (V.ld rfl (Ld.sc sc3 (Rd.cl 2 rfl rfl))) ?_
                    refine J.run rfl rfl rfl hc406 ?_
                    refine J.val (v := .int .i64 xc) rfl rfl (V.mv rfl) ?_
                    refine J.run rfl rfl rfl hc406 ?_
                    refine J.val (v := .bool (decide (xc ≤ xa.2.2.2.1))) rfl rfl (V.geq rfl rfl) ?_
                    refine J.run rfl rfl rfl hc403 ?_
                    refine J.val (v := .bool (decide (xc ≤ xa.2.2.2.1))) rfl rfl (V.pickF rfl hc406 rfl) ?_
                    refine J.nil ?_
                    exact ⟨rfl, ⟨(by simp only [hc406]; rfl), rfl, rfl, rfl, rfl, trivial⟩, rfl, rfl⟩
                · rintro ρ _ _ ⟨hf, rfl, rfl⟩
                  obtain ⟨ρ, rfl⟩ := hf.ex
                  refine J.run rfl rfl rfl hc397 ?_
                  refine J.val (v := .bool ((decide (xa.2.2.2.1 < 0)) || (decide (xc ≤ xa.2.2.2.1)))) rfl rfl (V.pickT rfl hc403 rfl) ?_
                  refine J.nil ?_
                  exact ⟨rfl, ⟨(by simp only [hc403]; rfl), rfl, rfl, rfl, trivial⟩, rfl, rfl⟩
              · skip
                refine J.skip rfl rfl rfl rfl hc403 ?_
                refine J.skip rfl rfl rfl rfl hc403 ?_
                refine J.skip rfl rfl rfl rfl hc403 ?_
                refine J.skip rfl rfl rfl rfl hc403 ?_
                refine J.skipu rfl rfl rfl rfl ?_
                refine J.skipu rfl rfl rfl rfl ?_
                refine J.skipu rfl rfl rfl rfl ?_
                refine J.skipu rfl rfl rfl rfl ?_
                refine J.skip rfl rfl rfl rfl hc403 ?_
                refine J.run rfl rfl rfl hc397 ?_
                refine J.val (v := .bool false) rfl rfl (V.pickF rfl hc403 rfl) ?_
                refine J.nil ?_
                exact ⟨rfl, ⟨(by simp only [hc403]; rfl), rfl, rfl, rfl, trivial⟩, rfl, rfl⟩
            · rintro ρ _ _ ⟨hf, rfl, rfl⟩
              obtain ⟨ρ, rfl⟩ := hf.ex
              refine J.val (v := .bool (t326 && ((decide (xa.2.2.2.1 < 0)) || (decide (xc ≤ xa.2.2.2.1))))) rfl rfl (V.pickF rfl hc397 rfl) ?_
              refine J.nil ?_
              exact ⟨rfl, ⟨(by simp only [hc397]; rfl), rfl, rfl, trivial⟩, rfl, rfl⟩
        · rintro ρ _ _ ⟨hf, rfl, rfl⟩
          obtain ⟨ρ, rfl⟩ := hf.ex
          refine J.nil ?_
          refine CJ.cond rfl (fun hc407 => ?_) (fun hc407 => ?_)
          · have h := ct hc407 h
            refine CJ.seq ?_
            refine CJ.region ?_
            refine J.val (v := .slice none 0 0) rfl rfl (V.as rfl) ?_
            refine J.val (v := .int .i64 7) rfl rfl (V.as rfl) ?_
            refine J.nil ?_
            refine CJ.by (fun w hs => Sep.rowNil (e := 60) (t := (.cons (.int .i64) (.cons (.int .i64) (.cons (.int .i64) (.cons (.int .i64) (.one .bool)))))) hs) ?_
            refine CJ.ret ?_
            have e := Option.some.inj h
            subst e
            exact ⟨_, [Row Hp.nil 60 (.cons (.int .i64) (.cons (.int .i64) (.cons (.int .i64) (.cons (.int .i64) (.one .bool))))) (.slice none ((([] : List (Int × Int × Int × Int × Bool))).length) 0) (([] : List (Int × Int × Int × Int × Bool)))], Res.two rfl rfl rfl, ⟨[], 7, none, 0, rfl, rfl, rfl⟩, (Hp.le_refl _), fun w hs => (Sep.dropAt 1 rfl (Sep.dropAt 1 rfl (Sep.dropAt 1 rfl hs)))⟩
          · have h := cf hc407 h
            refine CJ.skip ?_
            refine CJ.seq ?_
            refine CJ.seq ?_
            refine CJ.region ?_
            refine J.val rfl rfl (V.fad Try.underlying23 rfl nz3 rfl) ?_
            refine J.val (v := .int .i64 xa.1) rfl rfl (V.ld rfl (Ld.sc sc3 (Rd.cl 2 rfl rfl))) ?_
            refine J.nil ?_
            refine CJ.block ?_
            refine CJ.seq ?_
            refine CJ.region ?_
            refine J.val (v := .bool (decide (xa.1 = 1))) rfl rfl (V.eql rfl rfl) ?_
            refine J.val (v := .bool (decide (xa.1 = 1))) rfl rfl (V.as rfl) ?_
            refine J.nil ?_
            refine CJ.cond rfl (fun hc409 => ?_) (fun hc409 => ?_)
            · have h := ct hc409 h
              refine CJ.seq ?_
              refine CJ.mix [Cl b331 49 [.bool t324, .bool t325, .bool t326], Cl b321 24 [.slice adxb_0 xb.length cpxb_0], Cl b320 23 [.int .i64 xa.1, .int .i64 xa.2.1, .int .i64 xa.2.2.1, .int .i64 xa.2.2.2.1, .bool xa.2.2.2.2]] [([0, 1, 2, 3, 4, 5, 6, 7, 8, 9], 10)] [11, 12, 13, 14] [] mixO (by decide +kernel) ⟨0, rfl, 0, rfl, 0, rfl, trivial⟩ rfl rfl rfl ?_
              refine JM.cons ?_
              refine JQ.val (v := .slice adxb_0 xb.length cpxb_0) rfl rfl (V.ld rfl (Ld.sc sc24 (Rd.cl 1 rfl rfl))) ?_
              refine JQ.val rfl rfl (V.fad Try.underlying23 rfl nz3 rfl) ?_
              refine JQ.val (v := .int .i64 xa.2.2.1) rfl rfl (V.ld rfl (Ld.sc sc3 (Rd.cl 2 rfl rfl))) ?_
              obtain ⟨x447, hx448, h⟩ := ob h
              obtain ⟨p449, p450, p451⟩ := getI_some hx448
              obtain ⟨b452, o453, e454, a455⟩ := (fxb_0).at p450
              refine JQ.val rfl rfl (V.iad Try.underlying24 sz47 rfl e454 rfl p449 p451) ?_
              obtain ⟨ad456, cp457, c458, f459⟩ := ((a455).one).sl
              refine JQ.val (v := .agg #[.slice ad456 x447.length cp457]) rfl rfl (V.ld rfl (Ld.aggK (cs := [.slice ad456 x447.length cp457]) Try.underlying47 sz47 rfl ⟨c458, trivial⟩ (Hp.le_refl _))) ?_
              refine JQ.val (v := .slice adxb_0 xb.length cpxb_0) rfl rfl (V.ld rfl (Ld.sc sc24 (Rd.cl 1 rfl rfl))) ?_
              refine JQ.val rfl rfl (V.fad Try.underlying23 rfl nz3 rfl) ?_
              refine JQ.val (v := .int .i64 xa.2.1) rfl rfl (V.ld rfl (Ld.sc sc3 (Rd.cl 2 rfl rfl))) ?_
              obtain ⟨x460, hx461, h⟩ := ob h
              obtain ⟨p462, p463, p464⟩ := getI_some hx461
              obtain ⟨b465, o466, e467, a468⟩ := (fxb_0).at p463
              refine JQ.val rfl rfl (V.iad Try.underlying24 sz47 rfl e467 rfl p462 p464) ?_
              obtain ⟨ad469, cp470, c471, f472⟩ := ((a468).one).sl
              refine JQ.val (v := .agg #[.slice ad469 x460.length cp470]) rfl rfl (V.ld rfl (Ld.aggK (cs := [.slice ad469 x460.length cp470]) Try.underlying47 sz47 rfl ⟨c471, trivial⟩ (Hp.le_refl _))) ?_
              refine JQ.nil ?_
              obtain ⟨r473, hr474, h⟩ := ob h
              refine JA.op rfl (A.call (L1 := []) Try.call20 rfl (relate_Flow_ok f459 f472 hr474) rfl rfl) ?_
              rintro _ _ _ ⟨v480, _, rfl, ⟨⟨l475, i476, ad477, cp478, rfl, rfl, rfl⟩, rfl⟩, _, rfl⟩
              refine ⟨fun w hs => Hold.sub (Hp.le_refl _) ⟨1, rfl, 1, rfl, 1, rfl, trivial⟩ hs, ?_⟩
              refine JM.wit Row.hn (fun hn479 => ?_)
              refine JM.nil ?_
              refine JQ.val (v := .slice ad477 l475.length cp478) rfl rfl (V.ext rfl rfl) ?_
              refine JQ.val (v := .int .i64 i476) rfl rfl (V.ext rfl rfl) ?_
              refine JQ.val (v := .slice ad477 l475.length cp478) rfl rfl (V.as rfl) ?_
              refine JQ.val (v := .int .i64 i476) rfl rfl (V.as rfl) ?_
              refine JQ.nil ?_
              refine J.nil ?_
              refine CJ.ret ?_
              have e := Option.some.inj h
              subst e
              exact ⟨_, [Row Hp.nil 60 (.cons (.int .i64) (.cons (.int .i64) (.cons (.int .i64) (.cons (.int .i64) (.one .bool))))) (.slice ad477 l475.length cp478) l475], Res.two rfl rfl rfl, ⟨l475, i476, ad477, cp478, rfl, rfl, rfl⟩, (Hp.le_refl _), fun w hs => (Sep.dropAt 1 rfl (Sep.dropAt 1 rfl (Sep.dropAt 1 rfl hs)))⟩
            · have h := cf hc409 h
              refine CJ.seq ?_
              refine CJ.region ?_
              refine J.val (v := .bool (decide (xa.1 = 2))) rfl rfl (V.eql rfl rfl) ?_
              refine J.val (v := .bool (decide (xa.1 = 2))) rfl rfl (V.as rfl) ?_
              refine J.nil ?_
              refine CJ.cond rfl (fun hc484 => ?_) (fun hc484 => ?_)
              · have h := ct hc484 h
                refine CJ.seq ?_
                refine CJ.mix [Cl b331 49 [.bool t324, .bool t325, .bool t326], Cl b321 24 [.slice adxb_0 xb.length cpxb_0], Cl b320 23 [.int .i64 xa.1, .int .i64 xa.2.1, .int .i64 xa.2.2.1, .int .i64 xa.2.2.2.1, .bool xa.2.2.2.2]] [([0, 1, 2, 3, 4, 5, 6, 7, 8, 9, 10, 11, 12, 13], 14)] [15, 16, 17, 18] [] mixO (by decide +kernel) ⟨0, rfl, 0, rfl, 0, rfl, trivial⟩ rfl rfl rfl ?_
                refine JM.cons ?_
                refine JQ.val (v := .slice adxb_0 xb.length cpxb_0) rfl rfl (V.ld rfl (Ld.sc sc24 (Rd.cl 1 rfl rfl))) ?_
                refine JQ.val rfl rfl (V.fad Try.underlying23 rfl nz3 rfl) ?_
                refine JQ.val (v := .int .i64 xa.2.2.1) rfl rfl (V.ld rfl (Ld.sc sc3 (Rd.cl 2 rfl rfl))) ?_
                obtain ⟨x522, hx523, h⟩ := ob h
                obtain ⟨p524, p525, p526⟩ := getI_some hx523
                obtain ⟨b527, o528, e529, a530⟩ := (fxb_0).at p525
                refine JQ.val rfl rfl (V.iad Try.underlying24 sz47 rfl e529 rfl p524 p526) ?_
                obtain ⟨ad531, cp532, c533, f534⟩ := ((a530).one).sl
                refine JQ.val (v := .agg #[.slice ad531 x522.length cp532]) rfl rfl (V.ld rfl (Ld.aggK (cs := [.slice ad531 x522.length cp532]) Try.underlying47 sz47 rfl ⟨c533, trivial⟩ (Hp.le_refl _))) ?_
                refine JQ.val (v := .slice adxb_0 xb.length cpxb_0) rfl rfl (V.ld rfl (Ld.sc sc24 (Rd.cl 1 rfl rfl))) ?_
                refine JQ.val rfl rfl (V.fad Try.underlying23 rfl nz3 rfl) ?_
                refine JQ.val (v := .int .i64 xa.2.1) rfl rfl (V.ld rfl (Ld.sc sc3 (Rd.cl 2 rfl rfl))) ?_
                obtain ⟨x535, hx536, h⟩ := ob h
                obtain ⟨p537, p538, p539⟩ := getI_some hx536
                obtain ⟨b540, o541, e542, a543⟩ := (fxb_0).at p538
                refine JQ.val rfl rfl (V.iad Try.underlying24 sz47 rfl e542 rfl p537 p539) ?_
                obtain ⟨ad544, cp545, c546, f547⟩ := ((a543).one).sl
                refine JQ.val (v := .agg #[.slice ad544 x535.length cp545]) rfl rfl (V.ld rfl (Ld.aggK (cs := [.slice ad544 x535.length cp545]) Try.underlying47 sz47 rfl ⟨c546, trivial⟩ (Hp.le_refl _))) ?_
                refine JQ.val rfl rfl (V.fad Try.underlying23 rfl nz3 rfl) ?_
                refine JQ.val (v := .int .i64 xa.2.2.2.1) rfl rfl (V.ld rfl (Ld.sc sc3 (Rd.cl 2 rfl rfl))) ?_
                refine JQ.val rfl rfl (V.fad Try.underlying23 rfl nz4 rfl) ?_
                refine JQ.val (v := .bool xa.2.2.2.2) rfl rfl (V.ld rfl (Ld.sc sc4 (Rd.cl 2 rfl rfl))) ?_
                refine JQ.nil ?_
                obtain ⟨r548, hr549, h⟩ := ob h
                refine JA.op rfl (A.call (L1 := []) Try.call21 rfl (relate_Loan_ok f534 f547 hr549) rfl rfl) ?_
                rintro _ _ _ ⟨v555, _, rfl, ⟨⟨l550, i551, ad552, cp553, rfl, rfl, rfl⟩, rfl⟩, _, rfl⟩
                refine ⟨fun w hs => Hold.sub (Hp.le_refl _) ⟨1, rfl, 1, rfl, 1, rfl, trivial⟩ hs, ?_⟩
                refine JM.wit Row.hn (fun hn554 => ?_)
                refine JM.nil ?_
                refine JQ.val (v := .slice ad552 l550.length cp553) rfl rfl (V.ext rfl rfl) ?_
                refine JQ.val (v := .int .i64 i551) rfl rfl (V.ext rfl rfl) ?_
                refine JQ.val (v := .slice ad552 l550.length cp553) rfl rfl (V.as rfl) ?_
                refine JQ.val (v := .int .i64 i551) rfl rfl (V.as rfl) ?_
                refine JQ.nil ?_
                refine J.nil ?_
                refine CJ.ret ?_
                have e := Option.some.inj h
                subst e
                exact ⟨_, [Row Hp.nil 60 (.cons (.int .i64) (.cons (.int .i64) (.cons (.int .i64) (.cons (.int .i64) (.one .bool))))) (.slice ad552 l550.length cp553) l550], Res.two rfl rfl rfl, ⟨l550, i551, ad552, cp553, rfl, rfl, rfl⟩, (Hp.le_refl _), fun w hs => (Sep.dropAt 1 rfl (Sep.dropAt 1 rfl (Sep.dropAt 1 rfl hs)))⟩
              · have h := cf hc484 h
                refine CJ.seq ?_
                refine CJ.region ?_
                refine J.val (v := .bool (decide (xa.1 = 3))) rfl rfl (V.eql rfl rfl) ?_
                refine J.val (v := .bool (decide (xa.1 = 3))) rfl rfl (V.as rfl) ?_
                refine J.nil ?_
                refine CJ.cond rfl (fun hc559 => ?_) (fun hc559 => ?_)
                · have h := ct hc559 h
                  refine CJ.seq ?_
                  refine CJ.mix [Cl b331 49 [.bool t324, .bool t325, .bool t326], Cl b321 24 [.slice adxb_0 xb.length cpxb_0], Cl b320 23 [.int .i64 xa.1, .int .i64 xa.2.1, .int .i64 xa.2.2.1, .int .i64 xa.2.2.2.1, .bool xa.2.2.2.2]] [([0, 1, 2, 3, 4, 5, 6, 7, 8, 9, 10, 11, 12, 13], 14)] [15, 16, 17, 18] [] mixO (by decide +kernel) ⟨0, rfl, 0, rfl, 0, rfl, trivial⟩ rfl rfl rfl ?_
                  refine JM.cons ?_
                  refine JQ.val (v := .slice adxb_0 xb.length cpxb_0) rfl rfl (V.ld rfl (Ld.sc sc24 (Rd.cl 1 rfl rfl))) ?_
                  refine JQ.val rfl rfl (V.fad Try.underlying23 rfl nz3 rfl) ?_
                  refine JQ.val (v := .int .i64 xa.2.2.1) rfl rfl (V.ld rfl (Ld.sc sc3 (Rd.cl 2 rfl rfl))) ?_
                  obtain ⟨x597, hx598, h⟩ := ob h
                  obtain ⟨p599, p600, p601⟩ := getI_some hx598
                  obtain ⟨b602, o603, e604, a605⟩ := (fxb_0).at p600
                  refine JQ.val rfl rfl (V.iad Try.underlying24 sz47 rfl e604 rfl p599 p601) ?_
                  obtain ⟨ad606, cp607, c608, f609⟩ := ((a605).one).sl
                  refine JQ.val (v := .agg #[.slice ad606 x597.length cp607]) rfl rfl (V.ld rfl (Ld.aggK (cs := [.slice ad606 x597.length cp607]) Try.underlying47 sz47 rfl ⟨c608, trivial⟩ (Hp.le_refl _))) ?_
                  refine JQ.val (v := .slice adxb_0 xb.length cpxb_0) rfl rfl (V.ld rfl (Ld.sc sc24 (Rd.cl 1 rfl rfl))) ?_
                  refine JQ.val rfl rfl (V.fad Try.underlying23 rfl nz3 rfl) ?_
                  refine JQ.val (v := .int .i64 xa.2.1) rfl rfl (V.ld rfl (Ld.sc sc3 (Rd.cl 2 rfl rfl))) ?_
                  obtain ⟨x610, hx611, h⟩ := ob h
                  obtain ⟨p612, p613, p614⟩ := getI_some hx611
                  obtain ⟨b615, o616, e617, a618⟩ := (fxb_0).at p613
                  refine JQ.val rfl rfl (V.iad Try.underlying24 sz47 rfl e617 rfl p612 p614) ?_
                  obtain ⟨ad619, cp620, c621, f622⟩ := ((a618).one).sl
                  refine JQ.val (v := .agg #[.slice ad619 x610.length cp620]) rfl rfl (V.ld rfl (Ld.aggK (cs := [.slice ad619 x610.length cp620]) Try.underlying47 sz47 rfl ⟨c621, trivial⟩ (Hp.le_refl _))) ?_
                  refine JQ.val rfl rfl (V.fad Try.underlying23 rfl nz3 rfl) ?_
                  refine JQ.val (v := .int .i64 xa.2.2.2.1) rfl rfl (V.ld rfl (Ld.sc sc3 (Rd.cl 2 rfl rfl))) ?_
                  refine JQ.val rfl rfl (V.fad Try.underlying23 rfl nz4 rfl) ?_
                  refine JQ.val (v := .bool xa.2.2.2.2) rfl rfl (V.ld rfl (Ld.sc sc4 (Rd.cl 2 rfl rfl))) ?_
                  refine JQ.nil ?_
                  obtain ⟨r623, hr624, h⟩ := ob h
                  refine JA.op rfl (A.call (L1 := []) Try.call22 rfl (relate_Again_ok f609 f622 hr624) rfl rfl) ?_
                  rintro _ _ _ ⟨v630, _, rfl, ⟨⟨l625, i626, ad627, cp628, rfl, rfl, rfl⟩, rfl⟩, _, rfl⟩
                  refine ⟨fun w hs => Hold.sub (Hp.le_refl _) ⟨1, rfl, 1, rfl, 1, rfl, trivial⟩ hs, ?_⟩
                  refine JM.wit Row.hn (fun hn629 => ?_)
                  refine JM.nil ?_
                  refine JQ.val (v := .slice ad627 l625.length cp628) rfl rfl (V.ext rfl rfl) ?_
                  refine JQ.val (v := .int .i64 i626) rfl rfl (V.ext rfl rfl) ?_
                  refine JQ.val (v := .slice ad627 l625.length cp628) rfl rfl (V.as rfl) ?_
                  refine JQ.val (v := .int .i64 i626) rfl rfl (V.as rfl) ?_
                  refine JQ.nil ?_
                  refine J.nil ?_
                  refine CJ.ret ?_
                  have e := Option.some.inj h
                  subst e
                  exact ⟨_, [Row Hp.nil 60 (.cons (.int .i64) (.cons (.int .i64) (.cons (.int .i64) (.cons (.int .i64) (.one .bool))))) (.slice ad627 l625.length cp628) l625], Res.two rfl rfl rfl, ⟨l625, i626, ad627, cp628, rfl, rfl, rfl⟩, (Hp.le_refl _), fun w hs => (Sep.dropAt 1 rfl (Sep.dropAt 1 rfl (Sep.dropAt 1 rfl hs)))⟩
                · have h := cf hc559 h
                  refine CJ.skip ?_
                  refine CJ.seq ?_
                  refine CJ.region ?_
                  refine J.val (v := .slice none 0 0) rfl rfl (V.as rfl) ?_
                  refine J.val (v := .int .i64 0) rfl rfl (V.as rfl) ?_
                  refine J.nil ?_
                  refine CJ.by (fun w hs => Sep.rowNil (e := 60) (t := (.cons (.int .i64) (.cons (.int .i64) (.cons (.int .i64) (.cons (.int .i64) (.one .bool)))))) hs) ?_
                  refine CJ.ret ?_
                  have e := Option.some.inj h
                  subst e
                  exact ⟨_, [Row Hp.nil 60 (.cons (.int .i64) (.cons (.int .i64) (.cons (.int .i64) (.cons (.int .i64) (.one .bool))))) (.slice none ((([] : List (Int × Int × Int × Int × Bool))).length) 0) (([] : List (Int × Int × Int × Int × Bool)))], Res.two rfl rfl rfl, ⟨[], 0, none, 0, rfl, rfl, rfl⟩, (Hp.le_refl _), fun w hs => (Sep.dropAt 1 rfl (Sep.dropAt 1 rfl (Sep.dropAt 1 rfl hs)))⟩
end Go.Proofs.Ytaaicohpbafegaa
