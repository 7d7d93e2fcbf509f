/- What Go functions answer: generated. -/
import Derived.Test.YtedncipemdpljaaOz
import Derived.Test.YtedncipemdpljaaRows
namespace Go.Proofs.Ytedncipemdpljaa
open Go.RowKit
set_option linter.unusedVariables false
theorem sz24 : (Try.prog.info? 24).map (·.size) = some 1 := by kernel_rfl
theorem nz22 : Try.prog.cellsOf 22 ≠ 0 := by decide +kernel
theorem sc22 : scalar Try.prog 22 = true := by kernel_rfl
theorem inf47 : Inf Try.prog 47 (.agg #[.int .i64 0, .bool false]) 2 16 := by unfold Inf; kernel_rfl
theorem places47 : Places Try.prog 47 [(0, 1), (1, 1)] := ⟨_, Try.underlying47, by kernel_rfl⟩
theorem inf24 : Inf Try.prog 24 (.agg #[.slice none 0 0]) 1 24 := by unfold Inf; kernel_rfl
theorem places24 : Places Try.prog 24 [(0, 1)] := ⟨_, Try.underlying24, by kernel_rfl⟩
theorem sz47 : (Try.prog.info? 47).map (·.size) = some 2 := by kernel_rfl
theorem nz4 : Try.prog.cellsOf 4 ≠ 0 := by decide +kernel
theorem sc4 : scalar Try.prog 4 = true := by kernel_rfl
theorem nz3 : Try.prog.cellsOf 3 ≠ 0 := by decide +kernel
theorem sc3 : scalar Try.prog 3 = true := by kernel_rfl
theorem inf40 : Inf Try.prog 40 (.agg #[.int .i64 0, .int .i64 0, .int .i64 0, .int .i64 0, .bool false]) 5 40 := by unfold Inf; kernel_rfl
theorem places40 : Places Try.prog 40 [(0, 1), (1, 1), (2, 1), (3, 1), (4, 1)] := ⟨_, Try.underlying40, by kernel_rfl⟩
theorem mixO : Try.prog.follows .mixedOrders = true := by kernel_rfl
theorem inf48 : Inf Try.prog 48 (.agg #[.int .i64 0, .int .i64 0, .int .i64 0, .int .i64 0, .bool false]) 5 40 := by unfold Inf; kernel_rfl
theorem sz40 : (Try.prog.info? 40).map (·.size) = some 5 := by kernel_rfl
theorem places48 : Places Try.prog 48 [(0, 1), (1, 1), (2, 1), (3, 1), (4, 1)] := ⟨_, Try.underlying48, by kernel_rfl⟩
theorem sz48 : (Try.prog.info? 48).map (·.size) = some 5 := by kernel_rfl
theorem sih48 : Try.prog.stoodInHeld 48 = false := by kernel_rfl
theorem eqg48 : Try.prog.eqGuardType Try.prog.depth 48 = false := by kernel_rfl
theorem sc42 : scalar Try.prog 42 = true := by kernel_rfl
theorem inf3 : Inf Try.prog 3 (.int .i64 0) 1 8 := by unfold Inf; kernel_rfl
theorem sz3 : (Try.prog.info? 3).map (·.size) = some 1 := by kernel_rfl

noncomputable def fn_ref15_Few (xa : (List (Int × Bool))) (xb : Int) : Option Bool :=
  some (decide ((((xa.length : Nat) : Int)) ≤ xb))
set_option maxRecDepth 100000 in
set_option maxHeartbeats 4000000 in
theorem ref15_Few_ok {K : Hp} {xa : (List (Int × Bool))} {xb : Int} {adxa_0 : Option Addr} {cpxa_0 : Nat} (fxa_0 : Is K (.sl (.cons (.int .i64) (.one .bool))) [.slice adxa_0 xa.length cpxa_0] xa) {r : Bool} (h : fn_ref15_Few xa xb = some r) :
    Tr Try.prog 6 #[.agg #[.slice adxa_0 xa.length cpxa_0], .int .i64 xb] K [] (fun v K' L' => (∃ (t2 : Bool), t2 = r ∧ v = .bool t2 ∧ L' = []) ∧ K = K') := by
  refine Tr.k ?_
  refine Tr.of Try.func6 rfl Try.ntmps6 rfl (fun E F => ?_)
  unfold fn_ref15_Few at h
  refine CJ.seq ?_
  refine CJ.region ?_
  refine J.op rfl (A.box (v := .agg #[.slice adxa_0 xa.length cpxa_0]) (cs := [.slice adxa_0 xa.length cpxa_0]) rfl rfl) ?_
  rintro _ _ _ ⟨b3, rfl, rfl, rfl⟩
  refine J.val (v := .bool false) rfl rfl (V.as rfl) ?_
  refine J.nil ?_
  refine CJ.seq ?_
  refine CJ.region ?_
  refine J.val rfl rfl (V.fad Try.underlying24 rfl nz22 rfl) ?_
  refine J.val (v := .slice adxa_0 xa.length cpxa_0) rfl rfl (V.ld rfl (Ld.sc sc22 (Rd.cl 0 rfl rfl))) ?_
  refine J.val (v := .int .i64 (((xa.length : Nat) : Int))) rfl rfl (V.len Try.underlying22 rfl) ?_
  refine J.val (v := .int .i64 xb) rfl rfl (V.mv rfl) ?_
  refine J.val (v := .bool (decide ((((xa.length : Nat) : Int)) ≤ xb))) rfl rfl (V.leq rfl rfl) ?_
  refine J.val (v := .bool (decide ((((xa.length : Nat) : Int)) ≤ xb))) rfl rfl (V.as rfl) ?_
  refine J.nil ?_
  refine CJ.ret ?_
  have e := Option.some.inj h
  subst e
  exact ⟨_, [], Res.one rfl rfl, ⟨decide ((((xa.length : Nat) : Int)) ≤ xb), rfl, rfl, rfl⟩, (Hp.le_refl _), fun w hs => (Sep.dropAt 0 rfl hs)⟩

noncomputable def fn_row_Shape_1 (xa : (Int × Bool)) (xb : (Int × Bool)) : Option Bool :=
  some (xa.2 == xb.2)
set_option maxRecDepth 100000 in
set_option maxHeartbeats 4000000 in
theorem row_Shape_1_ok {K : Hp} {xa : (Int × Bool)} {xb : (Int × Bool)}   {r : Bool} (h : fn_row_Shape_1 xa xb = some r) :
    Tr Try.prog 31 #[.agg #[.int .i64 xa.1, .bool xa.2], .agg #[.int .i64 xb.1, .bool xb.2]] K [] (fun v K' L' => (∃ (t3 : Bool), t3 = r ∧ v = .bool t3 ∧ L' = []) ∧ K = K') := by
  refine Tr.k ?_
  refine Tr.of Try.func31 rfl Try.ntmps31 rfl (fun E F => ?_)
  unfold fn_row_Shape_1 at h
  refine CJ.seq ?_
  refine CJ.region ?_
  refine J.op rfl (A.box (v := .agg #[.int .i64 xa.1, .bool xa.2]) (cs := [.int .i64 xa.1, .bool xa.2]) rfl rfl) ?_
  rintro _ _ _ ⟨b4, rfl, rfl, rfl⟩
  refine J.op rfl (A.box (v := .agg #[.int .i64 xb.1, .bool xb.2]) (cs := [.int .i64 xb.1, .bool xb.2]) rfl rfl) ?_
  rintro _ _ _ ⟨b5, rfl, rfl, rfl⟩
  refine J.val (v := .bool false) rfl rfl (V.as rfl) ?_
  refine J.nil ?_
  refine CJ.seq ?_
  refine CJ.region ?_
  refine J.val rfl rfl (V.fad Try.underlying47 rfl nz4 rfl) ?_
  refine J.val (v := .bool xa.2) rfl rfl (V.ld rfl (Ld.sc sc4 (Rd.cl 1 rfl rfl))) ?_
  refine J.val rfl rfl (V.fad Try.underlying47 rfl nz4 rfl) ?_
  refine J.val (v := .bool xb.2) rfl rfl (V.ld rfl (Ld.sc sc4 (Rd.cl 0 rfl rfl))) ?_
  refine J.val (v := .bool (xa.2 == xb.2)) rfl rfl (V.eqb Try.underlying4 rfl rfl) ?_
  refine J.val (v := .bool (xa.2 == xb.2)) rfl rfl (V.as rfl) ?_
  refine J.nil ?_
  refine CJ.ret ?_
  have e := Option.some.inj h
  subst e
  exact ⟨_, [], Res.one rfl rfl, ⟨xa.2 == xb.2, rfl, rfl, rfl⟩, (Hp.le_refl _), fun w hs => (Sep.dropAt 0 rfl (Sep.dropAt 0 rfl hs))⟩
noncomputable def fn_slices_EqualFunc_api_Slot_api_Slot_api_Slot_api_Slot_kk_row_Shape_1_l1 (xa : (List (Int × Bool))) (xb : (List (Int × Bool))) : Int → Option (Int ⊕ (Unit ⊕ Bool)) := fun (i313 : Int) => cond (decide (i313 < (((xa.length : Nat) : Int)))) ((getI xa i313).bind fun x348 => (getI xb i313).bind fun x358 => (fn_row_Shape_1 (x348.1, x348.2) (x358.1, x358.2)).bind fun t370 => cond (!t370) (some (.inr ((.inr (false))))) (some (.inl (IntKind.wrap .i64 (i313 + 1))))) (some (.inr ((.inl ()))))
noncomputable def fn_slices_EqualFunc_api_Slot_api_Slot_api_Slot_api_Slot_kk_row_Shape_1 (xa : (List (Int × Bool))) (xb : (List (Int × Bool))) : Option Bool :=
  cond (!decide ((((xa.length : Nat) : Int)) = (((xb.length : Nat) : Int)))) (some (false)) ((loop (fn_slices_EqualFunc_api_Slot_api_Slot_api_Slot_api_Slot_kk_row_Shape_1_l1 xa xb) 0 : Option (Unit ⊕ Bool)).bind fun o => match o with | .inr r => some r | .inl () => some (true))
set_option maxRecDepth 100000 in
set_option maxHeartbeats 4000000 in
theorem slices_EqualFunc_api_Slot_api_Slot_api_Slot_api_Slot_kk_row_Shape_1_ok {K : Hp} {xa : (List (Int × Bool))} {xb : (List (Int × Bool))} {adxa_0 : Option Addr} {cpxa_0 : Nat} {adxb_0 : Option Addr} {cpxb_0 : Nat} (fxa_0 : Is K (.sl (.cons (.int .i64) (.one .bool))) [.slice adxa_0 xa.length cpxa_0] xa) (fxb_0 : Is K (.sl (.cons (.int .i64) (.one .bool))) [.slice adxb_0 xb.length cpxb_0] xb) {r : Bool} (h : fn_slices_EqualFunc_api_Slot_api_Slot_api_Slot_api_Slot_kk_row_Shape_1 xa xb = some r) :
    Tr Try.prog 30 #[.slice adxa_0 xa.length cpxa_0, .slice adxb_0 xb.length cpxb_0, .func (.func 31) #[] #[]] K [] (fun v K' L' => (∃ (t189 : Bool), t189 = r ∧ v = .bool t189 ∧ L' = []) ∧ K = K') := by
  refine Tr.k ?_
  refine Tr.of Try.func30 rfl Try.ntmps30 rfl (fun E F => ?_)
  unfold fn_slices_EqualFunc_api_Slot_api_Slot_api_Slot_api_Slot_kk_row_Shape_1 at h
  refine CJ.seq ?_
  refine CJ.region ?_
  refine J.val (v := .bool false) rfl rfl (V.as rfl) ?_
  refine J.nil ?_
  refine CJ.seq ?_
  refine CJ.seq ?_
  refine CJ.region ?_
  refine J.val (v := .slice adxa_0 xa.length cpxa_0) rfl rfl (V.mv rfl) ?_
  refine J.val (v := .int .i64 (((xa.length : Nat) : Int))) rfl rfl (V.len Try.underlying22 rfl) ?_
  refine J.val (v := .slice adxb_0 xb.length cpxb_0) rfl rfl (V.mv rfl) ?_
  refine J.val (v := .int .i64 (((xb.length : Nat) : Int))) rfl rfl (V.len Try.underlying22 rfl) ?_
  refine J.val (v := .bool (!decide ((((xa.length : Nat) : Int)) = (((xb.length : Nat) : Int))))) rfl rfl (V.neq rfl rfl) ?_
  refine J.nil ?_
  refine CJ.cond rfl (fun hc190 => ?_) (fun hc190 => ?_)
  · have h := ct hc190 h
    refine CJ.seq ?_
    refine CJ.region ?_
    refine J.val (v := .bool false) rfl rfl (V.as rfl) ?_
    refine J.nil ?_
    refine CJ.ret ?_
    have e := Option.some.inj h
    subst e
    exact ⟨_, [], Res.one rfl rfl, ⟨false, rfl, rfl, rfl⟩, (Hp.le_refl _), fun w hs => hs⟩
  · have h := cf hc190 h
    refine CJ.skip ?_
    refine CJ.seq ?_
    refine CJ.seq ?_
    refine CJ.region ?_
    refine J.val (v := .slice adxa_0 xa.length cpxa_0) rfl rfl (V.mv rfl) ?_
    refine J.val (v := .int .i64 (((xa.length : Nat) : Int))) rfl rfl (V.len Try.underlying22 rfl) ?_
    refine J.val (v := .int .i64 0) rfl rfl (V.mv rfl) ?_
    refine J.nil ?_
    obtain ⟨o282, ho283, h⟩ := ob h
    refine CJ.joinN (o := o282) (fun s ρ K' L' => () = s ∧ Fits [] ρ ∧ K = K' ∧ F = L') ?_ ?_
    · skip
      refine CJ.block ?_
      refine CJ.loop (fun s ρ K' L' => ∃ (i313 : Int), i313 = s ∧ Fits [(1, .slice adxb_0 xb.length cpxb_0), (2, .func (.func 31) #[] #[]), (15, .slice adxa_0 xa.length cpxa_0), (16, .int .i64 (((xa.length : Nat) : Int))), (17, .int .i64 i313)] ρ ∧ K = K' ∧ F = L') ho283 ⟨0, rfl, ⟨rfl, rfl, rfl, rfl, rfl, trivial⟩, rfl, rfl⟩ ?_
      rintro s ρ _ _ r346 ⟨i313, rfl, hf344, rfl, rfl⟩ h343
      obtain ⟨ρ, rfl⟩ := hf344.ex
      refine CJ.seq ?_
      refine CJ.region ?_
      refine J.val (v := .bool (decide (i313 < (((xa.length : Nat) : Int))))) rfl rfl (V.lss rfl rfl) ?_
      refine J.nil ?_
      refine CJ.seq ?_
      refine CJ.cond rfl (fun hc347 => ?_) (fun hc347 => ?_)
      · have h343 := ct hc347 h343
        refine CJ.skip ?_
        refine CJ.seq ?_
        refine CJ.block ?_
        refine CJ.seq ?_
        refine CJ.region ?_
        refine J.val (v := .int .i64 i313) rfl rfl (V.mv rfl) ?_
        obtain ⟨x348, hx349, h343⟩ := ob h343
        obtain ⟨p350, p351, p352⟩ := getI_some hx349
        obtain ⟨b353, o354, e355, a356⟩ := (fxa_0).at p351
        refine J.val rfl rfl (V.iad Try.underlying22 sz47 rfl e355 rfl p350 p352) ?_
        refine J.val (v := .agg #[.int .i64 x348.1, .bool x348.2]) rfl rfl (V.ld rfl (Ld.aggK (cs := [.int .i64 x348.1, .bool x348.2]) Try.underlying47 sz47 rfl ⟨((a356).fst).int, (((a356).snd).one).bool, trivial⟩ (Hp.le_refl _))) ?_
        refine J.op rfl (A.alloc (cs := [.int .i64 0, .bool false]) inf47 rfl) ?_
        rintro _ _ _ ⟨b357, rfl, rfl, rfl⟩
        refine J.val (v := .int .i64 i313) rfl rfl (V.as rfl) ?_
        refine J.op rfl (A.store (v := .agg #[.int .i64 x348.1, .bool x348.2]) (cs' := [.int .i64 x348.1, .bool x348.2]) sz47 rfl rfl rfl rfl rfl rfl) ?_
        rintro _ _ _ ⟨rfl, rfl, rfl⟩
        refine J.nil ?_
        refine CJ.seq ?_
        refine CJ.region ?_
        refine J.val (v := .slice adxb_0 xb.length cpxb_0) rfl rfl (V.mv rfl) ?_
        refine J.val (v := .int .i64 i313) rfl rfl (V.mv rfl) ?_
        obtain ⟨x358, hx359, h343⟩ := ob h343
        obtain ⟨p360, p361, p362⟩ := getI_some hx359
        obtain ⟨b363, o364, e365, a366⟩ := (fxb_0).at p361
        refine J.val rfl rfl (V.iad Try.underlying22 sz47 rfl e365 rfl p360 p362) ?_
        refine J.val (v := .agg #[.int .i64 x358.1, .bool x358.2]) rfl rfl (V.ld rfl (Ld.aggK (cs := [.int .i64 x358.1, .bool x358.2]) Try.underlying47 sz47 rfl ⟨((a366).fst).int, (((a366).snd).one).bool, trivial⟩ (Hp.le_refl _))) ?_
        refine J.op rfl (A.alloc (cs := [.int .i64 0, .bool false]) inf47 rfl) ?_
        rintro _ _ _ ⟨b367, rfl, rfl, rfl⟩
        refine J.op rfl (A.store (v := .agg #[.int .i64 x358.1, .bool x358.2]) (cs' := [.int .i64 x358.1, .bool x358.2]) sz47 rfl rfl rfl rfl rfl rfl) ?_
        rintro _ _ _ ⟨rfl, rfl, rfl⟩
        refine J.nil ?_
        refine CJ.seq ?_
        refine CJ.region ?_
        refine J.val (v := .func (.func 31) #[] #[]) rfl rfl (V.mv rfl) ?_
        refine J.val (v := .agg #[.int .i64 x348.1, .bool x348.2]) rfl rfl (V.ld rfl (Ld.agg (cs := [.int .i64 x348.1, .bool x348.2]) Try.underlying47 sz47 rfl (Rd.cls 1 0 rfl rfl))) ?_
        refine J.val (v := .agg #[.int .i64 x358.1, .bool x358.2]) rfl rfl (V.ld rfl (Ld.agg (cs := [.int .i64 x358.1, .bool x358.2]) Try.underlying47 sz47 rfl (Rd.cls 0 0 rfl rfl))) ?_
        obtain ⟨r368, hr369, h343⟩ := ob h343
        refine J.op rfl (A.call (L1 := []) Try.call31 rfl (row_Shape_1_ok hr369) rfl rfl) ?_
        rintro _ _ _ ⟨v371, _, rfl, ⟨⟨t370, rfl, rfl, rfl⟩, rfl⟩, _, rfl⟩
        refine J.val (v := .bool (!t370)) rfl rfl (V.not rfl) ?_
        refine J.nil ?_
        refine CJ.cond rfl (fun hc374 => ?_) (fun hc374 => ?_)
        · have h343 := ct hc374 h343
          refine CJ.seq ?_
          refine CJ.region ?_
          refine J.val (v := .bool false) rfl rfl (V.as rfl) ?_
          refine J.nil ?_
          refine CJ.ret ?_
          have e := Option.some.inj h343
          subst e
          refine ⟨nofun, fun e => ?_⟩
          subst e
          refine .inr ⟨nofun, ?_⟩
          have e := Option.some.inj h
          subst e
          exact ⟨_, [], Res.one rfl rfl, ⟨false, rfl, rfl, rfl⟩, (Hp.le_refl _), fun w hs => (Sep.dropAt 0 rfl (Sep.dropAt 0 rfl hs))⟩
        · have h343 := cf hc374 h343
          refine CJ.skip ?_
          refine CJ.region ?_
          refine J.val (v := .int .i64 (IntKind.wrap .i64 (i313 + 1))) rfl rfl (V.add rfl rfl) ?_
          refine J.val (v := .int .i64 (IntKind.wrap .i64 (i313 + 1))) rfl rfl (V.mv rfl) ?_
          refine J.dropAt 0 rfl ?_
          refine J.dropAt 0 rfl ?_
          refine J.nil ?_
          have e := Option.some.inj h343
          subst e
          exact ⟨rfl, ⟨IntKind.wrap .i64 (i313 + 1), rfl, ⟨rfl, rfl, rfl, rfl, rfl, trivial⟩, rfl, rfl⟩⟩
      · have h343 := cf hc347 h343
        refine CJ.exit ?_
        have e := Option.some.inj h343
        subst e
        refine ⟨nofun, fun e => ?_⟩
        subst e
        exact .inl ⟨rfl, _, rfl, ⟨rfl, trivial, rfl, rfl⟩⟩
    · rintro s ρ _ _ ho375 ⟨rfl, hf376, rfl, rfl⟩
      subst ho375
      obtain ⟨ρ, rfl⟩ := hf376.ex
      refine PJ.done ?_
      refine CJ.seq ?_
      refine CJ.region ?_
      refine J.val (v := .bool true) rfl rfl (V.as rfl) ?_
      refine J.nil ?_
      refine CJ.ret ?_
      have e := Option.some.inj h
      subst e
      exact ⟨_, [], Res.one rfl rfl, ⟨true, rfl, rfl, rfl⟩, (Hp.le_refl _), fun w hs => hs⟩

noncomputable def fn_row_Shape (xa : (List (Int × Bool))) (xb : (List (Int × Bool))) : Option Bool :=
  (fn_slices_EqualFunc_api_Slot_api_Slot_api_Slot_api_Slot_kk_row_Shape_1 xa xb).bind fun t14 => some (t14)
set_option maxRecDepth 100000 in
set_option maxHeartbeats 4000000 in
theorem row_Shape_ok {K : Hp} {xa : (List (Int × Bool))} {xb : (List (Int × Bool))} {adxa_0 : Option Addr} {cpxa_0 : Nat} {adxb_0 : Option Addr} {cpxb_0 : Nat} (fxa_0 : Is K (.sl (.cons (.int .i64) (.one .bool))) [.slice adxa_0 xa.length cpxa_0] xa) (fxb_0 : Is K (.sl (.cons (.int .i64) (.one .bool))) [.slice adxb_0 xb.length cpxb_0] xb) {r : Bool} (h : fn_row_Shape xa xb = some r) :
    Tr Try.prog 21 #[.agg #[.slice adxa_0 xa.length cpxa_0], .agg #[.slice adxb_0 xb.length cpxb_0]] K [] (fun v K' L' => (∃ (t9 : Bool), t9 = r ∧ v = .bool t9 ∧ L' = []) ∧ K = K') := by
  refine Tr.k ?_
  refine Tr.of Try.func21 rfl Try.ntmps21 rfl (fun E F => ?_)
  unfold fn_row_Shape at h
  refine CJ.seq ?_
  refine CJ.region ?_
  refine J.op rfl (A.box (v := .agg #[.slice adxa_0 xa.length cpxa_0]) (cs := [.slice adxa_0 xa.length cpxa_0]) rfl rfl) ?_
  rintro _ _ _ ⟨b10, rfl, rfl, rfl⟩
  refine J.op rfl (A.box (v := .agg #[.slice adxb_0 xb.length cpxb_0]) (cs := [.slice adxb_0 xb.length cpxb_0]) rfl rfl) ?_
  rintro _ _ _ ⟨b11, rfl, rfl, rfl⟩
  refine J.val (v := .bool false) rfl rfl (V.as rfl) ?_
  refine J.nil ?_
  refine CJ.seq ?_
  refine CJ.region ?_
  refine J.val rfl rfl (V.fad Try.underlying24 rfl nz22 rfl) ?_
  refine J.val (v := .slice adxa_0 xa.length cpxa_0) rfl rfl (V.ld rfl (Ld.sc sc22 (Rd.cl 1 rfl rfl))) ?_
  refine J.val rfl rfl (V.fad Try.underlying24 rfl nz22 rfl) ?_
  refine J.val (v := .slice adxb_0 xb.length cpxb_0) rfl rfl (V.ld rfl (Ld.sc sc22 (Rd.cl 0 rfl rfl))) ?_
  obtain ⟨r12, hr13, h⟩ := ob h
  refine J.op rfl (A.call (L1 := []) Try.call30 rfl (slices_EqualFunc_api_Slot_api_Slot_api_Slot_api_Slot_kk_row_Shape_1_ok fxa_0 fxb_0 hr13) rfl rfl) ?_
  rintro _ _ _ ⟨v15, _, rfl, ⟨⟨t14, rfl, rfl, rfl⟩, rfl⟩, _, rfl⟩
  refine J.val (v := .bool t14) rfl rfl (V.as rfl) ?_
  refine J.nil ?_
  refine CJ.ret ?_
  have e := Option.some.inj h
  subst e
  exact ⟨_, [], Res.one rfl rfl, ⟨t14, rfl, rfl, rfl⟩, (Hp.le_refl _), fun w hs => (Sep.dropAt 0 rfl (Sep.dropAt 0 rfl hs))⟩
noncomputable def fn_relate_related_l1 (xa : (List (Int × Bool))) (xb : (List (Int × Bool))) (xc : Int) (xd : Int) : ((List (Int × Int × Int × Int × Bool)) × Int) → Option (((List (Int × Int × Int × Int × Bool)) × Int) ⊕ (List (Int × Int × Int × Int × Bool))) := fun ((l1175, i1180) : ((List (Int × Int × Int × Int × Bool)) × Int)) => cond (decide (i1180 < (((xa.length : Nat) : Int)))) ((getI xa i1180).bind fun x1321 => (getI xb i1180).bind fun x1330 => (app l1175 (([(x1321.1, x1330.1, xc, IntKind.wrap .i64 (xd + i1180), false)] : List (Int × Int × Int × Int × Bool)))).bind fun z1342 => (getI xb i1180).bind fun x1348 => cond (x1348.2) ((getI xb i1180).bind fun x1379 => (getI xa i1180).bind fun x1388 => (app z1342 (([(x1379.1, x1388.1, xc, IntKind.wrap .i64 (xd + i1180), true)] : List (Int × Int × Int × Int × Bool)))).bind fun z1400 => some (.inl ((z1400, IntKind.wrap .i64 (i1180 + 1))))) (some (.inl ((z1342, IntKind.wrap .i64 (i1180 + 1)))))) (some (.inr (l1175)))
noncomputable def fn_relate_related (xa : (List (Int × Bool))) (xb : (List (Int × Bool))) (xc : Int) (xd : Int) : Option ((List (Int × Int × Int × Int × Bool))) :=
  (loop (fn_relate_related_l1 xa xb xc xd) ([], 0)).bind fun l1053 => some (l1053)
set_option maxRecDepth 100000 in
set_option maxHeartbeats 4000000 in
theorem relate_related_ok {K : Hp} {xa : (List (Int × Bool))} {xb : (List (Int × Bool))} {xc : Int} {xd : Int} {adxa_0 : Option Addr} {cpxa_0 : Nat} {adxb_0 : Option Addr} {cpxb_0 : Nat} (fxa_0 : Is K (.sl (.cons (.int .i64) (.one .bool))) [.slice adxa_0 xa.length cpxa_0] xa) (fxb_0 : Is K (.sl (.cons (.int .i64) (.one .bool))) [.slice adxb_0 xb.length cpxb_0] xb) {r : (List (Int × Int × Int × Int × Bool))} (h : fn_relate_related xa xb xc xd = some r) :
    Tr Try.prog 22 #[.slice adxa_0 xa.length cpxa_0, .slice adxb_0 xb.length cpxb_0, .int .i64 xc, .int .i64 xd] K [] (fun v K' L' => (∃ (l702 : (List (Int × Int × Int × Int × Bool))) (ad703 : Option Addr) (cp704 : Nat), l702 = r ∧ v = .slice ad703 l702.length cp704 ∧ L' = [Row Hp.nil 40 (.cons (.int .i64) (.cons (.int .i64) (.cons (.int .i64) (.cons (.int .i64) (.one .bool))))) (.slice ad703 l702.length cp704) l702]) ∧ K = K') := by
  refine Tr.k ?_
  refine Tr.of Try.func22 rfl Try.ntmps22 rfl (fun E F => ?_)
  unfold fn_relate_related at h
  refine CJ.seq ?_
  refine CJ.region ?_
  refine J.val (v := .slice none 0 0) rfl rfl (V.as rfl) ?_
  refine J.nil ?_
  refine CJ.seq ?_
  refine CJ.region ?_
  refine J.val (v := .slice none 0 0) rfl rfl (V.as rfl) ?_
  refine J.nil ?_
  refine CJ.seq ?_
  refine CJ.seq ?_
  refine CJ.region ?_
  refine J.val (v := .slice adxa_0 xa.length cpxa_0) rfl rfl (V.mv rfl) ?_
  refine J.val (v := .int .i64 (((xa.length : Nat) : Int))) rfl rfl (V.len Try.underlying22 rfl) ?_
  refine J.val (v := .int .i64 0) rfl rfl (V.mv rfl) ?_
  refine J.nil ?_
  obtain ⟨o1058, ho1059, h⟩ := ob h
  refine CJ.meetN (fun ρ K' L' => ∃ (l1053 : (List (Int × Int × Int × Int × Bool))) (ad1054 : Option Addr) (cp1055 : Nat), l1053 = o1058 ∧ Fits [(9, .slice ad1054 l1053.length cp1055)] ρ ∧ K = K' ∧ L' = Row Hp.nil 40 (.cons (.int .i64) (.cons (.int .i64) (.cons (.int .i64) (.cons (.int .i64) (.one .bool))))) (.slice ad1054 l1053.length cp1055) l1053 :: F) ?_ ?_
  · skip
    refine CJ.block ?_
    refine CJ.by (fun w hs => Sep.rowNil (e := 40) (t := (.cons (.int .i64) (.cons (.int .i64) (.cons (.int .i64) (.cons (.int .i64) (.one .bool)))))) hs) ?_
    refine CJ.loop (fun s ρ K' L' => ∃ (l1175 : (List (Int × Int × Int × Int × Bool))) (i1180 : Int) (ad1176 : Option Addr) (cp1177 : Nat), (l1175, i1180) = s ∧ Fits [(0, .slice adxa_0 xa.length cpxa_0), (1, .slice adxb_0 xb.length cpxb_0), (2, .int .i64 xc), (3, .int .i64 xd), (9, .slice ad1176 l1175.length cp1177), (12, .int .i64 (((xa.length : Nat) : Int))), (13, .int .i64 i1180)] ρ ∧ K = K' ∧ L' = Row Hp.nil 40 (.cons (.int .i64) (.cons (.int .i64) (.cons (.int .i64) (.cons (.int .i64) (.one .bool))))) (.slice ad1176 l1175.length cp1177) l1175 :: F) ho1059 ⟨[], 0, none, 0, rfl, ⟨rfl, rfl, rfl, rfl, rfl, rfl, rfl, trivial⟩, rfl, rfl⟩ ?_
    rintro s ρ _ _ r1298 ⟨l1175, i1180, ad1176, cp1177, rfl, hf1296, rfl, rfl⟩ h1294
    obtain ⟨ρ, rfl⟩ := hf1296.ex
    refine CJ.wit Row.hn (fun hn1179 => ?_)
    refine CJ.seq ?_
    refine CJ.region ?_
    refine J.val (v := .bool (decide (i1180 < (((xa.length : Nat) : Int))))) rfl rfl (V.lss rfl rfl) ?_
    refine J.nil ?_
    refine CJ.seq ?_
    refine CJ.cond rfl (fun hc1299 => ?_) (fun hc1299 => ?_)
    · have h1294 := ct hc1299 h1294
      refine CJ.skip ?_
      refine CJ.seq ?_
      refine CJ.block ?_
      refine CJ.seq ?_
      refine CJ.region ?_
      refine J.val (v := .int .i64 i1180) rfl rfl (V.mv rfl) ?_
      refine J.val (v := .int .i64 i1180) rfl rfl (V.as rfl) ?_
      refine J.nil ?_
      refine CJ.seq ?_
      refine CJ.mix [Row Hp.nil 40 (.cons (.int .i64) (.cons (.int .i64) (.cons (.int .i64) (.cons (.int .i64) (.one .bool))))) (.slice ad1176 l1175.length cp1177) l1175] [([0, 1, 2, 3, 4, 5, 6, 7, 8, 9, 10, 11, 12, 13, 14, 15], 16)] [] [17, 18] mixO (by decide +kernel) ⟨0, rfl, trivial⟩ rfl rfl rfl ?_
      refine JM.cons ?_
      refine JQ.val (v := .slice ad1176 l1175.length cp1177) rfl rfl (V.mv rfl) ?_
      refine JQ.val (v := .slice adxa_0 xa.length cpxa_0) rfl rfl (V.mv rfl) ?_
      refine JQ.val (v := .int .i64 i1180) rfl rfl (V.mv rfl) ?_
      obtain ⟨x1321, hx1322, h1294⟩ := ob h1294
      obtain ⟨p1323, p1324, p1325⟩ := getI_some hx1322
      obtain ⟨b1326, o1327, e1328, a1329⟩ := (fxa_0).at p1324
      refine JQ.val rfl rfl (V.iad Try.underlying22 sz47 rfl e1328 rfl p1323 p1325) ?_
      refine JQ.val rfl rfl (V.fad Try.underlying47 rfl nz3 rfl) ?_
      refine JQ.val (v := .int .i64 x1321.1) rfl rfl (V.ld rfl (Ld.sc sc3 (Rd.k ((a1329).fst).int (Hp.le_refl _)))) ?_
      refine JQ.val (v := .slice adxb_0 xb.length cpxb_0) rfl rfl (V.mv rfl) ?_
      refine JQ.val (v := .int .i64 i1180) rfl rfl (V.mv rfl) ?_
      obtain ⟨x1330, hx1331, h1294⟩ := ob h1294
      obtain ⟨p1332, p1333, p1334⟩ := getI_some hx1331
      obtain ⟨b1335, o1336, e1337, a1338⟩ := (fxb_0).at p1333
      refine JQ.val rfl rfl (V.iad Try.underlying22 sz47 rfl e1337 rfl p1332 p1334) ?_
      refine JQ.val rfl rfl (V.fad Try.underlying47 rfl nz3 rfl) ?_
      refine JQ.val (v := .int .i64 x1330.1) rfl rfl (V.ld rfl (Ld.sc sc3 (Rd.k ((a1338).fst).int (Hp.le_refl _)))) ?_
      refine JQ.val (v := .int .i64 xc) rfl rfl (V.mv rfl) ?_
      refine JQ.val (v := .int .i64 xd) rfl rfl (V.mv rfl) ?_
      refine JQ.val (v := .int .i64 i1180) rfl rfl (V.mv rfl) ?_
      refine JQ.val (v := .int .i64 (IntKind.wrap .i64 (xd + i1180))) rfl rfl (V.add rfl rfl) ?_
      refine JQ.val (v := .agg #[.int .i64 x1321.1, .int .i64 x1330.1, .int .i64 xc, .int .i64 (IntKind.wrap .i64 (xd + i1180)), .bool false]) rfl rfl (V.build inf40 places40 rfl rfl) ?_
      refine JQ.nil ?_
      refine JA.op rfl (A.lit (K0 := Hp.nil) (ty := (.cons (.int .i64) (.cons (.int .i64) (.cons (.int .i64) (.cons (.int .i64) (.one .bool)))))) (xs := ([(x1321.1, x1330.1, xc, IntKind.wrap .i64 (xd + i1180), false)] : List (Int × Int × Int × Int × Bool))) Try.underlying27 inf40 rfl (by decide) rfl rfl rfl ⟨_, _, rfl, ⟨_, _, rfl, rfl, rfl, ⟨_, _, rfl, rfl, rfl, ⟨_, _, rfl, rfl, rfl, ⟨_, _, rfl, rfl, rfl, rfl⟩⟩⟩⟩, rfl⟩ rfl (by decide)) ?_
      rintro _ _ _ ⟨b1339, rfl, rfl, rfl⟩
      have hn1340 : ([(x1321.1, x1330.1, xc, IntKind.wrap .i64 (xd + i1180), false)] : List (Int × Int × Int × Int × Bool)) ≠ [] → ∃ g, (some ⟨b1339, 0, none⟩ : Option Addr) = some ⟨g, 0, none⟩ := fun _ => ⟨b1339, rfl⟩
      refine ⟨fun w hs => Hold.sub (Hp.le_refl _) ⟨1, rfl, trivial⟩ hs, ?_⟩
      refine JM.nil ?_
      refine JQ.nil ?_
      obtain ⟨z1342, hz1343, h1294⟩ := ob h1294
      refine J.front 1 rfl ?_
      refine J.op rfl (A.appR (Kr := Hp.nil) Try.underlying27 inf40 rfl rfl (by decide) (by decide) rfl rfl (Els.flat rfl) (Els.flat rfl) hz1343) ?_
      rintro _ _ _ ⟨v1344, rfl, rfl, rfl⟩
      refine J.wit Row.form ?_
      rintro ⟨ad1345, cp1346, rfl, _, _, hn1347⟩
      refine J.val (v := .slice ad1345 z1342.length cp1346) rfl rfl (V.as rfl) ?_
      refine J.nil ?_
      refine CJ.seq ?_
      refine CJ.region ?_
      refine J.val (v := .slice adxb_0 xb.length cpxb_0) rfl rfl (V.mv rfl) ?_
      refine J.val (v := .int .i64 i1180) rfl rfl (V.mv rfl) ?_
      obtain ⟨x1348, hx1349, h1294⟩ := ob h1294
      obtain ⟨p1350, p1351, p1352⟩ := getI_some hx1349
      obtain ⟨b1353, o1354, e1355, a1356⟩ := (fxb_0).at p1351
      refine J.val rfl rfl (V.iad Try.underlying22 sz47 rfl e1355 rfl p1350 p1352) ?_
      refine J.val rfl rfl (V.fad Try.underlying47 rfl nz4 rfl) ?_
      refine J.val (v := .bool x1348.2) rfl rfl (V.ld rfl (Ld.sc sc4 (Rd.k (((a1356).snd).one).bool (Hp.le_refl _)))) ?_
      refine J.nil ?_
      refine CJ.cond rfl (fun hc1357 => ?_) (fun hc1357 => ?_)
      · have h1294 := ct hc1357 h1294
        refine CJ.mix [Row Hp.nil 40 (.cons (.int .i64) (.cons (.int .i64) (.cons (.int .i64) (.cons (.int .i64) (.one .bool))))) (.slice ad1345 z1342.length cp1346) z1342] [([0, 1, 2, 3, 4, 5, 6, 7, 8, 9, 10, 11, 12, 13, 14, 15], 16)] [] [17, 18] mixO (by decide +kernel) ⟨0, rfl, trivial⟩ rfl rfl rfl ?_
        refine JM.cons ?_
        refine JQ.val (v := .slice ad1345 z1342.length cp1346) rfl rfl (V.mv rfl) ?_
        refine JQ.val (v := .slice adxb_0 xb.length cpxb_0) rfl rfl (V.mv rfl) ?_
        refine JQ.val (v := .int .i64 i1180) rfl rfl (V.mv rfl) ?_
        obtain ⟨x1379, hx1380, h1294⟩ := ob h1294
        obtain ⟨p1381, p1382, p1383⟩ := getI_some hx1380
        obtain ⟨b1384, o1385, e1386, a1387⟩ := (fxb_0).at p1382
        refine JQ.val rfl rfl (V.iad Try.underlying22 sz47 rfl e1386 rfl p1381 p1383) ?_
        refine JQ.val rfl rfl (V.fad Try.underlying47 rfl nz3 rfl) ?_
        refine JQ.val (v := .int .i64 x1379.1) rfl rfl (V.ld rfl (Ld.sc sc3 (Rd.k ((a1387).fst).int (Hp.le_refl _)))) ?_
        refine JQ.val (v := .slice adxa_0 xa.length cpxa_0) rfl rfl (V.mv rfl) ?_
        refine JQ.val (v := .int .i64 i1180) rfl rfl (V.mv rfl) ?_
        obtain ⟨x1388, hx1389, h1294⟩ := ob h1294
        obtain ⟨p1390, p1391, p1392⟩ := getI_some hx1389
        obtain ⟨b1393, o1394, e1395, a1396⟩ := (fxa_0).at p1391
        refine JQ.val rfl rfl (V.iad Try.underlying22 sz47 rfl e1395 rfl p1390 p1392) ?_
        refine JQ.val rfl rfl (V.fad Try.underlying47 rfl nz3 rfl) ?_
        refine JQ.val (v := .int .i64 x1388.1) rfl rfl (V.ld rfl (Ld.sc sc3 (Rd.k ((a1396).fst).int (Hp.le_refl _)))) ?_
        refine JQ.val (v := .int .i64 xc) rfl rfl (V.mv rfl) ?_
        refine JQ.val (v := .int .i64 xd) rfl rfl (V.mv rfl) ?_
        refine JQ.val (v := .int .i64 i1180) rfl rfl (V.mv rfl) ?_
        refine JQ.val (v := .int .i64 (IntKind.wrap .i64 (xd + i1180))) rfl rfl (V.add rfl rfl) ?_
        refine JQ.val (v := .agg #[.int .i64 x1379.1, .int .i64 x1388.1, .int .i64 xc, .int .i64 (IntKind.wrap .i64 (xd + i1180)), .bool true]) rfl rfl (V.build inf40 places40 rfl rfl) ?_
        refine JQ.nil ?_
        refine JA.op rfl (A.lit (K0 := Hp.nil) (ty := (.cons (.int .i64) (.cons (.int .i64) (.cons (.int .i64) (.cons (.int .i64) (.one .bool)))))) (xs := ([(x1379.1, x1388.1, xc, IntKind.wrap .i64 (xd + i1180), true)] : List (Int × Int × Int × Int × Bool))) Try.underlying27 inf40 rfl (by decide) rfl rfl rfl ⟨_, _, rfl, ⟨_, _, rfl, rfl, rfl, ⟨_, _, rfl, rfl, rfl, ⟨_, _, rfl, rfl, rfl, ⟨_, _, rfl, rfl, rfl, rfl⟩⟩⟩⟩, rfl⟩ rfl (by decide)) ?_
        rintro _ _ _ ⟨b1397, rfl, rfl, rfl⟩
        have hn1398 : ([(x1379.1, x1388.1, xc, IntKind.wrap .i64 (xd + i1180), true)] : List (Int × Int × Int × Int × Bool)) ≠ [] → ∃ g, (some ⟨b1397, 0, none⟩ : Option Addr) = some ⟨g, 0, none⟩ := fun _ => ⟨b1397, rfl⟩
        refine ⟨fun w hs => Hold.sub (Hp.le_refl _) ⟨1, rfl, trivial⟩ hs, ?_⟩
        refine JM.nil ?_
        refine JQ.nil ?_
        obtain ⟨z1400, hz1401, h1294⟩ := ob h1294
        refine J.front 1 rfl ?_
        refine J.op rfl (A.appR (Kr := Hp.nil) Try.underlying27 inf40 rfl rfl (by decide) (by decide) rfl rfl (Els.flat rfl) (Els.flat rfl) hz1401) ?_
        rintro _ _ _ ⟨v1402, rfl, rfl, rfl⟩
        refine J.wit Row.form ?_
        rintro ⟨ad1403, cp1404, rfl, _, _, hn1405⟩
        refine J.val (v := .slice ad1403 z1400.length cp1404) rfl rfl (V.as rfl) ?_
        refine J.nil ?_
        refine CJ.region ?_
        refine J.val (v := .int .i64 (IntKind.wrap .i64 (i1180 + 1))) rfl rfl (V.add rfl rfl) ?_
        refine J.val (v := .int .i64 (IntKind.wrap .i64 (i1180 + 1))) rfl rfl (V.mv rfl) ?_
        refine J.nil ?_
        have e := Option.some.inj h1294
        subst e
        exact ⟨rfl, ⟨z1400, IntKind.wrap .i64 (i1180 + 1), ad1403, cp1404, rfl, ⟨rfl, rfl, rfl, rfl, rfl, rfl, rfl, trivial⟩, rfl, rfl⟩⟩
      · have h1294 := cf hc1357 h1294
        refine CJ.skip ?_
        refine CJ.region ?_
        refine J.val (v := .int .i64 (IntKind.wrap .i64 (i1180 + 1))) rfl rfl (V.add rfl rfl) ?_
        refine J.val (v := .int .i64 (IntKind.wrap .i64 (i1180 + 1))) rfl rfl (V.mv rfl) ?_
        refine J.nil ?_
        have e := Option.some.inj h1294
        subst e
        exact ⟨rfl, ⟨z1342, IntKind.wrap .i64 (i1180 + 1), ad1345, cp1346, rfl, ⟨rfl, rfl, rfl, rfl, rfl, rfl, rfl, trivial⟩, rfl, rfl⟩⟩
    · have h1294 := cf hc1299 h1294
      refine CJ.exit ?_
      have e := Option.some.inj h1294
      subst e
      refine ⟨nofun, fun e => ?_⟩
      subst e
      exact ⟨rfl, ⟨l1175, ad1176, cp1177, rfl, ⟨rfl, trivial⟩, rfl, rfl⟩⟩
  · rintro ρ _ _ ⟨l1053, ad1054, cp1055, rfl, hf1406, rfl, rfl⟩
    obtain ⟨ρ, rfl⟩ := hf1406.ex
    refine PJ.wit Row.hn (fun hn1057 => ?_)
    refine PJ.done ?_
    refine CJ.seq ?_
    refine CJ.region ?_
    refine J.val (v := .slice ad1054 l1053.length cp1055) rfl rfl (V.mv rfl) ?_
    refine J.val (v := .slice ad1054 l1053.length cp1055) rfl rfl (V.as rfl) ?_
    refine J.nil ?_
    refine CJ.ret ?_
    have e := Option.some.inj h
    subst e
    exact ⟨_, [Row Hp.nil 40 (.cons (.int .i64) (.cons (.int .i64) (.cons (.int .i64) (.cons (.int .i64) (.one .bool))))) (.slice ad1054 l1053.length cp1055) l1053], Res.one rfl rfl, ⟨l1053, ad1054, cp1055, rfl, rfl, rfl⟩, (Hp.le_refl _), fun w hs => hs⟩

noncomputable def fn_relate_Flow (xa : (List (Int × Bool))) (xb : (List (Int × Bool))) (xc : Int) (xd : Int) : Option (((List (Int × Int × Int × Int × Bool)) × Int)) :=
  (fn_row_Shape xa xb).bind fun t30 => cond (!t30) (some (([], 8))) ((fn_relate_related xa xb xc xd).bind fun l38 => some ((l38, 0)))
set_option maxRecDepth 100000 in
set_option maxHeartbeats 4000000 in
theorem relate_Flow_ok {K : Hp} {xa : (List (Int × Bool))} {xb : (List (Int × Bool))} {xc : Int} {xd : Int} {adxa_0 : Option Addr} {cpxa_0 : Nat} {adxb_0 : Option Addr} {cpxb_0 : Nat} (fxa_0 : Is K (.sl (.cons (.int .i64) (.one .bool))) [.slice adxa_0 xa.length cpxa_0] xa) (fxb_0 : Is K (.sl (.cons (.int .i64) (.one .bool))) [.slice adxb_0 xb.length cpxb_0] xb) {r : ((List (Int × Int × Int × Int × Bool)) × Int)} (h : fn_relate_Flow xa xb xc xd = some r) :
    Tr Try.prog 8 #[.agg #[.slice adxa_0 xa.length cpxa_0], .agg #[.slice adxb_0 xb.length cpxb_0], .int .i64 xc, .int .i64 xd] K [] (fun v K' L' => (∃ (l20 : (List (Int × Int × Int × Int × Bool))) (i25 : Int) (ad21 : Option Addr) (cp22 : Nat), (l20, i25) = r ∧ v = .tuple #[.slice ad21 l20.length cp22, .int .i64 i25] ∧ L' = [Row Hp.nil 40 (.cons (.int .i64) (.cons (.int .i64) (.cons (.int .i64) (.cons (.int .i64) (.one .bool))))) (.slice ad21 l20.length cp22) l20]) ∧ K = K') := by
  refine Tr.k ?_
  refine Tr.of Try.func8 rfl Try.ntmps8 rfl (fun E F => ?_)
  unfold fn_relate_Flow at h
  refine CJ.seq ?_
  refine CJ.region ?_
  refine J.op rfl (A.box (v := .agg #[.slice adxa_0 xa.length cpxa_0]) (cs := [.slice adxa_0 xa.length cpxa_0]) rfl rfl) ?_
  rintro _ _ _ ⟨b26, rfl, rfl, rfl⟩
  refine J.op rfl (A.box (v := .agg #[.slice adxb_0 xb.length cpxb_0]) (cs := [.slice adxb_0 xb.length cpxb_0]) rfl rfl) ?_
  rintro _ _ _ ⟨b27, rfl, rfl, rfl⟩
  refine J.val (v := .slice none 0 0) rfl rfl (V.as rfl) ?_
  refine J.val (v := .int .i64 0) rfl rfl (V.as rfl) ?_
  refine J.nil ?_
  refine CJ.seq ?_
  refine CJ.seq ?_
  refine CJ.region ?_
  refine J.val (v := .agg #[.slice adxa_0 xa.length cpxa_0]) rfl rfl (V.ld rfl (Ld.agg (cs := [.slice adxa_0 xa.length cpxa_0]) Try.underlying24 sz24 rfl (Rd.cls 1 0 rfl rfl))) ?_
  refine J.val (v := .agg #[.slice adxb_0 xb.length cpxb_0]) rfl rfl (V.ld rfl (Ld.agg (cs := [.slice adxb_0 xb.length cpxb_0]) Try.underlying24 sz24 rfl (Rd.cls 0 0 rfl rfl))) ?_
  obtain ⟨r28, hr29, h⟩ := ob h
  refine J.op rfl (A.call (L1 := []) Try.call21 rfl (row_Shape_ok fxa_0 fxb_0 hr29) rfl rfl) ?_
  rintro _ _ _ ⟨v31, _, rfl, ⟨⟨t30, rfl, rfl, rfl⟩, rfl⟩, _, rfl⟩
  refine J.val (v := .bool (!t30)) rfl rfl (V.not rfl) ?_
  refine J.nil ?_
  refine CJ.cond rfl (fun hc34 => ?_) (fun hc34 => ?_)
  · have h := ct hc34 h
    refine CJ.seq ?_
    refine CJ.region ?_
    refine J.val (v := .slice none 0 0) rfl rfl (V.as rfl) ?_
    refine J.val (v := .int .i64 8) rfl rfl (V.as rfl) ?_
    refine J.nil ?_
    refine CJ.by (fun w hs => Sep.rowNil (e := 40) (t := (.cons (.int .i64) (.cons (.int .i64) (.cons (.int .i64) (.cons (.int .i64) (.one .bool)))))) hs) ?_
    refine CJ.ret ?_
    have e := Option.some.inj h
    subst e
    exact ⟨_, [Row Hp.nil 40 (.cons (.int .i64) (.cons (.int .i64) (.cons (.int .i64) (.cons (.int .i64) (.one .bool))))) (.slice none ((([] : List (Int × Int × Int × Int × Bool))).length) 0) (([] : List (Int × Int × Int × Int × Bool)))], Res.two rfl rfl rfl, ⟨[], 8, none, 0, rfl, rfl, rfl⟩, (Hp.le_refl _), fun w hs => (Sep.dropAt 1 rfl (Sep.dropAt 1 rfl hs))⟩
  · have h := cf hc34 h
    refine CJ.skip ?_
    refine CJ.seq ?_
    refine CJ.region ?_
    refine J.val rfl rfl (V.fad Try.underlying24 rfl nz22 rfl) ?_
    refine J.val (v := .slice adxa_0 xa.length cpxa_0) rfl rfl (V.ld rfl (Ld.sc sc22 (Rd.cl 1 rfl rfl))) ?_
    refine J.val rfl rfl (V.fad Try.underlying24 rfl nz22 rfl) ?_
    refine J.val (v := .slice adxb_0 xb.length cpxb_0) rfl rfl (V.ld rfl (Ld.sc sc22 (Rd.cl 0 rfl rfl))) ?_
    refine J.val (v := .int .i64 xc) rfl rfl (V.mv rfl) ?_
    refine J.val (v := .int .i64 xd) rfl rfl (V.mv rfl) ?_
    obtain ⟨r36, hr37, h⟩ := ob h
    refine J.op rfl (A.call (L1 := []) Try.call22 rfl (relate_related_ok fxa_0 fxb_0 hr37) rfl rfl) ?_
    rintro _ _ _ ⟨v42, _, rfl, ⟨⟨l38, ad39, cp40, rfl, rfl, rfl⟩, rfl⟩, _, rfl⟩
    refine J.wit Row.hn (fun hn41 => ?_)
    refine J.val (v := .slice ad39 l38.length cp40) rfl rfl (V.as rfl) ?_
    refine J.val (v := .int .i64 0) rfl rfl (V.as rfl) ?_
    refine J.nil ?_
    refine CJ.ret ?_
    have e := Option.some.inj h
    subst e
    exact ⟨_, [Row Hp.nil 40 (.cons (.int .i64) (.cons (.int .i64) (.cons (.int .i64) (.cons (.int .i64) (.one .bool))))) (.slice ad39 l38.length cp40) l38], Res.two rfl rfl rfl, ⟨l38, 0, ad39, cp40, rfl, rfl, rfl⟩, (Hp.le_refl _), fun w hs => (Sep.dropAt 1 rfl (Sep.dropAt 1 rfl hs))⟩
noncomputable def fn_law16_Doc_l1 (xa : (List (Int × Int × Int × Int × Bool))) : ((List (Int × Int × Int × Int × Bool)) × Int) → Option (((List (Int × Int × Int × Int × Bool)) × Int) ⊕ (List (Int × Int × Int × Int × Bool))) := fun ((l1150, i1155) : ((List (Int × Int × Int × Int × Bool)) × Int)) => cond (decide (i1155 < (((xa.length : Nat) : Int)))) ((getI xa i1155).bind fun x1318 => (getI xa i1155).bind fun x1327 => (getI xa i1155).bind fun x1336 => (getI xa i1155).bind fun x1345 => (getI xa i1155).bind fun x1354 => (app l1150 (([(x1318.1, x1327.2.1, x1336.2.2.1, x1345.2.2.2.1, x1354.2.2.2.2)] : List (Int × Int × Int × Int × Bool)))).bind fun z1366 => some (.inl ((z1366, IntKind.wrap .i64 (i1155 + 1))))) (some (.inr (l1150)))
noncomputable def fn_law16_Doc (xa : (List (Int × Int × Int × Int × Bool))) : Option ((List (Int × Int × Int × Int × Bool))) :=
  (loop (fn_law16_Doc_l1 xa) ((([] : List (Int × Int × Int × Int × Bool)), 0))).bind fun l1029 => some (l1029)
set_option maxRecDepth 100000 in
set_option maxHeartbeats 4000000 in
theorem law16_Doc_ok {K : Hp} {xa : (List (Int × Int × Int × Int × Bool))} {adxa_0 : Option Addr} {cpxa_0 : Nat} (fxa_0 : Is K (.sl (.cons (.int .i64) (.cons (.int .i64) (.cons (.int .i64) (.cons (.int .i64) (.one .bool)))))) [.slice adxa_0 xa.length cpxa_0] xa) {r : (List (Int × Int × Int × Int × Bool))} (h : fn_law16_Doc xa = some r) :
    Tr Try.prog 15 #[.slice adxa_0 xa.length cpxa_0] K [] (fun v K' L' => (∃ (l685 : (List (Int × Int × Int × Int × Bool))) (ad686 : Option Addr) (cp687 : Nat), l685 = r ∧ v = .slice ad686 l685.length cp687 ∧ L' = [Row Hp.nil 48 (.cons (.int .i64) (.cons (.int .i64) (.cons (.int .i64) (.cons (.int .i64) (.one .bool))))) (.slice ad686 l685.length cp687) l685]) ∧ K = K') := by
  refine Tr.k ?_
  refine Tr.of Try.func15 rfl Try.ntmps15 rfl (fun E F => ?_)
  unfold fn_law16_Doc at h
  refine CJ.seq ?_
  refine CJ.region ?_
  refine J.val (v := .slice none 0 0) rfl rfl (V.as rfl) ?_
  refine J.nil ?_
  refine CJ.seq ?_
  refine CJ.region ?_
  refine J.op rfl (A.lit (K0 := Hp.nil) (ty := (.cons (.int .i64) (.cons (.int .i64) (.cons (.int .i64) (.cons (.int .i64) (.one .bool)))))) (xs := ([] : List (Int × Int × Int × Int × Bool))) Try.underlying31 inf48 rfl (by decide) rfl rfl rfl rfl rfl (by decide)) ?_
  rintro _ _ _ ⟨b690, rfl, rfl, rfl⟩
  have hn691 : ([] : List (Int × Int × Int × Int × Bool)) ≠ [] → ∃ g, (some ⟨b690, 0, none⟩ : Option Addr) = some ⟨g, 0, none⟩ := fun _ => ⟨b690, rfl⟩
  refine J.val (v := .slice (some ⟨b690, 0, none⟩) ((([] : List (Int × Int × Int × Int × Bool))).length) 0) rfl rfl (V.as rfl) ?_
  refine J.nil ?_
  refine CJ.seq ?_
  refine CJ.seq ?_
  refine CJ.region ?_
  refine J.val (v := .int .i64 0) rfl rfl (V.as rfl) ?_
  refine J.nil ?_
  obtain ⟨o1034, ho1035, h⟩ := ob h
  refine CJ.meetN (fun ρ K' L' => ∃ (l1029 : (List (Int × Int × Int × Int × Bool))) (ad1030 : Option Addr) (cp1031 : Nat), l1029 = o1034 ∧ Fits [(3, .slice ad1030 l1029.length cp1031)] ρ ∧ K = K' ∧ L' = Row Hp.nil 48 (.cons (.int .i64) (.cons (.int .i64) (.cons (.int .i64) (.cons (.int .i64) (.one .bool))))) (.slice ad1030 l1029.length cp1031) l1029 :: F) ?_ ?_
  · skip
    refine CJ.block ?_
    refine CJ.loop (fun s ρ K' L' => ∃ (l1150 : (List (Int × Int × Int × Int × Bool))) (i1155 : Int) (ad1151 : Option Addr) (cp1152 : Nat), (l1150, i1155) = s ∧ Fits [(0, .slice adxa_0 xa.length cpxa_0), (3, .slice ad1151 l1150.length cp1152), (4, .int .i64 i1155)] ρ ∧ K = K' ∧ L' = Row Hp.nil 48 (.cons (.int .i64) (.cons (.int .i64) (.cons (.int .i64) (.cons (.int .i64) (.one .bool))))) (.slice ad1151 l1150.length cp1152) l1150 :: F) ho1035 ⟨([] : List (Int × Int × Int × Int × Bool)), 0, (some ⟨b690, 0, none⟩), 0, rfl, ⟨rfl, rfl, rfl, trivial⟩, rfl, rfl⟩ ?_
    rintro s ρ _ _ r1268 ⟨l1150, i1155, ad1151, cp1152, rfl, hf1266, rfl, rfl⟩ h1265
    obtain ⟨ρ, rfl⟩ := hf1266.ex
    refine CJ.wit Row.hn (fun hn1154 => ?_)
    refine CJ.seq ?_
    refine CJ.seq ?_
    refine CJ.region ?_
    refine J.val (v := .int .i64 i1155) rfl rfl (V.mv rfl) ?_
    refine J.val (v := .slice adxa_0 xa.length cpxa_0) rfl rfl (V.mv rfl) ?_
    refine J.val (v := .int .i64 (((xa.length : Nat) : Int))) rfl rfl (V.len Try.underlying27 rfl) ?_
    refine J.val (v := .bool (decide (i1155 < (((xa.length : Nat) : Int))))) rfl rfl (V.lss rfl rfl) ?_
    refine J.nil ?_
    refine CJ.cond rfl (fun hc1269 => ?_) (fun hc1269 => ?_)
    · have h1265 := ct hc1269 h1265
      refine CJ.skip ?_
      refine CJ.seq ?_
      refine CJ.block ?_
      refine CJ.mix [Row Hp.nil 48 (.cons (.int .i64) (.cons (.int .i64) (.cons (.int .i64) (.cons (.int .i64) (.one .bool))))) (.slice ad1151 l1150.length cp1152) l1150] [([0, 1, 2, 3, 4, 5, 6, 7, 8, 9, 10, 11, 12, 13, 14, 15, 16, 17, 18, 19, 20, 21, 22, 23, 24, 25, 26], 27)] [] [28, 29] mixO (by decide +kernel) ⟨0, rfl, trivial⟩ rfl rfl rfl ?_
      refine JM.cons ?_
      refine JQ.val (v := .slice ad1151 l1150.length cp1152) rfl rfl (V.mv rfl) ?_
      refine JQ.val (v := .slice adxa_0 xa.length cpxa_0) rfl rfl (V.mv rfl) ?_
      refine JQ.val (v := .int .i64 i1155) rfl rfl (V.mv rfl) ?_
      obtain ⟨x1318, hx1319, h1265⟩ := ob h1265
      obtain ⟨p1320, p1321, p1322⟩ := getI_some hx1319
      obtain ⟨b1323, o1324, e1325, a1326⟩ := (fxa_0).at p1321
      refine JQ.val rfl rfl (V.iad Try.underlying27 sz40 rfl e1325 rfl p1320 p1322) ?_
      refine JQ.val rfl rfl (V.fad Try.underlying40 rfl nz3 rfl) ?_
      refine JQ.val (v := .int .i64 x1318.1) rfl rfl (V.ld rfl (Ld.sc sc3 (Rd.k ((a1326).fst).int (Hp.le_refl _)))) ?_
      refine JQ.val (v := .slice adxa_0 xa.length cpxa_0) rfl rfl (V.mv rfl) ?_
      refine JQ.val (v := .int .i64 i1155) rfl rfl (V.mv rfl) ?_
      obtain ⟨x1327, hx1328, h1265⟩ := ob h1265
      obtain ⟨p1329, p1330, p1331⟩ := getI_some hx1328
      obtain ⟨b1332, o1333, e1334, a1335⟩ := (fxa_0).at p1330
      refine JQ.val rfl rfl (V.iad Try.underlying27 sz40 rfl e1334 rfl p1329 p1331) ?_
      refine JQ.val rfl rfl (V.fad Try.underlying40 rfl nz3 rfl) ?_
      refine JQ.val (v := .int .i64 x1327.2.1) rfl rfl (V.ld rfl (Ld.sc sc3 (Rd.k (((a1335).snd).fst).int (Hp.le_refl _)))) ?_
      refine JQ.val (v := .slice adxa_0 xa.length cpxa_0) rfl rfl (V.mv rfl) ?_
      refine JQ.val (v := .int .i64 i1155) rfl rfl (V.mv rfl) ?_
      obtain ⟨x1336, hx1337, h1265⟩ := ob h1265
      obtain ⟨p1338, p1339, p1340⟩ := getI_some hx1337
      obtain ⟨b1341, o1342, e1343, a1344⟩ := (fxa_0).at p1339
      refine JQ.val rfl rfl (V.iad Try.underlying27 sz40 rfl e1343 rfl p1338 p1340) ?_
      refine JQ.val rfl rfl (V.fad Try.underlying40 rfl nz3 rfl) ?_
      refine JQ.val (v := .int .i64 x1336.2.2.1) rfl rfl (V.ld rfl (Ld.sc sc3 (Rd.k ((((a1344).snd).snd).fst).int (Hp.le_refl _)))) ?_
      refine JQ.val (v := .slice adxa_0 xa.length cpxa_0) rfl rfl (V.mv rfl) ?_
      refine JQ.val (v := .int .i64 i1155) rfl rfl (V.mv rfl) ?_
      obtain ⟨x1345, hx1346, h1265⟩ := ob h1265
      obtain ⟨p1347, p1348, p1349⟩ := getI_some hx1346
      obtain ⟨b1350, o1351, e1352, a1353⟩ := (fxa_0).at p1348
      refine JQ.val rfl rfl (V.iad Try.underlying27 sz40 rfl e1352 rfl p1347 p1349) ?_
      refine JQ.val rfl rfl (V.fad Try.underlying40 rfl nz3 rfl) ?_
      refine JQ.val (v := .int .i64 x1345.2.2.2.1) rfl rfl (V.ld rfl (Ld.sc sc3 (Rd.k (((((a1353).snd).snd).snd).fst).int (Hp.le_refl _)))) ?_
      refine JQ.val (v := .slice adxa_0 xa.length cpxa_0) rfl rfl (V.mv rfl) ?_
      refine JQ.val (v := .int .i64 i1155) rfl rfl (V.mv rfl) ?_
      obtain ⟨x1354, hx1355, h1265⟩ := ob h1265
      obtain ⟨p1356, p1357, p1358⟩ := getI_some hx1355
      obtain ⟨b1359, o1360, e1361, a1362⟩ := (fxa_0).at p1357
      refine JQ.val rfl rfl (V.iad Try.underlying27 sz40 rfl e1361 rfl p1356 p1358) ?_
      refine JQ.val rfl rfl (V.fad Try.underlying40 rfl nz4 rfl) ?_
      refine JQ.val (v := .bool x1354.2.2.2.2) rfl rfl (V.ld rfl (Ld.sc sc4 (Rd.k ((((((a1362).snd).snd).snd).snd).one).bool (Hp.le_refl _)))) ?_
      refine JQ.val (v := .agg #[.int .i64 x1318.1, .int .i64 x1327.2.1, .int .i64 x1336.2.2.1, .int .i64 x1345.2.2.2.1, .bool x1354.2.2.2.2]) rfl rfl (V.build inf48 places48 rfl rfl) ?_
      refine JQ.nil ?_
      refine JA.op rfl (A.lit (K0 := Hp.nil) (ty := (.cons (.int .i64) (.cons (.int .i64) (.cons (.int .i64) (.cons (.int .i64) (.one .bool)))))) (xs := ([(x1318.1, x1327.2.1, x1336.2.2.1, x1345.2.2.2.1, x1354.2.2.2.2)] : List (Int × Int × Int × Int × Bool))) Try.underlying31 inf48 rfl (by decide) rfl rfl rfl ⟨_, _, rfl, ⟨_, _, rfl, rfl, rfl, ⟨_, _, rfl, rfl, rfl, ⟨_, _, rfl, rfl, rfl, ⟨_, _, rfl, rfl, rfl, rfl⟩⟩⟩⟩, rfl⟩ rfl (by decide)) ?_
      rintro _ _ _ ⟨b1363, rfl, rfl, rfl⟩
      have hn1364 : ([(x1318.1, x1327.2.1, x1336.2.2.1, x1345.2.2.2.1, x1354.2.2.2.2)] : List (Int × Int × Int × Int × Bool)) ≠ [] → ∃ g, (some ⟨b1363, 0, none⟩ : Option Addr) = some ⟨g, 0, none⟩ := fun _ => ⟨b1363, rfl⟩
      refine ⟨fun w hs => Hold.sub (Hp.le_refl _) ⟨1, rfl, trivial⟩ hs, ?_⟩
      refine JM.nil ?_
      refine JQ.nil ?_
      obtain ⟨z1366, hz1367, h1265⟩ := ob h1265
      refine J.front 1 rfl ?_
      refine J.op rfl (A.appR (Kr := Hp.nil) Try.underlying31 inf48 rfl rfl (by decide) (by decide) rfl rfl (Els.flat rfl) (Els.flat rfl) hz1367) ?_
      rintro _ _ _ ⟨v1368, rfl, rfl, rfl⟩
      refine J.wit Row.form ?_
      rintro ⟨ad1369, cp1370, rfl, _, _, hn1371⟩
      refine J.val (v := .slice ad1369 z1366.length cp1370) rfl rfl (V.as rfl) ?_
      refine J.nil ?_
      refine CJ.region ?_
      refine J.val (v := .int .i64 i1155) rfl rfl (V.mv rfl) ?_
      refine J.val (v := .int .i64 (IntKind.wrap .i64 (i1155 + 1))) rfl rfl (V.add rfl rfl) ?_
      refine J.val (v := .int .i64 (IntKind.wrap .i64 (i1155 + 1))) rfl rfl (V.as rfl) ?_
      refine J.nil ?_
      have e := Option.some.inj h1265
      subst e
      exact ⟨rfl, ⟨z1366, IntKind.wrap .i64 (i1155 + 1), ad1369, cp1370, rfl, ⟨rfl, rfl, rfl, trivial⟩, rfl, rfl⟩⟩
    · have h1265 := cf hc1269 h1265
      refine CJ.exit ?_
      have e := Option.some.inj h1265
      subst e
      refine ⟨nofun, fun e => ?_⟩
      subst e
      exact ⟨rfl, ⟨l1150, ad1151, cp1152, rfl, ⟨rfl, trivial⟩, rfl, rfl⟩⟩
  · rintro ρ _ _ ⟨l1029, ad1030, cp1031, rfl, hf1372, rfl, rfl⟩
    obtain ⟨ρ, rfl⟩ := hf1372.ex
    refine PJ.wit Row.hn (fun hn1033 => ?_)
    refine PJ.done ?_
    refine CJ.seq ?_
    refine CJ.region ?_
    refine J.val (v := .slice ad1030 l1029.length cp1031) rfl rfl (V.mv rfl) ?_
    refine J.val (v := .slice ad1030 l1029.length cp1031) rfl rfl (V.as rfl) ?_
    refine J.nil ?_
    refine CJ.ret ?_
    have e := Option.some.inj h
    subst e
    exact ⟨_, [Row Hp.nil 48 (.cons (.int .i64) (.cons (.int .i64) (.cons (.int .i64) (.cons (.int .i64) (.one .bool))))) (.slice ad1030 l1029.length cp1031) l1029], Res.one rfl rfl, ⟨l1029, ad1030, cp1031, rfl, rfl, rfl⟩, (Hp.le_refl _), fun w hs => hs⟩
noncomputable def fn_ref16_Same_l1 (xa : (List (Int × Int × Int × Int × Bool))) (xb : (List (Int × Int × Int × Int × Bool))) : Int → Option (Int ⊕ (Unit ⊕ Bool)) := fun (i413 : Int) => cond (decide (i413 < (((xa.length : Nat) : Int)))) ((getI xa i413).bind fun x476 => (getI xb i413).bind fun x485 => cond (!((decide (x476.1 = x485.1)) && ((decide (x476.2.1 = x485.2.1)) && ((decide (x476.2.2.1 = x485.2.2.1)) && ((decide (x476.2.2.2.1 = x485.2.2.2.1)) && (x476.2.2.2.2 == x485.2.2.2.2)))))) (some (.inr ((.inr (false))))) (some (.inl (IntKind.wrap .i64 (i413 + 1))))) (some (.inr ((.inl ()))))
noncomputable def fn_ref16_Same (xa : (List (Int × Int × Int × Int × Bool))) (xb : (List (Int × Int × Int × Int × Bool))) : Option Bool :=
  cond (!decide ((((xa.length : Nat) : Int)) = (((xb.length : Nat) : Int)))) (some (false)) ((loop (fn_ref16_Same_l1 xa xb) 0 : Option (Unit ⊕ Bool)).bind fun o => match o with | .inr r => some r | .inl () => some (true))
set_option maxRecDepth 100000 in
set_option maxHeartbeats 4000000 in
theorem ref16_Same_ok {K : Hp} {xa : (List (Int × Int × Int × Int × Bool))} {xb : (List (Int × Int × Int × Int × Bool))} {adxa_0 : Option Addr} {cpxa_0 : Nat} {adxb_0 : Option Addr} {cpxb_0 : Nat} (fxa_0 : Is K (.sl (.cons (.int .i64) (.cons (.int .i64) (.cons (.int .i64) (.cons (.int .i64) (.one .bool)))))) [.slice adxa_0 xa.length cpxa_0] xa) (fxb_0 : Is K (.sl (.cons (.int .i64) (.cons (.int .i64) (.cons (.int .i64) (.cons (.int .i64) (.one .bool)))))) [.slice adxb_0 xb.length cpxb_0] xb) {r : Bool} (h : fn_ref16_Same xa xb = some r) :
    Tr Try.prog 14 #[.slice adxa_0 xa.length cpxa_0, .slice adxb_0 xb.length cpxb_0] K [] (fun v K' L' => (∃ (t249 : Bool), t249 = r ∧ v = .bool t249 ∧ L' = []) ∧ K = K') := by
  refine Tr.k ?_
  refine Tr.of Try.func14 rfl Try.ntmps14 rfl (fun E F => ?_)
  unfold fn_ref16_Same at h
  refine CJ.seq ?_
  refine CJ.region ?_
  refine J.val (v := .bool false) rfl rfl (V.as rfl) ?_
  refine J.nil ?_
  refine CJ.seq ?_
  refine CJ.seq ?_
  refine CJ.region ?_
  refine J.val (v := .slice adxa_0 xa.length cpxa_0) rfl rfl (V.mv rfl) ?_
  refine J.val (v := .int .i64 (((xa.length : Nat) : Int))) rfl rfl (V.len Try.underlying31 rfl) ?_
  refine J.val (v := .slice adxb_0 xb.length cpxb_0) rfl rfl (V.mv rfl) ?_
  refine J.val (v := .int .i64 (((xb.length : Nat) : Int))) rfl rfl (V.len Try.underlying31 rfl) ?_
  refine J.val (v := .bool (!decide ((((xa.length : Nat) : Int)) = (((xb.length : Nat) : Int))))) rfl rfl (V.neq rfl rfl) ?_
  refine J.nil ?_
  refine CJ.cond rfl (fun hc250 => ?_) (fun hc250 => ?_)
  · have h := ct hc250 h
    refine CJ.seq ?_
    refine CJ.region ?_
    refine J.val (v := .bool false) rfl rfl (V.as rfl) ?_
    refine J.nil ?_
    refine CJ.ret ?_
    have e := Option.some.inj h
    subst e
    exact ⟨_, [], Res.one rfl rfl, ⟨false, rfl, rfl, rfl⟩, (Hp.le_refl _), fun w hs => hs⟩
  · have h := cf hc250 h
    refine CJ.skip ?_
    refine CJ.seq ?_
    refine CJ.seq ?_
    refine CJ.region ?_
    refine J.val (v := .int .i64 0) rfl rfl (V.as rfl) ?_
    refine J.nil ?_
    obtain ⟨o372, ho373, h⟩ := ob h
    refine CJ.joinN (o := o372) (fun s ρ K' L' => () = s ∧ Fits [] ρ ∧ K = K' ∧ F = L') ?_ ?_
    · skip
      refine CJ.block ?_
      refine CJ.loop (fun s ρ K' L' => ∃ (i413 : Int), i413 = s ∧ Fits [(0, .slice adxa_0 xa.length cpxa_0), (1, .slice adxb_0 xb.length cpxb_0), (5, .int .i64 i413)] ρ ∧ K = K' ∧ F = L') ho373 ⟨0, rfl, ⟨rfl, rfl, rfl, trivial⟩, rfl, rfl⟩ ?_
      rintro s ρ _ _ r456 ⟨i413, rfl, hf454, rfl, rfl⟩ h453
      obtain ⟨ρ, rfl⟩ := hf454.ex
      refine CJ.seq ?_
      refine CJ.seq ?_
      refine CJ.region ?_
      refine J.val (v := .int .i64 i413) rfl rfl (V.mv rfl) ?_
      refine J.val (v := .slice adxa_0 xa.length cpxa_0) rfl rfl (V.mv rfl) ?_
      refine J.val (v := .int .i64 (((xa.length : Nat) : Int))) rfl rfl (V.len Try.underlying31 rfl) ?_
      refine J.val (v := .bool (decide (i413 < (((xa.length : Nat) : Int))))) rfl rfl (V.lss rfl rfl) ?_
      refine J.nil ?_
      refine CJ.cond rfl (fun hc457 => ?_) (fun hc457 => ?_)
      · have h453 := ct hc457 h453
        refine CJ.skip ?_
        refine CJ.seq ?_
        refine CJ.block ?_
        refine CJ.seq ?_
        refine CJ.mix [] [] [0, 1, 2, 3, 4, 5, 6, 7, 8] [] mixO (by decide +kernel) trivial rfl rfl rfl ?_
        refine JM.nil ?_
        refine JQ.val (v := .slice adxa_0 xa.length cpxa_0) rfl rfl (V.mv rfl) ?_
        refine JQ.val (v := .int .i64 i413) rfl rfl (V.mv rfl) ?_
        obtain ⟨x476, hx477, h453⟩ := ob h453
        obtain ⟨p478, p479, p480⟩ := getI_some hx477
        obtain ⟨b481, o482, e483, a484⟩ := (fxa_0).at p479
        refine JQ.val rfl rfl (V.iad Try.underlying31 sz48 rfl e483 rfl p478 p480) ?_
        refine JQ.val (v := .agg #[.int .i64 x476.1, .int .i64 x476.2.1, .int .i64 x476.2.2.1, .int .i64 x476.2.2.2.1, .bool x476.2.2.2.2]) rfl rfl (V.ld rfl (Ld.aggK (cs := [.int .i64 x476.1, .int .i64 x476.2.1, .int .i64 x476.2.2.1, .int .i64 x476.2.2.2.1, .bool x476.2.2.2.2]) Try.underlying48 sz48 rfl ⟨((a484).fst).int, (((a484).snd).fst).int, ((((a484).snd).snd).fst).int, (((((a484).snd).snd).snd).fst).int, ((((((a484).snd).snd).snd).snd).one).bool, trivial⟩ (Hp.le_refl _))) ?_
        refine JQ.val (v := .slice adxb_0 xb.length cpxb_0) rfl rfl (V.mv rfl) ?_
        refine JQ.val (v := .int .i64 i413) rfl rfl (V.mv rfl) ?_
        obtain ⟨x485, hx486, h453⟩ := ob h453
        obtain ⟨p487, p488, p489⟩ := getI_some hx486
        obtain ⟨b490, o491, e492, a493⟩ := (fxb_0).at p488
        refine JQ.val rfl rfl (V.iad Try.underlying31 sz48 rfl e492 rfl p487 p489) ?_
        refine JQ.val (v := .agg #[.int .i64 x485.1, .int .i64 x485.2.1, .int .i64 x485.2.2.1, .int .i64 x485.2.2.2.1, .bool x485.2.2.2.2]) rfl rfl (V.ld rfl (Ld.aggK (cs := [.int .i64 x485.1, .int .i64 x485.2.1, .int .i64 x485.2.2.1, .int .i64 x485.2.2.2.1, .bool x485.2.2.2.2]) Try.underlying48 sz48 rfl ⟨((a493).fst).int, (((a493).snd).fst).int, ((((a493).snd).snd).fst).int, (((((a493).snd).snd).snd).fst).int, ((((((a493).snd).snd).snd).snd).one).bool, trivial⟩ (Hp.le_refl _))) ?_
        refine JQ.val (v := .bool (!((decide (x476.1 = x485.1)) && ((decide (x476.2.1 = x485.2.1)) && ((decide (x476.2.2.1 = x485.2.2.1)) && ((decide (x476.2.2.2.1 = x485.2.2.2.1)) && (x476.2.2.2.2 == x485.2.2.2.2))))))) rfl rfl (V.nest eqg48 (EqIn.st (d := 9999) rfl Try.underlying48 sih48 (EqFs.cons (by decide) (Ld0.sc sc3 rfl) (Ld0.sc sc3 rfl) (EqIn.int (d := 9998) rfl Try.underlying3) (EqFs.cons (by decide) (Ld0.sc sc3 rfl) (Ld0.sc sc3 rfl) (EqIn.int (d := 9998) rfl Try.underlying3) (EqFs.cons (by decide) (Ld0.sc sc3 rfl) (Ld0.sc sc3 rfl) (EqIn.int (d := 9998) rfl Try.underlying3) (EqFs.cons (by decide) (Ld0.sc sc3 rfl) (Ld0.sc sc3 rfl) (EqIn.int (d := 9998) rfl Try.underlying3) (EqFs.last (by decide) (Ld0.sc sc4 rfl) (Ld0.sc sc4 rfl) (EqIn.bool (d := 9998) rfl Try.underlying4))))))) rfl rfl) ?_
        refine JQ.nil ?_
        refine J.nil ?_
        refine CJ.cond rfl (fun hc494 => ?_) (fun hc494 => ?_)
        · have h453 := ct hc494 h453
          refine CJ.seq ?_
          refine CJ.region ?_
          refine J.val (v := .bool false) rfl rfl (V.as rfl) ?_
          refine J.nil ?_
          refine CJ.ret ?_
          have e := Option.some.inj h453
          subst e
          refine ⟨nofun, fun e => ?_⟩
          subst e
          refine .inr ⟨nofun, ?_⟩
          have e := Option.some.inj h
          subst e
          exact ⟨_, [], Res.one rfl rfl, ⟨false, rfl, rfl, rfl⟩, (Hp.le_refl _), fun w hs => hs⟩
        · have h453 := cf hc494 h453
          refine CJ.skip ?_
          refine CJ.region ?_
          refine J.val (v := .int .i64 i413) rfl rfl (V.mv rfl) ?_
          refine J.val (v := .int .i64 (IntKind.wrap .i64 (i413 + 1))) rfl rfl (V.add rfl rfl) ?_
          refine J.val (v := .int .i64 (IntKind.wrap .i64 (i413 + 1))) rfl rfl (V.as rfl) ?_
          refine J.nil ?_
          have e := Option.some.inj h453
          subst e
          exact ⟨rfl, ⟨IntKind.wrap .i64 (i413 + 1), rfl, ⟨rfl, rfl, rfl, trivial⟩, rfl, rfl⟩⟩
      · have h453 := cf hc457 h453
        refine CJ.exit ?_
        have e := Option.some.inj h453
        subst e
        refine ⟨nofun, fun e => ?_⟩
        subst e
        exact .inl ⟨rfl, _, rfl, ⟨rfl, trivial, rfl, rfl⟩⟩
    · rintro s ρ _ _ ho495 ⟨rfl, hf496, rfl, rfl⟩
      subst ho495
      obtain ⟨ρ, rfl⟩ := hf496.ex
      refine PJ.done ?_
      refine CJ.seq ?_
      refine CJ.region ?_
      refine J.val (v := .bool true) rfl rfl (V.as rfl) ?_
      refine J.nil ?_
      refine CJ.ret ?_
      have e := Option.some.inj h
      subst e
      exact ⟨_, [], Res.one rfl rfl, ⟨true, rfl, rfl, rfl⟩, (Hp.le_refl _), fun w hs => hs⟩

noncomputable def fn_law16_awake  : Option Bool :=
  (fn_relate_Flow (([(1, false), (2, true)] : List (Int × Bool))) (([(3, false), (4, true)] : List (Int × Bool))) 1 0).bind fun (l97, i98) => cond (decide (i98 = 0)) ((fn_law16_Doc l97).bind fun l141 => (fn_ref16_Same l141 (([(1, 3, 1, 0, false), (2, 4, 1, 1, false), (4, 2, 1, 1, true)] : List (Int × Int × Int × Int × Bool)))).bind fun t160 => some (t160)) (some (false))
set_option maxRecDepth 100000 in
set_option maxHeartbeats 4000000 in
theorem law16_awake_ok {K : Hp}    {r : Bool} (h : fn_law16_awake = some r) :
    Tr Try.prog 7 #[] K [] (fun v K' L' => (∃ (t82 : Bool), t82 = r ∧ v = .bool t82 ∧ L' = []) ∧ K = K') := by
  refine Tr.k ?_
  refine Tr.of Try.func7 rfl Try.ntmps7 rfl (fun E F => ?_)
  unfold fn_law16_awake at h
  refine CJ.seq ?_
  refine CJ.region ?_
  refine J.val (v := .bool false) rfl rfl (V.as rfl) ?_
  refine J.nil ?_
  refine CJ.seq ?_
  refine CJ.region ?_
  refine J.val (v := .agg #[.int .i64 1, .bool false]) rfl rfl (V.build inf47 places47 rfl rfl) ?_
  refine J.val (v := .agg #[.int .i64 2, .bool true]) rfl rfl (V.build inf47 places47 rfl rfl) ?_
  refine J.op rfl (A.lit (K0 := Hp.nil) (ty := (.cons (.int .i64) (.one .bool))) (xs := ([(1, false), (2, true)] : List (Int × Bool))) Try.underlying22 inf47 rfl (by decide) rfl rfl rfl ⟨_, _, rfl, ⟨_, _, rfl, rfl, rfl, rfl⟩, ⟨_, _, rfl, ⟨_, _, rfl, rfl, rfl, rfl⟩, rfl⟩⟩ rfl (by decide)) ?_
  rintro _ _ _ ⟨b83, rfl, rfl, rfl⟩
  have hn84 : ([(1, false), (2, true)] : List (Int × Bool)) ≠ [] → ∃ g, (some ⟨b83, 0, none⟩ : Option Addr) = some ⟨g, 0, none⟩ := fun _ => ⟨b83, rfl⟩
  refine J.val (v := .agg #[.slice (some ⟨b83, 0, none⟩) ((([(1, false), (2, true)] : List (Int × Bool))).length) 2]) rfl rfl (V.build inf24 places24 rfl rfl) ?_
  refine J.val (v := .agg #[.int .i64 3, .bool false]) rfl rfl (V.build inf47 places47 rfl rfl) ?_
  refine J.val (v := .agg #[.int .i64 4, .bool true]) rfl rfl (V.build inf47 places47 rfl rfl) ?_
  refine J.op rfl (A.lit (K0 := Hp.nil) (ty := (.cons (.int .i64) (.one .bool))) (xs := ([(3, false), (4, true)] : List (Int × Bool))) Try.underlying22 inf47 rfl (by decide) rfl rfl rfl ⟨_, _, rfl, ⟨_, _, rfl, rfl, rfl, rfl⟩, ⟨_, _, rfl, ⟨_, _, rfl, rfl, rfl, rfl⟩, rfl⟩⟩ rfl (by decide)) ?_
  rintro _ _ _ ⟨b86, rfl, rfl, rfl⟩
  have hn87 : ([(3, false), (4, true)] : List (Int × Bool)) ≠ [] → ∃ g, (some ⟨b86, 0, none⟩ : Option Addr) = some ⟨g, 0, none⟩ := fun _ => ⟨b86, rfl⟩
  refine J.val (v := .agg #[.slice (some ⟨b86, 0, none⟩) ((([(3, false), (4, true)] : List (Int × Bool))).length) 2]) rfl rfl (V.build inf24 places24 rfl rfl) ?_
  refine J.front 1 rfl ?_
  refine J.persist (Hp.nil_le _) (by decide) (fun K89 hK90 f91 => ?_)
  refine J.persist (Hp.nil_le _) (by decide) (fun K92 hK93 f94 => ?_)
  obtain ⟨r95, hr96, h⟩ := ob h
  refine J.op rfl (A.call (L1 := []) Try.call8 rfl (relate_Flow_ok (f91.mono hK93) f94 hr96) rfl rfl) ?_
  rintro _ _ _ ⟨v102, _, rfl, ⟨⟨l97, i98, ad99, cp100, rfl, rfl, rfl⟩, rfl⟩, _, rfl⟩
  refine J.wit Row.hn (fun hn101 => ?_)
  refine J.val (v := .tuple #[.slice ad99 l97.length cp100, .int .i64 i98]) rfl rfl (V.mv rfl) ?_
  refine J.val (v := .slice ad99 l97.length cp100) rfl rfl (V.ext rfl rfl) ?_
  refine J.val (v := .int .i64 i98) rfl rfl (V.ext rfl rfl) ?_
  refine J.val (v := .slice ad99 l97.length cp100) rfl rfl (V.as rfl) ?_
  refine J.val (v := .int .i64 i98) rfl rfl (V.as rfl) ?_
  refine J.nil ?_
  refine CJ.seq ?_
  refine CJ.region ?_
  refine J.val (v := .int .i64 i98) rfl rfl (V.mv rfl) ?_
  refine J.val (v := .bool (decide (i98 = 0))) rfl rfl (V.eql rfl rfl) ?_
  refine J.val (v := .bool (decide (i98 = 0))) rfl rfl (V.mv rfl) ?_
  rcases bt (decide (i98 = 0)) with hc135 | hc135
  · have h := ct hc135 h
    refine J.run rfl rfl rfl hc135 ?_
    refine J.val (v := .slice ad99 l97.length cp100) rfl rfl (V.mv rfl) ?_
    refine J.run rfl rfl rfl hc135 ?_
    refine J.persist (Hp.nil_le _) (by decide) (fun K136 hK137 f138 => ?_)
    obtain ⟨r139, hr140, h⟩ := ob h
    refine J.op rfl (A.call (L1 := []) Try.call15 rfl (law16_Doc_ok f138 hr140) rfl rfl) ?_
    rintro _ _ _ ⟨v145, _, rfl, ⟨⟨l141, ad142, cp143, rfl, rfl, rfl⟩, rfl⟩, _, rfl⟩
    refine J.wit Row.hn (fun hn144 => ?_)
    refine J.run rfl rfl rfl hc135 ?_
    refine J.val (v := .agg #[.int .i64 1, .int .i64 3, .int .i64 1, .int .i64 0, .bool false]) rfl rfl (V.build inf48 places48 rfl rfl) ?_
    refine J.run rfl rfl rfl hc135 ?_
    refine J.val (v := .agg #[.int .i64 2, .int .i64 4, .int .i64 1, .int .i64 1, .bool false]) rfl rfl (V.build inf48 places48 rfl rfl) ?_
    refine J.run rfl rfl rfl hc135 ?_
    refine J.val (v := .agg #[.int .i64 4, .int .i64 2, .int .i64 1, .int .i64 1, .bool true]) rfl rfl (V.build inf48 places48 rfl rfl) ?_
    refine J.run rfl rfl rfl hc135 ?_
    refine J.op rfl (A.lit (K0 := Hp.nil) (ty := (.cons (.int .i64) (.cons (.int .i64) (.cons (.int .i64) (.cons (.int .i64) (.one .bool)))))) (xs := ([(1, 3, 1, 0, false), (2, 4, 1, 1, false), (4, 2, 1, 1, true)] : List (Int × Int × Int × Int × Bool))) Try.underlying31 inf48 rfl (by decide) rfl rfl rfl ⟨_, _, rfl, ⟨_, _, rfl, rfl, rfl, ⟨_, _, rfl, rfl, rfl, ⟨_, _, rfl, rfl, rfl, ⟨_, _, rfl, rfl, rfl, rfl⟩⟩⟩⟩, ⟨_, _, rfl, ⟨_, _, rfl, rfl, rfl, ⟨_, _, rfl, rfl, rfl, ⟨_, _, rfl, rfl, rfl, ⟨_, _, rfl, rfl, rfl, rfl⟩⟩⟩⟩, ⟨_, _, rfl, ⟨_, _, rfl, rfl, rfl, ⟨_, _, rfl, rfl, rfl, ⟨_, _, rfl, rfl, rfl, ⟨_, _, rfl, rfl, rfl, rfl⟩⟩⟩⟩, rfl⟩⟩⟩ rfl (by decide)) ?_
    rintro _ _ _ ⟨b149, rfl, rfl, rfl⟩
    have hn150 : ([(1, 3, 1, 0, false), (2, 4, 1, 1, false), (4, 2, 1, 1, true)] : List (Int × Int × Int × Int × Bool)) ≠ [] → ∃ g, (some ⟨b149, 0, none⟩ : Option Addr) = some ⟨g, 0, none⟩ := fun _ => ⟨b149, rfl⟩
    refine J.run rfl rfl rfl hc135 ?_
    obtain ⟨r152, hr153, h⟩ := ob h
    refine J.front 1 rfl ?_
    refine J.op rfl (A.call (L1 := [Row Hp.nil 48 (.cons (.int .i64) (.cons (.int .i64) (.cons (.int .i64) (.cons (.int .i64) (.one .bool))))) (.slice ad142 l141.length cp143) l141, Row Hp.nil 48 (.cons (.int .i64) (.cons (.int .i64) (.cons (.int .i64) (.cons (.int .i64) (.one .bool))))) (.slice (some ⟨b149, 0, none⟩) ((([(1, 3, 1, 0, false), (2, 4, 1, 1, false), (4, 2, 1, 1, true)] : List (Int × Int × Int × Int × Bool))).length) 3) (([(1, 3, 1, 0, false), (2, 4, 1, 1, false), (4, 2, 1, 1, true)] : List (Int × Int × Int × Int × Bool)))]) Try.call14 rfl (Tr.lend (Hp.nil_le _) (by decide) (fun K154 hK155 f156 => Tr.lend (Hp.nil_le _) (by decide) (fun K157 hK158 f159 => ref16_Same_ok (f156.mono hK158) f159 hr153))) rfl rfl) ?_
    rintro _ _ _ ⟨v161, _, rfl, ⟨⟨_, ⟨_, ⟨t160, rfl, rfl, rfl⟩, rfl⟩, rfl⟩, rfl⟩, _, rfl⟩
    refine J.val (v := .bool t160) rfl rfl (V.pickT rfl hc135 rfl) ?_
    refine J.val (v := .bool t160) rfl rfl (V.as rfl) ?_
    refine J.nil ?_
    refine CJ.ret ?_
    have e := Option.some.inj h
    subst e
    exact ⟨_, [], Res.one rfl rfl, ⟨t160, rfl, rfl, rfl⟩, ((hK90.trans hK93).trans hK137), fun w hs => (Sep.dropAt 0 rfl (Sep.dropAt 0 rfl hs))⟩
  · have h := cf hc135 h
    refine J.skip rfl rfl rfl rfl hc135 ?_
    refine J.skip rfl rfl rfl rfl hc135 ?_
    refine J.skip rfl rfl rfl rfl hc135 ?_
    refine J.skip rfl rfl rfl rfl hc135 ?_
    refine J.skip rfl rfl rfl rfl hc135 ?_
    refine J.skip rfl rfl rfl rfl hc135 ?_
    refine J.skip rfl rfl rfl rfl hc135 ?_
    refine J.val (v := .bool false) rfl rfl (V.pickF rfl hc135 rfl) ?_
    refine J.val (v := .bool false) rfl rfl (V.as rfl) ?_
    refine J.nil ?_
    refine CJ.ret ?_
    have e := Option.some.inj h
    subst e
    exact ⟨_, [], Res.one rfl rfl, ⟨false, rfl, rfl, rfl⟩, (hK90.trans hK93), fun w hs => (Sep.dropAt 0 rfl hs)⟩
noncomputable def fn_ref15_Shape_l1 (xa : (List (Int × Bool))) (xb : (List (Int × Bool))) : Int → Option (Int ⊕ (Unit ⊕ Bool)) := fun (i417 : Int) => cond (decide (i417 < (((xa.length : Nat) : Int)))) ((getI xa i417).bind fun x480 => (getI xb i417).bind fun x489 => cond (!(x480.2 == x489.2)) (some (.inr ((.inr (false))))) (some (.inl (IntKind.wrap .i64 (i417 + 1))))) (some (.inr ((.inl ()))))
noncomputable def fn_ref15_Shape (xa : (List (Int × Bool))) (xb : (List (Int × Bool))) : Option Bool :=
  cond (!decide ((((xa.length : Nat) : Int)) = (((xb.length : Nat) : Int)))) (some (false)) ((loop (fn_ref15_Shape_l1 xa xb) 0 : Option (Unit ⊕ Bool)).bind fun o => match o with | .inr r => some r | .inl () => some (true))
set_option maxRecDepth 100000 in
set_option maxHeartbeats 4000000 in
theorem ref15_Shape_ok {K : Hp} {xa : (List (Int × Bool))} {xb : (List (Int × Bool))} {adxa_0 : Option Addr} {cpxa_0 : Nat} {adxb_0 : Option Addr} {cpxb_0 : Nat} (fxa_0 : Is K (.sl (.cons (.int .i64) (.one .bool))) [.slice adxa_0 xa.length cpxa_0] xa) (fxb_0 : Is K (.sl (.cons (.int .i64) (.one .bool))) [.slice adxb_0 xb.length cpxb_0] xb) {r : Bool} (h : fn_ref15_Shape xa xb = some r) :
    Tr Try.prog 23 #[.agg #[.slice adxa_0 xa.length cpxa_0], .agg #[.slice adxb_0 xb.length cpxb_0]] K [] (fun v K' L' => (∃ (t251 : Bool), t251 = r ∧ v = .bool t251 ∧ L' = []) ∧ K = K') := by
  refine Tr.k ?_
  refine Tr.of Try.func23 rfl Try.ntmps23 rfl (fun E F => ?_)
  unfold fn_ref15_Shape at h
  refine CJ.seq ?_
  refine CJ.region ?_
  refine J.op rfl (A.box (v := .agg #[.slice adxa_0 xa.length cpxa_0]) (cs := [.slice adxa_0 xa.length cpxa_0]) rfl rfl) ?_
  rintro _ _ _ ⟨b252, rfl, rfl, rfl⟩
  refine J.op rfl (A.box (v := .agg #[.slice adxb_0 xb.length cpxb_0]) (cs := [.slice adxb_0 xb.length cpxb_0]) rfl rfl) ?_
  rintro _ _ _ ⟨b253, rfl, rfl, rfl⟩
  refine J.val (v := .bool false) rfl rfl (V.as rfl) ?_
  refine J.nil ?_
  refine CJ.seq ?_
  refine CJ.seq ?_
  refine CJ.region ?_
  refine J.val rfl rfl (V.fad Try.underlying24 rfl nz22 rfl) ?_
  refine J.val (v := .slice adxa_0 xa.length cpxa_0) rfl rfl (V.ld rfl (Ld.sc sc22 (Rd.cl 1 rfl rfl))) ?_
  refine J.val (v := .int .i64 (((xa.length : Nat) : Int))) rfl rfl (V.len Try.underlying22 rfl) ?_
  refine J.val rfl rfl (V.fad Try.underlying24 rfl nz22 rfl) ?_
  refine J.val (v := .slice adxb_0 xb.length cpxb_0) rfl rfl (V.ld rfl (Ld.sc sc22 (Rd.cl 0 rfl rfl))) ?_
  refine J.val (v := .int .i64 (((xb.length : Nat) : Int))) rfl rfl (V.len Try.underlying22 rfl) ?_
  refine J.val (v := .bool (!decide ((((xa.length : Nat) : Int)) = (((xb.length : Nat) : Int))))) rfl rfl (V.neq rfl rfl) ?_
  refine J.nil ?_
  refine CJ.cond rfl (fun hc254 => ?_) (fun hc254 => ?_)
  · have h := ct hc254 h
    refine CJ.seq ?_
    refine CJ.region ?_
    refine J.val (v := .bool false) rfl rfl (V.as rfl) ?_
    refine J.nil ?_
    refine CJ.ret ?_
    have e := Option.some.inj h
    subst e
    exact ⟨_, [], Res.one rfl rfl, ⟨false, rfl, rfl, rfl⟩, (Hp.le_refl _), fun w hs => (Sep.dropAt 0 rfl (Sep.dropAt 0 rfl hs))⟩
  · have h := cf hc254 h
    refine CJ.skip ?_
    refine CJ.seq ?_
    refine CJ.seq ?_
    refine CJ.region ?_
    refine J.val (v := .int .i64 0) rfl rfl (V.as rfl) ?_
    refine J.nil ?_
    obtain ⟨o376, ho377, h⟩ := ob h
    refine CJ.joinN (o := o376) (fun s ρ K' L' => () = s ∧ Fits [] ρ ∧ K = K' ∧ F = L') ?_ ?_
    · skip
      refine CJ.block ?_
      refine CJ.front 1 rfl ?_
      refine CJ.loop (fun s ρ K' L' => ∃ (i417 : Int), i417 = s ∧ Fits [(2, .pointer (some ⟨b252, 0, none⟩)), (3, .pointer (some ⟨b253, 0, none⟩)), (5, .int .i64 i417)] ρ ∧ K = K' ∧ L' = Cl b252 24 [.slice adxa_0 xa.length cpxa_0] :: Cl b253 24 [.slice adxb_0 xb.length cpxb_0] :: F) ho377 ⟨0, rfl, ⟨rfl, rfl, rfl, trivial⟩, rfl, rfl⟩ ?_
      rintro s ρ _ _ r460 ⟨i417, rfl, hf458, rfl, rfl⟩ h457
      obtain ⟨ρ, rfl⟩ := hf458.ex
      refine CJ.seq ?_
      refine CJ.seq ?_
      refine CJ.region ?_
      refine J.val (v := .int .i64 i417) rfl rfl (V.mv rfl) ?_
      refine J.val rfl rfl (V.fad Try.underlying24 rfl nz22 rfl) ?_
      refine J.val (v := .slice adxa_0 xa.length cpxa_0) rfl rfl (V.ld rfl (Ld.sc sc22 (Rd.cl 0 rfl rfl))) ?_
      refine J.val (v := .int .i64 (((xa.length : Nat) : Int))) rfl rfl (V.len Try.underlying22 rfl) ?_
      refine J.val (v := .bool (decide (i417 < (((xa.length : Nat) : Int))))) rfl rfl (V.lss rfl rfl) ?_
      refine J.nil ?_
      refine CJ.cond rfl (fun hc461 => ?_) (fun hc461 => ?_)
      · have h457 := ct hc461 h457
        refine CJ.skip ?_
        refine CJ.seq ?_
        refine CJ.block ?_
        refine CJ.seq ?_
        refine CJ.mix [Cl b252 24 [.slice adxa_0 xa.length cpxa_0], Cl b253 24 [.slice adxb_0 xb.length cpxb_0]] [] [0, 1, 2, 3, 4, 5, 6, 7, 8, 9, 10, 11, 12] [] mixO (by decide +kernel) ⟨0, rfl, 0, rfl, trivial⟩ rfl rfl rfl ?_
        refine JM.nil ?_
        refine JQ.val rfl rfl (V.fad Try.underlying24 rfl nz22 rfl) ?_
        refine JQ.val (v := .slice adxa_0 xa.length cpxa_0) rfl rfl (V.ld rfl (Ld.sc sc22 (Rd.cl 0 rfl rfl))) ?_
        refine JQ.val (v := .int .i64 i417) rfl rfl (V.mv rfl) ?_
        obtain ⟨x480, hx481, h457⟩ := ob h457
        obtain ⟨p482, p483, p484⟩ := getI_some hx481
        obtain ⟨b485, o486, e487, a488⟩ := (fxa_0).at p483
        refine JQ.val rfl rfl (V.iad Try.underlying22 sz47 rfl e487 rfl p482 p484) ?_
        refine JQ.val rfl rfl (V.fad Try.underlying47 rfl nz4 rfl) ?_
        refine JQ.val (v := .bool x480.2) rfl rfl (V.ld rfl (Ld.sc sc4 (Rd.k (((a488).snd).one).bool (Hp.le_refl _)))) ?_
        refine JQ.val rfl rfl (V.fad Try.underlying24 rfl nz22 rfl) ?_
        refine JQ.val (v := .slice adxb_0 xb.length cpxb_0) rfl rfl (V.ld rfl (Ld.sc sc22 (Rd.cl 1 rfl rfl))) ?_
        refine JQ.val (v := .int .i64 i417) rfl rfl (V.mv rfl) ?_
        obtain ⟨x489, hx490, h457⟩ := ob h457
        obtain ⟨p491, p492, p493⟩ := getI_some hx490
        obtain ⟨b494, o495, e496, a497⟩ := (fxb_0).at p492
        refine JQ.val rfl rfl (V.iad Try.underlying22 sz47 rfl e496 rfl p491 p493) ?_
        refine JQ.val rfl rfl (V.fad Try.underlying47 rfl nz4 rfl) ?_
        refine JQ.val (v := .bool x489.2) rfl rfl (V.ld rfl (Ld.sc sc4 (Rd.k (((a497).snd).one).bool (Hp.le_refl _)))) ?_
        refine JQ.val (v := .bool (!(x480.2 == x489.2))) rfl rfl (V.neb Try.underlying4 rfl rfl) ?_
        refine JQ.nil ?_
        refine J.nil ?_
        refine CJ.cond rfl (fun hc498 => ?_) (fun hc498 => ?_)
        · have h457 := ct hc498 h457
          refine CJ.seq ?_
          refine CJ.region ?_
          refine J.val (v := .bool false) rfl rfl (V.as rfl) ?_
          refine J.nil ?_
          refine CJ.ret ?_
          have e := Option.some.inj h457
          subst e
          refine ⟨nofun, fun e => ?_⟩
          subst e
          refine .inr ⟨nofun, ?_⟩
          have e := Option.some.inj h
          subst e
          exact ⟨_, [], Res.one rfl rfl, ⟨false, rfl, rfl, rfl⟩, (Hp.le_refl _), fun w hs => (Sep.dropAt 0 rfl (Sep.dropAt 0 rfl hs))⟩
        · have h457 := cf hc498 h457
          refine CJ.skip ?_
          refine CJ.region ?_
          refine J.val (v := .int .i64 i417) rfl rfl (V.mv rfl) ?_
          refine J.val (v := .int .i64 (IntKind.wrap .i64 (i417 + 1))) rfl rfl (V.add rfl rfl) ?_
          refine J.val (v := .int .i64 (IntKind.wrap .i64 (i417 + 1))) rfl rfl (V.as rfl) ?_
          refine J.nil ?_
          have e := Option.some.inj h457
          subst e
          exact ⟨rfl, ⟨IntKind.wrap .i64 (i417 + 1), rfl, ⟨rfl, rfl, rfl, trivial⟩, rfl, rfl⟩⟩
      · have h457 := cf hc461 h457
        refine CJ.dropAt 0 rfl ?_
        refine CJ.dropAt 0 rfl ?_
        refine CJ.exit ?_
        have e := Option.some.inj h457
        subst e
        refine ⟨nofun, fun e => ?_⟩
        subst e
        exact .inl ⟨rfl, _, rfl, ⟨rfl, trivial, rfl, rfl⟩⟩
    · rintro s ρ _ _ ho499 ⟨rfl, hf500, rfl, rfl⟩
      subst ho499
      obtain ⟨ρ, rfl⟩ := hf500.ex
      refine PJ.done ?_
      refine CJ.seq ?_
      refine CJ.region ?_
      refine J.val (v := .bool true) rfl rfl (V.as rfl) ?_
      refine J.nil ?_
      refine CJ.ret ?_
      have e := Option.some.inj h
      subst e
      exact ⟨_, [], Res.one rfl rfl, ⟨true, rfl, rfl, rfl⟩, (Hp.le_refl _), fun w hs => hs⟩
noncomputable def fn_ref16_slots_rkkii_l1 (xb : (List (Int × Bool))) (xc : (List (Int × Bool))) (xd : Int) (xe : Int) : ((List (Int × Int × Int × Int × Bool)) × Int) → Option (((List (Int × Int × Int × Int × Bool)) × Int) ⊕ (List (Int × Int × Int × Int × Bool))) := fun ((l1184, i1189) : ((List (Int × Int × Int × Int × Bool)) × Int)) => cond (decide (i1189 < (((xb.length : Nat) : Int)))) ((getI xb i1189).bind fun x1329 => (getI xc i1189).bind fun x1338 => (app l1184 (([(x1329.1, x1338.1, xd, IntKind.wrap .i64 (xe + i1189), false)] : List (Int × Int × Int × Int × Bool)))).bind fun z1350 => (getI xc i1189).bind fun x1356 => cond (x1356.2) ((getI xc i1189).bind fun x1387 => (getI xb i1189).bind fun x1396 => (app z1350 (([(x1387.1, x1396.1, xd, IntKind.wrap .i64 (xe + i1189), true)] : List (Int × Int × Int × Int × Bool)))).bind fun z1408 => some (.inl ((z1408, IntKind.wrap .i64 (i1189 + 1))))) (some (.inl ((z1350, IntKind.wrap .i64 (i1189 + 1)))))) (some (.inr (l1184)))
noncomputable def fn_ref16_slots_rkkii (xb : (List (Int × Bool))) (xc : (List (Int × Bool))) (xd : Int) (xe : Int) (qxa : (List (Int × Int × Int × Int × Bool))) : Option ((List (Int × Int × Int × Int × Bool))) :=
  (loop (fn_ref16_slots_rkkii_l1 xb xc xd xe) (qxa, 0)).bind fun l1059 => some (l1059)
set_option maxRecDepth 100000 in
set_option maxHeartbeats 4000000 in
theorem ref16_slots_rkkii_ok {K : Hp} {xb : (List (Int × Bool))} {xc : (List (Int × Bool))} {xd : Int} {xe : Int} {qxa : (List (Int × Int × Int × Int × Bool))} {adxb_0 : Option Addr} {cpxb_0 : Nat} {adxc_0 : Option Addr} {cpxc_0 : Nat} {adqxa : Option Addr} {cpqxa : Nat} (fxb_0 : Is K (.sl (.cons (.int .i64) (.one .bool))) [.slice adxb_0 xb.length cpxb_0] xb) (fxc_0 : Is K (.sl (.cons (.int .i64) (.one .bool))) [.slice adxc_0 xc.length cpxc_0] xc) {r : (List (Int × Int × Int × Int × Bool))} (h : fn_ref16_slots_rkkii xb xc xd xe qxa = some r) :
    Tr Try.prog 24 #[.slice adqxa qxa.length cpqxa, .slice adxb_0 xb.length cpxb_0, .slice adxc_0 xc.length cpxc_0, .int .i64 xd, .int .i64 xe] K [Row Hp.nil 48 (.cons (.int .i64) (.cons (.int .i64) (.cons (.int .i64) (.cons (.int .i64) (.one .bool))))) (.slice adqxa qxa.length cpqxa) qxa] (fun v K' L' => (∃ (l706 : (List (Int × Int × Int × Int × Bool))) (ad707 : Option Addr) (cp708 : Nat), l706 = r ∧ v = .slice ad707 l706.length cp708 ∧ L' = [Row Hp.nil 48 (.cons (.int .i64) (.cons (.int .i64) (.cons (.int .i64) (.cons (.int .i64) (.one .bool))))) (.slice ad707 l706.length cp708) l706]) ∧ K = K') := by
  refine Tr.k ?_
  refine Tr.of Try.func24 rfl Try.ntmps24 rfl (fun E F => ?_)
  unfold fn_ref16_slots_rkkii at h
  refine CJ.wit Row.hn (fun hnqxa => ?_)
  refine CJ.seq ?_
  refine CJ.region ?_
  refine J.val (v := .slice none 0 0) rfl rfl (V.as rfl) ?_
  refine J.nil ?_
  refine CJ.seq ?_
  refine CJ.seq ?_
  refine CJ.region ?_
  refine J.val (v := .int .i64 0) rfl rfl (V.as rfl) ?_
  refine J.nil ?_
  obtain ⟨o1064, ho1065, h⟩ := ob h
  refine CJ.meetN (fun ρ K' L' => ∃ (l1059 : (List (Int × Int × Int × Int × Bool))) (ad1060 : Option Addr) (cp1061 : Nat), l1059 = o1064 ∧ Fits [(0, .slice ad1060 l1059.length cp1061)] ρ ∧ K = K' ∧ L' = Row Hp.nil 48 (.cons (.int .i64) (.cons (.int .i64) (.cons (.int .i64) (.cons (.int .i64) (.one .bool))))) (.slice ad1060 l1059.length cp1061) l1059 :: F) ?_ ?_
  · skip
    refine CJ.block ?_
    refine CJ.loop (fun s ρ K' L' => ∃ (l1184 : (List (Int × Int × Int × Int × Bool))) (i1189 : Int) (ad1185 : Option Addr) (cp1186 : Nat), (l1184, i1189) = s ∧ Fits [(0, .slice ad1185 l1184.length cp1186), (1, .slice adxb_0 xb.length cpxb_0), (2, .slice adxc_0 xc.length cpxc_0), (3, .int .i64 xd), (4, .int .i64 xe), (11, .int .i64 i1189)] ρ ∧ K = K' ∧ L' = Row Hp.nil 48 (.cons (.int .i64) (.cons (.int .i64) (.cons (.int .i64) (.cons (.int .i64) (.one .bool))))) (.slice ad1185 l1184.length cp1186) l1184 :: F) ho1065 ⟨qxa, 0, adqxa, cpqxa, rfl, ⟨rfl, rfl, rfl, rfl, rfl, rfl, trivial⟩, rfl, rfl⟩ ?_
    rintro s ρ _ _ r1306 ⟨l1184, i1189, ad1185, cp1186, rfl, hf1304, rfl, rfl⟩ h1303
    obtain ⟨ρ, rfl⟩ := hf1304.ex
    refine CJ.wit Row.hn (fun hn1188 => ?_)
    refine CJ.seq ?_
    refine CJ.seq ?_
    refine CJ.region ?_
    refine J.val (v := .int .i64 i1189) rfl rfl (V.mv rfl) ?_
    refine J.val (v := .slice adxb_0 xb.length cpxb_0) rfl rfl (V.mv rfl) ?_
    refine J.val (v := .int .i64 (((xb.length : Nat) : Int))) rfl rfl (V.len Try.underlying22 rfl) ?_
    refine J.val (v := .bool (decide (i1189 < (((xb.length : Nat) : Int))))) rfl rfl (V.lss rfl rfl) ?_
    refine J.nil ?_
    refine CJ.cond rfl (fun hc1307 => ?_) (fun hc1307 => ?_)
    · have h1303 := ct hc1307 h1303
      refine CJ.skip ?_
      refine CJ.seq ?_
      refine CJ.block ?_
      refine CJ.seq ?_
      refine CJ.mix [Row Hp.nil 48 (.cons (.int .i64) (.cons (.int .i64) (.cons (.int .i64) (.cons (.int .i64) (.one .bool))))) (.slice ad1185 l1184.length cp1186) l1184] [([0, 1, 2, 3, 4, 5, 6, 7, 8, 9, 10, 11, 12, 13, 14, 15], 16)] [] [17, 18] mixO (by decide +kernel) ⟨0, rfl, trivial⟩ rfl rfl rfl ?_
      refine JM.cons ?_
      refine JQ.val (v := .slice ad1185 l1184.length cp1186) rfl rfl (V.mv rfl) ?_
      refine JQ.val (v := .slice adxb_0 xb.length cpxb_0) rfl rfl (V.mv rfl) ?_
      refine JQ.val (v := .int .i64 i1189) rfl rfl (V.mv rfl) ?_
      obtain ⟨x1329, hx1330, h1303⟩ := ob h1303
      obtain ⟨p1331, p1332, p1333⟩ := getI_some hx1330
      obtain ⟨b1334, o1335, e1336, a1337⟩ := (fxb_0).at p1332
      refine JQ.val rfl rfl (V.iad Try.underlying22 sz47 rfl e1336 rfl p1331 p1333) ?_
      refine JQ.val rfl rfl (V.fad Try.underlying47 rfl nz3 rfl) ?_
      refine JQ.val (v := .int .i64 x1329.1) rfl rfl (V.ld rfl (Ld.sc sc3 (Rd.k ((a1337).fst).int (Hp.le_refl _)))) ?_
      refine JQ.val (v := .slice adxc_0 xc.length cpxc_0) rfl rfl (V.mv rfl) ?_
      refine JQ.val (v := .int .i64 i1189) rfl rfl (V.mv rfl) ?_
      obtain ⟨x1338, hx1339, h1303⟩ := ob h1303
      obtain ⟨p1340, p1341, p1342⟩ := getI_some hx1339
      obtain ⟨b1343, o1344, e1345, a1346⟩ := (fxc_0).at p1341
      refine JQ.val rfl rfl (V.iad Try.underlying22 sz47 rfl e1345 rfl p1340 p1342) ?_
      refine JQ.val rfl rfl (V.fad Try.underlying47 rfl nz3 rfl) ?_
      refine JQ.val (v := .int .i64 x1338.1) rfl rfl (V.ld rfl (Ld.sc sc3 (Rd.k ((a1346).fst).int (Hp.le_refl _)))) ?_
      refine JQ.val (v := .int .i64 xd) rfl rfl (V.mv rfl) ?_
      refine JQ.val (v := .int .i64 xe) rfl rfl (V.mv rfl) ?_
      refine JQ.val (v := .int .i64 i1189) rfl rfl (V.mv rfl) ?_
      refine JQ.val (v := .int .i64 (IntKind.wrap .i64 (xe + i1189))) rfl rfl (V.add rfl rfl) ?_
      refine JQ.val (v := .agg #[.int .i64 x1329.1, .int .i64 x1338.1, .int .i64 xd, .int .i64 (IntKind.wrap .i64 (xe + i1189)), .bool false]) rfl rfl (V.build inf48 places48 rfl rfl) ?_
      refine JQ.nil ?_
      refine JA.op rfl (A.lit (K0 := Hp.nil) (ty := (.cons (.int .i64) (.cons (.int .i64) (.cons (.int .i64) (.cons (.int .i64) (.one .bool)))))) (xs := ([(x1329.1, x1338.1, xd, IntKind.wrap .i64 (xe + i1189), false)] : List (Int × Int × Int × Int × Bool))) Try.underlying31 inf48 rfl (by decide) rfl rfl rfl ⟨_, _, rfl, ⟨_, _, rfl, rfl, rfl, ⟨_, _, rfl, rfl, rfl, ⟨_, _, rfl, rfl, rfl, ⟨_, _, rfl, rfl, rfl, rfl⟩⟩⟩⟩, rfl⟩ rfl (by decide)) ?_
      rintro _ _ _ ⟨b1347, rfl, rfl, rfl⟩
      have hn1348 : ([(x1329.1, x1338.1, xd, IntKind.wrap .i64 (xe + i1189), false)] : List (Int × Int × Int × Int × Bool)) ≠ [] → ∃ g, (some ⟨b1347, 0, none⟩ : Option Addr) = some ⟨g, 0, none⟩ := fun _ => ⟨b1347, rfl⟩
      refine ⟨fun w hs => Hold.sub (Hp.le_refl _) ⟨1, rfl, trivial⟩ hs, ?_⟩
      refine JM.nil ?_
      refine JQ.nil ?_
      obtain ⟨z1350, hz1351, h1303⟩ := ob h1303
      refine J.front 1 rfl ?_
      refine J.op rfl (A.appR (Kr := Hp.nil) Try.underlying31 inf48 rfl rfl (by decide) (by decide) rfl rfl (Els.flat rfl) (Els.flat rfl) hz1351) ?_
      rintro _ _ _ ⟨v1352, rfl, rfl, rfl⟩
      refine J.wit Row.form ?_
      rintro ⟨ad1353, cp1354, rfl, _, _, hn1355⟩
      refine J.val (v := .slice ad1353 z1350.length cp1354) rfl rfl (V.as rfl) ?_
      refine J.nil ?_
      refine CJ.seq ?_
      refine CJ.region ?_
      refine J.val (v := .slice adxc_0 xc.length cpxc_0) rfl rfl (V.mv rfl) ?_
      refine J.val (v := .int .i64 i1189) rfl rfl (V.mv rfl) ?_
      obtain ⟨x1356, hx1357, h1303⟩ := ob h1303
      obtain ⟨p1358, p1359, p1360⟩ := getI_some hx1357
      obtain ⟨b1361, o1362, e1363, a1364⟩ := (fxc_0).at p1359
      refine J.val rfl rfl (V.iad Try.underlying22 sz47 rfl e1363 rfl p1358 p1360) ?_
      refine J.val rfl rfl (V.fad Try.underlying47 rfl nz4 rfl) ?_
      refine J.val (v := .bool x1356.2) rfl rfl (V.ld rfl (Ld.sc sc4 (Rd.k (((a1364).snd).one).bool (Hp.le_refl _)))) ?_
      refine J.nil ?_
      refine CJ.cond rfl (fun hc1365 => ?_) (fun hc1365 => ?_)
      · have h1303 := ct hc1365 h1303
        refine CJ.mix [Row Hp.nil 48 (.cons (.int .i64) (.cons (.int .i64) (.cons (.int .i64) (.cons (.int .i64) (.one .bool))))) (.slice ad1353 z1350.length cp1354) z1350] [([0, 1, 2, 3, 4, 5, 6, 7, 8, 9, 10, 11, 12, 13, 14, 15], 16)] [] [17, 18] mixO (by decide +kernel) ⟨0, rfl, trivial⟩ rfl rfl rfl ?_
        refine JM.cons ?_
        refine JQ.val (v := .slice ad1353 z1350.length cp1354) rfl rfl (V.mv rfl) ?_
        refine JQ.val (v := .slice adxc_0 xc.length cpxc_0) rfl rfl (V.mv rfl) ?_
        refine JQ.val (v := .int .i64 i1189) rfl rfl (V.mv rfl) ?_
        obtain ⟨x1387, hx1388, h1303⟩ := ob h1303
        obtain ⟨p1389, p1390, p1391⟩ := getI_some hx1388
        obtain ⟨b1392, o1393, e1394, a1395⟩ := (fxc_0).at p1390
        refine JQ.val rfl rfl (V.iad Try.underlying22 sz47 rfl e1394 rfl p1389 p1391) ?_
        refine JQ.val rfl rfl (V.fad Try.underlying47 rfl nz3 rfl) ?_
        refine JQ.val (v := .int .i64 x1387.1) rfl rfl (V.ld rfl (Ld.sc sc3 (Rd.k ((a1395).fst).int (Hp.le_refl _)))) ?_
        refine JQ.val (v := .slice adxb_0 xb.length cpxb_0) rfl rfl (V.mv rfl) ?_
        refine JQ.val (v := .int .i64 i1189) rfl rfl (V.mv rfl) ?_
        obtain ⟨x1396, hx1397, h1303⟩ := ob h1303
        obtain ⟨p1398, p1399, p1400⟩ := getI_some hx1397
        obtain ⟨b1401, o1402, e1403, a1404⟩ := (fxb_0).at p1399
        refine JQ.val rfl rfl (V.iad Try.underlying22 sz47 rfl e1403 rfl p1398 p1400) ?_
        refine JQ.val rfl rfl (V.fad Try.underlying47 rfl nz3 rfl) ?_
        refine JQ.val (v := .int .i64 x1396.1) rfl rfl (V.ld rfl (Ld.sc sc3 (Rd.k ((a1404).fst).int (Hp.le_refl _)))) ?_
        refine JQ.val (v := .int .i64 xd) rfl rfl (V.mv rfl) ?_
        refine JQ.val (v := .int .i64 xe) rfl rfl (V.mv rfl) ?_
        refine JQ.val (v := .int .i64 i1189) rfl rfl (V.mv rfl) ?_
        refine JQ.val (v := .int .i64 (IntKind.wrap .i64 (xe + i1189))) rfl rfl (V.add rfl rfl) ?_
        refine JQ.val (v := .agg #[.int .i64 x1387.1, .int .i64 x1396.1, .int .i64 xd, .int .i64 (IntKind.wrap .i64 (xe + i1189)), .bool true]) rfl rfl (V.build inf48 places48 rfl rfl) ?_
        refine JQ.nil ?_
        refine JA.op rfl (A.lit (K0 := Hp.nil) (ty := (.cons (.int .i64) (.cons (.int .i64) (.cons (.int .i64) (.cons (.int .i64) (.one .bool)))))) (xs := ([(x1387.1, x1396.1, xd, IntKind.wrap .i64 (xe + i1189), true)] : List (Int × Int × Int × Int × Bool))) Try.underlying31 inf48 rfl (by decide) rfl rfl rfl ⟨_, _, rfl, ⟨_, _, rfl, rfl, rfl, ⟨_, _, rfl, rfl, rfl, ⟨_, _, rfl, rfl, rfl, ⟨_, _, rfl, rfl, rfl, rfl⟩⟩⟩⟩, rfl⟩ rfl (by decide)) ?_
        rintro _ _ _ ⟨b1405, rfl, rfl, rfl⟩
        have hn1406 : ([(x1387.1, x1396.1, xd, IntKind.wrap .i64 (xe + i1189), true)] : List (Int × Int × Int × Int × Bool)) ≠ [] → ∃ g, (some ⟨b1405, 0, none⟩ : Option Addr) = some ⟨g, 0, none⟩ := fun _ => ⟨b1405, rfl⟩
        refine ⟨fun w hs => Hold.sub (Hp.le_refl _) ⟨1, rfl, trivial⟩ hs, ?_⟩
        refine JM.nil ?_
        refine JQ.nil ?_
        obtain ⟨z1408, hz1409, h1303⟩ := ob h1303
        refine J.front 1 rfl ?_
        refine J.op rfl (A.appR (Kr := Hp.nil) Try.underlying31 inf48 rfl rfl (by decide) (by decide) rfl rfl (Els.flat rfl) (Els.flat rfl) hz1409) ?_
        rintro _ _ _ ⟨v1410, rfl, rfl, rfl⟩
        refine J.wit Row.form ?_
        rintro ⟨ad1411, cp1412, rfl, _, _, hn1413⟩
        refine J.val (v := .slice ad1411 z1408.length cp1412) rfl rfl (V.as rfl) ?_
        refine J.nil ?_
        refine CJ.region ?_
        refine J.val (v := .int .i64 i1189) rfl rfl (V.mv rfl) ?_
        refine J.val (v := .int .i64 (IntKind.wrap .i64 (i1189 + 1))) rfl rfl (V.add rfl rfl) ?_
        refine J.val (v := .int .i64 (IntKind.wrap .i64 (i1189 + 1))) rfl rfl (V.as rfl) ?_
        refine J.nil ?_
        have e := Option.some.inj h1303
        subst e
        exact ⟨rfl, ⟨z1408, IntKind.wrap .i64 (i1189 + 1), ad1411, cp1412, rfl, ⟨rfl, rfl, rfl, rfl, rfl, rfl, trivial⟩, rfl, rfl⟩⟩
      · have h1303 := cf hc1365 h1303
        refine CJ.skip ?_
        refine CJ.region ?_
        refine J.val (v := .int .i64 i1189) rfl rfl (V.mv rfl) ?_
        refine J.val (v := .int .i64 (IntKind.wrap .i64 (i1189 + 1))) rfl rfl (V.add rfl rfl) ?_
        refine J.val (v := .int .i64 (IntKind.wrap .i64 (i1189 + 1))) rfl rfl (V.as rfl) ?_
        refine J.nil ?_
        have e := Option.some.inj h1303
        subst e
        exact ⟨rfl, ⟨z1350, IntKind.wrap .i64 (i1189 + 1), ad1353, cp1354, rfl, ⟨rfl, rfl, rfl, rfl, rfl, rfl, trivial⟩, rfl, rfl⟩⟩
    · have h1303 := cf hc1307 h1303
      refine CJ.exit ?_
      have e := Option.some.inj h1303
      subst e
      refine ⟨nofun, fun e => ?_⟩
      subst e
      exact ⟨rfl, ⟨l1184, ad1185, cp1186, rfl, ⟨rfl, trivial⟩, rfl, rfl⟩⟩
  · rintro ρ _ _ ⟨l1059, ad1060, cp1061, rfl, hf1414, rfl, rfl⟩
    obtain ⟨ρ, rfl⟩ := hf1414.ex
    refine PJ.wit Row.hn (fun hn1063 => ?_)
    refine PJ.done ?_
    refine CJ.seq ?_
    refine CJ.region ?_
    refine J.val (v := .slice ad1060 l1059.length cp1061) rfl rfl (V.mv rfl) ?_
    refine J.val (v := .slice ad1060 l1059.length cp1061) rfl rfl (V.as rfl) ?_
    refine J.nil ?_
    refine CJ.ret ?_
    have e := Option.some.inj h
    subst e
    exact ⟨_, [Row Hp.nil 48 (.cons (.int .i64) (.cons (.int .i64) (.cons (.int .i64) (.cons (.int .i64) (.one .bool))))) (.slice ad1060 l1059.length cp1061) l1059], Res.one rfl rfl, ⟨l1059, ad1060, cp1061, rfl, rfl, rfl⟩, (Hp.le_refl _), fun w hs => hs⟩

noncomputable def fn_ref16_Flow (xa : (List (Int × Bool))) (xb : (List (Int × Bool))) (xc : Int) (xd : Int) : Option (((List (Int × Int × Int × Int × Bool)) × Int)) :=
  (fn_ref15_Shape xa xb).bind fun t34 => cond (!t34) (some (([], 8))) ((fn_ref16_slots_rkkii xa xb xc xd (([] : List (Int × Int × Int × Int × Bool)))).bind fun l45 => some ((l45, 0)))
set_option maxRecDepth 100000 in
set_option maxHeartbeats 4000000 in
theorem ref16_Flow_ok {K : Hp} {xa : (List (Int × Bool))} {xb : (List (Int × Bool))} {xc : Int} {xd : Int} {adxa_0 : Option Addr} {cpxa_0 : Nat} {adxb_0 : Option Addr} {cpxb_0 : Nat} (fxa_0 : Is K (.sl (.cons (.int .i64) (.one .bool))) [.slice adxa_0 xa.length cpxa_0] xa) (fxb_0 : Is K (.sl (.cons (.int .i64) (.one .bool))) [.slice adxb_0 xb.length cpxb_0] xb) {r : ((List (Int × Int × Int × Int × Bool)) × Int)} (h : fn_ref16_Flow xa xb xc xd = some r) :
    Tr Try.prog 9 #[.agg #[.slice adxa_0 xa.length cpxa_0], .agg #[.slice adxb_0 xb.length cpxb_0], .int .i64 xc, .int .i64 xd] K [] (fun v K' L' => (∃ (l24 : (List (Int × Int × Int × Int × Bool))) (i29 : Int) (ad25 : Option Addr) (cp26 : Nat), (l24, i29) = r ∧ v = .tuple #[.slice ad25 l24.length cp26, .int .i64 i29] ∧ L' = [Row Hp.nil 48 (.cons (.int .i64) (.cons (.int .i64) (.cons (.int .i64) (.cons (.int .i64) (.one .bool))))) (.slice ad25 l24.length cp26) l24]) ∧ K = K') := by
  refine Tr.k ?_
  refine Tr.of Try.func9 rfl Try.ntmps9 rfl (fun E F => ?_)
  unfold fn_ref16_Flow at h
  refine CJ.seq ?_
  refine CJ.region ?_
  refine J.op rfl (A.box (v := .agg #[.slice adxa_0 xa.length cpxa_0]) (cs := [.slice adxa_0 xa.length cpxa_0]) rfl rfl) ?_
  rintro _ _ _ ⟨b30, rfl, rfl, rfl⟩
  refine J.op rfl (A.box (v := .agg #[.slice adxb_0 xb.length cpxb_0]) (cs := [.slice adxb_0 xb.length cpxb_0]) rfl rfl) ?_
  rintro _ _ _ ⟨b31, rfl, rfl, rfl⟩
  refine J.val (v := .slice none 0 0) rfl rfl (V.as rfl) ?_
  refine J.val (v := .int .i64 0) rfl rfl (V.as rfl) ?_
  refine J.nil ?_
  refine CJ.seq ?_
  refine CJ.seq ?_
  refine CJ.region ?_
  refine J.val (v := .agg #[.slice adxa_0 xa.length cpxa_0]) rfl rfl (V.ld rfl (Ld.agg (cs := [.slice adxa_0 xa.length cpxa_0]) Try.underlying24 sz24 rfl (Rd.cls 1 0 rfl rfl))) ?_
  refine J.val (v := .agg #[.slice adxb_0 xb.length cpxb_0]) rfl rfl (V.ld rfl (Ld.agg (cs := [.slice adxb_0 xb.length cpxb_0]) Try.underlying24 sz24 rfl (Rd.cls 0 0 rfl rfl))) ?_
  obtain ⟨r32, hr33, h⟩ := ob h
  refine J.op rfl (A.call (L1 := []) Try.call23 rfl (ref15_Shape_ok fxa_0 fxb_0 hr33) rfl rfl) ?_
  rintro _ _ _ ⟨v35, _, rfl, ⟨⟨t34, rfl, rfl, rfl⟩, rfl⟩, _, rfl⟩
  refine J.val (v := .bool (!t34)) rfl rfl (V.not rfl) ?_
  refine J.nil ?_
  refine CJ.cond rfl (fun hc38 => ?_) (fun hc38 => ?_)
  · have h := ct hc38 h
    refine CJ.seq ?_
    refine CJ.region ?_
    refine J.val (v := .slice none 0 0) rfl rfl (V.as rfl) ?_
    refine J.val (v := .int .i64 8) rfl rfl (V.as rfl) ?_
    refine J.nil ?_
    refine CJ.by (fun w hs => Sep.rowNil (e := 48) (t := (.cons (.int .i64) (.cons (.int .i64) (.cons (.int .i64) (.cons (.int .i64) (.one .bool)))))) hs) ?_
    refine CJ.ret ?_
    have e := Option.some.inj h
    subst e
    exact ⟨_, [Row Hp.nil 48 (.cons (.int .i64) (.cons (.int .i64) (.cons (.int .i64) (.cons (.int .i64) (.one .bool))))) (.slice none ((([] : List (Int × Int × Int × Int × Bool))).length) 0) (([] : List (Int × Int × Int × Int × Bool)))], Res.two rfl rfl rfl, ⟨[], 8, none, 0, rfl, rfl, rfl⟩, (Hp.le_refl _), fun w hs => (Sep.dropAt 1 rfl (Sep.dropAt 1 rfl hs))⟩
  · have h := cf hc38 h
    refine CJ.skip ?_
    refine CJ.seq ?_
    refine CJ.region ?_
    refine J.op rfl (A.lit (K0 := Hp.nil) (ty := (.cons (.int .i64) (.cons (.int .i64) (.cons (.int .i64) (.cons (.int .i64) (.one .bool)))))) (xs := ([] : List (Int × Int × Int × Int × Bool))) Try.underlying31 inf48 rfl (by decide) rfl rfl rfl rfl rfl (by decide)) ?_
    rintro _ _ _ ⟨b40, rfl, rfl, rfl⟩
    have hn41 : ([] : List (Int × Int × Int × Int × Bool)) ≠ [] → ∃ g, (some ⟨b40, 0, none⟩ : Option Addr) = some ⟨g, 0, none⟩ := fun _ => ⟨b40, rfl⟩
    refine J.val rfl rfl (V.fad Try.underlying24 rfl nz22 rfl) ?_
    refine J.val (v := .slice adxa_0 xa.length cpxa_0) rfl rfl (V.ld rfl (Ld.sc sc22 (Rd.cl 2 rfl rfl))) ?_
    refine J.val rfl rfl (V.fad Try.underlying24 rfl nz22 rfl) ?_
    refine J.val (v := .slice adxb_0 xb.length cpxb_0) rfl rfl (V.ld rfl (Ld.sc sc22 (Rd.cl 1 rfl rfl))) ?_
    refine J.val (v := .int .i64 xc) rfl rfl (V.mv rfl) ?_
    refine J.val (v := .int .i64 xd) rfl rfl (V.mv rfl) ?_
    obtain ⟨r43, hr44, h⟩ := ob h
    refine J.op rfl (A.call (L1 := [Row Hp.nil 48 (.cons (.int .i64) (.cons (.int .i64) (.cons (.int .i64) (.cons (.int .i64) (.one .bool))))) (.slice (some ⟨b40, 0, none⟩) ((([] : List (Int × Int × Int × Int × Bool))).length) 0) (([] : List (Int × Int × Int × Int × Bool)))]) Try.call24 rfl (ref16_slots_rkkii_ok fxa_0 fxb_0 hr44) rfl rfl) ?_
    rintro _ _ _ ⟨v49, _, rfl, ⟨⟨l45, ad46, cp47, rfl, rfl, rfl⟩, rfl⟩, _, rfl⟩
    refine J.wit Row.hn (fun hn48 => ?_)
    refine J.val (v := .slice ad46 l45.length cp47) rfl rfl (V.as rfl) ?_
    refine J.val (v := .int .i64 0) rfl rfl (V.as rfl) ?_
    refine J.nil ?_
    refine CJ.ret ?_
    have e := Option.some.inj h
    subst e
    exact ⟨_, [Row Hp.nil 48 (.cons (.int .i64) (.cons (.int .i64) (.cons (.int .i64) (.cons (.int .i64) (.one .bool))))) (.slice ad46 l45.length cp47) l45], Res.two rfl rfl rfl, ⟨l45, 0, ad46, cp47, rfl, rfl, rfl⟩, (Hp.le_refl _), fun w hs => (Sep.dropAt 1 rfl (Sep.dropAt 1 rfl hs))⟩
noncomputable def fn_row_Ref_l1 (xa : (List (Int × Bool))) (xc : Bool) : ((List (Int × Bool)) × Int) → Option (((List (Int × Bool)) × Int) ⊕ (List (Int × Bool))) := fun ((l354, i359) : ((List (Int × Bool)) × Int)) => cond (decide (i359 < (((xa.length : Nat) : Int)))) ((getI xa i359).bind fun x394 => (app l354 (([(x394.1, x394.2 || xc)] : List (Int × Bool)))).bind fun z410 => some (.inl ((z410, IntKind.wrap .i64 (i359 + 1))))) (some (.inr (l354)))
noncomputable def fn_row_Ref (xa : (List (Int × Bool))) (xb : Int) (xc : Bool) : Option ((List (Int × Bool))) :=
  (loop (fn_row_Ref_l1 xa xc) ((([(xb, false)] : List (Int × Bool)), 0))).bind fun l313 => some (l313)
set_option maxRecDepth 100000 in
set_option maxHeartbeats 4000000 in
theorem row_Ref_ok {K : Hp} {xa : (List (Int × Bool))} {xb : Int} {xc : Bool} {adxa_0 : Option Addr} {cpxa_0 : Nat} (fxa_0 : Is K (.sl (.cons (.int .i64) (.one .bool))) [.slice adxa_0 xa.length cpxa_0] xa) {r : (List (Int × Bool))} (h : fn_row_Ref xa xb xc = some r) :
    Tr Try.prog 25 #[.agg #[.slice adxa_0 xa.length cpxa_0], .int .i64 xb, .bool xc] K [] (fun v K' L' => (∃ (l207 : (List (Int × Bool))) (ad208 : Option Addr) (cp209 : Nat), l207 = r ∧ v = .agg #[.slice ad208 l207.length cp209] ∧ L' = [Row Hp.nil 47 (.cons (.int .i64) (.one .bool)) (.slice ad208 l207.length cp209) l207]) ∧ K = K') := by
  refine Tr.k ?_
  refine Tr.of Try.func25 rfl Try.ntmps25 rfl (fun E F => ?_)
  unfold fn_row_Ref at h
  refine CJ.seq ?_
  refine CJ.region ?_
  refine J.op rfl (A.box (v := .agg #[.slice adxa_0 xa.length cpxa_0]) (cs := [.slice adxa_0 xa.length cpxa_0]) rfl rfl) ?_
  rintro _ _ _ ⟨b212, rfl, rfl, rfl⟩
  refine J.op rfl (A.alloc (cs := [.slice none 0 0]) inf24 rfl) ?_
  rintro _ _ _ ⟨b213, rfl, rfl, rfl⟩
  refine J.nil ?_
  refine CJ.seq ?_
  refine CJ.region ?_
  refine J.val (v := .int .i64 xb) rfl rfl (V.mv rfl) ?_
  refine J.val (v := .agg #[.int .i64 xb, .bool false]) rfl rfl (V.build inf47 places47 rfl rfl) ?_
  refine J.op rfl (A.lit (K0 := Hp.nil) (ty := (.cons (.int .i64) (.one .bool))) (xs := ([(xb, false)] : List (Int × Bool))) Try.underlying22 inf47 rfl (by decide) rfl rfl rfl ⟨_, _, rfl, ⟨_, _, rfl, rfl, rfl, rfl⟩, rfl⟩ rfl (by decide)) ?_
  rintro _ _ _ ⟨b214, rfl, rfl, rfl⟩
  have hn215 : ([(xb, false)] : List (Int × Bool)) ≠ [] → ∃ g, (some ⟨b214, 0, none⟩ : Option Addr) = some ⟨g, 0, none⟩ := fun _ => ⟨b214, rfl⟩
  refine J.val (v := .slice (some ⟨b214, 0, none⟩) ((([(xb, false)] : List (Int × Bool))).length) 1) rfl rfl (V.as rfl) ?_
  refine J.nil ?_
  refine CJ.seq ?_
  refine CJ.seq ?_
  refine CJ.region ?_
  refine J.val rfl rfl (V.fad Try.underlying24 rfl nz22 rfl) ?_
  refine J.val (v := .slice adxa_0 xa.length cpxa_0) rfl rfl (V.ld rfl (Ld.sc sc22 (Rd.cl 2 rfl rfl))) ?_
  refine J.val (v := .int .i64 (((xa.length : Nat) : Int))) rfl rfl (V.len Try.underlying22 rfl) ?_
  refine J.val (v := .int .i64 0) rfl rfl (V.mv rfl) ?_
  refine J.nil ?_
  obtain ⟨o318, ho319, h⟩ := ob h
  refine CJ.meetN (fun ρ K' L' => ∃ (l313 : (List (Int × Bool))) (ad314 : Option Addr) (cp315 : Nat), l313 = o318 ∧ Fits [(6, .pointer (some ⟨b213, 0, none⟩)), (7, .slice ad314 l313.length cp315)] ρ ∧ K = K' ∧ L' = Cl b213 24 [.slice none 0 0] :: Row Hp.nil 47 (.cons (.int .i64) (.one .bool)) (.slice ad314 l313.length cp315) l313 :: F) ?_ ?_
  · skip
    refine CJ.block ?_
    refine CJ.dropAt 2 rfl ?_
    refine CJ.front 1 rfl ?_
    refine CJ.loop (fun s ρ K' L' => ∃ (l354 : (List (Int × Bool))) (i359 : Int) (ad355 : Option Addr) (cp356 : Nat), (l354, i359) = s ∧ Fits [(2, .bool xc), (6, .pointer (some ⟨b213, 0, none⟩)), (7, .slice ad355 l354.length cp356), (14, .slice adxa_0 xa.length cpxa_0), (15, .int .i64 (((xa.length : Nat) : Int))), (16, .int .i64 i359)] ρ ∧ K = K' ∧ L' = Cl b213 24 [.slice none 0 0] :: Row Hp.nil 47 (.cons (.int .i64) (.one .bool)) (.slice ad355 l354.length cp356) l354 :: F) ho319 ⟨([(xb, false)] : List (Int × Bool)), 0, (some ⟨b214, 0, none⟩), 1, rfl, ⟨rfl, rfl, rfl, rfl, rfl, rfl, trivial⟩, rfl, rfl⟩ ?_
    rintro s ρ _ _ r392 ⟨l354, i359, ad355, cp356, rfl, hf390, rfl, rfl⟩ h389
    obtain ⟨ρ, rfl⟩ := hf390.ex
    refine CJ.front 1 rfl ?_
    refine CJ.wit Row.hn (fun hn358 => ?_)
    refine CJ.seq ?_
    refine CJ.region ?_
    refine J.val (v := .bool (decide (i359 < (((xa.length : Nat) : Int))))) rfl rfl (V.lss rfl rfl) ?_
    refine J.nil ?_
    refine CJ.seq ?_
    refine CJ.cond rfl (fun hc393 => ?_) (fun hc393 => ?_)
    · have h389 := ct hc393 h389
      refine CJ.skip ?_
      refine CJ.seq ?_
      refine CJ.block ?_
      refine CJ.seq ?_
      refine CJ.region ?_
      obtain ⟨x394, hx395, h389⟩ := ob h389
      obtain ⟨p396, p397, p398⟩ := getI_some hx395
      obtain ⟨b399, o400, e401, a402⟩ := (fxa_0).at p397
      refine J.val rfl rfl (V.iad Try.underlying22 sz47 rfl e401 rfl p396 p398) ?_
      refine J.val (v := .agg #[.int .i64 x394.1, .bool x394.2]) rfl rfl (V.ld rfl (Ld.aggK (cs := [.int .i64 x394.1, .bool x394.2]) Try.underlying47 sz47 rfl ⟨((a402).fst).int, (((a402).snd).one).bool, trivial⟩ (Hp.le_refl _))) ?_
      refine J.op rfl (A.alloc (cs := [.int .i64 0, .bool false]) inf47 rfl) ?_
      rintro _ _ _ ⟨b403, rfl, rfl, rfl⟩
      refine J.op rfl (A.store (v := .agg #[.int .i64 x394.1, .bool x394.2]) (cs' := [.int .i64 x394.1, .bool x394.2]) sz47 rfl rfl rfl rfl rfl rfl) ?_
      rintro _ _ _ ⟨rfl, rfl, rfl⟩
      refine J.nil ?_
      refine CJ.region ?_
      refine J.val (v := .slice ad355 l354.length cp356) rfl rfl (V.mv rfl) ?_
      refine J.val rfl rfl (V.fad Try.underlying47 rfl nz3 rfl) ?_
      refine J.val (v := .int .i64 x394.1) rfl rfl (V.ld rfl (Ld.sc sc3 (Rd.cl 0 rfl rfl))) ?_
      refine J.val rfl rfl (V.fad Try.underlying47 rfl nz4 rfl) ?_
      refine J.val (v := .bool x394.2) rfl rfl (V.ld rfl (Ld.sc sc4 (Rd.cl 0 rfl rfl))) ?_
      refine J.val (v := .bool x394.2) rfl rfl (V.mv rfl) ?_
      refine J.cut 2 ?_
      refine @J.meet _ _ _ _ _ _ _ _ _ _ (fun ρ K' L' => Fits [(27, .bool (x394.2 || xc)), (2, .bool xc), (6, .pointer (some ⟨b213, 0, none⟩)), (14, .slice adxa_0 xa.length cpxa_0), (15, .int .i64 (((xa.length : Nat) : Int))), (16, .int .i64 i359), (20, .slice ad355 l354.length cp356), (22, .int .i64 x394.1)] ρ ∧ K = K' ∧ L' = Cl b403 47 [.int .i64 x394.1, .bool x394.2] :: Row Hp.nil 47 (.cons (.int .i64) (.one .bool)) (.slice ad355 l354.length cp356) l354 :: Cl b213 24 [.slice none 0 0] :: F) ?_ ?_
      · skip
        rcases bt (x394.2) with hc406 | hc406
        · skip
          refine J.skip rfl rfl rfl rfl hc406 ?_
          refine J.val (v := .bool true) rfl rfl (V.pickT rfl hc406 rfl) ?_
          refine J.nil ?_
          exact ⟨rfl, ⟨(by simp only [hc406]; rfl), rfl, rfl, rfl, rfl, rfl, rfl, rfl, trivial⟩, rfl, rfl⟩
        · skip
          refine J.run rfl rfl rfl hc406 ?_
          refine J.val (v := .bool xc) rfl rfl (V.mv rfl) ?_
          refine J.val (v := .bool xc) rfl rfl (V.pickF rfl hc406 rfl) ?_
          refine J.nil ?_
          exact ⟨rfl, ⟨(by simp only [hc406]; rfl), rfl, rfl, rfl, rfl, rfl, rfl, rfl, trivial⟩, rfl, rfl⟩
      · rintro ρ _ _ ⟨hf, rfl, rfl⟩
        obtain ⟨ρ, rfl⟩ := hf.ex
        refine J.val (v := .agg #[.int .i64 x394.1, .bool (x394.2 || xc)]) rfl rfl (V.build inf47 places47 rfl rfl) ?_
        refine J.op rfl (A.lit (K0 := Hp.nil) (ty := (.cons (.int .i64) (.one .bool))) (xs := ([(x394.1, x394.2 || xc)] : List (Int × Bool))) Try.underlying22 inf47 rfl (by decide) rfl rfl rfl ⟨_, _, rfl, ⟨_, _, rfl, rfl, rfl, rfl⟩, rfl⟩ rfl (by decide)) ?_
        rintro _ _ _ ⟨b407, rfl, rfl, rfl⟩
        have hn408 : ([(x394.1, x394.2 || xc)] : List (Int × Bool)) ≠ [] → ∃ g, (some ⟨b407, 0, none⟩ : Option Addr) = some ⟨g, 0, none⟩ := fun _ => ⟨b407, rfl⟩
        obtain ⟨z410, hz411, h389⟩ := ob h389
        refine J.front 2 rfl ?_
        refine J.op rfl (A.appR (Kr := Hp.nil) Try.underlying22 inf47 rfl rfl (by decide) (by decide) rfl rfl (Els.flat rfl) (Els.flat rfl) hz411) ?_
        rintro _ _ _ ⟨v412, rfl, rfl, rfl⟩
        refine J.wit Row.form ?_
        rintro ⟨ad413, cp414, rfl, _, _, hn415⟩
        refine J.val (v := .slice ad413 z410.length cp414) rfl rfl (V.as rfl) ?_
        refine J.nil ?_
        refine CJ.region ?_
        refine J.val (v := .int .i64 (IntKind.wrap .i64 (i359 + 1))) rfl rfl (V.add rfl rfl) ?_
        refine J.val (v := .int .i64 (IntKind.wrap .i64 (i359 + 1))) rfl rfl (V.mv rfl) ?_
        refine J.dropAt 1 rfl ?_
        refine J.front 1 rfl ?_
        refine J.nil ?_
        have e := Option.some.inj h389
        subst e
        exact ⟨rfl, ⟨z410, IntKind.wrap .i64 (i359 + 1), ad413, cp414, rfl, ⟨rfl, rfl, rfl, rfl, rfl, rfl, trivial⟩, rfl, rfl⟩⟩
    · have h389 := cf hc393 h389
      refine CJ.front 1 rfl ?_
      refine CJ.exit ?_
      have e := Option.some.inj h389
      subst e
      refine ⟨nofun, fun e => ?_⟩
      subst e
      exact ⟨rfl, ⟨l354, ad355, cp356, rfl, ⟨rfl, rfl, trivial⟩, rfl, rfl⟩⟩
  · rintro ρ _ _ ⟨l313, ad314, cp315, rfl, hf416, rfl, rfl⟩
    obtain ⟨ρ, rfl⟩ := hf416.ex
    refine PJ.front 1 rfl ?_
    refine PJ.wit Row.hn (fun hn317 => ?_)
    refine PJ.done ?_
    refine CJ.seq ?_
    refine CJ.region ?_
    refine J.val (v := .slice ad314 l313.length cp315) rfl rfl (V.mv rfl) ?_
    refine J.val (v := .agg #[.slice ad314 l313.length cp315]) rfl rfl (V.build inf24 places24 rfl rfl) ?_
    refine J.front 1 rfl ?_
    refine J.op rfl (A.store (v := .agg #[.slice ad314 l313.length cp315]) (cs' := [.slice ad314 l313.length cp315]) sz24 rfl rfl rfl rfl rfl rfl) ?_
    rintro _ _ _ ⟨rfl, rfl, rfl⟩
    refine J.nil ?_
    refine CJ.ret ?_
    have e := Option.some.inj h
    subst e
    exact ⟨_, [Row Hp.nil 47 (.cons (.int .i64) (.one .bool)) (.slice ad314 l313.length cp315) l313], Res.one rfl ⟨_, _, rfl, Ld.agg (cs := [.slice ad314 l313.length cp315]) Try.underlying24 sz24 rfl (Rd.cls 0 0 rfl rfl)⟩, ⟨l313, ad314, cp315, rfl, rfl, rfl⟩, (Hp.le_refl _), fun w hs => (Sep.dropAt 0 rfl hs)⟩

noncomputable def fn_relate_Loan (xa : (List (Int × Bool))) (xb : (List (Int × Bool))) (xc : Int) (xd : Bool) : Option (((List (Int × Int × Int × Int × Bool)) × Int)) :=
  (fn_row_Ref xa xc xd).bind fun l121 => (fn_row_Shape xb l121).bind fun t134 => cond (!t134) (some (([], 8))) ((getI xb 0).bind fun x140 => (subL xb 1 (((xb.length : Nat) : Int))).bind fun y168 => (fn_relate_related xa y168 1 1).bind fun l176 => (app (([(xc, x140.1, 2, 0, false)] : List (Int × Int × Int × Int × Bool))) l176).bind fun z184 => some ((z184, 0)))
set_option maxRecDepth 100000 in
set_option maxHeartbeats 4000000 in
theorem relate_Loan_ok {K : Hp} {xa : (List (Int × Bool))} {xb : (List (Int × Bool))} {xc : Int} {xd : Bool} {adxa_0 : Option Addr} {cpxa_0 : Nat} {adxb_0 : Option Addr} {cpxb_0 : Nat} (fxa_0 : Is K (.sl (.cons (.int .i64) (.one .bool))) [.slice adxa_0 xa.length cpxa_0] xa) (fxb_0 : Is K (.sl (.cons (.int .i64) (.one .bool))) [.slice adxb_0 xb.length cpxb_0] xb) {r : ((List (Int × Int × Int × Int × Bool)) × Int)} (h : fn_relate_Loan xa xb xc xd = some r) :
    Tr Try.prog 10 #[.agg #[.slice adxa_0 xa.length cpxa_0], .agg #[.slice adxb_0 xb.length cpxb_0], .int .i64 xc, .bool xd] K [] (fun v K' L' => (∃ (l92 : (List (Int × Int × Int × Int × Bool))) (i97 : Int) (ad93 : Option Addr) (cp94 : Nat), (l92, i97) = r ∧ v = .tuple #[.slice ad93 l92.length cp94, .int .i64 i97] ∧ L' = [Row Hp.nil 40 (.cons (.int .i64) (.cons (.int .i64) (.cons (.int .i64) (.cons (.int .i64) (.one .bool))))) (.slice ad93 l92.length cp94) l92]) ∧ K = K') := by
  refine Tr.k ?_
  refine Tr.of Try.func10 rfl Try.ntmps10 rfl (fun E F => ?_)
  unfold fn_relate_Loan at h
  refine CJ.seq ?_
  refine CJ.region ?_
  refine J.op rfl (A.box (v := .agg #[.slice adxa_0 xa.length cpxa_0]) (cs := [.slice adxa_0 xa.length cpxa_0]) rfl rfl) ?_
  rintro _ _ _ ⟨b98, rfl, rfl, rfl⟩
  refine J.op rfl (A.box (v := .agg #[.slice adxb_0 xb.length cpxb_0]) (cs := [.slice adxb_0 xb.length cpxb_0]) rfl rfl) ?_
  rintro _ _ _ ⟨b99, rfl, rfl, rfl⟩
  refine J.val (v := .slice none 0 0) rfl rfl (V.as rfl) ?_
  refine J.val (v := .int .i64 0) rfl rfl (V.as rfl) ?_
  refine J.nil ?_
  refine CJ.seq ?_
  refine CJ.seq ?_
  refine CJ.mix [Cl b99 24 [.slice adxb_0 xb.length cpxb_0], Cl b98 24 [.slice adxa_0 xa.length cpxa_0]] [([0, 1, 2, 3], 4), ([], 5)] [6] [] mixO (by decide +kernel) ⟨0, rfl, 0, rfl, trivial⟩ rfl rfl rfl ?_
  refine JM.cons ?_
  refine JQ.val (v := .agg #[.slice adxb_0 xb.length cpxb_0]) rfl rfl (V.ld rfl (Ld.agg (cs := [.slice adxb_0 xb.length cpxb_0]) Try.underlying24 sz24 rfl (Rd.cls 0 0 rfl rfl))) ?_
  refine JQ.val (v := .agg #[.slice adxa_0 xa.length cpxa_0]) rfl rfl (V.ld rfl (Ld.agg (cs := [.slice adxa_0 xa.length cpxa_0]) Try.underlying24 sz24 rfl (Rd.cls 1 0 rfl rfl))) ?_
  refine JQ.val (v := .int .i64 xc) rfl rfl (V.mv rfl) ?_
  refine JQ.val (v := .bool xd) rfl rfl (V.mv rfl) ?_
  refine JQ.nil ?_
  obtain ⟨r119, hr120, h⟩ := ob h
  refine JA.op rfl (A.call (L1 := []) Try.call25 rfl (row_Ref_ok fxa_0 hr120) rfl rfl) ?_
  rintro _ _ _ ⟨v125, _, rfl, ⟨⟨l121, ad122, cp123, rfl, rfl, rfl⟩, rfl⟩, _, rfl⟩
  refine ⟨fun w hs => Hold.sub (Hp.le_refl _) ⟨1, rfl, 1, rfl, trivial⟩ hs, ?_⟩
  refine JM.wit Row.hn (fun hn124 => ?_)
  refine JM.cons ?_
  refine JQ.nil ?_
  obtain ⟨r129, hr130, h⟩ := ob h
  refine JA.op rfl (A.call (L1 := [Row Hp.nil 47 (.cons (.int .i64) (.one .bool)) (.slice ad122 l121.length cp123) l121]) Try.call21 rfl (Tr.lend (Hp.nil_le _) (by decide) (fun K131 hK132 f133 => row_Shape_ok (fxb_0.mono hK132) f133 hr130)) rfl rfl) ?_
  rintro _ _ _ ⟨v135, _, rfl, ⟨⟨_, ⟨t134, rfl, rfl, rfl⟩, rfl⟩, rfl⟩, _, rfl⟩
  refine ⟨fun w hs => Hold.sub (Hp.le_refl _) ⟨1, rfl, 1, rfl, trivial⟩ hs, ?_⟩
  refine JM.nil ?_
  refine JQ.val (v := .bool (!t134)) rfl rfl (V.not rfl) ?_
  refine JQ.nil ?_
  refine J.nil ?_
  refine CJ.cond rfl (fun hc138 => ?_) (fun hc138 => ?_)
  · have h := ct hc138 h
    refine CJ.seq ?_
    refine CJ.region ?_
    refine J.val (v := .slice none 0 0) rfl rfl (V.as rfl) ?_
    refine J.val (v := .int .i64 8) rfl rfl (V.as rfl) ?_
    refine J.nil ?_
    refine CJ.by (fun w hs => Sep.rowNil (e := 40) (t := (.cons (.int .i64) (.cons (.int .i64) (.cons (.int .i64) (.cons (.int .i64) (.one .bool)))))) hs) ?_
    refine CJ.ret ?_
    have e := Option.some.inj h
    subst e
    exact ⟨_, [Row Hp.nil 40 (.cons (.int .i64) (.cons (.int .i64) (.cons (.int .i64) (.cons (.int .i64) (.one .bool))))) (.slice none ((([] : List (Int × Int × Int × Int × Bool))).length) 0) (([] : List (Int × Int × Int × Int × Bool)))], Res.two rfl rfl rfl, ⟨[], 8, none, 0, rfl, rfl, rfl⟩, (Hp.le_refl _), fun w hs => (Sep.dropAt 1 rfl (Sep.dropAt 1 rfl (Sep.dropAt 1 rfl hs)))⟩
  · have h := cf hc138 h
    refine CJ.skip ?_
    refine CJ.seq ?_
    refine CJ.region ?_
    refine J.val (v := .int .i64 xc) rfl rfl (V.mv rfl) ?_
    refine J.val rfl rfl (V.fad Try.underlying24 rfl nz22 rfl) ?_
    refine J.val (v := .slice adxb_0 xb.length cpxb_0) rfl rfl (V.ld rfl (Ld.sc sc22 (Rd.cl 1 rfl rfl))) ?_
    obtain ⟨x140, hx141, h⟩ := ob h
    obtain ⟨p142, p143, p144⟩ := getI_some hx141
    obtain ⟨b145, o146, e147, a148⟩ := (fxb_0).at p143
    refine J.val rfl rfl (V.iad Try.underlying22 sz47 rfl e147 rfl p142 p144) ?_
    refine J.val rfl rfl (V.fad Try.underlying47 rfl nz3 rfl) ?_
    refine J.val (v := .int .i64 x140.1) rfl rfl (V.ld rfl (Ld.sc sc3 (Rd.k ((a148).fst).int (Hp.le_refl _)))) ?_
    refine J.val (v := .agg #[.int .i64 xc, .int .i64 x140.1, .int .i64 2, .int .i64 0, .bool false]) rfl rfl (V.build inf40 places40 rfl rfl) ?_
    refine J.op rfl (A.lit (K0 := Hp.nil) (ty := (.cons (.int .i64) (.cons (.int .i64) (.cons (.int .i64) (.cons (.int .i64) (.one .bool)))))) (xs := ([(xc, x140.1, 2, 0, false)] : List (Int × Int × Int × Int × Bool))) Try.underlying27 inf40 rfl (by decide) rfl rfl rfl ⟨_, _, rfl, ⟨_, _, rfl, rfl, rfl, ⟨_, _, rfl, rfl, rfl, ⟨_, _, rfl, rfl, rfl, ⟨_, _, rfl, rfl, rfl, rfl⟩⟩⟩⟩, rfl⟩ rfl (by decide)) ?_
    rintro _ _ _ ⟨b149, rfl, rfl, rfl⟩
    have hn150 : ([(xc, x140.1, 2, 0, false)] : List (Int × Int × Int × Int × Bool)) ≠ [] → ∃ g, (some ⟨b149, 0, none⟩ : Option Addr) = some ⟨g, 0, none⟩ := fun _ => ⟨b149, rfl⟩
    refine J.val (v := .slice (some ⟨b149, 0, none⟩) ((([(xc, x140.1, 2, 0, false)] : List (Int × Int × Int × Int × Bool))).length) 1) rfl rfl (V.as rfl) ?_
    refine J.nil ?_
    refine CJ.seq ?_
    refine CJ.mix [Row Hp.nil 40 (.cons (.int .i64) (.cons (.int .i64) (.cons (.int .i64) (.cons (.int .i64) (.one .bool))))) (.slice (some ⟨b149, 0, none⟩) ((([(xc, x140.1, 2, 0, false)] : List (Int × Int × Int × Int × Bool))).length) 1) (([(xc, x140.1, 2, 0, false)] : List (Int × Int × Int × Int × Bool))), Row Hp.nil 47 (.cons (.int .i64) (.one .bool)) (.slice ad122 l121.length cp123) l121, Cl b99 24 [.slice adxb_0 xb.length cpxb_0], Cl b98 24 [.slice adxa_0 xa.length cpxa_0]] [([0, 1, 2, 3, 4, 5], 6)] [] [7, 8, 9] mixO (by decide +kernel) ⟨0, rfl, 0, rfl, 0, rfl, 0, rfl, trivial⟩ rfl rfl rfl ?_
    refine JM.cons ?_
    refine JQ.val (v := .slice (some ⟨b149, 0, none⟩) ((([(xc, x140.1, 2, 0, false)] : List (Int × Int × Int × Int × Bool))).length) 1) rfl rfl (V.mv rfl) ?_
    refine JQ.val rfl rfl (V.fad Try.underlying24 rfl nz22 rfl) ?_
    refine JQ.val (v := .slice adxa_0 xa.length cpxa_0) rfl rfl (V.ld rfl (Ld.sc sc22 (Rd.cl 3 rfl rfl))) ?_
    refine JQ.val rfl rfl (V.fad Try.underlying24 rfl nz22 rfl) ?_
    refine JQ.val (v := .slice adxb_0 xb.length cpxb_0) rfl rfl (V.ld rfl (Ld.sc sc22 (Rd.cl 2 rfl rfl))) ?_
    obtain ⟨y168, hy169, h⟩ := ob h
    obtain ⟨ad170, cp171, hv172, f173⟩ := V.subI (tp := (.cons (.int .i64) (.one .bool))) Try.underlying22 sz47 fxb_0 hy169
    refine JQ.val (v := .slice ad170 y168.length cp171) rfl rfl (hv172 rfl (fun _ h => by cases h; exact ⟨_, rfl⟩) nofun nofun (fun _ => rfl)) ?_
    refine JQ.nil ?_
    obtain ⟨r174, hr175, h⟩ := ob h
    refine JA.op rfl (A.call (L1 := []) Try.call22 rfl (relate_related_ok fxa_0 f173 hr175) rfl rfl) ?_
    rintro _ _ _ ⟨v180, _, rfl, ⟨⟨l176, ad177, cp178, rfl, rfl, rfl⟩, rfl⟩, _, rfl⟩
    refine ⟨fun w hs => Hold.sub (Hp.le_refl _) ⟨1, rfl, 1, rfl, 1, rfl, 1, rfl, trivial⟩ hs, ?_⟩
    refine JM.wit Row.hn (fun hn179 => ?_)
    refine JM.nil ?_
    refine JQ.nil ?_
    obtain ⟨z184, hz185, h⟩ := ob h
    refine J.front 1 rfl ?_
    refine J.op rfl (A.appR (Kr := Hp.nil) Try.underlying27 inf40 rfl rfl (by decide) (by decide) rfl rfl (Els.flat rfl) (Els.flat rfl) hz185) ?_
    rintro _ _ _ ⟨v186, rfl, rfl, rfl⟩
    refine J.wit Row.form ?_
    rintro ⟨ad187, cp188, rfl, _, _, hn189⟩
    refine J.val (v := .slice ad187 z184.length cp188) rfl rfl (V.as rfl) ?_
    refine J.val (v := .int .i64 0) rfl rfl (V.as rfl) ?_
    refine J.nil ?_
    refine CJ.ret ?_
    have e := Option.some.inj h
    subst e
    exact ⟨_, [Row Hp.nil 40 (.cons (.int .i64) (.cons (.int .i64) (.cons (.int .i64) (.cons (.int .i64) (.one .bool))))) (.slice ad187 z184.length cp188) z184], Res.two rfl rfl rfl, ⟨z184, 0, ad187, cp188, rfl, rfl, rfl⟩, (Hp.le_refl _), fun w hs => (Sep.dropAt 1 rfl (Sep.dropAt 1 rfl (Sep.dropAt 1 rfl hs)))⟩
noncomputable def fn_ref15_Ref_l1 (xa : (List (Int × Bool))) (xc : Bool) : ((List (Int × Bool)) × Int) → Option (((List (Int × Bool)) × Int) ⊕ (List (Int × Bool))) := fun ((l754, i759) : ((List (Int × Bool)) × Int)) => cond (decide (i759 < (((xa.length : Nat) : Int)))) ((getI xa i759).bind fun x859 => (getI xa i759).bind fun x868 => cond (x868.2) ((app l754 (([(x859.1, true)] : List (Int × Bool)))).bind fun z881 => some (.inl ((z881, IntKind.wrap .i64 (i759 + 1))))) ((app l754 (([(x859.1, xc)] : List (Int × Bool)))).bind fun z890 => some (.inl ((z890, IntKind.wrap .i64 (i759 + 1)))))) (some (.inr (l754)))
noncomputable def fn_ref15_Ref (xa : (List (Int × Bool))) (xb : Int) (xc : Bool) : Option ((List (Int × Bool))) :=
  (loop (fn_ref15_Ref_l1 xa xc) ((([(xb, false)] : List (Int × Bool)), 0))).bind fun l673 => some (l673)
set_option maxRecDepth 100000 in
set_option maxHeartbeats 4000000 in
theorem ref15_Ref_ok {K : Hp} {xa : (List (Int × Bool))} {xb : Int} {xc : Bool} {adxa_0 : Option Addr} {cpxa_0 : Nat} (fxa_0 : Is K (.sl (.cons (.int .i64) (.one .bool))) [.slice adxa_0 xa.length cpxa_0] xa) {r : (List (Int × Bool))} (h : fn_ref15_Ref xa xb xc = some r) :
    Tr Try.prog 26 #[.agg #[.slice adxa_0 xa.length cpxa_0], .int .i64 xb, .bool xc] K [] (fun v K' L' => (∃ (l447 : (List (Int × Bool))) (ad448 : Option Addr) (cp449 : Nat), l447 = r ∧ v = .agg #[.slice ad448 l447.length cp449] ∧ L' = [Row Hp.nil 47 (.cons (.int .i64) (.one .bool)) (.slice ad448 l447.length cp449) l447]) ∧ K = K') := by
  refine Tr.k ?_
  refine Tr.of Try.func26 rfl Try.ntmps26 rfl (fun E F => ?_)
  unfold fn_ref15_Ref at h
  refine CJ.seq ?_
  refine CJ.region ?_
  refine J.op rfl (A.box (v := .agg #[.slice adxa_0 xa.length cpxa_0]) (cs := [.slice adxa_0 xa.length cpxa_0]) rfl rfl) ?_
  rintro _ _ _ ⟨b452, rfl, rfl, rfl⟩
  refine J.op rfl (A.alloc (cs := [.slice none 0 0]) inf24 rfl) ?_
  rintro _ _ _ ⟨b453, rfl, rfl, rfl⟩
  refine J.nil ?_
  refine CJ.seq ?_
  refine CJ.region ?_
  refine J.val (v := .int .i64 xb) rfl rfl (V.mv rfl) ?_
  refine J.val (v := .agg #[.int .i64 xb, .bool false]) rfl rfl (V.build inf47 places47 rfl rfl) ?_
  refine J.op rfl (A.lit (K0 := Hp.nil) (ty := (.cons (.int .i64) (.one .bool))) (xs := ([(xb, false)] : List (Int × Bool))) Try.underlying22 inf47 rfl (by decide) rfl rfl rfl ⟨_, _, rfl, ⟨_, _, rfl, rfl, rfl, rfl⟩, rfl⟩ rfl (by decide)) ?_
  rintro _ _ _ ⟨b454, rfl, rfl, rfl⟩
  have hn455 : ([(xb, false)] : List (Int × Bool)) ≠ [] → ∃ g, (some ⟨b454, 0, none⟩ : Option Addr) = some ⟨g, 0, none⟩ := fun _ => ⟨b454, rfl⟩
  refine J.val (v := .slice (some ⟨b454, 0, none⟩) ((([(xb, false)] : List (Int × Bool))).length) 1) rfl rfl (V.as rfl) ?_
  refine J.nil ?_
  refine CJ.seq ?_
  refine CJ.seq ?_
  refine CJ.region ?_
  refine J.val (v := .int .i64 0) rfl rfl (V.as rfl) ?_
  refine J.nil ?_
  obtain ⟨o678, ho679, h⟩ := ob h
  refine CJ.meetN (fun ρ K' L' => ∃ (l673 : (List (Int × Bool))) (ad674 : Option Addr) (cp675 : Nat), l673 = o678 ∧ Fits [(6, .pointer (some ⟨b453, 0, none⟩)), (7, .slice ad674 l673.length cp675)] ρ ∧ K = K' ∧ L' = Cl b453 24 [.slice none 0 0] :: Row Hp.nil 47 (.cons (.int .i64) (.one .bool)) (.slice ad674 l673.length cp675) l673 :: F) ?_ ?_
  · skip
    refine CJ.block ?_
    refine CJ.front 1 rfl ?_
    refine CJ.front 2 rfl ?_
    refine CJ.loop (fun s ρ K' L' => ∃ (l754 : (List (Int × Bool))) (i759 : Int) (ad755 : Option Addr) (cp756 : Nat), (l754, i759) = s ∧ Fits [(2, .bool xc), (3, .pointer (some ⟨b452, 0, none⟩)), (6, .pointer (some ⟨b453, 0, none⟩)), (7, .slice ad755 l754.length cp756), (8, .int .i64 i759)] ρ ∧ K = K' ∧ L' = Cl b452 24 [.slice adxa_0 xa.length cpxa_0] :: Cl b453 24 [.slice none 0 0] :: Row Hp.nil 47 (.cons (.int .i64) (.one .bool)) (.slice ad755 l754.length cp756) l754 :: F) ho679 ⟨([(xb, false)] : List (Int × Bool)), 0, (some ⟨b454, 0, none⟩), 1, rfl, ⟨rfl, rfl, rfl, rfl, rfl, trivial⟩, rfl, rfl⟩ ?_
    rintro s ρ _ _ r832 ⟨l754, i759, ad755, cp756, rfl, hf830, rfl, rfl⟩ h829
    obtain ⟨ρ, rfl⟩ := hf830.ex
    refine CJ.front 2 rfl ?_
    refine CJ.wit Row.hn (fun hn758 => ?_)
    refine CJ.seq ?_
    refine CJ.seq ?_
    refine CJ.region ?_
    refine J.val (v := .int .i64 i759) rfl rfl (V.mv rfl) ?_
    refine J.val rfl rfl (V.fad Try.underlying24 rfl nz22 rfl) ?_
    refine J.val (v := .slice adxa_0 xa.length cpxa_0) rfl rfl (V.ld rfl (Ld.sc sc22 (Rd.cl 1 rfl rfl))) ?_
    refine J.val (v := .int .i64 (((xa.length : Nat) : Int))) rfl rfl (V.len Try.underlying22 rfl) ?_
    refine J.val (v := .bool (decide (i759 < (((xa.length : Nat) : Int))))) rfl rfl (V.lss rfl rfl) ?_
    refine J.nil ?_
    refine CJ.cond rfl (fun hc833 => ?_) (fun hc833 => ?_)
    · have h829 := ct hc833 h829
      refine CJ.skip ?_
      refine CJ.seq ?_
      refine CJ.block ?_
      refine CJ.mix [Row Hp.nil 47 (.cons (.int .i64) (.one .bool)) (.slice ad755 l754.length cp756) l754, Cl b452 24 [.slice adxa_0 xa.length cpxa_0], Cl b453 24 [.slice none 0 0]] [([0, 1, 2, 3, 4, 5, 6, 7, 8, 9, 10, 11, 12, 13, 14, 15, 16], 17)] [] [18, 19] mixO (by decide +kernel) ⟨0, rfl, 0, rfl, 0, rfl, trivial⟩ rfl rfl rfl ?_
      refine JM.cons ?_
      refine JQ.val (v := .slice ad755 l754.length cp756) rfl rfl (V.mv rfl) ?_
      refine JQ.val rfl rfl (V.fad Try.underlying24 rfl nz22 rfl) ?_
      refine JQ.val (v := .slice adxa_0 xa.length cpxa_0) rfl rfl (V.ld rfl (Ld.sc sc22 (Rd.cl 1 rfl rfl))) ?_
      refine JQ.val (v := .int .i64 i759) rfl rfl (V.mv rfl) ?_
      obtain ⟨x859, hx860, h829⟩ := ob h829
      obtain ⟨p861, p862, p863⟩ := getI_some hx860
      obtain ⟨b864, o865, e866, a867⟩ := (fxa_0).at p862
      refine JQ.val rfl rfl (V.iad Try.underlying22 sz47 rfl e866 rfl p861 p863) ?_
      refine JQ.val rfl rfl (V.fad Try.underlying47 rfl nz3 rfl) ?_
      refine JQ.val (v := .int .i64 x859.1) rfl rfl (V.ld rfl (Ld.sc sc3 (Rd.k ((a867).fst).int (Hp.le_refl _)))) ?_
      refine JQ.val rfl rfl (V.fad Try.underlying24 rfl nz22 rfl) ?_
      refine JQ.val (v := .slice adxa_0 xa.length cpxa_0) rfl rfl (V.ld rfl (Ld.sc sc22 (Rd.cl 1 rfl rfl))) ?_
      refine JQ.val (v := .int .i64 i759) rfl rfl (V.mv rfl) ?_
      obtain ⟨x868, hx869, h829⟩ := ob h829
      obtain ⟨p870, p871, p872⟩ := getI_some hx869
      obtain ⟨b873, o874, e875, a876⟩ := (fxa_0).at p871
      refine JQ.val rfl rfl (V.iad Try.underlying22 sz47 rfl e875 rfl p870 p872) ?_
      refine JQ.val rfl rfl (V.fad Try.underlying47 rfl nz4 rfl) ?_
      refine JQ.val (v := .bool x868.2) rfl rfl (V.ld rfl (Ld.sc sc4 (Rd.k (((a876).snd).one).bool (Hp.le_refl _)))) ?_
      refine JQ.val (v := .bool x868.2) rfl rfl (V.mv rfl) ?_
      rcases bt (x868.2) with hc877 | hc877
      · have h829 := ct hc877 h829
        refine JQ.skip rfl rfl rfl rfl hc877 ?_
        refine JQ.val (v := .bool true) rfl rfl (V.pickT rfl hc877 rfl) ?_
        refine JQ.val (v := .agg #[.int .i64 x859.1, .bool true]) rfl rfl (V.build inf47 places47 rfl rfl) ?_
        refine JQ.nil ?_
        refine JA.op rfl (A.lit (K0 := Hp.nil) (ty := (.cons (.int .i64) (.one .bool))) (xs := ([(x859.1, true)] : List (Int × Bool))) Try.underlying22 inf47 rfl (by decide) rfl rfl rfl ⟨_, _, rfl, ⟨_, _, rfl, rfl, rfl, rfl⟩, rfl⟩ rfl (by decide)) ?_
        rintro _ _ _ ⟨b878, rfl, rfl, rfl⟩
        have hn879 : ([(x859.1, true)] : List (Int × Bool)) ≠ [] → ∃ g, (some ⟨b878, 0, none⟩ : Option Addr) = some ⟨g, 0, none⟩ := fun _ => ⟨b878, rfl⟩
        refine ⟨fun w hs => Hold.sub (Hp.le_refl _) ⟨1, rfl, 1, rfl, 1, rfl, trivial⟩ hs, ?_⟩
        refine JM.nil ?_
        refine JQ.nil ?_
        obtain ⟨z881, hz882, h829⟩ := ob h829
        refine J.front 1 rfl ?_
        refine J.op rfl (A.appR (Kr := Hp.nil) Try.underlying22 inf47 rfl rfl (by decide) (by decide) rfl rfl (Els.flat rfl) (Els.flat rfl) hz882) ?_
        rintro _ _ _ ⟨v883, rfl, rfl, rfl⟩
        refine J.wit Row.form ?_
        rintro ⟨ad884, cp885, rfl, _, _, hn886⟩
        refine J.val (v := .slice ad884 z881.length cp885) rfl rfl (V.as rfl) ?_
        refine J.nil ?_
        refine CJ.region ?_
        refine J.val (v := .int .i64 i759) rfl rfl (V.mv rfl) ?_
        refine J.val (v := .int .i64 (IntKind.wrap .i64 (i759 + 1))) rfl rfl (V.add rfl rfl) ?_
        refine J.val (v := .int .i64 (IntKind.wrap .i64 (i759 + 1))) rfl rfl (V.as rfl) ?_
        refine J.front 2 rfl ?_
        refine J.front 2 rfl ?_
        refine J.nil ?_
        have e := Option.some.inj h829
        subst e
        exact ⟨rfl, ⟨z881, IntKind.wrap .i64 (i759 + 1), ad884, cp885, rfl, ⟨rfl, rfl, rfl, rfl, rfl, trivial⟩, rfl, rfl⟩⟩
      · have h829 := cf hc877 h829
        refine JQ.run rfl rfl rfl hc877 ?_
        refine JQ.val (v := .bool xc) rfl rfl (V.mv rfl) ?_
        refine JQ.val (v := .bool xc) rfl rfl (V.pickF rfl hc877 rfl) ?_
        refine JQ.val (v := .agg #[.int .i64 x859.1, .bool xc]) rfl rfl (V.build inf47 places47 rfl rfl) ?_
        refine JQ.nil ?_
        refine JA.op rfl (A.lit (K0 := Hp.nil) (ty := (.cons (.int .i64) (.one .bool))) (xs := ([(x859.1, xc)] : List (Int × Bool))) Try.underlying22 inf47 rfl (by decide) rfl rfl rfl ⟨_, _, rfl, ⟨_, _, rfl, rfl, rfl, rfl⟩, rfl⟩ rfl (by decide)) ?_
        rintro _ _ _ ⟨b887, rfl, rfl, rfl⟩
        have hn888 : ([(x859.1, xc)] : List (Int × Bool)) ≠ [] → ∃ g, (some ⟨b887, 0, none⟩ : Option Addr) = some ⟨g, 0, none⟩ := fun _ => ⟨b887, rfl⟩
        refine ⟨fun w hs => Hold.sub (Hp.le_refl _) ⟨1, rfl, 1, rfl, 1, rfl, trivial⟩ hs, ?_⟩
        refine JM.nil ?_
        refine JQ.nil ?_
        obtain ⟨z890, hz891, h829⟩ := ob h829
        refine J.front 1 rfl ?_
        refine J.op rfl (A.appR (Kr := Hp.nil) Try.underlying22 inf47 rfl rfl (by decide) (by decide) rfl rfl (Els.flat rfl) (Els.flat rfl) hz891) ?_
        rintro _ _ _ ⟨v892, rfl, rfl, rfl⟩
        refine J.wit Row.form ?_
        rintro ⟨ad893, cp894, rfl, _, _, hn895⟩
        refine J.val (v := .slice ad893 z890.length cp894) rfl rfl (V.as rfl) ?_
        refine J.nil ?_
        refine CJ.region ?_
        refine J.val (v := .int .i64 i759) rfl rfl (V.mv rfl) ?_
        refine J.val (v := .int .i64 (IntKind.wrap .i64 (i759 + 1))) rfl rfl (V.add rfl rfl) ?_
        refine J.val (v := .int .i64 (IntKind.wrap .i64 (i759 + 1))) rfl rfl (V.as rfl) ?_
        refine J.front 2 rfl ?_
        refine J.front 2 rfl ?_
        refine J.nil ?_
        have e := Option.some.inj h829
        subst e
        exact ⟨rfl, ⟨z890, IntKind.wrap .i64 (i759 + 1), ad893, cp894, rfl, ⟨rfl, rfl, rfl, rfl, rfl, trivial⟩, rfl, rfl⟩⟩
    · have h829 := cf hc833 h829
      refine CJ.dropAt 1 rfl ?_
      refine CJ.front 1 rfl ?_
      refine CJ.exit ?_
      have e := Option.some.inj h829
      subst e
      refine ⟨nofun, fun e => ?_⟩
      subst e
      exact ⟨rfl, ⟨l754, ad755, cp756, rfl, ⟨rfl, rfl, trivial⟩, rfl, rfl⟩⟩
  · rintro ρ _ _ ⟨l673, ad674, cp675, rfl, hf896, rfl, rfl⟩
    obtain ⟨ρ, rfl⟩ := hf896.ex
    refine PJ.front 1 rfl ?_
    refine PJ.wit Row.hn (fun hn677 => ?_)
    refine PJ.done ?_
    refine CJ.seq ?_
    refine CJ.region ?_
    refine J.val (v := .slice ad674 l673.length cp675) rfl rfl (V.mv rfl) ?_
    refine J.val (v := .agg #[.slice ad674 l673.length cp675]) rfl rfl (V.build inf24 places24 rfl rfl) ?_
    refine J.front 1 rfl ?_
    refine J.op rfl (A.store (v := .agg #[.slice ad674 l673.length cp675]) (cs' := [.slice ad674 l673.length cp675]) sz24 rfl rfl rfl rfl rfl rfl) ?_
    rintro _ _ _ ⟨rfl, rfl, rfl⟩
    refine J.nil ?_
    refine CJ.ret ?_
    have e := Option.some.inj h
    subst e
    exact ⟨_, [Row Hp.nil 47 (.cons (.int .i64) (.one .bool)) (.slice ad674 l673.length cp675) l673], Res.one rfl ⟨_, _, rfl, Ld.agg (cs := [.slice ad674 l673.length cp675]) Try.underlying24 sz24 rfl (Rd.cls 0 0 rfl rfl)⟩, ⟨l673, ad674, cp675, rfl, rfl, rfl⟩, (Hp.le_refl _), fun w hs => (Sep.dropAt 0 rfl hs)⟩

noncomputable def fn_ref16_Loan (xa : (List (Int × Bool))) (xb : (List (Int × Bool))) (xc : Int) (xd : Bool) : Option (((List (Int × Int × Int × Int × Bool)) × Int)) :=
  (fn_ref15_Ref xa xc xd).bind fun l117 => (fn_ref15_Shape l117 xb).bind fun t130 => cond (!t130) (some (([], 8))) ((getI xb 0).bind fun x136 => (subL xb 1 (((xb.length : Nat) : Int))).bind fun y165 => (fn_ref16_slots_rkkii xa y165 1 1 (([(xc, x136.1, 2, 0, false)] : List (Int × Int × Int × Int × Bool)))).bind fun l173 => some ((l173, 0)))
set_option maxRecDepth 100000 in
set_option maxHeartbeats 4000000 in
theorem ref16_Loan_ok {K : Hp} {xa : (List (Int × Bool))} {xb : (List (Int × Bool))} {xc : Int} {xd : Bool} {adxa_0 : Option Addr} {cpxa_0 : Nat} {adxb_0 : Option Addr} {cpxb_0 : Nat} (fxa_0 : Is K (.sl (.cons (.int .i64) (.one .bool))) [.slice adxa_0 xa.length cpxa_0] xa) (fxb_0 : Is K (.sl (.cons (.int .i64) (.one .bool))) [.slice adxb_0 xb.length cpxb_0] xb) {r : ((List (Int × Int × Int × Int × Bool)) × Int)} (h : fn_ref16_Loan xa xb xc xd = some r) :
    Tr Try.prog 11 #[.agg #[.slice adxa_0 xa.length cpxa_0], .agg #[.slice adxb_0 xb.length cpxb_0], .int .i64 xc, .bool xd] K [] (fun v K' L' => (∃ (l88 : (List (Int × Int × Int × Int × Bool))) (i93 : Int) (ad89 : Option Addr) (cp90 : Nat), (l88, i93) = r ∧ v = .tuple #[.slice ad89 l88.length cp90, .int .i64 i93] ∧ L' = [Row Hp.nil 48 (.cons (.int .i64) (.cons (.int .i64) (.cons (.int .i64) (.cons (.int .i64) (.one .bool))))) (.slice ad89 l88.length cp90) l88]) ∧ K = K') := by
  refine Tr.k ?_
  refine Tr.of Try.func11 rfl Try.ntmps11 rfl (fun E F => ?_)
  unfold fn_ref16_Loan at h
  refine CJ.seq ?_
  refine CJ.region ?_
  refine J.op rfl (A.box (v := .agg #[.slice adxa_0 xa.length cpxa_0]) (cs := [.slice adxa_0 xa.length cpxa_0]) rfl rfl) ?_
  rintro _ _ _ ⟨b94, rfl, rfl, rfl⟩
  refine J.op rfl (A.box (v := .agg #[.slice adxb_0 xb.length cpxb_0]) (cs := [.slice adxb_0 xb.length cpxb_0]) rfl rfl) ?_
  rintro _ _ _ ⟨b95, rfl, rfl, rfl⟩
  refine J.val (v := .slice none 0 0) rfl rfl (V.as rfl) ?_
  refine J.val (v := .int .i64 0) rfl rfl (V.as rfl) ?_
  refine J.nil ?_
  refine CJ.seq ?_
  refine CJ.seq ?_
  refine CJ.mix [Cl b95 24 [.slice adxb_0 xb.length cpxb_0], Cl b94 24 [.slice adxa_0 xa.length cpxa_0]] [([0, 1, 2, 4], 3), ([], 5)] [6] [] mixO (by decide +kernel) ⟨0, rfl, 0, rfl, trivial⟩ rfl rfl rfl ?_
  refine JM.cons ?_
  refine JQ.val (v := .agg #[.slice adxa_0 xa.length cpxa_0]) rfl rfl (V.ld rfl (Ld.agg (cs := [.slice adxa_0 xa.length cpxa_0]) Try.underlying24 sz24 rfl (Rd.cls 1 0 rfl rfl))) ?_
  refine JQ.val (v := .int .i64 xc) rfl rfl (V.mv rfl) ?_
  refine JQ.val (v := .bool xd) rfl rfl (V.mv rfl) ?_
  refine JQ.val (v := .agg #[.slice adxb_0 xb.length cpxb_0]) rfl rfl (V.ld rfl (Ld.agg (cs := [.slice adxb_0 xb.length cpxb_0]) Try.underlying24 sz24 rfl (Rd.cls 0 0 rfl rfl))) ?_
  refine JQ.nil ?_
  obtain ⟨r115, hr116, h⟩ := ob h
  refine JA.op rfl (A.call (L1 := []) Try.call26 rfl (ref15_Ref_ok fxa_0 hr116) rfl rfl) ?_
  rintro _ _ _ ⟨v121, _, rfl, ⟨⟨l117, ad118, cp119, rfl, rfl, rfl⟩, rfl⟩, _, rfl⟩
  refine ⟨fun w hs => Hold.sub (Hp.le_refl _) ⟨1, rfl, 1, rfl, trivial⟩ hs, ?_⟩
  refine JM.wit Row.hn (fun hn120 => ?_)
  refine JM.cons ?_
  refine JQ.nil ?_
  obtain ⟨r125, hr126, h⟩ := ob h
  refine JA.op rfl (A.call (L1 := [Row Hp.nil 47 (.cons (.int .i64) (.one .bool)) (.slice ad118 l117.length cp119) l117]) Try.call23 rfl (Tr.lend (Hp.nil_le _) (by decide) (fun K127 hK128 f129 => ref15_Shape_ok f129 (fxb_0.mono hK128) hr126)) rfl rfl) ?_
  rintro _ _ _ ⟨v131, _, rfl, ⟨⟨_, ⟨t130, rfl, rfl, rfl⟩, rfl⟩, rfl⟩, _, rfl⟩
  refine ⟨fun w hs => Hold.sub (Hp.le_refl _) ⟨1, rfl, 1, rfl, trivial⟩ hs, ?_⟩
  refine JM.nil ?_
  refine JQ.val (v := .bool (!t130)) rfl rfl (V.not rfl) ?_
  refine JQ.nil ?_
  refine J.nil ?_
  refine CJ.cond rfl (fun hc134 => ?_) (fun hc134 => ?_)
  · have h := ct hc134 h
    refine CJ.seq ?_
    refine CJ.region ?_
    refine J.val (v := .slice none 0 0) rfl rfl (V.as rfl) ?_
    refine J.val (v := .int .i64 8) rfl rfl (V.as rfl) ?_
    refine J.nil ?_
    refine CJ.by (fun w hs => Sep.rowNil (e := 48) (t := (.cons (.int .i64) (.cons (.int .i64) (.cons (.int .i64) (.cons (.int .i64) (.one .bool)))))) hs) ?_
    refine CJ.ret ?_
    have e := Option.some.inj h
    subst e
    exact ⟨_, [Row Hp.nil 48 (.cons (.int .i64) (.cons (.int .i64) (.cons (.int .i64) (.cons (.int .i64) (.one .bool))))) (.slice none ((([] : List (Int × Int × Int × Int × Bool))).length) 0) (([] : List (Int × Int × Int × Int × Bool)))], Res.two rfl rfl rfl, ⟨[], 8, none, 0, rfl, rfl, rfl⟩, (Hp.le_refl _), fun w hs => (Sep.dropAt 1 rfl (Sep.dropAt 1 rfl (Sep.dropAt 1 rfl hs)))⟩
  · have h := cf hc134 h
    refine CJ.skip ?_
    refine CJ.seq ?_
    refine CJ.region ?_
    refine J.val (v := .int .i64 xc) rfl rfl (V.mv rfl) ?_
    refine J.val rfl rfl (V.fad Try.underlying24 rfl nz22 rfl) ?_
    refine J.val (v := .slice adxb_0 xb.length cpxb_0) rfl rfl (V.ld rfl (Ld.sc sc22 (Rd.cl 1 rfl rfl))) ?_
    obtain ⟨x136, hx137, h⟩ := ob h
    obtain ⟨p138, p139, p140⟩ := getI_some hx137
    obtain ⟨b141, o142, e143, a144⟩ := (fxb_0).at p139
    refine J.val rfl rfl (V.iad Try.underlying22 sz47 rfl e143 rfl p138 p140) ?_
    refine J.val rfl rfl (V.fad Try.underlying47 rfl nz3 rfl) ?_
    refine J.val (v := .int .i64 x136.1) rfl rfl (V.ld rfl (Ld.sc sc3 (Rd.k ((a144).fst).int (Hp.le_refl _)))) ?_
    refine J.val (v := .agg #[.int .i64 xc, .int .i64 x136.1, .int .i64 2, .int .i64 0, .bool false]) rfl rfl (V.build inf48 places48 rfl rfl) ?_
    refine J.op rfl (A.lit (K0 := Hp.nil) (ty := (.cons (.int .i64) (.cons (.int .i64) (.cons (.int .i64) (.cons (.int .i64) (.one .bool)))))) (xs := ([(xc, x136.1, 2, 0, false)] : List (Int × Int × Int × Int × Bool))) Try.underlying31 inf48 rfl (by decide) rfl rfl rfl ⟨_, _, rfl, ⟨_, _, rfl, rfl, rfl, ⟨_, _, rfl, rfl, rfl, ⟨_, _, rfl, rfl, rfl, ⟨_, _, rfl, rfl, rfl, rfl⟩⟩⟩⟩, rfl⟩ rfl (by decide)) ?_
    rintro _ _ _ ⟨b145, rfl, rfl, rfl⟩
    have hn146 : ([(xc, x136.1, 2, 0, false)] : List (Int × Int × Int × Int × Bool)) ≠ [] → ∃ g, (some ⟨b145, 0, none⟩ : Option Addr) = some ⟨g, 0, none⟩ := fun _ => ⟨b145, rfl⟩
    refine J.val (v := .slice (some ⟨b145, 0, none⟩) ((([(xc, x136.1, 2, 0, false)] : List (Int × Int × Int × Int × Bool))).length) 1) rfl rfl (V.as rfl) ?_
    refine J.nil ?_
    refine CJ.seq ?_
    refine CJ.mix [Row Hp.nil 47 (.cons (.int .i64) (.one .bool)) (.slice ad118 l117.length cp119) l117, Cl b95 24 [.slice adxb_0 xb.length cpxb_0], Cl b94 24 [.slice adxa_0 xa.length cpxa_0]] [([0, 1, 2, 3, 4, 5], 6)] [7, 8] [] mixO (by decide +kernel) ⟨1, rfl, 1, rfl, 1, rfl, trivial⟩ rfl rfl rfl ?_
    refine JM.cons ?_
    refine JQ.val (v := .slice (some ⟨b145, 0, none⟩) ((([(xc, x136.1, 2, 0, false)] : List (Int × Int × Int × Int × Bool))).length) 1) rfl rfl (V.mv rfl) ?_
    refine JQ.val rfl rfl (V.fad Try.underlying24 rfl nz22 rfl) ?_
    refine JQ.val (v := .slice adxa_0 xa.length cpxa_0) rfl rfl (V.ld rfl (Ld.sc sc22 (Rd.cl 2 rfl rfl))) ?_
    refine JQ.val rfl rfl (V.fad Try.underlying24 rfl nz22 rfl) ?_
    refine JQ.val (v := .slice adxb_0 xb.length cpxb_0) rfl rfl (V.ld rfl (Ld.sc sc22 (Rd.cl 1 rfl rfl))) ?_
    obtain ⟨y165, hy166, h⟩ := ob h
    obtain ⟨ad167, cp168, hv169, f170⟩ := V.subI (tp := (.cons (.int .i64) (.one .bool))) Try.underlying22 sz47 fxb_0 hy166
    refine JQ.val (v := .slice ad167 y165.length cp168) rfl rfl (hv169 rfl (fun _ h => by cases h; exact ⟨_, rfl⟩) nofun nofun (fun _ => rfl)) ?_
    refine JQ.nil ?_
    obtain ⟨r171, hr172, h⟩ := ob h
    refine JA.op rfl (A.call (L1 := [Row Hp.nil 48 (.cons (.int .i64) (.cons (.int .i64) (.cons (.int .i64) (.cons (.int .i64) (.one .bool))))) (.slice (some ⟨b145, 0, none⟩) ((([(xc, x136.1, 2, 0, false)] : List (Int × Int × Int × Int × Bool))).length) 1) (([(xc, x136.1, 2, 0, false)] : List (Int × Int × Int × Int × Bool)))]) Try.call24 rfl (ref16_slots_rkkii_ok fxa_0 f170 hr172) rfl rfl) ?_
    rintro _ _ _ ⟨v177, _, rfl, ⟨⟨l173, ad174, cp175, rfl, rfl, rfl⟩, rfl⟩, _, rfl⟩
    refine ⟨fun w hs => Hold.sub (Hp.le_refl _) ⟨1, rfl, 1, rfl, 1, rfl, trivial⟩ hs, ?_⟩
    refine JM.wit Row.hn (fun hn176 => ?_)
    refine JM.nil ?_
    refine JQ.val (v := .slice ad174 l173.length cp175) rfl rfl (V.as rfl) ?_
    refine JQ.val (v := .int .i64 0) rfl rfl (V.as rfl) ?_
    refine JQ.nil ?_
    refine J.nil ?_
    refine CJ.ret ?_
    have e := Option.some.inj h
    subst e
    exact ⟨_, [Row Hp.nil 48 (.cons (.int .i64) (.cons (.int .i64) (.cons (.int .i64) (.cons (.int .i64) (.one .bool))))) (.slice ad174 l173.length cp175) l173], Res.two rfl rfl rfl, ⟨l173, 0, ad174, cp175, rfl, rfl, rfl⟩, (Hp.le_refl _), fun w hs => (Sep.dropAt 1 rfl (Sep.dropAt 1 rfl (Sep.dropAt 1 rfl hs)))⟩

noncomputable def fn_relate_mayBorrowAgain_1 (xa : (Int × Bool)) : Option Bool :=
  some (!xa.2)
set_option maxRecDepth 100000 in
set_option maxHeartbeats 4000000 in
theorem relate_mayBorrowAgain_1_ok {K : Hp} {xa : (Int × Bool)}   {r : Bool} (h : fn_relate_mayBorrowAgain_1 xa = some r) :
    Tr Try.prog 33 #[.agg #[.int .i64 xa.1, .bool xa.2]] K [] (fun v K' L' => (∃ (t2 : Bool), t2 = r ∧ v = .bool t2 ∧ L' = []) ∧ K = K') := by
  refine Tr.k ?_
  refine Tr.of Try.func33 rfl Try.ntmps33 rfl (fun E F => ?_)
  unfold fn_relate_mayBorrowAgain_1 at h
  refine CJ.seq ?_
  refine CJ.region ?_
  refine J.op rfl (A.box (v := .agg #[.int .i64 xa.1, .bool xa.2]) (cs := [.int .i64 xa.1, .bool xa.2]) rfl rfl) ?_
  rintro _ _ _ ⟨b3, rfl, rfl, rfl⟩
  refine J.val (v := .bool false) rfl rfl (V.as rfl) ?_
  refine J.nil ?_
  refine CJ.seq ?_
  refine CJ.region ?_
  refine J.val rfl rfl (V.fad Try.underlying47 rfl nz4 rfl) ?_
  refine J.val (v := .bool xa.2) rfl rfl (V.ld rfl (Ld.sc sc4 (Rd.cl 0 rfl rfl))) ?_
  refine J.val (v := .bool (!xa.2)) rfl rfl (V.not rfl) ?_
  refine J.val (v := .bool (!xa.2)) rfl rfl (V.as rfl) ?_
  refine J.nil ?_
  refine CJ.ret ?_
  have e := Option.some.inj h
  subst e
  exact ⟨_, [], Res.one rfl rfl, ⟨!xa.2, rfl, rfl, rfl⟩, (Hp.le_refl _), fun w hs => (Sep.dropAt 0 rfl hs)⟩
noncomputable def fn_slices_IndexFunc_api_Slot_api_Slot_k_relate_mayBorrowAgain_1_l1 (xa : (List (Int × Bool))) : Int → Option (Int ⊕ (Unit ⊕ Int)) := fun (i201 : Int) => cond (decide (i201 < (((xa.length : Nat) : Int)))) ((getI xa i201).bind fun x225 => (fn_relate_mayBorrowAgain_1 (x225.1, x225.2)).bind fun t236 => cond (t236) (some (.inr ((.inr (i201))))) (some (.inl (IntKind.wrap .i64 (i201 + 1))))) (some (.inr ((.inl ()))))
noncomputable def fn_slices_IndexFunc_api_Slot_api_Slot_k_relate_mayBorrowAgain_1 (xa : (List (Int × Bool))) : Option Int :=
  (loop (fn_slices_IndexFunc_api_Slot_api_Slot_k_relate_mayBorrowAgain_1_l1 xa) 0 : Option (Unit ⊕ Int)).bind fun o => match o with | .inr r => some r | .inl () => some ((-1))
set_option maxRecDepth 100000 in
set_option maxHeartbeats 4000000 in
theorem slices_IndexFunc_api_Slot_api_Slot_k_relate_mayBorrowAgain_1_ok {K : Hp} {xa : (List (Int × Bool))} {adxa_0 : Option Addr} {cpxa_0 : Nat} (fxa_0 : Is K (.sl (.cons (.int .i64) (.one .bool))) [.slice adxa_0 xa.length cpxa_0] xa) {r : Int} (h : fn_slices_IndexFunc_api_Slot_api_Slot_k_relate_mayBorrowAgain_1 xa = some r) :
    Tr Try.prog 35 #[.slice adxa_0 xa.length cpxa_0, .func (.func 33) #[] #[]] K [] (fun v K' L' => (∃ (i122 : Int), i122 = r ∧ v = .int .i64 i122 ∧ L' = []) ∧ K = K') := by
  refine Tr.k ?_
  refine Tr.of Try.func35 rfl Try.ntmps35 rfl (fun E F => ?_)
  unfold fn_slices_IndexFunc_api_Slot_api_Slot_k_relate_mayBorrowAgain_1 at h
  refine CJ.seq ?_
  refine CJ.region ?_
  refine J.val (v := .int .i64 0) rfl rfl (V.as rfl) ?_
  refine J.nil ?_
  refine CJ.seq ?_
  refine CJ.seq ?_
  refine CJ.region ?_
  refine J.val (v := .slice adxa_0 xa.length cpxa_0) rfl rfl (V.mv rfl) ?_
  refine J.val (v := .int .i64 (((xa.length : Nat) : Int))) rfl rfl (V.len Try.underlying22 rfl) ?_
  refine J.val (v := .int .i64 0) rfl rfl (V.mv rfl) ?_
  refine J.nil ?_
  obtain ⟨o181, ho182, h⟩ := ob h
  refine CJ.joinN (o := o181) (fun s ρ K' L' => () = s ∧ Fits [] ρ ∧ K = K' ∧ F = L') ?_ ?_
  · skip
    refine CJ.block ?_
    refine CJ.loop (fun s ρ K' L' => ∃ (i201 : Int), i201 = s ∧ Fits [(0, .slice adxa_0 xa.length cpxa_0), (1, .func (.func 33) #[] #[]), (7, .int .i64 (((xa.length : Nat) : Int))), (8, .int .i64 i201)] ρ ∧ K = K' ∧ F = L') ho182 ⟨0, rfl, ⟨rfl, rfl, rfl, rfl, trivial⟩, rfl, rfl⟩ ?_
    rintro s ρ _ _ r223 ⟨i201, rfl, hf221, rfl, rfl⟩ h220
    obtain ⟨ρ, rfl⟩ := hf221.ex
    refine CJ.seq ?_
    refine CJ.region ?_
    refine J.val (v := .bool (decide (i201 < (((xa.length : Nat) : Int))))) rfl rfl (V.lss rfl rfl) ?_
    refine J.nil ?_
    refine CJ.seq ?_
    refine CJ.cond rfl (fun hc224 => ?_) (fun hc224 => ?_)
    · have h220 := ct hc224 h220
      refine CJ.skip ?_
      refine CJ.seq ?_
      refine CJ.block ?_
      refine CJ.seq ?_
      refine CJ.region ?_
      refine J.val (v := .int .i64 i201) rfl rfl (V.mv rfl) ?_
      refine J.val (v := .int .i64 i201) rfl rfl (V.as rfl) ?_
      refine J.nil ?_
      refine CJ.seq ?_
      refine CJ.region ?_
      refine J.val (v := .func (.func 33) #[] #[]) rfl rfl (V.mv rfl) ?_
      refine J.val (v := .slice adxa_0 xa.length cpxa_0) rfl rfl (V.mv rfl) ?_
      refine J.val (v := .int .i64 i201) rfl rfl (V.mv rfl) ?_
      obtain ⟨x225, hx226, h220⟩ := ob h220
      obtain ⟨p227, p228, p229⟩ := getI_some hx226
      obtain ⟨b230, o231, e232, a233⟩ := (fxa_0).at p228
      refine J.val rfl rfl (V.iad Try.underlying22 sz47 rfl e232 rfl p227 p229) ?_
      refine J.val (v := .agg #[.int .i64 x225.1, .bool x225.2]) rfl rfl (V.ld rfl (Ld.aggK (cs := [.int .i64 x225.1, .bool x225.2]) Try.underlying47 sz47 rfl ⟨((a233).fst).int, (((a233).snd).one).bool, trivial⟩ (Hp.le_refl _))) ?_
      obtain ⟨r234, hr235, h220⟩ := ob h220
      refine J.op rfl (A.call (L1 := []) Try.call33 rfl (relate_mayBorrowAgain_1_ok hr235) rfl rfl) ?_
      rintro _ _ _ ⟨v237, _, rfl, ⟨⟨t236, rfl, rfl, rfl⟩, rfl⟩, _, rfl⟩
      refine J.nil ?_
      refine CJ.cond rfl (fun hc240 => ?_) (fun hc240 => ?_)
      · have h220 := ct hc240 h220
        refine CJ.seq ?_
        refine CJ.region ?_
        refine J.val (v := .int .i64 i201) rfl rfl (V.mv rfl) ?_
        refine J.val (v := .int .i64 i201) rfl rfl (V.as rfl) ?_
        refine J.nil ?_
        refine CJ.ret ?_
        have e := Option.some.inj h220
        subst e
        refine ⟨nofun, fun e => ?_⟩
        subst e
        refine .inr ⟨nofun, ?_⟩
        have e := Option.some.inj h
        subst e
        exact ⟨_, [], Res.one rfl rfl, ⟨i201, rfl, rfl, rfl⟩, (Hp.le_refl _), fun w hs => hs⟩
      · have h220 := cf hc240 h220
        refine CJ.skip ?_
        refine CJ.region ?_
        refine J.val (v := .int .i64 (IntKind.wrap .i64 (i201 + 1))) rfl rfl (V.add rfl rfl) ?_
        refine J.val (v := .int .i64 (IntKind.wrap .i64 (i201 + 1))) rfl rfl (V.mv rfl) ?_
        refine J.nil ?_
        have e := Option.some.inj h220
        subst e
        exact ⟨rfl, ⟨IntKind.wrap .i64 (i201 + 1), rfl, ⟨rfl, rfl, rfl, rfl, trivial⟩, rfl, rfl⟩⟩
    · have h220 := cf hc224 h220
      refine CJ.exit ?_
      have e := Option.some.inj h220
      subst e
      refine ⟨nofun, fun e => ?_⟩
      subst e
      exact .inl ⟨rfl, _, rfl, ⟨rfl, trivial, rfl, rfl⟩⟩
  · rintro s ρ _ _ ho241 ⟨rfl, hf242, rfl, rfl⟩
    subst ho241
    obtain ⟨ρ, rfl⟩ := hf242.ex
    refine PJ.done ?_
    refine CJ.seq ?_
    refine CJ.region ?_
    refine J.val (v := .int .i64 (-1)) rfl rfl (V.as rfl) ?_
    refine J.nil ?_
    refine CJ.ret ?_
    have e := Option.some.inj h
    subst e
    exact ⟨_, [], Res.one rfl rfl, ⟨(-1), rfl, rfl, rfl⟩, (Hp.le_refl _), fun w hs => hs⟩

noncomputable def fn_slices_ContainsFunc_api_Slot_api_Slot_k_relate_mayBorrowAgain_1 (xa : (List (Int × Bool))) : Option Bool :=
  (fn_slices_IndexFunc_api_Slot_api_Slot_k_relate_mayBorrowAgain_1 xa).bind fun i10 => some (decide (0 ≤ i10))
set_option maxRecDepth 100000 in
set_option maxHeartbeats 4000000 in
theorem slices_ContainsFunc_api_Slot_api_Slot_k_relate_mayBorrowAgain_1_ok {K : Hp} {xa : (List (Int × Bool))} {adxa_0 : Option Addr} {cpxa_0 : Nat} (fxa_0 : Is K (.sl (.cons (.int .i64) (.one .bool))) [.slice adxa_0 xa.length cpxa_0] xa) {r : Bool} (h : fn_slices_ContainsFunc_api_Slot_api_Slot_k_relate_mayBorrowAgain_1 xa = some r) :
    Tr Try.prog 32 #[.slice adxa_0 xa.length cpxa_0, .func (.func 33) #[] #[]] K [] (fun v K' L' => (∃ (t7 : Bool), t7 = r ∧ v = .bool t7 ∧ L' = []) ∧ K = K') := by
  refine Tr.k ?_
  refine Tr.of Try.func32 rfl Try.ntmps32 rfl (fun E F => ?_)
  unfold fn_slices_ContainsFunc_api_Slot_api_Slot_k_relate_mayBorrowAgain_1 at h
  refine CJ.seq ?_
  refine CJ.region ?_
  refine J.val (v := .bool false) rfl rfl (V.as rfl) ?_
  refine J.nil ?_
  refine CJ.seq ?_
  refine CJ.region ?_
  refine J.val (v := .slice adxa_0 xa.length cpxa_0) rfl rfl (V.mv rfl) ?_
  refine J.val (v := .func (.func 33) #[] #[]) rfl rfl (V.mv rfl) ?_
  obtain ⟨r8, hr9, h⟩ := ob h
  refine J.op rfl (A.call (L1 := []) Try.call35 rfl (slices_IndexFunc_api_Slot_api_Slot_k_relate_mayBorrowAgain_1_ok fxa_0 hr9) rfl rfl) ?_
  rintro _ _ _ ⟨v11, _, rfl, ⟨⟨i10, rfl, rfl, rfl⟩, rfl⟩, _, rfl⟩
  refine J.val (v := .bool (decide (0 ≤ i10))) rfl rfl (V.geq rfl rfl) ?_
  refine J.val (v := .bool (decide (0 ≤ i10))) rfl rfl (V.as rfl) ?_
  refine J.nil ?_
  refine CJ.ret ?_
  have e := Option.some.inj h
  subst e
  exact ⟨_, [], Res.one rfl rfl, ⟨decide (0 ≤ i10), rfl, rfl, rfl⟩, (Hp.le_refl _), fun w hs => hs⟩

noncomputable def fn_relate_mayBorrowAgain (xa : (List (Int × Bool))) (xb : (List (Int × Bool))) (xc : Bool) : Option Bool :=
  (cond (decide ((((xa.length : Nat) : Int)) = 0)) (some (true)) ((getI xa 0).bind fun x73 => some (x73.2))).bind fun t70 => (cond (t70) (some (true)) ((fn_row_Shape xa xb).bind fun t94 => some (!t94))).bind fun t89 => cond (t89) (some (false)) ((subL xa 1 (((xa.length : Nat) : Int))).bind fun y99 => (fn_slices_ContainsFunc_api_Slot_api_Slot_k_relate_mayBorrowAgain_1 y99).bind fun t107 => some ((!xc) || (!t107)))
set_option maxRecDepth 100000 in
set_option maxHeartbeats 4000000 in
theorem relate_mayBorrowAgain_ok {K : Hp} {xa : (List (Int × Bool))} {xb : (List (Int × Bool))} {xc : Bool} {adxa_0 : Option Addr} {cpxa_0 : Nat} {adxb_0 : Option Addr} {cpxb_0 : Nat} (fxa_0 : Is K (.sl (.cons (.int .i64) (.one .bool))) [.slice adxa_0 xa.length cpxa_0] xa) (fxb_0 : Is K (.sl (.cons (.int .i64) (.one .bool))) [.slice adxb_0 xb.length cpxb_0] xb) {r : Bool} (h : fn_relate_mayBorrowAgain xa xb xc = some r) :
    Tr Try.prog 27 #[.agg #[.slice adxa_0 xa.length cpxa_0], .agg #[.slice adxb_0 xb.length cpxb_0], .bool xc] K [] (fun v K' L' => (∃ (t57 : Bool), t57 = r ∧ v = .bool t57 ∧ L' = []) ∧ K = K') := by
  refine Tr.k ?_
  refine Tr.of Try.func27 rfl Try.ntmps27 rfl (fun E F => ?_)
  unfold fn_relate_mayBorrowAgain at h
  refine CJ.seq ?_
  refine CJ.region ?_
  refine J.op rfl (A.box (v := .agg #[.slice adxa_0 xa.length cpxa_0]) (cs := [.slice adxa_0 xa.length cpxa_0]) rfl rfl) ?_
  rintro _ _ _ ⟨b58, rfl, rfl, rfl⟩
  refine J.op rfl (A.box (v := .agg #[.slice adxb_0 xb.length cpxb_0]) (cs := [.slice adxb_0 xb.length cpxb_0]) rfl rfl) ?_
  rintro _ _ _ ⟨b59, rfl, rfl, rfl⟩
  refine J.val (v := .bool false) rfl rfl (V.as rfl) ?_
  refine J.nil ?_
  refine CJ.seq ?_
  refine CJ.seq ?_
  refine CJ.region ?_
  refine J.val rfl rfl (V.fad Try.underlying24 rfl nz22 rfl) ?_
  refine J.val (v := .slice adxa_0 xa.length cpxa_0) rfl rfl (V.ld rfl (Ld.sc sc22 (Rd.cl 1 rfl rfl))) ?_
  refine J.val (v := .int .i64 (((xa.length : Nat) : Int))) rfl rfl (V.len Try.underlying22 rfl) ?_
  refine J.val (v := .bool (decide ((((xa.length : Nat) : Int)) = 0))) rfl rfl (V.eql rfl rfl) ?_
  refine J.val (v := .bool (decide ((((xa.length : Nat) : Int)) = 0))) rfl rfl (V.mv rfl) ?_
  refine J.cut 6 ?_
  obtain ⟨t70, ht71, h⟩ := ob h
  refine @J.meet _ _ _ _ _ _ _ _ _ _ (fun ρ K' L' => Fits [(18, .bool t70), (2, .bool xc), (3, .pointer (some ⟨b58, 0, none⟩)), (4, .pointer (some ⟨b59, 0, none⟩))] ρ ∧ K = K' ∧ L' = Cl b59 24 [.slice adxb_0 xb.length cpxb_0] :: Cl b58 24 [.slice adxa_0 xa.length cpxa_0] :: F) ?_ ?_
  · skip
    rcases bt (decide ((((xa.length : Nat) : Int)) = 0)) with hc72 | hc72
    · have ht71 := ct hc72 ht71
      refine J.skip rfl rfl rfl rfl hc72 ?_
      refine J.skip rfl rfl rfl rfl hc72 ?_
      refine J.skip rfl rfl rfl rfl hc72 ?_
      refine J.skip rfl rfl rfl rfl hc72 ?_
      refine J.skip rfl rfl rfl rfl hc72 ?_
      refine J.val (v := .bool true) rfl rfl (V.pickT rfl hc72 rfl) ?_
      refine J.nil ?_
      have e := Option.some.inj ht71
      subst e
      exact ⟨rfl, ⟨rfl, rfl, rfl, rfl, trivial⟩, rfl, rfl⟩
    · have ht71 := cf hc72 ht71
      refine J.run rfl rfl rfl hc72 ?_
      refine J.val rfl rfl (V.fad Try.underlying24 rfl nz22 rfl) ?_
      refine J.run rfl rfl rfl hc72 ?_
      refine J.val (v := .slice adxa_0 xa.length cpxa_0) rfl rfl (V.ld rfl (Ld.sc sc22 (Rd.cl 1 rfl rfl))) ?_
      refine J.run rfl rfl rfl hc72 ?_
      obtain ⟨x73, hx74, ht71⟩ := ob ht71
      obtain ⟨p75, p76, p77⟩ := getI_some hx74
      obtain ⟨b78, o79, e80, a81⟩ := (fxa_0).at p76
      refine J.val rfl rfl (V.iad Try.underlying22 sz47 rfl e80 rfl p75 p77) ?_
      refine J.run rfl rfl rfl hc72 ?_
      refine J.val rfl rfl (V.fad Try.underlying47 rfl nz4 rfl) ?_
      refine J.run rfl rfl rfl hc72 ?_
      refine J.val (v := .bool x73.2) rfl rfl (V.ld rfl (Ld.sc sc4 (Rd.k (((a81).snd).one).bool (Hp.le_refl _)))) ?_
      refine J.val (v := .bool x73.2) rfl rfl (V.pickF rfl hc72 rfl) ?_
      refine J.nil ?_
      have e := Option.some.inj ht71
      subst e
      exact ⟨rfl, ⟨rfl, rfl, rfl, rfl, trivial⟩, rfl, rfl⟩
  · rintro ρ _ _ ⟨hf, rfl, rfl⟩
    obtain ⟨ρ, rfl⟩ := hf.ex
    refine J.val (v := .bool t70) rfl rfl (V.mv rfl) ?_
    refine J.cut 5 ?_
    obtain ⟨t89, ht90, h⟩ := ob h
    refine @J.meet _ _ _ _ _ _ _ _ _ _ (fun ρ K' L' => Fits [(24, .bool t89), (2, .bool xc), (3, .pointer (some ⟨b58, 0, none⟩))] ρ ∧ K = K' ∧ L' = Cl b59 24 [.slice adxb_0 xb.length cpxb_0] :: Cl b58 24 [.slice adxa_0 xa.length cpxa_0] :: F) ?_ ?_
    · skip
      rcases bt (t70) with hc91 | hc91
      · have ht90 := ct hc91 ht90
        refine J.skip rfl rfl rfl rfl hc91 ?_
        refine J.skip rfl rfl rfl rfl hc91 ?_
        refine J.skip rfl rfl rfl rfl hc91 ?_
        refine J.skip rfl rfl rfl rfl hc91 ?_
        refine J.val (v := .bool true) rfl rfl (V.pickT rfl hc91 rfl) ?_
        refine J.nil ?_
        have e := Option.some.inj ht90
        subst e
        exact ⟨rfl, ⟨rfl, rfl, rfl, trivial⟩, rfl, rfl⟩
      · have ht90 := cf hc91 ht90
        refine J.run rfl rfl rfl hc91 ?_
        refine J.val (v := .agg #[.slice adxa_0 xa.length cpxa_0]) rfl rfl (V.ld rfl (Ld.agg (cs := [.slice adxa_0 xa.length cpxa_0]) Try.underlying24 sz24 rfl (Rd.cls 1 0 rfl rfl))) ?_
        refine J.run rfl rfl rfl hc91 ?_
        refine J.val (v := .agg #[.slice adxb_0 xb.length cpxb_0]) rfl rfl (V.ld rfl (Ld.agg (cs := [.slice adxb_0 xb.length cpxb_0]) Try.underlying24 sz24 rfl (Rd.cls 0 0 rfl rfl))) ?_
        refine J.run rfl rfl rfl hc91 ?_
        obtain ⟨r92, hr93, ht90⟩ := ob ht90
        refine J.op rfl (A.call (L1 := []) Try.call21 rfl (row_Shape_ok fxa_0 fxb_0 hr93) rfl rfl) ?_
        rintro _ _ _ ⟨v95, _, rfl, ⟨⟨t94, rfl, rfl, rfl⟩, rfl⟩, _, rfl⟩
        refine J.run rfl rfl rfl hc91 ?_
        refine J.val (v := .bool (!t94)) rfl rfl (V.not rfl) ?_
        refine J.val (v := .bool (!t94)) rfl rfl (V.pickF rfl hc91 rfl) ?_
        refine J.nil ?_
        have e := Option.some.inj ht90
        subst e
        exact ⟨rfl, ⟨rfl, rfl, rfl, trivial⟩, rfl, rfl⟩
    · rintro ρ _ _ ⟨hf, rfl, rfl⟩
      obtain ⟨ρ, rfl⟩ := hf.ex
      refine J.nil ?_
      refine CJ.cond rfl (fun hc98 => ?_) (fun hc98 => ?_)
      · have h := ct hc98 h
        refine CJ.seq ?_
        refine CJ.region ?_
        refine J.val (v := .bool false) rfl rfl (V.as rfl) ?_
        refine J.nil ?_
        refine CJ.ret ?_
        have e := Option.some.inj h
        subst e
        exact ⟨_, [], Res.one rfl rfl, ⟨false, rfl, rfl, rfl⟩, (Hp.le_refl _), fun w hs => (Sep.dropAt 0 rfl (Sep.dropAt 0 rfl hs))⟩
      · have h := cf hc98 h
        refine CJ.skip ?_
        refine CJ.seq ?_
        refine CJ.region ?_
        refine J.val rfl rfl (V.fad Try.underlying24 rfl nz22 rfl) ?_
        refine J.val (v := .slice adxa_0 xa.length cpxa_0) rfl rfl (V.ld rfl (Ld.sc sc22 (Rd.cl 1 rfl rfl))) ?_
        obtain ⟨y99, hy100, h⟩ := ob h
        obtain ⟨ad101, cp102, hv103, f104⟩ := V.subI (tp := (.cons (.int .i64) (.one .bool))) Try.underlying22 sz47 fxa_0 hy100
        refine J.val (v := .slice ad101 y99.length cp102) rfl rfl (hv103 rfl (fun _ h => by cases h; exact ⟨_, rfl⟩) nofun nofun (fun _ => rfl)) ?_
        obtain ⟨r105, hr106, h⟩ := ob h
        refine J.op rfl (A.call (L1 := []) Try.call32 rfl (slices_ContainsFunc_api_Slot_api_Slot_k_relate_mayBorrowAgain_1_ok f104 hr106) rfl rfl) ?_
        rintro _ _ _ ⟨v108, _, rfl, ⟨⟨t107, rfl, rfl, rfl⟩, rfl⟩, _, rfl⟩
        refine J.val (v := .bool t107) rfl rfl (V.as rfl) ?_
        refine J.nil ?_
        refine CJ.seq ?_
        refine CJ.region ?_
        refine J.val (v := .bool xc) rfl rfl (V.mv rfl) ?_
        refine J.val (v := .bool (!xc)) rfl rfl (V.not rfl) ?_
        refine J.val (v := .bool (!xc)) rfl rfl (V.mv rfl) ?_
        refine J.cut 3 ?_
        refine @J.meet _ _ _ _ _ _ _ _ _ _ (fun ρ K' L' => Fits [(34, .bool ((!xc) || (!t107)))] ρ ∧ K = K' ∧ L' = Cl b59 24 [.slice adxb_0 xb.length cpxb_0] :: Cl b58 24 [.slice adxa_0 xa.length cpxa_0] :: F) ?_ ?_
        · skip
          rcases bt (!xc) with hc113 | hc113
          · skip
            refine J.skip rfl rfl rfl rfl hc113 ?_
            refine J.skip rfl rfl rfl rfl hc113 ?_
            refine J.val (v := .bool true) rfl rfl (V.pickT rfl hc113 rfl) ?_
            refine J.nil ?_
            exact ⟨rfl, ⟨(by simp only [hc113]; rfl), trivial⟩, rfl, rfl⟩
          · skip
            refine J.run rfl rfl rfl hc113 ?_
            refine J.val (v := .bool t107) rfl rfl (V.mv rfl) ?_
            refine J.run rfl rfl rfl hc113 ?_
            refine J.val (v := .bool (!t107)) rfl rfl (V.not rfl) ?_
            refine J.val (v := .bool (!t107)) rfl rfl (V.pickF rfl hc113 rfl) ?_
            refine J.nil ?_
            exact ⟨rfl, ⟨(by simp only [hc113]; rfl), trivial⟩, rfl, rfl⟩
        · rintro ρ _ _ ⟨hf, rfl, rfl⟩
          obtain ⟨ρ, rfl⟩ := hf.ex
          refine J.val (v := .bool ((!xc) || (!t107))) rfl rfl (V.as rfl) ?_
          refine J.nil ?_
          refine CJ.ret ?_
          have e := Option.some.inj h
          subst e
          exact ⟨_, [], Res.one rfl rfl, ⟨(!xc) || (!t107), rfl, rfl, rfl⟩, (Hp.le_refl _), fun w hs => (Sep.dropAt 0 rfl (Sep.dropAt 0 rfl hs))⟩

noncomputable def fn_relate_Again (xa : (List (Int × Bool))) (xb : (List (Int × Bool))) (xc : Int) (xd : Bool) : Option (((List (Int × Int × Int × Int × Bool)) × Int)) :=
  (fn_relate_mayBorrowAgain xa xb xd).bind fun t112 => cond (!t112) (some (([], 8))) ((getI xa 0).bind fun x139 => (getI xb 0).bind fun x148 => (subL xa 1 (((xa.length : Nat) : Int))).bind fun y182 => (subL xb 1 (((xb.length : Nat) : Int))).bind fun y188 => (fn_relate_related y182 y188 1 1).bind fun l196 => (app (([(x139.1, xc, 3, 0, false), (xc, x148.1, 2, 0, false)] : List (Int × Int × Int × Int × Bool))) l196).bind fun z204 => some ((z204, 0)))
set_option maxRecDepth 100000 in
set_option maxHeartbeats 4000000 in
theorem relate_Again_ok {K : Hp} {xa : (List (Int × Bool))} {xb : (List (Int × Bool))} {xc : Int} {xd : Bool} {adxa_0 : Option Addr} {cpxa_0 : Nat} {adxb_0 : Option Addr} {cpxb_0 : Nat} (fxa_0 : Is K (.sl (.cons (.int .i64) (.one .bool))) [.slice adxa_0 xa.length cpxa_0] xa) (fxb_0 : Is K (.sl (.cons (.int .i64) (.one .bool))) [.slice adxb_0 xb.length cpxb_0] xb) {r : ((List (Int × Int × Int × Int × Bool)) × Int)} (h : fn_relate_Again xa xb xc xd = some r) :
    Tr Try.prog 12 #[.agg #[.slice adxa_0 xa.length cpxa_0], .agg #[.slice adxb_0 xb.length cpxb_0], .int .i64 xc, .bool xd] K [] (fun v K' L' => (∃ (l102 : (List (Int × Int × Int × Int × Bool))) (i107 : Int) (ad103 : Option Addr) (cp104 : Nat), (l102, i107) = r ∧ v = .tuple #[.slice ad103 l102.length cp104, .int .i64 i107] ∧ L' = [Row Hp.nil 40 (.cons (.int .i64) (.cons (.int .i64) (.cons (.int .i64) (.cons (.int .i64) (.one .bool))))) (.slice ad103 l102.length cp104) l102]) ∧ K = K') := by
  refine Tr.k ?_
  refine Tr.of Try.func12 rfl Try.ntmps12 rfl (fun E F => ?_)
  unfold fn_relate_Again at h
  refine CJ.seq ?_
  refine CJ.region ?_
  refine J.op rfl (A.box (v := .agg #[.slice adxa_0 xa.length cpxa_0]) (cs := [.slice adxa_0 xa.length cpxa_0]) rfl rfl) ?_
  rintro _ _ _ ⟨b108, rfl, rfl, rfl⟩
  refine J.op rfl (A.box (v := .agg #[.slice adxb_0 xb.length cpxb_0]) (cs := [.slice adxb_0 xb.length cpxb_0]) rfl rfl) ?_
  rintro _ _ _ ⟨b109, rfl, rfl, rfl⟩
  refine J.val (v := .slice none 0 0) rfl rfl (V.as rfl) ?_
  refine J.val (v := .int .i64 0) rfl rfl (V.as rfl) ?_
  refine J.nil ?_
  refine CJ.seq ?_
  refine CJ.seq ?_
  refine CJ.region ?_
  refine J.val (v := .agg #[.slice adxa_0 xa.length cpxa_0]) rfl rfl (V.ld rfl (Ld.agg (cs := [.slice adxa_0 xa.length cpxa_0]) Try.underlying24 sz24 rfl (Rd.cls 1 0 rfl rfl))) ?_
  refine J.val (v := .agg #[.slice adxb_0 xb.length cpxb_0]) rfl rfl (V.ld rfl (Ld.agg (cs := [.slice adxb_0 xb.length cpxb_0]) Try.underlying24 sz24 rfl (Rd.cls 0 0 rfl rfl))) ?_
  refine J.val (v := .bool xd) rfl rfl (V.mv rfl) ?_
  obtain ⟨r110, hr111, h⟩ := ob h
  refine J.op rfl (A.call (L1 := []) Try.call27 rfl (relate_mayBorrowAgain_ok fxa_0 fxb_0 hr111) rfl rfl) ?_
  rintro _ _ _ ⟨v113, _, rfl, ⟨⟨t112, rfl, rfl, rfl⟩, rfl⟩, _, rfl⟩
  refine J.val (v := .bool (!t112)) rfl rfl (V.not rfl) ?_
  refine J.nil ?_
  refine CJ.cond rfl (fun hc116 => ?_) (fun hc116 => ?_)
  · have h := ct hc116 h
    refine CJ.seq ?_
    refine CJ.region ?_
    refine J.val (v := .slice none 0 0) rfl rfl (V.as rfl) ?_
    refine J.val (v := .int .i64 8) rfl rfl (V.as rfl) ?_
    refine J.nil ?_
    refine CJ.by (fun w hs => Sep.rowNil (e := 40) (t := (.cons (.int .i64) (.cons (.int .i64) (.cons (.int .i64) (.cons (.int .i64) (.one .bool)))))) hs) ?_
    refine CJ.ret ?_
    have e := Option.some.inj h
    subst e
    exact ⟨_, [Row Hp.nil 40 (.cons (.int .i64) (.cons (.int .i64) (.cons (.int .i64) (.cons (.int .i64) (.one .bool))))) (.slice none ((([] : List (Int × Int × Int × Int × Bool))).length) 0) (([] : List (Int × Int × Int × Int × Bool)))], Res.two rfl rfl rfl, ⟨[], 8, none, 0, rfl, rfl, rfl⟩, (Hp.le_refl _), fun w hs => (Sep.dropAt 1 rfl (Sep.dropAt 1 rfl hs))⟩
  · have h := cf hc116 h
    refine CJ.skip ?_
    refine CJ.seq ?_
    refine CJ.mix [Cl b109 24 [.slice adxb_0 xb.length cpxb_0], Cl b108 24 [.slice adxa_0 xa.length cpxa_0]] [([0, 1, 2, 3, 4, 5, 6, 7, 8, 9, 10, 11, 12, 13], 14)] [15] [] mixO (by decide +kernel) ⟨0, rfl, 0, rfl, trivial⟩ rfl rfl rfl ?_
    refine JM.cons ?_
    refine JQ.val rfl rfl (V.fad Try.underlying24 rfl nz22 rfl) ?_
    refine JQ.val (v := .slice adxa_0 xa.length cpxa_0) rfl rfl (V.ld rfl (Ld.sc sc22 (Rd.cl 1 rfl rfl))) ?_
    obtain ⟨x139, hx140, h⟩ := ob h
    obtain ⟨p141, p142, p143⟩ := getI_some hx140
    obtain ⟨b144, o145, e146, a147⟩ := (fxa_0).at p142
    refine JQ.val rfl rfl (V.iad Try.underlying22 sz47 rfl e146 rfl p141 p143) ?_
    refine JQ.val rfl rfl (V.fad Try.underlying47 rfl nz3 rfl) ?_
    refine JQ.val (v := .int .i64 x139.1) rfl rfl (V.ld rfl (Ld.sc sc3 (Rd.k ((a147).fst).int (Hp.le_refl _)))) ?_
    refine JQ.val (v := .int .i64 xc) rfl rfl (V.mv rfl) ?_
    refine JQ.val (v := .agg #[.int .i64 x139.1, .int .i64 xc, .int .i64 3, .int .i64 0, .bool false]) rfl rfl (V.build inf40 places40 rfl rfl) ?_
    refine JQ.val (v := .int .i64 xc) rfl rfl (V.mv rfl) ?_
    refine JQ.val rfl rfl (V.fad Try.underlying24 rfl nz22 rfl) ?_
    refine JQ.val (v := .slice adxb_0 xb.length cpxb_0) rfl rfl (V.ld rfl (Ld.sc sc22 (Rd.cl 0 rfl rfl))) ?_
    obtain ⟨x148, hx149, h⟩ := ob h
    obtain ⟨p150, p151, p152⟩ := getI_some hx149
    obtain ⟨b153, o154, e155, a156⟩ := (fxb_0).at p151
    refine JQ.val rfl rfl (V.iad Try.underlying22 sz47 rfl e155 rfl p150 p152) ?_
    refine JQ.val rfl rfl (V.fad Try.underlying47 rfl nz3 rfl) ?_
    refine JQ.val (v := .int .i64 x148.1) rfl rfl (V.ld rfl (Ld.sc sc3 (Rd.k ((a156).fst).int (Hp.le_refl _)))) ?_
    refine JQ.val (v := .agg #[.int .i64 xc, .int .i64 x148.1, .int .i64 2, .int .i64 0, .bool false]) rfl rfl (V.build inf40 places40 rfl rfl) ?_
    refine JQ.nil ?_
    refine JA.op rfl (A.lit (K0 := Hp.nil) (ty := (.cons (.int .i64) (.cons (.int .i64) (.cons (.int .i64) (.cons (.int .i64) (.one .bool)))))) (xs := ([(x139.1, xc, 3, 0, false), (xc, x148.1, 2, 0, false)] : List (Int × Int × Int × Int × Bool))) Try.underlying27 inf40 rfl (by decide) rfl rfl rfl ⟨_, _, rfl, ⟨_, _, rfl, rfl, rfl, ⟨_, _, rfl, rfl, rfl, ⟨_, _, rfl, rfl, rfl, ⟨_, _, rfl, rfl, rfl, rfl⟩⟩⟩⟩, ⟨_, _, rfl, ⟨_, _, rfl, rfl, rfl, ⟨_, _, rfl, rfl, rfl, ⟨_, _, rfl, rfl, rfl, ⟨_, _, rfl, rfl, rfl, rfl⟩⟩⟩⟩, rfl⟩⟩ rfl (by decide)) ?_
    rintro _ _ _ ⟨b157, rfl, rfl, rfl⟩
    have hn158 : ([(x139.1, xc, 3, 0, false), (xc, x148.1, 2, 0, false)] : List (Int × Int × Int × Int × Bool)) ≠ [] → ∃ g, (some ⟨b157, 0, none⟩ : Option Addr) = some ⟨g, 0, none⟩ := fun _ => ⟨b157, rfl⟩
    refine ⟨fun w hs => Hold.sub (Hp.le_refl _) ⟨1, rfl, 1, rfl, trivial⟩ hs, ?_⟩
    refine JM.nil ?_
    refine JQ.val (v := .slice (some ⟨b157, 0, none⟩) ((([(x139.1, xc, 3, 0, false), (xc, x148.1, 2, 0, false)] : List (Int × Int × Int × Int × Bool))).length) 2) rfl rfl (V.as rfl) ?_
    refine JQ.nil ?_
    refine J.nil ?_
    refine CJ.seq ?_
    refine CJ.mix [Row Hp.nil 40 (.cons (.int .i64) (.cons (.int .i64) (.cons (.int .i64) (.cons (.int .i64) (.one .bool))))) (.slice (some ⟨b157, 0, none⟩) ((([(x139.1, xc, 3, 0, false), (xc, x148.1, 2, 0, false)] : List (Int × Int × Int × Int × Bool))).length) 2) (([(x139.1, xc, 3, 0, false), (xc, x148.1, 2, 0, false)] : List (Int × Int × Int × Int × Bool))), Cl b109 24 [.slice adxb_0 xb.length cpxb_0], Cl b108 24 [.slice adxa_0 xa.length cpxa_0]] [([0, 1, 2, 3, 4, 5, 6], 7)] [] [8, 9, 10] mixO (by decide +kernel) ⟨0, rfl, 0, rfl, 0, rfl, trivial⟩ rfl rfl rfl ?_
    refine JM.cons ?_
    refine JQ.val (v := .slice (some ⟨b157, 0, none⟩) ((([(x139.1, xc, 3, 0, false), (xc, x148.1, 2, 0, false)] : List (Int × Int × Int × Int × Bool))).length) 2) rfl rfl (V.mv rfl) ?_
    refine JQ.val rfl rfl (V.fad Try.underlying24 rfl nz22 rfl) ?_
    refine JQ.val (v := .slice adxa_0 xa.length cpxa_0) rfl rfl (V.ld rfl (Ld.sc sc22 (Rd.cl 2 rfl rfl))) ?_
    obtain ⟨y182, hy183, h⟩ := ob h
    obtain ⟨ad184, cp185, hv186, f187⟩ := V.subI (tp := (.cons (.int .i64) (.one .bool))) Try.underlying22 sz47 fxa_0 hy183
    refine JQ.val (v := .slice ad184 y182.length cp185) rfl rfl (hv186 rfl (fun _ h => by cases h; exact ⟨_, rfl⟩) nofun nofun (fun _ => rfl)) ?_
    refine JQ.val rfl rfl (V.fad Try.underlying24 rfl nz22 rfl) ?_
    refine JQ.val (v := .slice adxb_0 xb.length cpxb_0) rfl rfl (V.ld rfl (Ld.sc sc22 (Rd.cl 1 rfl rfl))) ?_
    obtain ⟨y188, hy189, h⟩ := ob h
    obtain ⟨ad190, cp191, hv192, f193⟩ := V.subI (tp := (.cons (.int .i64) (.one .bool))) Try.underlying22 sz47 fxb_0 hy189
    refine JQ.val (v := .slice ad190 y188.length cp191) rfl rfl (hv192 rfl (fun _ h => by cases h; exact ⟨_, rfl⟩) nofun nofun (fun _ => rfl)) ?_
    refine JQ.nil ?_
    obtain ⟨r194, hr195, h⟩ := ob h
    refine JA.op rfl (A.call (L1 := []) Try.call22 rfl (relate_related_ok f187 f193 hr195) rfl rfl) ?_
    rintro _ _ _ ⟨v200, _, rfl, ⟨⟨l196, ad197, cp198, rfl, rfl, rfl⟩, rfl⟩, _, rfl⟩
    refine ⟨fun w hs => Hold.sub (Hp.le_refl _) ⟨1, rfl, 1, rfl, 1, rfl, trivial⟩ hs, ?_⟩
    refine JM.wit Row.hn (fun hn199 => ?_)
    refine JM.nil ?_
    refine JQ.nil ?_
    obtain ⟨z204, hz205, h⟩ := ob h
    refine J.front 1 rfl ?_
    refine J.op rfl (A.appR (Kr := Hp.nil) Try.underlying27 inf40 rfl rfl (by decide) (by decide) rfl rfl (Els.flat rfl) (Els.flat rfl) hz205) ?_
    rintro _ _ _ ⟨v206, rfl, rfl, rfl⟩
    refine J.wit Row.form ?_
    rintro ⟨ad207, cp208, rfl, _, _, hn209⟩
    refine J.val (v := .slice ad207 z204.length cp208) rfl rfl (V.as rfl) ?_
    refine J.val (v := .int .i64 0) rfl rfl (V.as rfl) ?_
    refine J.nil ?_
    refine CJ.ret ?_
    have e := Option.some.inj h
    subst e
    exact ⟨_, [Row Hp.nil 40 (.cons (.int .i64) (.cons (.int .i64) (.cons (.int .i64) (.cons (.int .i64) (.one .bool))))) (.slice ad207 z204.length cp208) z204], Res.two rfl rfl rfl, ⟨z204, 0, ad207, cp208, rfl, rfl, rfl⟩, (Hp.le_refl _), fun w hs => (Sep.dropAt 1 rfl (Sep.dropAt 1 rfl hs))⟩
noncomputable def fn_ref16_Again_l1 (xa : (List (Int × Bool))) (xd : Bool) : Int → Option (Int ⊕ (Unit ⊕ ((List (Int × Int × Int × Int × Bool)) × Int))) := fun (i448 : Int) => cond (decide (i448 < (((xa.length : Nat) : Int)))) ((cond (xd) ((getI xa i448).bind fun x492 => some (!x492.2)) (some (false))).bind fun t489 => cond (t489) (some (.inr ((.inr (([], 8)))))) (some (.inl (IntKind.wrap .i64 (i448 + 1))))) (some (.inr ((.inl ()))))
noncomputable def fn_ref16_Again (xa : (List (Int × Bool))) (xb : (List (Int × Bool))) (xc : Int) (xd : Bool) : Option (((List (Int × Int × Int × Int × Bool)) × Int)) :=
  (cond (decide ((((xa.length : Nat) : Int)) = 0)) (some (true)) ((fn_ref15_Shape xa xb).bind fun t314 => some (!t314))).bind fun t309 => (cond (t309) (some (true)) ((getI xa 0).bind fun x331 => some (x331.2))).bind fun t328 => cond (t328) (some (([], 8))) ((loop (fn_ref16_Again_l1 xa xd) 1 : Option (Unit ⊕ ((List (Int × Int × Int × Int × Bool)) × Int))).bind fun o => match o with | .inr r => some r | .inl () => (getI xa 0).bind fun x527 => (getI xb 0).bind fun x536 => (subL xa 1 (((xa.length : Nat) : Int))).bind fun y571 => (subL xb 1 (((xb.length : Nat) : Int))).bind fun y577 => (fn_ref16_slots_rkkii y571 y577 1 1 (([(x527.1, xc, 3, 0, false), (xc, x536.1, 2, 0, false)] : List (Int × Int × Int × Int × Bool)))).bind fun l585 => some ((l585, 0)))
set_option maxRecDepth 100000 in
set_option maxHeartbeats 4000000 in
theorem ref16_Again_ok {K : Hp} {xa : (List (Int × Bool))} {xb : (List (Int × Bool))} {xc : Int} {xd : Bool} {adxa_0 : Option Addr} {cpxa_0 : Nat} {adxb_0 : Option Addr} {cpxb_0 : Nat} (fxa_0 : Is K (.sl (.cons (.int .i64) (.one .bool))) [.slice adxa_0 xa.length cpxa_0] xa) (fxb_0 : Is K (.sl (.cons (.int .i64) (.one .bool))) [.slice adxb_0 xb.length cpxb_0] xb) {r : ((List (Int × Int × Int × Int × Bool)) × Int)} (h : fn_ref16_Again xa xb xc xd = some r) :
    Tr Try.prog 13 #[.agg #[.slice adxa_0 xa.length cpxa_0], .agg #[.slice adxb_0 xb.length cpxb_0], .int .i64 xc, .bool xd] K [] (fun v K' L' => (∃ (l294 : (List (Int × Int × Int × Int × Bool))) (i299 : Int) (ad295 : Option Addr) (cp296 : Nat), (l294, i299) = r ∧ v = .tuple #[.slice ad295 l294.length cp296, .int .i64 i299] ∧ L' = [Row Hp.nil 48 (.cons (.int .i64) (.cons (.int .i64) (.cons (.int .i64) (.cons (.int .i64) (.one .bool))))) (.slice ad295 l294.length cp296) l294]) ∧ K = K') := by
  refine Tr.k ?_
  refine Tr.of Try.func13 rfl Try.ntmps13 rfl (fun E F => ?_)
  unfold fn_ref16_Again at h
  refine CJ.seq ?_
  refine CJ.region ?_
  refine J.op rfl (A.box (v := .agg #[.slice adxa_0 xa.length cpxa_0]) (cs := [.slice adxa_0 xa.length cpxa_0]) rfl rfl) ?_
  rintro _ _ _ ⟨b300, rfl, rfl, rfl⟩
  refine J.op rfl (A.box (v := .agg #[.slice adxb_0 xb.length cpxb_0]) (cs := [.slice adxb_0 xb.length cpxb_0]) rfl rfl) ?_
  rintro _ _ _ ⟨b301, rfl, rfl, rfl⟩
  refine J.val (v := .slice none 0 0) rfl rfl (V.as rfl) ?_
  refine J.val (v := .int .i64 0) rfl rfl (V.as rfl) ?_
  refine J.nil ?_
  refine CJ.seq ?_
  refine CJ.seq ?_
  refine CJ.region ?_
  refine J.val rfl rfl (V.fad Try.underlying24 rfl nz22 rfl) ?_
  refine J.val (v := .slice adxa_0 xa.length cpxa_0) rfl rfl (V.ld rfl (Ld.sc sc22 (Rd.cl 1 rfl rfl))) ?_
  refine J.val (v := .int .i64 (((xa.length : Nat) : Int))) rfl rfl (V.len Try.underlying22 rfl) ?_
  refine J.val (v := .bool (decide ((((xa.length : Nat) : Int)) = 0))) rfl rfl (V.eql rfl rfl) ?_
  refine J.val (v := .bool (decide ((((xa.length : Nat) : Int)) = 0))) rfl rfl (V.mv rfl) ?_
  refine J.cut 5 ?_
  obtain ⟨t309, ht310, h⟩ := ob h
  refine @J.meet _ _ _ _ _ _ _ _ _ _ (fun ρ K' L' => Fits [(21, .bool t309), (2, .int .i64 xc), (3, .bool xd), (4, .pointer (some ⟨b300, 0, none⟩)), (5, .pointer (some ⟨b301, 0, none⟩))] ρ ∧ K = K' ∧ L' = Cl b301 24 [.slice adxb_0 xb.length cpxb_0] :: Cl b300 24 [.slice adxa_0 xa.length cpxa_0] :: F) ?_ ?_
  · skip
    rcases bt (decide ((((xa.length : Nat) : Int)) = 0)) with hc311 | hc311
    · have ht310 := ct hc311 ht310
      refine J.skip rfl rfl rfl rfl hc311 ?_
      refine J.skip rfl rfl rfl rfl hc311 ?_
      refine J.skip rfl rfl rfl rfl hc311 ?_
      refine J.skip rfl rfl rfl rfl hc311 ?_
      refine J.val (v := .bool true) rfl rfl (V.pickT rfl hc311 rfl) ?_
      refine J.nil ?_
      have e := Option.some.inj ht310
      subst e
      exact ⟨rfl, ⟨rfl, rfl, rfl, rfl, rfl, trivial⟩, rfl, rfl⟩
    · have ht310 := cf hc311 ht310
      refine J.run rfl rfl rfl hc311 ?_
      refine J.val (v := .agg #[.slice adxa_0 xa.length cpxa_0]) rfl rfl (V.ld rfl (Ld.agg (cs := [.slice adxa_0 xa.length cpxa_0]) Try.underlying24 sz24 rfl (Rd.cls 1 0 rfl rfl))) ?_
      refine J.run rfl rfl rfl hc311 ?_
      refine J.val (v := .agg #[.slice adxb_0 xb.length cpxb_0]) rfl rfl (V.ld rfl (Ld.agg (cs := [.slice adxb_0 xb.length cpxb_0]) Try.underlying24 sz24 rfl (Rd.cls 0 0 rfl rfl))) ?_
      refine J.run rfl rfl rfl hc311 ?_
      obtain ⟨r312, hr313, ht310⟩ := ob ht310
      refine J.op rfl (A.call (L1 := []) Try.call23 rfl (ref15_Shape_ok fxa_0 fxb_0 hr313) rfl rfl) ?_
      rintro _ _ _ ⟨v315, _, rfl, ⟨⟨t314, rfl, rfl, rfl⟩, rfl⟩, _, rfl⟩
      refine J.run rfl rfl rfl hc311 ?_
      refine J.val (v := .bool (!t314)) rfl rfl (V.not rfl) ?_
      refine J.val (v := .bool (!t314)) rfl rfl (V.pickF rfl hc311 rfl) ?_
      refine J.nil ?_
      have e := Option.some.inj ht310
      subst e
      exact ⟨rfl, ⟨rfl, rfl, rfl, rfl, rfl, trivial⟩, rfl, rfl⟩
  · rintro ρ _ _ ⟨hf, rfl, rfl⟩
    obtain ⟨ρ, rfl⟩ := hf.ex
    refine J.val (v := .bool t309) rfl rfl (V.mv rfl) ?_
    refine J.cut 6 ?_
    obtain ⟨t328, ht329, h⟩ := ob h
    refine @J.meet _ _ _ _ _ _ _ _ _ _ (fun ρ K' L' => Fits [(28, .bool t328), (2, .int .i64 xc), (3, .bool xd), (4, .pointer (some ⟨b300, 0, none⟩)), (5, .pointer (some ⟨b301, 0, none⟩))] ρ ∧ K = K' ∧ L' = Cl b301 24 [.slice adxb_0 xb.length cpxb_0] :: Cl b300 24 [.slice adxa_0 xa.length cpxa_0] :: F) ?_ ?_
    · skip
      rcases bt (t309) with hc330 | hc330
      · have ht329 := ct hc330 ht329
        refine J.skip rfl rfl rfl rfl hc330 ?_
        refine J.skip rfl rfl rfl rfl hc330 ?_
        refine J.skip rfl rfl rfl rfl hc330 ?_
        refine J.skip rfl rfl rfl rfl hc330 ?_
        refine J.skip rfl rfl rfl rfl hc330 ?_
        refine J.val (v := .bool true) rfl rfl (V.pickT rfl hc330 rfl) ?_
        refine J.nil ?_
        have e := Option.some.inj ht329
        subst e
        exact ⟨rfl, ⟨rfl, rfl, rfl, rfl, rfl, trivial⟩, rfl, rfl⟩
      · have ht329 := cf hc330 ht329
        refine J.run rfl rfl rfl hc330 ?_
        refine J.val rfl rfl (V.fad Try.underlying24 rfl nz22 rfl) ?_
        refine J.run rfl rfl rfl hc330 ?_
        refine J.val (v := .slice adxa_0 xa.length cpxa_0) rfl rfl (V.ld rfl (Ld.sc sc22 (Rd.cl 1 rfl rfl))) ?_
        refine J.run rfl rfl rfl hc330 ?_
        obtain ⟨x331, hx332, ht329⟩ := ob ht329
        obtain ⟨p333, p334, p335⟩ := getI_some hx332
        obtain ⟨b336, o337, e338, a339⟩ := (fxa_0).at p334
        refine J.val rfl rfl (V.iad Try.underlying22 sz47 rfl e338 rfl p333 p335) ?_
        refine J.run rfl rfl rfl hc330 ?_
        refine J.val rfl rfl (V.fad Try.underlying47 rfl nz4 rfl) ?_
        refine J.run rfl rfl rfl hc330 ?_
        refine J.val (v := .bool x331.2) rfl rfl (V.ld rfl (Ld.sc sc4 (Rd.k (((a339).snd).one).bool (Hp.le_refl _)))) ?_
        refine J.val (v := .bool x331.2) rfl rfl (V.pickF rfl hc330 rfl) ?_
        refine J.nil ?_
        have e := Option.some.inj ht329
        subst e
        exact ⟨rfl, ⟨rfl, rfl, rfl, rfl, rfl, trivial⟩, rfl, rfl⟩
    · rintro ρ _ _ ⟨hf, rfl, rfl⟩
      obtain ⟨ρ, rfl⟩ := hf.ex
      refine J.nil ?_
      refine CJ.cond rfl (fun hc340 => ?_) (fun hc340 => ?_)
      · have h := ct hc340 h
        refine CJ.seq ?_
        refine CJ.region ?_
        refine J.val (v := .slice none 0 0) rfl rfl (V.as rfl) ?_
        refine J.val (v := .int .i64 8) rfl rfl (V.as rfl) ?_
        refine J.nil ?_
        refine CJ.by (fun w hs => Sep.rowNil (e := 48) (t := (.cons (.int .i64) (.cons (.int .i64) (.cons (.int .i64) (.cons (.int .i64) (.one .bool)))))) hs) ?_
        refine CJ.ret ?_
        have e := Option.some.inj h
        subst e
        exact ⟨_, [Row Hp.nil 48 (.cons (.int .i64) (.cons (.int .i64) (.cons (.int .i64) (.cons (.int .i64) (.one .bool))))) (.slice none ((([] : List (Int × Int × Int × Int × Bool))).length) 0) (([] : List (Int × Int × Int × Int × Bool)))], Res.two rfl rfl rfl, ⟨[], 8, none, 0, rfl, rfl, rfl⟩, (Hp.le_refl _), fun w hs => (Sep.dropAt 1 rfl (Sep.dropAt 1 rfl hs))⟩
      · have h := cf hc340 h
        refine CJ.skip ?_
        refine CJ.seq ?_
        refine CJ.seq ?_
        refine CJ.region ?_
        refine J.val (v := .int .i64 1) rfl rfl (V.as rfl) ?_
        refine J.nil ?_
        obtain ⟨o421, ho422, h⟩ := ob h
        refine CJ.joinN (o := o421) (fun s ρ K' L' => () = s ∧ Fits [(2, .int .i64 xc), (4, .pointer (some ⟨b300, 0, none⟩)), (5, .pointer (some ⟨b301, 0, none⟩))] ρ ∧ K = K' ∧ L' = Cl b300 24 [.slice adxa_0 xa.length cpxa_0] :: Cl b301 24 [.slice adxb_0 xb.length cpxb_0] :: F) ?_ ?_
        · skip
          refine CJ.block ?_
          refine CJ.front 1 rfl ?_
          refine CJ.loop (fun s ρ K' L' => ∃ (i448 : Int), i448 = s ∧ Fits [(2, .int .i64 xc), (3, .bool xd), (4, .pointer (some ⟨b300, 0, none⟩)), (5, .pointer (some ⟨b301, 0, none⟩)), (10, .int .i64 i448)] ρ ∧ K = K' ∧ L' = Cl b300 24 [.slice adxa_0 xa.length cpxa_0] :: Cl b301 24 [.slice adxb_0 xb.length cpxb_0] :: F) ho422 ⟨1, rfl, ⟨rfl, rfl, rfl, rfl, rfl, trivial⟩, rfl, rfl⟩ ?_
          rintro s ρ _ _ r477 ⟨i448, rfl, hf475, rfl, rfl⟩ h474
          obtain ⟨ρ, rfl⟩ := hf475.ex
          refine CJ.seq ?_
          refine CJ.seq ?_
          refine CJ.region ?_
          refine J.val (v := .int .i64 i448) rfl rfl (V.mv rfl) ?_
          refine J.val rfl rfl (V.fad Try.underlying24 rfl nz22 rfl) ?_
          refine J.val (v := .slice adxa_0 xa.length cpxa_0) rfl rfl (V.ld rfl (Ld.sc sc22 (Rd.cl 0 rfl rfl))) ?_
          refine J.val (v := .int .i64 (((xa.length : Nat) : Int))) rfl rfl (V.len Try.underlying22 rfl) ?_
          refine J.val (v := .bool (decide (i448 < (((xa.length : Nat) : Int))))) rfl rfl (V.lss rfl rfl) ?_
          refine J.nil ?_
          refine CJ.cond rfl (fun hc478 => ?_) (fun hc478 => ?_)
          · have h474 := ct hc478 h474
            refine CJ.skip ?_
            refine CJ.seq ?_
            refine CJ.block ?_
            refine CJ.seq ?_
            refine CJ.region ?_
            refine J.val (v := .bool xd) rfl rfl (V.mv rfl) ?_
            refine J.val (v := .bool xd) rfl rfl (V.mv rfl) ?_
            refine J.cut 8 ?_
            obtain ⟨t489, ht490, h474⟩ := ob h474
            refine @J.meet _ _ _ _ _ _ _ _ _ _ (fun ρ K' L' => Fits [(45, .bool t489), (2, .int .i64 xc), (3, .bool xd), (4, .pointer (some ⟨b300, 0, none⟩)), (5, .pointer (some ⟨b301, 0, none⟩)), (10, .int .i64 i448)] ρ ∧ K = K' ∧ L' = Cl b300 24 [.slice adxa_0 xa.length cpxa_0] :: Cl b301 24 [.slice adxb_0 xb.length cpxb_0] :: F) ?_ ?_
            · skip
              rcases bt (xd) with hc491 | hc491
              · have ht490 := ct hc491 ht490
                refine J.run rfl rfl rfl hc491 ?_
                refine J.val rfl rfl (V.fad Try.underlying24 rfl nz22 rfl) ?_
                refine J.run rfl rfl rfl hc491 ?_
                refine J.val (v := .slice adxa_0 xa.length cpxa_0) rfl rfl (V.ld rfl (Ld.sc sc22 (Rd.cl 0 rfl rfl))) ?_
                refine J.run rfl rfl rfl hc491 ?_
                refine J.val (v := .int .i64 i448) rfl rfl (V.mv rfl) ?_
                refine J.run rfl rfl rfl hc491 ?_
                obtain ⟨x492, hx493, ht490⟩ := ob ht490
                obtain ⟨p494, p495, p496⟩ := getI_some hx493
                obtain ⟨b497, o498, e499, a500⟩ := (fxa_0).at p495
                refine J.val rfl rfl (V.iad Try.underlying22 sz47 rfl e499 rfl p494 p496) ?_
                refine J.run rfl rfl rfl hc491 ?_
                refine J.val rfl rfl (V.fad Try.underlying47 rfl nz4 rfl) ?_
                refine J.run rfl rfl rfl hc491 ?_
                refine J.val (v := .bool x492.2) rfl rfl (V.ld rfl (Ld.sc sc4 (Rd.k (((a500).snd).one).bool (Hp.le_refl _)))) ?_
                refine J.run rfl rfl rfl hc491 ?_
                refine J.val (v := .bool (!x492.2)) rfl rfl (V.not rfl) ?_
                refine J.val (v := .bool (!x492.2)) rfl rfl (V.pickT rfl hc491 rfl) ?_
                refine J.nil ?_
                have e := Option.some.inj ht490
                subst e
                exact ⟨rfl, ⟨rfl, rfl, rfl, rfl, rfl, rfl, trivial⟩, rfl, rfl⟩
              · have ht490 := cf hc491 ht490
                refine J.skip rfl rfl rfl rfl hc491 ?_
                refine J.skip rfl rfl rfl rfl hc491 ?_
                refine J.skip rfl rfl rfl rfl hc491 ?_
                refine J.skip rfl rfl rfl rfl hc491 ?_
                refine J.skip rfl rfl rfl rfl hc491 ?_
                refine J.skip rfl rfl rfl rfl hc491 ?_
                refine J.skip rfl rfl rfl rfl hc491 ?_
                refine J.val (v := .bool false) rfl rfl (V.pickF rfl hc491 rfl) ?_
                refine J.nil ?_
                have e := Option.some.inj ht490
                subst e
                exact ⟨rfl, ⟨rfl, rfl, rfl, rfl, rfl, rfl, trivial⟩, rfl, rfl⟩
            · rintro ρ _ _ ⟨hf, rfl, rfl⟩
              obtain ⟨ρ, rfl⟩ := hf.ex
              refine J.nil ?_
              refine CJ.cond rfl (fun hc501 => ?_) (fun hc501 => ?_)
              · have h474 := ct hc501 h474
                refine CJ.seq ?_
                refine CJ.region ?_
                refine J.val (v := .slice none 0 0) rfl rfl (V.as rfl) ?_
                refine J.val (v := .int .i64 8) rfl rfl (V.as rfl) ?_
                refine J.nil ?_
                refine CJ.by (fun w hs => Sep.rowNil (e := 48) (t := (.cons (.int .i64) (.cons (.int .i64) (.cons (.int .i64) (.cons (.int .i64) (.one .bool)))))) hs) ?_
                refine CJ.ret ?_
                have e := Option.some.inj h474
                subst e
                refine ⟨nofun, fun e => ?_⟩
                subst e
                refine .inr ⟨nofun, ?_⟩
                have e := Option.some.inj h
                subst e
                exact ⟨_, [Row Hp.nil 48 (.cons (.int .i64) (.cons (.int .i64) (.cons (.int .i64) (.cons (.int .i64) (.one .bool))))) (.slice none ((([] : List (Int × Int × Int × Int × Bool))).length) 0) (([] : List (Int × Int × Int × Int × Bool)))], Res.two rfl rfl rfl, ⟨[], 8, none, 0, rfl, rfl, rfl⟩, (Hp.le_refl _), fun w hs => (Sep.dropAt 1 rfl (Sep.dropAt 1 rfl hs))⟩
              · have h474 := cf hc501 h474
                refine CJ.skip ?_
                refine CJ.region ?_
                refine J.val (v := .int .i64 i448) rfl rfl (V.mv rfl) ?_
                refine J.val (v := .int .i64 (IntKind.wrap .i64 (i448 + 1))) rfl rfl (V.add rfl rfl) ?_
                refine J.val (v := .int .i64 (IntKind.wrap .i64 (i448 + 1))) rfl rfl (V.as rfl) ?_
                refine J.nil ?_
                have e := Option.some.inj h474
                subst e
                exact ⟨rfl, ⟨IntKind.wrap .i64 (i448 + 1), rfl, ⟨rfl, rfl, rfl, rfl, rfl, trivial⟩, rfl, rfl⟩⟩
          · have h474 := cf hc478 h474
            refine CJ.exit ?_
            have e := Option.some.inj h474
            subst e
            refine ⟨nofun, fun e => ?_⟩
            subst e
            exact .inl ⟨rfl, _, rfl, ⟨rfl, ⟨rfl, rfl, rfl, trivial⟩, rfl, rfl⟩⟩
        · rintro s ρ _ _ ho503 ⟨rfl, hf504, rfl, rfl⟩
          subst ho503
          obtain ⟨ρ, rfl⟩ := hf504.ex
          refine PJ.done ?_
          refine CJ.seq ?_
          refine CJ.mix [Cl b300 24 [.slice adxa_0 xa.length cpxa_0], Cl b301 24 [.slice adxb_0 xb.length cpxb_0]] [([0, 1, 2, 3, 4, 5, 6, 7, 8, 9, 10, 11, 12, 13], 14)] [15] [] mixO (by decide +kernel) ⟨0, rfl, 0, rfl, trivial⟩ rfl rfl rfl ?_
          refine JM.cons ?_
          refine JQ.val rfl rfl (V.fad Try.underlying24 rfl nz22 rfl) ?_
          refine JQ.val (v := .slice adxa_0 xa.length cpxa_0) rfl rfl (V.ld rfl (Ld.sc sc22 (Rd.cl 0 rfl rfl))) ?_
          obtain ⟨x527, hx528, h⟩ := ob h
          obtain ⟨p529, p530, p531⟩ := getI_some hx528
          obtain ⟨b532, o533, e534, a535⟩ := (fxa_0).at p530
          refine JQ.val rfl rfl (V.iad Try.underlying22 sz47 rfl e534 rfl p529 p531) ?_
          refine JQ.val rfl rfl (V.fad Try.underlying47 rfl nz3 rfl) ?_
          refine JQ.val (v := .int .i64 x527.1) rfl rfl (V.ld rfl (Ld.sc sc3 (Rd.k ((a535).fst).int (Hp.le_refl _)))) ?_
          refine JQ.val (v := .int .i64 xc) rfl rfl (V.mv rfl) ?_
          refine JQ.val (v := .agg #[.int .i64 x527.1, .int .i64 xc, .int .i64 3, .int .i64 0, .bool false]) rfl rfl (V.build inf48 places48 rfl rfl) ?_
          refine JQ.val (v := .int .i64 xc) rfl rfl (V.mv rfl) ?_
          refine JQ.val rfl rfl (V.fad Try.underlying24 rfl nz22 rfl) ?_
          refine JQ.val (v := .slice adxb_0 xb.length cpxb_0) rfl rfl (V.ld rfl (Ld.sc sc22 (Rd.cl 1 rfl rfl))) ?_
          obtain ⟨x536, hx537, h⟩ := ob h
          obtain ⟨p538, p539, p540⟩ := getI_some hx537
          obtain ⟨b541, o542, e543, a544⟩ := (fxb_0).at p539
          refine JQ.val rfl rfl (V.iad Try.underlying22 sz47 rfl e543 rfl p538 p540) ?_
          refine JQ.val rfl rfl (V.fad Try.underlying47 rfl nz3 rfl) ?_
          refine JQ.val (v := .int .i64 x536.1) rfl rfl (V.ld rfl (Ld.sc sc3 (Rd.k ((a544).fst).int (Hp.le_refl _)))) ?_
          refine JQ.val (v := .agg #[.int .i64 xc, .int .i64 x536.1, .int .i64 2, .int .i64 0, .bool false]) rfl rfl (V.build inf48 places48 rfl rfl) ?_
          refine JQ.nil ?_
          refine JA.op rfl (A.lit (K0 := Hp.nil) (ty := (.cons (.int .i64) (.cons (.int .i64) (.cons (.int .i64) (.cons (.int .i64) (.one .bool)))))) (xs := ([(x527.1, xc, 3, 0, false), (xc, x536.1, 2, 0, false)] : List (Int × Int × Int × Int × Bool))) Try.underlying31 inf48 rfl (by decide) rfl rfl rfl ⟨_, _, rfl, ⟨_, _, rfl, rfl, rfl, ⟨_, _, rfl, rfl, rfl, ⟨_, _, rfl, rfl, rfl, ⟨_, _, rfl, rfl, rfl, rfl⟩⟩⟩⟩, ⟨_, _, rfl, ⟨_, _, rfl, rfl, rfl, ⟨_, _, rfl, rfl, rfl, ⟨_, _, rfl, rfl, rfl, ⟨_, _, rfl, rfl, rfl, rfl⟩⟩⟩⟩, rfl⟩⟩ rfl (by decide)) ?_
          rintro _ _ _ ⟨b545, rfl, rfl, rfl⟩
          have hn546 : ([(x527.1, xc, 3, 0, false), (xc, x536.1, 2, 0, false)] : List (Int × Int × Int × Int × Bool)) ≠ [] → ∃ g, (some ⟨b545, 0, none⟩ : Option Addr) = some ⟨g, 0, none⟩ := fun _ => ⟨b545, rfl⟩
          refine ⟨fun w hs => Hold.sub (Hp.le_refl _) ⟨1, rfl, 1, rfl, trivial⟩ hs, ?_⟩
          refine JM.nil ?_
          refine JQ.val (v := .slice (some ⟨b545, 0, none⟩) ((([(x527.1, xc, 3, 0, false), (xc, x536.1, 2, 0, false)] : List (Int × Int × Int × Int × Bool))).length) 2) rfl rfl (V.as rfl) ?_
          refine JQ.nil ?_
          refine J.nil ?_
          refine CJ.seq ?_
          refine CJ.mix [Cl b300 24 [.slice adxa_0 xa.length cpxa_0], Cl b301 24 [.slice adxb_0 xb.length cpxb_0]] [([0, 1, 2, 3, 4, 5, 6], 7)] [8, 9] [] mixO (by decide +kernel) ⟨1, rfl, 1, rfl, trivial⟩ rfl rfl rfl ?_
          refine JM.cons ?_
          refine JQ.val (v := .slice (some ⟨b545, 0, none⟩) ((([(x527.1, xc, 3, 0, false), (xc, x536.1, 2, 0, false)] : List (Int × Int × Int × Int × Bool))).length) 2) rfl rfl (V.mv rfl) ?_
          refine JQ.val rfl rfl (V.fad Try.underlying24 rfl nz22 rfl) ?_
          refine JQ.val (v := .slice adxa_0 xa.length cpxa_0) rfl rfl (V.ld rfl (Ld.sc sc22 (Rd.cl 0 rfl rfl))) ?_
          obtain ⟨y571, hy572, h⟩ := ob h
          obtain ⟨ad573, cp574, hv575, f576⟩ := V.subI (tp := (.cons (.int .i64) (.one .bool))) Try.underlying22 sz47 fxa_0 hy572
          refine JQ.val (v := .slice ad573 y571.length cp574) rfl rfl (hv575 rfl (fun _ h => by cases h; exact ⟨_, rfl⟩) nofun nofun (fun _ => rfl)) ?_
          refine JQ.val rfl rfl (V.fad Try.underlying24 rfl nz22 rfl) ?_
          refine JQ.val (v := .slice adxb_0 xb.length cpxb_0) rfl rfl (V.ld rfl (Ld.sc sc22 (Rd.cl 1 rfl rfl))) ?_
          obtain ⟨y577, hy578, h⟩ := ob h
          obtain ⟨ad579, cp580, hv581, f582⟩ := V.subI (tp := (.cons (.int .i64) (.one .bool))) Try.underlying22 sz47 fxb_0 hy578
          refine JQ.val (v := .slice ad579 y577.length cp580) rfl rfl (hv581 rfl (fun _ h => by cases h; exact ⟨_, rfl⟩) nofun nofun (fun _ => rfl)) ?_
          refine JQ.nil ?_
          obtain ⟨r583, hr584, h⟩ := ob h
          refine JA.op rfl (A.call (L1 := [Row Hp.nil 48 (.cons (.int .i64) (.cons (.int .i64) (.cons (.int .i64) (.cons (.int .i64) (.one .bool))))) (.slice (some ⟨b545, 0, none⟩) ((([(x527.1, xc, 3, 0, false), (xc, x536.1, 2, 0, false)] : List (Int × Int × Int × Int × Bool))).length) 2) (([(x527.1, xc, 3, 0, false), (xc, x536.1, 2, 0, false)] : List (Int × Int × Int × Int × Bool)))]) Try.call24 rfl (ref16_slots_rkkii_ok f576 f582 hr584) rfl rfl) ?_
          rintro _ _ _ ⟨v589, _, rfl, ⟨⟨l585, ad586, cp587, rfl, rfl, rfl⟩, rfl⟩, _, rfl⟩
          refine ⟨fun w hs => Hold.sub (Hp.le_refl _) ⟨1, rfl, 1, rfl, trivial⟩ hs, ?_⟩
          refine JM.wit Row.hn (fun hn588 => ?_)
          refine JM.nil ?_
          refine JQ.val (v := .slice ad586 l585.length cp587) rfl rfl (V.as rfl) ?_
          refine JQ.val (v := .int .i64 0) rfl rfl (V.as rfl) ?_
          refine JQ.nil ?_
          refine J.nil ?_
          refine CJ.ret ?_
          have e := Option.some.inj h
          subst e
          exact ⟨_, [Row Hp.nil 48 (.cons (.int .i64) (.cons (.int .i64) (.cons (.int .i64) (.cons (.int .i64) (.one .bool))))) (.slice ad586 l585.length cp587) l585], Res.two rfl rfl rfl, ⟨l585, 0, ad586, cp587, rfl, rfl, rfl⟩, (Hp.le_refl _), fun w hs => (Sep.dropAt 1 rfl (Sep.dropAt 1 rfl hs))⟩
end Go.Proofs.Ytedncipemdpljaa
