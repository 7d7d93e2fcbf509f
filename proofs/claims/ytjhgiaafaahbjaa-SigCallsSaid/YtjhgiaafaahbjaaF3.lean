/- What Go functions answer: generated. -/
import Derived.Test.YtjhgiaafaahbjaaF2
namespace Go.Proofs.Ytjhgiaafaahbjaa
open Go.RowKit
set_option linter.unusedVariables false
noncomputable def fn_ref16_Same_l1 (xa : (List (Int × Int × Int × Int × Bool))) (xb : (List (Int × Int × Int × Int × Bool))) : Int → Option (Int ⊕ (Unit ⊕ Bool)) := fun (i413 : Int) => cond (decide (i413 < (((xa.length : Nat) : Int)))) ((getI xa i413).bind fun x476 => (getI xb i413).bind fun x485 => cond (!((decide (x476.1 = x485.1)) && ((decide (x476.2.1 = x485.2.1)) && ((decide (x476.2.2.1 = x485.2.2.1)) && ((decide (x476.2.2.2.1 = x485.2.2.2.1)) && (x476.2.2.2.2 == x485.2.2.2.2)))))) (some (.inr ((.inr (false))))) (some (.inl (IntKind.wrap .i64 (i413 + 1))))) (some (.inr ((.inl ()))))
noncomputable def fn_ref16_Same (xa : (List (Int × Int × Int × Int × Bool))) (xb : (List (Int × Int × Int × Int × Bool))) : Option Bool :=
  cond (!decide ((((xa.length : Nat) : Int)) = (((xb.length : Nat) : Int)))) (some (false)) ((loop (fn_ref16_Same_l1 xa xb) 0 : Option (Unit ⊕ Bool)).bind fun o => match o with | .inr r => some r | .inl () => some (true))
set_option maxRecDepth 100000 in
set_option maxHeartbeats 4000000 in
theorem ref16_Same_ok {K : Hp} {xa : (List (Int × Int × Int × Int × Bool))} {xb : (List (Int × Int × Int × Int × Bool))} {adxa_0 : Option Addr} {cpxa_0 : Nat} {adxb_0 : Option Addr} {cpxb_0 : Nat} (fxa_0 : Is K (.sl (.cons (.int .i64) (.cons (.int .i64) (.cons (.int .i64) (.cons (.int .i64) (.one .bool)))))) [.slice adxa_0 xa.length cpxa_0] xa) (fxb_0 : Is K (.sl (.cons (.int .i64) (.cons (.int .i64) (.cons (.int .i64) (.cons (.int .i64) (.one .bool)))))) [.slice adxb_0 xb.length cpxb_0] xb) {r : Bool} (h : fn_ref16_Same xa xb = some r) :
    Tr Try.prog 14 #[.slice adxa_0 xa.length cpxa_0, .slice adxb_0 xb.length cpxb_0] K [] (fun v K' L' => (∃ (t249 : Bool), t249 = r ∧ .bool t249 = v ∧ L' = []) ∧ K = K') := by
  refine Tr.k ?_
  refine Tr.of Try.func14 rfl Try.ntmps14 rfl (fun E F => ?_)
  unfold fn_ref16_Same at h
  refine CJ.seq ?_
  refine CJ.region ?_
  refine J.val (v := .bool false) rfl rfl (V.as rfl) ?_
  refine J.nil ?_
  refine CJ.seq ?_
  refine CJ.seq ?_
  refine CJ.region ?_
  refine J.val (v := .slice adxa_0 xa.length cpxa_0) rfl rfl (V.mv rfl) ?_
  refine J.val (v := .int .i64 (((xa.length : Nat) : Int))) rfl rfl (V.len Try.underlying38 rfl) ?_
  refine J.val (v := .slice adxb_0 xb.length cpxb_0) rfl rfl (V.mv rfl) ?_
  refine J.val (v := .int .i64 (((xb.length : Nat) : Int))) rfl rfl (V.len Try.underlying38 rfl) ?_
  refine J.val (v := .bool (!decide ((((xa.length : Nat) : Int)) = (((xb.length : Nat) : Int))))) rfl rfl (V.neq rfl rfl) ?_
  refine J.nil ?_
  refine CJ.cond rfl (fun hc250 => ?_) (fun hc250 => ?_)
  · have h := ct hc250 h
    refine CJ.seq ?_
    refine CJ.region ?_
    refine J.val (v := .bool false) rfl rfl (V.as rfl) ?_
    refine J.nil ?_
    refine CJ.ret ?_
    have e := Option.some.inj h
    subst e
    exact ⟨_, [], Res.one rfl rfl, ⟨false, rfl, rfl, rfl⟩, (Hp.le_refl _), fun w hs => hs⟩
  · have h := cf hc250 h
    refine CJ.skip ?_
    refine CJ.seq ?_
    refine CJ.seq ?_
    refine CJ.region ?_
    refine J.val (v := .int .i64 0) rfl rfl (V.as rfl) ?_
    refine J.nil ?_
    obtain ⟨o372, ho373, h⟩ := ob h
    refine CJ.joinN (o := o372) (fun s ρ K' L' => () = s ∧ Fits [] ρ ∧ K = K' ∧ F = L') ?_ ?_
    · skip
      refine CJ.block ?_
      refine CJ.loop (fun s ρ K' L' => ∃ (i413 : Int), i413 = s ∧ Fits [(0, .slice adxa_0 xa.length cpxa_0), (1, .slice adxb_0 xb.length cpxb_0), (5, .int .i64 i413)] ρ ∧ K = K' ∧ F = L') ho373 ⟨0, rfl, ⟨rfl, rfl, rfl, trivial⟩, rfl, rfl⟩ ?_
      rintro s ρ _ _ r456 ⟨i413, rfl, hf454, rfl, rfl⟩ h453
      obtain ⟨ρ, rfl⟩ := hf454.ex
      refine CJ.seq ?_
      refine CJ.seq ?_
      refine CJ.region ?_
      refine J.val (v := .int .i64 i413) rfl rfl (V.mv rfl) ?_
      refine J.val (v := .slice adxa_0 xa.length cpxa_0) rfl rfl (V.mv rfl) ?_
      refine J.val (v := .int .i64 (((xa.length : Nat) : Int))) rfl rfl (V.len Try.underlying38 rfl) ?_
      refine J.val (v := .bool (decide (i413 < (((xa.length : Nat) : Int))))) rfl rfl (V.lss rfl rfl) ?_
      refine J.nil ?_
      refine CJ.cond rfl (fun hc457 => ?_) (fun hc457 => ?_)
      · have h453 := ct hc457 h453
        refine CJ.skip ?_
        refine CJ.seq ?_
        refine CJ.block ?_
        refine CJ.seq ?_
        refine CJ.mix [] [] [0, 1, 2, 3, 4, 5, 6, 7, 8] [] mixO (by decide +kernel) trivial rfl rfl rfl ?_
        refine JM.nil ?_
        refine JQ.val (v := .slice adxa_0 xa.length cpxa_0) rfl rfl (V.mv rfl) ?_
        refine JQ.val (v := .int .i64 i413) rfl rfl (V.mv rfl) ?_
        obtain ⟨x476, hx477, h453⟩ := ob h453
        obtain ⟨p478, p479, p480⟩ := getI_some hx477
        obtain ⟨b481, o482, e483, a484⟩ := (fxa_0).at p479
        refine JQ.val rfl rfl (V.iad Try.underlying38 sz69 rfl e483 rfl p478 p480) ?_
        refine JQ.val (v := .agg #[.int .i64 x476.1, .int .i64 x476.2.1, .int .i64 x476.2.2.1, .int .i64 x476.2.2.2.1, .bool x476.2.2.2.2]) rfl rfl (V.ld rfl (Ld.aggK (cs := [.int .i64 x476.1, .int .i64 x476.2.1, .int .i64 x476.2.2.1, .int .i64 x476.2.2.2.1, .bool x476.2.2.2.2]) Try.underlying69 sz69 rfl ⟨((a484).fst).int, (((a484).snd).fst).int, ((((a484).snd).snd).fst).int, (((((a484).snd).snd).snd).fst).int, ((((((a484).snd).snd).snd).snd).one).bool, trivial⟩ (Hp.le_refl _))) ?_
        refine JQ.val (v := .slice adxb_0 xb.length cpxb_0) rfl rfl (V.mv rfl) ?_
        refine JQ.val (v := .int .i64 i413) rfl rfl (V.mv rfl) ?_
        obtain ⟨x485, hx486, h453⟩ := ob h453
        obtain ⟨p487, p488, p489⟩ := getI_some hx486
        obtain ⟨b490, o491, e492, a493⟩ := (fxb_0).at p488
        refine JQ.val rfl rfl (V.iad Try.underlying38 sz69 rfl e492 rfl p487 p489) ?_
        refine JQ.val (v := .agg #[.int .i64 x485.1, .int .i64 x485.2.1, .int .i64 x485.2.2.1, .int .i64 x485.2.2.2.1, .bool x485.2.2.2.2]) rfl rfl (V.ld rfl (Ld.aggK (cs := [.int .i64 x485.1, .int .i64 x485.2.1, .int .i64 x485.2.2.1, .int .i64 x485.2.2.2.1, .bool x485.2.2.2.2]) Try.underlying69 sz69 rfl ⟨((a493).fst).int, (((a493).snd).fst).int, ((((a493).snd).snd).fst).int, (((((a493).snd).snd).snd).fst).int, ((((((a493).snd).snd).snd).snd).one).bool, trivial⟩ (Hp.le_refl _))) ?_
        refine JQ.val (v := .bool (!((decide (x476.1 = x485.1)) && ((decide (x476.2.1 = x485.2.1)) && ((decide (x476.2.2.1 = x485.2.2.1)) && ((decide (x476.2.2.2.1 = x485.2.2.2.1)) && (x476.2.2.2.2 == x485.2.2.2.2))))))) rfl rfl (V.nest eqg69 (EqIn.st (d := 9999) rfl Try.underlying69 sih69 (EqFs.cons (by decide) (Ld0.sc sc3 rfl) (Ld0.sc sc3 rfl) (EqIn.int (d := 9998) rfl Try.underlying3) (EqFs.cons (by decide) (Ld0.sc sc3 rfl) (Ld0.sc sc3 rfl) (EqIn.int (d := 9998) rfl Try.underlying3) (EqFs.cons (by decide) (Ld0.sc sc3 rfl) (Ld0.sc sc3 rfl) (EqIn.int (d := 9998) rfl Try.underlying3) (EqFs.cons (by decide) (Ld0.sc sc3 rfl) (Ld0.sc sc3 rfl) (EqIn.int (d := 9998) rfl Try.underlying3) (EqFs.last (by decide) (Ld0.sc sc4 rfl) (Ld0.sc sc4 rfl) (EqIn.bool (d := 9998) rfl Try.underlying4))))))) rfl rfl) ?_
        refine JQ.nil ?_
        refine J.nil ?_
        refine CJ.cond rfl (fun hc494 => ?_) (fun hc494 => ?_)
        · have h453 := ct hc494 h453
          refine CJ.seq ?_
          refine CJ.region ?_
          refine J.val (v := .bool false) rfl rfl (V.as rfl) ?_
          refine J.nil ?_
          refine CJ.ret ?_
          have e := Option.some.inj h453
          subst e
          refine ⟨nofun, fun e => ?_⟩
          subst e
          refine .inr ⟨nofun, ?_⟩
          have e := Option.some.inj h
          subst e
          exact ⟨_, [], Res.one rfl rfl, ⟨false, rfl, rfl, rfl⟩, (Hp.le_refl _), fun w hs => hs⟩
        · have h453 := cf hc494 h453
          refine CJ.skip ?_
          refine CJ.region ?_
          refine J.val (v := .int .i64 i413) rfl rfl (V.mv rfl) ?_
          refine J.val (v := .int .i64 (IntKind.wrap .i64 (i413 + 1))) rfl rfl (V.add rfl rfl) ?_
          refine J.val (v := .int .i64 (IntKind.wrap .i64 (i413 + 1))) rfl rfl (V.as rfl) ?_
          refine J.nil ?_
          have e := Option.some.inj h453
          subst e
          exact ⟨rfl, ⟨IntKind.wrap .i64 (i413 + 1), rfl, ⟨rfl, rfl, rfl, trivial⟩, rfl, rfl⟩⟩
      · have h453 := cf hc457 h453
        refine CJ.exit ?_
        have e := Option.some.inj h453
        subst e
        refine ⟨nofun, fun e => ?_⟩
        subst e
        exact .inl ⟨rfl, _, rfl, ⟨rfl, trivial, rfl, rfl⟩⟩
    · rintro s ρ _ _ ho495 ⟨rfl, hf496, rfl, rfl⟩
      subst ho495
      obtain ⟨ρ, rfl⟩ := hf496.ex
      refine PJ.done ?_
      refine CJ.seq ?_
      refine CJ.region ?_
      refine J.val (v := .bool true) rfl rfl (V.as rfl) ?_
      refine J.nil ?_
      refine CJ.ret ?_
      have e := Option.some.inj h
      subst e
      exact ⟨_, [], Res.one rfl rfl, ⟨true, rfl, rfl, rfl⟩, (Hp.le_refl _), fun w hs => hs⟩

noncomputable def fn_law17_SigCalls (xa : (Int × (List (Int × Int)) × (List (List (Int × Bool))) × (List (Int × Bool)))) (xb : (List Int)) (xc : (List (List (Int × Bool)))) (xd : (List (Int × Bool))) : Option Bool :=
  (fn_ref17_Few (xa.1, xa.2.1, xa.2.2.1, xa.2.2.2)).bind fun t170 => (cond ((!t170) || (decide (20 < (((xb.length : Nat) : Int))))) (some (true)) ((fn_law17_few xc).bind fun t189 => some (!t189))).bind fun t184 => (cond (t184) (some (true)) ((fn_ref15_Few xd 20).bind fun t205 => some (!t205))).bind fun t200 => cond (t200) ((fn_law17_awake).bind fun t212 => some (t212)) ((fn_sig_Call (xa.1, xa.2.1, xa.2.2.1, xa.2.2.2) xb xc xd).bind fun (l218, i219) => (fn_ref17_Call (xa.1, xa.2.1, xa.2.2.1, xa.2.2.2) xb xc xd).bind fun (l229, i230) => (fn_sig_Check (xa.1, xa.2.1, xa.2.2.1, xa.2.2.2)).bind fun i286 => (fn_ref17_Check (xa.1, xa.2.1, xa.2.2.1, xa.2.2.2)).bind fun i292 => cond (decide (i286 = i292)) ((fn_law16_Doc l218).bind fun l302 => (fn_ref16_Same l302 l229).bind fun t318 => cond (t318) (cond (decide (i219 = i230)) ((fn_law17_awake).bind fun t326 => some (t326)) (some (false))) (some (false))) (some (false)))
set_option maxRecDepth 100000 in
set_option maxHeartbeats 4000000 in
theorem law17_SigCalls_ok {K : Hp} {xa : (Int × (List (Int × Int)) × (List (List (Int × Bool))) × (List (Int × Bool)))} {xb : (List Int)} {xc : (List (List (Int × Bool)))} {xd : (List (Int × Bool))} {adxa_1 : Option Addr} {cpxa_1 : Nat} {adxa_2 : Option Addr} {cpxa_2 : Nat} {adxa_3 : Option Addr} {cpxa_3 : Nat} {adxb_0 : Option Addr} {cpxb_0 : Nat} {adxc_0 : Option Addr} {cpxc_0 : Nat} {adxd_0 : Option Addr} {cpxd_0 : Nat} (fxa_1 : Is K (.sl (.cons (.int .i64) (.one (.int .i64)))) [.slice adxa_1 xa.2.1.length cpxa_1] xa.2.1) (fxa_2 : Is K (.sl (.one (.sl (.cons (.int .i64) (.one .bool))))) [.slice adxa_2 xa.2.2.1.length cpxa_2] xa.2.2.1) (fxa_3 : Is K (.sl (.cons (.int .i64) (.one .bool))) [.slice adxa_3 xa.2.2.2.length cpxa_3] xa.2.2.2) (fxb_0 : Is K (.sl (.int .i64)) [.slice adxb_0 xb.length cpxb_0] xb) (fxc_0 : Is K (.sl (.one (.sl (.cons (.int .i64) (.one .bool))))) [.slice adxc_0 xc.length cpxc_0] xc) (fxd_0 : Is K (.sl (.cons (.int .i64) (.one .bool))) [.slice adxd_0 xd.length cpxd_0] xd) {r : Bool} (h : fn_law17_SigCalls xa xb xc xd = some r) :
    Tr Try.prog 3 #[.agg #[.int .i64 xa.1, .slice adxa_1 xa.2.1.length cpxa_1, .slice adxa_2 xa.2.2.1.length cpxa_2, .slice adxa_3 xa.2.2.2.length cpxa_3], .slice adxb_0 xb.length cpxb_0, .slice adxc_0 xc.length cpxc_0, .agg #[.slice adxd_0 xd.length cpxd_0]] K [] (fun v K' L' => (∃ (t165 : Bool), t165 = r ∧ .bool t165 = v ∧ L' = []) ∧ K = K') := by
  refine Tr.k ?_
  refine Tr.of Try.func3 rfl Try.ntmps3 rfl (fun E F => ?_)
  unfold fn_law17_SigCalls at h
  refine CJ.seq ?_
  refine CJ.region ?_
  refine J.op rfl (A.box (v := .agg #[.int .i64 xa.1, .slice adxa_1 xa.2.1.length cpxa_1, .slice adxa_2 xa.2.2.1.length cpxa_2, .slice adxa_3 xa.2.2.2.length cpxa_3]) (cs := [.int .i64 xa.1, .slice adxa_1 xa.2.1.length cpxa_1, .slice adxa_2 xa.2.2.1.length cpxa_2, .slice adxa_3 xa.2.2.2.length cpxa_3]) rfl rfl) ?_
  rintro _ _ _ ⟨b166, rfl, rfl, rfl⟩
  refine J.op rfl (A.box (v := .agg #[.slice adxd_0 xd.length cpxd_0]) (cs := [.slice adxd_0 xd.length cpxd_0]) rfl rfl) ?_
  rintro _ _ _ ⟨b167, rfl, rfl, rfl⟩
  refine J.val (v := .bool false) rfl rfl (V.as rfl) ?_
  refine J.nil ?_
  refine CJ.seq ?_
  refine CJ.seq ?_
  refine CJ.region ?_
  refine J.val (v := .agg #[.int .i64 xa.1, .slice adxa_1 xa.2.1.length cpxa_1, .slice adxa_2 xa.2.2.1.length cpxa_2, .slice adxa_3 xa.2.2.2.length cpxa_3]) rfl rfl (V.ld rfl (Ld.agg (cs := [.int .i64 xa.1, .slice adxa_1 xa.2.1.length cpxa_1, .slice adxa_2 xa.2.2.1.length cpxa_2, .slice adxa_3 xa.2.2.2.length cpxa_3]) Try.underlying28 sz28 rfl (Rd.cls 1 0 rfl rfl))) ?_
  obtain ⟨r168, hr169, h⟩ := ob h
  refine J.op rfl (A.call (L1 := []) Try.call6 rfl (ref17_Few_ok fxa_1 fxa_2 fxa_3 hr169) rfl rfl) ?_
  rintro _ _ _ ⟨v171, _, rfl, ⟨⟨t170, rfl, rfl, rfl⟩, rfl⟩, _, rfl⟩
  refine J.val (v := .bool (!t170)) rfl rfl (V.not rfl) ?_
  refine J.val (v := .bool (!t170)) rfl rfl (V.mv rfl) ?_
  refine J.cut 4 ?_
  refine @J.meet _ _ _ _ _ _ _ _ _ _ (fun ρ K' L' => Fits [(20, .bool ((!t170) || (decide (20 < (((xb.length : Nat) : Int)))))), (1, .slice adxb_0 xb.length cpxb_0), (2, .slice adxc_0 xc.length cpxc_0), (4, .pointer (some ⟨b166, 0, none⟩)), (7, .pointer (some ⟨b167, 0, none⟩))] ρ ∧ K = K' ∧ L' = Cl b167 26 [.slice adxd_0 xd.length cpxd_0] :: Cl b166 28 [.int .i64 xa.1, .slice adxa_1 xa.2.1.length cpxa_1, .slice adxa_2 xa.2.2.1.length cpxa_2, .slice adxa_3 xa.2.2.2.length cpxa_3] :: F) ?_ ?_
  · skip
    rcases bt (!t170) with hc176 | hc176
    · skip
      refine J.skip rfl rfl rfl rfl hc176 ?_
      refine J.skip rfl rfl rfl rfl hc176 ?_
      refine J.skip rfl rfl rfl rfl hc176 ?_
      refine J.val (v := .bool true) rfl rfl (V.pickT rfl hc176 rfl) ?_
      refine J.nil ?_
      exact ⟨rfl, ⟨(by simp only [hc176]; rfl), rfl, rfl, rfl, rfl, trivial⟩, rfl, rfl⟩
    · skip
      refine J.run rfl rfl rfl hc176 ?_
      refine J.val (v := .slice adxb_0 xb.length cpxb_0) rfl rfl (V.mv rfl) ?_
      refine J.run rfl rfl rfl hc176 ?_
      refine J.val (v := .int .i64 (((xb.length : Nat) : Int))) rfl rfl (V.len Try.underlying29 rfl) ?_
      refine J.run rfl rfl rfl hc176 ?_
      refine J.val (v := .bool (decide (20 < (((xb.length : Nat) : Int))))) rfl rfl (V.gtr rfl rfl) ?_
      refine J.val (v := .bool (decide (20 < (((xb.length : Nat) : Int))))) rfl rfl (V.pickF rfl hc176 rfl) ?_
      refine J.nil ?_
      exact ⟨rfl, ⟨(by simp only [hc176]; rfl), rfl, rfl, rfl, rfl, trivial⟩, rfl, rfl⟩
  · rintro ρ _ _ ⟨hf, rfl, rfl⟩
    obtain ⟨ρ, rfl⟩ := hf.ex
    refine J.val (v := .bool ((!t170) || (decide (20 < (((xb.length : Nat) : Int)))))) rfl rfl (V.mv rfl) ?_
    refine J.cut 4 ?_
    obtain ⟨t184, ht185, h⟩ := ob h
    refine @J.meet _ _ _ _ _ _ _ _ _ _ (fun ρ K' L' => Fits [(25, .bool t184), (1, .slice adxb_0 xb.length cpxb_0), (2, .slice adxc_0 xc.length cpxc_0), (4, .pointer (some ⟨b166, 0, none⟩)), (7, .pointer (some ⟨b167, 0, none⟩))] ρ ∧ K = K' ∧ L' = Cl b167 26 [.slice adxd_0 xd.length cpxd_0] :: Cl b166 28 [.int .i64 xa.1, .slice adxa_1 xa.2.1.length cpxa_1, .slice adxa_2 xa.2.2.1.length cpxa_2, .slice adxa_3 xa.2.2.2.length cpxa_3] :: F) ?_ ?_
    · skip
      rcases bt ((!t170) || (decide (20 < (((xb.length : Nat) : Int))))) with hc186 | hc186
      · have ht185 := ct hc186 ht185
        refine J.skip rfl rfl rfl rfl hc186 ?_
        refine J.skip rfl rfl rfl rfl hc186 ?_
        refine J.skip rfl rfl rfl rfl hc186 ?_
        refine J.val (v := .bool true) rfl rfl (V.pickT rfl hc186 rfl) ?_
        refine J.nil ?_
        have e := Option.some.inj ht185
        subst e
        exact ⟨rfl, ⟨rfl, rfl, rfl, rfl, rfl, trivial⟩, rfl, rfl⟩
      · have ht185 := cf hc186 ht185
        refine J.run rfl rfl rfl hc186 ?_
        refine J.val (v := .slice adxc_0 xc.length cpxc_0) rfl rfl (V.mv rfl) ?_
        refine J.run rfl rfl rfl hc186 ?_
        obtain ⟨r187, hr188, ht185⟩ := ob ht185
        refine J.op rfl (A.call (L1 := []) Try.call7 rfl (law17_few_ok fxc_0 hr188) rfl rfl) ?_
        rintro _ _ _ ⟨v190, _, rfl, ⟨⟨t189, rfl, rfl, rfl⟩, rfl⟩, _, rfl⟩
        refine J.run rfl rfl rfl hc186 ?_
        refine J.val (v := .bool (!t189)) rfl rfl (V.not rfl) ?_
        refine J.val (v := .bool (!t189)) rfl rfl (V.pickF rfl hc186 rfl) ?_
        refine J.nil ?_
        have e := Option.some.inj ht185
        subst e
        exact ⟨rfl, ⟨rfl, rfl, rfl, rfl, rfl, trivial⟩, rfl, rfl⟩
    · rintro ρ _ _ ⟨hf, rfl, rfl⟩
      obtain ⟨ρ, rfl⟩ := hf.ex
      refine J.val (v := .bool t184) rfl rfl (V.mv rfl) ?_
      refine J.cut 4 ?_
      obtain ⟨t200, ht201, h⟩ := ob h
      refine @J.meet _ _ _ _ _ _ _ _ _ _ (fun ρ K' L' => Fits [(30, .bool t200), (1, .slice adxb_0 xb.length cpxb_0), (2, .slice adxc_0 xc.length cpxc_0), (4, .pointer (some ⟨b166, 0, none⟩)), (7, .pointer (some ⟨b167, 0, none⟩))] ρ ∧ K = K' ∧ L' = Cl b167 26 [.slice adxd_0 xd.length cpxd_0] :: Cl b166 28 [.int .i64 xa.1, .slice adxa_1 xa.2.1.length cpxa_1, .slice adxa_2 xa.2.2.1.length cpxa_2, .slice adxa_3 xa.2.2.2.length cpxa_3] :: F) ?_ ?_
      · skip
        rcases bt (t184) with hc202 | hc202
        · have ht201 := ct hc202 ht201
          refine J.skip rfl rfl rfl rfl hc202 ?_
          refine J.skip rfl rfl rfl rfl hc202 ?_
          refine J.skip rfl rfl rfl rfl hc202 ?_
          refine J.val (v := .bool true) rfl rfl (V.pickT rfl hc202 rfl) ?_
          refine J.nil ?_
          have e := Option.some.inj ht201
          subst e
          exact ⟨rfl, ⟨rfl, rfl, rfl, rfl, rfl, trivial⟩, rfl, rfl⟩
        · have ht201 := cf hc202 ht201
          refine J.run rfl rfl rfl hc202 ?_
          refine J.val (v := .agg #[.slice adxd_0 xd.length cpxd_0]) rfl rfl (V.ld rfl (Ld.agg (cs := [.slice adxd_0 xd.length cpxd_0]) Try.underlying26 sz26 rfl (Rd.cls 0 0 rfl rfl))) ?_
          refine J.run rfl rfl rfl hc202 ?_
          obtain ⟨r203, hr204, ht201⟩ := ob ht201
          refine J.op rfl (A.call (L1 := []) Try.call8 rfl (ref15_Few_ok fxd_0 hr204) rfl rfl) ?_
          rintro _ _ _ ⟨v206, _, rfl, ⟨⟨t205, rfl, rfl, rfl⟩, rfl⟩, _, rfl⟩
          refine J.run rfl rfl rfl hc202 ?_
          refine J.val (v := .bool (!t205)) rfl rfl (V.not rfl) ?_
          refine J.val (v := .bool (!t205)) rfl rfl (V.pickF rfl hc202 rfl) ?_
          refine J.nil ?_
          have e := Option.some.inj ht201
          subst e
          exact ⟨rfl, ⟨rfl, rfl, rfl, rfl, rfl, trivial⟩, rfl, rfl⟩
      · rintro ρ _ _ ⟨hf, rfl, rfl⟩
        obtain ⟨ρ, rfl⟩ := hf.ex
        refine J.nil ?_
        refine CJ.cond rfl (fun hc209 => ?_) (fun hc209 => ?_)
        · have h := ct hc209 h
          refine CJ.seq ?_
          refine CJ.region ?_
          obtain ⟨r210, hr211, h⟩ := ob h
          refine J.op rfl (A.call (L1 := []) Try.call9 rfl (law17_awake_ok hr211) rfl rfl) ?_
          rintro _ _ _ ⟨v213, _, rfl, ⟨⟨t212, rfl, rfl, rfl⟩, rfl⟩, _, rfl⟩
          refine J.val (v := .bool t212) rfl rfl (V.as rfl) ?_
          refine J.nil ?_
          refine CJ.ret ?_
          have e := Option.some.inj h
          subst e
          exact ⟨_, [], Res.one rfl rfl, ⟨t212, rfl, rfl, rfl⟩, (Hp.le_refl _), fun w hs => (Sep.dropAt 0 rfl (Sep.dropAt 0 rfl hs))⟩
        · have h := cf hc209 h
          refine CJ.skip ?_
          refine CJ.seq ?_
          refine CJ.region ?_
          refine J.val (v := .agg #[.int .i64 xa.1, .slice adxa_1 xa.2.1.length cpxa_1, .slice adxa_2 xa.2.2.1.length cpxa_2, .slice adxa_3 xa.2.2.2.length cpxa_3]) rfl rfl (V.ld rfl (Ld.agg (cs := [.int .i64 xa.1, .slice adxa_1 xa.2.1.length cpxa_1, .slice adxa_2 xa.2.2.1.length cpxa_2, .slice adxa_3 xa.2.2.2.length cpxa_3]) Try.underlying28 sz28 rfl (Rd.cls 1 0 rfl rfl))) ?_
          refine J.val (v := .slice adxb_0 xb.length cpxb_0) rfl rfl (V.mv rfl) ?_
          refine J.val (v := .slice adxc_0 xc.length cpxc_0) rfl rfl (V.mv rfl) ?_
          refine J.val (v := .agg #[.slice adxd_0 xd.length cpxd_0]) rfl rfl (V.ld rfl (Ld.agg (cs := [.slice adxd_0 xd.length cpxd_0]) Try.underlying26 sz26 rfl (Rd.cls 0 0 rfl rfl))) ?_
          obtain ⟨r216, hr217, h⟩ := ob h
          refine J.op rfl (A.call (L1 := []) Try.call10 rfl (sig_Call_ok fxa_1 fxa_2 fxa_3 fxb_0 fxc_0 fxd_0 hr217) rfl rfl) ?_
          rintro _ _ _ ⟨v223, _, rfl, ⟨⟨l218, i219, ad220, cp221, rfl, rfl, rfl⟩, rfl⟩, _, rfl⟩
          refine J.wit Row.hn (fun hn222 => ?_)
          refine J.val (v := .tuple #[.slice ad220 l218.length cp221, .int .i64 i219]) rfl rfl (V.mv rfl) ?_
          refine J.val (v := .slice ad220 l218.length cp221) rfl rfl (V.ext rfl rfl) ?_
          refine J.val (v := .int .i64 i219) rfl rfl (V.ext rfl rfl) ?_
          refine J.val (v := .slice ad220 l218.length cp221) rfl rfl (V.as rfl) ?_
          refine J.val (v := .int .i64 i219) rfl rfl (V.as rfl) ?_
          refine J.nil ?_
          refine CJ.seq ?_
          refine CJ.region ?_
          refine J.val (v := .agg #[.int .i64 xa.1, .slice adxa_1 xa.2.1.length cpxa_1, .slice adxa_2 xa.2.2.1.length cpxa_2, .slice adxa_3 xa.2.2.2.length cpxa_3]) rfl rfl (V.ld rfl (Ld.agg (cs := [.int .i64 xa.1, .slice adxa_1 xa.2.1.length cpxa_1, .slice adxa_2 xa.2.2.1.length cpxa_2, .slice adxa_3 xa.2.2.2.length cpxa_3]) Try.underlying28 sz28 rfl (Rd.cls 2 0 rfl rfl))) ?_
          refine J.val (v := .slice adxb_0 xb.length cpxb_0) rfl rfl (V.mv rfl) ?_
          refine J.val (v := .slice adxc_0 xc.length cpxc_0) rfl rfl (V.mv rfl) ?_
          refine J.val (v := .agg #[.slice adxd_0 xd.length cpxd_0]) rfl rfl (V.ld rfl (Ld.agg (cs := [.slice adxd_0 xd.length cpxd_0]) Try.underlying26 sz26 rfl (Rd.cls 1 0 rfl rfl))) ?_
          obtain ⟨r227, hr228, h⟩ := ob h
          refine J.op rfl (A.call (L1 := []) Try.call11 rfl (ref17_Call_ok fxa_1 fxa_2 fxa_3 fxb_0 fxc_0 fxd_0 hr228) rfl rfl) ?_
          rintro _ _ _ ⟨v234, _, rfl, ⟨⟨l229, i230, ad231, cp232, rfl, rfl, rfl⟩, rfl⟩, _, rfl⟩
          refine J.wit Row.hn (fun hn233 => ?_)
          refine J.val (v := .tuple #[.slice ad231 l229.length cp232, .int .i64 i230]) rfl rfl (V.mv rfl) ?_
          refine J.val (v := .slice ad231 l229.length cp232) rfl rfl (V.ext rfl rfl) ?_
          refine J.val (v := .int .i64 i230) rfl rfl (V.ext rfl rfl) ?_
          refine J.val (v := .slice ad231 l229.length cp232) rfl rfl (V.as rfl) ?_
          refine J.val (v := .int .i64 i230) rfl rfl (V.as rfl) ?_
          refine J.nil ?_
          refine CJ.seq ?_
          refine CJ.mix [Row Hp.nil 69 (.cons (.int .i64) (.cons (.int .i64) (.cons (.int .i64) (.cons (.int .i64) (.one .bool))))) (.slice ad231 l229.length cp232) l229, Cl b167 26 [.slice adxd_0 xd.length cpxd_0], Cl b166 28 [.int .i64 xa.1, .slice adxa_1 xa.2.1.length cpxa_1, .slice adxa_2 xa.2.2.1.length cpxa_2, .slice adxa_3 xa.2.2.2.length cpxa_3]] [([0, 2], 1), ([], 3), ([4, 5, 6, 8], 7), ([], 9), ([10, 11, 12, 13, 14, 15, 16], 17)] [18, 19] [] mixO (by decide +kernel) ⟨0, rfl, 1, rfl, 1, rfl, trivial⟩ rfl rfl rfl ?_
          refine JM.cons ?_
          refine JQ.val (v := .agg #[.int .i64 xa.1, .slice adxa_1 xa.2.1.length cpxa_1, .slice adxa_2 xa.2.2.1.length cpxa_2, .slice adxa_3 xa.2.2.2.length cpxa_3]) rfl rfl (V.ld rfl (Ld.agg (cs := [.int .i64 xa.1, .slice adxa_1 xa.2.1.length cpxa_1, .slice adxa_2 xa.2.2.1.length cpxa_2, .slice adxa_3 xa.2.2.2.length cpxa_3]) Try.underlying28 sz28 rfl (Rd.cls 2 0 rfl rfl))) ?_
          refine JQ.val (v := .agg #[.int .i64 xa.1, .slice adxa_1 xa.2.1.length cpxa_1, .slice adxa_2 xa.2.2.1.length cpxa_2, .slice adxa_3 xa.2.2.2.length cpxa_3]) rfl rfl (V.ld rfl (Ld.agg (cs := [.int .i64 xa.1, .slice adxa_1 xa.2.1.length cpxa_1, .slice adxa_2 xa.2.2.1.length cpxa_2, .slice adxa_3 xa.2.2.2.length cpxa_3]) Try.underlying28 sz28 rfl (Rd.cls 2 0 rfl rfl))) ?_
          refine JQ.nil ?_
          obtain ⟨r284, hr285, h⟩ := ob h
          refine JA.op rfl (A.call (L1 := []) Try.call12 rfl (sig_Check_ok fxa_1 fxa_2 fxa_3 hr285) rfl rfl) ?_
          rintro _ _ _ ⟨v287, _, rfl, ⟨⟨i286, rfl, rfl, rfl⟩, rfl⟩, _, rfl⟩
          refine ⟨fun w hs => Hold.sub (Hp.le_refl _) ⟨0, rfl, 1, rfl, 1, rfl, trivial⟩ hs, ?_⟩
          refine JM.cons ?_
          refine JQ.nil ?_
          obtain ⟨r290, hr291, h⟩ := ob h
          refine JA.op rfl (A.call (L1 := []) Try.call13 rfl (ref17_Check_ok fxa_1 fxa_2 fxa_3 hr291) rfl rfl) ?_
          rintro _ _ _ ⟨v293, _, rfl, ⟨⟨i292, rfl, rfl, rfl⟩, rfl⟩, _, rfl⟩
          refine ⟨fun w hs => Hold.sub (Hp.le_refl _) ⟨0, rfl, 1, rfl, 1, rfl, trivial⟩ hs, ?_⟩
          refine JM.cons ?_
          refine JQ.val (v := .bool (decide (i286 = i292))) rfl rfl (V.eql rfl rfl) ?_
          refine JQ.val (v := .bool (decide (i286 = i292))) rfl rfl (V.mv rfl) ?_
          rcases bt (decide (i286 = i292)) with hc296 | hc296
          · have h := ct hc296 h
            refine JQ.run rfl rfl rfl hc296 ?_
            refine JQ.val (v := .slice ad220 l218.length cp221) rfl rfl (V.mv rfl) ?_
            refine JQ.run rfl rfl rfl hc296 ?_
            refine JQ.val (v := .slice ad231 l229.length cp232) rfl rfl (V.mv rfl) ?_
            refine JQ.nil ?_
            refine JA.run rfl rfl rfl hc296 ?_
            refine JA.front 1 rfl ?_
            refine JA.persist (Hp.nil_le _) (by decide) (fun K297 hK298 f299 => ?_)
            obtain ⟨r300, hr301, h⟩ := ob h
            refine JA.op rfl (A.call (L1 := []) Try.call15 rfl (law16_Doc_ok f299 hr301) rfl rfl) ?_
            rintro _ _ _ ⟨v306, _, rfl, ⟨⟨l302, ad303, cp304, rfl, rfl, rfl⟩, rfl⟩, _, rfl⟩
            refine ⟨fun w hs => Hold.sub hK298 ⟨1, rfl, 1, rfl, 1, rfl, trivial⟩ hs, ?_⟩
            refine JM.wit Row.hn (fun hn305 => ?_)
            refine JM.cons ?_
            refine JQ.nil ?_
            refine JA.run rfl rfl rfl hc296 ?_
            obtain ⟨r310, hr311, h⟩ := ob h
            refine JA.op rfl (A.call (L1 := [Row Hp.nil 69 (.cons (.int .i64) (.cons (.int .i64) (.cons (.int .i64) (.cons (.int .i64) (.one .bool))))) (.slice ad303 l302.length cp304) l302, Row Hp.nil 69 (.cons (.int .i64) (.cons (.int .i64) (.cons (.int .i64) (.cons (.int .i64) (.one .bool))))) (.slice ad231 l229.length cp232) l229]) Try.call14 rfl (Tr.lend (Hp.nil_le _) (by decide) (fun K312 hK313 f314 => Tr.lend (Hp.nil_le _) (by decide) (fun K315 hK316 f317 => ref16_Same_ok (f314.mono hK316) f317 hr311))) rfl rfl) ?_
            rintro _ _ _ ⟨v319, _, rfl, ⟨⟨_, ⟨_, ⟨t318, rfl, rfl, rfl⟩, rfl⟩, rfl⟩, rfl⟩, _, rfl⟩
            refine ⟨fun w hs => Hold.sub hK298 ⟨1, rfl, 1, rfl, 1, rfl, trivial⟩ hs, ?_⟩
            refine JM.cons ?_
            refine JQ.val (v := .bool t318) rfl rfl (V.pickT rfl hc296 rfl) ?_
            refine JQ.val (v := .bool t318) rfl rfl (V.mv rfl) ?_
            rcases bt (t318) with hc322 | hc322
            · have h := ct hc322 h
              refine JQ.run rfl rfl rfl hc322 ?_
              refine JQ.val (v := .int .i64 i219) rfl rfl (V.mv rfl) ?_
              refine JQ.run rfl rfl rfl hc322 ?_
              refine JQ.val (v := .int .i64 i230) rfl rfl (V.mv rfl) ?_
              refine JQ.run rfl rfl rfl hc322 ?_
              refine JQ.val (v := .bool (decide (i219 = i230))) rfl rfl (V.eql rfl rfl) ?_
              refine JQ.val (v := .bool (decide (i219 = i230))) rfl rfl (V.pickT rfl hc322 rfl) ?_
              refine JQ.val (v := .bool (decide (i219 = i230))) rfl rfl (V.mv rfl) ?_
              refine JQ.nil ?_
              rcases bt (decide (i219 = i230)) with hc323 | hc323
              · have h := ct hc323 h
                refine JA.run rfl rfl rfl hc323 ?_
                obtain ⟨r324, hr325, h⟩ := ob h
                refine JA.op rfl (A.call (L1 := []) Try.call9 rfl (law17_awake_ok hr325) rfl rfl) ?_
                rintro _ _ _ ⟨v327, _, rfl, ⟨⟨t326, rfl, rfl, rfl⟩, rfl⟩, _, rfl⟩
                refine ⟨fun w hs => Hold.sub hK298 ⟨1, rfl, 1, rfl, 1, rfl, trivial⟩ hs, ?_⟩
                refine JM.nil ?_
                refine JQ.val (v := .bool t326) rfl rfl (V.pickT rfl hc323 rfl) ?_
                refine JQ.val (v := .bool t326) rfl rfl (V.as rfl) ?_
                refine JQ.nil ?_
                refine J.nil ?_
                refine CJ.ret ?_
                have e := Option.some.inj h
                subst e
                exact ⟨_, [], Res.one rfl rfl, ⟨t326, rfl, rfl, rfl⟩, hK298, fun w hs => (Sep.dropAt 0 rfl (Sep.dropAt 0 rfl (Sep.dropAt 0 rfl (Sep.dropAt 0 rfl hs))))⟩
              · have h := cf hc323 h
                refine JA.skip rfl rfl rfl rfl hc323 ?_
                refine JM.nil ?_
                refine JQ.val (v := .bool false) rfl rfl (V.pickF rfl hc323 rfl) ?_
                refine JQ.val (v := .bool false) rfl rfl (V.as rfl) ?_
                refine JQ.nil ?_
                refine J.nil ?_
                refine CJ.ret ?_
                have e := Option.some.inj h
                subst e
                exact ⟨_, [], Res.one rfl rfl, ⟨false, rfl, rfl, rfl⟩, hK298, fun w hs => (Sep.dropAt 0 rfl (Sep.dropAt 0 rfl (Sep.dropAt 0 rfl (Sep.dropAt 0 rfl hs))))⟩
            · have h := cf hc322 h
              refine JQ.skip rfl rfl rfl rfl hc322 ?_
              refine JQ.skip rfl rfl rfl rfl hc322 ?_
              refine JQ.skip rfl rfl rfl rfl hc322 ?_
              refine JQ.val (v := .bool false) rfl rfl (V.pickF rfl hc322 rfl) ?_
              refine JQ.val (v := .bool false) rfl rfl (V.mv rfl) ?_
              refine JQ.nil ?_
              refine JA.skip rfl rfl rfl rfl rfl ?_
              refine JM.nil ?_
              refine JQ.val (v := .bool false) rfl rfl (V.pickF rfl rfl rfl) ?_
              refine JQ.val (v := .bool false) rfl rfl (V.as rfl) ?_
              refine JQ.nil ?_
              refine J.nil ?_
              refine CJ.ret ?_
              have e := Option.some.inj h
              subst e
              exact ⟨_, [], Res.one rfl rfl, ⟨false, rfl, rfl, rfl⟩, hK298, fun w hs => (Sep.dropAt 0 rfl (Sep.dropAt 0 rfl (Sep.dropAt 0 rfl (Sep.dropAt 0 rfl hs))))⟩
          · have h := cf hc296 h
            refine JQ.skip rfl rfl rfl rfl hc296 ?_
            refine JQ.skip rfl rfl rfl rfl hc296 ?_
            refine JQ.nil ?_
            refine JA.skip rfl rfl rfl rfl hc296 ?_
            refine JM.cons ?_
            refine JQ.nil ?_
            refine JA.skip rfl rfl rfl rfl hc296 ?_
            refine JM.cons ?_
            refine JQ.val (v := .bool false) rfl rfl (V.pickF rfl hc296 rfl) ?_
            refine JQ.val (v := .bool false) rfl rfl (V.mv rfl) ?_
            refine JQ.skip rfl rfl rfl rfl rfl ?_
            refine JQ.skip rfl rfl rfl rfl rfl ?_
            refine JQ.skip rfl rfl rfl rfl rfl ?_
            refine JQ.val (v := .bool false) rfl rfl (V.pickF rfl rfl rfl) ?_
            refine JQ.val (v := .bool false) rfl rfl (V.mv rfl) ?_
            refine JQ.nil ?_
            refine JA.skip rfl rfl rfl rfl rfl ?_
            refine JM.nil ?_
            refine JQ.val (v := .bool false) rfl rfl (V.pickF rfl rfl rfl) ?_
            refine JQ.val (v := .bool false) rfl rfl (V.as rfl) ?_
            refine JQ.nil ?_
            refine J.nil ?_
            refine CJ.ret ?_
            have e := Option.some.inj h
            subst e
            exact ⟨_, [], Res.one rfl rfl, ⟨false, rfl, rfl, rfl⟩, (Hp.le_refl _), fun w hs => (Sep.dropAt 0 rfl (Sep.dropAt 0 rfl (Sep.dropAt 0 rfl (Sep.dropAt 0 rfl hs))))⟩
end Go.Proofs.Ytjhgiaafaahbjaa
