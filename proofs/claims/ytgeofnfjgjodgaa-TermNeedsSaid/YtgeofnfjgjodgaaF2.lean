/- What Go functions answer: generated. -/
import Derived.Test.YtgeofnfjgjodgaaF1
namespace Go.Proofs.Ytgeofnfjgjodgaa
open Go.RowKit
set_option linter.unusedVariables false
set_option linter.unnecessarySimpa false
set_option linter.unusedSimpArgs false
set_option maxRecDepth 20000
noncomputable def fn_slices_IndexFunc_api_Slot_api_Slot_k_row_within_1_p0_i_l1 (xa : (List (Int × Bool))) : (Int × Int) → Option ((Int × Int) ⊕ (Int ⊕ (Int × Int))) := fun ((i224, i225) : (Int × Int)) => cond (decide (i224 < (((xa.length : Nat) : Int)))) ((getI xa i224).bind fun x251 => (fn_row_within_1_ap0_i (x251.1, x251.2) i225).bind fun (t262, i263) => cond (t262) (some (.inr ((.inr ((i224, i263)))))) (some (.inl ((IntKind.wrap .i64 (i224 + 1), i263))))) (some (.inr (.inl i225)))
noncomputable def fn_slices_IndexFunc_api_Slot_api_Slot_k_row_within_1_p0_i (xa : (List (Int × Bool))) (qa0 : Int) : Option (Int × Int) :=
  (loop (fn_slices_IndexFunc_api_Slot_api_Slot_k_row_within_1_p0_i_l1 xa) (0, qa0) : Option (Int ⊕ (Int × Int))).bind fun o => match o with | .inr r => some r | .inl i201 => some (((-1), i201))
set_option maxRecDepth 100000 in
set_option maxHeartbeats 4000000 in
theorem slices_IndexFunc_api_Slot_api_Slot_k_row_within_1_p0_i_ok {K : Hp} {xa : (List (Int × Bool))} {qa0 : Int} {pba : Nat} {adxa_0 : Option Addr} {cpxa_0 : Nat} (fxa_0 : Is K (.sl (.cons (.int .i64) (.one .bool))) [.slice adxa_0 xa.length cpxa_0] xa) {r : (Int × Int)} (h : fn_slices_IndexFunc_api_Slot_api_Slot_k_row_within_1_p0_i xa qa0 = some r) :
    Tr Try.prog 76 #[.slice adxa_0 xa.length cpxa_0, .func (.func 74) #[] #[.pointer (some ⟨pba, 0, none⟩)]] K [Cl pba 3 [.int .i64 qa0]] (fun v K' L' => (∃ (i135 : Int) (i136 : Int), (i135, i136) = r ∧ .int .i64 i135 = v ∧ L' = [Cl pba 3 [.int .i64 i136]]) ∧ K = K') := by
  refine Tr.k ?_
  refine Tr.of Try.func76 rfl Try.ntmps76 rfl (fun E F => ?_)
  unfold fn_slices_IndexFunc_api_Slot_api_Slot_k_row_within_1_p0_i at h
  refine CJ.seq ?_
  refine CJ.region ?_
  refine J.val (v := .int .i64 0) rfl rfl (V.as rfl) ?_
  refine J.nil ?_
  refine CJ.seq ?_
  refine CJ.seq ?_
  refine CJ.region ?_
  refine J.val (v := .slice adxa_0 xa.length cpxa_0) rfl rfl (V.mv rfl) ?_
  refine J.val (v := .int .i64 (((xa.length : Nat) : Int))) rfl rfl (V.len Try.underlying26 rfl) ?_
  refine J.val (v := .int .i64 0) rfl rfl (V.mv rfl) ?_
  refine J.nil ?_
  obtain ⟨o202, ho203, h⟩ := ob h
  refine CJ.joinN (o := o202) (fun s ρ K' L' => ∃ (i201 : Int), i201 = s ∧ Fits [] ρ ∧ K = K' ∧ L' = Cl pba 3 [.int .i64 i201] :: F) ?_ ?_
  · skip
    refine CJ.block ?_
    refine CJ.loop (fun s ρ K' L' => ∃ (i224 : Int) (i225 : Int), (i224, i225) = s ∧ Fits [(0, .slice adxa_0 xa.length cpxa_0), (1, .func (.func 74) #[] #[.pointer (some ⟨pba, 0, none⟩)]), (7, .int .i64 (((xa.length : Nat) : Int))), (8, .int .i64 i224)] ρ ∧ K = K' ∧ L' = Cl pba 3 [.int .i64 i225] :: F) ho203 ⟨0, qa0, rfl, ⟨rfl, rfl, rfl, rfl, trivial⟩, rfl, rfl⟩ ?_
    rintro s ρ _ _ r249 ⟨i224, i225, rfl, hf247, rfl, rfl⟩ h246
    obtain ⟨ρ, rfl⟩ := hf247.ex
    refine CJ.seq ?_
    refine CJ.region ?_
    refine J.val (v := .bool (decide (i224 < (((xa.length : Nat) : Int))))) rfl rfl (V.lss rfl rfl) ?_
    refine J.nil ?_
    refine CJ.seq ?_
    refine CJ.cond rfl (fun hc250 => ?_) (fun hc250 => ?_)
    · have h246 := ct hc250 h246
      refine CJ.skip ?_
      refine CJ.seq ?_
      refine CJ.block ?_
      refine CJ.seq ?_
      refine CJ.region ?_
      refine J.val (v := .int .i64 i224) rfl rfl (V.mv rfl) ?_
      refine J.val (v := .int .i64 i224) rfl rfl (V.as rfl) ?_
      refine J.nil ?_
      refine CJ.seq ?_
      refine CJ.region ?_
      refine J.val (v := .func (.func 74) #[] #[.pointer (some ⟨pba, 0, none⟩)]) rfl rfl (V.mv rfl) ?_
      refine J.val (v := .slice adxa_0 xa.length cpxa_0) rfl rfl (V.mv rfl) ?_
      refine J.val (v := .int .i64 i224) rfl rfl (V.mv rfl) ?_
      obtain ⟨x251, hx252, h246⟩ := ob h246
      obtain ⟨p253, p254, p255⟩ := getI_some hx252
      obtain ⟨b256, o257, e258, a259⟩ := (fxa_0).at p254
      refine J.val rfl rfl (V.iad Try.underlying26 sz111 rfl e258 rfl p253 p255) ?_
      refine J.val (v := .agg #[.int .i64 x251.1, .bool x251.2]) rfl rfl (V.ld rfl (Ld.aggK (cs := [.int .i64 x251.1, .bool x251.2]) Try.underlying111 sz111 rfl ⟨((a259).fst).int, (((a259).snd).one).bool, trivial⟩ (Hp.le_refl _))) ?_
      obtain ⟨r260, hr261, h246⟩ := ob h246
      refine J.op rfl (A.call (L1 := [Cl pba 3 [.int .i64 i225]]) Try.call74 rfl (row_within_1_ap0_i_ok hr261) rfl rfl) ?_
      rintro _ _ _ ⟨v264, _, rfl, ⟨⟨t262, i263, rfl, rfl, rfl⟩, rfl⟩, _, rfl⟩
      refine J.nil ?_
      refine CJ.cond rfl (fun hc267 => ?_) (fun hc267 => ?_)
      · have h246 := ct hc267 h246
        refine CJ.seq ?_
        refine CJ.region ?_
        refine J.val (v := .int .i64 i224) rfl rfl (V.mv rfl) ?_
        refine J.val (v := .int .i64 i224) rfl rfl (V.as rfl) ?_
        refine J.nil ?_
        refine CJ.ret ?_
        have e := Option.some.inj h246
        subst e
        refine ⟨nofun, fun e => ?_⟩
        subst e
        refine .inr ⟨nofun, ?_⟩
        have e := Option.some.inj h
        subst e
        exact ⟨_, [Cl pba 3 [.int .i64 i263]], Res.one rfl rfl, ⟨i224, i263, rfl, rfl, rfl⟩, (Hp.le_refl _), fun w hs => hs⟩
      · have h246 := cf hc267 h246
        refine CJ.skip ?_
        refine CJ.region ?_
        refine J.val (v := .int .i64 (IntKind.wrap .i64 (i224 + 1))) rfl rfl (V.add rfl rfl) ?_
        refine J.val (v := .int .i64 (IntKind.wrap .i64 (i224 + 1))) rfl rfl (V.mv rfl) ?_
        refine J.nil ?_
        have e := Option.some.inj h246
        subst e
        exact ⟨rfl, ⟨IntKind.wrap .i64 (i224 + 1), i263, rfl, ⟨rfl, rfl, rfl, rfl, trivial⟩, rfl, rfl⟩⟩
    · have h246 := cf hc250 h246
      refine CJ.exit ?_
      have e := Option.some.inj h246
      subst e
      refine ⟨nofun, fun e => ?_⟩
      subst e
      exact .inl ⟨rfl, _, rfl, ⟨i225, rfl, trivial, rfl, rfl⟩⟩
  · rintro s ρ _ _ ho268 ⟨i201, rfl, hf269, rfl, rfl⟩
    subst ho268
    obtain ⟨ρ, rfl⟩ := hf269.ex
    refine PJ.done ?_
    refine CJ.seq ?_
    refine CJ.region ?_
    refine J.val (v := .int .i64 (-1)) rfl rfl (V.as rfl) ?_
    refine J.nil ?_
    refine CJ.ret ?_
    have e := Option.some.inj h
    subst e
    exact ⟨_, [Cl pba 3 [.int .i64 i201]], Res.one rfl rfl, ⟨(-1), i201, rfl, rfl, rfl⟩, (Hp.le_refl _), fun w hs => hs⟩

noncomputable def fn_slices_ContainsFunc_api_Slot_api_Slot_k_row_within_1_p0_i (xa : (List (Int × Bool))) (qa0 : Int) : Option (Bool × Int) :=
  (fn_slices_IndexFunc_api_Slot_api_Slot_k_row_within_1_p0_i xa qa0).bind fun (i12, i13) => some ((decide (0 ≤ i12), i13))
set_option maxRecDepth 100000 in
set_option maxHeartbeats 4000000 in
theorem slices_ContainsFunc_api_Slot_api_Slot_k_row_within_1_p0_i_ok {K : Hp} {xa : (List (Int × Bool))} {qa0 : Int} {pba : Nat} {adxa_0 : Option Addr} {cpxa_0 : Nat} (fxa_0 : Is K (.sl (.cons (.int .i64) (.one .bool))) [.slice adxa_0 xa.length cpxa_0] xa) {r : (Bool × Int)} (h : fn_slices_ContainsFunc_api_Slot_api_Slot_k_row_within_1_p0_i xa qa0 = some r) :
    Tr Try.prog 73 #[.slice adxa_0 xa.length cpxa_0, .func (.func 74) #[] #[.pointer (some ⟨pba, 0, none⟩)]] K [Cl pba 3 [.int .i64 qa0]] (fun v K' L' => (∃ (t8 : Bool) (i9 : Int), (t8, i9) = r ∧ .bool t8 = v ∧ L' = [Cl pba 3 [.int .i64 i9]]) ∧ K = K') := by
  refine Tr.k ?_
  refine Tr.of Try.func73 rfl Try.ntmps73 rfl (fun E F => ?_)
  unfold fn_slices_ContainsFunc_api_Slot_api_Slot_k_row_within_1_p0_i at h
  refine CJ.seq ?_
  refine CJ.region ?_
  refine J.val (v := .bool false) rfl rfl (V.as rfl) ?_
  refine J.nil ?_
  refine CJ.seq ?_
  refine CJ.region ?_
  refine J.val (v := .slice adxa_0 xa.length cpxa_0) rfl rfl (V.mv rfl) ?_
  refine J.val (v := .func (.func 74) #[] #[.pointer (some ⟨pba, 0, none⟩)]) rfl rfl (V.mv rfl) ?_
  obtain ⟨r10, hr11, h⟩ := ob h
  refine J.op rfl (A.call (L1 := [Cl pba 3 [.int .i64 qa0]]) Try.call76 rfl (slices_IndexFunc_api_Slot_api_Slot_k_row_within_1_p0_i_ok fxa_0 hr11) rfl rfl) ?_
  rintro _ _ _ ⟨v14, _, rfl, ⟨⟨i12, i13, rfl, rfl, rfl⟩, rfl⟩, _, rfl⟩
  refine J.val (v := .bool (decide (0 ≤ i12))) rfl rfl (V.geq rfl rfl) ?_
  refine J.val (v := .bool (decide (0 ≤ i12))) rfl rfl (V.as rfl) ?_
  refine J.nil ?_
  refine CJ.ret ?_
  have e := Option.some.inj h
  subst e
  exact ⟨_, [Cl pba 3 [.int .i64 i13]], Res.one rfl rfl, ⟨decide (0 ≤ i12), i13, rfl, rfl, rfl⟩, (Hp.le_refl _), fun w hs => hs⟩

noncomputable def fn_row_within (xa : (List (Int × Bool))) (xb : Int) : Option Bool :=
  (fn_slices_ContainsFunc_api_Slot_api_Slot_k_row_within_1_p0_i xa xb).bind fun (t15, i17) => some (!t15)
set_option maxRecDepth 100000 in
set_option maxHeartbeats 4000000 in
theorem row_within_ok {K : Hp} {xa : (List (Int × Bool))} {xb : Int} {adxa_0 : Option Addr} {cpxa_0 : Nat} (fxa_0 : Is K (.sl (.cons (.int .i64) (.one .bool))) [.slice adxa_0 xa.length cpxa_0] xa) {r : Bool} (h : fn_row_within xa xb = some r) :
    Tr Try.prog 66 #[.agg #[.slice adxa_0 xa.length cpxa_0], .int .i64 xb] K [] (fun v K' L' => (∃ (t10 : Bool), t10 = r ∧ .bool t10 = v ∧ L' = []) ∧ K = K') := by
  refine Tr.k ?_
  refine Tr.of Try.func66 rfl Try.ntmps66 rfl (fun E F => ?_)
  unfold fn_row_within at h
  refine CJ.seq ?_
  refine CJ.region ?_
  refine J.op rfl (A.box (v := .agg #[.slice adxa_0 xa.length cpxa_0]) (cs := [.slice adxa_0 xa.length cpxa_0]) rfl rfl) ?_
  rintro _ _ _ ⟨b11, rfl, rfl, rfl⟩
  refine J.op rfl (A.box (v := .int .i64 xb) (cs := [.int .i64 xb]) rfl rfl) ?_
  rintro _ _ _ ⟨b12, rfl, rfl, rfl⟩
  refine J.val (v := .bool false) rfl rfl (V.as rfl) ?_
  refine J.nil ?_
  refine CJ.seq ?_
  refine CJ.region ?_
  refine J.val rfl rfl (V.fad Try.underlying28 rfl nz26 rfl) ?_
  refine J.val (v := .slice adxa_0 xa.length cpxa_0) rfl rfl (V.ld rfl (Ld.sc sc26 (Rd.cl 1 rfl rfl))) ?_
  refine J.val (v := .func (.func 74) #[] #[.pointer (some ⟨b12, 0, none⟩)]) rfl rfl (V.mkf rfl) ?_
  obtain ⟨r13, hr14, h⟩ := ob h
  refine J.op rfl (A.call (L1 := [Cl b12 3 [.int .i64 xb]]) Try.call73 rfl (slices_ContainsFunc_api_Slot_api_Slot_k_row_within_1_p0_i_ok fxa_0 hr14) rfl rfl) ?_
  rintro _ _ _ ⟨v18, _, rfl, ⟨⟨t15, i17, rfl, rfl, rfl⟩, rfl⟩, _, rfl⟩
  refine J.val (v := .bool (!t15)) rfl rfl (V.not rfl) ?_
  refine J.val (v := .bool (!t15)) rfl rfl (V.as rfl) ?_
  refine J.nil ?_
  refine CJ.ret ?_
  have e := Option.some.inj h
  subst e
  exact ⟨_, [], Res.one rfl rfl, ⟨!t15, rfl, rfl, rfl⟩, (Hp.le_refl _), fun w hs => (Sep.dropAt 0 rfl (Sep.dropAt 0 rfl hs))⟩

noncomputable def fn_row_Check (xa : (List (Int × Bool))) (xb : Int) : Option Int :=
  cond (decide (16 < (((xa.length : Nat) : Int)))) (some (6)) ((fn_row_within xa xb).bind fun t15 => cond (!t15) (some (7)) (some (0)))
set_option maxRecDepth 100000 in
set_option maxHeartbeats 4000000 in
theorem row_Check_ok {K : Hp} {xa : (List (Int × Bool))} {xb : Int} {adxa_0 : Option Addr} {cpxa_0 : Nat} (fxa_0 : Is K (.sl (.cons (.int .i64) (.one .bool))) [.slice adxa_0 xa.length cpxa_0] xa) {r : Int} (h : fn_row_Check xa xb = some r) :
    Tr Try.prog 72 #[.agg #[.slice adxa_0 xa.length cpxa_0], .int .i64 xb] K [] (fun v K' L' => (∃ (i10 : Int), i10 = r ∧ .int .i64 i10 = v ∧ L' = []) ∧ K = K') := by
  refine Tr.k ?_
  refine Tr.of Try.func72 rfl Try.ntmps72 rfl (fun E F => ?_)
  unfold fn_row_Check at h
  refine CJ.seq ?_
  refine CJ.region ?_
  refine J.op rfl (A.box (v := .agg #[.slice adxa_0 xa.length cpxa_0]) (cs := [.slice adxa_0 xa.length cpxa_0]) rfl rfl) ?_
  rintro _ _ _ ⟨b11, rfl, rfl, rfl⟩
  refine J.val (v := .int .i64 0) rfl rfl (V.as rfl) ?_
  refine J.nil ?_
  refine CJ.seq ?_
  refine CJ.seq ?_
  refine CJ.region ?_
  refine J.val rfl rfl (V.fad Try.underlying28 rfl nz26 rfl) ?_
  refine J.val (v := .slice adxa_0 xa.length cpxa_0) rfl rfl (V.ld rfl (Ld.sc sc26 (Rd.cl 0 rfl rfl))) ?_
  refine J.val (v := .int .i64 (((xa.length : Nat) : Int))) rfl rfl (V.len Try.underlying26 rfl) ?_
  refine J.val (v := .bool (decide (16 < (((xa.length : Nat) : Int))))) rfl rfl (V.gtr rfl rfl) ?_
  refine J.nil ?_
  refine CJ.cond rfl (fun hc12 => ?_) (fun hc12 => ?_)
  · have h := ct hc12 h
    refine CJ.seq ?_
    refine CJ.region ?_
    refine J.val (v := .int .i64 6) rfl rfl (V.as rfl) ?_
    refine J.nil ?_
    refine CJ.ret ?_
    have e := Option.some.inj h
    subst e
    exact ⟨_, [], Res.one rfl rfl, ⟨6, rfl, rfl, rfl⟩, (Hp.le_refl _), fun w hs => (Sep.dropAt 0 rfl hs)⟩
  · have h := cf hc12 h
    refine CJ.skip ?_
    refine CJ.seq ?_
    refine CJ.seq ?_
    refine CJ.region ?_
    refine J.val (v := .agg #[.slice adxa_0 xa.length cpxa_0]) rfl rfl (V.ld rfl (Ld.agg (cs := [.slice adxa_0 xa.length cpxa_0]) Try.underlying28 sz28 rfl (Rd.cls 0 0 rfl rfl))) ?_
    refine J.val (v := .int .i64 xb) rfl rfl (V.mv rfl) ?_
    obtain ⟨r13, hr14, h⟩ := ob h
    refine J.op rfl (A.call (L1 := []) Try.call66 rfl (row_within_ok fxa_0 hr14) rfl rfl) ?_
    rintro _ _ _ ⟨v16, _, rfl, ⟨⟨t15, rfl, rfl, rfl⟩, rfl⟩, _, rfl⟩
    refine J.val (v := .bool (!t15)) rfl rfl (V.not rfl) ?_
    refine J.nil ?_
    refine CJ.cond rfl (fun hc19 => ?_) (fun hc19 => ?_)
    · have h := ct hc19 h
      refine CJ.seq ?_
      refine CJ.region ?_
      refine J.val (v := .int .i64 7) rfl rfl (V.as rfl) ?_
      refine J.nil ?_
      refine CJ.ret ?_
      have e := Option.some.inj h
      subst e
      exact ⟨_, [], Res.one rfl rfl, ⟨7, rfl, rfl, rfl⟩, (Hp.le_refl _), fun w hs => (Sep.dropAt 0 rfl hs)⟩
    · have h := cf hc19 h
      refine CJ.skip ?_
      refine CJ.seq ?_
      refine CJ.region ?_
      refine J.val (v := .int .i64 0) rfl rfl (V.as rfl) ?_
      refine J.nil ?_
      refine CJ.ret ?_
      have e := Option.some.inj h
      subst e
      exact ⟨_, [], Res.one rfl rfl, ⟨0, rfl, rfl, rfl⟩, (Hp.le_refl _), fun w hs => (Sep.dropAt 0 rfl hs)⟩
noncomputable def fn_sig_Check_l1 (xa : (Int × (List (Int × Int)) × (List (List (Int × Bool))) × (List (Int × Bool)))) : (Int × Int × (List (Int × Int)) × (List (List (Int × Bool))) × (List (Int × Bool))) → Option ((Int × Int × (List (Int × Int)) × (List (List (Int × Bool))) × (List (Int × Bool))) ⊕ ((Int × (List (Int × Int)) × (List (List (Int × Bool))) × (List (Int × Bool))) ⊕ Int)) := fun ((i1082, i1083, l1084, l1088, l1092) : (Int × Int × (List (Int × Int)) × (List (List (Int × Bool))) × (List (Int × Bool)))) => cond (decide (i1082 < (((xa.2.1.length : Nat) : Int)))) ((getI xa.2.1 i1082).bind fun x1187 => (fn_sig_Check_1_ip0_ikkk x1187.1 i1083 l1084 l1088 l1092).bind fun (t1199, i1200, l1201, l1202, l1203) => cond (!t1199) (some (.inr ((.inr (7))))) ((fn_sig_Check_1_ip0_ikkk x1187.2 i1200 l1201 l1202 l1203).bind fun (t1239, i1240, l1241, l1242, l1243) => cond (!t1239) (some (.inr ((.inr (7))))) (some (.inl ((IntKind.wrap .i64 (i1082 + 1), i1240, l1241, l1242, l1243)))))) (some (.inr ((.inl (i1083, l1084, l1088, l1092)))))
noncomputable def fn_sig_Check_l2 (i981 : Int) (l986 : (List (List (Int × Bool)))) : Int → Option (Int ⊕ (Unit ⊕ Int)) := fun (i1358 : Int) => cond (decide (i1358 < (((l986.length : Nat) : Int)))) ((getI l986 i1358).bind fun x1387 => (fn_row_Check x1387 i981).bind fun i1403 => cond (!decide (i1403 = 0)) (some (.inr ((.inr (i1403))))) (some (.inl (IntKind.wrap .i64 (i1358 + 1))))) (some (.inr ((.inl ()))))
noncomputable def fn_sig_Check (xa : (Int × (List (Int × Int)) × (List (List (Int × Bool))) × (List (Int × Bool)))) : Option Int :=
  cond (decide (xa.1 < 0)) (some (7)) (cond (((decide (16 < xa.1)) || (decide (16 < (((xa.2.1.length : Nat) : Int))))) || (decide (16 < (((xa.2.2.1.length : Nat) : Int))))) (some (6)) ((loop (fn_sig_Check_l1 xa) (0, xa.1, xa.2.1, xa.2.2.1, xa.2.2.2) : Option ((Int × (List (Int × Int)) × (List (List (Int × Bool))) × (List (Int × Bool))) ⊕ Int)).bind fun o => match o with | .inr r => some r | .inl (i981, l982, l986, l990) => (loop (fn_sig_Check_l2 i981 l986) 0 : Option (Unit ⊕ Int)).bind fun o => match o with | .inr r => some r | .inl () => (fn_row_Check l990 i981).bind fun i1413 => some (i1413)))
set_option maxRecDepth 100000 in
set_option maxHeartbeats 4000000 in
theorem sig_Check_ok {K : Hp} {xa : (Int × (List (Int × Int)) × (List (List (Int × Bool))) × (List (Int × Bool)))} {adxa_1 : Option Addr} {cpxa_1 : Nat} {adxa_2 : Option Addr} {cpxa_2 : Nat} {adxa_3 : Option Addr} {cpxa_3 : Nat} (fxa_1 : Is K (.sl (.cons (.int .i64) (.one (.int .i64)))) [.slice adxa_1 xa.2.1.length cpxa_1] xa.2.1) (fxa_2 : Is K (.sl (.one (.sl (.cons (.int .i64) (.one .bool))))) [.slice adxa_2 xa.2.2.1.length cpxa_2] xa.2.2.1) (fxa_3 : Is K (.sl (.cons (.int .i64) (.one .bool))) [.slice adxa_3 xa.2.2.2.length cpxa_3] xa.2.2.2) {r : Int} (h : fn_sig_Check xa = some r) :
    Tr Try.prog 65 #[.agg #[.int .i64 xa.1, .slice adxa_1 xa.2.1.length cpxa_1, .slice adxa_2 xa.2.2.1.length cpxa_2, .slice adxa_3 xa.2.2.2.length cpxa_3]] K [] (fun v K' L' => (∃ (i709 : Int), i709 = r ∧ .int .i64 i709 = v ∧ L' = []) ∧ K = K') := by
  refine Tr.k ?_
  refine Tr.of Try.func65 rfl Try.ntmps65 rfl (fun E F => ?_)
  unfold fn_sig_Check at h
  refine CJ.seq ?_
  refine CJ.region ?_
  refine J.op rfl (A.box (v := .agg #[.int .i64 xa.1, .slice adxa_1 xa.2.1.length cpxa_1, .slice adxa_2 xa.2.2.1.length cpxa_2, .slice adxa_3 xa.2.2.2.length cpxa_3]) (cs := [.int .i64 xa.1, .slice adxa_1 xa.2.1.length cpxa_1, .slice adxa_2 xa.2.2.1.length cpxa_2, .slice adxa_3 xa.2.2.2.length cpxa_3]) rfl rfl) ?_
  rintro _ _ _ ⟨b710, rfl, rfl, rfl⟩
  refine J.val (v := .int .i64 0) rfl rfl (V.as rfl) ?_
  refine J.nil ?_
  refine CJ.seq ?_
  refine CJ.seq ?_
  refine CJ.region ?_
  refine J.val rfl rfl (V.fad Try.underlying57 rfl nz3 rfl) ?_
  refine J.val (v := .int .i64 xa.1) rfl rfl (V.ld rfl (Ld.sc sc3 (Rd.cl 0 rfl rfl))) ?_
  refine J.val (v := .bool (decide (xa.1 < 0))) rfl rfl (V.lss rfl rfl) ?_
  refine J.nil ?_
  refine CJ.cond rfl (fun hc711 => ?_) (fun hc711 => ?_)
  · have h := ct hc711 h
    refine CJ.seq ?_
    refine CJ.region ?_
    refine J.val (v := .int .i64 7) rfl rfl (V.as rfl) ?_
    refine J.nil ?_
    refine CJ.ret ?_
    have e := Option.some.inj h
    subst e
    exact ⟨_, [], Res.one rfl rfl, ⟨7, rfl, rfl, rfl⟩, (Hp.le_refl _), fun w hs => (Sep.dropAt 0 rfl hs)⟩
  · have h := cf hc711 h
    refine CJ.skip ?_
    refine CJ.seq ?_
    refine CJ.seq ?_
    refine CJ.region ?_
    refine J.val rfl rfl (V.fad Try.underlying57 rfl nz3 rfl) ?_
    refine J.val (v := .int .i64 xa.1) rfl rfl (V.ld rfl (Ld.sc sc3 (Rd.cl 0 rfl rfl))) ?_
    refine J.val (v := .bool (decide (16 < xa.1))) rfl rfl (V.gtr rfl rfl) ?_
    refine J.val (v := .bool (decide (16 < xa.1))) rfl rfl (V.mv rfl) ?_
    refine J.cut 5 ?_
    refine @J.meet _ _ _ _ _ _ _ _ _ _ (fun ρ K' L' => Fits [(20, .bool ((decide (16 < xa.1)) || (decide (16 < (((xa.2.1.length : Nat) : Int)))))), (1, .pointer (some ⟨b710, 0, none⟩))] ρ ∧ K = K' ∧ L' = Cl b710 57 [.int .i64 xa.1, .slice adxa_1 xa.2.1.length cpxa_1, .slice adxa_2 xa.2.2.1.length cpxa_2, .slice adxa_3 xa.2.2.2.length cpxa_3] :: F) ?_ ?_
    · skip
      rcases bt (decide (16 < xa.1)) with hc714 | hc714
      · skip
        refine J.skip rfl rfl rfl rfl hc714 ?_
        refine J.skip rfl rfl rfl rfl hc714 ?_
        refine J.skip rfl rfl rfl rfl hc714 ?_
        refine J.skip rfl rfl rfl rfl hc714 ?_
        refine J.val (v := .bool true) rfl rfl (V.pickT rfl hc714 rfl) ?_
        refine J.nil ?_
        exact ⟨rfl, ⟨(by simp only [hc714]; rfl), rfl, trivial⟩, rfl, rfl⟩
      · skip
        refine J.run rfl rfl rfl hc714 ?_
        refine J.val rfl rfl (V.fad Try.underlying57 rfl nz55 rfl) ?_
        refine J.run rfl rfl rfl hc714 ?_
        refine J.val (v := .slice adxa_1 xa.2.1.length cpxa_1) rfl rfl (V.ld rfl (Ld.sc sc55 (Rd.cl 0 rfl rfl))) ?_
        refine J.run rfl rfl rfl hc714 ?_
        refine J.val (v := .int .i64 (((xa.2.1.length : Nat) : Int))) rfl rfl (V.len Try.underlying55 rfl) ?_
        refine J.run rfl rfl rfl hc714 ?_
        refine J.val (v := .bool (decide (16 < (((xa.2.1.length : Nat) : Int))))) rfl rfl (V.gtr rfl rfl) ?_
        refine J.val (v := .bool (decide (16 < (((xa.2.1.length : Nat) : Int))))) rfl rfl (V.pickF rfl hc714 rfl) ?_
        refine J.nil ?_
        exact ⟨rfl, ⟨(by simp only [hc714]; rfl), rfl, trivial⟩, rfl, rfl⟩
    · rintro ρ _ _ ⟨hf, rfl, rfl⟩
      obtain ⟨ρ, rfl⟩ := hf.ex
      refine J.val (v := .bool ((decide (16 < xa.1)) || (decide (16 < (((xa.2.1.length : Nat) : Int)))))) rfl rfl (V.mv rfl) ?_
      refine J.cut 5 ?_
      refine @J.meet _ _ _ _ _ _ _ _ _ _ (fun ρ K' L' => Fits [(26, .bool (((decide (16 < xa.1)) || (decide (16 < (((xa.2.1.length : Nat) : Int))))) || (decide (16 < (((xa.2.2.1.length : Nat) : Int)))))), (1, .pointer (some ⟨b710, 0, none⟩))] ρ ∧ K = K' ∧ L' = Cl b710 57 [.int .i64 xa.1, .slice adxa_1 xa.2.1.length cpxa_1, .slice adxa_2 xa.2.2.1.length cpxa_2, .slice adxa_3 xa.2.2.2.length cpxa_3] :: F) ?_ ?_
      · skip
        rcases bt ((decide (16 < xa.1)) || (decide (16 < (((xa.2.1.length : Nat) : Int))))) with hc717 | hc717
        · skip
          refine J.skip rfl rfl rfl rfl hc717 ?_
          refine J.skip rfl rfl rfl rfl hc717 ?_
          refine J.skip rfl rfl rfl rfl hc717 ?_
          refine J.skip rfl rfl rfl rfl hc717 ?_
          refine J.val (v := .bool true) rfl rfl (V.pickT rfl hc717 rfl) ?_
          refine J.nil ?_
          exact ⟨rfl, ⟨(by simp only [hc717]; rfl), rfl, trivial⟩, rfl, rfl⟩
        · skip
          refine J.run rfl rfl rfl hc717 ?_
          refine J.val rfl rfl (V.fad Try.underlying57 rfl nz25 rfl) ?_
          refine J.run rfl rfl rfl hc717 ?_
          refine J.val (v := .slice adxa_2 xa.2.2.1.length cpxa_2) rfl rfl (V.ld rfl (Ld.sc sc25 (Rd.cl 0 rfl rfl))) ?_
          refine J.run rfl rfl rfl hc717 ?_
          refine J.val (v := .int .i64 (((xa.2.2.1.length : Nat) : Int))) rfl rfl (V.len Try.underlying25 rfl) ?_
          refine J.run rfl rfl rfl hc717 ?_
          refine J.val (v := .bool (decide (16 < (((xa.2.2.1.length : Nat) : Int))))) rfl rfl (V.gtr rfl rfl) ?_
          refine J.val (v := .bool (decide (16 < (((xa.2.2.1.length : Nat) : Int))))) rfl rfl (V.pickF rfl hc717 rfl) ?_
          refine J.nil ?_
          exact ⟨rfl, ⟨(by simp only [hc717]; rfl), rfl, trivial⟩, rfl, rfl⟩
      · rintro ρ _ _ ⟨hf, rfl, rfl⟩
        obtain ⟨ρ, rfl⟩ := hf.ex
        refine J.nil ?_
        refine CJ.cond rfl (fun hc718 => ?_) (fun hc718 => ?_)
        · have h := ct hc718 h
          refine CJ.seq ?_
          refine CJ.region ?_
          refine J.val (v := .int .i64 6) rfl rfl (V.as rfl) ?_
          refine J.nil ?_
          refine CJ.ret ?_
          have e := Option.some.inj h
          subst e
          exact ⟨_, [], Res.one rfl rfl, ⟨6, rfl, rfl, rfl⟩, (Hp.le_refl _), fun w hs => (Sep.dropAt 0 rfl hs)⟩
        · have h := cf hc718 h
          refine CJ.skip ?_
          refine CJ.seq ?_
          refine CJ.region ?_
          refine J.val (v := .func (.func 71) #[] #[.pointer (some ⟨b710, 0, none⟩)]) rfl rfl (V.mkf rfl) ?_
          refine J.val (v := .func (.func 71) #[] #[.pointer (some ⟨b710, 0, none⟩)]) rfl rfl (V.as rfl) ?_
          refine J.nil ?_
          refine CJ.seq ?_
          refine CJ.seq ?_
          refine CJ.region ?_
          refine J.val rfl rfl (V.fad Try.underlying57 rfl nz55 rfl) ?_
          refine J.val (v := .slice adxa_1 xa.2.1.length cpxa_1) rfl rfl (V.ld rfl (Ld.sc sc55 (Rd.cl 0 rfl rfl))) ?_
          refine J.val (v := .int .i64 (((xa.2.1.length : Nat) : Int))) rfl rfl (V.len Try.underlying55 rfl) ?_
          refine J.val (v := .int .i64 0) rfl rfl (V.mv rfl) ?_
          refine J.nil ?_
          obtain ⟨o994, ho995, h⟩ := ob h
          refine CJ.joinN (o := o994) (fun s ρ K' L' => ∃ (i981 : Int) (l982 : (List (Int × Int))) (l986 : (List (List (Int × Bool)))) (l990 : (List (Int × Bool))) (ad983 : Option Addr) (cp984 : Nat) (ad987 : Option Addr) (cp988 : Nat) (ad991 : Option Addr) (cp992 : Nat), (i981, l982, l986, l990) = s ∧ Fits [(1, .pointer (some ⟨b710, 0, none⟩))] ρ ∧ Hp.le K K' ∧ Is K' (.sl (.cons (.int .i64) (.one (.int .i64)))) [.slice ad983 l982.length cp984] l982 ∧ Is K' (.sl (.one (.sl (.cons (.int .i64) (.one .bool))))) [.slice ad987 l986.length cp988] l986 ∧ Is K' (.sl (.cons (.int .i64) (.one .bool))) [.slice ad991 l990.length cp992] l990 ∧ L' = Cl b710 57 [.int .i64 i981, .slice ad983 l982.length cp984, .slice ad987 l986.length cp988, .slice ad991 l990.length cp992] :: F) ?_ ?_
          · skip
            refine CJ.block ?_
            refine CJ.loop (fun s ρ K' L' => ∃ (i1082 : Int) (i1083 : Int) (l1084 : (List (Int × Int))) (l1088 : (List (List (Int × Bool)))) (l1092 : (List (Int × Bool))) (ad1085 : Option Addr) (cp1086 : Nat) (ad1089 : Option Addr) (cp1090 : Nat) (ad1093 : Option Addr) (cp1094 : Nat), (i1082, i1083, l1084, l1088, l1092) = s ∧ Fits [(1, .pointer (some ⟨b710, 0, none⟩)), (3, .func (.func 71) #[] #[.pointer (some ⟨b710, 0, none⟩)]), (29, .slice adxa_1 xa.2.1.length cpxa_1), (30, .int .i64 (((xa.2.1.length : Nat) : Int))), (31, .int .i64 i1082)] ρ ∧ Hp.le K K' ∧ Is K' (.sl (.cons (.int .i64) (.one (.int .i64)))) [.slice ad1085 l1084.length cp1086] l1084 ∧ Is K' (.sl (.one (.sl (.cons (.int .i64) (.one .bool))))) [.slice ad1089 l1088.length cp1090] l1088 ∧ Is K' (.sl (.cons (.int .i64) (.one .bool))) [.slice ad1093 l1092.length cp1094] l1092 ∧ L' = Cl b710 57 [.int .i64 i1083, .slice ad1085 l1084.length cp1086, .slice ad1089 l1088.length cp1090, .slice ad1093 l1092.length cp1094] :: F) ho995 ⟨0, xa.1, xa.2.1, xa.2.2.1, xa.2.2.2, adxa_1, cpxa_1, adxa_2, cpxa_2, adxa_3, cpxa_3, rfl, ⟨rfl, rfl, rfl, rfl, rfl, trivial⟩, (Hp.le_refl _), fxa_1, fxa_2, fxa_3, rfl⟩ ?_
            rintro s ρ K1081 _ r1185 ⟨i1082, i1083, l1084, l1088, l1092, ad1085, cp1086, ad1089, cp1090, ad1093, cp1094, rfl, hf1183, hk1184, f1087, f1091, f1095, rfl⟩ h1182
            obtain ⟨ρ, rfl⟩ := hf1183.ex
            refine CJ.seq ?_
            refine CJ.region ?_
            refine J.val (v := .bool (decide (i1082 < (((xa.2.1.length : Nat) : Int))))) rfl rfl (V.lss rfl rfl) ?_
            refine J.nil ?_
            refine CJ.seq ?_
            refine CJ.cond rfl (fun hc1186 => ?_) (fun hc1186 => ?_)
            · have h1182 := ct hc1186 h1182
              refine CJ.skip ?_
              refine CJ.seq ?_
              refine CJ.block ?_
              refine CJ.seq ?_
              refine CJ.region ?_
              obtain ⟨x1187, hx1188, h1182⟩ := ob h1182
              obtain ⟨p1189, p1190, p1191⟩ := getI_some hx1188
              obtain ⟨b1192, o1193, e1194, a1195⟩ := ((fxa_1.mono hk1184)).at p1190
              refine J.val rfl rfl (V.iad Try.underlying55 sz98 rfl e1194 rfl p1189 p1191) ?_
              refine J.val (v := .agg #[.int .i64 x1187.1, .int .i64 x1187.2]) rfl rfl (V.ld rfl (Ld.aggK (cs := [.int .i64 x1187.1, .int .i64 x1187.2]) Try.underlying98 sz98 rfl ⟨((a1195).fst).int, (((a1195).snd).one).int, trivial⟩ (Hp.le_refl _))) ?_
              refine J.op rfl (A.alloc (cs := [.int .i64 0, .int .i64 0]) inf98 rfl) ?_
              rintro _ _ _ ⟨b1196, rfl, rfl, rfl⟩
              refine J.op rfl (A.store (v := .agg #[.int .i64 x1187.1, .int .i64 x1187.2]) (cs' := [.int .i64 x1187.1, .int .i64 x1187.2]) sz98 rfl rfl rfl rfl rfl rfl) ?_
              rintro _ _ _ ⟨rfl, rfl, rfl⟩
              refine J.nil ?_
              refine CJ.seq ?_
              refine CJ.region ?_
              refine J.val (v := .func (.func 71) #[] #[.pointer (some ⟨b710, 0, none⟩)]) rfl rfl (V.mv rfl) ?_
              refine J.val rfl rfl (V.fad Try.underlying98 rfl nz3 rfl) ?_
              refine J.val (v := .int .i64 x1187.1) rfl rfl (V.ld rfl (Ld.sc sc3 (Rd.cl 0 rfl rfl))) ?_
              obtain ⟨r1197, hr1198, h1182⟩ := ob h1182
              refine J.front 1 rfl ?_
              refine J.op rfl (A.call (L1 := [Cl b710 57 [.int .i64 i1083, .slice ad1085 l1084.length cp1086, .slice ad1089 l1088.length cp1090, .slice ad1093 l1092.length cp1094]]) Try.call71 rfl (sig_Check_1_ip0_ikkk_ok f1087 f1091 f1095 hr1198) rfl rfl) ?_
              rintro _ K1214 _ ⟨v1213, _, rfl, ⟨t1199, i1200, l1201, l1202, l1203, ad1204, cp1205, ad1206, cp1207, ad1208, cp1209, rfl, rfl, f1210, f1211, f1212, rfl⟩, hK1215, rfl⟩
              refine J.val (v := .bool (!t1199)) rfl rfl (V.not rfl) ?_
              refine J.val (v := .bool (!t1199)) rfl rfl (V.mv rfl) ?_
              rcases bt (!t1199) with hc1236 | hc1236
              · have h1182 := ct hc1236 h1182
                refine J.skip rfl rfl rfl rfl hc1236 ?_
                refine J.skip rfl rfl rfl rfl hc1236 ?_
                refine J.skip rfl rfl rfl rfl hc1236 ?_
                refine J.skip rfl rfl rfl rfl hc1236 ?_
                refine J.skip rfl rfl rfl rfl hc1236 ?_
                refine J.val (v := .bool true) rfl rfl (V.pickT rfl hc1236 rfl) ?_
                refine J.nil ?_
                refine CJ.condK (b := true) rfl rfl ?_
                refine CJ.seq ?_
                refine CJ.region ?_
                refine J.val (v := .int .i64 7) rfl rfl (V.as rfl) ?_
                refine J.nil ?_
                refine CJ.ret ?_
                have e := Option.some.inj h1182
                subst e
                refine ⟨nofun, fun e => ?_⟩
                subst e
                refine .inr ⟨nofun, ?_⟩
                have e := Option.some.inj h
                subst e
                exact ⟨_, [], Res.one rfl rfl, ⟨7, rfl, rfl, rfl⟩, (hk1184.trans hK1215), fun w hs => (Sep.dropAt 0 rfl (Sep.dropAt 0 rfl hs))⟩
              · have h1182 := cf hc1236 h1182
                refine J.run rfl rfl rfl hc1236 ?_
                refine J.val (v := .func (.func 71) #[] #[.pointer (some ⟨b710, 0, none⟩)]) rfl rfl (V.mv rfl) ?_
                refine J.run rfl rfl rfl hc1236 ?_
                refine J.val rfl rfl (V.fad Try.underlying98 rfl nz3 rfl) ?_
                refine J.run rfl rfl rfl hc1236 ?_
                refine J.val (v := .int .i64 x1187.2) rfl rfl (V.ld rfl (Ld.sc sc3 (Rd.cl 1 rfl rfl))) ?_
                refine J.run rfl rfl rfl hc1236 ?_
                obtain ⟨r1237, hr1238, h1182⟩ := ob h1182
                refine J.op rfl (A.call (L1 := [Cl b710 57 [.int .i64 i1200, .slice ad1204 l1201.length cp1205, .slice ad1206 l1202.length cp1207, .slice ad1208 l1203.length cp1209]]) Try.call71 rfl (sig_Check_1_ip0_ikkk_ok f1210 f1211 f1212 hr1238) rfl rfl) ?_
                rintro _ K1254 _ ⟨v1253, _, rfl, ⟨t1239, i1240, l1241, l1242, l1243, ad1244, cp1245, ad1246, cp1247, ad1248, cp1249, rfl, rfl, f1250, f1251, f1252, rfl⟩, hK1255, rfl⟩
                refine J.run rfl rfl rfl hc1236 ?_
                refine J.val (v := .bool (!t1239)) rfl rfl (V.not rfl) ?_
                refine J.val (v := .bool (!t1239)) rfl rfl (V.pickF rfl hc1236 rfl) ?_
                refine J.nil ?_
                refine CJ.cond rfl (fun hc1256 => ?_) (fun hc1256 => ?_)
                · have h1182 := ct hc1256 h1182
                  refine CJ.seq ?_
                  refine CJ.region ?_
                  refine J.val (v := .int .i64 7) rfl rfl (V.as rfl) ?_
                  refine J.nil ?_
                  refine CJ.ret ?_
                  have e := Option.some.inj h1182
                  subst e
                  refine ⟨nofun, fun e => ?_⟩
                  subst e
                  refine .inr ⟨nofun, ?_⟩
                  have e := Option.some.inj h
                  subst e
                  exact ⟨_, [], Res.one rfl rfl, ⟨7, rfl, rfl, rfl⟩, ((hk1184.trans hK1215).trans hK1255), fun w hs => (Sep.dropAt 0 rfl (Sep.dropAt 0 rfl hs))⟩
                · have h1182 := cf hc1256 h1182
                  refine CJ.skip ?_
                  refine CJ.region ?_
                  refine J.val (v := .int .i64 (IntKind.wrap .i64 (i1082 + 1))) rfl rfl (V.add rfl rfl) ?_
                  refine J.val (v := .int .i64 (IntKind.wrap .i64 (i1082 + 1))) rfl rfl (V.mv rfl) ?_
                  refine J.dropAt 1 rfl ?_
                  refine J.nil ?_
                  have e := Option.some.inj h1182
                  subst e
                  exact ⟨rfl, ⟨IntKind.wrap .i64 (i1082 + 1), i1240, l1241, l1242, l1243, ad1244, cp1245, ad1246, cp1247, ad1248, cp1249, rfl, ⟨rfl, rfl, rfl, rfl, rfl, trivial⟩, ((hk1184.trans hK1215).trans hK1255), f1250, f1251, f1252, rfl⟩⟩
            · have h1182 := cf hc1186 h1182
              refine CJ.exit ?_
              have e := Option.some.inj h1182
              subst e
              refine ⟨nofun, fun e => ?_⟩
              subst e
              exact .inl ⟨rfl, _, rfl, ⟨i1083, l1084, l1088, l1092, ad1085, cp1086, ad1089, cp1090, ad1093, cp1094, rfl, ⟨rfl, trivial⟩, hk1184, f1087, f1091, f1095, rfl⟩⟩
          · rintro s ρ K980 _ ho1257 ⟨i981, l982, l986, l990, ad983, cp984, ad987, cp988, ad991, cp992, rfl, hf1258, hk1259, f985, f989, f993, rfl⟩
            subst ho1257
            obtain ⟨ρ, rfl⟩ := hf1258.ex
            refine PJ.done ?_
            refine CJ.seq ?_
            refine CJ.seq ?_
            refine CJ.region ?_
            refine J.val rfl rfl (V.fad Try.underlying57 rfl nz25 rfl) ?_
            refine J.val (v := .slice ad987 l986.length cp988) rfl rfl (V.ld rfl (Ld.sc sc25 (Rd.cl 0 rfl rfl))) ?_
            refine J.val (v := .int .i64 (((l986.length : Nat) : Int))) rfl rfl (V.len Try.underlying25 rfl) ?_
            refine J.val (v := .int .i64 0) rfl rfl (V.mv rfl) ?_
            refine J.nil ?_
            obtain ⟨o1333, ho1334, h⟩ := ob h
            refine CJ.joinN (o := o1333) (fun s ρ K' L' => () = s ∧ Fits [(1, .pointer (some ⟨b710, 0, none⟩))] ρ ∧ K980 = K' ∧ L' = Cl b710 57 [.int .i64 i981, .slice ad983 l982.length cp984, .slice ad987 l986.length cp988, .slice ad991 l990.length cp992] :: F) ?_ ?_
            · skip
              refine CJ.block ?_
              refine CJ.loop (fun s ρ K' L' => ∃ (i1358 : Int), i1358 = s ∧ Fits [(1, .pointer (some ⟨b710, 0, none⟩)), (49, .slice ad987 l986.length cp988), (50, .int .i64 (((l986.length : Nat) : Int))), (51, .int .i64 i1358)] ρ ∧ K980 = K' ∧ L' = Cl b710 57 [.int .i64 i981, .slice ad983 l982.length cp984, .slice ad987 l986.length cp988, .slice ad991 l990.length cp992] :: F) ho1334 ⟨0, rfl, ⟨rfl, rfl, rfl, rfl, trivial⟩, rfl, rfl⟩ ?_
              rintro s ρ _ _ r1385 ⟨i1358, rfl, hf1383, rfl, rfl⟩ h1382
              obtain ⟨ρ, rfl⟩ := hf1383.ex
              refine CJ.seq ?_
              refine CJ.region ?_
              refine J.val (v := .bool (decide (i1358 < (((l986.length : Nat) : Int))))) rfl rfl (V.lss rfl rfl) ?_
              refine J.nil ?_
              refine CJ.seq ?_
              refine CJ.cond rfl (fun hc1386 => ?_) (fun hc1386 => ?_)
              · have h1382 := ct hc1386 h1382
                refine CJ.skip ?_
                refine CJ.seq ?_
                refine CJ.block ?_
                refine CJ.seq ?_
                refine CJ.region ?_
                obtain ⟨x1387, hx1388, h1382⟩ := ob h1382
                obtain ⟨p1389, p1390, p1391⟩ := getI_some hx1388
                obtain ⟨b1392, o1393, e1394, a1395⟩ := (f989).at p1390
                refine J.val rfl rfl (V.iad Try.underlying25 sz28 rfl e1394 rfl p1389 p1391) ?_
                obtain ⟨ad1396, cp1397, c1398, f1399⟩ := ((a1395).one).sl
                refine J.val (v := .agg #[.slice ad1396 x1387.length cp1397]) rfl rfl (V.ld rfl (Ld.aggK (cs := [.slice ad1396 x1387.length cp1397]) Try.underlying28 sz28 rfl ⟨c1398, trivial⟩ (Hp.le_refl _))) ?_
                refine J.op rfl (A.alloc (cs := [.slice none 0 0]) inf28 rfl) ?_
                rintro _ _ _ ⟨b1400, rfl, rfl, rfl⟩
                refine J.op rfl (A.store (v := .agg #[.slice ad1396 x1387.length cp1397]) (cs' := [.slice ad1396 x1387.length cp1397]) sz28 rfl rfl rfl rfl rfl rfl) ?_
                rintro _ _ _ ⟨rfl, rfl, rfl⟩
                refine J.nil ?_
                refine CJ.seq ?_
                refine CJ.region ?_
                refine J.val (v := .agg #[.slice ad1396 x1387.length cp1397]) rfl rfl (V.ld rfl (Ld.agg (cs := [.slice ad1396 x1387.length cp1397]) Try.underlying28 sz28 rfl (Rd.cls 0 0 rfl rfl))) ?_
                refine J.val rfl rfl (V.fad Try.underlying57 rfl nz3 rfl) ?_
                refine J.val (v := .int .i64 i981) rfl rfl (V.ld rfl (Ld.sc sc3 (Rd.cl 1 rfl rfl))) ?_
                obtain ⟨r1401, hr1402, h1382⟩ := ob h1382
                refine J.op rfl (A.call (L1 := []) Try.call72 rfl (row_Check_ok f1399 hr1402) rfl rfl) ?_
                rintro _ _ _ ⟨v1404, _, rfl, ⟨⟨i1403, rfl, rfl, rfl⟩, rfl⟩, _, rfl⟩
                refine J.val (v := .int .i64 i1403) rfl rfl (V.as rfl) ?_
                refine J.nil ?_
                refine CJ.seq ?_
                refine CJ.region ?_
                refine J.val (v := .int .i64 i1403) rfl rfl (V.mv rfl) ?_
                refine J.val (v := .bool (!decide (i1403 = 0))) rfl rfl (V.neq rfl rfl) ?_
                refine J.nil ?_
                refine CJ.cond rfl (fun hc1407 => ?_) (fun hc1407 => ?_)
                · have h1382 := ct hc1407 h1382
                  refine CJ.seq ?_
                  refine CJ.region ?_
                  refine J.val (v := .int .i64 i1403) rfl rfl (V.mv rfl) ?_
                  refine J.val (v := .int .i64 i1403) rfl rfl (V.as rfl) ?_
                  refine J.nil ?_
                  refine CJ.ret ?_
                  have e := Option.some.inj h1382
                  subst e
                  refine ⟨nofun, fun e => ?_⟩
                  subst e
                  refine .inr ⟨nofun, ?_⟩
                  have e := Option.some.inj h
                  subst e
                  exact ⟨_, [], Res.one rfl rfl, ⟨i1403, rfl, rfl, rfl⟩, hk1259, fun w hs => (Sep.dropAt 0 rfl (Sep.dropAt 0 rfl hs))⟩
                · have h1382 := cf hc1407 h1382
                  refine CJ.skip ?_
                  refine CJ.region ?_
                  refine J.val (v := .int .i64 (IntKind.wrap .i64 (i1358 + 1))) rfl rfl (V.add rfl rfl) ?_
                  refine J.val (v := .int .i64 (IntKind.wrap .i64 (i1358 + 1))) rfl rfl (V.mv rfl) ?_
                  refine J.dropAt 0 rfl ?_
                  refine J.nil ?_
                  have e := Option.some.inj h1382
                  subst e
                  exact ⟨rfl, ⟨IntKind.wrap .i64 (i1358 + 1), rfl, ⟨rfl, rfl, rfl, rfl, trivial⟩, rfl, rfl⟩⟩
              · have h1382 := cf hc1386 h1382
                refine CJ.exit ?_
                have e := Option.some.inj h1382
                subst e
                refine ⟨nofun, fun e => ?_⟩
                subst e
                exact .inl ⟨rfl, _, rfl, ⟨rfl, ⟨rfl, trivial⟩, rfl, rfl⟩⟩
            · rintro s ρ _ _ ho1408 ⟨rfl, hf1409, rfl, rfl⟩
              subst ho1408
              obtain ⟨ρ, rfl⟩ := hf1409.ex
              refine PJ.done ?_
              refine CJ.seq ?_
              refine CJ.region ?_
              refine J.val rfl rfl (V.fad Try.underlying57 rfl nz28 rfl) ?_
              refine J.val (v := .agg #[.slice ad991 l990.length cp992]) rfl rfl (V.ld rfl (Ld.agg (cs := [.slice ad991 l990.length cp992]) Try.underlying28 sz28 rfl (Rd.cls 0 3 rfl rfl))) ?_
              refine J.val rfl rfl (V.fad Try.underlying57 rfl nz3 rfl) ?_
              refine J.val (v := .int .i64 i981) rfl rfl (V.ld rfl (Ld.sc sc3 (Rd.cl 0 rfl rfl))) ?_
              obtain ⟨r1411, hr1412, h⟩ := ob h
              refine J.op rfl (A.call (L1 := []) Try.call72 rfl (row_Check_ok f993 hr1412) rfl rfl) ?_
              rintro _ _ _ ⟨v1414, _, rfl, ⟨⟨i1413, rfl, rfl, rfl⟩, rfl⟩, _, rfl⟩
              refine J.val (v := .int .i64 i1413) rfl rfl (V.as rfl) ?_
              refine J.nil ?_
              refine CJ.ret ?_
              have e := Option.some.inj h
              subst e
              exact ⟨_, [], Res.one rfl rfl, ⟨i1413, rfl, rfl, rfl⟩, hk1259, fun w hs => (Sep.dropAt 0 rfl hs)⟩
noncomputable def fn_sig_callable_l1 (xa : (Int × (List (Int × Int)) × (List (List (Int × Bool))) × (List (Int × Bool)))) (xc : (List (List (Int × Bool)))) : Int → Option (Int ⊕ (Unit ⊕ Int)) := fun (i605 : Int) => cond (decide (i605 < (((xa.2.2.1.length : Nat) : Int)))) ((getI xa.2.2.1 i605).bind fun x666 => (getI xc i605).bind fun x699 => (fn_row_Shape x699 x666).bind fun t714 => cond (!t714) (some (.inr ((.inr (8))))) (some (.inl (IntKind.wrap .i64 (i605 + 1))))) (some (.inr ((.inl ()))))
noncomputable def fn_sig_callable (xa : (Int × (List (Int × Int)) × (List (List (Int × Bool))) × (List (Int × Bool)))) (xb : (List Int)) (xc : (List (List (Int × Bool)))) (xd : (List (Int × Bool))) : Option Int :=
  (fn_sig_Check (xa.1, xa.2.1, xa.2.2.1, xa.2.2.2)).bind fun i370 => cond (!decide (i370 = 0)) (some (i370)) (cond ((!decide ((((xb.length : Nat) : Int)) = xa.1)) || (!decide ((((xc.length : Nat) : Int)) = (((xa.2.2.1.length : Nat) : Int))))) (some (2)) ((loop (fn_sig_callable_l1 xa xc) 0 : Option (Unit ⊕ Int)).bind fun o => match o with | .inr r => some r | .inl () => (fn_row_Shape xd xa.2.2.2).bind fun t724 => cond (!t724) (some (8)) (some (0))))
set_option maxRecDepth 100000 in
set_option maxHeartbeats 4000000 in
theorem sig_callable_ok {K : Hp} {xa : (Int × (List (Int × Int)) × (List (List (Int × Bool))) × (List (Int × Bool)))} {xb : (List Int)} {xc : (List (List (Int × Bool)))} {xd : (List (Int × Bool))} {adxa_1 : Option Addr} {cpxa_1 : Nat} {adxa_2 : Option Addr} {cpxa_2 : Nat} {adxa_3 : Option Addr} {cpxa_3 : Nat} {adxb_0 : Option Addr} {cpxb_0 : Nat} {adxc_0 : Option Addr} {cpxc_0 : Nat} {adxd_0 : Option Addr} {cpxd_0 : Nat} (fxa_1 : Is K (.sl (.cons (.int .i64) (.one (.int .i64)))) [.slice adxa_1 xa.2.1.length cpxa_1] xa.2.1) (fxa_2 : Is K (.sl (.one (.sl (.cons (.int .i64) (.one .bool))))) [.slice adxa_2 xa.2.2.1.length cpxa_2] xa.2.2.1) (fxa_3 : Is K (.sl (.cons (.int .i64) (.one .bool))) [.slice adxa_3 xa.2.2.2.length cpxa_3] xa.2.2.2) (fxb_0 : Is K (.sl (.int .i64)) [.slice adxb_0 xb.length cpxb_0] xb) (fxc_0 : Is K (.sl (.one (.sl (.cons (.int .i64) (.one .bool))))) [.slice adxc_0 xc.length cpxc_0] xc) (fxd_0 : Is K (.sl (.cons (.int .i64) (.one .bool))) [.slice adxd_0 xd.length cpxd_0] xd) {r : Int} (h : fn_sig_callable xa xb xc xd = some r) :
    Tr Try.prog 49 #[.agg #[.int .i64 xa.1, .slice adxa_1 xa.2.1.length cpxa_1, .slice adxa_2 xa.2.2.1.length cpxa_2, .slice adxa_3 xa.2.2.2.length cpxa_3], .slice adxb_0 xb.length cpxb_0, .slice adxc_0 xc.length cpxc_0, .agg #[.slice adxd_0 xd.length cpxd_0]] K [] (fun v K' L' => (∃ (i365 : Int), i365 = r ∧ .int .i64 i365 = v ∧ L' = []) ∧ K = K') := by
  refine Tr.k ?_
  refine Tr.of Try.func49 rfl Try.ntmps49 rfl (fun E F => ?_)
  unfold fn_sig_callable at h
  refine CJ.seq ?_
  refine CJ.region ?_
  refine J.op rfl (A.box (v := .agg #[.int .i64 xa.1, .slice adxa_1 xa.2.1.length cpxa_1, .slice adxa_2 xa.2.2.1.length cpxa_2, .slice adxa_3 xa.2.2.2.length cpxa_3]) (cs := [.int .i64 xa.1, .slice adxa_1 xa.2.1.length cpxa_1, .slice adxa_2 xa.2.2.1.length cpxa_2, .slice adxa_3 xa.2.2.2.length cpxa_3]) rfl rfl) ?_
  rintro _ _ _ ⟨b366, rfl, rfl, rfl⟩
  refine J.op rfl (A.box (v := .agg #[.slice adxd_0 xd.length cpxd_0]) (cs := [.slice adxd_0 xd.length cpxd_0]) rfl rfl) ?_
  rintro _ _ _ ⟨b367, rfl, rfl, rfl⟩
  refine J.val (v := .int .i64 0) rfl rfl (V.as rfl) ?_
  refine J.nil ?_
  refine CJ.seq ?_
  refine CJ.seq ?_
  refine CJ.region ?_
  refine J.val (v := .agg #[.int .i64 xa.1, .slice adxa_1 xa.2.1.length cpxa_1, .slice adxa_2 xa.2.2.1.length cpxa_2, .slice adxa_3 xa.2.2.2.length cpxa_3]) rfl rfl (V.ld rfl (Ld.agg (cs := [.int .i64 xa.1, .slice adxa_1 xa.2.1.length cpxa_1, .slice adxa_2 xa.2.2.1.length cpxa_2, .slice adxa_3 xa.2.2.2.length cpxa_3]) Try.underlying57 sz57 rfl (Rd.cls 1 0 rfl rfl))) ?_
  obtain ⟨r368, hr369, h⟩ := ob h
  refine J.op rfl (A.call (L1 := []) Try.call65 rfl (sig_Check_ok fxa_1 fxa_2 fxa_3 hr369) rfl rfl) ?_
  rintro _ _ _ ⟨v371, _, rfl, ⟨⟨i370, rfl, rfl, rfl⟩, rfl⟩, _, rfl⟩
  refine J.val (v := .int .i64 i370) rfl rfl (V.as rfl) ?_
  refine J.nil ?_
  refine CJ.seq ?_
  refine CJ.region ?_
  refine J.val (v := .int .i64 i370) rfl rfl (V.mv rfl) ?_
  refine J.val (v := .bool (!decide (i370 = 0))) rfl rfl (V.neq rfl rfl) ?_
  refine J.nil ?_
  refine CJ.cond rfl (fun hc374 => ?_) (fun hc374 => ?_)
  · have h := ct hc374 h
    refine CJ.seq ?_
    refine CJ.region ?_
    refine J.val (v := .int .i64 i370) rfl rfl (V.mv rfl) ?_
    refine J.val (v := .int .i64 i370) rfl rfl (V.as rfl) ?_
    refine J.nil ?_
    refine CJ.ret ?_
    have e := Option.some.inj h
    subst e
    exact ⟨_, [], Res.one rfl rfl, ⟨i370, rfl, rfl, rfl⟩, (Hp.le_refl _), fun w hs => (Sep.dropAt 0 rfl (Sep.dropAt 0 rfl hs))⟩
  · have h := cf hc374 h
    refine CJ.skip ?_
    refine CJ.seq ?_
    refine CJ.seq ?_
    refine CJ.region ?_
    refine J.val (v := .slice adxb_0 xb.length cpxb_0) rfl rfl (V.mv rfl) ?_
    refine J.val (v := .int .i64 (((xb.length : Nat) : Int))) rfl rfl (V.len Try.underlying22 rfl) ?_
    refine J.val rfl rfl (V.fad Try.underlying57 rfl nz3 rfl) ?_
    refine J.val (v := .int .i64 xa.1) rfl rfl (V.ld rfl (Ld.sc sc3 (Rd.cl 1 rfl rfl))) ?_
    refine J.val (v := .bool (!decide ((((xb.length : Nat) : Int)) = xa.1))) rfl rfl (V.neq rfl rfl) ?_
    refine J.val (v := .bool (!decide ((((xb.length : Nat) : Int)) = xa.1))) rfl rfl (V.mv rfl) ?_
    refine J.cut 7 ?_
    refine @J.meet _ _ _ _ _ _ _ _ _ _ (fun ρ K' L' => Fits [(29, .bool ((!decide ((((xb.length : Nat) : Int)) = xa.1)) || (!decide ((((xc.length : Nat) : Int)) = (((xa.2.2.1.length : Nat) : Int)))))), (2, .slice adxc_0 xc.length cpxc_0), (4, .pointer (some ⟨b366, 0, none⟩)), (7, .pointer (some ⟨b367, 0, none⟩))] ρ ∧ K = K' ∧ L' = Cl b367 28 [.slice adxd_0 xd.length cpxd_0] :: Cl b366 57 [.int .i64 xa.1, .slice adxa_1 xa.2.1.length cpxa_1, .slice adxa_2 xa.2.2.1.length cpxa_2, .slice adxa_3 xa.2.2.2.length cpxa_3] :: F) ?_ ?_
    · skip
      rcases bt (!decide ((((xb.length : Nat) : Int)) = xa.1)) with hc377 | hc377
      · skip
        refine J.skip rfl rfl rfl rfl hc377 ?_
        refine J.skip rfl rfl rfl rfl hc377 ?_
        refine J.skip rfl rfl rfl rfl hc377 ?_
        refine J.skip rfl rfl rfl rfl hc377 ?_
        refine J.skip rfl rfl rfl rfl hc377 ?_
        refine J.skip rfl rfl rfl rfl hc377 ?_
        refine J.val (v := .bool true) rfl rfl (V.pickT rfl hc377 rfl) ?_
        refine J.nil ?_
        exact ⟨rfl, ⟨(by simp only [hc377]; rfl), rfl, rfl, rfl, trivial⟩, rfl, rfl⟩
      · skip
        refine J.run rfl rfl rfl hc377 ?_
        refine J.val (v := .slice adxc_0 xc.length cpxc_0) rfl rfl (V.mv rfl) ?_
        refine J.run rfl rfl rfl hc377 ?_
        refine J.val (v := .int .i64 (((xc.length : Nat) : Int))) rfl rfl (V.len Try.underlying25 rfl) ?_
        refine J.run rfl rfl rfl hc377 ?_
        refine J.val rfl rfl (V.fad Try.underlying57 rfl nz25 rfl) ?_
        refine J.run rfl rfl rfl hc377 ?_
        refine J.val (v := .slice adxa_2 xa.2.2.1.length cpxa_2) rfl rfl (V.ld rfl (Ld.sc sc25 (Rd.cl 1 rfl rfl))) ?_
        refine J.run rfl rfl rfl hc377 ?_
        refine J.val (v := .int .i64 (((xa.2.2.1.length : Nat) : Int))) rfl rfl (V.len Try.underlying25 rfl) ?_
        refine J.run rfl rfl rfl hc377 ?_
        refine J.val (v := .bool (!decide ((((xc.length : Nat) : Int)) = (((xa.2.2.1.length : Nat) : Int))))) rfl rfl (V.neq rfl rfl) ?_
        refine J.val (v := .bool (!decide ((((xc.length : Nat) : Int)) = (((xa.2.2.1.length : Nat) : Int))))) rfl rfl (V.pickF rfl hc377 rfl) ?_
        refine J.nil ?_
        exact ⟨rfl, ⟨(by simp only [hc377]; rfl), rfl, rfl, rfl, trivial⟩, rfl, rfl⟩
    · rintro ρ _ _ ⟨hf, rfl, rfl⟩
      obtain ⟨ρ, rfl⟩ := hf.ex
      refine J.nil ?_
      refine CJ.cond rfl (fun hc378 => ?_) (fun hc378 => ?_)
      · have h := ct hc378 h
        refine CJ.seq ?_
        refine CJ.region ?_
        refine J.val (v := .int .i64 2) rfl rfl (V.as rfl) ?_
        refine J.nil ?_
        refine CJ.ret ?_
        have e := Option.some.inj h
        subst e
        exact ⟨_, [], Res.one rfl rfl, ⟨2, rfl, rfl, rfl⟩, (Hp.le_refl _), fun w hs => (Sep.dropAt 0 rfl (Sep.dropAt 0 rfl hs))⟩
      · have h := cf hc378 h
        refine CJ.skip ?_
        refine CJ.seq ?_
        refine CJ.seq ?_
        refine CJ.region ?_
        refine J.val rfl rfl (V.fad Try.underlying57 rfl nz25 rfl) ?_
        refine J.val (v := .slice adxa_2 xa.2.2.1.length cpxa_2) rfl rfl (V.ld rfl (Ld.sc sc25 (Rd.cl 1 rfl rfl))) ?_
        refine J.val (v := .int .i64 (((xa.2.2.1.length : Nat) : Int))) rfl rfl (V.len Try.underlying25 rfl) ?_
        refine J.val (v := .int .i64 0) rfl rfl (V.mv rfl) ?_
        refine J.nil ?_
        obtain ⟨o548, ho549, h⟩ := ob h
        refine CJ.joinN (o := o548) (fun s ρ K' L' => () = s ∧ Fits [(4, .pointer (some ⟨b366, 0, none⟩)), (7, .pointer (some ⟨b367, 0, none⟩))] ρ ∧ K = K' ∧ L' = Cl b366 57 [.int .i64 xa.1, .slice adxa_1 xa.2.1.length cpxa_1, .slice adxa_2 xa.2.2.1.length cpxa_2, .slice adxa_3 xa.2.2.2.length cpxa_3] :: Cl b367 28 [.slice adxd_0 xd.length cpxd_0] :: F) ?_ ?_
        · skip
          refine CJ.block ?_
          refine CJ.front 1 rfl ?_
          refine CJ.loop (fun s ρ K' L' => ∃ (i605 : Int), i605 = s ∧ Fits [(2, .slice adxc_0 xc.length cpxc_0), (4, .pointer (some ⟨b366, 0, none⟩)), (7, .pointer (some ⟨b367, 0, none⟩)), (31, .slice adxa_2 xa.2.2.1.length cpxa_2), (32, .int .i64 (((xa.2.2.1.length : Nat) : Int))), (33, .int .i64 i605)] ρ ∧ K = K' ∧ L' = Cl b366 57 [.int .i64 xa.1, .slice adxa_1 xa.2.1.length cpxa_1, .slice adxa_2 xa.2.2.1.length cpxa_2, .slice adxa_3 xa.2.2.2.length cpxa_3] :: Cl b367 28 [.slice adxd_0 xd.length cpxd_0] :: F) ho549 ⟨0, rfl, ⟨rfl, rfl, rfl, rfl, rfl, rfl, trivial⟩, rfl, rfl⟩ ?_
          rintro s ρ _ _ r664 ⟨i605, rfl, hf662, rfl, rfl⟩ h661
          obtain ⟨ρ, rfl⟩ := hf662.ex
          refine CJ.seq ?_
          refine CJ.region ?_
          refine J.val (v := .bool (decide (i605 < (((xa.2.2.1.length : Nat) : Int))))) rfl rfl (V.lss rfl rfl) ?_
          refine J.nil ?_
          refine CJ.seq ?_
          refine CJ.cond rfl (fun hc665 => ?_) (fun hc665 => ?_)
          · have h661 := ct hc665 h661
            refine CJ.skip ?_
            refine CJ.seq ?_
            refine CJ.block ?_
            refine CJ.seq ?_
            refine CJ.region ?_
            refine J.val (v := .int .i64 i605) rfl rfl (V.mv rfl) ?_
            obtain ⟨x666, hx667, h661⟩ := ob h661
            obtain ⟨p668, p669, p670⟩ := getI_some hx667
            obtain ⟨b671, o672, e673, a674⟩ := (fxa_2).at p669
            refine J.val rfl rfl (V.iad Try.underlying25 sz28 rfl e673 rfl p668 p670) ?_
            obtain ⟨ad675, cp676, c677, f678⟩ := ((a674).one).sl
            refine J.val (v := .agg #[.slice ad675 x666.length cp676]) rfl rfl (V.ld rfl (Ld.aggK (cs := [.slice ad675 x666.length cp676]) Try.underlying28 sz28 rfl ⟨c677, trivial⟩ (Hp.le_refl _))) ?_
            refine J.op rfl (A.alloc (cs := [.slice none 0 0]) inf28 rfl) ?_
            rintro _ _ _ ⟨b679, rfl, rfl, rfl⟩
            refine J.val (v := .int .i64 i605) rfl rfl (V.as rfl) ?_
            refine J.op rfl (A.store (v := .agg #[.slice ad675 x666.length cp676]) (cs' := [.slice ad675 x666.length cp676]) sz28 rfl rfl rfl rfl rfl rfl) ?_
            rintro _ _ _ ⟨rfl, rfl, rfl⟩
            refine J.nil ?_
            refine CJ.seq ?_
            refine CJ.mix [Cl b679 28 [.slice ad675 x666.length cp676], Cl b366 57 [.int .i64 xa.1, .slice adxa_1 xa.2.1.length cpxa_1, .slice adxa_2 xa.2.2.1.length cpxa_2, .slice adxa_3 xa.2.2.2.length cpxa_3], Cl b367 28 [.slice adxd_0 xd.length cpxd_0]] [([0, 1, 2, 3, 4], 5)] [6] [] mixO (by decide +kernel) ⟨0, rfl, 0, rfl, 0, rfl, trivial⟩ rfl rfl rfl ?_
            refine JM.cons ?_
            refine JQ.val (v := .slice adxc_0 xc.length cpxc_0) rfl rfl (V.mv rfl) ?_
            refine JQ.val (v := .int .i64 i605) rfl rfl (V.mv rfl) ?_
            obtain ⟨x699, hx700, h661⟩ := ob h661
            obtain ⟨p701, p702, p703⟩ := getI_some hx700
            obtain ⟨b704, o705, e706, a707⟩ := (fxc_0).at p702
            refine JQ.val rfl rfl (V.iad Try.underlying25 sz28 rfl e706 rfl p701 p703) ?_
            obtain ⟨ad708, cp709, c710, f711⟩ := ((a707).one).sl
            refine JQ.val (v := .agg #[.slice ad708 x699.length cp709]) rfl rfl (V.ld rfl (Ld.aggK (cs := [.slice ad708 x699.length cp709]) Try.underlying28 sz28 rfl ⟨c710, trivial⟩ (Hp.le_refl _))) ?_
            refine JQ.val (v := .agg #[.slice ad675 x666.length cp676]) rfl rfl (V.ld rfl (Ld.agg (cs := [.slice ad675 x666.length cp676]) Try.underlying28 sz28 rfl (Rd.cls 0 0 rfl rfl))) ?_
            refine JQ.nil ?_
            obtain ⟨r712, hr713, h661⟩ := ob h661
            refine JA.op rfl (A.call (L1 := []) Try.call47 rfl (row_Shape_ok f711 f678 hr713) rfl rfl) ?_
            rintro _ _ _ ⟨v715, _, rfl, ⟨⟨t714, rfl, rfl, rfl⟩, rfl⟩, _, rfl⟩
            refine ⟨fun w hs => Hold.sub (Hp.le_refl _) ⟨0, rfl, 0, rfl, 0, rfl, trivial⟩ hs, ?_⟩
            refine JM.nil ?_
            refine JQ.val (v := .bool (!t714)) rfl rfl (V.not rfl) ?_
            refine JQ.nil ?_
            refine J.nil ?_
            refine CJ.cond rfl (fun hc718 => ?_) (fun hc718 => ?_)
            · have h661 := ct hc718 h661
              refine CJ.seq ?_
              refine CJ.region ?_
              refine J.val (v := .int .i64 8) rfl rfl (V.as rfl) ?_
              refine J.nil ?_
              refine CJ.ret ?_
              have e := Option.some.inj h661
              subst e
              refine ⟨nofun, fun e => ?_⟩
              subst e
              refine .inr ⟨nofun, ?_⟩
              have e := Option.some.inj h
              subst e
              exact ⟨_, [], Res.one rfl rfl, ⟨8, rfl, rfl, rfl⟩, (Hp.le_refl _), fun w hs => (Sep.dropAt 0 rfl (Sep.dropAt 0 rfl (Sep.dropAt 0 rfl hs)))⟩
            · have h661 := cf hc718 h661
              refine CJ.skip ?_
              refine CJ.region ?_
              refine J.val (v := .int .i64 (IntKind.wrap .i64 (i605 + 1))) rfl rfl (V.add rfl rfl) ?_
              refine J.val (v := .int .i64 (IntKind.wrap .i64 (i605 + 1))) rfl rfl (V.mv rfl) ?_
              refine J.dropAt 0 rfl ?_
              refine J.nil ?_
              have e := Option.some.inj h661
              subst e
              exact ⟨rfl, ⟨IntKind.wrap .i64 (i605 + 1), rfl, ⟨rfl, rfl, rfl, rfl, rfl, rfl, trivial⟩, rfl, rfl⟩⟩
          · have h661 := cf hc665 h661
            refine CJ.exit ?_
            have e := Option.some.inj h661
            subst e
            refine ⟨nofun, fun e => ?_⟩
            subst e
            exact .inl ⟨rfl, _, rfl, ⟨rfl, ⟨rfl, rfl, trivial⟩, rfl, rfl⟩⟩
        · rintro s ρ _ _ ho719 ⟨rfl, hf720, rfl, rfl⟩
          subst ho719
          obtain ⟨ρ, rfl⟩ := hf720.ex
          refine PJ.done ?_
          refine CJ.seq ?_
          refine CJ.seq ?_
          refine CJ.region ?_
          refine J.val (v := .agg #[.slice adxd_0 xd.length cpxd_0]) rfl rfl (V.ld rfl (Ld.agg (cs := [.slice adxd_0 xd.length cpxd_0]) Try.underlying28 sz28 rfl (Rd.cls 1 0 rfl rfl))) ?_
          refine J.val rfl rfl (V.fad Try.underlying57 rfl nz28 rfl) ?_
          refine J.val (v := .agg #[.slice adxa_3 xa.2.2.2.length cpxa_3]) rfl rfl (V.ld rfl (Ld.agg (cs := [.slice adxa_3 xa.2.2.2.length cpxa_3]) Try.underlying28 sz28 rfl (Rd.cls 0 3 rfl rfl))) ?_
          obtain ⟨r722, hr723, h⟩ := ob h
          refine J.op rfl (A.call (L1 := []) Try.call47 rfl (row_Shape_ok fxd_0 fxa_3 hr723) rfl rfl) ?_
          rintro _ _ _ ⟨v725, _, rfl, ⟨⟨t724, rfl, rfl, rfl⟩, rfl⟩, _, rfl⟩
          refine J.val (v := .bool (!t724)) rfl rfl (V.not rfl) ?_
          refine J.nil ?_
          refine CJ.cond rfl (fun hc728 => ?_) (fun hc728 => ?_)
          · have h := ct hc728 h
            refine CJ.seq ?_
            refine CJ.region ?_
            refine J.val (v := .int .i64 8) rfl rfl (V.as rfl) ?_
            refine J.nil ?_
            refine CJ.ret ?_
            have e := Option.some.inj h
            subst e
            exact ⟨_, [], Res.one rfl rfl, ⟨8, rfl, rfl, rfl⟩, (Hp.le_refl _), fun w hs => (Sep.dropAt 0 rfl (Sep.dropAt 0 rfl hs))⟩
          · have h := cf hc728 h
            refine CJ.skip ?_
            refine CJ.seq ?_
            refine CJ.region ?_
            refine J.val (v := .int .i64 0) rfl rfl (V.as rfl) ?_
            refine J.nil ?_
            refine CJ.ret ?_
            have e := Option.some.inj h
            subst e
            exact ⟨_, [], Res.one rfl rfl, ⟨0, rfl, rfl, rfl⟩, (Hp.le_refl _), fun w hs => (Sep.dropAt 0 rfl (Sep.dropAt 0 rfl hs))⟩

noncomputable def fn_slices_Clone_api_Slot_api_Slot (xa : (List (Int × Bool))) : Option ((List (Int × Bool))) :=
  nilb xa (some ([])) ((app (([] : List (Int × Bool))) xa).bind fun z21 => some (z21))
set_option maxRecDepth 100000 in
set_option maxHeartbeats 4000000 in
theorem slices_Clone_api_Slot_api_Slot_ok {K : Hp} {xa : (List (Int × Bool))} {adxa_0 : Option Addr} {cpxa_0 : Nat} (fxa_0 : Is K (.sl (.cons (.int .i64) (.one .bool))) [.slice adxa_0 xa.length cpxa_0] xa) {r : (List (Int × Bool))} (h : fn_slices_Clone_api_Slot_api_Slot xa = some r) :
    Tr Try.prog 75 #[.slice adxa_0 xa.length cpxa_0] K [] (fun v K' L' => (∃ (l11 : (List (Int × Bool))) (ad12 : Option Addr) (cp13 : Nat), l11 = r ∧ .slice ad12 l11.length cp13 = v ∧ L' = [Row Hp.nil 111 (.cons (.int .i64) (.one .bool)) (.slice ad12 l11.length cp13) l11]) ∧ K = K') := by
  refine Tr.k ?_
  refine Tr.of Try.func75 rfl Try.ntmps75 rfl (fun E F => ?_)
  unfold fn_slices_Clone_api_Slot_api_Slot at h
  refine CJ.seq ?_
  refine CJ.region ?_
  refine J.val (v := .slice none 0 0) rfl rfl (V.as rfl) ?_
  refine J.nil ?_
  refine CJ.seq ?_
  refine CJ.seq ?_
  refine CJ.region ?_
  refine J.val (v := .slice adxa_0 xa.length cpxa_0) rfl rfl (V.mv rfl) ?_
  refine J.val (v := .bool adxa_0.isNone) rfl rfl (V.sn_eql Try.underlying26 rfl rfl) ?_
  refine J.nil ?_
  rcases adxa_0 with _ | ad16
  · have h := nilb_nil ((fxa_0).nil_of) h
    refine CJ.condK (b := true) rfl rfl ?_
    refine CJ.seq ?_
    refine CJ.region ?_
    refine J.val (v := .slice none 0 0) rfl rfl (V.as rfl) ?_
    refine J.nil ?_
    refine CJ.by (fun w hs => Sep.rowNil (e := 111) (t := (.cons (.int .i64) (.one .bool))) hs) ?_
    refine CJ.ret ?_
    have e := Option.some.inj h
    subst e
    exact ⟨_, [Row Hp.nil 111 (.cons (.int .i64) (.one .bool)) (.slice none ((([] : List (Int × Bool))).length) 0) (([] : List (Int × Bool)))], Res.one rfl rfl, ⟨[], none, 0, rfl, rfl, rfl⟩, (Hp.le_refl _), fun w hs => hs⟩
  · have h := nilb_cons h
    refine CJ.condK (b := false) rfl rfl ?_
    refine CJ.skip ?_
    refine CJ.seq ?_
    refine CJ.region ?_
    refine J.op rfl (A.lit (K0 := Hp.nil) (ty := (.cons (.int .i64) (.one .bool))) (xs := ([] : List (Int × Bool))) Try.underlying26 inf111 rfl (by decide) rfl rfl rfl rfl rfl (by decide)) ?_
    rintro _ _ _ ⟨b18, rfl, rfl, rfl⟩
    have hn19 : ([] : List (Int × Bool)) ≠ [] → ∃ g, (some ⟨b18, 0, none⟩ : Option Addr) = some ⟨g, 0, none⟩ := fun _ => ⟨b18, rfl⟩
    refine J.val (v := .slice (some ad16) xa.length cpxa_0) rfl rfl (V.mv rfl) ?_
    obtain ⟨z21, hz22, h⟩ := ob h
    refine J.op rfl (A.appP (Kr := Hp.nil) (K1 := K) Try.underlying26 inf111 rfl rfl (by decide) (by decide) rfl rfl fxa_0 (Hp.le_refl _) (Els.flat rfl) (Els.flat rfl) hz22) ?_
    rintro _ _ _ ⟨v23, rfl, rfl, rfl⟩
    refine J.wit Row.form ?_
    rintro ⟨ad24, cp25, rfl, _, _, hn26⟩
    refine J.val (v := .slice ad24 z21.length cp25) rfl rfl (V.as rfl) ?_
    refine J.nil ?_
    refine CJ.ret ?_
    have e := Option.some.inj h
    subst e
    exact ⟨_, [Row Hp.nil 111 (.cons (.int .i64) (.one .bool)) (.slice ad24 z21.length cp25) z21], Res.one rfl rfl, ⟨z21, ad24, cp25, rfl, rfl, rfl⟩, (Hp.le_refl _), fun w hs => hs⟩

noncomputable def fn_row_Clone (xa : (List (Int × Bool))) : Option ((List (Int × Bool))) :=
  (fn_slices_Clone_api_Slot_api_Slot xa).bind fun l22 => some (l22)
set_option maxRecDepth 100000 in
set_option maxHeartbeats 4000000 in
theorem row_Clone_ok {K : Hp} {xa : (List (Int × Bool))} {adxa_0 : Option Addr} {cpxa_0 : Nat} (fxa_0 : Is K (.sl (.cons (.int .i64) (.one .bool))) [.slice adxa_0 xa.length cpxa_0] xa) {r : (List (Int × Bool))} (h : fn_row_Clone xa = some r) :
    Tr Try.prog 67 #[.agg #[.slice adxa_0 xa.length cpxa_0]] K [] (fun v K' L' => (∃ (l13 : (List (Int × Bool))) (ad14 : Option Addr) (cp15 : Nat), l13 = r ∧ .agg #[.slice ad14 l13.length cp15] = v ∧ L' = [Row Hp.nil 111 (.cons (.int .i64) (.one .bool)) (.slice ad14 l13.length cp15) l13]) ∧ K = K') := by
  refine Tr.k ?_
  refine Tr.of Try.func67 rfl Try.ntmps67 rfl (fun E F => ?_)
  unfold fn_row_Clone at h
  refine CJ.seq ?_
  refine CJ.region ?_
  refine J.op rfl (A.box (v := .agg #[.slice adxa_0 xa.length cpxa_0]) (cs := [.slice adxa_0 xa.length cpxa_0]) rfl rfl) ?_
  rintro _ _ _ ⟨b18, rfl, rfl, rfl⟩
  refine J.op rfl (A.alloc (cs := [.slice none 0 0]) inf28 rfl) ?_
  rintro _ _ _ ⟨b19, rfl, rfl, rfl⟩
  refine J.nil ?_
  refine CJ.seq ?_
  refine CJ.region ?_
  refine J.val rfl rfl (V.fad Try.underlying28 rfl nz26 rfl) ?_
  refine J.val (v := .slice adxa_0 xa.length cpxa_0) rfl rfl (V.ld rfl (Ld.sc sc26 (Rd.cl 1 rfl rfl))) ?_
  obtain ⟨r20, hr21, h⟩ := ob h
  refine J.op rfl (A.call (L1 := []) Try.call75 rfl (slices_Clone_api_Slot_api_Slot_ok fxa_0 hr21) rfl rfl) ?_
  rintro _ _ _ ⟨v26, _, rfl, ⟨⟨l22, ad23, cp24, rfl, rfl, rfl⟩, rfl⟩, _, rfl⟩
  refine J.wit Row.hn (fun hn25 => ?_)
  refine J.val (v := .agg #[.slice ad23 l22.length cp24]) rfl rfl (V.build inf28 places28 rfl rfl) ?_
  refine J.front 1 rfl ?_
  refine J.op rfl (A.store (v := .agg #[.slice ad23 l22.length cp24]) (cs' := [.slice ad23 l22.length cp24]) sz28 rfl rfl rfl rfl rfl rfl) ?_
  rintro _ _ _ ⟨rfl, rfl, rfl⟩
  refine J.nil ?_
  refine CJ.ret ?_
  have e := Option.some.inj h
  subst e
  exact ⟨_, [Row Hp.nil 111 (.cons (.int .i64) (.one .bool)) (.slice ad23 l22.length cp24) l22], Res.one rfl ⟨_, _, rfl, Ld.agg (cs := [.slice ad23 l22.length cp24]) Try.underlying28 sz28 rfl (Rd.cls 0 0 rfl rfl)⟩, ⟨l22, ad23, cp24, rfl, rfl, rfl⟩, (Hp.le_refl _), fun w hs => (Sep.dropAt 1 rfl (Sep.dropAt 0 rfl hs))⟩
noncomputable def fn_row_Subst_l1 (xb : (List Int)) (l368 : (List (Int × Bool))) : ((List (Int × Bool)) × Int) → Option (((List (Int × Bool)) × Int) ⊕ (List (Int × Bool))) := fun ((l596, i601) : ((List (Int × Bool)) × Int)) => cond (decide (i601 < (((l368.length : Nat) : Int)))) ((getI l596 i601).bind fun x659 => (getI xb x659.1).bind fun x683 => (getI l596 i601).bind fun x692 => (some (l596.set i601.toNat (x683, x692.2))).bind fun z699 => some (.inl ((z699, IntKind.wrap .i64 (i601 + 1))))) (some (.inr (l596)))
noncomputable def fn_row_Subst (xa : (List (Int × Bool))) (xb : (List Int)) : Option (((List (Int × Bool)) × Int)) :=
  (fn_row_within xa (((xb.length : Nat) : Int))).bind fun t360 => cond (!t360) (some (([], 7))) ((fn_row_Clone xa).bind fun l368 => (loop (fn_row_Subst_l1 xb l368) (l368, 0) : Option ((List (Int × Bool)))).bind fun l537 => some ((l537, 0)))
set_option maxRecDepth 100000 in
set_option maxHeartbeats 4000000 in
theorem row_Subst_ok {K : Hp} {xa : (List (Int × Bool))} {xb : (List Int)} {adxa_0 : Option Addr} {cpxa_0 : Nat} {adxb_0 : Option Addr} {cpxb_0 : Nat} (fxa_0 : Is K (.sl (.cons (.int .i64) (.one .bool))) [.slice adxa_0 xa.length cpxa_0] xa) (fxb_0 : Is K (.sl (.int .i64)) [.slice adxb_0 xb.length cpxb_0] xb) {r : ((List (Int × Bool)) × Int)} (h : fn_row_Subst xa xb = some r) :
    Tr Try.prog 50 #[.agg #[.slice adxa_0 xa.length cpxa_0], .slice adxb_0 xb.length cpxb_0] K [] (fun v K' L' => (∃ (l350 : (List (Int × Bool))) (i355 : Int) (ad351 : Option Addr) (cp352 : Nat), (l350, i355) = r ∧ .tuple #[.agg #[.slice ad351 l350.length cp352], .int .i64 i355] = v ∧ L' = [Row Hp.nil 111 (.cons (.int .i64) (.one .bool)) (.slice ad351 l350.length cp352) l350]) ∧ K = K') := by
  refine Tr.k ?_
  refine Tr.of Try.func50 rfl Try.ntmps50 rfl (fun E F => ?_)
  unfold fn_row_Subst at h
  refine CJ.seq ?_
  refine CJ.region ?_
  refine J.op rfl (A.box (v := .agg #[.slice adxa_0 xa.length cpxa_0]) (cs := [.slice adxa_0 xa.length cpxa_0]) rfl rfl) ?_
  rintro _ _ _ ⟨b356, rfl, rfl, rfl⟩
  refine J.op rfl (A.alloc (cs := [.slice none 0 0]) inf28 rfl) ?_
  rintro _ _ _ ⟨b357, rfl, rfl, rfl⟩
  refine J.val (v := .int .i64 0) rfl rfl (V.as rfl) ?_
  refine J.nil ?_
  refine CJ.seq ?_
  refine CJ.seq ?_
  refine CJ.region ?_
  refine J.val (v := .agg #[.slice adxa_0 xa.length cpxa_0]) rfl rfl (V.ld rfl (Ld.agg (cs := [.slice adxa_0 xa.length cpxa_0]) Try.underlying28 sz28 rfl (Rd.cls 1 0 rfl rfl))) ?_
  refine J.val (v := .slice adxb_0 xb.length cpxb_0) rfl rfl (V.mv rfl) ?_
  refine J.val (v := .int .i64 (((xb.length : Nat) : Int))) rfl rfl (V.len Try.underlying22 rfl) ?_
  obtain ⟨r358, hr359, h⟩ := ob h
  refine J.op rfl (A.call (L1 := []) Try.call66 rfl (row_within_ok fxa_0 hr359) rfl rfl) ?_
  rintro _ _ _ ⟨v361, _, rfl, ⟨⟨t360, rfl, rfl, rfl⟩, rfl⟩, _, rfl⟩
  refine J.val (v := .bool (!t360)) rfl rfl (V.not rfl) ?_
  refine J.nil ?_
  refine CJ.cond rfl (fun hc364 => ?_) (fun hc364 => ?_)
  · have h := ct hc364 h
    refine CJ.seq ?_
    refine CJ.region ?_
    refine J.val (v := .agg #[.slice none 0 0]) rfl rfl (V.build inf28 places28 rfl rfl) ?_
    refine J.op rfl (A.store (v := .agg #[.slice none 0 0]) (cs' := [.slice none 0 0]) sz28 rfl rfl rfl rfl rfl rfl) ?_
    rintro _ _ _ ⟨rfl, rfl, rfl⟩
    refine J.val (v := .int .i64 7) rfl rfl (V.as rfl) ?_
    refine J.nil ?_
    refine CJ.by (fun w hs => Sep.rowNil (e := 111) (t := (.cons (.int .i64) (.one .bool))) hs) ?_
    refine CJ.ret ?_
    have e := Option.some.inj h
    subst e
    exact ⟨_, [Row Hp.nil 111 (.cons (.int .i64) (.one .bool)) (.slice none ((([] : List (Int × Bool))).length) 0) (([] : List (Int × Bool)))], Res.two rfl ⟨_, _, rfl, Ld.agg (cs := [.slice none 0 0]) Try.underlying28 sz28 rfl (Rd.cls 1 0 rfl rfl)⟩ rfl, ⟨[], 7, none, 0, rfl, rfl, rfl⟩, (Hp.le_refl _), fun w hs => (Sep.dropAt 1 rfl (Sep.dropAt 1 rfl hs))⟩
  · have h := cf hc364 h
    refine CJ.skip ?_
    refine CJ.seq ?_
    refine CJ.region ?_
    refine J.val (v := .agg #[.slice adxa_0 xa.length cpxa_0]) rfl rfl (V.ld rfl (Ld.agg (cs := [.slice adxa_0 xa.length cpxa_0]) Try.underlying28 sz28 rfl (Rd.cls 1 0 rfl rfl))) ?_
    obtain ⟨r366, hr367, h⟩ := ob h
    refine J.op rfl (A.call (L1 := []) Try.call67 rfl (row_Clone_ok fxa_0 hr367) rfl rfl) ?_
    rintro _ _ _ ⟨v372, _, rfl, ⟨⟨l368, ad369, cp370, rfl, rfl, rfl⟩, rfl⟩, _, rfl⟩
    refine J.wit Row.hn (fun hn371 => ?_)
    refine J.op rfl (A.alloc (cs := [.slice none 0 0]) inf28 rfl) ?_
    rintro _ _ _ ⟨b376, rfl, rfl, rfl⟩
    refine J.op rfl (A.store (v := .agg #[.slice ad369 l368.length cp370]) (cs' := [.slice ad369 l368.length cp370]) sz28 rfl rfl rfl rfl rfl rfl) ?_
    rintro _ _ _ ⟨rfl, rfl, rfl⟩
    refine J.nil ?_
    refine CJ.seq ?_
    refine CJ.seq ?_
    refine CJ.region ?_
    refine J.val rfl rfl (V.fad Try.underlying28 rfl nz26 rfl) ?_
    refine J.val (v := .slice ad369 l368.length cp370) rfl rfl (V.ld rfl (Ld.sc sc26 (Rd.cl 0 rfl rfl))) ?_
    refine J.val (v := .int .i64 (((l368.length : Nat) : Int))) rfl rfl (V.len Try.underlying26 rfl) ?_
    refine J.val (v := .int .i64 0) rfl rfl (V.mv rfl) ?_
    refine J.nil ?_
    obtain ⟨o542, ho543, h⟩ := ob h
    refine CJ.meetN (fun ρ K' L' => ∃ (l537 : (List (Int × Bool))) (ad538 : Option Addr) (cp539 : Nat), l537 = o542 ∧ Fits [(4, .pointer (some ⟨b357, 0, none⟩)), (6, .pointer (some ⟨b376, 0, none⟩))] ρ ∧ K = K' ∧ L' = Cl b357 28 [.slice none 0 0] :: Cl b376 28 [.slice ad538 l537.length cp539] :: Row Hp.nil 111 (.cons (.int .i64) (.one .bool)) (.slice ad538 l537.length cp539) l537 :: F) ?_ ?_
    · skip
      refine CJ.block ?_
      refine CJ.dropAt 3 rfl ?_
      refine CJ.front 1 rfl ?_
      refine CJ.front 1 rfl ?_
      refine CJ.front 2 rfl ?_
      refine CJ.loop (fun s ρ K' L' => ∃ (l596 : (List (Int × Bool))) (i601 : Int) (ad597 : Option Addr) (cp598 : Nat), (l596, i601) = s ∧ Fits [(1, .slice adxb_0 xb.length cpxb_0), (4, .pointer (some ⟨b357, 0, none⟩)), (6, .pointer (some ⟨b376, 0, none⟩)), (18, .slice ad597 l596.length cp598), (19, .int .i64 (((l368.length : Nat) : Int))), (20, .int .i64 i601)] ρ ∧ K = K' ∧ L' = Cl b357 28 [.slice none 0 0] :: Cl b376 28 [.slice ad597 l596.length cp598] :: Row Hp.nil 111 (.cons (.int .i64) (.one .bool)) (.slice ad597 l596.length cp598) l596 :: F) ho543 ⟨l368, 0, ad369, cp370, rfl, ⟨rfl, rfl, rfl, rfl, rfl, rfl, trivial⟩, rfl, rfl⟩ ?_
      rintro s ρ _ _ r657 ⟨l596, i601, ad597, cp598, rfl, hf655, rfl, rfl⟩ h654
      obtain ⟨ρ, rfl⟩ := hf655.ex
      refine CJ.front 2 rfl ?_
      refine CJ.wit Row.hn (fun hn600 => ?_)
      refine CJ.seq ?_
      refine CJ.region ?_
      refine J.val (v := .bool (decide (i601 < (((l368.length : Nat) : Int))))) rfl rfl (V.lss rfl rfl) ?_
      refine J.nil ?_
      refine CJ.seq ?_
      refine CJ.cond rfl (fun hc658 => ?_) (fun hc658 => ?_)
      · have h654 := ct hc658 h654
        refine CJ.skip ?_
        refine CJ.seq ?_
        refine CJ.block ?_
        refine CJ.seq ?_
        refine CJ.region ?_
        refine J.val (v := .int .i64 i601) rfl rfl (V.mv rfl) ?_
        obtain ⟨x659, hx660, h654⟩ := ob h654
        obtain ⟨p661, p662, p663⟩ := getI_some hx660
        obtain ⟨g664, e665⟩ := hn600 (fun e => by rw [e] at p662; simp at p662)
        refine J.val rfl rfl (V.iad Try.underlying26 sz111 rfl e665 rfl p661 p663) ?_
        refine J.val (v := .agg #[.int .i64 x659.1, .bool x659.2]) rfl rfl (V.ld rfl (Ld.agg Try.underlying111 sz111 rfl (Rd.rows (K0 := Hp.nil) (s := (.cons (.int .i64) (.one .bool))) 0 rfl e665 p662 (cs := [.int .i64 x659.1, .bool x659.2]) rfl (by rintro _ ⟨_, _, rfl, _, rfl, rfl⟩; rfl)))) ?_
        refine J.op rfl (A.alloc (cs := [.int .i64 0, .bool false]) inf111 rfl) ?_
        rintro _ _ _ ⟨b666, rfl, rfl, rfl⟩
        refine J.val (v := .int .i64 i601) rfl rfl (V.as rfl) ?_
        refine J.op rfl (A.store (v := .agg #[.int .i64 x659.1, .bool x659.2]) (cs' := [.int .i64 x659.1, .bool x659.2]) sz111 rfl rfl rfl rfl rfl rfl) ?_
        rintro _ _ _ ⟨rfl, rfl, rfl⟩
        refine J.nil ?_
        refine CJ.mix [Cl b666 111 [.int .i64 x659.1, .bool x659.2], Row Hp.nil 111 (.cons (.int .i64) (.one .bool)) (.slice ad597 l596.length cp598) l596, Cl b357 28 [.slice none 0 0], Cl b376 28 [.slice ad597 l596.length cp598]] [] [0, 1, 2, 3, 4, 5, 6, 7, 8, 9] [10] mixO (by decide +kernel) ⟨0, rfl, 0, rfl, 0, rfl, 0, rfl, trivial⟩ rfl rfl rfl ?_
        refine JM.nil ?_
        refine JQ.val rfl rfl (V.fad Try.underlying28 rfl nz26 rfl) ?_
        refine JQ.val (v := .slice ad597 l596.length cp598) rfl rfl (V.ld rfl (Ld.sc sc26 (Rd.cl 3 rfl rfl))) ?_
        refine JQ.val (v := .int .i64 i601) rfl rfl (V.mv rfl) ?_
        refine JQ.val (v := .slice adxb_0 xb.length cpxb_0) rfl rfl (V.mv rfl) ?_
        refine JQ.val rfl rfl (V.fad Try.underlying111 rfl nz3 rfl) ?_
        refine JQ.val (v := .int .i64 x659.1) rfl rfl (V.ld rfl (Ld.sc sc3 (Rd.cl 0 rfl rfl))) ?_
        obtain ⟨x683, hx684, h654⟩ := ob h654
        obtain ⟨p685, p686, p687⟩ := getI_some hx684
        obtain ⟨b688, o689, e690, a691⟩ := (fxb_0).at p686
        refine JQ.val rfl rfl (V.iad Try.underlying22 sz3 rfl e690 rfl p685 p687) ?_
        refine JQ.val (v := .int .i64 x683) rfl rfl (V.ld rfl (Ld.sc sc3 (Rd.k (a691).int (Hp.le_refl _)))) ?_
        obtain ⟨x692, hx693, h654⟩ := ob h654
        obtain ⟨p694, p695, p696⟩ := getI_some hx693
        obtain ⟨g697, e698⟩ := hn600 (fun e => by rw [e] at p695; simp at p695)
        refine JQ.val rfl rfl (V.iad Try.underlying26 sz111 rfl e698 rfl p694 p696) ?_
        refine JQ.val rfl rfl (V.fad Try.underlying111 rfl nz3 rfl) ?_
        refine JQ.nil ?_
        refine J.front 1 rfl ?_
        obtain ⟨z699, hz700, h654⟩ := ob h654
        have e701 := Option.some.inj hz700
        have hl702 : z699.length = l596.length := by rw [← e701, List.length_set]
        refine J.op rfl (A.storeR (ty := (.cons (.int .i64) (.one .bool))) (q := 0) (y0 := (x683, x692.2)) (zs := z699) sz3 rfl rfl rfl rfl e698 p695 (by simp [Tp.size]) (by decide) (by rintro _ ⟨_, _, rfl, _, rfl, rfl⟩; exact ⟨_, _, rfl, rfl, rfl, rfl⟩) e701) ?_
        rintro _ _ _ ⟨rfl, rfl, rfl⟩
        have hn703 : z699 ≠ [] → _ := fun h => hn600 (fun e => h (List.length_eq_zero_iff.1 (by rw [hl702]; exact List.length_eq_zero_iff.2 e)))
        refine J.nil ?_
        refine CJ.region ?_
        refine J.val (v := .int .i64 (IntKind.wrap .i64 (i601 + 1))) rfl rfl (V.add rfl rfl) ?_
        refine J.val (v := .int .i64 (IntKind.wrap .i64 (i601 + 1))) rfl rfl (V.mv rfl) ?_
        refine J.dropAt 1 rfl ?_
        refine J.front 2 rfl ?_
        refine J.front 2 rfl ?_
        refine J.nil ?_
        have e := Option.some.inj h654
        subst e
        exact ⟨rfl, ⟨z699, IntKind.wrap .i64 (i601 + 1), ad597, cp598, rfl, ⟨rfl, rfl, rfl, (by rw [hl702]; rfl), rfl, rfl, trivial⟩, rfl, (by rw [hl702]; first | done | rfl)⟩⟩
      · have h654 := cf hc658 h654
        refine CJ.front 2 rfl ?_
        refine CJ.front 2 rfl ?_
        refine CJ.exit ?_
        have e := Option.some.inj h654
        subst e
        refine ⟨nofun, fun e => ?_⟩
        subst e
        exact ⟨rfl, ⟨l596, ad597, cp598, rfl, ⟨rfl, rfl, trivial⟩, rfl, rfl⟩⟩
    · rintro ρ _ _ ⟨l537, ad538, cp539, rfl, hf704, rfl, rfl⟩
      obtain ⟨ρ, rfl⟩ := hf704.ex
      refine PJ.front 2 rfl ?_
      refine PJ.wit Row.hn (fun hn541 => ?_)
      refine PJ.done ?_
      refine CJ.seq ?_
      refine CJ.region ?_
      refine J.val (v := .agg #[.slice ad538 l537.length cp539]) rfl rfl (V.ld rfl (Ld.agg (cs := [.slice ad538 l537.length cp539]) Try.underlying28 sz28 rfl (Rd.cls 2 0 rfl rfl))) ?_
      refine J.front 1 rfl ?_
      refine J.op rfl (A.store (v := .agg #[.slice ad538 l537.length cp539]) (cs' := [.slice ad538 l537.length cp539]) sz28 rfl rfl rfl rfl rfl rfl) ?_
      rintro _ _ _ ⟨rfl, rfl, rfl⟩
      refine J.val (v := .int .i64 0) rfl rfl (V.as rfl) ?_
      refine J.nil ?_
      refine CJ.ret ?_
      have e := Option.some.inj h
      subst e
      exact ⟨_, [Row Hp.nil 111 (.cons (.int .i64) (.one .bool)) (.slice ad538 l537.length cp539) l537], Res.two rfl ⟨_, _, rfl, Ld.agg (cs := [.slice ad538 l537.length cp539]) Try.underlying28 sz28 rfl (Rd.cls 0 0 rfl rfl)⟩ rfl, ⟨l537, 0, ad538, cp539, rfl, rfl, rfl⟩, (Hp.le_refl _), fun w hs => (Sep.dropAt 1 rfl (Sep.dropAt 0 rfl hs))⟩
noncomputable def fn_sig_Call_l1 (xa : (Int × (List (Int × Int)) × (List (List (Int × Bool))) × (List (Int × Bool)))) (xb : (List Int)) : ((List (Int × Int × Int × Int × Bool)) × Int) → Option (((List (Int × Int × Int × Int × Bool)) × Int) ⊕ (List (Int × Int × Int × Int × Bool))) := fun ((l1328, i1333) : ((List (Int × Int × Int × Int × Bool)) × Int)) => cond (decide (i1333 < (((xa.2.1.length : Nat) : Int)))) ((getI xa.2.1 i1333).bind fun x1405 => (getI xb x1405.1).bind fun x1436 => (getI xb x1405.2).bind fun x1445 => (app l1328 (([(x1436, x1445, 4, i1333, false)] : List (Int × Int × Int × Int × Bool)))).bind fun z1457 => some (.inl ((z1457, IntKind.wrap .i64 (i1333 + 1))))) (some (.inr (l1328)))
noncomputable def fn_sig_Call_l2 (xa : (Int × (List (Int × Int)) × (List (List (Int × Bool))) × (List (Int × Bool)))) (xb : (List Int)) (xc : (List (List (Int × Bool)))) : ((List (Int × Int × Int × Int × Bool)) × Int) → Option (((List (Int × Int × Int × Int × Bool)) × Int) ⊕ (List (Int × Int × Int × Int × Bool))) := fun ((l1852, i1857) : ((List (Int × Int × Int × Int × Bool)) × Int)) => cond (decide (i1857 < (((xa.2.2.1.length : Nat) : Int)))) ((getI xa.2.2.1 i1857).bind fun x1957 => (fn_row_Subst x1957 xb).bind fun (l1973, i1974) => (getI xc i1857).bind fun x2010 => (fn_relate_Flow x2010 l1973 5 (IntKind.wrap .i64 (16 * i1857))).bind fun (l2028, i2029) => (app l1852 l2028).bind fun z2037 => some (.inl ((z2037, IntKind.wrap .i64 (i1857 + 1))))) (some (.inr (l1852)))
noncomputable def fn_sig_Call (xa : (Int × (List (Int × Int)) × (List (List (Int × Bool))) × (List (Int × Bool)))) (xb : (List Int)) (xc : (List (List (Int × Bool)))) (xd : (List (Int × Bool))) : Option (((List (Int × Int × Int × Int × Bool)) × Int)) :=
  (fn_sig_callable (xa.1, xa.2.1, xa.2.2.1, xa.2.2.2) xb xc xd).bind fun i1046 => cond (!decide (i1046 = 0)) (some (([], i1046))) ((loop (fn_sig_Call_l1 xa xb) ([], 0) : Option ((List (Int × Int × Int × Int × Bool)))).bind fun l1254 => (loop (fn_sig_Call_l2 xa xb xc) (l1254, 0) : Option ((List (Int × Int × Int × Int × Bool)))).bind fun l1751 => (fn_row_Subst xa.2.2.2 xb).bind fun (l2047, i2048) => (fn_relate_Flow l2047 xd 6 0).bind fun (l2062, i2063) => (app l1751 l2062).bind fun z2071 => some ((z2071, 0)))
set_option maxRecDepth 100000 in
set_option maxHeartbeats 4000000 in
theorem sig_Call_ok {K : Hp} {xa : (Int × (List (Int × Int)) × (List (List (Int × Bool))) × (List (Int × Bool)))} {xb : (List Int)} {xc : (List (List (Int × Bool)))} {xd : (List (Int × Bool))} {adxa_1 : Option Addr} {cpxa_1 : Nat} {adxa_2 : Option Addr} {cpxa_2 : Nat} {adxa_3 : Option Addr} {cpxa_3 : Nat} {adxb_0 : Option Addr} {cpxb_0 : Nat} {adxc_0 : Option Addr} {cpxc_0 : Nat} {adxd_0 : Option Addr} {cpxd_0 : Nat} (fxa_1 : Is K (.sl (.cons (.int .i64) (.one (.int .i64)))) [.slice adxa_1 xa.2.1.length cpxa_1] xa.2.1) (fxa_2 : Is K (.sl (.one (.sl (.cons (.int .i64) (.one .bool))))) [.slice adxa_2 xa.2.2.1.length cpxa_2] xa.2.2.1) (fxa_3 : Is K (.sl (.cons (.int .i64) (.one .bool))) [.slice adxa_3 xa.2.2.2.length cpxa_3] xa.2.2.2) (fxb_0 : Is K (.sl (.int .i64)) [.slice adxb_0 xb.length cpxb_0] xb) (fxc_0 : Is K (.sl (.one (.sl (.cons (.int .i64) (.one .bool))))) [.slice adxc_0 xc.length cpxc_0] xc) (fxd_0 : Is K (.sl (.cons (.int .i64) (.one .bool))) [.slice adxd_0 xd.length cpxd_0] xd) {r : ((List (Int × Int × Int × Int × Bool)) × Int)} (h : fn_sig_Call xa xb xc xd = some r) :
    Tr Try.prog 25 #[.agg #[.int .i64 xa.1, .slice adxa_1 xa.2.1.length cpxa_1, .slice adxa_2 xa.2.2.1.length cpxa_2, .slice adxa_3 xa.2.2.2.length cpxa_3], .slice adxb_0 xb.length cpxb_0, .slice adxc_0 xc.length cpxc_0, .agg #[.slice adxd_0 xd.length cpxd_0]] K [] (fun v K' L' => (∃ (l1036 : (List (Int × Int × Int × Int × Bool))) (i1041 : Int) (ad1037 : Option Addr) (cp1038 : Nat), (l1036, i1041) = r ∧ .tuple #[.slice ad1037 l1036.length cp1038, .int .i64 i1041] = v ∧ L' = [Row Hp.nil 67 (.cons (.int .i64) (.cons (.int .i64) (.cons (.int .i64) (.cons (.int .i64) (.one .bool))))) (.slice ad1037 l1036.length cp1038) l1036]) ∧ K = K') := by
  refine Tr.k ?_
  refine Tr.of Try.func25 rfl Try.ntmps25 rfl (fun E F => ?_)
  unfold fn_sig_Call at h
  refine CJ.seq ?_
  refine CJ.region ?_
  refine J.op rfl (A.box (v := .agg #[.int .i64 xa.1, .slice adxa_1 xa.2.1.length cpxa_1, .slice adxa_2 xa.2.2.1.length cpxa_2, .slice adxa_3 xa.2.2.2.length cpxa_3]) (cs := [.int .i64 xa.1, .slice adxa_1 xa.2.1.length cpxa_1, .slice adxa_2 xa.2.2.1.length cpxa_2, .slice adxa_3 xa.2.2.2.length cpxa_3]) rfl rfl) ?_
  rintro _ _ _ ⟨b1042, rfl, rfl, rfl⟩
  refine J.op rfl (A.box (v := .agg #[.slice adxd_0 xd.length cpxd_0]) (cs := [.slice adxd_0 xd.length cpxd_0]) rfl rfl) ?_
  rintro _ _ _ ⟨b1043, rfl, rfl, rfl⟩
  refine J.val (v := .slice none 0 0) rfl rfl (V.as rfl) ?_
  refine J.val (v := .int .i64 0) rfl rfl (V.as rfl) ?_
  refine J.nil ?_
  refine CJ.seq ?_
  refine CJ.seq ?_
  refine CJ.region ?_
  refine J.val (v := .agg #[.int .i64 xa.1, .slice adxa_1 xa.2.1.length cpxa_1, .slice adxa_2 xa.2.2.1.length cpxa_2, .slice adxa_3 xa.2.2.2.length cpxa_3]) rfl rfl (V.ld rfl (Ld.agg (cs := [.int .i64 xa.1, .slice adxa_1 xa.2.1.length cpxa_1, .slice adxa_2 xa.2.2.1.length cpxa_2, .slice adxa_3 xa.2.2.2.length cpxa_3]) Try.underlying57 sz57 rfl (Rd.cls 1 0 rfl rfl))) ?_
  refine J.val (v := .slice adxb_0 xb.length cpxb_0) rfl rfl (V.mv rfl) ?_
  refine J.val (v := .slice adxc_0 xc.length cpxc_0) rfl rfl (V.mv rfl) ?_
  refine J.val (v := .agg #[.slice adxd_0 xd.length cpxd_0]) rfl rfl (V.ld rfl (Ld.agg (cs := [.slice adxd_0 xd.length cpxd_0]) Try.underlying28 sz28 rfl (Rd.cls 0 0 rfl rfl))) ?_
  obtain ⟨r1044, hr1045, h⟩ := ob h
  refine J.op rfl (A.call (L1 := []) Try.call49 rfl (sig_callable_ok fxa_1 fxa_2 fxa_3 fxb_0 fxc_0 fxd_0 hr1045) rfl rfl) ?_
  rintro _ _ _ ⟨v1047, _, rfl, ⟨⟨i1046, rfl, rfl, rfl⟩, rfl⟩, _, rfl⟩
  refine J.val (v := .int .i64 i1046) rfl rfl (V.as rfl) ?_
  refine J.nil ?_
  refine CJ.seq ?_
  refine CJ.region ?_
  refine J.val (v := .int .i64 i1046) rfl rfl (V.mv rfl) ?_
  refine J.val (v := .bool (!decide (i1046 = 0))) rfl rfl (V.neq rfl rfl) ?_
  refine J.nil ?_
  refine CJ.cond rfl (fun hc1050 => ?_) (fun hc1050 => ?_)
  · have h := ct hc1050 h
    refine CJ.seq ?_
    refine CJ.region ?_
    refine J.val (v := .int .i64 i1046) rfl rfl (V.mv rfl) ?_
    refine J.val (v := .slice none 0 0) rfl rfl (V.as rfl) ?_
    refine J.val (v := .int .i64 i1046) rfl rfl (V.as rfl) ?_
    refine J.nil ?_
    refine CJ.by (fun w hs => Sep.rowNil (e := 67) (t := (.cons (.int .i64) (.cons (.int .i64) (.cons (.int .i64) (.cons (.int .i64) (.one .bool)))))) hs) ?_
    refine CJ.ret ?_
    have e := Option.some.inj h
    subst e
    exact ⟨_, [Row Hp.nil 67 (.cons (.int .i64) (.cons (.int .i64) (.cons (.int .i64) (.cons (.int .i64) (.one .bool))))) (.slice none ((([] : List (Int × Int × Int × Int × Bool))).length) 0) (([] : List (Int × Int × Int × Int × Bool)))], Res.two rfl rfl rfl, ⟨[], i1046, none, 0, rfl, rfl, rfl⟩, (Hp.le_refl _), fun w hs => (Sep.dropAt 1 rfl (Sep.dropAt 1 rfl hs))⟩
  · have h := cf hc1050 h
    refine CJ.skip ?_
    refine CJ.seq ?_
    refine CJ.region ?_
    refine J.val (v := .slice none 0 0) rfl rfl (V.as rfl) ?_
    refine J.nil ?_
    refine CJ.seq ?_
    refine CJ.seq ?_
    refine CJ.region ?_
    refine J.val rfl rfl (V.fad Try.underlying57 rfl nz55 rfl) ?_
    refine J.val (v := .slice adxa_1 xa.2.1.length cpxa_1) rfl rfl (V.ld rfl (Ld.sc sc55 (Rd.cl 1 rfl rfl))) ?_
    refine J.val (v := .int .i64 (((xa.2.1.length : Nat) : Int))) rfl rfl (V.len Try.underlying55 rfl) ?_
    refine J.val (v := .int .i64 0) rfl rfl (V.mv rfl) ?_
    refine J.nil ?_
    obtain ⟨o1259, ho1260, h⟩ := ob h
    refine CJ.meetN (fun ρ K' L' => ∃ (l1254 : (List (Int × Int × Int × Int × Bool))) (ad1255 : Option Addr) (cp1256 : Nat), l1254 = o1259 ∧ Fits [(1, .slice adxb_0 xb.length cpxb_0), (2, .slice adxc_0 xc.length cpxc_0), (4, .pointer (some ⟨b1042, 0, none⟩)), (7, .pointer (some ⟨b1043, 0, none⟩)), (11, .slice ad1255 l1254.length cp1256)] ρ ∧ K = K' ∧ L' = Cl b1042 57 [.int .i64 xa.1, .slice adxa_1 xa.2.1.length cpxa_1, .slice adxa_2 xa.2.2.1.length cpxa_2, .slice adxa_3 xa.2.2.2.length cpxa_3] :: Cl b1043 28 [.slice adxd_0 xd.length cpxd_0] :: Row Hp.nil 67 (.cons (.int .i64) (.cons (.int .i64) (.cons (.int .i64) (.cons (.int .i64) (.one .bool))))) (.slice ad1255 l1254.length cp1256) l1254 :: F) ?_ ?_
    · skip
      refine CJ.block ?_
      refine CJ.by (fun w hs => Sep.rowNil (e := 67) (t := (.cons (.int .i64) (.cons (.int .i64) (.cons (.int .i64) (.cons (.int .i64) (.one .bool)))))) hs) ?_
      refine CJ.front 1 rfl ?_
      refine CJ.front 2 rfl ?_
      refine CJ.loop (fun s ρ K' L' => ∃ (l1328 : (List (Int × Int × Int × Int × Bool))) (i1333 : Int) (ad1329 : Option Addr) (cp1330 : Nat), (l1328, i1333) = s ∧ Fits [(1, .slice adxb_0 xb.length cpxb_0), (2, .slice adxc_0 xc.length cpxc_0), (4, .pointer (some ⟨b1042, 0, none⟩)), (7, .pointer (some ⟨b1043, 0, none⟩)), (11, .slice ad1329 l1328.length cp1330), (33, .slice adxa_1 xa.2.1.length cpxa_1), (34, .int .i64 (((xa.2.1.length : Nat) : Int))), (35, .int .i64 i1333)] ρ ∧ K = K' ∧ L' = Cl b1042 57 [.int .i64 xa.1, .slice adxa_1 xa.2.1.length cpxa_1, .slice adxa_2 xa.2.2.1.length cpxa_2, .slice adxa_3 xa.2.2.2.length cpxa_3] :: Cl b1043 28 [.slice adxd_0 xd.length cpxd_0] :: Row Hp.nil 67 (.cons (.int .i64) (.cons (.int .i64) (.cons (.int .i64) (.cons (.int .i64) (.one .bool))))) (.slice ad1329 l1328.length cp1330) l1328 :: F) ho1260 ⟨[], 0, none, 0, rfl, ⟨rfl, rfl, rfl, rfl, rfl, rfl, rfl, rfl, trivial⟩, rfl, rfl⟩ ?_
      rintro s ρ _ _ r1403 ⟨l1328, i1333, ad1329, cp1330, rfl, hf1401, rfl, rfl⟩ h1399
      obtain ⟨ρ, rfl⟩ := hf1401.ex
      refine CJ.front 2 rfl ?_
      refine CJ.wit Row.hn (fun hn1332 => ?_)
      refine CJ.seq ?_
      refine CJ.region ?_
      refine J.val (v := .bool (decide (i1333 < (((xa.2.1.length : Nat) : Int))))) rfl rfl (V.lss rfl rfl) ?_
      refine J.nil ?_
      refine CJ.seq ?_
      refine CJ.cond rfl (fun hc1404 => ?_) (fun hc1404 => ?_)
      · have h1399 := ct hc1404 h1399
        refine CJ.skip ?_
        refine CJ.seq ?_
        refine CJ.block ?_
        refine CJ.seq ?_
        refine CJ.region ?_
        refine J.val (v := .int .i64 i1333) rfl rfl (V.mv rfl) ?_
        obtain ⟨x1405, hx1406, h1399⟩ := ob h1399
        obtain ⟨p1407, p1408, p1409⟩ := getI_some hx1406
        obtain ⟨b1410, o1411, e1412, a1413⟩ := (fxa_1).at p1408
        refine J.val rfl rfl (V.iad Try.underlying55 sz98 rfl e1412 rfl p1407 p1409) ?_
        refine J.val (v := .agg #[.int .i64 x1405.1, .int .i64 x1405.2]) rfl rfl (V.ld rfl (Ld.aggK (cs := [.int .i64 x1405.1, .int .i64 x1405.2]) Try.underlying98 sz98 rfl ⟨((a1413).fst).int, (((a1413).snd).one).int, trivial⟩ (Hp.le_refl _))) ?_
        refine J.op rfl (A.alloc (cs := [.int .i64 0, .int .i64 0]) inf98 rfl) ?_
        rintro _ _ _ ⟨b1414, rfl, rfl, rfl⟩
        refine J.val (v := .int .i64 i1333) rfl rfl (V.as rfl) ?_
        refine J.op rfl (A.store (v := .agg #[.int .i64 x1405.1, .int .i64 x1405.2]) (cs' := [.int .i64 x1405.1, .int .i64 x1405.2]) sz98 rfl rfl rfl rfl rfl rfl) ?_
        rintro _ _ _ ⟨rfl, rfl, rfl⟩
        refine J.nil ?_
        refine CJ.mix [Cl b1414 98 [.int .i64 x1405.1, .int .i64 x1405.2], Row Hp.nil 67 (.cons (.int .i64) (.cons (.int .i64) (.cons (.int .i64) (.cons (.int .i64) (.one .bool))))) (.slice ad1329 l1328.length cp1330) l1328, Cl b1042 57 [.int .i64 xa.1, .slice adxa_1 xa.2.1.length cpxa_1, .slice adxa_2 xa.2.2.1.length cpxa_2, .slice adxa_3 xa.2.2.2.length cpxa_3], Cl b1043 28 [.slice adxd_0 xd.length cpxd_0]] [([0, 1, 2, 3, 4, 5, 6, 7, 8, 9, 10, 11, 12], 13)] [] [14, 15] mixO (by decide +kernel) ⟨0, rfl, 0, rfl, 0, rfl, 0, rfl, trivial⟩ rfl rfl rfl ?_
        refine JM.cons ?_
        refine JQ.val (v := .slice ad1329 l1328.length cp1330) rfl rfl (V.mv rfl) ?_
        refine JQ.val (v := .slice adxb_0 xb.length cpxb_0) rfl rfl (V.mv rfl) ?_
        refine JQ.val rfl rfl (V.fad Try.underlying98 rfl nz3 rfl) ?_
        refine JQ.val (v := .int .i64 x1405.1) rfl rfl (V.ld rfl (Ld.sc sc3 (Rd.cl 0 rfl rfl))) ?_
        obtain ⟨x1436, hx1437, h1399⟩ := ob h1399
        obtain ⟨p1438, p1439, p1440⟩ := getI_some hx1437
        obtain ⟨b1441, o1442, e1443, a1444⟩ := (fxb_0).at p1439
        refine JQ.val rfl rfl (V.iad Try.underlying22 sz3 rfl e1443 rfl p1438 p1440) ?_
        refine JQ.val (v := .int .i64 x1436) rfl rfl (V.ld rfl (Ld.sc sc3 (Rd.k (a1444).int (Hp.le_refl _)))) ?_
        refine JQ.val (v := .slice adxb_0 xb.length cpxb_0) rfl rfl (V.mv rfl) ?_
        refine JQ.val rfl rfl (V.fad Try.underlying98 rfl nz3 rfl) ?_
        refine JQ.val (v := .int .i64 x1405.2) rfl rfl (V.ld rfl (Ld.sc sc3 (Rd.cl 0 rfl rfl))) ?_
        obtain ⟨x1445, hx1446, h1399⟩ := ob h1399
        obtain ⟨p1447, p1448, p1449⟩ := getI_some hx1446
        obtain ⟨b1450, o1451, e1452, a1453⟩ := (fxb_0).at p1448
        refine JQ.val rfl rfl (V.iad Try.underlying22 sz3 rfl e1452 rfl p1447 p1449) ?_
        refine JQ.val (v := .int .i64 x1445) rfl rfl (V.ld rfl (Ld.sc sc3 (Rd.k (a1453).int (Hp.le_refl _)))) ?_
        refine JQ.val (v := .int .i64 i1333) rfl rfl (V.mv rfl) ?_
        refine JQ.val (v := .agg #[.int .i64 x1436, .int .i64 x1445, .int .i64 4, .int .i64 i1333, .bool false]) rfl rfl (V.build inf67 places67 rfl rfl) ?_
        refine JQ.nil ?_
        refine JA.op rfl (A.lit (K0 := Hp.nil) (ty := (.cons (.int .i64) (.cons (.int .i64) (.cons (.int .i64) (.cons (.int .i64) (.one .bool)))))) (xs := ([(x1436, x1445, 4, i1333, false)] : List (Int × Int × Int × Int × Bool))) Try.underlying35 inf67 rfl (by decide) rfl rfl rfl ⟨_, _, rfl, ⟨_, _, rfl, rfl, rfl, ⟨_, _, rfl, rfl, rfl, ⟨_, _, rfl, rfl, rfl, ⟨_, _, rfl, rfl, rfl, rfl⟩⟩⟩⟩, rfl⟩ rfl (by decide)) ?_
        rintro _ _ _ ⟨b1454, rfl, rfl, rfl⟩
        have hn1455 : ([(x1436, x1445, 4, i1333, false)] : List (Int × Int × Int × Int × Bool)) ≠ [] → ∃ g, (some ⟨b1454, 0, none⟩ : Option Addr) = some ⟨g, 0, none⟩ := fun _ => ⟨b1454, rfl⟩
        refine ⟨fun w hs => Hold.sub (Hp.le_refl _) ⟨1, rfl, 1, rfl, 1, rfl, 1, rfl, trivial⟩ hs, ?_⟩
        refine JM.nil ?_
        refine JQ.nil ?_
        obtain ⟨z1457, hz1458, h1399⟩ := ob h1399
        refine J.front 2 rfl ?_
        refine J.op rfl (A.appR (Kr := Hp.nil) Try.underlying35 inf67 rfl rfl (by decide) (by decide) rfl rfl (Els.flat rfl) (Els.flat rfl) hz1458) ?_
        rintro _ _ _ ⟨v1459, rfl, rfl, rfl⟩
        refine J.wit Row.form ?_
        rintro ⟨ad1460, cp1461, rfl, _, _, hn1462⟩
        refine J.val (v := .slice ad1460 z1457.length cp1461) rfl rfl (V.as rfl) ?_
        refine J.nil ?_
        refine CJ.region ?_
        refine J.val (v := .int .i64 (IntKind.wrap .i64 (i1333 + 1))) rfl rfl (V.add rfl rfl) ?_
        refine J.val (v := .int .i64 (IntKind.wrap .i64 (i1333 + 1))) rfl rfl (V.mv rfl) ?_
        refine J.dropAt 1 rfl ?_
        refine J.front 2 rfl ?_
        refine J.front 2 rfl ?_
        refine J.nil ?_
        have e := Option.some.inj h1399
        subst e
        exact ⟨rfl, ⟨z1457, IntKind.wrap .i64 (i1333 + 1), ad1460, cp1461, rfl, ⟨rfl, rfl, rfl, rfl, rfl, rfl, rfl, rfl, trivial⟩, rfl, rfl⟩⟩
      · have h1399 := cf hc1404 h1399
        refine CJ.front 2 rfl ?_
        refine CJ.front 2 rfl ?_
        refine CJ.exit ?_
        have e := Option.some.inj h1399
        subst e
        refine ⟨nofun, fun e => ?_⟩
        subst e
        exact ⟨rfl, ⟨l1328, ad1329, cp1330, rfl, ⟨rfl, rfl, rfl, rfl, rfl, trivial⟩, rfl, rfl⟩⟩
    · rintro ρ _ _ ⟨l1254, ad1255, cp1256, rfl, hf1463, rfl, rfl⟩
      obtain ⟨ρ, rfl⟩ := hf1463.ex
      refine PJ.front 2 rfl ?_
      refine PJ.wit Row.hn (fun hn1258 => ?_)
      refine PJ.done ?_
      refine CJ.seq ?_
      refine CJ.seq ?_
      refine CJ.region ?_
      refine J.val rfl rfl (V.fad Try.underlying57 rfl nz25 rfl) ?_
      refine J.val (v := .slice adxa_2 xa.2.2.1.length cpxa_2) rfl rfl (V.ld rfl (Ld.sc sc25 (Rd.cl 1 rfl rfl))) ?_
      refine J.val (v := .int .i64 (((xa.2.2.1.length : Nat) : Int))) rfl rfl (V.len Try.underlying25 rfl) ?_
      refine J.val (v := .int .i64 0) rfl rfl (V.mv rfl) ?_
      refine J.nil ?_
      obtain ⟨o1756, ho1757, h⟩ := ob h
      refine CJ.meetN (fun ρ K' L' => ∃ (l1751 : (List (Int × Int × Int × Int × Bool))) (ad1752 : Option Addr) (cp1753 : Nat), l1751 = o1756 ∧ Fits [(1, .slice adxb_0 xb.length cpxb_0), (4, .pointer (some ⟨b1042, 0, none⟩)), (7, .pointer (some ⟨b1043, 0, none⟩)), (11, .slice ad1752 l1751.length cp1753)] ρ ∧ Hp.le K K' ∧ L' = Cl b1042 57 [.int .i64 xa.1, .slice adxa_1 xa.2.1.length cpxa_1, .slice adxa_2 xa.2.2.1.length cpxa_2, .slice adxa_3 xa.2.2.2.length cpxa_3] :: Cl b1043 28 [.slice adxd_0 xd.length cpxd_0] :: Row Hp.nil 67 (.cons (.int .i64) (.cons (.int .i64) (.cons (.int .i64) (.cons (.int .i64) (.one .bool))))) (.slice ad1752 l1751.length cp1753) l1751 :: F) ?_ ?_
      · skip
        refine CJ.block ?_
        refine CJ.front 2 rfl ?_
        refine CJ.front 2 rfl ?_
        refine CJ.loop (fun s ρ K' L' => ∃ (l1852 : (List (Int × Int × Int × Int × Bool))) (i1857 : Int) (ad1853 : Option Addr) (cp1854 : Nat), (l1852, i1857) = s ∧ Fits [(1, .slice adxb_0 xb.length cpxb_0), (2, .slice adxc_0 xc.length cpxc_0), (4, .pointer (some ⟨b1042, 0, none⟩)), (7, .pointer (some ⟨b1043, 0, none⟩)), (11, .slice ad1853 l1852.length cp1854), (57, .slice adxa_2 xa.2.2.1.length cpxa_2), (58, .int .i64 (((xa.2.2.1.length : Nat) : Int))), (59, .int .i64 i1857)] ρ ∧ Hp.le K K' ∧ L' = Cl b1042 57 [.int .i64 xa.1, .slice adxa_1 xa.2.1.length cpxa_1, .slice adxa_2 xa.2.2.1.length cpxa_2, .slice adxa_3 xa.2.2.2.length cpxa_3] :: Cl b1043 28 [.slice adxd_0 xd.length cpxd_0] :: Row Hp.nil 67 (.cons (.int .i64) (.cons (.int .i64) (.cons (.int .i64) (.cons (.int .i64) (.one .bool))))) (.slice ad1853 l1852.length cp1854) l1852 :: F) ho1757 ⟨l1254, 0, ad1255, cp1256, rfl, ⟨rfl, rfl, rfl, rfl, rfl, rfl, rfl, rfl, trivial⟩, (Hp.le_refl _), rfl⟩ ?_
        rintro s ρ K1851 _ r1955 ⟨l1852, i1857, ad1853, cp1854, rfl, hf1953, hk1954, rfl⟩ h1952
        obtain ⟨ρ, rfl⟩ := hf1953.ex
        refine CJ.front 2 rfl ?_
        refine CJ.wit Row.hn (fun hn1856 => ?_)
        refine CJ.seq ?_
        refine CJ.region ?_
        refine J.val (v := .bool (decide (i1857 < (((xa.2.2.1.length : Nat) : Int))))) rfl rfl (V.lss rfl rfl) ?_
        refine J.nil ?_
        refine CJ.seq ?_
        refine CJ.cond rfl (fun hc1956 => ?_) (fun hc1956 => ?_)
        · have h1952 := ct hc1956 h1952
          refine CJ.skip ?_
          refine CJ.seq ?_
          refine CJ.block ?_
          refine CJ.seq ?_
          refine CJ.region ?_
          refine J.val (v := .int .i64 i1857) rfl rfl (V.mv rfl) ?_
          obtain ⟨x1957, hx1958, h1952⟩ := ob h1952
          obtain ⟨p1959, p1960, p1961⟩ := getI_some hx1958
          obtain ⟨b1962, o1963, e1964, a1965⟩ := ((fxa_2.mono hk1954)).at p1960
          refine J.val rfl rfl (V.iad Try.underlying25 sz28 rfl e1964 rfl p1959 p1961) ?_
          obtain ⟨ad1966, cp1967, c1968, f1969⟩ := ((a1965).one).sl
          refine J.val (v := .agg #[.slice ad1966 x1957.length cp1967]) rfl rfl (V.ld rfl (Ld.aggK (cs := [.slice ad1966 x1957.length cp1967]) Try.underlying28 sz28 rfl ⟨c1968, trivial⟩ (Hp.le_refl _))) ?_
          refine J.op rfl (A.alloc (cs := [.slice none 0 0]) inf28 rfl) ?_
          rintro _ _ _ ⟨b1970, rfl, rfl, rfl⟩
          refine J.val (v := .int .i64 i1857) rfl rfl (V.as rfl) ?_
          refine J.op rfl (A.store (v := .agg #[.slice ad1966 x1957.length cp1967]) (cs' := [.slice ad1966 x1957.length cp1967]) sz28 rfl rfl rfl rfl rfl rfl) ?_
          rintro _ _ _ ⟨rfl, rfl, rfl⟩
          refine J.nil ?_
          refine CJ.seq ?_
          refine CJ.region ?_
          refine J.val (v := .agg #[.slice ad1966 x1957.length cp1967]) rfl rfl (V.ld rfl (Ld.agg (cs := [.slice ad1966 x1957.length cp1967]) Try.underlying28 sz28 rfl (Rd.cls 0 0 rfl rfl))) ?_
          refine J.val (v := .slice adxb_0 xb.length cpxb_0) rfl rfl (V.mv rfl) ?_
          obtain ⟨r1971, hr1972, h1952⟩ := ob h1952
          refine J.op rfl (A.call (L1 := []) Try.call50 rfl (row_Subst_ok f1969 (fxb_0.mono hk1954) hr1972) rfl rfl) ?_
          rintro _ _ _ ⟨v1978, _, rfl, ⟨⟨l1973, i1974, ad1975, cp1976, rfl, rfl, rfl⟩, rfl⟩, _, rfl⟩
          refine J.wit Row.hn (fun hn1977 => ?_)
          refine J.val (v := .tuple #[.agg #[.slice ad1975 l1973.length cp1976], .int .i64 i1974]) rfl rfl (V.mv rfl) ?_
          refine J.val (v := .agg #[.slice ad1975 l1973.length cp1976]) rfl rfl (V.ext rfl rfl) ?_
          refine J.val (v := .int .i64 i1974) rfl rfl (V.ext rfl rfl) ?_
          refine J.op rfl (A.alloc (cs := [.slice none 0 0]) inf28 rfl) ?_
          rintro _ _ _ ⟨b1982, rfl, rfl, rfl⟩
          refine J.op rfl (A.store (v := .agg #[.slice ad1975 l1973.length cp1976]) (cs' := [.slice ad1975 l1973.length cp1976]) sz28 rfl rfl rfl rfl rfl rfl) ?_
          rintro _ _ _ ⟨rfl, rfl, rfl⟩
          refine J.val (v := .int .i64 i1974) rfl rfl (V.as rfl) ?_
          refine J.nil ?_
          refine CJ.seq ?_
          refine CJ.mix [Cl b1982 28 [.slice ad1975 l1973.length cp1976], Cl b1970 28 [.slice ad1966 x1957.length cp1967], Row Hp.nil 67 (.cons (.int .i64) (.cons (.int .i64) (.cons (.int .i64) (.cons (.int .i64) (.one .bool))))) (.slice ad1853 l1852.length cp1854) l1852, Cl b1042 57 [.int .i64 xa.1, .slice adxa_1 xa.2.1.length cpxa_1, .slice adxa_2 xa.2.2.1.length cpxa_2, .slice adxa_3 xa.2.2.2.length cpxa_3], Cl b1043 28 [.slice adxd_0 xd.length cpxd_0]] [([0, 1, 2, 3, 4, 5, 6], 7)] [8, 9, 10, 11, 12] [] mixO (by decide +kernel) ⟨0, rfl, 1, rfl, 1, rfl, 1, rfl, 1, rfl, trivial⟩ rfl rfl rfl ?_
          refine JM.cons ?_
          refine JQ.val (v := .slice adxc_0 xc.length cpxc_0) rfl rfl (V.mv rfl) ?_
          refine JQ.val (v := .int .i64 i1857) rfl rfl (V.mv rfl) ?_
          obtain ⟨x2010, hx2011, h1952⟩ := ob h1952
          obtain ⟨p2012, p2013, p2014⟩ := getI_some hx2011
          obtain ⟨b2015, o2016, e2017, a2018⟩ := ((fxc_0.mono hk1954)).at p2013
          refine JQ.val rfl rfl (V.iad Try.underlying25 sz28 rfl e2017 rfl p2012 p2014) ?_
          obtain ⟨ad2019, cp2020, c2021, f2022⟩ := ((a2018).one).sl
          refine JQ.val (v := .agg #[.slice ad2019 x2010.length cp2020]) rfl rfl (V.ld rfl (Ld.aggK (cs := [.slice ad2019 x2010.length cp2020]) Try.underlying28 sz28 rfl ⟨c2021, trivial⟩ (Hp.le_refl _))) ?_
          refine JQ.val (v := .agg #[.slice ad1975 l1973.length cp1976]) rfl rfl (V.ld rfl (Ld.agg (cs := [.slice ad1975 l1973.length cp1976]) Try.underlying28 sz28 rfl (Rd.cls 0 0 rfl rfl))) ?_
          refine JQ.val (v := .int .i64 i1857) rfl rfl (V.mv rfl) ?_
          refine JQ.val (v := .int .i64 (IntKind.wrap .i64 (16 * i1857))) rfl rfl (V.mul rfl rfl) ?_
          refine JQ.nil ?_
          refine JA.front 1 rfl ?_
          refine JA.persist (Hp.nil_le _) (by decide) (fun K2023 hK2024 f2025 => ?_)
          obtain ⟨r2026, hr2027, h1952⟩ := ob h1952
          refine JA.op rfl (A.call (L1 := []) Try.call24 rfl (relate_Flow_ok (f2022.mono hK2024) f2025 hr2027) rfl rfl) ?_
          rintro _ _ _ ⟨v2033, _, rfl, ⟨⟨l2028, i2029, ad2030, cp2031, rfl, rfl, rfl⟩, rfl⟩, _, rfl⟩
          refine ⟨fun w hs => Hold.sub hK2024 ⟨1, rfl, 1, rfl, 1, rfl, 1, rfl, 1, rfl, trivial⟩ hs, ?_⟩
          refine JM.wit Row.hn (fun hn2032 => ?_)
          refine JM.nil ?_
          refine JQ.val (v := .tuple #[.slice ad2030 l2028.length cp2031, .int .i64 i2029]) rfl rfl (V.mv rfl) ?_
          refine JQ.val (v := .slice ad2030 l2028.length cp2031) rfl rfl (V.ext rfl rfl) ?_
          refine JQ.val (v := .int .i64 i2029) rfl rfl (V.ext rfl rfl) ?_
          refine JQ.val (v := .slice ad2030 l2028.length cp2031) rfl rfl (V.as rfl) ?_
          refine JQ.val (v := .int .i64 i2029) rfl rfl (V.as rfl) ?_
          refine JQ.nil ?_
          refine J.nil ?_
          refine CJ.region ?_
          refine J.val (v := .slice ad1853 l1852.length cp1854) rfl rfl (V.mv rfl) ?_
          refine J.val (v := .slice ad2030 l2028.length cp2031) rfl rfl (V.mv rfl) ?_
          obtain ⟨z2037, hz2038, h1952⟩ := ob h1952
          refine J.front 3 rfl ?_
          refine J.op rfl (A.appR (Kr := Hp.nil) Try.underlying35 inf67 rfl rfl (by decide) (by decide) rfl rfl (Els.flat rfl) (Els.flat rfl) hz2038) ?_
          rintro _ _ _ ⟨v2039, rfl, rfl, rfl⟩
          refine J.wit Row.form ?_
          rintro ⟨ad2040, cp2041, rfl, _, _, hn2042⟩
          refine J.val (v := .slice ad2040 z2037.length cp2041) rfl rfl (V.as rfl) ?_
          refine J.nil ?_
          refine CJ.region ?_
          refine J.val (v := .int .i64 (IntKind.wrap .i64 (i1857 + 1))) rfl rfl (V.add rfl rfl) ?_
          refine J.val (v := .int .i64 (IntKind.wrap .i64 (i1857 + 1))) rfl rfl (V.mv rfl) ?_
          refine J.dropAt 1 rfl ?_
          refine J.dropAt 1 rfl ?_
          refine J.front 2 rfl ?_
          refine J.front 2 rfl ?_
          refine J.nil ?_
          have e := Option.some.inj h1952
          subst e
          exact ⟨rfl, ⟨z2037, IntKind.wrap .i64 (i1857 + 1), ad2040, cp2041, rfl, ⟨rfl, rfl, rfl, rfl, rfl, rfl, rfl, rfl, trivial⟩, (hk1954.trans hK2024), rfl⟩⟩
        · have h1952 := cf hc1956 h1952
          refine CJ.front 2 rfl ?_
          refine CJ.front 2 rfl ?_
          refine CJ.exit ?_
          have e := Option.some.inj h1952
          subst e
          refine ⟨nofun, fun e => ?_⟩
          subst e
          exact ⟨rfl, ⟨l1852, ad1853, cp1854, rfl, ⟨rfl, rfl, rfl, rfl, trivial⟩, hk1954, rfl⟩⟩
      · rintro ρ K1750 _ ⟨l1751, ad1752, cp1753, rfl, hf2043, hk2044, rfl⟩
        obtain ⟨ρ, rfl⟩ := hf2043.ex
        refine PJ.front 2 rfl ?_
        refine PJ.wit Row.hn (fun hn1755 => ?_)
        refine PJ.done ?_
        refine CJ.seq ?_
        refine CJ.region ?_
        refine J.val rfl rfl (V.fad Try.underlying57 rfl nz28 rfl) ?_
        refine J.val (v := .agg #[.slice adxa_3 xa.2.2.2.length cpxa_3]) rfl rfl (V.ld rfl (Ld.agg (cs := [.slice adxa_3 xa.2.2.2.length cpxa_3]) Try.underlying28 sz28 rfl (Rd.cls 1 3 rfl rfl))) ?_
        refine J.val (v := .slice adxb_0 xb.length cpxb_0) rfl rfl (V.mv rfl) ?_
        obtain ⟨r2045, hr2046, h⟩ := ob h
        refine J.op rfl (A.call (L1 := []) Try.call50 rfl (row_Subst_ok (fxa_3.mono hk2044) (fxb_0.mono hk2044) hr2046) rfl rfl) ?_
        rintro _ _ _ ⟨v2052, _, rfl, ⟨⟨l2047, i2048, ad2049, cp2050, rfl, rfl, rfl⟩, rfl⟩, _, rfl⟩
        refine J.wit Row.hn (fun hn2051 => ?_)
        refine J.val (v := .tuple #[.agg #[.slice ad2049 l2047.length cp2050], .int .i64 i2048]) rfl rfl (V.mv rfl) ?_
        refine J.val (v := .agg #[.slice ad2049 l2047.length cp2050]) rfl rfl (V.ext rfl rfl) ?_
        refine J.val (v := .int .i64 i2048) rfl rfl (V.ext rfl rfl) ?_
        refine J.op rfl (A.alloc (cs := [.slice none 0 0]) inf28 rfl) ?_
        rintro _ _ _ ⟨b2056, rfl, rfl, rfl⟩
        refine J.op rfl (A.store (v := .agg #[.slice ad2049 l2047.length cp2050]) (cs' := [.slice ad2049 l2047.length cp2050]) sz28 rfl rfl rfl rfl rfl rfl) ?_
        rintro _ _ _ ⟨rfl, rfl, rfl⟩
        refine J.val (v := .int .i64 i2048) rfl rfl (V.as rfl) ?_
        refine J.nil ?_
        refine CJ.seq ?_
        refine CJ.region ?_
        refine J.val (v := .agg #[.slice ad2049 l2047.length cp2050]) rfl rfl (V.ld rfl (Ld.agg (cs := [.slice ad2049 l2047.length cp2050]) Try.underlying28 sz28 rfl (Rd.cls 0 0 rfl rfl))) ?_
        refine J.val (v := .agg #[.slice adxd_0 xd.length cpxd_0]) rfl rfl (V.ld rfl (Ld.agg (cs := [.slice adxd_0 xd.length cpxd_0]) Try.underlying28 sz28 rfl (Rd.cls 4 0 rfl rfl))) ?_
        refine J.front 1 rfl ?_
        refine J.persist (Hp.nil_le _) (by decide) (fun K2057 hK2058 f2059 => ?_)
        obtain ⟨r2060, hr2061, h⟩ := ob h
        refine J.op rfl (A.call (L1 := []) Try.call24 rfl (relate_Flow_ok f2059 (fxd_0.mono (hk2044.trans hK2058)) hr2061) rfl rfl) ?_
        rintro _ _ _ ⟨v2067, _, rfl, ⟨⟨l2062, i2063, ad2064, cp2065, rfl, rfl, rfl⟩, rfl⟩, _, rfl⟩
        refine J.wit Row.hn (fun hn2066 => ?_)
        refine J.val (v := .tuple #[.slice ad2064 l2062.length cp2065, .int .i64 i2063]) rfl rfl (V.mv rfl) ?_
        refine J.val (v := .slice ad2064 l2062.length cp2065) rfl rfl (V.ext rfl rfl) ?_
        refine J.val (v := .int .i64 i2063) rfl rfl (V.ext rfl rfl) ?_
        refine J.val (v := .slice ad2064 l2062.length cp2065) rfl rfl (V.as rfl) ?_
        refine J.val (v := .int .i64 i2063) rfl rfl (V.as rfl) ?_
        refine J.nil ?_
        refine CJ.seq ?_
        refine CJ.region ?_
        refine J.val (v := .slice ad1752 l1751.length cp1753) rfl rfl (V.mv rfl) ?_
        refine J.val (v := .slice ad2064 l2062.length cp2065) rfl rfl (V.mv rfl) ?_
        obtain ⟨z2071, hz2072, h⟩ := ob h
        refine J.front 2 rfl ?_
        refine J.op rfl (A.appR (Kr := Hp.nil) Try.underlying35 inf67 rfl rfl (by decide) (by decide) rfl rfl (Els.flat rfl) (Els.flat rfl) hz2072) ?_
        rintro _ _ _ ⟨v2073, rfl, rfl, rfl⟩
        refine J.wit Row.form ?_
        rintro ⟨ad2074, cp2075, rfl, _, _, hn2076⟩
        refine J.val (v := .slice ad2074 z2071.length cp2075) rfl rfl (V.as rfl) ?_
        refine J.val (v := .int .i64 0) rfl rfl (V.as rfl) ?_
        refine J.nil ?_
        refine CJ.ret ?_
        have e := Option.some.inj h
        subst e
        exact ⟨_, [Row Hp.nil 67 (.cons (.int .i64) (.cons (.int .i64) (.cons (.int .i64) (.cons (.int .i64) (.one .bool))))) (.slice ad2074 z2071.length cp2075) z2071], Res.two rfl rfl rfl, ⟨z2071, 0, ad2074, cp2075, rfl, rfl, rfl⟩, (hk2044.trans hK2058), fun w hs => (Sep.dropAt 1 rfl (Sep.dropAt 1 rfl (Sep.dropAt 1 rfl hs)))⟩
noncomputable def fn_term_Needs_l1 (xa : (Int × Int × Int × (List Int) × (List Int) × (List Int))) (xb : (Int × Int × (List (List (Int × Bool))) × (List (Int × Bool)) × (List (Int × (List (Int × Int)) × (List (List (Int × Bool))) × (List (Int × Bool)))))) : ((List (List (Int × Bool))) × Int) → Option (((List (List (Int × Bool))) × Int) ⊕ (List (List (Int × Bool)))) := fun ((l659, i664) : ((List (List (Int × Bool))) × Int)) => cond (decide (i664 < (((xa.2.2.2.2.1.length : Nat) : Int)))) ((getI xa.2.2.2.2.1 i664).bind fun x709 => (getI xb.2.2.1 x709).bind fun x718 => (app l659 (([x718] : List (List (Int × Bool))))).bind fun z734 => some (.inl ((z734, IntKind.wrap .i64 (i664 + 1))))) (some (.inr (l659)))
noncomputable def fn_term_Needs (xa : (Int × Int × Int × (List Int) × (List Int) × (List Int))) (xb : (Int × Int × (List (List (Int × Bool))) × (List (Int × Bool)) × (List (Int × (List (Int × Int)) × (List (List (Int × Bool))) × (List (Int × Bool)))))) : Option (((List (Int × Int × Int × Int × Bool)) × Int)) :=
  (fn_term_form (xa.1, xa.2.1, xa.2.2.1, xa.2.2.2.1, xa.2.2.2.2.1, xa.2.2.2.2.2)).bind fun i425 => cond (!decide (i425 = 0)) (some (([], i425))) ((fn_term_within (xa.1, xa.2.1, xa.2.2.1, xa.2.2.2.1, xa.2.2.2.2.1, xa.2.2.2.2.2) (xb.1, xb.2.1, xb.2.2.1, xb.2.2.2.1, xb.2.2.2.2)).bind fun t433 => cond (!t433) (some (([], 7))) (cond (decide (xa.1 = 3)) (cond (decide ((((xb.2.2.1.length : Nat) : Int)) = 0)) (some (([], 14))) ((getI xb.2.2.1 0).bind fun x466 => (fn_relate_Flow x466 xb.2.2.2.1 7 0).bind fun (l481, i482) => some ((l481, i482)))) (cond (decide (xa.1 = 4)) ((loop (fn_term_Needs_l1 xa xb) ([], 0) : Option ((List (List (Int × Bool))))).bind fun l612 => (getI xb.2.2.2.2 xa.2.1).bind fun x790 => (getI xb.2.2.1 xa.2.2.1).bind fun x811 => (fn_sig_Call (x790.1, x790.2.1, x790.2.2.1, x790.2.2.2) xa.2.2.2.2.2 l612 x811).bind fun (l829, i830) => some ((l829, i830))) (some (([], 0))))))
set_option maxRecDepth 100000 in
set_option maxHeartbeats 4000000 in
theorem term_Needs_ok {K : Hp} {xa : (Int × Int × Int × (List Int) × (List Int) × (List Int))} {xb : (Int × Int × (List (List (Int × Bool))) × (List (Int × Bool)) × (List (Int × (List (Int × Int)) × (List (List (Int × Bool))) × (List (Int × Bool)))))} {adxa_3 : Option Addr} {cpxa_3 : Nat} {adxa_4 : Option Addr} {cpxa_4 : Nat} {adxa_5 : Option Addr} {cpxa_5 : Nat} {adxb_2 : Option Addr} {cpxb_2 : Nat} {adxb_3 : Option Addr} {cpxb_3 : Nat} {adxb_4 : Option Addr} {cpxb_4 : Nat} (fxa_3 : Is K (.sl (.int .i64)) [.slice adxa_3 xa.2.2.2.1.length cpxa_3] xa.2.2.2.1) (fxa_4 : Is K (.sl (.int .i64)) [.slice adxa_4 xa.2.2.2.2.1.length cpxa_4] xa.2.2.2.2.1) (fxa_5 : Is K (.sl (.int .i64)) [.slice adxa_5 xa.2.2.2.2.2.length cpxa_5] xa.2.2.2.2.2) (fxb_2 : Is K (.sl (.one (.sl (.cons (.int .i64) (.one .bool))))) [.slice adxb_2 xb.2.2.1.length cpxb_2] xb.2.2.1) (fxb_3 : Is K (.sl (.cons (.int .i64) (.one .bool))) [.slice adxb_3 xb.2.2.2.1.length cpxb_3] xb.2.2.2.1) (fxb_4 : Is K (.sl (.cons (.int .i64) (.cons (.sl (.cons (.int .i64) (.one (.int .i64)))) (.cons (.sl (.one (.sl (.cons (.int .i64) (.one .bool))))) (.one (.one (.sl (.cons (.int .i64) (.one .bool))))))))) [.slice adxb_4 xb.2.2.2.2.length cpxb_4] xb.2.2.2.2) {r : ((List (Int × Int × Int × Int × Bool)) × Int)} (h : fn_term_Needs xa xb = some r) :
    Tr Try.prog 8 #[.agg #[.int .i64 xa.1, .int .i64 xa.2.1, .int .i64 xa.2.2.1, .slice adxa_3 xa.2.2.2.1.length cpxa_3, .slice adxa_4 xa.2.2.2.2.1.length cpxa_4, .slice adxa_5 xa.2.2.2.2.2.length cpxa_5], .agg #[.int .i64 xb.1, .int .i64 xb.2.1, .slice adxb_2 xb.2.2.1.length cpxb_2, .slice adxb_3 xb.2.2.2.1.length cpxb_3, .slice adxb_4 xb.2.2.2.2.length cpxb_4]] K [] (fun v K' L' => (∃ (l415 : (List (Int × Int × Int × Int × Bool))) (i420 : Int) (ad416 : Option Addr) (cp417 : Nat), (l415, i420) = r ∧ .tuple #[.slice ad416 l415.length cp417, .int .i64 i420] = v ∧ L' = [Row Hp.nil 67 (.cons (.int .i64) (.cons (.int .i64) (.cons (.int .i64) (.cons (.int .i64) (.one .bool))))) (.slice ad416 l415.length cp417) l415]) ∧ K = K') := by
  refine Tr.k ?_
  refine Tr.of Try.func8 rfl Try.ntmps8 rfl (fun E F => ?_)
  unfold fn_term_Needs at h
  refine CJ.seq ?_
  refine CJ.region ?_
  refine J.op rfl (A.box (v := .agg #[.int .i64 xa.1, .int .i64 xa.2.1, .int .i64 xa.2.2.1, .slice adxa_3 xa.2.2.2.1.length cpxa_3, .slice adxa_4 xa.2.2.2.2.1.length cpxa_4, .slice adxa_5 xa.2.2.2.2.2.length cpxa_5]) (cs := [.int .i64 xa.1, .int .i64 xa.2.1, .int .i64 xa.2.2.1, .slice adxa_3 xa.2.2.2.1.length cpxa_3, .slice adxa_4 xa.2.2.2.2.1.length cpxa_4, .slice adxa_5 xa.2.2.2.2.2.length cpxa_5]) rfl rfl) ?_
  rintro _ _ _ ⟨b421, rfl, rfl, rfl⟩
  refine J.op rfl (A.box (v := .agg #[.int .i64 xb.1, .int .i64 xb.2.1, .slice adxb_2 xb.2.2.1.length cpxb_2, .slice adxb_3 xb.2.2.2.1.length cpxb_3, .slice adxb_4 xb.2.2.2.2.length cpxb_4]) (cs := [.int .i64 xb.1, .int .i64 xb.2.1, .slice adxb_2 xb.2.2.1.length cpxb_2, .slice adxb_3 xb.2.2.2.1.length cpxb_3, .slice adxb_4 xb.2.2.2.2.length cpxb_4]) rfl rfl) ?_
  rintro _ _ _ ⟨b422, rfl, rfl, rfl⟩
  refine J.val (v := .slice none 0 0) rfl rfl (V.as rfl) ?_
  refine J.val (v := .int .i64 0) rfl rfl (V.as rfl) ?_
  refine J.nil ?_
  refine CJ.seq ?_
  refine CJ.seq ?_
  refine CJ.region ?_
  refine J.val (v := .agg #[.int .i64 xa.1, .int .i64 xa.2.1, .int .i64 xa.2.2.1, .slice adxa_3 xa.2.2.2.1.length cpxa_3, .slice adxa_4 xa.2.2.2.2.1.length cpxa_4, .slice adxa_5 xa.2.2.2.2.2.length cpxa_5]) rfl rfl (V.ld rfl (Ld.agg (cs := [.int .i64 xa.1, .int .i64 xa.2.1, .int .i64 xa.2.2.1, .slice adxa_3 xa.2.2.2.1.length cpxa_3, .slice adxa_4 xa.2.2.2.2.1.length cpxa_4, .slice adxa_5 xa.2.2.2.2.2.length cpxa_5]) Try.underlying24 sz24 rfl (Rd.cls 1 0 rfl rfl))) ?_
  obtain ⟨r423, hr424, h⟩ := ob h
  refine J.op rfl (A.call (L1 := []) Try.call22 rfl (term_form_ok fxa_3 fxa_4 fxa_5 hr424) rfl rfl) ?_
  rintro _ _ _ ⟨v426, _, rfl, ⟨⟨i425, rfl, rfl, rfl⟩, rfl⟩, _, rfl⟩
  refine J.val (v := .int .i64 i425) rfl rfl (V.as rfl) ?_
  refine J.nil ?_
  refine CJ.seq ?_
  refine CJ.region ?_
  refine J.val (v := .int .i64 i425) rfl rfl (V.mv rfl) ?_
  refine J.val (v := .bool (!decide (i425 = 0))) rfl rfl (V.neq rfl rfl) ?_
  refine J.nil ?_
  refine CJ.cond rfl (fun hc429 => ?_) (fun hc429 => ?_)
  · have h := ct hc429 h
    refine CJ.seq ?_
    refine CJ.region ?_
    refine J.val (v := .int .i64 i425) rfl rfl (V.mv rfl) ?_
    refine J.val (v := .slice none 0 0) rfl rfl (V.as rfl) ?_
    refine J.val (v := .int .i64 i425) rfl rfl (V.as rfl) ?_
    refine J.nil ?_
    refine CJ.by (fun w hs => Sep.rowNil (e := 67) (t := (.cons (.int .i64) (.cons (.int .i64) (.cons (.int .i64) (.cons (.int .i64) (.one .bool)))))) hs) ?_
    refine CJ.ret ?_
    have e := Option.some.inj h
    subst e
    exact ⟨_, [Row Hp.nil 67 (.cons (.int .i64) (.cons (.int .i64) (.cons (.int .i64) (.cons (.int .i64) (.one .bool))))) (.slice none ((([] : List (Int × Int × Int × Int × Bool))).length) 0) (([] : List (Int × Int × Int × Int × Bool)))], Res.two rfl rfl rfl, ⟨[], i425, none, 0, rfl, rfl, rfl⟩, (Hp.le_refl _), fun w hs => (Sep.dropAt 1 rfl (Sep.dropAt 1 rfl hs))⟩
  · have h := cf hc429 h
    refine CJ.skip ?_
    refine CJ.seq ?_
    refine CJ.seq ?_
    refine CJ.region ?_
    refine J.val (v := .agg #[.int .i64 xa.1, .int .i64 xa.2.1, .int .i64 xa.2.2.1, .slice adxa_3 xa.2.2.2.1.length cpxa_3, .slice adxa_4 xa.2.2.2.2.1.length cpxa_4, .slice adxa_5 xa.2.2.2.2.2.length cpxa_5]) rfl rfl (V.ld rfl (Ld.agg (cs := [.int .i64 xa.1, .int .i64 xa.2.1, .int .i64 xa.2.2.1, .slice adxa_3 xa.2.2.2.1.length cpxa_3, .slice adxa_4 xa.2.2.2.2.1.length cpxa_4, .slice adxa_5 xa.2.2.2.2.2.length cpxa_5]) Try.underlying24 sz24 rfl (Rd.cls 1 0 rfl rfl))) ?_
    refine J.val (v := .agg #[.int .i64 xb.1, .int .i64 xb.2.1, .slice adxb_2 xb.2.2.1.length cpxb_2, .slice adxb_3 xb.2.2.2.1.length cpxb_3, .slice adxb_4 xb.2.2.2.2.length cpxb_4]) rfl rfl (V.ld rfl (Ld.agg (cs := [.int .i64 xb.1, .int .i64 xb.2.1, .slice adxb_2 xb.2.2.1.length cpxb_2, .slice adxb_3 xb.2.2.2.1.length cpxb_3, .slice adxb_4 xb.2.2.2.2.length cpxb_4]) Try.underlying34 sz34 rfl (Rd.cls 0 0 rfl rfl))) ?_
    obtain ⟨r431, hr432, h⟩ := ob h
    refine J.op rfl (A.call (L1 := []) Try.call23 rfl (term_within_ok fxa_3 fxa_4 fxa_5 fxb_2 fxb_3 fxb_4 hr432) rfl rfl) ?_
    rintro _ _ _ ⟨v434, _, rfl, ⟨⟨t433, rfl, rfl, rfl⟩, rfl⟩, _, rfl⟩
    refine J.val (v := .bool (!t433)) rfl rfl (V.not rfl) ?_
    refine J.nil ?_
    refine CJ.cond rfl (fun hc437 => ?_) (fun hc437 => ?_)
    · have h := ct hc437 h
      refine CJ.seq ?_
      refine CJ.region ?_
      refine J.val (v := .slice none 0 0) rfl rfl (V.as rfl) ?_
      refine J.val (v := .int .i64 7) rfl rfl (V.as rfl) ?_
      refine J.nil ?_
      refine CJ.by (fun w hs => Sep.rowNil (e := 67) (t := (.cons (.int .i64) (.cons (.int .i64) (.cons (.int .i64) (.cons (.int .i64) (.one .bool)))))) hs) ?_
      refine CJ.ret ?_
      have e := Option.some.inj h
      subst e
      exact ⟨_, [Row Hp.nil 67 (.cons (.int .i64) (.cons (.int .i64) (.cons (.int .i64) (.cons (.int .i64) (.one .bool))))) (.slice none ((([] : List (Int × Int × Int × Int × Bool))).length) 0) (([] : List (Int × Int × Int × Int × Bool)))], Res.two rfl rfl rfl, ⟨[], 7, none, 0, rfl, rfl, rfl⟩, (Hp.le_refl _), fun w hs => (Sep.dropAt 1 rfl (Sep.dropAt 1 rfl hs))⟩
    · have h := cf hc437 h
      refine CJ.skip ?_
      refine CJ.seq ?_
      refine CJ.seq ?_
      refine CJ.region ?_
      refine J.val rfl rfl (V.fad Try.underlying24 rfl nz3 rfl) ?_
      refine J.val (v := .int .i64 xa.1) rfl rfl (V.ld rfl (Ld.sc sc3 (Rd.cl 1 rfl rfl))) ?_
      refine J.nil ?_
      refine CJ.block ?_
      refine CJ.seq ?_
      refine CJ.region ?_
      refine J.val (v := .bool (decide (xa.1 = 3))) rfl rfl (V.eql rfl rfl) ?_
      refine J.val (v := .bool (decide (xa.1 = 3))) rfl rfl (V.as rfl) ?_
      refine J.nil ?_
      refine CJ.cond rfl (fun hc439 => ?_) (fun hc439 => ?_)
      · have h := ct hc439 h
        refine CJ.seq ?_
        refine CJ.seq ?_
        refine CJ.region ?_
        refine J.val rfl rfl (V.fad Try.underlying34 rfl nz25 rfl) ?_
        refine J.val (v := .slice adxb_2 xb.2.2.1.length cpxb_2) rfl rfl (V.ld rfl (Ld.sc sc25 (Rd.cl 0 rfl rfl))) ?_
        refine J.val (v := .int .i64 (((xb.2.2.1.length : Nat) : Int))) rfl rfl (V.len Try.underlying25 rfl) ?_
        refine J.val (v := .bool (decide ((((xb.2.2.1.length : Nat) : Int)) = 0))) rfl rfl (V.eql rfl rfl) ?_
        refine J.nil ?_
        refine CJ.cond rfl (fun hc440 => ?_) (fun hc440 => ?_)
        · have h := ct hc440 h
          refine CJ.seq ?_
          refine CJ.region ?_
          refine J.val (v := .slice none 0 0) rfl rfl (V.as rfl) ?_
          refine J.val (v := .int .i64 14) rfl rfl (V.as rfl) ?_
          refine J.nil ?_
          refine CJ.by (fun w hs => Sep.rowNil (e := 67) (t := (.cons (.int .i64) (.cons (.int .i64) (.cons (.int .i64) (.cons (.int .i64) (.one .bool)))))) hs) ?_
          refine CJ.ret ?_
          have e := Option.some.inj h
          subst e
          exact ⟨_, [Row Hp.nil 67 (.cons (.int .i64) (.cons (.int .i64) (.cons (.int .i64) (.cons (.int .i64) (.one .bool))))) (.slice none ((([] : List (Int × Int × Int × Int × Bool))).length) 0) (([] : List (Int × Int × Int × Int × Bool)))], Res.two rfl rfl rfl, ⟨[], 14, none, 0, rfl, rfl, rfl⟩, (Hp.le_refl _), fun w hs => (Sep.dropAt 1 rfl (Sep.dropAt 1 rfl hs))⟩
        · have h := cf hc440 h
          refine CJ.skip ?_
          refine CJ.seq ?_
          refine CJ.mix [Cl b422 34 [.int .i64 xb.1, .int .i64 xb.2.1, .slice adxb_2 xb.2.2.1.length cpxb_2, .slice adxb_3 xb.2.2.2.1.length cpxb_3, .slice adxb_4 xb.2.2.2.2.length cpxb_4], Cl b421 24 [.int .i64 xa.1, .int .i64 xa.2.1, .int .i64 xa.2.2.1, .slice adxa_3 xa.2.2.2.1.length cpxa_3, .slice adxa_4 xa.2.2.2.2.1.length cpxa_4, .slice adxa_5 xa.2.2.2.2.2.length cpxa_5]] [([0, 1, 2, 3, 4, 5], 6)] [7, 8, 9, 10] [] mixO (by decide +kernel) ⟨0, rfl, 0, rfl, trivial⟩ rfl rfl rfl ?_
          refine JM.cons ?_
          refine JQ.val rfl rfl (V.fad Try.underlying34 rfl nz25 rfl) ?_
          refine JQ.val (v := .slice adxb_2 xb.2.2.1.length cpxb_2) rfl rfl (V.ld rfl (Ld.sc sc25 (Rd.cl 0 rfl rfl))) ?_
          obtain ⟨x466, hx467, h⟩ := ob h
          obtain ⟨p468, p469, p470⟩ := getI_some hx467
          obtain ⟨b471, o472, e473, a474⟩ := (fxb_2).at p469
          refine JQ.val rfl rfl (V.iad Try.underlying25 sz28 rfl e473 rfl p468 p470) ?_
          obtain ⟨ad475, cp476, c477, f478⟩ := ((a474).one).sl
          refine JQ.val (v := .agg #[.slice ad475 x466.length cp476]) rfl rfl (V.ld rfl (Ld.aggK (cs := [.slice ad475 x466.length cp476]) Try.underlying28 sz28 rfl ⟨c477, trivial⟩ (Hp.le_refl _))) ?_
          refine JQ.val rfl rfl (V.fad Try.underlying34 rfl nz28 rfl) ?_
          refine JQ.val (v := .agg #[.slice adxb_3 xb.2.2.2.1.length cpxb_3]) rfl rfl (V.ld rfl (Ld.agg (cs := [.slice adxb_3 xb.2.2.2.1.length cpxb_3]) Try.underlying28 sz28 rfl (Rd.cls 0 3 rfl rfl))) ?_
          refine JQ.nil ?_
          obtain ⟨r479, hr480, h⟩ := ob h
          refine JA.op rfl (A.call (L1 := []) Try.call24 rfl (relate_Flow_ok f478 fxb_3 hr480) rfl rfl) ?_
          rintro _ _ _ ⟨v486, _, rfl, ⟨⟨l481, i482, ad483, cp484, rfl, rfl, rfl⟩, rfl⟩, _, rfl⟩
          refine ⟨fun w hs => Hold.sub (Hp.le_refl _) ⟨1, rfl, 1, rfl, trivial⟩ hs, ?_⟩
          refine JM.wit Row.hn (fun hn485 => ?_)
          refine JM.nil ?_
          refine JQ.val (v := .slice ad483 l481.length cp484) rfl rfl (V.ext rfl rfl) ?_
          refine JQ.val (v := .int .i64 i482) rfl rfl (V.ext rfl rfl) ?_
          refine JQ.val (v := .slice ad483 l481.length cp484) rfl rfl (V.as rfl) ?_
          refine JQ.val (v := .int .i64 i482) rfl rfl (V.as rfl) ?_
          refine JQ.nil ?_
          refine J.nil ?_
          refine CJ.ret ?_
          have e := Option.some.inj h
          subst e
          exact ⟨_, [Row Hp.nil 67 (.cons (.int .i64) (.cons (.int .i64) (.cons (.int .i64) (.cons (.int .i64) (.one .bool))))) (.slice ad483 l481.length cp484) l481], Res.two rfl rfl rfl, ⟨l481, i482, ad483, cp484, rfl, rfl, rfl⟩, (Hp.le_refl _), fun w hs => (Sep.dropAt 1 rfl (Sep.dropAt 1 rfl hs))⟩
      · have h := cf hc439 h
        refine CJ.seq ?_
        refine CJ.region ?_
        refine J.val (v := .bool (decide (xa.1 = 4))) rfl rfl (V.eql rfl rfl) ?_
        refine J.val (v := .bool (decide (xa.1 = 4))) rfl rfl (V.as rfl) ?_
        refine J.nil ?_
        refine CJ.cond rfl (fun hc490 => ?_) (fun hc490 => ?_)
        · have h := ct hc490 h
          refine CJ.seq ?_
          refine CJ.region ?_
          refine J.val (v := .slice none 0 0) rfl rfl (V.as rfl) ?_
          refine J.nil ?_
          refine CJ.seq ?_
          refine CJ.seq ?_
          refine CJ.region ?_
          refine J.val rfl rfl (V.fad Try.underlying24 rfl nz22 rfl) ?_
          refine J.val (v := .slice adxa_4 xa.2.2.2.2.1.length cpxa_4) rfl rfl (V.ld rfl (Ld.sc sc22 (Rd.cl 1 rfl rfl))) ?_
          refine J.val (v := .int .i64 (((xa.2.2.2.2.1.length : Nat) : Int))) rfl rfl (V.len Try.underlying22 rfl) ?_
          refine J.val (v := .int .i64 0) rfl rfl (V.mv rfl) ?_
          refine J.nil ?_
          obtain ⟨o617, ho618, h⟩ := ob h
          refine CJ.meetN (fun ρ K' L' => ∃ (l612 : (List (List (Int × Bool)))) (ad613 : Option Addr) (cp614 : Nat), l612 = o617 ∧ Fits [(2, .pointer (some ⟨b421, 0, none⟩)), (3, .pointer (some ⟨b422, 0, none⟩)), (7, .slice ad613 l612.length cp614)] ρ ∧ K = K' ∧ L' = Cl b421 24 [.int .i64 xa.1, .int .i64 xa.2.1, .int .i64 xa.2.2.1, .slice adxa_3 xa.2.2.2.1.length cpxa_3, .slice adxa_4 xa.2.2.2.2.1.length cpxa_4, .slice adxa_5 xa.2.2.2.2.2.length cpxa_5] :: Cl b422 34 [.int .i64 xb.1, .int .i64 xb.2.1, .slice adxb_2 xb.2.2.1.length cpxb_2, .slice adxb_3 xb.2.2.2.1.length cpxb_3, .slice adxb_4 xb.2.2.2.2.length cpxb_4] :: Row K 28 (.one (.sl (.cons (.int .i64) (.one .bool)))) (.slice ad613 l612.length cp614) l612 :: F) ?_ ?_
          · skip
            refine CJ.block ?_
            refine CJ.by (fun w hs => Sep.rowNil (e := 28) (t := (.one (.sl (.cons (.int .i64) (.one .bool))))) hs) ?_
            refine CJ.by (fun w hs => hs.mono (Row.mono (Hp.nil_le K))) ?_
            refine CJ.front 1 rfl ?_
            refine CJ.front 2 rfl ?_
            refine CJ.loop (fun s ρ K' L' => ∃ (l659 : (List (List (Int × Bool)))) (i664 : Int) (ad660 : Option Addr) (cp661 : Nat), (l659, i664) = s ∧ Fits [(2, .pointer (some ⟨b421, 0, none⟩)), (3, .pointer (some ⟨b422, 0, none⟩)), (7, .slice ad660 l659.length cp661), (39, .slice adxa_4 xa.2.2.2.2.1.length cpxa_4), (40, .int .i64 (((xa.2.2.2.2.1.length : Nat) : Int))), (41, .int .i64 i664)] ρ ∧ K = K' ∧ L' = Cl b421 24 [.int .i64 xa.1, .int .i64 xa.2.1, .int .i64 xa.2.2.1, .slice adxa_3 xa.2.2.2.1.length cpxa_3, .slice adxa_4 xa.2.2.2.2.1.length cpxa_4, .slice adxa_5 xa.2.2.2.2.2.length cpxa_5] :: Cl b422 34 [.int .i64 xb.1, .int .i64 xb.2.1, .slice adxb_2 xb.2.2.1.length cpxb_2, .slice adxb_3 xb.2.2.2.1.length cpxb_3, .slice adxb_4 xb.2.2.2.2.length cpxb_4] :: Row K 28 (.one (.sl (.cons (.int .i64) (.one .bool)))) (.slice ad660 l659.length cp661) l659 :: F) ho618 ⟨[], 0, none, 0, rfl, ⟨rfl, rfl, rfl, rfl, rfl, rfl, trivial⟩, rfl, rfl⟩ ?_
            rintro s ρ _ _ r707 ⟨l659, i664, ad660, cp661, rfl, hf705, rfl, rfl⟩ h703
            obtain ⟨ρ, rfl⟩ := hf705.ex
            refine CJ.front 2 rfl ?_
            refine CJ.wit Row.hn (fun hn663 => ?_)
            refine CJ.seq ?_
            refine CJ.region ?_
            refine J.val (v := .bool (decide (i664 < (((xa.2.2.2.2.1.length : Nat) : Int))))) rfl rfl (V.lss rfl rfl) ?_
            refine J.nil ?_
            refine CJ.seq ?_
            refine CJ.cond rfl (fun hc708 => ?_) (fun hc708 => ?_)
            · have h703 := ct hc708 h703
              refine CJ.skip ?_
              refine CJ.seq ?_
              refine CJ.block ?_
              refine CJ.seq ?_
              refine CJ.region ?_
              obtain ⟨x709, hx710, h703⟩ := ob h703
              obtain ⟨p711, p712, p713⟩ := getI_some hx710
              obtain ⟨b714, o715, e716, a717⟩ := (fxa_4).at p712
              refine J.val rfl rfl (V.iad Try.underlying22 sz3 rfl e716 rfl p711 p713) ?_
              refine J.val (v := .int .i64 x709) rfl rfl (V.ld rfl (Ld.sc sc3 (Rd.k (a717).int (Hp.le_refl _)))) ?_
              refine J.val (v := .int .i64 x709) rfl rfl (V.as rfl) ?_
              refine J.nil ?_
              refine CJ.region ?_
              refine J.val (v := .slice ad660 l659.length cp661) rfl rfl (V.mv rfl) ?_
              refine J.val rfl rfl (V.fad Try.underlying34 rfl nz25 rfl) ?_
              refine J.val (v := .slice adxb_2 xb.2.2.1.length cpxb_2) rfl rfl (V.ld rfl (Ld.sc sc25 (Rd.cl 2 rfl rfl))) ?_
              refine J.val (v := .int .i64 x709) rfl rfl (V.mv rfl) ?_
              obtain ⟨x718, hx719, h703⟩ := ob h703
              obtain ⟨p720, p721, p722⟩ := getI_some hx719
              obtain ⟨b723, o724, e725, a726⟩ := (fxb_2).at p721
              refine J.val rfl rfl (V.iad Try.underlying25 sz28 rfl e725 rfl p720 p722) ?_
              obtain ⟨ad727, cp728, c729, f730⟩ := ((a726).one).sl
              refine J.val (v := .agg #[.slice ad727 x718.length cp728]) rfl rfl (V.ld rfl (Ld.aggK (cs := [.slice ad727 x718.length cp728]) Try.underlying28 sz28 rfl ⟨c729, trivial⟩ (Hp.le_refl _))) ?_
              refine J.op rfl (A.lit (K0 := K) (ty := (.one (.sl (.cons (.int .i64) (.one .bool))))) (xs := ([x718] : List (List (Int × Bool)))) Try.underlying25 inf28 rfl (by decide) rfl rfl rfl ⟨_, _, rfl, f730, rfl⟩ rfl (by decide)) ?_
              rintro _ _ _ ⟨b731, rfl, rfl, rfl⟩
              have hn732 : ([x718] : List (List (Int × Bool))) ≠ [] → ∃ g, (some ⟨b731, 0, none⟩ : Option Addr) = some ⟨g, 0, none⟩ := fun _ => ⟨b731, rfl⟩
              obtain ⟨z734, hz735, h703⟩ := ob h703
              refine J.front 1 rfl ?_
              refine J.op rfl (A.appR (Kr := K) Try.underlying25 inf28 rfl rfl (by decide) (by decide) rfl rfl (Els.mono (Hp.le_refl _)) (Els.mono (Hp.le_refl _)) hz735) ?_
              rintro _ _ _ ⟨v736, rfl, rfl, rfl⟩
              refine J.wit Row.form ?_
              rintro ⟨ad737, cp738, rfl, _, _, hn739⟩
              refine J.val (v := .slice ad737 z734.length cp738) rfl rfl (V.as rfl) ?_
              refine J.nil ?_
              refine CJ.region ?_
              refine J.val (v := .int .i64 (IntKind.wrap .i64 (i664 + 1))) rfl rfl (V.add rfl rfl) ?_
              refine J.val (v := .int .i64 (IntKind.wrap .i64 (i664 + 1))) rfl rfl (V.mv rfl) ?_
              refine J.front 2 rfl ?_
              refine J.front 2 rfl ?_
              refine J.nil ?_
              have e := Option.some.inj h703
              subst e
              exact ⟨rfl, ⟨z734, IntKind.wrap .i64 (i664 + 1), ad737, cp738, rfl, ⟨rfl, rfl, rfl, rfl, rfl, rfl, trivial⟩, rfl, rfl⟩⟩
            · have h703 := cf hc708 h703
              refine CJ.front 2 rfl ?_
              refine CJ.front 2 rfl ?_
              refine CJ.exit ?_
              have e := Option.some.inj h703
              subst e
              refine ⟨nofun, fun e => ?_⟩
              subst e
              exact ⟨rfl, ⟨l659, ad660, cp661, rfl, ⟨rfl, rfl, rfl, trivial⟩, rfl, rfl⟩⟩
          · rintro ρ _ _ ⟨l612, ad613, cp614, rfl, hf740, rfl, rfl⟩
            obtain ⟨ρ, rfl⟩ := hf740.ex
            refine PJ.front 2 rfl ?_
            refine PJ.wit Row.hn (fun hn616 => ?_)
            refine PJ.done ?_
            refine CJ.seq ?_
            refine CJ.mix [Cl b421 24 [.int .i64 xa.1, .int .i64 xa.2.1, .int .i64 xa.2.2.1, .slice adxa_3 xa.2.2.2.1.length cpxa_3, .slice adxa_4 xa.2.2.2.2.1.length cpxa_4, .slice adxa_5 xa.2.2.2.2.2.length cpxa_5], Cl b422 34 [.int .i64 xb.1, .int .i64 xb.2.1, .slice adxb_2 xb.2.2.1.length cpxb_2, .slice adxb_3 xb.2.2.2.1.length cpxb_3, .slice adxb_4 xb.2.2.2.2.length cpxb_4]] [([0, 1, 2, 3, 4, 5, 6, 7, 8, 9, 10, 11, 12, 13, 14], 15)] [16, 17, 18, 19] [] mixO (by decide +kernel) ⟨1, rfl, 1, rfl, trivial⟩ rfl rfl rfl ?_
            refine JM.cons ?_
            refine JQ.val rfl rfl (V.fad Try.underlying34 rfl nz29 rfl) ?_
            refine JQ.val (v := .slice adxb_4 xb.2.2.2.2.length cpxb_4) rfl rfl (V.ld rfl (Ld.sc sc29 (Rd.cl 1 rfl rfl))) ?_
            refine JQ.val rfl rfl (V.fad Try.underlying24 rfl nz3 rfl) ?_
            refine JQ.val (v := .int .i64 xa.2.1) rfl rfl (V.ld rfl (Ld.sc sc3 (Rd.cl 0 rfl rfl))) ?_
            obtain ⟨x790, hx791, h⟩ := ob h
            obtain ⟨p792, p793, p794⟩ := getI_some hx791
            obtain ⟨b795, o796, e797, a798⟩ := (fxb_4).at p793
            refine JQ.val rfl rfl (V.iad Try.underlying29 sz57 rfl e797 rfl p792 p794) ?_
            obtain ⟨ad799, cp800, c801, f802⟩ := (((a798).snd).fst).sl
            obtain ⟨ad803, cp804, c805, f806⟩ := ((((a798).snd).snd).fst).sl
            obtain ⟨ad807, cp808, c809, f810⟩ := ((((((a798).snd).snd).snd).one).one).sl
            refine JQ.val (v := .agg #[.int .i64 x790.1, .slice ad799 x790.2.1.length cp800, .slice ad803 x790.2.2.1.length cp804, .slice ad807 x790.2.2.2.length cp808]) rfl rfl (V.ld rfl (Ld.aggK (cs := [.int .i64 x790.1, .slice ad799 x790.2.1.length cp800, .slice ad803 x790.2.2.1.length cp804, .slice ad807 x790.2.2.2.length cp808]) Try.underlying57 sz57 rfl ⟨((a798).fst).int, c801, c805, c809, trivial⟩ (Hp.le_refl _))) ?_
            refine JQ.val rfl rfl (V.fad Try.underlying24 rfl nz22 rfl) ?_
            refine JQ.val (v := .slice adxa_5 xa.2.2.2.2.2.length cpxa_5) rfl rfl (V.ld rfl (Ld.sc sc22 (Rd.cl 0 rfl rfl))) ?_
            refine JQ.val (v := .slice ad613 l612.length cp614) rfl rfl (V.mv rfl) ?_
            refine JQ.val rfl rfl (V.fad Try.underlying34 rfl nz25 rfl) ?_
            refine JQ.val (v := .slice adxb_2 xb.2.2.1.length cpxb_2) rfl rfl (V.ld rfl (Ld.sc sc25 (Rd.cl 1 rfl rfl))) ?_
            refine JQ.val rfl rfl (V.fad Try.underlying24 rfl nz3 rfl) ?_
            refine JQ.val (v := .int .i64 xa.2.2.1) rfl rfl (V.ld rfl (Ld.sc sc3 (Rd.cl 0 rfl rfl))) ?_
            obtain ⟨x811, hx812, h⟩ := ob h
            obtain ⟨p813, p814, p815⟩ := getI_some hx812
            obtain ⟨b816, o817, e818, a819⟩ := (fxb_2).at p814
            refine JQ.val rfl rfl (V.iad Try.underlying25 sz28 rfl e818 rfl p813 p815) ?_
            obtain ⟨ad820, cp821, c822, f823⟩ := ((a819).one).sl
            refine JQ.val (v := .agg #[.slice ad820 x811.length cp821]) rfl rfl (V.ld rfl (Ld.aggK (cs := [.slice ad820 x811.length cp821]) Try.underlying28 sz28 rfl ⟨c822, trivial⟩ (Hp.le_refl _))) ?_
            refine JQ.nil ?_
            refine JA.persist (Hp.le_refl _) (by decide) (fun K824 hK825 f826 => ?_)
            obtain ⟨r827, hr828, h⟩ := ob h
            refine JA.op rfl (A.call (L1 := []) Try.call25 rfl (sig_Call_ok (f802.mono hK825) (f806.mono hK825) (f810.mono hK825) (fxa_5.mono hK825) f826 (f823.mono hK825) hr828) rfl rfl) ?_
            rintro _ _ _ ⟨v834, _, rfl, ⟨⟨l829, i830, ad831, cp832, rfl, rfl, rfl⟩, rfl⟩, _, rfl⟩
            refine ⟨fun w hs => Hold.sub hK825 ⟨1, rfl, 1, rfl, trivial⟩ hs, ?_⟩
            refine JM.wit Row.hn (fun hn833 => ?_)
            refine JM.nil ?_
            refine JQ.val (v := .slice ad831 l829.length cp832) rfl rfl (V.ext rfl rfl) ?_
            refine JQ.val (v := .int .i64 i830) rfl rfl (V.ext rfl rfl) ?_
            refine JQ.val (v := .slice ad831 l829.length cp832) rfl rfl (V.as rfl) ?_
            refine JQ.val (v := .int .i64 i830) rfl rfl (V.as rfl) ?_
            refine JQ.nil ?_
            refine J.nil ?_
            refine CJ.ret ?_
            have e := Option.some.inj h
            subst e
            exact ⟨_, [Row Hp.nil 67 (.cons (.int .i64) (.cons (.int .i64) (.cons (.int .i64) (.cons (.int .i64) (.one .bool))))) (.slice ad831 l829.length cp832) l829], Res.two rfl rfl rfl, ⟨l829, i830, ad831, cp832, rfl, rfl, rfl⟩, hK825, fun w hs => (Sep.dropAt 1 rfl (Sep.dropAt 1 rfl hs))⟩
        · have h := cf hc490 h
          refine CJ.skip ?_
          refine CJ.seq ?_
          refine CJ.region ?_
          refine J.val (v := .slice none 0 0) rfl rfl (V.as rfl) ?_
          refine J.val (v := .int .i64 0) rfl rfl (V.as rfl) ?_
          refine J.nil ?_
          refine CJ.by (fun w hs => Sep.rowNil (e := 67) (t := (.cons (.int .i64) (.cons (.int .i64) (.cons (.int .i64) (.cons (.int .i64) (.one .bool)))))) hs) ?_
          refine CJ.ret ?_
          have e := Option.some.inj h
          subst e
          exact ⟨_, [Row Hp.nil 67 (.cons (.int .i64) (.cons (.int .i64) (.cons (.int .i64) (.cons (.int .i64) (.one .bool))))) (.slice none ((([] : List (Int × Int × Int × Int × Bool))).length) 0) (([] : List (Int × Int × Int × Int × Bool)))], Res.two rfl rfl rfl, ⟨[], 0, none, 0, rfl, rfl, rfl⟩, (Hp.le_refl _), fun w hs => (Sep.dropAt 1 rfl (Sep.dropAt 1 rfl hs))⟩

noncomputable def fn_ref19_Form (xa : (Int × Int × Int × (List Int) × (List Int) × (List Int))) : Option Int :=
  cond ((decide (xa.1 < 1)) || (decide (4 < xa.1))) (some (3)) (cond (((((decide (xa.1 = 1)) || (decide (xa.1 = 4))) && (!decide ((((xa.2.2.2.1.length : Nat) : Int)) = 1))) || ((decide (xa.1 = 2)) && (decide ((((xa.2.2.2.1.length : Nat) : Int)) = 0)))) || ((decide (xa.1 = 3)) && (!decide ((((xa.2.2.2.1.length : Nat) : Int)) = 0)))) (some (3)) (cond ((!decide (xa.1 = 4)) && (((!decide (xa.2.1 = 0)) || (!decide (xa.2.2.1 = 0))) || (!decide ((((xa.2.2.2.2.2.length : Nat) : Int)) = 0)))) (some (3)) (cond (((decide (xa.1 = 1)) || (decide (xa.1 = 3))) && (!decide ((((xa.2.2.2.2.1.length : Nat) : Int)) = 0))) (some (3)) (cond (((decide (16 < (((xa.2.2.2.1.length : Nat) : Int)))) || (decide (16 < (((xa.2.2.2.2.1.length : Nat) : Int))))) || (decide (16 < (((xa.2.2.2.2.2.length : Nat) : Int))))) (some (6)) (some (0))))))
set_option maxRecDepth 100000 in
set_option maxHeartbeats 4000000 in
theorem ref19_Form_ok {K : Hp} {xa : (Int × Int × Int × (List Int) × (List Int) × (List Int))} {adxa_3 : Option Addr} {cpxa_3 : Nat} {adxa_4 : Option Addr} {cpxa_4 : Nat} {adxa_5 : Option Addr} {cpxa_5 : Nat} (fxa_3 : Is K (.sl (.int .i64)) [.slice adxa_3 xa.2.2.2.1.length cpxa_3] xa.2.2.2.1) (fxa_4 : Is K (.sl (.int .i64)) [.slice adxa_4 xa.2.2.2.2.1.length cpxa_4] xa.2.2.2.2.1) (fxa_5 : Is K (.sl (.int .i64)) [.slice adxa_5 xa.2.2.2.2.2.length cpxa_5] xa.2.2.2.2.2) {r : Int} (h : fn_ref19_Form xa = some r) :
    Tr Try.prog 26 #[.agg #[.int .i64 xa.1, .int .i64 xa.2.1, .int .i64 xa.2.2.1, .slice adxa_3 xa.2.2.2.1.length cpxa_3, .slice adxa_4 xa.2.2.2.2.1.length cpxa_4, .slice adxa_5 xa.2.2.2.2.2.length cpxa_5]] K [] (fun v K' L' => (∃ (i61 : Int), i61 = r ∧ .int .i64 i61 = v ∧ L' = []) ∧ K = K') := by
  refine Tr.k ?_
  refine Tr.of Try.func26 rfl Try.ntmps26 rfl (fun E F => ?_)
  unfold fn_ref19_Form at h
  refine CJ.seq ?_
  refine CJ.region ?_
  refine J.op rfl (A.box (v := .agg #[.int .i64 xa.1, .int .i64 xa.2.1, .int .i64 xa.2.2.1, .slice adxa_3 xa.2.2.2.1.length cpxa_3, .slice adxa_4 xa.2.2.2.2.1.length cpxa_4, .slice adxa_5 xa.2.2.2.2.2.length cpxa_5]) (cs := [.int .i64 xa.1, .int .i64 xa.2.1, .int .i64 xa.2.2.1, .slice adxa_3 xa.2.2.2.1.length cpxa_3, .slice adxa_4 xa.2.2.2.2.1.length cpxa_4, .slice adxa_5 xa.2.2.2.2.2.length cpxa_5]) rfl rfl) ?_
  rintro _ _ _ ⟨b62, rfl, rfl, rfl⟩
  refine J.val (v := .int .i64 0) rfl rfl (V.as rfl) ?_
  refine J.nil ?_
  refine CJ.seq ?_
  refine CJ.seq ?_
  refine CJ.region ?_
  refine J.val rfl rfl (V.fad Try.underlying24 rfl nz3 rfl) ?_
  refine J.val (v := .int .i64 xa.1) rfl rfl (V.ld rfl (Ld.sc sc3 (Rd.cl 0 rfl rfl))) ?_
  refine J.val (v := .bool (decide (xa.1 < 1))) rfl rfl (V.lss rfl rfl) ?_
  refine J.val (v := .bool (decide (xa.1 < 1))) rfl rfl (V.mv rfl) ?_
  refine J.cut 4 ?_
  refine @J.meet _ _ _ _ _ _ _ _ _ _ (fun ρ K' L' => Fits [(10, .bool ((decide (xa.1 < 1)) || (decide (4 < xa.1)))), (1, .pointer (some ⟨b62, 0, none⟩))] ρ ∧ K = K' ∧ L' = Cl b62 24 [.int .i64 xa.1, .int .i64 xa.2.1, .int .i64 xa.2.2.1, .slice adxa_3 xa.2.2.2.1.length cpxa_3, .slice adxa_4 xa.2.2.2.2.1.length cpxa_4, .slice adxa_5 xa.2.2.2.2.2.length cpxa_5] :: F) ?_ ?_
  · skip
    rcases bt (decide (xa.1 < 1)) with hc65 | hc65
    · skip
      refine J.skip rfl rfl rfl rfl hc65 ?_
      refine J.skip rfl rfl rfl rfl hc65 ?_
      refine J.skip rfl rfl rfl rfl hc65 ?_
      refine J.val (v := .bool true) rfl rfl (V.pickT rfl hc65 rfl) ?_
      refine J.nil ?_
      exact ⟨rfl, ⟨(by simp only [hc65]; rfl), rfl, trivial⟩, rfl, rfl⟩
    · skip
      refine J.run rfl rfl rfl hc65 ?_
      refine J.val rfl rfl (V.fad Try.underlying24 rfl nz3 rfl) ?_
      refine J.run rfl rfl rfl hc65 ?_
      refine J.val (v := .int .i64 xa.1) rfl rfl (V.ld rfl (Ld.sc sc3 (Rd.cl 0 rfl rfl))) ?_
      refine J.run rfl rfl rfl hc65 ?_
      refine J.val (v := .bool (decide (4 < xa.1))) rfl rfl (V.gtr rfl rfl) ?_
      refine J.val (v := .bool (decide (4 < xa.1))) rfl rfl (V.pickF rfl hc65 rfl) ?_
      refine J.nil ?_
      exact ⟨rfl, ⟨(by simp only [hc65]; rfl), rfl, trivial⟩, rfl, rfl⟩
  · rintro ρ _ _ ⟨hf, rfl, rfl⟩
    obtain ⟨ρ, rfl⟩ := hf.ex
    refine J.nil ?_
    refine CJ.cond rfl (fun hc66 => ?_) (fun hc66 => ?_)
    · have h := ct hc66 h
      refine CJ.seq ?_
      refine CJ.region ?_
      refine J.val (v := .int .i64 3) rfl rfl (V.as rfl) ?_
      refine J.nil ?_
      refine CJ.ret ?_
      have e := Option.some.inj h
      subst e
      exact ⟨_, [], Res.one rfl rfl, ⟨3, rfl, rfl, rfl⟩, (Hp.le_refl _), fun w hs => (Sep.dropAt 0 rfl hs)⟩
    · have h := cf hc66 h
      refine CJ.skip ?_
      refine CJ.seq ?_
      refine CJ.seq ?_
      refine CJ.region ?_
      refine J.val rfl rfl (V.fad Try.underlying24 rfl nz3 rfl) ?_
      refine J.val (v := .int .i64 xa.1) rfl rfl (V.ld rfl (Ld.sc sc3 (Rd.cl 0 rfl rfl))) ?_
      refine J.val (v := .bool (decide (xa.1 = 1))) rfl rfl (V.eql rfl rfl) ?_
      refine J.val (v := .bool (decide (xa.1 = 1))) rfl rfl (V.mv rfl) ?_
      refine J.cut 4 ?_
      refine @J.meet _ _ _ _ _ _ _ _ _ _ (fun ρ K' L' => Fits [(18, .bool ((decide (xa.1 = 1)) || (decide (xa.1 = 4)))), (1, .pointer (some ⟨b62, 0, none⟩))] ρ ∧ K = K' ∧ L' = Cl b62 24 [.int .i64 xa.1, .int .i64 xa.2.1, .int .i64 xa.2.2.1, .slice adxa_3 xa.2.2.2.1.length cpxa_3, .slice adxa_4 xa.2.2.2.2.1.length cpxa_4, .slice adxa_5 xa.2.2.2.2.2.length cpxa_5] :: F) ?_ ?_
      · skip
        rcases bt (decide (xa.1 = 1)) with hc69 | hc69
        · skip
          refine J.skip rfl rfl rfl rfl hc69 ?_
          refine J.skip rfl rfl rfl rfl hc69 ?_
          refine J.skip rfl rfl rfl rfl hc69 ?_
          refine J.val (v := .bool true) rfl rfl (V.pickT rfl hc69 rfl) ?_
          refine J.nil ?_
          exact ⟨rfl, ⟨(by simp only [hc69]; rfl), rfl, trivial⟩, rfl, rfl⟩
        · skip
          refine J.run rfl rfl rfl hc69 ?_
          refine J.val rfl rfl (V.fad Try.underlying24 rfl nz3 rfl) ?_
          refine J.run rfl rfl rfl hc69 ?_
          refine J.val (v := .int .i64 xa.1) rfl rfl (V.ld rfl (Ld.sc sc3 (Rd.cl 0 rfl rfl))) ?_
          refine J.run rfl rfl rfl hc69 ?_
          refine J.val (v := .bool (decide (xa.1 = 4))) rfl rfl (V.eql rfl rfl) ?_
          refine J.val (v := .bool (decide (xa.1 = 4))) rfl rfl (V.pickF rfl hc69 rfl) ?_
          refine J.nil ?_
          exact ⟨rfl, ⟨(by simp only [hc69]; rfl), rfl, trivial⟩, rfl, rfl⟩
      · rintro ρ _ _ ⟨hf, rfl, rfl⟩
        obtain ⟨ρ, rfl⟩ := hf.ex
        refine J.val (v := .bool ((decide (xa.1 = 1)) || (decide (xa.1 = 4)))) rfl rfl (V.mv rfl) ?_
        refine J.cut 5 ?_
        refine @J.meet _ _ _ _ _ _ _ _ _ _ (fun ρ K' L' => Fits [(24, .bool (((decide (xa.1 = 1)) || (decide (xa.1 = 4))) && (!decide ((((xa.2.2.2.1.length : Nat) : Int)) = 1)))), (1, .pointer (some ⟨b62, 0, none⟩))] ρ ∧ K = K' ∧ L' = Cl b62 24 [.int .i64 xa.1, .int .i64 xa.2.1, .int .i64 xa.2.2.1, .slice adxa_3 xa.2.2.2.1.length cpxa_3, .slice adxa_4 xa.2.2.2.2.1.length cpxa_4, .slice adxa_5 xa.2.2.2.2.2.length cpxa_5] :: F) ?_ ?_
        · skip
          rcases bt ((decide (xa.1 = 1)) || (decide (xa.1 = 4))) with hc72 | hc72
          · skip
            refine J.run rfl rfl rfl hc72 ?_
            refine J.val rfl rfl (V.fad Try.underlying24 rfl nz22 rfl) ?_
            refine J.run rfl rfl rfl hc72 ?_
            refine J.val (v := .slice adxa_3 xa.2.2.2.1.length cpxa_3) rfl rfl (V.ld rfl (Ld.sc sc22 (Rd.cl 0 rfl rfl))) ?_
            refine J.run rfl rfl rfl hc72 ?_
            refine J.val (v := .int .i64 (((xa.2.2.2.1.length : Nat) : Int))) rfl rfl (V.len Try.underlying22 rfl) ?_
            refine J.run rfl rfl rfl hc72 ?_
            refine J.val (v := .bool (!decide ((((xa.2.2.2.1.length : Nat) : Int)) = 1))) rfl rfl (V.neq rfl rfl) ?_
            refine J.val (v := .bool (!decide ((((xa.2.2.2.1.length : Nat) : Int)) = 1))) rfl rfl (V.pickT rfl hc72 rfl) ?_
            refine J.nil ?_
            exact ⟨rfl, ⟨(by simp only [hc72]; rfl), rfl, trivial⟩, rfl, rfl⟩
          · skip
            refine J.skip rfl rfl rfl rfl hc72 ?_
            refine J.skip rfl rfl rfl rfl hc72 ?_
            refine J.skip rfl rfl rfl rfl hc72 ?_
            refine J.skip rfl rfl rfl rfl hc72 ?_
            refine J.val (v := .bool false) rfl rfl (V.pickF rfl hc72 rfl) ?_
            refine J.nil ?_
            exact ⟨rfl, ⟨(by simp only [hc72]; rfl), rfl, trivial⟩, rfl, rfl⟩
        · rintro ρ _ _ ⟨hf, rfl, rfl⟩
          obtain ⟨ρ, rfl⟩ := hf.ex
          refine J.val (v := .bool (((decide (xa.1 = 1)) || (decide (xa.1 = 4))) && (!decide ((((xa.2.2.2.1.length : Nat) : Int)) = 1)))) rfl rfl (V.mv rfl) ?_
          refine J.cut 10 ?_
          refine @J.meet _ _ _ _ _ _ _ _ _ _ (fun ρ K' L' => Fits [(35, .bool ((((decide (xa.1 = 1)) || (decide (xa.1 = 4))) && (!decide ((((xa.2.2.2.1.length : Nat) : Int)) = 1))) || ((decide (xa.1 = 2)) && (decide ((((xa.2.2.2.1.length : Nat) : Int)) = 0))))), (1, .pointer (some ⟨b62, 0, none⟩))] ρ ∧ K = K' ∧ L' = Cl b62 24 [.int .i64 xa.1, .int .i64 xa.2.1, .int .i64 xa.2.2.1, .slice adxa_3 xa.2.2.2.1.length cpxa_3, .slice adxa_4 xa.2.2.2.2.1.length cpxa_4, .slice adxa_5 xa.2.2.2.2.2.length cpxa_5] :: F) ?_ ?_
          · skip
            rcases bt (((decide (xa.1 = 1)) || (decide (xa.1 = 4))) && (!decide ((((xa.2.2.2.1.length : Nat) : Int)) = 1))) with hc78 | hc78
            · skip
              refine J.skip rfl rfl rfl rfl hc78 ?_
              refine J.skip rfl rfl rfl rfl hc78 ?_
              refine J.skip rfl rfl rfl rfl hc78 ?_
              refine J.skip rfl rfl rfl rfl hc78 ?_
              refine J.skipu rfl rfl rfl rfl ?_
              refine J.skipu rfl rfl rfl rfl ?_
              refine J.skipu rfl rfl rfl rfl ?_
              refine J.skipu rfl rfl rfl rfl ?_
              refine J.skip rfl rfl rfl rfl hc78 ?_
              refine J.val (v := .bool true) rfl rfl (V.pickT rfl hc78 rfl) ?_
              refine J.nil ?_
              exact ⟨rfl, ⟨(by simp only [hc78]; rfl), rfl, trivial⟩, rfl, rfl⟩
            · skip
              refine J.run rfl rfl rfl hc78 ?_
              refine J.val rfl rfl (V.fad Try.underlying24 rfl nz3 rfl) ?_
              refine J.run rfl rfl rfl hc78 ?_
              refine J.val (v := .int .i64 xa.1) rfl rfl (V.ld rfl (Ld.sc sc3 (Rd.cl 0 rfl rfl))) ?_
              refine J.run rfl rfl rfl hc78 ?_
              refine J.val (v := .bool (decide (xa.1 = 2))) rfl rfl (V.eql rfl rfl) ?_
              refine J.run rfl rfl rfl hc78 ?_
              refine J.val (v := .bool (decide (xa.1 = 2))) rfl rfl (V.mv rfl) ?_
              refine J.cut 5 ?_
              refine @J.meet _ _ _ _ _ _ _ _ _ _ (fun ρ K' L' => Fits [(34, .bool ((decide (xa.1 = 2)) && (decide ((((xa.2.2.2.1.length : Nat) : Int)) = 0)))), (1, .pointer (some ⟨b62, 0, none⟩)), (25, .bool (((decide (xa.1 = 1)) || (decide (xa.1 = 4))) && (!decide ((((xa.2.2.2.1.length : Nat) : Int)) = 1))))] ρ ∧ K = K' ∧ L' = Cl b62 24 [.int .i64 xa.1, .int .i64 xa.2.1, .int .i64 xa.2.2.1, .slice adxa_3 xa.2.2.2.1.length cpxa_3, .slice adxa_4 xa.2.2.2.2.1.length cpxa_4, .slice adxa_5 xa.2.2.2.2.2.length cpxa_5] :: F) ?_ ?_
              · skip
                rcases bt (decide (xa.1 = 2)) with hc81 | hc81
                · skip
                  refine J.run rfl rfl rfl hc81 ?_
                  refine J.val rfl rfl (V.fad Try.underlying24 rfl nz22 rfl) ?_
                  refine J.run rfl rfl rfl hc81 ?_
                  refine J.val (v := .slice adxa_3 xa.2.2.2.1.length cpxa_3) rfl rfl (V.ld rfl (Ld.sc sc22 (Rd.cl 0 rfl rfl))) ?_
                  refine J.run rfl rfl rfl hc81 ?_
                  refine J.val (v := .int .i64 (((xa.2.2.2.1.length : Nat) : Int))) rfl rfl (V.len Try.underlying22 rfl) ?_
                  refine J.run rfl rfl rfl hc81 ?_
                  refine J.val (v := .bool (decide ((((xa.2.2.2.1.length : Nat) : Int)) = 0))) rfl rfl (V.eql rfl rfl) ?_
                  refine J.run rfl rfl rfl hc78 ?_
                  refine J.val (v := .bool (decide ((((xa.2.2.2.1.length : Nat) : Int)) = 0))) rfl rfl (V.pickT rfl hc81 rfl) ?_
                  refine J.nil ?_
                  exact ⟨rfl, ⟨(by simp only [hc81]; rfl), rfl, rfl, trivial⟩, rfl, rfl⟩
                · skip
                  refine J.skip rfl rfl rfl rfl hc81 ?_
                  refine J.skip rfl rfl rfl rfl hc81 ?_
                  refine J.skip rfl rfl rfl rfl hc81 ?_
                  refine J.skip rfl rfl rfl rfl hc81 ?_
                  refine J.run rfl rfl rfl hc78 ?_
                  refine J.val (v := .bool false) rfl rfl (V.pickF rfl hc81 rfl) ?_
                  refine J.nil ?_
                  exact ⟨rfl, ⟨(by simp only [hc81]; rfl), rfl, rfl, trivial⟩, rfl, rfl⟩
              · rintro ρ _ _ ⟨hf, rfl, rfl⟩
                obtain ⟨ρ, rfl⟩ := hf.ex
                refine J.val (v := .bool ((decide (xa.1 = 2)) && (decide ((((xa.2.2.2.1.length : Nat) : Int)) = 0)))) rfl rfl (V.pickF rfl hc78 rfl) ?_
                refine J.nil ?_
                exact ⟨rfl, ⟨(by simp only [hc78]; rfl), rfl, trivial⟩, rfl, rfl⟩
          · rintro ρ _ _ ⟨hf, rfl, rfl⟩
            obtain ⟨ρ, rfl⟩ := hf.ex
            refine J.val (v := .bool ((((decide (xa.1 = 1)) || (decide (xa.1 = 4))) && (!decide ((((xa.2.2.2.1.length : Nat) : Int)) = 1))) || ((decide (xa.1 = 2)) && (decide ((((xa.2.2.2.1.length : Nat) : Int)) = 0))))) rfl rfl (V.mv rfl) ?_
            refine J.cut 10 ?_
            refine @J.meet _ _ _ _ _ _ _ _ _ _ (fun ρ K' L' => Fits [(46, .bool (((((decide (xa.1 = 1)) || (decide (xa.1 = 4))) && (!decide ((((xa.2.2.2.1.length : Nat) : Int)) = 1))) || ((decide (xa.1 = 2)) && (decide ((((xa.2.2.2.1.length : Nat) : Int)) = 0)))) || ((decide (xa.1 = 3)) && (!decide ((((xa.2.2.2.1.length : Nat) : Int)) = 0))))), (1, .pointer (some ⟨b62, 0, none⟩))] ρ ∧ K = K' ∧ L' = Cl b62 24 [.int .i64 xa.1, .int .i64 xa.2.1, .int .i64 xa.2.2.1, .slice adxa_3 xa.2.2.2.1.length cpxa_3, .slice adxa_4 xa.2.2.2.2.1.length cpxa_4, .slice adxa_5 xa.2.2.2.2.2.length cpxa_5] :: F) ?_ ?_
            · skip
              rcases bt ((((decide (xa.1 = 1)) || (decide (xa.1 = 4))) && (!decide ((((xa.2.2.2.1.length : Nat) : Int)) = 1))) || ((decide (xa.1 = 2)) && (decide ((((xa.2.2.2.1.length : Nat) : Int)) = 0)))) with hc87 | hc87
              · skip
                refine J.skip rfl rfl rfl rfl hc87 ?_
                refine J.skip rfl rfl rfl rfl hc87 ?_
                refine J.skip rfl rfl rfl rfl hc87 ?_
                refine J.skip rfl rfl rfl rfl hc87 ?_
                refine J.skipu rfl rfl rfl rfl ?_
                refine J.skipu rfl rfl rfl rfl ?_
                refine J.skipu rfl rfl rfl rfl ?_
                refine J.skipu rfl rfl rfl rfl ?_
                refine J.skip rfl rfl rfl rfl hc87 ?_
                refine J.val (v := .bool true) rfl rfl (V.pickT rfl hc87 rfl) ?_
                refine J.nil ?_
                exact ⟨rfl, ⟨(by simp only [hc87]; rfl), rfl, trivial⟩, rfl, rfl⟩
              · skip
                refine J.run rfl rfl rfl hc87 ?_
                refine J.val rfl rfl (V.fad Try.underlying24 rfl nz3 rfl) ?_
                refine J.run rfl rfl rfl hc87 ?_
                refine J.val (v := .int .i64 xa.1) rfl rfl (V.ld rfl (Ld.sc sc3 (Rd.cl 0 rfl rfl))) ?_
                refine J.run rfl rfl rfl hc87 ?_
                refine J.val (v := .bool (decide (xa.1 = 3))) rfl rfl (V.eql rfl rfl) ?_
                refine J.run rfl rfl rfl hc87 ?_
                refine J.val (v := .bool (decide (xa.1 = 3))) rfl rfl (V.mv rfl) ?_
                refine J.cut 5 ?_
                refine @J.meet _ _ _ _ _ _ _ _ _ _ (fun ρ K' L' => Fits [(45, .bool ((decide (xa.1 = 3)) && (!decide ((((xa.2.2.2.1.length : Nat) : Int)) = 0)))), (1, .pointer (some ⟨b62, 0, none⟩)), (36, .bool ((((decide (xa.1 = 1)) || (decide (xa.1 = 4))) && (!decide ((((xa.2.2.2.1.length : Nat) : Int)) = 1))) || ((decide (xa.1 = 2)) && (decide ((((xa.2.2.2.1.length : Nat) : Int)) = 0)))))] ρ ∧ K = K' ∧ L' = Cl b62 24 [.int .i64 xa.1, .int .i64 xa.2.1, .int .i64 xa.2.2.1, .slice adxa_3 xa.2.2.2.1.length cpxa_3, .slice adxa_4 xa.2.2.2.2.1.length cpxa_4, .slice adxa_5 xa.2.2.2.2.2.length cpxa_5] :: F) ?_ ?_
                · skip
                  rcases bt (decide (xa.1 = 3)) with hc90 | hc90
                  · skip
                    refine J.run rfl rfl rfl hc90 ?_
                    refine J.val rfl rfl (V.fad Try.underlying24 rfl nz22 rfl) ?_
                    refine J.run rfl rfl rfl hc90 ?_
                    refine J.val (v := .slice adxa_3 xa.2.2.2.1.length cpxa_3) rfl rfl (V.ld rfl (Ld.sc sc22 (Rd.cl 0 rfl rfl))) ?_
                    refine J.run rfl rfl rfl hc90 ?_
                    refine J.val (v := .int .i64 (((xa.2.2.2.1.length : Nat) : Int))) rfl rfl (V.len Try.underlying22 rfl) ?_
                    refine J.run rfl rfl rfl hc90 ?_
                    refine J.val (v := .bool (!decide ((((xa.2.2.2.1.length : Nat) : Int)) = 0))) rfl rfl (V.neq rfl rfl) ?_
                    refine J.run rfl rfl rfl hc87 ?_
                    refine J.val (v := .bool (!decide ((((xa.2.2.2.1.length : Nat) : Int)) = 0))) rfl rfl (V.pickT rfl hc90 rfl) ?_
                    refine J.nil ?_
                    exact ⟨rfl, ⟨(by simp only [hc90]; rfl), rfl, rfl, trivial⟩, rfl, rfl⟩
                  · skip
                    refine J.skip rfl rfl rfl rfl hc90 ?_
                    refine J.skip rfl rfl rfl rfl hc90 ?_
                    refine J.skip rfl rfl rfl rfl hc90 ?_
                    refine J.skip rfl rfl rfl rfl hc90 ?_
                    refine J.run rfl rfl rfl hc87 ?_
                    refine J.val (v := .bool false) rfl rfl (V.pickF rfl hc90 rfl) ?_
                    refine J.nil ?_
                    exact ⟨rfl, ⟨(by simp only [hc90]; rfl), rfl, rfl, trivial⟩, rfl, rfl⟩
                · rintro ρ _ _ ⟨hf, rfl, rfl⟩
                  obtain ⟨ρ, rfl⟩ := hf.ex
                  refine J.val (v := .bool ((decide (xa.1 = 3)) && (!decide ((((xa.2.2.2.1.length : Nat) : Int)) = 0)))) rfl rfl (V.pickF rfl hc87 rfl) ?_
                  refine J.nil ?_
                  exact ⟨rfl, ⟨(by simp only [hc87]; rfl), rfl, trivial⟩, rfl, rfl⟩
            · rintro ρ _ _ ⟨hf, rfl, rfl⟩
              obtain ⟨ρ, rfl⟩ := hf.ex
              refine J.nil ?_
              refine CJ.cond rfl (fun hc91 => ?_) (fun hc91 => ?_)
              · have h := ct hc91 h
                refine CJ.seq ?_
                refine CJ.region ?_
                refine J.val (v := .int .i64 3) rfl rfl (V.as rfl) ?_
                refine J.nil ?_
                refine CJ.ret ?_
                have e := Option.some.inj h
                subst e
                exact ⟨_, [], Res.one rfl rfl, ⟨3, rfl, rfl, rfl⟩, (Hp.le_refl _), fun w hs => (Sep.dropAt 0 rfl hs)⟩
              · have h := cf hc91 h
                refine CJ.skip ?_
                refine CJ.seq ?_
                refine CJ.seq ?_
                refine CJ.region ?_
                refine J.val rfl rfl (V.fad Try.underlying24 rfl nz3 rfl) ?_
                refine J.val (v := .int .i64 xa.1) rfl rfl (V.ld rfl (Ld.sc sc3 (Rd.cl 0 rfl rfl))) ?_
                refine J.val (v := .bool (!decide (xa.1 = 4))) rfl rfl (V.neq rfl rfl) ?_
                refine J.val (v := .bool (!decide (xa.1 = 4))) rfl rfl (V.mv rfl) ?_
                refine J.cut 15 ?_
                refine @J.meet _ _ _ _ _ _ _ _ _ _ (fun ρ K' L' => Fits [(65, .bool ((!decide (xa.1 = 4)) && (((!decide (xa.2.1 = 0)) || (!decide (xa.2.2.1 = 0))) || (!decide ((((xa.2.2.2.2.2.length : Nat) : Int)) = 0))))), (1, .pointer (some ⟨b62, 0, none⟩))] ρ ∧ K = K' ∧ L' = Cl b62 24 [.int .i64 xa.1, .int .i64 xa.2.1, .int .i64 xa.2.2.1, .slice adxa_3 xa.2.2.2.1.length cpxa_3, .slice adxa_4 xa.2.2.2.2.1.length cpxa_4, .slice adxa_5 xa.2.2.2.2.2.length cpxa_5] :: F) ?_ ?_
                · skip
                  rcases bt (!decide (xa.1 = 4)) with hc100 | hc100
                  · skip
                    refine J.run rfl rfl rfl hc100 ?_
                    refine J.val rfl rfl (V.fad Try.underlying24 rfl nz3 rfl) ?_
                    refine J.run rfl rfl rfl hc100 ?_
                    refine J.val (v := .int .i64 xa.2.1) rfl rfl (V.ld rfl (Ld.sc sc3 (Rd.cl 0 rfl rfl))) ?_
                    refine J.run rfl rfl rfl hc100 ?_
                    refine J.val (v := .bool (!decide (xa.2.1 = 0))) rfl rfl (V.neq rfl rfl) ?_
                    refine J.run rfl rfl rfl hc100 ?_
                    refine J.val (v := .bool (!decide (xa.2.1 = 0))) rfl rfl (V.mv rfl) ?_
                    refine J.cut 4 ?_
                    refine @J.meet _ _ _ _ _ _ _ _ _ _ (fun ρ K' L' => Fits [(58, .bool ((!decide (xa.2.1 = 0)) || (!decide (xa.2.2.1 = 0)))), (1, .pointer (some ⟨b62, 0, none⟩)), (50, .bool (!decide (xa.1 = 4)))] ρ ∧ K = K' ∧ L' = Cl b62 24 [.int .i64 xa.1, .int .i64 xa.2.1, .int .i64 xa.2.2.1, .slice adxa_3 xa.2.2.2.1.length cpxa_3, .slice adxa_4 xa.2.2.2.2.1.length cpxa_4, .slice adxa_5 xa.2.2.2.2.2.length cpxa_5] :: F) ?_ ?_
                    · skip
                      rcases bt (!decide (xa.2.1 = 0)) with hc103 | hc103
                      · skip
                        refine J.skip rfl rfl rfl rfl hc103 ?_
                        refine J.skip rfl rfl rfl rfl hc103 ?_
                        refine J.skip rfl rfl rfl rfl hc103 ?_
                        refine J.run rfl rfl rfl hc100 ?_
                        refine J.val (v := .bool true) rfl rfl (V.pickT rfl hc103 rfl) ?_
                        refine J.nil ?_
                        exact ⟨rfl, ⟨(by simp only [hc103]; rfl), rfl, rfl, trivial⟩, rfl, rfl⟩
                      · skip
                        refine J.run rfl rfl rfl hc103 ?_
                        refine J.val rfl rfl (V.fad Try.underlying24 rfl nz3 rfl) ?_
                        refine J.run rfl rfl rfl hc103 ?_
                        refine J.val (v := .int .i64 xa.2.2.1) rfl rfl (V.ld rfl (Ld.sc sc3 (Rd.cl 0 rfl rfl))) ?_
                        refine J.run rfl rfl rfl hc103 ?_
                        refine J.val (v := .bool (!decide (xa.2.2.1 = 0))) rfl rfl (V.neq rfl rfl) ?_
                        refine J.run rfl rfl rfl hc100 ?_
                        refine J.val (v := .bool (!decide (xa.2.2.1 = 0))) rfl rfl (V.pickF rfl hc103 rfl) ?_
                        refine J.nil ?_
                        exact ⟨rfl, ⟨(by simp only [hc103]; rfl), rfl, rfl, trivial⟩, rfl, rfl⟩
                    · rintro ρ _ _ ⟨hf, rfl, rfl⟩
                      obtain ⟨ρ, rfl⟩ := hf.ex
                      refine J.run rfl rfl rfl hc100 ?_
                      refine J.val (v := .bool ((!decide (xa.2.1 = 0)) || (!decide (xa.2.2.1 = 0)))) rfl rfl (V.mv rfl) ?_
                      refine J.cut 5 ?_
                      refine @J.meet _ _ _ _ _ _ _ _ _ _ (fun ρ K' L' => Fits [(64, .bool (((!decide (xa.2.1 = 0)) || (!decide (xa.2.2.1 = 0))) || (!decide ((((xa.2.2.2.2.2.length : Nat) : Int)) = 0)))), (1, .pointer (some ⟨b62, 0, none⟩)), (50, .bool (!decide (xa.1 = 4)))] ρ ∧ K = K' ∧ L' = Cl b62 24 [.int .i64 xa.1, .int .i64 xa.2.1, .int .i64 xa.2.2.1, .slice adxa_3 xa.2.2.2.1.length cpxa_3, .slice adxa_4 xa.2.2.2.2.1.length cpxa_4, .slice adxa_5 xa.2.2.2.2.2.length cpxa_5] :: F) ?_ ?_
                      · skip
                        rcases bt ((!decide (xa.2.1 = 0)) || (!decide (xa.2.2.1 = 0))) with hc106 | hc106
                        · skip
                          refine J.skip rfl rfl rfl rfl hc106 ?_
                          refine J.skip rfl rfl rfl rfl hc106 ?_
                          refine J.skip rfl rfl rfl rfl hc106 ?_
                          refine J.skip rfl rfl rfl rfl hc106 ?_
                          refine J.run rfl rfl rfl hc100 ?_
                          refine J.val (v := .bool true) rfl rfl (V.pickT rfl hc106 rfl) ?_
                          refine J.nil ?_
                          exact ⟨rfl, ⟨(by simp only [hc106]; rfl), rfl, rfl, trivial⟩, rfl, rfl⟩
                        · skip
                          refine J.run rfl rfl rfl hc106 ?_
                          refine J.val rfl rfl (V.fad Try.underlying24 rfl nz22 rfl) ?_
                          refine J.run rfl rfl rfl hc106 ?_
                          refine J.val (v := .slice adxa_5 xa.2.2.2.2.2.length cpxa_5) rfl rfl (V.ld rfl (Ld.sc sc22 (Rd.cl 0 rfl rfl))) ?_
                          refine J.run rfl rfl rfl hc106 ?_
                          refine J.val (v := .int .i64 (((xa.2.2.2.2.2.length : Nat) : Int))) rfl rfl (V.len Try.underlying22 rfl) ?_
                          refine J.run rfl rfl rfl hc106 ?_
                          refine J.val (v := .bool (!decide ((((xa.2.2.2.2.2.length : Nat) : Int)) = 0))) rfl rfl (V.neq rfl rfl) ?_
                          refine J.run rfl rfl rfl hc100 ?_
                          refine J.val (v := .bool (!decide ((((xa.2.2.2.2.2.length : Nat) : Int)) = 0))) rfl rfl (V.pickF rfl hc106 rfl) ?_
                          refine J.nil ?_
                          exact ⟨rfl, ⟨(by simp only [hc106]; rfl), rfl, rfl, trivial⟩, rfl, rfl⟩
                      · rintro ρ _ _ ⟨hf, rfl, rfl⟩
                        obtain ⟨ρ, rfl⟩ := hf.ex
                        refine J.val (v := .bool (((!decide (xa.2.1 = 0)) || (!decide (xa.2.2.1 = 0))) || (!decide ((((xa.2.2.2.2.2.length : Nat) : Int)) = 0)))) rfl rfl (V.pickT rfl hc100 rfl) ?_
                        refine J.nil ?_
                        exact ⟨rfl, ⟨(by simp only [hc100]; rfl), rfl, trivial⟩, rfl, rfl⟩
                  · skip
                    refine J.skip rfl rfl rfl rfl hc100 ?_
                    refine J.skip rfl rfl rfl rfl hc100 ?_
                    refine J.skip rfl rfl rfl rfl hc100 ?_
                    refine J.skip rfl rfl rfl rfl hc100 ?_
                    refine J.skipu rfl rfl rfl rfl ?_
                    refine J.skipu rfl rfl rfl rfl ?_
                    refine J.skipu rfl rfl rfl rfl ?_
                    refine J.skip rfl rfl rfl rfl hc100 ?_
                    refine J.skip rfl rfl rfl rfl hc100 ?_
                    refine J.skipu rfl rfl rfl rfl ?_
                    refine J.skipu rfl rfl rfl rfl ?_
                    refine J.skipu rfl rfl rfl rfl ?_
                    refine J.skipu rfl rfl rfl rfl ?_
                    refine J.skip rfl rfl rfl rfl hc100 ?_
                    refine J.val (v := .bool false) rfl rfl (V.pickF rfl hc100 rfl) ?_
                    refine J.nil ?_
                    exact ⟨rfl, ⟨(by simp only [hc100]; rfl), rfl, trivial⟩, rfl, rfl⟩
                · rintro ρ _ _ ⟨hf, rfl, rfl⟩
                  obtain ⟨ρ, rfl⟩ := hf.ex
                  refine J.nil ?_
                  refine CJ.cond rfl (fun hc107 => ?_) (fun hc107 => ?_)
                  · have h := ct hc107 h
                    refine CJ.seq ?_
                    refine CJ.region ?_
                    refine J.val (v := .int .i64 3) rfl rfl (V.as rfl) ?_
                    refine J.nil ?_
                    refine CJ.ret ?_
                    have e := Option.some.inj h
                    subst e
                    exact ⟨_, [], Res.one rfl rfl, ⟨3, rfl, rfl, rfl⟩, (Hp.le_refl _), fun w hs => (Sep.dropAt 0 rfl hs)⟩
                  · have h := cf hc107 h
                    refine CJ.skip ?_
                    refine CJ.seq ?_
                    refine CJ.seq ?_
                    refine CJ.region ?_
                    refine J.val rfl rfl (V.fad Try.underlying24 rfl nz3 rfl) ?_
                    refine J.val (v := .int .i64 xa.1) rfl rfl (V.ld rfl (Ld.sc sc3 (Rd.cl 0 rfl rfl))) ?_
                    refine J.val (v := .bool (decide (xa.1 = 1))) rfl rfl (V.eql rfl rfl) ?_
                    refine J.val (v := .bool (decide (xa.1 = 1))) rfl rfl (V.mv rfl) ?_
                    refine J.cut 4 ?_
                    refine @J.meet _ _ _ _ _ _ _ _ _ _ (fun ρ K' L' => Fits [(73, .bool ((decide (xa.1 = 1)) || (decide (xa.1 = 3)))), (1, .pointer (some ⟨b62, 0, none⟩))] ρ ∧ K = K' ∧ L' = Cl b62 24 [.int .i64 xa.1, .int .i64 xa.2.1, .int .i64 xa.2.2.1, .slice adxa_3 xa.2.2.2.1.length cpxa_3, .slice adxa_4 xa.2.2.2.2.1.length cpxa_4, .slice adxa_5 xa.2.2.2.2.2.length cpxa_5] :: F) ?_ ?_
                    · skip
                      rcases bt (decide (xa.1 = 1)) with hc110 | hc110
                      · skip
                        refine J.skip rfl rfl rfl rfl hc110 ?_
                        refine J.skip rfl rfl rfl rfl hc110 ?_
                        refine J.skip rfl rfl rfl rfl hc110 ?_
                        refine J.val (v := .bool true) rfl rfl (V.pickT rfl hc110 rfl) ?_
                        refine J.nil ?_
                        exact ⟨rfl, ⟨(by simp only [hc110]; rfl), rfl, trivial⟩, rfl, rfl⟩
                      · skip
                        refine J.run rfl rfl rfl hc110 ?_
                        refine J.val rfl rfl (V.fad Try.underlying24 rfl nz3 rfl) ?_
                        refine J.run rfl rfl rfl hc110 ?_
                        refine J.val (v := .int .i64 xa.1) rfl rfl (V.ld rfl (Ld.sc sc3 (Rd.cl 0 rfl rfl))) ?_
                        refine J.run rfl rfl rfl hc110 ?_
                        refine J.val (v := .bool (decide (xa.1 = 3))) rfl rfl (V.eql rfl rfl) ?_
                        refine J.val (v := .bool (decide (xa.1 = 3))) rfl rfl (V.pickF rfl hc110 rfl) ?_
                        refine J.nil ?_
                        exact ⟨rfl, ⟨(by simp only [hc110]; rfl), rfl, trivial⟩, rfl, rfl⟩
                    · rintro ρ _ _ ⟨hf, rfl, rfl⟩
                      obtain ⟨ρ, rfl⟩ := hf.ex
                      refine J.val (v := .bool ((decide (xa.1 = 1)) || (decide (xa.1 = 3)))) rfl rfl (V.mv rfl) ?_
                      refine J.cut 5 ?_
                      refine @J.meet _ _ _ _ _ _ _ _ _ _ (fun ρ K' L' => Fits [(79, .bool (((decide (xa.1 = 1)) || (decide (xa.1 = 3))) && (!decide ((((xa.2.2.2.2.1.length : Nat) : Int)) = 0)))), (1, .pointer (some ⟨b62, 0, none⟩))] ρ ∧ K = K' ∧ L' = Cl b62 24 [.int .i64 xa.1, .int .i64 xa.2.1, .int .i64 xa.2.2.1, .slice adxa_3 xa.2.2.2.1.length cpxa_3, .slice adxa_4 xa.2.2.2.2.1.length cpxa_4, .slice adxa_5 xa.2.2.2.2.2.length cpxa_5] :: F) ?_ ?_
                      · skip
                        rcases bt ((decide (xa.1 = 1)) || (decide (xa.1 = 3))) with hc113 | hc113
                        · skip
                          refine J.run rfl rfl rfl hc113 ?_
                          refine J.val rfl rfl (V.fad Try.underlying24 rfl nz22 rfl) ?_
                          refine J.run rfl rfl rfl hc113 ?_
                          refine J.val (v := .slice adxa_4 xa.2.2.2.2.1.length cpxa_4) rfl rfl (V.ld rfl (Ld.sc sc22 (Rd.cl 0 rfl rfl))) ?_
                          refine J.run rfl rfl rfl hc113 ?_
                          refine J.val (v := .int .i64 (((xa.2.2.2.2.1.length : Nat) : Int))) rfl rfl (V.len Try.underlying22 rfl) ?_
                          refine J.run rfl rfl rfl hc113 ?_
                          refine J.val (v := .bool (!decide ((((xa.2.2.2.2.1.length : Nat) : Int)) = 0))) rfl rfl (V.neq rfl rfl) ?_
                          refine J.val (v := .bool (!decide ((((xa.2.2.2.2.1.length : Nat) : Int)) = 0))) rfl rfl (V.pickT rfl hc113 rfl) ?_
                          refine J.nil ?_
                          exact ⟨rfl, ⟨(by simp only [hc113]; rfl), rfl, trivial⟩, rfl, rfl⟩
                        · skip
                          refine J.skip rfl rfl rfl rfl hc113 ?_
                          refine J.skip rfl rfl rfl rfl hc113 ?_
                          refine J.skip rfl rfl rfl rfl hc113 ?_
                          refine J.skip rfl rfl rfl rfl hc113 ?_
                          refine J.val (v := .bool false) rfl rfl (V.pickF rfl hc113 rfl) ?_
                          refine J.nil ?_
                          exact ⟨rfl, ⟨(by simp only [hc113]; rfl), rfl, trivial⟩, rfl, rfl⟩
                      · rintro ρ _ _ ⟨hf, rfl, rfl⟩
                        obtain ⟨ρ, rfl⟩ := hf.ex
                        refine J.nil ?_
                        refine CJ.cond rfl (fun hc114 => ?_) (fun hc114 => ?_)
                        · have h := ct hc114 h
                          refine CJ.seq ?_
                          refine CJ.region ?_
                          refine J.val (v := .int .i64 3) rfl rfl (V.as rfl) ?_
                          refine J.nil ?_
                          refine CJ.ret ?_
                          have e := Option.some.inj h
                          subst e
                          exact ⟨_, [], Res.one rfl rfl, ⟨3, rfl, rfl, rfl⟩, (Hp.le_refl _), fun w hs => (Sep.dropAt 0 rfl hs)⟩
                        · have h := cf hc114 h
                          refine CJ.skip ?_
                          refine CJ.seq ?_
                          refine CJ.seq ?_
                          refine CJ.region ?_
                          refine J.val rfl rfl (V.fad Try.underlying24 rfl nz22 rfl) ?_
                          refine J.val (v := .slice adxa_3 xa.2.2.2.1.length cpxa_3) rfl rfl (V.ld rfl (Ld.sc sc22 (Rd.cl 0 rfl rfl))) ?_
                          refine J.val (v := .int .i64 (((xa.2.2.2.1.length : Nat) : Int))) rfl rfl (V.len Try.underlying22 rfl) ?_
                          refine J.val (v := .bool (decide (16 < (((xa.2.2.2.1.length : Nat) : Int))))) rfl rfl (V.gtr rfl rfl) ?_
                          refine J.val (v := .bool (decide (16 < (((xa.2.2.2.1.length : Nat) : Int))))) rfl rfl (V.mv rfl) ?_
                          refine J.cut 5 ?_
                          refine @J.meet _ _ _ _ _ _ _ _ _ _ (fun ρ K' L' => Fits [(89, .bool ((decide (16 < (((xa.2.2.2.1.length : Nat) : Int)))) || (decide (16 < (((xa.2.2.2.2.1.length : Nat) : Int)))))), (1, .pointer (some ⟨b62, 0, none⟩))] ρ ∧ K = K' ∧ L' = Cl b62 24 [.int .i64 xa.1, .int .i64 xa.2.1, .int .i64 xa.2.2.1, .slice adxa_3 xa.2.2.2.1.length cpxa_3, .slice adxa_4 xa.2.2.2.2.1.length cpxa_4, .slice adxa_5 xa.2.2.2.2.2.length cpxa_5] :: F) ?_ ?_
                          · skip
                            rcases bt (decide (16 < (((xa.2.2.2.1.length : Nat) : Int)))) with hc117 | hc117
                            · skip
                              refine J.skip rfl rfl rfl rfl hc117 ?_
                              refine J.skip rfl rfl rfl rfl hc117 ?_
                              refine J.skip rfl rfl rfl rfl hc117 ?_
                              refine J.skip rfl rfl rfl rfl hc117 ?_
                              refine J.val (v := .bool true) rfl rfl (V.pickT rfl hc117 rfl) ?_
                              refine J.nil ?_
                              exact ⟨rfl, ⟨(by simp only [hc117]; rfl), rfl, trivial⟩, rfl, rfl⟩
                            · skip
                              refine J.run rfl rfl rfl hc117 ?_
                              refine J.val rfl rfl (V.fad Try.underlying24 rfl nz22 rfl) ?_
                              refine J.run rfl rfl rfl hc117 ?_
                              refine J.val (v := .slice adxa_4 xa.2.2.2.2.1.length cpxa_4) rfl rfl (V.ld rfl (Ld.sc sc22 (Rd.cl 0 rfl rfl))) ?_
                              refine J.run rfl rfl rfl hc117 ?_
                              refine J.val (v := .int .i64 (((xa.2.2.2.2.1.length : Nat) : Int))) rfl rfl (V.len Try.underlying22 rfl) ?_
                              refine J.run rfl rfl rfl hc117 ?_
                              refine J.val (v := .bool (decide (16 < (((xa.2.2.2.2.1.length : Nat) : Int))))) rfl rfl (V.gtr rfl rfl) ?_
                              refine J.val (v := .bool (decide (16 < (((xa.2.2.2.2.1.length : Nat) : Int))))) rfl rfl (V.pickF rfl hc117 rfl) ?_
                              refine J.nil ?_
                              exact ⟨rfl, ⟨(by simp only [hc117]; rfl), rfl, trivial⟩, rfl, rfl⟩
                          · rintro ρ _ _ ⟨hf, rfl, rfl⟩
                            obtain ⟨ρ, rfl⟩ := hf.ex
                            refine J.val (v := .bool ((decide (16 < (((xa.2.2.2.1.length : Nat) : Int)))) || (decide (16 < (((xa.2.2.2.2.1.length : Nat) : Int)))))) rfl rfl (V.mv rfl) ?_
                            refine J.cut 5 ?_
                            refine @J.meet _ _ _ _ _ _ _ _ _ _ (fun ρ K' L' => Fits [(95, .bool (((decide (16 < (((xa.2.2.2.1.length : Nat) : Int)))) || (decide (16 < (((xa.2.2.2.2.1.length : Nat) : Int))))) || (decide (16 < (((xa.2.2.2.2.2.length : Nat) : Int))))))] ρ ∧ K = K' ∧ L' = Cl b62 24 [.int .i64 xa.1, .int .i64 xa.2.1, .int .i64 xa.2.2.1, .slice adxa_3 xa.2.2.2.1.length cpxa_3, .slice adxa_4 xa.2.2.2.2.1.length cpxa_4, .slice adxa_5 xa.2.2.2.2.2.length cpxa_5] :: F) ?_ ?_
                            · skip
                              rcases bt ((decide (16 < (((xa.2.2.2.1.length : Nat) : Int)))) || (decide (16 < (((xa.2.2.2.2.1.length : Nat) : Int))))) with hc120 | hc120
                              · skip
                                refine J.skip rfl rfl rfl rfl hc120 ?_
                                refine J.skip rfl rfl rfl rfl hc120 ?_
                                refine J.skip rfl rfl rfl rfl hc120 ?_
                                refine J.skip rfl rfl rfl rfl hc120 ?_
                                refine J.val (v := .bool true) rfl rfl (V.pickT rfl hc120 rfl) ?_
                                refine J.nil ?_
                                exact ⟨rfl, ⟨(by simp only [hc120]; rfl), trivial⟩, rfl, rfl⟩
                              · skip
                                refine J.run rfl rfl rfl hc120 ?_
                                refine J.val rfl rfl (V.fad Try.underlying24 rfl nz22 rfl) ?_
                                refine J.run rfl rfl rfl hc120 ?_
                                refine J.val (v := .slice adxa_5 xa.2.2.2.2.2.length cpxa_5) rfl rfl (V.ld rfl (Ld.sc sc22 (Rd.cl 0 rfl rfl))) ?_
                                refine J.run rfl rfl rfl hc120 ?_
                                refine J.val (v := .int .i64 (((xa.2.2.2.2.2.length : Nat) : Int))) rfl rfl (V.len Try.underlying22 rfl) ?_
                                refine J.run rfl rfl rfl hc120 ?_
                                refine J.val (v := .bool (decide (16 < (((xa.2.2.2.2.2.length : Nat) : Int))))) rfl rfl (V.gtr rfl rfl) ?_
                                refine J.val (v := .bool (decide (16 < (((xa.2.2.2.2.2.length : Nat) : Int))))) rfl rfl (V.pickF rfl hc120 rfl) ?_
                                refine J.nil ?_
                                exact ⟨rfl, ⟨(by simp only [hc120]; rfl), trivial⟩, rfl, rfl⟩
                            · rintro ρ _ _ ⟨hf, rfl, rfl⟩
                              obtain ⟨ρ, rfl⟩ := hf.ex
                              refine J.nil ?_
                              refine CJ.cond rfl (fun hc121 => ?_) (fun hc121 => ?_)
                              · have h := ct hc121 h
                                refine CJ.seq ?_
                                refine CJ.region ?_
                                refine J.val (v := .int .i64 6) rfl rfl (V.as rfl) ?_
                                refine J.nil ?_
                                refine CJ.ret ?_
                                have e := Option.some.inj h
                                subst e
                                exact ⟨_, [], Res.one rfl rfl, ⟨6, rfl, rfl, rfl⟩, (Hp.le_refl _), fun w hs => (Sep.dropAt 0 rfl hs)⟩
                              · have h := cf hc121 h
                                refine CJ.skip ?_
                                refine CJ.seq ?_
                                refine CJ.region ?_
                                refine J.val (v := .int .i64 0) rfl rfl (V.as rfl) ?_
                                refine J.nil ?_
                                refine CJ.ret ?_
                                have e := Option.some.inj h
                                subst e
                                exact ⟨_, [], Res.one rfl rfl, ⟨0, rfl, rfl, rfl⟩, (Hp.le_refl _), fun w hs => (Sep.dropAt 0 rfl hs)⟩
noncomputable def fn_ref19_within_l1 (xa : (List Int)) (xb : Int) : Int → Option (Int ⊕ (Unit ⊕ Bool)) := fun (i361 : Int) => cond (decide (i361 < (((xa.length : Nat) : Int)))) ((getI xa i361).bind fun x401 => (cond (decide (x401 < 0)) (some (true)) ((getI xa i361).bind fun x423 => some (decide (xb ≤ x423)))).bind fun t420 => cond (t420) (some (.inr ((.inr (false))))) (some (.inl (IntKind.wrap .i64 (i361 + 1))))) (some (.inr ((.inl ()))))
noncomputable def fn_ref19_within (xa : (List Int)) (xb : Int) : Option Bool :=
  (loop (fn_ref19_within_l1 xa xb) 0 : Option (Unit ⊕ Bool)).bind fun o => match o with | .inr r => some r | .inl () => some (true)
set_option maxRecDepth 100000 in
set_option maxHeartbeats 4000000 in
theorem ref19_within_ok {K : Hp} {xa : (List Int)} {xb : Int} {adxa_0 : Option Addr} {cpxa_0 : Nat} (fxa_0 : Is K (.sl (.int .i64)) [.slice adxa_0 xa.length cpxa_0] xa) {r : Bool} (h : fn_ref19_within xa xb = some r) :
    Tr Try.prog 27 #[.slice adxa_0 xa.length cpxa_0, .int .i64 xb] K [] (fun v K' L' => (∃ (t218 : Bool), t218 = r ∧ .bool t218 = v ∧ L' = []) ∧ K = K') := by
  refine Tr.k ?_
  refine Tr.of Try.func27 rfl Try.ntmps27 rfl (fun E F => ?_)
  unfold fn_ref19_within at h
  refine CJ.seq ?_
  refine CJ.region ?_
  refine J.val (v := .bool false) rfl rfl (V.as rfl) ?_
  refine J.nil ?_
  refine CJ.seq ?_
  refine CJ.seq ?_
  refine CJ.region ?_
  refine J.val (v := .int .i64 0) rfl rfl (V.as rfl) ?_
  refine J.nil ?_
  obtain ⟨o325, ho326, h⟩ := ob h
  refine CJ.joinN (o := o325) (fun s ρ K' L' => () = s ∧ Fits [] ρ ∧ K = K' ∧ F = L') ?_ ?_
  · skip
    refine CJ.block ?_
    refine CJ.loop (fun s ρ K' L' => ∃ (i361 : Int), i361 = s ∧ Fits [(0, .slice adxa_0 xa.length cpxa_0), (1, .int .i64 xb), (5, .int .i64 i361)] ρ ∧ K = K' ∧ F = L') ho326 ⟨0, rfl, ⟨rfl, rfl, rfl, trivial⟩, rfl, rfl⟩ ?_
    rintro s ρ _ _ r399 ⟨i361, rfl, hf397, rfl, rfl⟩ h396
    obtain ⟨ρ, rfl⟩ := hf397.ex
    refine CJ.seq ?_
    refine CJ.seq ?_
    refine CJ.region ?_
    refine J.val (v := .int .i64 i361) rfl rfl (V.mv rfl) ?_
    refine J.val (v := .slice adxa_0 xa.length cpxa_0) rfl rfl (V.mv rfl) ?_
    refine J.val (v := .int .i64 (((xa.length : Nat) : Int))) rfl rfl (V.len Try.underlying22 rfl) ?_
    refine J.val (v := .bool (decide (i361 < (((xa.length : Nat) : Int))))) rfl rfl (V.lss rfl rfl) ?_
    refine J.nil ?_
    refine CJ.cond rfl (fun hc400 => ?_) (fun hc400 => ?_)
    · have h396 := ct hc400 h396
      refine CJ.skip ?_
      refine CJ.seq ?_
      refine CJ.block ?_
      refine CJ.seq ?_
      refine CJ.region ?_
      refine J.val (v := .slice adxa_0 xa.length cpxa_0) rfl rfl (V.mv rfl) ?_
      refine J.val (v := .int .i64 i361) rfl rfl (V.mv rfl) ?_
      obtain ⟨x401, hx402, h396⟩ := ob h396
      obtain ⟨p403, p404, p405⟩ := getI_some hx402
      obtain ⟨b406, o407, e408, a409⟩ := (fxa_0).at p404
      refine J.val rfl rfl (V.iad Try.underlying22 sz3 rfl e408 rfl p403 p405) ?_
      refine J.val (v := .int .i64 x401) rfl rfl (V.ld rfl (Ld.sc sc3 (Rd.k (a409).int (Hp.le_refl _)))) ?_
      refine J.val (v := .bool (decide (x401 < 0))) rfl rfl (V.lss rfl rfl) ?_
      refine J.val (v := .bool (decide (x401 < 0))) rfl rfl (V.mv rfl) ?_
      refine J.cut 7 ?_
      obtain ⟨t420, ht421, h396⟩ := ob h396
      refine @J.meet _ _ _ _ _ _ _ _ _ _ (fun ρ K' L' => Fits [(24, .bool t420), (0, .slice adxa_0 xa.length cpxa_0), (1, .int .i64 xb), (5, .int .i64 i361)] ρ ∧ K = K' ∧ F = L') ?_ ?_
      · skip
        rcases bt (decide (x401 < 0)) with hc422 | hc422
        · have ht421 := ct hc422 ht421
          refine J.skip rfl rfl rfl rfl hc422 ?_
          refine J.skip rfl rfl rfl rfl hc422 ?_
          refine J.skip rfl rfl rfl rfl hc422 ?_
          refine J.skip rfl rfl rfl rfl hc422 ?_
          refine J.skip rfl rfl rfl rfl hc422 ?_
          refine J.skip rfl rfl rfl rfl hc422 ?_
          refine J.val (v := .bool true) rfl rfl (V.pickT rfl hc422 rfl) ?_
          refine J.nil ?_
          have e := Option.some.inj ht421
          subst e
          exact ⟨rfl, ⟨rfl, rfl, rfl, rfl, trivial⟩, rfl, rfl⟩
        · have ht421 := cf hc422 ht421
          refine J.run rfl rfl rfl hc422 ?_
          refine J.val (v := .slice adxa_0 xa.length cpxa_0) rfl rfl (V.mv rfl) ?_
          refine J.run rfl rfl rfl hc422 ?_
          refine J.val (v := .int .i64 i361) rfl rfl (V.mv rfl) ?_
          refine J.run rfl rfl rfl hc422 ?_
          obtain ⟨x423, hx424, ht421⟩ := ob ht421
          obtain ⟨p425, p426, p427⟩ := getI_some hx424
          obtain ⟨b428, o429, e430, a431⟩ := (fxa_0).at p426
          refine J.val rfl rfl (V.iad Try.underlying22 sz3 rfl e430 rfl p425 p427) ?_
          refine J.run rfl rfl rfl hc422 ?_
          refine J.val (v := .int .i64 x423) rfl rfl (V.ld rfl (Ld.sc sc3 (Rd.k (a431).int (Hp.le_refl _)))) ?_
          refine J.run rfl rfl rfl hc422 ?_
          refine J.val (v := .int .i64 xb) rfl rfl (V.mv rfl) ?_
          refine J.run rfl rfl rfl hc422 ?_
          refine J.val (v := .bool (decide (xb ≤ x423))) rfl rfl (V.geq rfl rfl) ?_
          refine J.val (v := .bool (decide (xb ≤ x423))) rfl rfl (V.pickF rfl hc422 rfl) ?_
          refine J.nil ?_
          have e := Option.some.inj ht421
          subst e
          exact ⟨rfl, ⟨rfl, rfl, rfl, rfl, trivial⟩, rfl, rfl⟩
      · rintro ρ _ _ ⟨hf, rfl, rfl⟩
        obtain ⟨ρ, rfl⟩ := hf.ex
        refine J.nil ?_
        refine CJ.cond rfl (fun hc432 => ?_) (fun hc432 => ?_)
        · have h396 := ct hc432 h396
          refine CJ.seq ?_
          refine CJ.region ?_
          refine J.val (v := .bool false) rfl rfl (V.as rfl) ?_
          refine J.nil ?_
          refine CJ.ret ?_
          have e := Option.some.inj h396
          subst e
          refine ⟨nofun, fun e => ?_⟩
          subst e
          refine .inr ⟨nofun, ?_⟩
          have e := Option.some.inj h
          subst e
          exact ⟨_, [], Res.one rfl rfl, ⟨false, rfl, rfl, rfl⟩, (Hp.le_refl _), fun w hs => hs⟩
        · have h396 := cf hc432 h396
          refine CJ.skip ?_
          refine CJ.region ?_
          refine J.val (v := .int .i64 i361) rfl rfl (V.mv rfl) ?_
          refine J.val (v := .int .i64 (IntKind.wrap .i64 (i361 + 1))) rfl rfl (V.add rfl rfl) ?_
          refine J.val (v := .int .i64 (IntKind.wrap .i64 (i361 + 1))) rfl rfl (V.as rfl) ?_
          refine J.nil ?_
          have e := Option.some.inj h396
          subst e
          exact ⟨rfl, ⟨IntKind.wrap .i64 (i361 + 1), rfl, ⟨rfl, rfl, rfl, trivial⟩, rfl, rfl⟩⟩
    · have h396 := cf hc400 h396
      refine CJ.exit ?_
      have e := Option.some.inj h396
      subst e
      refine ⟨nofun, fun e => ?_⟩
      subst e
      exact .inl ⟨rfl, _, rfl, ⟨rfl, trivial, rfl, rfl⟩⟩
  · rintro s ρ _ _ ho433 ⟨rfl, hf434, rfl, rfl⟩
    subst ho433
    obtain ⟨ρ, rfl⟩ := hf434.ex
    refine PJ.done ?_
    refine CJ.seq ?_
    refine CJ.region ?_
    refine J.val (v := .bool true) rfl rfl (V.as rfl) ?_
    refine J.nil ?_
    refine CJ.ret ?_
    have e := Option.some.inj h
    subst e
    exact ⟨_, [], Res.one rfl rfl, ⟨true, rfl, rfl, rfl⟩, (Hp.le_refl _), fun w hs => hs⟩
noncomputable def fn_ref15_Shape_l1 (xa : (List (Int × Bool))) (xb : (List (Int × Bool))) : Int → Option (Int ⊕ (Unit ⊕ Bool)) := fun (i417 : Int) => cond (decide (i417 < (((xa.length : Nat) : Int)))) ((getI xa i417).bind fun x480 => (getI xb i417).bind fun x489 => cond (!(x480.2 == x489.2)) (some (.inr ((.inr (false))))) (some (.inl (IntKind.wrap .i64 (i417 + 1))))) (some (.inr ((.inl ()))))
noncomputable def fn_ref15_Shape (xa : (List (Int × Bool))) (xb : (List (Int × Bool))) : Option Bool :=
  cond (!decide ((((xa.length : Nat) : Int)) = (((xb.length : Nat) : Int)))) (some (false)) ((loop (fn_ref15_Shape_l1 xa xb) 0 : Option (Unit ⊕ Bool)).bind fun o => match o with | .inr r => some r | .inl () => some (true))
set_option maxRecDepth 100000 in
set_option maxHeartbeats 4000000 in
theorem ref15_Shape_ok {K : Hp} {xa : (List (Int × Bool))} {xb : (List (Int × Bool))} {adxa_0 : Option Addr} {cpxa_0 : Nat} {adxb_0 : Option Addr} {cpxb_0 : Nat} (fxa_0 : Is K (.sl (.cons (.int .i64) (.one .bool))) [.slice adxa_0 xa.length cpxa_0] xa) (fxb_0 : Is K (.sl (.cons (.int .i64) (.one .bool))) [.slice adxb_0 xb.length cpxb_0] xb) {r : Bool} (h : fn_ref15_Shape xa xb = some r) :
    Tr Try.prog 51 #[.agg #[.slice adxa_0 xa.length cpxa_0], .agg #[.slice adxb_0 xb.length cpxb_0]] K [] (fun v K' L' => (∃ (t251 : Bool), t251 = r ∧ .bool t251 = v ∧ L' = []) ∧ K = K') := by
  refine Tr.k ?_
  refine Tr.of Try.func51 rfl Try.ntmps51 rfl (fun E F => ?_)
  unfold fn_ref15_Shape at h
  refine CJ.seq ?_
  refine CJ.region ?_
  refine J.op rfl (A.box (v := .agg #[.slice adxa_0 xa.length cpxa_0]) (cs := [.slice adxa_0 xa.length cpxa_0]) rfl rfl) ?_
  rintro _ _ _ ⟨b252, rfl, rfl, rfl⟩
  refine J.op rfl (A.box (v := .agg #[.slice adxb_0 xb.length cpxb_0]) (cs := [.slice adxb_0 xb.length cpxb_0]) rfl rfl) ?_
  rintro _ _ _ ⟨b253, rfl, rfl, rfl⟩
  refine J.val (v := .bool false) rfl rfl (V.as rfl) ?_
  refine J.nil ?_
  refine CJ.seq ?_
  refine CJ.seq ?_
  refine CJ.region ?_
  refine J.val rfl rfl (V.fad Try.underlying28 rfl nz26 rfl) ?_
  refine J.val (v := .slice adxa_0 xa.length cpxa_0) rfl rfl (V.ld rfl (Ld.sc sc26 (Rd.cl 1 rfl rfl))) ?_
  refine J.val (v := .int .i64 (((xa.length : Nat) : Int))) rfl rfl (V.len Try.underlying26 rfl) ?_
  refine J.val rfl rfl (V.fad Try.underlying28 rfl nz26 rfl) ?_
  refine J.val (v := .slice adxb_0 xb.length cpxb_0) rfl rfl (V.ld rfl (Ld.sc sc26 (Rd.cl 0 rfl rfl))) ?_
  refine J.val (v := .int .i64 (((xb.length : Nat) : Int))) rfl rfl (V.len Try.underlying26 rfl) ?_
  refine J.val (v := .bool (!decide ((((xa.length : Nat) : Int)) = (((xb.length : Nat) : Int))))) rfl rfl (V.neq rfl rfl) ?_
  refine J.nil ?_
  refine CJ.cond rfl (fun hc254 => ?_) (fun hc254 => ?_)
  · have h := ct hc254 h
    refine CJ.seq ?_
    refine CJ.region ?_
    refine J.val (v := .bool false) rfl rfl (V.as rfl) ?_
    refine J.nil ?_
    refine CJ.ret ?_
    have e := Option.some.inj h
    subst e
    exact ⟨_, [], Res.one rfl rfl, ⟨false, rfl, rfl, rfl⟩, (Hp.le_refl _), fun w hs => (Sep.dropAt 0 rfl (Sep.dropAt 0 rfl hs))⟩
  · have h := cf hc254 h
    refine CJ.skip ?_
    refine CJ.seq ?_
    refine CJ.seq ?_
    refine CJ.region ?_
    refine J.val (v := .int .i64 0) rfl rfl (V.as rfl) ?_
    refine J.nil ?_
    obtain ⟨o376, ho377, h⟩ := ob h
    refine CJ.joinN (o := o376) (fun s ρ K' L' => () = s ∧ Fits [] ρ ∧ K = K' ∧ F = L') ?_ ?_
    · skip
      refine CJ.block ?_
      refine CJ.front 1 rfl ?_
      refine CJ.loop (fun s ρ K' L' => ∃ (i417 : Int), i417 = s ∧ Fits [(2, .pointer (some ⟨b252, 0, none⟩)), (3, .pointer (some ⟨b253, 0, none⟩)), (5, .int .i64 i417)] ρ ∧ K = K' ∧ L' = Cl b252 28 [.slice adxa_0 xa.length cpxa_0] :: Cl b253 28 [.slice adxb_0 xb.length cpxb_0] :: F) ho377 ⟨0, rfl, ⟨rfl, rfl, rfl, trivial⟩, rfl, rfl⟩ ?_
      rintro s ρ _ _ r460 ⟨i417, rfl, hf458, rfl, rfl⟩ h457
      obtain ⟨ρ, rfl⟩ := hf458.ex
      refine CJ.seq ?_
      refine CJ.seq ?_
      refine CJ.region ?_
      refine J.val (v := .int .i64 i417) rfl rfl (V.mv rfl) ?_
      refine J.val rfl rfl (V.fad Try.underlying28 rfl nz26 rfl) ?_
      refine J.val (v := .slice adxa_0 xa.length cpxa_0) rfl rfl (V.ld rfl (Ld.sc sc26 (Rd.cl 0 rfl rfl))) ?_
      refine J.val (v := .int .i64 (((xa.length : Nat) : Int))) rfl rfl (V.len Try.underlying26 rfl) ?_
      refine J.val (v := .bool (decide (i417 < (((xa.length : Nat) : Int))))) rfl rfl (V.lss rfl rfl) ?_
      refine J.nil ?_
      refine CJ.cond rfl (fun hc461 => ?_) (fun hc461 => ?_)
      · have h457 := ct hc461 h457
        refine CJ.skip ?_
        refine CJ.seq ?_
        refine CJ.block ?_
        refine CJ.seq ?_
        refine CJ.mix [Cl b252 28 [.slice adxa_0 xa.length cpxa_0], Cl b253 28 [.slice adxb_0 xb.length cpxb_0]] [] [0, 1, 2, 3, 4, 5, 6, 7, 8, 9, 10, 11, 12] [] mixO (by decide +kernel) ⟨0, rfl, 0, rfl, trivial⟩ rfl rfl rfl ?_
        refine JM.nil ?_
        refine JQ.val rfl rfl (V.fad Try.underlying28 rfl nz26 rfl) ?_
        refine JQ.val (v := .slice adxa_0 xa.length cpxa_0) rfl rfl (V.ld rfl (Ld.sc sc26 (Rd.cl 0 rfl rfl))) ?_
        refine JQ.val (v := .int .i64 i417) rfl rfl (V.mv rfl) ?_
        obtain ⟨x480, hx481, h457⟩ := ob h457
        obtain ⟨p482, p483, p484⟩ := getI_some hx481
        obtain ⟨b485, o486, e487, a488⟩ := (fxa_0).at p483
        refine JQ.val rfl rfl (V.iad Try.underlying26 sz111 rfl e487 rfl p482 p484) ?_
        refine JQ.val rfl rfl (V.fad Try.underlying111 rfl nz4 rfl) ?_
        refine JQ.val (v := .bool x480.2) rfl rfl (V.ld rfl (Ld.sc sc4 (Rd.k (((a488).snd).one).bool (Hp.le_refl _)))) ?_
        refine JQ.val rfl rfl (V.fad Try.underlying28 rfl nz26 rfl) ?_
        refine JQ.val (v := .slice adxb_0 xb.length cpxb_0) rfl rfl (V.ld rfl (Ld.sc sc26 (Rd.cl 1 rfl rfl))) ?_
        refine JQ.val (v := .int .i64 i417) rfl rfl (V.mv rfl) ?_
        obtain ⟨x489, hx490, h457⟩ := ob h457
        obtain ⟨p491, p492, p493⟩ := getI_some hx490
        obtain ⟨b494, o495, e496, a497⟩ := (fxb_0).at p492
        refine JQ.val rfl rfl (V.iad Try.underlying26 sz111 rfl e496 rfl p491 p493) ?_
        refine JQ.val rfl rfl (V.fad Try.underlying111 rfl nz4 rfl) ?_
        refine JQ.val (v := .bool x489.2) rfl rfl (V.ld rfl (Ld.sc sc4 (Rd.k (((a497).snd).one).bool (Hp.le_refl _)))) ?_
        refine JQ.val (v := .bool (!(x480.2 == x489.2))) rfl rfl (V.neb Try.underlying4 rfl rfl) ?_
        refine JQ.nil ?_
        refine J.nil ?_
        refine CJ.cond rfl (fun hc498 => ?_) (fun hc498 => ?_)
        · have h457 := ct hc498 h457
          refine CJ.seq ?_
          refine CJ.region ?_
          refine J.val (v := .bool false) rfl rfl (V.as rfl) ?_
          refine J.nil ?_
          refine CJ.ret ?_
          have e := Option.some.inj h457
          subst e
          refine ⟨nofun, fun e => ?_⟩
          subst e
          refine .inr ⟨nofun, ?_⟩
          have e := Option.some.inj h
          subst e
          exact ⟨_, [], Res.one rfl rfl, ⟨false, rfl, rfl, rfl⟩, (Hp.le_refl _), fun w hs => (Sep.dropAt 0 rfl (Sep.dropAt 0 rfl hs))⟩
        · have h457 := cf hc498 h457
          refine CJ.skip ?_
          refine CJ.region ?_
          refine J.val (v := .int .i64 i417) rfl rfl (V.mv rfl) ?_
          refine J.val (v := .int .i64 (IntKind.wrap .i64 (i417 + 1))) rfl rfl (V.add rfl rfl) ?_
          refine J.val (v := .int .i64 (IntKind.wrap .i64 (i417 + 1))) rfl rfl (V.as rfl) ?_
          refine J.nil ?_
          have e := Option.some.inj h457
          subst e
          exact ⟨rfl, ⟨IntKind.wrap .i64 (i417 + 1), rfl, ⟨rfl, rfl, rfl, trivial⟩, rfl, rfl⟩⟩
      · have h457 := cf hc461 h457
        refine CJ.dropAt 0 rfl ?_
        refine CJ.dropAt 0 rfl ?_
        refine CJ.exit ?_
        have e := Option.some.inj h457
        subst e
        refine ⟨nofun, fun e => ?_⟩
        subst e
        exact .inl ⟨rfl, _, rfl, ⟨rfl, trivial, rfl, rfl⟩⟩
    · rintro s ρ _ _ ho499 ⟨rfl, hf500, rfl, rfl⟩
      subst ho499
      obtain ⟨ρ, rfl⟩ := hf500.ex
      refine PJ.done ?_
      refine CJ.seq ?_
      refine CJ.region ?_
      refine J.val (v := .bool true) rfl rfl (V.as rfl) ?_
      refine J.nil ?_
      refine CJ.ret ?_
      have e := Option.some.inj h
      subst e
      exact ⟨_, [], Res.one rfl rfl, ⟨true, rfl, rfl, rfl⟩, (Hp.le_refl _), fun w hs => hs⟩
end Go.Proofs.Ytgeofnfjgjodgaa
