/- What Go functions answer: generated. -/
import Derived.Test.YtoghdhopojoggaaDt
import Derived.Test.YtoghdhopojoggaaRows
import Derived.Test.YtoghdhopojoggaaSrt
namespace Go.Proofs.Ytoghdhopojoggaa
open Go.RowKit
set_option linter.unusedVariables false
theorem inf37 : Inf Try.prog 37 (.agg #[.int .i64 0, .int .i64 0]) 2 16 := by unfold Inf; kernel_rfl
theorem places37 : Places Try.prog 37 [(0, 1), (1, 1)] := ⟨_, Try.underlying37, by kernel_rfl⟩
theorem inf34 : Inf Try.prog 34 (.agg #[.int .i64 0, .int .i64 0]) 2 16 := by unfold Inf; kernel_rfl
theorem sz37 : (Try.prog.info? 37).map (·.size) = some 2 := by kernel_rfl
theorem nz3 : Try.prog.cellsOf 3 ≠ 0 := by decide +kernel
theorem sc3 : scalar Try.prog 3 = true := by kernel_rfl
theorem places34 : Places Try.prog 34 [(0, 1), (1, 1)] := ⟨_, Try.underlying34, by kernel_rfl⟩
theorem mixO : Try.prog.follows .mixedOrders = true := by kernel_rfl
theorem sz34 : (Try.prog.info? 34).map (·.size) = some 2 := by kernel_rfl
theorem inf50 : Inf Try.prog 50 (.agg #[.int .i64 0, .slice none 0 0, .slice none 0 0, .slice none 0 0, .slice none 0 0, .slice none 0 0]) 6 128 := by unfold Inf; kernel_rfl
theorem places50 : Places Try.prog 50 [(0, 1), (1, 1), (2, 2), (4, 2)] := ⟨_, Try.underlying50, by kernel_rfl⟩
theorem nz45 : Try.prog.cellsOf 45 ≠ 0 := by decide +kernel
theorem sc45 : scalar Try.prog 45 = true := by kernel_rfl
theorem inf48 : Inf Try.prog 48 (.agg #[.slice none 0 0, .slice none 0 0]) 2 48 := by unfold Inf; kernel_rfl
theorem inf3 : Inf Try.prog 3 (.int .i64 0) 1 8 := by unfold Inf; kernel_rfl
theorem places48 : Places Try.prog 48 [(0, 1), (1, 1)] := ⟨_, Try.underlying48, by kernel_rfl⟩
theorem sz48 : (Try.prog.info? 48).map (·.size) = some 2 := by kernel_rfl
theorem nz30 : Try.prog.cellsOf 30 ≠ 0 := by decide +kernel
theorem sc30 : scalar Try.prog 30 = true := by kernel_rfl
theorem sz3 : (Try.prog.info? 3).map (·.size) = some 1 := by kernel_rfl
theorem nz48 : Try.prog.cellsOf 48 ≠ 0 := by decide +kernel
theorem inf4 : Inf Try.prog 4 (.bool false) 1 1 := by unfold Inf; kernel_rfl
theorem sz4 : (Try.prog.info? 4).map (·.size) = some 1 := by kernel_rfl
theorem sc4 : scalar Try.prog 4 = true := by kernel_rfl

noncomputable def fn_slices_Clone_graph_Arc_graph_Arc (xa : (List (Int × Int))) : Option ((List (Int × Int))) :=
  nilb xa (some ([])) ((app (([] : List (Int × Int))) xa).bind fun z21 => some (z21))
set_option maxRecDepth 100000 in
set_option maxHeartbeats 4000000 in
theorem slices_Clone_graph_Arc_graph_Arc_ok {K : Hp} {xa : (List (Int × Int))} {adxa_0 : Option Addr} {cpxa_0 : Nat} (fxa_0 : Is K (.sl (.cons (.int .i64) (.one (.int .i64)))) [.slice adxa_0 xa.length cpxa_0] xa) {r : (List (Int × Int))} (h : fn_slices_Clone_graph_Arc_graph_Arc xa = some r) :
    Tr Try.prog 28 #[.slice adxa_0 xa.length cpxa_0] K [] (fun v K' L' => (∃ (l11 : (List (Int × Int))) (ad12 : Option Addr) (cp13 : Nat), l11 = r ∧ .slice ad12 l11.length cp13 = v ∧ L' = [Row Hp.nil 34 (.cons (.int .i64) (.one (.int .i64))) (.slice ad12 l11.length cp13) l11]) ∧ K = K') := by
  refine Tr.k ?_
  refine Tr.of Try.func28 rfl Try.ntmps28 rfl (fun E F => ?_)
  unfold fn_slices_Clone_graph_Arc_graph_Arc at h
  refine CJ.seq ?_
  refine CJ.region ?_
  refine J.val (v := .slice none 0 0) rfl rfl (V.as rfl) ?_
  refine J.nil ?_
  refine CJ.seq ?_
  refine CJ.seq ?_
  refine CJ.region ?_
  refine J.val (v := .slice adxa_0 xa.length cpxa_0) rfl rfl (V.mv rfl) ?_
  refine J.val (v := .bool adxa_0.isNone) rfl rfl (V.sn_eql Try.underlying45 rfl rfl) ?_
  refine J.nil ?_
  rcases adxa_0 with _ | ad16
  · have h := nilb_nil ((fxa_0).nil_of) h
    refine CJ.condK (b := true) rfl rfl ?_
    refine CJ.seq ?_
    refine CJ.region ?_
    refine J.val (v := .slice none 0 0) rfl rfl (V.as rfl) ?_
    refine J.nil ?_
    refine CJ.by (fun w hs => Sep.rowNil (e := 34) (t := (.cons (.int .i64) (.one (.int .i64)))) hs) ?_
    refine CJ.ret ?_
    have e := Option.some.inj h
    subst e
    exact ⟨_, [Row Hp.nil 34 (.cons (.int .i64) (.one (.int .i64))) (.slice none ((([] : List (Int × Int))).length) 0) (([] : List (Int × Int)))], Res.one rfl rfl, ⟨[], none, 0, rfl, rfl, rfl⟩, (Hp.le_refl _), fun w hs => hs⟩
  · have h := nilb_cons h
    refine CJ.condK (b := false) rfl rfl ?_
    refine CJ.skip ?_
    refine CJ.seq ?_
    refine CJ.region ?_
    refine J.op rfl (A.lit (K0 := Hp.nil) (ty := (.cons (.int .i64) (.one (.int .i64)))) (xs := ([] : List (Int × Int))) Try.underlying45 inf34 rfl (by decide) rfl rfl rfl rfl rfl (by decide)) ?_
    rintro _ _ _ ⟨b18, rfl, rfl, rfl⟩
    have hn19 : ([] : List (Int × Int)) ≠ [] → ∃ g, (some ⟨b18, 0, none⟩ : Option Addr) = some ⟨g, 0, none⟩ := fun _ => ⟨b18, rfl⟩
    refine J.val (v := .slice (some ad16) xa.length cpxa_0) rfl rfl (V.mv rfl) ?_
    obtain ⟨z21, hz22, h⟩ := ob h
    refine J.op rfl (A.appP (Kr := Hp.nil) (K1 := K) Try.underlying45 inf34 rfl rfl (by decide) (by decide) rfl rfl fxa_0 (Hp.le_refl _) (Els.flat rfl) (Els.flat rfl) hz22) ?_
    rintro _ _ _ ⟨v23, rfl, rfl, rfl⟩
    refine J.wit Row.form ?_
    rintro ⟨ad24, cp25, rfl, _, _, hn26⟩
    refine J.val (v := .slice ad24 z21.length cp25) rfl rfl (V.as rfl) ?_
    refine J.nil ?_
    refine CJ.ret ?_
    have e := Option.some.inj h
    subst e
    exact ⟨_, [Row Hp.nil 34 (.cons (.int .i64) (.one (.int .i64))) (.slice ad24 z21.length cp25) z21], Res.one rfl rfl, ⟨z21, ad24, cp25, rfl, rfl, rfl⟩, (Hp.le_refl _), fun w hs => hs⟩

noncomputable def fn_graph_New_1 (xa : (Int × Int)) : Option Int :=
  some (xa.1)
set_option maxRecDepth 100000 in
set_option maxHeartbeats 4000000 in
theorem graph_New_1_ok {K : Hp} {xa : (Int × Int)}   {r : Int} (h : fn_graph_New_1 xa = some r) :
    Tr Try.prog 30 #[.agg #[.int .i64 xa.1, .int .i64 xa.2]] K [] (fun v K' L' => (∃ (i2 : Int), i2 = r ∧ .int .i64 i2 = v ∧ L' = []) ∧ K = K') := by
  refine Tr.k ?_
  refine Tr.of Try.func30 rfl Try.ntmps30 rfl (fun E F => ?_)
  unfold fn_graph_New_1 at h
  refine CJ.seq ?_
  refine CJ.region ?_
  refine J.op rfl (A.box (v := .agg #[.int .i64 xa.1, .int .i64 xa.2]) (cs := [.int .i64 xa.1, .int .i64 xa.2]) rfl rfl) ?_
  rintro _ _ _ ⟨b3, rfl, rfl, rfl⟩
  refine J.val (v := .int .i64 0) rfl rfl (V.as rfl) ?_
  refine J.nil ?_
  refine CJ.seq ?_
  refine CJ.region ?_
  refine J.val rfl rfl (V.fad Try.underlying34 rfl nz3 rfl) ?_
  refine J.val (v := .int .i64 xa.1) rfl rfl (V.ld rfl (Ld.sc sc3 (Rd.cl 0 rfl rfl))) ?_
  refine J.val (v := .int .i64 xa.1) rfl rfl (V.as rfl) ?_
  refine J.nil ?_
  refine CJ.ret ?_
  have e := Option.some.inj h
  subst e
  exact ⟨_, [], Res.one rfl rfl, ⟨xa.1, rfl, rfl, rfl⟩, (Hp.le_refl _), fun w hs => (Sep.dropAt 0 rfl hs)⟩

noncomputable def fn_slices_Clone_int_int (xa : (List Int)) : Option (List Int) :=
  nilb xa (some ([])) ((app ([] : List Int) xa).bind fun z21 => some (z21))
set_option maxRecDepth 100000 in
set_option maxHeartbeats 4000000 in
theorem slices_Clone_int_int_ok {K : Hp} {xa : (List Int)} {adxa_0 : Option Addr} {cpxa_0 : Nat} (fxa_0 : Is K (.sl (.int .i64)) [.slice adxa_0 xa.length cpxa_0] xa) {r : (List Int)} (h : fn_slices_Clone_int_int xa = some r) :
    Tr Try.prog 25 #[.slice adxa_0 xa.length cpxa_0] K [] (fun v K' L' => (∃ (l11 : (List Int)) (ad12 : Option Addr) (cp13 : Nat), l11 = r ∧ .slice ad12 l11.length cp13 = v ∧ L' = [Row Hp.nil 3 (.int .i64) (.slice ad12 l11.length cp13) l11]) ∧ K = K') := by
  refine Tr.k ?_
  refine Tr.of Try.func25 rfl Try.ntmps25 rfl (fun E F => ?_)
  unfold fn_slices_Clone_int_int at h
  refine CJ.seq ?_
  refine CJ.region ?_
  refine J.val (v := .slice none 0 0) rfl rfl (V.as rfl) ?_
  refine J.nil ?_
  refine CJ.seq ?_
  refine CJ.seq ?_
  refine CJ.region ?_
  refine J.val (v := .slice adxa_0 xa.length cpxa_0) rfl rfl (V.mv rfl) ?_
  refine J.val (v := .bool adxa_0.isNone) rfl rfl (V.sn_eql Try.underlying30 rfl rfl) ?_
  refine J.nil ?_
  rcases adxa_0 with _ | ad16
  · have h := nilb_nil ((fxa_0).nil_of) h
    refine CJ.condK (b := true) rfl rfl ?_
    refine CJ.seq ?_
    refine CJ.region ?_
    refine J.val (v := .slice none 0 0) rfl rfl (V.as rfl) ?_
    refine J.nil ?_
    refine CJ.by (fun w hs => Sep.rowNil (e := 3) (t := (.int .i64)) hs) ?_
    refine CJ.ret ?_
    have e := Option.some.inj h
    subst e
    exact ⟨_, [Row Hp.nil 3 (.int .i64) (.slice none (([] : List Int).length) 0) ([] : List Int)], Res.one rfl rfl, ⟨[], none, 0, rfl, rfl, rfl⟩, (Hp.le_refl _), fun w hs => hs⟩
  · have h := nilb_cons h
    refine CJ.condK (b := false) rfl rfl ?_
    refine CJ.skip ?_
    refine CJ.seq ?_
    refine CJ.region ?_
    refine J.op rfl (A.lit (K0 := Hp.nil) (ty := (.int .i64)) (xs := ([] : List Int)) Try.underlying30 inf3 rfl (by decide) rfl rfl rfl rfl rfl (by decide)) ?_
    rintro _ _ _ ⟨b18, rfl, rfl, rfl⟩
    have hn19 : ([] : List Int) ≠ [] → ∃ g, (some ⟨b18, 0, none⟩ : Option Addr) = some ⟨g, 0, none⟩ := fun _ => ⟨b18, rfl⟩
    refine J.val (v := .slice (some ad16) xa.length cpxa_0) rfl rfl (V.mv rfl) ?_
    obtain ⟨z21, hz22, h⟩ := ob h
    refine J.op rfl (A.appP (Kr := Hp.nil) (K1 := K) Try.underlying30 inf3 rfl rfl (by decide) (by decide) rfl rfl fxa_0 (Hp.le_refl _) (Els.flat rfl) (Els.flat rfl) hz22) ?_
    rintro _ _ _ ⟨v23, rfl, rfl, rfl⟩
    refine J.wit Row.form ?_
    rintro ⟨ad24, cp25, rfl, _, _, hn26⟩
    refine J.val (v := .slice ad24 z21.length cp25) rfl rfl (V.as rfl) ?_
    refine J.nil ?_
    refine CJ.ret ?_
    have e := Option.some.inj h
    subst e
    exact ⟨_, [Row Hp.nil 3 (.int .i64) (.slice ad24 z21.length cp25) z21], Res.one rfl rfl, ⟨z21, ad24, cp25, rfl, rfl, rfl⟩, (Hp.le_refl _), fun w hs => hs⟩
noncomputable def fn_graph_indexed_ik_graph_New_1_l1 (xb : (List (Int × Int))) : (Int × (List Int)) → Option ((Int × (List Int)) ⊕ (List Int)) := fun ((i1854, l1855) : (Int × (List Int))) => cond (decide (i1854 < (((xb.length : Nat) : Int)))) ((getI xb i1854).bind fun x1927 => (fn_graph_New_1 (x1927.1, x1927.2)).bind fun i1959 => (getI l1855 (IntKind.wrap .i64 (i1959 + 1))).bind fun x1963 => (getI l1855 (IntKind.wrap .i64 (i1959 + 1))).bind fun x1970 => (some (l1855.set (IntKind.wrap .i64 (i1959 + 1)).toNat (IntKind.wrap .i64 (x1963 + 1)))).bind fun z1977 => some (.inl ((IntKind.wrap .i64 (i1854 + 1), z1977)))) (some (.inr (l1855)))
noncomputable def fn_graph_indexed_ik_graph_New_1_l2 (xa : Int) : (Int × (List Int)) → Option ((Int × (List Int)) ⊕ (List Int)) := fun ((i2211, l2212) : (Int × (List Int))) => cond (decide (i2211 < xa)) ((getI l2212 (IntKind.wrap .i64 (i2211 + 1))).bind fun x2297 => (getI l2212 i2211).bind fun x2304 => (getI l2212 (IntKind.wrap .i64 (i2211 + 1))).bind fun x2311 => (some (l2212.set (IntKind.wrap .i64 (i2211 + 1)).toNat (IntKind.wrap .i64 (x2297 + x2304)))).bind fun z2318 => some (.inl ((IntKind.wrap .i64 (i2211 + 1), z2318)))) (some (.inr (l2212)))
noncomputable def fn_graph_indexed_ik_graph_New_1_l3 (xb : (List (Int × Int))) : ((List Int) × Int × (List Int)) → Option (((List Int) × Int × (List Int)) ⊕ (List Int)) := fun ((l2669, i2674, l2675) : ((List Int) × Int × (List Int))) => cond (decide (i2674 < (((xb.length : Nat) : Int)))) ((getI xb i2674).bind fun x2765 => (fn_graph_New_1 (x2765.1, x2765.2)).bind fun i2777 => (getI l2669 i2777).bind fun x2795 => (getI l2675 x2795).bind fun x2802 => (some (l2675.set x2795.toNat i2674)).bind fun z2809 => (getI l2669 i2777).bind fun x2814 => (getI l2669 i2777).bind fun x2821 => (some (l2669.set i2777.toNat (IntKind.wrap .i64 (x2814 + 1)))).bind fun z2828 => some (.inl ((z2828, IntKind.wrap .i64 (i2674 + 1), z2809)))) (some (.inr (l2675)))
noncomputable def fn_graph_indexed_ik_graph_New_1 (xa : Int) (xb : (List (Int × Int))) : Option (((List Int) × (List Int))) :=
  ((mk (IntKind.wrap .i64 (xa + 1)) (IntKind.wrap .i64 (xa + 1)) 0 : Option (List Int)).bind fun z1554 => (mk (((xb.length : Nat) : Int)) (((xb.length : Nat) : Int)) 0 : Option (List Int)).bind fun z1556 => some ((z1554, z1556))).bind fun (l1503, l1508) => (loop (fn_graph_indexed_ik_graph_New_1_l1 xb) (0, l1503)).bind fun l1785 => (loop (fn_graph_indexed_ik_graph_New_1_l2 xa) (0, l1785)).bind fun l2150 => (fn_slices_Clone_int_int l2150).bind fun l2330 => (loop (fn_graph_indexed_ik_graph_New_1_l3 xb) (l2330, 0, l1508)).bind fun l2582 => some ((l2150, l2582))
set_option maxRecDepth 100000 in
set_option maxHeartbeats 4000000 in
theorem graph_indexed_ik_graph_New_1_ok {K : Hp} {xa : Int} {xb : (List (Int × Int))} {adxb_0 : Option Addr} {cpxb_0 : Nat} (fxb_0 : Is K (.sl (.cons (.int .i64) (.one (.int .i64)))) [.slice adxb_0 xb.length cpxb_0] xb) {r : ((List Int) × (List Int))} (h : fn_graph_indexed_ik_graph_New_1 xa xb = some r) :
    Tr Try.prog 29 #[.int .i64 xa, .slice adxb_0 xb.length cpxb_0, .func (.func 30) #[] #[]] K [] (fun v K' L' => (∃ (l1414 : (List Int)) (l1418 : (List Int)) (ad1415 : Option Addr) (cp1416 : Nat) (ad1419 : Option Addr) (cp1420 : Nat), (l1414, l1418) = r ∧ .agg #[.slice ad1415 l1414.length cp1416, .slice ad1419 l1418.length cp1420] = v ∧ Is K' (.sl (.int .i64)) [.slice ad1415 l1414.length cp1416] l1414 ∧ L' = [Row Hp.nil 3 (.int .i64) (.slice ad1419 l1418.length cp1420) l1418])) := by
  refine Tr.of Try.func29 rfl Try.ntmps29 rfl (fun E F => ?_)
  unfold fn_graph_indexed_ik_graph_New_1 at h
  refine CJ.seq ?_
  refine CJ.region ?_
  refine J.op rfl (A.alloc (cs := [.slice none 0 0, .slice none 0 0]) inf48 rfl) ?_
  rintro _ _ _ ⟨b1423, rfl, rfl, rfl⟩
  refine J.nil ?_
  refine CJ.seq ?_
  obtain ⟨o1513, ho1514, h⟩ := ob h
  refine CJ.meetN (fun ρ K' L' => ∃ (l1503 : (List Int)) (l1508 : (List Int)) (nb1502 : Nat) (ad1504 : Option Addr) (cp1505 : Nat) (ad1509 : Option Addr) (cp1510 : Nat), (l1503, l1508) = o1513 ∧ Fits [(0, .int .i64 xa), (1, .slice adxb_0 xb.length cpxb_0), (2, .func (.func 30) #[] #[]), (6, .pointer (some ⟨b1423, 0, none⟩)), (7, .pointer (some ⟨nb1502, 0, none⟩))] ρ ∧ K = K' ∧ L' = Cl b1423 48 [.slice none 0 0, .slice none 0 0] :: Cl nb1502 48 [.slice ad1504 l1503.length cp1505, .slice ad1509 l1508.length cp1510] :: Row Hp.nil 3 (.int .i64) (.slice ad1504 l1503.length cp1505) l1503 :: Row Hp.nil 3 (.int .i64) (.slice ad1509 l1508.length cp1510) l1508 :: F) ?_ ?_
  · skip
    refine CJ.tree [Cl b1423 48 [.slice none 0 0, .slice none 0 0]] (.still [0, 1, 3, 4] (.alt 2 (.alt 5 (.still [6] (.alt 7 (.alt 8 (.leaf []) .done) .done)) (.alt 7 (.alt 5 (.still [6] (.alt 8 (.leaf []) .done)) .done) .done)) (.alt 5 (.alt 2 (.still [6] (.alt 7 (.alt 8 (.leaf []) .done) .done)) (.alt 7 (.alt 2 (.still [6] (.alt 8 (.leaf []) .done)) .done) .done)) (.alt 7 (.alt 2 (.alt 5 (.still [6] (.alt 8 (.leaf []) .done)) .done) (.alt 5 (.alt 2 (.still [6] (.alt 8 (.leaf []) .done)) .done) .done)) .done)))) [] mixO (by decide +kernel) ⟨0, rfl, trivial⟩ rfl ?_
    refine JT.still rfl ?_
    refine JQ.val (v := .int .i64 xa) rfl rfl (V.mv rfl) ?_
    refine JQ.val (v := .int .i64 (IntKind.wrap .i64 (xa + 1))) rfl rfl (V.add rfl rfl) ?_
    refine JQ.val (v := .slice adxb_0 xb.length cpxb_0) rfl rfl (V.mv rfl) ?_
    refine JQ.val (v := .int .i64 (((xb.length : Nat) : Int))) rfl rfl (V.len Try.underlying45 rfl) ?_
    refine JQ.nil ?_
    obtain ⟨z1554, hz1555, ho1514⟩ := ob ho1514
    obtain ⟨z1556, hz1557, ho1514⟩ := ob ho1514
    refine JT.alt rfl ?_ ?_
    · skip
      refine JB.op rfl (A.make (K0 := Hp.nil) (ty := (.int .i64)) (x0 := 0) Try.underlying30 inf3 rfl rfl (by decide) (by decide) rfl rfl hz1555) ?_
      rintro _ _ _ ⟨b1558, rfl, rfl, rfl⟩
      have hn1559 : z1554 ≠ [] → ∃ g, (some ⟨b1558, 0, none⟩ : Option Addr) = some ⟨g, 0, none⟩ := fun _ => ⟨b1558, rfl⟩
      refine ⟨fun w hs => Hold.sub (Hp.le_refl _) ⟨1, rfl, trivial⟩ hs, ?_⟩
      refine JT.alt rfl ?_ ?_
      · skip
        refine JB.op rfl (A.make (K0 := Hp.nil) (ty := (.int .i64)) (x0 := 0) Try.underlying30 inf3 rfl rfl (by decide) (by decide) rfl rfl hz1557) ?_
        rintro _ _ _ ⟨b1561, rfl, rfl, rfl⟩
        have hn1562 : z1556 ≠ [] → ∃ g, (some ⟨b1561, 0, none⟩ : Option Addr) = some ⟨g, 0, none⟩ := fun _ => ⟨b1561, rfl⟩
        refine ⟨fun w hs => Hold.sub (Hp.le_refl _) ⟨2, rfl, trivial⟩ hs, ?_⟩
        refine JT.still rfl ?_
        refine JQ.val (v := .agg #[.slice (some ⟨b1558, 0, none⟩) z1554.length (IntKind.wrap .i64 (xa + 1)).toNat, .slice (some ⟨b1561, 0, none⟩) z1556.length (((xb.length : Nat) : Int)).toNat]) rfl rfl (V.build inf48 places48 rfl rfl) ?_
        refine JQ.nil ?_
        refine JT.alt rfl ?_ JT.done
        refine JB.op rfl (A.alloc (cs := [.slice none 0 0, .slice none 0 0]) inf48 rfl) ?_
        rintro _ _ _ ⟨b1564, rfl, rfl, rfl⟩
        refine ⟨fun w hs => Hold.sub (Hp.le_refl _) ⟨3, rfl, trivial⟩ hs, ?_⟩
        refine JT.alt rfl ?_ JT.done
        refine JB.op rfl (A.store (v := .agg #[.slice (some ⟨b1558, 0, none⟩) z1554.length (IntKind.wrap .i64 (xa + 1)).toNat, .slice (some ⟨b1561, 0, none⟩) z1556.length (((xb.length : Nat) : Int)).toNat]) (cs' := [.slice (some ⟨b1558, 0, none⟩) z1554.length (IntKind.wrap .i64 (xa + 1)).toNat, .slice (some ⟨b1561, 0, none⟩) z1556.length (((xb.length : Nat) : Int)).toNat]) sz48 rfl rfl rfl rfl rfl rfl) ?_
        rintro _ _ _ ⟨rfl, rfl, rfl⟩
        refine ⟨fun w hs => Hold.sub (Hp.le_refl _) ⟨3, rfl, trivial⟩ hs, ?_⟩
        refine JT.leaf rfl ?_
        refine JQ.nil ?_
        refine J.front 1 rfl ?_
        refine J.front 2 rfl ?_
        refine J.front 2 rfl ?_
        refine J.front 3 rfl ?_
        refine J.nil ?_
        have e := Option.some.inj ho1514
        subst e
        exact ⟨rfl, ⟨z1554, z1556, b1564, (some ⟨b1558, 0, none⟩), (IntKind.wrap .i64 (xa + 1)).toNat, (some ⟨b1561, 0, none⟩), (((xb.length : Nat) : Int)).toNat, rfl, ⟨rfl, rfl, rfl, rfl, rfl, trivial⟩, rfl, rfl⟩⟩
      · skip
        refine JT.alt rfl ?_ JT.done
        refine JB.op rfl (A.alloc (cs := [.slice none 0 0, .slice none 0 0]) inf48 rfl) ?_
        rintro _ _ _ ⟨b1565, rfl, rfl, rfl⟩
        refine ⟨fun w hs => Hold.sub (Hp.le_refl _) ⟨2, rfl, trivial⟩ hs, ?_⟩
        refine JT.alt rfl ?_ JT.done
        refine JB.op rfl (A.make (K0 := Hp.nil) (ty := (.int .i64)) (x0 := 0) Try.underlying30 inf3 rfl rfl (by decide) (by decide) rfl rfl hz1557) ?_
        rintro _ _ _ ⟨b1566, rfl, rfl, rfl⟩
        have hn1567 : z1556 ≠ [] → ∃ g, (some ⟨b1566, 0, none⟩ : Option Addr) = some ⟨g, 0, none⟩ := fun _ => ⟨b1566, rfl⟩
        refine ⟨fun w hs => Hold.sub (Hp.le_refl _) ⟨3, rfl, trivial⟩ hs, ?_⟩
        refine JT.still rfl ?_
        refine JQ.val (v := .agg #[.slice (some ⟨b1558, 0, none⟩) z1554.length (IntKind.wrap .i64 (xa + 1)).toNat, .slice (some ⟨b1566, 0, none⟩) z1556.length (((xb.length : Nat) : Int)).toNat]) rfl rfl (V.build inf48 places48 rfl rfl) ?_
        refine JQ.nil ?_
        refine JT.alt rfl ?_ JT.done
        refine JB.front 1 rfl ?_
        refine JB.op rfl (A.store (v := .agg #[.slice (some ⟨b1558, 0, none⟩) z1554.length (IntKind.wrap .i64 (xa + 1)).toNat, .slice (some ⟨b1566, 0, none⟩) z1556.length (((xb.length : Nat) : Int)).toNat]) (cs' := [.slice (some ⟨b1558, 0, none⟩) z1554.length (IntKind.wrap .i64 (xa + 1)).toNat, .slice (some ⟨b1566, 0, none⟩) z1556.length (((xb.length : Nat) : Int)).toNat]) sz48 rfl rfl rfl rfl rfl rfl) ?_
        rintro _ _ _ ⟨rfl, rfl, rfl⟩
        refine ⟨fun w hs => Hold.sub (Hp.le_refl _) ⟨3, rfl, trivial⟩ hs, ?_⟩
        refine JT.leaf rfl ?_
        refine JQ.nil ?_
        refine J.front 1 rfl ?_
        refine J.front 2 rfl ?_
        refine J.front 2 rfl ?_
        refine J.front 3 rfl ?_
        refine J.nil ?_
        have e := Option.some.inj ho1514
        subst e
        exact ⟨rfl, ⟨z1554, z1556, b1565, (some ⟨b1558, 0, none⟩), (IntKind.wrap .i64 (xa + 1)).toNat, (some ⟨b1566, 0, none⟩), (((xb.length : Nat) : Int)).toNat, rfl, ⟨rfl, rfl, rfl, rfl, rfl, trivial⟩, rfl, rfl⟩⟩
    · skip
      refine JT.alt rfl ?_ ?_
      · skip
        refine JB.op rfl (A.make (K0 := Hp.nil) (ty := (.int .i64)) (x0 := 0) Try.underlying30 inf3 rfl rfl (by decide) (by decide) rfl rfl hz1557) ?_
        rintro _ _ _ ⟨b1569, rfl, rfl, rfl⟩
        have hn1570 : z1556 ≠ [] → ∃ g, (some ⟨b1569, 0, none⟩ : Option Addr) = some ⟨g, 0, none⟩ := fun _ => ⟨b1569, rfl⟩
        refine ⟨fun w hs => Hold.sub (Hp.le_refl _) ⟨1, rfl, trivial⟩ hs, ?_⟩
        refine JT.alt rfl ?_ ?_
        · skip
          refine JB.op rfl (A.make (K0 := Hp.nil) (ty := (.int .i64)) (x0 := 0) Try.underlying30 inf3 rfl rfl (by decide) (by decide) rfl rfl hz1555) ?_
          rintro _ _ _ ⟨b1572, rfl, rfl, rfl⟩
          have hn1573 : z1554 ≠ [] → ∃ g, (some ⟨b1572, 0, none⟩ : Option Addr) = some ⟨g, 0, none⟩ := fun _ => ⟨b1572, rfl⟩
          refine ⟨fun w hs => Hold.sub (Hp.le_refl _) ⟨2, rfl, trivial⟩ hs, ?_⟩
          refine JT.still rfl ?_
          refine JQ.val (v := .agg #[.slice (some ⟨b1572, 0, none⟩) z1554.length (IntKind.wrap .i64 (xa + 1)).toNat, .slice (some ⟨b1569, 0, none⟩) z1556.length (((xb.length : Nat) : Int)).toNat]) rfl rfl (V.build inf48 places48 rfl rfl) ?_
          refine JQ.nil ?_
          refine JT.alt rfl ?_ JT.done
          refine JB.op rfl (A.alloc (cs := [.slice none 0 0, .slice none 0 0]) inf48 rfl) ?_
          rintro _ _ _ ⟨b1575, rfl, rfl, rfl⟩
          refine ⟨fun w hs => Hold.sub (Hp.le_refl _) ⟨3, rfl, trivial⟩ hs, ?_⟩
          refine JT.alt rfl ?_ JT.done
          refine JB.op rfl (A.store (v := .agg #[.slice (some ⟨b1572, 0, none⟩) z1554.length (IntKind.wrap .i64 (xa + 1)).toNat, .slice (some ⟨b1569, 0, none⟩) z1556.length (((xb.length : Nat) : Int)).toNat]) (cs' := [.slice (some ⟨b1572, 0, none⟩) z1554.length (IntKind.wrap .i64 (xa + 1)).toNat, .slice (some ⟨b1569, 0, none⟩) z1556.length (((xb.length : Nat) : Int)).toNat]) sz48 rfl rfl rfl rfl rfl rfl) ?_
          rintro _ _ _ ⟨rfl, rfl, rfl⟩
          refine ⟨fun w hs => Hold.sub (Hp.le_refl _) ⟨3, rfl, trivial⟩ hs, ?_⟩
          refine JT.leaf rfl ?_
          refine JQ.nil ?_
          refine J.front 2 rfl ?_
          refine J.front 2 rfl ?_
          refine J.front 2 rfl ?_
          refine J.front 3 rfl ?_
          refine J.nil ?_
          have e := Option.some.inj ho1514
          subst e
          exact ⟨rfl, ⟨z1554, z1556, b1575, (some ⟨b1572, 0, none⟩), (IntKind.wrap .i64 (xa + 1)).toNat, (some ⟨b1569, 0, none⟩), (((xb.length : Nat) : Int)).toNat, rfl, ⟨rfl, rfl, rfl, rfl, rfl, trivial⟩, rfl, rfl⟩⟩
        · skip
          refine JT.alt rfl ?_ JT.done
          refine JB.op rfl (A.alloc (cs := [.slice none 0 0, .slice none 0 0]) inf48 rfl) ?_
          rintro _ _ _ ⟨b1576, rfl, rfl, rfl⟩
          refine ⟨fun w hs => Hold.sub (Hp.le_refl _) ⟨2, rfl, trivial⟩ hs, ?_⟩
          refine JT.alt rfl ?_ JT.done
          refine JB.op rfl (A.make (K0 := Hp.nil) (ty := (.int .i64)) (x0 := 0) Try.underlying30 inf3 rfl rfl (by decide) (by decide) rfl rfl hz1555) ?_
          rintro _ _ _ ⟨b1577, rfl, rfl, rfl⟩
          have hn1578 : z1554 ≠ [] → ∃ g, (some ⟨b1577, 0, none⟩ : Option Addr) = some ⟨g, 0, none⟩ := fun _ => ⟨b1577, rfl⟩
          refine ⟨fun w hs => Hold.sub (Hp.le_refl _) ⟨3, rfl, trivial⟩ hs, ?_⟩
          refine JT.still rfl ?_
          refine JQ.val (v := .agg #[.slice (some ⟨b1577, 0, none⟩) z1554.length (IntKind.wrap .i64 (xa + 1)).toNat, .slice (some ⟨b1569, 0, none⟩) z1556.length (((xb.length : Nat) : Int)).toNat]) rfl rfl (V.build inf48 places48 rfl rfl) ?_
          refine JQ.nil ?_
          refine JT.alt rfl ?_ JT.done
          refine JB.front 1 rfl ?_
          refine JB.op rfl (A.store (v := .agg #[.slice (some ⟨b1577, 0, none⟩) z1554.length (IntKind.wrap .i64 (xa + 1)).toNat, .slice (some ⟨b1569, 0, none⟩) z1556.length (((xb.length : Nat) : Int)).toNat]) (cs' := [.slice (some ⟨b1577, 0, none⟩) z1554.length (IntKind.wrap .i64 (xa + 1)).toNat, .slice (some ⟨b1569, 0, none⟩) z1556.length (((xb.length : Nat) : Int)).toNat]) sz48 rfl rfl rfl rfl rfl rfl) ?_
          rintro _ _ _ ⟨rfl, rfl, rfl⟩
          refine ⟨fun w hs => Hold.sub (Hp.le_refl _) ⟨3, rfl, trivial⟩ hs, ?_⟩
          refine JT.leaf rfl ?_
          refine JQ.nil ?_
          refine J.front 2 rfl ?_
          refine J.front 2 rfl ?_
          refine J.front 2 rfl ?_
          refine J.front 3 rfl ?_
          refine J.nil ?_
          have e := Option.some.inj ho1514
          subst e
          exact ⟨rfl, ⟨z1554, z1556, b1576, (some ⟨b1577, 0, none⟩), (IntKind.wrap .i64 (xa + 1)).toNat, (some ⟨b1569, 0, none⟩), (((xb.length : Nat) : Int)).toNat, rfl, ⟨rfl, rfl, rfl, rfl, rfl, trivial⟩, rfl, rfl⟩⟩
      · skip
        refine JT.alt rfl ?_ JT.done
        refine JB.op rfl (A.alloc (cs := [.slice none 0 0, .slice none 0 0]) inf48 rfl) ?_
        rintro _ _ _ ⟨b1580, rfl, rfl, rfl⟩
        refine ⟨fun w hs => Hold.sub (Hp.le_refl _) ⟨1, rfl, trivial⟩ hs, ?_⟩
        refine JT.alt rfl ?_ ?_
        · skip
          refine JB.op rfl (A.make (K0 := Hp.nil) (ty := (.int .i64)) (x0 := 0) Try.underlying30 inf3 rfl rfl (by decide) (by decide) rfl rfl hz1555) ?_
          rintro _ _ _ ⟨b1581, rfl, rfl, rfl⟩
          have hn1582 : z1554 ≠ [] → ∃ g, (some ⟨b1581, 0, none⟩ : Option Addr) = some ⟨g, 0, none⟩ := fun _ => ⟨b1581, rfl⟩
          refine ⟨fun w hs => Hold.sub (Hp.le_refl _) ⟨2, rfl, trivial⟩ hs, ?_⟩
          refine JT.alt rfl ?_ JT.done
          refine JB.op rfl (A.make (K0 := Hp.nil) (ty := (.int .i64)) (x0 := 0) Try.underlying30 inf3 rfl rfl (by decide) (by decide) rfl rfl hz1557) ?_
          rintro _ _ _ ⟨b1584, rfl, rfl, rfl⟩
          have hn1585 : z1556 ≠ [] → ∃ g, (some ⟨b1584, 0, none⟩ : Option Addr) = some ⟨g, 0, none⟩ := fun _ => ⟨b1584, rfl⟩
          refine ⟨fun w hs => Hold.sub (Hp.le_refl _) ⟨3, rfl, trivial⟩ hs, ?_⟩
          refine JT.still rfl ?_
          refine JQ.val (v := .agg #[.slice (some ⟨b1581, 0, none⟩) z1554.length (IntKind.wrap .i64 (xa + 1)).toNat, .slice (some ⟨b1584, 0, none⟩) z1556.length (((xb.length : Nat) : Int)).toNat]) rfl rfl (V.build inf48 places48 rfl rfl) ?_
          refine JQ.nil ?_
          refine JT.alt rfl ?_ JT.done
          refine JB.front 2 rfl ?_
          refine JB.op rfl (A.store (v := .agg #[.slice (some ⟨b1581, 0, none⟩) z1554.length (IntKind.wrap .i64 (xa + 1)).toNat, .slice (some ⟨b1584, 0, none⟩) z1556.length (((xb.length : Nat) : Int)).toNat]) (cs' := [.slice (some ⟨b1581, 0, none⟩) z1554.length (IntKind.wrap .i64 (xa + 1)).toNat, .slice (some ⟨b1584, 0, none⟩) z1556.length (((xb.length : Nat) : Int)).toNat]) sz48 rfl rfl rfl rfl rfl rfl) ?_
          rintro _ _ _ ⟨rfl, rfl, rfl⟩
          refine ⟨fun w hs => Hold.sub (Hp.le_refl _) ⟨3, rfl, trivial⟩ hs, ?_⟩
          refine JT.leaf rfl ?_
          refine JQ.nil ?_
          refine J.front 1 rfl ?_
          refine J.front 2 rfl ?_
          refine J.front 2 rfl ?_
          refine J.front 3 rfl ?_
          refine J.nil ?_
          have e := Option.some.inj ho1514
          subst e
          exact ⟨rfl, ⟨z1554, z1556, b1580, (some ⟨b1581, 0, none⟩), (IntKind.wrap .i64 (xa + 1)).toNat, (some ⟨b1584, 0, none⟩), (((xb.length : Nat) : Int)).toNat, rfl, ⟨rfl, rfl, rfl, rfl, rfl, trivial⟩, rfl, rfl⟩⟩
        · skip
          refine JT.alt rfl ?_ JT.done
          refine JB.op rfl (A.make (K0 := Hp.nil) (ty := (.int .i64)) (x0 := 0) Try.underlying30 inf3 rfl rfl (by decide) (by decide) rfl rfl hz1557) ?_
          rintro _ _ _ ⟨b1587, rfl, rfl, rfl⟩
          have hn1588 : z1556 ≠ [] → ∃ g, (some ⟨b1587, 0, none⟩ : Option Addr) = some ⟨g, 0, none⟩ := fun _ => ⟨b1587, rfl⟩
          refine ⟨fun w hs => Hold.sub (Hp.le_refl _) ⟨2, rfl, trivial⟩ hs, ?_⟩
          refine JT.alt rfl ?_ JT.done
          refine JB.op rfl (A.make (K0 := Hp.nil) (ty := (.int .i64)) (x0 := 0) Try.underlying30 inf3 rfl rfl (by decide) (by decide) rfl rfl hz1555) ?_
          rintro _ _ _ ⟨b1590, rfl, rfl, rfl⟩
          have hn1591 : z1554 ≠ [] → ∃ g, (some ⟨b1590, 0, none⟩ : Option Addr) = some ⟨g, 0, none⟩ := fun _ => ⟨b1590, rfl⟩
          refine ⟨fun w hs => Hold.sub (Hp.le_refl _) ⟨3, rfl, trivial⟩ hs, ?_⟩
          refine JT.still rfl ?_
          refine JQ.val (v := .agg #[.slice (some ⟨b1590, 0, none⟩) z1554.length (IntKind.wrap .i64 (xa + 1)).toNat, .slice (some ⟨b1587, 0, none⟩) z1556.length (((xb.length : Nat) : Int)).toNat]) rfl rfl (V.build inf48 places48 rfl rfl) ?_
          refine JQ.nil ?_
          refine JT.alt rfl ?_ JT.done
          refine JB.front 2 rfl ?_
          refine JB.op rfl (A.store (v := .agg #[.slice (some ⟨b1590, 0, none⟩) z1554.length (IntKind.wrap .i64 (xa + 1)).toNat, .slice (some ⟨b1587, 0, none⟩) z1556.length (((xb.length : Nat) : Int)).toNat]) (cs' := [.slice (some ⟨b1590, 0, none⟩) z1554.length (IntKind.wrap .i64 (xa + 1)).toNat, .slice (some ⟨b1587, 0, none⟩) z1556.length (((xb.length : Nat) : Int)).toNat]) sz48 rfl rfl rfl rfl rfl rfl) ?_
          rintro _ _ _ ⟨rfl, rfl, rfl⟩
          refine ⟨fun w hs => Hold.sub (Hp.le_refl _) ⟨3, rfl, trivial⟩ hs, ?_⟩
          refine JT.leaf rfl ?_
          refine JQ.nil ?_
          refine J.front 2 rfl ?_
          refine J.front 2 rfl ?_
          refine J.front 2 rfl ?_
          refine J.front 3 rfl ?_
          refine J.nil ?_
          have e := Option.some.inj ho1514
          subst e
          exact ⟨rfl, ⟨z1554, z1556, b1580, (some ⟨b1590, 0, none⟩), (IntKind.wrap .i64 (xa + 1)).toNat, (some ⟨b1587, 0, none⟩), (((xb.length : Nat) : Int)).toNat, rfl, ⟨rfl, rfl, rfl, rfl, rfl, trivial⟩, rfl, rfl⟩⟩
  · rintro ρ _ _ ⟨l1503, l1508, nb1502, ad1504, cp1505, ad1509, cp1510, rfl, hf1593, rfl, rfl⟩
    obtain ⟨ρ, rfl⟩ := hf1593.ex
    refine PJ.front 2 rfl ?_
    refine PJ.wit Row.hn (fun hn1507 => ?_)
    refine PJ.front 3 rfl ?_
    refine PJ.wit Row.hn (fun hn1512 => ?_)
    refine PJ.done ?_
    refine CJ.seq ?_
    refine CJ.seq ?_
    refine CJ.region ?_
    refine J.val (v := .slice adxb_0 xb.length cpxb_0) rfl rfl (V.mv rfl) ?_
    refine J.val (v := .int .i64 (((xb.length : Nat) : Int))) rfl rfl (V.len Try.underlying45 rfl) ?_
    refine J.val (v := .int .i64 0) rfl rfl (V.mv rfl) ?_
    refine J.nil ?_
    obtain ⟨o1790, ho1791, h⟩ := ob h
    refine CJ.meetN (fun ρ K' L' => ∃ (l1785 : (List Int)) (ad1786 : Option Addr) (cp1787 : Nat), l1785 = o1790 ∧ Fits [(0, .int .i64 xa), (1, .slice adxb_0 xb.length cpxb_0), (2, .func (.func 30) #[] #[]), (6, .pointer (some ⟨b1423, 0, none⟩)), (7, .pointer (some ⟨nb1502, 0, none⟩))] ρ ∧ K = K' ∧ L' = Cl b1423 48 [.slice none 0 0, .slice none 0 0] :: Cl nb1502 48 [.slice ad1786 l1785.length cp1787, .slice ad1509 l1508.length cp1510] :: Row Hp.nil 3 (.int .i64) (.slice ad1509 l1508.length cp1510) l1508 :: Row Hp.nil 3 (.int .i64) (.slice ad1786 l1785.length cp1787) l1785 :: F) ?_ ?_
    · skip
      refine CJ.block ?_
      refine CJ.front 1 rfl ?_
      refine CJ.front 1 rfl ?_
      refine CJ.front 3 rfl ?_
      refine CJ.front 3 rfl ?_
      refine CJ.loop (fun s ρ K' L' => ∃ (i1854 : Int) (l1855 : (List Int)) (ad1856 : Option Addr) (cp1857 : Nat), (i1854, l1855) = s ∧ Fits [(0, .int .i64 xa), (1, .slice adxb_0 xb.length cpxb_0), (2, .func (.func 30) #[] #[]), (6, .pointer (some ⟨b1423, 0, none⟩)), (7, .pointer (some ⟨nb1502, 0, none⟩)), (22, .slice adxb_0 xb.length cpxb_0), (23, .int .i64 (((xb.length : Nat) : Int))), (24, .int .i64 i1854)] ρ ∧ K = K' ∧ L' = Cl b1423 48 [.slice none 0 0, .slice none 0 0] :: Cl nb1502 48 [.slice ad1856 l1855.length cp1857, .slice ad1509 l1508.length cp1510] :: Row Hp.nil 3 (.int .i64) (.slice ad1509 l1508.length cp1510) l1508 :: Row Hp.nil 3 (.int .i64) (.slice ad1856 l1855.length cp1857) l1855 :: F) ho1791 ⟨0, l1503, ad1504, cp1505, rfl, ⟨rfl, rfl, rfl, rfl, rfl, rfl, rfl, rfl, trivial⟩, rfl, rfl⟩ ?_
      rintro s ρ _ _ r1925 ⟨i1854, l1855, ad1856, cp1857, rfl, hf1923, rfl, rfl⟩ h1922
      obtain ⟨ρ, rfl⟩ := hf1923.ex
      refine CJ.front 3 rfl ?_
      refine CJ.wit Row.hn (fun hn1859 => ?_)
      refine CJ.seq ?_
      refine CJ.region ?_
      refine J.val (v := .bool (decide (i1854 < (((xb.length : Nat) : Int))))) rfl rfl (V.lss rfl rfl) ?_
      refine J.nil ?_
      refine CJ.seq ?_
      refine CJ.cond rfl (fun hc1926 => ?_) (fun hc1926 => ?_)
      · have h1922 := ct hc1926 h1922
        refine CJ.skip ?_
        refine CJ.seq ?_
        refine CJ.block ?_
        refine CJ.seq ?_
        refine CJ.region ?_
        obtain ⟨x1927, hx1928, h1922⟩ := ob h1922
        obtain ⟨p1929, p1930, p1931⟩ := getI_some hx1928
        obtain ⟨b1932, o1933, e1934, a1935⟩ := (fxb_0).at p1930
        refine J.val rfl rfl (V.iad Try.underlying45 sz34 rfl e1934 rfl p1929 p1931) ?_
        refine J.val (v := .agg #[.int .i64 x1927.1, .int .i64 x1927.2]) rfl rfl (V.ld rfl (Ld.aggK (cs := [.int .i64 x1927.1, .int .i64 x1927.2]) Try.underlying34 sz34 rfl ⟨((a1935).fst).int, (((a1935).snd).one).int, trivial⟩ (Hp.le_refl _))) ?_
        refine J.op rfl (A.alloc (cs := [.int .i64 0, .int .i64 0]) inf34 rfl) ?_
        rintro _ _ _ ⟨b1936, rfl, rfl, rfl⟩
        refine J.op rfl (A.store (v := .agg #[.int .i64 x1927.1, .int .i64 x1927.2]) (cs' := [.int .i64 x1927.1, .int .i64 x1927.2]) sz34 rfl rfl rfl rfl rfl rfl) ?_
        rintro _ _ _ ⟨rfl, rfl, rfl⟩
        refine J.nil ?_
        refine CJ.mix [Cl b1936 34 [.int .i64 x1927.1, .int .i64 x1927.2], Row Hp.nil 3 (.int .i64) (.slice ad1856 l1855.length cp1857) l1855, Cl b1423 48 [.slice none 0 0, .slice none 0 0], Cl nb1502 48 [.slice ad1856 l1855.length cp1857, .slice ad1509 l1508.length cp1510], Row Hp.nil 3 (.int .i64) (.slice ad1509 l1508.length cp1510) l1508] [([0, 1, 2, 3], 4)] [5, 6, 7, 8, 9] [10] mixO (by decide +kernel) ⟨0, rfl, 0, rfl, 0, rfl, 0, rfl, 0, rfl, trivial⟩ rfl rfl rfl ?_
        refine JM.cons ?_
        refine JQ.val rfl rfl (V.fad Try.underlying48 rfl nz30 rfl) ?_
        refine JQ.val (v := .slice ad1856 l1855.length cp1857) rfl rfl (V.ld rfl (Ld.sc sc30 (Rd.cl 3 rfl rfl))) ?_
        refine JQ.val (v := .func (.func 30) #[] #[]) rfl rfl (V.mv rfl) ?_
        refine JQ.val (v := .agg #[.int .i64 x1927.1, .int .i64 x1927.2]) rfl rfl (V.ld rfl (Ld.agg (cs := [.int .i64 x1927.1, .int .i64 x1927.2]) Try.underlying34 sz34 rfl (Rd.cls 0 0 rfl rfl))) ?_
        refine JQ.nil ?_
        obtain ⟨r1957, hr1958, h1922⟩ := ob h1922
        refine JA.op rfl (A.call (L1 := []) Try.call30 rfl (graph_New_1_ok hr1958) rfl rfl) ?_
        rintro _ _ _ ⟨v1960, _, rfl, ⟨⟨i1959, rfl, rfl, rfl⟩, rfl⟩, _, rfl⟩
        refine ⟨fun w hs => Hold.sub (Hp.le_refl _) ⟨0, rfl, 0, rfl, 0, rfl, 0, rfl, 0, rfl, trivial⟩ hs, ?_⟩
        refine JM.nil ?_
        refine JQ.val (v := .int .i64 (IntKind.wrap .i64 (i1959 + 1))) rfl rfl (V.add rfl rfl) ?_
        obtain ⟨x1963, hx1964, h1922⟩ := ob h1922
        obtain ⟨p1965, p1966, p1967⟩ := getI_some hx1964
        obtain ⟨g1968, e1969⟩ := hn1859 (fun e => by rw [e] at p1966; simp at p1966)
        refine JQ.val rfl rfl (V.iad Try.underlying30 sz3 rfl e1969 rfl p1965 p1967) ?_
        refine JQ.val (v := .int .i64 x1963) rfl rfl (V.ld rfl (Ld.sc sc3 (Rd.row 1 rfl e1969 p1966 (q := 0) (by simp [Tp.size]) (by decide) (by rintro _ rfl; rfl)))) ?_
        refine JQ.val (v := .int .i64 (IntKind.wrap .i64 (x1963 + 1))) rfl rfl (V.add rfl rfl) ?_
        obtain ⟨x1970, hx1971, h1922⟩ := ob h1922
        obtain ⟨p1972, p1973, p1974⟩ := getI_some hx1971
        obtain ⟨g1975, e1976⟩ := hn1859 (fun e => by rw [e] at p1973; simp at p1973)
        refine JQ.val rfl rfl (V.iad Try.underlying30 sz3 rfl e1976 rfl p1972 p1974) ?_
        refine JQ.nil ?_
        refine J.front 1 rfl ?_
        obtain ⟨z1977, hz1978, h1922⟩ := ob h1922
        have e1979 := Option.some.inj hz1978
        have hl1980 : z1977.length = l1855.length := by rw [← e1979, List.length_set]
        refine J.op rfl (A.storeR (ty := (.int .i64)) (q := 0) (y0 := IntKind.wrap .i64 (x1963 + 1)) (zs := z1977) sz3 rfl rfl rfl rfl e1976 p1973 (by simp [Tp.size]) (by decide) (by rintro _ rfl; exact rfl) e1979) ?_
        rintro _ _ _ ⟨rfl, rfl, rfl⟩
        have hn1981 : z1977 ≠ [] → _ := fun h => hn1859 (fun e => h (List.length_eq_zero_iff.1 (by rw [hl1980]; exact List.length_eq_zero_iff.2 e)))
        refine J.nil ?_
        refine CJ.region ?_
        refine J.val (v := .int .i64 (IntKind.wrap .i64 (i1854 + 1))) rfl rfl (V.add rfl rfl) ?_
        refine J.val (v := .int .i64 (IntKind.wrap .i64 (i1854 + 1))) rfl rfl (V.mv rfl) ?_
        refine J.dropAt 1 rfl ?_
        refine J.front 3 rfl ?_
        refine J.front 3 rfl ?_
        refine J.front 3 rfl ?_
        refine J.nil ?_
        have e := Option.some.inj h1922
        subst e
        exact ⟨rfl, ⟨IntKind.wrap .i64 (i1854 + 1), z1977, ad1856, cp1857, rfl, ⟨rfl, rfl, rfl, rfl, rfl, rfl, rfl, rfl, trivial⟩, rfl, (by rw [hl1980]; first | done | rfl)⟩⟩
      · have h1922 := cf hc1926 h1922
        refine CJ.front 3 rfl ?_
        refine CJ.front 3 rfl ?_
        refine CJ.front 3 rfl ?_
        refine CJ.exit ?_
        have e := Option.some.inj h1922
        subst e
        refine ⟨nofun, fun e => ?_⟩
        subst e
        exact ⟨rfl, ⟨l1855, ad1856, cp1857, rfl, ⟨rfl, rfl, rfl, rfl, rfl, trivial⟩, rfl, rfl⟩⟩
    · rintro ρ _ _ ⟨l1785, ad1786, cp1787, rfl, hf1982, rfl, rfl⟩
      obtain ⟨ρ, rfl⟩ := hf1982.ex
      refine PJ.front 3 rfl ?_
      refine PJ.wit Row.hn (fun hn1789 => ?_)
      refine PJ.done ?_
      refine CJ.seq ?_
      refine CJ.seq ?_
      refine CJ.region ?_
      refine J.val (v := .int .i64 xa) rfl rfl (V.mv rfl) ?_
      refine J.val (v := .int .i64 0) rfl rfl (V.mv rfl) ?_
      refine J.nil ?_
      obtain ⟨o2155, ho2156, h⟩ := ob h
      refine CJ.meetN (fun ρ K' L' => ∃ (l2150 : (List Int)) (ad2151 : Option Addr) (cp2152 : Nat), l2150 = o2155 ∧ Fits [(1, .slice adxb_0 xb.length cpxb_0), (2, .func (.func 30) #[] #[]), (6, .pointer (some ⟨b1423, 0, none⟩)), (7, .pointer (some ⟨nb1502, 0, none⟩))] ρ ∧ K = K' ∧ L' = Cl b1423 48 [.slice none 0 0, .slice none 0 0] :: Cl nb1502 48 [.slice ad2151 l2150.length cp2152, .slice ad1509 l1508.length cp1510] :: Row Hp.nil 3 (.int .i64) (.slice ad1509 l1508.length cp1510) l1508 :: Row Hp.nil 3 (.int .i64) (.slice ad2151 l2150.length cp2152) l2150 :: F) ?_ ?_
      · skip
        refine CJ.block ?_
        refine CJ.front 3 rfl ?_
        refine CJ.front 3 rfl ?_
        refine CJ.front 3 rfl ?_
        refine CJ.loop (fun s ρ K' L' => ∃ (i2211 : Int) (l2212 : (List Int)) (ad2213 : Option Addr) (cp2214 : Nat), (i2211, l2212) = s ∧ Fits [(1, .slice adxb_0 xb.length cpxb_0), (2, .func (.func 30) #[] #[]), (6, .pointer (some ⟨b1423, 0, none⟩)), (7, .pointer (some ⟨nb1502, 0, none⟩)), (39, .int .i64 xa), (40, .int .i64 i2211)] ρ ∧ K = K' ∧ L' = Cl b1423 48 [.slice none 0 0, .slice none 0 0] :: Cl nb1502 48 [.slice ad2213 l2212.length cp2214, .slice ad1509 l1508.length cp1510] :: Row Hp.nil 3 (.int .i64) (.slice ad1509 l1508.length cp1510) l1508 :: Row Hp.nil 3 (.int .i64) (.slice ad2213 l2212.length cp2214) l2212 :: F) ho2156 ⟨0, l1785, ad1786, cp1787, rfl, ⟨rfl, rfl, rfl, rfl, rfl, rfl, trivial⟩, rfl, rfl⟩ ?_
        rintro s ρ _ _ r2274 ⟨i2211, l2212, ad2213, cp2214, rfl, hf2272, rfl, rfl⟩ h2271
        obtain ⟨ρ, rfl⟩ := hf2272.ex
        refine CJ.front 3 rfl ?_
        refine CJ.wit Row.hn (fun hn2216 => ?_)
        refine CJ.seq ?_
        refine CJ.region ?_
        refine J.val (v := .bool (decide (i2211 < xa))) rfl rfl (V.lss rfl rfl) ?_
        refine J.nil ?_
        refine CJ.seq ?_
        refine CJ.cond rfl (fun hc2275 => ?_) (fun hc2275 => ?_)
        · have h2271 := ct hc2275 h2271
          refine CJ.skip ?_
          refine CJ.seq ?_
          refine CJ.block ?_
          refine CJ.seq ?_
          refine CJ.region ?_
          refine J.val (v := .int .i64 i2211) rfl rfl (V.mv rfl) ?_
          refine J.val (v := .int .i64 i2211) rfl rfl (V.as rfl) ?_
          refine J.nil ?_
          refine CJ.mix [Row Hp.nil 3 (.int .i64) (.slice ad2213 l2212.length cp2214) l2212, Cl b1423 48 [.slice none 0 0, .slice none 0 0], Cl nb1502 48 [.slice ad2213 l2212.length cp2214, .slice ad1509 l1508.length cp1510], Row Hp.nil 3 (.int .i64) (.slice ad1509 l1508.length cp1510) l1508] [] [0, 1, 2, 3, 4, 5, 6, 7, 8, 9, 10, 11, 12] [13] mixO (by decide +kernel) ⟨0, rfl, 0, rfl, 0, rfl, 0, rfl, trivial⟩ rfl rfl rfl ?_
          refine JM.nil ?_
          refine JQ.val rfl rfl (V.fad Try.underlying48 rfl nz30 rfl) ?_
          refine JQ.val (v := .slice ad2213 l2212.length cp2214) rfl rfl (V.ld rfl (Ld.sc sc30 (Rd.cl 2 rfl rfl))) ?_
          refine JQ.val (v := .int .i64 i2211) rfl rfl (V.mv rfl) ?_
          refine JQ.val (v := .int .i64 (IntKind.wrap .i64 (i2211 + 1))) rfl rfl (V.add rfl rfl) ?_
          obtain ⟨x2297, hx2298, h2271⟩ := ob h2271
          obtain ⟨p2299, p2300, p2301⟩ := getI_some hx2298
          obtain ⟨g2302, e2303⟩ := hn2216 (fun e => by rw [e] at p2300; simp at p2300)
          refine JQ.val rfl rfl (V.iad Try.underlying30 sz3 rfl e2303 rfl p2299 p2301) ?_
          refine JQ.val (v := .int .i64 x2297) rfl rfl (V.ld rfl (Ld.sc sc3 (Rd.row 0 rfl e2303 p2300 (q := 0) (by simp [Tp.size]) (by decide) (by rintro _ rfl; rfl)))) ?_
          refine JQ.val rfl rfl (V.fad Try.underlying48 rfl nz30 rfl) ?_
          refine JQ.val (v := .slice ad2213 l2212.length cp2214) rfl rfl (V.ld rfl (Ld.sc sc30 (Rd.cl 2 rfl rfl))) ?_
          refine JQ.val (v := .int .i64 i2211) rfl rfl (V.mv rfl) ?_
          obtain ⟨x2304, hx2305, h2271⟩ := ob h2271
          obtain ⟨p2306, p2307, p2308⟩ := getI_some hx2305
          obtain ⟨g2309, e2310⟩ := hn2216 (fun e => by rw [e] at p2307; simp at p2307)
          refine JQ.val rfl rfl (V.iad Try.underlying30 sz3 rfl e2310 rfl p2306 p2308) ?_
          refine JQ.val (v := .int .i64 x2304) rfl rfl (V.ld rfl (Ld.sc sc3 (Rd.row 0 rfl e2310 p2307 (q := 0) (by simp [Tp.size]) (by decide) (by rintro _ rfl; rfl)))) ?_
          refine JQ.val (v := .int .i64 (IntKind.wrap .i64 (x2297 + x2304))) rfl rfl (V.add rfl rfl) ?_
          obtain ⟨x2311, hx2312, h2271⟩ := ob h2271
          obtain ⟨p2313, p2314, p2315⟩ := getI_some hx2312
          obtain ⟨g2316, e2317⟩ := hn2216 (fun e => by rw [e] at p2314; simp at p2314)
          refine JQ.val rfl rfl (V.iad Try.underlying30 sz3 rfl e2317 rfl p2313 p2315) ?_
          refine JQ.nil ?_
          obtain ⟨z2318, hz2319, h2271⟩ := ob h2271
          have e2320 := Option.some.inj hz2319
          have hl2321 : z2318.length = l2212.length := by rw [← e2320, List.length_set]
          refine J.op rfl (A.storeR (ty := (.int .i64)) (q := 0) (y0 := IntKind.wrap .i64 (x2297 + x2304)) (zs := z2318) sz3 rfl rfl rfl rfl e2317 p2314 (by simp [Tp.size]) (by decide) (by rintro _ rfl; exact rfl) e2320) ?_
          rintro _ _ _ ⟨rfl, rfl, rfl⟩
          have hn2322 : z2318 ≠ [] → _ := fun h => hn2216 (fun e => h (List.length_eq_zero_iff.1 (by rw [hl2321]; exact List.length_eq_zero_iff.2 e)))
          refine J.nil ?_
          refine CJ.region ?_
          refine J.val (v := .int .i64 (IntKind.wrap .i64 (i2211 + 1))) rfl rfl (V.add rfl rfl) ?_
          refine J.val (v := .int .i64 (IntKind.wrap .i64 (i2211 + 1))) rfl rfl (V.mv rfl) ?_
          refine J.front 3 rfl ?_
          refine J.front 3 rfl ?_
          refine J.front 3 rfl ?_
          refine J.nil ?_
          have e := Option.some.inj h2271
          subst e
          exact ⟨rfl, ⟨IntKind.wrap .i64 (i2211 + 1), z2318, ad2213, cp2214, rfl, ⟨rfl, rfl, rfl, rfl, rfl, rfl, trivial⟩, rfl, (by rw [hl2321]; first | done | rfl)⟩⟩
        · have h2271 := cf hc2275 h2271
          refine CJ.front 3 rfl ?_
          refine CJ.front 3 rfl ?_
          refine CJ.front 3 rfl ?_
          refine CJ.exit ?_
          have e := Option.some.inj h2271
          subst e
          refine ⟨nofun, fun e => ?_⟩
          subst e
          exact ⟨rfl, ⟨l2212, ad2213, cp2214, rfl, ⟨rfl, rfl, rfl, rfl, trivial⟩, rfl, rfl⟩⟩
      · rintro ρ _ _ ⟨l2150, ad2151, cp2152, rfl, hf2323, rfl, rfl⟩
        obtain ⟨ρ, rfl⟩ := hf2323.ex
        refine PJ.front 3 rfl ?_
        refine PJ.wit Row.hn (fun hn2154 => ?_)
        refine PJ.done ?_
        refine CJ.seq ?_
        refine CJ.region ?_
        refine J.val rfl rfl (V.fad Try.underlying48 rfl nz30 rfl) ?_
        refine J.val (v := .slice ad2151 l2150.length cp2152) rfl rfl (V.ld rfl (Ld.sc sc30 (Rd.cl 2 rfl rfl))) ?_
        refine J.persist (Hp.nil_le _) (by decide) (fun K2325 hK2326 f2327 => ?_)
        obtain ⟨r2328, hr2329, h⟩ := ob h
        refine J.op rfl (A.call (L1 := []) Try.call25 rfl (slices_Clone_int_int_ok f2327 hr2329) rfl rfl) ?_
        rintro _ _ _ ⟨v2334, _, rfl, ⟨⟨l2330, ad2331, cp2332, rfl, rfl, rfl⟩, rfl⟩, _, rfl⟩
        refine J.wit Row.hn (fun hn2333 => ?_)
        refine J.val (v := .slice ad2331 l2330.length cp2332) rfl rfl (V.as rfl) ?_
        refine J.nil ?_
        refine CJ.seq ?_
        refine CJ.seq ?_
        refine CJ.region ?_
        refine J.val (v := .slice adxb_0 xb.length cpxb_0) rfl rfl (V.mv rfl) ?_
        refine J.val (v := .int .i64 (((xb.length : Nat) : Int))) rfl rfl (V.len Try.underlying45 rfl) ?_
        refine J.val (v := .int .i64 0) rfl rfl (V.mv rfl) ?_
        refine J.nil ?_
        obtain ⟨o2587, ho2588, h⟩ := ob h
        refine CJ.meetN (fun ρ K' L' => ∃ (l2582 : (List Int)) (ad2583 : Option Addr) (cp2584 : Nat), l2582 = o2587 ∧ Fits [(6, .pointer (some ⟨b1423, 0, none⟩)), (7, .pointer (some ⟨nb1502, 0, none⟩))] ρ ∧ K2325 = K' ∧ L' = Cl b1423 48 [.slice none 0 0, .slice none 0 0] :: Cl nb1502 48 [.slice ad2151 l2150.length cp2152, .slice ad2583 l2582.length cp2584] :: Row Hp.nil 3 (.int .i64) (.slice ad2583 l2582.length cp2584) l2582 :: F) ?_ ?_
        · skip
          refine CJ.block ?_
          refine CJ.front 3 rfl ?_
          refine CJ.front 1 rfl ?_
          refine CJ.front 3 rfl ?_
          refine CJ.front 3 rfl ?_
          refine CJ.loop (fun s ρ K' L' => ∃ (l2669 : (List Int)) (i2674 : Int) (l2675 : (List Int)) (ad2670 : Option Addr) (cp2671 : Nat) (ad2676 : Option Addr) (cp2677 : Nat), (l2669, i2674, l2675) = s ∧ Fits [(2, .func (.func 30) #[] #[]), (6, .pointer (some ⟨b1423, 0, none⟩)), (7, .pointer (some ⟨nb1502, 0, none⟩)), (11, .slice ad2670 l2669.length cp2671), (60, .slice adxb_0 xb.length cpxb_0), (61, .int .i64 (((xb.length : Nat) : Int))), (62, .int .i64 i2674)] ρ ∧ K2325 = K' ∧ L' = Cl b1423 48 [.slice none 0 0, .slice none 0 0] :: Cl nb1502 48 [.slice ad2151 l2150.length cp2152, .slice ad2676 l2675.length cp2677] :: Row Hp.nil 3 (.int .i64) (.slice ad2670 l2669.length cp2671) l2669 :: Row Hp.nil 3 (.int .i64) (.slice ad2676 l2675.length cp2677) l2675 :: F) ho2588 ⟨l2330, 0, l1508, ad2331, cp2332, ad1509, cp1510, rfl, ⟨rfl, rfl, rfl, rfl, rfl, rfl, rfl, trivial⟩, rfl, rfl⟩ ?_
          rintro s ρ _ _ r2763 ⟨l2669, i2674, l2675, ad2670, cp2671, ad2676, cp2677, rfl, hf2761, rfl, rfl⟩ h2760
          obtain ⟨ρ, rfl⟩ := hf2761.ex
          refine CJ.front 2 rfl ?_
          refine CJ.wit Row.hn (fun hn2673 => ?_)
          refine CJ.front 3 rfl ?_
          refine CJ.wit Row.hn (fun hn2679 => ?_)
          refine CJ.seq ?_
          refine CJ.region ?_
          refine J.val (v := .bool (decide (i2674 < (((xb.length : Nat) : Int))))) rfl rfl (V.lss rfl rfl) ?_
          refine J.nil ?_
          refine CJ.seq ?_
          refine CJ.cond rfl (fun hc2764 => ?_) (fun hc2764 => ?_)
          · have h2760 := ct hc2764 h2760
            refine CJ.skip ?_
            refine CJ.seq ?_
            refine CJ.block ?_
            refine CJ.seq ?_
            refine CJ.region ?_
            refine J.val (v := .int .i64 i2674) rfl rfl (V.mv rfl) ?_
            obtain ⟨x2765, hx2766, h2760⟩ := ob h2760
            obtain ⟨p2767, p2768, p2769⟩ := getI_some hx2766
            obtain ⟨b2770, o2771, e2772, a2773⟩ := ((fxb_0.mono hK2326)).at p2768
            refine J.val rfl rfl (V.iad Try.underlying45 sz34 rfl e2772 rfl p2767 p2769) ?_
            refine J.val (v := .agg #[.int .i64 x2765.1, .int .i64 x2765.2]) rfl rfl (V.ld rfl (Ld.aggK (cs := [.int .i64 x2765.1, .int .i64 x2765.2]) Try.underlying34 sz34 rfl ⟨((a2773).fst).int, (((a2773).snd).one).int, trivial⟩ (Hp.le_refl _))) ?_
            refine J.op rfl (A.alloc (cs := [.int .i64 0, .int .i64 0]) inf34 rfl) ?_
            rintro _ _ _ ⟨b2774, rfl, rfl, rfl⟩
            refine J.val (v := .int .i64 i2674) rfl rfl (V.as rfl) ?_
            refine J.op rfl (A.store (v := .agg #[.int .i64 x2765.1, .int .i64 x2765.2]) (cs' := [.int .i64 x2765.1, .int .i64 x2765.2]) sz34 rfl rfl rfl rfl rfl rfl) ?_
            rintro _ _ _ ⟨rfl, rfl, rfl⟩
            refine J.nil ?_
            refine CJ.seq ?_
            refine CJ.region ?_
            refine J.val (v := .func (.func 30) #[] #[]) rfl rfl (V.mv rfl) ?_
            refine J.val (v := .agg #[.int .i64 x2765.1, .int .i64 x2765.2]) rfl rfl (V.ld rfl (Ld.agg (cs := [.int .i64 x2765.1, .int .i64 x2765.2]) Try.underlying34 sz34 rfl (Rd.cls 0 0 rfl rfl))) ?_
            obtain ⟨r2775, hr2776, h2760⟩ := ob h2760
            refine J.op rfl (A.call (L1 := []) Try.call30 rfl (graph_New_1_ok hr2776) rfl rfl) ?_
            rintro _ _ _ ⟨v2778, _, rfl, ⟨⟨i2777, rfl, rfl, rfl⟩, rfl⟩, _, rfl⟩
            refine J.val (v := .int .i64 i2777) rfl rfl (V.as rfl) ?_
            refine J.nil ?_
            refine CJ.seq ?_
            refine CJ.mix [Cl b2774 34 [.int .i64 x2765.1, .int .i64 x2765.2], Row Hp.nil 3 (.int .i64) (.slice ad2676 l2675.length cp2677) l2675, Row Hp.nil 3 (.int .i64) (.slice ad2670 l2669.length cp2671) l2669, Cl b1423 48 [.slice none 0 0, .slice none 0 0], Cl nb1502 48 [.slice ad2151 l2150.length cp2152, .slice ad2676 l2675.length cp2677]] [] [0, 1, 2, 3, 4, 5, 6, 7] [8] mixO (by decide +kernel) ⟨0, rfl, 0, rfl, 0, rfl, 0, rfl, 0, rfl, trivial⟩ rfl rfl rfl ?_
            refine JM.nil ?_
            refine JQ.val rfl rfl (V.fad Try.underlying48 rfl nz30 rfl) ?_
            refine JQ.val (v := .slice ad2676 l2675.length cp2677) rfl rfl (V.ld rfl (Ld.sc sc30 (Rd.cl 4 rfl rfl))) ?_
            refine JQ.val (v := .slice ad2670 l2669.length cp2671) rfl rfl (V.mv rfl) ?_
            refine JQ.val (v := .int .i64 i2777) rfl rfl (V.mv rfl) ?_
            obtain ⟨x2795, hx2796, h2760⟩ := ob h2760
            obtain ⟨p2797, p2798, p2799⟩ := getI_some hx2796
            obtain ⟨g2800, e2801⟩ := hn2673 (fun e => by rw [e] at p2798; simp at p2798)
            refine JQ.val rfl rfl (V.iad Try.underlying30 sz3 rfl e2801 rfl p2797 p2799) ?_
            refine JQ.val (v := .int .i64 x2795) rfl rfl (V.ld rfl (Ld.sc sc3 (Rd.row 2 rfl e2801 p2798 (q := 0) (by simp [Tp.size]) (by decide) (by rintro _ rfl; rfl)))) ?_
            refine JQ.val (v := .int .i64 i2674) rfl rfl (V.mv rfl) ?_
            obtain ⟨x2802, hx2803, h2760⟩ := ob h2760
            obtain ⟨p2804, p2805, p2806⟩ := getI_some hx2803
            obtain ⟨g2807, e2808⟩ := hn2679 (fun e => by rw [e] at p2805; simp at p2805)
            refine JQ.val rfl rfl (V.iad Try.underlying30 sz3 rfl e2808 rfl p2804 p2806) ?_
            refine JQ.nil ?_
            refine J.front 1 rfl ?_
            obtain ⟨z2809, hz2810, h2760⟩ := ob h2760
            have e2811 := Option.some.inj hz2810
            have hl2812 : z2809.length = l2675.length := by rw [← e2811, List.length_set]
            refine J.op rfl (A.storeR (ty := (.int .i64)) (q := 0) (y0 := i2674) (zs := z2809) sz3 rfl rfl rfl rfl e2808 p2805 (by simp [Tp.size]) (by decide) (by rintro _ rfl; exact rfl) e2811) ?_
            rintro _ _ _ ⟨rfl, rfl, rfl⟩
            have hn2813 : z2809 ≠ [] → _ := fun h => hn2679 (fun e => h (List.length_eq_zero_iff.1 (by rw [hl2812]; exact List.length_eq_zero_iff.2 e)))
            refine J.nil ?_
            refine CJ.region ?_
            refine J.val (v := .slice ad2670 l2669.length cp2671) rfl rfl (V.mv rfl) ?_
            refine J.val (v := .int .i64 i2777) rfl rfl (V.mv rfl) ?_
            obtain ⟨x2814, hx2815, h2760⟩ := ob h2760
            obtain ⟨p2816, p2817, p2818⟩ := getI_some hx2815
            obtain ⟨g2819, e2820⟩ := hn2673 (fun e => by rw [e] at p2817; simp at p2817)
            refine J.val rfl rfl (V.iad Try.underlying30 sz3 rfl e2820 rfl p2816 p2818) ?_
            refine J.val (v := .int .i64 x2814) rfl rfl (V.ld rfl (Ld.sc sc3 (Rd.row 2 rfl e2820 p2817 (q := 0) (by simp [Tp.size]) (by decide) (by rintro _ rfl; rfl)))) ?_
            refine J.val (v := .int .i64 (IntKind.wrap .i64 (x2814 + 1))) rfl rfl (V.add rfl rfl) ?_
            obtain ⟨x2821, hx2822, h2760⟩ := ob h2760
            obtain ⟨p2823, p2824, p2825⟩ := getI_some hx2822
            obtain ⟨g2826, e2827⟩ := hn2673 (fun e => by rw [e] at p2824; simp at p2824)
            refine J.val rfl rfl (V.iad Try.underlying30 sz3 rfl e2827 rfl p2823 p2825) ?_
            refine J.front 2 rfl ?_
            obtain ⟨z2828, hz2829, h2760⟩ := ob h2760
            have e2830 := Option.some.inj hz2829
            have hl2831 : z2828.length = l2669.length := by rw [← e2830, List.length_set]
            refine J.op rfl (A.storeR (ty := (.int .i64)) (q := 0) (y0 := IntKind.wrap .i64 (x2814 + 1)) (zs := z2828) sz3 rfl rfl rfl rfl e2827 p2824 (by simp [Tp.size]) (by decide) (by rintro _ rfl; exact rfl) e2830) ?_
            rintro _ _ _ ⟨rfl, rfl, rfl⟩
            have hn2832 : z2828 ≠ [] → _ := fun h => hn2673 (fun e => h (List.length_eq_zero_iff.1 (by rw [hl2831]; exact List.length_eq_zero_iff.2 e)))
            refine J.nil ?_
            refine CJ.region ?_
            refine J.val (v := .int .i64 (IntKind.wrap .i64 (i2674 + 1))) rfl rfl (V.add rfl rfl) ?_
            refine J.val (v := .int .i64 (IntKind.wrap .i64 (i2674 + 1))) rfl rfl (V.mv rfl) ?_
            refine J.dropAt 2 rfl ?_
            refine J.front 1 rfl ?_
            refine J.front 1 rfl ?_
            refine J.front 3 rfl ?_
            refine J.front 3 rfl ?_
            refine J.nil ?_
            have e := Option.some.inj h2760
            subst e
            exact ⟨rfl, ⟨z2828, IntKind.wrap .i64 (i2674 + 1), z2809, ad2670, cp2671, ad2676, cp2677, rfl, ⟨rfl, rfl, rfl, (by rw [hl2831]; rfl), rfl, rfl, rfl, trivial⟩, rfl, (by rw [hl2812, hl2831]; first | done | rfl)⟩⟩
          · have h2760 := cf hc2764 h2760
            refine CJ.dropAt 1 rfl ?_
            refine CJ.front 2 rfl ?_
            refine CJ.front 2 rfl ?_
            refine CJ.exit ?_
            have e := Option.some.inj h2760
            subst e
            refine ⟨nofun, fun e => ?_⟩
            subst e
            exact ⟨rfl, ⟨l2675, ad2676, cp2677, rfl, ⟨rfl, rfl, trivial⟩, rfl, rfl⟩⟩
        · rintro ρ _ _ ⟨l2582, ad2583, cp2584, rfl, hf2833, rfl, rfl⟩
          obtain ⟨ρ, rfl⟩ := hf2833.ex
          refine PJ.front 2 rfl ?_
          refine PJ.wit Row.hn (fun hn2586 => ?_)
          refine PJ.done ?_
          refine CJ.seq ?_
          refine CJ.region ?_
          refine J.val (v := .agg #[.slice ad2151 l2150.length cp2152, .slice ad2583 l2582.length cp2584]) rfl rfl (V.ld rfl (Ld.agg (cs := [.slice ad2151 l2150.length cp2152, .slice ad2583 l2582.length cp2584]) Try.underlying48 sz48 rfl (Rd.cls 2 0 rfl rfl))) ?_
          refine J.front 1 rfl ?_
          refine J.op rfl (A.store (v := .agg #[.slice ad2151 l2150.length cp2152, .slice ad2583 l2582.length cp2584]) (cs' := [.slice ad2151 l2150.length cp2152, .slice ad2583 l2582.length cp2584]) sz48 rfl rfl rfl rfl rfl rfl) ?_
          rintro _ _ _ ⟨rfl, rfl, rfl⟩
          refine J.nil ?_
          refine CJ.ret ?_
          have e := Option.some.inj h
          subst e
          exact ⟨_, [Row Hp.nil 3 (.int .i64) (.slice ad2583 l2582.length cp2584) l2582], Res.one rfl ⟨_, _, rfl, Ld.agg (cs := [.slice ad2151 l2150.length cp2152, .slice ad2583 l2582.length cp2584]) Try.underlying48 sz48 rfl (Rd.cls 0 0 rfl rfl)⟩, ⟨l2150, l2582, ad2151, cp2152, ad2583, cp2584, rfl, rfl, f2327, rfl⟩, hK2326, fun w hs => (Sep.dropAt 1 rfl (Sep.dropAt 0 rfl hs))⟩

noncomputable def fn_graph_New_2 (xa : (Int × Int)) : Option Int :=
  some (xa.2)
set_option maxRecDepth 100000 in
set_option maxHeartbeats 4000000 in
theorem graph_New_2_ok {K : Hp} {xa : (Int × Int)}   {r : Int} (h : fn_graph_New_2 xa = some r) :
    Tr Try.prog 31 #[.agg #[.int .i64 xa.1, .int .i64 xa.2]] K [] (fun v K' L' => (∃ (i2 : Int), i2 = r ∧ .int .i64 i2 = v ∧ L' = []) ∧ K = K') := by
  refine Tr.k ?_
  refine Tr.of Try.func31 rfl Try.ntmps31 rfl (fun E F => ?_)
  unfold fn_graph_New_2 at h
  refine CJ.seq ?_
  refine CJ.region ?_
  refine J.op rfl (A.box (v := .agg #[.int .i64 xa.1, .int .i64 xa.2]) (cs := [.int .i64 xa.1, .int .i64 xa.2]) rfl rfl) ?_
  rintro _ _ _ ⟨b3, rfl, rfl, rfl⟩
  refine J.val (v := .int .i64 0) rfl rfl (V.as rfl) ?_
  refine J.nil ?_
  refine CJ.seq ?_
  refine CJ.region ?_
  refine J.val rfl rfl (V.fad Try.underlying34 rfl nz3 rfl) ?_
  refine J.val (v := .int .i64 xa.2) rfl rfl (V.ld rfl (Ld.sc sc3 (Rd.cl 0 rfl rfl))) ?_
  refine J.val (v := .int .i64 xa.2) rfl rfl (V.as rfl) ?_
  refine J.nil ?_
  refine CJ.ret ?_
  have e := Option.some.inj h
  subst e
  exact ⟨_, [], Res.one rfl rfl, ⟨xa.2, rfl, rfl, rfl⟩, (Hp.le_refl _), fun w hs => (Sep.dropAt 0 rfl hs)⟩
noncomputable def fn_graph_indexed_ik_graph_New_2_l1 (xb : (List (Int × Int))) : (Int × (List Int)) → Option ((Int × (List Int)) ⊕ (List Int)) := fun ((i1854, l1855) : (Int × (List Int))) => cond (decide (i1854 < (((xb.length : Nat) : Int)))) ((getI xb i1854).bind fun x1927 => (fn_graph_New_2 (x1927.1, x1927.2)).bind fun i1959 => (getI l1855 (IntKind.wrap .i64 (i1959 + 1))).bind fun x1963 => (getI l1855 (IntKind.wrap .i64 (i1959 + 1))).bind fun x1970 => (some (l1855.set (IntKind.wrap .i64 (i1959 + 1)).toNat (IntKind.wrap .i64 (x1963 + 1)))).bind fun z1977 => some (.inl ((IntKind.wrap .i64 (i1854 + 1), z1977)))) (some (.inr (l1855)))
noncomputable def fn_graph_indexed_ik_graph_New_2_l2 (xa : Int) : (Int × (List Int)) → Option ((Int × (List Int)) ⊕ (List Int)) := fun ((i2211, l2212) : (Int × (List Int))) => cond (decide (i2211 < xa)) ((getI l2212 (IntKind.wrap .i64 (i2211 + 1))).bind fun x2297 => (getI l2212 i2211).bind fun x2304 => (getI l2212 (IntKind.wrap .i64 (i2211 + 1))).bind fun x2311 => (some (l2212.set (IntKind.wrap .i64 (i2211 + 1)).toNat (IntKind.wrap .i64 (x2297 + x2304)))).bind fun z2318 => some (.inl ((IntKind.wrap .i64 (i2211 + 1), z2318)))) (some (.inr (l2212)))
noncomputable def fn_graph_indexed_ik_graph_New_2_l3 (xb : (List (Int × Int))) : ((List Int) × Int × (List Int)) → Option (((List Int) × Int × (List Int)) ⊕ (List Int)) := fun ((l2669, i2674, l2675) : ((List Int) × Int × (List Int))) => cond (decide (i2674 < (((xb.length : Nat) : Int)))) ((getI xb i2674).bind fun x2765 => (fn_graph_New_2 (x2765.1, x2765.2)).bind fun i2777 => (getI l2669 i2777).bind fun x2795 => (getI l2675 x2795).bind fun x2802 => (some (l2675.set x2795.toNat i2674)).bind fun z2809 => (getI l2669 i2777).bind fun x2814 => (getI l2669 i2777).bind fun x2821 => (some (l2669.set i2777.toNat (IntKind.wrap .i64 (x2814 + 1)))).bind fun z2828 => some (.inl ((z2828, IntKind.wrap .i64 (i2674 + 1), z2809)))) (some (.inr (l2675)))
noncomputable def fn_graph_indexed_ik_graph_New_2 (xa : Int) (xb : (List (Int × Int))) : Option (((List Int) × (List Int))) :=
  ((mk (IntKind.wrap .i64 (xa + 1)) (IntKind.wrap .i64 (xa + 1)) 0 : Option (List Int)).bind fun z1554 => (mk (((xb.length : Nat) : Int)) (((xb.length : Nat) : Int)) 0 : Option (List Int)).bind fun z1556 => some ((z1554, z1556))).bind fun (l1503, l1508) => (loop (fn_graph_indexed_ik_graph_New_2_l1 xb) (0, l1503)).bind fun l1785 => (loop (fn_graph_indexed_ik_graph_New_2_l2 xa) (0, l1785)).bind fun l2150 => (fn_slices_Clone_int_int l2150).bind fun l2330 => (loop (fn_graph_indexed_ik_graph_New_2_l3 xb) (l2330, 0, l1508)).bind fun l2582 => some ((l2150, l2582))
set_option maxRecDepth 100000 in
set_option maxHeartbeats 4000000 in
theorem graph_indexed_ik_graph_New_2_ok {K : Hp} {xa : Int} {xb : (List (Int × Int))} {adxb_0 : Option Addr} {cpxb_0 : Nat} (fxb_0 : Is K (.sl (.cons (.int .i64) (.one (.int .i64)))) [.slice adxb_0 xb.length cpxb_0] xb) {r : ((List Int) × (List Int))} (h : fn_graph_indexed_ik_graph_New_2 xa xb = some r) :
    Tr Try.prog 29 #[.int .i64 xa, .slice adxb_0 xb.length cpxb_0, .func (.func 31) #[] #[]] K [] (fun v K' L' => (∃ (l1414 : (List Int)) (l1418 : (List Int)) (ad1415 : Option Addr) (cp1416 : Nat) (ad1419 : Option Addr) (cp1420 : Nat), (l1414, l1418) = r ∧ .agg #[.slice ad1415 l1414.length cp1416, .slice ad1419 l1418.length cp1420] = v ∧ Is K' (.sl (.int .i64)) [.slice ad1415 l1414.length cp1416] l1414 ∧ L' = [Row Hp.nil 3 (.int .i64) (.slice ad1419 l1418.length cp1420) l1418])) := by
  refine Tr.of Try.func29 rfl Try.ntmps29 rfl (fun E F => ?_)
  unfold fn_graph_indexed_ik_graph_New_2 at h
  refine CJ.seq ?_
  refine CJ.region ?_
  refine J.op rfl (A.alloc (cs := [.slice none 0 0, .slice none 0 0]) inf48 rfl) ?_
  rintro _ _ _ ⟨b1423, rfl, rfl, rfl⟩
  refine J.nil ?_
  refine CJ.seq ?_
  obtain ⟨o1513, ho1514, h⟩ := ob h
  refine CJ.meetN (fun ρ K' L' => ∃ (l1503 : (List Int)) (l1508 : (List Int)) (nb1502 : Nat) (ad1504 : Option Addr) (cp1505 : Nat) (ad1509 : Option Addr) (cp1510 : Nat), (l1503, l1508) = o1513 ∧ Fits [(0, .int .i64 xa), (1, .slice adxb_0 xb.length cpxb_0), (2, .func (.func 31) #[] #[]), (6, .pointer (some ⟨b1423, 0, none⟩)), (7, .pointer (some ⟨nb1502, 0, none⟩))] ρ ∧ K = K' ∧ L' = Cl b1423 48 [.slice none 0 0, .slice none 0 0] :: Cl nb1502 48 [.slice ad1504 l1503.length cp1505, .slice ad1509 l1508.length cp1510] :: Row Hp.nil 3 (.int .i64) (.slice ad1504 l1503.length cp1505) l1503 :: Row Hp.nil 3 (.int .i64) (.slice ad1509 l1508.length cp1510) l1508 :: F) ?_ ?_
  · skip
    refine CJ.tree [Cl b1423 48 [.slice none 0 0, .slice none 0 0]] (.still [0, 1, 3, 4] (.alt 2 (.alt 5 (.still [6] (.alt 7 (.alt 8 (.leaf []) .done) .done)) (.alt 7 (.alt 5 (.still [6] (.alt 8 (.leaf []) .done)) .done) .done)) (.alt 5 (.alt 2 (.still [6] (.alt 7 (.alt 8 (.leaf []) .done) .done)) (.alt 7 (.alt 2 (.still [6] (.alt 8 (.leaf []) .done)) .done) .done)) (.alt 7 (.alt 2 (.alt 5 (.still [6] (.alt 8 (.leaf []) .done)) .done) (.alt 5 (.alt 2 (.still [6] (.alt 8 (.leaf []) .done)) .done) .done)) .done)))) [] mixO (by decide +kernel) ⟨0, rfl, trivial⟩ rfl ?_
    refine JT.still rfl ?_
    refine JQ.val (v := .int .i64 xa) rfl rfl (V.mv rfl) ?_
    refine JQ.val (v := .int .i64 (IntKind.wrap .i64 (xa + 1))) rfl rfl (V.add rfl rfl) ?_
    refine JQ.val (v := .slice adxb_0 xb.length cpxb_0) rfl rfl (V.mv rfl) ?_
    refine JQ.val (v := .int .i64 (((xb.length : Nat) : Int))) rfl rfl (V.len Try.underlying45 rfl) ?_
    refine JQ.nil ?_
    obtain ⟨z1554, hz1555, ho1514⟩ := ob ho1514
    obtain ⟨z1556, hz1557, ho1514⟩ := ob ho1514
    refine JT.alt rfl ?_ ?_
    · skip
      refine JB.op rfl (A.make (K0 := Hp.nil) (ty := (.int .i64)) (x0 := 0) Try.underlying30 inf3 rfl rfl (by decide) (by decide) rfl rfl hz1555) ?_
      rintro _ _ _ ⟨b1558, rfl, rfl, rfl⟩
      have hn1559 : z1554 ≠ [] → ∃ g, (some ⟨b1558, 0, none⟩ : Option Addr) = some ⟨g, 0, none⟩ := fun _ => ⟨b1558, rfl⟩
      refine ⟨fun w hs => Hold.sub (Hp.le_refl _) ⟨1, rfl, trivial⟩ hs, ?_⟩
      refine JT.alt rfl ?_ ?_
      · skip
        refine JB.op rfl (A.make (K0 := Hp.nil) (ty := (.int .i64)) (x0 := 0) Try.underlying30 inf3 rfl rfl (by decide) (by decide) rfl rfl hz1557) ?_
        rintro _ _ _ ⟨b1561, rfl, rfl, rfl⟩
        have hn1562 : z1556 ≠ [] → ∃ g, (some ⟨b1561, 0, none⟩ : Option Addr) = some ⟨g, 0, none⟩ := fun _ => ⟨b1561, rfl⟩
        refine ⟨fun w hs => Hold.sub (Hp.le_refl _) ⟨2, rfl, trivial⟩ hs, ?_⟩
        refine JT.still rfl ?_
        refine JQ.val (v := .agg #[.slice (some ⟨b1558, 0, none⟩) z1554.length (IntKind.wrap .i64 (xa + 1)).toNat, .slice (some ⟨b1561, 0, none⟩) z1556.length (((xb.length : Nat) : Int)).toNat]) rfl rfl (V.build inf48 places48 rfl rfl) ?_
        refine JQ.nil ?_
        refine JT.alt rfl ?_ JT.done
        refine JB.op rfl (A.alloc (cs := [.slice none 0 0, .slice none 0 0]) inf48 rfl) ?_
        rintro _ _ _ ⟨b1564, rfl, rfl, rfl⟩
        refine ⟨fun w hs => Hold.sub (Hp.le_refl _) ⟨3, rfl, trivial⟩ hs, ?_⟩
        refine JT.alt rfl ?_ JT.done
        refine JB.op rfl (A.store (v := .agg #[.slice (some ⟨b1558, 0, none⟩) z1554.length (IntKind.wrap .i64 (xa + 1)).toNat, .slice (some ⟨b1561, 0, none⟩) z1556.length (((xb.length : Nat) : Int)).toNat]) (cs' := [.slice (some ⟨b1558, 0, none⟩) z1554.length (IntKind.wrap .i64 (xa + 1)).toNat, .slice (some ⟨b1561, 0, none⟩) z1556.length (((xb.length : Nat) : Int)).toNat]) sz48 rfl rfl rfl rfl rfl rfl) ?_
        rintro _ _ _ ⟨rfl, rfl, rfl⟩
        refine ⟨fun w hs => Hold.sub (Hp.le_refl _) ⟨3, rfl, trivial⟩ hs, ?_⟩
        refine JT.leaf rfl ?_
        refine JQ.nil ?_
        refine J.front 1 rfl ?_
        refine J.front 2 rfl ?_
        refine J.front 2 rfl ?_
        refine J.front 3 rfl ?_
        refine J.nil ?_
        have e := Option.some.inj ho1514
        subst e
        exact ⟨rfl, ⟨z1554, z1556, b1564, (some ⟨b1558, 0, none⟩), (IntKind.wrap .i64 (xa + 1)).toNat, (some ⟨b1561, 0, none⟩), (((xb.length : Nat) : Int)).toNat, rfl, ⟨rfl, rfl, rfl, rfl, rfl, trivial⟩, rfl, rfl⟩⟩
      · skip
        refine JT.alt rfl ?_ JT.done
        refine JB.op rfl (A.alloc (cs := [.slice none 0 0, .slice none 0 0]) inf48 rfl) ?_
        rintro _ _ _ ⟨b1565, rfl, rfl, rfl⟩
        refine ⟨fun w hs => Hold.sub (Hp.le_refl _) ⟨2, rfl, trivial⟩ hs, ?_⟩
        refine JT.alt rfl ?_ JT.done
        refine JB.op rfl (A.make (K0 := Hp.nil) (ty := (.int .i64)) (x0 := 0) Try.underlying30 inf3 rfl rfl (by decide) (by decide) rfl rfl hz1557) ?_
        rintro _ _ _ ⟨b1566, rfl, rfl, rfl⟩
        have hn1567 : z1556 ≠ [] → ∃ g, (some ⟨b1566, 0, none⟩ : Option Addr) = some ⟨g, 0, none⟩ := fun _ => ⟨b1566, rfl⟩
        refine ⟨fun w hs => Hold.sub (Hp.le_refl _) ⟨3, rfl, trivial⟩ hs, ?_⟩
        refine JT.still rfl ?_
        refine JQ.val (v := .agg #[.slice (some ⟨b1558, 0, none⟩) z1554.length (IntKind.wrap .i64 (xa + 1)).toNat, .slice (some ⟨b1566, 0, none⟩) z1556.length (((xb.length : Nat) : Int)).toNat]) rfl rfl (V.build inf48 places48 rfl rfl) ?_
        refine JQ.nil ?_
        refine JT.alt rfl ?_ JT.done
        refine JB.front 1 rfl ?_
        refine JB.op rfl (A.store (v := .agg #[.slice (some ⟨b1558, 0, none⟩) z1554.length (IntKind.wrap .i64 (xa + 1)).toNat, .slice (some ⟨b1566, 0, none⟩) z1556.length (((xb.length : Nat) : Int)).toNat]) (cs' := [.slice (some ⟨b1558, 0, none⟩) z1554.length (IntKind.wrap .i64 (xa + 1)).toNat, .slice (some ⟨b1566, 0, none⟩) z1556.length (((xb.length : Nat) : Int)).toNat]) sz48 rfl rfl rfl rfl rfl rfl) ?_
        rintro _ _ _ ⟨rfl, rfl, rfl⟩
        refine ⟨fun w hs => Hold.sub (Hp.le_refl _) ⟨3, rfl, trivial⟩ hs, ?_⟩
        refine JT.leaf rfl ?_
        refine JQ.nil ?_
        refine J.front 1 rfl ?_
        refine J.front 2 rfl ?_
        refine J.front 2 rfl ?_
        refine J.front 3 rfl ?_
        refine J.nil ?_
        have e := Option.some.inj ho1514
        subst e
        exact ⟨rfl, ⟨z1554, z1556, b1565, (some ⟨b1558, 0, none⟩), (IntKind.wrap .i64 (xa + 1)).toNat, (some ⟨b1566, 0, none⟩), (((xb.length : Nat) : Int)).toNat, rfl, ⟨rfl, rfl, rfl, rfl, rfl, trivial⟩, rfl, rfl⟩⟩
    · skip
      refine JT.alt rfl ?_ ?_
      · skip
        refine JB.op rfl (A.make (K0 := Hp.nil) (ty := (.int .i64)) (x0 := 0) Try.underlying30 inf3 rfl rfl (by decide) (by decide) rfl rfl hz1557) ?_
        rintro _ _ _ ⟨b1569, rfl, rfl, rfl⟩
        have hn1570 : z1556 ≠ [] → ∃ g, (some ⟨b1569, 0, none⟩ : Option Addr) = some ⟨g, 0, none⟩ := fun _ => ⟨b1569, rfl⟩
        refine ⟨fun w hs => Hold.sub (Hp.le_refl _) ⟨1, rfl, trivial⟩ hs, ?_⟩
        refine JT.alt rfl ?_ ?_
        · skip
          refine JB.op rfl (A.make (K0 := Hp.nil) (ty := (.int .i64)) (x0 := 0) Try.underlying30 inf3 rfl rfl (by decide) (by decide) rfl rfl hz1555) ?_
          rintro _ _ _ ⟨b1572, rfl, rfl, rfl⟩
          have hn1573 : z1554 ≠ [] → ∃ g, (some ⟨b1572, 0, none⟩ : Option Addr) = some ⟨g, 0, none⟩ := fun _ => ⟨b1572, rfl⟩
          refine ⟨fun w hs => Hold.sub (Hp.le_refl _) ⟨2, rfl, trivial⟩ hs, ?_⟩
          refine JT.still rfl ?_
          refine JQ.val (v := .agg #[.slice (some ⟨b1572, 0, none⟩) z1554.length (IntKind.wrap .i64 (xa + 1)).toNat, .slice (some ⟨b1569, 0, none⟩) z1556.length (((xb.length : Nat) : Int)).toNat]) rfl rfl (V.build inf48 places48 rfl rfl) ?_
          refine JQ.nil ?_
          refine JT.alt rfl ?_ JT.done
          refine JB.op rfl (A.alloc (cs := [.slice none 0 0, .slice none 0 0]) inf48 rfl) ?_
          rintro _ _ _ ⟨b1575, rfl, rfl, rfl⟩
          refine ⟨fun w hs => Hold.sub (Hp.le_refl _) ⟨3, rfl, trivial⟩ hs, ?_⟩
          refine JT.alt rfl ?_ JT.done
          refine JB.op rfl (A.store (v := .agg #[.slice (some ⟨b1572, 0, none⟩) z1554.length (IntKind.wrap .i64 (xa + 1)).toNat, .slice (some ⟨b1569, 0, none⟩) z1556.length (((xb.length : Nat) : Int)).toNat]) (cs' := [.slice (some ⟨b1572, 0, none⟩) z1554.length (IntKind.wrap .i64 (xa + 1)).toNat, .slice (some ⟨b1569, 0, none⟩) z1556.length (((xb.length : Nat) : Int)).toNat]) sz48 rfl rfl rfl rfl rfl rfl) ?_
          rintro _ _ _ ⟨rfl, rfl, rfl⟩
          refine ⟨fun w hs => Hold.sub (Hp.le_refl _) ⟨3, rfl, trivial⟩ hs, ?_⟩
          refine JT.leaf rfl ?_
          refine JQ.nil ?_
          refine J.front 2 rfl ?_
          refine J.front 2 rfl ?_
          refine J.front 2 rfl ?_
          refine J.front 3 rfl ?_
          refine J.nil ?_
          have e := Option.some.inj ho1514
          subst e
          exact ⟨rfl, ⟨z1554, z1556, b1575, (some ⟨b1572, 0, none⟩), (IntKind.wrap .i64 (xa + 1)).toNat, (some ⟨b1569, 0, none⟩), (((xb.length : Nat) : Int)).toNat, rfl, ⟨rfl, rfl, rfl, rfl, rfl, trivial⟩, rfl, rfl⟩⟩
        · skip
          refine JT.alt rfl ?_ JT.done
          refine JB.op rfl (A.alloc (cs := [.slice none 0 0, .slice none 0 0]) inf48 rfl) ?_
          rintro _ _ _ ⟨b1576, rfl, rfl, rfl⟩
          refine ⟨fun w hs => Hold.sub (Hp.le_refl _) ⟨2, rfl, trivial⟩ hs, ?_⟩
          refine JT.alt rfl ?_ JT.done
          refine JB.op rfl (A.make (K0 := Hp.nil) (ty := (.int .i64)) (x0 := 0) Try.underlying30 inf3 rfl rfl (by decide) (by decide) rfl rfl hz1555) ?_
          rintro _ _ _ ⟨b1577, rfl, rfl, rfl⟩
          have hn1578 : z1554 ≠ [] → ∃ g, (some ⟨b1577, 0, none⟩ : Option Addr) = some ⟨g, 0, none⟩ := fun _ => ⟨b1577, rfl⟩
          refine ⟨fun w hs => Hold.sub (Hp.le_refl _) ⟨3, rfl, trivial⟩ hs, ?_⟩
          refine JT.still rfl ?_
          refine JQ.val (v := .agg #[.slice (some ⟨b1577, 0, none⟩) z1554.length (IntKind.wrap .i64 (xa + 1)).toNat, .slice (some ⟨b1569, 0, none⟩) z1556.length (((xb.length : Nat) : Int)).toNat]) rfl rfl (V.build inf48 places48 rfl rfl) ?_
          refine JQ.nil ?_
          refine JT.alt rfl ?_ JT.done
          refine JB.front 1 rfl ?_
          refine JB.op rfl (A.store (v := .agg #[.slice (some ⟨b1577, 0, none⟩) z1554.length (IntKind.wrap .i64 (xa + 1)).toNat, .slice (some ⟨b1569, 0, none⟩) z1556.length (((xb.length : Nat) : Int)).toNat]) (cs' := [.slice (some ⟨b1577, 0, none⟩) z1554.length (IntKind.wrap .i64 (xa + 1)).toNat, .slice (some ⟨b1569, 0, none⟩) z1556.length (((xb.length : Nat) : Int)).toNat]) sz48 rfl rfl rfl rfl rfl rfl) ?_
          rintro _ _ _ ⟨rfl, rfl, rfl⟩
          refine ⟨fun w hs => Hold.sub (Hp.le_refl _) ⟨3, rfl, trivial⟩ hs, ?_⟩
          refine JT.leaf rfl ?_
          refine JQ.nil ?_
          refine J.front 2 rfl ?_
          refine J.front 2 rfl ?_
          refine J.front 2 rfl ?_
          refine J.front 3 rfl ?_
          refine J.nil ?_
          have e := Option.some.inj ho1514
          subst e
          exact ⟨rfl, ⟨z1554, z1556, b1576, (some ⟨b1577, 0, none⟩), (IntKind.wrap .i64 (xa + 1)).toNat, (some ⟨b1569, 0, none⟩), (((xb.length : Nat) : Int)).toNat, rfl, ⟨rfl, rfl, rfl, rfl, rfl, trivial⟩, rfl, rfl⟩⟩
      · skip
        refine JT.alt rfl ?_ JT.done
        refine JB.op rfl (A.alloc (cs := [.slice none 0 0, .slice none 0 0]) inf48 rfl) ?_
        rintro _ _ _ ⟨b1580, rfl, rfl, rfl⟩
        refine ⟨fun w hs => Hold.sub (Hp.le_refl _) ⟨1, rfl, trivial⟩ hs, ?_⟩
        refine JT.alt rfl ?_ ?_
        · skip
          refine JB.op rfl (A.make (K0 := Hp.nil) (ty := (.int .i64)) (x0 := 0) Try.underlying30 inf3 rfl rfl (by decide) (by decide) rfl rfl hz1555) ?_
          rintro _ _ _ ⟨b1581, rfl, rfl, rfl⟩
          have hn1582 : z1554 ≠ [] → ∃ g, (some ⟨b1581, 0, none⟩ : Option Addr) = some ⟨g, 0, none⟩ := fun _ => ⟨b1581, rfl⟩
          refine ⟨fun w hs => Hold.sub (Hp.le_refl _) ⟨2, rfl, trivial⟩ hs, ?_⟩
          refine JT.alt rfl ?_ JT.done
          refine JB.op rfl (A.make (K0 := Hp.nil) (ty := (.int .i64)) (x0 := 0) Try.underlying30 inf3 rfl rfl (by decide) (by decide) rfl rfl hz1557) ?_
          rintro _ _ _ ⟨b1584, rfl, rfl, rfl⟩
          have hn1585 : z1556 ≠ [] → ∃ g, (some ⟨b1584, 0, none⟩ : Option Addr) = some ⟨g, 0, none⟩ := fun _ => ⟨b1584, rfl⟩
          refine ⟨fun w hs => Hold.sub (Hp.le_refl _) ⟨3, rfl, trivial⟩ hs, ?_⟩
          refine JT.still rfl ?_
          refine JQ.val (v := .agg #[.slice (some ⟨b1581, 0, none⟩) z1554.length (IntKind.wrap .i64 (xa + 1)).toNat, .slice (some ⟨b1584, 0, none⟩) z1556.length (((xb.length : Nat) : Int)).toNat]) rfl rfl (V.build inf48 places48 rfl rfl) ?_
          refine JQ.nil ?_
          refine JT.alt rfl ?_ JT.done
          refine JB.front 2 rfl ?_
          refine JB.op rfl (A.store (v := .agg #[.slice (some ⟨b1581, 0, none⟩) z1554.length (IntKind.wrap .i64 (xa + 1)).toNat, .slice (some ⟨b1584, 0, none⟩) z1556.length (((xb.length : Nat) : Int)).toNat]) (cs' := [.slice (some ⟨b1581, 0, none⟩) z1554.length (IntKind.wrap .i64 (xa + 1)).toNat, .slice (some ⟨b1584, 0, none⟩) z1556.length (((xb.length : Nat) : Int)).toNat]) sz48 rfl rfl rfl rfl rfl rfl) ?_
          rintro _ _ _ ⟨rfl, rfl, rfl⟩
          refine ⟨fun w hs => Hold.sub (Hp.le_refl _) ⟨3, rfl, trivial⟩ hs, ?_⟩
          refine JT.leaf rfl ?_
          refine JQ.nil ?_
          refine J.front 1 rfl ?_
          refine J.front 2 rfl ?_
          refine J.front 2 rfl ?_
          refine J.front 3 rfl ?_
          refine J.nil ?_
          have e := Option.some.inj ho1514
          subst e
          exact ⟨rfl, ⟨z1554, z1556, b1580, (some ⟨b1581, 0, none⟩), (IntKind.wrap .i64 (xa + 1)).toNat, (some ⟨b1584, 0, none⟩), (((xb.length : Nat) : Int)).toNat, rfl, ⟨rfl, rfl, rfl, rfl, rfl, trivial⟩, rfl, rfl⟩⟩
        · skip
          refine JT.alt rfl ?_ JT.done
          refine JB.op rfl (A.make (K0 := Hp.nil) (ty := (.int .i64)) (x0 := 0) Try.underlying30 inf3 rfl rfl (by decide) (by decide) rfl rfl hz1557) ?_
          rintro _ _ _ ⟨b1587, rfl, rfl, rfl⟩
          have hn1588 : z1556 ≠ [] → ∃ g, (some ⟨b1587, 0, none⟩ : Option Addr) = some ⟨g, 0, none⟩ := fun _ => ⟨b1587, rfl⟩
          refine ⟨fun w hs => Hold.sub (Hp.le_refl _) ⟨2, rfl, trivial⟩ hs, ?_⟩
          refine JT.alt rfl ?_ JT.done
          refine JB.op rfl (A.make (K0 := Hp.nil) (ty := (.int .i64)) (x0 := 0) Try.underlying30 inf3 rfl rfl (by decide) (by decide) rfl rfl hz1555) ?_
          rintro _ _ _ ⟨b1590, rfl, rfl, rfl⟩
          have hn1591 : z1554 ≠ [] → ∃ g, (some ⟨b1590, 0, none⟩ : Option Addr) = some ⟨g, 0, none⟩ := fun _ => ⟨b1590, rfl⟩
          refine ⟨fun w hs => Hold.sub (Hp.le_refl _) ⟨3, rfl, trivial⟩ hs, ?_⟩
          refine JT.still rfl ?_
          refine JQ.val (v := .agg #[.slice (some ⟨b1590, 0, none⟩) z1554.length (IntKind.wrap .i64 (xa + 1)).toNat, .slice (some ⟨b1587, 0, none⟩) z1556.length (((xb.length : Nat) : Int)).toNat]) rfl rfl (V.build inf48 places48 rfl rfl) ?_
          refine JQ.nil ?_
          refine JT.alt rfl ?_ JT.done
          refine JB.front 2 rfl ?_
          refine JB.op rfl (A.store (v := .agg #[.slice (some ⟨b1590, 0, none⟩) z1554.length (IntKind.wrap .i64 (xa + 1)).toNat, .slice (some ⟨b1587, 0, none⟩) z1556.length (((xb.length : Nat) : Int)).toNat]) (cs' := [.slice (some ⟨b1590, 0, none⟩) z1554.length (IntKind.wrap .i64 (xa + 1)).toNat, .slice (some ⟨b1587, 0, none⟩) z1556.length (((xb.length : Nat) : Int)).toNat]) sz48 rfl rfl rfl rfl rfl rfl) ?_
          rintro _ _ _ ⟨rfl, rfl, rfl⟩
          refine ⟨fun w hs => Hold.sub (Hp.le_refl _) ⟨3, rfl, trivial⟩ hs, ?_⟩
          refine JT.leaf rfl ?_
          refine JQ.nil ?_
          refine J.front 2 rfl ?_
          refine J.front 2 rfl ?_
          refine J.front 2 rfl ?_
          refine J.front 3 rfl ?_
          refine J.nil ?_
          have e := Option.some.inj ho1514
          subst e
          exact ⟨rfl, ⟨z1554, z1556, b1580, (some ⟨b1590, 0, none⟩), (IntKind.wrap .i64 (xa + 1)).toNat, (some ⟨b1587, 0, none⟩), (((xb.length : Nat) : Int)).toNat, rfl, ⟨rfl, rfl, rfl, rfl, rfl, trivial⟩, rfl, rfl⟩⟩
  · rintro ρ _ _ ⟨l1503, l1508, nb1502, ad1504, cp1505, ad1509, cp1510, rfl, hf1593, rfl, rfl⟩
    obtain ⟨ρ, rfl⟩ := hf1593.ex
    refine PJ.front 2 rfl ?_
    refine PJ.wit Row.hn (fun hn1507 => ?_)
    refine PJ.front 3 rfl ?_
    refine PJ.wit Row.hn (fun hn1512 => ?_)
    refine PJ.done ?_
    refine CJ.seq ?_
    refine CJ.seq ?_
    refine CJ.region ?_
    refine J.val (v := .slice adxb_0 xb.length cpxb_0) rfl rfl (V.mv rfl) ?_
    refine J.val (v := .int .i64 (((xb.length : Nat) : Int))) rfl rfl (V.len Try.underlying45 rfl) ?_
    refine J.val (v := .int .i64 0) rfl rfl (V.mv rfl) ?_
    refine J.nil ?_
    obtain ⟨o1790, ho1791, h⟩ := ob h
    refine CJ.meetN (fun ρ K' L' => ∃ (l1785 : (List Int)) (ad1786 : Option Addr) (cp1787 : Nat), l1785 = o1790 ∧ Fits [(0, .int .i64 xa), (1, .slice adxb_0 xb.length cpxb_0), (2, .func (.func 31) #[] #[]), (6, .pointer (some ⟨b1423, 0, none⟩)), (7, .pointer (some ⟨nb1502, 0, none⟩))] ρ ∧ K = K' ∧ L' = Cl b1423 48 [.slice none 0 0, .slice none 0 0] :: Cl nb1502 48 [.slice ad1786 l1785.length cp1787, .slice ad1509 l1508.length cp1510] :: Row Hp.nil 3 (.int .i64) (.slice ad1509 l1508.length cp1510) l1508 :: Row Hp.nil 3 (.int .i64) (.slice ad1786 l1785.length cp1787) l1785 :: F) ?_ ?_
    · skip
      refine CJ.block ?_
      refine CJ.front 1 rfl ?_
      refine CJ.front 1 rfl ?_
      refine CJ.front 3 rfl ?_
      refine CJ.front 3 rfl ?_
      refine CJ.loop (fun s ρ K' L' => ∃ (i1854 : Int) (l1855 : (List Int)) (ad1856 : Option Addr) (cp1857 : Nat), (i1854, l1855) = s ∧ Fits [(0, .int .i64 xa), (1, .slice adxb_0 xb.length cpxb_0), (2, .func (.func 31) #[] #[]), (6, .pointer (some ⟨b1423, 0, none⟩)), (7, .pointer (some ⟨nb1502, 0, none⟩)), (22, .slice adxb_0 xb.length cpxb_0), (23, .int .i64 (((xb.length : Nat) : Int))), (24, .int .i64 i1854)] ρ ∧ K = K' ∧ L' = Cl b1423 48 [.slice none 0 0, .slice none 0 0] :: Cl nb1502 48 [.slice ad1856 l1855.length cp1857, .slice ad1509 l1508.length cp1510] :: Row Hp.nil 3 (.int .i64) (.slice ad1509 l1508.length cp1510) l1508 :: Row Hp.nil 3 (.int .i64) (.slice ad1856 l1855.length cp1857) l1855 :: F) ho1791 ⟨0, l1503, ad1504, cp1505, rfl, ⟨rfl, rfl, rfl, rfl, rfl, rfl, rfl, rfl, trivial⟩, rfl, rfl⟩ ?_
      rintro s ρ _ _ r1925 ⟨i1854, l1855, ad1856, cp1857, rfl, hf1923, rfl, rfl⟩ h1922
      obtain ⟨ρ, rfl⟩ := hf1923.ex
      refine CJ.front 3 rfl ?_
      refine CJ.wit Row.hn (fun hn1859 => ?_)
      refine CJ.seq ?_
      refine CJ.region ?_
      refine J.val (v := .bool (decide (i1854 < (((xb.length : Nat) : Int))))) rfl rfl (V.lss rfl rfl) ?_
      refine J.nil ?_
      refine CJ.seq ?_
      refine CJ.cond rfl (fun hc1926 => ?_) (fun hc1926 => ?_)
      · have h1922 := ct hc1926 h1922
        refine CJ.skip ?_
        refine CJ.seq ?_
        refine CJ.block ?_
        refine CJ.seq ?_
        refine CJ.region ?_
        obtain ⟨x1927, hx1928, h1922⟩ := ob h1922
        obtain ⟨p1929, p1930, p1931⟩ := getI_some hx1928
        obtain ⟨b1932, o1933, e1934, a1935⟩ := (fxb_0).at p1930
        refine J.val rfl rfl (V.iad Try.underlying45 sz34 rfl e1934 rfl p1929 p1931) ?_
        refine J.val (v := .agg #[.int .i64 x1927.1, .int .i64 x1927.2]) rfl rfl (V.ld rfl (Ld.aggK (cs := [.int .i64 x1927.1, .int .i64 x1927.2]) Try.underlying34 sz34 rfl ⟨((a1935).fst).int, (((a1935).snd).one).int, trivial⟩ (Hp.le_refl _))) ?_
        refine J.op rfl (A.alloc (cs := [.int .i64 0, .int .i64 0]) inf34 rfl) ?_
        rintro _ _ _ ⟨b1936, rfl, rfl, rfl⟩
        refine J.op rfl (A.store (v := .agg #[.int .i64 x1927.1, .int .i64 x1927.2]) (cs' := [.int .i64 x1927.1, .int .i64 x1927.2]) sz34 rfl rfl rfl rfl rfl rfl) ?_
        rintro _ _ _ ⟨rfl, rfl, rfl⟩
        refine J.nil ?_
        refine CJ.mix [Cl b1936 34 [.int .i64 x1927.1, .int .i64 x1927.2], Row Hp.nil 3 (.int .i64) (.slice ad1856 l1855.length cp1857) l1855, Cl b1423 48 [.slice none 0 0, .slice none 0 0], Cl nb1502 48 [.slice ad1856 l1855.length cp1857, .slice ad1509 l1508.length cp1510], Row Hp.nil 3 (.int .i64) (.slice ad1509 l1508.length cp1510) l1508] [([0, 1, 2, 3], 4)] [5, 6, 7, 8, 9] [10] mixO (by decide +kernel) ⟨0, rfl, 0, rfl, 0, rfl, 0, rfl, 0, rfl, trivial⟩ rfl rfl rfl ?_
        refine JM.cons ?_
        refine JQ.val rfl rfl (V.fad Try.underlying48 rfl nz30 rfl) ?_
        refine JQ.val (v := .slice ad1856 l1855.length cp1857) rfl rfl (V.ld rfl (Ld.sc sc30 (Rd.cl 3 rfl rfl))) ?_
        refine JQ.val (v := .func (.func 31) #[] #[]) rfl rfl (V.mv rfl) ?_
        refine JQ.val (v := .agg #[.int .i64 x1927.1, .int .i64 x1927.2]) rfl rfl (V.ld rfl (Ld.agg (cs := [.int .i64 x1927.1, .int .i64 x1927.2]) Try.underlying34 sz34 rfl (Rd.cls 0 0 rfl rfl))) ?_
        refine JQ.nil ?_
        obtain ⟨r1957, hr1958, h1922⟩ := ob h1922
        refine JA.op rfl (A.call (L1 := []) Try.call31 rfl (graph_New_2_ok hr1958) rfl rfl) ?_
        rintro _ _ _ ⟨v1960, _, rfl, ⟨⟨i1959, rfl, rfl, rfl⟩, rfl⟩, _, rfl⟩
        refine ⟨fun w hs => Hold.sub (Hp.le_refl _) ⟨0, rfl, 0, rfl, 0, rfl, 0, rfl, 0, rfl, trivial⟩ hs, ?_⟩
        refine JM.nil ?_
        refine JQ.val (v := .int .i64 (IntKind.wrap .i64 (i1959 + 1))) rfl rfl (V.add rfl rfl) ?_
        obtain ⟨x1963, hx1964, h1922⟩ := ob h1922
        obtain ⟨p1965, p1966, p1967⟩ := getI_some hx1964
        obtain ⟨g1968, e1969⟩ := hn1859 (fun e => by rw [e] at p1966; simp at p1966)
        refine JQ.val rfl rfl (V.iad Try.underlying30 sz3 rfl e1969 rfl p1965 p1967) ?_
        refine JQ.val (v := .int .i64 x1963) rfl rfl (V.ld rfl (Ld.sc sc3 (Rd.row 1 rfl e1969 p1966 (q := 0) (by simp [Tp.size]) (by decide) (by rintro _ rfl; rfl)))) ?_
        refine JQ.val (v := .int .i64 (IntKind.wrap .i64 (x1963 + 1))) rfl rfl (V.add rfl rfl) ?_
        obtain ⟨x1970, hx1971, h1922⟩ := ob h1922
        obtain ⟨p1972, p1973, p1974⟩ := getI_some hx1971
        obtain ⟨g1975, e1976⟩ := hn1859 (fun e => by rw [e] at p1973; simp at p1973)
        refine JQ.val rfl rfl (V.iad Try.underlying30 sz3 rfl e1976 rfl p1972 p1974) ?_
        refine JQ.nil ?_
        refine J.front 1 rfl ?_
        obtain ⟨z1977, hz1978, h1922⟩ := ob h1922
        have e1979 := Option.some.inj hz1978
        have hl1980 : z1977.length = l1855.length := by rw [← e1979, List.length_set]
        refine J.op rfl (A.storeR (ty := (.int .i64)) (q := 0) (y0 := IntKind.wrap .i64 (x1963 + 1)) (zs := z1977) sz3 rfl rfl rfl rfl e1976 p1973 (by simp [Tp.size]) (by decide) (by rintro _ rfl; exact rfl) e1979) ?_
        rintro _ _ _ ⟨rfl, rfl, rfl⟩
        have hn1981 : z1977 ≠ [] → _ := fun h => hn1859 (fun e => h (List.length_eq_zero_iff.1 (by rw [hl1980]; exact List.length_eq_zero_iff.2 e)))
        refine J.nil ?_
        refine CJ.region ?_
        refine J.val (v := .int .i64 (IntKind.wrap .i64 (i1854 + 1))) rfl rfl (V.add rfl rfl) ?_
        refine J.val (v := .int .i64 (IntKind.wrap .i64 (i1854 + 1))) rfl rfl (V.mv rfl) ?_
        refine J.dropAt 1 rfl ?_
        refine J.front 3 rfl ?_
        refine J.front 3 rfl ?_
        refine J.front 3 rfl ?_
        refine J.nil ?_
        have e := Option.some.inj h1922
        subst e
        exact ⟨rfl, ⟨IntKind.wrap .i64 (i1854 + 1), z1977, ad1856, cp1857, rfl, ⟨rfl, rfl, rfl, rfl, rfl, rfl, rfl, rfl, trivial⟩, rfl, (by rw [hl1980]; first | done | rfl)⟩⟩
      · have h1922 := cf hc1926 h1922
        refine CJ.front 3 rfl ?_
        refine CJ.front 3 rfl ?_
        refine CJ.front 3 rfl ?_
        refine CJ.exit ?_
        have e := Option.some.inj h1922
        subst e
        refine ⟨nofun, fun e => ?_⟩
        subst e
        exact ⟨rfl, ⟨l1855, ad1856, cp1857, rfl, ⟨rfl, rfl, rfl, rfl, rfl, trivial⟩, rfl, rfl⟩⟩
    · rintro ρ _ _ ⟨l1785, ad1786, cp1787, rfl, hf1982, rfl, rfl⟩
      obtain ⟨ρ, rfl⟩ := hf1982.ex
      refine PJ.front 3 rfl ?_
      refine PJ.wit Row.hn (fun hn1789 => ?_)
      refine PJ.done ?_
      refine CJ.seq ?_
      refine CJ.seq ?_
      refine CJ.region ?_
      refine J.val (v := .int .i64 xa) rfl rfl (V.mv rfl) ?_
      refine J.val (v := .int .i64 0) rfl rfl (V.mv rfl) ?_
      refine J.nil ?_
      obtain ⟨o2155, ho2156, h⟩ := ob h
      refine CJ.meetN (fun ρ K' L' => ∃ (l2150 : (List Int)) (ad2151 : Option Addr) (cp2152 : Nat), l2150 = o2155 ∧ Fits [(1, .slice adxb_0 xb.length cpxb_0), (2, .func (.func 31) #[] #[]), (6, .pointer (some ⟨b1423, 0, none⟩)), (7, .pointer (some ⟨nb1502, 0, none⟩))] ρ ∧ K = K' ∧ L' = Cl b1423 48 [.slice none 0 0, .slice none 0 0] :: Cl nb1502 48 [.slice ad2151 l2150.length cp2152, .slice ad1509 l1508.length cp1510] :: Row Hp.nil 3 (.int .i64) (.slice ad1509 l1508.length cp1510) l1508 :: Row Hp.nil 3 (.int .i64) (.slice ad2151 l2150.length cp2152) l2150 :: F) ?_ ?_
      · skip
        refine CJ.block ?_
        refine CJ.front 3 rfl ?_
        refine CJ.front 3 rfl ?_
        refine CJ.front 3 rfl ?_
        refine CJ.loop (fun s ρ K' L' => ∃ (i2211 : Int) (l2212 : (List Int)) (ad2213 : Option Addr) (cp2214 : Nat), (i2211, l2212) = s ∧ Fits [(1, .slice adxb_0 xb.length cpxb_0), (2, .func (.func 31) #[] #[]), (6, .pointer (some ⟨b1423, 0, none⟩)), (7, .pointer (some ⟨nb1502, 0, none⟩)), (39, .int .i64 xa), (40, .int .i64 i2211)] ρ ∧ K = K' ∧ L' = Cl b1423 48 [.slice none 0 0, .slice none 0 0] :: Cl nb1502 48 [.slice ad2213 l2212.length cp2214, .slice ad1509 l1508.length cp1510] :: Row Hp.nil 3 (.int .i64) (.slice ad1509 l1508.length cp1510) l1508 :: Row Hp.nil 3 (.int .i64) (.slice ad2213 l2212.length cp2214) l2212 :: F) ho2156 ⟨0, l1785, ad1786, cp1787, rfl, ⟨rfl, rfl, rfl, rfl, rfl, rfl, trivial⟩, rfl, rfl⟩ ?_
        rintro s ρ _ _ r2274 ⟨i2211, l2212, ad2213, cp2214, rfl, hf2272, rfl, rfl⟩ h2271
        obtain ⟨ρ, rfl⟩ := hf2272.ex
        refine CJ.front 3 rfl ?_
        refine CJ.wit Row.hn (fun hn2216 => ?_)
        refine CJ.seq ?_
        refine CJ.region ?_
        refine J.val (v := .bool (decide (i2211 < xa))) rfl rfl (V.lss rfl rfl) ?_
        refine J.nil ?_
        refine CJ.seq ?_
        refine CJ.cond rfl (fun hc2275 => ?_) (fun hc2275 => ?_)
        · have h2271 := ct hc2275 h2271
          refine CJ.skip ?_
          refine CJ.seq ?_
          refine CJ.block ?_
          refine CJ.seq ?_
          refine CJ.region ?_
          refine J.val (v := .int .i64 i2211) rfl rfl (V.mv rfl) ?_
          refine J.val (v := .int .i64 i2211) rfl rfl (V.as rfl) ?_
          refine J.nil ?_
          refine CJ.mix [Row Hp.nil 3 (.int .i64) (.slice ad2213 l2212.length cp2214) l2212, Cl b1423 48 [.slice none 0 0, .slice none 0 0], Cl nb1502 48 [.slice ad2213 l2212.length cp2214, .slice ad1509 l1508.length cp1510], Row Hp.nil 3 (.int .i64) (.slice ad1509 l1508.length cp1510) l1508] [] [0, 1, 2, 3, 4, 5, 6, 7, 8, 9, 10, 11, 12] [13] mixO (by decide +kernel) ⟨0, rfl, 0, rfl, 0, rfl, 0, rfl, trivial⟩ rfl rfl rfl ?_
          refine JM.nil ?_
          refine JQ.val rfl rfl (V.fad Try.underlying48 rfl nz30 rfl) ?_
          refine JQ.val (v := .slice ad2213 l2212.length cp2214) rfl rfl (V.ld rfl (Ld.sc sc30 (Rd.cl 2 rfl rfl))) ?_
          refine JQ.val (v := .int .i64 i2211) rfl rfl (V.mv rfl) ?_
          refine JQ.val (v := .int .i64 (IntKind.wrap .i64 (i2211 + 1))) rfl rfl (V.add rfl rfl) ?_
          obtain ⟨x2297, hx2298, h2271⟩ := ob h2271
          obtain ⟨p2299, p2300, p2301⟩ := getI_some hx2298
          obtain ⟨g2302, e2303⟩ := hn2216 (fun e => by rw [e] at p2300; simp at p2300)
          refine JQ.val rfl rfl (V.iad Try.underlying30 sz3 rfl e2303 rfl p2299 p2301) ?_
          refine JQ.val (v := .int .i64 x2297) rfl rfl (V.ld rfl (Ld.sc sc3 (Rd.row 0 rfl e2303 p2300 (q := 0) (by simp [Tp.size]) (by decide) (by rintro _ rfl; rfl)))) ?_
          refine JQ.val rfl rfl (V.fad Try.underlying48 rfl nz30 rfl) ?_
          refine JQ.val (v := .slice ad2213 l2212.length cp2214) rfl rfl (V.ld rfl (Ld.sc sc30 (Rd.cl 2 rfl rfl))) ?_
          refine JQ.val (v := .int .i64 i2211) rfl rfl (V.mv rfl) ?_
          obtain ⟨x2304, hx2305, h2271⟩ := ob h2271
          obtain ⟨p2306, p2307, p2308⟩ := getI_some hx2305
          obtain ⟨g2309, e2310⟩ := hn2216 (fun e => by rw [e] at p2307; simp at p2307)
          refine JQ.val rfl rfl (V.iad Try.underlying30 sz3 rfl e2310 rfl p2306 p2308) ?_
          refine JQ.val (v := .int .i64 x2304) rfl rfl (V.ld rfl (Ld.sc sc3 (Rd.row 0 rfl e2310 p2307 (q := 0) (by simp [Tp.size]) (by decide) (by rintro _ rfl; rfl)))) ?_
          refine JQ.val (v := .int .i64 (IntKind.wrap .i64 (x2297 + x2304))) rfl rfl (V.add rfl rfl) ?_
          obtain ⟨x2311, hx2312, h2271⟩ := ob h2271
          obtain ⟨p2313, p2314, p2315⟩ := getI_some hx2312
          obtain ⟨g2316, e2317⟩ := hn2216 (fun e => by rw [e] at p2314; simp at p2314)
          refine JQ.val rfl rfl (V.iad Try.underlying30 sz3 rfl e2317 rfl p2313 p2315) ?_
          refine JQ.nil ?_
          obtain ⟨z2318, hz2319, h2271⟩ := ob h2271
          have e2320 := Option.some.inj hz2319
          have hl2321 : z2318.length = l2212.length := by rw [← e2320, List.length_set]
          refine J.op rfl (A.storeR (ty := (.int .i64)) (q := 0) (y0 := IntKind.wrap .i64 (x2297 + x2304)) (zs := z2318) sz3 rfl rfl rfl rfl e2317 p2314 (by simp [Tp.size]) (by decide) (by rintro _ rfl; exact rfl) e2320) ?_
          rintro _ _ _ ⟨rfl, rfl, rfl⟩
          have hn2322 : z2318 ≠ [] → _ := fun h => hn2216 (fun e => h (List.length_eq_zero_iff.1 (by rw [hl2321]; exact List.length_eq_zero_iff.2 e)))
          refine J.nil ?_
          refine CJ.region ?_
          refine J.val (v := .int .i64 (IntKind.wrap .i64 (i2211 + 1))) rfl rfl (V.add rfl rfl) ?_
          refine J.val (v := .int .i64 (IntKind.wrap .i64 (i2211 + 1))) rfl rfl (V.mv rfl) ?_
          refine J.front 3 rfl ?_
          refine J.front 3 rfl ?_
          refine J.front 3 rfl ?_
          refine J.nil ?_
          have e := Option.some.inj h2271
          subst e
          exact ⟨rfl, ⟨IntKind.wrap .i64 (i2211 + 1), z2318, ad2213, cp2214, rfl, ⟨rfl, rfl, rfl, rfl, rfl, rfl, trivial⟩, rfl, (by rw [hl2321]; first | done | rfl)⟩⟩
        · have h2271 := cf hc2275 h2271
          refine CJ.front 3 rfl ?_
          refine CJ.front 3 rfl ?_
          refine CJ.front 3 rfl ?_
          refine CJ.exit ?_
          have e := Option.some.inj h2271
          subst e
          refine ⟨nofun, fun e => ?_⟩
          subst e
          exact ⟨rfl, ⟨l2212, ad2213, cp2214, rfl, ⟨rfl, rfl, rfl, rfl, trivial⟩, rfl, rfl⟩⟩
      · rintro ρ _ _ ⟨l2150, ad2151, cp2152, rfl, hf2323, rfl, rfl⟩
        obtain ⟨ρ, rfl⟩ := hf2323.ex
        refine PJ.front 3 rfl ?_
        refine PJ.wit Row.hn (fun hn2154 => ?_)
        refine PJ.done ?_
        refine CJ.seq ?_
        refine CJ.region ?_
        refine J.val rfl rfl (V.fad Try.underlying48 rfl nz30 rfl) ?_
        refine J.val (v := .slice ad2151 l2150.length cp2152) rfl rfl (V.ld rfl (Ld.sc sc30 (Rd.cl 2 rfl rfl))) ?_
        refine J.persist (Hp.nil_le _) (by decide) (fun K2325 hK2326 f2327 => ?_)
        obtain ⟨r2328, hr2329, h⟩ := ob h
        refine J.op rfl (A.call (L1 := []) Try.call25 rfl (slices_Clone_int_int_ok f2327 hr2329) rfl rfl) ?_
        rintro _ _ _ ⟨v2334, _, rfl, ⟨⟨l2330, ad2331, cp2332, rfl, rfl, rfl⟩, rfl⟩, _, rfl⟩
        refine J.wit Row.hn (fun hn2333 => ?_)
        refine J.val (v := .slice ad2331 l2330.length cp2332) rfl rfl (V.as rfl) ?_
        refine J.nil ?_
        refine CJ.seq ?_
        refine CJ.seq ?_
        refine CJ.region ?_
        refine J.val (v := .slice adxb_0 xb.length cpxb_0) rfl rfl (V.mv rfl) ?_
        refine J.val (v := .int .i64 (((xb.length : Nat) : Int))) rfl rfl (V.len Try.underlying45 rfl) ?_
        refine J.val (v := .int .i64 0) rfl rfl (V.mv rfl) ?_
        refine J.nil ?_
        obtain ⟨o2587, ho2588, h⟩ := ob h
        refine CJ.meetN (fun ρ K' L' => ∃ (l2582 : (List Int)) (ad2583 : Option Addr) (cp2584 : Nat), l2582 = o2587 ∧ Fits [(6, .pointer (some ⟨b1423, 0, none⟩)), (7, .pointer (some ⟨nb1502, 0, none⟩))] ρ ∧ K2325 = K' ∧ L' = Cl b1423 48 [.slice none 0 0, .slice none 0 0] :: Cl nb1502 48 [.slice ad2151 l2150.length cp2152, .slice ad2583 l2582.length cp2584] :: Row Hp.nil 3 (.int .i64) (.slice ad2583 l2582.length cp2584) l2582 :: F) ?_ ?_
        · skip
          refine CJ.block ?_
          refine CJ.front 3 rfl ?_
          refine CJ.front 1 rfl ?_
          refine CJ.front 3 rfl ?_
          refine CJ.front 3 rfl ?_
          refine CJ.loop (fun s ρ K' L' => ∃ (l2669 : (List Int)) (i2674 : Int) (l2675 : (List Int)) (ad2670 : Option Addr) (cp2671 : Nat) (ad2676 : Option Addr) (cp2677 : Nat), (l2669, i2674, l2675) = s ∧ Fits [(2, .func (.func 31) #[] #[]), (6, .pointer (some ⟨b1423, 0, none⟩)), (7, .pointer (some ⟨nb1502, 0, none⟩)), (11, .slice ad2670 l2669.length cp2671), (60, .slice adxb_0 xb.length cpxb_0), (61, .int .i64 (((xb.length : Nat) : Int))), (62, .int .i64 i2674)] ρ ∧ K2325 = K' ∧ L' = Cl b1423 48 [.slice none 0 0, .slice none 0 0] :: Cl nb1502 48 [.slice ad2151 l2150.length cp2152, .slice ad2676 l2675.length cp2677] :: Row Hp.nil 3 (.int .i64) (.slice ad2670 l2669.length cp2671) l2669 :: Row Hp.nil 3 (.int .i64) (.slice ad2676 l2675.length cp2677) l2675 :: F) ho2588 ⟨l2330, 0, l1508, ad2331, cp2332, ad1509, cp1510, rfl, ⟨rfl, rfl, rfl, rfl, rfl, rfl, rfl, trivial⟩, rfl, rfl⟩ ?_
          rintro s ρ _ _ r2763 ⟨l2669, i2674, l2675, ad2670, cp2671, ad2676, cp2677, rfl, hf2761, rfl, rfl⟩ h2760
          obtain ⟨ρ, rfl⟩ := hf2761.ex
          refine CJ.front 2 rfl ?_
          refine CJ.wit Row.hn (fun hn2673 => ?_)
          refine CJ.front 3 rfl ?_
          refine CJ.wit Row.hn (fun hn2679 => ?_)
          refine CJ.seq ?_
          refine CJ.region ?_
          refine J.val (v := .bool (decide (i2674 < (((xb.length : Nat) : Int))))) rfl rfl (V.lss rfl rfl) ?_
          refine J.nil ?_
          refine CJ.seq ?_
          refine CJ.cond rfl (fun hc2764 => ?_) (fun hc2764 => ?_)
          · have h2760 := ct hc2764 h2760
            refine CJ.skip ?_
            refine CJ.seq ?_
            refine CJ.block ?_
            refine CJ.seq ?_
            refine CJ.region ?_
            refine J.val (v := .int .i64 i2674) rfl rfl (V.mv rfl) ?_
            obtain ⟨x2765, hx2766, h2760⟩ := ob h2760
            obtain ⟨p2767, p2768, p2769⟩ := getI_some hx2766
            obtain ⟨b2770, o2771, e2772, a2773⟩ := ((fxb_0.mono hK2326)).at p2768
            refine J.val rfl rfl (V.iad Try.underlying45 sz34 rfl e2772 rfl p2767 p2769) ?_
            refine J.val (v := .agg #[.int .i64 x2765.1, .int .i64 x2765.2]) rfl rfl (V.ld rfl (Ld.aggK (cs := [.int .i64 x2765.1, .int .i64 x2765.2]) Try.underlying34 sz34 rfl ⟨((a2773).fst).int, (((a2773).snd).one).int, trivial⟩ (Hp.le_refl _))) ?_
            refine J.op rfl (A.alloc (cs := [.int .i64 0, .int .i64 0]) inf34 rfl) ?_
            rintro _ _ _ ⟨b2774, rfl, rfl, rfl⟩
            refine J.val (v := .int .i64 i2674) rfl rfl (V.as rfl) ?_
            refine J.op rfl (A.store (v := .agg #[.int .i64 x2765.1, .int .i64 x2765.2]) (cs' := [.int .i64 x2765.1, .int .i64 x2765.2]) sz34 rfl rfl rfl rfl rfl rfl) ?_
            rintro _ _ _ ⟨rfl, rfl, rfl⟩
            refine J.nil ?_
            refine CJ.seq ?_
            refine CJ.region ?_
            refine J.val (v := .func (.func 31) #[] #[]) rfl rfl (V.mv rfl) ?_
            refine J.val (v := .agg #[.int .i64 x2765.1, .int .i64 x2765.2]) rfl rfl (V.ld rfl (Ld.agg (cs := [.int .i64 x2765.1, .int .i64 x2765.2]) Try.underlying34 sz34 rfl (Rd.cls 0 0 rfl rfl))) ?_
            obtain ⟨r2775, hr2776, h2760⟩ := ob h2760
            refine J.op rfl (A.call (L1 := []) Try.call31 rfl (graph_New_2_ok hr2776) rfl rfl) ?_
            rintro _ _ _ ⟨v2778, _, rfl, ⟨⟨i2777, rfl, rfl, rfl⟩, rfl⟩, _, rfl⟩
            refine J.val (v := .int .i64 i2777) rfl rfl (V.as rfl) ?_
            refine J.nil ?_
            refine CJ.seq ?_
            refine CJ.mix [Cl b2774 34 [.int .i64 x2765.1, .int .i64 x2765.2], Row Hp.nil 3 (.int .i64) (.slice ad2676 l2675.length cp2677) l2675, Row Hp.nil 3 (.int .i64) (.slice ad2670 l2669.length cp2671) l2669, Cl b1423 48 [.slice none 0 0, .slice none 0 0], Cl nb1502 48 [.slice ad2151 l2150.length cp2152, .slice ad2676 l2675.length cp2677]] [] [0, 1, 2, 3, 4, 5, 6, 7] [8] mixO (by decide +kernel) ⟨0, rfl, 0, rfl, 0, rfl, 0, rfl, 0, rfl, trivial⟩ rfl rfl rfl ?_
            refine JM.nil ?_
            refine JQ.val rfl rfl (V.fad Try.underlying48 rfl nz30 rfl) ?_
            refine JQ.val (v := .slice ad2676 l2675.length cp2677) rfl rfl (V.ld rfl (Ld.sc sc30 (Rd.cl 4 rfl rfl))) ?_
            refine JQ.val (v := .slice ad2670 l2669.length cp2671) rfl rfl (V.mv rfl) ?_
            refine JQ.val (v := .int .i64 i2777) rfl rfl (V.mv rfl) ?_
            obtain ⟨x2795, hx2796, h2760⟩ := ob h2760
            obtain ⟨p2797, p2798, p2799⟩ := getI_some hx2796
            obtain ⟨g2800, e2801⟩ := hn2673 (fun e => by rw [e] at p2798; simp at p2798)
            refine JQ.val rfl rfl (V.iad Try.underlying30 sz3 rfl e2801 rfl p2797 p2799) ?_
            refine JQ.val (v := .int .i64 x2795) rfl rfl (V.ld rfl (Ld.sc sc3 (Rd.row 2 rfl e2801 p2798 (q := 0) (by simp [Tp.size]) (by decide) (by rintro _ rfl; rfl)))) ?_
            refine JQ.val (v := .int .i64 i2674) rfl rfl (V.mv rfl) ?_
            obtain ⟨x2802, hx2803, h2760⟩ := ob h2760
            obtain ⟨p2804, p2805, p2806⟩ := getI_some hx2803
            obtain ⟨g2807, e2808⟩ := hn2679 (fun e => by rw [e] at p2805; simp at p2805)
            refine JQ.val rfl rfl (V.iad Try.underlying30 sz3 rfl e2808 rfl p2804 p2806) ?_
            refine JQ.nil ?_
            refine J.front 1 rfl ?_
            obtain ⟨z2809, hz2810, h2760⟩ := ob h2760
            have e2811 := Option.some.inj hz2810
            have hl2812 : z2809.length = l2675.length := by rw [← e2811, List.length_set]
            refine J.op rfl (A.storeR (ty := (.int .i64)) (q := 0) (y0 := i2674) (zs := z2809) sz3 rfl rfl rfl rfl e2808 p2805 (by simp [Tp.size]) (by decide) (by rintro _ rfl; exact rfl) e2811) ?_
            rintro _ _ _ ⟨rfl, rfl, rfl⟩
            have hn2813 : z2809 ≠ [] → _ := fun h => hn2679 (fun e => h (List.length_eq_zero_iff.1 (by rw [hl2812]; exact List.length_eq_zero_iff.2 e)))
            refine J.nil ?_
            refine CJ.region ?_
            refine J.val (v := .slice ad2670 l2669.length cp2671) rfl rfl (V.mv rfl) ?_
            refine J.val (v := .int .i64 i2777) rfl rfl (V.mv rfl) ?_
            obtain ⟨x2814, hx2815, h2760⟩ := ob h2760
            obtain ⟨p2816, p2817, p2818⟩ := getI_some hx2815
            obtain ⟨g2819, e2820⟩ := hn2673 (fun e => by rw [e] at p2817; simp at p2817)
            refine J.val rfl rfl (V.iad Try.underlying30 sz3 rfl e2820 rfl p2816 p2818) ?_
            refine J.val (v := .int .i64 x2814) rfl rfl (V.ld rfl (Ld.sc sc3 (Rd.row 2 rfl e2820 p2817 (q := 0) (by simp [Tp.size]) (by decide) (by rintro _ rfl; rfl)))) ?_
            refine J.val (v := .int .i64 (IntKind.wrap .i64 (x2814 + 1))) rfl rfl (V.add rfl rfl) ?_
            obtain ⟨x2821, hx2822, h2760⟩ := ob h2760
            obtain ⟨p2823, p2824, p2825⟩ := getI_some hx2822
            obtain ⟨g2826, e2827⟩ := hn2673 (fun e => by rw [e] at p2824; simp at p2824)
            refine J.val rfl rfl (V.iad Try.underlying30 sz3 rfl e2827 rfl p2823 p2825) ?_
            refine J.front 2 rfl ?_
            obtain ⟨z2828, hz2829, h2760⟩ := ob h2760
            have e2830 := Option.some.inj hz2829
            have hl2831 : z2828.length = l2669.length := by rw [← e2830, List.length_set]
            refine J.op rfl (A.storeR (ty := (.int .i64)) (q := 0) (y0 := IntKind.wrap .i64 (x2814 + 1)) (zs := z2828) sz3 rfl rfl rfl rfl e2827 p2824 (by simp [Tp.size]) (by decide) (by rintro _ rfl; exact rfl) e2830) ?_
            rintro _ _ _ ⟨rfl, rfl, rfl⟩
            have hn2832 : z2828 ≠ [] → _ := fun h => hn2673 (fun e => h (List.length_eq_zero_iff.1 (by rw [hl2831]; exact List.length_eq_zero_iff.2 e)))
            refine J.nil ?_
            refine CJ.region ?_
            refine J.val (v := .int .i64 (IntKind.wrap .i64 (i2674 + 1))) rfl rfl (V.add rfl rfl) ?_
            refine J.val (v := .int .i64 (IntKind.wrap .i64 (i2674 + 1))) rfl rfl (V.mv rfl) ?_
            refine J.dropAt 2 rfl ?_
            refine J.front 1 rfl ?_
            refine J.front 1 rfl ?_
            refine J.front 3 rfl ?_
            refine J.front 3 rfl ?_
            refine J.nil ?_
            have e := Option.some.inj h2760
            subst e
            exact ⟨rfl, ⟨z2828, IntKind.wrap .i64 (i2674 + 1), z2809, ad2670, cp2671, ad2676, cp2677, rfl, ⟨rfl, rfl, rfl, (by rw [hl2831]; rfl), rfl, rfl, rfl, trivial⟩, rfl, (by rw [hl2812, hl2831]; first | done | rfl)⟩⟩
          · have h2760 := cf hc2764 h2760
            refine CJ.dropAt 1 rfl ?_
            refine CJ.front 2 rfl ?_
            refine CJ.front 2 rfl ?_
            refine CJ.exit ?_
            have e := Option.some.inj h2760
            subst e
            refine ⟨nofun, fun e => ?_⟩
            subst e
            exact ⟨rfl, ⟨l2675, ad2676, cp2677, rfl, ⟨rfl, rfl, trivial⟩, rfl, rfl⟩⟩
        · rintro ρ _ _ ⟨l2582, ad2583, cp2584, rfl, hf2833, rfl, rfl⟩
          obtain ⟨ρ, rfl⟩ := hf2833.ex
          refine PJ.front 2 rfl ?_
          refine PJ.wit Row.hn (fun hn2586 => ?_)
          refine PJ.done ?_
          refine CJ.seq ?_
          refine CJ.region ?_
          refine J.val (v := .agg #[.slice ad2151 l2150.length cp2152, .slice ad2583 l2582.length cp2584]) rfl rfl (V.ld rfl (Ld.agg (cs := [.slice ad2151 l2150.length cp2152, .slice ad2583 l2582.length cp2584]) Try.underlying48 sz48 rfl (Rd.cls 2 0 rfl rfl))) ?_
          refine J.front 1 rfl ?_
          refine J.op rfl (A.store (v := .agg #[.slice ad2151 l2150.length cp2152, .slice ad2583 l2582.length cp2584]) (cs' := [.slice ad2151 l2150.length cp2152, .slice ad2583 l2582.length cp2584]) sz48 rfl rfl rfl rfl rfl rfl) ?_
          rintro _ _ _ ⟨rfl, rfl, rfl⟩
          refine J.nil ?_
          refine CJ.ret ?_
          have e := Option.some.inj h
          subst e
          exact ⟨_, [Row Hp.nil 3 (.int .i64) (.slice ad2583 l2582.length cp2584) l2582], Res.one rfl ⟨_, _, rfl, Ld.agg (cs := [.slice ad2151 l2150.length cp2152, .slice ad2583 l2582.length cp2584]) Try.underlying48 sz48 rfl (Rd.cls 0 0 rfl rfl)⟩, ⟨l2150, l2582, ad2151, cp2152, ad2583, cp2584, rfl, rfl, f2327, rfl⟩, hK2326, fun w hs => (Sep.dropAt 1 rfl (Sep.dropAt 0 rfl hs))⟩
noncomputable def fn_graph_New_l1 (xa : Int) (xb : (List (Int × Int))) : Int → Option (Int ⊕ (Unit ⊕ ((Option (Int × (List (Int × Int)) × ((List Int) × (List Int)) × ((List Int) × (List Int)))) × Int))) := fun (i306 : Int) => cond (decide (i306 < (((xb.length : Nat) : Int)))) ((getI xb i306).bind fun x334 => cond ((((decide (x334.1 < 0)) || (decide (xa ≤ x334.1))) || (decide (x334.2 < 0))) || (decide (xa ≤ x334.2))) (some (.inr ((.inr ((none, 7)))))) (some (.inl (IntKind.wrap .i64 (i306 + 1))))) (some (.inr ((.inl ()))))
noncomputable def fn_graph_New (xa : Int) (xb : (List (Int × Int))) : Option (((Option (Int × (List (Int × Int)) × ((List Int) × (List Int)) × ((List Int) × (List Int)))) × Int)) :=
  cond (decide (xa < 0)) (some ((none, 2))) (cond ((decide (1048576 < xa)) || (decide (67108864 < (((xb.length : Nat) : Int))))) (some ((none, 5))) ((loop (fn_graph_New_l1 xa xb) 0 : Option (Unit ⊕ ((Option (Int × (List (Int × Int)) × ((List Int) × (List Int)) × ((List Int) × (List Int)))) × Int))).bind fun o => match o with | .inr r => some r | .inl () => (fn_slices_Clone_graph_Arc_graph_Arc xb).bind fun l359 => (fn_graph_indexed_ik_graph_New_1 xa l359).bind fun (l373, l374) => (fn_graph_indexed_ik_graph_New_2 xa l359).bind fun (l387, l388) => some (((some ((xa, l359, (l373, l374), (l387, l388)))), 0))))
set_option maxRecDepth 100000 in
set_option maxHeartbeats 4000000 in
theorem graph_New_ok {K : Hp} {xa : Int} {xb : (List (Int × Int))} {adxb_0 : Option Addr} {cpxb_0 : Nat} (fxb_0 : Is K (.sl (.cons (.int .i64) (.one (.int .i64)))) [.slice adxb_0 xb.length cpxb_0] xb) {r : ((Option (Int × (List (Int × Int)) × ((List Int) × (List Int)) × ((List Int) × (List Int)))) × Int)} (h : fn_graph_New xa xb = some r) :
    Tr Try.prog 23 #[.int .i64 xa, .slice adxb_0 xb.length cpxb_0] K [] (fun v K' L' => (∃ (p203 : (Option (Int × (List (Int × Int)) × ((List Int) × (List Int)) × ((List Int) × (List Int))))) (i206 : Int) (v204 : Value), (p203, i206) = r ∧ .tuple #[v204, .int .i64 i206] = v ∧ Is K' (.ptr (.cons (.int .i64) (.cons (.sl (.cons (.int .i64) (.one (.int .i64)))) (.cons (.cons (.sl (.int .i64)) (.one (.sl (.int .i64)))) (.one (.cons (.sl (.int .i64)) (.one (.sl (.int .i64))))))))) [v204] p203 ∧ L' = [])) := by
  refine Tr.of Try.func23 rfl Try.ntmps23 rfl (fun E F => ?_)
  unfold fn_graph_New at h
  refine CJ.seq ?_
  refine CJ.region ?_
  refine J.val (v := .pointer none) rfl rfl (V.as rfl) ?_
  refine J.val (v := .int .i64 0) rfl rfl (V.as rfl) ?_
  refine J.nil ?_
  refine CJ.seq ?_
  refine CJ.seq ?_
  refine CJ.region ?_
  refine J.val (v := .int .i64 xa) rfl rfl (V.mv rfl) ?_
  refine J.val (v := .bool (decide (xa < 0))) rfl rfl (V.lss rfl rfl) ?_
  refine J.nil ?_
  refine CJ.cond rfl (fun hc207 => ?_) (fun hc207 => ?_)
  · have h := ct hc207 h
    refine CJ.seq ?_
    refine CJ.region ?_
    refine J.val (v := .pointer none) rfl rfl (V.as rfl) ?_
    refine J.val (v := .int .i64 2) rfl rfl (V.as rfl) ?_
    refine J.nil ?_
    refine CJ.ret ?_
    have e := Option.some.inj h
    subst e
    exact ⟨_, [], Res.two rfl rfl rfl, ⟨none, 2, .pointer none, rfl, rfl, Is.ptr_nil, rfl⟩, (Hp.le_refl _), fun w hs => hs⟩
  · have h := cf hc207 h
    refine CJ.skip ?_
    refine CJ.seq ?_
    refine CJ.seq ?_
    refine CJ.region ?_
    refine J.val (v := .int .i64 xa) rfl rfl (V.mv rfl) ?_
    refine J.val (v := .bool (decide (1048576 < xa))) rfl rfl (V.gtr rfl rfl) ?_
    refine J.val (v := .bool (decide (1048576 < xa))) rfl rfl (V.mv rfl) ?_
    refine J.cut 4 ?_
    refine @J.meet _ _ _ _ _ _ _ _ _ _ (fun ρ K' L' => Fits [(17, .bool ((decide (1048576 < xa)) || (decide (67108864 < (((xb.length : Nat) : Int)))))), (0, .int .i64 xa), (1, .slice adxb_0 xb.length cpxb_0)] ρ ∧ K = K' ∧ F = L') ?_ ?_
    · skip
      rcases bt (decide (1048576 < xa)) with hc210 | hc210
      · skip
        refine J.skip rfl rfl rfl rfl hc210 ?_
        refine J.skip rfl rfl rfl rfl hc210 ?_
        refine J.skip rfl rfl rfl rfl hc210 ?_
        refine J.val (v := .bool true) rfl rfl (V.pickT rfl hc210 rfl) ?_
        refine J.nil ?_
        exact ⟨rfl, ⟨(by simp only [hc210]; rfl), rfl, rfl, trivial⟩, rfl, rfl⟩
      · skip
        refine J.run rfl rfl rfl hc210 ?_
        refine J.val (v := .slice adxb_0 xb.length cpxb_0) rfl rfl (V.mv rfl) ?_
        refine J.run rfl rfl rfl hc210 ?_
        refine J.val (v := .int .i64 (((xb.length : Nat) : Int))) rfl rfl (V.len Try.underlying45 rfl) ?_
        refine J.run rfl rfl rfl hc210 ?_
        refine J.val (v := .bool (decide (67108864 < (((xb.length : Nat) : Int))))) rfl rfl (V.gtr rfl rfl) ?_
        refine J.val (v := .bool (decide (67108864 < (((xb.length : Nat) : Int))))) rfl rfl (V.pickF rfl hc210 rfl) ?_
        refine J.nil ?_
        exact ⟨rfl, ⟨(by simp only [hc210]; rfl), rfl, rfl, trivial⟩, rfl, rfl⟩
    · rintro ρ _ _ ⟨hf, rfl, rfl⟩
      obtain ⟨ρ, rfl⟩ := hf.ex
      refine J.nil ?_
      refine CJ.cond rfl (fun hc211 => ?_) (fun hc211 => ?_)
      · have h := ct hc211 h
        refine CJ.seq ?_
        refine CJ.region ?_
        refine J.val (v := .pointer none) rfl rfl (V.as rfl) ?_
        refine J.val (v := .int .i64 5) rfl rfl (V.as rfl) ?_
        refine J.nil ?_
        refine CJ.ret ?_
        have e := Option.some.inj h
        subst e
        exact ⟨_, [], Res.two rfl rfl rfl, ⟨none, 5, .pointer none, rfl, rfl, Is.ptr_nil, rfl⟩, (Hp.le_refl _), fun w hs => hs⟩
      · have h := cf hc211 h
        refine CJ.skip ?_
        refine CJ.seq ?_
        refine CJ.seq ?_
        refine CJ.region ?_
        refine J.val (v := .slice adxb_0 xb.length cpxb_0) rfl rfl (V.mv rfl) ?_
        refine J.val (v := .int .i64 (((xb.length : Nat) : Int))) rfl rfl (V.len Try.underlying45 rfl) ?_
        refine J.val (v := .int .i64 0) rfl rfl (V.mv rfl) ?_
        refine J.nil ?_
        obtain ⟨o282, ho283, h⟩ := ob h
        refine CJ.joinN (o := o282) (fun s ρ K' L' => () = s ∧ Fits [(0, .int .i64 xa), (1, .slice adxb_0 xb.length cpxb_0)] ρ ∧ K = K' ∧ F = L') ?_ ?_
        · skip
          refine CJ.block ?_
          refine CJ.loop (fun s ρ K' L' => ∃ (i306 : Int), i306 = s ∧ Fits [(0, .int .i64 xa), (1, .slice adxb_0 xb.length cpxb_0), (18, .slice adxb_0 xb.length cpxb_0), (19, .int .i64 (((xb.length : Nat) : Int))), (20, .int .i64 i306)] ρ ∧ K = K' ∧ F = L') ho283 ⟨0, rfl, ⟨rfl, rfl, rfl, rfl, rfl, trivial⟩, rfl, rfl⟩ ?_
          rintro s ρ _ _ r332 ⟨i306, rfl, hf330, rfl, rfl⟩ h329
          obtain ⟨ρ, rfl⟩ := hf330.ex
          refine CJ.seq ?_
          refine CJ.region ?_
          refine J.val (v := .bool (decide (i306 < (((xb.length : Nat) : Int))))) rfl rfl (V.lss rfl rfl) ?_
          refine J.nil ?_
          refine CJ.seq ?_
          refine CJ.cond rfl (fun hc333 => ?_) (fun hc333 => ?_)
          · have h329 := ct hc333 h329
            refine CJ.skip ?_
            refine CJ.seq ?_
            refine CJ.block ?_
            refine CJ.seq ?_
            refine CJ.region ?_
            obtain ⟨x334, hx335, h329⟩ := ob h329
            obtain ⟨p336, p337, p338⟩ := getI_some hx335
            obtain ⟨b339, o340, e341, a342⟩ := (fxb_0).at p337
            refine J.val rfl rfl (V.iad Try.underlying45 sz34 rfl e341 rfl p336 p338) ?_
            refine J.val (v := .agg #[.int .i64 x334.1, .int .i64 x334.2]) rfl rfl (V.ld rfl (Ld.aggK (cs := [.int .i64 x334.1, .int .i64 x334.2]) Try.underlying34 sz34 rfl ⟨((a342).fst).int, (((a342).snd).one).int, trivial⟩ (Hp.le_refl _))) ?_
            refine J.op rfl (A.alloc (cs := [.int .i64 0, .int .i64 0]) inf34 rfl) ?_
            rintro _ _ _ ⟨b343, rfl, rfl, rfl⟩
            refine J.op rfl (A.store (v := .agg #[.int .i64 x334.1, .int .i64 x334.2]) (cs' := [.int .i64 x334.1, .int .i64 x334.2]) sz34 rfl rfl rfl rfl rfl rfl) ?_
            rintro _ _ _ ⟨rfl, rfl, rfl⟩
            refine J.nil ?_
            refine CJ.seq ?_
            refine CJ.region ?_
            refine J.val rfl rfl (V.fad Try.underlying34 rfl nz3 rfl) ?_
            refine J.val (v := .int .i64 x334.1) rfl rfl (V.ld rfl (Ld.sc sc3 (Rd.cl 0 rfl rfl))) ?_
            refine J.val (v := .bool (decide (x334.1 < 0))) rfl rfl (V.lss rfl rfl) ?_
            refine J.val (v := .bool (decide (x334.1 < 0))) rfl rfl (V.mv rfl) ?_
            refine J.cut 5 ?_
            refine @J.meet _ _ _ _ _ _ _ _ _ _ (fun ρ K' L' => Fits [(32, .bool ((decide (x334.1 < 0)) || (decide (xa ≤ x334.1)))), (0, .int .i64 xa), (1, .slice adxb_0 xb.length cpxb_0), (7, .pointer (some ⟨b343, 0, none⟩)), (18, .slice adxb_0 xb.length cpxb_0), (19, .int .i64 (((xb.length : Nat) : Int))), (20, .int .i64 i306)] ρ ∧ K = K' ∧ L' = Cl b343 34 [.int .i64 x334.1, .int .i64 x334.2] :: F) ?_ ?_
            · skip
              rcases bt (decide (x334.1 < 0)) with hc346 | hc346
              · skip
                refine J.skip rfl rfl rfl rfl hc346 ?_
                refine J.skip rfl rfl rfl rfl hc346 ?_
                refine J.skip rfl rfl rfl rfl hc346 ?_
                refine J.skip rfl rfl rfl rfl hc346 ?_
                refine J.val (v := .bool true) rfl rfl (V.pickT rfl hc346 rfl) ?_
                refine J.nil ?_
                exact ⟨rfl, ⟨(by simp only [hc346]; rfl), rfl, rfl, rfl, rfl, rfl, rfl, trivial⟩, rfl, rfl⟩
              · skip
                refine J.run rfl rfl rfl hc346 ?_
                refine J.val rfl rfl (V.fad Try.underlying34 rfl nz3 rfl) ?_
                refine J.run rfl rfl rfl hc346 ?_
                refine J.val (v := .int .i64 x334.1) rfl rfl (V.ld rfl (Ld.sc sc3 (Rd.cl 0 rfl rfl))) ?_
                refine J.run rfl rfl rfl hc346 ?_
                refine J.val (v := .int .i64 xa) rfl rfl (V.mv rfl) ?_
                refine J.run rfl rfl rfl hc346 ?_
                refine J.val (v := .bool (decide (xa ≤ x334.1))) rfl rfl (V.geq rfl rfl) ?_
                refine J.val (v := .bool (decide (xa ≤ x334.1))) rfl rfl (V.pickF rfl hc346 rfl) ?_
                refine J.nil ?_
                exact ⟨rfl, ⟨(by simp only [hc346]; rfl), rfl, rfl, rfl, rfl, rfl, rfl, trivial⟩, rfl, rfl⟩
            · rintro ρ _ _ ⟨hf, rfl, rfl⟩
              obtain ⟨ρ, rfl⟩ := hf.ex
              refine J.val (v := .bool ((decide (x334.1 < 0)) || (decide (xa ≤ x334.1)))) rfl rfl (V.mv rfl) ?_
              refine J.cut 4 ?_
              refine @J.meet _ _ _ _ _ _ _ _ _ _ (fun ρ K' L' => Fits [(37, .bool (((decide (x334.1 < 0)) || (decide (xa ≤ x334.1))) || (decide (x334.2 < 0)))), (0, .int .i64 xa), (1, .slice adxb_0 xb.length cpxb_0), (7, .pointer (some ⟨b343, 0, none⟩)), (18, .slice adxb_0 xb.length cpxb_0), (19, .int .i64 (((xb.length : Nat) : Int))), (20, .int .i64 i306)] ρ ∧ K = K' ∧ L' = Cl b343 34 [.int .i64 x334.1, .int .i64 x334.2] :: F) ?_ ?_
              · skip
                rcases bt ((decide (x334.1 < 0)) || (decide (xa ≤ x334.1))) with hc349 | hc349
                · skip
                  refine J.skip rfl rfl rfl rfl hc349 ?_
                  refine J.skip rfl rfl rfl rfl hc349 ?_
                  refine J.skip rfl rfl rfl rfl hc349 ?_
                  refine J.val (v := .bool true) rfl rfl (V.pickT rfl hc349 rfl) ?_
                  refine J.nil ?_
                  exact ⟨rfl, ⟨(by simp only [hc349]; rfl), rfl, rfl, rfl, rfl, rfl, rfl, trivial⟩, rfl, rfl⟩
                · skip
                  refine J.run rfl rfl rfl hc349 ?_
                  refine J.val rfl rfl (V.fad Try.underlying34 rfl nz3 rfl) ?_
                  refine J.run rfl rfl rfl hc349 ?_
                  refine J.val (v := .int .i64 x334.2) rfl rfl (V.ld rfl (Ld.sc sc3 (Rd.cl 0 rfl rfl))) ?_
                  refine J.run rfl rfl rfl hc349 ?_
                  refine J.val (v := .bool (decide (x334.2 < 0))) rfl rfl (V.lss rfl rfl) ?_
                  refine J.val (v := .bool (decide (x334.2 < 0))) rfl rfl (V.pickF rfl hc349 rfl) ?_
                  refine J.nil ?_
                  exact ⟨rfl, ⟨(by simp only [hc349]; rfl), rfl, rfl, rfl, rfl, rfl, rfl, trivial⟩, rfl, rfl⟩
              · rintro ρ _ _ ⟨hf, rfl, rfl⟩
                obtain ⟨ρ, rfl⟩ := hf.ex
                refine J.val (v := .bool (((decide (x334.1 < 0)) || (decide (xa ≤ x334.1))) || (decide (x334.2 < 0)))) rfl rfl (V.mv rfl) ?_
                refine J.cut 5 ?_
                refine @J.meet _ _ _ _ _ _ _ _ _ _ (fun ρ K' L' => Fits [(43, .bool ((((decide (x334.1 < 0)) || (decide (xa ≤ x334.1))) || (decide (x334.2 < 0))) || (decide (xa ≤ x334.2)))), (0, .int .i64 xa), (1, .slice adxb_0 xb.length cpxb_0), (18, .slice adxb_0 xb.length cpxb_0), (19, .int .i64 (((xb.length : Nat) : Int))), (20, .int .i64 i306)] ρ ∧ K = K' ∧ L' = Cl b343 34 [.int .i64 x334.1, .int .i64 x334.2] :: F) ?_ ?_
                · skip
                  rcases bt (((decide (x334.1 < 0)) || (decide (xa ≤ x334.1))) || (decide (x334.2 < 0))) with hc352 | hc352
                  · skip
                    refine J.skip rfl rfl rfl rfl hc352 ?_
                    refine J.skip rfl rfl rfl rfl hc352 ?_
                    refine J.skip rfl rfl rfl rfl hc352 ?_
                    refine J.skip rfl rfl rfl rfl hc352 ?_
                    refine J.val (v := .bool true) rfl rfl (V.pickT rfl hc352 rfl) ?_
                    refine J.nil ?_
                    exact ⟨rfl, ⟨(by simp only [hc352]; rfl), rfl, rfl, rfl, rfl, rfl, trivial⟩, rfl, rfl⟩
                  · skip
                    refine J.run rfl rfl rfl hc352 ?_
                    refine J.val rfl rfl (V.fad Try.underlying34 rfl nz3 rfl) ?_
                    refine J.run rfl rfl rfl hc352 ?_
                    refine J.val (v := .int .i64 x334.2) rfl rfl (V.ld rfl (Ld.sc sc3 (Rd.cl 0 rfl rfl))) ?_
                    refine J.run rfl rfl rfl hc352 ?_
                    refine J.val (v := .int .i64 xa) rfl rfl (V.mv rfl) ?_
                    refine J.run rfl rfl rfl hc352 ?_
                    refine J.val (v := .bool (decide (xa ≤ x334.2))) rfl rfl (V.geq rfl rfl) ?_
                    refine J.val (v := .bool (decide (xa ≤ x334.2))) rfl rfl (V.pickF rfl hc352 rfl) ?_
                    refine J.nil ?_
                    exact ⟨rfl, ⟨(by simp only [hc352]; rfl), rfl, rfl, rfl, rfl, rfl, trivial⟩, rfl, rfl⟩
                · rintro ρ _ _ ⟨hf, rfl, rfl⟩
                  obtain ⟨ρ, rfl⟩ := hf.ex
                  refine J.nil ?_
                  refine CJ.cond rfl (fun hc353 => ?_) (fun hc353 => ?_)
                  · have h329 := ct hc353 h329
                    refine CJ.seq ?_
                    refine CJ.region ?_
                    refine J.val (v := .pointer none) rfl rfl (V.as rfl) ?_
                    refine J.val (v := .int .i64 7) rfl rfl (V.as rfl) ?_
                    refine J.nil ?_
                    refine CJ.ret ?_
                    have e := Option.some.inj h329
                    subst e
                    refine ⟨nofun, fun e => ?_⟩
                    subst e
                    refine .inr ⟨nofun, ?_⟩
                    have e := Option.some.inj h
                    subst e
                    exact ⟨_, [], Res.two rfl rfl rfl, ⟨none, 7, .pointer none, rfl, rfl, Is.ptr_nil, rfl⟩, (Hp.le_refl _), fun w hs => (Sep.dropAt 0 rfl hs)⟩
                  · have h329 := cf hc353 h329
                    refine CJ.skip ?_
                    refine CJ.region ?_
                    refine J.val (v := .int .i64 (IntKind.wrap .i64 (i306 + 1))) rfl rfl (V.add rfl rfl) ?_
                    refine J.val (v := .int .i64 (IntKind.wrap .i64 (i306 + 1))) rfl rfl (V.mv rfl) ?_
                    refine J.dropAt 0 rfl ?_
                    refine J.nil ?_
                    have e := Option.some.inj h329
                    subst e
                    exact ⟨rfl, ⟨IntKind.wrap .i64 (i306 + 1), rfl, ⟨rfl, rfl, rfl, rfl, rfl, trivial⟩, rfl, rfl⟩⟩
          · have h329 := cf hc333 h329
            refine CJ.exit ?_
            have e := Option.some.inj h329
            subst e
            refine ⟨nofun, fun e => ?_⟩
            subst e
            exact .inl ⟨rfl, _, rfl, ⟨rfl, ⟨rfl, rfl, trivial⟩, rfl, rfl⟩⟩
        · rintro s ρ _ _ ho354 ⟨rfl, hf355, rfl, rfl⟩
          subst ho354
          obtain ⟨ρ, rfl⟩ := hf355.ex
          refine PJ.done ?_
          refine CJ.seq ?_
          refine CJ.region ?_
          refine J.val (v := .int .i64 xa) rfl rfl (V.mv rfl) ?_
          refine J.val (v := .slice adxb_0 xb.length cpxb_0) rfl rfl (V.mv rfl) ?_
          obtain ⟨r357, hr358, h⟩ := ob h
          refine J.op rfl (A.call (L1 := []) Try.call28 rfl (slices_Clone_graph_Arc_graph_Arc_ok fxb_0 hr358) rfl rfl) ?_
          rintro _ _ _ ⟨v363, _, rfl, ⟨⟨l359, ad360, cp361, rfl, rfl, rfl⟩, rfl⟩, _, rfl⟩
          refine J.wit Row.hn (fun hn362 => ?_)
          refine J.val (v := .agg #[.int .i64 xa, .slice ad360 l359.length cp361, .slice none 0 0, .slice none 0 0, .slice none 0 0, .slice none 0 0]) rfl rfl (V.build inf50 places50 rfl rfl) ?_
          refine J.op rfl (A.box (v := .agg #[.int .i64 xa, .slice ad360 l359.length cp361, .slice none 0 0, .slice none 0 0, .slice none 0 0, .slice none 0 0]) (cs := [.int .i64 xa, .slice ad360 l359.length cp361, .slice none 0 0, .slice none 0 0, .slice none 0 0, .slice none 0 0]) rfl rfl) ?_
          rintro _ _ _ ⟨b367, rfl, rfl, rfl⟩
          refine J.val rfl rfl (V.as rfl) ?_
          refine J.nil ?_
          refine CJ.seq ?_
          refine CJ.region ?_
          refine J.val rfl rfl (V.mv rfl) ?_
          refine J.val (v := .int .i64 xa) rfl rfl (V.mv rfl) ?_
          refine J.val rfl rfl (V.mv rfl) ?_
          refine J.val rfl rfl (V.nck rfl) ?_
          refine J.val rfl rfl (V.fad Try.underlying50 rfl nz45 rfl) ?_
          refine J.val (v := .slice ad360 l359.length cp361) rfl rfl (V.ld rfl (Ld.sc sc45 (Rd.cl 0 rfl rfl))) ?_
          refine J.front 1 rfl ?_
          refine J.persist (Hp.nil_le _) (by decide) (fun K368 hK369 f370 => ?_)
          obtain ⟨r371, hr372, h⟩ := ob h
          refine J.op rfl (A.call (L1 := []) Try.call29 rfl (graph_indexed_ik_graph_New_1_ok f370 hr372) rfl rfl) ?_
          rintro _ K382 _ ⟨v381, _, rfl, ⟨l373, l374, ad375, cp376, ad377, cp378, rfl, rfl, f379, rfl⟩, hK383, rfl⟩
          refine J.wit Row.hn (fun hn380 => ?_)
          refine J.val rfl rfl (V.nck rfl) ?_
          refine J.val rfl rfl (V.fad Try.underlying50 rfl nz48 rfl) ?_
          refine J.front 1 rfl ?_
          refine J.op rfl (A.store (v := .agg #[.slice ad375 l373.length cp376, .slice ad377 l374.length cp378]) (cs' := [.int .i64 xa, .slice ad360 l359.length cp361, .slice ad375 l373.length cp376, .slice ad377 l374.length cp378, .slice none 0 0, .slice none 0 0]) sz48 rfl rfl rfl rfl rfl rfl) ?_
          rintro _ _ _ ⟨rfl, rfl, rfl⟩
          refine J.nil ?_
          refine CJ.seq ?_
          refine CJ.region ?_
          refine J.val rfl rfl (V.mv rfl) ?_
          refine J.val (v := .int .i64 xa) rfl rfl (V.mv rfl) ?_
          refine J.val rfl rfl (V.mv rfl) ?_
          refine J.val rfl rfl (V.nck rfl) ?_
          refine J.val rfl rfl (V.fad Try.underlying50 rfl nz45 rfl) ?_
          refine J.val (v := .slice ad360 l359.length cp361) rfl rfl (V.ld rfl (Ld.sc sc45 (Rd.cl 0 rfl rfl))) ?_
          obtain ⟨r385, hr386, h⟩ := ob h
          refine J.op rfl (A.call (L1 := []) Try.call29 rfl (graph_indexed_ik_graph_New_2_ok (f370.mono hK383) hr386) rfl rfl) ?_
          rintro _ K396 _ ⟨v395, _, rfl, ⟨l387, l388, ad389, cp390, ad391, cp392, rfl, rfl, f393, rfl⟩, hK397, rfl⟩
          refine J.wit Row.hn (fun hn394 => ?_)
          refine J.val rfl rfl (V.nck rfl) ?_
          refine J.val rfl rfl (V.fad Try.underlying50 rfl nz48 rfl) ?_
          refine J.front 1 rfl ?_
          refine J.op rfl (A.store (v := .agg #[.slice ad389 l387.length cp390, .slice ad391 l388.length cp392]) (cs' := [.int .i64 xa, .slice ad360 l359.length cp361, .slice ad375 l373.length cp376, .slice ad377 l374.length cp378, .slice ad389 l387.length cp390, .slice ad391 l388.length cp392]) sz48 rfl rfl rfl rfl rfl rfl) ?_
          rintro _ _ _ ⟨rfl, rfl, rfl⟩
          refine J.nil ?_
          refine CJ.seq ?_
          refine CJ.region ?_
          refine J.val rfl rfl (V.mv rfl) ?_
          refine J.val rfl rfl (V.as rfl) ?_
          refine J.val (v := .int .i64 0) rfl rfl (V.as rfl) ?_
          refine J.nil ?_
          refine CJ.front 2 rfl ?_
          refine CJ.persist (Hp.nil_le _) (by decide) (fun K399 hK400 f401 => ?_)
          refine CJ.front 1 rfl ?_
          refine CJ.persist (Hp.nil_le _) (by decide) (fun K402 hK403 f404 => ?_)
          refine CJ.persistAt (t := (.cons (.int .i64) (.cons (.sl (.cons (.int .i64) (.one (.int .i64)))) (.cons (.cons (.sl (.int .i64)) (.one (.sl (.int .i64)))) (.one (.cons (.sl (.int .i64)) (.one (.sl (.int .i64))))))))) (x := (xa, l359, (l373, l374), (l387, l388))) ⟨_, _, rfl, rfl, rfl, ⟨_, _, rfl, rfl, (f370.mono (((hK383.trans hK397).trans hK400).trans hK403)), ⟨_, _, rfl, rfl, ⟨_, _, rfl, rfl, (f379.mono ((hK397.trans hK400).trans hK403)), (f401.mono hK403)⟩, ⟨_, _, rfl, rfl, (f393.mono (hK400.trans hK403)), f404⟩⟩⟩⟩ (fun K405 hK406 a407 => ?_)
          refine CJ.ret ?_
          have e := Option.some.inj h
          subst e
          exact ⟨_, [], Res.two rfl rfl rfl, ⟨(some ((xa, l359, (l373, l374), (l387, l388)))), 0, .pointer (some ⟨b367, 0, none⟩), rfl, rfl, (At.is_ptr a407), rfl⟩, (((((hK369.trans hK383).trans hK397).trans hK400).trans hK403).trans hK406), fun w hs => hs⟩
noncomputable def fn_law10_Of_l1 (xb : (List (Int × Int))) : ((List (Int × Int)) × Int) → Option (((List (Int × Int)) × Int) ⊕ (List (Int × Int))) := fun ((l603, i608) : ((List (Int × Int)) × Int)) => cond (decide (i608 < (((xb.length : Nat) : Int)))) ((getI xb i608).bind fun x690 => (getI xb i608).bind fun x699 => (app l603 (([(x690.1, x699.2)] : List (Int × Int)))).bind fun z711 => some (.inl ((z711, IntKind.wrap .i64 (i608 + 1))))) (some (.inr (l603)))
noncomputable def fn_law10_Of (xa : Int) (xb : (List (Int × Int))) : Option (((Option (Int × (List (Int × Int)) × ((List Int) × (List Int)) × ((List Int) × (List Int)))) × Int)) :=
  (loop (fn_law10_Of_l1 xb) ((([] : List (Int × Int)), 0))).bind fun l541 => (fn_graph_New xa l541).bind fun (p724, i725) => some ((p724, i725))
set_option maxRecDepth 100000 in
set_option maxHeartbeats 4000000 in
theorem law10_Of_ok {K : Hp} {xa : Int} {xb : (List (Int × Int))} {adxb_0 : Option Addr} {cpxb_0 : Nat} (fxb_0 : Is K (.sl (.cons (.int .i64) (.one (.int .i64)))) [.slice adxb_0 xb.length cpxb_0] xb) {r : ((Option (Int × (List (Int × Int)) × ((List Int) × (List Int)) × ((List Int) × (List Int)))) × Int)} (h : fn_law10_Of xa xb = some r) :
    Tr Try.prog 7 #[.int .i64 xa, .slice adxb_0 xb.length cpxb_0] K [] (fun v K' L' => (∃ (p365 : (Option (Int × (List (Int × Int)) × ((List Int) × (List Int)) × ((List Int) × (List Int))))) (i368 : Int) (v366 : Value), (p365, i368) = r ∧ .tuple #[v366, .int .i64 i368] = v ∧ Is K' (.ptr (.cons (.int .i64) (.cons (.sl (.cons (.int .i64) (.one (.int .i64)))) (.cons (.cons (.sl (.int .i64)) (.one (.sl (.int .i64)))) (.one (.cons (.sl (.int .i64)) (.one (.sl (.int .i64))))))))) [v366] p365 ∧ L' = [])) := by
  refine Tr.of Try.func7 rfl Try.ntmps7 rfl (fun E F => ?_)
  unfold fn_law10_Of at h
  refine CJ.seq ?_
  refine CJ.region ?_
  refine J.val (v := .pointer none) rfl rfl (V.as rfl) ?_
  refine J.val (v := .int .i64 0) rfl rfl (V.as rfl) ?_
  refine J.nil ?_
  refine CJ.seq ?_
  refine CJ.region ?_
  refine J.op rfl (A.lit (K0 := Hp.nil) (ty := (.cons (.int .i64) (.one (.int .i64)))) (xs := ([] : List (Int × Int))) Try.underlying45 inf34 rfl (by decide) rfl rfl rfl rfl rfl (by decide)) ?_
  rintro _ _ _ ⟨b369, rfl, rfl, rfl⟩
  have hn370 : ([] : List (Int × Int)) ≠ [] → ∃ g, (some ⟨b369, 0, none⟩ : Option Addr) = some ⟨g, 0, none⟩ := fun _ => ⟨b369, rfl⟩
  refine J.val (v := .slice (some ⟨b369, 0, none⟩) ((([] : List (Int × Int))).length) 0) rfl rfl (V.as rfl) ?_
  refine J.nil ?_
  refine CJ.seq ?_
  refine CJ.seq ?_
  refine CJ.region ?_
  refine J.val (v := .int .i64 0) rfl rfl (V.as rfl) ?_
  refine J.nil ?_
  obtain ⟨o546, ho547, h⟩ := ob h
  refine CJ.meetN (fun ρ K' L' => ∃ (l541 : (List (Int × Int))) (ad542 : Option Addr) (cp543 : Nat), l541 = o546 ∧ Fits [(0, .int .i64 xa), (6, .slice ad542 l541.length cp543)] ρ ∧ K = K' ∧ L' = Row Hp.nil 34 (.cons (.int .i64) (.one (.int .i64))) (.slice ad542 l541.length cp543) l541 :: F) ?_ ?_
  · skip
    refine CJ.block ?_
    refine CJ.loop (fun s ρ K' L' => ∃ (l603 : (List (Int × Int))) (i608 : Int) (ad604 : Option Addr) (cp605 : Nat), (l603, i608) = s ∧ Fits [(0, .int .i64 xa), (1, .slice adxb_0 xb.length cpxb_0), (6, .slice ad604 l603.length cp605), (7, .int .i64 i608)] ρ ∧ K = K' ∧ L' = Row Hp.nil 34 (.cons (.int .i64) (.one (.int .i64))) (.slice ad604 l603.length cp605) l603 :: F) ho547 ⟨([] : List (Int × Int)), 0, (some ⟨b369, 0, none⟩), 0, rfl, ⟨rfl, rfl, rfl, rfl, trivial⟩, rfl, rfl⟩ ?_
    rintro s ρ _ _ r667 ⟨l603, i608, ad604, cp605, rfl, hf665, rfl, rfl⟩ h664
    obtain ⟨ρ, rfl⟩ := hf665.ex
    refine CJ.wit Row.hn (fun hn607 => ?_)
    refine CJ.seq ?_
    refine CJ.seq ?_
    refine CJ.region ?_
    refine J.val (v := .int .i64 i608) rfl rfl (V.mv rfl) ?_
    refine J.val (v := .slice adxb_0 xb.length cpxb_0) rfl rfl (V.mv rfl) ?_
    refine J.val (v := .int .i64 (((xb.length : Nat) : Int))) rfl rfl (V.len Try.underlying22 rfl) ?_
    refine J.val (v := .bool (decide (i608 < (((xb.length : Nat) : Int))))) rfl rfl (V.lss rfl rfl) ?_
    refine J.nil ?_
    refine CJ.cond rfl (fun hc668 => ?_) (fun hc668 => ?_)
    · have h664 := ct hc668 h664
      refine CJ.skip ?_
      refine CJ.seq ?_
      refine CJ.block ?_
      refine CJ.mix [Row Hp.nil 34 (.cons (.int .i64) (.one (.int .i64))) (.slice ad604 l603.length cp605) l603] [([0, 1, 2, 3, 4, 5, 6, 7, 8, 9, 10, 11], 12)] [] [13, 14] mixO (by decide +kernel) ⟨0, rfl, trivial⟩ rfl rfl rfl ?_
      refine JM.cons ?_
      refine JQ.val (v := .slice ad604 l603.length cp605) rfl rfl (V.mv rfl) ?_
      refine JQ.val (v := .slice adxb_0 xb.length cpxb_0) rfl rfl (V.mv rfl) ?_
      refine JQ.val (v := .int .i64 i608) rfl rfl (V.mv rfl) ?_
      obtain ⟨x690, hx691, h664⟩ := ob h664
      obtain ⟨p692, p693, p694⟩ := getI_some hx691
      obtain ⟨b695, o696, e697, a698⟩ := (fxb_0).at p693
      refine JQ.val rfl rfl (V.iad Try.underlying22 sz37 rfl e697 rfl p692 p694) ?_
      refine JQ.val rfl rfl (V.fad Try.underlying37 rfl nz3 rfl) ?_
      refine JQ.val (v := .int .i64 x690.1) rfl rfl (V.ld rfl (Ld.sc sc3 (Rd.k ((a698).fst).int (Hp.le_refl _)))) ?_
      refine JQ.val (v := .slice adxb_0 xb.length cpxb_0) rfl rfl (V.mv rfl) ?_
      refine JQ.val (v := .int .i64 i608) rfl rfl (V.mv rfl) ?_
      obtain ⟨x699, hx700, h664⟩ := ob h664
      obtain ⟨p701, p702, p703⟩ := getI_some hx700
      obtain ⟨b704, o705, e706, a707⟩ := (fxb_0).at p702
      refine JQ.val rfl rfl (V.iad Try.underlying22 sz37 rfl e706 rfl p701 p703) ?_
      refine JQ.val rfl rfl (V.fad Try.underlying37 rfl nz3 rfl) ?_
      refine JQ.val (v := .int .i64 x699.2) rfl rfl (V.ld rfl (Ld.sc sc3 (Rd.k (((a707).snd).one).int (Hp.le_refl _)))) ?_
      refine JQ.val (v := .agg #[.int .i64 x690.1, .int .i64 x699.2]) rfl rfl (V.build inf34 places34 rfl rfl) ?_
      refine JQ.nil ?_
      refine JA.op rfl (A.lit (K0 := Hp.nil) (ty := (.cons (.int .i64) (.one (.int .i64)))) (xs := ([(x690.1, x699.2)] : List (Int × Int))) Try.underlying45 inf34 rfl (by decide) rfl rfl rfl ⟨_, _, rfl, ⟨_, _, rfl, rfl, rfl, rfl⟩, rfl⟩ rfl (by decide)) ?_
      rintro _ _ _ ⟨b708, rfl, rfl, rfl⟩
      have hn709 : ([(x690.1, x699.2)] : List (Int × Int)) ≠ [] → ∃ g, (some ⟨b708, 0, none⟩ : Option Addr) = some ⟨g, 0, none⟩ := fun _ => ⟨b708, rfl⟩
      refine ⟨fun w hs => Hold.sub (Hp.le_refl _) ⟨1, rfl, trivial⟩ hs, ?_⟩
      refine JM.nil ?_
      refine JQ.nil ?_
      obtain ⟨z711, hz712, h664⟩ := ob h664
      refine J.front 1 rfl ?_
      refine J.op rfl (A.appR (Kr := Hp.nil) Try.underlying45 inf34 rfl rfl (by decide) (by decide) rfl rfl (Els.flat rfl) (Els.flat rfl) hz712) ?_
      rintro _ _ _ ⟨v713, rfl, rfl, rfl⟩
      refine J.wit Row.form ?_
      rintro ⟨ad714, cp715, rfl, _, _, hn716⟩
      refine J.val (v := .slice ad714 z711.length cp715) rfl rfl (V.as rfl) ?_
      refine J.nil ?_
      refine CJ.region ?_
      refine J.val (v := .int .i64 i608) rfl rfl (V.mv rfl) ?_
      refine J.val (v := .int .i64 (IntKind.wrap .i64 (i608 + 1))) rfl rfl (V.add rfl rfl) ?_
      refine J.val (v := .int .i64 (IntKind.wrap .i64 (i608 + 1))) rfl rfl (V.as rfl) ?_
      refine J.nil ?_
      have e := Option.some.inj h664
      subst e
      exact ⟨rfl, ⟨z711, IntKind.wrap .i64 (i608 + 1), ad714, cp715, rfl, ⟨rfl, rfl, rfl, rfl, trivial⟩, rfl, rfl⟩⟩
    · have h664 := cf hc668 h664
      refine CJ.exit ?_
      have e := Option.some.inj h664
      subst e
      refine ⟨nofun, fun e => ?_⟩
      subst e
      exact ⟨rfl, ⟨l603, ad604, cp605, rfl, ⟨rfl, rfl, trivial⟩, rfl, rfl⟩⟩
  · rintro ρ _ _ ⟨l541, ad542, cp543, rfl, hf717, rfl, rfl⟩
    obtain ⟨ρ, rfl⟩ := hf717.ex
    refine PJ.wit Row.hn (fun hn545 => ?_)
    refine PJ.done ?_
    refine CJ.seq ?_
    refine CJ.region ?_
    refine J.val (v := .int .i64 xa) rfl rfl (V.mv rfl) ?_
    refine J.val (v := .slice ad542 l541.length cp543) rfl rfl (V.mv rfl) ?_
    refine J.persist (Hp.nil_le _) (by decide) (fun K719 hK720 f721 => ?_)
    obtain ⟨r722, hr723, h⟩ := ob h
    refine J.op rfl (A.call (L1 := []) Try.call23 rfl (graph_New_ok f721 hr723) rfl rfl) ?_
    rintro _ K729 _ ⟨v728, _, rfl, ⟨p724, i725, v726, rfl, rfl, f727, rfl⟩, hK730, rfl⟩
    refine J.val (v := v726) rfl rfl (V.ext rfl rfl) ?_
    refine J.val (v := .int .i64 i725) rfl rfl (V.ext rfl rfl) ?_
    refine J.val (v := v726) rfl rfl (V.as rfl) ?_
    refine J.val (v := .int .i64 i725) rfl rfl (V.as rfl) ?_
    refine J.nil ?_
    refine CJ.ret ?_
    have e := Option.some.inj h
    subst e
    exact ⟨_, [], Res.two rfl rfl rfl, ⟨p724, i725, v726, rfl, rfl, f727, rfl⟩, (hK720.trans hK730), fun w hs => hs⟩

noncomputable def fn_graph_Graph_Nodes (xa : (Option (Int × (List (Int × Int)) × ((List Int) × (List Int)) × ((List Int) × (List Int))))) : Option Int :=
  cond (xa.isNone) (some (0)) ((xa : Option (Int × (List (Int × Int)) × ((List Int) × (List Int)) × ((List Int) × (List Int)))).bind fun y11 => some (y11.1))
set_option maxRecDepth 100000 in
set_option maxHeartbeats 4000000 in
theorem graph_Graph_Nodes_ok {K : Hp} {xa : (Option (Int × (List (Int × Int)) × ((List Int) × (List Int)) × ((List Int) × (List Int))))} {vxa_0 : Value} (fxa_0 : Is K (.ptr (.cons (.int .i64) (.cons (.sl (.cons (.int .i64) (.one (.int .i64)))) (.cons (.cons (.sl (.int .i64)) (.one (.sl (.int .i64)))) (.one (.cons (.sl (.int .i64)) (.one (.sl (.int .i64))))))))) [vxa_0] xa) {r : Int} (h : fn_graph_Graph_Nodes xa = some r) :
    Tr Try.prog 9 #[vxa_0] K [] (fun v K' L' => (∃ (i9 : Int), i9 = r ∧ .int .i64 i9 = v ∧ L' = []) ∧ K = K') := by
  refine Tr.k ?_
  refine Tr.of Try.func9 rfl Try.ntmps9 rfl (fun E F => ?_)
  unfold fn_graph_Graph_Nodes at h
  refine CJ.seq ?_
  refine CJ.region ?_
  refine J.val (v := .int .i64 0) rfl rfl (V.as rfl) ?_
  refine J.nil ?_
  refine CJ.seq ?_
  refine CJ.seq ?_
  refine CJ.region ?_
  refine J.val (v := vxa_0) rfl rfl (V.mv rfl) ?_
  refine J.val (v := .bool xa.isNone) rfl rfl (V.kp_eql Try.underlying24 fxa_0 rfl rfl) ?_
  refine J.nil ?_
  refine CJ.cond rfl (fun hc10 => ?_) (fun hc10 => ?_)
  · have h := ct hc10 h
    refine CJ.seq ?_
    refine CJ.region ?_
    refine J.val (v := .int .i64 0) rfl rfl (V.as rfl) ?_
    refine J.nil ?_
    refine CJ.ret ?_
    have e := Option.some.inj h
    subst e
    exact ⟨_, [], Res.one rfl rfl, ⟨0, rfl, rfl, rfl⟩, (Hp.le_refl _), fun w hs => hs⟩
  · have h := cf hc10 h
    refine CJ.skip ?_
    refine CJ.seq ?_
    refine CJ.region ?_
    refine J.val (v := vxa_0) rfl rfl (V.mv rfl) ?_
    obtain ⟨y11, hy12, h⟩ := ob h
    obtain ⟨b13, o14, hv15, a16⟩ := Is.psome fxa_0 hy12
    refine J.val rfl rfl (V.nck hv15) ?_
    refine J.val rfl rfl (V.fad Try.underlying50 rfl nz3 rfl) ?_
    refine J.val (v := .int .i64 y11.1) rfl rfl (V.ld rfl (Ld.sc sc3 (Rd.k ((a16).fst).int (Hp.le_refl _)))) ?_
    refine J.val (v := .int .i64 y11.1) rfl rfl (V.as rfl) ?_
    refine J.nil ?_
    refine CJ.ret ?_
    have e := Option.some.inj h
    subst e
    exact ⟨_, [], Res.one rfl rfl, ⟨y11.1, rfl, rfl, rfl⟩, (Hp.le_refl _), fun w hs => hs⟩

noncomputable def fn_graph_Graph_isNode (xa : (Option (Int × (List (Int × Int)) × ((List Int) × (List Int)) × ((List Int) × (List Int))))) (xb : Int) : Option Bool :=
  (cond (decide (0 ≤ xb)) ((fn_graph_Graph_Nodes xa).bind fun i30 => some (decide (xb < i30))) (some (false))).bind fun t25 => some (t25)
set_option maxRecDepth 100000 in
set_option maxHeartbeats 4000000 in
theorem graph_Graph_isNode_ok {K : Hp} {xa : (Option (Int × (List (Int × Int)) × ((List Int) × (List Int)) × ((List Int) × (List Int))))} {xb : Int} {vxa_0 : Value} (fxa_0 : Is K (.ptr (.cons (.int .i64) (.cons (.sl (.cons (.int .i64) (.one (.int .i64)))) (.cons (.cons (.sl (.int .i64)) (.one (.sl (.int .i64)))) (.one (.cons (.sl (.int .i64)) (.one (.sl (.int .i64))))))))) [vxa_0] xa) {r : Bool} (h : fn_graph_Graph_isNode xa xb = some r) :
    Tr Try.prog 24 #[vxa_0, .int .i64 xb] K [] (fun v K' L' => (∃ (t17 : Bool), t17 = r ∧ .bool t17 = v ∧ L' = []) ∧ K = K') := by
  refine Tr.k ?_
  refine Tr.of Try.func24 rfl Try.ntmps24 rfl (fun E F => ?_)
  unfold fn_graph_Graph_isNode at h
  refine CJ.seq ?_
  refine CJ.region ?_
  refine J.val (v := .bool false) rfl rfl (V.as rfl) ?_
  refine J.nil ?_
  refine CJ.seq ?_
  refine CJ.region ?_
  refine J.val (v := .int .i64 xb) rfl rfl (V.mv rfl) ?_
  refine J.val (v := .bool (decide (0 ≤ xb))) rfl rfl (V.geq rfl rfl) ?_
  refine J.val (v := .bool (decide (0 ≤ xb))) rfl rfl (V.mv rfl) ?_
  refine J.cut 5 ?_
  obtain ⟨t25, ht26, h⟩ := ob h
  refine @J.meet _ _ _ _ _ _ _ _ _ _ (fun ρ K' L' => Fits [(12, .bool t25)] ρ ∧ K = K' ∧ F = L') ?_ ?_
  · skip
    rcases bt (decide (0 ≤ xb)) with hc27 | hc27
    · have ht26 := ct hc27 ht26
      refine J.run rfl rfl rfl hc27 ?_
      refine J.val (v := .int .i64 xb) rfl rfl (V.mv rfl) ?_
      refine J.run rfl rfl rfl hc27 ?_
      refine J.val (v := vxa_0) rfl rfl (V.mv rfl) ?_
      refine J.run rfl rfl rfl hc27 ?_
      obtain ⟨r28, hr29, ht26⟩ := ob ht26
      refine J.op rfl (A.call (L1 := []) Try.call9 rfl (graph_Graph_Nodes_ok fxa_0 hr29) rfl rfl) ?_
      rintro _ _ _ ⟨v31, _, rfl, ⟨⟨i30, rfl, rfl, rfl⟩, rfl⟩, _, rfl⟩
      refine J.run rfl rfl rfl hc27 ?_
      refine J.val (v := .bool (decide (xb < i30))) rfl rfl (V.lss rfl rfl) ?_
      refine J.val (v := .bool (decide (xb < i30))) rfl rfl (V.pickT rfl hc27 rfl) ?_
      refine J.nil ?_
      have e := Option.some.inj ht26
      subst e
      exact ⟨rfl, ⟨rfl, trivial⟩, rfl, rfl⟩
    · have ht26 := cf hc27 ht26
      refine J.skip rfl rfl rfl rfl hc27 ?_
      refine J.skip rfl rfl rfl rfl hc27 ?_
      refine J.skip rfl rfl rfl rfl hc27 ?_
      refine J.skip rfl rfl rfl rfl hc27 ?_
      refine J.val (v := .bool false) rfl rfl (V.pickF rfl hc27 rfl) ?_
      refine J.nil ?_
      have e := Option.some.inj ht26
      subst e
      exact ⟨rfl, ⟨rfl, trivial⟩, rfl, rfl⟩
  · rintro ρ _ _ ⟨hf, rfl, rfl⟩
    obtain ⟨ρ, rfl⟩ := hf.ex
    refine J.val (v := .bool t25) rfl rfl (V.as rfl) ?_
    refine J.nil ?_
    refine CJ.ret ?_
    have e := Option.some.inj h
    subst e
    exact ⟨_, [], Res.one rfl rfl, ⟨t25, rfl, rfl, rfl⟩, (Hp.le_refl _), fun w hs => hs⟩

noncomputable def fn_graph_index_of (xa : ((List Int) × (List Int))) (xb : Int) : Option (List Int) :=
  (getI xa.1 xb).bind fun x79 => (getI xa.1 (IntKind.wrap .i64 (xb + 1))).bind fun x88 => (subL xa.2 x79 x88).bind fun y97 => some (y97)
set_option maxRecDepth 100000 in
set_option maxHeartbeats 4000000 in
theorem graph_index_of_ok {K : Hp} {xa : ((List Int) × (List Int))} {xb : Int} {adxa_0 : Option Addr} {cpxa_0 : Nat} {adxa_1 : Option Addr} {cpxa_1 : Nat} (fxa_0 : Is K (.sl (.int .i64)) [.slice adxa_0 xa.1.length cpxa_0] xa.1) (fxa_1 : Is K (.sl (.int .i64)) [.slice adxa_1 xa.2.length cpxa_1] xa.2) {r : (List Int)} (h : fn_graph_index_of xa xb = some r) :
    Tr Try.prog 26 #[.agg #[.slice adxa_0 xa.1.length cpxa_0, .slice adxa_1 xa.2.length cpxa_1], .int .i64 xb] K [] (fun v K' L' => (∃ (l50 : (List Int)) (ad51 : Option Addr) (cp52 : Nat), l50 = r ∧ .slice ad51 l50.length cp52 = v ∧ Is K' (.sl (.int .i64)) [.slice ad51 l50.length cp52] l50 ∧ L' = [])) := by
  refine Tr.of Try.func26 rfl Try.ntmps26 rfl (fun E F => ?_)
  unfold fn_graph_index_of at h
  refine CJ.seq ?_
  refine CJ.region ?_
  refine J.op rfl (A.box (v := .agg #[.slice adxa_0 xa.1.length cpxa_0, .slice adxa_1 xa.2.length cpxa_1]) (cs := [.slice adxa_0 xa.1.length cpxa_0, .slice adxa_1 xa.2.length cpxa_1]) rfl rfl) ?_
  rintro _ _ _ ⟨b54, rfl, rfl, rfl⟩
  refine J.val (v := .slice none 0 0) rfl rfl (V.as rfl) ?_
  refine J.nil ?_
  refine CJ.seq ?_
  refine CJ.mix [Cl b54 48 [.slice adxa_0 xa.1.length cpxa_0, .slice adxa_1 xa.2.length cpxa_1]] [] [0, 1, 2, 3, 4, 5, 6, 7, 8, 9, 10, 11, 12, 13, 14] [] mixO (by decide +kernel) ⟨0, rfl, trivial⟩ rfl rfl rfl ?_
  refine JM.nil ?_
  refine JQ.val rfl rfl (V.fad Try.underlying48 rfl nz30 rfl) ?_
  refine JQ.val (v := .slice adxa_1 xa.2.length cpxa_1) rfl rfl (V.ld rfl (Ld.sc sc30 (Rd.cl 0 rfl rfl))) ?_
  refine JQ.val rfl rfl (V.fad Try.underlying48 rfl nz30 rfl) ?_
  refine JQ.val (v := .slice adxa_0 xa.1.length cpxa_0) rfl rfl (V.ld rfl (Ld.sc sc30 (Rd.cl 0 rfl rfl))) ?_
  refine JQ.val (v := .int .i64 xb) rfl rfl (V.mv rfl) ?_
  obtain ⟨x79, hx80, h⟩ := ob h
  obtain ⟨p81, p82, p83⟩ := getI_some hx80
  obtain ⟨b84, o85, e86, a87⟩ := (fxa_0).at p82
  refine JQ.val rfl rfl (V.iad Try.underlying30 sz3 rfl e86 rfl p81 p83) ?_
  refine JQ.val (v := .int .i64 x79) rfl rfl (V.ld rfl (Ld.sc sc3 (Rd.k (a87).int (Hp.le_refl _)))) ?_
  refine JQ.val rfl rfl (V.fad Try.underlying48 rfl nz30 rfl) ?_
  refine JQ.val (v := .slice adxa_0 xa.1.length cpxa_0) rfl rfl (V.ld rfl (Ld.sc sc30 (Rd.cl 0 rfl rfl))) ?_
  refine JQ.val (v := .int .i64 xb) rfl rfl (V.mv rfl) ?_
  refine JQ.val (v := .int .i64 (IntKind.wrap .i64 (xb + 1))) rfl rfl (V.add rfl rfl) ?_
  obtain ⟨x88, hx89, h⟩ := ob h
  obtain ⟨p90, p91, p92⟩ := getI_some hx89
  obtain ⟨b93, o94, e95, a96⟩ := (fxa_0).at p91
  refine JQ.val rfl rfl (V.iad Try.underlying30 sz3 rfl e95 rfl p90 p92) ?_
  refine JQ.val (v := .int .i64 x88) rfl rfl (V.ld rfl (Ld.sc sc3 (Rd.k (a96).int (Hp.le_refl _)))) ?_
  obtain ⟨y97, hy98, h⟩ := ob h
  obtain ⟨ad99, cp100, hv101, f102⟩ := V.subI (tp := (.int .i64)) Try.underlying30 sz3 fxa_1 hy98
  refine JQ.val (v := .slice ad99 y97.length cp100) rfl rfl (hv101 rfl (fun _ h => by cases h; exact ⟨_, rfl⟩) nofun (fun _ h => by cases h; exact ⟨_, rfl⟩) nofun) ?_
  refine JQ.val (v := .slice ad99 y97.length cp100) rfl rfl (V.as rfl) ?_
  refine JQ.nil ?_
  refine J.nil ?_
  refine CJ.ret ?_
  have e := Option.some.inj h
  subst e
  exact ⟨_, [], Res.one rfl rfl, ⟨y97, ad99, cp100, rfl, rfl, f102, rfl⟩, (Hp.le_refl _), fun w hs => (Sep.dropAt 0 rfl hs)⟩

noncomputable def fn_graph_Graph_Out (xa : (Option (Int × (List (Int × Int)) × ((List Int) × (List Int)) × ((List Int) × (List Int))))) (xb : Int) : Option (List Int) :=
  (fn_graph_Graph_isNode xa xb).bind fun t48 => cond (!t48) (some ([])) ((xa : Option (Int × (List (Int × Int)) × ((List Int) × (List Int)) × ((List Int) × (List Int)))).bind fun y54 => (fn_graph_index_of (y54.2.2.1.1, y54.2.2.1.2) xb).bind fun l70 => (fn_slices_Clone_int_int l70).bind fun l79 => some (l79))
set_option maxRecDepth 100000 in
set_option maxHeartbeats 4000000 in
theorem graph_Graph_Out_ok {K : Hp} {xa : (Option (Int × (List (Int × Int)) × ((List Int) × (List Int)) × ((List Int) × (List Int))))} {xb : Int} {vxa_0 : Value} (fxa_0 : Is K (.ptr (.cons (.int .i64) (.cons (.sl (.cons (.int .i64) (.one (.int .i64)))) (.cons (.cons (.sl (.int .i64)) (.one (.sl (.int .i64)))) (.one (.cons (.sl (.int .i64)) (.one (.sl (.int .i64))))))))) [vxa_0] xa) {r : (List Int)} (h : fn_graph_Graph_Out xa xb = some r) :
    Tr Try.prog 11 #[vxa_0, .int .i64 xb] K [] (fun v K' L' => (∃ (l41 : (List Int)) (ad42 : Option Addr) (cp43 : Nat), l41 = r ∧ .slice ad42 l41.length cp43 = v ∧ L' = [Row Hp.nil 3 (.int .i64) (.slice ad42 l41.length cp43) l41]) ∧ K = K') := by
  refine Tr.k ?_
  refine Tr.of Try.func11 rfl Try.ntmps11 rfl (fun E F => ?_)
  unfold fn_graph_Graph_Out at h
  refine CJ.seq ?_
  refine CJ.region ?_
  refine J.val (v := .slice none 0 0) rfl rfl (V.as rfl) ?_
  refine J.nil ?_
  refine CJ.seq ?_
  refine CJ.seq ?_
  refine CJ.region ?_
  refine J.val (v := vxa_0) rfl rfl (V.mv rfl) ?_
  refine J.val (v := .int .i64 xb) rfl rfl (V.mv rfl) ?_
  obtain ⟨r46, hr47, h⟩ := ob h
  refine J.op rfl (A.call (L1 := []) Try.call24 rfl (graph_Graph_isNode_ok fxa_0 hr47) rfl rfl) ?_
  rintro _ _ _ ⟨v49, _, rfl, ⟨⟨t48, rfl, rfl, rfl⟩, rfl⟩, _, rfl⟩
  refine J.val (v := .bool (!t48)) rfl rfl (V.not rfl) ?_
  refine J.nil ?_
  refine CJ.cond rfl (fun hc52 => ?_) (fun hc52 => ?_)
  · have h := ct hc52 h
    refine CJ.seq ?_
    refine CJ.region ?_
    refine J.val (v := .slice none 0 0) rfl rfl (V.as rfl) ?_
    refine J.nil ?_
    refine CJ.by (fun w hs => Sep.rowNil (e := 3) (t := (.int .i64)) hs) ?_
    refine CJ.ret ?_
    have e := Option.some.inj h
    subst e
    exact ⟨_, [Row Hp.nil 3 (.int .i64) (.slice none (([] : List Int).length) 0) ([] : List Int)], Res.one rfl rfl, ⟨[], none, 0, rfl, rfl, rfl⟩, (Hp.le_refl _), fun w hs => hs⟩
  · have h := cf hc52 h
    refine CJ.skip ?_
    refine CJ.seq ?_
    refine CJ.region ?_
    refine J.val (v := vxa_0) rfl rfl (V.mv rfl) ?_
    obtain ⟨y54, hy55, h⟩ := ob h
    obtain ⟨b56, o57, hv58, a59⟩ := Is.psome fxa_0 hy55
    refine J.val rfl rfl (V.nck hv58) ?_
    refine J.val rfl rfl (V.fad Try.underlying50 rfl nz48 rfl) ?_
    obtain ⟨ad60, cp61, c62, f63⟩ := (((((a59).snd).snd).fst).fst).sl
    obtain ⟨ad64, cp65, c66, f67⟩ := ((((((a59).snd).snd).fst).snd).one).sl
    refine J.val (v := .agg #[.slice ad60 y54.2.2.1.1.length cp61, .slice ad64 y54.2.2.1.2.length cp65]) rfl rfl (V.ld rfl (Ld.aggK (cs := [.slice ad60 y54.2.2.1.1.length cp61, .slice ad64 y54.2.2.1.2.length cp65]) Try.underlying48 sz48 rfl ⟨c62, c66, trivial⟩ (Hp.le_refl _))) ?_
    refine J.val (v := .int .i64 xb) rfl rfl (V.mv rfl) ?_
    obtain ⟨r68, hr69, h⟩ := ob h
    refine J.op rfl (A.call (L1 := []) Try.call26 rfl (graph_index_of_ok f63 f67 hr69) rfl rfl) ?_
    rintro _ K75 _ ⟨v74, _, rfl, ⟨l70, ad71, cp72, rfl, rfl, f73, rfl⟩, hK76, rfl⟩
    obtain ⟨r77, hr78, h⟩ := ob h
    refine J.op rfl (A.call (L1 := []) Try.call25 rfl (slices_Clone_int_int_ok f73 hr78) rfl rfl) ?_
    rintro _ _ _ ⟨v83, _, rfl, ⟨⟨l79, ad80, cp81, rfl, rfl, rfl⟩, rfl⟩, _, rfl⟩
    refine J.wit Row.hn (fun hn82 => ?_)
    refine J.val (v := .slice ad80 l79.length cp81) rfl rfl (V.as rfl) ?_
    refine J.nil ?_
    refine CJ.ret ?_
    have e := Option.some.inj h
    subst e
    exact ⟨_, [Row Hp.nil 3 (.int .i64) (.slice ad80 l79.length cp81) l79], Res.one rfl rfl, ⟨l79, ad80, cp81, rfl, rfl, rfl⟩, hK76, fun w hs => hs⟩
noncomputable def fn_ref01_Same_l1 (xa : (List Int)) (xb : (List Int)) : Int → Option (Int ⊕ (Unit ⊕ Bool)) := fun (i413 : Int) => cond (decide (i413 < (((xa.length : Nat) : Int)))) ((getI xa i413).bind fun x476 => (getI xb i413).bind fun x485 => cond (!decide (x476 = x485)) (some (.inr ((.inr (false))))) (some (.inl (IntKind.wrap .i64 (i413 + 1))))) (some (.inr ((.inl ()))))
noncomputable def fn_ref01_Same (xa : (List Int)) (xb : (List Int)) : Option Bool :=
  cond (!decide ((((xa.length : Nat) : Int)) = (((xb.length : Nat) : Int)))) (some (false)) ((loop (fn_ref01_Same_l1 xa xb) 0 : Option (Unit ⊕ Bool)).bind fun o => match o with | .inr r => some r | .inl () => some (true))
set_option maxRecDepth 100000 in
set_option maxHeartbeats 4000000 in
theorem ref01_Same_ok {K : Hp} {xa : (List Int)} {xb : (List Int)} {adxa_0 : Option Addr} {cpxa_0 : Nat} {adxb_0 : Option Addr} {cpxb_0 : Nat} (fxa_0 : Is K (.sl (.int .i64)) [.slice adxa_0 xa.length cpxa_0] xa) (fxb_0 : Is K (.sl (.int .i64)) [.slice adxb_0 xb.length cpxb_0] xb) {r : Bool} (h : fn_ref01_Same xa xb = some r) :
    Tr Try.prog 17 #[.slice adxa_0 xa.length cpxa_0, .slice adxb_0 xb.length cpxb_0] K [] (fun v K' L' => (∃ (t249 : Bool), t249 = r ∧ .bool t249 = v ∧ L' = []) ∧ K = K') := by
  refine Tr.k ?_
  refine Tr.of Try.func17 rfl Try.ntmps17 rfl (fun E F => ?_)
  unfold fn_ref01_Same at h
  refine CJ.seq ?_
  refine CJ.region ?_
  refine J.val (v := .bool false) rfl rfl (V.as rfl) ?_
  refine J.nil ?_
  refine CJ.seq ?_
  refine CJ.seq ?_
  refine CJ.region ?_
  refine J.val (v := .slice adxa_0 xa.length cpxa_0) rfl rfl (V.mv rfl) ?_
  refine J.val (v := .int .i64 (((xa.length : Nat) : Int))) rfl rfl (V.len Try.underlying30 rfl) ?_
  refine J.val (v := .slice adxb_0 xb.length cpxb_0) rfl rfl (V.mv rfl) ?_
  refine J.val (v := .int .i64 (((xb.length : Nat) : Int))) rfl rfl (V.len Try.underlying30 rfl) ?_
  refine J.val (v := .bool (!decide ((((xa.length : Nat) : Int)) = (((xb.length : Nat) : Int))))) rfl rfl (V.neq rfl rfl) ?_
  refine J.nil ?_
  refine CJ.cond rfl (fun hc250 => ?_) (fun hc250 => ?_)
  · have h := ct hc250 h
    refine CJ.seq ?_
    refine CJ.region ?_
    refine J.val (v := .bool false) rfl rfl (V.as rfl) ?_
    refine J.nil ?_
    refine CJ.ret ?_
    have e := Option.some.inj h
    subst e
    exact ⟨_, [], Res.one rfl rfl, ⟨false, rfl, rfl, rfl⟩, (Hp.le_refl _), fun w hs => hs⟩
  · have h := cf hc250 h
    refine CJ.skip ?_
    refine CJ.seq ?_
    refine CJ.seq ?_
    refine CJ.region ?_
    refine J.val (v := .int .i64 0) rfl rfl (V.as rfl) ?_
    refine J.nil ?_
    obtain ⟨o372, ho373, h⟩ := ob h
    refine CJ.joinN (o := o372) (fun s ρ K' L' => () = s ∧ Fits [] ρ ∧ K = K' ∧ F = L') ?_ ?_
    · skip
      refine CJ.block ?_
      refine CJ.loop (fun s ρ K' L' => ∃ (i413 : Int), i413 = s ∧ Fits [(0, .slice adxa_0 xa.length cpxa_0), (1, .slice adxb_0 xb.length cpxb_0), (5, .int .i64 i413)] ρ ∧ K = K' ∧ F = L') ho373 ⟨0, rfl, ⟨rfl, rfl, rfl, trivial⟩, rfl, rfl⟩ ?_
      rintro s ρ _ _ r456 ⟨i413, rfl, hf454, rfl, rfl⟩ h453
      obtain ⟨ρ, rfl⟩ := hf454.ex
      refine CJ.seq ?_
      refine CJ.seq ?_
      refine CJ.region ?_
      refine J.val (v := .int .i64 i413) rfl rfl (V.mv rfl) ?_
      refine J.val (v := .slice adxa_0 xa.length cpxa_0) rfl rfl (V.mv rfl) ?_
      refine J.val (v := .int .i64 (((xa.length : Nat) : Int))) rfl rfl (V.len Try.underlying30 rfl) ?_
      refine J.val (v := .bool (decide (i413 < (((xa.length : Nat) : Int))))) rfl rfl (V.lss rfl rfl) ?_
      refine J.nil ?_
      refine CJ.cond rfl (fun hc457 => ?_) (fun hc457 => ?_)
      · have h453 := ct hc457 h453
        refine CJ.skip ?_
        refine CJ.seq ?_
        refine CJ.block ?_
        refine CJ.seq ?_
        refine CJ.mix [] [] [0, 1, 2, 3, 4, 5, 6, 7, 8] [] mixO (by decide +kernel) trivial rfl rfl rfl ?_
        refine JM.nil ?_
        refine JQ.val (v := .slice adxa_0 xa.length cpxa_0) rfl rfl (V.mv rfl) ?_
        refine JQ.val (v := .int .i64 i413) rfl rfl (V.mv rfl) ?_
        obtain ⟨x476, hx477, h453⟩ := ob h453
        obtain ⟨p478, p479, p480⟩ := getI_some hx477
        obtain ⟨b481, o482, e483, a484⟩ := (fxa_0).at p479
        refine JQ.val rfl rfl (V.iad Try.underlying30 sz3 rfl e483 rfl p478 p480) ?_
        refine JQ.val (v := .int .i64 x476) rfl rfl (V.ld rfl (Ld.sc sc3 (Rd.k (a484).int (Hp.le_refl _)))) ?_
        refine JQ.val (v := .slice adxb_0 xb.length cpxb_0) rfl rfl (V.mv rfl) ?_
        refine JQ.val (v := .int .i64 i413) rfl rfl (V.mv rfl) ?_
        obtain ⟨x485, hx486, h453⟩ := ob h453
        obtain ⟨p487, p488, p489⟩ := getI_some hx486
        obtain ⟨b490, o491, e492, a493⟩ := (fxb_0).at p488
        refine JQ.val rfl rfl (V.iad Try.underlying30 sz3 rfl e492 rfl p487 p489) ?_
        refine JQ.val (v := .int .i64 x485) rfl rfl (V.ld rfl (Ld.sc sc3 (Rd.k (a493).int (Hp.le_refl _)))) ?_
        refine JQ.val (v := .bool (!decide (x476 = x485))) rfl rfl (V.neq rfl rfl) ?_
        refine JQ.nil ?_
        refine J.nil ?_
        refine CJ.cond rfl (fun hc494 => ?_) (fun hc494 => ?_)
        · have h453 := ct hc494 h453
          refine CJ.seq ?_
          refine CJ.region ?_
          refine J.val (v := .bool false) rfl rfl (V.as rfl) ?_
          refine J.nil ?_
          refine CJ.ret ?_
          have e := Option.some.inj h453
          subst e
          refine ⟨nofun, fun e => ?_⟩
          subst e
          refine .inr ⟨nofun, ?_⟩
          have e := Option.some.inj h
          subst e
          exact ⟨_, [], Res.one rfl rfl, ⟨false, rfl, rfl, rfl⟩, (Hp.le_refl _), fun w hs => hs⟩
        · have h453 := cf hc494 h453
          refine CJ.skip ?_
          refine CJ.region ?_
          refine J.val (v := .int .i64 i413) rfl rfl (V.mv rfl) ?_
          refine J.val (v := .int .i64 (IntKind.wrap .i64 (i413 + 1))) rfl rfl (V.add rfl rfl) ?_
          refine J.val (v := .int .i64 (IntKind.wrap .i64 (i413 + 1))) rfl rfl (V.as rfl) ?_
          refine J.nil ?_
          have e := Option.some.inj h453
          subst e
          exact ⟨rfl, ⟨IntKind.wrap .i64 (i413 + 1), rfl, ⟨rfl, rfl, rfl, trivial⟩, rfl, rfl⟩⟩
      · have h453 := cf hc457 h453
        refine CJ.exit ?_
        have e := Option.some.inj h453
        subst e
        refine ⟨nofun, fun e => ?_⟩
        subst e
        exact .inl ⟨rfl, _, rfl, ⟨rfl, trivial, rfl, rfl⟩⟩
    · rintro s ρ _ _ ho495 ⟨rfl, hf496, rfl, rfl⟩
      subst ho495
      obtain ⟨ρ, rfl⟩ := hf496.ex
      refine PJ.done ?_
      refine CJ.seq ?_
      refine CJ.region ?_
      refine J.val (v := .bool true) rfl rfl (V.as rfl) ?_
      refine J.nil ?_
      refine CJ.ret ?_
      have e := Option.some.inj h
      subst e
      exact ⟨_, [], Res.one rfl rfl, ⟨true, rfl, rfl, rfl⟩, (Hp.le_refl _), fun w hs => hs⟩

noncomputable def fn_graph_Graph_In (xa : (Option (Int × (List (Int × Int)) × ((List Int) × (List Int)) × ((List Int) × (List Int))))) (xb : Int) : Option (List Int) :=
  (fn_graph_Graph_isNode xa xb).bind fun t48 => cond (!t48) (some ([])) ((xa : Option (Int × (List (Int × Int)) × ((List Int) × (List Int)) × ((List Int) × (List Int)))).bind fun y54 => (fn_graph_index_of (y54.2.2.2.1, y54.2.2.2.2) xb).bind fun l70 => (fn_slices_Clone_int_int l70).bind fun l79 => some (l79))
set_option maxRecDepth 100000 in
set_option maxHeartbeats 4000000 in
theorem graph_Graph_In_ok {K : Hp} {xa : (Option (Int × (List (Int × Int)) × ((List Int) × (List Int)) × ((List Int) × (List Int))))} {xb : Int} {vxa_0 : Value} (fxa_0 : Is K (.ptr (.cons (.int .i64) (.cons (.sl (.cons (.int .i64) (.one (.int .i64)))) (.cons (.cons (.sl (.int .i64)) (.one (.sl (.int .i64)))) (.one (.cons (.sl (.int .i64)) (.one (.sl (.int .i64))))))))) [vxa_0] xa) {r : (List Int)} (h : fn_graph_Graph_In xa xb = some r) :
    Tr Try.prog 12 #[vxa_0, .int .i64 xb] K [] (fun v K' L' => (∃ (l41 : (List Int)) (ad42 : Option Addr) (cp43 : Nat), l41 = r ∧ .slice ad42 l41.length cp43 = v ∧ L' = [Row Hp.nil 3 (.int .i64) (.slice ad42 l41.length cp43) l41]) ∧ K = K') := by
  refine Tr.k ?_
  refine Tr.of Try.func12 rfl Try.ntmps12 rfl (fun E F => ?_)
  unfold fn_graph_Graph_In at h
  refine CJ.seq ?_
  refine CJ.region ?_
  refine J.val (v := .slice none 0 0) rfl rfl (V.as rfl) ?_
  refine J.nil ?_
  refine CJ.seq ?_
  refine CJ.seq ?_
  refine CJ.region ?_
  refine J.val (v := vxa_0) rfl rfl (V.mv rfl) ?_
  refine J.val (v := .int .i64 xb) rfl rfl (V.mv rfl) ?_
  obtain ⟨r46, hr47, h⟩ := ob h
  refine J.op rfl (A.call (L1 := []) Try.call24 rfl (graph_Graph_isNode_ok fxa_0 hr47) rfl rfl) ?_
  rintro _ _ _ ⟨v49, _, rfl, ⟨⟨t48, rfl, rfl, rfl⟩, rfl⟩, _, rfl⟩
  refine J.val (v := .bool (!t48)) rfl rfl (V.not rfl) ?_
  refine J.nil ?_
  refine CJ.cond rfl (fun hc52 => ?_) (fun hc52 => ?_)
  · have h := ct hc52 h
    refine CJ.seq ?_
    refine CJ.region ?_
    refine J.val (v := .slice none 0 0) rfl rfl (V.as rfl) ?_
    refine J.nil ?_
    refine CJ.by (fun w hs => Sep.rowNil (e := 3) (t := (.int .i64)) hs) ?_
    refine CJ.ret ?_
    have e := Option.some.inj h
    subst e
    exact ⟨_, [Row Hp.nil 3 (.int .i64) (.slice none (([] : List Int).length) 0) ([] : List Int)], Res.one rfl rfl, ⟨[], none, 0, rfl, rfl, rfl⟩, (Hp.le_refl _), fun w hs => hs⟩
  · have h := cf hc52 h
    refine CJ.skip ?_
    refine CJ.seq ?_
    refine CJ.region ?_
    refine J.val (v := vxa_0) rfl rfl (V.mv rfl) ?_
    obtain ⟨y54, hy55, h⟩ := ob h
    obtain ⟨b56, o57, hv58, a59⟩ := Is.psome fxa_0 hy55
    refine J.val rfl rfl (V.nck hv58) ?_
    refine J.val rfl rfl (V.fad Try.underlying50 rfl nz48 rfl) ?_
    obtain ⟨ad60, cp61, c62, f63⟩ := ((((((a59).snd).snd).snd).one).fst).sl
    obtain ⟨ad64, cp65, c66, f67⟩ := (((((((a59).snd).snd).snd).one).snd).one).sl
    refine J.val (v := .agg #[.slice ad60 y54.2.2.2.1.length cp61, .slice ad64 y54.2.2.2.2.length cp65]) rfl rfl (V.ld rfl (Ld.aggK (cs := [.slice ad60 y54.2.2.2.1.length cp61, .slice ad64 y54.2.2.2.2.length cp65]) Try.underlying48 sz48 rfl ⟨c62, c66, trivial⟩ (Hp.le_refl _))) ?_
    refine J.val (v := .int .i64 xb) rfl rfl (V.mv rfl) ?_
    obtain ⟨r68, hr69, h⟩ := ob h
    refine J.op rfl (A.call (L1 := []) Try.call26 rfl (graph_index_of_ok f63 f67 hr69) rfl rfl) ?_
    rintro _ K75 _ ⟨v74, _, rfl, ⟨l70, ad71, cp72, rfl, rfl, f73, rfl⟩, hK76, rfl⟩
    obtain ⟨r77, hr78, h⟩ := ob h
    refine J.op rfl (A.call (L1 := []) Try.call25 rfl (slices_Clone_int_int_ok f73 hr78) rfl rfl) ?_
    rintro _ _ _ ⟨v83, _, rfl, ⟨⟨l79, ad80, cp81, rfl, rfl, rfl⟩, rfl⟩, _, rfl⟩
    refine J.wit Row.hn (fun hn82 => ?_)
    refine J.val (v := .slice ad80 l79.length cp81) rfl rfl (V.as rfl) ?_
    refine J.nil ?_
    refine CJ.ret ?_
    have e := Option.some.inj h
    subst e
    exact ⟨_, [Row Hp.nil 3 (.int .i64) (.slice ad80 l79.length cp81) l79], Res.one rfl rfl, ⟨l79, ad80, cp81, rfl, rfl, rfl⟩, hK76, fun w hs => hs⟩
noncomputable def fn_graph_Graph_Reach_l1 (y2837 : (Int × (List (Int × Int)) × ((List Int) × (List Int)) × ((List Int) × (List Int)))) (l5236 : (List Int)) : ((List Bool) × (List Int) × Int) → Option (((List Bool) × (List Int) × Int) ⊕ ((List Bool) × (List Int))) := fun ((l5511, l5516, i5521) : ((List Bool) × (List Int) × Int)) => cond (decide (i5521 < (((l5236.length : Nat) : Int)))) ((getI l5236 i5521).bind fun x5590 => (getI y2837.2.1 x5590).bind fun x5603 => (getI l5511 x5603.2).bind fun x5612 => cond (!x5612) ((getI l5511 x5603.2).bind fun x5620 => (some (l5511.set x5603.2.toNat true)).bind fun z5627 => (app l5516 ([x5603.2] : List Int)).bind fun z5635 => some (.inl ((z5627, z5635, IntKind.wrap .i64 (i5521 + 1))))) (some (.inl ((l5511, l5516, IntKind.wrap .i64 (i5521 + 1)))))) (some (.inr (((l5511, l5516)))))
noncomputable def fn_graph_Graph_Reach_l2 (y2837 : (Int × (List (Int × Int)) × ((List Int) × (List Int)) × ((List Int) × (List Int)))) : ((List Bool) × (List Int) × Int) → Option (((List Bool) × (List Int) × Int) ⊕ (List Int)) := fun ((l4718, l4723, i4728) : ((List Bool) × (List Int) × Int)) => cond (decide (i4728 < (((l4723.length : Nat) : Int)))) ((getI l4723 i4728).bind fun x5227 => (fn_graph_index_of (y2837.2.2.1.1, y2837.2.2.1.2) x5227).bind fun l5236 => (loop (fn_graph_Graph_Reach_l1 y2837 l5236) (l4718, l4723, 0)).bind fun (l5436, l5441) => some (.inl ((l5436, l5441, IntKind.wrap .i64 (i4728 + 1))))) (some (.inr (l4723)))
noncomputable def fn_graph_Graph_Reach (xa : (Option (Int × (List (Int × Int)) × ((List Int) × (List Int)) × ((List Int) × (List Int))))) (xb : Int) : Option (List Int) :=
  (fn_graph_Graph_isNode xa xb).bind fun t2831 => cond (!t2831) (some ([])) ((xa : Option (Int × (List (Int × Int)) × ((List Int) × (List Int)) × ((List Int) × (List Int)))).bind fun y2837 => (mk y2837.1 y2837.1 false : Option (List Bool)).bind fun z2843 => (getI z2843 xb).bind fun x2848 => (some (z2843.set xb.toNat true)).bind fun z2855 => (loop (fn_graph_Graph_Reach_l2 y2837) ((z2855, ([xb] : List Int), 0))).bind fun l4250 => (srt l4250).bind fun l5647 => some (l5647))
set_option maxRecDepth 100000 in
set_option maxHeartbeats 4000000 in
theorem graph_Graph_Reach_ok {K : Hp} {xa : (Option (Int × (List (Int × Int)) × ((List Int) × (List Int)) × ((List Int) × (List Int))))} {xb : Int} {vxa_0 : Value} (fxa_0 : Is K (.ptr (.cons (.int .i64) (.cons (.sl (.cons (.int .i64) (.one (.int .i64)))) (.cons (.cons (.sl (.int .i64)) (.one (.sl (.int .i64)))) (.one (.cons (.sl (.int .i64)) (.one (.sl (.int .i64))))))))) [vxa_0] xa) {r : (List Int)} (h : fn_graph_Graph_Reach xa xb = some r) :
    Tr Try.prog 14 #[vxa_0, .int .i64 xb] K [] (fun v K' L' => (∃ (l2824 : (List Int)) (ad2825 : Option Addr) (cp2826 : Nat), l2824 = r ∧ .slice ad2825 l2824.length cp2826 = v ∧ L' = [Row Hp.nil 3 (.int .i64) (.slice ad2825 l2824.length cp2826) l2824]) ∧ K = K') := by
  refine Tr.k ?_
  refine Tr.of Try.func14 rfl Try.ntmps14 rfl (fun E F => ?_)
  unfold fn_graph_Graph_Reach at h
  refine CJ.seq ?_
  refine CJ.region ?_
  refine J.val (v := .slice none 0 0) rfl rfl (V.as rfl) ?_
  refine J.nil ?_
  refine CJ.seq ?_
  refine CJ.seq ?_
  refine CJ.region ?_
  refine J.val (v := vxa_0) rfl rfl (V.mv rfl) ?_
  refine J.val (v := .int .i64 xb) rfl rfl (V.mv rfl) ?_
  obtain ⟨r2829, hr2830, h⟩ := ob h
  refine J.op rfl (A.call (L1 := []) Try.call24 rfl (graph_Graph_isNode_ok fxa_0 hr2830) rfl rfl) ?_
  rintro _ _ _ ⟨v2832, _, rfl, ⟨⟨t2831, rfl, rfl, rfl⟩, rfl⟩, _, rfl⟩
  refine J.val (v := .bool (!t2831)) rfl rfl (V.not rfl) ?_
  refine J.nil ?_
  refine CJ.cond rfl (fun hc2835 => ?_) (fun hc2835 => ?_)
  · have h := ct hc2835 h
    refine CJ.seq ?_
    refine CJ.region ?_
    refine J.val (v := .slice none 0 0) rfl rfl (V.as rfl) ?_
    refine J.nil ?_
    refine CJ.by (fun w hs => Sep.rowNil (e := 3) (t := (.int .i64)) hs) ?_
    refine CJ.ret ?_
    have e := Option.some.inj h
    subst e
    exact ⟨_, [Row Hp.nil 3 (.int .i64) (.slice none (([] : List Int).length) 0) ([] : List Int)], Res.one rfl rfl, ⟨[], none, 0, rfl, rfl, rfl⟩, (Hp.le_refl _), fun w hs => hs⟩
  · have h := cf hc2835 h
    refine CJ.skip ?_
    refine CJ.seq ?_
    refine CJ.region ?_
    refine J.val (v := vxa_0) rfl rfl (V.mv rfl) ?_
    obtain ⟨y2837, hy2838, h⟩ := ob h
    obtain ⟨b2839, o2840, hv2841, a2842⟩ := Is.psome fxa_0 hy2838
    refine J.val rfl rfl (V.nck hv2841) ?_
    refine J.val rfl rfl (V.fad Try.underlying50 rfl nz3 rfl) ?_
    refine J.val (v := .int .i64 y2837.1) rfl rfl (V.ld rfl (Ld.sc sc3 (Rd.k ((a2842).fst).int (Hp.le_refl _)))) ?_
    obtain ⟨z2843, hz2844, h⟩ := ob h
    refine J.op rfl (A.make (K0 := Hp.nil) (ty := .bool) (x0 := false) Try.underlying52 inf4 rfl rfl (by decide) (by decide) rfl rfl hz2844) ?_
    rintro _ _ _ ⟨b2845, rfl, rfl, rfl⟩
    have hn2846 : z2843 ≠ [] → ∃ g, (some ⟨b2845, 0, none⟩ : Option Addr) = some ⟨g, 0, none⟩ := fun _ => ⟨b2845, rfl⟩
    refine J.val (v := .slice (some ⟨b2845, 0, none⟩) z2843.length y2837.1.toNat) rfl rfl (V.as rfl) ?_
    refine J.nil ?_
    refine CJ.seq ?_
    refine CJ.region ?_
    refine J.val (v := .slice (some ⟨b2845, 0, none⟩) z2843.length y2837.1.toNat) rfl rfl (V.mv rfl) ?_
    refine J.val (v := .int .i64 xb) rfl rfl (V.mv rfl) ?_
    obtain ⟨x2848, hx2849, h⟩ := ob h
    obtain ⟨p2850, p2851, p2852⟩ := getI_some hx2849
    obtain ⟨g2853, e2854⟩ := hn2846 (fun e => by rw [e] at p2851; simp at p2851)
    refine J.val rfl rfl (V.iad Try.underlying52 sz4 rfl e2854 rfl p2850 p2852) ?_
    obtain ⟨z2855, hz2856, h⟩ := ob h
    have e2857 := Option.some.inj hz2856
    have hl2858 : z2855.length = z2843.length := by rw [← e2857, List.length_set]
    refine J.op rfl (A.storeR (ty := .bool) (q := 0) (y0 := true) (zs := z2855) sz4 rfl rfl rfl rfl e2854 p2851 (by simp [Tp.size]) (by decide) (by rintro _ rfl; exact rfl) e2857) ?_
    rintro _ _ _ ⟨rfl, rfl, rfl⟩
    have hn2859 : z2855 ≠ [] → _ := fun h => hn2846 (fun e => h (List.length_eq_zero_iff.1 (by rw [hl2858]; exact List.length_eq_zero_iff.2 e)))
    refine J.nil ?_
    refine CJ.seq ?_
    refine CJ.region ?_
    refine J.val (v := .int .i64 xb) rfl rfl (V.mv rfl) ?_
    refine J.op rfl (A.lit (K0 := Hp.nil) (ty := (.int .i64)) (xs := ([xb] : List Int)) Try.underlying30 inf3 rfl (by decide) rfl rfl rfl ⟨_, _, rfl, rfl, rfl⟩ rfl (by decide)) ?_
    rintro _ _ _ ⟨b2860, rfl, rfl, rfl⟩
    have hn2861 : ([xb] : List Int) ≠ [] → ∃ g, (some ⟨b2860, 0, none⟩ : Option Addr) = some ⟨g, 0, none⟩ := fun _ => ⟨b2860, rfl⟩
    refine J.val (v := .slice (some ⟨b2860, 0, none⟩) (([xb] : List Int).length) 1) rfl rfl (V.as rfl) ?_
    refine J.nil ?_
    refine CJ.seq ?_
    refine CJ.seq ?_
    refine CJ.region ?_
    refine J.val (v := .int .i64 0) rfl rfl (V.as rfl) ?_
    refine J.nil ?_
    obtain ⟨o4255, ho4256, h⟩ := ob h
    refine CJ.meetN (fun ρ K' L' => ∃ (l4250 : (List Int)) (ad4251 : Option Addr) (cp4252 : Nat), l4250 = o4255 ∧ Fits [(6, .slice ad4251 l4250.length cp4252)] ρ ∧ Hp.le K K' ∧ L' = Row Hp.nil 3 (.int .i64) (.slice ad4251 l4250.length cp4252) l4250 :: F) ?_ ?_
    · skip
      refine CJ.block ?_
      refine CJ.front 1 rfl ?_
      refine CJ.loop (fun s ρ K' L' => ∃ (l4718 : (List Bool)) (l4723 : (List Int)) (i4728 : Int) (ad4719 : Option Addr) (cp4720 : Nat) (ad4724 : Option Addr) (cp4725 : Nat), (l4718, l4723, i4728) = s ∧ Fits [(0, vxa_0), (5, .slice ad4719 l4718.length cp4720), (6, .slice ad4724 l4723.length cp4725), (7, .int .i64 i4728)] ρ ∧ Hp.le K K' ∧ L' = Row Hp.nil 4 .bool (.slice ad4719 l4718.length cp4720) l4718 :: Row Hp.nil 3 (.int .i64) (.slice ad4724 l4723.length cp4725) l4723 :: F) ho4256 ⟨z2855, ([xb] : List Int), 0, (some ⟨b2845, 0, none⟩), y2837.1.toNat, (some ⟨b2860, 0, none⟩), 1, rfl, ⟨rfl, (by rw [hl2858]; rfl), rfl, rfl, trivial⟩, (Hp.le_refl _), (by rw [hl2858]; first | done | rfl)⟩ ?_
      rintro s ρ K4717 _ r5193 ⟨l4718, l4723, i4728, ad4719, cp4720, ad4724, cp4725, rfl, hf5191, hk5192, rfl⟩ h5190
      obtain ⟨ρ, rfl⟩ := hf5191.ex
      refine CJ.wit Row.hn (fun hn4722 => ?_)
      refine CJ.front 1 rfl ?_
      refine CJ.wit Row.hn (fun hn4727 => ?_)
      refine CJ.seq ?_
      refine CJ.seq ?_
      refine CJ.region ?_
      refine J.val (v := .int .i64 i4728) rfl rfl (V.mv rfl) ?_
      refine J.val (v := .slice ad4724 l4723.length cp4725) rfl rfl (V.mv rfl) ?_
      refine J.val (v := .int .i64 (((l4723.length : Nat) : Int))) rfl rfl (V.len Try.underlying30 rfl) ?_
      refine J.val (v := .bool (decide (i4728 < (((l4723.length : Nat) : Int))))) rfl rfl (V.lss rfl rfl) ?_
      refine J.nil ?_
      refine CJ.cond rfl (fun hc5194 => ?_) (fun hc5194 => ?_)
      · have h5190 := ct hc5194 h5190
        refine CJ.skip ?_
        refine CJ.seq ?_
        refine CJ.block ?_
        refine CJ.seq ?_
        refine CJ.mix [Row Hp.nil 3 (.int .i64) (.slice ad4724 l4723.length cp4725) l4723, Row Hp.nil 4 .bool (.slice ad4719 l4718.length cp4720) l4718] [([0, 1, 2, 3, 4, 5, 6, 7, 10], 8)] [9] [] mixO (by decide +kernel) ⟨0, rfl, 0, rfl, trivial⟩ rfl rfl rfl ?_
        refine JM.cons ?_
        refine JQ.val (v := vxa_0) rfl rfl (V.mv rfl) ?_
        refine JQ.val rfl rfl (V.nck hv2841) ?_
        refine JQ.val rfl rfl (V.fad Try.underlying50 rfl nz48 rfl) ?_
        obtain ⟨ad5219, cp5220, c5221, f5222⟩ := (((((a2842).snd).snd).fst).fst).sl
        obtain ⟨ad5223, cp5224, c5225, f5226⟩ := ((((((a2842).snd).snd).fst).snd).one).sl
        refine JQ.val (v := .agg #[.slice ad5219 y2837.2.2.1.1.length cp5220, .slice ad5223 y2837.2.2.1.2.length cp5224]) rfl rfl (V.ld rfl (Ld.aggK (cs := [.slice ad5219 y2837.2.2.1.1.length cp5220, .slice ad5223 y2837.2.2.1.2.length cp5224]) Try.underlying48 sz48 rfl ⟨c5221, c5225, trivial⟩ hk5192)) ?_
        refine JQ.val (v := .slice ad4724 l4723.length cp4725) rfl rfl (V.mv rfl) ?_
        refine JQ.val (v := .int .i64 i4728) rfl rfl (V.mv rfl) ?_
        obtain ⟨x5227, hx5228, h5190⟩ := ob h5190
        obtain ⟨p5229, p5230, p5231⟩ := getI_some hx5228
        obtain ⟨g5232, e5233⟩ := hn4727 (fun e => by rw [e] at p5230; simp at p5230)
        refine JQ.val rfl rfl (V.iad Try.underlying30 sz3 rfl e5233 rfl p5229 p5231) ?_
        refine JQ.val (v := .int .i64 x5227) rfl rfl (V.ld rfl (Ld.sc sc3 (Rd.row 0 rfl e5233 p5230 (q := 0) (by simp [Tp.size]) (by decide) (by rintro _ rfl; rfl)))) ?_
        refine JQ.val (v := .int .i64 0) rfl rfl (V.mv rfl) ?_
        refine JQ.nil ?_
        obtain ⟨r5234, hr5235, h5190⟩ := ob h5190
        refine JA.op rfl (A.call (L1 := []) Try.call26 rfl (graph_index_of_ok (f5222.mono hk5192) (f5226.mono hk5192) hr5235) rfl rfl) ?_
        rintro _ K5241 _ ⟨v5240, _, rfl, ⟨l5236, ad5237, cp5238, rfl, rfl, f5239, rfl⟩, hK5242, rfl⟩
        refine ⟨fun w hs => Hold.sub hK5242 ⟨0, rfl, 0, rfl, trivial⟩ hs, ?_⟩
        refine JM.nil ?_
        refine JQ.val (v := .int .i64 (((l5236.length : Nat) : Int))) rfl rfl (V.len Try.underlying30 rfl) ?_
        refine JQ.nil ?_
        refine J.nil ?_
        obtain ⟨o5446, ho5447, h5190⟩ := ob h5190
        refine CJ.meetN (fun ρ K' L' => ∃ (l5436 : (List Bool)) (l5441 : (List Int)) (ad5437 : Option Addr) (cp5438 : Nat) (ad5442 : Option Addr) (cp5443 : Nat), (l5436, l5441) = o5446 ∧ Fits [(0, vxa_0), (5, .slice ad5437 l5436.length cp5438), (6, .slice ad5442 l5441.length cp5443), (7, .int .i64 i4728)] ρ ∧ K5241 = K' ∧ L' = Row Hp.nil 4 .bool (.slice ad5437 l5436.length cp5438) l5436 :: Row Hp.nil 3 (.int .i64) (.slice ad5442 l5441.length cp5443) l5441 :: F) ?_ ?_
        · skip
          refine CJ.block ?_
          refine CJ.front 1 rfl ?_
          refine CJ.loop (fun s ρ K' L' => ∃ (l5511 : (List Bool)) (l5516 : (List Int)) (i5521 : Int) (ad5512 : Option Addr) (cp5513 : Nat) (ad5517 : Option Addr) (cp5518 : Nat), (l5511, l5516, i5521) = s ∧ Fits [(0, vxa_0), (5, .slice ad5512 l5511.length cp5513), (6, .slice ad5517 l5516.length cp5518), (7, .int .i64 i4728), (39, .slice ad5237 l5236.length cp5238), (40, .int .i64 (((l5236.length : Nat) : Int))), (41, .int .i64 i5521)] ρ ∧ K5241 = K' ∧ L' = Row Hp.nil 4 .bool (.slice ad5512 l5511.length cp5513) l5511 :: Row Hp.nil 3 (.int .i64) (.slice ad5517 l5516.length cp5518) l5516 :: F) ho5447 ⟨l4718, l4723, 0, ad4719, cp4720, ad4724, cp4725, rfl, ⟨rfl, rfl, rfl, rfl, rfl, rfl, rfl, trivial⟩, rfl, rfl⟩ ?_
          rintro s ρ _ _ r5588 ⟨l5511, l5516, i5521, ad5512, cp5513, ad5517, cp5518, rfl, hf5586, rfl, rfl⟩ h5585
          obtain ⟨ρ, rfl⟩ := hf5586.ex
          refine CJ.wit Row.hn (fun hn5515 => ?_)
          refine CJ.front 1 rfl ?_
          refine CJ.wit Row.hn (fun hn5520 => ?_)
          refine CJ.seq ?_
          refine CJ.region ?_
          refine J.val (v := .bool (decide (i5521 < (((l5236.length : Nat) : Int))))) rfl rfl (V.lss rfl rfl) ?_
          refine J.nil ?_
          refine CJ.seq ?_
          refine CJ.cond rfl (fun hc5589 => ?_) (fun hc5589 => ?_)
          · have h5585 := ct hc5589 h5585
            refine CJ.skip ?_
            refine CJ.seq ?_
            refine CJ.block ?_
            refine CJ.seq ?_
            refine CJ.region ?_
            obtain ⟨x5590, hx5591, h5585⟩ := ob h5585
            obtain ⟨p5592, p5593, p5594⟩ := getI_some hx5591
            obtain ⟨b5595, o5596, e5597, a5598⟩ := (f5239).at p5593
            refine J.val rfl rfl (V.iad Try.underlying30 sz3 rfl e5597 rfl p5592 p5594) ?_
            refine J.val (v := .int .i64 x5590) rfl rfl (V.ld rfl (Ld.sc sc3 (Rd.k (a5598).int (Hp.le_refl _)))) ?_
            refine J.val (v := .int .i64 x5590) rfl rfl (V.as rfl) ?_
            refine J.nil ?_
            refine CJ.seq ?_
            refine CJ.region ?_
            refine J.val (v := vxa_0) rfl rfl (V.mv rfl) ?_
            refine J.val rfl rfl (V.nck hv2841) ?_
            refine J.val rfl rfl (V.fad Try.underlying50 rfl nz45 rfl) ?_
            obtain ⟨ad5599, cp5600, c5601, f5602⟩ := (((a2842).snd).fst).sl
            refine J.val (v := .slice ad5599 y2837.2.1.length cp5600) rfl rfl (V.ld rfl (Ld.sc sc45 (Rd.k c5601 (hk5192.trans hK5242)))) ?_
            refine J.val (v := .int .i64 x5590) rfl rfl (V.mv rfl) ?_
            obtain ⟨x5603, hx5604, h5585⟩ := ob h5585
            obtain ⟨p5605, p5606, p5607⟩ := getI_some hx5604
            obtain ⟨b5608, o5609, e5610, a5611⟩ := ((f5602.mono (hk5192.trans hK5242))).at p5606
            refine J.val rfl rfl (V.iad Try.underlying45 sz34 rfl e5610 rfl p5605 p5607) ?_
            refine J.val rfl rfl (V.fad Try.underlying34 rfl nz3 rfl) ?_
            refine J.val (v := .int .i64 x5603.2) rfl rfl (V.ld rfl (Ld.sc sc3 (Rd.k (((a5611).snd).one).int (Hp.le_refl _)))) ?_
            refine J.val (v := .int .i64 x5603.2) rfl rfl (V.as rfl) ?_
            refine J.nil ?_
            refine CJ.seq ?_
            refine CJ.region ?_
            refine J.val (v := .slice ad5512 l5511.length cp5513) rfl rfl (V.mv rfl) ?_
            refine J.val (v := .int .i64 x5603.2) rfl rfl (V.mv rfl) ?_
            obtain ⟨x5612, hx5613, h5585⟩ := ob h5585
            obtain ⟨p5614, p5615, p5616⟩ := getI_some hx5613
            obtain ⟨g5617, e5618⟩ := hn5515 (fun e => by rw [e] at p5615; simp at p5615)
            refine J.val rfl rfl (V.iad Try.underlying52 sz4 rfl e5618 rfl p5614 p5616) ?_
            refine J.val (v := .bool x5612) rfl rfl (V.ld rfl (Ld.sc sc4 (Rd.row 1 rfl e5618 p5615 (q := 0) (by simp [Tp.size]) (by decide) (by rintro _ rfl; rfl)))) ?_
            refine J.val (v := .bool (!x5612)) rfl rfl (V.not rfl) ?_
            refine J.nil ?_
            refine CJ.cond rfl (fun hc5619 => ?_) (fun hc5619 => ?_)
            · have h5585 := ct hc5619 h5585
              refine CJ.seq ?_
              refine CJ.region ?_
              refine J.val (v := .slice ad5512 l5511.length cp5513) rfl rfl (V.mv rfl) ?_
              refine J.val (v := .int .i64 x5603.2) rfl rfl (V.mv rfl) ?_
              obtain ⟨x5620, hx5621, h5585⟩ := ob h5585
              obtain ⟨p5622, p5623, p5624⟩ := getI_some hx5621
              obtain ⟨g5625, e5626⟩ := hn5515 (fun e => by rw [e] at p5623; simp at p5623)
              refine J.val rfl rfl (V.iad Try.underlying52 sz4 rfl e5626 rfl p5622 p5624) ?_
              refine J.front 1 rfl ?_
              obtain ⟨z5627, hz5628, h5585⟩ := ob h5585
              have e5629 := Option.some.inj hz5628
              have hl5630 : z5627.length = l5511.length := by rw [← e5629, List.length_set]
              refine J.op rfl (A.storeR (ty := .bool) (q := 0) (y0 := true) (zs := z5627) sz4 rfl rfl rfl rfl e5626 p5623 (by simp [Tp.size]) (by decide) (by rintro _ rfl; exact rfl) e5629) ?_
              rintro _ _ _ ⟨rfl, rfl, rfl⟩
              have hn5631 : z5627 ≠ [] → _ := fun h => hn5515 (fun e => h (List.length_eq_zero_iff.1 (by rw [hl5630]; exact List.length_eq_zero_iff.2 e)))
              refine J.nil ?_
              refine CJ.region ?_
              refine J.val (v := .slice ad5517 l5516.length cp5518) rfl rfl (V.mv rfl) ?_
              refine J.val (v := .int .i64 x5603.2) rfl rfl (V.mv rfl) ?_
              refine J.op rfl (A.lit (K0 := Hp.nil) (ty := (.int .i64)) (xs := ([x5603.2] : List Int)) Try.underlying30 inf3 rfl (by decide) rfl rfl rfl ⟨_, _, rfl, rfl, rfl⟩ rfl (by decide)) ?_
              rintro _ _ _ ⟨b5632, rfl, rfl, rfl⟩
              have hn5633 : ([x5603.2] : List Int) ≠ [] → ∃ g, (some ⟨b5632, 0, none⟩ : Option Addr) = some ⟨g, 0, none⟩ := fun _ => ⟨b5632, rfl⟩
              obtain ⟨z5635, hz5636, h5585⟩ := ob h5585
              refine J.front 2 rfl ?_
              refine J.op rfl (A.appR (Kr := Hp.nil) Try.underlying30 inf3 rfl rfl (by decide) (by decide) rfl rfl (Els.flat rfl) (Els.flat rfl) hz5636) ?_
              rintro _ _ _ ⟨v5637, rfl, rfl, rfl⟩
              refine J.wit Row.form ?_
              rintro ⟨ad5638, cp5639, rfl, _, _, hn5640⟩
              refine J.val (v := .slice ad5638 z5635.length cp5639) rfl rfl (V.as rfl) ?_
              refine J.nil ?_
              refine CJ.region ?_
              refine J.val (v := .int .i64 (IntKind.wrap .i64 (i5521 + 1))) rfl rfl (V.add rfl rfl) ?_
              refine J.val (v := .int .i64 (IntKind.wrap .i64 (i5521 + 1))) rfl rfl (V.mv rfl) ?_
              refine J.front 1 rfl ?_
              refine J.nil ?_
              have e := Option.some.inj h5585
              subst e
              exact ⟨rfl, ⟨z5627, z5635, IntKind.wrap .i64 (i5521 + 1), ad5512, cp5513, ad5638, cp5639, rfl, ⟨rfl, (by rw [hl5630]; rfl), rfl, rfl, rfl, rfl, rfl, trivial⟩, rfl, (by rw [hl5630]; first | done | rfl)⟩⟩
            · have h5585 := cf hc5619 h5585
              refine CJ.skip ?_
              refine CJ.region ?_
              refine J.val (v := .int .i64 (IntKind.wrap .i64 (i5521 + 1))) rfl rfl (V.add rfl rfl) ?_
              refine J.val (v := .int .i64 (IntKind.wrap .i64 (i5521 + 1))) rfl rfl (V.mv rfl) ?_
              refine J.front 1 rfl ?_
              refine J.nil ?_
              have e := Option.some.inj h5585
              subst e
              exact ⟨rfl, ⟨l5511, l5516, IntKind.wrap .i64 (i5521 + 1), ad5512, cp5513, ad5517, cp5518, rfl, ⟨rfl, rfl, rfl, rfl, rfl, rfl, rfl, trivial⟩, rfl, rfl⟩⟩
          · have h5585 := cf hc5589 h5585
            refine CJ.front 1 rfl ?_
            refine CJ.exit ?_
            have e := Option.some.inj h5585
            subst e
            refine ⟨nofun, fun e => ?_⟩
            subst e
            exact ⟨rfl, ⟨l5511, l5516, ad5512, cp5513, ad5517, cp5518, rfl, ⟨rfl, rfl, rfl, rfl, trivial⟩, rfl, rfl⟩⟩
        · rintro ρ _ _ ⟨l5436, l5441, ad5437, cp5438, ad5442, cp5443, rfl, hf5641, rfl, rfl⟩
          obtain ⟨ρ, rfl⟩ := hf5641.ex
          refine PJ.wit Row.hn (fun hn5440 => ?_)
          refine PJ.front 1 rfl ?_
          refine PJ.wit Row.hn (fun hn5445 => ?_)
          refine PJ.done ?_
          refine CJ.region ?_
          refine J.val (v := .int .i64 i4728) rfl rfl (V.mv rfl) ?_
          refine J.val (v := .int .i64 (IntKind.wrap .i64 (i4728 + 1))) rfl rfl (V.add rfl rfl) ?_
          refine J.val (v := .int .i64 (IntKind.wrap .i64 (i4728 + 1))) rfl rfl (V.as rfl) ?_
          refine J.front 1 rfl ?_
          refine J.nil ?_
          have e := Option.some.inj h5190
          subst e
          exact ⟨rfl, ⟨l5436, l5441, IntKind.wrap .i64 (i4728 + 1), ad5437, cp5438, ad5442, cp5443, rfl, ⟨rfl, rfl, rfl, rfl, trivial⟩, (hk5192.trans hK5242), rfl⟩⟩
      · have h5190 := cf hc5194 h5190
        refine CJ.dropAt 1 rfl ?_
        refine CJ.exit ?_
        have e := Option.some.inj h5190
        subst e
        refine ⟨nofun, fun e => ?_⟩
        subst e
        exact ⟨rfl, ⟨l4723, ad4724, cp4725, rfl, ⟨rfl, trivial⟩, hk5192, rfl⟩⟩
    · rintro ρ K4249 _ ⟨l4250, ad4251, cp4252, rfl, hf5643, hk5644, rfl⟩
      obtain ⟨ρ, rfl⟩ := hf5643.ex
      refine PJ.wit Row.hn (fun hn4254 => ?_)
      refine PJ.done ?_
      refine CJ.seq ?_
      refine CJ.region ?_
      refine J.val (v := .slice ad4251 l4250.length cp4252) rfl rfl (V.mv rfl) ?_
      obtain ⟨r5645, hr5646, h⟩ := ob h
      refine J.op rfl (A.call (L1 := [Row Hp.nil 3 (.int .i64) (.slice ad4251 l4250.length cp4252) l4250]) Try.call27 rfl (slices_Sort_ok hr5646) rfl rfl) ?_
      rintro _ _ _ ⟨v5648, _, rfl, ⟨⟨l5647, rfl, rfl, rfl⟩, rfl⟩, _, rfl⟩
      refine J.wit Row.hn (fun hn5651 => ?_)
      refine J.wit Row.len (fun hl5652 => ?_)
      refine J.nil ?_
      refine CJ.seq ?_
      refine CJ.region ?_
      refine J.val (v := .slice ad4251 l4250.length cp4252) rfl rfl (V.mv rfl) ?_
      refine J.val (v := .slice ad4251 l4250.length cp4252) rfl rfl (V.as rfl) ?_
      refine J.nil ?_
      refine CJ.ret ?_
      have e := Option.some.inj h
      subst e
      exact ⟨_, [Row Hp.nil 3 (.int .i64) (.slice ad4251 l4250.length cp4252) l5647], Res.one rfl rfl, ⟨l5647, ad4251, cp4252, rfl, (by first | rfl | (rw [hl5652]; first | done | rfl)), (by first | rfl | (rw [hl5652]; first | done | rfl))⟩, hk5644, fun w hs => hs⟩

noncomputable def fn_graph_Graph_Arcs (xa : (Option (Int × (List (Int × Int)) × ((List Int) × (List Int)) × ((List Int) × (List Int))))) : Option Int :=
  cond (xa.isNone) (some (0)) ((xa : Option (Int × (List (Int × Int)) × ((List Int) × (List Int)) × ((List Int) × (List Int)))).bind fun y14 => some (((y14.2.1.length : Nat) : Int)))
set_option maxRecDepth 100000 in
set_option maxHeartbeats 4000000 in
theorem graph_Graph_Arcs_ok {K : Hp} {xa : (Option (Int × (List (Int × Int)) × ((List Int) × (List Int)) × ((List Int) × (List Int))))} {vxa_0 : Value} (fxa_0 : Is K (.ptr (.cons (.int .i64) (.cons (.sl (.cons (.int .i64) (.one (.int .i64)))) (.cons (.cons (.sl (.int .i64)) (.one (.sl (.int .i64)))) (.one (.cons (.sl (.int .i64)) (.one (.sl (.int .i64))))))))) [vxa_0] xa) {r : Int} (h : fn_graph_Graph_Arcs xa = some r) :
    Tr Try.prog 10 #[vxa_0] K [] (fun v K' L' => (∃ (i12 : Int), i12 = r ∧ .int .i64 i12 = v ∧ L' = []) ∧ K = K') := by
  refine Tr.k ?_
  refine Tr.of Try.func10 rfl Try.ntmps10 rfl (fun E F => ?_)
  unfold fn_graph_Graph_Arcs at h
  refine CJ.seq ?_
  refine CJ.region ?_
  refine J.val (v := .int .i64 0) rfl rfl (V.as rfl) ?_
  refine J.nil ?_
  refine CJ.seq ?_
  refine CJ.seq ?_
  refine CJ.region ?_
  refine J.val (v := vxa_0) rfl rfl (V.mv rfl) ?_
  refine J.val (v := .bool xa.isNone) rfl rfl (V.kp_eql Try.underlying24 fxa_0 rfl rfl) ?_
  refine J.nil ?_
  refine CJ.cond rfl (fun hc13 => ?_) (fun hc13 => ?_)
  · have h := ct hc13 h
    refine CJ.seq ?_
    refine CJ.region ?_
    refine J.val (v := .int .i64 0) rfl rfl (V.as rfl) ?_
    refine J.nil ?_
    refine CJ.ret ?_
    have e := Option.some.inj h
    subst e
    exact ⟨_, [], Res.one rfl rfl, ⟨0, rfl, rfl, rfl⟩, (Hp.le_refl _), fun w hs => hs⟩
  · have h := cf hc13 h
    refine CJ.skip ?_
    refine CJ.seq ?_
    refine CJ.region ?_
    refine J.val (v := vxa_0) rfl rfl (V.mv rfl) ?_
    obtain ⟨y14, hy15, h⟩ := ob h
    obtain ⟨b16, o17, hv18, a19⟩ := Is.psome fxa_0 hy15
    refine J.val rfl rfl (V.nck hv18) ?_
    refine J.val rfl rfl (V.fad Try.underlying50 rfl nz45 rfl) ?_
    obtain ⟨ad20, cp21, c22, f23⟩ := (((a19).snd).fst).sl
    refine J.val (v := .slice ad20 y14.2.1.length cp21) rfl rfl (V.ld rfl (Ld.sc sc45 (Rd.k c22 (Hp.le_refl _)))) ?_
    refine J.val (v := .int .i64 (((y14.2.1.length : Nat) : Int))) rfl rfl (V.len Try.underlying45 rfl) ?_
    refine J.val (v := .int .i64 (((y14.2.1.length : Nat) : Int))) rfl rfl (V.as rfl) ?_
    refine J.nil ?_
    refine CJ.ret ?_
    have e := Option.some.inj h
    subst e
    exact ⟨_, [], Res.one rfl rfl, ⟨((y14.2.1.length : Nat) : Int), rfl, rfl, rfl⟩, (Hp.le_refl _), fun w hs => hs⟩

noncomputable def fn_law10_awake  : Option Bool :=
  (fn_law10_Of 3 (([(0, 1), (0, 2), (2, 0)] : List (Int × Int)))).bind fun (p203, i204) => (cond (decide (i204 = 0)) ((fn_graph_Graph_Out p203 0).bind fun l241 => (fn_ref01_Same l241 ([0, 1] : List Int)).bind fun t260 => some (t260)) (some (false))).bind fun t236 => (cond (t236) ((fn_graph_Graph_In p203 0).bind fun l295 => (fn_ref01_Same l295 ([2] : List Int)).bind fun t314 => some (t314)) (some (false))).bind fun t290 => (cond (t290) ((fn_graph_Graph_Reach p203 1).bind fun l349 => (fn_ref01_Same l349 ([1] : List Int)).bind fun t368 => some (t368)) (some (false))).bind fun t344 => (cond (t344) ((fn_graph_Graph_Arcs p203).bind fun i384 => some (decide (i384 = 3))) (some (false))).bind fun t379 => some (t379)
set_option maxRecDepth 100000 in
set_option maxHeartbeats 4000000 in
theorem law10_awake_ok {K : Hp}    {r : Bool} (h : fn_law10_awake = some r) :
    Tr Try.prog 6 #[] K [] (fun v K' L' => (∃ (t194 : Bool), t194 = r ∧ .bool t194 = v ∧ L' = []) ∧ K = K') := by
  refine Tr.k ?_
  refine Tr.of Try.func6 rfl Try.ntmps6 rfl (fun E F => ?_)
  unfold fn_law10_awake at h
  refine CJ.seq ?_
  refine CJ.region ?_
  refine J.val (v := .bool false) rfl rfl (V.as rfl) ?_
  refine J.nil ?_
  refine CJ.seq ?_
  refine CJ.region ?_
  refine J.val (v := .agg #[.int .i64 0, .int .i64 1]) rfl rfl (V.build inf37 places37 rfl rfl) ?_
  refine J.val (v := .agg #[.int .i64 0, .int .i64 2]) rfl rfl (V.build inf37 places37 rfl rfl) ?_
  refine J.val (v := .agg #[.int .i64 2, .int .i64 0]) rfl rfl (V.build inf37 places37 rfl rfl) ?_
  refine J.op rfl (A.lit (K0 := Hp.nil) (ty := (.cons (.int .i64) (.one (.int .i64)))) (xs := ([(0, 1), (0, 2), (2, 0)] : List (Int × Int))) Try.underlying22 inf37 rfl (by decide) rfl rfl rfl ⟨_, _, rfl, ⟨_, _, rfl, rfl, rfl, rfl⟩, ⟨_, _, rfl, ⟨_, _, rfl, rfl, rfl, rfl⟩, ⟨_, _, rfl, ⟨_, _, rfl, rfl, rfl, rfl⟩, rfl⟩⟩⟩ rfl (by decide)) ?_
  rintro _ _ _ ⟨b195, rfl, rfl, rfl⟩
  have hn196 : ([(0, 1), (0, 2), (2, 0)] : List (Int × Int)) ≠ [] → ∃ g, (some ⟨b195, 0, none⟩ : Option Addr) = some ⟨g, 0, none⟩ := fun _ => ⟨b195, rfl⟩
  refine J.persist (Hp.nil_le _) (by decide) (fun K198 hK199 f200 => ?_)
  obtain ⟨r201, hr202, h⟩ := ob h
  refine J.op rfl (A.call (L1 := []) Try.call7 rfl (law10_Of_ok f200 hr202) rfl rfl) ?_
  rintro _ K208 _ ⟨v207, _, rfl, ⟨p203, i204, v205, rfl, rfl, f206, rfl⟩, hK209, rfl⟩
  refine J.val (v := .tuple #[v205, .int .i64 i204]) rfl rfl (V.mv rfl) ?_
  refine J.val (v := v205) rfl rfl (V.ext rfl rfl) ?_
  refine J.val (v := .int .i64 i204) rfl rfl (V.ext rfl rfl) ?_
  refine J.val (v := v205) rfl rfl (V.as rfl) ?_
  refine J.val (v := .int .i64 i204) rfl rfl (V.as rfl) ?_
  refine J.nil ?_
  refine CJ.seq ?_
  refine CJ.region ?_
  refine J.val (v := .int .i64 i204) rfl rfl (V.mv rfl) ?_
  refine J.val (v := .bool (decide (i204 = 0))) rfl rfl (V.eql rfl rfl) ?_
  refine J.val (v := .bool (decide (i204 = 0))) rfl rfl (V.mv rfl) ?_
  refine J.cut 5 ?_
  obtain ⟨t236, ht237, h⟩ := ob h
  refine @J.meet _ _ _ _ _ _ _ _ _ _ (fun ρ K' L' => Fits [(18, .bool t236), (1, v205)] ρ ∧ K208 = K' ∧ F = L') ?_ ?_
  · skip
    rcases bt (decide (i204 = 0)) with hc238 | hc238
    · have ht237 := ct hc238 ht237
      refine J.run rfl rfl rfl hc238 ?_
      refine J.val (v := v205) rfl rfl (V.mv rfl) ?_
      refine J.run rfl rfl rfl hc238 ?_
      obtain ⟨r239, hr240, ht237⟩ := ob ht237
      refine J.op rfl (A.call (L1 := []) Try.call11 rfl (graph_Graph_Out_ok f206 hr240) rfl rfl) ?_
      rintro _ _ _ ⟨v245, _, rfl, ⟨⟨l241, ad242, cp243, rfl, rfl, rfl⟩, rfl⟩, _, rfl⟩
      refine J.wit Row.hn (fun hn244 => ?_)
      refine J.run rfl rfl rfl hc238 ?_
      refine J.op rfl (A.lit (K0 := Hp.nil) (ty := (.int .i64)) (xs := ([0, 1] : List Int)) Try.underlying30 inf3 rfl (by decide) rfl rfl rfl ⟨_, _, rfl, rfl, ⟨_, _, rfl, rfl, rfl⟩⟩ rfl (by decide)) ?_
      rintro _ _ _ ⟨b249, rfl, rfl, rfl⟩
      have hn250 : ([0, 1] : List Int) ≠ [] → ∃ g, (some ⟨b249, 0, none⟩ : Option Addr) = some ⟨g, 0, none⟩ := fun _ => ⟨b249, rfl⟩
      refine J.run rfl rfl rfl hc238 ?_
      obtain ⟨r252, hr253, ht237⟩ := ob ht237
      refine J.front 1 rfl ?_
      refine J.op rfl (A.call (L1 := [Row Hp.nil 3 (.int .i64) (.slice ad242 l241.length cp243) l241, Row Hp.nil 3 (.int .i64) (.slice (some ⟨b249, 0, none⟩) (([0, 1] : List Int).length) 2) ([0, 1] : List Int)]) Try.call17 rfl (Tr.lend (Hp.nil_le _) (by decide) (fun K254 hK255 f256 => Tr.lend (Hp.nil_le _) (by decide) (fun K257 hK258 f259 => ref01_Same_ok (f256.mono hK258) f259 hr253))) rfl rfl) ?_
      rintro _ _ _ ⟨v261, _, rfl, ⟨⟨_, ⟨_, ⟨t260, rfl, rfl, rfl⟩, rfl⟩, rfl⟩, rfl⟩, _, rfl⟩
      refine J.val (v := .bool t260) rfl rfl (V.pickT rfl hc238 rfl) ?_
      refine J.dropAt 0 rfl ?_
      refine J.dropAt 0 rfl ?_
      refine J.nil ?_
      have e := Option.some.inj ht237
      subst e
      exact ⟨rfl, ⟨rfl, rfl, trivial⟩, rfl, rfl⟩
    · have ht237 := cf hc238 ht237
      refine J.skip rfl rfl rfl rfl hc238 ?_
      refine J.skip rfl rfl rfl rfl hc238 ?_
      refine J.skip rfl rfl rfl rfl hc238 ?_
      refine J.skip rfl rfl rfl rfl hc238 ?_
      refine J.val (v := .bool false) rfl rfl (V.pickF rfl hc238 rfl) ?_
      refine J.nil ?_
      have e := Option.some.inj ht237
      subst e
      exact ⟨rfl, ⟨rfl, rfl, trivial⟩, rfl, rfl⟩
  · rintro ρ _ _ ⟨hf, rfl, rfl⟩
    obtain ⟨ρ, rfl⟩ := hf.ex
    refine J.val (v := .bool t236) rfl rfl (V.mv rfl) ?_
    refine J.cut 5 ?_
    obtain ⟨t290, ht291, h⟩ := ob h
    refine @J.meet _ _ _ _ _ _ _ _ _ _ (fun ρ K' L' => Fits [(24, .bool t290), (1, v205)] ρ ∧ K208 = K' ∧ F = L') ?_ ?_
    · skip
      rcases bt (t236) with hc292 | hc292
      · have ht291 := ct hc292 ht291
        refine J.run rfl rfl rfl hc292 ?_
        refine J.val (v := v205) rfl rfl (V.mv rfl) ?_
        refine J.run rfl rfl rfl hc292 ?_
        obtain ⟨r293, hr294, ht291⟩ := ob ht291
        refine J.op rfl (A.call (L1 := []) Try.call12 rfl (graph_Graph_In_ok f206 hr294) rfl rfl) ?_
        rintro _ _ _ ⟨v299, _, rfl, ⟨⟨l295, ad296, cp297, rfl, rfl, rfl⟩, rfl⟩, _, rfl⟩
        refine J.wit Row.hn (fun hn298 => ?_)
        refine J.run rfl rfl rfl hc292 ?_
        refine J.op rfl (A.lit (K0 := Hp.nil) (ty := (.int .i64)) (xs := ([2] : List Int)) Try.underlying30 inf3 rfl (by decide) rfl rfl rfl ⟨_, _, rfl, rfl, rfl⟩ rfl (by decide)) ?_
        rintro _ _ _ ⟨b303, rfl, rfl, rfl⟩
        have hn304 : ([2] : List Int) ≠ [] → ∃ g, (some ⟨b303, 0, none⟩ : Option Addr) = some ⟨g, 0, none⟩ := fun _ => ⟨b303, rfl⟩
        refine J.run rfl rfl rfl hc292 ?_
        obtain ⟨r306, hr307, ht291⟩ := ob ht291
        refine J.front 1 rfl ?_
        refine J.op rfl (A.call (L1 := [Row Hp.nil 3 (.int .i64) (.slice ad296 l295.length cp297) l295, Row Hp.nil 3 (.int .i64) (.slice (some ⟨b303, 0, none⟩) (([2] : List Int).length) 1) ([2] : List Int)]) Try.call17 rfl (Tr.lend (Hp.nil_le _) (by decide) (fun K308 hK309 f310 => Tr.lend (Hp.nil_le _) (by decide) (fun K311 hK312 f313 => ref01_Same_ok (f310.mono hK312) f313 hr307))) rfl rfl) ?_
        rintro _ _ _ ⟨v315, _, rfl, ⟨⟨_, ⟨_, ⟨t314, rfl, rfl, rfl⟩, rfl⟩, rfl⟩, rfl⟩, _, rfl⟩
        refine J.val (v := .bool t314) rfl rfl (V.pickT rfl hc292 rfl) ?_
        refine J.dropAt 0 rfl ?_
        refine J.dropAt 0 rfl ?_
        refine J.nil ?_
        have e := Option.some.inj ht291
        subst e
        exact ⟨rfl, ⟨rfl, rfl, trivial⟩, rfl, rfl⟩
      · have ht291 := cf hc292 ht291
        refine J.skip rfl rfl rfl rfl hc292 ?_
        refine J.skip rfl rfl rfl rfl hc292 ?_
        refine J.skip rfl rfl rfl rfl hc292 ?_
        refine J.skip rfl rfl rfl rfl hc292 ?_
        refine J.val (v := .bool false) rfl rfl (V.pickF rfl hc292 rfl) ?_
        refine J.nil ?_
        have e := Option.some.inj ht291
        subst e
        exact ⟨rfl, ⟨rfl, rfl, trivial⟩, rfl, rfl⟩
    · rintro ρ _ _ ⟨hf, rfl, rfl⟩
      obtain ⟨ρ, rfl⟩ := hf.ex
      refine J.val (v := .bool t290) rfl rfl (V.mv rfl) ?_
      refine J.cut 5 ?_
      obtain ⟨t344, ht345, h⟩ := ob h
      refine @J.meet _ _ _ _ _ _ _ _ _ _ (fun ρ K' L' => Fits [(30, .bool t344), (1, v205)] ρ ∧ K208 = K' ∧ F = L') ?_ ?_
      · skip
        rcases bt (t290) with hc346 | hc346
        · have ht345 := ct hc346 ht345
          refine J.run rfl rfl rfl hc346 ?_
          refine J.val (v := v205) rfl rfl (V.mv rfl) ?_
          refine J.run rfl rfl rfl hc346 ?_
          obtain ⟨r347, hr348, ht345⟩ := ob ht345
          refine J.op rfl (A.call (L1 := []) Try.call14 rfl (graph_Graph_Reach_ok f206 hr348) rfl rfl) ?_
          rintro _ _ _ ⟨v353, _, rfl, ⟨⟨l349, ad350, cp351, rfl, rfl, rfl⟩, rfl⟩, _, rfl⟩
          refine J.wit Row.hn (fun hn352 => ?_)
          refine J.run rfl rfl rfl hc346 ?_
          refine J.op rfl (A.lit (K0 := Hp.nil) (ty := (.int .i64)) (xs := ([1] : List Int)) Try.underlying30 inf3 rfl (by decide) rfl rfl rfl ⟨_, _, rfl, rfl, rfl⟩ rfl (by decide)) ?_
          rintro _ _ _ ⟨b357, rfl, rfl, rfl⟩
          have hn358 : ([1] : List Int) ≠ [] → ∃ g, (some ⟨b357, 0, none⟩ : Option Addr) = some ⟨g, 0, none⟩ := fun _ => ⟨b357, rfl⟩
          refine J.run rfl rfl rfl hc346 ?_
          obtain ⟨r360, hr361, ht345⟩ := ob ht345
          refine J.front 1 rfl ?_
          refine J.op rfl (A.call (L1 := [Row Hp.nil 3 (.int .i64) (.slice ad350 l349.length cp351) l349, Row Hp.nil 3 (.int .i64) (.slice (some ⟨b357, 0, none⟩) (([1] : List Int).length) 1) ([1] : List Int)]) Try.call17 rfl (Tr.lend (Hp.nil_le _) (by decide) (fun K362 hK363 f364 => Tr.lend (Hp.nil_le _) (by decide) (fun K365 hK366 f367 => ref01_Same_ok (f364.mono hK366) f367 hr361))) rfl rfl) ?_
          rintro _ _ _ ⟨v369, _, rfl, ⟨⟨_, ⟨_, ⟨t368, rfl, rfl, rfl⟩, rfl⟩, rfl⟩, rfl⟩, _, rfl⟩
          refine J.val (v := .bool t368) rfl rfl (V.pickT rfl hc346 rfl) ?_
          refine J.dropAt 0 rfl ?_
          refine J.dropAt 0 rfl ?_
          refine J.nil ?_
          have e := Option.some.inj ht345
          subst e
          exact ⟨rfl, ⟨rfl, rfl, trivial⟩, rfl, rfl⟩
        · have ht345 := cf hc346 ht345
          refine J.skip rfl rfl rfl rfl hc346 ?_
          refine J.skip rfl rfl rfl rfl hc346 ?_
          refine J.skip rfl rfl rfl rfl hc346 ?_
          refine J.skip rfl rfl rfl rfl hc346 ?_
          refine J.val (v := .bool false) rfl rfl (V.pickF rfl hc346 rfl) ?_
          refine J.nil ?_
          have e := Option.some.inj ht345
          subst e
          exact ⟨rfl, ⟨rfl, rfl, trivial⟩, rfl, rfl⟩
      · rintro ρ _ _ ⟨hf, rfl, rfl⟩
        obtain ⟨ρ, rfl⟩ := hf.ex
        refine J.val (v := .bool t344) rfl rfl (V.mv rfl) ?_
        refine J.cut 4 ?_
        obtain ⟨t379, ht380, h⟩ := ob h
        refine @J.meet _ _ _ _ _ _ _ _ _ _ (fun ρ K' L' => Fits [(35, .bool t379)] ρ ∧ K208 = K' ∧ F = L') ?_ ?_
        · skip
          rcases bt (t344) with hc381 | hc381
          · have ht380 := ct hc381 ht380
            refine J.run rfl rfl rfl hc381 ?_
            refine J.val (v := v205) rfl rfl (V.mv rfl) ?_
            refine J.run rfl rfl rfl hc381 ?_
            obtain ⟨r382, hr383, ht380⟩ := ob ht380
            refine J.op rfl (A.call (L1 := []) Try.call10 rfl (graph_Graph_Arcs_ok f206 hr383) rfl rfl) ?_
            rintro _ _ _ ⟨v385, _, rfl, ⟨⟨i384, rfl, rfl, rfl⟩, rfl⟩, _, rfl⟩
            refine J.run rfl rfl rfl hc381 ?_
            refine J.val (v := .bool (decide (i384 = 3))) rfl rfl (V.eql rfl rfl) ?_
            refine J.val (v := .bool (decide (i384 = 3))) rfl rfl (V.pickT rfl hc381 rfl) ?_
            refine J.nil ?_
            have e := Option.some.inj ht380
            subst e
            exact ⟨rfl, ⟨rfl, trivial⟩, rfl, rfl⟩
          · have ht380 := cf hc381 ht380
            refine J.skip rfl rfl rfl rfl hc381 ?_
            refine J.skip rfl rfl rfl rfl hc381 ?_
            refine J.skip rfl rfl rfl rfl hc381 ?_
            refine J.val (v := .bool false) rfl rfl (V.pickF rfl hc381 rfl) ?_
            refine J.nil ?_
            have e := Option.some.inj ht380
            subst e
            exact ⟨rfl, ⟨rfl, trivial⟩, rfl, rfl⟩
        · rintro ρ _ _ ⟨hf, rfl, rfl⟩
          obtain ⟨ρ, rfl⟩ := hf.ex
          refine J.val (v := .bool t379) rfl rfl (V.as rfl) ?_
          refine J.nil ?_
          refine CJ.ret ?_
          have e := Option.some.inj h
          subst e
          exact ⟨_, [], Res.one rfl rfl, ⟨t379, rfl, rfl, rfl⟩, (hK199.trans hK209), fun w hs => hs⟩
end Go.Proofs.Ytoghdhopojoggaa
