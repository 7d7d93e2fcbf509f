/- What Go functions answer: generated. -/
import Derived.Test.YtgeofnfjgjodgaaF2
namespace Go.Proofs.Ytgeofnfjgjodgaa
open Go.RowKit
set_option linter.unusedVariables false
set_option linter.unnecessarySimpa false
set_option linter.unusedSimpArgs false
set_option maxRecDepth 20000
noncomputable def fn_ref16_slots_rkkii_l1 (xb : (List (Int × Bool))) (xc : (List (Int × Bool))) (xd : Int) (xe : Int) : ((List (Int × Int × Int × Int × Bool)) × Int) → Option (((List (Int × Int × Int × Int × Bool)) × Int) ⊕ (List (Int × Int × Int × Int × Bool))) := fun ((l1164, i1169) : ((List (Int × Int × Int × Int × Bool)) × Int)) => cond (decide (i1169 < (((xb.length : Nat) : Int)))) ((getI xb i1169).bind fun x1309 => (getI xc i1169).bind fun x1318 => (app l1164 (([(x1309.1, x1318.1, xd, IntKind.wrap .i64 (xe + i1169), false)] : List (Int × Int × Int × Int × Bool)))).bind fun z1330 => (getI xc i1169).bind fun x1336 => cond (x1336.2) ((getI xc i1169).bind fun x1367 => (getI xb i1169).bind fun x1376 => (app z1330 (([(x1367.1, x1376.1, xd, IntKind.wrap .i64 (xe + i1169), true)] : List (Int × Int × Int × Int × Bool)))).bind fun z1388 => some (.inl ((z1388, IntKind.wrap .i64 (i1169 + 1))))) (some (.inl ((z1330, IntKind.wrap .i64 (i1169 + 1)))))) (some (.inr (l1164)))
noncomputable def fn_ref16_slots_rkkii (xb : (List (Int × Bool))) (xc : (List (Int × Bool))) (xd : Int) (xe : Int) (qxa : (List (Int × Int × Int × Int × Bool))) : Option ((List (Int × Int × Int × Int × Bool))) :=
  (loop (fn_ref16_slots_rkkii_l1 xb xc xd xe) (qxa, 0) : Option ((List (Int × Int × Int × Int × Bool)))).bind fun l1044 => some (l1044)
set_option maxRecDepth 100000 in
set_option maxHeartbeats 4000000 in
theorem ref16_slots_rkkii_ok {K : Hp} {xb : (List (Int × Bool))} {xc : (List (Int × Bool))} {xd : Int} {xe : Int} {qxa : (List (Int × Int × Int × Int × Bool))} {adxb_0 : Option Addr} {cpxb_0 : Nat} {adxc_0 : Option Addr} {cpxc_0 : Nat} {adqxa : Option Addr} {cpqxa : Nat} (fxb_0 : Is K (.sl (.cons (.int .i64) (.one .bool))) [.slice adxb_0 xb.length cpxb_0] xb) (fxc_0 : Is K (.sl (.cons (.int .i64) (.one .bool))) [.slice adxc_0 xc.length cpxc_0] xc) {r : (List (Int × Int × Int × Int × Bool))} (h : fn_ref16_slots_rkkii xb xc xd xe qxa = some r) :
    Tr Try.prog 52 #[.slice adqxa qxa.length cpqxa, .slice adxb_0 xb.length cpxb_0, .slice adxc_0 xc.length cpxc_0, .int .i64 xd, .int .i64 xe] K [Row Hp.nil 66 (.cons (.int .i64) (.cons (.int .i64) (.cons (.int .i64) (.cons (.int .i64) (.one .bool))))) (.slice adqxa qxa.length cpqxa) qxa] (fun v K' L' => (∃ (l696 : (List (Int × Int × Int × Int × Bool))) (ad697 : Option Addr) (cp698 : Nat), l696 = r ∧ .slice ad697 l696.length cp698 = v ∧ L' = [Row Hp.nil 66 (.cons (.int .i64) (.cons (.int .i64) (.cons (.int .i64) (.cons (.int .i64) (.one .bool))))) (.slice ad697 l696.length cp698) l696]) ∧ K = K') := by
  refine Tr.k ?_
  refine Tr.of Try.func52 rfl Try.ntmps52 rfl (fun E F => ?_)
  unfold fn_ref16_slots_rkkii at h
  refine CJ.wit Row.hn (fun hnqxa => ?_)
  refine CJ.seq ?_
  refine CJ.region ?_
  refine J.val (v := .slice none 0 0) rfl rfl (V.as rfl) ?_
  refine J.nil ?_
  refine CJ.seq ?_
  refine CJ.seq ?_
  refine CJ.region ?_
  refine J.val (v := .int .i64 0) rfl rfl (V.as rfl) ?_
  refine J.nil ?_
  obtain ⟨o1049, ho1050, h⟩ := ob h
  refine CJ.meetN (fun ρ K' L' => ∃ (l1044 : (List (Int × Int × Int × Int × Bool))) (ad1045 : Option Addr) (cp1046 : Nat), l1044 = o1049 ∧ Fits [(0, .slice ad1045 l1044.length cp1046)] ρ ∧ K = K' ∧ L' = Row Hp.nil 66 (.cons (.int .i64) (.cons (.int .i64) (.cons (.int .i64) (.cons (.int .i64) (.one .bool))))) (.slice ad1045 l1044.length cp1046) l1044 :: F) ?_ ?_
  · skip
    refine CJ.block ?_
    refine CJ.loop (fun s ρ K' L' => ∃ (l1164 : (List (Int × Int × Int × Int × Bool))) (i1169 : Int) (ad1165 : Option Addr) (cp1166 : Nat), (l1164, i1169) = s ∧ Fits [(0, .slice ad1165 l1164.length cp1166), (1, .slice adxb_0 xb.length cpxb_0), (2, .slice adxc_0 xc.length cpxc_0), (3, .int .i64 xd), (4, .int .i64 xe), (11, .int .i64 i1169)] ρ ∧ K = K' ∧ L' = Row Hp.nil 66 (.cons (.int .i64) (.cons (.int .i64) (.cons (.int .i64) (.cons (.int .i64) (.one .bool))))) (.slice ad1165 l1164.length cp1166) l1164 :: F) ho1050 ⟨qxa, 0, adqxa, cpqxa, rfl, ⟨rfl, rfl, rfl, rfl, rfl, rfl, trivial⟩, rfl, rfl⟩ ?_
    rintro s ρ _ _ r1286 ⟨l1164, i1169, ad1165, cp1166, rfl, hf1284, rfl, rfl⟩ h1283
    obtain ⟨ρ, rfl⟩ := hf1284.ex
    refine CJ.wit Row.hn (fun hn1168 => ?_)
    refine CJ.seq ?_
    refine CJ.seq ?_
    refine CJ.region ?_
    refine J.val (v := .int .i64 i1169) rfl rfl (V.mv rfl) ?_
    refine J.val (v := .slice adxb_0 xb.length cpxb_0) rfl rfl (V.mv rfl) ?_
    refine J.val (v := .int .i64 (((xb.length : Nat) : Int))) rfl rfl (V.len Try.underlying26 rfl) ?_
    refine J.val (v := .bool (decide (i1169 < (((xb.length : Nat) : Int))))) rfl rfl (V.lss rfl rfl) ?_
    refine J.nil ?_
    refine CJ.cond rfl (fun hc1287 => ?_) (fun hc1287 => ?_)
    · have h1283 := ct hc1287 h1283
      refine CJ.skip ?_
      refine CJ.seq ?_
      refine CJ.block ?_
      refine CJ.seq ?_
      refine CJ.mix [Row Hp.nil 66 (.cons (.int .i64) (.cons (.int .i64) (.cons (.int .i64) (.cons (.int .i64) (.one .bool))))) (.slice ad1165 l1164.length cp1166) l1164] [([0, 1, 2, 3, 4, 5, 6, 7, 8, 9, 10, 11, 12, 13, 14, 15], 16)] [] [17, 18] mixO (by decide +kernel) ⟨0, rfl, trivial⟩ rfl rfl rfl ?_
      refine JM.cons ?_
      refine JQ.val (v := .slice ad1165 l1164.length cp1166) rfl rfl (V.mv rfl) ?_
      refine JQ.val (v := .slice adxb_0 xb.length cpxb_0) rfl rfl (V.mv rfl) ?_
      refine JQ.val (v := .int .i64 i1169) rfl rfl (V.mv rfl) ?_
      obtain ⟨x1309, hx1310, h1283⟩ := ob h1283
      obtain ⟨p1311, p1312, p1313⟩ := getI_some hx1310
      obtain ⟨b1314, o1315, e1316, a1317⟩ := (fxb_0).at p1312
      refine JQ.val rfl rfl (V.iad Try.underlying26 sz111 rfl e1316 rfl p1311 p1313) ?_
      refine JQ.val rfl rfl (V.fad Try.underlying111 rfl nz3 rfl) ?_
      refine JQ.val (v := .int .i64 x1309.1) rfl rfl (V.ld rfl (Ld.sc sc3 (Rd.k ((a1317).fst).int (Hp.le_refl _)))) ?_
      refine JQ.val (v := .slice adxc_0 xc.length cpxc_0) rfl rfl (V.mv rfl) ?_
      refine JQ.val (v := .int .i64 i1169) rfl rfl (V.mv rfl) ?_
      obtain ⟨x1318, hx1319, h1283⟩ := ob h1283
      obtain ⟨p1320, p1321, p1322⟩ := getI_some hx1319
      obtain ⟨b1323, o1324, e1325, a1326⟩ := (fxc_0).at p1321
      refine JQ.val rfl rfl (V.iad Try.underlying26 sz111 rfl e1325 rfl p1320 p1322) ?_
      refine JQ.val rfl rfl (V.fad Try.underlying111 rfl nz3 rfl) ?_
      refine JQ.val (v := .int .i64 x1318.1) rfl rfl (V.ld rfl (Ld.sc sc3 (Rd.k ((a1326).fst).int (Hp.le_refl _)))) ?_
      refine JQ.val (v := .int .i64 xd) rfl rfl (V.mv rfl) ?_
      refine JQ.val (v := .int .i64 xe) rfl rfl (V.mv rfl) ?_
      refine JQ.val (v := .int .i64 i1169) rfl rfl (V.mv rfl) ?_
      refine JQ.val (v := .int .i64 (IntKind.wrap .i64 (xe + i1169))) rfl rfl (V.add rfl rfl) ?_
      refine JQ.val (v := .agg #[.int .i64 x1309.1, .int .i64 x1318.1, .int .i64 xd, .int .i64 (IntKind.wrap .i64 (xe + i1169)), .bool false]) rfl rfl (V.build inf66 places66 rfl rfl) ?_
      refine JQ.nil ?_
      refine JA.op rfl (A.lit (K0 := Hp.nil) (ty := (.cons (.int .i64) (.cons (.int .i64) (.cons (.int .i64) (.cons (.int .i64) (.one .bool)))))) (xs := ([(x1309.1, x1318.1, xd, IntKind.wrap .i64 (xe + i1169), false)] : List (Int × Int × Int × Int × Bool))) Try.underlying39 inf66 rfl (by decide) rfl rfl rfl ⟨_, _, rfl, ⟨_, _, rfl, rfl, rfl, ⟨_, _, rfl, rfl, rfl, ⟨_, _, rfl, rfl, rfl, ⟨_, _, rfl, rfl, rfl, rfl⟩⟩⟩⟩, rfl⟩ rfl (by decide)) ?_
      rintro _ _ _ ⟨b1327, rfl, rfl, rfl⟩
      have hn1328 : ([(x1309.1, x1318.1, xd, IntKind.wrap .i64 (xe + i1169), false)] : List (Int × Int × Int × Int × Bool)) ≠ [] → ∃ g, (some ⟨b1327, 0, none⟩ : Option Addr) = some ⟨g, 0, none⟩ := fun _ => ⟨b1327, rfl⟩
      refine ⟨fun w hs => Hold.sub (Hp.le_refl _) ⟨1, rfl, trivial⟩ hs, ?_⟩
      refine JM.nil ?_
      refine JQ.nil ?_
      obtain ⟨z1330, hz1331, h1283⟩ := ob h1283
      refine J.front 1 rfl ?_
      refine J.op rfl (A.appR (Kr := Hp.nil) Try.underlying39 inf66 rfl rfl (by decide) (by decide) rfl rfl (Els.flat rfl) (Els.flat rfl) hz1331) ?_
      rintro _ _ _ ⟨v1332, rfl, rfl, rfl⟩
      refine J.wit Row.form ?_
      rintro ⟨ad1333, cp1334, rfl, _, _, hn1335⟩
      refine J.val (v := .slice ad1333 z1330.length cp1334) rfl rfl (V.as rfl) ?_
      refine J.nil ?_
      refine CJ.seq ?_
      refine CJ.region ?_
      refine J.val (v := .slice adxc_0 xc.length cpxc_0) rfl rfl (V.mv rfl) ?_
      refine J.val (v := .int .i64 i1169) rfl rfl (V.mv rfl) ?_
      obtain ⟨x1336, hx1337, h1283⟩ := ob h1283
      obtain ⟨p1338, p1339, p1340⟩ := getI_some hx1337
      obtain ⟨b1341, o1342, e1343, a1344⟩ := (fxc_0).at p1339
      refine J.val rfl rfl (V.iad Try.underlying26 sz111 rfl e1343 rfl p1338 p1340) ?_
      refine J.val rfl rfl (V.fad Try.underlying111 rfl nz4 rfl) ?_
      refine J.val (v := .bool x1336.2) rfl rfl (V.ld rfl (Ld.sc sc4 (Rd.k (((a1344).snd).one).bool (Hp.le_refl _)))) ?_
      refine J.nil ?_
      refine CJ.cond rfl (fun hc1345 => ?_) (fun hc1345 => ?_)
      · have h1283 := ct hc1345 h1283
        refine CJ.mix [Row Hp.nil 66 (.cons (.int .i64) (.cons (.int .i64) (.cons (.int .i64) (.cons (.int .i64) (.one .bool))))) (.slice ad1333 z1330.length cp1334) z1330] [([0, 1, 2, 3, 4, 5, 6, 7, 8, 9, 10, 11, 12, 13, 14, 15], 16)] [] [17, 18] mixO (by decide +kernel) ⟨0, rfl, trivial⟩ rfl rfl rfl ?_
        refine JM.cons ?_
        refine JQ.val (v := .slice ad1333 z1330.length cp1334) rfl rfl (V.mv rfl) ?_
        refine JQ.val (v := .slice adxc_0 xc.length cpxc_0) rfl rfl (V.mv rfl) ?_
        refine JQ.val (v := .int .i64 i1169) rfl rfl (V.mv rfl) ?_
        obtain ⟨x1367, hx1368, h1283⟩ := ob h1283
        obtain ⟨p1369, p1370, p1371⟩ := getI_some hx1368
        obtain ⟨b1372, o1373, e1374, a1375⟩ := (fxc_0).at p1370
        refine JQ.val rfl rfl (V.iad Try.underlying26 sz111 rfl e1374 rfl p1369 p1371) ?_
        refine JQ.val rfl rfl (V.fad Try.underlying111 rfl nz3 rfl) ?_
        refine JQ.val (v := .int .i64 x1367.1) rfl rfl (V.ld rfl (Ld.sc sc3 (Rd.k ((a1375).fst).int (Hp.le_refl _)))) ?_
        refine JQ.val (v := .slice adxb_0 xb.length cpxb_0) rfl rfl (V.mv rfl) ?_
        refine JQ.val (v := .int .i64 i1169) rfl rfl (V.mv rfl) ?_
        obtain ⟨x1376, hx1377, h1283⟩ := ob h1283
        obtain ⟨p1378, p1379, p1380⟩ := getI_some hx1377
        obtain ⟨b1381, o1382, e1383, a1384⟩ := (fxb_0).at p1379
        refine JQ.val rfl rfl (V.iad Try.underlying26 sz111 rfl e1383 rfl p1378 p1380) ?_
        refine JQ.val rfl rfl (V.fad Try.underlying111 rfl nz3 rfl) ?_
        refine JQ.val (v := .int .i64 x1376.1) rfl rfl (V.ld rfl (Ld.sc sc3 (Rd.k ((a1384).fst).int (Hp.le_refl _)))) ?_
        refine JQ.val (v := .int .i64 xd) rfl rfl (V.mv rfl) ?_
        refine JQ.val (v := .int .i64 xe) rfl rfl (V.mv rfl) ?_
        refine JQ.val (v := .int .i64 i1169) rfl rfl (V.mv rfl) ?_
        refine JQ.val (v := .int .i64 (IntKind.wrap .i64 (xe + i1169))) rfl rfl (V.add rfl rfl) ?_
        refine JQ.val (v := .agg #[.int .i64 x1367.1, .int .i64 x1376.1, .int .i64 xd, .int .i64 (IntKind.wrap .i64 (xe + i1169)), .bool true]) rfl rfl (V.build inf66 places66 rfl rfl) ?_
        refine JQ.nil ?_
        refine JA.op rfl (A.lit (K0 := Hp.nil) (ty := (.cons (.int .i64) (.cons (.int .i64) (.cons (.int .i64) (.cons (.int .i64) (.one .bool)))))) (xs := ([(x1367.1, x1376.1, xd, IntKind.wrap .i64 (xe + i1169), true)] : List (Int × Int × Int × Int × Bool))) Try.underlying39 inf66 rfl (by decide) rfl rfl rfl ⟨_, _, rfl, ⟨_, _, rfl, rfl, rfl, ⟨_, _, rfl, rfl, rfl, ⟨_, _, rfl, rfl, rfl, ⟨_, _, rfl, rfl, rfl, rfl⟩⟩⟩⟩, rfl⟩ rfl (by decide)) ?_
        rintro _ _ _ ⟨b1385, rfl, rfl, rfl⟩
        have hn1386 : ([(x1367.1, x1376.1, xd, IntKind.wrap .i64 (xe + i1169), true)] : List (Int × Int × Int × Int × Bool)) ≠ [] → ∃ g, (some ⟨b1385, 0, none⟩ : Option Addr) = some ⟨g, 0, none⟩ := fun _ => ⟨b1385, rfl⟩
        refine ⟨fun w hs => Hold.sub (Hp.le_refl _) ⟨1, rfl, trivial⟩ hs, ?_⟩
        refine JM.nil ?_
        refine JQ.nil ?_
        obtain ⟨z1388, hz1389, h1283⟩ := ob h1283
        refine J.front 1 rfl ?_
        refine J.op rfl (A.appR (Kr := Hp.nil) Try.underlying39 inf66 rfl rfl (by decide) (by decide) rfl rfl (Els.flat rfl) (Els.flat rfl) hz1389) ?_
        rintro _ _ _ ⟨v1390, rfl, rfl, rfl⟩
        refine J.wit Row.form ?_
        rintro ⟨ad1391, cp1392, rfl, _, _, hn1393⟩
        refine J.val (v := .slice ad1391 z1388.length cp1392) rfl rfl (V.as rfl) ?_
        refine J.nil ?_
        refine CJ.region ?_
        refine J.val (v := .int .i64 i1169) rfl rfl (V.mv rfl) ?_
        refine J.val (v := .int .i64 (IntKind.wrap .i64 (i1169 + 1))) rfl rfl (V.add rfl rfl) ?_
        refine J.val (v := .int .i64 (IntKind.wrap .i64 (i1169 + 1))) rfl rfl (V.as rfl) ?_
        refine J.nil ?_
        have e := Option.some.inj h1283
        subst e
        exact ⟨rfl, ⟨z1388, IntKind.wrap .i64 (i1169 + 1), ad1391, cp1392, rfl, ⟨rfl, rfl, rfl, rfl, rfl, rfl, trivial⟩, rfl, rfl⟩⟩
      · have h1283 := cf hc1345 h1283
        refine CJ.skip ?_
        refine CJ.region ?_
        refine J.val (v := .int .i64 i1169) rfl rfl (V.mv rfl) ?_
        refine J.val (v := .int .i64 (IntKind.wrap .i64 (i1169 + 1))) rfl rfl (V.add rfl rfl) ?_
        refine J.val (v := .int .i64 (IntKind.wrap .i64 (i1169 + 1))) rfl rfl (V.as rfl) ?_
        refine J.nil ?_
        have e := Option.some.inj h1283
        subst e
        exact ⟨rfl, ⟨z1330, IntKind.wrap .i64 (i1169 + 1), ad1333, cp1334, rfl, ⟨rfl, rfl, rfl, rfl, rfl, rfl, trivial⟩, rfl, rfl⟩⟩
    · have h1283 := cf hc1287 h1283
      refine CJ.exit ?_
      have e := Option.some.inj h1283
      subst e
      refine ⟨nofun, fun e => ?_⟩
      subst e
      exact ⟨rfl, ⟨l1164, ad1165, cp1166, rfl, ⟨rfl, trivial⟩, rfl, rfl⟩⟩
  · rintro ρ _ _ ⟨l1044, ad1045, cp1046, rfl, hf1394, rfl, rfl⟩
    obtain ⟨ρ, rfl⟩ := hf1394.ex
    refine PJ.wit Row.hn (fun hn1048 => ?_)
    refine PJ.done ?_
    refine CJ.seq ?_
    refine CJ.region ?_
    refine J.val (v := .slice ad1045 l1044.length cp1046) rfl rfl (V.mv rfl) ?_
    refine J.val (v := .slice ad1045 l1044.length cp1046) rfl rfl (V.as rfl) ?_
    refine J.nil ?_
    refine CJ.ret ?_
    have e := Option.some.inj h
    subst e
    exact ⟨_, [Row Hp.nil 66 (.cons (.int .i64) (.cons (.int .i64) (.cons (.int .i64) (.cons (.int .i64) (.one .bool))))) (.slice ad1045 l1044.length cp1046) l1044], Res.one rfl rfl, ⟨l1044, ad1045, cp1046, rfl, rfl, rfl⟩, (Hp.le_refl _), fun w hs => hs⟩

noncomputable def fn_ref16_Flow (xa : (List (Int × Bool))) (xb : (List (Int × Bool))) (xc : Int) (xd : Int) : Option (((List (Int × Int × Int × Int × Bool)) × Int)) :=
  (fn_ref15_Shape xa xb).bind fun t34 => cond (!t34) (some (([], 8))) ((fn_ref16_slots_rkkii xa xb xc xd (([] : List (Int × Int × Int × Int × Bool)))).bind fun l45 => some ((l45, 0)))
set_option maxRecDepth 100000 in
set_option maxHeartbeats 4000000 in
theorem ref16_Flow_ok {K : Hp} {xa : (List (Int × Bool))} {xb : (List (Int × Bool))} {xc : Int} {xd : Int} {adxa_0 : Option Addr} {cpxa_0 : Nat} {adxb_0 : Option Addr} {cpxb_0 : Nat} (fxa_0 : Is K (.sl (.cons (.int .i64) (.one .bool))) [.slice adxa_0 xa.length cpxa_0] xa) (fxb_0 : Is K (.sl (.cons (.int .i64) (.one .bool))) [.slice adxb_0 xb.length cpxb_0] xb) {r : ((List (Int × Int × Int × Int × Bool)) × Int)} (h : fn_ref16_Flow xa xb xc xd = some r) :
    Tr Try.prog 28 #[.agg #[.slice adxa_0 xa.length cpxa_0], .agg #[.slice adxb_0 xb.length cpxb_0], .int .i64 xc, .int .i64 xd] K [] (fun v K' L' => (∃ (l24 : (List (Int × Int × Int × Int × Bool))) (i29 : Int) (ad25 : Option Addr) (cp26 : Nat), (l24, i29) = r ∧ .tuple #[.slice ad25 l24.length cp26, .int .i64 i29] = v ∧ L' = [Row Hp.nil 66 (.cons (.int .i64) (.cons (.int .i64) (.cons (.int .i64) (.cons (.int .i64) (.one .bool))))) (.slice ad25 l24.length cp26) l24]) ∧ K = K') := by
  refine Tr.k ?_
  refine Tr.of Try.func28 rfl Try.ntmps28 rfl (fun E F => ?_)
  unfold fn_ref16_Flow at h
  refine CJ.seq ?_
  refine CJ.region ?_
  refine J.op rfl (A.box (v := .agg #[.slice adxa_0 xa.length cpxa_0]) (cs := [.slice adxa_0 xa.length cpxa_0]) rfl rfl) ?_
  rintro _ _ _ ⟨b30, rfl, rfl, rfl⟩
  refine J.op rfl (A.box (v := .agg #[.slice adxb_0 xb.length cpxb_0]) (cs := [.slice adxb_0 xb.length cpxb_0]) rfl rfl) ?_
  rintro _ _ _ ⟨b31, rfl, rfl, rfl⟩
  refine J.val (v := .slice none 0 0) rfl rfl (V.as rfl) ?_
  refine J.val (v := .int .i64 0) rfl rfl (V.as rfl) ?_
  refine J.nil ?_
  refine CJ.seq ?_
  refine CJ.seq ?_
  refine CJ.region ?_
  refine J.val (v := .agg #[.slice adxa_0 xa.length cpxa_0]) rfl rfl (V.ld rfl (Ld.agg (cs := [.slice adxa_0 xa.length cpxa_0]) Try.underlying28 sz28 rfl (Rd.cls 1 0 rfl rfl))) ?_
  refine J.val (v := .agg #[.slice adxb_0 xb.length cpxb_0]) rfl rfl (V.ld rfl (Ld.agg (cs := [.slice adxb_0 xb.length cpxb_0]) Try.underlying28 sz28 rfl (Rd.cls 0 0 rfl rfl))) ?_
  obtain ⟨r32, hr33, h⟩ := ob h
  refine J.op rfl (A.call (L1 := []) Try.call51 rfl (ref15_Shape_ok fxa_0 fxb_0 hr33) rfl rfl) ?_
  rintro _ _ _ ⟨v35, _, rfl, ⟨⟨t34, rfl, rfl, rfl⟩, rfl⟩, _, rfl⟩
  refine J.val (v := .bool (!t34)) rfl rfl (V.not rfl) ?_
  refine J.nil ?_
  refine CJ.cond rfl (fun hc38 => ?_) (fun hc38 => ?_)
  · have h := ct hc38 h
    refine CJ.seq ?_
    refine CJ.region ?_
    refine J.val (v := .slice none 0 0) rfl rfl (V.as rfl) ?_
    refine J.val (v := .int .i64 8) rfl rfl (V.as rfl) ?_
    refine J.nil ?_
    refine CJ.by (fun w hs => Sep.rowNil (e := 66) (t := (.cons (.int .i64) (.cons (.int .i64) (.cons (.int .i64) (.cons (.int .i64) (.one .bool)))))) hs) ?_
    refine CJ.ret ?_
    have e := Option.some.inj h
    subst e
    exact ⟨_, [Row Hp.nil 66 (.cons (.int .i64) (.cons (.int .i64) (.cons (.int .i64) (.cons (.int .i64) (.one .bool))))) (.slice none ((([] : List (Int × Int × Int × Int × Bool))).length) 0) (([] : List (Int × Int × Int × Int × Bool)))], Res.two rfl rfl rfl, ⟨[], 8, none, 0, rfl, rfl, rfl⟩, (Hp.le_refl _), fun w hs => (Sep.dropAt 1 rfl (Sep.dropAt 1 rfl hs))⟩
  · have h := cf hc38 h
    refine CJ.skip ?_
    refine CJ.seq ?_
    refine CJ.region ?_
    refine J.op rfl (A.lit (K0 := Hp.nil) (ty := (.cons (.int .i64) (.cons (.int .i64) (.cons (.int .i64) (.cons (.int .i64) (.one .bool)))))) (xs := ([] : List (Int × Int × Int × Int × Bool))) Try.underlying39 inf66 rfl (by decide) rfl rfl rfl rfl rfl (by decide)) ?_
    rintro _ _ _ ⟨b40, rfl, rfl, rfl⟩
    have hn41 : ([] : List (Int × Int × Int × Int × Bool)) ≠ [] → ∃ g, (some ⟨b40, 0, none⟩ : Option Addr) = some ⟨g, 0, none⟩ := fun _ => ⟨b40, rfl⟩
    refine J.val rfl rfl (V.fad Try.underlying28 rfl nz26 rfl) ?_
    refine J.val (v := .slice adxa_0 xa.length cpxa_0) rfl rfl (V.ld rfl (Ld.sc sc26 (Rd.cl 2 rfl rfl))) ?_
    refine J.val rfl rfl (V.fad Try.underlying28 rfl nz26 rfl) ?_
    refine J.val (v := .slice adxb_0 xb.length cpxb_0) rfl rfl (V.ld rfl (Ld.sc sc26 (Rd.cl 1 rfl rfl))) ?_
    refine J.val (v := .int .i64 xc) rfl rfl (V.mv rfl) ?_
    refine J.val (v := .int .i64 xd) rfl rfl (V.mv rfl) ?_
    obtain ⟨r43, hr44, h⟩ := ob h
    refine J.op rfl (A.call (L1 := [Row Hp.nil 66 (.cons (.int .i64) (.cons (.int .i64) (.cons (.int .i64) (.cons (.int .i64) (.one .bool))))) (.slice (some ⟨b40, 0, none⟩) ((([] : List (Int × Int × Int × Int × Bool))).length) 0) (([] : List (Int × Int × Int × Int × Bool)))]) Try.call52 rfl (ref16_slots_rkkii_ok fxa_0 fxb_0 hr44) rfl rfl) ?_
    rintro _ _ _ ⟨v49, _, rfl, ⟨⟨l45, ad46, cp47, rfl, rfl, rfl⟩, rfl⟩, _, rfl⟩
    refine J.wit Row.hn (fun hn48 => ?_)
    refine J.val (v := .slice ad46 l45.length cp47) rfl rfl (V.as rfl) ?_
    refine J.val (v := .int .i64 0) rfl rfl (V.as rfl) ?_
    refine J.nil ?_
    refine CJ.ret ?_
    have e := Option.some.inj h
    subst e
    exact ⟨_, [Row Hp.nil 66 (.cons (.int .i64) (.cons (.int .i64) (.cons (.int .i64) (.cons (.int .i64) (.one .bool))))) (.slice ad46 l45.length cp47) l45], Res.two rfl rfl rfl, ⟨l45, 0, ad46, cp47, rfl, rfl, rfl⟩, (Hp.le_refl _), fun w hs => (Sep.dropAt 1 rfl (Sep.dropAt 1 rfl hs))⟩
noncomputable def fn_ref15_Check_l1 (xa : (List (Int × Bool))) (xb : Int) : Int → Option (Int ⊕ (Unit ⊕ Int)) := fun (i365 : Int) => cond (decide (i365 < (((xa.length : Nat) : Int)))) ((getI xa i365).bind fun x405 => (cond (decide (x405.1 < 0)) (some (true)) ((getI xa i365).bind fun x427 => some (decide (xb ≤ x427.1)))).bind fun t424 => cond (t424) (some (.inr ((.inr (7))))) (some (.inl (IntKind.wrap .i64 (i365 + 1))))) (some (.inr ((.inl ()))))
noncomputable def fn_ref15_Check (xa : (List (Int × Bool))) (xb : Int) : Option Int :=
  cond (decide (16 < (((xa.length : Nat) : Int)))) (some (6)) ((loop (fn_ref15_Check_l1 xa xb) 0 : Option (Unit ⊕ Int)).bind fun o => match o with | .inr r => some r | .inl () => some (0))
set_option maxRecDepth 100000 in
set_option maxHeartbeats 4000000 in
theorem ref15_Check_ok {K : Hp} {xa : (List (Int × Bool))} {xb : Int} {adxa_0 : Option Addr} {cpxa_0 : Nat} (fxa_0 : Is K (.sl (.cons (.int .i64) (.one .bool))) [.slice adxa_0 xa.length cpxa_0] xa) {r : Int} (h : fn_ref15_Check xa xb = some r) :
    Tr Try.prog 68 #[.agg #[.slice adxa_0 xa.length cpxa_0], .int .i64 xb] K [] (fun v K' L' => (∃ (i220 : Int), i220 = r ∧ .int .i64 i220 = v ∧ L' = []) ∧ K = K') := by
  refine Tr.k ?_
  refine Tr.of Try.func68 rfl Try.ntmps68 rfl (fun E F => ?_)
  unfold fn_ref15_Check at h
  refine CJ.seq ?_
  refine CJ.region ?_
  refine J.op rfl (A.box (v := .agg #[.slice adxa_0 xa.length cpxa_0]) (cs := [.slice adxa_0 xa.length cpxa_0]) rfl rfl) ?_
  rintro _ _ _ ⟨b221, rfl, rfl, rfl⟩
  refine J.val (v := .int .i64 0) rfl rfl (V.as rfl) ?_
  refine J.nil ?_
  refine CJ.seq ?_
  refine CJ.seq ?_
  refine CJ.region ?_
  refine J.val rfl rfl (V.fad Try.underlying28 rfl nz26 rfl) ?_
  refine J.val (v := .slice adxa_0 xa.length cpxa_0) rfl rfl (V.ld rfl (Ld.sc sc26 (Rd.cl 0 rfl rfl))) ?_
  refine J.val (v := .int .i64 (((xa.length : Nat) : Int))) rfl rfl (V.len Try.underlying26 rfl) ?_
  refine J.val (v := .bool (decide (16 < (((xa.length : Nat) : Int))))) rfl rfl (V.gtr rfl rfl) ?_
  refine J.nil ?_
  refine CJ.cond rfl (fun hc222 => ?_) (fun hc222 => ?_)
  · have h := ct hc222 h
    refine CJ.seq ?_
    refine CJ.region ?_
    refine J.val (v := .int .i64 6) rfl rfl (V.as rfl) ?_
    refine J.nil ?_
    refine CJ.ret ?_
    have e := Option.some.inj h
    subst e
    exact ⟨_, [], Res.one rfl rfl, ⟨6, rfl, rfl, rfl⟩, (Hp.le_refl _), fun w hs => (Sep.dropAt 0 rfl hs)⟩
  · have h := cf hc222 h
    refine CJ.skip ?_
    refine CJ.seq ?_
    refine CJ.seq ?_
    refine CJ.region ?_
    refine J.val (v := .int .i64 0) rfl rfl (V.as rfl) ?_
    refine J.nil ?_
    obtain ⟨o329, ho330, h⟩ := ob h
    refine CJ.joinN (o := o329) (fun s ρ K' L' => () = s ∧ Fits [] ρ ∧ K = K' ∧ F = L') ?_ ?_
    · skip
      refine CJ.block ?_
      refine CJ.loop (fun s ρ K' L' => ∃ (i365 : Int), i365 = s ∧ Fits [(1, .int .i64 xb), (2, .pointer (some ⟨b221, 0, none⟩)), (5, .int .i64 i365)] ρ ∧ K = K' ∧ L' = Cl b221 28 [.slice adxa_0 xa.length cpxa_0] :: F) ho330 ⟨0, rfl, ⟨rfl, rfl, rfl, trivial⟩, rfl, rfl⟩ ?_
      rintro s ρ _ _ r403 ⟨i365, rfl, hf401, rfl, rfl⟩ h400
      obtain ⟨ρ, rfl⟩ := hf401.ex
      refine CJ.seq ?_
      refine CJ.seq ?_
      refine CJ.region ?_
      refine J.val (v := .int .i64 i365) rfl rfl (V.mv rfl) ?_
      refine J.val rfl rfl (V.fad Try.underlying28 rfl nz26 rfl) ?_
      refine J.val (v := .slice adxa_0 xa.length cpxa_0) rfl rfl (V.ld rfl (Ld.sc sc26 (Rd.cl 0 rfl rfl))) ?_
      refine J.val (v := .int .i64 (((xa.length : Nat) : Int))) rfl rfl (V.len Try.underlying26 rfl) ?_
      refine J.val (v := .bool (decide (i365 < (((xa.length : Nat) : Int))))) rfl rfl (V.lss rfl rfl) ?_
      refine J.nil ?_
      refine CJ.cond rfl (fun hc404 => ?_) (fun hc404 => ?_)
      · have h400 := ct hc404 h400
        refine CJ.skip ?_
        refine CJ.seq ?_
        refine CJ.block ?_
        refine CJ.seq ?_
        refine CJ.region ?_
        refine J.val rfl rfl (V.fad Try.underlying28 rfl nz26 rfl) ?_
        refine J.val (v := .slice adxa_0 xa.length cpxa_0) rfl rfl (V.ld rfl (Ld.sc sc26 (Rd.cl 0 rfl rfl))) ?_
        refine J.val (v := .int .i64 i365) rfl rfl (V.mv rfl) ?_
        obtain ⟨x405, hx406, h400⟩ := ob h400
        obtain ⟨p407, p408, p409⟩ := getI_some hx406
        obtain ⟨b410, o411, e412, a413⟩ := (fxa_0).at p408
        refine J.val rfl rfl (V.iad Try.underlying26 sz111 rfl e412 rfl p407 p409) ?_
        refine J.val rfl rfl (V.fad Try.underlying111 rfl nz3 rfl) ?_
        refine J.val (v := .int .i64 x405.1) rfl rfl (V.ld rfl (Ld.sc sc3 (Rd.k ((a413).fst).int (Hp.le_refl _)))) ?_
        refine J.val (v := .bool (decide (x405.1 < 0))) rfl rfl (V.lss rfl rfl) ?_
        refine J.val (v := .bool (decide (x405.1 < 0))) rfl rfl (V.mv rfl) ?_
        refine J.cut 9 ?_
        obtain ⟨t424, ht425, h400⟩ := ob h400
        refine @J.meet _ _ _ _ _ _ _ _ _ _ (fun ρ K' L' => Fits [(33, .bool t424), (1, .int .i64 xb), (2, .pointer (some ⟨b221, 0, none⟩)), (5, .int .i64 i365)] ρ ∧ K = K' ∧ L' = Cl b221 28 [.slice adxa_0 xa.length cpxa_0] :: F) ?_ ?_
        · skip
          rcases bt (decide (x405.1 < 0)) with hc426 | hc426
          · have ht425 := ct hc426 ht425
            refine J.skip rfl rfl rfl rfl hc426 ?_
            refine J.skip rfl rfl rfl rfl hc426 ?_
            refine J.skip rfl rfl rfl rfl hc426 ?_
            refine J.skip rfl rfl rfl rfl hc426 ?_
            refine J.skip rfl rfl rfl rfl hc426 ?_
            refine J.skip rfl rfl rfl rfl hc426 ?_
            refine J.skip rfl rfl rfl rfl hc426 ?_
            refine J.skip rfl rfl rfl rfl hc426 ?_
            refine J.val (v := .bool true) rfl rfl (V.pickT rfl hc426 rfl) ?_
            refine J.nil ?_
            have e := Option.some.inj ht425
            subst e
            exact ⟨rfl, ⟨rfl, rfl, rfl, rfl, trivial⟩, rfl, rfl⟩
          · have ht425 := cf hc426 ht425
            refine J.run rfl rfl rfl hc426 ?_
            refine J.val rfl rfl (V.fad Try.underlying28 rfl nz26 rfl) ?_
            refine J.run rfl rfl rfl hc426 ?_
            refine J.val (v := .slice adxa_0 xa.length cpxa_0) rfl rfl (V.ld rfl (Ld.sc sc26 (Rd.cl 0 rfl rfl))) ?_
            refine J.run rfl rfl rfl hc426 ?_
            refine J.val (v := .int .i64 i365) rfl rfl (V.mv rfl) ?_
            refine J.run rfl rfl rfl hc426 ?_
            obtain ⟨x427, hx428, ht425⟩ := ob ht425
            obtain ⟨p429, p430, p431⟩ := getI_some hx428
            obtain ⟨b432, o433, e434, a435⟩ := (fxa_0).at p430
            refine J.val rfl rfl (V.iad Try.underlying26 sz111 rfl e434 rfl p429 p431) ?_
            refine J.run rfl rfl rfl hc426 ?_
            refine J.val rfl rfl (V.fad Try.underlying111 rfl nz3 rfl) ?_
            refine J.run rfl rfl rfl hc426 ?_
            refine J.val (v := .int .i64 x427.1) rfl rfl (V.ld rfl (Ld.sc sc3 (Rd.k ((a435).fst).int (Hp.le_refl _)))) ?_
            refine J.run rfl rfl rfl hc426 ?_
            refine J.val (v := .int .i64 xb) rfl rfl (V.mv rfl) ?_
            refine J.run rfl rfl rfl hc426 ?_
            refine J.val (v := .bool (decide (xb ≤ x427.1))) rfl rfl (V.geq rfl rfl) ?_
            refine J.val (v := .bool (decide (xb ≤ x427.1))) rfl rfl (V.pickF rfl hc426 rfl) ?_
            refine J.nil ?_
            have e := Option.some.inj ht425
            subst e
            exact ⟨rfl, ⟨rfl, rfl, rfl, rfl, trivial⟩, rfl, rfl⟩
        · rintro ρ _ _ ⟨hf, rfl, rfl⟩
          obtain ⟨ρ, rfl⟩ := hf.ex
          refine J.nil ?_
          refine CJ.cond rfl (fun hc436 => ?_) (fun hc436 => ?_)
          · have h400 := ct hc436 h400
            refine CJ.seq ?_
            refine CJ.region ?_
            refine J.val (v := .int .i64 7) rfl rfl (V.as rfl) ?_
            refine J.nil ?_
            refine CJ.ret ?_
            have e := Option.some.inj h400
            subst e
            refine ⟨nofun, fun e => ?_⟩
            subst e
            refine .inr ⟨nofun, ?_⟩
            have e := Option.some.inj h
            subst e
            exact ⟨_, [], Res.one rfl rfl, ⟨7, rfl, rfl, rfl⟩, (Hp.le_refl _), fun w hs => (Sep.dropAt 0 rfl hs)⟩
          · have h400 := cf hc436 h400
            refine CJ.skip ?_
            refine CJ.region ?_
            refine J.val (v := .int .i64 i365) rfl rfl (V.mv rfl) ?_
            refine J.val (v := .int .i64 (IntKind.wrap .i64 (i365 + 1))) rfl rfl (V.add rfl rfl) ?_
            refine J.val (v := .int .i64 (IntKind.wrap .i64 (i365 + 1))) rfl rfl (V.as rfl) ?_
            refine J.nil ?_
            have e := Option.some.inj h400
            subst e
            exact ⟨rfl, ⟨IntKind.wrap .i64 (i365 + 1), rfl, ⟨rfl, rfl, rfl, trivial⟩, rfl, rfl⟩⟩
      · have h400 := cf hc404 h400
        refine CJ.dropAt 0 rfl ?_
        refine CJ.exit ?_
        have e := Option.some.inj h400
        subst e
        refine ⟨nofun, fun e => ?_⟩
        subst e
        exact .inl ⟨rfl, _, rfl, ⟨rfl, trivial, rfl, rfl⟩⟩
    · rintro s ρ _ _ ho437 ⟨rfl, hf438, rfl, rfl⟩
      subst ho437
      obtain ⟨ρ, rfl⟩ := hf438.ex
      refine PJ.done ?_
      refine CJ.seq ?_
      refine CJ.region ?_
      refine J.val (v := .int .i64 0) rfl rfl (V.as rfl) ?_
      refine J.nil ?_
      refine CJ.ret ?_
      have e := Option.some.inj h
      subst e
      exact ⟨_, [], Res.one rfl rfl, ⟨0, rfl, rfl, rfl⟩, (Hp.le_refl _), fun w hs => hs⟩
noncomputable def fn_ref17_Check_l1 (xa : (Int × (List (Int × Int)) × (List (List (Int × Bool))) × (List (Int × Bool)))) : Int → Option (Int ⊕ (Unit ⊕ Int)) := fun (i526 : Int) => cond (decide (i526 < (((xa.2.1.length : Nat) : Int)))) ((getI xa.2.1 i526).bind fun x554 => cond ((((decide (x554.1 < 0)) || (decide (xa.1 ≤ x554.1))) || (decide (x554.2 < 0))) || (decide (xa.1 ≤ x554.2))) (some (.inr ((.inr (7))))) (some (.inl (IntKind.wrap .i64 (i526 + 1))))) (some (.inr ((.inl ()))))
noncomputable def fn_ref17_Check_l2 (xa : (Int × (List (Int × Int)) × (List (List (Int × Bool))) × (List (Int × Bool)))) : Int → Option (Int ⊕ (Unit ⊕ Int)) := fun (i747 : Int) => cond (decide (i747 < (((xa.2.2.1.length : Nat) : Int)))) ((getI xa.2.2.1 i747).bind fun x813 => (fn_ref15_Check x813 xa.1).bind fun i828 => cond (!decide (i828 = 0)) (some (.inr ((.inr (i828))))) (some (.inl (IntKind.wrap .i64 (i747 + 1))))) (some (.inr ((.inl ()))))
noncomputable def fn_ref17_Check (xa : (Int × (List (Int × Int)) × (List (List (Int × Bool))) × (List (Int × Bool)))) : Option Int :=
  cond (decide (xa.1 < 0)) (some (7)) (cond (((decide (16 < xa.1)) || (decide (16 < (((xa.2.1.length : Nat) : Int))))) || (decide (16 < (((xa.2.2.1.length : Nat) : Int))))) (some (6)) ((loop (fn_ref17_Check_l1 xa) 0 : Option (Unit ⊕ Int)).bind fun o => match o with | .inr r => some r | .inl () => (loop (fn_ref17_Check_l2 xa) 0 : Option (Unit ⊕ Int)).bind fun o => match o with | .inr r => some r | .inl () => (fn_ref15_Check xa.2.2.2 xa.1).bind fun i838 => some (i838)))
set_option maxRecDepth 100000 in
set_option maxHeartbeats 4000000 in
theorem ref17_Check_ok {K : Hp} {xa : (Int × (List (Int × Int)) × (List (List (Int × Bool))) × (List (Int × Bool)))} {adxa_1 : Option Addr} {cpxa_1 : Nat} {adxa_2 : Option Addr} {cpxa_2 : Nat} {adxa_3 : Option Addr} {cpxa_3 : Nat} (fxa_1 : Is K (.sl (.cons (.int .i64) (.one (.int .i64)))) [.slice adxa_1 xa.2.1.length cpxa_1] xa.2.1) (fxa_2 : Is K (.sl (.one (.sl (.cons (.int .i64) (.one .bool))))) [.slice adxa_2 xa.2.2.1.length cpxa_2] xa.2.2.1) (fxa_3 : Is K (.sl (.cons (.int .i64) (.one .bool))) [.slice adxa_3 xa.2.2.2.length cpxa_3] xa.2.2.2) {r : Int} (h : fn_ref17_Check xa = some r) :
    Tr Try.prog 53 #[.agg #[.int .i64 xa.1, .slice adxa_1 xa.2.1.length cpxa_1, .slice adxa_2 xa.2.2.1.length cpxa_2, .slice adxa_3 xa.2.2.2.length cpxa_3]] K [] (fun v K' L' => (∃ (i422 : Int), i422 = r ∧ .int .i64 i422 = v ∧ L' = []) ∧ K = K') := by
  refine Tr.k ?_
  refine Tr.of Try.func53 rfl Try.ntmps53 rfl (fun E F => ?_)
  unfold fn_ref17_Check at h
  refine CJ.seq ?_
  refine CJ.region ?_
  refine J.op rfl (A.box (v := .agg #[.int .i64 xa.1, .slice adxa_1 xa.2.1.length cpxa_1, .slice adxa_2 xa.2.2.1.length cpxa_2, .slice adxa_3 xa.2.2.2.length cpxa_3]) (cs := [.int .i64 xa.1, .slice adxa_1 xa.2.1.length cpxa_1, .slice adxa_2 xa.2.2.1.length cpxa_2, .slice adxa_3 xa.2.2.2.length cpxa_3]) rfl rfl) ?_
  rintro _ _ _ ⟨b423, rfl, rfl, rfl⟩
  refine J.val (v := .int .i64 0) rfl rfl (V.as rfl) ?_
  refine J.nil ?_
  refine CJ.seq ?_
  refine CJ.seq ?_
  refine CJ.region ?_
  refine J.val rfl rfl (V.fad Try.underlying57 rfl nz3 rfl) ?_
  refine J.val (v := .int .i64 xa.1) rfl rfl (V.ld rfl (Ld.sc sc3 (Rd.cl 0 rfl rfl))) ?_
  refine J.val (v := .bool (decide (xa.1 < 0))) rfl rfl (V.lss rfl rfl) ?_
  refine J.nil ?_
  refine CJ.cond rfl (fun hc424 => ?_) (fun hc424 => ?_)
  · have h := ct hc424 h
    refine CJ.seq ?_
    refine CJ.region ?_
    refine J.val (v := .int .i64 7) rfl rfl (V.as rfl) ?_
    refine J.nil ?_
    refine CJ.ret ?_
    have e := Option.some.inj h
    subst e
    exact ⟨_, [], Res.one rfl rfl, ⟨7, rfl, rfl, rfl⟩, (Hp.le_refl _), fun w hs => (Sep.dropAt 0 rfl hs)⟩
  · have h := cf hc424 h
    refine CJ.skip ?_
    refine CJ.seq ?_
    refine CJ.seq ?_
    refine CJ.region ?_
    refine J.val rfl rfl (V.fad Try.underlying57 rfl nz3 rfl) ?_
    refine J.val (v := .int .i64 xa.1) rfl rfl (V.ld rfl (Ld.sc sc3 (Rd.cl 0 rfl rfl))) ?_
    refine J.val (v := .bool (decide (16 < xa.1))) rfl rfl (V.gtr rfl rfl) ?_
    refine J.val (v := .bool (decide (16 < xa.1))) rfl rfl (V.mv rfl) ?_
    refine J.cut 5 ?_
    refine @J.meet _ _ _ _ _ _ _ _ _ _ (fun ρ K' L' => Fits [(18, .bool ((decide (16 < xa.1)) || (decide (16 < (((xa.2.1.length : Nat) : Int)))))), (1, .pointer (some ⟨b423, 0, none⟩))] ρ ∧ K = K' ∧ L' = Cl b423 57 [.int .i64 xa.1, .slice adxa_1 xa.2.1.length cpxa_1, .slice adxa_2 xa.2.2.1.length cpxa_2, .slice adxa_3 xa.2.2.2.length cpxa_3] :: F) ?_ ?_
    · skip
      rcases bt (decide (16 < xa.1)) with hc427 | hc427
      · skip
        refine J.skip rfl rfl rfl rfl hc427 ?_
        refine J.skip rfl rfl rfl rfl hc427 ?_
        refine J.skip rfl rfl rfl rfl hc427 ?_
        refine J.skip rfl rfl rfl rfl hc427 ?_
        refine J.val (v := .bool true) rfl rfl (V.pickT rfl hc427 rfl) ?_
        refine J.nil ?_
        exact ⟨rfl, ⟨(by simp only [hc427]; rfl), rfl, trivial⟩, rfl, rfl⟩
      · skip
        refine J.run rfl rfl rfl hc427 ?_
        refine J.val rfl rfl (V.fad Try.underlying57 rfl nz55 rfl) ?_
        refine J.run rfl rfl rfl hc427 ?_
        refine J.val (v := .slice adxa_1 xa.2.1.length cpxa_1) rfl rfl (V.ld rfl (Ld.sc sc55 (Rd.cl 0 rfl rfl))) ?_
        refine J.run rfl rfl rfl hc427 ?_
        refine J.val (v := .int .i64 (((xa.2.1.length : Nat) : Int))) rfl rfl (V.len Try.underlying55 rfl) ?_
        refine J.run rfl rfl rfl hc427 ?_
        refine J.val (v := .bool (decide (16 < (((xa.2.1.length : Nat) : Int))))) rfl rfl (V.gtr rfl rfl) ?_
        refine J.val (v := .bool (decide (16 < (((xa.2.1.length : Nat) : Int))))) rfl rfl (V.pickF rfl hc427 rfl) ?_
        refine J.nil ?_
        exact ⟨rfl, ⟨(by simp only [hc427]; rfl), rfl, trivial⟩, rfl, rfl⟩
    · rintro ρ _ _ ⟨hf, rfl, rfl⟩
      obtain ⟨ρ, rfl⟩ := hf.ex
      refine J.val (v := .bool ((decide (16 < xa.1)) || (decide (16 < (((xa.2.1.length : Nat) : Int)))))) rfl rfl (V.mv rfl) ?_
      refine J.cut 5 ?_
      refine @J.meet _ _ _ _ _ _ _ _ _ _ (fun ρ K' L' => Fits [(24, .bool (((decide (16 < xa.1)) || (decide (16 < (((xa.2.1.length : Nat) : Int))))) || (decide (16 < (((xa.2.2.1.length : Nat) : Int)))))), (1, .pointer (some ⟨b423, 0, none⟩))] ρ ∧ K = K' ∧ L' = Cl b423 57 [.int .i64 xa.1, .slice adxa_1 xa.2.1.length cpxa_1, .slice adxa_2 xa.2.2.1.length cpxa_2, .slice adxa_3 xa.2.2.2.length cpxa_3] :: F) ?_ ?_
      · skip
        rcases bt ((decide (16 < xa.1)) || (decide (16 < (((xa.2.1.length : Nat) : Int))))) with hc430 | hc430
        · skip
          refine J.skip rfl rfl rfl rfl hc430 ?_
          refine J.skip rfl rfl rfl rfl hc430 ?_
          refine J.skip rfl rfl rfl rfl hc430 ?_
          refine J.skip rfl rfl rfl rfl hc430 ?_
          refine J.val (v := .bool true) rfl rfl (V.pickT rfl hc430 rfl) ?_
          refine J.nil ?_
          exact ⟨rfl, ⟨(by simp only [hc430]; rfl), rfl, trivial⟩, rfl, rfl⟩
        · skip
          refine J.run rfl rfl rfl hc430 ?_
          refine J.val rfl rfl (V.fad Try.underlying57 rfl nz25 rfl) ?_
          refine J.run rfl rfl rfl hc430 ?_
          refine J.val (v := .slice adxa_2 xa.2.2.1.length cpxa_2) rfl rfl (V.ld rfl (Ld.sc sc25 (Rd.cl 0 rfl rfl))) ?_
          refine J.run rfl rfl rfl hc430 ?_
          refine J.val (v := .int .i64 (((xa.2.2.1.length : Nat) : Int))) rfl rfl (V.len Try.underlying25 rfl) ?_
          refine J.run rfl rfl rfl hc430 ?_
          refine J.val (v := .bool (decide (16 < (((xa.2.2.1.length : Nat) : Int))))) rfl rfl (V.gtr rfl rfl) ?_
          refine J.val (v := .bool (decide (16 < (((xa.2.2.1.length : Nat) : Int))))) rfl rfl (V.pickF rfl hc430 rfl) ?_
          refine J.nil ?_
          exact ⟨rfl, ⟨(by simp only [hc430]; rfl), rfl, trivial⟩, rfl, rfl⟩
      · rintro ρ _ _ ⟨hf, rfl, rfl⟩
        obtain ⟨ρ, rfl⟩ := hf.ex
        refine J.nil ?_
        refine CJ.cond rfl (fun hc431 => ?_) (fun hc431 => ?_)
        · have h := ct hc431 h
          refine CJ.seq ?_
          refine CJ.region ?_
          refine J.val (v := .int .i64 6) rfl rfl (V.as rfl) ?_
          refine J.nil ?_
          refine CJ.ret ?_
          have e := Option.some.inj h
          subst e
          exact ⟨_, [], Res.one rfl rfl, ⟨6, rfl, rfl, rfl⟩, (Hp.le_refl _), fun w hs => (Sep.dropAt 0 rfl hs)⟩
        · have h := cf hc431 h
          refine CJ.skip ?_
          refine CJ.seq ?_
          refine CJ.seq ?_
          refine CJ.region ?_
          refine J.val (v := .int .i64 0) rfl rfl (V.as rfl) ?_
          refine J.nil ?_
          obtain ⟨o502, ho503, h⟩ := ob h
          refine CJ.joinN (o := o502) (fun s ρ K' L' => () = s ∧ Fits [(1, .pointer (some ⟨b423, 0, none⟩))] ρ ∧ K = K' ∧ L' = Cl b423 57 [.int .i64 xa.1, .slice adxa_1 xa.2.1.length cpxa_1, .slice adxa_2 xa.2.2.1.length cpxa_2, .slice adxa_3 xa.2.2.2.length cpxa_3] :: F) ?_ ?_
          · skip
            refine CJ.block ?_
            refine CJ.loop (fun s ρ K' L' => ∃ (i526 : Int), i526 = s ∧ Fits [(1, .pointer (some ⟨b423, 0, none⟩)), (3, .int .i64 i526)] ρ ∧ K = K' ∧ L' = Cl b423 57 [.int .i64 xa.1, .slice adxa_1 xa.2.1.length cpxa_1, .slice adxa_2 xa.2.2.1.length cpxa_2, .slice adxa_3 xa.2.2.2.length cpxa_3] :: F) ho503 ⟨0, rfl, ⟨rfl, rfl, trivial⟩, rfl, rfl⟩ ?_
            rintro s ρ _ _ r552 ⟨i526, rfl, hf550, rfl, rfl⟩ h549
            obtain ⟨ρ, rfl⟩ := hf550.ex
            refine CJ.seq ?_
            refine CJ.seq ?_
            refine CJ.region ?_
            refine J.val (v := .int .i64 i526) rfl rfl (V.mv rfl) ?_
            refine J.val rfl rfl (V.fad Try.underlying57 rfl nz55 rfl) ?_
            refine J.val (v := .slice adxa_1 xa.2.1.length cpxa_1) rfl rfl (V.ld rfl (Ld.sc sc55 (Rd.cl 0 rfl rfl))) ?_
            refine J.val (v := .int .i64 (((xa.2.1.length : Nat) : Int))) rfl rfl (V.len Try.underlying55 rfl) ?_
            refine J.val (v := .bool (decide (i526 < (((xa.2.1.length : Nat) : Int))))) rfl rfl (V.lss rfl rfl) ?_
            refine J.nil ?_
            refine CJ.cond rfl (fun hc553 => ?_) (fun hc553 => ?_)
            · have h549 := ct hc553 h549
              refine CJ.skip ?_
              refine CJ.seq ?_
              refine CJ.block ?_
              refine CJ.seq ?_
              refine CJ.region ?_
              refine J.val rfl rfl (V.fad Try.underlying57 rfl nz55 rfl) ?_
              refine J.val (v := .slice adxa_1 xa.2.1.length cpxa_1) rfl rfl (V.ld rfl (Ld.sc sc55 (Rd.cl 0 rfl rfl))) ?_
              refine J.val (v := .int .i64 i526) rfl rfl (V.mv rfl) ?_
              obtain ⟨x554, hx555, h549⟩ := ob h549
              obtain ⟨p556, p557, p558⟩ := getI_some hx555
              obtain ⟨b559, o560, e561, a562⟩ := (fxa_1).at p557
              refine J.val rfl rfl (V.iad Try.underlying55 sz98 rfl e561 rfl p556 p558) ?_
              refine J.val (v := .agg #[.int .i64 x554.1, .int .i64 x554.2]) rfl rfl (V.ld rfl (Ld.aggK (cs := [.int .i64 x554.1, .int .i64 x554.2]) Try.underlying98 sz98 rfl ⟨((a562).fst).int, (((a562).snd).one).int, trivial⟩ (Hp.le_refl _))) ?_
              refine J.op rfl (A.alloc (cs := [.int .i64 0, .int .i64 0]) inf98 rfl) ?_
              rintro _ _ _ ⟨b563, rfl, rfl, rfl⟩
              refine J.op rfl (A.store (v := .agg #[.int .i64 x554.1, .int .i64 x554.2]) (cs' := [.int .i64 x554.1, .int .i64 x554.2]) sz98 rfl rfl rfl rfl rfl rfl) ?_
              rintro _ _ _ ⟨rfl, rfl, rfl⟩
              refine J.nil ?_
              refine CJ.seq ?_
              refine CJ.region ?_
              refine J.val rfl rfl (V.fad Try.underlying98 rfl nz3 rfl) ?_
              refine J.val (v := .int .i64 x554.1) rfl rfl (V.ld rfl (Ld.sc sc3 (Rd.cl 0 rfl rfl))) ?_
              refine J.val (v := .bool (decide (x554.1 < 0))) rfl rfl (V.lss rfl rfl) ?_
              refine J.val (v := .bool (decide (x554.1 < 0))) rfl rfl (V.mv rfl) ?_
              refine J.cut 6 ?_
              refine @J.meet _ _ _ _ _ _ _ _ _ _ (fun ρ K' L' => Fits [(46, .bool ((decide (x554.1 < 0)) || (decide (xa.1 ≤ x554.1)))), (1, .pointer (some ⟨b423, 0, none⟩)), (3, .int .i64 i526), (4, .pointer (some ⟨b563, 0, none⟩))] ρ ∧ K = K' ∧ L' = Cl b563 98 [.int .i64 x554.1, .int .i64 x554.2] :: Cl b423 57 [.int .i64 xa.1, .slice adxa_1 xa.2.1.length cpxa_1, .slice adxa_2 xa.2.2.1.length cpxa_2, .slice adxa_3 xa.2.2.2.length cpxa_3] :: F) ?_ ?_
              · skip
                rcases bt (decide (x554.1 < 0)) with hc566 | hc566
                · skip
                  refine J.skip rfl rfl rfl rfl hc566 ?_
                  refine J.skip rfl rfl rfl rfl hc566 ?_
                  refine J.skip rfl rfl rfl rfl hc566 ?_
                  refine J.skip rfl rfl rfl rfl hc566 ?_
                  refine J.skip rfl rfl rfl rfl hc566 ?_
                  refine J.val (v := .bool true) rfl rfl (V.pickT rfl hc566 rfl) ?_
                  refine J.nil ?_
                  exact ⟨rfl, ⟨(by simp only [hc566]; rfl), rfl, rfl, rfl, trivial⟩, rfl, rfl⟩
                · skip
                  refine J.run rfl rfl rfl hc566 ?_
                  refine J.val rfl rfl (V.fad Try.underlying98 rfl nz3 rfl) ?_
                  refine J.run rfl rfl rfl hc566 ?_
                  refine J.val (v := .int .i64 x554.1) rfl rfl (V.ld rfl (Ld.sc sc3 (Rd.cl 0 rfl rfl))) ?_
                  refine J.run rfl rfl rfl hc566 ?_
                  refine J.val rfl rfl (V.fad Try.underlying57 rfl nz3 rfl) ?_
                  refine J.run rfl rfl rfl hc566 ?_
                  refine J.val (v := .int .i64 xa.1) rfl rfl (V.ld rfl (Ld.sc sc3 (Rd.cl 1 rfl rfl))) ?_
                  refine J.run rfl rfl rfl hc566 ?_
                  refine J.val (v := .bool (decide (xa.1 ≤ x554.1))) rfl rfl (V.geq rfl rfl) ?_
                  refine J.val (v := .bool (decide (xa.1 ≤ x554.1))) rfl rfl (V.pickF rfl hc566 rfl) ?_
                  refine J.nil ?_
                  exact ⟨rfl, ⟨(by simp only [hc566]; rfl), rfl, rfl, rfl, trivial⟩, rfl, rfl⟩
              · rintro ρ _ _ ⟨hf, rfl, rfl⟩
                obtain ⟨ρ, rfl⟩ := hf.ex
                refine J.val (v := .bool ((decide (x554.1 < 0)) || (decide (xa.1 ≤ x554.1)))) rfl rfl (V.mv rfl) ?_
                refine J.cut 4 ?_
                refine @J.meet _ _ _ _ _ _ _ _ _ _ (fun ρ K' L' => Fits [(51, .bool (((decide (x554.1 < 0)) || (decide (xa.1 ≤ x554.1))) || (decide (x554.2 < 0)))), (1, .pointer (some ⟨b423, 0, none⟩)), (3, .int .i64 i526), (4, .pointer (some ⟨b563, 0, none⟩))] ρ ∧ K = K' ∧ L' = Cl b563 98 [.int .i64 x554.1, .int .i64 x554.2] :: Cl b423 57 [.int .i64 xa.1, .slice adxa_1 xa.2.1.length cpxa_1, .slice adxa_2 xa.2.2.1.length cpxa_2, .slice adxa_3 xa.2.2.2.length cpxa_3] :: F) ?_ ?_
                · skip
                  rcases bt ((decide (x554.1 < 0)) || (decide (xa.1 ≤ x554.1))) with hc569 | hc569
                  · skip
                    refine J.skip rfl rfl rfl rfl hc569 ?_
                    refine J.skip rfl rfl rfl rfl hc569 ?_
                    refine J.skip rfl rfl rfl rfl hc569 ?_
                    refine J.val (v := .bool true) rfl rfl (V.pickT rfl hc569 rfl) ?_
                    refine J.nil ?_
                    exact ⟨rfl, ⟨(by simp only [hc569]; rfl), rfl, rfl, rfl, trivial⟩, rfl, rfl⟩
                  · skip
                    refine J.run rfl rfl rfl hc569 ?_
                    refine J.val rfl rfl (V.fad Try.underlying98 rfl nz3 rfl) ?_
                    refine J.run rfl rfl rfl hc569 ?_
                    refine J.val (v := .int .i64 x554.2) rfl rfl (V.ld rfl (Ld.sc sc3 (Rd.cl 0 rfl rfl))) ?_
                    refine J.run rfl rfl rfl hc569 ?_
                    refine J.val (v := .bool (decide (x554.2 < 0))) rfl rfl (V.lss rfl rfl) ?_
                    refine J.val (v := .bool (decide (x554.2 < 0))) rfl rfl (V.pickF rfl hc569 rfl) ?_
                    refine J.nil ?_
                    exact ⟨rfl, ⟨(by simp only [hc569]; rfl), rfl, rfl, rfl, trivial⟩, rfl, rfl⟩
                · rintro ρ _ _ ⟨hf, rfl, rfl⟩
                  obtain ⟨ρ, rfl⟩ := hf.ex
                  refine J.val (v := .bool (((decide (x554.1 < 0)) || (decide (xa.1 ≤ x554.1))) || (decide (x554.2 < 0)))) rfl rfl (V.mv rfl) ?_
                  refine J.cut 6 ?_
                  refine @J.meet _ _ _ _ _ _ _ _ _ _ (fun ρ K' L' => Fits [(58, .bool ((((decide (x554.1 < 0)) || (decide (xa.1 ≤ x554.1))) || (decide (x554.2 < 0))) || (decide (xa.1 ≤ x554.2)))), (1, .pointer (some ⟨b423, 0, none⟩)), (3, .int .i64 i526)] ρ ∧ K = K' ∧ L' = Cl b563 98 [.int .i64 x554.1, .int .i64 x554.2] :: Cl b423 57 [.int .i64 xa.1, .slice adxa_1 xa.2.1.length cpxa_1, .slice adxa_2 xa.2.2.1.length cpxa_2, .slice adxa_3 xa.2.2.2.length cpxa_3] :: F) ?_ ?_
                  · skip
                    rcases bt (((decide (x554.1 < 0)) || (decide (xa.1 ≤ x554.1))) || (decide (x554.2 < 0))) with hc572 | hc572
                    · skip
                      refine J.skip rfl rfl rfl rfl hc572 ?_
                      refine J.skip rfl rfl rfl rfl hc572 ?_
                      refine J.skip rfl rfl rfl rfl hc572 ?_
                      refine J.skip rfl rfl rfl rfl hc572 ?_
                      refine J.skip rfl rfl rfl rfl hc572 ?_
                      refine J.val (v := .bool true) rfl rfl (V.pickT rfl hc572 rfl) ?_
                      refine J.nil ?_
                      exact ⟨rfl, ⟨(by simp only [hc572]; rfl), rfl, rfl, trivial⟩, rfl, rfl⟩
                    · skip
                      refine J.run rfl rfl rfl hc572 ?_
                      refine J.val rfl rfl (V.fad Try.underlying98 rfl nz3 rfl) ?_
                      refine J.run rfl rfl rfl hc572 ?_
                      refine J.val (v := .int .i64 x554.2) rfl rfl (V.ld rfl (Ld.sc sc3 (Rd.cl 0 rfl rfl))) ?_
                      refine J.run rfl rfl rfl hc572 ?_
                      refine J.val rfl rfl (V.fad Try.underlying57 rfl nz3 rfl) ?_
                      refine J.run rfl rfl rfl hc572 ?_
                      refine J.val (v := .int .i64 xa.1) rfl rfl (V.ld rfl (Ld.sc sc3 (Rd.cl 1 rfl rfl))) ?_
                      refine J.run rfl rfl rfl hc572 ?_
                      refine J.val (v := .bool (decide (xa.1 ≤ x554.2))) rfl rfl (V.geq rfl rfl) ?_
                      refine J.val (v := .bool (decide (xa.1 ≤ x554.2))) rfl rfl (V.pickF rfl hc572 rfl) ?_
                      refine J.nil ?_
                      exact ⟨rfl, ⟨(by simp only [hc572]; rfl), rfl, rfl, trivial⟩, rfl, rfl⟩
                  · rintro ρ _ _ ⟨hf, rfl, rfl⟩
                    obtain ⟨ρ, rfl⟩ := hf.ex
                    refine J.nil ?_
                    refine CJ.cond rfl (fun hc573 => ?_) (fun hc573 => ?_)
                    · have h549 := ct hc573 h549
                      refine CJ.seq ?_
                      refine CJ.region ?_
                      refine J.val (v := .int .i64 7) rfl rfl (V.as rfl) ?_
                      refine J.nil ?_
                      refine CJ.ret ?_
                      have e := Option.some.inj h549
                      subst e
                      refine ⟨nofun, fun e => ?_⟩
                      subst e
                      refine .inr ⟨nofun, ?_⟩
                      have e := Option.some.inj h
                      subst e
                      exact ⟨_, [], Res.one rfl rfl, ⟨7, rfl, rfl, rfl⟩, (Hp.le_refl _), fun w hs => (Sep.dropAt 0 rfl (Sep.dropAt 0 rfl hs))⟩
                    · have h549 := cf hc573 h549
                      refine CJ.skip ?_
                      refine CJ.region ?_
                      refine J.val (v := .int .i64 i526) rfl rfl (V.mv rfl) ?_
                      refine J.val (v := .int .i64 (IntKind.wrap .i64 (i526 + 1))) rfl rfl (V.add rfl rfl) ?_
                      refine J.val (v := .int .i64 (IntKind.wrap .i64 (i526 + 1))) rfl rfl (V.as rfl) ?_
                      refine J.dropAt 0 rfl ?_
                      refine J.nil ?_
                      have e := Option.some.inj h549
                      subst e
                      exact ⟨rfl, ⟨IntKind.wrap .i64 (i526 + 1), rfl, ⟨rfl, rfl, trivial⟩, rfl, rfl⟩⟩
            · have h549 := cf hc553 h549
              refine CJ.exit ?_
              have e := Option.some.inj h549
              subst e
              refine ⟨nofun, fun e => ?_⟩
              subst e
              exact .inl ⟨rfl, _, rfl, ⟨rfl, ⟨rfl, trivial⟩, rfl, rfl⟩⟩
          · rintro s ρ _ _ ho574 ⟨rfl, hf575, rfl, rfl⟩
            subst ho574
            obtain ⟨ρ, rfl⟩ := hf575.ex
            refine PJ.done ?_
            refine CJ.seq ?_
            refine CJ.seq ?_
            refine CJ.region ?_
            refine J.val (v := .int .i64 0) rfl rfl (V.as rfl) ?_
            refine J.nil ?_
            obtain ⟨o704, ho705, h⟩ := ob h
            refine CJ.joinN (o := o704) (fun s ρ K' L' => () = s ∧ Fits [(1, .pointer (some ⟨b423, 0, none⟩))] ρ ∧ K = K' ∧ L' = Cl b423 57 [.int .i64 xa.1, .slice adxa_1 xa.2.1.length cpxa_1, .slice adxa_2 xa.2.2.1.length cpxa_2, .slice adxa_3 xa.2.2.2.length cpxa_3] :: F) ?_ ?_
            · skip
              refine CJ.block ?_
              refine CJ.loop (fun s ρ K' L' => ∃ (i747 : Int), i747 = s ∧ Fits [(1, .pointer (some ⟨b423, 0, none⟩)), (5, .int .i64 i747)] ρ ∧ K = K' ∧ L' = Cl b423 57 [.int .i64 xa.1, .slice adxa_1 xa.2.1.length cpxa_1, .slice adxa_2 xa.2.2.1.length cpxa_2, .slice adxa_3 xa.2.2.2.length cpxa_3] :: F) ho705 ⟨0, rfl, ⟨rfl, rfl, trivial⟩, rfl, rfl⟩ ?_
              rintro s ρ _ _ r792 ⟨i747, rfl, hf790, rfl, rfl⟩ h789
              obtain ⟨ρ, rfl⟩ := hf790.ex
              refine CJ.seq ?_
              refine CJ.seq ?_
              refine CJ.region ?_
              refine J.val (v := .int .i64 i747) rfl rfl (V.mv rfl) ?_
              refine J.val rfl rfl (V.fad Try.underlying57 rfl nz25 rfl) ?_
              refine J.val (v := .slice adxa_2 xa.2.2.1.length cpxa_2) rfl rfl (V.ld rfl (Ld.sc sc25 (Rd.cl 0 rfl rfl))) ?_
              refine J.val (v := .int .i64 (((xa.2.2.1.length : Nat) : Int))) rfl rfl (V.len Try.underlying25 rfl) ?_
              refine J.val (v := .bool (decide (i747 < (((xa.2.2.1.length : Nat) : Int))))) rfl rfl (V.lss rfl rfl) ?_
              refine J.nil ?_
              refine CJ.cond rfl (fun hc793 => ?_) (fun hc793 => ?_)
              · have h789 := ct hc793 h789
                refine CJ.skip ?_
                refine CJ.seq ?_
                refine CJ.block ?_
                refine CJ.seq ?_
                refine CJ.mix [Cl b423 57 [.int .i64 xa.1, .slice adxa_1 xa.2.1.length cpxa_1, .slice adxa_2 xa.2.2.1.length cpxa_2, .slice adxa_3 xa.2.2.2.length cpxa_3]] [([0, 1, 2, 3, 4, 5, 6], 7)] [8] [] mixO (by decide +kernel) ⟨0, rfl, trivial⟩ rfl rfl rfl ?_
                refine JM.cons ?_
                refine JQ.val rfl rfl (V.fad Try.underlying57 rfl nz25 rfl) ?_
                refine JQ.val (v := .slice adxa_2 xa.2.2.1.length cpxa_2) rfl rfl (V.ld rfl (Ld.sc sc25 (Rd.cl 0 rfl rfl))) ?_
                refine JQ.val (v := .int .i64 i747) rfl rfl (V.mv rfl) ?_
                obtain ⟨x813, hx814, h789⟩ := ob h789
                obtain ⟨p815, p816, p817⟩ := getI_some hx814
                obtain ⟨b818, o819, e820, a821⟩ := (fxa_2).at p816
                refine JQ.val rfl rfl (V.iad Try.underlying25 sz28 rfl e820 rfl p815 p817) ?_
                obtain ⟨ad822, cp823, c824, f825⟩ := ((a821).one).sl
                refine JQ.val (v := .agg #[.slice ad822 x813.length cp823]) rfl rfl (V.ld rfl (Ld.aggK (cs := [.slice ad822 x813.length cp823]) Try.underlying28 sz28 rfl ⟨c824, trivial⟩ (Hp.le_refl _))) ?_
                refine JQ.val rfl rfl (V.fad Try.underlying57 rfl nz3 rfl) ?_
                refine JQ.val (v := .int .i64 xa.1) rfl rfl (V.ld rfl (Ld.sc sc3 (Rd.cl 0 rfl rfl))) ?_
                refine JQ.nil ?_
                obtain ⟨r826, hr827, h789⟩ := ob h789
                refine JA.op rfl (A.call (L1 := []) Try.call68 rfl (ref15_Check_ok f825 hr827) rfl rfl) ?_
                rintro _ _ _ ⟨v829, _, rfl, ⟨⟨i828, rfl, rfl, rfl⟩, rfl⟩, _, rfl⟩
                refine ⟨fun w hs => Hold.sub (Hp.le_refl _) ⟨0, rfl, trivial⟩ hs, ?_⟩
                refine JM.nil ?_
                refine JQ.val (v := .int .i64 i828) rfl rfl (V.as rfl) ?_
                refine JQ.nil ?_
                refine J.nil ?_
                refine CJ.seq ?_
                refine CJ.region ?_
                refine J.val (v := .int .i64 i828) rfl rfl (V.mv rfl) ?_
                refine J.val (v := .bool (!decide (i828 = 0))) rfl rfl (V.neq rfl rfl) ?_
                refine J.nil ?_
                refine CJ.cond rfl (fun hc832 => ?_) (fun hc832 => ?_)
                · have h789 := ct hc832 h789
                  refine CJ.seq ?_
                  refine CJ.region ?_
                  refine J.val (v := .int .i64 i828) rfl rfl (V.mv rfl) ?_
                  refine J.val (v := .int .i64 i828) rfl rfl (V.as rfl) ?_
                  refine J.nil ?_
                  refine CJ.ret ?_
                  have e := Option.some.inj h789
                  subst e
                  refine ⟨nofun, fun e => ?_⟩
                  subst e
                  refine .inr ⟨nofun, ?_⟩
                  have e := Option.some.inj h
                  subst e
                  exact ⟨_, [], Res.one rfl rfl, ⟨i828, rfl, rfl, rfl⟩, (Hp.le_refl _), fun w hs => (Sep.dropAt 0 rfl hs)⟩
                · have h789 := cf hc832 h789
                  refine CJ.skip ?_
                  refine CJ.region ?_
                  refine J.val (v := .int .i64 i747) rfl rfl (V.mv rfl) ?_
                  refine J.val (v := .int .i64 (IntKind.wrap .i64 (i747 + 1))) rfl rfl (V.add rfl rfl) ?_
                  refine J.val (v := .int .i64 (IntKind.wrap .i64 (i747 + 1))) rfl rfl (V.as rfl) ?_
                  refine J.nil ?_
                  have e := Option.some.inj h789
                  subst e
                  exact ⟨rfl, ⟨IntKind.wrap .i64 (i747 + 1), rfl, ⟨rfl, rfl, trivial⟩, rfl, rfl⟩⟩
              · have h789 := cf hc793 h789
                refine CJ.exit ?_
                have e := Option.some.inj h789
                subst e
                refine ⟨nofun, fun e => ?_⟩
                subst e
                exact .inl ⟨rfl, _, rfl, ⟨rfl, ⟨rfl, trivial⟩, rfl, rfl⟩⟩
            · rintro s ρ _ _ ho833 ⟨rfl, hf834, rfl, rfl⟩
              subst ho833
              obtain ⟨ρ, rfl⟩ := hf834.ex
              refine PJ.done ?_
              refine CJ.seq ?_
              refine CJ.region ?_
              refine J.val rfl rfl (V.fad Try.underlying57 rfl nz28 rfl) ?_
              refine J.val (v := .agg #[.slice adxa_3 xa.2.2.2.length cpxa_3]) rfl rfl (V.ld rfl (Ld.agg (cs := [.slice adxa_3 xa.2.2.2.length cpxa_3]) Try.underlying28 sz28 rfl (Rd.cls 0 3 rfl rfl))) ?_
              refine J.val rfl rfl (V.fad Try.underlying57 rfl nz3 rfl) ?_
              refine J.val (v := .int .i64 xa.1) rfl rfl (V.ld rfl (Ld.sc sc3 (Rd.cl 0 rfl rfl))) ?_
              obtain ⟨r836, hr837, h⟩ := ob h
              refine J.op rfl (A.call (L1 := []) Try.call68 rfl (ref15_Check_ok fxa_3 hr837) rfl rfl) ?_
              rintro _ _ _ ⟨v839, _, rfl, ⟨⟨i838, rfl, rfl, rfl⟩, rfl⟩, _, rfl⟩
              refine J.val (v := .int .i64 i838) rfl rfl (V.as rfl) ?_
              refine J.nil ?_
              refine CJ.ret ?_
              have e := Option.some.inj h
              subst e
              exact ⟨_, [], Res.one rfl rfl, ⟨i838, rfl, rfl, rfl⟩, (Hp.le_refl _), fun w hs => (Sep.dropAt 0 rfl hs)⟩
noncomputable def fn_ref15_Subst_l1 (xa : (List (Int × Bool))) (xb : (List Int)) : ((List (Int × Bool)) × Int) → Option (((List (Int × Bool)) × Int) ⊕ ((List (Int × Bool)) ⊕ ((List (Int × Bool)) × Int))) := fun ((l726, i731) : ((List (Int × Bool)) × Int)) => cond (decide (i731 < (((xa.length : Nat) : Int)))) ((getI xa i731).bind fun x805 => cond ((decide (x805.1 < 0)) || (decide ((((xb.length : Nat) : Int)) ≤ x805.1))) (some (.inr ((.inr (([], 7)))))) ((getI xb x805.1).bind fun x840 => (getI xa i731).bind fun x849 => (app l726 (([(x840, x849.2)] : List (Int × Bool)))).bind fun z861 => some (.inl ((z861, IntKind.wrap .i64 (i731 + 1)))))) (some (.inr (.inl l726)))
noncomputable def fn_ref15_Subst (xa : (List (Int × Bool))) (xb : (List Int)) : Option (((List (Int × Bool)) × Int)) :=
  (loop (fn_ref15_Subst_l1 xa xb) ((([] : List (Int × Bool)), 0)) : Option ((List (Int × Bool)) ⊕ ((List (Int × Bool)) × Int))).bind fun o => match o with | .inr r => some r | .inl l651 => some ((l651, 0))
set_option maxRecDepth 100000 in
set_option maxHeartbeats 4000000 in
theorem ref15_Subst_ok {K : Hp} {xa : (List (Int × Bool))} {xb : (List Int)} {adxa_0 : Option Addr} {cpxa_0 : Nat} {adxb_0 : Option Addr} {cpxb_0 : Nat} (fxa_0 : Is K (.sl (.cons (.int .i64) (.one .bool))) [.slice adxa_0 xa.length cpxa_0] xa) (fxb_0 : Is K (.sl (.int .i64)) [.slice adxb_0 xb.length cpxb_0] xb) {r : ((List (Int × Bool)) × Int)} (h : fn_ref15_Subst xa xb = some r) :
    Tr Try.prog 54 #[.agg #[.slice adxa_0 xa.length cpxa_0], .slice adxb_0 xb.length cpxb_0] K [] (fun v K' L' => (∃ (l432 : (List (Int × Bool))) (i437 : Int) (ad433 : Option Addr) (cp434 : Nat), (l432, i437) = r ∧ .tuple #[.agg #[.slice ad433 l432.length cp434], .int .i64 i437] = v ∧ L' = [Row Hp.nil 111 (.cons (.int .i64) (.one .bool)) (.slice ad433 l432.length cp434) l432]) ∧ K = K') := by
  refine Tr.k ?_
  refine Tr.of Try.func54 rfl Try.ntmps54 rfl (fun E F => ?_)
  unfold fn_ref15_Subst at h
  refine CJ.seq ?_
  refine CJ.region ?_
  refine J.op rfl (A.box (v := .agg #[.slice adxa_0 xa.length cpxa_0]) (cs := [.slice adxa_0 xa.length cpxa_0]) rfl rfl) ?_
  rintro _ _ _ ⟨b438, rfl, rfl, rfl⟩
  refine J.op rfl (A.alloc (cs := [.slice none 0 0]) inf28 rfl) ?_
  rintro _ _ _ ⟨b439, rfl, rfl, rfl⟩
  refine J.val (v := .int .i64 0) rfl rfl (V.as rfl) ?_
  refine J.nil ?_
  refine CJ.seq ?_
  refine CJ.region ?_
  refine J.op rfl (A.lit (K0 := Hp.nil) (ty := (.cons (.int .i64) (.one .bool))) (xs := ([] : List (Int × Bool))) Try.underlying26 inf111 rfl (by decide) rfl rfl rfl rfl rfl (by decide)) ?_
  rintro _ _ _ ⟨b440, rfl, rfl, rfl⟩
  have hn441 : ([] : List (Int × Bool)) ≠ [] → ∃ g, (some ⟨b440, 0, none⟩ : Option Addr) = some ⟨g, 0, none⟩ := fun _ => ⟨b440, rfl⟩
  refine J.val (v := .slice (some ⟨b440, 0, none⟩) ((([] : List (Int × Bool))).length) 0) rfl rfl (V.as rfl) ?_
  refine J.nil ?_
  refine CJ.seq ?_
  refine CJ.seq ?_
  refine CJ.region ?_
  refine J.val (v := .int .i64 0) rfl rfl (V.as rfl) ?_
  refine J.nil ?_
  obtain ⟨o656, ho657, h⟩ := ob h
  refine CJ.joinN (o := o656) (fun s ρ K' L' => ∃ (l651 : (List (Int × Bool))) (ad652 : Option Addr) (cp653 : Nat), l651 = s ∧ Fits [(4, .pointer (some ⟨b439, 0, none⟩)), (6, .slice ad652 l651.length cp653)] ρ ∧ K = K' ∧ L' = Cl b439 28 [.slice none 0 0] :: Row Hp.nil 111 (.cons (.int .i64) (.one .bool)) (.slice ad652 l651.length cp653) l651 :: F) ?_ ?_
  · skip
    refine CJ.block ?_
    refine CJ.front 1 rfl ?_
    refine CJ.front 2 rfl ?_
    refine CJ.loop (fun s ρ K' L' => ∃ (l726 : (List (Int × Bool))) (i731 : Int) (ad727 : Option Addr) (cp728 : Nat), (l726, i731) = s ∧ Fits [(1, .slice adxb_0 xb.length cpxb_0), (2, .pointer (some ⟨b438, 0, none⟩)), (4, .pointer (some ⟨b439, 0, none⟩)), (6, .slice ad727 l726.length cp728), (7, .int .i64 i731)] ρ ∧ K = K' ∧ L' = Cl b438 28 [.slice adxa_0 xa.length cpxa_0] :: Cl b439 28 [.slice none 0 0] :: Row Hp.nil 111 (.cons (.int .i64) (.one .bool)) (.slice ad727 l726.length cp728) l726 :: F) ho657 ⟨([] : List (Int × Bool)), 0, (some ⟨b440, 0, none⟩), 0, rfl, ⟨rfl, rfl, rfl, rfl, rfl, trivial⟩, rfl, rfl⟩ ?_
    rintro s ρ _ _ r803 ⟨l726, i731, ad727, cp728, rfl, hf801, rfl, rfl⟩ h800
    obtain ⟨ρ, rfl⟩ := hf801.ex
    refine CJ.front 2 rfl ?_
    refine CJ.wit Row.hn (fun hn730 => ?_)
    refine CJ.seq ?_
    refine CJ.seq ?_
    refine CJ.region ?_
    refine J.val (v := .int .i64 i731) rfl rfl (V.mv rfl) ?_
    refine J.val rfl rfl (V.fad Try.underlying28 rfl nz26 rfl) ?_
    refine J.val (v := .slice adxa_0 xa.length cpxa_0) rfl rfl (V.ld rfl (Ld.sc sc26 (Rd.cl 1 rfl rfl))) ?_
    refine J.val (v := .int .i64 (((xa.length : Nat) : Int))) rfl rfl (V.len Try.underlying26 rfl) ?_
    refine J.val (v := .bool (decide (i731 < (((xa.length : Nat) : Int))))) rfl rfl (V.lss rfl rfl) ?_
    refine J.nil ?_
    refine CJ.cond rfl (fun hc804 => ?_) (fun hc804 => ?_)
    · have h800 := ct hc804 h800
      refine CJ.skip ?_
      refine CJ.seq ?_
      refine CJ.block ?_
      refine CJ.seq ?_
      refine CJ.region ?_
      refine J.val rfl rfl (V.fad Try.underlying28 rfl nz26 rfl) ?_
      refine J.val (v := .slice adxa_0 xa.length cpxa_0) rfl rfl (V.ld rfl (Ld.sc sc26 (Rd.cl 1 rfl rfl))) ?_
      refine J.val (v := .int .i64 i731) rfl rfl (V.mv rfl) ?_
      obtain ⟨x805, hx806, h800⟩ := ob h800
      obtain ⟨p807, p808, p809⟩ := getI_some hx806
      obtain ⟨b810, o811, e812, a813⟩ := (fxa_0).at p808
      refine J.val rfl rfl (V.iad Try.underlying26 sz111 rfl e812 rfl p807 p809) ?_
      refine J.val rfl rfl (V.fad Try.underlying111 rfl nz3 rfl) ?_
      refine J.val (v := .int .i64 x805.1) rfl rfl (V.ld rfl (Ld.sc sc3 (Rd.k ((a813).fst).int (Hp.le_refl _)))) ?_
      refine J.val (v := .int .i64 x805.1) rfl rfl (V.as rfl) ?_
      refine J.nil ?_
      refine CJ.seq ?_
      refine CJ.seq ?_
      refine CJ.region ?_
      refine J.val (v := .int .i64 x805.1) rfl rfl (V.mv rfl) ?_
      refine J.val (v := .bool (decide (x805.1 < 0))) rfl rfl (V.lss rfl rfl) ?_
      refine J.val (v := .bool (decide (x805.1 < 0))) rfl rfl (V.mv rfl) ?_
      refine J.cut 5 ?_
      refine @J.meet _ _ _ _ _ _ _ _ _ _ (fun ρ K' L' => Fits [(30, .bool ((decide (x805.1 < 0)) || (decide ((((xb.length : Nat) : Int)) ≤ x805.1)))), (1, .slice adxb_0 xb.length cpxb_0), (2, .pointer (some ⟨b438, 0, none⟩)), (4, .pointer (some ⟨b439, 0, none⟩)), (6, .slice ad727 l726.length cp728), (7, .int .i64 i731), (8, .int .i64 x805.1)] ρ ∧ K = K' ∧ L' = Row Hp.nil 111 (.cons (.int .i64) (.one .bool)) (.slice ad727 l726.length cp728) l726 :: Cl b438 28 [.slice adxa_0 xa.length cpxa_0] :: Cl b439 28 [.slice none 0 0] :: F) ?_ ?_
      · skip
        rcases bt (decide (x805.1 < 0)) with hc816 | hc816
        · skip
          refine J.skip rfl rfl rfl rfl hc816 ?_
          refine J.skip rfl rfl rfl rfl hc816 ?_
          refine J.skip rfl rfl rfl rfl hc816 ?_
          refine J.skip rfl rfl rfl rfl hc816 ?_
          refine J.val (v := .bool true) rfl rfl (V.pickT rfl hc816 rfl) ?_
          refine J.nil ?_
          exact ⟨rfl, ⟨(by simp only [hc816]; rfl), rfl, rfl, rfl, rfl, rfl, rfl, trivial⟩, rfl, rfl⟩
        · skip
          refine J.run rfl rfl rfl hc816 ?_
          refine J.val (v := .int .i64 x805.1) rfl rfl (V.mv rfl) ?_
          refine J.run rfl rfl rfl hc816 ?_
          refine J.val (v := .slice adxb_0 xb.length cpxb_0) rfl rfl (V.mv rfl) ?_
          refine J.run rfl rfl rfl hc816 ?_
          refine J.val (v := .int .i64 (((xb.length : Nat) : Int))) rfl rfl (V.len Try.underlying22 rfl) ?_
          refine J.run rfl rfl rfl hc816 ?_
          refine J.val (v := .bool (decide ((((xb.length : Nat) : Int)) ≤ x805.1))) rfl rfl (V.geq rfl rfl) ?_
          refine J.val (v := .bool (decide ((((xb.length : Nat) : Int)) ≤ x805.1))) rfl rfl (V.pickF rfl hc816 rfl) ?_
          refine J.nil ?_
          exact ⟨rfl, ⟨(by simp only [hc816]; rfl), rfl, rfl, rfl, rfl, rfl, rfl, trivial⟩, rfl, rfl⟩
      · rintro ρ _ _ ⟨hf, rfl, rfl⟩
        obtain ⟨ρ, rfl⟩ := hf.ex
        refine J.nil ?_
        refine CJ.cond rfl (fun hc817 => ?_) (fun hc817 => ?_)
        · have h800 := ct hc817 h800
          refine CJ.seq ?_
          refine CJ.region ?_
          refine J.val (v := .agg #[.slice none 0 0]) rfl rfl (V.build inf28 places28 rfl rfl) ?_
          refine J.front 2 rfl ?_
          refine J.op rfl (A.store (v := .agg #[.slice none 0 0]) (cs' := [.slice none 0 0]) sz28 rfl rfl rfl rfl rfl rfl) ?_
          rintro _ _ _ ⟨rfl, rfl, rfl⟩
          refine J.val (v := .int .i64 7) rfl rfl (V.as rfl) ?_
          refine J.nil ?_
          refine CJ.by (fun w hs => Sep.rowNil (e := 111) (t := (.cons (.int .i64) (.one .bool))) hs) ?_
          refine CJ.ret ?_
          have e := Option.some.inj h800
          subst e
          refine ⟨nofun, fun e => ?_⟩
          subst e
          refine .inr ⟨nofun, ?_⟩
          have e := Option.some.inj h
          subst e
          exact ⟨_, [Row Hp.nil 111 (.cons (.int .i64) (.one .bool)) (.slice none ((([] : List (Int × Bool))).length) 0) (([] : List (Int × Bool)))], Res.two rfl ⟨_, _, rfl, Ld.agg (cs := [.slice none 0 0]) Try.underlying28 sz28 rfl (Rd.cls 1 0 rfl rfl)⟩ rfl, ⟨[], 7, none, 0, rfl, rfl, rfl⟩, (Hp.le_refl _), fun w hs => (Sep.dropAt 1 rfl (Sep.dropAt 1 rfl (Sep.dropAt 1 rfl hs)))⟩
        · have h800 := cf hc817 h800
          refine CJ.skip ?_
          refine CJ.mix [Row Hp.nil 111 (.cons (.int .i64) (.one .bool)) (.slice ad727 l726.length cp728) l726, Cl b438 28 [.slice adxa_0 xa.length cpxa_0], Cl b439 28 [.slice none 0 0]] [([0, 1, 2, 3, 4, 5, 6, 7, 8, 9, 10, 11], 12)] [] [13, 14] mixO (by decide +kernel) ⟨0, rfl, 0, rfl, 0, rfl, trivial⟩ rfl rfl rfl ?_
          refine JM.cons ?_
          refine JQ.val (v := .slice ad727 l726.length cp728) rfl rfl (V.mv rfl) ?_
          refine JQ.val (v := .slice adxb_0 xb.length cpxb_0) rfl rfl (V.mv rfl) ?_
          refine JQ.val (v := .int .i64 x805.1) rfl rfl (V.mv rfl) ?_
          obtain ⟨x840, hx841, h800⟩ := ob h800
          obtain ⟨p842, p843, p844⟩ := getI_some hx841
          obtain ⟨b845, o846, e847, a848⟩ := (fxb_0).at p843
          refine JQ.val rfl rfl (V.iad Try.underlying22 sz3 rfl e847 rfl p842 p844) ?_
          refine JQ.val (v := .int .i64 x840) rfl rfl (V.ld rfl (Ld.sc sc3 (Rd.k (a848).int (Hp.le_refl _)))) ?_
          refine JQ.val rfl rfl (V.fad Try.underlying28 rfl nz26 rfl) ?_
          refine JQ.val (v := .slice adxa_0 xa.length cpxa_0) rfl rfl (V.ld rfl (Ld.sc sc26 (Rd.cl 1 rfl rfl))) ?_
          refine JQ.val (v := .int .i64 i731) rfl rfl (V.mv rfl) ?_
          obtain ⟨x849, hx850, h800⟩ := ob h800
          obtain ⟨p851, p852, p853⟩ := getI_some hx850
          obtain ⟨b854, o855, e856, a857⟩ := (fxa_0).at p852
          refine JQ.val rfl rfl (V.iad Try.underlying26 sz111 rfl e856 rfl p851 p853) ?_
          refine JQ.val rfl rfl (V.fad Try.underlying111 rfl nz4 rfl) ?_
          refine JQ.val (v := .bool x849.2) rfl rfl (V.ld rfl (Ld.sc sc4 (Rd.k (((a857).snd).one).bool (Hp.le_refl _)))) ?_
          refine JQ.val (v := .agg #[.int .i64 x840, .bool x849.2]) rfl rfl (V.build inf111 places111 rfl rfl) ?_
          refine JQ.nil ?_
          refine JA.op rfl (A.lit (K0 := Hp.nil) (ty := (.cons (.int .i64) (.one .bool))) (xs := ([(x840, x849.2)] : List (Int × Bool))) Try.underlying26 inf111 rfl (by decide) rfl rfl rfl ⟨_, _, rfl, ⟨_, _, rfl, rfl, rfl, rfl⟩, rfl⟩ rfl (by decide)) ?_
          rintro _ _ _ ⟨b858, rfl, rfl, rfl⟩
          have hn859 : ([(x840, x849.2)] : List (Int × Bool)) ≠ [] → ∃ g, (some ⟨b858, 0, none⟩ : Option Addr) = some ⟨g, 0, none⟩ := fun _ => ⟨b858, rfl⟩
          refine ⟨fun w hs => Hold.sub (Hp.le_refl _) ⟨1, rfl, 1, rfl, 1, rfl, trivial⟩ hs, ?_⟩
          refine JM.nil ?_
          refine JQ.nil ?_
          obtain ⟨z861, hz862, h800⟩ := ob h800
          refine J.front 1 rfl ?_
          refine J.op rfl (A.appR (Kr := Hp.nil) Try.underlying26 inf111 rfl rfl (by decide) (by decide) rfl rfl (Els.flat rfl) (Els.flat rfl) hz862) ?_
          rintro _ _ _ ⟨v863, rfl, rfl, rfl⟩
          refine J.wit Row.form ?_
          rintro ⟨ad864, cp865, rfl, _, _, hn866⟩
          refine J.val (v := .slice ad864 z861.length cp865) rfl rfl (V.as rfl) ?_
          refine J.nil ?_
          refine CJ.region ?_
          refine J.val (v := .int .i64 i731) rfl rfl (V.mv rfl) ?_
          refine J.val (v := .int .i64 (IntKind.wrap .i64 (i731 + 1))) rfl rfl (V.add rfl rfl) ?_
          refine J.val (v := .int .i64 (IntKind.wrap .i64 (i731 + 1))) rfl rfl (V.as rfl) ?_
          refine J.front 2 rfl ?_
          refine J.front 2 rfl ?_
          refine J.nil ?_
          have e := Option.some.inj h800
          subst e
          exact ⟨rfl, ⟨z861, IntKind.wrap .i64 (i731 + 1), ad864, cp865, rfl, ⟨rfl, rfl, rfl, rfl, rfl, trivial⟩, rfl, rfl⟩⟩
    · have h800 := cf hc804 h800
      refine CJ.dropAt 1 rfl ?_
      refine CJ.front 1 rfl ?_
      refine CJ.exit ?_
      have e := Option.some.inj h800
      subst e
      refine ⟨nofun, fun e => ?_⟩
      subst e
      exact .inl ⟨rfl, _, rfl, ⟨l726, ad727, cp728, rfl, ⟨rfl, rfl, trivial⟩, rfl, rfl⟩⟩
  · rintro s ρ _ _ ho867 ⟨l651, ad652, cp653, rfl, hf868, rfl, rfl⟩
    subst ho867
    obtain ⟨ρ, rfl⟩ := hf868.ex
    refine PJ.front 1 rfl ?_
    refine PJ.wit Row.hn (fun hn655 => ?_)
    refine PJ.done ?_
    refine CJ.seq ?_
    refine CJ.region ?_
    refine J.val (v := .slice ad652 l651.length cp653) rfl rfl (V.mv rfl) ?_
    refine J.val (v := .agg #[.slice ad652 l651.length cp653]) rfl rfl (V.build inf28 places28 rfl rfl) ?_
    refine J.front 1 rfl ?_
    refine J.op rfl (A.store (v := .agg #[.slice ad652 l651.length cp653]) (cs' := [.slice ad652 l651.length cp653]) sz28 rfl rfl rfl rfl rfl rfl) ?_
    rintro _ _ _ ⟨rfl, rfl, rfl⟩
    refine J.val (v := .int .i64 0) rfl rfl (V.as rfl) ?_
    refine J.nil ?_
    refine CJ.ret ?_
    have e := Option.some.inj h
    subst e
    exact ⟨_, [Row Hp.nil 111 (.cons (.int .i64) (.one .bool)) (.slice ad652 l651.length cp653) l651], Res.two rfl ⟨_, _, rfl, Ld.agg (cs := [.slice ad652 l651.length cp653]) Try.underlying28 sz28 rfl (Rd.cls 0 0 rfl rfl)⟩ rfl, ⟨l651, 0, ad652, cp653, rfl, rfl, rfl⟩, (Hp.le_refl _), fun w hs => (Sep.dropAt 0 rfl hs)⟩
noncomputable def fn_ref17_Call_l1 (xa : (Int × (List (Int × Int)) × (List (List (Int × Bool))) × (List (Int × Bool)))) (xb : (List Int)) : ((List (Int × Int × Int × Int × Bool)) × Int) → Option (((List (Int × Int × Int × Int × Bool)) × Int) ⊕ (List (Int × Int × Int × Int × Bool))) := fun ((l1594, i1599) : ((List (Int × Int × Int × Int × Bool)) × Int)) => cond (decide (i1599 < (((xa.2.1.length : Nat) : Int)))) ((getI xa.2.1 i1599).bind fun x1735 => (getI xb x1735.1).bind fun x1744 => (getI xa.2.1 i1599).bind fun x1753 => (getI xb x1753.2).bind fun x1762 => (app l1594 (([(x1744, x1762, 4, i1599, false)] : List (Int × Int × Int × Int × Bool)))).bind fun z1774 => some (.inl ((z1774, IntKind.wrap .i64 (i1599 + 1))))) (some (.inr (l1594)))
noncomputable def fn_ref17_Call_l2 (xa : (Int × (List (Int × Int)) × (List (List (Int × Bool))) × (List (Int × Bool)))) (xb : (List Int)) (xc : (List (List (Int × Bool)))) : ((List (Int × Int × Int × Int × Bool)) × Int) → Option (((List (Int × Int × Int × Int × Bool)) × Int) ⊕ ((List (Int × Int × Int × Int × Bool)) ⊕ ((List (Int × Int × Int × Int × Bool)) × Int))) := fun ((l2169, i2174) : ((List (Int × Int × Int × Int × Bool)) × Int)) => cond (decide (i2174 < (((xa.2.2.1.length : Nat) : Int)))) ((getI xa.2.2.1 i2174).bind fun x2274 => (fn_ref15_Subst x2274 xb).bind fun (l2289, i2290) => (getI xc i2174).bind fun x2326 => (fn_ref16_Flow x2326 l2289 5 (IntKind.wrap .i64 (16 * i2174))).bind fun (l2344, i2345) => cond (!decide (i2345 = 0)) (some (.inr ((.inr (([], i2345)))))) ((app l2169 l2344).bind fun z2355 => some (.inl ((z2355, IntKind.wrap .i64 (i2174 + 1)))))) (some (.inr (.inl l2169)))
noncomputable def fn_ref17_Call (xa : (Int × (List (Int × Int)) × (List (List (Int × Bool))) × (List (Int × Bool)))) (xb : (List Int)) (xc : (List (List (Int × Bool)))) (xd : (List (Int × Bool))) : Option (((List (Int × Int × Int × Int × Bool)) × Int)) :=
  (fn_ref17_Check (xa.1, xa.2.1, xa.2.2.1, xa.2.2.2)).bind fun i1205 => cond (!decide (i1205 = 0)) (some (([], i1205))) (cond ((!decide ((((xb.length : Nat) : Int)) = xa.1)) || (!decide ((((xc.length : Nat) : Int)) = (((xa.2.2.1.length : Nat) : Int))))) (some (([], 2))) ((loop (fn_ref17_Call_l1 xa xb) ((([] : List (Int × Int × Int × Int × Bool)), 0)) : Option ((List (Int × Int × Int × Int × Bool)))).bind fun l1496 => (loop (fn_ref17_Call_l2 xa xb xc) (l1496, 0) : Option ((List (Int × Int × Int × Int × Bool)) ⊕ ((List (Int × Int × Int × Int × Bool)) × Int))).bind fun o => match o with | .inr r => some r | .inl l2068 => (fn_ref15_Subst xa.2.2.2 xb).bind fun (l2366, i2367) => (fn_ref16_Flow l2366 xd 6 0).bind fun (l2381, i2382) => cond (!decide (i2382 = 0)) (some (([], i2382))) ((app l2068 l2381).bind fun z2392 => some ((z2392, 0)))))
set_option maxRecDepth 100000 in
set_option maxHeartbeats 4000000 in
theorem ref17_Call_ok {K : Hp} {xa : (Int × (List (Int × Int)) × (List (List (Int × Bool))) × (List (Int × Bool)))} {xb : (List Int)} {xc : (List (List (Int × Bool)))} {xd : (List (Int × Bool))} {adxa_1 : Option Addr} {cpxa_1 : Nat} {adxa_2 : Option Addr} {cpxa_2 : Nat} {adxa_3 : Option Addr} {cpxa_3 : Nat} {adxb_0 : Option Addr} {cpxb_0 : Nat} {adxc_0 : Option Addr} {cpxc_0 : Nat} {adxd_0 : Option Addr} {cpxd_0 : Nat} (fxa_1 : Is K (.sl (.cons (.int .i64) (.one (.int .i64)))) [.slice adxa_1 xa.2.1.length cpxa_1] xa.2.1) (fxa_2 : Is K (.sl (.one (.sl (.cons (.int .i64) (.one .bool))))) [.slice adxa_2 xa.2.2.1.length cpxa_2] xa.2.2.1) (fxa_3 : Is K (.sl (.cons (.int .i64) (.one .bool))) [.slice adxa_3 xa.2.2.2.length cpxa_3] xa.2.2.2) (fxb_0 : Is K (.sl (.int .i64)) [.slice adxb_0 xb.length cpxb_0] xb) (fxc_0 : Is K (.sl (.one (.sl (.cons (.int .i64) (.one .bool))))) [.slice adxc_0 xc.length cpxc_0] xc) (fxd_0 : Is K (.sl (.cons (.int .i64) (.one .bool))) [.slice adxd_0 xd.length cpxd_0] xd) {r : ((List (Int × Int × Int × Int × Bool)) × Int)} (h : fn_ref17_Call xa xb xc xd = some r) :
    Tr Try.prog 29 #[.agg #[.int .i64 xa.1, .slice adxa_1 xa.2.1.length cpxa_1, .slice adxa_2 xa.2.2.1.length cpxa_2, .slice adxa_3 xa.2.2.2.length cpxa_3], .slice adxb_0 xb.length cpxb_0, .slice adxc_0 xc.length cpxc_0, .agg #[.slice adxd_0 xd.length cpxd_0]] K [] (fun v K' L' => (∃ (l1195 : (List (Int × Int × Int × Int × Bool))) (i1200 : Int) (ad1196 : Option Addr) (cp1197 : Nat), (l1195, i1200) = r ∧ .tuple #[.slice ad1196 l1195.length cp1197, .int .i64 i1200] = v ∧ L' = [Row Hp.nil 66 (.cons (.int .i64) (.cons (.int .i64) (.cons (.int .i64) (.cons (.int .i64) (.one .bool))))) (.slice ad1196 l1195.length cp1197) l1195]) ∧ K = K') := by
  refine Tr.k ?_
  refine Tr.of Try.func29 rfl Try.ntmps29 rfl (fun E F => ?_)
  unfold fn_ref17_Call at h
  refine CJ.seq ?_
  refine CJ.region ?_
  refine J.op rfl (A.box (v := .agg #[.int .i64 xa.1, .slice adxa_1 xa.2.1.length cpxa_1, .slice adxa_2 xa.2.2.1.length cpxa_2, .slice adxa_3 xa.2.2.2.length cpxa_3]) (cs := [.int .i64 xa.1, .slice adxa_1 xa.2.1.length cpxa_1, .slice adxa_2 xa.2.2.1.length cpxa_2, .slice adxa_3 xa.2.2.2.length cpxa_3]) rfl rfl) ?_
  rintro _ _ _ ⟨b1201, rfl, rfl, rfl⟩
  refine J.op rfl (A.box (v := .agg #[.slice adxd_0 xd.length cpxd_0]) (cs := [.slice adxd_0 xd.length cpxd_0]) rfl rfl) ?_
  rintro _ _ _ ⟨b1202, rfl, rfl, rfl⟩
  refine J.val (v := .slice none 0 0) rfl rfl (V.as rfl) ?_
  refine J.val (v := .int .i64 0) rfl rfl (V.as rfl) ?_
  refine J.nil ?_
  refine CJ.seq ?_
  refine CJ.region ?_
  refine J.val (v := .agg #[.int .i64 xa.1, .slice adxa_1 xa.2.1.length cpxa_1, .slice adxa_2 xa.2.2.1.length cpxa_2, .slice adxa_3 xa.2.2.2.length cpxa_3]) rfl rfl (V.ld rfl (Ld.agg (cs := [.int .i64 xa.1, .slice adxa_1 xa.2.1.length cpxa_1, .slice adxa_2 xa.2.2.1.length cpxa_2, .slice adxa_3 xa.2.2.2.length cpxa_3]) Try.underlying57 sz57 rfl (Rd.cls 1 0 rfl rfl))) ?_
  obtain ⟨r1203, hr1204, h⟩ := ob h
  refine J.op rfl (A.call (L1 := []) Try.call53 rfl (ref17_Check_ok fxa_1 fxa_2 fxa_3 hr1204) rfl rfl) ?_
  rintro _ _ _ ⟨v1206, _, rfl, ⟨⟨i1205, rfl, rfl, rfl⟩, rfl⟩, _, rfl⟩
  refine J.val (v := .int .i64 i1205) rfl rfl (V.as rfl) ?_
  refine J.nil ?_
  refine CJ.seq ?_
  refine CJ.seq ?_
  refine CJ.region ?_
  refine J.val (v := .int .i64 i1205) rfl rfl (V.mv rfl) ?_
  refine J.val (v := .bool (!decide (i1205 = 0))) rfl rfl (V.neq rfl rfl) ?_
  refine J.nil ?_
  refine CJ.cond rfl (fun hc1209 => ?_) (fun hc1209 => ?_)
  · have h := ct hc1209 h
    refine CJ.seq ?_
    refine CJ.region ?_
    refine J.val (v := .int .i64 i1205) rfl rfl (V.mv rfl) ?_
    refine J.val (v := .slice none 0 0) rfl rfl (V.as rfl) ?_
    refine J.val (v := .int .i64 i1205) rfl rfl (V.as rfl) ?_
    refine J.nil ?_
    refine CJ.by (fun w hs => Sep.rowNil (e := 66) (t := (.cons (.int .i64) (.cons (.int .i64) (.cons (.int .i64) (.cons (.int .i64) (.one .bool)))))) hs) ?_
    refine CJ.ret ?_
    have e := Option.some.inj h
    subst e
    exact ⟨_, [Row Hp.nil 66 (.cons (.int .i64) (.cons (.int .i64) (.cons (.int .i64) (.cons (.int .i64) (.one .bool))))) (.slice none ((([] : List (Int × Int × Int × Int × Bool))).length) 0) (([] : List (Int × Int × Int × Int × Bool)))], Res.two rfl rfl rfl, ⟨[], i1205, none, 0, rfl, rfl, rfl⟩, (Hp.le_refl _), fun w hs => (Sep.dropAt 1 rfl (Sep.dropAt 1 rfl hs))⟩
  · have h := cf hc1209 h
    refine CJ.skip ?_
    refine CJ.seq ?_
    refine CJ.seq ?_
    refine CJ.region ?_
    refine J.val (v := .slice adxb_0 xb.length cpxb_0) rfl rfl (V.mv rfl) ?_
    refine J.val (v := .int .i64 (((xb.length : Nat) : Int))) rfl rfl (V.len Try.underlying22 rfl) ?_
    refine J.val rfl rfl (V.fad Try.underlying57 rfl nz3 rfl) ?_
    refine J.val (v := .int .i64 xa.1) rfl rfl (V.ld rfl (Ld.sc sc3 (Rd.cl 1 rfl rfl))) ?_
    refine J.val (v := .bool (!decide ((((xb.length : Nat) : Int)) = xa.1))) rfl rfl (V.neq rfl rfl) ?_
    refine J.val (v := .bool (!decide ((((xb.length : Nat) : Int)) = xa.1))) rfl rfl (V.mv rfl) ?_
    refine J.cut 7 ?_
    refine @J.meet _ _ _ _ _ _ _ _ _ _ (fun ρ K' L' => Fits [(39, .bool ((!decide ((((xb.length : Nat) : Int)) = xa.1)) || (!decide ((((xc.length : Nat) : Int)) = (((xa.2.2.1.length : Nat) : Int)))))), (1, .slice adxb_0 xb.length cpxb_0), (2, .slice adxc_0 xc.length cpxc_0), (4, .pointer (some ⟨b1201, 0, none⟩)), (7, .pointer (some ⟨b1202, 0, none⟩))] ρ ∧ K = K' ∧ L' = Cl b1202 28 [.slice adxd_0 xd.length cpxd_0] :: Cl b1201 57 [.int .i64 xa.1, .slice adxa_1 xa.2.1.length cpxa_1, .slice adxa_2 xa.2.2.1.length cpxa_2, .slice adxa_3 xa.2.2.2.length cpxa_3] :: F) ?_ ?_
    · skip
      rcases bt (!decide ((((xb.length : Nat) : Int)) = xa.1)) with hc1213 | hc1213
      · skip
        refine J.skip rfl rfl rfl rfl hc1213 ?_
        refine J.skip rfl rfl rfl rfl hc1213 ?_
        refine J.skip rfl rfl rfl rfl hc1213 ?_
        refine J.skip rfl rfl rfl rfl hc1213 ?_
        refine J.skip rfl rfl rfl rfl hc1213 ?_
        refine J.skip rfl rfl rfl rfl hc1213 ?_
        refine J.val (v := .bool true) rfl rfl (V.pickT rfl hc1213 rfl) ?_
        refine J.nil ?_
        exact ⟨rfl, ⟨(by simp only [hc1213]; rfl), rfl, rfl, rfl, rfl, trivial⟩, rfl, rfl⟩
      · skip
        refine J.run rfl rfl rfl hc1213 ?_
        refine J.val (v := .slice adxc_0 xc.length cpxc_0) rfl rfl (V.mv rfl) ?_
        refine J.run rfl rfl rfl hc1213 ?_
        refine J.val (v := .int .i64 (((xc.length : Nat) : Int))) rfl rfl (V.len Try.underlying25 rfl) ?_
        refine J.run rfl rfl rfl hc1213 ?_
        refine J.val rfl rfl (V.fad Try.underlying57 rfl nz25 rfl) ?_
        refine J.run rfl rfl rfl hc1213 ?_
        refine J.val (v := .slice adxa_2 xa.2.2.1.length cpxa_2) rfl rfl (V.ld rfl (Ld.sc sc25 (Rd.cl 1 rfl rfl))) ?_
        refine J.run rfl rfl rfl hc1213 ?_
        refine J.val (v := .int .i64 (((xa.2.2.1.length : Nat) : Int))) rfl rfl (V.len Try.underlying25 rfl) ?_
        refine J.run rfl rfl rfl hc1213 ?_
        refine J.val (v := .bool (!decide ((((xc.length : Nat) : Int)) = (((xa.2.2.1.length : Nat) : Int))))) rfl rfl (V.neq rfl rfl) ?_
        refine J.val (v := .bool (!decide ((((xc.length : Nat) : Int)) = (((xa.2.2.1.length : Nat) : Int))))) rfl rfl (V.pickF rfl hc1213 rfl) ?_
        refine J.nil ?_
        exact ⟨rfl, ⟨(by simp only [hc1213]; rfl), rfl, rfl, rfl, rfl, trivial⟩, rfl, rfl⟩
    · rintro ρ _ _ ⟨hf, rfl, rfl⟩
      obtain ⟨ρ, rfl⟩ := hf.ex
      refine J.nil ?_
      refine CJ.cond rfl (fun hc1214 => ?_) (fun hc1214 => ?_)
      · have h := ct hc1214 h
        refine CJ.seq ?_
        refine CJ.region ?_
        refine J.val (v := .slice none 0 0) rfl rfl (V.as rfl) ?_
        refine J.val (v := .int .i64 2) rfl rfl (V.as rfl) ?_
        refine J.nil ?_
        refine CJ.by (fun w hs => Sep.rowNil (e := 66) (t := (.cons (.int .i64) (.cons (.int .i64) (.cons (.int .i64) (.cons (.int .i64) (.one .bool)))))) hs) ?_
        refine CJ.ret ?_
        have e := Option.some.inj h
        subst e
        exact ⟨_, [Row Hp.nil 66 (.cons (.int .i64) (.cons (.int .i64) (.cons (.int .i64) (.cons (.int .i64) (.one .bool))))) (.slice none ((([] : List (Int × Int × Int × Int × Bool))).length) 0) (([] : List (Int × Int × Int × Int × Bool)))], Res.two rfl rfl rfl, ⟨[], 2, none, 0, rfl, rfl, rfl⟩, (Hp.le_refl _), fun w hs => (Sep.dropAt 1 rfl (Sep.dropAt 1 rfl hs))⟩
      · have h := cf hc1214 h
        refine CJ.skip ?_
        refine CJ.seq ?_
        refine CJ.region ?_
        refine J.op rfl (A.lit (K0 := Hp.nil) (ty := (.cons (.int .i64) (.cons (.int .i64) (.cons (.int .i64) (.cons (.int .i64) (.one .bool)))))) (xs := ([] : List (Int × Int × Int × Int × Bool))) Try.underlying39 inf66 rfl (by decide) rfl rfl rfl rfl rfl (by decide)) ?_
        rintro _ _ _ ⟨b1216, rfl, rfl, rfl⟩
        have hn1217 : ([] : List (Int × Int × Int × Int × Bool)) ≠ [] → ∃ g, (some ⟨b1216, 0, none⟩ : Option Addr) = some ⟨g, 0, none⟩ := fun _ => ⟨b1216, rfl⟩
        refine J.val (v := .slice (some ⟨b1216, 0, none⟩) ((([] : List (Int × Int × Int × Int × Bool))).length) 0) rfl rfl (V.as rfl) ?_
        refine J.nil ?_
        refine CJ.seq ?_
        refine CJ.seq ?_
        refine CJ.region ?_
        refine J.val (v := .int .i64 0) rfl rfl (V.as rfl) ?_
        refine J.nil ?_
        obtain ⟨o1501, ho1502, h⟩ := ob h
        refine CJ.meetN (fun ρ K' L' => ∃ (l1496 : (List (Int × Int × Int × Int × Bool))) (ad1497 : Option Addr) (cp1498 : Nat), l1496 = o1501 ∧ Fits [(1, .slice adxb_0 xb.length cpxb_0), (2, .slice adxc_0 xc.length cpxc_0), (4, .pointer (some ⟨b1201, 0, none⟩)), (7, .pointer (some ⟨b1202, 0, none⟩)), (11, .slice ad1497 l1496.length cp1498)] ρ ∧ K = K' ∧ L' = Cl b1201 57 [.int .i64 xa.1, .slice adxa_1 xa.2.1.length cpxa_1, .slice adxa_2 xa.2.2.1.length cpxa_2, .slice adxa_3 xa.2.2.2.length cpxa_3] :: Cl b1202 28 [.slice adxd_0 xd.length cpxd_0] :: Row Hp.nil 66 (.cons (.int .i64) (.cons (.int .i64) (.cons (.int .i64) (.cons (.int .i64) (.one .bool))))) (.slice ad1497 l1496.length cp1498) l1496 :: F) ?_ ?_
        · skip
          refine CJ.block ?_
          refine CJ.front 1 rfl ?_
          refine CJ.front 2 rfl ?_
          refine CJ.loop (fun s ρ K' L' => ∃ (l1594 : (List (Int × Int × Int × Int × Bool))) (i1599 : Int) (ad1595 : Option Addr) (cp1596 : Nat), (l1594, i1599) = s ∧ Fits [(1, .slice adxb_0 xb.length cpxb_0), (2, .slice adxc_0 xc.length cpxc_0), (4, .pointer (some ⟨b1201, 0, none⟩)), (7, .pointer (some ⟨b1202, 0, none⟩)), (11, .slice ad1595 l1594.length cp1596), (12, .int .i64 i1599)] ρ ∧ K = K' ∧ L' = Cl b1201 57 [.int .i64 xa.1, .slice adxa_1 xa.2.1.length cpxa_1, .slice adxa_2 xa.2.2.1.length cpxa_2, .slice adxa_3 xa.2.2.2.length cpxa_3] :: Cl b1202 28 [.slice adxd_0 xd.length cpxd_0] :: Row Hp.nil 66 (.cons (.int .i64) (.cons (.int .i64) (.cons (.int .i64) (.cons (.int .i64) (.one .bool))))) (.slice ad1595 l1594.length cp1596) l1594 :: F) ho1502 ⟨([] : List (Int × Int × Int × Int × Bool)), 0, (some ⟨b1216, 0, none⟩), 0, rfl, ⟨rfl, rfl, rfl, rfl, rfl, rfl, trivial⟩, rfl, rfl⟩ ?_
          rintro s ρ _ _ r1694 ⟨l1594, i1599, ad1595, cp1596, rfl, hf1692, rfl, rfl⟩ h1691
          obtain ⟨ρ, rfl⟩ := hf1692.ex
          refine CJ.front 2 rfl ?_
          refine CJ.wit Row.hn (fun hn1598 => ?_)
          refine CJ.seq ?_
          refine CJ.seq ?_
          refine CJ.region ?_
          refine J.val (v := .int .i64 i1599) rfl rfl (V.mv rfl) ?_
          refine J.val rfl rfl (V.fad Try.underlying57 rfl nz55 rfl) ?_
          refine J.val (v := .slice adxa_1 xa.2.1.length cpxa_1) rfl rfl (V.ld rfl (Ld.sc sc55 (Rd.cl 1 rfl rfl))) ?_
          refine J.val (v := .int .i64 (((xa.2.1.length : Nat) : Int))) rfl rfl (V.len Try.underlying55 rfl) ?_
          refine J.val (v := .bool (decide (i1599 < (((xa.2.1.length : Nat) : Int))))) rfl rfl (V.lss rfl rfl) ?_
          refine J.nil ?_
          refine CJ.cond rfl (fun hc1695 => ?_) (fun hc1695 => ?_)
          · have h1691 := ct hc1695 h1691
            refine CJ.skip ?_
            refine CJ.seq ?_
            refine CJ.block ?_
            refine CJ.mix [Row Hp.nil 66 (.cons (.int .i64) (.cons (.int .i64) (.cons (.int .i64) (.cons (.int .i64) (.one .bool))))) (.slice ad1595 l1594.length cp1596) l1594, Cl b1201 57 [.int .i64 xa.1, .slice adxa_1 xa.2.1.length cpxa_1, .slice adxa_2 xa.2.2.1.length cpxa_2, .slice adxa_3 xa.2.2.2.length cpxa_3], Cl b1202 28 [.slice adxd_0 xd.length cpxd_0]] [([0, 1, 2, 3, 4, 5, 6, 7, 8, 9, 10, 11, 12, 13, 14, 15, 16, 17, 18, 19, 20], 21)] [] [22, 23] mixO (by decide +kernel) ⟨0, rfl, 0, rfl, 0, rfl, trivial⟩ rfl rfl rfl ?_
            refine JM.cons ?_
            refine JQ.val (v := .slice ad1595 l1594.length cp1596) rfl rfl (V.mv rfl) ?_
            refine JQ.val (v := .slice adxb_0 xb.length cpxb_0) rfl rfl (V.mv rfl) ?_
            refine JQ.val rfl rfl (V.fad Try.underlying57 rfl nz55 rfl) ?_
            refine JQ.val (v := .slice adxa_1 xa.2.1.length cpxa_1) rfl rfl (V.ld rfl (Ld.sc sc55 (Rd.cl 1 rfl rfl))) ?_
            refine JQ.val (v := .int .i64 i1599) rfl rfl (V.mv rfl) ?_
            obtain ⟨x1735, hx1736, h1691⟩ := ob h1691
            obtain ⟨p1737, p1738, p1739⟩ := getI_some hx1736
            obtain ⟨b1740, o1741, e1742, a1743⟩ := (fxa_1).at p1738
            refine JQ.val rfl rfl (V.iad Try.underlying55 sz98 rfl e1742 rfl p1737 p1739) ?_
            refine JQ.val rfl rfl (V.fad Try.underlying98 rfl nz3 rfl) ?_
            refine JQ.val (v := .int .i64 x1735.1) rfl rfl (V.ld rfl (Ld.sc sc3 (Rd.k ((a1743).fst).int (Hp.le_refl _)))) ?_
            obtain ⟨x1744, hx1745, h1691⟩ := ob h1691
            obtain ⟨p1746, p1747, p1748⟩ := getI_some hx1745
            obtain ⟨b1749, o1750, e1751, a1752⟩ := (fxb_0).at p1747
            refine JQ.val rfl rfl (V.iad Try.underlying22 sz3 rfl e1751 rfl p1746 p1748) ?_
            refine JQ.val (v := .int .i64 x1744) rfl rfl (V.ld rfl (Ld.sc sc3 (Rd.k (a1752).int (Hp.le_refl _)))) ?_
            refine JQ.val (v := .slice adxb_0 xb.length cpxb_0) rfl rfl (V.mv rfl) ?_
            refine JQ.val rfl rfl (V.fad Try.underlying57 rfl nz55 rfl) ?_
            refine JQ.val (v := .slice adxa_1 xa.2.1.length cpxa_1) rfl rfl (V.ld rfl (Ld.sc sc55 (Rd.cl 1 rfl rfl))) ?_
            refine JQ.val (v := .int .i64 i1599) rfl rfl (V.mv rfl) ?_
            obtain ⟨x1753, hx1754, h1691⟩ := ob h1691
            obtain ⟨p1755, p1756, p1757⟩ := getI_some hx1754
            obtain ⟨b1758, o1759, e1760, a1761⟩ := (fxa_1).at p1756
            refine JQ.val rfl rfl (V.iad Try.underlying55 sz98 rfl e1760 rfl p1755 p1757) ?_
            refine JQ.val rfl rfl (V.fad Try.underlying98 rfl nz3 rfl) ?_
            refine JQ.val (v := .int .i64 x1753.2) rfl rfl (V.ld rfl (Ld.sc sc3 (Rd.k (((a1761).snd).one).int (Hp.le_refl _)))) ?_
            obtain ⟨x1762, hx1763, h1691⟩ := ob h1691
            obtain ⟨p1764, p1765, p1766⟩ := getI_some hx1763
            obtain ⟨b1767, o1768, e1769, a1770⟩ := (fxb_0).at p1765
            refine JQ.val rfl rfl (V.iad Try.underlying22 sz3 rfl e1769 rfl p1764 p1766) ?_
            refine JQ.val (v := .int .i64 x1762) rfl rfl (V.ld rfl (Ld.sc sc3 (Rd.k (a1770).int (Hp.le_refl _)))) ?_
            refine JQ.val (v := .int .i64 i1599) rfl rfl (V.mv rfl) ?_
            refine JQ.val (v := .agg #[.int .i64 x1744, .int .i64 x1762, .int .i64 4, .int .i64 i1599, .bool false]) rfl rfl (V.build inf66 places66 rfl rfl) ?_
            refine JQ.nil ?_
            refine JA.op rfl (A.lit (K0 := Hp.nil) (ty := (.cons (.int .i64) (.cons (.int .i64) (.cons (.int .i64) (.cons (.int .i64) (.one .bool)))))) (xs := ([(x1744, x1762, 4, i1599, false)] : List (Int × Int × Int × Int × Bool))) Try.underlying39 inf66 rfl (by decide) rfl rfl rfl ⟨_, _, rfl, ⟨_, _, rfl, rfl, rfl, ⟨_, _, rfl, rfl, rfl, ⟨_, _, rfl, rfl, rfl, ⟨_, _, rfl, rfl, rfl, rfl⟩⟩⟩⟩, rfl⟩ rfl (by decide)) ?_
            rintro _ _ _ ⟨b1771, rfl, rfl, rfl⟩
            have hn1772 : ([(x1744, x1762, 4, i1599, false)] : List (Int × Int × Int × Int × Bool)) ≠ [] → ∃ g, (some ⟨b1771, 0, none⟩ : Option Addr) = some ⟨g, 0, none⟩ := fun _ => ⟨b1771, rfl⟩
            refine ⟨fun w hs => Hold.sub (Hp.le_refl _) ⟨1, rfl, 1, rfl, 1, rfl, trivial⟩ hs, ?_⟩
            refine JM.nil ?_
            refine JQ.nil ?_
            obtain ⟨z1774, hz1775, h1691⟩ := ob h1691
            refine J.front 1 rfl ?_
            refine J.op rfl (A.appR (Kr := Hp.nil) Try.underlying39 inf66 rfl rfl (by decide) (by decide) rfl rfl (Els.flat rfl) (Els.flat rfl) hz1775) ?_
            rintro _ _ _ ⟨v1776, rfl, rfl, rfl⟩
            refine J.wit Row.form ?_
            rintro ⟨ad1777, cp1778, rfl, _, _, hn1779⟩
            refine J.val (v := .slice ad1777 z1774.length cp1778) rfl rfl (V.as rfl) ?_
            refine J.nil ?_
            refine CJ.region ?_
            refine J.val (v := .int .i64 i1599) rfl rfl (V.mv rfl) ?_
            refine J.val (v := .int .i64 (IntKind.wrap .i64 (i1599 + 1))) rfl rfl (V.add rfl rfl) ?_
            refine J.val (v := .int .i64 (IntKind.wrap .i64 (i1599 + 1))) rfl rfl (V.as rfl) ?_
            refine J.front 2 rfl ?_
            refine J.front 2 rfl ?_
            refine J.nil ?_
            have e := Option.some.inj h1691
            subst e
            exact ⟨rfl, ⟨z1774, IntKind.wrap .i64 (i1599 + 1), ad1777, cp1778, rfl, ⟨rfl, rfl, rfl, rfl, rfl, rfl, trivial⟩, rfl, rfl⟩⟩
          · have h1691 := cf hc1695 h1691
            refine CJ.front 2 rfl ?_
            refine CJ.front 2 rfl ?_
            refine CJ.exit ?_
            have e := Option.some.inj h1691
            subst e
            refine ⟨nofun, fun e => ?_⟩
            subst e
            exact ⟨rfl, ⟨l1594, ad1595, cp1596, rfl, ⟨rfl, rfl, rfl, rfl, rfl, trivial⟩, rfl, rfl⟩⟩
        · rintro ρ _ _ ⟨l1496, ad1497, cp1498, rfl, hf1780, rfl, rfl⟩
          obtain ⟨ρ, rfl⟩ := hf1780.ex
          refine PJ.front 2 rfl ?_
          refine PJ.wit Row.hn (fun hn1500 => ?_)
          refine PJ.done ?_
          refine CJ.seq ?_
          refine CJ.seq ?_
          refine CJ.region ?_
          refine J.val (v := .int .i64 0) rfl rfl (V.as rfl) ?_
          refine J.nil ?_
          obtain ⟨o2073, ho2074, h⟩ := ob h
          refine CJ.joinN (o := o2073) (fun s ρ K' L' => ∃ (l2068 : (List (Int × Int × Int × Int × Bool))) (ad2069 : Option Addr) (cp2070 : Nat), l2068 = s ∧ Fits [(1, .slice adxb_0 xb.length cpxb_0), (4, .pointer (some ⟨b1201, 0, none⟩)), (7, .pointer (some ⟨b1202, 0, none⟩)), (11, .slice ad2069 l2068.length cp2070)] ρ ∧ Hp.le K K' ∧ L' = Cl b1201 57 [.int .i64 xa.1, .slice adxa_1 xa.2.1.length cpxa_1, .slice adxa_2 xa.2.2.1.length cpxa_2, .slice adxa_3 xa.2.2.2.length cpxa_3] :: Cl b1202 28 [.slice adxd_0 xd.length cpxd_0] :: Row Hp.nil 66 (.cons (.int .i64) (.cons (.int .i64) (.cons (.int .i64) (.cons (.int .i64) (.one .bool))))) (.slice ad2069 l2068.length cp2070) l2068 :: F) ?_ ?_
          · skip
            refine CJ.block ?_
            refine CJ.front 2 rfl ?_
            refine CJ.front 2 rfl ?_
            refine CJ.loop (fun s ρ K' L' => ∃ (l2169 : (List (Int × Int × Int × Int × Bool))) (i2174 : Int) (ad2170 : Option Addr) (cp2171 : Nat), (l2169, i2174) = s ∧ Fits [(1, .slice adxb_0 xb.length cpxb_0), (2, .slice adxc_0 xc.length cpxc_0), (4, .pointer (some ⟨b1201, 0, none⟩)), (7, .pointer (some ⟨b1202, 0, none⟩)), (11, .slice ad2170 l2169.length cp2171), (13, .int .i64 i2174)] ρ ∧ Hp.le K K' ∧ L' = Cl b1201 57 [.int .i64 xa.1, .slice adxa_1 xa.2.1.length cpxa_1, .slice adxa_2 xa.2.2.1.length cpxa_2, .slice adxa_3 xa.2.2.2.length cpxa_3] :: Cl b1202 28 [.slice adxd_0 xd.length cpxd_0] :: Row Hp.nil 66 (.cons (.int .i64) (.cons (.int .i64) (.cons (.int .i64) (.cons (.int .i64) (.one .bool))))) (.slice ad2170 l2169.length cp2171) l2169 :: F) ho2074 ⟨l1496, 0, ad1497, cp1498, rfl, ⟨rfl, rfl, rfl, rfl, rfl, rfl, trivial⟩, (Hp.le_refl _), rfl⟩ ?_
            rintro s ρ K2168 _ r2272 ⟨l2169, i2174, ad2170, cp2171, rfl, hf2270, hk2271, rfl⟩ h2269
            obtain ⟨ρ, rfl⟩ := hf2270.ex
            refine CJ.front 2 rfl ?_
            refine CJ.wit Row.hn (fun hn2173 => ?_)
            refine CJ.seq ?_
            refine CJ.seq ?_
            refine CJ.region ?_
            refine J.val (v := .int .i64 i2174) rfl rfl (V.mv rfl) ?_
            refine J.val rfl rfl (V.fad Try.underlying57 rfl nz25 rfl) ?_
            refine J.val (v := .slice adxa_2 xa.2.2.1.length cpxa_2) rfl rfl (V.ld rfl (Ld.sc sc25 (Rd.cl 1 rfl rfl))) ?_
            refine J.val (v := .int .i64 (((xa.2.2.1.length : Nat) : Int))) rfl rfl (V.len Try.underlying25 rfl) ?_
            refine J.val (v := .bool (decide (i2174 < (((xa.2.2.1.length : Nat) : Int))))) rfl rfl (V.lss rfl rfl) ?_
            refine J.nil ?_
            refine CJ.cond rfl (fun hc2273 => ?_) (fun hc2273 => ?_)
            · have h2269 := ct hc2273 h2269
              refine CJ.skip ?_
              refine CJ.seq ?_
              refine CJ.block ?_
              refine CJ.seq ?_
              refine CJ.region ?_
              refine J.val rfl rfl (V.fad Try.underlying57 rfl nz25 rfl) ?_
              refine J.val (v := .slice adxa_2 xa.2.2.1.length cpxa_2) rfl rfl (V.ld rfl (Ld.sc sc25 (Rd.cl 1 rfl rfl))) ?_
              refine J.val (v := .int .i64 i2174) rfl rfl (V.mv rfl) ?_
              obtain ⟨x2274, hx2275, h2269⟩ := ob h2269
              obtain ⟨p2276, p2277, p2278⟩ := getI_some hx2275
              obtain ⟨b2279, o2280, e2281, a2282⟩ := ((fxa_2.mono hk2271)).at p2277
              refine J.val rfl rfl (V.iad Try.underlying25 sz28 rfl e2281 rfl p2276 p2278) ?_
              obtain ⟨ad2283, cp2284, c2285, f2286⟩ := ((a2282).one).sl
              refine J.val (v := .agg #[.slice ad2283 x2274.length cp2284]) rfl rfl (V.ld rfl (Ld.aggK (cs := [.slice ad2283 x2274.length cp2284]) Try.underlying28 sz28 rfl ⟨c2285, trivial⟩ (Hp.le_refl _))) ?_
              refine J.val (v := .slice adxb_0 xb.length cpxb_0) rfl rfl (V.mv rfl) ?_
              obtain ⟨r2287, hr2288, h2269⟩ := ob h2269
              refine J.op rfl (A.call (L1 := []) Try.call54 rfl (ref15_Subst_ok f2286 (fxb_0.mono hk2271) hr2288) rfl rfl) ?_
              rintro _ _ _ ⟨v2294, _, rfl, ⟨⟨l2289, i2290, ad2291, cp2292, rfl, rfl, rfl⟩, rfl⟩, _, rfl⟩
              refine J.wit Row.hn (fun hn2293 => ?_)
              refine J.val (v := .tuple #[.agg #[.slice ad2291 l2289.length cp2292], .int .i64 i2290]) rfl rfl (V.mv rfl) ?_
              refine J.val (v := .agg #[.slice ad2291 l2289.length cp2292]) rfl rfl (V.ext rfl rfl) ?_
              refine J.val (v := .int .i64 i2290) rfl rfl (V.ext rfl rfl) ?_
              refine J.op rfl (A.alloc (cs := [.slice none 0 0]) inf28 rfl) ?_
              rintro _ _ _ ⟨b2298, rfl, rfl, rfl⟩
              refine J.op rfl (A.store (v := .agg #[.slice ad2291 l2289.length cp2292]) (cs' := [.slice ad2291 l2289.length cp2292]) sz28 rfl rfl rfl rfl rfl rfl) ?_
              rintro _ _ _ ⟨rfl, rfl, rfl⟩
              refine J.val (v := .int .i64 i2290) rfl rfl (V.as rfl) ?_
              refine J.nil ?_
              refine CJ.seq ?_
              refine CJ.mix [Cl b2298 28 [.slice ad2291 l2289.length cp2292], Row Hp.nil 66 (.cons (.int .i64) (.cons (.int .i64) (.cons (.int .i64) (.cons (.int .i64) (.one .bool))))) (.slice ad2170 l2169.length cp2171) l2169, Cl b1201 57 [.int .i64 xa.1, .slice adxa_1 xa.2.1.length cpxa_1, .slice adxa_2 xa.2.2.1.length cpxa_2, .slice adxa_3 xa.2.2.2.length cpxa_3], Cl b1202 28 [.slice adxd_0 xd.length cpxd_0]] [([0, 1, 2, 3, 4, 5, 6], 7)] [8, 9, 10, 11, 12] [] mixO (by decide +kernel) ⟨0, rfl, 1, rfl, 1, rfl, 1, rfl, trivial⟩ rfl rfl rfl ?_
              refine JM.cons ?_
              refine JQ.val (v := .slice adxc_0 xc.length cpxc_0) rfl rfl (V.mv rfl) ?_
              refine JQ.val (v := .int .i64 i2174) rfl rfl (V.mv rfl) ?_
              obtain ⟨x2326, hx2327, h2269⟩ := ob h2269
              obtain ⟨p2328, p2329, p2330⟩ := getI_some hx2327
              obtain ⟨b2331, o2332, e2333, a2334⟩ := ((fxc_0.mono hk2271)).at p2329
              refine JQ.val rfl rfl (V.iad Try.underlying25 sz28 rfl e2333 rfl p2328 p2330) ?_
              obtain ⟨ad2335, cp2336, c2337, f2338⟩ := ((a2334).one).sl
              refine JQ.val (v := .agg #[.slice ad2335 x2326.length cp2336]) rfl rfl (V.ld rfl (Ld.aggK (cs := [.slice ad2335 x2326.length cp2336]) Try.underlying28 sz28 rfl ⟨c2337, trivial⟩ (Hp.le_refl _))) ?_
              refine JQ.val (v := .agg #[.slice ad2291 l2289.length cp2292]) rfl rfl (V.ld rfl (Ld.agg (cs := [.slice ad2291 l2289.length cp2292]) Try.underlying28 sz28 rfl (Rd.cls 0 0 rfl rfl))) ?_
              refine JQ.val (v := .int .i64 i2174) rfl rfl (V.mv rfl) ?_
              refine JQ.val (v := .int .i64 (IntKind.wrap .i64 (16 * i2174))) rfl rfl (V.mul rfl rfl) ?_
              refine JQ.nil ?_
              refine JA.front 1 rfl ?_
              refine JA.persist (Hp.nil_le _) (by decide) (fun K2339 hK2340 f2341 => ?_)
              obtain ⟨r2342, hr2343, h2269⟩ := ob h2269
              refine JA.op rfl (A.call (L1 := []) Try.call28 rfl (ref16_Flow_ok (f2338.mono hK2340) f2341 hr2343) rfl rfl) ?_
              rintro _ _ _ ⟨v2349, _, rfl, ⟨⟨l2344, i2345, ad2346, cp2347, rfl, rfl, rfl⟩, rfl⟩, _, rfl⟩
              refine ⟨fun w hs => Hold.sub hK2340 ⟨1, rfl, 1, rfl, 1, rfl, 1, rfl, trivial⟩ hs, ?_⟩
              refine JM.wit Row.hn (fun hn2348 => ?_)
              refine JM.nil ?_
              refine JQ.val (v := .tuple #[.slice ad2346 l2344.length cp2347, .int .i64 i2345]) rfl rfl (V.mv rfl) ?_
              refine JQ.val (v := .slice ad2346 l2344.length cp2347) rfl rfl (V.ext rfl rfl) ?_
              refine JQ.val (v := .int .i64 i2345) rfl rfl (V.ext rfl rfl) ?_
              refine JQ.val (v := .slice ad2346 l2344.length cp2347) rfl rfl (V.as rfl) ?_
              refine JQ.val (v := .int .i64 i2345) rfl rfl (V.as rfl) ?_
              refine JQ.nil ?_
              refine J.nil ?_
              refine CJ.seq ?_
              refine CJ.seq ?_
              refine CJ.region ?_
              refine J.val (v := .int .i64 i2345) rfl rfl (V.mv rfl) ?_
              refine J.val (v := .bool (!decide (i2345 = 0))) rfl rfl (V.neq rfl rfl) ?_
              refine J.nil ?_
              refine CJ.cond rfl (fun hc2353 => ?_) (fun hc2353 => ?_)
              · have h2269 := ct hc2353 h2269
                refine CJ.seq ?_
                refine CJ.region ?_
                refine J.val (v := .int .i64 i2345) rfl rfl (V.mv rfl) ?_
                refine J.val (v := .slice none 0 0) rfl rfl (V.as rfl) ?_
                refine J.val (v := .int .i64 i2345) rfl rfl (V.as rfl) ?_
                refine J.nil ?_
                refine CJ.by (fun w hs => Sep.rowNil (e := 66) (t := (.cons (.int .i64) (.cons (.int .i64) (.cons (.int .i64) (.cons (.int .i64) (.one .bool)))))) hs) ?_
                refine CJ.ret ?_
                have e := Option.some.inj h2269
                subst e
                refine ⟨nofun, fun e => ?_⟩
                subst e
                refine .inr ⟨nofun, ?_⟩
                have e := Option.some.inj h
                subst e
                exact ⟨_, [Row Hp.nil 66 (.cons (.int .i64) (.cons (.int .i64) (.cons (.int .i64) (.cons (.int .i64) (.one .bool))))) (.slice none ((([] : List (Int × Int × Int × Int × Bool))).length) 0) (([] : List (Int × Int × Int × Int × Bool)))], Res.two rfl rfl rfl, ⟨[], i2345, none, 0, rfl, rfl, rfl⟩, (hk2271.trans hK2340), fun w hs => (Sep.dropAt 1 rfl (Sep.dropAt 1 rfl (Sep.dropAt 1 rfl (Sep.dropAt 1 rfl (Sep.dropAt 1 rfl hs)))))⟩
              · have h2269 := cf hc2353 h2269
                refine CJ.skip ?_
                refine CJ.region ?_
                refine J.val (v := .slice ad2170 l2169.length cp2171) rfl rfl (V.mv rfl) ?_
                refine J.val (v := .slice ad2346 l2344.length cp2347) rfl rfl (V.mv rfl) ?_
                obtain ⟨z2355, hz2356, h2269⟩ := ob h2269
                refine J.front 2 rfl ?_
                refine J.op rfl (A.appR (Kr := Hp.nil) Try.underlying39 inf66 rfl rfl (by decide) (by decide) rfl rfl (Els.flat rfl) (Els.flat rfl) hz2356) ?_
                rintro _ _ _ ⟨v2357, rfl, rfl, rfl⟩
                refine J.wit Row.form ?_
                rintro ⟨ad2358, cp2359, rfl, _, _, hn2360⟩
                refine J.val (v := .slice ad2358 z2355.length cp2359) rfl rfl (V.as rfl) ?_
                refine J.nil ?_
                refine CJ.region ?_
                refine J.val (v := .int .i64 i2174) rfl rfl (V.mv rfl) ?_
                refine J.val (v := .int .i64 (IntKind.wrap .i64 (i2174 + 1))) rfl rfl (V.add rfl rfl) ?_
                refine J.val (v := .int .i64 (IntKind.wrap .i64 (i2174 + 1))) rfl rfl (V.as rfl) ?_
                refine J.dropAt 1 rfl ?_
                refine J.front 2 rfl ?_
                refine J.front 2 rfl ?_
                refine J.nil ?_
                have e := Option.some.inj h2269
                subst e
                exact ⟨rfl, ⟨z2355, IntKind.wrap .i64 (i2174 + 1), ad2358, cp2359, rfl, ⟨rfl, rfl, rfl, rfl, rfl, rfl, trivial⟩, (hk2271.trans hK2340), rfl⟩⟩
            · have h2269 := cf hc2273 h2269
              refine CJ.front 2 rfl ?_
              refine CJ.front 2 rfl ?_
              refine CJ.exit ?_
              have e := Option.some.inj h2269
              subst e
              refine ⟨nofun, fun e => ?_⟩
              subst e
              exact .inl ⟨rfl, _, rfl, ⟨l2169, ad2170, cp2171, rfl, ⟨rfl, rfl, rfl, rfl, trivial⟩, hk2271, rfl⟩⟩
          · rintro s ρ K2067 _ ho2361 ⟨l2068, ad2069, cp2070, rfl, hf2362, hk2363, rfl⟩
            subst ho2361
            obtain ⟨ρ, rfl⟩ := hf2362.ex
            refine PJ.front 2 rfl ?_
            refine PJ.wit Row.hn (fun hn2072 => ?_)
            refine PJ.done ?_
            refine CJ.seq ?_
            refine CJ.region ?_
            refine J.val rfl rfl (V.fad Try.underlying57 rfl nz28 rfl) ?_
            refine J.val (v := .agg #[.slice adxa_3 xa.2.2.2.length cpxa_3]) rfl rfl (V.ld rfl (Ld.agg (cs := [.slice adxa_3 xa.2.2.2.length cpxa_3]) Try.underlying28 sz28 rfl (Rd.cls 1 3 rfl rfl))) ?_
            refine J.val (v := .slice adxb_0 xb.length cpxb_0) rfl rfl (V.mv rfl) ?_
            obtain ⟨r2364, hr2365, h⟩ := ob h
            refine J.op rfl (A.call (L1 := []) Try.call54 rfl (ref15_Subst_ok (fxa_3.mono hk2363) (fxb_0.mono hk2363) hr2365) rfl rfl) ?_
            rintro _ _ _ ⟨v2371, _, rfl, ⟨⟨l2366, i2367, ad2368, cp2369, rfl, rfl, rfl⟩, rfl⟩, _, rfl⟩
            refine J.wit Row.hn (fun hn2370 => ?_)
            refine J.val (v := .tuple #[.agg #[.slice ad2368 l2366.length cp2369], .int .i64 i2367]) rfl rfl (V.mv rfl) ?_
            refine J.val (v := .agg #[.slice ad2368 l2366.length cp2369]) rfl rfl (V.ext rfl rfl) ?_
            refine J.val (v := .int .i64 i2367) rfl rfl (V.ext rfl rfl) ?_
            refine J.op rfl (A.alloc (cs := [.slice none 0 0]) inf28 rfl) ?_
            rintro _ _ _ ⟨b2375, rfl, rfl, rfl⟩
            refine J.op rfl (A.store (v := .agg #[.slice ad2368 l2366.length cp2369]) (cs' := [.slice ad2368 l2366.length cp2369]) sz28 rfl rfl rfl rfl rfl rfl) ?_
            rintro _ _ _ ⟨rfl, rfl, rfl⟩
            refine J.val (v := .int .i64 i2367) rfl rfl (V.as rfl) ?_
            refine J.nil ?_
            refine CJ.seq ?_
            refine CJ.region ?_
            refine J.val (v := .agg #[.slice ad2368 l2366.length cp2369]) rfl rfl (V.ld rfl (Ld.agg (cs := [.slice ad2368 l2366.length cp2369]) Try.underlying28 sz28 rfl (Rd.cls 0 0 rfl rfl))) ?_
            refine J.val (v := .agg #[.slice adxd_0 xd.length cpxd_0]) rfl rfl (V.ld rfl (Ld.agg (cs := [.slice adxd_0 xd.length cpxd_0]) Try.underlying28 sz28 rfl (Rd.cls 4 0 rfl rfl))) ?_
            refine J.front 1 rfl ?_
            refine J.persist (Hp.nil_le _) (by decide) (fun K2376 hK2377 f2378 => ?_)
            obtain ⟨r2379, hr2380, h⟩ := ob h
            refine J.op rfl (A.call (L1 := []) Try.call28 rfl (ref16_Flow_ok f2378 (fxd_0.mono (hk2363.trans hK2377)) hr2380) rfl rfl) ?_
            rintro _ _ _ ⟨v2386, _, rfl, ⟨⟨l2381, i2382, ad2383, cp2384, rfl, rfl, rfl⟩, rfl⟩, _, rfl⟩
            refine J.wit Row.hn (fun hn2385 => ?_)
            refine J.val (v := .tuple #[.slice ad2383 l2381.length cp2384, .int .i64 i2382]) rfl rfl (V.mv rfl) ?_
            refine J.val (v := .slice ad2383 l2381.length cp2384) rfl rfl (V.ext rfl rfl) ?_
            refine J.val (v := .int .i64 i2382) rfl rfl (V.ext rfl rfl) ?_
            refine J.val (v := .slice ad2383 l2381.length cp2384) rfl rfl (V.as rfl) ?_
            refine J.val (v := .int .i64 i2382) rfl rfl (V.as rfl) ?_
            refine J.nil ?_
            refine CJ.seq ?_
            refine CJ.seq ?_
            refine CJ.region ?_
            refine J.val (v := .int .i64 i2382) rfl rfl (V.mv rfl) ?_
            refine J.val (v := .bool (!decide (i2382 = 0))) rfl rfl (V.neq rfl rfl) ?_
            refine J.nil ?_
            refine CJ.cond rfl (fun hc2390 => ?_) (fun hc2390 => ?_)
            · have h := ct hc2390 h
              refine CJ.seq ?_
              refine CJ.region ?_
              refine J.val (v := .int .i64 i2382) rfl rfl (V.mv rfl) ?_
              refine J.val (v := .slice none 0 0) rfl rfl (V.as rfl) ?_
              refine J.val (v := .int .i64 i2382) rfl rfl (V.as rfl) ?_
              refine J.nil ?_
              refine CJ.by (fun w hs => Sep.rowNil (e := 66) (t := (.cons (.int .i64) (.cons (.int .i64) (.cons (.int .i64) (.cons (.int .i64) (.one .bool)))))) hs) ?_
              refine CJ.ret ?_
              have e := Option.some.inj h
              subst e
              exact ⟨_, [Row Hp.nil 66 (.cons (.int .i64) (.cons (.int .i64) (.cons (.int .i64) (.cons (.int .i64) (.one .bool))))) (.slice none ((([] : List (Int × Int × Int × Int × Bool))).length) 0) (([] : List (Int × Int × Int × Int × Bool)))], Res.two rfl rfl rfl, ⟨[], i2382, none, 0, rfl, rfl, rfl⟩, (hk2363.trans hK2377), fun w hs => (Sep.dropAt 1 rfl (Sep.dropAt 1 rfl (Sep.dropAt 1 rfl (Sep.dropAt 1 rfl (Sep.dropAt 1 rfl hs)))))⟩
            · have h := cf hc2390 h
              refine CJ.skip ?_
              refine CJ.seq ?_
              refine CJ.region ?_
              refine J.val (v := .slice ad2069 l2068.length cp2070) rfl rfl (V.mv rfl) ?_
              refine J.val (v := .slice ad2383 l2381.length cp2384) rfl rfl (V.mv rfl) ?_
              obtain ⟨z2392, hz2393, h⟩ := ob h
              refine J.front 2 rfl ?_
              refine J.op rfl (A.appR (Kr := Hp.nil) Try.underlying39 inf66 rfl rfl (by decide) (by decide) rfl rfl (Els.flat rfl) (Els.flat rfl) hz2393) ?_
              rintro _ _ _ ⟨v2394, rfl, rfl, rfl⟩
              refine J.wit Row.form ?_
              rintro ⟨ad2395, cp2396, rfl, _, _, hn2397⟩
              refine J.val (v := .slice ad2395 z2392.length cp2396) rfl rfl (V.as rfl) ?_
              refine J.val (v := .int .i64 0) rfl rfl (V.as rfl) ?_
              refine J.nil ?_
              refine CJ.ret ?_
              have e := Option.some.inj h
              subst e
              exact ⟨_, [Row Hp.nil 66 (.cons (.int .i64) (.cons (.int .i64) (.cons (.int .i64) (.cons (.int .i64) (.one .bool))))) (.slice ad2395 z2392.length cp2396) z2392], Res.two rfl rfl rfl, ⟨z2392, 0, ad2395, cp2396, rfl, rfl, rfl⟩, (hk2363.trans hK2377), fun w hs => (Sep.dropAt 1 rfl (Sep.dropAt 1 rfl (Sep.dropAt 1 rfl hs)))⟩
noncomputable def fn_ref19_Needs_l1 (xa : (Int × Int × Int × (List Int) × (List Int) × (List Int))) (xb : (Int × Int × (List (List (Int × Bool))) × (List (Int × Bool)) × (List (Int × (List (Int × Int)) × (List (List (Int × Bool))) × (List (Int × Bool)))))) : ((List (List (Int × Bool))) × Int) → Option (((List (List (Int × Bool))) × Int) ⊕ (List (List (Int × Bool)))) := fun ((l1145, i1150) : ((List (List (Int × Bool))) × Int)) => cond (decide (i1150 < (((xa.2.2.2.2.1.length : Nat) : Int)))) ((getI xa.2.2.2.2.1 i1150).bind fun x1244 => (getI xb.2.2.1 x1244).bind fun x1253 => (app l1145 (([x1253] : List (List (Int × Bool))))).bind fun z1269 => some (.inl ((z1269, IntKind.wrap .i64 (i1150 + 1))))) (some (.inr (l1145)))
noncomputable def fn_ref19_Needs (xa : (Int × Int × Int × (List Int) × (List Int) × (List Int))) (xb : (Int × Int × (List (List (Int × Bool))) × (List (Int × Bool)) × (List (Int × (List (Int × Int)) × (List (List (Int × Bool))) × (List (Int × Bool)))))) : Option (((List (Int × Int × Int × Int × Bool)) × Int)) :=
  (fn_ref19_Form (xa.1, xa.2.1, xa.2.2.1, xa.2.2.2.1, xa.2.2.2.2.1, xa.2.2.2.2.2)).bind fun i692 => cond (!decide (i692 = 0)) (some (([], i692))) ((fn_ref19_within xa.2.2.2.1 xb.1).bind fun t700 => (cond (!t700) (some (true)) ((fn_ref19_within xa.2.2.2.2.1 (((xb.2.2.1.length : Nat) : Int))).bind fun t716 => some (!t716))).bind fun t711 => (cond (t711) (some (true)) ((fn_ref19_within xa.2.2.2.2.2 xb.2.1).bind fun t732 => some (!t732))).bind fun t727 => cond (t727) (some (([], 7))) ((cond (decide (xa.1 = 4)) ((fn_ref19_within ([xa.2.2.1] : List Int) (((xb.2.2.1.length : Nat) : Int))).bind fun t790 => (cond (!t790) (some (true)) ((fn_ref19_within ([xa.2.1] : List Int) (((xb.2.2.2.2.length : Nat) : Int))).bind fun t818 => some (!t818))).bind fun t807 => some (t807)) (some (false))).bind fun t779 => cond (t779) (some (([], 7))) (cond ((decide (xa.1 = 3)) && (decide ((((xb.2.2.1.length : Nat) : Int)) = 0))) (some (([], 14))) (cond (decide (xa.1 = 3)) ((getI xb.2.2.1 0).bind fun x854 => (fn_ref16_Flow x854 xb.2.2.2.1 7 0).bind fun (l869, i870) => some ((l869, i870))) (cond (decide (xa.1 = 4)) ((loop (fn_ref19_Needs_l1 xa xb) ((([] : List (List (Int × Bool))), 0)) : Option ((List (List (Int × Bool))))).bind fun l1075 => (getI xb.2.2.2.2 xa.2.1).bind fun x1325 => (getI xb.2.2.1 xa.2.2.1).bind fun x1346 => (fn_ref17_Call (x1325.1, x1325.2.1, x1325.2.2.1, x1325.2.2.2) xa.2.2.2.2.2 l1075 x1346).bind fun (l1364, i1365) => some ((l1364, i1365))) (some (([], 0))))))))
set_option maxRecDepth 100000 in
set_option maxHeartbeats 4000000 in
theorem ref19_Needs_ok {K : Hp} {xa : (Int × Int × Int × (List Int) × (List Int) × (List Int))} {xb : (Int × Int × (List (List (Int × Bool))) × (List (Int × Bool)) × (List (Int × (List (Int × Int)) × (List (List (Int × Bool))) × (List (Int × Bool)))))} {adxa_3 : Option Addr} {cpxa_3 : Nat} {adxa_4 : Option Addr} {cpxa_4 : Nat} {adxa_5 : Option Addr} {cpxa_5 : Nat} {adxb_2 : Option Addr} {cpxb_2 : Nat} {adxb_3 : Option Addr} {cpxb_3 : Nat} {adxb_4 : Option Addr} {cpxb_4 : Nat} (fxa_3 : Is K (.sl (.int .i64)) [.slice adxa_3 xa.2.2.2.1.length cpxa_3] xa.2.2.2.1) (fxa_4 : Is K (.sl (.int .i64)) [.slice adxa_4 xa.2.2.2.2.1.length cpxa_4] xa.2.2.2.2.1) (fxa_5 : Is K (.sl (.int .i64)) [.slice adxa_5 xa.2.2.2.2.2.length cpxa_5] xa.2.2.2.2.2) (fxb_2 : Is K (.sl (.one (.sl (.cons (.int .i64) (.one .bool))))) [.slice adxb_2 xb.2.2.1.length cpxb_2] xb.2.2.1) (fxb_3 : Is K (.sl (.cons (.int .i64) (.one .bool))) [.slice adxb_3 xb.2.2.2.1.length cpxb_3] xb.2.2.2.1) (fxb_4 : Is K (.sl (.cons (.int .i64) (.cons (.sl (.cons (.int .i64) (.one (.int .i64)))) (.cons (.sl (.one (.sl (.cons (.int .i64) (.one .bool))))) (.one (.one (.sl (.cons (.int .i64) (.one .bool))))))))) [.slice adxb_4 xb.2.2.2.2.length cpxb_4] xb.2.2.2.2) {r : ((List (Int × Int × Int × Int × Bool)) × Int)} (h : fn_ref19_Needs xa xb = some r) :
    Tr Try.prog 9 #[.agg #[.int .i64 xa.1, .int .i64 xa.2.1, .int .i64 xa.2.2.1, .slice adxa_3 xa.2.2.2.1.length cpxa_3, .slice adxa_4 xa.2.2.2.2.1.length cpxa_4, .slice adxa_5 xa.2.2.2.2.2.length cpxa_5], .agg #[.int .i64 xb.1, .int .i64 xb.2.1, .slice adxb_2 xb.2.2.1.length cpxb_2, .slice adxb_3 xb.2.2.2.1.length cpxb_3, .slice adxb_4 xb.2.2.2.2.length cpxb_4]] K [] (fun v K' L' => (∃ (l682 : (List (Int × Int × Int × Int × Bool))) (i687 : Int) (ad683 : Option Addr) (cp684 : Nat), (l682, i687) = r ∧ .tuple #[.slice ad683 l682.length cp684, .int .i64 i687] = v ∧ L' = [Row Hp.nil 66 (.cons (.int .i64) (.cons (.int .i64) (.cons (.int .i64) (.cons (.int .i64) (.one .bool))))) (.slice ad683 l682.length cp684) l682]) ∧ K = K') := by
  refine Tr.k ?_
  refine Tr.of Try.func9 rfl Try.ntmps9 rfl (fun E F => ?_)
  unfold fn_ref19_Needs at h
  refine CJ.seq ?_
  refine CJ.region ?_
  refine J.op rfl (A.box (v := .agg #[.int .i64 xa.1, .int .i64 xa.2.1, .int .i64 xa.2.2.1, .slice adxa_3 xa.2.2.2.1.length cpxa_3, .slice adxa_4 xa.2.2.2.2.1.length cpxa_4, .slice adxa_5 xa.2.2.2.2.2.length cpxa_5]) (cs := [.int .i64 xa.1, .int .i64 xa.2.1, .int .i64 xa.2.2.1, .slice adxa_3 xa.2.2.2.1.length cpxa_3, .slice adxa_4 xa.2.2.2.2.1.length cpxa_4, .slice adxa_5 xa.2.2.2.2.2.length cpxa_5]) rfl rfl) ?_
  rintro _ _ _ ⟨b688, rfl, rfl, rfl⟩
  refine J.op rfl (A.box (v := .agg #[.int .i64 xb.1, .int .i64 xb.2.1, .slice adxb_2 xb.2.2.1.length cpxb_2, .slice adxb_3 xb.2.2.2.1.length cpxb_3, .slice adxb_4 xb.2.2.2.2.length cpxb_4]) (cs := [.int .i64 xb.1, .int .i64 xb.2.1, .slice adxb_2 xb.2.2.1.length cpxb_2, .slice adxb_3 xb.2.2.2.1.length cpxb_3, .slice adxb_4 xb.2.2.2.2.length cpxb_4]) rfl rfl) ?_
  rintro _ _ _ ⟨b689, rfl, rfl, rfl⟩
  refine J.val (v := .slice none 0 0) rfl rfl (V.as rfl) ?_
  refine J.val (v := .int .i64 0) rfl rfl (V.as rfl) ?_
  refine J.nil ?_
  refine CJ.seq ?_
  refine CJ.region ?_
  refine J.val (v := .agg #[.int .i64 xa.1, .int .i64 xa.2.1, .int .i64 xa.2.2.1, .slice adxa_3 xa.2.2.2.1.length cpxa_3, .slice adxa_4 xa.2.2.2.2.1.length cpxa_4, .slice adxa_5 xa.2.2.2.2.2.length cpxa_5]) rfl rfl (V.ld rfl (Ld.agg (cs := [.int .i64 xa.1, .int .i64 xa.2.1, .int .i64 xa.2.2.1, .slice adxa_3 xa.2.2.2.1.length cpxa_3, .slice adxa_4 xa.2.2.2.2.1.length cpxa_4, .slice adxa_5 xa.2.2.2.2.2.length cpxa_5]) Try.underlying24 sz24 rfl (Rd.cls 1 0 rfl rfl))) ?_
  obtain ⟨r690, hr691, h⟩ := ob h
  refine J.op rfl (A.call (L1 := []) Try.call26 rfl (ref19_Form_ok fxa_3 fxa_4 fxa_5 hr691) rfl rfl) ?_
  rintro _ _ _ ⟨v693, _, rfl, ⟨⟨i692, rfl, rfl, rfl⟩, rfl⟩, _, rfl⟩
  refine J.val (v := .int .i64 i692) rfl rfl (V.as rfl) ?_
  refine J.nil ?_
  refine CJ.seq ?_
  refine CJ.seq ?_
  refine CJ.region ?_
  refine J.val (v := .int .i64 i692) rfl rfl (V.mv rfl) ?_
  refine J.val (v := .bool (!decide (i692 = 0))) rfl rfl (V.neq rfl rfl) ?_
  refine J.nil ?_
  refine CJ.cond rfl (fun hc696 => ?_) (fun hc696 => ?_)
  · have h := ct hc696 h
    refine CJ.seq ?_
    refine CJ.region ?_
    refine J.val (v := .int .i64 i692) rfl rfl (V.mv rfl) ?_
    refine J.val (v := .slice none 0 0) rfl rfl (V.as rfl) ?_
    refine J.val (v := .int .i64 i692) rfl rfl (V.as rfl) ?_
    refine J.nil ?_
    refine CJ.by (fun w hs => Sep.rowNil (e := 66) (t := (.cons (.int .i64) (.cons (.int .i64) (.cons (.int .i64) (.cons (.int .i64) (.one .bool)))))) hs) ?_
    refine CJ.ret ?_
    have e := Option.some.inj h
    subst e
    exact ⟨_, [Row Hp.nil 66 (.cons (.int .i64) (.cons (.int .i64) (.cons (.int .i64) (.cons (.int .i64) (.one .bool))))) (.slice none ((([] : List (Int × Int × Int × Int × Bool))).length) 0) (([] : List (Int × Int × Int × Int × Bool)))], Res.two rfl rfl rfl, ⟨[], i692, none, 0, rfl, rfl, rfl⟩, (Hp.le_refl _), fun w hs => (Sep.dropAt 1 rfl (Sep.dropAt 1 rfl hs))⟩
  · have h := cf hc696 h
    refine CJ.skip ?_
    refine CJ.seq ?_
    refine CJ.seq ?_
    refine CJ.region ?_
    refine J.val rfl rfl (V.fad Try.underlying24 rfl nz22 rfl) ?_
    refine J.val (v := .slice adxa_3 xa.2.2.2.1.length cpxa_3) rfl rfl (V.ld rfl (Ld.sc sc22 (Rd.cl 1 rfl rfl))) ?_
    refine J.val rfl rfl (V.fad Try.underlying31 rfl nz3 rfl) ?_
    refine J.val (v := .int .i64 xb.1) rfl rfl (V.ld rfl (Ld.sc sc3 (Rd.cl 0 rfl rfl))) ?_
    obtain ⟨r698, hr699, h⟩ := ob h
    refine J.op rfl (A.call (L1 := []) Try.call27 rfl (ref19_within_ok fxa_3 hr699) rfl rfl) ?_
    rintro _ _ _ ⟨v701, _, rfl, ⟨⟨t700, rfl, rfl, rfl⟩, rfl⟩, _, rfl⟩
    refine J.val (v := .bool (!t700)) rfl rfl (V.not rfl) ?_
    refine J.val (v := .bool (!t700)) rfl rfl (V.mv rfl) ?_
    refine J.cut 8 ?_
    obtain ⟨t711, ht712, h⟩ := ob h
    refine @J.meet _ _ _ _ _ _ _ _ _ _ (fun ρ K' L' => Fits [(28, .bool t711), (2, .pointer (some ⟨b688, 0, none⟩)), (3, .pointer (some ⟨b689, 0, none⟩))] ρ ∧ K = K' ∧ L' = Cl b689 31 [.int .i64 xb.1, .int .i64 xb.2.1, .slice adxb_2 xb.2.2.1.length cpxb_2, .slice adxb_3 xb.2.2.2.1.length cpxb_3, .slice adxb_4 xb.2.2.2.2.length cpxb_4] :: Cl b688 24 [.int .i64 xa.1, .int .i64 xa.2.1, .int .i64 xa.2.2.1, .slice adxa_3 xa.2.2.2.1.length cpxa_3, .slice adxa_4 xa.2.2.2.2.1.length cpxa_4, .slice adxa_5 xa.2.2.2.2.2.length cpxa_5] :: F) ?_ ?_
    · skip
      rcases bt (!t700) with hc713 | hc713
      · have ht712 := ct hc713 ht712
        refine J.skip rfl rfl rfl rfl hc713 ?_
        refine J.skip rfl rfl rfl rfl hc713 ?_
        refine J.skip rfl rfl rfl rfl hc713 ?_
        refine J.skip rfl rfl rfl rfl hc713 ?_
        refine J.skip rfl rfl rfl rfl hc713 ?_
        refine J.skip rfl rfl rfl rfl hc713 ?_
        refine J.skip rfl rfl rfl rfl hc713 ?_
        refine J.val (v := .bool true) rfl rfl (V.pickT rfl hc713 rfl) ?_
        refine J.nil ?_
        have e := Option.some.inj ht712
        subst e
        exact ⟨rfl, ⟨rfl, rfl, rfl, trivial⟩, rfl, rfl⟩
      · have ht712 := cf hc713 ht712
        refine J.run rfl rfl rfl hc713 ?_
        refine J.val rfl rfl (V.fad Try.underlying24 rfl nz22 rfl) ?_
        refine J.run rfl rfl rfl hc713 ?_
        refine J.val (v := .slice adxa_4 xa.2.2.2.2.1.length cpxa_4) rfl rfl (V.ld rfl (Ld.sc sc22 (Rd.cl 1 rfl rfl))) ?_
        refine J.run rfl rfl rfl hc713 ?_
        refine J.val rfl rfl (V.fad Try.underlying31 rfl nz25 rfl) ?_
        refine J.run rfl rfl rfl hc713 ?_
        refine J.val (v := .slice adxb_2 xb.2.2.1.length cpxb_2) rfl rfl (V.ld rfl (Ld.sc sc25 (Rd.cl 0 rfl rfl))) ?_
        refine J.run rfl rfl rfl hc713 ?_
        refine J.val (v := .int .i64 (((xb.2.2.1.length : Nat) : Int))) rfl rfl (V.len Try.underlying25 rfl) ?_
        refine J.run rfl rfl rfl hc713 ?_
        obtain ⟨r714, hr715, ht712⟩ := ob ht712
        refine J.op rfl (A.call (L1 := []) Try.call27 rfl (ref19_within_ok fxa_4 hr715) rfl rfl) ?_
        rintro _ _ _ ⟨v717, _, rfl, ⟨⟨t716, rfl, rfl, rfl⟩, rfl⟩, _, rfl⟩
        refine J.run rfl rfl rfl hc713 ?_
        refine J.val (v := .bool (!t716)) rfl rfl (V.not rfl) ?_
        refine J.val (v := .bool (!t716)) rfl rfl (V.pickF rfl hc713 rfl) ?_
        refine J.nil ?_
        have e := Option.some.inj ht712
        subst e
        exact ⟨rfl, ⟨rfl, rfl, rfl, trivial⟩, rfl, rfl⟩
    · rintro ρ _ _ ⟨hf, rfl, rfl⟩
      obtain ⟨ρ, rfl⟩ := hf.ex
      refine J.val (v := .bool t711) rfl rfl (V.mv rfl) ?_
      refine J.cut 7 ?_
      obtain ⟨t727, ht728, h⟩ := ob h
      refine @J.meet _ _ _ _ _ _ _ _ _ _ (fun ρ K' L' => Fits [(36, .bool t727), (2, .pointer (some ⟨b688, 0, none⟩)), (3, .pointer (some ⟨b689, 0, none⟩))] ρ ∧ K = K' ∧ L' = Cl b689 31 [.int .i64 xb.1, .int .i64 xb.2.1, .slice adxb_2 xb.2.2.1.length cpxb_2, .slice adxb_3 xb.2.2.2.1.length cpxb_3, .slice adxb_4 xb.2.2.2.2.length cpxb_4] :: Cl b688 24 [.int .i64 xa.1, .int .i64 xa.2.1, .int .i64 xa.2.2.1, .slice adxa_3 xa.2.2.2.1.length cpxa_3, .slice adxa_4 xa.2.2.2.2.1.length cpxa_4, .slice adxa_5 xa.2.2.2.2.2.length cpxa_5] :: F) ?_ ?_
      · skip
        rcases bt (t711) with hc729 | hc729
        · have ht728 := ct hc729 ht728
          refine J.skip rfl rfl rfl rfl hc729 ?_
          refine J.skip rfl rfl rfl rfl hc729 ?_
          refine J.skip rfl rfl rfl rfl hc729 ?_
          refine J.skip rfl rfl rfl rfl hc729 ?_
          refine J.skip rfl rfl rfl rfl hc729 ?_
          refine J.skip rfl rfl rfl rfl hc729 ?_
          refine J.val (v := .bool true) rfl rfl (V.pickT rfl hc729 rfl) ?_
          refine J.nil ?_
          have e := Option.some.inj ht728
          subst e
          exact ⟨rfl, ⟨rfl, rfl, rfl, trivial⟩, rfl, rfl⟩
        · have ht728 := cf hc729 ht728
          refine J.run rfl rfl rfl hc729 ?_
          refine J.val rfl rfl (V.fad Try.underlying24 rfl nz22 rfl) ?_
          refine J.run rfl rfl rfl hc729 ?_
          refine J.val (v := .slice adxa_5 xa.2.2.2.2.2.length cpxa_5) rfl rfl (V.ld rfl (Ld.sc sc22 (Rd.cl 1 rfl rfl))) ?_
          refine J.run rfl rfl rfl hc729 ?_
          refine J.val rfl rfl (V.fad Try.underlying31 rfl nz3 rfl) ?_
          refine J.run rfl rfl rfl hc729 ?_
          refine J.val (v := .int .i64 xb.2.1) rfl rfl (V.ld rfl (Ld.sc sc3 (Rd.cl 0 rfl rfl))) ?_
          refine J.run rfl rfl rfl hc729 ?_
          obtain ⟨r730, hr731, ht728⟩ := ob ht728
          refine J.op rfl (A.call (L1 := []) Try.call27 rfl (ref19_within_ok fxa_5 hr731) rfl rfl) ?_
          rintro _ _ _ ⟨v733, _, rfl, ⟨⟨t732, rfl, rfl, rfl⟩, rfl⟩, _, rfl⟩
          refine J.run rfl rfl rfl hc729 ?_
          refine J.val (v := .bool (!t732)) rfl rfl (V.not rfl) ?_
          refine J.val (v := .bool (!t732)) rfl rfl (V.pickF rfl hc729 rfl) ?_
          refine J.nil ?_
          have e := Option.some.inj ht728
          subst e
          exact ⟨rfl, ⟨rfl, rfl, rfl, trivial⟩, rfl, rfl⟩
      · rintro ρ _ _ ⟨hf, rfl, rfl⟩
        obtain ⟨ρ, rfl⟩ := hf.ex
        refine J.nil ?_
        refine CJ.cond rfl (fun hc736 => ?_) (fun hc736 => ?_)
        · have h := ct hc736 h
          refine CJ.seq ?_
          refine CJ.region ?_
          refine J.val (v := .slice none 0 0) rfl rfl (V.as rfl) ?_
          refine J.val (v := .int .i64 7) rfl rfl (V.as rfl) ?_
          refine J.nil ?_
          refine CJ.by (fun w hs => Sep.rowNil (e := 66) (t := (.cons (.int .i64) (.cons (.int .i64) (.cons (.int .i64) (.cons (.int .i64) (.one .bool)))))) hs) ?_
          refine CJ.ret ?_
          have e := Option.some.inj h
          subst e
          exact ⟨_, [Row Hp.nil 66 (.cons (.int .i64) (.cons (.int .i64) (.cons (.int .i64) (.cons (.int .i64) (.one .bool))))) (.slice none ((([] : List (Int × Int × Int × Int × Bool))).length) 0) (([] : List (Int × Int × Int × Int × Bool)))], Res.two rfl rfl rfl, ⟨[], 7, none, 0, rfl, rfl, rfl⟩, (Hp.le_refl _), fun w hs => (Sep.dropAt 1 rfl (Sep.dropAt 1 rfl hs))⟩
        · have h := cf hc736 h
          refine CJ.skip ?_
          refine CJ.seq ?_
          refine CJ.seq ?_
          refine CJ.region ?_
          refine J.val rfl rfl (V.fad Try.underlying24 rfl nz3 rfl) ?_
          refine J.val (v := .int .i64 xa.1) rfl rfl (V.ld rfl (Ld.sc sc3 (Rd.cl 1 rfl rfl))) ?_
          refine J.val (v := .bool (decide (xa.1 = 4))) rfl rfl (V.eql rfl rfl) ?_
          refine J.val (v := .bool (decide (xa.1 = 4))) rfl rfl (V.mv rfl) ?_
          refine J.cut 19 ?_
          obtain ⟨t779, ht780, h⟩ := ob h
          refine @J.meet _ _ _ _ _ _ _ _ _ _ (fun ρ K' L' => Fits [(59, .bool t779), (2, .pointer (some ⟨b688, 0, none⟩)), (3, .pointer (some ⟨b689, 0, none⟩))] ρ ∧ K = K' ∧ L' = Cl b689 31 [.int .i64 xb.1, .int .i64 xb.2.1, .slice adxb_2 xb.2.2.1.length cpxb_2, .slice adxb_3 xb.2.2.2.1.length cpxb_3, .slice adxb_4 xb.2.2.2.2.length cpxb_4] :: Cl b688 24 [.int .i64 xa.1, .int .i64 xa.2.1, .int .i64 xa.2.2.1, .slice adxa_3 xa.2.2.2.1.length cpxa_3, .slice adxa_4 xa.2.2.2.2.1.length cpxa_4, .slice adxa_5 xa.2.2.2.2.2.length cpxa_5] :: F) ?_ ?_
          · skip
            rcases bt (decide (xa.1 = 4)) with hc781 | hc781
            · have ht780 := ct hc781 ht780
              refine J.run rfl rfl rfl hc781 ?_
              refine J.val rfl rfl (V.fad Try.underlying24 rfl nz3 rfl) ?_
              refine J.run rfl rfl rfl hc781 ?_
              refine J.val (v := .int .i64 xa.2.2.1) rfl rfl (V.ld rfl (Ld.sc sc3 (Rd.cl 1 rfl rfl))) ?_
              refine J.run rfl rfl rfl hc781 ?_
              refine J.op rfl (A.lit (K0 := Hp.nil) (ty := (.int .i64)) (xs := ([xa.2.2.1] : List Int)) Try.underlying22 inf3 rfl (by decide) rfl rfl rfl ⟨_, _, rfl, rfl, rfl⟩ rfl (by decide)) ?_
              rintro _ _ _ ⟨b782, rfl, rfl, rfl⟩
              have hn783 : ([xa.2.2.1] : List Int) ≠ [] → ∃ g, (some ⟨b782, 0, none⟩ : Option Addr) = some ⟨g, 0, none⟩ := fun _ => ⟨b782, rfl⟩
              refine J.run rfl rfl rfl hc781 ?_
              refine J.val rfl rfl (V.fad Try.underlying31 rfl nz25 rfl) ?_
              refine J.run rfl rfl rfl hc781 ?_
              refine J.val (v := .slice adxb_2 xb.2.2.1.length cpxb_2) rfl rfl (V.ld rfl (Ld.sc sc25 (Rd.cl 1 rfl rfl))) ?_
              refine J.run rfl rfl rfl hc781 ?_
              refine J.val (v := .int .i64 (((xb.2.2.1.length : Nat) : Int))) rfl rfl (V.len Try.underlying25 rfl) ?_
              refine J.run rfl rfl rfl hc781 ?_
              obtain ⟨r785, hr786, ht780⟩ := ob ht780
              refine J.op rfl (A.call (L1 := [Row Hp.nil 3 (.int .i64) (.slice (some ⟨b782, 0, none⟩) (([xa.2.2.1] : List Int).length) 1) ([xa.2.2.1] : List Int)]) Try.call27 rfl (Tr.lend (Hp.nil_le _) (by decide) (fun K787 hK788 f789 => ref19_within_ok f789 hr786)) rfl rfl) ?_
              rintro _ _ _ ⟨v791, _, rfl, ⟨⟨_, ⟨t790, rfl, rfl, rfl⟩, rfl⟩, rfl⟩, _, rfl⟩
              refine J.run rfl rfl rfl hc781 ?_
              refine J.val (v := .bool (!t790)) rfl rfl (V.not rfl) ?_
              refine J.run rfl rfl rfl hc781 ?_
              refine J.val (v := .bool (!t790)) rfl rfl (V.mv rfl) ?_
              refine J.cut 9 ?_
              obtain ⟨t807, ht808, ht780⟩ := ob ht780
              refine @J.meet _ _ _ _ _ _ _ _ _ _ (fun ρ K' L' => Fits [(58, .bool t807), (2, .pointer (some ⟨b688, 0, none⟩)), (3, .pointer (some ⟨b689, 0, none⟩)), (40, .bool (decide (xa.1 = 4)))] ρ ∧ K = K' ∧ L' = Row Hp.nil 3 (.int .i64) (.slice (some ⟨b782, 0, none⟩) (([xa.2.2.1] : List Int).length) 1) ([xa.2.2.1] : List Int) :: Cl b689 31 [.int .i64 xb.1, .int .i64 xb.2.1, .slice adxb_2 xb.2.2.1.length cpxb_2, .slice adxb_3 xb.2.2.2.1.length cpxb_3, .slice adxb_4 xb.2.2.2.2.length cpxb_4] :: Cl b688 24 [.int .i64 xa.1, .int .i64 xa.2.1, .int .i64 xa.2.2.1, .slice adxa_3 xa.2.2.2.1.length cpxa_3, .slice adxa_4 xa.2.2.2.2.1.length cpxa_4, .slice adxa_5 xa.2.2.2.2.2.length cpxa_5] :: F) ?_ ?_
              · skip
                rcases bt (!t790) with hc809 | hc809
                · have ht808 := ct hc809 ht808
                  refine J.skip rfl rfl rfl rfl hc809 ?_
                  refine J.skip rfl rfl rfl rfl hc809 ?_
                  refine J.skip rfl rfl rfl rfl hc809 ?_
                  refine J.skip rfl rfl rfl rfl hc809 ?_
                  refine J.skip rfl rfl rfl rfl hc809 ?_
                  refine J.skip rfl rfl rfl rfl hc809 ?_
                  refine J.skip rfl rfl rfl rfl hc809 ?_
                  refine J.skip rfl rfl rfl rfl hc809 ?_
                  refine J.run rfl rfl rfl hc781 ?_
                  refine J.val (v := .bool true) rfl rfl (V.pickT rfl hc809 rfl) ?_
                  refine J.nil ?_
                  have e := Option.some.inj ht808
                  subst e
                  exact ⟨rfl, ⟨rfl, rfl, rfl, rfl, trivial⟩, rfl, rfl⟩
                · have ht808 := cf hc809 ht808
                  refine J.run rfl rfl rfl hc809 ?_
                  refine J.val rfl rfl (V.fad Try.underlying24 rfl nz3 rfl) ?_
                  refine J.run rfl rfl rfl hc809 ?_
                  refine J.val (v := .int .i64 xa.2.1) rfl rfl (V.ld rfl (Ld.sc sc3 (Rd.cl 2 rfl rfl))) ?_
                  refine J.run rfl rfl rfl hc809 ?_
                  refine J.op rfl (A.lit (K0 := Hp.nil) (ty := (.int .i64)) (xs := ([xa.2.1] : List Int)) Try.underlying22 inf3 rfl (by decide) rfl rfl rfl ⟨_, _, rfl, rfl, rfl⟩ rfl (by decide)) ?_
                  rintro _ _ _ ⟨b810, rfl, rfl, rfl⟩
                  have hn811 : ([xa.2.1] : List Int) ≠ [] → ∃ g, (some ⟨b810, 0, none⟩ : Option Addr) = some ⟨g, 0, none⟩ := fun _ => ⟨b810, rfl⟩
                  refine J.run rfl rfl rfl hc809 ?_
                  refine J.val rfl rfl (V.fad Try.underlying31 rfl nz29 rfl) ?_
                  refine J.run rfl rfl rfl hc809 ?_
                  refine J.val (v := .slice adxb_4 xb.2.2.2.2.length cpxb_4) rfl rfl (V.ld rfl (Ld.sc sc29 (Rd.cl 2 rfl rfl))) ?_
                  refine J.run rfl rfl rfl hc809 ?_
                  refine J.val (v := .int .i64 (((xb.2.2.2.2.length : Nat) : Int))) rfl rfl (V.len Try.underlying29 rfl) ?_
                  refine J.run rfl rfl rfl hc809 ?_
                  obtain ⟨r813, hr814, ht808⟩ := ob ht808
                  refine J.op rfl (A.call (L1 := [Row Hp.nil 3 (.int .i64) (.slice (some ⟨b810, 0, none⟩) (([xa.2.1] : List Int).length) 1) ([xa.2.1] : List Int)]) Try.call27 rfl (Tr.lend (Hp.nil_le _) (by decide) (fun K815 hK816 f817 => ref19_within_ok f817 hr814)) rfl rfl) ?_
                  rintro _ _ _ ⟨v819, _, rfl, ⟨⟨_, ⟨t818, rfl, rfl, rfl⟩, rfl⟩, rfl⟩, _, rfl⟩
                  refine J.run rfl rfl rfl hc809 ?_
                  refine J.val (v := .bool (!t818)) rfl rfl (V.not rfl) ?_
                  refine J.run rfl rfl rfl hc781 ?_
                  refine J.val (v := .bool (!t818)) rfl rfl (V.pickF rfl hc809 rfl) ?_
                  refine J.dropAt 0 rfl ?_
                  refine J.nil ?_
                  have e := Option.some.inj ht808
                  subst e
                  exact ⟨rfl, ⟨rfl, rfl, rfl, rfl, trivial⟩, rfl, rfl⟩
              · rintro ρ _ _ ⟨hf, rfl, rfl⟩
                obtain ⟨ρ, rfl⟩ := hf.ex
                refine J.val (v := .bool t807) rfl rfl (V.pickT rfl hc781 rfl) ?_
                refine J.dropAt 0 rfl ?_
                refine J.nil ?_
                have e := Option.some.inj ht780
                subst e
                exact ⟨rfl, ⟨rfl, rfl, rfl, trivial⟩, rfl, rfl⟩
            · have ht780 := cf hc781 ht780
              refine J.skip rfl rfl rfl rfl hc781 ?_
              refine J.skip rfl rfl rfl rfl hc781 ?_
              refine J.skip rfl rfl rfl rfl hc781 ?_
              refine J.skip rfl rfl rfl rfl hc781 ?_
              refine J.skip rfl rfl rfl rfl hc781 ?_
              refine J.skip rfl rfl rfl rfl hc781 ?_
              refine J.skip rfl rfl rfl rfl hc781 ?_
              refine J.skip rfl rfl rfl rfl hc781 ?_
              refine J.skip rfl rfl rfl rfl hc781 ?_
              refine J.skipu rfl rfl rfl rfl ?_
              refine J.skipu rfl rfl rfl rfl ?_
              refine J.skipu rfl rfl rfl rfl ?_
              refine J.skipu rfl rfl rfl rfl ?_
              refine J.skipu rfl rfl rfl rfl ?_
              refine J.skipu rfl rfl rfl rfl ?_
              refine J.skipu rfl rfl rfl rfl ?_
              refine J.skipu rfl rfl rfl rfl ?_
              refine J.skip rfl rfl rfl rfl hc781 ?_
              refine J.val (v := .bool false) rfl rfl (V.pickF rfl hc781 rfl) ?_
              refine J.nil ?_
              have e := Option.some.inj ht780
              subst e
              exact ⟨rfl, ⟨rfl, rfl, rfl, trivial⟩, rfl, rfl⟩
          · rintro ρ _ _ ⟨hf, rfl, rfl⟩
            obtain ⟨ρ, rfl⟩ := hf.ex
            refine J.nil ?_
            refine CJ.cond rfl (fun hc822 => ?_) (fun hc822 => ?_)
            · have h := ct hc822 h
              refine CJ.seq ?_
              refine CJ.region ?_
              refine J.val (v := .slice none 0 0) rfl rfl (V.as rfl) ?_
              refine J.val (v := .int .i64 7) rfl rfl (V.as rfl) ?_
              refine J.nil ?_
              refine CJ.by (fun w hs => Sep.rowNil (e := 66) (t := (.cons (.int .i64) (.cons (.int .i64) (.cons (.int .i64) (.cons (.int .i64) (.one .bool)))))) hs) ?_
              refine CJ.ret ?_
              have e := Option.some.inj h
              subst e
              exact ⟨_, [Row Hp.nil 66 (.cons (.int .i64) (.cons (.int .i64) (.cons (.int .i64) (.cons (.int .i64) (.one .bool))))) (.slice none ((([] : List (Int × Int × Int × Int × Bool))).length) 0) (([] : List (Int × Int × Int × Int × Bool)))], Res.two rfl rfl rfl, ⟨[], 7, none, 0, rfl, rfl, rfl⟩, (Hp.le_refl _), fun w hs => (Sep.dropAt 1 rfl (Sep.dropAt 1 rfl hs))⟩
            · have h := cf hc822 h
              refine CJ.skip ?_
              refine CJ.seq ?_
              refine CJ.seq ?_
              refine CJ.region ?_
              refine J.val rfl rfl (V.fad Try.underlying24 rfl nz3 rfl) ?_
              refine J.val (v := .int .i64 xa.1) rfl rfl (V.ld rfl (Ld.sc sc3 (Rd.cl 1 rfl rfl))) ?_
              refine J.val (v := .bool (decide (xa.1 = 3))) rfl rfl (V.eql rfl rfl) ?_
              refine J.val (v := .bool (decide (xa.1 = 3))) rfl rfl (V.mv rfl) ?_
              refine J.cut 5 ?_
              refine @J.meet _ _ _ _ _ _ _ _ _ _ (fun ρ K' L' => Fits [(68, .bool ((decide (xa.1 = 3)) && (decide ((((xb.2.2.1.length : Nat) : Int)) = 0)))), (2, .pointer (some ⟨b688, 0, none⟩)), (3, .pointer (some ⟨b689, 0, none⟩))] ρ ∧ K = K' ∧ L' = Cl b689 31 [.int .i64 xb.1, .int .i64 xb.2.1, .slice adxb_2 xb.2.2.1.length cpxb_2, .slice adxb_3 xb.2.2.2.1.length cpxb_3, .slice adxb_4 xb.2.2.2.2.length cpxb_4] :: Cl b688 24 [.int .i64 xa.1, .int .i64 xa.2.1, .int .i64 xa.2.2.1, .slice adxa_3 xa.2.2.2.1.length cpxa_3, .slice adxa_4 xa.2.2.2.2.1.length cpxa_4, .slice adxa_5 xa.2.2.2.2.2.length cpxa_5] :: F) ?_ ?_
              · skip
                rcases bt (decide (xa.1 = 3)) with hc826 | hc826
                · skip
                  refine J.run rfl rfl rfl hc826 ?_
                  refine J.val rfl rfl (V.fad Try.underlying31 rfl nz25 rfl) ?_
                  refine J.run rfl rfl rfl hc826 ?_
                  refine J.val (v := .slice adxb_2 xb.2.2.1.length cpxb_2) rfl rfl (V.ld rfl (Ld.sc sc25 (Rd.cl 0 rfl rfl))) ?_
                  refine J.run rfl rfl rfl hc826 ?_
                  refine J.val (v := .int .i64 (((xb.2.2.1.length : Nat) : Int))) rfl rfl (V.len Try.underlying25 rfl) ?_
                  refine J.run rfl rfl rfl hc826 ?_
                  refine J.val (v := .bool (decide ((((xb.2.2.1.length : Nat) : Int)) = 0))) rfl rfl (V.eql rfl rfl) ?_
                  refine J.val (v := .bool (decide ((((xb.2.2.1.length : Nat) : Int)) = 0))) rfl rfl (V.pickT rfl hc826 rfl) ?_
                  refine J.nil ?_
                  exact ⟨rfl, ⟨(by simp only [hc826]; rfl), rfl, rfl, trivial⟩, rfl, rfl⟩
                · skip
                  refine J.skip rfl rfl rfl rfl hc826 ?_
                  refine J.skip rfl rfl rfl rfl hc826 ?_
                  refine J.skip rfl rfl rfl rfl hc826 ?_
                  refine J.skip rfl rfl rfl rfl hc826 ?_
                  refine J.val (v := .bool false) rfl rfl (V.pickF rfl hc826 rfl) ?_
                  refine J.nil ?_
                  exact ⟨rfl, ⟨(by simp only [hc826]; rfl), rfl, rfl, trivial⟩, rfl, rfl⟩
              · rintro ρ _ _ ⟨hf, rfl, rfl⟩
                obtain ⟨ρ, rfl⟩ := hf.ex
                refine J.nil ?_
                refine CJ.cond rfl (fun hc827 => ?_) (fun hc827 => ?_)
                · have h := ct hc827 h
                  refine CJ.seq ?_
                  refine CJ.region ?_
                  refine J.val (v := .slice none 0 0) rfl rfl (V.as rfl) ?_
                  refine J.val (v := .int .i64 14) rfl rfl (V.as rfl) ?_
                  refine J.nil ?_
                  refine CJ.by (fun w hs => Sep.rowNil (e := 66) (t := (.cons (.int .i64) (.cons (.int .i64) (.cons (.int .i64) (.cons (.int .i64) (.one .bool)))))) hs) ?_
                  refine CJ.ret ?_
                  have e := Option.some.inj h
                  subst e
                  exact ⟨_, [Row Hp.nil 66 (.cons (.int .i64) (.cons (.int .i64) (.cons (.int .i64) (.cons (.int .i64) (.one .bool))))) (.slice none ((([] : List (Int × Int × Int × Int × Bool))).length) 0) (([] : List (Int × Int × Int × Int × Bool)))], Res.two rfl rfl rfl, ⟨[], 14, none, 0, rfl, rfl, rfl⟩, (Hp.le_refl _), fun w hs => (Sep.dropAt 1 rfl (Sep.dropAt 1 rfl hs))⟩
                · have h := cf hc827 h
                  refine CJ.skip ?_
                  refine CJ.seq ?_
                  refine CJ.seq ?_
                  refine CJ.region ?_
                  refine J.val rfl rfl (V.fad Try.underlying24 rfl nz3 rfl) ?_
                  refine J.val (v := .int .i64 xa.1) rfl rfl (V.ld rfl (Ld.sc sc3 (Rd.cl 1 rfl rfl))) ?_
                  refine J.val (v := .bool (decide (xa.1 = 3))) rfl rfl (V.eql rfl rfl) ?_
                  refine J.nil ?_
                  refine CJ.cond rfl (fun hc829 => ?_) (fun hc829 => ?_)
                  · have h := ct hc829 h
                    refine CJ.seq ?_
                    refine CJ.mix [Cl b689 31 [.int .i64 xb.1, .int .i64 xb.2.1, .slice adxb_2 xb.2.2.1.length cpxb_2, .slice adxb_3 xb.2.2.2.1.length cpxb_3, .slice adxb_4 xb.2.2.2.2.length cpxb_4], Cl b688 24 [.int .i64 xa.1, .int .i64 xa.2.1, .int .i64 xa.2.2.1, .slice adxa_3 xa.2.2.2.1.length cpxa_3, .slice adxa_4 xa.2.2.2.2.1.length cpxa_4, .slice adxa_5 xa.2.2.2.2.2.length cpxa_5]] [([0, 1, 2, 3, 4, 5], 6)] [7, 8, 9, 10] [] mixO (by decide +kernel) ⟨0, rfl, 0, rfl, trivial⟩ rfl rfl rfl ?_
                    refine JM.cons ?_
                    refine JQ.val rfl rfl (V.fad Try.underlying31 rfl nz25 rfl) ?_
                    refine JQ.val (v := .slice adxb_2 xb.2.2.1.length cpxb_2) rfl rfl (V.ld rfl (Ld.sc sc25 (Rd.cl 0 rfl rfl))) ?_
                    obtain ⟨x854, hx855, h⟩ := ob h
                    obtain ⟨p856, p857, p858⟩ := getI_some hx855
                    obtain ⟨b859, o860, e861, a862⟩ := (fxb_2).at p857
                    refine JQ.val rfl rfl (V.iad Try.underlying25 sz28 rfl e861 rfl p856 p858) ?_
                    obtain ⟨ad863, cp864, c865, f866⟩ := ((a862).one).sl
                    refine JQ.val (v := .agg #[.slice ad863 x854.length cp864]) rfl rfl (V.ld rfl (Ld.aggK (cs := [.slice ad863 x854.length cp864]) Try.underlying28 sz28 rfl ⟨c865, trivial⟩ (Hp.le_refl _))) ?_
                    refine JQ.val rfl rfl (V.fad Try.underlying31 rfl nz28 rfl) ?_
                    refine JQ.val (v := .agg #[.slice adxb_3 xb.2.2.2.1.length cpxb_3]) rfl rfl (V.ld rfl (Ld.agg (cs := [.slice adxb_3 xb.2.2.2.1.length cpxb_3]) Try.underlying28 sz28 rfl (Rd.cls 0 3 rfl rfl))) ?_
                    refine JQ.nil ?_
                    obtain ⟨r867, hr868, h⟩ := ob h
                    refine JA.op rfl (A.call (L1 := []) Try.call28 rfl (ref16_Flow_ok f866 fxb_3 hr868) rfl rfl) ?_
                    rintro _ _ _ ⟨v874, _, rfl, ⟨⟨l869, i870, ad871, cp872, rfl, rfl, rfl⟩, rfl⟩, _, rfl⟩
                    refine ⟨fun w hs => Hold.sub (Hp.le_refl _) ⟨1, rfl, 1, rfl, trivial⟩ hs, ?_⟩
                    refine JM.wit Row.hn (fun hn873 => ?_)
                    refine JM.nil ?_
                    refine JQ.val (v := .slice ad871 l869.length cp872) rfl rfl (V.ext rfl rfl) ?_
                    refine JQ.val (v := .int .i64 i870) rfl rfl (V.ext rfl rfl) ?_
                    refine JQ.val (v := .slice ad871 l869.length cp872) rfl rfl (V.as rfl) ?_
                    refine JQ.val (v := .int .i64 i870) rfl rfl (V.as rfl) ?_
                    refine JQ.nil ?_
                    refine J.nil ?_
                    refine CJ.ret ?_
                    have e := Option.some.inj h
                    subst e
                    exact ⟨_, [Row Hp.nil 66 (.cons (.int .i64) (.cons (.int .i64) (.cons (.int .i64) (.cons (.int .i64) (.one .bool))))) (.slice ad871 l869.length cp872) l869], Res.two rfl rfl rfl, ⟨l869, i870, ad871, cp872, rfl, rfl, rfl⟩, (Hp.le_refl _), fun w hs => (Sep.dropAt 1 rfl (Sep.dropAt 1 rfl hs))⟩
                  · have h := cf hc829 h
                    refine CJ.skip ?_
                    refine CJ.seq ?_
                    refine CJ.seq ?_
                    refine CJ.region ?_
                    refine J.val rfl rfl (V.fad Try.underlying24 rfl nz3 rfl) ?_
                    refine J.val (v := .int .i64 xa.1) rfl rfl (V.ld rfl (Ld.sc sc3 (Rd.cl 1 rfl rfl))) ?_
                    refine J.val (v := .bool (decide (xa.1 = 4))) rfl rfl (V.eql rfl rfl) ?_
                    refine J.nil ?_
                    refine CJ.cond rfl (fun hc878 => ?_) (fun hc878 => ?_)
                    · have h := ct hc878 h
                      refine CJ.seq ?_
                      refine CJ.region ?_
                      refine J.op rfl (A.lit (K0 := K) (ty := (.one (.sl (.cons (.int .i64) (.one .bool))))) (xs := ([] : List (List (Int × Bool)))) Try.underlying25 inf28 rfl (by decide) rfl rfl rfl rfl rfl (by decide)) ?_
                      rintro _ _ _ ⟨b879, rfl, rfl, rfl⟩
                      have hn880 : ([] : List (List (Int × Bool))) ≠ [] → ∃ g, (some ⟨b879, 0, none⟩ : Option Addr) = some ⟨g, 0, none⟩ := fun _ => ⟨b879, rfl⟩
                      refine J.val (v := .slice (some ⟨b879, 0, none⟩) ((([] : List (List (Int × Bool)))).length) 0) rfl rfl (V.as rfl) ?_
                      refine J.nil ?_
                      refine CJ.seq ?_
                      refine CJ.seq ?_
                      refine CJ.region ?_
                      refine J.val (v := .int .i64 0) rfl rfl (V.as rfl) ?_
                      refine J.nil ?_
                      obtain ⟨o1080, ho1081, h⟩ := ob h
                      refine CJ.meetN (fun ρ K' L' => ∃ (l1075 : (List (List (Int × Bool)))) (ad1076 : Option Addr) (cp1077 : Nat), l1075 = o1080 ∧ Fits [(2, .pointer (some ⟨b688, 0, none⟩)), (3, .pointer (some ⟨b689, 0, none⟩)), (7, .slice ad1076 l1075.length cp1077)] ρ ∧ K = K' ∧ L' = Cl b688 24 [.int .i64 xa.1, .int .i64 xa.2.1, .int .i64 xa.2.2.1, .slice adxa_3 xa.2.2.2.1.length cpxa_3, .slice adxa_4 xa.2.2.2.2.1.length cpxa_4, .slice adxa_5 xa.2.2.2.2.2.length cpxa_5] :: Cl b689 31 [.int .i64 xb.1, .int .i64 xb.2.1, .slice adxb_2 xb.2.2.1.length cpxb_2, .slice adxb_3 xb.2.2.2.1.length cpxb_3, .slice adxb_4 xb.2.2.2.2.length cpxb_4] :: Row K 28 (.one (.sl (.cons (.int .i64) (.one .bool)))) (.slice ad1076 l1075.length cp1077) l1075 :: F) ?_ ?_
                      · skip
                        refine CJ.block ?_
                        refine CJ.front 1 rfl ?_
                        refine CJ.front 2 rfl ?_
                        refine CJ.loop (fun s ρ K' L' => ∃ (l1145 : (List (List (Int × Bool)))) (i1150 : Int) (ad1146 : Option Addr) (cp1147 : Nat), (l1145, i1150) = s ∧ Fits [(2, .pointer (some ⟨b688, 0, none⟩)), (3, .pointer (some ⟨b689, 0, none⟩)), (7, .slice ad1146 l1145.length cp1147), (8, .int .i64 i1150)] ρ ∧ K = K' ∧ L' = Cl b688 24 [.int .i64 xa.1, .int .i64 xa.2.1, .int .i64 xa.2.2.1, .slice adxa_3 xa.2.2.2.1.length cpxa_3, .slice adxa_4 xa.2.2.2.2.1.length cpxa_4, .slice adxa_5 xa.2.2.2.2.2.length cpxa_5] :: Cl b689 31 [.int .i64 xb.1, .int .i64 xb.2.1, .slice adxb_2 xb.2.2.1.length cpxb_2, .slice adxb_3 xb.2.2.2.1.length cpxb_3, .slice adxb_4 xb.2.2.2.2.length cpxb_4] :: Row K 28 (.one (.sl (.cons (.int .i64) (.one .bool)))) (.slice ad1146 l1145.length cp1147) l1145 :: F) ho1081 ⟨([] : List (List (Int × Bool))), 0, (some ⟨b879, 0, none⟩), 0, rfl, ⟨rfl, rfl, rfl, rfl, trivial⟩, rfl, rfl⟩ ?_
                        rintro s ρ _ _ r1217 ⟨l1145, i1150, ad1146, cp1147, rfl, hf1215, rfl, rfl⟩ h1214
                        obtain ⟨ρ, rfl⟩ := hf1215.ex
                        refine CJ.front 2 rfl ?_
                        refine CJ.wit Row.hn (fun hn1149 => ?_)
                        refine CJ.seq ?_
                        refine CJ.seq ?_
                        refine CJ.region ?_
                        refine J.val (v := .int .i64 i1150) rfl rfl (V.mv rfl) ?_
                        refine J.val rfl rfl (V.fad Try.underlying24 rfl nz22 rfl) ?_
                        refine J.val (v := .slice adxa_4 xa.2.2.2.2.1.length cpxa_4) rfl rfl (V.ld rfl (Ld.sc sc22 (Rd.cl 1 rfl rfl))) ?_
                        refine J.val (v := .int .i64 (((xa.2.2.2.2.1.length : Nat) : Int))) rfl rfl (V.len Try.underlying22 rfl) ?_
                        refine J.val (v := .bool (decide (i1150 < (((xa.2.2.2.2.1.length : Nat) : Int))))) rfl rfl (V.lss rfl rfl) ?_
                        refine J.nil ?_
                        refine CJ.cond rfl (fun hc1218 => ?_) (fun hc1218 => ?_)
                        · have h1214 := ct hc1218 h1214
                          refine CJ.skip ?_
                          refine CJ.seq ?_
                          refine CJ.block ?_
                          refine CJ.mix [Row K 28 (.one (.sl (.cons (.int .i64) (.one .bool)))) (.slice ad1146 l1145.length cp1147) l1145, Cl b688 24 [.int .i64 xa.1, .int .i64 xa.2.1, .int .i64 xa.2.2.1, .slice adxa_3 xa.2.2.2.1.length cpxa_3, .slice adxa_4 xa.2.2.2.2.1.length cpxa_4, .slice adxa_5 xa.2.2.2.2.2.length cpxa_5], Cl b689 31 [.int .i64 xb.1, .int .i64 xb.2.1, .slice adxb_2 xb.2.2.1.length cpxb_2, .slice adxb_3 xb.2.2.2.1.length cpxb_3, .slice adxb_4 xb.2.2.2.2.length cpxb_4]] [([0, 1, 2, 3, 4, 5, 6, 7, 8, 9], 10)] [] [11, 12] mixO (by decide +kernel) ⟨0, rfl, 0, rfl, 0, rfl, trivial⟩ rfl rfl rfl ?_
                          refine JM.cons ?_
                          refine JQ.val (v := .slice ad1146 l1145.length cp1147) rfl rfl (V.mv rfl) ?_
                          refine JQ.val rfl rfl (V.fad Try.underlying31 rfl nz25 rfl) ?_
                          refine JQ.val (v := .slice adxb_2 xb.2.2.1.length cpxb_2) rfl rfl (V.ld rfl (Ld.sc sc25 (Rd.cl 2 rfl rfl))) ?_
                          refine JQ.val rfl rfl (V.fad Try.underlying24 rfl nz22 rfl) ?_
                          refine JQ.val (v := .slice adxa_4 xa.2.2.2.2.1.length cpxa_4) rfl rfl (V.ld rfl (Ld.sc sc22 (Rd.cl 1 rfl rfl))) ?_
                          refine JQ.val (v := .int .i64 i1150) rfl rfl (V.mv rfl) ?_
                          obtain ⟨x1244, hx1245, h1214⟩ := ob h1214
                          obtain ⟨p1246, p1247, p1248⟩ := getI_some hx1245
                          obtain ⟨b1249, o1250, e1251, a1252⟩ := (fxa_4).at p1247
                          refine JQ.val rfl rfl (V.iad Try.underlying22 sz3 rfl e1251 rfl p1246 p1248) ?_
                          refine JQ.val (v := .int .i64 x1244) rfl rfl (V.ld rfl (Ld.sc sc3 (Rd.k (a1252).int (Hp.le_refl _)))) ?_
                          obtain ⟨x1253, hx1254, h1214⟩ := ob h1214
                          obtain ⟨p1255, p1256, p1257⟩ := getI_some hx1254
                          obtain ⟨b1258, o1259, e1260, a1261⟩ := (fxb_2).at p1256
                          refine JQ.val rfl rfl (V.iad Try.underlying25 sz28 rfl e1260 rfl p1255 p1257) ?_
                          obtain ⟨ad1262, cp1263, c1264, f1265⟩ := ((a1261).one).sl
                          refine JQ.val (v := .agg #[.slice ad1262 x1253.length cp1263]) rfl rfl (V.ld rfl (Ld.aggK (cs := [.slice ad1262 x1253.length cp1263]) Try.underlying28 sz28 rfl ⟨c1264, trivial⟩ (Hp.le_refl _))) ?_
                          refine JQ.nil ?_
                          refine JA.op rfl (A.lit (K0 := K) (ty := (.one (.sl (.cons (.int .i64) (.one .bool))))) (xs := ([x1253] : List (List (Int × Bool)))) Try.underlying25 inf28 rfl (by decide) rfl rfl rfl ⟨_, _, rfl, f1265, rfl⟩ rfl (by decide)) ?_
                          rintro _ _ _ ⟨b1266, rfl, rfl, rfl⟩
                          have hn1267 : ([x1253] : List (List (Int × Bool))) ≠ [] → ∃ g, (some ⟨b1266, 0, none⟩ : Option Addr) = some ⟨g, 0, none⟩ := fun _ => ⟨b1266, rfl⟩
                          refine ⟨fun w hs => Hold.sub (Hp.le_refl _) ⟨1, rfl, 1, rfl, 1, rfl, trivial⟩ hs, ?_⟩
                          refine JM.nil ?_
                          refine JQ.nil ?_
                          obtain ⟨z1269, hz1270, h1214⟩ := ob h1214
                          refine J.front 1 rfl ?_
                          refine J.op rfl (A.appR (Kr := K) Try.underlying25 inf28 rfl rfl (by decide) (by decide) rfl rfl (Els.mono (Hp.le_refl _)) (Els.mono (Hp.le_refl _)) hz1270) ?_
                          rintro _ _ _ ⟨v1271, rfl, rfl, rfl⟩
                          refine J.wit Row.form ?_
                          rintro ⟨ad1272, cp1273, rfl, _, _, hn1274⟩
                          refine J.val (v := .slice ad1272 z1269.length cp1273) rfl rfl (V.as rfl) ?_
                          refine J.nil ?_
                          refine CJ.region ?_
                          refine J.val (v := .int .i64 i1150) rfl rfl (V.mv rfl) ?_
                          refine J.val (v := .int .i64 (IntKind.wrap .i64 (i1150 + 1))) rfl rfl (V.add rfl rfl) ?_
                          refine J.val (v := .int .i64 (IntKind.wrap .i64 (i1150 + 1))) rfl rfl (V.as rfl) ?_
                          refine J.front 2 rfl ?_
                          refine J.front 2 rfl ?_
                          refine J.nil ?_
                          have e := Option.some.inj h1214
                          subst e
                          exact ⟨rfl, ⟨z1269, IntKind.wrap .i64 (i1150 + 1), ad1272, cp1273, rfl, ⟨rfl, rfl, rfl, rfl, trivial⟩, rfl, rfl⟩⟩
                        · have h1214 := cf hc1218 h1214
                          refine CJ.front 2 rfl ?_
                          refine CJ.front 2 rfl ?_
                          refine CJ.exit ?_
                          have e := Option.some.inj h1214
                          subst e
                          refine ⟨nofun, fun e => ?_⟩
                          subst e
                          exact ⟨rfl, ⟨l1145, ad1146, cp1147, rfl, ⟨rfl, rfl, rfl, trivial⟩, rfl, rfl⟩⟩
                      · rintro ρ _ _ ⟨l1075, ad1076, cp1077, rfl, hf1275, rfl, rfl⟩
                        obtain ⟨ρ, rfl⟩ := hf1275.ex
                        refine PJ.front 2 rfl ?_
                        refine PJ.wit Row.hn (fun hn1079 => ?_)
                        refine PJ.done ?_
                        refine CJ.seq ?_
                        refine CJ.mix [Cl b688 24 [.int .i64 xa.1, .int .i64 xa.2.1, .int .i64 xa.2.2.1, .slice adxa_3 xa.2.2.2.1.length cpxa_3, .slice adxa_4 xa.2.2.2.2.1.length cpxa_4, .slice adxa_5 xa.2.2.2.2.2.length cpxa_5], Cl b689 31 [.int .i64 xb.1, .int .i64 xb.2.1, .slice adxb_2 xb.2.2.1.length cpxb_2, .slice adxb_3 xb.2.2.2.1.length cpxb_3, .slice adxb_4 xb.2.2.2.2.length cpxb_4]] [([0, 1, 2, 3, 4, 5, 6, 7, 8, 9, 10, 11, 12, 13, 14], 15)] [16, 17, 18, 19] [] mixO (by decide +kernel) ⟨1, rfl, 1, rfl, trivial⟩ rfl rfl rfl ?_
                        refine JM.cons ?_
                        refine JQ.val rfl rfl (V.fad Try.underlying31 rfl nz29 rfl) ?_
                        refine JQ.val (v := .slice adxb_4 xb.2.2.2.2.length cpxb_4) rfl rfl (V.ld rfl (Ld.sc sc29 (Rd.cl 1 rfl rfl))) ?_
                        refine JQ.val rfl rfl (V.fad Try.underlying24 rfl nz3 rfl) ?_
                        refine JQ.val (v := .int .i64 xa.2.1) rfl rfl (V.ld rfl (Ld.sc sc3 (Rd.cl 0 rfl rfl))) ?_
                        obtain ⟨x1325, hx1326, h⟩ := ob h
                        obtain ⟨p1327, p1328, p1329⟩ := getI_some hx1326
                        obtain ⟨b1330, o1331, e1332, a1333⟩ := (fxb_4).at p1328
                        refine JQ.val rfl rfl (V.iad Try.underlying29 sz57 rfl e1332 rfl p1327 p1329) ?_
                        obtain ⟨ad1334, cp1335, c1336, f1337⟩ := (((a1333).snd).fst).sl
                        obtain ⟨ad1338, cp1339, c1340, f1341⟩ := ((((a1333).snd).snd).fst).sl
                        obtain ⟨ad1342, cp1343, c1344, f1345⟩ := ((((((a1333).snd).snd).snd).one).one).sl
                        refine JQ.val (v := .agg #[.int .i64 x1325.1, .slice ad1334 x1325.2.1.length cp1335, .slice ad1338 x1325.2.2.1.length cp1339, .slice ad1342 x1325.2.2.2.length cp1343]) rfl rfl (V.ld rfl (Ld.aggK (cs := [.int .i64 x1325.1, .slice ad1334 x1325.2.1.length cp1335, .slice ad1338 x1325.2.2.1.length cp1339, .slice ad1342 x1325.2.2.2.length cp1343]) Try.underlying57 sz57 rfl ⟨((a1333).fst).int, c1336, c1340, c1344, trivial⟩ (Hp.le_refl _))) ?_
                        refine JQ.val rfl rfl (V.fad Try.underlying24 rfl nz22 rfl) ?_
                        refine JQ.val (v := .slice adxa_5 xa.2.2.2.2.2.length cpxa_5) rfl rfl (V.ld rfl (Ld.sc sc22 (Rd.cl 0 rfl rfl))) ?_
                        refine JQ.val (v := .slice ad1076 l1075.length cp1077) rfl rfl (V.mv rfl) ?_
                        refine JQ.val rfl rfl (V.fad Try.underlying31 rfl nz25 rfl) ?_
                        refine JQ.val (v := .slice adxb_2 xb.2.2.1.length cpxb_2) rfl rfl (V.ld rfl (Ld.sc sc25 (Rd.cl 1 rfl rfl))) ?_
                        refine JQ.val rfl rfl (V.fad Try.underlying24 rfl nz3 rfl) ?_
                        refine JQ.val (v := .int .i64 xa.2.2.1) rfl rfl (V.ld rfl (Ld.sc sc3 (Rd.cl 0 rfl rfl))) ?_
                        obtain ⟨x1346, hx1347, h⟩ := ob h
                        obtain ⟨p1348, p1349, p1350⟩ := getI_some hx1347
                        obtain ⟨b1351, o1352, e1353, a1354⟩ := (fxb_2).at p1349
                        refine JQ.val rfl rfl (V.iad Try.underlying25 sz28 rfl e1353 rfl p1348 p1350) ?_
                        obtain ⟨ad1355, cp1356, c1357, f1358⟩ := ((a1354).one).sl
                        refine JQ.val (v := .agg #[.slice ad1355 x1346.length cp1356]) rfl rfl (V.ld rfl (Ld.aggK (cs := [.slice ad1355 x1346.length cp1356]) Try.underlying28 sz28 rfl ⟨c1357, trivial⟩ (Hp.le_refl _))) ?_
                        refine JQ.nil ?_
                        refine JA.persist (Hp.le_refl _) (by decide) (fun K1359 hK1360 f1361 => ?_)
                        obtain ⟨r1362, hr1363, h⟩ := ob h
                        refine JA.op rfl (A.call (L1 := []) Try.call29 rfl (ref17_Call_ok (f1337.mono hK1360) (f1341.mono hK1360) (f1345.mono hK1360) (fxa_5.mono hK1360) f1361 (f1358.mono hK1360) hr1363) rfl rfl) ?_
                        rintro _ _ _ ⟨v1369, _, rfl, ⟨⟨l1364, i1365, ad1366, cp1367, rfl, rfl, rfl⟩, rfl⟩, _, rfl⟩
                        refine ⟨fun w hs => Hold.sub hK1360 ⟨1, rfl, 1, rfl, trivial⟩ hs, ?_⟩
                        refine JM.wit Row.hn (fun hn1368 => ?_)
                        refine JM.nil ?_
                        refine JQ.val (v := .slice ad1366 l1364.length cp1367) rfl rfl (V.ext rfl rfl) ?_
                        refine JQ.val (v := .int .i64 i1365) rfl rfl (V.ext rfl rfl) ?_
                        refine JQ.val (v := .slice ad1366 l1364.length cp1367) rfl rfl (V.as rfl) ?_
                        refine JQ.val (v := .int .i64 i1365) rfl rfl (V.as rfl) ?_
                        refine JQ.nil ?_
                        refine J.nil ?_
                        refine CJ.ret ?_
                        have e := Option.some.inj h
                        subst e
                        exact ⟨_, [Row Hp.nil 66 (.cons (.int .i64) (.cons (.int .i64) (.cons (.int .i64) (.cons (.int .i64) (.one .bool))))) (.slice ad1366 l1364.length cp1367) l1364], Res.two rfl rfl rfl, ⟨l1364, i1365, ad1366, cp1367, rfl, rfl, rfl⟩, hK1360, fun w hs => (Sep.dropAt 1 rfl (Sep.dropAt 1 rfl hs))⟩
                    · have h := cf hc878 h
                      refine CJ.skip ?_
                      refine CJ.seq ?_
                      refine CJ.region ?_
                      refine J.val (v := .slice none 0 0) rfl rfl (V.as rfl) ?_
                      refine J.val (v := .int .i64 0) rfl rfl (V.as rfl) ?_
                      refine J.nil ?_
                      refine CJ.by (fun w hs => Sep.rowNil (e := 66) (t := (.cons (.int .i64) (.cons (.int .i64) (.cons (.int .i64) (.cons (.int .i64) (.one .bool)))))) hs) ?_
                      refine CJ.ret ?_
                      have e := Option.some.inj h
                      subst e
                      exact ⟨_, [Row Hp.nil 66 (.cons (.int .i64) (.cons (.int .i64) (.cons (.int .i64) (.cons (.int .i64) (.one .bool))))) (.slice none ((([] : List (Int × Int × Int × Int × Bool))).length) 0) (([] : List (Int × Int × Int × Int × Bool)))], Res.two rfl rfl rfl, ⟨[], 0, none, 0, rfl, rfl, rfl⟩, (Hp.le_refl _), fun w hs => (Sep.dropAt 1 rfl (Sep.dropAt 1 rfl hs))⟩
noncomputable def fn_law16_Doc_l1 (xa : (List (Int × Int × Int × Int × Bool))) : ((List (Int × Int × Int × Int × Bool)) × Int) → Option (((List (Int × Int × Int × Int × Bool)) × Int) ⊕ (List (Int × Int × Int × Int × Bool))) := fun ((l1130, i1135) : ((List (Int × Int × Int × Int × Bool)) × Int)) => cond (decide (i1135 < (((xa.length : Nat) : Int)))) ((getI xa i1135).bind fun x1298 => (getI xa i1135).bind fun x1307 => (getI xa i1135).bind fun x1316 => (getI xa i1135).bind fun x1325 => (getI xa i1135).bind fun x1334 => (app l1130 (([(x1298.1, x1307.2.1, x1316.2.2.1, x1325.2.2.2.1, x1334.2.2.2.2)] : List (Int × Int × Int × Int × Bool)))).bind fun z1346 => some (.inl ((z1346, IntKind.wrap .i64 (i1135 + 1))))) (some (.inr (l1130)))
noncomputable def fn_law16_Doc (xa : (List (Int × Int × Int × Int × Bool))) : Option ((List (Int × Int × Int × Int × Bool))) :=
  (loop (fn_law16_Doc_l1 xa) ((([] : List (Int × Int × Int × Int × Bool)), 0)) : Option ((List (Int × Int × Int × Int × Bool)))).bind fun l1014 => some (l1014)
set_option maxRecDepth 100000 in
set_option maxHeartbeats 4000000 in
theorem law16_Doc_ok {K : Hp} {xa : (List (Int × Int × Int × Int × Bool))} {adxa_0 : Option Addr} {cpxa_0 : Nat} (fxa_0 : Is K (.sl (.cons (.int .i64) (.cons (.int .i64) (.cons (.int .i64) (.cons (.int .i64) (.one .bool)))))) [.slice adxa_0 xa.length cpxa_0] xa) {r : (List (Int × Int × Int × Int × Bool))} (h : fn_law16_Doc xa = some r) :
    Tr Try.prog 11 #[.slice adxa_0 xa.length cpxa_0] K [] (fun v K' L' => (∃ (l675 : (List (Int × Int × Int × Int × Bool))) (ad676 : Option Addr) (cp677 : Nat), l675 = r ∧ .slice ad676 l675.length cp677 = v ∧ L' = [Row Hp.nil 66 (.cons (.int .i64) (.cons (.int .i64) (.cons (.int .i64) (.cons (.int .i64) (.one .bool))))) (.slice ad676 l675.length cp677) l675]) ∧ K = K') := by
  refine Tr.k ?_
  refine Tr.of Try.func11 rfl Try.ntmps11 rfl (fun E F => ?_)
  unfold fn_law16_Doc at h
  refine CJ.seq ?_
  refine CJ.region ?_
  refine J.val (v := .slice none 0 0) rfl rfl (V.as rfl) ?_
  refine J.nil ?_
  refine CJ.seq ?_
  refine CJ.region ?_
  refine J.op rfl (A.lit (K0 := Hp.nil) (ty := (.cons (.int .i64) (.cons (.int .i64) (.cons (.int .i64) (.cons (.int .i64) (.one .bool)))))) (xs := ([] : List (Int × Int × Int × Int × Bool))) Try.underlying39 inf66 rfl (by decide) rfl rfl rfl rfl rfl (by decide)) ?_
  rintro _ _ _ ⟨b680, rfl, rfl, rfl⟩
  have hn681 : ([] : List (Int × Int × Int × Int × Bool)) ≠ [] → ∃ g, (some ⟨b680, 0, none⟩ : Option Addr) = some ⟨g, 0, none⟩ := fun _ => ⟨b680, rfl⟩
  refine J.val (v := .slice (some ⟨b680, 0, none⟩) ((([] : List (Int × Int × Int × Int × Bool))).length) 0) rfl rfl (V.as rfl) ?_
  refine J.nil ?_
  refine CJ.seq ?_
  refine CJ.seq ?_
  refine CJ.region ?_
  refine J.val (v := .int .i64 0) rfl rfl (V.as rfl) ?_
  refine J.nil ?_
  obtain ⟨o1019, ho1020, h⟩ := ob h
  refine CJ.meetN (fun ρ K' L' => ∃ (l1014 : (List (Int × Int × Int × Int × Bool))) (ad1015 : Option Addr) (cp1016 : Nat), l1014 = o1019 ∧ Fits [(3, .slice ad1015 l1014.length cp1016)] ρ ∧ K = K' ∧ L' = Row Hp.nil 66 (.cons (.int .i64) (.cons (.int .i64) (.cons (.int .i64) (.cons (.int .i64) (.one .bool))))) (.slice ad1015 l1014.length cp1016) l1014 :: F) ?_ ?_
  · skip
    refine CJ.block ?_
    refine CJ.loop (fun s ρ K' L' => ∃ (l1130 : (List (Int × Int × Int × Int × Bool))) (i1135 : Int) (ad1131 : Option Addr) (cp1132 : Nat), (l1130, i1135) = s ∧ Fits [(0, .slice adxa_0 xa.length cpxa_0), (3, .slice ad1131 l1130.length cp1132), (4, .int .i64 i1135)] ρ ∧ K = K' ∧ L' = Row Hp.nil 66 (.cons (.int .i64) (.cons (.int .i64) (.cons (.int .i64) (.cons (.int .i64) (.one .bool))))) (.slice ad1131 l1130.length cp1132) l1130 :: F) ho1020 ⟨([] : List (Int × Int × Int × Int × Bool)), 0, (some ⟨b680, 0, none⟩), 0, rfl, ⟨rfl, rfl, rfl, trivial⟩, rfl, rfl⟩ ?_
    rintro s ρ _ _ r1248 ⟨l1130, i1135, ad1131, cp1132, rfl, hf1246, rfl, rfl⟩ h1245
    obtain ⟨ρ, rfl⟩ := hf1246.ex
    refine CJ.wit Row.hn (fun hn1134 => ?_)
    refine CJ.seq ?_
    refine CJ.seq ?_
    refine CJ.region ?_
    refine J.val (v := .int .i64 i1135) rfl rfl (V.mv rfl) ?_
    refine J.val (v := .slice adxa_0 xa.length cpxa_0) rfl rfl (V.mv rfl) ?_
    refine J.val (v := .int .i64 (((xa.length : Nat) : Int))) rfl rfl (V.len Try.underlying35 rfl) ?_
    refine J.val (v := .bool (decide (i1135 < (((xa.length : Nat) : Int))))) rfl rfl (V.lss rfl rfl) ?_
    refine J.nil ?_
    refine CJ.cond rfl (fun hc1249 => ?_) (fun hc1249 => ?_)
    · have h1245 := ct hc1249 h1245
      refine CJ.skip ?_
      refine CJ.seq ?_
      refine CJ.block ?_
      refine CJ.mix [Row Hp.nil 66 (.cons (.int .i64) (.cons (.int .i64) (.cons (.int .i64) (.cons (.int .i64) (.one .bool))))) (.slice ad1131 l1130.length cp1132) l1130] [([0, 1, 2, 3, 4, 5, 6, 7, 8, 9, 10, 11, 12, 13, 14, 15, 16, 17, 18, 19, 20, 21, 22, 23, 24, 25, 26], 27)] [] [28, 29] mixO (by decide +kernel) ⟨0, rfl, trivial⟩ rfl rfl rfl ?_
      refine JM.cons ?_
      refine JQ.val (v := .slice ad1131 l1130.length cp1132) rfl rfl (V.mv rfl) ?_
      refine JQ.val (v := .slice adxa_0 xa.length cpxa_0) rfl rfl (V.mv rfl) ?_
      refine JQ.val (v := .int .i64 i1135) rfl rfl (V.mv rfl) ?_
      obtain ⟨x1298, hx1299, h1245⟩ := ob h1245
      obtain ⟨p1300, p1301, p1302⟩ := getI_some hx1299
      obtain ⟨b1303, o1304, e1305, a1306⟩ := (fxa_0).at p1301
      refine JQ.val rfl rfl (V.iad Try.underlying35 sz67 rfl e1305 rfl p1300 p1302) ?_
      refine JQ.val rfl rfl (V.fad Try.underlying67 rfl nz3 rfl) ?_
      refine JQ.val (v := .int .i64 x1298.1) rfl rfl (V.ld rfl (Ld.sc sc3 (Rd.k ((a1306).fst).int (Hp.le_refl _)))) ?_
      refine JQ.val (v := .slice adxa_0 xa.length cpxa_0) rfl rfl (V.mv rfl) ?_
      refine JQ.val (v := .int .i64 i1135) rfl rfl (V.mv rfl) ?_
      obtain ⟨x1307, hx1308, h1245⟩ := ob h1245
      obtain ⟨p1309, p1310, p1311⟩ := getI_some hx1308
      obtain ⟨b1312, o1313, e1314, a1315⟩ := (fxa_0).at p1310
      refine JQ.val rfl rfl (V.iad Try.underlying35 sz67 rfl e1314 rfl p1309 p1311) ?_
      refine JQ.val rfl rfl (V.fad Try.underlying67 rfl nz3 rfl) ?_
      refine JQ.val (v := .int .i64 x1307.2.1) rfl rfl (V.ld rfl (Ld.sc sc3 (Rd.k (((a1315).snd).fst).int (Hp.le_refl _)))) ?_
      refine JQ.val (v := .slice adxa_0 xa.length cpxa_0) rfl rfl (V.mv rfl) ?_
      refine JQ.val (v := .int .i64 i1135) rfl rfl (V.mv rfl) ?_
      obtain ⟨x1316, hx1317, h1245⟩ := ob h1245
      obtain ⟨p1318, p1319, p1320⟩ := getI_some hx1317
      obtain ⟨b1321, o1322, e1323, a1324⟩ := (fxa_0).at p1319
      refine JQ.val rfl rfl (V.iad Try.underlying35 sz67 rfl e1323 rfl p1318 p1320) ?_
      refine JQ.val rfl rfl (V.fad Try.underlying67 rfl nz3 rfl) ?_
      refine JQ.val (v := .int .i64 x1316.2.2.1) rfl rfl (V.ld rfl (Ld.sc sc3 (Rd.k ((((a1324).snd).snd).fst).int (Hp.le_refl _)))) ?_
      refine JQ.val (v := .slice adxa_0 xa.length cpxa_0) rfl rfl (V.mv rfl) ?_
      refine JQ.val (v := .int .i64 i1135) rfl rfl (V.mv rfl) ?_
      obtain ⟨x1325, hx1326, h1245⟩ := ob h1245
      obtain ⟨p1327, p1328, p1329⟩ := getI_some hx1326
      obtain ⟨b1330, o1331, e1332, a1333⟩ := (fxa_0).at p1328
      refine JQ.val rfl rfl (V.iad Try.underlying35 sz67 rfl e1332 rfl p1327 p1329) ?_
      refine JQ.val rfl rfl (V.fad Try.underlying67 rfl nz3 rfl) ?_
      refine JQ.val (v := .int .i64 x1325.2.2.2.1) rfl rfl (V.ld rfl (Ld.sc sc3 (Rd.k (((((a1333).snd).snd).snd).fst).int (Hp.le_refl _)))) ?_
      refine JQ.val (v := .slice adxa_0 xa.length cpxa_0) rfl rfl (V.mv rfl) ?_
      refine JQ.val (v := .int .i64 i1135) rfl rfl (V.mv rfl) ?_
      obtain ⟨x1334, hx1335, h1245⟩ := ob h1245
      obtain ⟨p1336, p1337, p1338⟩ := getI_some hx1335
      obtain ⟨b1339, o1340, e1341, a1342⟩ := (fxa_0).at p1337
      refine JQ.val rfl rfl (V.iad Try.underlying35 sz67 rfl e1341 rfl p1336 p1338) ?_
      refine JQ.val rfl rfl (V.fad Try.underlying67 rfl nz4 rfl) ?_
      refine JQ.val (v := .bool x1334.2.2.2.2) rfl rfl (V.ld rfl (Ld.sc sc4 (Rd.k ((((((a1342).snd).snd).snd).snd).one).bool (Hp.le_refl _)))) ?_
      refine JQ.val (v := .agg #[.int .i64 x1298.1, .int .i64 x1307.2.1, .int .i64 x1316.2.2.1, .int .i64 x1325.2.2.2.1, .bool x1334.2.2.2.2]) rfl rfl (V.build inf66 places66 rfl rfl) ?_
      refine JQ.nil ?_
      refine JA.op rfl (A.lit (K0 := Hp.nil) (ty := (.cons (.int .i64) (.cons (.int .i64) (.cons (.int .i64) (.cons (.int .i64) (.one .bool)))))) (xs := ([(x1298.1, x1307.2.1, x1316.2.2.1, x1325.2.2.2.1, x1334.2.2.2.2)] : List (Int × Int × Int × Int × Bool))) Try.underlying39 inf66 rfl (by decide) rfl rfl rfl ⟨_, _, rfl, ⟨_, _, rfl, rfl, rfl, ⟨_, _, rfl, rfl, rfl, ⟨_, _, rfl, rfl, rfl, ⟨_, _, rfl, rfl, rfl, rfl⟩⟩⟩⟩, rfl⟩ rfl (by decide)) ?_
      rintro _ _ _ ⟨b1343, rfl, rfl, rfl⟩
      have hn1344 : ([(x1298.1, x1307.2.1, x1316.2.2.1, x1325.2.2.2.1, x1334.2.2.2.2)] : List (Int × Int × Int × Int × Bool)) ≠ [] → ∃ g, (some ⟨b1343, 0, none⟩ : Option Addr) = some ⟨g, 0, none⟩ := fun _ => ⟨b1343, rfl⟩
      refine ⟨fun w hs => Hold.sub (Hp.le_refl _) ⟨1, rfl, trivial⟩ hs, ?_⟩
      refine JM.nil ?_
      refine JQ.nil ?_
      obtain ⟨z1346, hz1347, h1245⟩ := ob h1245
      refine J.front 1 rfl ?_
      refine J.op rfl (A.appR (Kr := Hp.nil) Try.underlying39 inf66 rfl rfl (by decide) (by decide) rfl rfl (Els.flat rfl) (Els.flat rfl) hz1347) ?_
      rintro _ _ _ ⟨v1348, rfl, rfl, rfl⟩
      refine J.wit Row.form ?_
      rintro ⟨ad1349, cp1350, rfl, _, _, hn1351⟩
      refine J.val (v := .slice ad1349 z1346.length cp1350) rfl rfl (V.as rfl) ?_
      refine J.nil ?_
      refine CJ.region ?_
      refine J.val (v := .int .i64 i1135) rfl rfl (V.mv rfl) ?_
      refine J.val (v := .int .i64 (IntKind.wrap .i64 (i1135 + 1))) rfl rfl (V.add rfl rfl) ?_
      refine J.val (v := .int .i64 (IntKind.wrap .i64 (i1135 + 1))) rfl rfl (V.as rfl) ?_
      refine J.nil ?_
      have e := Option.some.inj h1245
      subst e
      exact ⟨rfl, ⟨z1346, IntKind.wrap .i64 (i1135 + 1), ad1349, cp1350, rfl, ⟨rfl, rfl, rfl, trivial⟩, rfl, rfl⟩⟩
    · have h1245 := cf hc1249 h1245
      refine CJ.exit ?_
      have e := Option.some.inj h1245
      subst e
      refine ⟨nofun, fun e => ?_⟩
      subst e
      exact ⟨rfl, ⟨l1130, ad1131, cp1132, rfl, ⟨rfl, trivial⟩, rfl, rfl⟩⟩
  · rintro ρ _ _ ⟨l1014, ad1015, cp1016, rfl, hf1352, rfl, rfl⟩
    obtain ⟨ρ, rfl⟩ := hf1352.ex
    refine PJ.wit Row.hn (fun hn1018 => ?_)
    refine PJ.done ?_
    refine CJ.seq ?_
    refine CJ.region ?_
    refine J.val (v := .slice ad1015 l1014.length cp1016) rfl rfl (V.mv rfl) ?_
    refine J.val (v := .slice ad1015 l1014.length cp1016) rfl rfl (V.as rfl) ?_
    refine J.nil ?_
    refine CJ.ret ?_
    have e := Option.some.inj h
    subst e
    exact ⟨_, [Row Hp.nil 66 (.cons (.int .i64) (.cons (.int .i64) (.cons (.int .i64) (.cons (.int .i64) (.one .bool))))) (.slice ad1015 l1014.length cp1016) l1014], Res.one rfl rfl, ⟨l1014, ad1015, cp1016, rfl, rfl, rfl⟩, (Hp.le_refl _), fun w hs => hs⟩
noncomputable def fn_ref16_Same_l1 (xa : (List (Int × Int × Int × Int × Bool))) (xb : (List (Int × Int × Int × Int × Bool))) : Int → Option (Int ⊕ (Unit ⊕ Bool)) := fun (i413 : Int) => cond (decide (i413 < (((xa.length : Nat) : Int)))) ((getI xa i413).bind fun x476 => (getI xb i413).bind fun x485 => cond (!((decide (x476.1 = x485.1)) && ((decide (x476.2.1 = x485.2.1)) && ((decide (x476.2.2.1 = x485.2.2.1)) && ((decide (x476.2.2.2.1 = x485.2.2.2.1)) && (x476.2.2.2.2 == x485.2.2.2.2)))))) (some (.inr ((.inr (false))))) (some (.inl (IntKind.wrap .i64 (i413 + 1))))) (some (.inr ((.inl ()))))
noncomputable def fn_ref16_Same (xa : (List (Int × Int × Int × Int × Bool))) (xb : (List (Int × Int × Int × Int × Bool))) : Option Bool :=
  cond (!decide ((((xa.length : Nat) : Int)) = (((xb.length : Nat) : Int)))) (some (false)) ((loop (fn_ref16_Same_l1 xa xb) 0 : Option (Unit ⊕ Bool)).bind fun o => match o with | .inr r => some r | .inl () => some (true))
set_option maxRecDepth 100000 in
set_option maxHeartbeats 4000000 in
theorem ref16_Same_ok {K : Hp} {xa : (List (Int × Int × Int × Int × Bool))} {xb : (List (Int × Int × Int × Int × Bool))} {adxa_0 : Option Addr} {cpxa_0 : Nat} {adxb_0 : Option Addr} {cpxb_0 : Nat} (fxa_0 : Is K (.sl (.cons (.int .i64) (.cons (.int .i64) (.cons (.int .i64) (.cons (.int .i64) (.one .bool)))))) [.slice adxa_0 xa.length cpxa_0] xa) (fxb_0 : Is K (.sl (.cons (.int .i64) (.cons (.int .i64) (.cons (.int .i64) (.cons (.int .i64) (.one .bool)))))) [.slice adxb_0 xb.length cpxb_0] xb) {r : Bool} (h : fn_ref16_Same xa xb = some r) :
    Tr Try.prog 10 #[.slice adxa_0 xa.length cpxa_0, .slice adxb_0 xb.length cpxb_0] K [] (fun v K' L' => (∃ (t249 : Bool), t249 = r ∧ .bool t249 = v ∧ L' = []) ∧ K = K') := by
  refine Tr.k ?_
  refine Tr.of Try.func10 rfl Try.ntmps10 rfl (fun E F => ?_)
  unfold fn_ref16_Same at h
  refine CJ.seq ?_
  refine CJ.region ?_
  refine J.val (v := .bool false) rfl rfl (V.as rfl) ?_
  refine J.nil ?_
  refine CJ.seq ?_
  refine CJ.seq ?_
  refine CJ.region ?_
  refine J.val (v := .slice adxa_0 xa.length cpxa_0) rfl rfl (V.mv rfl) ?_
  refine J.val (v := .int .i64 (((xa.length : Nat) : Int))) rfl rfl (V.len Try.underlying39 rfl) ?_
  refine J.val (v := .slice adxb_0 xb.length cpxb_0) rfl rfl (V.mv rfl) ?_
  refine J.val (v := .int .i64 (((xb.length : Nat) : Int))) rfl rfl (V.len Try.underlying39 rfl) ?_
  refine J.val (v := .bool (!decide ((((xa.length : Nat) : Int)) = (((xb.length : Nat) : Int))))) rfl rfl (V.neq rfl rfl) ?_
  refine J.nil ?_
  refine CJ.cond rfl (fun hc250 => ?_) (fun hc250 => ?_)
  · have h := ct hc250 h
    refine CJ.seq ?_
    refine CJ.region ?_
    refine J.val (v := .bool false) rfl rfl (V.as rfl) ?_
    refine J.nil ?_
    refine CJ.ret ?_
    have e := Option.some.inj h
    subst e
    exact ⟨_, [], Res.one rfl rfl, ⟨false, rfl, rfl, rfl⟩, (Hp.le_refl _), fun w hs => hs⟩
  · have h := cf hc250 h
    refine CJ.skip ?_
    refine CJ.seq ?_
    refine CJ.seq ?_
    refine CJ.region ?_
    refine J.val (v := .int .i64 0) rfl rfl (V.as rfl) ?_
    refine J.nil ?_
    obtain ⟨o372, ho373, h⟩ := ob h
    refine CJ.joinN (o := o372) (fun s ρ K' L' => () = s ∧ Fits [] ρ ∧ K = K' ∧ F = L') ?_ ?_
    · skip
      refine CJ.block ?_
      refine CJ.loop (fun s ρ K' L' => ∃ (i413 : Int), i413 = s ∧ Fits [(0, .slice adxa_0 xa.length cpxa_0), (1, .slice adxb_0 xb.length cpxb_0), (5, .int .i64 i413)] ρ ∧ K = K' ∧ F = L') ho373 ⟨0, rfl, ⟨rfl, rfl, rfl, trivial⟩, rfl, rfl⟩ ?_
      rintro s ρ _ _ r456 ⟨i413, rfl, hf454, rfl, rfl⟩ h453
      obtain ⟨ρ, rfl⟩ := hf454.ex
      refine CJ.seq ?_
      refine CJ.seq ?_
      refine CJ.region ?_
      refine J.val (v := .int .i64 i413) rfl rfl (V.mv rfl) ?_
      refine J.val (v := .slice adxa_0 xa.length cpxa_0) rfl rfl (V.mv rfl) ?_
      refine J.val (v := .int .i64 (((xa.length : Nat) : Int))) rfl rfl (V.len Try.underlying39 rfl) ?_
      refine J.val (v := .bool (decide (i413 < (((xa.length : Nat) : Int))))) rfl rfl (V.lss rfl rfl) ?_
      refine J.nil ?_
      refine CJ.cond rfl (fun hc457 => ?_) (fun hc457 => ?_)
      · have h453 := ct hc457 h453
        refine CJ.skip ?_
        refine CJ.seq ?_
        refine CJ.block ?_
        refine CJ.seq ?_
        refine CJ.mix [] [] [0, 1, 2, 3, 4, 5, 6, 7, 8] [] mixO (by decide +kernel) trivial rfl rfl rfl ?_
        refine JM.nil ?_
        refine JQ.val (v := .slice adxa_0 xa.length cpxa_0) rfl rfl (V.mv rfl) ?_
        refine JQ.val (v := .int .i64 i413) rfl rfl (V.mv rfl) ?_
        obtain ⟨x476, hx477, h453⟩ := ob h453
        obtain ⟨p478, p479, p480⟩ := getI_some hx477
        obtain ⟨b481, o482, e483, a484⟩ := (fxa_0).at p479
        refine JQ.val rfl rfl (V.iad Try.underlying39 sz66 rfl e483 rfl p478 p480) ?_
        refine JQ.val (v := .agg #[.int .i64 x476.1, .int .i64 x476.2.1, .int .i64 x476.2.2.1, .int .i64 x476.2.2.2.1, .bool x476.2.2.2.2]) rfl rfl (V.ld rfl (Ld.aggK (cs := [.int .i64 x476.1, .int .i64 x476.2.1, .int .i64 x476.2.2.1, .int .i64 x476.2.2.2.1, .bool x476.2.2.2.2]) Try.underlying66 sz66 rfl ⟨((a484).fst).int, (((a484).snd).fst).int, ((((a484).snd).snd).fst).int, (((((a484).snd).snd).snd).fst).int, ((((((a484).snd).snd).snd).snd).one).bool, trivial⟩ (Hp.le_refl _))) ?_
        refine JQ.val (v := .slice adxb_0 xb.length cpxb_0) rfl rfl (V.mv rfl) ?_
        refine JQ.val (v := .int .i64 i413) rfl rfl (V.mv rfl) ?_
        obtain ⟨x485, hx486, h453⟩ := ob h453
        obtain ⟨p487, p488, p489⟩ := getI_some hx486
        obtain ⟨b490, o491, e492, a493⟩ := (fxb_0).at p488
        refine JQ.val rfl rfl (V.iad Try.underlying39 sz66 rfl e492 rfl p487 p489) ?_
        refine JQ.val (v := .agg #[.int .i64 x485.1, .int .i64 x485.2.1, .int .i64 x485.2.2.1, .int .i64 x485.2.2.2.1, .bool x485.2.2.2.2]) rfl rfl (V.ld rfl (Ld.aggK (cs := [.int .i64 x485.1, .int .i64 x485.2.1, .int .i64 x485.2.2.1, .int .i64 x485.2.2.2.1, .bool x485.2.2.2.2]) Try.underlying66 sz66 rfl ⟨((a493).fst).int, (((a493).snd).fst).int, ((((a493).snd).snd).fst).int, (((((a493).snd).snd).snd).fst).int, ((((((a493).snd).snd).snd).snd).one).bool, trivial⟩ (Hp.le_refl _))) ?_
        refine JQ.val (v := .bool (!((decide (x476.1 = x485.1)) && ((decide (x476.2.1 = x485.2.1)) && ((decide (x476.2.2.1 = x485.2.2.1)) && ((decide (x476.2.2.2.1 = x485.2.2.2.1)) && (x476.2.2.2.2 == x485.2.2.2.2))))))) rfl rfl (V.nest eqg66 (EqIn.st (d := 9999) rfl Try.underlying66 sih66 (EqFs.cons (by decide) (Ld0.sc sc3 rfl) (Ld0.sc sc3 rfl) (EqIn.int (d := 9998) rfl Try.underlying3) (EqFs.cons (by decide) (Ld0.sc sc3 rfl) (Ld0.sc sc3 rfl) (EqIn.int (d := 9998) rfl Try.underlying3) (EqFs.cons (by decide) (Ld0.sc sc3 rfl) (Ld0.sc sc3 rfl) (EqIn.int (d := 9998) rfl Try.underlying3) (EqFs.cons (by decide) (Ld0.sc sc3 rfl) (Ld0.sc sc3 rfl) (EqIn.int (d := 9998) rfl Try.underlying3) (EqFs.last (by decide) (Ld0.sc sc4 rfl) (Ld0.sc sc4 rfl) (EqIn.bool (d := 9998) rfl Try.underlying4))))))) rfl rfl) ?_
        refine JQ.nil ?_
        refine J.nil ?_
        refine CJ.cond rfl (fun hc494 => ?_) (fun hc494 => ?_)
        · have h453 := ct hc494 h453
          refine CJ.seq ?_
          refine CJ.region ?_
          refine J.val (v := .bool false) rfl rfl (V.as rfl) ?_
          refine J.nil ?_
          refine CJ.ret ?_
          have e := Option.some.inj h453
          subst e
          refine ⟨nofun, fun e => ?_⟩
          subst e
          refine .inr ⟨nofun, ?_⟩
          have e := Option.some.inj h
          subst e
          exact ⟨_, [], Res.one rfl rfl, ⟨false, rfl, rfl, rfl⟩, (Hp.le_refl _), fun w hs => hs⟩
        · have h453 := cf hc494 h453
          refine CJ.skip ?_
          refine CJ.region ?_
          refine J.val (v := .int .i64 i413) rfl rfl (V.mv rfl) ?_
          refine J.val (v := .int .i64 (IntKind.wrap .i64 (i413 + 1))) rfl rfl (V.add rfl rfl) ?_
          refine J.val (v := .int .i64 (IntKind.wrap .i64 (i413 + 1))) rfl rfl (V.as rfl) ?_
          refine J.nil ?_
          have e := Option.some.inj h453
          subst e
          exact ⟨rfl, ⟨IntKind.wrap .i64 (i413 + 1), rfl, ⟨rfl, rfl, rfl, trivial⟩, rfl, rfl⟩⟩
      · have h453 := cf hc457 h453
        refine CJ.exit ?_
        have e := Option.some.inj h453
        subst e
        refine ⟨nofun, fun e => ?_⟩
        subst e
        exact .inl ⟨rfl, _, rfl, ⟨rfl, trivial, rfl, rfl⟩⟩
    · rintro s ρ _ _ ho495 ⟨rfl, hf496, rfl, rfl⟩
      subst ho495
      obtain ⟨ρ, rfl⟩ := hf496.ex
      refine PJ.done ?_
      refine CJ.seq ?_
      refine CJ.region ?_
      refine J.val (v := .bool true) rfl rfl (V.as rfl) ?_
      refine J.nil ?_
      refine CJ.ret ?_
      have e := Option.some.inj h
      subst e
      exact ⟨_, [], Res.one rfl rfl, ⟨true, rfl, rfl, rfl⟩, (Hp.le_refl _), fun w hs => hs⟩

noncomputable def fn_term_Check (xa : (Int × Int × Int × (List Int) × (List Int) × (List Int))) (xb : (Int × Int × (List (List (Int × Bool))) × (List (Int × Bool)) × (List (Int × (List (Int × Int)) × (List (List (Int × Bool))) × (List (Int × Bool)))))) : Option Int :=
  (fn_term_Needs (xa.1, xa.2.1, xa.2.2.1, xa.2.2.2.1, xa.2.2.2.2.1, xa.2.2.2.2.2) (xb.1, xb.2.1, xb.2.2.1, xb.2.2.2.1, xb.2.2.2.2)).bind fun (l19, i20) => some (i20)
set_option maxRecDepth 100000 in
set_option maxHeartbeats 4000000 in
theorem term_Check_ok {K : Hp} {xa : (Int × Int × Int × (List Int) × (List Int) × (List Int))} {xb : (Int × Int × (List (List (Int × Bool))) × (List (Int × Bool)) × (List (Int × (List (Int × Int)) × (List (List (Int × Bool))) × (List (Int × Bool)))))} {adxa_3 : Option Addr} {cpxa_3 : Nat} {adxa_4 : Option Addr} {cpxa_4 : Nat} {adxa_5 : Option Addr} {cpxa_5 : Nat} {adxb_2 : Option Addr} {cpxb_2 : Nat} {adxb_3 : Option Addr} {cpxb_3 : Nat} {adxb_4 : Option Addr} {cpxb_4 : Nat} (fxa_3 : Is K (.sl (.int .i64)) [.slice adxa_3 xa.2.2.2.1.length cpxa_3] xa.2.2.2.1) (fxa_4 : Is K (.sl (.int .i64)) [.slice adxa_4 xa.2.2.2.2.1.length cpxa_4] xa.2.2.2.2.1) (fxa_5 : Is K (.sl (.int .i64)) [.slice adxa_5 xa.2.2.2.2.2.length cpxa_5] xa.2.2.2.2.2) (fxb_2 : Is K (.sl (.one (.sl (.cons (.int .i64) (.one .bool))))) [.slice adxb_2 xb.2.2.1.length cpxb_2] xb.2.2.1) (fxb_3 : Is K (.sl (.cons (.int .i64) (.one .bool))) [.slice adxb_3 xb.2.2.2.1.length cpxb_3] xb.2.2.2.1) (fxb_4 : Is K (.sl (.cons (.int .i64) (.cons (.sl (.cons (.int .i64) (.one (.int .i64)))) (.cons (.sl (.one (.sl (.cons (.int .i64) (.one .bool))))) (.one (.one (.sl (.cons (.int .i64) (.one .bool))))))))) [.slice adxb_4 xb.2.2.2.2.length cpxb_4] xb.2.2.2.2) {r : Int} (h : fn_term_Check xa xb = some r) :
    Tr Try.prog 12 #[.agg #[.int .i64 xa.1, .int .i64 xa.2.1, .int .i64 xa.2.2.1, .slice adxa_3 xa.2.2.2.1.length cpxa_3, .slice adxa_4 xa.2.2.2.2.1.length cpxa_4, .slice adxa_5 xa.2.2.2.2.2.length cpxa_5], .agg #[.int .i64 xb.1, .int .i64 xb.2.1, .slice adxb_2 xb.2.2.1.length cpxb_2, .slice adxb_3 xb.2.2.2.1.length cpxb_3, .slice adxb_4 xb.2.2.2.2.length cpxb_4]] K [] (fun v K' L' => (∃ (i14 : Int), i14 = r ∧ .int .i64 i14 = v ∧ L' = []) ∧ K = K') := by
  refine Tr.k ?_
  refine Tr.of Try.func12 rfl Try.ntmps12 rfl (fun E F => ?_)
  unfold fn_term_Check at h
  refine CJ.seq ?_
  refine CJ.region ?_
  refine J.op rfl (A.box (v := .agg #[.int .i64 xa.1, .int .i64 xa.2.1, .int .i64 xa.2.2.1, .slice adxa_3 xa.2.2.2.1.length cpxa_3, .slice adxa_4 xa.2.2.2.2.1.length cpxa_4, .slice adxa_5 xa.2.2.2.2.2.length cpxa_5]) (cs := [.int .i64 xa.1, .int .i64 xa.2.1, .int .i64 xa.2.2.1, .slice adxa_3 xa.2.2.2.1.length cpxa_3, .slice adxa_4 xa.2.2.2.2.1.length cpxa_4, .slice adxa_5 xa.2.2.2.2.2.length cpxa_5]) rfl rfl) ?_
  rintro _ _ _ ⟨b15, rfl, rfl, rfl⟩
  refine J.op rfl (A.box (v := .agg #[.int .i64 xb.1, .int .i64 xb.2.1, .slice adxb_2 xb.2.2.1.length cpxb_2, .slice adxb_3 xb.2.2.2.1.length cpxb_3, .slice adxb_4 xb.2.2.2.2.length cpxb_4]) (cs := [.int .i64 xb.1, .int .i64 xb.2.1, .slice adxb_2 xb.2.2.1.length cpxb_2, .slice adxb_3 xb.2.2.2.1.length cpxb_3, .slice adxb_4 xb.2.2.2.2.length cpxb_4]) rfl rfl) ?_
  rintro _ _ _ ⟨b16, rfl, rfl, rfl⟩
  refine J.val (v := .int .i64 0) rfl rfl (V.as rfl) ?_
  refine J.nil ?_
  refine CJ.seq ?_
  refine CJ.region ?_
  refine J.val (v := .agg #[.int .i64 xa.1, .int .i64 xa.2.1, .int .i64 xa.2.2.1, .slice adxa_3 xa.2.2.2.1.length cpxa_3, .slice adxa_4 xa.2.2.2.2.1.length cpxa_4, .slice adxa_5 xa.2.2.2.2.2.length cpxa_5]) rfl rfl (V.ld rfl (Ld.agg (cs := [.int .i64 xa.1, .int .i64 xa.2.1, .int .i64 xa.2.2.1, .slice adxa_3 xa.2.2.2.1.length cpxa_3, .slice adxa_4 xa.2.2.2.2.1.length cpxa_4, .slice adxa_5 xa.2.2.2.2.2.length cpxa_5]) Try.underlying24 sz24 rfl (Rd.cls 1 0 rfl rfl))) ?_
  refine J.val (v := .agg #[.int .i64 xb.1, .int .i64 xb.2.1, .slice adxb_2 xb.2.2.1.length cpxb_2, .slice adxb_3 xb.2.2.2.1.length cpxb_3, .slice adxb_4 xb.2.2.2.2.length cpxb_4]) rfl rfl (V.ld rfl (Ld.agg (cs := [.int .i64 xb.1, .int .i64 xb.2.1, .slice adxb_2 xb.2.2.1.length cpxb_2, .slice adxb_3 xb.2.2.2.1.length cpxb_3, .slice adxb_4 xb.2.2.2.2.length cpxb_4]) Try.underlying34 sz34 rfl (Rd.cls 0 0 rfl rfl))) ?_
  obtain ⟨r17, hr18, h⟩ := ob h
  refine J.op rfl (A.call (L1 := []) Try.call8 rfl (term_Needs_ok fxa_3 fxa_4 fxa_5 fxb_2 fxb_3 fxb_4 hr18) rfl rfl) ?_
  rintro _ _ _ ⟨v24, _, rfl, ⟨⟨l19, i20, ad21, cp22, rfl, rfl, rfl⟩, rfl⟩, _, rfl⟩
  refine J.wit Row.hn (fun hn23 => ?_)
  refine J.val (v := .tuple #[.slice ad21 l19.length cp22, .int .i64 i20]) rfl rfl (V.mv rfl) ?_
  refine J.val (v := .slice ad21 l19.length cp22) rfl rfl (V.ext rfl rfl) ?_
  refine J.val (v := .int .i64 i20) rfl rfl (V.ext rfl rfl) ?_
  refine J.val (v := .slice ad21 l19.length cp22) rfl rfl (V.as rfl) ?_
  refine J.val (v := .int .i64 i20) rfl rfl (V.as rfl) ?_
  refine J.nil ?_
  refine CJ.seq ?_
  refine CJ.region ?_
  refine J.val (v := .int .i64 i20) rfl rfl (V.mv rfl) ?_
  refine J.val (v := .int .i64 i20) rfl rfl (V.as rfl) ?_
  refine J.nil ?_
  refine CJ.ret ?_
  have e := Option.some.inj h
  subst e
  exact ⟨_, [], Res.one rfl rfl, ⟨i20, rfl, rfl, rfl⟩, (Hp.le_refl _), fun w hs => (Sep.dropAt 0 rfl (Sep.dropAt 0 rfl (Sep.dropAt 0 rfl hs)))⟩
end Go.Proofs.Ytgeofnfjgjodgaa
