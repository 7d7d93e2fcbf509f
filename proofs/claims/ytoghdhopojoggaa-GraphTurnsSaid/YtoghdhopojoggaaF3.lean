/- What Go functions answer: generated. -/
import Derived.Test.YtoghdhopojoggaaF2
namespace Go.Proofs.Ytoghdhopojoggaa
open Go.RowKit
set_option linter.unusedVariables false

noncomputable def fn_law10_GraphTells (xa : Int) (xb : (List (Int × Int))) (xc : Int) (xd : Int) : Option Bool :=
  cond ((decide (40 < (((xb.length : Nat) : Int)))) || ((decide (20 < xa)) && (decide (xa ≤ 1048576)))) ((fn_law10_awake).bind fun t1371 => some (t1371)) ((fn_law10_Of xa xb).bind fun (p1377, i1378) => (fn_ref10_Check xa xb).bind fun i1386 => cond ((!decide (i1378 = i1386)) || (!((!p1377.isNone) == (decide (i1378 = 0))))) (some (false)) (cond (!decide (i1378 = 0)) ((fn_graph_Graph_Nodes p1377).bind fun i1397 => (cond (decide (i1397 = 0)) ((fn_graph_Graph_Arcs p1377).bind fun i1413 => some (decide (i1413 = 0))) (some (false))).bind fun t1408 => (cond (t1408) ((fn_graph_Graph_Out p1377 xc).bind fun l1433 => some (decide ((((l1433.length : Nat) : Int)) = 0))) (some (false))).bind fun t1428 => (cond (t1428) ((fn_graph_Graph_In p1377 xc).bind fun l1457 => some (decide ((((l1457.length : Nat) : Int)) = 0))) (some (false))).bind fun t1452 => (cond (t1452) ((fn_graph_Graph_Next p1377 xc).bind fun l1481 => some (decide ((((l1481.length : Nat) : Int)) = 0))) (some (false))).bind fun t1476 => (cond (t1476) ((fn_graph_Graph_Reach p1377 xc).bind fun l1505 => some (decide ((((l1505.length : Nat) : Int)) = 0))) (some (false))).bind fun t1500 => cond (t1500) ((fn_graph_Graph_Turn p1377).bind fun p1525 => (cond (p1525.isNone) ((fn_law10_awake).bind fun t1543 => some (t1543)) (some (false))).bind fun t1538 => some (t1538)) (some (false))) ((fn_graph_Graph_Arc p1377 xd).bind fun (i1549, i1550, t1551) => cond (decide (0 ≤ xd)) (cond (!(t1551 == (decide (xd < (((xb.length : Nat) : Int)))))) (some (false)) (cond (t1551) ((getI xb xd).bind fun x1606 => cond (!decide (i1549 = x1606.1)) (some (false)) ((getI xb xd).bind fun x1616 => cond (!decide (i1550 = x1616.2)) (some (false)) ((fn_graph_Graph_Nodes p1377).bind fun i1628 => (cond (decide (i1628 = xa)) ((fn_graph_Graph_Arcs p1377).bind fun i1644 => some (decide (i1644 = (((xb.length : Nat) : Int))))) (some (false))).bind fun t1639 => (cond (t1639) ((fn_graph_Graph_Out p1377 xc).bind fun l1686 => (fn_ref10_Out xb xc).bind fun l1696 => (fn_ref01_Same l1686 l1696).bind fun t1712 => some (t1712)) (some (false))).bind fun t1681 => cond (t1681) ((fn_graph_Graph_In p1377 xc).bind fun l1765 => (fn_ref10_Turn xb).bind fun l1775 => (fn_ref10_Out l1775 xc).bind fun l1788 => (fn_ref01_Same l1765 l1788).bind fun t1804 => (cond (t1804) ((fn_graph_Graph_Next p1377 xc).bind fun l1846 => (fn_ref10_Next xb xc).bind fun l1856 => (fn_ref01_Same l1846 l1856).bind fun t1872 => some (t1872)) (some (false))).bind fun t1841 => (cond (t1841) ((fn_law10_awake).bind fun t1888 => some (t1888)) (some (false))).bind fun t1883 => some (t1883)) (some (false))))) (cond (!decide (i1549 = 0)) (some (false)) (cond (!decide (i1550 = 0)) (some (false)) ((fn_graph_Graph_Nodes p1377).bind fun i1896 => (cond (decide (i1896 = xa)) ((fn_graph_Graph_Arcs p1377).bind fun i1912 => some (decide (i1912 = (((xb.length : Nat) : Int))))) (some (false))).bind fun t1907 => (cond (t1907) ((fn_graph_Graph_Out p1377 xc).bind fun l1954 => (fn_ref10_Out xb xc).bind fun l1964 => (fn_ref01_Same l1954 l1964).bind fun t1980 => some (t1980)) (some (false))).bind fun t1949 => cond (t1949) ((fn_graph_Graph_In p1377 xc).bind fun l2033 => (fn_ref10_Turn xb).bind fun l2043 => (fn_ref10_Out l2043 xc).bind fun l2056 => (fn_ref01_Same l2033 l2056).bind fun t2072 => (cond (t2072) ((fn_graph_Graph_Next p1377 xc).bind fun l2114 => (fn_ref10_Next xb xc).bind fun l2124 => (fn_ref01_Same l2114 l2124).bind fun t2140 => some (t2140)) (some (false))).bind fun t2109 => (cond (t2109) ((fn_law10_awake).bind fun t2156 => some (t2156)) (some (false))).bind fun t2151 => some (t2151)) (some (false))))))) (cond (!(t1551 == false)) (some (false)) (cond (t1551) ((getI xb xd).bind fun x2162 => cond (!decide (i1549 = x2162.1)) (some (false)) ((getI xb xd).bind fun x2172 => cond (!decide (i1550 = x2172.2)) (some (false)) ((fn_graph_Graph_Nodes p1377).bind fun i2184 => (cond (decide (i2184 = xa)) ((fn_graph_Graph_Arcs p1377).bind fun i2200 => some (decide (i2200 = (((xb.length : Nat) : Int))))) (some (false))).bind fun t2195 => (cond (t2195) ((fn_graph_Graph_Out p1377 xc).bind fun l2242 => (fn_ref10_Out xb xc).bind fun l2252 => (fn_ref01_Same l2242 l2252).bind fun t2268 => some (t2268)) (some (false))).bind fun t2237 => cond (t2237) ((fn_graph_Graph_In p1377 xc).bind fun l2321 => (fn_ref10_Turn xb).bind fun l2331 => (fn_ref10_Out l2331 xc).bind fun l2344 => (fn_ref01_Same l2321 l2344).bind fun t2360 => (cond (t2360) ((fn_graph_Graph_Next p1377 xc).bind fun l2402 => (fn_ref10_Next xb xc).bind fun l2412 => (fn_ref01_Same l2402 l2412).bind fun t2428 => some (t2428)) (some (false))).bind fun t2397 => (cond (t2397) ((fn_law10_awake).bind fun t2444 => some (t2444)) (some (false))).bind fun t2439 => some (t2439)) (some (false))))) (cond (!decide (i1549 = 0)) (some (false)) (cond (!decide (i1550 = 0)) (some (false)) ((fn_graph_Graph_Nodes p1377).bind fun i2452 => (cond (decide (i2452 = xa)) ((fn_graph_Graph_Arcs p1377).bind fun i2468 => some (decide (i2468 = (((xb.length : Nat) : Int))))) (some (false))).bind fun t2463 => (cond (t2463) ((fn_graph_Graph_Out p1377 xc).bind fun l2510 => (fn_ref10_Out xb xc).bind fun l2520 => (fn_ref01_Same l2510 l2520).bind fun t2536 => some (t2536)) (some (false))).bind fun t2505 => cond (t2505) ((fn_graph_Graph_In p1377 xc).bind fun l2589 => (fn_ref10_Turn xb).bind fun l2599 => (fn_ref10_Out l2599 xc).bind fun l2612 => (fn_ref01_Same l2589 l2612).bind fun t2628 => (cond (t2628) ((fn_graph_Graph_Next p1377 xc).bind fun l2670 => (fn_ref10_Next xb xc).bind fun l2680 => (fn_ref01_Same l2670 l2680).bind fun t2696 => some (t2696)) (some (false))).bind fun t2665 => (cond (t2665) ((fn_law10_awake).bind fun t2712 => some (t2712)) (some (false))).bind fun t2707 => some (t2707)) (some (false))))))))))
set_option maxRecDepth 100000 in
set_option maxHeartbeats 4000000 in
theorem law10_GraphTells_ok {K : Hp} {xa : Int} {xb : (List (Int × Int))} {xc : Int} {xd : Int} {adxb_0 : Option Addr} {cpxb_0 : Nat} (fxb_0 : Is K (.sl (.cons (.int .i64) (.one (.int .i64)))) [.slice adxb_0 xb.length cpxb_0] xb) {r : Bool} (h : fn_law10_GraphTells xa xb xc xd = some r) :
    Tr Try.prog 3 #[.int .i64 xa, .slice adxb_0 xb.length cpxb_0, .int .i64 xc, .int .i64 xd] K [] (fun v K' L' => (∃ (t1358 : Bool), t1358 = r ∧ .bool t1358 = v ∧ L' = []) ∧ K = K') := by
  refine Tr.k ?_
  refine Tr.of Try.func3 rfl Try.ntmps3 rfl (fun E F => ?_)
  unfold fn_law10_GraphTells at h
  refine CJ.seq ?_
  refine CJ.region ?_
  refine J.val (v := .bool false) rfl rfl (V.as rfl) ?_
  refine J.nil ?_
  refine CJ.seq ?_
  refine CJ.seq ?_
  refine CJ.region ?_
  refine J.val (v := .slice adxb_0 xb.length cpxb_0) rfl rfl (V.mv rfl) ?_
  refine J.val (v := .int .i64 (((xb.length : Nat) : Int))) rfl rfl (V.len Try.underlying22 rfl) ?_
  refine J.val (v := .bool (decide (40 < (((xb.length : Nat) : Int))))) rfl rfl (V.gtr rfl rfl) ?_
  refine J.val (v := .bool (decide (40 < (((xb.length : Nat) : Int))))) rfl rfl (V.mv rfl) ?_
  refine J.cut 7 ?_
  refine @J.meet _ _ _ _ _ _ _ _ _ _ (fun ρ K' L' => Fits [(23, .bool ((decide (40 < (((xb.length : Nat) : Int)))) || ((decide (20 < xa)) && (decide (xa ≤ 1048576))))), (0, .int .i64 xa), (1, .slice adxb_0 xb.length cpxb_0), (2, .int .i64 xc), (3, .int .i64 xd)] ρ ∧ K = K' ∧ F = L') ?_ ?_
  · skip
    rcases bt (decide (40 < (((xb.length : Nat) : Int)))) with hc1364 | hc1364
    · skip
      refine J.skip rfl rfl rfl rfl hc1364 ?_
      refine J.skip rfl rfl rfl rfl hc1364 ?_
      refine J.skip rfl rfl rfl rfl hc1364 ?_
      refine J.skipu rfl rfl rfl rfl ?_
      refine J.skipu rfl rfl rfl rfl ?_
      refine J.skip rfl rfl rfl rfl hc1364 ?_
      refine J.val (v := .bool true) rfl rfl (V.pickT rfl hc1364 rfl) ?_
      refine J.nil ?_
      exact ⟨rfl, ⟨(by simp only [hc1364]; rfl), rfl, rfl, rfl, rfl, trivial⟩, rfl, rfl⟩
    · skip
      refine J.run rfl rfl rfl hc1364 ?_
      refine J.val (v := .int .i64 xa) rfl rfl (V.mv rfl) ?_
      refine J.run rfl rfl rfl hc1364 ?_
      refine J.val (v := .bool (decide (20 < xa))) rfl rfl (V.gtr rfl rfl) ?_
      refine J.run rfl rfl rfl hc1364 ?_
      refine J.val (v := .bool (decide (20 < xa))) rfl rfl (V.mv rfl) ?_
      refine J.cut 3 ?_
      refine @J.meet _ _ _ _ _ _ _ _ _ _ (fun ρ K' L' => Fits [(22, .bool ((decide (20 < xa)) && (decide (xa ≤ 1048576)))), (0, .int .i64 xa), (1, .slice adxb_0 xb.length cpxb_0), (2, .int .i64 xc), (3, .int .i64 xd), (16, .bool (decide (40 < (((xb.length : Nat) : Int)))))] ρ ∧ K = K' ∧ F = L') ?_ ?_
      · skip
        rcases bt (decide (20 < xa)) with hc1367 | hc1367
        · skip
          refine J.run rfl rfl rfl hc1367 ?_
          refine J.val (v := .int .i64 xa) rfl rfl (V.mv rfl) ?_
          refine J.run rfl rfl rfl hc1367 ?_
          refine J.val (v := .bool (decide (xa ≤ 1048576))) rfl rfl (V.leq rfl rfl) ?_
          refine J.run rfl rfl rfl hc1364 ?_
          refine J.val (v := .bool (decide (xa ≤ 1048576))) rfl rfl (V.pickT rfl hc1367 rfl) ?_
          refine J.nil ?_
          exact ⟨rfl, ⟨(by simp only [hc1367]; rfl), rfl, rfl, rfl, rfl, rfl, trivial⟩, rfl, rfl⟩
        · skip
          refine J.skip rfl rfl rfl rfl hc1367 ?_
          refine J.skip rfl rfl rfl rfl hc1367 ?_
          refine J.run rfl rfl rfl hc1364 ?_
          refine J.val (v := .bool false) rfl rfl (V.pickF rfl hc1367 rfl) ?_
          refine J.nil ?_
          exact ⟨rfl, ⟨(by simp only [hc1367]; rfl), rfl, rfl, rfl, rfl, rfl, trivial⟩, rfl, rfl⟩
      · rintro ρ _ _ ⟨hf, rfl, rfl⟩
        obtain ⟨ρ, rfl⟩ := hf.ex
        refine J.val (v := .bool ((decide (20 < xa)) && (decide (xa ≤ 1048576)))) rfl rfl (V.pickF rfl hc1364 rfl) ?_
        refine J.nil ?_
        exact ⟨rfl, ⟨(by simp only [hc1364]; rfl), rfl, rfl, rfl, rfl, trivial⟩, rfl, rfl⟩
  · rintro ρ _ _ ⟨hf, rfl, rfl⟩
    obtain ⟨ρ, rfl⟩ := hf.ex
    refine J.nil ?_
    refine CJ.cond rfl (fun hc1368 => ?_) (fun hc1368 => ?_)
    · have h := ct hc1368 h
      refine CJ.seq ?_
      refine CJ.region ?_
      obtain ⟨r1369, hr1370, h⟩ := ob h
      refine J.op rfl (A.call (L1 := []) Try.call6 rfl (law10_awake_ok hr1370) rfl rfl) ?_
      rintro _ _ _ ⟨v1372, _, rfl, ⟨⟨t1371, rfl, rfl, rfl⟩, rfl⟩, _, rfl⟩
      refine J.val (v := .bool t1371) rfl rfl (V.as rfl) ?_
      refine J.nil ?_
      refine CJ.ret ?_
      have e := Option.some.inj h
      subst e
      exact ⟨_, [], Res.one rfl rfl, ⟨t1371, rfl, rfl, rfl⟩, (Hp.le_refl _), fun w hs => hs⟩
    · have h := cf hc1368 h
      refine CJ.skip ?_
      refine CJ.seq ?_
      refine CJ.region ?_
      refine J.val (v := .int .i64 xa) rfl rfl (V.mv rfl) ?_
      refine J.val (v := .slice adxb_0 xb.length cpxb_0) rfl rfl (V.mv rfl) ?_
      obtain ⟨r1375, hr1376, h⟩ := ob h
      refine J.op rfl (A.call (L1 := []) Try.call7 rfl (law10_Of_ok fxb_0 hr1376) rfl rfl) ?_
      rintro _ K1382 _ ⟨v1381, _, rfl, ⟨p1377, i1378, v1379, rfl, rfl, f1380, rfl⟩, hK1383, rfl⟩
      refine J.val (v := .tuple #[v1379, .int .i64 i1378]) rfl rfl (V.mv rfl) ?_
      refine J.val (v := v1379) rfl rfl (V.ext rfl rfl) ?_
      refine J.val (v := .int .i64 i1378) rfl rfl (V.ext rfl rfl) ?_
      refine J.val (v := v1379) rfl rfl (V.as rfl) ?_
      refine J.val (v := .int .i64 i1378) rfl rfl (V.as rfl) ?_
      refine J.nil ?_
      refine CJ.seq ?_
      refine CJ.seq ?_
      refine CJ.region ?_
      refine J.val (v := .int .i64 i1378) rfl rfl (V.mv rfl) ?_
      refine J.val (v := .int .i64 xa) rfl rfl (V.mv rfl) ?_
      refine J.val (v := .slice adxb_0 xb.length cpxb_0) rfl rfl (V.mv rfl) ?_
      obtain ⟨r1384, hr1385, h⟩ := ob h
      refine J.op rfl (A.call (L1 := []) Try.call8 rfl (ref10_Check_ok (fxb_0.mono hK1383) hr1385) rfl rfl) ?_
      rintro _ _ _ ⟨v1387, _, rfl, ⟨⟨i1386, rfl, rfl, rfl⟩, rfl⟩, _, rfl⟩
      refine J.val (v := .bool (!decide (i1378 = i1386))) rfl rfl (V.neq rfl rfl) ?_
      refine J.val (v := .bool (!decide (i1378 = i1386))) rfl rfl (V.mv rfl) ?_
      refine J.cut 6 ?_
      refine @J.meet _ _ _ _ _ _ _ _ _ _ (fun ρ K' L' => Fits [(42, .bool ((!decide (i1378 = i1386)) || (!((!p1377.isNone) == (decide (i1378 = 0)))))), (0, .int .i64 xa), (1, .slice adxb_0 xb.length cpxb_0), (2, .int .i64 xc), (3, .int .i64 xd), (9, v1379), (10, .int .i64 i1378)] ρ ∧ K1382 = K' ∧ F = L') ?_ ?_
      · skip
        rcases bt (!decide (i1378 = i1386)) with hc1392 | hc1392
        · skip
          refine J.skip rfl rfl rfl rfl hc1392 ?_
          refine J.skip rfl rfl rfl rfl hc1392 ?_
          refine J.skip rfl rfl rfl rfl hc1392 ?_
          refine J.skip rfl rfl rfl rfl hc1392 ?_
          refine J.skip rfl rfl rfl rfl hc1392 ?_
          refine J.val (v := .bool true) rfl rfl (V.pickT rfl hc1392 rfl) ?_
          refine J.nil ?_
          exact ⟨rfl, ⟨(by simp only [hc1392]; rfl), rfl, rfl, rfl, rfl, rfl, rfl, trivial⟩, rfl, rfl⟩
        · skip
          refine J.run rfl rfl rfl hc1392 ?_
          refine J.val (v := v1379) rfl rfl (V.mv rfl) ?_
          refine J.run rfl rfl rfl hc1392 ?_
          refine J.val (v := .bool (!p1377.isNone)) rfl rfl (V.kp_neq Try.underlying24 f1380 rfl rfl) ?_
          refine J.run rfl rfl rfl hc1392 ?_
          refine J.val (v := .int .i64 i1378) rfl rfl (V.mv rfl) ?_
          refine J.run rfl rfl rfl hc1392 ?_
          refine J.val (v := .bool (decide (i1378 = 0))) rfl rfl (V.eql rfl rfl) ?_
          refine J.run rfl rfl rfl hc1392 ?_
          refine J.val (v := .bool (!((!p1377.isNone) == (decide (i1378 = 0))))) rfl rfl (V.neb Try.underlying4 rfl rfl) ?_
          refine J.val (v := .bool (!((!p1377.isNone) == (decide (i1378 = 0))))) rfl rfl (V.pickF rfl hc1392 rfl) ?_
          refine J.nil ?_
          exact ⟨rfl, ⟨(by simp only [hc1392]; rfl), rfl, rfl, rfl, rfl, rfl, rfl, trivial⟩, rfl, rfl⟩
      · rintro ρ _ _ ⟨hf, rfl, rfl⟩
        obtain ⟨ρ, rfl⟩ := hf.ex
        refine J.nil ?_
        refine CJ.cond rfl (fun hc1393 => ?_) (fun hc1393 => ?_)
        · have h := ct hc1393 h
          refine CJ.seq ?_
          refine CJ.region ?_
          refine J.val (v := .bool false) rfl rfl (V.as rfl) ?_
          refine J.nil ?_
          refine CJ.ret ?_
          have e := Option.some.inj h
          subst e
          exact ⟨_, [], Res.one rfl rfl, ⟨false, rfl, rfl, rfl⟩, hK1383, fun w hs => hs⟩
        · have h := cf hc1393 h
          refine CJ.skip ?_
          refine CJ.seq ?_
          refine CJ.seq ?_
          refine CJ.region ?_
          refine J.val (v := .int .i64 i1378) rfl rfl (V.mv rfl) ?_
          refine J.val (v := .bool (!decide (i1378 = 0))) rfl rfl (V.neq rfl rfl) ?_
          refine J.nil ?_
          refine CJ.cond rfl (fun hc1394 => ?_) (fun hc1394 => ?_)
          · have h := ct hc1394 h
            refine CJ.seq ?_
            refine CJ.region ?_
            refine J.val (v := v1379) rfl rfl (V.mv rfl) ?_
            obtain ⟨r1395, hr1396, h⟩ := ob h
            refine J.op rfl (A.call (L1 := []) Try.call9 rfl (graph_Graph_Nodes_ok f1380 hr1396) rfl rfl) ?_
            rintro _ _ _ ⟨v1398, _, rfl, ⟨⟨i1397, rfl, rfl, rfl⟩, rfl⟩, _, rfl⟩
            refine J.val (v := .bool (decide (i1397 = 0))) rfl rfl (V.eql rfl rfl) ?_
            refine J.val (v := .bool (decide (i1397 = 0))) rfl rfl (V.mv rfl) ?_
            refine J.cut 4 ?_
            obtain ⟨t1408, ht1409, h⟩ := ob h
            refine @J.meet _ _ _ _ _ _ _ _ _ _ (fun ρ K' L' => Fits [(52, .bool t1408), (2, .int .i64 xc), (9, v1379)] ρ ∧ K1382 = K' ∧ F = L') ?_ ?_
            · skip
              rcases bt (decide (i1397 = 0)) with hc1410 | hc1410
              · have ht1409 := ct hc1410 ht1409
                refine J.run rfl rfl rfl hc1410 ?_
                refine J.val (v := v1379) rfl rfl (V.mv rfl) ?_
                refine J.run rfl rfl rfl hc1410 ?_
                obtain ⟨r1411, hr1412, ht1409⟩ := ob ht1409
                refine J.op rfl (A.call (L1 := []) Try.call10 rfl (graph_Graph_Arcs_ok f1380 hr1412) rfl rfl) ?_
                rintro _ _ _ ⟨v1414, _, rfl, ⟨⟨i1413, rfl, rfl, rfl⟩, rfl⟩, _, rfl⟩
                refine J.run rfl rfl rfl hc1410 ?_
                refine J.val (v := .bool (decide (i1413 = 0))) rfl rfl (V.eql rfl rfl) ?_
                refine J.val (v := .bool (decide (i1413 = 0))) rfl rfl (V.pickT rfl hc1410 rfl) ?_
                refine J.nil ?_
                have e := Option.some.inj ht1409
                subst e
                exact ⟨rfl, ⟨rfl, rfl, rfl, trivial⟩, rfl, rfl⟩
              · have ht1409 := cf hc1410 ht1409
                refine J.skip rfl rfl rfl rfl hc1410 ?_
                refine J.skip rfl rfl rfl rfl hc1410 ?_
                refine J.skip rfl rfl rfl rfl hc1410 ?_
                refine J.val (v := .bool false) rfl rfl (V.pickF rfl hc1410 rfl) ?_
                refine J.nil ?_
                have e := Option.some.inj ht1409
                subst e
                exact ⟨rfl, ⟨rfl, rfl, rfl, trivial⟩, rfl, rfl⟩
            · rintro ρ _ _ ⟨hf, rfl, rfl⟩
              obtain ⟨ρ, rfl⟩ := hf.ex
              refine J.val (v := .bool t1408) rfl rfl (V.mv rfl) ?_
              refine J.cut 6 ?_
              obtain ⟨t1428, ht1429, h⟩ := ob h
              refine @J.meet _ _ _ _ _ _ _ _ _ _ (fun ρ K' L' => Fits [(59, .bool t1428), (2, .int .i64 xc), (9, v1379)] ρ ∧ K1382 = K' ∧ F = L') ?_ ?_
              · skip
                rcases bt (t1408) with hc1430 | hc1430
                · have ht1429 := ct hc1430 ht1429
                  refine J.run rfl rfl rfl hc1430 ?_
                  refine J.val (v := v1379) rfl rfl (V.mv rfl) ?_
                  refine J.run rfl rfl rfl hc1430 ?_
                  refine J.val (v := .int .i64 xc) rfl rfl (V.mv rfl) ?_
                  refine J.run rfl rfl rfl hc1430 ?_
                  obtain ⟨r1431, hr1432, ht1429⟩ := ob ht1429
                  refine J.op rfl (A.call (L1 := []) Try.call11 rfl (graph_Graph_Out_ok f1380 hr1432) rfl rfl) ?_
                  rintro _ _ _ ⟨v1437, _, rfl, ⟨⟨l1433, ad1434, cp1435, rfl, rfl, rfl⟩, rfl⟩, _, rfl⟩
                  refine J.wit Row.hn (fun hn1436 => ?_)
                  refine J.run rfl rfl rfl hc1430 ?_
                  refine J.val (v := .int .i64 (((l1433.length : Nat) : Int))) rfl rfl (V.len Try.underlying30 rfl) ?_
                  refine J.run rfl rfl rfl hc1430 ?_
                  refine J.val (v := .bool (decide ((((l1433.length : Nat) : Int)) = 0))) rfl rfl (V.eql rfl rfl) ?_
                  refine J.val (v := .bool (decide ((((l1433.length : Nat) : Int)) = 0))) rfl rfl (V.pickT rfl hc1430 rfl) ?_
                  refine J.dropAt 0 rfl ?_
                  refine J.nil ?_
                  have e := Option.some.inj ht1429
                  subst e
                  exact ⟨rfl, ⟨rfl, rfl, rfl, trivial⟩, rfl, rfl⟩
                · have ht1429 := cf hc1430 ht1429
                  refine J.skip rfl rfl rfl rfl hc1430 ?_
                  refine J.skip rfl rfl rfl rfl hc1430 ?_
                  refine J.skip rfl rfl rfl rfl hc1430 ?_
                  refine J.skip rfl rfl rfl rfl hc1430 ?_
                  refine J.skip rfl rfl rfl rfl hc1430 ?_
                  refine J.val (v := .bool false) rfl rfl (V.pickF rfl hc1430 rfl) ?_
                  refine J.nil ?_
                  have e := Option.some.inj ht1429
                  subst e
                  exact ⟨rfl, ⟨rfl, rfl, rfl, trivial⟩, rfl, rfl⟩
              · rintro ρ _ _ ⟨hf, rfl, rfl⟩
                obtain ⟨ρ, rfl⟩ := hf.ex
                refine J.val (v := .bool t1428) rfl rfl (V.mv rfl) ?_
                refine J.cut 6 ?_
                obtain ⟨t1452, ht1453, h⟩ := ob h
                refine @J.meet _ _ _ _ _ _ _ _ _ _ (fun ρ K' L' => Fits [(66, .bool t1452), (2, .int .i64 xc), (9, v1379)] ρ ∧ K1382 = K' ∧ F = L') ?_ ?_
                · skip
                  rcases bt (t1428) with hc1454 | hc1454
                  · have ht1453 := ct hc1454 ht1453
                    refine J.run rfl rfl rfl hc1454 ?_
                    refine J.val (v := v1379) rfl rfl (V.mv rfl) ?_
                    refine J.run rfl rfl rfl hc1454 ?_
                    refine J.val (v := .int .i64 xc) rfl rfl (V.mv rfl) ?_
                    refine J.run rfl rfl rfl hc1454 ?_
                    obtain ⟨r1455, hr1456, ht1453⟩ := ob ht1453
                    refine J.op rfl (A.call (L1 := []) Try.call12 rfl (graph_Graph_In_ok f1380 hr1456) rfl rfl) ?_
                    rintro _ _ _ ⟨v1461, _, rfl, ⟨⟨l1457, ad1458, cp1459, rfl, rfl, rfl⟩, rfl⟩, _, rfl⟩
                    refine J.wit Row.hn (fun hn1460 => ?_)
                    refine J.run rfl rfl rfl hc1454 ?_
                    refine J.val (v := .int .i64 (((l1457.length : Nat) : Int))) rfl rfl (V.len Try.underlying30 rfl) ?_
                    refine J.run rfl rfl rfl hc1454 ?_
                    refine J.val (v := .bool (decide ((((l1457.length : Nat) : Int)) = 0))) rfl rfl (V.eql rfl rfl) ?_
                    refine J.val (v := .bool (decide ((((l1457.length : Nat) : Int)) = 0))) rfl rfl (V.pickT rfl hc1454 rfl) ?_
                    refine J.dropAt 0 rfl ?_
                    refine J.nil ?_
                    have e := Option.some.inj ht1453
                    subst e
                    exact ⟨rfl, ⟨rfl, rfl, rfl, trivial⟩, rfl, rfl⟩
                  · have ht1453 := cf hc1454 ht1453
                    refine J.skip rfl rfl rfl rfl hc1454 ?_
                    refine J.skip rfl rfl rfl rfl hc1454 ?_
                    refine J.skip rfl rfl rfl rfl hc1454 ?_
                    refine J.skip rfl rfl rfl rfl hc1454 ?_
                    refine J.skip rfl rfl rfl rfl hc1454 ?_
                    refine J.val (v := .bool false) rfl rfl (V.pickF rfl hc1454 rfl) ?_
                    refine J.nil ?_
                    have e := Option.some.inj ht1453
                    subst e
                    exact ⟨rfl, ⟨rfl, rfl, rfl, trivial⟩, rfl, rfl⟩
                · rintro ρ _ _ ⟨hf, rfl, rfl⟩
                  obtain ⟨ρ, rfl⟩ := hf.ex
                  refine J.val (v := .bool t1452) rfl rfl (V.mv rfl) ?_
                  refine J.cut 6 ?_
                  obtain ⟨t1476, ht1477, h⟩ := ob h
                  refine @J.meet _ _ _ _ _ _ _ _ _ _ (fun ρ K' L' => Fits [(73, .bool t1476), (2, .int .i64 xc), (9, v1379)] ρ ∧ K1382 = K' ∧ F = L') ?_ ?_
                  · skip
                    rcases bt (t1452) with hc1478 | hc1478
                    · have ht1477 := ct hc1478 ht1477
                      refine J.run rfl rfl rfl hc1478 ?_
                      refine J.val (v := v1379) rfl rfl (V.mv rfl) ?_
                      refine J.run rfl rfl rfl hc1478 ?_
                      refine J.val (v := .int .i64 xc) rfl rfl (V.mv rfl) ?_
                      refine J.run rfl rfl rfl hc1478 ?_
                      obtain ⟨r1479, hr1480, ht1477⟩ := ob ht1477
                      refine J.op rfl (A.call (L1 := []) Try.call13 rfl (graph_Graph_Next_ok f1380 hr1480) rfl rfl) ?_
                      rintro _ _ _ ⟨v1485, _, rfl, ⟨⟨l1481, ad1482, cp1483, rfl, rfl, rfl⟩, rfl⟩, _, rfl⟩
                      refine J.wit Row.hn (fun hn1484 => ?_)
                      refine J.run rfl rfl rfl hc1478 ?_
                      refine J.val (v := .int .i64 (((l1481.length : Nat) : Int))) rfl rfl (V.len Try.underlying30 rfl) ?_
                      refine J.run rfl rfl rfl hc1478 ?_
                      refine J.val (v := .bool (decide ((((l1481.length : Nat) : Int)) = 0))) rfl rfl (V.eql rfl rfl) ?_
                      refine J.val (v := .bool (decide ((((l1481.length : Nat) : Int)) = 0))) rfl rfl (V.pickT rfl hc1478 rfl) ?_
                      refine J.dropAt 0 rfl ?_
                      refine J.nil ?_
                      have e := Option.some.inj ht1477
                      subst e
                      exact ⟨rfl, ⟨rfl, rfl, rfl, trivial⟩, rfl, rfl⟩
                    · have ht1477 := cf hc1478 ht1477
                      refine J.skip rfl rfl rfl rfl hc1478 ?_
                      refine J.skip rfl rfl rfl rfl hc1478 ?_
                      refine J.skip rfl rfl rfl rfl hc1478 ?_
                      refine J.skip rfl rfl rfl rfl hc1478 ?_
                      refine J.skip rfl rfl rfl rfl hc1478 ?_
                      refine J.val (v := .bool false) rfl rfl (V.pickF rfl hc1478 rfl) ?_
                      refine J.nil ?_
                      have e := Option.some.inj ht1477
                      subst e
                      exact ⟨rfl, ⟨rfl, rfl, rfl, trivial⟩, rfl, rfl⟩
                  · rintro ρ _ _ ⟨hf, rfl, rfl⟩
                    obtain ⟨ρ, rfl⟩ := hf.ex
                    refine J.val (v := .bool t1476) rfl rfl (V.mv rfl) ?_
                    refine J.cut 6 ?_
                    obtain ⟨t1500, ht1501, h⟩ := ob h
                    refine @J.meet _ _ _ _ _ _ _ _ _ _ (fun ρ K' L' => Fits [(80, .bool t1500), (9, v1379)] ρ ∧ K1382 = K' ∧ F = L') ?_ ?_
                    · skip
                      rcases bt (t1476) with hc1502 | hc1502
                      · have ht1501 := ct hc1502 ht1501
                        refine J.run rfl rfl rfl hc1502 ?_
                        refine J.val (v := v1379) rfl rfl (V.mv rfl) ?_
                        refine J.run rfl rfl rfl hc1502 ?_
                        refine J.val (v := .int .i64 xc) rfl rfl (V.mv rfl) ?_
                        refine J.run rfl rfl rfl hc1502 ?_
                        obtain ⟨r1503, hr1504, ht1501⟩ := ob ht1501
                        refine J.op rfl (A.call (L1 := []) Try.call14 rfl (graph_Graph_Reach_ok f1380 hr1504) rfl rfl) ?_
                        rintro _ _ _ ⟨v1509, _, rfl, ⟨⟨l1505, ad1506, cp1507, rfl, rfl, rfl⟩, rfl⟩, _, rfl⟩
                        refine J.wit Row.hn (fun hn1508 => ?_)
                        refine J.run rfl rfl rfl hc1502 ?_
                        refine J.val (v := .int .i64 (((l1505.length : Nat) : Int))) rfl rfl (V.len Try.underlying30 rfl) ?_
                        refine J.run rfl rfl rfl hc1502 ?_
                        refine J.val (v := .bool (decide ((((l1505.length : Nat) : Int)) = 0))) rfl rfl (V.eql rfl rfl) ?_
                        refine J.val (v := .bool (decide ((((l1505.length : Nat) : Int)) = 0))) rfl rfl (V.pickT rfl hc1502 rfl) ?_
                        refine J.dropAt 0 rfl ?_
                        refine J.nil ?_
                        have e := Option.some.inj ht1501
                        subst e
                        exact ⟨rfl, ⟨rfl, rfl, trivial⟩, rfl, rfl⟩
                      · have ht1501 := cf hc1502 ht1501
                        refine J.skip rfl rfl rfl rfl hc1502 ?_
                        refine J.skip rfl rfl rfl rfl hc1502 ?_
                        refine J.skip rfl rfl rfl rfl hc1502 ?_
                        refine J.skip rfl rfl rfl rfl hc1502 ?_
                        refine J.skip rfl rfl rfl rfl hc1502 ?_
                        refine J.val (v := .bool false) rfl rfl (V.pickF rfl hc1502 rfl) ?_
                        refine J.nil ?_
                        have e := Option.some.inj ht1501
                        subst e
                        exact ⟨rfl, ⟨rfl, rfl, trivial⟩, rfl, rfl⟩
                    · rintro ρ _ _ ⟨hf, rfl, rfl⟩
                      obtain ⟨ρ, rfl⟩ := hf.ex
                      refine J.val (v := .bool t1500) rfl rfl (V.mv rfl) ?_
                      rcases bt (t1500) with hc1522 | hc1522
                      · have h := ct hc1522 h
                        refine J.run rfl rfl rfl hc1522 ?_
                        refine J.val (v := v1379) rfl rfl (V.mv rfl) ?_
                        refine J.run rfl rfl rfl hc1522 ?_
                        obtain ⟨r1523, hr1524, h⟩ := ob h
                        refine J.op rfl (A.call (L1 := []) Try.call15 rfl (graph_Graph_Turn_ok f1380 hr1524) rfl rfl) ?_
                        rintro _ K1529 _ ⟨v1528, _, rfl, ⟨p1525, v1526, rfl, rfl, f1527, rfl⟩, hK1530, rfl⟩
                        refine J.run rfl rfl rfl hc1522 ?_
                        refine J.val (v := .bool p1525.isNone) rfl rfl (V.kp_eql Try.underlying24 f1527 rfl rfl) ?_
                        refine J.val (v := .bool p1525.isNone) rfl rfl (V.pickT rfl hc1522 rfl) ?_
                        refine J.val (v := .bool p1525.isNone) rfl rfl (V.mv rfl) ?_
                        refine J.cut 2 ?_
                        obtain ⟨t1538, ht1539, h⟩ := ob h
                        refine @J.meet _ _ _ _ _ _ _ _ _ _ (fun ρ K' L' => Fits [(88, .bool t1538)] ρ ∧ K1529 = K' ∧ F = L') ?_ ?_
                        · skip
                          rcases bt (p1525.isNone) with hc1540 | hc1540
                          · have ht1539 := ct hc1540 ht1539
                            refine J.run rfl rfl rfl hc1540 ?_
                            obtain ⟨r1541, hr1542, ht1539⟩ := ob ht1539
                            refine J.op rfl (A.call (L1 := []) Try.call6 rfl (law10_awake_ok hr1542) rfl rfl) ?_
                            rintro _ _ _ ⟨v1544, _, rfl, ⟨⟨t1543, rfl, rfl, rfl⟩, rfl⟩, _, rfl⟩
                            refine J.val (v := .bool t1543) rfl rfl (V.pickT rfl hc1540 rfl) ?_
                            refine J.nil ?_
                            have e := Option.some.inj ht1539
                            subst e
                            exact ⟨rfl, ⟨rfl, trivial⟩, rfl, rfl⟩
                          · have ht1539 := cf hc1540 ht1539
                            refine J.skip rfl rfl rfl rfl hc1540 ?_
                            refine J.val (v := .bool false) rfl rfl (V.pickF rfl hc1540 rfl) ?_
                            refine J.nil ?_
                            have e := Option.some.inj ht1539
                            subst e
                            exact ⟨rfl, ⟨rfl, trivial⟩, rfl, rfl⟩
                        · rintro ρ _ _ ⟨hf, rfl, rfl⟩
                          obtain ⟨ρ, rfl⟩ := hf.ex
                          refine J.val (v := .bool t1538) rfl rfl (V.as rfl) ?_
                          refine J.nil ?_
                          refine CJ.ret ?_
                          have e := Option.some.inj h
                          subst e
                          exact ⟨_, [], Res.one rfl rfl, ⟨t1538, rfl, rfl, rfl⟩, (hK1383.trans hK1530), fun w hs => hs⟩
                      · have h := cf hc1522 h
                        refine J.skip rfl rfl rfl rfl hc1522 ?_
                        refine J.skip rfl rfl rfl rfl hc1522 ?_
                        refine J.skip rfl rfl rfl rfl hc1522 ?_
                        refine J.val (v := .bool false) rfl rfl (V.pickF rfl hc1522 rfl) ?_
                        refine J.val (v := .bool false) rfl rfl (V.mv rfl) ?_
                        refine J.skip rfl rfl rfl rfl rfl ?_
                        refine J.val (v := .bool false) rfl rfl (V.pickF rfl rfl rfl) ?_
                        refine J.val (v := .bool false) rfl rfl (V.as rfl) ?_
                        refine J.nil ?_
                        refine CJ.ret ?_
                        have e := Option.some.inj h
                        subst e
                        exact ⟨_, [], Res.one rfl rfl, ⟨false, rfl, rfl, rfl⟩, hK1383, fun w hs => hs⟩
          · have h := cf hc1394 h
            refine CJ.skip ?_
            refine CJ.seq ?_
            refine CJ.region ?_
            refine J.val (v := v1379) rfl rfl (V.mv rfl) ?_
            refine J.val (v := .int .i64 xd) rfl rfl (V.mv rfl) ?_
            obtain ⟨r1547, hr1548, h⟩ := ob h
            refine J.op rfl (A.call (L1 := []) Try.call16 rfl (graph_Graph_Arc_ok f1380 hr1548) rfl rfl) ?_
            rintro _ _ _ ⟨v1552, _, rfl, ⟨⟨i1549, i1550, t1551, rfl, rfl, rfl⟩, rfl⟩, _, rfl⟩
            refine J.val (v := .tuple #[.agg #[.int .i64 i1549, .int .i64 i1550], .bool t1551]) rfl rfl (V.mv rfl) ?_
            refine J.val (v := .agg #[.int .i64 i1549, .int .i64 i1550]) rfl rfl (V.ext rfl rfl) ?_
            refine J.val (v := .bool t1551) rfl rfl (V.ext rfl rfl) ?_
            refine J.op rfl (A.alloc (cs := [.int .i64 0, .int .i64 0]) inf34 rfl) ?_
            rintro _ _ _ ⟨b1555, rfl, rfl, rfl⟩
            refine J.op rfl (A.store (v := .agg #[.int .i64 i1549, .int .i64 i1550]) (cs' := [.int .i64 i1549, .int .i64 i1550]) sz34 rfl rfl rfl rfl rfl rfl) ?_
            rintro _ _ _ ⟨rfl, rfl, rfl⟩
            refine J.val (v := .bool t1551) rfl rfl (V.as rfl) ?_
            refine J.nil ?_
            refine CJ.seq ?_
            refine CJ.seq ?_
            refine CJ.mix [Cl b1555 34 [.int .i64 i1549, .int .i64 i1550]] [] [0, 1, 2, 3, 4, 5, 6, 7, 8, 9, 10, 11, 12, 13, 14, 15, 16, 17, 18, 19, 20, 21, 22, 23, 24, 25, 26, 27, 28, 29, 30, 31, 32, 33, 34, 35, 36, 37, 38, 39, 40, 41, 42, 43, 44, 45, 46] [] mixO (by decide +kernel) ⟨0, rfl, trivial⟩ rfl rfl rfl ?_
            refine JM.nil ?_
            refine JQ.val (v := .bool t1551) rfl rfl (V.mv rfl) ?_
            refine JQ.val (v := .int .i64 xd) rfl rfl (V.mv rfl) ?_
            refine JQ.val (v := .bool (decide (0 ≤ xd))) rfl rfl (V.geq rfl rfl) ?_
            refine JQ.val (v := .bool (decide (0 ≤ xd))) rfl rfl (V.mv rfl) ?_
            rcases bt (decide (0 ≤ xd)) with hc1603 | hc1603
            · have h := ct hc1603 h
              refine JQ.run rfl rfl rfl hc1603 ?_
              refine JQ.val (v := .int .i64 xd) rfl rfl (V.mv rfl) ?_
              refine JQ.run rfl rfl rfl hc1603 ?_
              refine JQ.val (v := .slice adxb_0 xb.length cpxb_0) rfl rfl (V.mv rfl) ?_
              refine JQ.run rfl rfl rfl hc1603 ?_
              refine JQ.val (v := .int .i64 (((xb.length : Nat) : Int))) rfl rfl (V.len Try.underlying22 rfl) ?_
              refine JQ.run rfl rfl rfl hc1603 ?_
              refine JQ.val (v := .bool (decide (xd < (((xb.length : Nat) : Int))))) rfl rfl (V.lss rfl rfl) ?_
              refine JQ.val (v := .bool (decide (xd < (((xb.length : Nat) : Int))))) rfl rfl (V.pickT rfl hc1603 rfl) ?_
              refine JQ.val (v := .bool (!(t1551 == (decide (xd < (((xb.length : Nat) : Int))))))) rfl rfl (V.neb Try.underlying4 rfl rfl) ?_
              refine JQ.val (v := .bool (!(t1551 == (decide (xd < (((xb.length : Nat) : Int))))))) rfl rfl (V.mv rfl) ?_
              rcases bt (!(t1551 == (decide (xd < (((xb.length : Nat) : Int)))))) with hc1604 | hc1604
              · have h := ct hc1604 h
                refine JQ.skip rfl rfl rfl rfl hc1604 ?_
                refine JQ.skip rfl rfl rfl rfl hc1604 ?_
                refine JQ.skipu rfl rfl rfl rfl ?_
                refine JQ.skipu rfl rfl rfl rfl ?_
                refine JQ.skipu rfl rfl rfl rfl ?_
                refine JQ.skipu rfl rfl rfl rfl ?_
                refine JQ.skipu rfl rfl rfl rfl ?_
                refine JQ.skipu rfl rfl rfl rfl ?_
                refine JQ.skipu rfl rfl rfl rfl ?_
                refine JQ.skipu rfl rfl rfl rfl ?_
                refine JQ.skipu rfl rfl rfl rfl ?_
                refine JQ.skipu rfl rfl rfl rfl ?_
                refine JQ.skipu rfl rfl rfl rfl ?_
                refine JQ.skipu rfl rfl rfl rfl ?_
                refine JQ.skipu rfl rfl rfl rfl ?_
                refine JQ.skipu rfl rfl rfl rfl ?_
                refine JQ.skipu rfl rfl rfl rfl ?_
                refine JQ.skipu rfl rfl rfl rfl ?_
                refine JQ.skipu rfl rfl rfl rfl ?_
                refine JQ.skipu rfl rfl rfl rfl ?_
                refine JQ.skip rfl rfl rfl rfl hc1604 ?_
                refine JQ.val (v := .bool true) rfl rfl (V.pickT rfl hc1604 rfl) ?_
                refine JQ.val (v := .bool true) rfl rfl (V.mv rfl) ?_
                refine JQ.skip rfl rfl rfl rfl rfl ?_
                refine JQ.skip rfl rfl rfl rfl rfl ?_
                refine JQ.skip rfl rfl rfl rfl rfl ?_
                refine JQ.skipu rfl rfl rfl rfl ?_
                refine JQ.skipu rfl rfl rfl rfl ?_
                refine JQ.skipu rfl rfl rfl rfl ?_
                refine JQ.skipu rfl rfl rfl rfl ?_
                refine JQ.skipu rfl rfl rfl rfl ?_
                refine JQ.skipu rfl rfl rfl rfl ?_
                refine JQ.skipu rfl rfl rfl rfl ?_
                refine JQ.skipu rfl rfl rfl rfl ?_
                refine JQ.skip rfl rfl rfl rfl rfl ?_
                refine JQ.val (v := .bool true) rfl rfl (V.pickT rfl rfl rfl) ?_
                refine JQ.nil ?_
                refine J.nil ?_
                refine CJ.condK (b := true) rfl rfl ?_
                refine CJ.seq ?_
                refine CJ.region ?_
                refine J.val (v := .bool false) rfl rfl (V.as rfl) ?_
                refine J.nil ?_
                refine CJ.ret ?_
                have e := Option.some.inj h
                subst e
                exact ⟨_, [], Res.one rfl rfl, ⟨false, rfl, rfl, rfl⟩, hK1383, fun w hs => (Sep.dropAt 0 rfl hs)⟩
              · have h := cf hc1604 h
                refine JQ.run rfl rfl rfl hc1604 ?_
                refine JQ.val (v := .bool t1551) rfl rfl (V.mv rfl) ?_
                refine JQ.run rfl rfl rfl hc1604 ?_
                refine JQ.val (v := .bool t1551) rfl rfl (V.mv rfl) ?_
                rcases bt (t1551) with hc1605 | hc1605
                · have h := ct hc1605 h
                  refine JQ.run rfl rfl rfl hc1605 ?_
                  refine JQ.val rfl rfl (V.fad Try.underlying34 rfl nz3 rfl) ?_
                  refine JQ.run rfl rfl rfl hc1605 ?_
                  refine JQ.val (v := .int .i64 i1549) rfl rfl (V.ld rfl (Ld.sc sc3 (Rd.cl 0 rfl rfl))) ?_
                  refine JQ.run rfl rfl rfl hc1605 ?_
                  refine JQ.val (v := .slice adxb_0 xb.length cpxb_0) rfl rfl (V.mv rfl) ?_
                  refine JQ.run rfl rfl rfl hc1605 ?_
                  refine JQ.val (v := .int .i64 xd) rfl rfl (V.mv rfl) ?_
                  refine JQ.run rfl rfl rfl hc1605 ?_
                  obtain ⟨x1606, hx1607, h⟩ := ob h
                  obtain ⟨p1608, p1609, p1610⟩ := getI_some hx1607
                  obtain ⟨b1611, o1612, e1613, a1614⟩ := ((fxb_0.mono hK1383)).at p1609
                  refine JQ.val rfl rfl (V.iad Try.underlying22 sz37 rfl e1613 rfl p1608 p1610) ?_
                  refine JQ.run rfl rfl rfl hc1605 ?_
                  refine JQ.val rfl rfl (V.fad Try.underlying37 rfl nz3 rfl) ?_
                  refine JQ.run rfl rfl rfl hc1605 ?_
                  refine JQ.val (v := .int .i64 x1606.1) rfl rfl (V.ld rfl (Ld.sc sc3 (Rd.k ((a1614).fst).int (Hp.le_refl _)))) ?_
                  refine JQ.run rfl rfl rfl hc1605 ?_
                  refine JQ.val (v := .bool (!decide (i1549 = x1606.1))) rfl rfl (V.neq rfl rfl) ?_
                  refine JQ.run rfl rfl rfl hc1605 ?_
                  refine JQ.val (v := .bool (!decide (i1549 = x1606.1))) rfl rfl (V.mv rfl) ?_
                  rcases bt (!decide (i1549 = x1606.1)) with hc1615 | hc1615
                  · have h := ct hc1615 h
                    refine JQ.skip rfl rfl rfl rfl hc1615 ?_
                    refine JQ.skip rfl rfl rfl rfl hc1615 ?_
                    refine JQ.skip rfl rfl rfl rfl hc1615 ?_
                    refine JQ.skip rfl rfl rfl rfl hc1615 ?_
                    refine JQ.skip rfl rfl rfl rfl hc1615 ?_
                    refine JQ.skip rfl rfl rfl rfl hc1615 ?_
                    refine JQ.skip rfl rfl rfl rfl hc1615 ?_
                    refine JQ.skip rfl rfl rfl rfl hc1615 ?_
                    refine JQ.run rfl rfl rfl hc1605 ?_
                    refine JQ.val (v := .bool true) rfl rfl (V.pickT rfl hc1615 rfl) ?_
                    refine JQ.run rfl rfl rfl hc1604 ?_
                    refine JQ.val (v := .bool true) rfl rfl (V.pickT rfl hc1605 rfl) ?_
                    refine JQ.val (v := .bool true) rfl rfl (V.pickF rfl hc1604 rfl) ?_
                    refine JQ.val (v := .bool true) rfl rfl (V.mv rfl) ?_
                    refine JQ.skip rfl rfl rfl rfl rfl ?_
                    refine JQ.skip rfl rfl rfl rfl rfl ?_
                    refine JQ.skip rfl rfl rfl rfl rfl ?_
                    refine JQ.skipu rfl rfl rfl rfl ?_
                    refine JQ.skipu rfl rfl rfl rfl ?_
                    refine JQ.skipu rfl rfl rfl rfl ?_
                    refine JQ.skipu rfl rfl rfl rfl ?_
                    refine JQ.skipu rfl rfl rfl rfl ?_
                    refine JQ.skipu rfl rfl rfl rfl ?_
                    refine JQ.skipu rfl rfl rfl rfl ?_
                    refine JQ.skipu rfl rfl rfl rfl ?_
                    refine JQ.skip rfl rfl rfl rfl rfl ?_
                    refine JQ.val (v := .bool true) rfl rfl (V.pickT rfl rfl rfl) ?_
                    refine JQ.nil ?_
                    refine J.nil ?_
                    refine CJ.condK (b := true) rfl rfl ?_
                    refine CJ.seq ?_
                    refine CJ.region ?_
                    refine J.val (v := .bool false) rfl rfl (V.as rfl) ?_
                    refine J.nil ?_
                    refine CJ.ret ?_
                    have e := Option.some.inj h
                    subst e
                    exact ⟨_, [], Res.one rfl rfl, ⟨false, rfl, rfl, rfl⟩, hK1383, fun w hs => (Sep.dropAt 0 rfl hs)⟩
                  · have h := cf hc1615 h
                    refine JQ.run rfl rfl rfl hc1615 ?_
                    refine JQ.val rfl rfl (V.fad Try.underlying34 rfl nz3 rfl) ?_
                    refine JQ.run rfl rfl rfl hc1615 ?_
                    refine JQ.val (v := .int .i64 i1550) rfl rfl (V.ld rfl (Ld.sc sc3 (Rd.cl 0 rfl rfl))) ?_
                    refine JQ.run rfl rfl rfl hc1615 ?_
                    refine JQ.val (v := .slice adxb_0 xb.length cpxb_0) rfl rfl (V.mv rfl) ?_
                    refine JQ.run rfl rfl rfl hc1615 ?_
                    refine JQ.val (v := .int .i64 xd) rfl rfl (V.mv rfl) ?_
                    refine JQ.run rfl rfl rfl hc1615 ?_
                    obtain ⟨x1616, hx1617, h⟩ := ob h
                    obtain ⟨p1618, p1619, p1620⟩ := getI_some hx1617
                    obtain ⟨b1621, o1622, e1623, a1624⟩ := ((fxb_0.mono hK1383)).at p1619
                    refine JQ.val rfl rfl (V.iad Try.underlying22 sz37 rfl e1623 rfl p1618 p1620) ?_
                    refine JQ.run rfl rfl rfl hc1615 ?_
                    refine JQ.val rfl rfl (V.fad Try.underlying37 rfl nz3 rfl) ?_
                    refine JQ.run rfl rfl rfl hc1615 ?_
                    refine JQ.val (v := .int .i64 x1616.2) rfl rfl (V.ld rfl (Ld.sc sc3 (Rd.k (((a1624).snd).one).int (Hp.le_refl _)))) ?_
                    refine JQ.run rfl rfl rfl hc1615 ?_
                    refine JQ.val (v := .bool (!decide (i1550 = x1616.2))) rfl rfl (V.neq rfl rfl) ?_
                    refine JQ.run rfl rfl rfl hc1605 ?_
                    refine JQ.val (v := .bool (!decide (i1550 = x1616.2))) rfl rfl (V.pickF rfl hc1615 rfl) ?_
                    refine JQ.run rfl rfl rfl hc1604 ?_
                    refine JQ.val (v := .bool (!decide (i1550 = x1616.2))) rfl rfl (V.pickT rfl hc1605 rfl) ?_
                    refine JQ.val (v := .bool (!decide (i1550 = x1616.2))) rfl rfl (V.pickF rfl hc1604 rfl) ?_
                    refine JQ.val (v := .bool (!decide (i1550 = x1616.2))) rfl rfl (V.mv rfl) ?_
                    rcases bt (!decide (i1550 = x1616.2)) with hc1625 | hc1625
                    · have h := ct hc1625 h
                      refine JQ.skip rfl rfl rfl rfl hc1625 ?_
                      refine JQ.skip rfl rfl rfl rfl hc1625 ?_
                      refine JQ.skip rfl rfl rfl rfl hc1625 ?_
                      refine JQ.skipu rfl rfl rfl rfl ?_
                      refine JQ.skipu rfl rfl rfl rfl ?_
                      refine JQ.skipu rfl rfl rfl rfl ?_
                      refine JQ.skipu rfl rfl rfl rfl ?_
                      refine JQ.skipu rfl rfl rfl rfl ?_
                      refine JQ.skipu rfl rfl rfl rfl ?_
                      refine JQ.skipu rfl rfl rfl rfl ?_
                      refine JQ.skipu rfl rfl rfl rfl ?_
                      refine JQ.skip rfl rfl rfl rfl hc1625 ?_
                      refine JQ.val (v := .bool true) rfl rfl (V.pickT rfl hc1625 rfl) ?_
                      refine JQ.nil ?_
                      refine J.nil ?_
                      refine CJ.condK (b := true) rfl rfl ?_
                      refine CJ.seq ?_
                      refine CJ.region ?_
                      refine J.val (v := .bool false) rfl rfl (V.as rfl) ?_
                      refine J.nil ?_
                      refine CJ.ret ?_
                      have e := Option.some.inj h
                      subst e
                      exact ⟨_, [], Res.one rfl rfl, ⟨false, rfl, rfl, rfl⟩, hK1383, fun w hs => (Sep.dropAt 0 rfl hs)⟩
                    · have h := cf hc1625 h
                      refine JQ.run rfl rfl rfl hc1625 ?_
                      refine JQ.val (v := .bool t1551) rfl rfl (V.mv rfl) ?_
                      refine JQ.run rfl rfl rfl hc1625 ?_
                      refine JQ.val (v := .bool (!t1551)) rfl rfl (V.not rfl) ?_
                      refine JQ.run rfl rfl rfl hc1625 ?_
                      refine JQ.val (v := .bool (!t1551)) rfl rfl (V.mv rfl) ?_
                      refine JQ.skip rfl rfl rfl rfl (congrArg not hc1605) ?_
                      refine JQ.skip rfl rfl rfl rfl (congrArg not hc1605) ?_
                      refine JQ.skip rfl rfl rfl rfl (congrArg not hc1605) ?_
                      refine JQ.skip rfl rfl rfl rfl (congrArg not hc1605) ?_
                      refine JQ.skipu rfl rfl rfl rfl ?_
                      refine JQ.skipu rfl rfl rfl rfl ?_
                      refine JQ.skipu rfl rfl rfl rfl ?_
                      refine JQ.skip rfl rfl rfl rfl (congrArg not hc1605) ?_
                      refine JQ.run rfl rfl rfl hc1625 ?_
                      refine JQ.val (v := .bool false) rfl rfl (V.pickF rfl (congrArg not hc1605) rfl) ?_
                      refine JQ.val (v := .bool false) rfl rfl (V.pickF rfl hc1625 rfl) ?_
                      refine JQ.nil ?_
                      refine J.nil ?_
                      refine CJ.condK (b := false) rfl rfl ?_
                      refine CJ.skip ?_
                      refine CJ.seq ?_
                      refine CJ.region ?_
                      refine J.val (v := v1379) rfl rfl (V.mv rfl) ?_
                      obtain ⟨r1626, hr1627, h⟩ := ob h
                      refine J.op rfl (A.call (L1 := []) Try.call9 rfl (graph_Graph_Nodes_ok f1380 hr1627) rfl rfl) ?_
                      rintro _ _ _ ⟨v1629, _, rfl, ⟨⟨i1628, rfl, rfl, rfl⟩, rfl⟩, _, rfl⟩
                      refine J.val (v := .int .i64 xa) rfl rfl (V.mv rfl) ?_
                      refine J.val (v := .bool (decide (i1628 = xa))) rfl rfl (V.eql rfl rfl) ?_
                      refine J.val (v := .bool (decide (i1628 = xa))) rfl rfl (V.mv rfl) ?_
                      refine J.cut 6 ?_
                      obtain ⟨t1639, ht1640, h⟩ := ob h
                      refine @J.meet _ _ _ _ _ _ _ _ _ _ (fun ρ K' L' => Fits [(152, .bool t1639), (1, .slice adxb_0 xb.length cpxb_0), (2, .int .i64 xc), (9, v1379)] ρ ∧ K1382 = K' ∧ L' = Cl b1555 34 [.int .i64 i1549, .int .i64 i1550] :: F) ?_ ?_
                      · skip
                        rcases bt (decide (i1628 = xa)) with hc1641 | hc1641
                        · have ht1640 := ct hc1641 ht1640
                          refine J.run rfl rfl rfl hc1641 ?_
                          refine J.val (v := v1379) rfl rfl (V.mv rfl) ?_
                          refine J.run rfl rfl rfl hc1641 ?_
                          obtain ⟨r1642, hr1643, ht1640⟩ := ob ht1640
                          refine J.op rfl (A.call (L1 := []) Try.call10 rfl (graph_Graph_Arcs_ok f1380 hr1643) rfl rfl) ?_
                          rintro _ _ _ ⟨v1645, _, rfl, ⟨⟨i1644, rfl, rfl, rfl⟩, rfl⟩, _, rfl⟩
                          refine J.run rfl rfl rfl hc1641 ?_
                          refine J.val (v := .slice adxb_0 xb.length cpxb_0) rfl rfl (V.mv rfl) ?_
                          refine J.run rfl rfl rfl hc1641 ?_
                          refine J.val (v := .int .i64 (((xb.length : Nat) : Int))) rfl rfl (V.len Try.underlying22 rfl) ?_
                          refine J.run rfl rfl rfl hc1641 ?_
                          refine J.val (v := .bool (decide (i1644 = (((xb.length : Nat) : Int))))) rfl rfl (V.eql rfl rfl) ?_
                          refine J.val (v := .bool (decide (i1644 = (((xb.length : Nat) : Int))))) rfl rfl (V.pickT rfl hc1641 rfl) ?_
                          refine J.nil ?_
                          have e := Option.some.inj ht1640
                          subst e
                          exact ⟨rfl, ⟨rfl, rfl, rfl, rfl, trivial⟩, rfl, rfl⟩
                        · have ht1640 := cf hc1641 ht1640
                          refine J.skip rfl rfl rfl rfl hc1641 ?_
                          refine J.skip rfl rfl rfl rfl hc1641 ?_
                          refine J.skip rfl rfl rfl rfl hc1641 ?_
                          refine J.skip rfl rfl rfl rfl hc1641 ?_
                          refine J.skip rfl rfl rfl rfl hc1641 ?_
                          refine J.val (v := .bool false) rfl rfl (V.pickF rfl hc1641 rfl) ?_
                          refine J.nil ?_
                          have e := Option.some.inj ht1640
                          subst e
                          exact ⟨rfl, ⟨rfl, rfl, rfl, rfl, trivial⟩, rfl, rfl⟩
                      · rintro ρ _ _ ⟨hf, rfl, rfl⟩
                        obtain ⟨ρ, rfl⟩ := hf.ex
                        refine J.val (v := .bool t1639) rfl rfl (V.mv rfl) ?_
                        refine J.cut 8 ?_
                        obtain ⟨t1681, ht1682, h⟩ := ob h
                        refine @J.meet _ _ _ _ _ _ _ _ _ _ (fun ρ K' L' => Fits [(161, .bool t1681), (1, .slice adxb_0 xb.length cpxb_0), (2, .int .i64 xc), (9, v1379)] ρ ∧ K1382 = K' ∧ L' = Cl b1555 34 [.int .i64 i1549, .int .i64 i1550] :: F) ?_ ?_
                        · skip
                          rcases bt (t1639) with hc1683 | hc1683
                          · have ht1682 := ct hc1683 ht1682
                            refine J.run rfl rfl rfl hc1683 ?_
                            refine J.val (v := v1379) rfl rfl (V.mv rfl) ?_
                            refine J.run rfl rfl rfl hc1683 ?_
                            refine J.val (v := .int .i64 xc) rfl rfl (V.mv rfl) ?_
                            refine J.run rfl rfl rfl hc1683 ?_
                            obtain ⟨r1684, hr1685, ht1682⟩ := ob ht1682
                            refine J.op rfl (A.call (L1 := []) Try.call11 rfl (graph_Graph_Out_ok f1380 hr1685) rfl rfl) ?_
                            rintro _ _ _ ⟨v1690, _, rfl, ⟨⟨l1686, ad1687, cp1688, rfl, rfl, rfl⟩, rfl⟩, _, rfl⟩
                            refine J.wit Row.hn (fun hn1689 => ?_)
                            refine J.run rfl rfl rfl hc1683 ?_
                            refine J.val (v := .slice adxb_0 xb.length cpxb_0) rfl rfl (V.mv rfl) ?_
                            refine J.run rfl rfl rfl hc1683 ?_
                            refine J.val (v := .int .i64 xc) rfl rfl (V.mv rfl) ?_
                            refine J.run rfl rfl rfl hc1683 ?_
                            obtain ⟨r1694, hr1695, ht1682⟩ := ob ht1682
                            refine J.op rfl (A.call (L1 := []) Try.call18 rfl (ref10_Out_ok (fxb_0.mono hK1383) hr1695) rfl rfl) ?_
                            rintro _ _ _ ⟨v1700, _, rfl, ⟨⟨l1696, ad1697, cp1698, rfl, rfl, rfl⟩, rfl⟩, _, rfl⟩
                            refine J.wit Row.hn (fun hn1699 => ?_)
                            refine J.run rfl rfl rfl hc1683 ?_
                            obtain ⟨r1704, hr1705, ht1682⟩ := ob ht1682
                            refine J.front 1 rfl ?_
                            refine J.op rfl (A.call (L1 := [Row Hp.nil 3 (.int .i64) (.slice ad1687 l1686.length cp1688) l1686, Row Hp.nil 3 (.int .i64) (.slice ad1697 l1696.length cp1698) l1696]) Try.call17 rfl (Tr.lend (Hp.nil_le _) (by decide) (fun K1706 hK1707 f1708 => Tr.lend (Hp.nil_le _) (by decide) (fun K1709 hK1710 f1711 => ref01_Same_ok (f1708.mono hK1710) f1711 hr1705))) rfl rfl) ?_
                            rintro _ _ _ ⟨v1713, _, rfl, ⟨⟨_, ⟨_, ⟨t1712, rfl, rfl, rfl⟩, rfl⟩, rfl⟩, rfl⟩, _, rfl⟩
                            refine J.val (v := .bool t1712) rfl rfl (V.pickT rfl hc1683 rfl) ?_
                            refine J.dropAt 0 rfl ?_
                            refine J.dropAt 0 rfl ?_
                            refine J.nil ?_
                            have e := Option.some.inj ht1682
                            subst e
                            exact ⟨rfl, ⟨rfl, rfl, rfl, rfl, trivial⟩, rfl, rfl⟩
                          · have ht1682 := cf hc1683 ht1682
                            refine J.skip rfl rfl rfl rfl hc1683 ?_
                            refine J.skip rfl rfl rfl rfl hc1683 ?_
                            refine J.skip rfl rfl rfl rfl hc1683 ?_
                            refine J.skip rfl rfl rfl rfl hc1683 ?_
                            refine J.skip rfl rfl rfl rfl hc1683 ?_
                            refine J.skip rfl rfl rfl rfl hc1683 ?_
                            refine J.skip rfl rfl rfl rfl hc1683 ?_
                            refine J.val (v := .bool false) rfl rfl (V.pickF rfl hc1683 rfl) ?_
                            refine J.nil ?_
                            have e := Option.some.inj ht1682
                            subst e
                            exact ⟨rfl, ⟨rfl, rfl, rfl, rfl, trivial⟩, rfl, rfl⟩
                        · rintro ρ _ _ ⟨hf, rfl, rfl⟩
                          obtain ⟨ρ, rfl⟩ := hf.ex
                          refine J.val (v := .bool t1681) rfl rfl (V.mv rfl) ?_
                          rcases bt (t1681) with hc1762 | hc1762
                          · have h := ct hc1762 h
                            refine J.run rfl rfl rfl hc1762 ?_
                            refine J.val (v := v1379) rfl rfl (V.mv rfl) ?_
                            refine J.run rfl rfl rfl hc1762 ?_
                            refine J.val (v := .int .i64 xc) rfl rfl (V.mv rfl) ?_
                            refine J.run rfl rfl rfl hc1762 ?_
                            obtain ⟨r1763, hr1764, h⟩ := ob h
                            refine J.op rfl (A.call (L1 := []) Try.call12 rfl (graph_Graph_In_ok f1380 hr1764) rfl rfl) ?_
                            rintro _ _ _ ⟨v1769, _, rfl, ⟨⟨l1765, ad1766, cp1767, rfl, rfl, rfl⟩, rfl⟩, _, rfl⟩
                            refine J.wit Row.hn (fun hn1768 => ?_)
                            refine J.run rfl rfl rfl hc1762 ?_
                            refine J.val (v := .slice adxb_0 xb.length cpxb_0) rfl rfl (V.mv rfl) ?_
                            refine J.run rfl rfl rfl hc1762 ?_
                            obtain ⟨r1773, hr1774, h⟩ := ob h
                            refine J.op rfl (A.call (L1 := []) Try.call19 rfl (ref10_Turn_ok (fxb_0.mono hK1383) hr1774) rfl rfl) ?_
                            rintro _ _ _ ⟨v1779, _, rfl, ⟨⟨l1775, ad1776, cp1777, rfl, rfl, rfl⟩, rfl⟩, _, rfl⟩
                            refine J.wit Row.hn (fun hn1778 => ?_)
                            refine J.run rfl rfl rfl hc1762 ?_
                            refine J.val (v := .int .i64 xc) rfl rfl (V.mv rfl) ?_
                            refine J.run rfl rfl rfl hc1762 ?_
                            refine J.persist (Hp.nil_le _) (by decide) (fun K1783 hK1784 f1785 => ?_)
                            obtain ⟨r1786, hr1787, h⟩ := ob h
                            refine J.op rfl (A.call (L1 := []) Try.call18 rfl (ref10_Out_ok f1785 hr1787) rfl rfl) ?_
                            rintro _ _ _ ⟨v1792, _, rfl, ⟨⟨l1788, ad1789, cp1790, rfl, rfl, rfl⟩, rfl⟩, _, rfl⟩
                            refine J.wit Row.hn (fun hn1791 => ?_)
                            refine J.run rfl rfl rfl hc1762 ?_
                            obtain ⟨r1796, hr1797, h⟩ := ob h
                            refine J.front 1 rfl ?_
                            refine J.op rfl (A.call (L1 := [Row Hp.nil 3 (.int .i64) (.slice ad1766 l1765.length cp1767) l1765, Row Hp.nil 3 (.int .i64) (.slice ad1789 l1788.length cp1790) l1788]) Try.call17 rfl (Tr.lend (Hp.nil_le _) (by decide) (fun K1798 hK1799 f1800 => Tr.lend (Hp.nil_le _) (by decide) (fun K1801 hK1802 f1803 => ref01_Same_ok (f1800.mono hK1802) f1803 hr1797))) rfl rfl) ?_
                            rintro _ _ _ ⟨v1805, _, rfl, ⟨⟨_, ⟨_, ⟨t1804, rfl, rfl, rfl⟩, rfl⟩, rfl⟩, rfl⟩, _, rfl⟩
                            refine J.val (v := .bool t1804) rfl rfl (V.pickT rfl hc1762 rfl) ?_
                            refine J.val (v := .bool t1804) rfl rfl (V.mv rfl) ?_
                            refine J.cut 8 ?_
                            obtain ⟨t1841, ht1842, h⟩ := ob h
                            refine @J.meet _ _ _ _ _ _ _ _ _ _ (fun ρ K' L' => Fits [(180, .bool t1841)] ρ ∧ K1783 = K' ∧ L' = Row Hp.nil 3 (.int .i64) (.slice ad1766 l1765.length cp1767) l1765 :: Row Hp.nil 3 (.int .i64) (.slice ad1789 l1788.length cp1790) l1788 :: Cl b1555 34 [.int .i64 i1549, .int .i64 i1550] :: F) ?_ ?_
                            · skip
                              rcases bt (t1804) with hc1843 | hc1843
                              · have ht1842 := ct hc1843 ht1842
                                refine J.run rfl rfl rfl hc1843 ?_
                                refine J.val (v := v1379) rfl rfl (V.mv rfl) ?_
                                refine J.run rfl rfl rfl hc1843 ?_
                                refine J.val (v := .int .i64 xc) rfl rfl (V.mv rfl) ?_
                                refine J.run rfl rfl rfl hc1843 ?_
                                obtain ⟨r1844, hr1845, ht1842⟩ := ob ht1842
                                refine J.op rfl (A.call (L1 := []) Try.call13 rfl (graph_Graph_Next_ok (f1380.mono hK1784) hr1845) rfl rfl) ?_
                                rintro _ _ _ ⟨v1850, _, rfl, ⟨⟨l1846, ad1847, cp1848, rfl, rfl, rfl⟩, rfl⟩, _, rfl⟩
                                refine J.wit Row.hn (fun hn1849 => ?_)
                                refine J.run rfl rfl rfl hc1843 ?_
                                refine J.val (v := .slice adxb_0 xb.length cpxb_0) rfl rfl (V.mv rfl) ?_
                                refine J.run rfl rfl rfl hc1843 ?_
                                refine J.val (v := .int .i64 xc) rfl rfl (V.mv rfl) ?_
                                refine J.run rfl rfl rfl hc1843 ?_
                                obtain ⟨r1854, hr1855, ht1842⟩ := ob ht1842
                                refine J.op rfl (A.call (L1 := []) Try.call20 rfl (ref10_Next_ok (fxb_0.mono (hK1383.trans hK1784)) hr1855) rfl rfl) ?_
                                rintro _ _ _ ⟨v1860, _, rfl, ⟨⟨l1856, ad1857, cp1858, rfl, rfl, rfl⟩, rfl⟩, _, rfl⟩
                                refine J.wit Row.hn (fun hn1859 => ?_)
                                refine J.run rfl rfl rfl hc1843 ?_
                                obtain ⟨r1864, hr1865, ht1842⟩ := ob ht1842
                                refine J.front 1 rfl ?_
                                refine J.op rfl (A.call (L1 := [Row Hp.nil 3 (.int .i64) (.slice ad1847 l1846.length cp1848) l1846, Row Hp.nil 3 (.int .i64) (.slice ad1857 l1856.length cp1858) l1856]) Try.call17 rfl (Tr.lend (Hp.nil_le _) (by decide) (fun K1866 hK1867 f1868 => Tr.lend (Hp.nil_le _) (by decide) (fun K1869 hK1870 f1871 => ref01_Same_ok (f1868.mono hK1870) f1871 hr1865))) rfl rfl) ?_
                                rintro _ _ _ ⟨v1873, _, rfl, ⟨⟨_, ⟨_, ⟨t1872, rfl, rfl, rfl⟩, rfl⟩, rfl⟩, rfl⟩, _, rfl⟩
                                refine J.val (v := .bool t1872) rfl rfl (V.pickT rfl hc1843 rfl) ?_
                                refine J.dropAt 0 rfl ?_
                                refine J.dropAt 0 rfl ?_
                                refine J.nil ?_
                                have e := Option.some.inj ht1842
                                subst e
                                exact ⟨rfl, ⟨rfl, trivial⟩, rfl, rfl⟩
                              · have ht1842 := cf hc1843 ht1842
                                refine J.skip rfl rfl rfl rfl hc1843 ?_
                                refine J.skip rfl rfl rfl rfl hc1843 ?_
                                refine J.skip rfl rfl rfl rfl hc1843 ?_
                                refine J.skip rfl rfl rfl rfl hc1843 ?_
                                refine J.skip rfl rfl rfl rfl hc1843 ?_
                                refine J.skip rfl rfl rfl rfl hc1843 ?_
                                refine J.skip rfl rfl rfl rfl hc1843 ?_
                                refine J.val (v := .bool false) rfl rfl (V.pickF rfl hc1843 rfl) ?_
                                refine J.nil ?_
                                have e := Option.some.inj ht1842
                                subst e
                                exact ⟨rfl, ⟨rfl, trivial⟩, rfl, rfl⟩
                            · rintro ρ _ _ ⟨hf, rfl, rfl⟩
                              obtain ⟨ρ, rfl⟩ := hf.ex
                              refine J.val (v := .bool t1841) rfl rfl (V.mv rfl) ?_
                              refine J.cut 2 ?_
                              obtain ⟨t1883, ht1884, h⟩ := ob h
                              refine @J.meet _ _ _ _ _ _ _ _ _ _ (fun ρ K' L' => Fits [(183, .bool t1883)] ρ ∧ K1783 = K' ∧ L' = Row Hp.nil 3 (.int .i64) (.slice ad1766 l1765.length cp1767) l1765 :: Row Hp.nil 3 (.int .i64) (.slice ad1789 l1788.length cp1790) l1788 :: Cl b1555 34 [.int .i64 i1549, .int .i64 i1550] :: F) ?_ ?_
                              · skip
                                rcases bt (t1841) with hc1885 | hc1885
                                · have ht1884 := ct hc1885 ht1884
                                  refine J.run rfl rfl rfl hc1885 ?_
                                  obtain ⟨r1886, hr1887, ht1884⟩ := ob ht1884
                                  refine J.op rfl (A.call (L1 := []) Try.call6 rfl (law10_awake_ok hr1887) rfl rfl) ?_
                                  rintro _ _ _ ⟨v1889, _, rfl, ⟨⟨t1888, rfl, rfl, rfl⟩, rfl⟩, _, rfl⟩
                                  refine J.val (v := .bool t1888) rfl rfl (V.pickT rfl hc1885 rfl) ?_
                                  refine J.nil ?_
                                  have e := Option.some.inj ht1884
                                  subst e
                                  exact ⟨rfl, ⟨rfl, trivial⟩, rfl, rfl⟩
                                · have ht1884 := cf hc1885 ht1884
                                  refine J.skip rfl rfl rfl rfl hc1885 ?_
                                  refine J.val (v := .bool false) rfl rfl (V.pickF rfl hc1885 rfl) ?_
                                  refine J.nil ?_
                                  have e := Option.some.inj ht1884
                                  subst e
                                  exact ⟨rfl, ⟨rfl, trivial⟩, rfl, rfl⟩
                              · rintro ρ _ _ ⟨hf, rfl, rfl⟩
                                obtain ⟨ρ, rfl⟩ := hf.ex
                                refine J.val (v := .bool t1883) rfl rfl (V.as rfl) ?_
                                refine J.nil ?_
                                refine CJ.ret ?_
                                have e := Option.some.inj h
                                subst e
                                exact ⟨_, [], Res.one rfl rfl, ⟨t1883, rfl, rfl, rfl⟩, (hK1383.trans hK1784), fun w hs => (Sep.dropAt 0 rfl (Sep.dropAt 0 rfl (Sep.dropAt 0 rfl hs)))⟩
                          · have h := cf hc1762 h
                            refine J.skip rfl rfl rfl rfl hc1762 ?_
                            refine J.skip rfl rfl rfl rfl hc1762 ?_
                            refine J.skip rfl rfl rfl rfl hc1762 ?_
                            refine J.skip rfl rfl rfl rfl hc1762 ?_
                            refine J.skip rfl rfl rfl rfl hc1762 ?_
                            refine J.skip rfl rfl rfl rfl hc1762 ?_
                            refine J.skip rfl rfl rfl rfl hc1762 ?_
                            refine J.skip rfl rfl rfl rfl hc1762 ?_
                            refine J.val (v := .bool false) rfl rfl (V.pickF rfl hc1762 rfl) ?_
                            refine J.val (v := .bool false) rfl rfl (V.mv rfl) ?_
                            refine J.skip rfl rfl rfl rfl rfl ?_
                            refine J.skip rfl rfl rfl rfl rfl ?_
                            refine J.skip rfl rfl rfl rfl rfl ?_
                            refine J.skip rfl rfl rfl rfl rfl ?_
                            refine J.skip rfl rfl rfl rfl rfl ?_
                            refine J.skip rfl rfl rfl rfl rfl ?_
                            refine J.skip rfl rfl rfl rfl rfl ?_
                            refine J.val (v := .bool false) rfl rfl (V.pickF rfl rfl rfl) ?_
                            refine J.val (v := .bool false) rfl rfl (V.mv rfl) ?_
                            refine J.skip rfl rfl rfl rfl rfl ?_
                            refine J.val (v := .bool false) rfl rfl (V.pickF rfl rfl rfl) ?_
                            refine J.val (v := .bool false) rfl rfl (V.as rfl) ?_
                            refine J.nil ?_
                            refine CJ.ret ?_
                            have e := Option.some.inj h
                            subst e
                            exact ⟨_, [], Res.one rfl rfl, ⟨false, rfl, rfl, rfl⟩, hK1383, fun w hs => (Sep.dropAt 0 rfl hs)⟩
                · have h := cf hc1605 h
                  refine JQ.skip rfl rfl rfl rfl hc1605 ?_
                  refine JQ.skip rfl rfl rfl rfl hc1605 ?_
                  refine JQ.skip rfl rfl rfl rfl hc1605 ?_
                  refine JQ.skip rfl rfl rfl rfl hc1605 ?_
                  refine JQ.skip rfl rfl rfl rfl hc1605 ?_
                  refine JQ.skip rfl rfl rfl rfl hc1605 ?_
                  refine JQ.skip rfl rfl rfl rfl hc1605 ?_
                  refine JQ.skip rfl rfl rfl rfl hc1605 ?_
                  refine JQ.skip rfl rfl rfl rfl hc1605 ?_
                  refine JQ.skipu rfl rfl rfl rfl ?_
                  refine JQ.skipu rfl rfl rfl rfl ?_
                  refine JQ.skipu rfl rfl rfl rfl ?_
                  refine JQ.skipu rfl rfl rfl rfl ?_
                  refine JQ.skipu rfl rfl rfl rfl ?_
                  refine JQ.skipu rfl rfl rfl rfl ?_
                  refine JQ.skipu rfl rfl rfl rfl ?_
                  refine JQ.skipu rfl rfl rfl rfl ?_
                  refine JQ.skip rfl rfl rfl rfl hc1605 ?_
                  refine JQ.run rfl rfl rfl hc1604 ?_
                  refine JQ.val (v := .bool false) rfl rfl (V.pickF rfl hc1605 rfl) ?_
                  refine JQ.val (v := .bool false) rfl rfl (V.pickF rfl hc1604 rfl) ?_
                  refine JQ.val (v := .bool false) rfl rfl (V.mv rfl) ?_
                  refine JQ.run rfl rfl rfl rfl ?_
                  refine JQ.val (v := .bool t1551) rfl rfl (V.mv rfl) ?_
                  refine JQ.run rfl rfl rfl rfl ?_
                  refine JQ.val (v := .bool (!t1551)) rfl rfl (V.not rfl) ?_
                  refine JQ.run rfl rfl rfl rfl ?_
                  refine JQ.val (v := .bool (!t1551)) rfl rfl (V.mv rfl) ?_
                  refine JQ.run rfl rfl rfl (congrArg not hc1605) ?_
                  refine JQ.val rfl rfl (V.fad Try.underlying34 rfl nz3 rfl) ?_
                  refine JQ.run rfl rfl rfl (congrArg not hc1605) ?_
                  refine JQ.val (v := .int .i64 i1549) rfl rfl (V.ld rfl (Ld.sc sc3 (Rd.cl 0 rfl rfl))) ?_
                  refine JQ.run rfl rfl rfl (congrArg not hc1605) ?_
                  refine JQ.val (v := .bool (!decide (i1549 = 0))) rfl rfl (V.neq rfl rfl) ?_
                  refine JQ.run rfl rfl rfl (congrArg not hc1605) ?_
                  refine JQ.val (v := .bool (!decide (i1549 = 0))) rfl rfl (V.mv rfl) ?_
                  rcases bt (!decide (i1549 = 0)) with hc1892 | hc1892
                  · have h := ct hc1892 h
                    refine JQ.skip rfl rfl rfl rfl hc1892 ?_
                    refine JQ.skip rfl rfl rfl rfl hc1892 ?_
                    refine JQ.skip rfl rfl rfl rfl hc1892 ?_
                    refine JQ.run rfl rfl rfl (congrArg not hc1605) ?_
                    refine JQ.val (v := .bool true) rfl rfl (V.pickT rfl hc1892 rfl) ?_
                    refine JQ.run rfl rfl rfl rfl ?_
                    refine JQ.val (v := .bool true) rfl rfl (V.pickT rfl (congrArg not hc1605) rfl) ?_
                    refine JQ.val (v := .bool true) rfl rfl (V.pickF rfl rfl rfl) ?_
                    refine JQ.nil ?_
                    refine J.nil ?_
                    refine CJ.condK (b := true) rfl rfl ?_
                    refine CJ.seq ?_
                    refine CJ.region ?_
                    refine J.val (v := .bool false) rfl rfl (V.as rfl) ?_
                    refine J.nil ?_
                    refine CJ.ret ?_
                    have e := Option.some.inj h
                    subst e
                    exact ⟨_, [], Res.one rfl rfl, ⟨false, rfl, rfl, rfl⟩, hK1383, fun w hs => (Sep.dropAt 0 rfl hs)⟩
                  · have h := cf hc1892 h
                    refine JQ.run rfl rfl rfl hc1892 ?_
                    refine JQ.val rfl rfl (V.fad Try.underlying34 rfl nz3 rfl) ?_
                    refine JQ.run rfl rfl rfl hc1892 ?_
                    refine JQ.val (v := .int .i64 i1550) rfl rfl (V.ld rfl (Ld.sc sc3 (Rd.cl 0 rfl rfl))) ?_
                    refine JQ.run rfl rfl rfl hc1892 ?_
                    refine JQ.val (v := .bool (!decide (i1550 = 0))) rfl rfl (V.neq rfl rfl) ?_
                    refine JQ.run rfl rfl rfl (congrArg not hc1605) ?_
                    refine JQ.val (v := .bool (!decide (i1550 = 0))) rfl rfl (V.pickF rfl hc1892 rfl) ?_
                    refine JQ.run rfl rfl rfl rfl ?_
                    refine JQ.val (v := .bool (!decide (i1550 = 0))) rfl rfl (V.pickT rfl (congrArg not hc1605) rfl) ?_
                    refine JQ.val (v := .bool (!decide (i1550 = 0))) rfl rfl (V.pickF rfl rfl rfl) ?_
                    refine JQ.nil ?_
                    refine J.nil ?_
                    refine CJ.cond rfl (fun hc1893 => ?_) (fun hc1893 => ?_)
                    · have h := ct hc1893 h
                      refine CJ.seq ?_
                      refine CJ.region ?_
                      refine J.val (v := .bool false) rfl rfl (V.as rfl) ?_
                      refine J.nil ?_
                      refine CJ.ret ?_
                      have e := Option.some.inj h
                      subst e
                      exact ⟨_, [], Res.one rfl rfl, ⟨false, rfl, rfl, rfl⟩, hK1383, fun w hs => (Sep.dropAt 0 rfl hs)⟩
                    · have h := cf hc1893 h
                      refine CJ.skip ?_
                      refine CJ.seq ?_
                      refine CJ.region ?_
                      refine J.val (v := v1379) rfl rfl (V.mv rfl) ?_
                      obtain ⟨r1894, hr1895, h⟩ := ob h
                      refine J.op rfl (A.call (L1 := []) Try.call9 rfl (graph_Graph_Nodes_ok f1380 hr1895) rfl rfl) ?_
                      rintro _ _ _ ⟨v1897, _, rfl, ⟨⟨i1896, rfl, rfl, rfl⟩, rfl⟩, _, rfl⟩
                      refine J.val (v := .int .i64 xa) rfl rfl (V.mv rfl) ?_
                      refine J.val (v := .bool (decide (i1896 = xa))) rfl rfl (V.eql rfl rfl) ?_
                      refine J.val (v := .bool (decide (i1896 = xa))) rfl rfl (V.mv rfl) ?_
                      refine J.cut 6 ?_
                      obtain ⟨t1907, ht1908, h⟩ := ob h
                      refine @J.meet _ _ _ _ _ _ _ _ _ _ (fun ρ K' L' => Fits [(152, .bool t1907), (1, .slice adxb_0 xb.length cpxb_0), (2, .int .i64 xc), (9, v1379)] ρ ∧ K1382 = K' ∧ L' = Cl b1555 34 [.int .i64 i1549, .int .i64 i1550] :: F) ?_ ?_
                      · skip
                        rcases bt (decide (i1896 = xa)) with hc1909 | hc1909
                        · have ht1908 := ct hc1909 ht1908
                          refine J.run rfl rfl rfl hc1909 ?_
                          refine J.val (v := v1379) rfl rfl (V.mv rfl) ?_
                          refine J.run rfl rfl rfl hc1909 ?_
                          obtain ⟨r1910, hr1911, ht1908⟩ := ob ht1908
                          refine J.op rfl (A.call (L1 := []) Try.call10 rfl (graph_Graph_Arcs_ok f1380 hr1911) rfl rfl) ?_
                          rintro _ _ _ ⟨v1913, _, rfl, ⟨⟨i1912, rfl, rfl, rfl⟩, rfl⟩, _, rfl⟩
                          refine J.run rfl rfl rfl hc1909 ?_
                          refine J.val (v := .slice adxb_0 xb.length cpxb_0) rfl rfl (V.mv rfl) ?_
                          refine J.run rfl rfl rfl hc1909 ?_
                          refine J.val (v := .int .i64 (((xb.length : Nat) : Int))) rfl rfl (V.len Try.underlying22 rfl) ?_
                          refine J.run rfl rfl rfl hc1909 ?_
                          refine J.val (v := .bool (decide (i1912 = (((xb.length : Nat) : Int))))) rfl rfl (V.eql rfl rfl) ?_
                          refine J.val (v := .bool (decide (i1912 = (((xb.length : Nat) : Int))))) rfl rfl (V.pickT rfl hc1909 rfl) ?_
                          refine J.nil ?_
                          have e := Option.some.inj ht1908
                          subst e
                          exact ⟨rfl, ⟨rfl, rfl, rfl, rfl, trivial⟩, rfl, rfl⟩
                        · have ht1908 := cf hc1909 ht1908
                          refine J.skip rfl rfl rfl rfl hc1909 ?_
                          refine J.skip rfl rfl rfl rfl hc1909 ?_
                          refine J.skip rfl rfl rfl rfl hc1909 ?_
                          refine J.skip rfl rfl rfl rfl hc1909 ?_
                          refine J.skip rfl rfl rfl rfl hc1909 ?_
                          refine J.val (v := .bool false) rfl rfl (V.pickF rfl hc1909 rfl) ?_
                          refine J.nil ?_
                          have e := Option.some.inj ht1908
                          subst e
                          exact ⟨rfl, ⟨rfl, rfl, rfl, rfl, trivial⟩, rfl, rfl⟩
                      · rintro ρ _ _ ⟨hf, rfl, rfl⟩
                        obtain ⟨ρ, rfl⟩ := hf.ex
                        refine J.val (v := .bool t1907) rfl rfl (V.mv rfl) ?_
                        refine J.cut 8 ?_
                        obtain ⟨t1949, ht1950, h⟩ := ob h
                        refine @J.meet _ _ _ _ _ _ _ _ _ _ (fun ρ K' L' => Fits [(161, .bool t1949), (1, .slice adxb_0 xb.length cpxb_0), (2, .int .i64 xc), (9, v1379)] ρ ∧ K1382 = K' ∧ L' = Cl b1555 34 [.int .i64 i1549, .int .i64 i1550] :: F) ?_ ?_
                        · skip
                          rcases bt (t1907) with hc1951 | hc1951
                          · have ht1950 := ct hc1951 ht1950
                            refine J.run rfl rfl rfl hc1951 ?_
                            refine J.val (v := v1379) rfl rfl (V.mv rfl) ?_
                            refine J.run rfl rfl rfl hc1951 ?_
                            refine J.val (v := .int .i64 xc) rfl rfl (V.mv rfl) ?_
                            refine J.run rfl rfl rfl hc1951 ?_
                            obtain ⟨r1952, hr1953, ht1950⟩ := ob ht1950
                            refine J.op rfl (A.call (L1 := []) Try.call11 rfl (graph_Graph_Out_ok f1380 hr1953) rfl rfl) ?_
                            rintro _ _ _ ⟨v1958, _, rfl, ⟨⟨l1954, ad1955, cp1956, rfl, rfl, rfl⟩, rfl⟩, _, rfl⟩
                            refine J.wit Row.hn (fun hn1957 => ?_)
                            refine J.run rfl rfl rfl hc1951 ?_
                            refine J.val (v := .slice adxb_0 xb.length cpxb_0) rfl rfl (V.mv rfl) ?_
                            refine J.run rfl rfl rfl hc1951 ?_
                            refine J.val (v := .int .i64 xc) rfl rfl (V.mv rfl) ?_
                            refine J.run rfl rfl rfl hc1951 ?_
                            obtain ⟨r1962, hr1963, ht1950⟩ := ob ht1950
                            refine J.op rfl (A.call (L1 := []) Try.call18 rfl (ref10_Out_ok (fxb_0.mono hK1383) hr1963) rfl rfl) ?_
                            rintro _ _ _ ⟨v1968, _, rfl, ⟨⟨l1964, ad1965, cp1966, rfl, rfl, rfl⟩, rfl⟩, _, rfl⟩
                            refine J.wit Row.hn (fun hn1967 => ?_)
                            refine J.run rfl rfl rfl hc1951 ?_
                            obtain ⟨r1972, hr1973, ht1950⟩ := ob ht1950
                            refine J.front 1 rfl ?_
                            refine J.op rfl (A.call (L1 := [Row Hp.nil 3 (.int .i64) (.slice ad1955 l1954.length cp1956) l1954, Row Hp.nil 3 (.int .i64) (.slice ad1965 l1964.length cp1966) l1964]) Try.call17 rfl (Tr.lend (Hp.nil_le _) (by decide) (fun K1974 hK1975 f1976 => Tr.lend (Hp.nil_le _) (by decide) (fun K1977 hK1978 f1979 => ref01_Same_ok (f1976.mono hK1978) f1979 hr1973))) rfl rfl) ?_
                            rintro _ _ _ ⟨v1981, _, rfl, ⟨⟨_, ⟨_, ⟨t1980, rfl, rfl, rfl⟩, rfl⟩, rfl⟩, rfl⟩, _, rfl⟩
                            refine J.val (v := .bool t1980) rfl rfl (V.pickT rfl hc1951 rfl) ?_
                            refine J.dropAt 0 rfl ?_
                            refine J.dropAt 0 rfl ?_
                            refine J.nil ?_
                            have e := Option.some.inj ht1950
                            subst e
                            exact ⟨rfl, ⟨rfl, rfl, rfl, rfl, trivial⟩, rfl, rfl⟩
                          · have ht1950 := cf hc1951 ht1950
                            refine J.skip rfl rfl rfl rfl hc1951 ?_
                            refine J.skip rfl rfl rfl rfl hc1951 ?_
                            refine J.skip rfl rfl rfl rfl hc1951 ?_
                            refine J.skip rfl rfl rfl rfl hc1951 ?_
                            refine J.skip rfl rfl rfl rfl hc1951 ?_
                            refine J.skip rfl rfl rfl rfl hc1951 ?_
                            refine J.skip rfl rfl rfl rfl hc1951 ?_
                            refine J.val (v := .bool false) rfl rfl (V.pickF rfl hc1951 rfl) ?_
                            refine J.nil ?_
                            have e := Option.some.inj ht1950
                            subst e
                            exact ⟨rfl, ⟨rfl, rfl, rfl, rfl, trivial⟩, rfl, rfl⟩
                        · rintro ρ _ _ ⟨hf, rfl, rfl⟩
                          obtain ⟨ρ, rfl⟩ := hf.ex
                          refine J.val (v := .bool t1949) rfl rfl (V.mv rfl) ?_
                          rcases bt (t1949) with hc2030 | hc2030
                          · have h := ct hc2030 h
                            refine J.run rfl rfl rfl hc2030 ?_
                            refine J.val (v := v1379) rfl rfl (V.mv rfl) ?_
                            refine J.run rfl rfl rfl hc2030 ?_
                            refine J.val (v := .int .i64 xc) rfl rfl (V.mv rfl) ?_
                            refine J.run rfl rfl rfl hc2030 ?_
                            obtain ⟨r2031, hr2032, h⟩ := ob h
                            refine J.op rfl (A.call (L1 := []) Try.call12 rfl (graph_Graph_In_ok f1380 hr2032) rfl rfl) ?_
                            rintro _ _ _ ⟨v2037, _, rfl, ⟨⟨l2033, ad2034, cp2035, rfl, rfl, rfl⟩, rfl⟩, _, rfl⟩
                            refine J.wit Row.hn (fun hn2036 => ?_)
                            refine J.run rfl rfl rfl hc2030 ?_
                            refine J.val (v := .slice adxb_0 xb.length cpxb_0) rfl rfl (V.mv rfl) ?_
                            refine J.run rfl rfl rfl hc2030 ?_
                            obtain ⟨r2041, hr2042, h⟩ := ob h
                            refine J.op rfl (A.call (L1 := []) Try.call19 rfl (ref10_Turn_ok (fxb_0.mono hK1383) hr2042) rfl rfl) ?_
                            rintro _ _ _ ⟨v2047, _, rfl, ⟨⟨l2043, ad2044, cp2045, rfl, rfl, rfl⟩, rfl⟩, _, rfl⟩
                            refine J.wit Row.hn (fun hn2046 => ?_)
                            refine J.run rfl rfl rfl hc2030 ?_
                            refine J.val (v := .int .i64 xc) rfl rfl (V.mv rfl) ?_
                            refine J.run rfl rfl rfl hc2030 ?_
                            refine J.persist (Hp.nil_le _) (by decide) (fun K2051 hK2052 f2053 => ?_)
                            obtain ⟨r2054, hr2055, h⟩ := ob h
                            refine J.op rfl (A.call (L1 := []) Try.call18 rfl (ref10_Out_ok f2053 hr2055) rfl rfl) ?_
                            rintro _ _ _ ⟨v2060, _, rfl, ⟨⟨l2056, ad2057, cp2058, rfl, rfl, rfl⟩, rfl⟩, _, rfl⟩
                            refine J.wit Row.hn (fun hn2059 => ?_)
                            refine J.run rfl rfl rfl hc2030 ?_
                            obtain ⟨r2064, hr2065, h⟩ := ob h
                            refine J.front 1 rfl ?_
                            refine J.op rfl (A.call (L1 := [Row Hp.nil 3 (.int .i64) (.slice ad2034 l2033.length cp2035) l2033, Row Hp.nil 3 (.int .i64) (.slice ad2057 l2056.length cp2058) l2056]) Try.call17 rfl (Tr.lend (Hp.nil_le _) (by decide) (fun K2066 hK2067 f2068 => Tr.lend (Hp.nil_le _) (by decide) (fun K2069 hK2070 f2071 => ref01_Same_ok (f2068.mono hK2070) f2071 hr2065))) rfl rfl) ?_
                            rintro _ _ _ ⟨v2073, _, rfl, ⟨⟨_, ⟨_, ⟨t2072, rfl, rfl, rfl⟩, rfl⟩, rfl⟩, rfl⟩, _, rfl⟩
                            refine J.val (v := .bool t2072) rfl rfl (V.pickT rfl hc2030 rfl) ?_
                            refine J.val (v := .bool t2072) rfl rfl (V.mv rfl) ?_
                            refine J.cut 8 ?_
                            obtain ⟨t2109, ht2110, h⟩ := ob h
                            refine @J.meet _ _ _ _ _ _ _ _ _ _ (fun ρ K' L' => Fits [(180, .bool t2109)] ρ ∧ K2051 = K' ∧ L' = Row Hp.nil 3 (.int .i64) (.slice ad2034 l2033.length cp2035) l2033 :: Row Hp.nil 3 (.int .i64) (.slice ad2057 l2056.length cp2058) l2056 :: Cl b1555 34 [.int .i64 i1549, .int .i64 i1550] :: F) ?_ ?_
                            · skip
                              rcases bt (t2072) with hc2111 | hc2111
                              · have ht2110 := ct hc2111 ht2110
                                refine J.run rfl rfl rfl hc2111 ?_
                                refine J.val (v := v1379) rfl rfl (V.mv rfl) ?_
                                refine J.run rfl rfl rfl hc2111 ?_
                                refine J.val (v := .int .i64 xc) rfl rfl (V.mv rfl) ?_
                                refine J.run rfl rfl rfl hc2111 ?_
                                obtain ⟨r2112, hr2113, ht2110⟩ := ob ht2110
                                refine J.op rfl (A.call (L1 := []) Try.call13 rfl (graph_Graph_Next_ok (f1380.mono hK2052) hr2113) rfl rfl) ?_
                                rintro _ _ _ ⟨v2118, _, rfl, ⟨⟨l2114, ad2115, cp2116, rfl, rfl, rfl⟩, rfl⟩, _, rfl⟩
                                refine J.wit Row.hn (fun hn2117 => ?_)
                                refine J.run rfl rfl rfl hc2111 ?_
                                refine J.val (v := .slice adxb_0 xb.length cpxb_0) rfl rfl (V.mv rfl) ?_
                                refine J.run rfl rfl rfl hc2111 ?_
                                refine J.val (v := .int .i64 xc) rfl rfl (V.mv rfl) ?_
                                refine J.run rfl rfl rfl hc2111 ?_
                                obtain ⟨r2122, hr2123, ht2110⟩ := ob ht2110
                                refine J.op rfl (A.call (L1 := []) Try.call20 rfl (ref10_Next_ok (fxb_0.mono (hK1383.trans hK2052)) hr2123) rfl rfl) ?_
                                rintro _ _ _ ⟨v2128, _, rfl, ⟨⟨l2124, ad2125, cp2126, rfl, rfl, rfl⟩, rfl⟩, _, rfl⟩
                                refine J.wit Row.hn (fun hn2127 => ?_)
                                refine J.run rfl rfl rfl hc2111 ?_
                                obtain ⟨r2132, hr2133, ht2110⟩ := ob ht2110
                                refine J.front 1 rfl ?_
                                refine J.op rfl (A.call (L1 := [Row Hp.nil 3 (.int .i64) (.slice ad2115 l2114.length cp2116) l2114, Row Hp.nil 3 (.int .i64) (.slice ad2125 l2124.length cp2126) l2124]) Try.call17 rfl (Tr.lend (Hp.nil_le _) (by decide) (fun K2134 hK2135 f2136 => Tr.lend (Hp.nil_le _) (by decide) (fun K2137 hK2138 f2139 => ref01_Same_ok (f2136.mono hK2138) f2139 hr2133))) rfl rfl) ?_
                                rintro _ _ _ ⟨v2141, _, rfl, ⟨⟨_, ⟨_, ⟨t2140, rfl, rfl, rfl⟩, rfl⟩, rfl⟩, rfl⟩, _, rfl⟩
                                refine J.val (v := .bool t2140) rfl rfl (V.pickT rfl hc2111 rfl) ?_
                                refine J.dropAt 0 rfl ?_
                                refine J.dropAt 0 rfl ?_
                                refine J.nil ?_
                                have e := Option.some.inj ht2110
                                subst e
                                exact ⟨rfl, ⟨rfl, trivial⟩, rfl, rfl⟩
                              · have ht2110 := cf hc2111 ht2110
                                refine J.skip rfl rfl rfl rfl hc2111 ?_
                                refine J.skip rfl rfl rfl rfl hc2111 ?_
                                refine J.skip rfl rfl rfl rfl hc2111 ?_
                                refine J.skip rfl rfl rfl rfl hc2111 ?_
                                refine J.skip rfl rfl rfl rfl hc2111 ?_
                                refine J.skip rfl rfl rfl rfl hc2111 ?_
                                refine J.skip rfl rfl rfl rfl hc2111 ?_
                                refine J.val (v := .bool false) rfl rfl (V.pickF rfl hc2111 rfl) ?_
                                refine J.nil ?_
                                have e := Option.some.inj ht2110
                                subst e
                                exact ⟨rfl, ⟨rfl, trivial⟩, rfl, rfl⟩
                            · rintro ρ _ _ ⟨hf, rfl, rfl⟩
                              obtain ⟨ρ, rfl⟩ := hf.ex
                              refine J.val (v := .bool t2109) rfl rfl (V.mv rfl) ?_
                              refine J.cut 2 ?_
                              obtain ⟨t2151, ht2152, h⟩ := ob h
                              refine @J.meet _ _ _ _ _ _ _ _ _ _ (fun ρ K' L' => Fits [(183, .bool t2151)] ρ ∧ K2051 = K' ∧ L' = Row Hp.nil 3 (.int .i64) (.slice ad2034 l2033.length cp2035) l2033 :: Row Hp.nil 3 (.int .i64) (.slice ad2057 l2056.length cp2058) l2056 :: Cl b1555 34 [.int .i64 i1549, .int .i64 i1550] :: F) ?_ ?_
                              · skip
                                rcases bt (t2109) with hc2153 | hc2153
                                · have ht2152 := ct hc2153 ht2152
                                  refine J.run rfl rfl rfl hc2153 ?_
                                  obtain ⟨r2154, hr2155, ht2152⟩ := ob ht2152
                                  refine J.op rfl (A.call (L1 := []) Try.call6 rfl (law10_awake_ok hr2155) rfl rfl) ?_
                                  rintro _ _ _ ⟨v2157, _, rfl, ⟨⟨t2156, rfl, rfl, rfl⟩, rfl⟩, _, rfl⟩
                                  refine J.val (v := .bool t2156) rfl rfl (V.pickT rfl hc2153 rfl) ?_
                                  refine J.nil ?_
                                  have e := Option.some.inj ht2152
                                  subst e
                                  exact ⟨rfl, ⟨rfl, trivial⟩, rfl, rfl⟩
                                · have ht2152 := cf hc2153 ht2152
                                  refine J.skip rfl rfl rfl rfl hc2153 ?_
                                  refine J.val (v := .bool false) rfl rfl (V.pickF rfl hc2153 rfl) ?_
                                  refine J.nil ?_
                                  have e := Option.some.inj ht2152
                                  subst e
                                  exact ⟨rfl, ⟨rfl, trivial⟩, rfl, rfl⟩
                              · rintro ρ _ _ ⟨hf, rfl, rfl⟩
                                obtain ⟨ρ, rfl⟩ := hf.ex
                                refine J.val (v := .bool t2151) rfl rfl (V.as rfl) ?_
                                refine J.nil ?_
                                refine CJ.ret ?_
                                have e := Option.some.inj h
                                subst e
                                exact ⟨_, [], Res.one rfl rfl, ⟨t2151, rfl, rfl, rfl⟩, (hK1383.trans hK2052), fun w hs => (Sep.dropAt 0 rfl (Sep.dropAt 0 rfl (Sep.dropAt 0 rfl hs)))⟩
                          · have h := cf hc2030 h
                            refine J.skip rfl rfl rfl rfl hc2030 ?_
                            refine J.skip rfl rfl rfl rfl hc2030 ?_
                            refine J.skip rfl rfl rfl rfl hc2030 ?_
                            refine J.skip rfl rfl rfl rfl hc2030 ?_
                            refine J.skip rfl rfl rfl rfl hc2030 ?_
                            refine J.skip rfl rfl rfl rfl hc2030 ?_
                            refine J.skip rfl rfl rfl rfl hc2030 ?_
                            refine J.skip rfl rfl rfl rfl hc2030 ?_
                            refine J.val (v := .bool false) rfl rfl (V.pickF rfl hc2030 rfl) ?_
                            refine J.val (v := .bool false) rfl rfl (V.mv rfl) ?_
                            refine J.skip rfl rfl rfl rfl rfl ?_
                            refine J.skip rfl rfl rfl rfl rfl ?_
                            refine J.skip rfl rfl rfl rfl rfl ?_
                            refine J.skip rfl rfl rfl rfl rfl ?_
                            refine J.skip rfl rfl rfl rfl rfl ?_
                            refine J.skip rfl rfl rfl rfl rfl ?_
                            refine J.skip rfl rfl rfl rfl rfl ?_
                            refine J.val (v := .bool false) rfl rfl (V.pickF rfl rfl rfl) ?_
                            refine J.val (v := .bool false) rfl rfl (V.mv rfl) ?_
                            refine J.skip rfl rfl rfl rfl rfl ?_
                            refine J.val (v := .bool false) rfl rfl (V.pickF rfl rfl rfl) ?_
                            refine J.val (v := .bool false) rfl rfl (V.as rfl) ?_
                            refine J.nil ?_
                            refine CJ.ret ?_
                            have e := Option.some.inj h
                            subst e
                            exact ⟨_, [], Res.one rfl rfl, ⟨false, rfl, rfl, rfl⟩, hK1383, fun w hs => (Sep.dropAt 0 rfl hs)⟩
            · have h := cf hc1603 h
              refine JQ.skip rfl rfl rfl rfl hc1603 ?_
              refine JQ.skip rfl rfl rfl rfl hc1603 ?_
              refine JQ.skip rfl rfl rfl rfl hc1603 ?_
              refine JQ.skip rfl rfl rfl rfl hc1603 ?_
              refine JQ.val (v := .bool false) rfl rfl (V.pickF rfl hc1603 rfl) ?_
              refine JQ.val (v := .bool (!(t1551 == false))) rfl rfl (V.neb Try.underlying4 rfl rfl) ?_
              refine JQ.val (v := .bool (!(t1551 == false))) rfl rfl (V.mv rfl) ?_
              rcases bt (!(t1551 == false)) with hc2160 | hc2160
              · have h := ct hc2160 h
                refine JQ.skip rfl rfl rfl rfl hc2160 ?_
                refine JQ.skip rfl rfl rfl rfl hc2160 ?_
                refine JQ.skipu rfl rfl rfl rfl ?_
                refine JQ.skipu rfl rfl rfl rfl ?_
                refine JQ.skipu rfl rfl rfl rfl ?_
                refine JQ.skipu rfl rfl rfl rfl ?_
                refine JQ.skipu rfl rfl rfl rfl ?_
                refine JQ.skipu rfl rfl rfl rfl ?_
                refine JQ.skipu rfl rfl rfl rfl ?_
                refine JQ.skipu rfl rfl rfl rfl ?_
                refine JQ.skipu rfl rfl rfl rfl ?_
                refine JQ.skipu rfl rfl rfl rfl ?_
                refine JQ.skipu rfl rfl rfl rfl ?_
                refine JQ.skipu rfl rfl rfl rfl ?_
                refine JQ.skipu rfl rfl rfl rfl ?_
                refine JQ.skipu rfl rfl rfl rfl ?_
                refine JQ.skipu rfl rfl rfl rfl ?_
                refine JQ.skipu rfl rfl rfl rfl ?_
                refine JQ.skipu rfl rfl rfl rfl ?_
                refine JQ.skipu rfl rfl rfl rfl ?_
                refine JQ.skip rfl rfl rfl rfl hc2160 ?_
                refine JQ.val (v := .bool true) rfl rfl (V.pickT rfl hc2160 rfl) ?_
                refine JQ.val (v := .bool true) rfl rfl (V.mv rfl) ?_
                refine JQ.skip rfl rfl rfl rfl rfl ?_
                refine JQ.skip rfl rfl rfl rfl rfl ?_
                refine JQ.skip rfl rfl rfl rfl rfl ?_
                refine JQ.skipu rfl rfl rfl rfl ?_
                refine JQ.skipu rfl rfl rfl rfl ?_
                refine JQ.skipu rfl rfl rfl rfl ?_
                refine JQ.skipu rfl rfl rfl rfl ?_
                refine JQ.skipu rfl rfl rfl rfl ?_
                refine JQ.skipu rfl rfl rfl rfl ?_
                refine JQ.skipu rfl rfl rfl rfl ?_
                refine JQ.skipu rfl rfl rfl rfl ?_
                refine JQ.skip rfl rfl rfl rfl rfl ?_
                refine JQ.val (v := .bool true) rfl rfl (V.pickT rfl rfl rfl) ?_
                refine JQ.nil ?_
                refine J.nil ?_
                refine CJ.condK (b := true) rfl rfl ?_
                refine CJ.seq ?_
                refine CJ.region ?_
                refine J.val (v := .bool false) rfl rfl (V.as rfl) ?_
                refine J.nil ?_
                refine CJ.ret ?_
                have e := Option.some.inj h
                subst e
                exact ⟨_, [], Res.one rfl rfl, ⟨false, rfl, rfl, rfl⟩, hK1383, fun w hs => (Sep.dropAt 0 rfl hs)⟩
              · have h := cf hc2160 h
                refine JQ.run rfl rfl rfl hc2160 ?_
                refine JQ.val (v := .bool t1551) rfl rfl (V.mv rfl) ?_
                refine JQ.run rfl rfl rfl hc2160 ?_
                refine JQ.val (v := .bool t1551) rfl rfl (V.mv rfl) ?_
                rcases bt (t1551) with hc2161 | hc2161
                · have h := ct hc2161 h
                  refine JQ.run rfl rfl rfl hc2161 ?_
                  refine JQ.val rfl rfl (V.fad Try.underlying34 rfl nz3 rfl) ?_
                  refine JQ.run rfl rfl rfl hc2161 ?_
                  refine JQ.val (v := .int .i64 i1549) rfl rfl (V.ld rfl (Ld.sc sc3 (Rd.cl 0 rfl rfl))) ?_
                  refine JQ.run rfl rfl rfl hc2161 ?_
                  refine JQ.val (v := .slice adxb_0 xb.length cpxb_0) rfl rfl (V.mv rfl) ?_
                  refine JQ.run rfl rfl rfl hc2161 ?_
                  refine JQ.val (v := .int .i64 xd) rfl rfl (V.mv rfl) ?_
                  refine JQ.run rfl rfl rfl hc2161 ?_
                  obtain ⟨x2162, hx2163, h⟩ := ob h
                  obtain ⟨p2164, p2165, p2166⟩ := getI_some hx2163
                  obtain ⟨b2167, o2168, e2169, a2170⟩ := ((fxb_0.mono hK1383)).at p2165
                  refine JQ.val rfl rfl (V.iad Try.underlying22 sz37 rfl e2169 rfl p2164 p2166) ?_
                  refine JQ.run rfl rfl rfl hc2161 ?_
                  refine JQ.val rfl rfl (V.fad Try.underlying37 rfl nz3 rfl) ?_
                  refine JQ.run rfl rfl rfl hc2161 ?_
                  refine JQ.val (v := .int .i64 x2162.1) rfl rfl (V.ld rfl (Ld.sc sc3 (Rd.k ((a2170).fst).int (Hp.le_refl _)))) ?_
                  refine JQ.run rfl rfl rfl hc2161 ?_
                  refine JQ.val (v := .bool (!decide (i1549 = x2162.1))) rfl rfl (V.neq rfl rfl) ?_
                  refine JQ.run rfl rfl rfl hc2161 ?_
                  refine JQ.val (v := .bool (!decide (i1549 = x2162.1))) rfl rfl (V.mv rfl) ?_
                  rcases bt (!decide (i1549 = x2162.1)) with hc2171 | hc2171
                  · have h := ct hc2171 h
                    refine JQ.skip rfl rfl rfl rfl hc2171 ?_
                    refine JQ.skip rfl rfl rfl rfl hc2171 ?_
                    refine JQ.skip rfl rfl rfl rfl hc2171 ?_
                    refine JQ.skip rfl rfl rfl rfl hc2171 ?_
                    refine JQ.skip rfl rfl rfl rfl hc2171 ?_
                    refine JQ.skip rfl rfl rfl rfl hc2171 ?_
                    refine JQ.skip rfl rfl rfl rfl hc2171 ?_
                    refine JQ.skip rfl rfl rfl rfl hc2171 ?_
                    refine JQ.run rfl rfl rfl hc2161 ?_
                    refine JQ.val (v := .bool true) rfl rfl (V.pickT rfl hc2171 rfl) ?_
                    refine JQ.run rfl rfl rfl hc2160 ?_
                    refine JQ.val (v := .bool true) rfl rfl (V.pickT rfl hc2161 rfl) ?_
                    refine JQ.val (v := .bool true) rfl rfl (V.pickF rfl hc2160 rfl) ?_
                    refine JQ.val (v := .bool true) rfl rfl (V.mv rfl) ?_
                    refine JQ.skip rfl rfl rfl rfl rfl ?_
                    refine JQ.skip rfl rfl rfl rfl rfl ?_
                    refine JQ.skip rfl rfl rfl rfl rfl ?_
                    refine JQ.skipu rfl rfl rfl rfl ?_
                    refine JQ.skipu rfl rfl rfl rfl ?_
                    refine JQ.skipu rfl rfl rfl rfl ?_
                    refine JQ.skipu rfl rfl rfl rfl ?_
                    refine JQ.skipu rfl rfl rfl rfl ?_
                    refine JQ.skipu rfl rfl rfl rfl ?_
                    refine JQ.skipu rfl rfl rfl rfl ?_
                    refine JQ.skipu rfl rfl rfl rfl ?_
                    refine JQ.skip rfl rfl rfl rfl rfl ?_
                    refine JQ.val (v := .bool true) rfl rfl (V.pickT rfl rfl rfl) ?_
                    refine JQ.nil ?_
                    refine J.nil ?_
                    refine CJ.condK (b := true) rfl rfl ?_
                    refine CJ.seq ?_
                    refine CJ.region ?_
                    refine J.val (v := .bool false) rfl rfl (V.as rfl) ?_
                    refine J.nil ?_
                    refine CJ.ret ?_
                    have e := Option.some.inj h
                    subst e
                    exact ⟨_, [], Res.one rfl rfl, ⟨false, rfl, rfl, rfl⟩, hK1383, fun w hs => (Sep.dropAt 0 rfl hs)⟩
                  · have h := cf hc2171 h
                    refine JQ.run rfl rfl rfl hc2171 ?_
                    refine JQ.val rfl rfl (V.fad Try.underlying34 rfl nz3 rfl) ?_
                    refine JQ.run rfl rfl rfl hc2171 ?_
                    refine JQ.val (v := .int .i64 i1550) rfl rfl (V.ld rfl (Ld.sc sc3 (Rd.cl 0 rfl rfl))) ?_
                    refine JQ.run rfl rfl rfl hc2171 ?_
                    refine JQ.val (v := .slice adxb_0 xb.length cpxb_0) rfl rfl (V.mv rfl) ?_
                    refine JQ.run rfl rfl rfl hc2171 ?_
                    refine JQ.val (v := .int .i64 xd) rfl rfl (V.mv rfl) ?_
                    refine JQ.run rfl rfl rfl hc2171 ?_
                    obtain ⟨x2172, hx2173, h⟩ := ob h
                    obtain ⟨p2174, p2175, p2176⟩ := getI_some hx2173
                    obtain ⟨b2177, o2178, e2179, a2180⟩ := ((fxb_0.mono hK1383)).at p2175
                    refine JQ.val rfl rfl (V.iad Try.underlying22 sz37 rfl e2179 rfl p2174 p2176) ?_
                    refine JQ.run rfl rfl rfl hc2171 ?_
                    refine JQ.val rfl rfl (V.fad Try.underlying37 rfl nz3 rfl) ?_
                    refine JQ.run rfl rfl rfl hc2171 ?_
                    refine JQ.val (v := .int .i64 x2172.2) rfl rfl (V.ld rfl (Ld.sc sc3 (Rd.k (((a2180).snd).one).int (Hp.le_refl _)))) ?_
                    refine JQ.run rfl rfl rfl hc2171 ?_
                    refine JQ.val (v := .bool (!decide (i1550 = x2172.2))) rfl rfl (V.neq rfl rfl) ?_
                    refine JQ.run rfl rfl rfl hc2161 ?_
                    refine JQ.val (v := .bool (!decide (i1550 = x2172.2))) rfl rfl (V.pickF rfl hc2171 rfl) ?_
                    refine JQ.run rfl rfl rfl hc2160 ?_
                    refine JQ.val (v := .bool (!decide (i1550 = x2172.2))) rfl rfl (V.pickT rfl hc2161 rfl) ?_
                    refine JQ.val (v := .bool (!decide (i1550 = x2172.2))) rfl rfl (V.pickF rfl hc2160 rfl) ?_
                    refine JQ.val (v := .bool (!decide (i1550 = x2172.2))) rfl rfl (V.mv rfl) ?_
                    rcases bt (!decide (i1550 = x2172.2)) with hc2181 | hc2181
                    · have h := ct hc2181 h
                      refine JQ.skip rfl rfl rfl rfl hc2181 ?_
                      refine JQ.skip rfl rfl rfl rfl hc2181 ?_
                      refine JQ.skip rfl rfl rfl rfl hc2181 ?_
                      refine JQ.skipu rfl rfl rfl rfl ?_
                      refine JQ.skipu rfl rfl rfl rfl ?_
                      refine JQ.skipu rfl rfl rfl rfl ?_
                      refine JQ.skipu rfl rfl rfl rfl ?_
                      refine JQ.skipu rfl rfl rfl rfl ?_
                      refine JQ.skipu rfl rfl rfl rfl ?_
                      refine JQ.skipu rfl rfl rfl rfl ?_
                      refine JQ.skipu rfl rfl rfl rfl ?_
                      refine JQ.skip rfl rfl rfl rfl hc2181 ?_
                      refine JQ.val (v := .bool true) rfl rfl (V.pickT rfl hc2181 rfl) ?_
                      refine JQ.nil ?_
                      refine J.nil ?_
                      refine CJ.condK (b := true) rfl rfl ?_
                      refine CJ.seq ?_
                      refine CJ.region ?_
                      refine J.val (v := .bool false) rfl rfl (V.as rfl) ?_
                      refine J.nil ?_
                      refine CJ.ret ?_
                      have e := Option.some.inj h
                      subst e
                      exact ⟨_, [], Res.one rfl rfl, ⟨false, rfl, rfl, rfl⟩, hK1383, fun w hs => (Sep.dropAt 0 rfl hs)⟩
                    · have h := cf hc2181 h
                      refine JQ.run rfl rfl rfl hc2181 ?_
                      refine JQ.val (v := .bool t1551) rfl rfl (V.mv rfl) ?_
                      refine JQ.run rfl rfl rfl hc2181 ?_
                      refine JQ.val (v := .bool (!t1551)) rfl rfl (V.not rfl) ?_
                      refine JQ.run rfl rfl rfl hc2181 ?_
                      refine JQ.val (v := .bool (!t1551)) rfl rfl (V.mv rfl) ?_
                      refine JQ.skip rfl rfl rfl rfl (congrArg not hc2161) ?_
                      refine JQ.skip rfl rfl rfl rfl (congrArg not hc2161) ?_
                      refine JQ.skip rfl rfl rfl rfl (congrArg not hc2161) ?_
                      refine JQ.skip rfl rfl rfl rfl (congrArg not hc2161) ?_
                      refine JQ.skipu rfl rfl rfl rfl ?_
                      refine JQ.skipu rfl rfl rfl rfl ?_
                      refine JQ.skipu rfl rfl rfl rfl ?_
                      refine JQ.skip rfl rfl rfl rfl (congrArg not hc2161) ?_
                      refine JQ.run rfl rfl rfl hc2181 ?_
                      refine JQ.val (v := .bool false) rfl rfl (V.pickF rfl (congrArg not hc2161) rfl) ?_
                      refine JQ.val (v := .bool false) rfl rfl (V.pickF rfl hc2181 rfl) ?_
                      refine JQ.nil ?_
                      refine J.nil ?_
                      refine CJ.condK (b := false) rfl rfl ?_
                      refine CJ.skip ?_
                      refine CJ.seq ?_
                      refine CJ.region ?_
                      refine J.val (v := v1379) rfl rfl (V.mv rfl) ?_
                      obtain ⟨r2182, hr2183, h⟩ := ob h
                      refine J.op rfl (A.call (L1 := []) Try.call9 rfl (graph_Graph_Nodes_ok f1380 hr2183) rfl rfl) ?_
                      rintro _ _ _ ⟨v2185, _, rfl, ⟨⟨i2184, rfl, rfl, rfl⟩, rfl⟩, _, rfl⟩
                      refine J.val (v := .int .i64 xa) rfl rfl (V.mv rfl) ?_
                      refine J.val (v := .bool (decide (i2184 = xa))) rfl rfl (V.eql rfl rfl) ?_
                      refine J.val (v := .bool (decide (i2184 = xa))) rfl rfl (V.mv rfl) ?_
                      refine J.cut 6 ?_
                      obtain ⟨t2195, ht2196, h⟩ := ob h
                      refine @J.meet _ _ _ _ _ _ _ _ _ _ (fun ρ K' L' => Fits [(152, .bool t2195), (1, .slice adxb_0 xb.length cpxb_0), (2, .int .i64 xc), (9, v1379)] ρ ∧ K1382 = K' ∧ L' = Cl b1555 34 [.int .i64 i1549, .int .i64 i1550] :: F) ?_ ?_
                      · skip
                        rcases bt (decide (i2184 = xa)) with hc2197 | hc2197
                        · have ht2196 := ct hc2197 ht2196
                          refine J.run rfl rfl rfl hc2197 ?_
                          refine J.val (v := v1379) rfl rfl (V.mv rfl) ?_
                          refine J.run rfl rfl rfl hc2197 ?_
                          obtain ⟨r2198, hr2199, ht2196⟩ := ob ht2196
                          refine J.op rfl (A.call (L1 := []) Try.call10 rfl (graph_Graph_Arcs_ok f1380 hr2199) rfl rfl) ?_
                          rintro _ _ _ ⟨v2201, _, rfl, ⟨⟨i2200, rfl, rfl, rfl⟩, rfl⟩, _, rfl⟩
                          refine J.run rfl rfl rfl hc2197 ?_
                          refine J.val (v := .slice adxb_0 xb.length cpxb_0) rfl rfl (V.mv rfl) ?_
                          refine J.run rfl rfl rfl hc2197 ?_
                          refine J.val (v := .int .i64 (((xb.length : Nat) : Int))) rfl rfl (V.len Try.underlying22 rfl) ?_
                          refine J.run rfl rfl rfl hc2197 ?_
                          refine J.val (v := .bool (decide (i2200 = (((xb.length : Nat) : Int))))) rfl rfl (V.eql rfl rfl) ?_
                          refine J.val (v := .bool (decide (i2200 = (((xb.length : Nat) : Int))))) rfl rfl (V.pickT rfl hc2197 rfl) ?_
                          refine J.nil ?_
                          have e := Option.some.inj ht2196
                          subst e
                          exact ⟨rfl, ⟨rfl, rfl, rfl, rfl, trivial⟩, rfl, rfl⟩
                        · have ht2196 := cf hc2197 ht2196
                          refine J.skip rfl rfl rfl rfl hc2197 ?_
                          refine J.skip rfl rfl rfl rfl hc2197 ?_
                          refine J.skip rfl rfl rfl rfl hc2197 ?_
                          refine J.skip rfl rfl rfl rfl hc2197 ?_
                          refine J.skip rfl rfl rfl rfl hc2197 ?_
                          refine J.val (v := .bool false) rfl rfl (V.pickF rfl hc2197 rfl) ?_
                          refine J.nil ?_
                          have e := Option.some.inj ht2196
                          subst e
                          exact ⟨rfl, ⟨rfl, rfl, rfl, rfl, trivial⟩, rfl, rfl⟩
                      · rintro ρ _ _ ⟨hf, rfl, rfl⟩
                        obtain ⟨ρ, rfl⟩ := hf.ex
                        refine J.val (v := .bool t2195) rfl rfl (V.mv rfl) ?_
                        refine J.cut 8 ?_
                        obtain ⟨t2237, ht2238, h⟩ := ob h
                        refine @J.meet _ _ _ _ _ _ _ _ _ _ (fun ρ K' L' => Fits [(161, .bool t2237), (1, .slice adxb_0 xb.length cpxb_0), (2, .int .i64 xc), (9, v1379)] ρ ∧ K1382 = K' ∧ L' = Cl b1555 34 [.int .i64 i1549, .int .i64 i1550] :: F) ?_ ?_
                        · skip
                          rcases bt (t2195) with hc2239 | hc2239
                          · have ht2238 := ct hc2239 ht2238
                            refine J.run rfl rfl rfl hc2239 ?_
                            refine J.val (v := v1379) rfl rfl (V.mv rfl) ?_
                            refine J.run rfl rfl rfl hc2239 ?_
                            refine J.val (v := .int .i64 xc) rfl rfl (V.mv rfl) ?_
                            refine J.run rfl rfl rfl hc2239 ?_
                            obtain ⟨r2240, hr2241, ht2238⟩ := ob ht2238
                            refine J.op rfl (A.call (L1 := []) Try.call11 rfl (graph_Graph_Out_ok f1380 hr2241) rfl rfl) ?_
                            rintro _ _ _ ⟨v2246, _, rfl, ⟨⟨l2242, ad2243, cp2244, rfl, rfl, rfl⟩, rfl⟩, _, rfl⟩
                            refine J.wit Row.hn (fun hn2245 => ?_)
                            refine J.run rfl rfl rfl hc2239 ?_
                            refine J.val (v := .slice adxb_0 xb.length cpxb_0) rfl rfl (V.mv rfl) ?_
                            refine J.run rfl rfl rfl hc2239 ?_
                            refine J.val (v := .int .i64 xc) rfl rfl (V.mv rfl) ?_
                            refine J.run rfl rfl rfl hc2239 ?_
                            obtain ⟨r2250, hr2251, ht2238⟩ := ob ht2238
                            refine J.op rfl (A.call (L1 := []) Try.call18 rfl (ref10_Out_ok (fxb_0.mono hK1383) hr2251) rfl rfl) ?_
                            rintro _ _ _ ⟨v2256, _, rfl, ⟨⟨l2252, ad2253, cp2254, rfl, rfl, rfl⟩, rfl⟩, _, rfl⟩
                            refine J.wit Row.hn (fun hn2255 => ?_)
                            refine J.run rfl rfl rfl hc2239 ?_
                            obtain ⟨r2260, hr2261, ht2238⟩ := ob ht2238
                            refine J.front 1 rfl ?_
                            refine J.op rfl (A.call (L1 := [Row Hp.nil 3 (.int .i64) (.slice ad2243 l2242.length cp2244) l2242, Row Hp.nil 3 (.int .i64) (.slice ad2253 l2252.length cp2254) l2252]) Try.call17 rfl (Tr.lend (Hp.nil_le _) (by decide) (fun K2262 hK2263 f2264 => Tr.lend (Hp.nil_le _) (by decide) (fun K2265 hK2266 f2267 => ref01_Same_ok (f2264.mono hK2266) f2267 hr2261))) rfl rfl) ?_
                            rintro _ _ _ ⟨v2269, _, rfl, ⟨⟨_, ⟨_, ⟨t2268, rfl, rfl, rfl⟩, rfl⟩, rfl⟩, rfl⟩, _, rfl⟩
                            refine J.val (v := .bool t2268) rfl rfl (V.pickT rfl hc2239 rfl) ?_
                            refine J.dropAt 0 rfl ?_
                            refine J.dropAt 0 rfl ?_
                            refine J.nil ?_
                            have e := Option.some.inj ht2238
                            subst e
                            exact ⟨rfl, ⟨rfl, rfl, rfl, rfl, trivial⟩, rfl, rfl⟩
                          · have ht2238 := cf hc2239 ht2238
                            refine J.skip rfl rfl rfl rfl hc2239 ?_
                            refine J.skip rfl rfl rfl rfl hc2239 ?_
                            refine J.skip rfl rfl rfl rfl hc2239 ?_
                            refine J.skip rfl rfl rfl rfl hc2239 ?_
                            refine J.skip rfl rfl rfl rfl hc2239 ?_
                            refine J.skip rfl rfl rfl rfl hc2239 ?_
                            refine J.skip rfl rfl rfl rfl hc2239 ?_
                            refine J.val (v := .bool false) rfl rfl (V.pickF rfl hc2239 rfl) ?_
                            refine J.nil ?_
                            have e := Option.some.inj ht2238
                            subst e
                            exact ⟨rfl, ⟨rfl, rfl, rfl, rfl, trivial⟩, rfl, rfl⟩
                        · rintro ρ _ _ ⟨hf, rfl, rfl⟩
                          obtain ⟨ρ, rfl⟩ := hf.ex
                          refine J.val (v := .bool t2237) rfl rfl (V.mv rfl) ?_
                          rcases bt (t2237) with hc2318 | hc2318
                          · have h := ct hc2318 h
                            refine J.run rfl rfl rfl hc2318 ?_
                            refine J.val (v := v1379) rfl rfl (V.mv rfl) ?_
                            refine J.run rfl rfl rfl hc2318 ?_
                            refine J.val (v := .int .i64 xc) rfl rfl (V.mv rfl) ?_
                            refine J.run rfl rfl rfl hc2318 ?_
                            obtain ⟨r2319, hr2320, h⟩ := ob h
                            refine J.op rfl (A.call (L1 := []) Try.call12 rfl (graph_Graph_In_ok f1380 hr2320) rfl rfl) ?_
                            rintro _ _ _ ⟨v2325, _, rfl, ⟨⟨l2321, ad2322, cp2323, rfl, rfl, rfl⟩, rfl⟩, _, rfl⟩
                            refine J.wit Row.hn (fun hn2324 => ?_)
                            refine J.run rfl rfl rfl hc2318 ?_
                            refine J.val (v := .slice adxb_0 xb.length cpxb_0) rfl rfl (V.mv rfl) ?_
                            refine J.run rfl rfl rfl hc2318 ?_
                            obtain ⟨r2329, hr2330, h⟩ := ob h
                            refine J.op rfl (A.call (L1 := []) Try.call19 rfl (ref10_Turn_ok (fxb_0.mono hK1383) hr2330) rfl rfl) ?_
                            rintro _ _ _ ⟨v2335, _, rfl, ⟨⟨l2331, ad2332, cp2333, rfl, rfl, rfl⟩, rfl⟩, _, rfl⟩
                            refine J.wit Row.hn (fun hn2334 => ?_)
                            refine J.run rfl rfl rfl hc2318 ?_
                            refine J.val (v := .int .i64 xc) rfl rfl (V.mv rfl) ?_
                            refine J.run rfl rfl rfl hc2318 ?_
                            refine J.persist (Hp.nil_le _) (by decide) (fun K2339 hK2340 f2341 => ?_)
                            obtain ⟨r2342, hr2343, h⟩ := ob h
                            refine J.op rfl (A.call (L1 := []) Try.call18 rfl (ref10_Out_ok f2341 hr2343) rfl rfl) ?_
                            rintro _ _ _ ⟨v2348, _, rfl, ⟨⟨l2344, ad2345, cp2346, rfl, rfl, rfl⟩, rfl⟩, _, rfl⟩
                            refine J.wit Row.hn (fun hn2347 => ?_)
                            refine J.run rfl rfl rfl hc2318 ?_
                            obtain ⟨r2352, hr2353, h⟩ := ob h
                            refine J.front 1 rfl ?_
                            refine J.op rfl (A.call (L1 := [Row Hp.nil 3 (.int .i64) (.slice ad2322 l2321.length cp2323) l2321, Row Hp.nil 3 (.int .i64) (.slice ad2345 l2344.length cp2346) l2344]) Try.call17 rfl (Tr.lend (Hp.nil_le _) (by decide) (fun K2354 hK2355 f2356 => Tr.lend (Hp.nil_le _) (by decide) (fun K2357 hK2358 f2359 => ref01_Same_ok (f2356.mono hK2358) f2359 hr2353))) rfl rfl) ?_
                            rintro _ _ _ ⟨v2361, _, rfl, ⟨⟨_, ⟨_, ⟨t2360, rfl, rfl, rfl⟩, rfl⟩, rfl⟩, rfl⟩, _, rfl⟩
                            refine J.val (v := .bool t2360) rfl rfl (V.pickT rfl hc2318 rfl) ?_
                            refine J.val (v := .bool t2360) rfl rfl (V.mv rfl) ?_
                            refine J.cut 8 ?_
                            obtain ⟨t2397, ht2398, h⟩ := ob h
                            refine @J.meet _ _ _ _ _ _ _ _ _ _ (fun ρ K' L' => Fits [(180, .bool t2397)] ρ ∧ K2339 = K' ∧ L' = Row Hp.nil 3 (.int .i64) (.slice ad2322 l2321.length cp2323) l2321 :: Row Hp.nil 3 (.int .i64) (.slice ad2345 l2344.length cp2346) l2344 :: Cl b1555 34 [.int .i64 i1549, .int .i64 i1550] :: F) ?_ ?_
                            · skip
                              rcases bt (t2360) with hc2399 | hc2399
                              · have ht2398 := ct hc2399 ht2398
                                refine J.run rfl rfl rfl hc2399 ?_
                                refine J.val (v := v1379) rfl rfl (V.mv rfl) ?_
                                refine J.run rfl rfl rfl hc2399 ?_
                                refine J.val (v := .int .i64 xc) rfl rfl (V.mv rfl) ?_
                                refine J.run rfl rfl rfl hc2399 ?_
                                obtain ⟨r2400, hr2401, ht2398⟩ := ob ht2398
                                refine J.op rfl (A.call (L1 := []) Try.call13 rfl (graph_Graph_Next_ok (f1380.mono hK2340) hr2401) rfl rfl) ?_
                                rintro _ _ _ ⟨v2406, _, rfl, ⟨⟨l2402, ad2403, cp2404, rfl, rfl, rfl⟩, rfl⟩, _, rfl⟩
                                refine J.wit Row.hn (fun hn2405 => ?_)
                                refine J.run rfl rfl rfl hc2399 ?_
                                refine J.val (v := .slice adxb_0 xb.length cpxb_0) rfl rfl (V.mv rfl) ?_
                                refine J.run rfl rfl rfl hc2399 ?_
                                refine J.val (v := .int .i64 xc) rfl rfl (V.mv rfl) ?_
                                refine J.run rfl rfl rfl hc2399 ?_
                                obtain ⟨r2410, hr2411, ht2398⟩ := ob ht2398
                                refine J.op rfl (A.call (L1 := []) Try.call20 rfl (ref10_Next_ok (fxb_0.mono (hK1383.trans hK2340)) hr2411) rfl rfl) ?_
                                rintro _ _ _ ⟨v2416, _, rfl, ⟨⟨l2412, ad2413, cp2414, rfl, rfl, rfl⟩, rfl⟩, _, rfl⟩
                                refine J.wit Row.hn (fun hn2415 => ?_)
                                refine J.run rfl rfl rfl hc2399 ?_
                                obtain ⟨r2420, hr2421, ht2398⟩ := ob ht2398
                                refine J.front 1 rfl ?_
                                refine J.op rfl (A.call (L1 := [Row Hp.nil 3 (.int .i64) (.slice ad2403 l2402.length cp2404) l2402, Row Hp.nil 3 (.int .i64) (.slice ad2413 l2412.length cp2414) l2412]) Try.call17 rfl (Tr.lend (Hp.nil_le _) (by decide) (fun K2422 hK2423 f2424 => Tr.lend (Hp.nil_le _) (by decide) (fun K2425 hK2426 f2427 => ref01_Same_ok (f2424.mono hK2426) f2427 hr2421))) rfl rfl) ?_
                                rintro _ _ _ ⟨v2429, _, rfl, ⟨⟨_, ⟨_, ⟨t2428, rfl, rfl, rfl⟩, rfl⟩, rfl⟩, rfl⟩, _, rfl⟩
                                refine J.val (v := .bool t2428) rfl rfl (V.pickT rfl hc2399 rfl) ?_
                                refine J.dropAt 0 rfl ?_
                                refine J.dropAt 0 rfl ?_
                                refine J.nil ?_
                                have e := Option.some.inj ht2398
                                subst e
                                exact ⟨rfl, ⟨rfl, trivial⟩, rfl, rfl⟩
                              · have ht2398 := cf hc2399 ht2398
                                refine J.skip rfl rfl rfl rfl hc2399 ?_
                                refine J.skip rfl rfl rfl rfl hc2399 ?_
                                refine J.skip rfl rfl rfl rfl hc2399 ?_
                                refine J.skip rfl rfl rfl rfl hc2399 ?_
                                refine J.skip rfl rfl rfl rfl hc2399 ?_
                                refine J.skip rfl rfl rfl rfl hc2399 ?_
                                refine J.skip rfl rfl rfl rfl hc2399 ?_
                                refine J.val (v := .bool false) rfl rfl (V.pickF rfl hc2399 rfl) ?_
                                refine J.nil ?_
                                have e := Option.some.inj ht2398
                                subst e
                                exact ⟨rfl, ⟨rfl, trivial⟩, rfl, rfl⟩
                            · rintro ρ _ _ ⟨hf, rfl, rfl⟩
                              obtain ⟨ρ, rfl⟩ := hf.ex
                              refine J.val (v := .bool t2397) rfl rfl (V.mv rfl) ?_
                              refine J.cut 2 ?_
                              obtain ⟨t2439, ht2440, h⟩ := ob h
                              refine @J.meet _ _ _ _ _ _ _ _ _ _ (fun ρ K' L' => Fits [(183, .bool t2439)] ρ ∧ K2339 = K' ∧ L' = Row Hp.nil 3 (.int .i64) (.slice ad2322 l2321.length cp2323) l2321 :: Row Hp.nil 3 (.int .i64) (.slice ad2345 l2344.length cp2346) l2344 :: Cl b1555 34 [.int .i64 i1549, .int .i64 i1550] :: F) ?_ ?_
                              · skip
                                rcases bt (t2397) with hc2441 | hc2441
                                · have ht2440 := ct hc2441 ht2440
                                  refine J.run rfl rfl rfl hc2441 ?_
                                  obtain ⟨r2442, hr2443, ht2440⟩ := ob ht2440
                                  refine J.op rfl (A.call (L1 := []) Try.call6 rfl (law10_awake_ok hr2443) rfl rfl) ?_
                                  rintro _ _ _ ⟨v2445, _, rfl, ⟨⟨t2444, rfl, rfl, rfl⟩, rfl⟩, _, rfl⟩
                                  refine J.val (v := .bool t2444) rfl rfl (V.pickT rfl hc2441 rfl) ?_
                                  refine J.nil ?_
                                  have e := Option.some.inj ht2440
                                  subst e
                                  exact ⟨rfl, ⟨rfl, trivial⟩, rfl, rfl⟩
                                · have ht2440 := cf hc2441 ht2440
                                  refine J.skip rfl rfl rfl rfl hc2441 ?_
                                  refine J.val (v := .bool false) rfl rfl (V.pickF rfl hc2441 rfl) ?_
                                  refine J.nil ?_
                                  have e := Option.some.inj ht2440
                                  subst e
                                  exact ⟨rfl, ⟨rfl, trivial⟩, rfl, rfl⟩
                              · rintro ρ _ _ ⟨hf, rfl, rfl⟩
                                obtain ⟨ρ, rfl⟩ := hf.ex
                                refine J.val (v := .bool t2439) rfl rfl (V.as rfl) ?_
                                refine J.nil ?_
                                refine CJ.ret ?_
                                have e := Option.some.inj h
                                subst e
                                exact ⟨_, [], Res.one rfl rfl, ⟨t2439, rfl, rfl, rfl⟩, (hK1383.trans hK2340), fun w hs => (Sep.dropAt 0 rfl (Sep.dropAt 0 rfl (Sep.dropAt 0 rfl hs)))⟩
                          · have h := cf hc2318 h
                            refine J.skip rfl rfl rfl rfl hc2318 ?_
                            refine J.skip rfl rfl rfl rfl hc2318 ?_
                            refine J.skip rfl rfl rfl rfl hc2318 ?_
                            refine J.skip rfl rfl rfl rfl hc2318 ?_
                            refine J.skip rfl rfl rfl rfl hc2318 ?_
                            refine J.skip rfl rfl rfl rfl hc2318 ?_
                            refine J.skip rfl rfl rfl rfl hc2318 ?_
                            refine J.skip rfl rfl rfl rfl hc2318 ?_
                            refine J.val (v := .bool false) rfl rfl (V.pickF rfl hc2318 rfl) ?_
                            refine J.val (v := .bool false) rfl rfl (V.mv rfl) ?_
                            refine J.skip rfl rfl rfl rfl rfl ?_
                            refine J.skip rfl rfl rfl rfl rfl ?_
                            refine J.skip rfl rfl rfl rfl rfl ?_
                            refine J.skip rfl rfl rfl rfl rfl ?_
                            refine J.skip rfl rfl rfl rfl rfl ?_
                            refine J.skip rfl rfl rfl rfl rfl ?_
                            refine J.skip rfl rfl rfl rfl rfl ?_
                            refine J.val (v := .bool false) rfl rfl (V.pickF rfl rfl rfl) ?_
                            refine J.val (v := .bool false) rfl rfl (V.mv rfl) ?_
                            refine J.skip rfl rfl rfl rfl rfl ?_
                            refine J.val (v := .bool false) rfl rfl (V.pickF rfl rfl rfl) ?_
                            refine J.val (v := .bool false) rfl rfl (V.as rfl) ?_
                            refine J.nil ?_
                            refine CJ.ret ?_
                            have e := Option.some.inj h
                            subst e
                            exact ⟨_, [], Res.one rfl rfl, ⟨false, rfl, rfl, rfl⟩, hK1383, fun w hs => (Sep.dropAt 0 rfl hs)⟩
                · have h := cf hc2161 h
                  refine JQ.skip rfl rfl rfl rfl hc2161 ?_
                  refine JQ.skip rfl rfl rfl rfl hc2161 ?_
                  refine JQ.skip rfl rfl rfl rfl hc2161 ?_
                  refine JQ.skip rfl rfl rfl rfl hc2161 ?_
                  refine JQ.skip rfl rfl rfl rfl hc2161 ?_
                  refine JQ.skip rfl rfl rfl rfl hc2161 ?_
                  refine JQ.skip rfl rfl rfl rfl hc2161 ?_
                  refine JQ.skip rfl rfl rfl rfl hc2161 ?_
                  refine JQ.skip rfl rfl rfl rfl hc2161 ?_
                  refine JQ.skipu rfl rfl rfl rfl ?_
                  refine JQ.skipu rfl rfl rfl rfl ?_
                  refine JQ.skipu rfl rfl rfl rfl ?_
                  refine JQ.skipu rfl rfl rfl rfl ?_
                  refine JQ.skipu rfl rfl rfl rfl ?_
                  refine JQ.skipu rfl rfl rfl rfl ?_
                  refine JQ.skipu rfl rfl rfl rfl ?_
                  refine JQ.skipu rfl rfl rfl rfl ?_
                  refine JQ.skip rfl rfl rfl rfl hc2161 ?_
                  refine JQ.run rfl rfl rfl hc2160 ?_
                  refine JQ.val (v := .bool false) rfl rfl (V.pickF rfl hc2161 rfl) ?_
                  refine JQ.val (v := .bool false) rfl rfl (V.pickF rfl hc2160 rfl) ?_
                  refine JQ.val (v := .bool false) rfl rfl (V.mv rfl) ?_
                  refine JQ.run rfl rfl rfl rfl ?_
                  refine JQ.val (v := .bool t1551) rfl rfl (V.mv rfl) ?_
                  refine JQ.run rfl rfl rfl rfl ?_
                  refine JQ.val (v := .bool (!t1551)) rfl rfl (V.not rfl) ?_
                  refine JQ.run rfl rfl rfl rfl ?_
                  refine JQ.val (v := .bool (!t1551)) rfl rfl (V.mv rfl) ?_
                  refine JQ.run rfl rfl rfl (congrArg not hc2161) ?_
                  refine JQ.val rfl rfl (V.fad Try.underlying34 rfl nz3 rfl) ?_
                  refine JQ.run rfl rfl rfl (congrArg not hc2161) ?_
                  refine JQ.val (v := .int .i64 i1549) rfl rfl (V.ld rfl (Ld.sc sc3 (Rd.cl 0 rfl rfl))) ?_
                  refine JQ.run rfl rfl rfl (congrArg not hc2161) ?_
                  refine JQ.val (v := .bool (!decide (i1549 = 0))) rfl rfl (V.neq rfl rfl) ?_
                  refine JQ.run rfl rfl rfl (congrArg not hc2161) ?_
                  refine JQ.val (v := .bool (!decide (i1549 = 0))) rfl rfl (V.mv rfl) ?_
                  rcases bt (!decide (i1549 = 0)) with hc2448 | hc2448
                  · have h := ct hc2448 h
                    refine JQ.skip rfl rfl rfl rfl hc2448 ?_
                    refine JQ.skip rfl rfl rfl rfl hc2448 ?_
                    refine JQ.skip rfl rfl rfl rfl hc2448 ?_
                    refine JQ.run rfl rfl rfl (congrArg not hc2161) ?_
                    refine JQ.val (v := .bool true) rfl rfl (V.pickT rfl hc2448 rfl) ?_
                    refine JQ.run rfl rfl rfl rfl ?_
                    refine JQ.val (v := .bool true) rfl rfl (V.pickT rfl (congrArg not hc2161) rfl) ?_
                    refine JQ.val (v := .bool true) rfl rfl (V.pickF rfl rfl rfl) ?_
                    refine JQ.nil ?_
                    refine J.nil ?_
                    refine CJ.condK (b := true) rfl rfl ?_
                    refine CJ.seq ?_
                    refine CJ.region ?_
                    refine J.val (v := .bool false) rfl rfl (V.as rfl) ?_
                    refine J.nil ?_
                    refine CJ.ret ?_
                    have e := Option.some.inj h
                    subst e
                    exact ⟨_, [], Res.one rfl rfl, ⟨false, rfl, rfl, rfl⟩, hK1383, fun w hs => (Sep.dropAt 0 rfl hs)⟩
                  · have h := cf hc2448 h
                    refine JQ.run rfl rfl rfl hc2448 ?_
                    refine JQ.val rfl rfl (V.fad Try.underlying34 rfl nz3 rfl) ?_
                    refine JQ.run rfl rfl rfl hc2448 ?_
                    refine JQ.val (v := .int .i64 i1550) rfl rfl (V.ld rfl (Ld.sc sc3 (Rd.cl 0 rfl rfl))) ?_
                    refine JQ.run rfl rfl rfl hc2448 ?_
                    refine JQ.val (v := .bool (!decide (i1550 = 0))) rfl rfl (V.neq rfl rfl) ?_
                    refine JQ.run rfl rfl rfl (congrArg not hc2161) ?_
                    refine JQ.val (v := .bool (!decide (i1550 = 0))) rfl rfl (V.pickF rfl hc2448 rfl) ?_
                    refine JQ.run rfl rfl rfl rfl ?_
                    refine JQ.val (v := .bool (!decide (i1550 = 0))) rfl rfl (V.pickT rfl (congrArg not hc2161) rfl) ?_
                    refine JQ.val (v := .bool (!decide (i1550 = 0))) rfl rfl (V.pickF rfl rfl rfl) ?_
                    refine JQ.nil ?_
                    refine J.nil ?_
                    refine CJ.cond rfl (fun hc2449 => ?_) (fun hc2449 => ?_)
                    · have h := ct hc2449 h
                      refine CJ.seq ?_
                      refine CJ.region ?_
                      refine J.val (v := .bool false) rfl rfl (V.as rfl) ?_
                      refine J.nil ?_
                      refine CJ.ret ?_
                      have e := Option.some.inj h
                      subst e
                      exact ⟨_, [], Res.one rfl rfl, ⟨false, rfl, rfl, rfl⟩, hK1383, fun w hs => (Sep.dropAt 0 rfl hs)⟩
                    · have h := cf hc2449 h
                      refine CJ.skip ?_
                      refine CJ.seq ?_
                      refine CJ.region ?_
                      refine J.val (v := v1379) rfl rfl (V.mv rfl) ?_
                      obtain ⟨r2450, hr2451, h⟩ := ob h
                      refine J.op rfl (A.call (L1 := []) Try.call9 rfl (graph_Graph_Nodes_ok f1380 hr2451) rfl rfl) ?_
                      rintro _ _ _ ⟨v2453, _, rfl, ⟨⟨i2452, rfl, rfl, rfl⟩, rfl⟩, _, rfl⟩
                      refine J.val (v := .int .i64 xa) rfl rfl (V.mv rfl) ?_
                      refine J.val (v := .bool (decide (i2452 = xa))) rfl rfl (V.eql rfl rfl) ?_
                      refine J.val (v := .bool (decide (i2452 = xa))) rfl rfl (V.mv rfl) ?_
                      refine J.cut 6 ?_
                      obtain ⟨t2463, ht2464, h⟩ := ob h
                      refine @J.meet _ _ _ _ _ _ _ _ _ _ (fun ρ K' L' => Fits [(152, .bool t2463), (1, .slice adxb_0 xb.length cpxb_0), (2, .int .i64 xc), (9, v1379)] ρ ∧ K1382 = K' ∧ L' = Cl b1555 34 [.int .i64 i1549, .int .i64 i1550] :: F) ?_ ?_
                      · skip
                        rcases bt (decide (i2452 = xa)) with hc2465 | hc2465
                        · have ht2464 := ct hc2465 ht2464
                          refine J.run rfl rfl rfl hc2465 ?_
                          refine J.val (v := v1379) rfl rfl (V.mv rfl) ?_
                          refine J.run rfl rfl rfl hc2465 ?_
                          obtain ⟨r2466, hr2467, ht2464⟩ := ob ht2464
                          refine J.op rfl (A.call (L1 := []) Try.call10 rfl (graph_Graph_Arcs_ok f1380 hr2467) rfl rfl) ?_
                          rintro _ _ _ ⟨v2469, _, rfl, ⟨⟨i2468, rfl, rfl, rfl⟩, rfl⟩, _, rfl⟩
                          refine J.run rfl rfl rfl hc2465 ?_
                          refine J.val (v := .slice adxb_0 xb.length cpxb_0) rfl rfl (V.mv rfl) ?_
                          refine J.run rfl rfl rfl hc2465 ?_
                          refine J.val (v := .int .i64 (((xb.length : Nat) : Int))) rfl rfl (V.len Try.underlying22 rfl) ?_
                          refine J.run rfl rfl rfl hc2465 ?_
                          refine J.val (v := .bool (decide (i2468 = (((xb.length : Nat) : Int))))) rfl rfl (V.eql rfl rfl) ?_
                          refine J.val (v := .bool (decide (i2468 = (((xb.length : Nat) : Int))))) rfl rfl (V.pickT rfl hc2465 rfl) ?_
                          refine J.nil ?_
                          have e := Option.some.inj ht2464
                          subst e
                          exact ⟨rfl, ⟨rfl, rfl, rfl, rfl, trivial⟩, rfl, rfl⟩
                        · have ht2464 := cf hc2465 ht2464
                          refine J.skip rfl rfl rfl rfl hc2465 ?_
                          refine J.skip rfl rfl rfl rfl hc2465 ?_
                          refine J.skip rfl rfl rfl rfl hc2465 ?_
                          refine J.skip rfl rfl rfl rfl hc2465 ?_
                          refine J.skip rfl rfl rfl rfl hc2465 ?_
                          refine J.val (v := .bool false) rfl rfl (V.pickF rfl hc2465 rfl) ?_
                          refine J.nil ?_
                          have e := Option.some.inj ht2464
                          subst e
                          exact ⟨rfl, ⟨rfl, rfl, rfl, rfl, trivial⟩, rfl, rfl⟩
                      · rintro ρ _ _ ⟨hf, rfl, rfl⟩
                        obtain ⟨ρ, rfl⟩ := hf.ex
                        refine J.val (v := .bool t2463) rfl rfl (V.mv rfl) ?_
                        refine J.cut 8 ?_
                        obtain ⟨t2505, ht2506, h⟩ := ob h
                        refine @J.meet _ _ _ _ _ _ _ _ _ _ (fun ρ K' L' => Fits [(161, .bool t2505), (1, .slice adxb_0 xb.length cpxb_0), (2, .int .i64 xc), (9, v1379)] ρ ∧ K1382 = K' ∧ L' = Cl b1555 34 [.int .i64 i1549, .int .i64 i1550] :: F) ?_ ?_
                        · skip
                          rcases bt (t2463) with hc2507 | hc2507
                          · have ht2506 := ct hc2507 ht2506
                            refine J.run rfl rfl rfl hc2507 ?_
                            refine J.val (v := v1379) rfl rfl (V.mv rfl) ?_
                            refine J.run rfl rfl rfl hc2507 ?_
                            refine J.val (v := .int .i64 xc) rfl rfl (V.mv rfl) ?_
                            refine J.run rfl rfl rfl hc2507 ?_
                            obtain ⟨r2508, hr2509, ht2506⟩ := ob ht2506
                            refine J.op rfl (A.call (L1 := []) Try.call11 rfl (graph_Graph_Out_ok f1380 hr2509) rfl rfl) ?_
                            rintro _ _ _ ⟨v2514, _, rfl, ⟨⟨l2510, ad2511, cp2512, rfl, rfl, rfl⟩, rfl⟩, _, rfl⟩
                            refine J.wit Row.hn (fun hn2513 => ?_)
                            refine J.run rfl rfl rfl hc2507 ?_
                            refine J.val (v := .slice adxb_0 xb.length cpxb_0) rfl rfl (V.mv rfl) ?_
                            refine J.run rfl rfl rfl hc2507 ?_
                            refine J.val (v := .int .i64 xc) rfl rfl (V.mv rfl) ?_
                            refine J.run rfl rfl rfl hc2507 ?_
                            obtain ⟨r2518, hr2519, ht2506⟩ := ob ht2506
                            refine J.op rfl (A.call (L1 := []) Try.call18 rfl (ref10_Out_ok (fxb_0.mono hK1383) hr2519) rfl rfl) ?_
                            rintro _ _ _ ⟨v2524, _, rfl, ⟨⟨l2520, ad2521, cp2522, rfl, rfl, rfl⟩, rfl⟩, _, rfl⟩
                            refine J.wit Row.hn (fun hn2523 => ?_)
                            refine J.run rfl rfl rfl hc2507 ?_
                            obtain ⟨r2528, hr2529, ht2506⟩ := ob ht2506
                            refine J.front 1 rfl ?_
                            refine J.op rfl (A.call (L1 := [Row Hp.nil 3 (.int .i64) (.slice ad2511 l2510.length cp2512) l2510, Row Hp.nil 3 (.int .i64) (.slice ad2521 l2520.length cp2522) l2520]) Try.call17 rfl (Tr.lend (Hp.nil_le _) (by decide) (fun K2530 hK2531 f2532 => Tr.lend (Hp.nil_le _) (by decide) (fun K2533 hK2534 f2535 => ref01_Same_ok (f2532.mono hK2534) f2535 hr2529))) rfl rfl) ?_
                            rintro _ _ _ ⟨v2537, _, rfl, ⟨⟨_, ⟨_, ⟨t2536, rfl, rfl, rfl⟩, rfl⟩, rfl⟩, rfl⟩, _, rfl⟩
                            refine J.val (v := .bool t2536) rfl rfl (V.pickT rfl hc2507 rfl) ?_
                            refine J.dropAt 0 rfl ?_
                            refine J.dropAt 0 rfl ?_
                            refine J.nil ?_
                            have e := Option.some.inj ht2506
                            subst e
                            exact ⟨rfl, ⟨rfl, rfl, rfl, rfl, trivial⟩, rfl, rfl⟩
                          · have ht2506 := cf hc2507 ht2506
                            refine J.skip rfl rfl rfl rfl hc2507 ?_
                            refine J.skip rfl rfl rfl rfl hc2507 ?_
                            refine J.skip rfl rfl rfl rfl hc2507 ?_
                            refine J.skip rfl rfl rfl rfl hc2507 ?_
                            refine J.skip rfl rfl rfl rfl hc2507 ?_
                            refine J.skip rfl rfl rfl rfl hc2507 ?_
                            refine J.skip rfl rfl rfl rfl hc2507 ?_
                            refine J.val (v := .bool false) rfl rfl (V.pickF rfl hc2507 rfl) ?_
                            refine J.nil ?_
                            have e := Option.some.inj ht2506
                            subst e
                            exact ⟨rfl, ⟨rfl, rfl, rfl, rfl, trivial⟩, rfl, rfl⟩
                        · rintro ρ _ _ ⟨hf, rfl, rfl⟩
                          obtain ⟨ρ, rfl⟩ := hf.ex
                          refine J.val (v := .bool t2505) rfl rfl (V.mv rfl) ?_
                          rcases bt (t2505) with hc2586 | hc2586
                          · have h := ct hc2586 h
                            refine J.run rfl rfl rfl hc2586 ?_
                            refine J.val (v := v1379) rfl rfl (V.mv rfl) ?_
                            refine J.run rfl rfl rfl hc2586 ?_
                            refine J.val (v := .int .i64 xc) rfl rfl (V.mv rfl) ?_
                            refine J.run rfl rfl rfl hc2586 ?_
                            obtain ⟨r2587, hr2588, h⟩ := ob h
                            refine J.op rfl (A.call (L1 := []) Try.call12 rfl (graph_Graph_In_ok f1380 hr2588) rfl rfl) ?_
                            rintro _ _ _ ⟨v2593, _, rfl, ⟨⟨l2589, ad2590, cp2591, rfl, rfl, rfl⟩, rfl⟩, _, rfl⟩
                            refine J.wit Row.hn (fun hn2592 => ?_)
                            refine J.run rfl rfl rfl hc2586 ?_
                            refine J.val (v := .slice adxb_0 xb.length cpxb_0) rfl rfl (V.mv rfl) ?_
                            refine J.run rfl rfl rfl hc2586 ?_
                            obtain ⟨r2597, hr2598, h⟩ := ob h
                            refine J.op rfl (A.call (L1 := []) Try.call19 rfl (ref10_Turn_ok (fxb_0.mono hK1383) hr2598) rfl rfl) ?_
                            rintro _ _ _ ⟨v2603, _, rfl, ⟨⟨l2599, ad2600, cp2601, rfl, rfl, rfl⟩, rfl⟩, _, rfl⟩
                            refine J.wit Row.hn (fun hn2602 => ?_)
                            refine J.run rfl rfl rfl hc2586 ?_
                            refine J.val (v := .int .i64 xc) rfl rfl (V.mv rfl) ?_
                            refine J.run rfl rfl rfl hc2586 ?_
                            refine J.persist (Hp.nil_le _) (by decide) (fun K2607 hK2608 f2609 => ?_)
                            obtain ⟨r2610, hr2611, h⟩ := ob h
                            refine J.op rfl (A.call (L1 := []) Try.call18 rfl (ref10_Out_ok f2609 hr2611) rfl rfl) ?_
                            rintro _ _ _ ⟨v2616, _, rfl, ⟨⟨l2612, ad2613, cp2614, rfl, rfl, rfl⟩, rfl⟩, _, rfl⟩
                            refine J.wit Row.hn (fun hn2615 => ?_)
                            refine J.run rfl rfl rfl hc2586 ?_
                            obtain ⟨r2620, hr2621, h⟩ := ob h
                            refine J.front 1 rfl ?_
                            refine J.op rfl (A.call (L1 := [Row Hp.nil 3 (.int .i64) (.slice ad2590 l2589.length cp2591) l2589, Row Hp.nil 3 (.int .i64) (.slice ad2613 l2612.length cp2614) l2612]) Try.call17 rfl (Tr.lend (Hp.nil_le _) (by decide) (fun K2622 hK2623 f2624 => Tr.lend (Hp.nil_le _) (by decide) (fun K2625 hK2626 f2627 => ref01_Same_ok (f2624.mono hK2626) f2627 hr2621))) rfl rfl) ?_
                            rintro _ _ _ ⟨v2629, _, rfl, ⟨⟨_, ⟨_, ⟨t2628, rfl, rfl, rfl⟩, rfl⟩, rfl⟩, rfl⟩, _, rfl⟩
                            refine J.val (v := .bool t2628) rfl rfl (V.pickT rfl hc2586 rfl) ?_
                            refine J.val (v := .bool t2628) rfl rfl (V.mv rfl) ?_
                            refine J.cut 8 ?_
                            obtain ⟨t2665, ht2666, h⟩ := ob h
                            refine @J.meet _ _ _ _ _ _ _ _ _ _ (fun ρ K' L' => Fits [(180, .bool t2665)] ρ ∧ K2607 = K' ∧ L' = Row Hp.nil 3 (.int .i64) (.slice ad2590 l2589.length cp2591) l2589 :: Row Hp.nil 3 (.int .i64) (.slice ad2613 l2612.length cp2614) l2612 :: Cl b1555 34 [.int .i64 i1549, .int .i64 i1550] :: F) ?_ ?_
                            · skip
                              rcases bt (t2628) with hc2667 | hc2667
                              · have ht2666 := ct hc2667 ht2666
                                refine J.run rfl rfl rfl hc2667 ?_
                                refine J.val (v := v1379) rfl rfl (V.mv rfl) ?_
                                refine J.run rfl rfl rfl hc2667 ?_
                                refine J.val (v := .int .i64 xc) rfl rfl (V.mv rfl) ?_
                                refine J.run rfl rfl rfl hc2667 ?_
                                obtain ⟨r2668, hr2669, ht2666⟩ := ob ht2666
                                refine J.op rfl (A.call (L1 := []) Try.call13 rfl (graph_Graph_Next_ok (f1380.mono hK2608) hr2669) rfl rfl) ?_
                                rintro _ _ _ ⟨v2674, _, rfl, ⟨⟨l2670, ad2671, cp2672, rfl, rfl, rfl⟩, rfl⟩, _, rfl⟩
                                refine J.wit Row.hn (fun hn2673 => ?_)
                                refine J.run rfl rfl rfl hc2667 ?_
                                refine J.val (v := .slice adxb_0 xb.length cpxb_0) rfl rfl (V.mv rfl) ?_
                                refine J.run rfl rfl rfl hc2667 ?_
                                refine J.val (v := .int .i64 xc) rfl rfl (V.mv rfl) ?_
                                refine J.run rfl rfl rfl hc2667 ?_
                                obtain ⟨r2678, hr2679, ht2666⟩ := ob ht2666
                                refine J.op rfl (A.call (L1 := []) Try.call20 rfl (ref10_Next_ok (fxb_0.mono (hK1383.trans hK2608)) hr2679) rfl rfl) ?_
                                rintro _ _ _ ⟨v2684, _, rfl, ⟨⟨l2680, ad2681, cp2682, rfl, rfl, rfl⟩, rfl⟩, _, rfl⟩
                                refine J.wit Row.hn (fun hn2683 => ?_)
                                refine J.run rfl rfl rfl hc2667 ?_
                                obtain ⟨r2688, hr2689, ht2666⟩ := ob ht2666
                                refine J.front 1 rfl ?_
                                refine J.op rfl (A.call (L1 := [Row Hp.nil 3 (.int .i64) (.slice ad2671 l2670.length cp2672) l2670, Row Hp.nil 3 (.int .i64) (.slice ad2681 l2680.length cp2682) l2680]) Try.call17 rfl (Tr.lend (Hp.nil_le _) (by decide) (fun K2690 hK2691 f2692 => Tr.lend (Hp.nil_le _) (by decide) (fun K2693 hK2694 f2695 => ref01_Same_ok (f2692.mono hK2694) f2695 hr2689))) rfl rfl) ?_
                                rintro _ _ _ ⟨v2697, _, rfl, ⟨⟨_, ⟨_, ⟨t2696, rfl, rfl, rfl⟩, rfl⟩, rfl⟩, rfl⟩, _, rfl⟩
                                refine J.val (v := .bool t2696) rfl rfl (V.pickT rfl hc2667 rfl) ?_
                                refine J.dropAt 0 rfl ?_
                                refine J.dropAt 0 rfl ?_
                                refine J.nil ?_
                                have e := Option.some.inj ht2666
                                subst e
                                exact ⟨rfl, ⟨rfl, trivial⟩, rfl, rfl⟩
                              · have ht2666 := cf hc2667 ht2666
                                refine J.skip rfl rfl rfl rfl hc2667 ?_
                                refine J.skip rfl rfl rfl rfl hc2667 ?_
                                refine J.skip rfl rfl rfl rfl hc2667 ?_
                                refine J.skip rfl rfl rfl rfl hc2667 ?_
                                refine J.skip rfl rfl rfl rfl hc2667 ?_
                                refine J.skip rfl rfl rfl rfl hc2667 ?_
                                refine J.skip rfl rfl rfl rfl hc2667 ?_
                                refine J.val (v := .bool false) rfl rfl (V.pickF rfl hc2667 rfl) ?_
                                refine J.nil ?_
                                have e := Option.some.inj ht2666
                                subst e
                                exact ⟨rfl, ⟨rfl, trivial⟩, rfl, rfl⟩
                            · rintro ρ _ _ ⟨hf, rfl, rfl⟩
                              obtain ⟨ρ, rfl⟩ := hf.ex
                              refine J.val (v := .bool t2665) rfl rfl (V.mv rfl) ?_
                              refine J.cut 2 ?_
                              obtain ⟨t2707, ht2708, h⟩ := ob h
                              refine @J.meet _ _ _ _ _ _ _ _ _ _ (fun ρ K' L' => Fits [(183, .bool t2707)] ρ ∧ K2607 = K' ∧ L' = Row Hp.nil 3 (.int .i64) (.slice ad2590 l2589.length cp2591) l2589 :: Row Hp.nil 3 (.int .i64) (.slice ad2613 l2612.length cp2614) l2612 :: Cl b1555 34 [.int .i64 i1549, .int .i64 i1550] :: F) ?_ ?_
                              · skip
                                rcases bt (t2665) with hc2709 | hc2709
                                · have ht2708 := ct hc2709 ht2708
                                  refine J.run rfl rfl rfl hc2709 ?_
                                  obtain ⟨r2710, hr2711, ht2708⟩ := ob ht2708
                                  refine J.op rfl (A.call (L1 := []) Try.call6 rfl (law10_awake_ok hr2711) rfl rfl) ?_
                                  rintro _ _ _ ⟨v2713, _, rfl, ⟨⟨t2712, rfl, rfl, rfl⟩, rfl⟩, _, rfl⟩
                                  refine J.val (v := .bool t2712) rfl rfl (V.pickT rfl hc2709 rfl) ?_
                                  refine J.nil ?_
                                  have e := Option.some.inj ht2708
                                  subst e
                                  exact ⟨rfl, ⟨rfl, trivial⟩, rfl, rfl⟩
                                · have ht2708 := cf hc2709 ht2708
                                  refine J.skip rfl rfl rfl rfl hc2709 ?_
                                  refine J.val (v := .bool false) rfl rfl (V.pickF rfl hc2709 rfl) ?_
                                  refine J.nil ?_
                                  have e := Option.some.inj ht2708
                                  subst e
                                  exact ⟨rfl, ⟨rfl, trivial⟩, rfl, rfl⟩
                              · rintro ρ _ _ ⟨hf, rfl, rfl⟩
                                obtain ⟨ρ, rfl⟩ := hf.ex
                                refine J.val (v := .bool t2707) rfl rfl (V.as rfl) ?_
                                refine J.nil ?_
                                refine CJ.ret ?_
                                have e := Option.some.inj h
                                subst e
                                exact ⟨_, [], Res.one rfl rfl, ⟨t2707, rfl, rfl, rfl⟩, (hK1383.trans hK2608), fun w hs => (Sep.dropAt 0 rfl (Sep.dropAt 0 rfl (Sep.dropAt 0 rfl hs)))⟩
                          · have h := cf hc2586 h
                            refine J.skip rfl rfl rfl rfl hc2586 ?_
                            refine J.skip rfl rfl rfl rfl hc2586 ?_
                            refine J.skip rfl rfl rfl rfl hc2586 ?_
                            refine J.skip rfl rfl rfl rfl hc2586 ?_
                            refine J.skip rfl rfl rfl rfl hc2586 ?_
                            refine J.skip rfl rfl rfl rfl hc2586 ?_
                            refine J.skip rfl rfl rfl rfl hc2586 ?_
                            refine J.skip rfl rfl rfl rfl hc2586 ?_
                            refine J.val (v := .bool false) rfl rfl (V.pickF rfl hc2586 rfl) ?_
                            refine J.val (v := .bool false) rfl rfl (V.mv rfl) ?_
                            refine J.skip rfl rfl rfl rfl rfl ?_
                            refine J.skip rfl rfl rfl rfl rfl ?_
                            refine J.skip rfl rfl rfl rfl rfl ?_
                            refine J.skip rfl rfl rfl rfl rfl ?_
                            refine J.skip rfl rfl rfl rfl rfl ?_
                            refine J.skip rfl rfl rfl rfl rfl ?_
                            refine J.skip rfl rfl rfl rfl rfl ?_
                            refine J.val (v := .bool false) rfl rfl (V.pickF rfl rfl rfl) ?_
                            refine J.val (v := .bool false) rfl rfl (V.mv rfl) ?_
                            refine J.skip rfl rfl rfl rfl rfl ?_
                            refine J.val (v := .bool false) rfl rfl (V.pickF rfl rfl rfl) ?_
                            refine J.val (v := .bool false) rfl rfl (V.as rfl) ?_
                            refine J.nil ?_
                            refine CJ.ret ?_
                            have e := Option.some.inj h
                            subst e
                            exact ⟨_, [], Res.one rfl rfl, ⟨false, rfl, rfl, rfl⟩, hK1383, fun w hs => (Sep.dropAt 0 rfl hs)⟩
noncomputable def fn_ref10_Reach_l1 (xb : (List (Int × Int))) : ((List Int) × Bool × Int) → Option (((List Int) × Bool × Int) ⊕ ((List Int) × Bool)) := fun ((l6102, t6107, i6108) : ((List Int) × Bool × Int)) => cond (decide (i6108 < (((xb.length : Nat) : Int)))) ((getI xb i6108).bind fun x6196 => (getI l6102 x6196.1).bind fun x6205 => (cond (decide (x6205 = 1)) ((getI xb i6108).bind fun x6232 => (getI l6102 x6232.2).bind fun x6241 => some (decide (x6241 = 0))) (some (false))).bind fun t6229 => cond (t6229) ((getI xb i6108).bind fun x6249 => (getI l6102 x6249.2).bind fun x6258 => (some (l6102.set x6249.2.toNat 1)).bind fun z6265 => some (.inl ((z6265, true, IntKind.wrap .i64 (i6108 + 1))))) (some (.inl ((l6102, t6107, IntKind.wrap .i64 (i6108 + 1)))))) (some (.inr (((l6102, t6107)))))
noncomputable def fn_ref10_Reach_l2 (xb : (List (Int × Int))) : ((List Int) × Bool) → Option (((List Int) × Bool) ⊕ (List Int)) := fun ((l5234, t5239) : ((List Int) × Bool)) => cond (t5239) ((loop (fn_ref10_Reach_l1 xb) (l5234, false, 0)).bind fun (l6012, t6017) => some (.inl (l6012, t6017))) (some (.inr (l5234)))
noncomputable def fn_ref10_Reach (xa : Int) (xb : (List (Int × Int))) (xc : Int) : Option (List Int) :=
  (mk xa xa 0 : Option (List Int)).bind fun z3140 => (getI z3140 xc).bind fun x3145 => (some (z3140.set xc.toNat 1)).bind fun z3152 => (loop (fn_ref10_Reach_l2 xb) (z3152, true)).bind fun l4711 => some (l4711)
set_option maxRecDepth 100000 in
set_option maxHeartbeats 4000000 in
theorem ref10_Reach_ok {K : Hp} {xa : Int} {xb : (List (Int × Int))} {xc : Int} {adxb_0 : Option Addr} {cpxb_0 : Nat} (fxb_0 : Is K (.sl (.cons (.int .i64) (.one (.int .i64)))) [.slice adxb_0 xb.length cpxb_0] xb) {r : (List Int)} (h : fn_ref10_Reach xa xb xc = some r) :
    Tr Try.prog 22 #[.int .i64 xa, .slice adxb_0 xb.length cpxb_0, .int .i64 xc] K [] (fun v K' L' => (∃ (l3135 : (List Int)) (ad3136 : Option Addr) (cp3137 : Nat), l3135 = r ∧ .slice ad3136 l3135.length cp3137 = v ∧ L' = [Row Hp.nil 3 (.int .i64) (.slice ad3136 l3135.length cp3137) l3135]) ∧ K = K') := by
  refine Tr.k ?_
  refine Tr.of Try.func22 rfl Try.ntmps22 rfl (fun E F => ?_)
  unfold fn_ref10_Reach at h
  refine CJ.seq ?_
  refine CJ.region ?_
  refine J.val (v := .slice none 0 0) rfl rfl (V.as rfl) ?_
  refine J.nil ?_
  refine CJ.seq ?_
  refine CJ.region ?_
  refine J.val (v := .int .i64 xa) rfl rfl (V.mv rfl) ?_
  obtain ⟨z3140, hz3141, h⟩ := ob h
  refine J.op rfl (A.make (K0 := Hp.nil) (ty := (.int .i64)) (x0 := 0) Try.underlying30 inf3 rfl rfl (by decide) (by decide) rfl rfl hz3141) ?_
  rintro _ _ _ ⟨b3142, rfl, rfl, rfl⟩
  have hn3143 : z3140 ≠ [] → ∃ g, (some ⟨b3142, 0, none⟩ : Option Addr) = some ⟨g, 0, none⟩ := fun _ => ⟨b3142, rfl⟩
  refine J.val (v := .slice (some ⟨b3142, 0, none⟩) z3140.length xa.toNat) rfl rfl (V.as rfl) ?_
  refine J.nil ?_
  refine CJ.seq ?_
  refine CJ.region ?_
  refine J.val (v := .slice (some ⟨b3142, 0, none⟩) z3140.length xa.toNat) rfl rfl (V.mv rfl) ?_
  refine J.val (v := .int .i64 xc) rfl rfl (V.mv rfl) ?_
  obtain ⟨x3145, hx3146, h⟩ := ob h
  obtain ⟨p3147, p3148, p3149⟩ := getI_some hx3146
  obtain ⟨g3150, e3151⟩ := hn3143 (fun e => by rw [e] at p3148; simp at p3148)
  refine J.val rfl rfl (V.iad Try.underlying30 sz3 rfl e3151 rfl p3147 p3149) ?_
  obtain ⟨z3152, hz3153, h⟩ := ob h
  have e3154 := Option.some.inj hz3153
  have hl3155 : z3152.length = z3140.length := by rw [← e3154, List.length_set]
  refine J.op rfl (A.storeR (ty := (.int .i64)) (q := 0) (y0 := 1) (zs := z3152) sz3 rfl rfl rfl rfl e3151 p3148 (by simp [Tp.size]) (by decide) (by rintro _ rfl; exact rfl) e3154) ?_
  rintro _ _ _ ⟨rfl, rfl, rfl⟩
  have hn3156 : z3152 ≠ [] → _ := fun h => hn3143 (fun e => h (List.length_eq_zero_iff.1 (by rw [hl3155]; exact List.length_eq_zero_iff.2 e)))
  refine J.nil ?_
  refine CJ.seq ?_
  refine CJ.seq ?_
  refine CJ.region ?_
  refine J.val (v := .bool true) rfl rfl (V.as rfl) ?_
  refine J.nil ?_
  obtain ⟨o4716, ho4717, h⟩ := ob h
  refine CJ.meetN (fun ρ K' L' => ∃ (l4711 : (List Int)) (ad4712 : Option Addr) (cp4713 : Nat), l4711 = o4716 ∧ Fits [(7, .slice ad4712 l4711.length cp4713)] ρ ∧ K = K' ∧ L' = Row Hp.nil 3 (.int .i64) (.slice ad4712 l4711.length cp4713) l4711 :: F) ?_ ?_
  · skip
    refine CJ.block ?_
    refine CJ.loop (fun s ρ K' L' => ∃ (l5234 : (List Int)) (t5239 : Bool) (ad5235 : Option Addr) (cp5236 : Nat), (l5234, t5239) = s ∧ Fits [(1, .slice adxb_0 xb.length cpxb_0), (7, .slice ad5235 l5234.length cp5236), (8, .bool t5239)] ρ ∧ K = K' ∧ L' = Row Hp.nil 3 (.int .i64) (.slice ad5235 l5234.length cp5236) l5234 :: F) ho4717 ⟨z3152, true, (some ⟨b3142, 0, none⟩), xa.toNat, rfl, ⟨rfl, (by rw [hl3155]; rfl), rfl, trivial⟩, rfl, (by rw [hl3155]; first | done | rfl)⟩ ?_
    rintro s ρ _ _ r5760 ⟨l5234, t5239, ad5235, cp5236, rfl, hf5758, rfl, rfl⟩ h5757
    obtain ⟨ρ, rfl⟩ := hf5758.ex
    refine CJ.wit Row.hn (fun hn5238 => ?_)
    refine CJ.seq ?_
    refine CJ.seq ?_
    refine CJ.region ?_
    refine J.val (v := .bool t5239) rfl rfl (V.mv rfl) ?_
    refine J.nil ?_
    refine CJ.cond rfl (fun hc5761 => ?_) (fun hc5761 => ?_)
    · have h5757 := ct hc5761 h5757
      refine CJ.skip ?_
      refine CJ.block ?_
      refine CJ.seq ?_
      refine CJ.region ?_
      refine J.val (v := .bool false) rfl rfl (V.as rfl) ?_
      refine J.nil ?_
      refine CJ.seq ?_
      refine CJ.region ?_
      refine J.val (v := .int .i64 0) rfl rfl (V.as rfl) ?_
      refine J.nil ?_
      obtain ⟨o6018, ho6019, h5757⟩ := ob h5757
      refine CJ.meetN (fun ρ K' L' => ∃ (l6012 : (List Int)) (t6017 : Bool) (ad6013 : Option Addr) (cp6014 : Nat), (l6012, t6017) = o6018 ∧ Fits [(1, .slice adxb_0 xb.length cpxb_0), (7, .slice ad6013 l6012.length cp6014), (8, .bool t6017)] ρ ∧ K = K' ∧ L' = Row Hp.nil 3 (.int .i64) (.slice ad6013 l6012.length cp6014) l6012 :: F) ?_ ?_
      · skip
        refine CJ.block ?_
        refine CJ.loop (fun s ρ K' L' => ∃ (l6102 : (List Int)) (t6107 : Bool) (i6108 : Int) (ad6103 : Option Addr) (cp6104 : Nat), (l6102, t6107, i6108) = s ∧ Fits [(1, .slice adxb_0 xb.length cpxb_0), (7, .slice ad6103 l6102.length cp6104), (8, .bool t6107), (9, .int .i64 i6108)] ρ ∧ K = K' ∧ L' = Row Hp.nil 3 (.int .i64) (.slice ad6103 l6102.length cp6104) l6102 :: F) ho6019 ⟨l5234, false, 0, ad5235, cp5236, rfl, ⟨rfl, rfl, rfl, rfl, trivial⟩, rfl, rfl⟩ ?_
        rintro s ρ _ _ r6194 ⟨l6102, t6107, i6108, ad6103, cp6104, rfl, hf6192, rfl, rfl⟩ h6191
        obtain ⟨ρ, rfl⟩ := hf6192.ex
        refine CJ.wit Row.hn (fun hn6106 => ?_)
        refine CJ.seq ?_
        refine CJ.seq ?_
        refine CJ.region ?_
        refine J.val (v := .int .i64 i6108) rfl rfl (V.mv rfl) ?_
        refine J.val (v := .slice adxb_0 xb.length cpxb_0) rfl rfl (V.mv rfl) ?_
        refine J.val (v := .int .i64 (((xb.length : Nat) : Int))) rfl rfl (V.len Try.underlying22 rfl) ?_
        refine J.val (v := .bool (decide (i6108 < (((xb.length : Nat) : Int))))) rfl rfl (V.lss rfl rfl) ?_
        refine J.nil ?_
        refine CJ.cond rfl (fun hc6195 => ?_) (fun hc6195 => ?_)
        · have h6191 := ct hc6195 h6191
          refine CJ.skip ?_
          refine CJ.seq ?_
          refine CJ.block ?_
          refine CJ.seq ?_
          refine CJ.region ?_
          refine J.val (v := .slice ad6103 l6102.length cp6104) rfl rfl (V.mv rfl) ?_
          refine J.val (v := .slice adxb_0 xb.length cpxb_0) rfl rfl (V.mv rfl) ?_
          refine J.val (v := .int .i64 i6108) rfl rfl (V.mv rfl) ?_
          obtain ⟨x6196, hx6197, h6191⟩ := ob h6191
          obtain ⟨p6198, p6199, p6200⟩ := getI_some hx6197
          obtain ⟨b6201, o6202, e6203, a6204⟩ := (fxb_0).at p6199
          refine J.val rfl rfl (V.iad Try.underlying22 sz37 rfl e6203 rfl p6198 p6200) ?_
          refine J.val rfl rfl (V.fad Try.underlying37 rfl nz3 rfl) ?_
          refine J.val (v := .int .i64 x6196.1) rfl rfl (V.ld rfl (Ld.sc sc3 (Rd.k ((a6204).fst).int (Hp.le_refl _)))) ?_
          obtain ⟨x6205, hx6206, h6191⟩ := ob h6191
          obtain ⟨p6207, p6208, p6209⟩ := getI_some hx6206
          obtain ⟨g6210, e6211⟩ := hn6106 (fun e => by rw [e] at p6208; simp at p6208)
          refine J.val rfl rfl (V.iad Try.underlying30 sz3 rfl e6211 rfl p6207 p6209) ?_
          refine J.val (v := .int .i64 x6205) rfl rfl (V.ld rfl (Ld.sc sc3 (Rd.row 0 rfl e6211 p6208 (q := 0) (by simp [Tp.size]) (by decide) (by rintro _ rfl; rfl)))) ?_
          refine J.val (v := .bool (decide (x6205 = 1))) rfl rfl (V.eql rfl rfl) ?_
          refine J.val (v := .bool (decide (x6205 = 1))) rfl rfl (V.mv rfl) ?_
          refine J.cut 10 ?_
          obtain ⟨t6229, ht6230, h6191⟩ := ob h6191
          refine @J.meet _ _ _ _ _ _ _ _ _ _ (fun ρ K' L' => Fits [(41, .bool t6229), (1, .slice adxb_0 xb.length cpxb_0), (7, .slice ad6103 l6102.length cp6104), (8, .bool t6107), (9, .int .i64 i6108)] ρ ∧ K = K' ∧ L' = Row Hp.nil 3 (.int .i64) (.slice ad6103 l6102.length cp6104) l6102 :: F) ?_ ?_
          · skip
            rcases bt (decide (x6205 = 1)) with hc6231 | hc6231
            · have ht6230 := ct hc6231 ht6230
              refine J.run rfl rfl rfl hc6231 ?_
              refine J.val (v := .slice ad6103 l6102.length cp6104) rfl rfl (V.mv rfl) ?_
              refine J.run rfl rfl rfl hc6231 ?_
              refine J.val (v := .slice adxb_0 xb.length cpxb_0) rfl rfl (V.mv rfl) ?_
              refine J.run rfl rfl rfl hc6231 ?_
              refine J.val (v := .int .i64 i6108) rfl rfl (V.mv rfl) ?_
              refine J.run rfl rfl rfl hc6231 ?_
              obtain ⟨x6232, hx6233, ht6230⟩ := ob ht6230
              obtain ⟨p6234, p6235, p6236⟩ := getI_some hx6233
              obtain ⟨b6237, o6238, e6239, a6240⟩ := (fxb_0).at p6235
              refine J.val rfl rfl (V.iad Try.underlying22 sz37 rfl e6239 rfl p6234 p6236) ?_
              refine J.run rfl rfl rfl hc6231 ?_
              refine J.val rfl rfl (V.fad Try.underlying37 rfl nz3 rfl) ?_
              refine J.run rfl rfl rfl hc6231 ?_
              refine J.val (v := .int .i64 x6232.2) rfl rfl (V.ld rfl (Ld.sc sc3 (Rd.k (((a6240).snd).one).int (Hp.le_refl _)))) ?_
              refine J.run rfl rfl rfl hc6231 ?_
              obtain ⟨x6241, hx6242, ht6230⟩ := ob ht6230
              obtain ⟨p6243, p6244, p6245⟩ := getI_some hx6242
              obtain ⟨g6246, e6247⟩ := hn6106 (fun e => by rw [e] at p6244; simp at p6244)
              refine J.val rfl rfl (V.iad Try.underlying30 sz3 rfl e6247 rfl p6243 p6245) ?_
              refine J.run rfl rfl rfl hc6231 ?_
              refine J.val (v := .int .i64 x6241) rfl rfl (V.ld rfl (Ld.sc sc3 (Rd.row 0 rfl e6247 p6244 (q := 0) (by simp [Tp.size]) (by decide) (by rintro _ rfl; rfl)))) ?_
              refine J.run rfl rfl rfl hc6231 ?_
              refine J.val (v := .bool (decide (x6241 = 0))) rfl rfl (V.eql rfl rfl) ?_
              refine J.val (v := .bool (decide (x6241 = 0))) rfl rfl (V.pickT rfl hc6231 rfl) ?_
              refine J.nil ?_
              have e := Option.some.inj ht6230
              subst e
              exact ⟨rfl, ⟨rfl, rfl, rfl, rfl, rfl, trivial⟩, rfl, rfl⟩
            · have ht6230 := cf hc6231 ht6230
              refine J.skip rfl rfl rfl rfl hc6231 ?_
              refine J.skip rfl rfl rfl rfl hc6231 ?_
              refine J.skip rfl rfl rfl rfl hc6231 ?_
              refine J.skip rfl rfl rfl rfl hc6231 ?_
              refine J.skip rfl rfl rfl rfl hc6231 ?_
              refine J.skip rfl rfl rfl rfl hc6231 ?_
              refine J.skip rfl rfl rfl rfl hc6231 ?_
              refine J.skip rfl rfl rfl rfl hc6231 ?_
              refine J.skip rfl rfl rfl rfl hc6231 ?_
              refine J.val (v := .bool false) rfl rfl (V.pickF rfl hc6231 rfl) ?_
              refine J.nil ?_
              have e := Option.some.inj ht6230
              subst e
              exact ⟨rfl, ⟨rfl, rfl, rfl, rfl, rfl, trivial⟩, rfl, rfl⟩
          · rintro ρ _ _ ⟨hf, rfl, rfl⟩
            obtain ⟨ρ, rfl⟩ := hf.ex
            refine J.nil ?_
            refine CJ.cond rfl (fun hc6248 => ?_) (fun hc6248 => ?_)
            · have h6191 := ct hc6248 h6191
              refine CJ.seq ?_
              refine CJ.region ?_
              refine J.val (v := .slice ad6103 l6102.length cp6104) rfl rfl (V.mv rfl) ?_
              refine J.val (v := .slice adxb_0 xb.length cpxb_0) rfl rfl (V.mv rfl) ?_
              refine J.val (v := .int .i64 i6108) rfl rfl (V.mv rfl) ?_
              obtain ⟨x6249, hx6250, h6191⟩ := ob h6191
              obtain ⟨p6251, p6252, p6253⟩ := getI_some hx6250
              obtain ⟨b6254, o6255, e6256, a6257⟩ := (fxb_0).at p6252
              refine J.val rfl rfl (V.iad Try.underlying22 sz37 rfl e6256 rfl p6251 p6253) ?_
              refine J.val rfl rfl (V.fad Try.underlying37 rfl nz3 rfl) ?_
              refine J.val (v := .int .i64 x6249.2) rfl rfl (V.ld rfl (Ld.sc sc3 (Rd.k (((a6257).snd).one).int (Hp.le_refl _)))) ?_
              obtain ⟨x6258, hx6259, h6191⟩ := ob h6191
              obtain ⟨p6260, p6261, p6262⟩ := getI_some hx6259
              obtain ⟨g6263, e6264⟩ := hn6106 (fun e => by rw [e] at p6261; simp at p6261)
              refine J.val rfl rfl (V.iad Try.underlying30 sz3 rfl e6264 rfl p6260 p6262) ?_
              obtain ⟨z6265, hz6266, h6191⟩ := ob h6191
              have e6267 := Option.some.inj hz6266
              have hl6268 : z6265.length = l6102.length := by rw [← e6267, List.length_set]
              refine J.op rfl (A.storeR (ty := (.int .i64)) (q := 0) (y0 := 1) (zs := z6265) sz3 rfl rfl rfl rfl e6264 p6261 (by simp [Tp.size]) (by decide) (by rintro _ rfl; exact rfl) e6267) ?_
              rintro _ _ _ ⟨rfl, rfl, rfl⟩
              have hn6269 : z6265 ≠ [] → _ := fun h => hn6106 (fun e => h (List.length_eq_zero_iff.1 (by rw [hl6268]; exact List.length_eq_zero_iff.2 e)))
              refine J.nil ?_
              refine CJ.region ?_
              refine J.val (v := .bool true) rfl rfl (V.as rfl) ?_
              refine J.nil ?_
              refine CJ.region ?_
              refine J.val (v := .int .i64 i6108) rfl rfl (V.mv rfl) ?_
              refine J.val (v := .int .i64 (IntKind.wrap .i64 (i6108 + 1))) rfl rfl (V.add rfl rfl) ?_
              refine J.val (v := .int .i64 (IntKind.wrap .i64 (i6108 + 1))) rfl rfl (V.as rfl) ?_
              refine J.nil ?_
              have e := Option.some.inj h6191
              subst e
              exact ⟨rfl, ⟨z6265, true, IntKind.wrap .i64 (i6108 + 1), ad6103, cp6104, rfl, ⟨rfl, (by rw [hl6268]; rfl), rfl, rfl, trivial⟩, rfl, (by rw [hl6268]; first | done | rfl)⟩⟩
            · have h6191 := cf hc6248 h6191
              refine CJ.skip ?_
              refine CJ.region ?_
              refine J.val (v := .int .i64 i6108) rfl rfl (V.mv rfl) ?_
              refine J.val (v := .int .i64 (IntKind.wrap .i64 (i6108 + 1))) rfl rfl (V.add rfl rfl) ?_
              refine J.val (v := .int .i64 (IntKind.wrap .i64 (i6108 + 1))) rfl rfl (V.as rfl) ?_
              refine J.nil ?_
              have e := Option.some.inj h6191
              subst e
              exact ⟨rfl, ⟨l6102, t6107, IntKind.wrap .i64 (i6108 + 1), ad6103, cp6104, rfl, ⟨rfl, rfl, rfl, rfl, trivial⟩, rfl, rfl⟩⟩
        · have h6191 := cf hc6195 h6191
          refine CJ.exit ?_
          have e := Option.some.inj h6191
          subst e
          refine ⟨nofun, fun e => ?_⟩
          subst e
          exact ⟨rfl, ⟨l6102, t6107, ad6103, cp6104, rfl, ⟨rfl, rfl, rfl, trivial⟩, rfl, rfl⟩⟩
      · rintro ρ _ _ ⟨l6012, t6017, ad6013, cp6014, rfl, hf6270, rfl, rfl⟩
        obtain ⟨ρ, rfl⟩ := hf6270.ex
        refine PJ.wit Row.hn (fun hn6016 => ?_)
        refine PJ.done ?_
        have e := Option.some.inj h5757
        subst e
        exact ⟨rfl, ⟨l6012, t6017, ad6013, cp6014, rfl, ⟨rfl, rfl, rfl, trivial⟩, rfl, rfl⟩⟩
    · have h5757 := cf hc5761 h5757
      refine CJ.exit ?_
      have e := Option.some.inj h5757
      subst e
      refine ⟨nofun, fun e => ?_⟩
      subst e
      exact ⟨rfl, ⟨l5234, ad5235, cp5236, rfl, ⟨rfl, trivial⟩, rfl, rfl⟩⟩
  · rintro ρ _ _ ⟨l4711, ad4712, cp4713, rfl, hf6272, rfl, rfl⟩
    obtain ⟨ρ, rfl⟩ := hf6272.ex
    refine PJ.wit Row.hn (fun hn4715 => ?_)
    refine PJ.done ?_
    refine CJ.seq ?_
    refine CJ.region ?_
    refine J.val (v := .slice ad4712 l4711.length cp4713) rfl rfl (V.mv rfl) ?_
    refine J.val (v := .slice ad4712 l4711.length cp4713) rfl rfl (V.as rfl) ?_
    refine J.nil ?_
    refine CJ.ret ?_
    have e := Option.some.inj h
    subst e
    exact ⟨_, [Row Hp.nil 3 (.int .i64) (.slice ad4712 l4711.length cp4713) l4711], Res.one rfl rfl, ⟨l4711, ad4712, cp4713, rfl, rfl, rfl⟩, (Hp.le_refl _), fun w hs => hs⟩
noncomputable def fn_ref10_Nodes_l1 (xa : (List Int)) : ((List Int) × Int) → Option (((List Int) × Int) ⊕ (List Int)) := fun ((l300, i305) : ((List Int) × Int)) => cond (decide (i305 < (((xa.length : Nat) : Int)))) ((getI xa i305).bind fun x337 => cond (decide (x337 = 1)) ((app l300 ([i305] : List Int)).bind fun z350 => some (.inl ((z350, IntKind.wrap .i64 (i305 + 1))))) (some (.inl ((l300, IntKind.wrap .i64 (i305 + 1)))))) (some (.inr (l300)))
noncomputable def fn_ref10_Nodes (xa : (List Int)) : Option (List Int) :=
  (loop (fn_ref10_Nodes_l1 xa) ((([] : List Int), 0))).bind fun l267 => some (l267)
set_option maxRecDepth 100000 in
set_option maxHeartbeats 4000000 in
theorem ref10_Nodes_ok {K : Hp} {xa : (List Int)} {adxa_0 : Option Addr} {cpxa_0 : Nat} (fxa_0 : Is K (.sl (.int .i64)) [.slice adxa_0 xa.length cpxa_0] xa) {r : (List Int)} (h : fn_ref10_Nodes xa = some r) :
    Tr Try.prog 21 #[.slice adxa_0 xa.length cpxa_0] K [] (fun v K' L' => (∃ (l177 : (List Int)) (ad178 : Option Addr) (cp179 : Nat), l177 = r ∧ .slice ad178 l177.length cp179 = v ∧ L' = [Row Hp.nil 3 (.int .i64) (.slice ad178 l177.length cp179) l177]) ∧ K = K') := by
  refine Tr.k ?_
  refine Tr.of Try.func21 rfl Try.ntmps21 rfl (fun E F => ?_)
  unfold fn_ref10_Nodes at h
  refine CJ.seq ?_
  refine CJ.region ?_
  refine J.val (v := .slice none 0 0) rfl rfl (V.as rfl) ?_
  refine J.nil ?_
  refine CJ.seq ?_
  refine CJ.region ?_
  refine J.op rfl (A.lit (K0 := Hp.nil) (ty := (.int .i64)) (xs := ([] : List Int)) Try.underlying30 inf3 rfl (by decide) rfl rfl rfl rfl rfl (by decide)) ?_
  rintro _ _ _ ⟨b182, rfl, rfl, rfl⟩
  have hn183 : ([] : List Int) ≠ [] → ∃ g, (some ⟨b182, 0, none⟩ : Option Addr) = some ⟨g, 0, none⟩ := fun _ => ⟨b182, rfl⟩
  refine J.val (v := .slice (some ⟨b182, 0, none⟩) (([] : List Int).length) 0) rfl rfl (V.as rfl) ?_
  refine J.nil ?_
  refine CJ.seq ?_
  refine CJ.seq ?_
  refine CJ.region ?_
  refine J.val (v := .int .i64 0) rfl rfl (V.as rfl) ?_
  refine J.nil ?_
  obtain ⟨o272, ho273, h⟩ := ob h
  refine CJ.meetN (fun ρ K' L' => ∃ (l267 : (List Int)) (ad268 : Option Addr) (cp269 : Nat), l267 = o272 ∧ Fits [(3, .slice ad268 l267.length cp269)] ρ ∧ K = K' ∧ L' = Row Hp.nil 3 (.int .i64) (.slice ad268 l267.length cp269) l267 :: F) ?_ ?_
  · skip
    refine CJ.block ?_
    refine CJ.loop (fun s ρ K' L' => ∃ (l300 : (List Int)) (i305 : Int) (ad301 : Option Addr) (cp302 : Nat), (l300, i305) = s ∧ Fits [(0, .slice adxa_0 xa.length cpxa_0), (3, .slice ad301 l300.length cp302), (4, .int .i64 i305)] ρ ∧ K = K' ∧ L' = Row Hp.nil 3 (.int .i64) (.slice ad301 l300.length cp302) l300 :: F) ho273 ⟨([] : List Int), 0, (some ⟨b182, 0, none⟩), 0, rfl, ⟨rfl, rfl, rfl, trivial⟩, rfl, rfl⟩ ?_
    rintro s ρ _ _ r335 ⟨l300, i305, ad301, cp302, rfl, hf333, rfl, rfl⟩ h332
    obtain ⟨ρ, rfl⟩ := hf333.ex
    refine CJ.wit Row.hn (fun hn304 => ?_)
    refine CJ.seq ?_
    refine CJ.seq ?_
    refine CJ.region ?_
    refine J.val (v := .int .i64 i305) rfl rfl (V.mv rfl) ?_
    refine J.val (v := .slice adxa_0 xa.length cpxa_0) rfl rfl (V.mv rfl) ?_
    refine J.val (v := .int .i64 (((xa.length : Nat) : Int))) rfl rfl (V.len Try.underlying30 rfl) ?_
    refine J.val (v := .bool (decide (i305 < (((xa.length : Nat) : Int))))) rfl rfl (V.lss rfl rfl) ?_
    refine J.nil ?_
    refine CJ.cond rfl (fun hc336 => ?_) (fun hc336 => ?_)
    · have h332 := ct hc336 h332
      refine CJ.skip ?_
      refine CJ.seq ?_
      refine CJ.block ?_
      refine CJ.seq ?_
      refine CJ.region ?_
      refine J.val (v := .slice adxa_0 xa.length cpxa_0) rfl rfl (V.mv rfl) ?_
      refine J.val (v := .int .i64 i305) rfl rfl (V.mv rfl) ?_
      obtain ⟨x337, hx338, h332⟩ := ob h332
      obtain ⟨p339, p340, p341⟩ := getI_some hx338
      obtain ⟨b342, o343, e344, a345⟩ := (fxa_0).at p340
      refine J.val rfl rfl (V.iad Try.underlying30 sz3 rfl e344 rfl p339 p341) ?_
      refine J.val (v := .int .i64 x337) rfl rfl (V.ld rfl (Ld.sc sc3 (Rd.k (a345).int (Hp.le_refl _)))) ?_
      refine J.val (v := .bool (decide (x337 = 1))) rfl rfl (V.eql rfl rfl) ?_
      refine J.nil ?_
      refine CJ.cond rfl (fun hc346 => ?_) (fun hc346 => ?_)
      · have h332 := ct hc346 h332
        refine CJ.region ?_
        refine J.val (v := .slice ad301 l300.length cp302) rfl rfl (V.mv rfl) ?_
        refine J.val (v := .int .i64 i305) rfl rfl (V.mv rfl) ?_
        refine J.op rfl (A.lit (K0 := Hp.nil) (ty := (.int .i64)) (xs := ([i305] : List Int)) Try.underlying30 inf3 rfl (by decide) rfl rfl rfl ⟨_, _, rfl, rfl, rfl⟩ rfl (by decide)) ?_
        rintro _ _ _ ⟨b347, rfl, rfl, rfl⟩
        have hn348 : ([i305] : List Int) ≠ [] → ∃ g, (some ⟨b347, 0, none⟩ : Option Addr) = some ⟨g, 0, none⟩ := fun _ => ⟨b347, rfl⟩
        obtain ⟨z350, hz351, h332⟩ := ob h332
        refine J.front 1 rfl ?_
        refine J.op rfl (A.appR (Kr := Hp.nil) Try.underlying30 inf3 rfl rfl (by decide) (by decide) rfl rfl (Els.flat rfl) (Els.flat rfl) hz351) ?_
        rintro _ _ _ ⟨v352, rfl, rfl, rfl⟩
        refine J.wit Row.form ?_
        rintro ⟨ad353, cp354, rfl, _, _, hn355⟩
        refine J.val (v := .slice ad353 z350.length cp354) rfl rfl (V.as rfl) ?_
        refine J.nil ?_
        refine CJ.region ?_
        refine J.val (v := .int .i64 i305) rfl rfl (V.mv rfl) ?_
        refine J.val (v := .int .i64 (IntKind.wrap .i64 (i305 + 1))) rfl rfl (V.add rfl rfl) ?_
        refine J.val (v := .int .i64 (IntKind.wrap .i64 (i305 + 1))) rfl rfl (V.as rfl) ?_
        refine J.nil ?_
        have e := Option.some.inj h332
        subst e
        exact ⟨rfl, ⟨z350, IntKind.wrap .i64 (i305 + 1), ad353, cp354, rfl, ⟨rfl, rfl, rfl, trivial⟩, rfl, rfl⟩⟩
      · have h332 := cf hc346 h332
        refine CJ.skip ?_
        refine CJ.region ?_
        refine J.val (v := .int .i64 i305) rfl rfl (V.mv rfl) ?_
        refine J.val (v := .int .i64 (IntKind.wrap .i64 (i305 + 1))) rfl rfl (V.add rfl rfl) ?_
        refine J.val (v := .int .i64 (IntKind.wrap .i64 (i305 + 1))) rfl rfl (V.as rfl) ?_
        refine J.nil ?_
        have e := Option.some.inj h332
        subst e
        exact ⟨rfl, ⟨l300, IntKind.wrap .i64 (i305 + 1), ad301, cp302, rfl, ⟨rfl, rfl, rfl, trivial⟩, rfl, rfl⟩⟩
    · have h332 := cf hc336 h332
      refine CJ.exit ?_
      have e := Option.some.inj h332
      subst e
      refine ⟨nofun, fun e => ?_⟩
      subst e
      exact ⟨rfl, ⟨l300, ad301, cp302, rfl, ⟨rfl, trivial⟩, rfl, rfl⟩⟩
  · rintro ρ _ _ ⟨l267, ad268, cp269, rfl, hf356, rfl, rfl⟩
    obtain ⟨ρ, rfl⟩ := hf356.ex
    refine PJ.wit Row.hn (fun hn271 => ?_)
    refine PJ.done ?_
    refine CJ.seq ?_
    refine CJ.region ?_
    refine J.val (v := .slice ad268 l267.length cp269) rfl rfl (V.mv rfl) ?_
    refine J.val (v := .slice ad268 l267.length cp269) rfl rfl (V.as rfl) ?_
    refine J.nil ?_
    refine CJ.ret ?_
    have e := Option.some.inj h
    subst e
    exact ⟨_, [Row Hp.nil 3 (.int .i64) (.slice ad268 l267.length cp269) l267], Res.one rfl rfl, ⟨l267, ad268, cp269, rfl, rfl, rfl⟩, (Hp.le_refl _), fun w hs => hs⟩
end Go.Proofs.Ytoghdhopojoggaa
