/- What Go functions answer: generated. -/
import Derived.Test.YtoghdhopojoggaaF3
namespace Go.Proofs.Ytoghdhopojoggaa
open Go.RowKit
set_option linter.unusedVariables false
noncomputable def fn_law10_GraphTurns_l1 (xb : (List (Int × Int))) (p1813 : (Option (Int × (List (Int × Int)) × ((List Int) × (List Int)) × ((List Int) × (List Int))))) (p1821 : (Option (Int × (List (Int × Int)) × ((List Int) × (List Int)) × ((List Int) × (List Int))))) : Int → Option (Int ⊕ (Unit ⊕ Bool)) := fun (i2265 : Int) => cond (decide (i2265 < (((xb.length : Nat) : Int)))) ((fn_graph_Graph_Arc p1813 i2265).bind fun (i2372, i2373, t2374) => (fn_graph_Graph_Arc p1821 i2265).bind fun (i2381, i2382, t2383) => (getI xb i2265).bind fun x2427 => cond (!decide (i2372 = x2427.2)) (some (.inr ((.inr (false))))) ((getI xb i2265).bind fun x2437 => cond (!decide (i2373 = x2437.1)) (some (.inr ((.inr (false))))) ((getI xb i2265).bind fun x2447 => cond (!decide (i2381 = x2447.1)) (some (.inr ((.inr (false))))) ((getI xb i2265).bind fun x2457 => cond (!decide (i2382 = x2457.2)) (some (.inr ((.inr (false))))) (some (.inl (IntKind.wrap .i64 (i2265 + 1)))))))) (some (.inr ((.inl ()))))
noncomputable def fn_law10_GraphTurns_l2 (xc : Int) (l3412 : (List Int)) : (Bool × Int) → Option ((Bool × Int) ⊕ Bool) := fun ((t3489, i3490) : (Bool × Int)) => cond (decide (i3490 < (((l3412.length : Nat) : Int)))) ((cond (t3489) (some (true)) ((getI l3412 i3490).bind fun x3528 => some (decide (x3528 = xc)))).bind fun t3525 => some (.inl ((t3525, IntKind.wrap .i64 (i3490 + 1))))) (some (.inr (t3489)))
noncomputable def fn_law10_GraphTurns_l3 (xc : Int) (p1813 : (Option (Int × (List (Int × Int)) × ((List Int) × (List Int)) × ((List Int) × (List Int))))) (l2502 : (List Int)) : Int → Option (Int ⊕ (Unit ⊕ Bool)) := fun (i3260 : Int) => cond (decide (i3260 < (((l2502.length : Nat) : Int)))) ((getI l2502 i3260).bind fun x3403 => (fn_graph_Graph_Reach p1813 x3403).bind fun l3412 => (loop (fn_law10_GraphTurns_l2 xc l3412) (false, 0)).bind fun t3476 => cond (!t3476) (some (.inr ((.inr (false))))) (some (.inl (IntKind.wrap .i64 (i3260 + 1))))) (some (.inr ((.inl ()))))
noncomputable def fn_law10_GraphTurns (xa : Int) (xb : (List (Int × Int))) (xc : Int) : Option Bool :=
  cond ((decide (40 < (((xb.length : Nat) : Int)))) || (decide (20 < xa))) ((fn_law10_awake).bind fun t1781 => some (t1781)) ((fn_law10_Of xa xb).bind fun (p1787, i1788) => cond (!decide (i1788 = 0)) ((cond (p1787.isNone) ((fn_law10_awake).bind fun t1807 => some (t1807)) (some (false))).bind fun t1802 => some (t1802)) ((fn_graph_Graph_Turn p1787).bind fun p1813 => (fn_graph_Graph_Turn p1813).bind fun p1821 => (cond (p1813.isNone || p1821.isNone) (some (true)) ((fn_graph_Graph_Nodes p1813).bind fun i1842 => some (!decide (i1842 = xa)))).bind fun t1837 => (cond (t1837) (some (true)) ((fn_graph_Graph_Arcs p1813).bind fun i1858 => some (!decide (i1858 = (((xb.length : Nat) : Int)))))).bind fun t1853 => cond (t1853) (some (false)) ((loop (fn_law10_GraphTurns_l1 xb p1813 p1821) 0 : Option (Unit ⊕ Bool)).bind fun o => match o with | .inr r => some r | .inl () => cond ((decide (xc < 0)) || (decide (xa ≤ xc))) ((fn_graph_Graph_Reach p1787 xc).bind fun l2476 => (cond (decide ((((l2476.length : Nat) : Int)) = 0)) ((fn_law10_awake).bind fun t2496 => some (t2496)) (some (false))).bind fun t2491 => some (t2491)) ((fn_graph_Graph_Reach p1787 xc).bind fun l2502 => (fn_ref10_Reach xa xb xc).bind fun l2512 => (fn_ref10_Nodes l2512).bind fun l2525 => (fn_ref01_Same l2502 l2525).bind fun t2541 => cond (!t2541) (some (false)) ((fn_graph_Graph_Next p1813 xc).bind fun l2594 => (fn_ref10_Turn xb).bind fun l2604 => (fn_ref10_Next l2604 xc).bind fun l2617 => (fn_ref01_Same l2594 l2617).bind fun t2633 => (cond (!t2633) (some (true)) ((fn_graph_Graph_Out p1821 xc).bind fun l2675 => (fn_graph_Graph_Out p1787 xc).bind fun l2685 => (fn_ref01_Same l2675 l2685).bind fun t2701 => some (!t2701))).bind fun t2670 => cond (t2670) (some (false)) ((loop (fn_law10_GraphTurns_l3 xc p1813 l2502) 0 : Option (Unit ⊕ Bool)).bind fun o => match o with | .inr r => some r | .inl () => (fn_law10_awake).bind fun t3543 => some (t3543)))))))
set_option maxRecDepth 100000 in
set_option maxHeartbeats 4000000 in
theorem law10_GraphTurns_ok {K : Hp} {xa : Int} {xb : (List (Int × Int))} {xc : Int} {adxb_0 : Option Addr} {cpxb_0 : Nat} (fxb_0 : Is K (.sl (.cons (.int .i64) (.one (.int .i64)))) [.slice adxb_0 xb.length cpxb_0] xb) {r : Bool} (h : fn_law10_GraphTurns xa xb xc = some r) :
    Tr Try.prog 4 #[.int .i64 xa, .slice adxb_0 xb.length cpxb_0, .int .i64 xc] K [] (fun v K' L' => (∃ (t1774 : Bool), t1774 = r ∧ .bool t1774 = v ∧ L' = []) ∧ K = K') := by
  refine Tr.k ?_
  refine Tr.of Try.func4 rfl Try.ntmps4 rfl (fun E F => ?_)
  unfold fn_law10_GraphTurns at h
  refine CJ.seq ?_
  refine CJ.region ?_
  refine J.val (v := .bool false) rfl rfl (V.as rfl) ?_
  refine J.nil ?_
  refine CJ.seq ?_
  refine CJ.seq ?_
  refine CJ.region ?_
  refine J.val (v := .slice adxb_0 xb.length cpxb_0) rfl rfl (V.mv rfl) ?_
  refine J.val (v := .int .i64 (((xb.length : Nat) : Int))) rfl rfl (V.len Try.underlying22 rfl) ?_
  refine J.val (v := .bool (decide (40 < (((xb.length : Nat) : Int))))) rfl rfl (V.gtr rfl rfl) ?_
  refine J.val (v := .bool (decide (40 < (((xb.length : Nat) : Int))))) rfl rfl (V.mv rfl) ?_
  refine J.cut 3 ?_
  refine @J.meet _ _ _ _ _ _ _ _ _ _ (fun ρ K' L' => Fits [(27, .bool ((decide (40 < (((xb.length : Nat) : Int)))) || (decide (20 < xa)))), (0, .int .i64 xa), (1, .slice adxb_0 xb.length cpxb_0), (2, .int .i64 xc)] ρ ∧ K = K' ∧ F = L') ?_ ?_
  · skip
    rcases bt (decide (40 < (((xb.length : Nat) : Int)))) with hc1777 | hc1777
    · skip
      refine J.skip rfl rfl rfl rfl hc1777 ?_
      refine J.skip rfl rfl rfl rfl hc1777 ?_
      refine J.val (v := .bool true) rfl rfl (V.pickT rfl hc1777 rfl) ?_
      refine J.nil ?_
      exact ⟨rfl, ⟨(by simp only [hc1777]; rfl), rfl, rfl, rfl, trivial⟩, rfl, rfl⟩
    · skip
      refine J.run rfl rfl rfl hc1777 ?_
      refine J.val (v := .int .i64 xa) rfl rfl (V.mv rfl) ?_
      refine J.run rfl rfl rfl hc1777 ?_
      refine J.val (v := .bool (decide (20 < xa))) rfl rfl (V.gtr rfl rfl) ?_
      refine J.val (v := .bool (decide (20 < xa))) rfl rfl (V.pickF rfl hc1777 rfl) ?_
      refine J.nil ?_
      exact ⟨rfl, ⟨(by simp only [hc1777]; rfl), rfl, rfl, rfl, trivial⟩, rfl, rfl⟩
  · rintro ρ _ _ ⟨hf, rfl, rfl⟩
    obtain ⟨ρ, rfl⟩ := hf.ex
    refine J.nil ?_
    refine CJ.cond rfl (fun hc1778 => ?_) (fun hc1778 => ?_)
    · have h := ct hc1778 h
      refine CJ.seq ?_
      refine CJ.region ?_
      obtain ⟨r1779, hr1780, h⟩ := ob h
      refine J.op rfl (A.call (L1 := []) Try.call6 rfl (law10_awake_ok hr1780) rfl rfl) ?_
      rintro _ _ _ ⟨v1782, _, rfl, ⟨⟨t1781, rfl, rfl, rfl⟩, rfl⟩, _, rfl⟩
      refine J.val (v := .bool t1781) rfl rfl (V.as rfl) ?_
      refine J.nil ?_
      refine CJ.ret ?_
      have e := Option.some.inj h
      subst e
      exact ⟨_, [], Res.one rfl rfl, ⟨t1781, rfl, rfl, rfl⟩, (Hp.le_refl _), fun w hs => hs⟩
    · have h := cf hc1778 h
      refine CJ.skip ?_
      refine CJ.seq ?_
      refine CJ.region ?_
      refine J.val (v := .int .i64 xa) rfl rfl (V.mv rfl) ?_
      refine J.val (v := .slice adxb_0 xb.length cpxb_0) rfl rfl (V.mv rfl) ?_
      obtain ⟨r1785, hr1786, h⟩ := ob h
      refine J.op rfl (A.call (L1 := []) Try.call7 rfl (law10_Of_ok fxb_0 hr1786) rfl rfl) ?_
      rintro _ K1792 _ ⟨v1791, _, rfl, ⟨p1787, i1788, v1789, rfl, rfl, f1790, rfl⟩, hK1793, rfl⟩
      refine J.val (v := .tuple #[v1789, .int .i64 i1788]) rfl rfl (V.mv rfl) ?_
      refine J.val (v := v1789) rfl rfl (V.ext rfl rfl) ?_
      refine J.val (v := .int .i64 i1788) rfl rfl (V.ext rfl rfl) ?_
      refine J.val (v := v1789) rfl rfl (V.as rfl) ?_
      refine J.val (v := .int .i64 i1788) rfl rfl (V.as rfl) ?_
      refine J.nil ?_
      refine CJ.seq ?_
      refine CJ.seq ?_
      refine CJ.region ?_
      refine J.val (v := .int .i64 i1788) rfl rfl (V.mv rfl) ?_
      refine J.val (v := .bool (!decide (i1788 = 0))) rfl rfl (V.neq rfl rfl) ?_
      refine J.nil ?_
      refine CJ.cond rfl (fun hc1794 => ?_) (fun hc1794 => ?_)
      · have h := ct hc1794 h
        refine CJ.seq ?_
        refine CJ.region ?_
        refine J.val (v := v1789) rfl rfl (V.mv rfl) ?_
        refine J.val (v := .bool p1787.isNone) rfl rfl (V.kp_eql Try.underlying24 f1790 rfl rfl) ?_
        refine J.val (v := .bool p1787.isNone) rfl rfl (V.mv rfl) ?_
        refine J.cut 2 ?_
        obtain ⟨t1802, ht1803, h⟩ := ob h
        refine @J.meet _ _ _ _ _ _ _ _ _ _ (fun ρ K' L' => Fits [(41, .bool t1802)] ρ ∧ K1792 = K' ∧ F = L') ?_ ?_
        · skip
          rcases bt (p1787.isNone) with hc1804 | hc1804
          · have ht1803 := ct hc1804 ht1803
            refine J.run rfl rfl rfl hc1804 ?_
            obtain ⟨r1805, hr1806, ht1803⟩ := ob ht1803
            refine J.op rfl (A.call (L1 := []) Try.call6 rfl (law10_awake_ok hr1806) rfl rfl) ?_
            rintro _ _ _ ⟨v1808, _, rfl, ⟨⟨t1807, rfl, rfl, rfl⟩, rfl⟩, _, rfl⟩
            refine J.val (v := .bool t1807) rfl rfl (V.pickT rfl hc1804 rfl) ?_
            refine J.nil ?_
            have e := Option.some.inj ht1803
            subst e
            exact ⟨rfl, ⟨rfl, trivial⟩, rfl, rfl⟩
          · have ht1803 := cf hc1804 ht1803
            refine J.skip rfl rfl rfl rfl hc1804 ?_
            refine J.val (v := .bool false) rfl rfl (V.pickF rfl hc1804 rfl) ?_
            refine J.nil ?_
            have e := Option.some.inj ht1803
            subst e
            exact ⟨rfl, ⟨rfl, trivial⟩, rfl, rfl⟩
        · rintro ρ _ _ ⟨hf, rfl, rfl⟩
          obtain ⟨ρ, rfl⟩ := hf.ex
          refine J.val (v := .bool t1802) rfl rfl (V.as rfl) ?_
          refine J.nil ?_
          refine CJ.ret ?_
          have e := Option.some.inj h
          subst e
          exact ⟨_, [], Res.one rfl rfl, ⟨t1802, rfl, rfl, rfl⟩, hK1793, fun w hs => hs⟩
      · have h := cf hc1794 h
        refine CJ.skip ?_
        refine CJ.seq ?_
        refine CJ.region ?_
        refine J.val (v := v1789) rfl rfl (V.mv rfl) ?_
        obtain ⟨r1811, hr1812, h⟩ := ob h
        refine J.op rfl (A.call (L1 := []) Try.call15 rfl (graph_Graph_Turn_ok f1790 hr1812) rfl rfl) ?_
        rintro _ K1817 _ ⟨v1816, _, rfl, ⟨p1813, v1814, rfl, rfl, f1815, rfl⟩, hK1818, rfl⟩
        refine J.val (v := v1814) rfl rfl (V.as rfl) ?_
        refine J.nil ?_
        refine CJ.seq ?_
        refine CJ.region ?_
        refine J.val (v := v1814) rfl rfl (V.mv rfl) ?_
        obtain ⟨r1819, hr1820, h⟩ := ob h
        refine J.op rfl (A.call (L1 := []) Try.call15 rfl (graph_Graph_Turn_ok f1815 hr1820) rfl rfl) ?_
        rintro _ K1825 _ ⟨v1824, _, rfl, ⟨p1821, v1822, rfl, rfl, f1823, rfl⟩, hK1826, rfl⟩
        refine J.val (v := v1822) rfl rfl (V.as rfl) ?_
        refine J.nil ?_
        refine CJ.seq ?_
        refine CJ.seq ?_
        refine CJ.region ?_
        refine J.val (v := v1814) rfl rfl (V.mv rfl) ?_
        refine J.val (v := .bool p1813.isNone) rfl rfl (V.kp_eql Try.underlying24 (f1815.mono hK1826) rfl rfl) ?_
        refine J.val (v := .bool p1813.isNone) rfl rfl (V.mv rfl) ?_
        refine J.cut 3 ?_
        refine @J.meet _ _ _ _ _ _ _ _ _ _ (fun ρ K' L' => Fits [(51, .bool (p1813.isNone || p1821.isNone)), (0, .int .i64 xa), (1, .slice adxb_0 xb.length cpxb_0), (2, .int .i64 xc), (7, v1789), (9, v1814), (10, v1822)] ρ ∧ K1825 = K' ∧ F = L') ?_ ?_
        · skip
          rcases bt (p1813.isNone) with hc1829 | hc1829
          · skip
            refine J.skip rfl rfl rfl rfl hc1829 ?_
            refine J.skip rfl rfl rfl rfl hc1829 ?_
            refine J.val (v := .bool true) rfl rfl (V.pickT rfl hc1829 rfl) ?_
            refine J.nil ?_
            exact ⟨rfl, ⟨(by simp only [hc1829]; rfl), rfl, rfl, rfl, rfl, rfl, rfl, trivial⟩, rfl, rfl⟩
          · skip
            refine J.run rfl rfl rfl hc1829 ?_
            refine J.val (v := v1822) rfl rfl (V.mv rfl) ?_
            refine J.run rfl rfl rfl hc1829 ?_
            refine J.val (v := .bool p1821.isNone) rfl rfl (V.kp_eql Try.underlying24 f1823 rfl rfl) ?_
            refine J.val (v := .bool p1821.isNone) rfl rfl (V.pickF rfl hc1829 rfl) ?_
            refine J.nil ?_
            exact ⟨rfl, ⟨(by simp only [hc1829]; rfl), rfl, rfl, rfl, rfl, rfl, rfl, trivial⟩, rfl, rfl⟩
        · rintro ρ _ _ ⟨hf, rfl, rfl⟩
          obtain ⟨ρ, rfl⟩ := hf.ex
          refine J.val (v := .bool (p1813.isNone || p1821.isNone)) rfl rfl (V.mv rfl) ?_
          refine J.cut 5 ?_
          obtain ⟨t1837, ht1838, h⟩ := ob h
          refine @J.meet _ _ _ _ _ _ _ _ _ _ (fun ρ K' L' => Fits [(57, .bool t1837), (0, .int .i64 xa), (1, .slice adxb_0 xb.length cpxb_0), (2, .int .i64 xc), (7, v1789), (9, v1814), (10, v1822)] ρ ∧ K1825 = K' ∧ F = L') ?_ ?_
          · skip
            rcases bt (p1813.isNone || p1821.isNone) with hc1839 | hc1839
            · have ht1838 := ct hc1839 ht1838
              refine J.skip rfl rfl rfl rfl hc1839 ?_
              refine J.skip rfl rfl rfl rfl hc1839 ?_
              refine J.skip rfl rfl rfl rfl hc1839 ?_
              refine J.skip rfl rfl rfl rfl hc1839 ?_
              refine J.val (v := .bool true) rfl rfl (V.pickT rfl hc1839 rfl) ?_
              refine J.nil ?_
              have e := Option.some.inj ht1838
              subst e
              exact ⟨rfl, ⟨rfl, rfl, rfl, rfl, rfl, rfl, rfl, trivial⟩, rfl, rfl⟩
            · have ht1838 := cf hc1839 ht1838
              refine J.run rfl rfl rfl hc1839 ?_
              refine J.val (v := v1814) rfl rfl (V.mv rfl) ?_
              refine J.run rfl rfl rfl hc1839 ?_
              obtain ⟨r1840, hr1841, ht1838⟩ := ob ht1838
              refine J.op rfl (A.call (L1 := []) Try.call9 rfl (graph_Graph_Nodes_ok (f1815.mono hK1826) hr1841) rfl rfl) ?_
              rintro _ _ _ ⟨v1843, _, rfl, ⟨⟨i1842, rfl, rfl, rfl⟩, rfl⟩, _, rfl⟩
              refine J.run rfl rfl rfl hc1839 ?_
              refine J.val (v := .int .i64 xa) rfl rfl (V.mv rfl) ?_
              refine J.run rfl rfl rfl hc1839 ?_
              refine J.val (v := .bool (!decide (i1842 = xa))) rfl rfl (V.neq rfl rfl) ?_
              refine J.val (v := .bool (!decide (i1842 = xa))) rfl rfl (V.pickF rfl hc1839 rfl) ?_
              refine J.nil ?_
              have e := Option.some.inj ht1838
              subst e
              exact ⟨rfl, ⟨rfl, rfl, rfl, rfl, rfl, rfl, rfl, trivial⟩, rfl, rfl⟩
          · rintro ρ _ _ ⟨hf, rfl, rfl⟩
            obtain ⟨ρ, rfl⟩ := hf.ex
            refine J.val (v := .bool t1837) rfl rfl (V.mv rfl) ?_
            refine J.cut 6 ?_
            obtain ⟨t1853, ht1854, h⟩ := ob h
            refine @J.meet _ _ _ _ _ _ _ _ _ _ (fun ρ K' L' => Fits [(64, .bool t1853), (0, .int .i64 xa), (1, .slice adxb_0 xb.length cpxb_0), (2, .int .i64 xc), (7, v1789), (9, v1814), (10, v1822)] ρ ∧ K1825 = K' ∧ F = L') ?_ ?_
            · skip
              rcases bt (t1837) with hc1855 | hc1855
              · have ht1854 := ct hc1855 ht1854
                refine J.skip rfl rfl rfl rfl hc1855 ?_
                refine J.skip rfl rfl rfl rfl hc1855 ?_
                refine J.skip rfl rfl rfl rfl hc1855 ?_
                refine J.skip rfl rfl rfl rfl hc1855 ?_
                refine J.skip rfl rfl rfl rfl hc1855 ?_
                refine J.val (v := .bool true) rfl rfl (V.pickT rfl hc1855 rfl) ?_
                refine J.nil ?_
                have e := Option.some.inj ht1854
                subst e
                exact ⟨rfl, ⟨rfl, rfl, rfl, rfl, rfl, rfl, rfl, trivial⟩, rfl, rfl⟩
              · have ht1854 := cf hc1855 ht1854
                refine J.run rfl rfl rfl hc1855 ?_
                refine J.val (v := v1814) rfl rfl (V.mv rfl) ?_
                refine J.run rfl rfl rfl hc1855 ?_
                obtain ⟨r1856, hr1857, ht1854⟩ := ob ht1854
                refine J.op rfl (A.call (L1 := []) Try.call10 rfl (graph_Graph_Arcs_ok (f1815.mono hK1826) hr1857) rfl rfl) ?_
                rintro _ _ _ ⟨v1859, _, rfl, ⟨⟨i1858, rfl, rfl, rfl⟩, rfl⟩, _, rfl⟩
                refine J.run rfl rfl rfl hc1855 ?_
                refine J.val (v := .slice adxb_0 xb.length cpxb_0) rfl rfl (V.mv rfl) ?_
                refine J.run rfl rfl rfl hc1855 ?_
                refine J.val (v := .int .i64 (((xb.length : Nat) : Int))) rfl rfl (V.len Try.underlying22 rfl) ?_
                refine J.run rfl rfl rfl hc1855 ?_
                refine J.val (v := .bool (!decide (i1858 = (((xb.length : Nat) : Int))))) rfl rfl (V.neq rfl rfl) ?_
                refine J.val (v := .bool (!decide (i1858 = (((xb.length : Nat) : Int))))) rfl rfl (V.pickF rfl hc1855 rfl) ?_
                refine J.nil ?_
                have e := Option.some.inj ht1854
                subst e
                exact ⟨rfl, ⟨rfl, rfl, rfl, rfl, rfl, rfl, rfl, trivial⟩, rfl, rfl⟩
            · rintro ρ _ _ ⟨hf, rfl, rfl⟩
              obtain ⟨ρ, rfl⟩ := hf.ex
              refine J.nil ?_
              refine CJ.cond rfl (fun hc1862 => ?_) (fun hc1862 => ?_)
              · have h := ct hc1862 h
                refine CJ.seq ?_
                refine CJ.region ?_
                refine J.val (v := .bool false) rfl rfl (V.as rfl) ?_
                refine J.nil ?_
                refine CJ.ret ?_
                have e := Option.some.inj h
                subst e
                exact ⟨_, [], Res.one rfl rfl, ⟨false, rfl, rfl, rfl⟩, ((hK1793.trans hK1818).trans hK1826), fun w hs => hs⟩
              · have h := cf hc1862 h
                refine CJ.skip ?_
                refine CJ.seq ?_
                refine CJ.seq ?_
                refine CJ.region ?_
                refine J.val (v := .int .i64 0) rfl rfl (V.as rfl) ?_
                refine J.nil ?_
                obtain ⟨o2164, ho2165, h⟩ := ob h
                refine CJ.joinN (o := o2164) (fun s ρ K' L' => () = s ∧ Fits [(0, .int .i64 xa), (1, .slice adxb_0 xb.length cpxb_0), (2, .int .i64 xc), (7, v1789), (9, v1814), (10, v1822)] ρ ∧ K1825 = K' ∧ F = L') ?_ ?_
                · skip
                  refine CJ.block ?_
                  refine CJ.loop (fun s ρ K' L' => ∃ (i2265 : Int), i2265 = s ∧ Fits [(0, .int .i64 xa), (1, .slice adxb_0 xb.length cpxb_0), (2, .int .i64 xc), (7, v1789), (9, v1814), (10, v1822), (11, .int .i64 i2265)] ρ ∧ K1825 = K' ∧ F = L') ho2165 ⟨0, rfl, ⟨rfl, rfl, rfl, rfl, rfl, rfl, rfl, trivial⟩, rfl, rfl⟩ ?_
                  rintro s ρ _ _ r2368 ⟨i2265, rfl, hf2366, rfl, rfl⟩ h2365
                  obtain ⟨ρ, rfl⟩ := hf2366.ex
                  refine CJ.seq ?_
                  refine CJ.seq ?_
                  refine CJ.region ?_
                  refine J.val (v := .int .i64 i2265) rfl rfl (V.mv rfl) ?_
                  refine J.val (v := .slice adxb_0 xb.length cpxb_0) rfl rfl (V.mv rfl) ?_
                  refine J.val (v := .int .i64 (((xb.length : Nat) : Int))) rfl rfl (V.len Try.underlying22 rfl) ?_
                  refine J.val (v := .bool (decide (i2265 < (((xb.length : Nat) : Int))))) rfl rfl (V.lss rfl rfl) ?_
                  refine J.nil ?_
                  refine CJ.cond rfl (fun hc2369 => ?_) (fun hc2369 => ?_)
                  · have h2365 := ct hc2369 h2365
                    refine CJ.skip ?_
                    refine CJ.seq ?_
                    refine CJ.block ?_
                    refine CJ.seq ?_
                    refine CJ.region ?_
                    refine J.val (v := v1814) rfl rfl (V.mv rfl) ?_
                    refine J.val (v := .int .i64 i2265) rfl rfl (V.mv rfl) ?_
                    obtain ⟨r2370, hr2371, h2365⟩ := ob h2365
                    refine J.op rfl (A.call (L1 := []) Try.call16 rfl (graph_Graph_Arc_ok (f1815.mono hK1826) hr2371) rfl rfl) ?_
                    rintro _ _ _ ⟨v2375, _, rfl, ⟨⟨i2372, i2373, t2374, rfl, rfl, rfl⟩, rfl⟩, _, rfl⟩
                    refine J.val (v := .tuple #[.agg #[.int .i64 i2372, .int .i64 i2373], .bool t2374]) rfl rfl (V.mv rfl) ?_
                    refine J.val (v := .agg #[.int .i64 i2372, .int .i64 i2373]) rfl rfl (V.ext rfl rfl) ?_
                    refine J.val (v := .bool t2374) rfl rfl (V.ext rfl rfl) ?_
                    refine J.op rfl (A.alloc (cs := [.int .i64 0, .int .i64 0]) inf34 rfl) ?_
                    rintro _ _ _ ⟨b2378, rfl, rfl, rfl⟩
                    refine J.op rfl (A.store (v := .agg #[.int .i64 i2372, .int .i64 i2373]) (cs' := [.int .i64 i2372, .int .i64 i2373]) sz34 rfl rfl rfl rfl rfl rfl) ?_
                    rintro _ _ _ ⟨rfl, rfl, rfl⟩
                    refine J.val (v := .bool t2374) rfl rfl (V.as rfl) ?_
                    refine J.nil ?_
                    refine CJ.seq ?_
                    refine CJ.region ?_
                    refine J.val (v := v1822) rfl rfl (V.mv rfl) ?_
                    refine J.val (v := .int .i64 i2265) rfl rfl (V.mv rfl) ?_
                    obtain ⟨r2379, hr2380, h2365⟩ := ob h2365
                    refine J.op rfl (A.call (L1 := []) Try.call16 rfl (graph_Graph_Arc_ok f1823 hr2380) rfl rfl) ?_
                    rintro _ _ _ ⟨v2384, _, rfl, ⟨⟨i2381, i2382, t2383, rfl, rfl, rfl⟩, rfl⟩, _, rfl⟩
                    refine J.val (v := .tuple #[.agg #[.int .i64 i2381, .int .i64 i2382], .bool t2383]) rfl rfl (V.mv rfl) ?_
                    refine J.val (v := .agg #[.int .i64 i2381, .int .i64 i2382]) rfl rfl (V.ext rfl rfl) ?_
                    refine J.val (v := .bool t2383) rfl rfl (V.ext rfl rfl) ?_
                    refine J.op rfl (A.alloc (cs := [.int .i64 0, .int .i64 0]) inf34 rfl) ?_
                    rintro _ _ _ ⟨b2387, rfl, rfl, rfl⟩
                    refine J.op rfl (A.store (v := .agg #[.int .i64 i2381, .int .i64 i2382]) (cs' := [.int .i64 i2381, .int .i64 i2382]) sz34 rfl rfl rfl rfl rfl rfl) ?_
                    rintro _ _ _ ⟨rfl, rfl, rfl⟩
                    refine J.val (v := .bool t2383) rfl rfl (V.as rfl) ?_
                    refine J.nil ?_
                    refine CJ.seq ?_
                    refine CJ.mix [Cl b2387 34 [.int .i64 i2381, .int .i64 i2382], Cl b2378 34 [.int .i64 i2372, .int .i64 i2373]] [] [0, 1, 2, 3, 4, 5, 6, 7, 8, 9, 10, 11, 12, 13, 14, 15, 16, 17, 18, 19, 20, 21, 22, 23, 24, 25, 26, 27, 28, 29, 30, 31, 32, 33, 34, 35, 36, 37] [] mixO (by decide +kernel) ⟨0, rfl, 0, rfl, trivial⟩ rfl rfl rfl ?_
                    refine JM.nil ?_
                    refine JQ.val rfl rfl (V.fad Try.underlying34 rfl nz3 rfl) ?_
                    refine JQ.val (v := .int .i64 i2372) rfl rfl (V.ld rfl (Ld.sc sc3 (Rd.cl 1 rfl rfl))) ?_
                    refine JQ.val (v := .slice adxb_0 xb.length cpxb_0) rfl rfl (V.mv rfl) ?_
                    refine JQ.val (v := .int .i64 i2265) rfl rfl (V.mv rfl) ?_
                    obtain ⟨x2427, hx2428, h2365⟩ := ob h2365
                    obtain ⟨p2429, p2430, p2431⟩ := getI_some hx2428
                    obtain ⟨b2432, o2433, e2434, a2435⟩ := ((fxb_0.mono ((hK1793.trans hK1818).trans hK1826))).at p2430
                    refine JQ.val rfl rfl (V.iad Try.underlying22 sz37 rfl e2434 rfl p2429 p2431) ?_
                    refine JQ.val rfl rfl (V.fad Try.underlying37 rfl nz3 rfl) ?_
                    refine JQ.val (v := .int .i64 x2427.2) rfl rfl (V.ld rfl (Ld.sc sc3 (Rd.k (((a2435).snd).one).int (Hp.le_refl _)))) ?_
                    refine JQ.val (v := .bool (!decide (i2372 = x2427.2))) rfl rfl (V.neq rfl rfl) ?_
                    refine JQ.val (v := .bool (!decide (i2372 = x2427.2))) rfl rfl (V.mv rfl) ?_
                    rcases bt (!decide (i2372 = x2427.2)) with hc2436 | hc2436
                    · have h2365 := ct hc2436 h2365
                      refine JQ.skip rfl rfl rfl rfl hc2436 ?_
                      refine JQ.skip rfl rfl rfl rfl hc2436 ?_
                      refine JQ.skip rfl rfl rfl rfl hc2436 ?_
                      refine JQ.skip rfl rfl rfl rfl hc2436 ?_
                      refine JQ.skip rfl rfl rfl rfl hc2436 ?_
                      refine JQ.skip rfl rfl rfl rfl hc2436 ?_
                      refine JQ.skip rfl rfl rfl rfl hc2436 ?_
                      refine JQ.skip rfl rfl rfl rfl hc2436 ?_
                      refine JQ.val (v := .bool true) rfl rfl (V.pickT rfl hc2436 rfl) ?_
                      refine JQ.val (v := .bool true) rfl rfl (V.mv rfl) ?_
                      refine JQ.skip rfl rfl rfl rfl rfl ?_
                      refine JQ.skip rfl rfl rfl rfl rfl ?_
                      refine JQ.skip rfl rfl rfl rfl rfl ?_
                      refine JQ.skip rfl rfl rfl rfl rfl ?_
                      refine JQ.skip rfl rfl rfl rfl rfl ?_
                      refine JQ.skip rfl rfl rfl rfl rfl ?_
                      refine JQ.skip rfl rfl rfl rfl rfl ?_
                      refine JQ.skip rfl rfl rfl rfl rfl ?_
                      refine JQ.val (v := .bool true) rfl rfl (V.pickT rfl rfl rfl) ?_
                      refine JQ.val (v := .bool true) rfl rfl (V.mv rfl) ?_
                      refine JQ.skip rfl rfl rfl rfl rfl ?_
                      refine JQ.skip rfl rfl rfl rfl rfl ?_
                      refine JQ.skip rfl rfl rfl rfl rfl ?_
                      refine JQ.skip rfl rfl rfl rfl rfl ?_
                      refine JQ.skip rfl rfl rfl rfl rfl ?_
                      refine JQ.skip rfl rfl rfl rfl rfl ?_
                      refine JQ.skip rfl rfl rfl rfl rfl ?_
                      refine JQ.skip rfl rfl rfl rfl rfl ?_
                      refine JQ.val (v := .bool true) rfl rfl (V.pickT rfl rfl rfl) ?_
                      refine JQ.nil ?_
                      refine J.nil ?_
                      refine CJ.condK (b := true) rfl rfl ?_
                      refine CJ.seq ?_
                      refine CJ.region ?_
                      refine J.val (v := .bool false) rfl rfl (V.as rfl) ?_
                      refine J.nil ?_
                      refine CJ.ret ?_
                      have e := Option.some.inj h2365
                      subst e
                      refine ⟨nofun, fun e => ?_⟩
                      subst e
                      refine .inr ⟨nofun, ?_⟩
                      have e := Option.some.inj h
                      subst e
                      exact ⟨_, [], Res.one rfl rfl, ⟨false, rfl, rfl, rfl⟩, ((hK1793.trans hK1818).trans hK1826), fun w hs => (Sep.dropAt 0 rfl (Sep.dropAt 0 rfl hs))⟩
                    · have h2365 := cf hc2436 h2365
                      refine JQ.run rfl rfl rfl hc2436 ?_
                      refine JQ.val rfl rfl (V.fad Try.underlying34 rfl nz3 rfl) ?_
                      refine JQ.run rfl rfl rfl hc2436 ?_
                      refine JQ.val (v := .int .i64 i2373) rfl rfl (V.ld rfl (Ld.sc sc3 (Rd.cl 1 rfl rfl))) ?_
                      refine JQ.run rfl rfl rfl hc2436 ?_
                      refine JQ.val (v := .slice adxb_0 xb.length cpxb_0) rfl rfl (V.mv rfl) ?_
                      refine JQ.run rfl rfl rfl hc2436 ?_
                      refine JQ.val (v := .int .i64 i2265) rfl rfl (V.mv rfl) ?_
                      refine JQ.run rfl rfl rfl hc2436 ?_
                      obtain ⟨x2437, hx2438, h2365⟩ := ob h2365
                      obtain ⟨p2439, p2440, p2441⟩ := getI_some hx2438
                      obtain ⟨b2442, o2443, e2444, a2445⟩ := ((fxb_0.mono ((hK1793.trans hK1818).trans hK1826))).at p2440
                      refine JQ.val rfl rfl (V.iad Try.underlying22 sz37 rfl e2444 rfl p2439 p2441) ?_
                      refine JQ.run rfl rfl rfl hc2436 ?_
                      refine JQ.val rfl rfl (V.fad Try.underlying37 rfl nz3 rfl) ?_
                      refine JQ.run rfl rfl rfl hc2436 ?_
                      refine JQ.val (v := .int .i64 x2437.1) rfl rfl (V.ld rfl (Ld.sc sc3 (Rd.k ((a2445).fst).int (Hp.le_refl _)))) ?_
                      refine JQ.run rfl rfl rfl hc2436 ?_
                      refine JQ.val (v := .bool (!decide (i2373 = x2437.1))) rfl rfl (V.neq rfl rfl) ?_
                      refine JQ.val (v := .bool (!decide (i2373 = x2437.1))) rfl rfl (V.pickF rfl hc2436 rfl) ?_
                      refine JQ.val (v := .bool (!decide (i2373 = x2437.1))) rfl rfl (V.mv rfl) ?_
                      rcases bt (!decide (i2373 = x2437.1)) with hc2446 | hc2446
                      · have h2365 := ct hc2446 h2365
                        refine JQ.skip rfl rfl rfl rfl hc2446 ?_
                        refine JQ.skip rfl rfl rfl rfl hc2446 ?_
                        refine JQ.skip rfl rfl rfl rfl hc2446 ?_
                        refine JQ.skip rfl rfl rfl rfl hc2446 ?_
                        refine JQ.skip rfl rfl rfl rfl hc2446 ?_
                        refine JQ.skip rfl rfl rfl rfl hc2446 ?_
                        refine JQ.skip rfl rfl rfl rfl hc2446 ?_
                        refine JQ.skip rfl rfl rfl rfl hc2446 ?_
                        refine JQ.val (v := .bool true) rfl rfl (V.pickT rfl hc2446 rfl) ?_
                        refine JQ.val (v := .bool true) rfl rfl (V.mv rfl) ?_
                        refine JQ.skip rfl rfl rfl rfl rfl ?_
                        refine JQ.skip rfl rfl rfl rfl rfl ?_
                        refine JQ.skip rfl rfl rfl rfl rfl ?_
                        refine JQ.skip rfl rfl rfl rfl rfl ?_
                        refine JQ.skip rfl rfl rfl rfl rfl ?_
                        refine JQ.skip rfl rfl rfl rfl rfl ?_
                        refine JQ.skip rfl rfl rfl rfl rfl ?_
                        refine JQ.skip rfl rfl rfl rfl rfl ?_
                        refine JQ.val (v := .bool true) rfl rfl (V.pickT rfl rfl rfl) ?_
                        refine JQ.nil ?_
                        refine J.nil ?_
                        refine CJ.condK (b := true) rfl rfl ?_
                        refine CJ.seq ?_
                        refine CJ.region ?_
                        refine J.val (v := .bool false) rfl rfl (V.as rfl) ?_
                        refine J.nil ?_
                        refine CJ.ret ?_
                        have e := Option.some.inj h2365
                        subst e
                        refine ⟨nofun, fun e => ?_⟩
                        subst e
                        refine .inr ⟨nofun, ?_⟩
                        have e := Option.some.inj h
                        subst e
                        exact ⟨_, [], Res.one rfl rfl, ⟨false, rfl, rfl, rfl⟩, ((hK1793.trans hK1818).trans hK1826), fun w hs => (Sep.dropAt 0 rfl (Sep.dropAt 0 rfl hs))⟩
                      · have h2365 := cf hc2446 h2365
                        refine JQ.run rfl rfl rfl hc2446 ?_
                        refine JQ.val rfl rfl (V.fad Try.underlying34 rfl nz3 rfl) ?_
                        refine JQ.run rfl rfl rfl hc2446 ?_
                        refine JQ.val (v := .int .i64 i2381) rfl rfl (V.ld rfl (Ld.sc sc3 (Rd.cl 0 rfl rfl))) ?_
                        refine JQ.run rfl rfl rfl hc2446 ?_
                        refine JQ.val (v := .slice adxb_0 xb.length cpxb_0) rfl rfl (V.mv rfl) ?_
                        refine JQ.run rfl rfl rfl hc2446 ?_
                        refine JQ.val (v := .int .i64 i2265) rfl rfl (V.mv rfl) ?_
                        refine JQ.run rfl rfl rfl hc2446 ?_
                        obtain ⟨x2447, hx2448, h2365⟩ := ob h2365
                        obtain ⟨p2449, p2450, p2451⟩ := getI_some hx2448
                        obtain ⟨b2452, o2453, e2454, a2455⟩ := ((fxb_0.mono ((hK1793.trans hK1818).trans hK1826))).at p2450
                        refine JQ.val rfl rfl (V.iad Try.underlying22 sz37 rfl e2454 rfl p2449 p2451) ?_
                        refine JQ.run rfl rfl rfl hc2446 ?_
                        refine JQ.val rfl rfl (V.fad Try.underlying37 rfl nz3 rfl) ?_
                        refine JQ.run rfl rfl rfl hc2446 ?_
                        refine JQ.val (v := .int .i64 x2447.1) rfl rfl (V.ld rfl (Ld.sc sc3 (Rd.k ((a2455).fst).int (Hp.le_refl _)))) ?_
                        refine JQ.run rfl rfl rfl hc2446 ?_
                        refine JQ.val (v := .bool (!decide (i2381 = x2447.1))) rfl rfl (V.neq rfl rfl) ?_
                        refine JQ.val (v := .bool (!decide (i2381 = x2447.1))) rfl rfl (V.pickF rfl hc2446 rfl) ?_
                        refine JQ.val (v := .bool (!decide (i2381 = x2447.1))) rfl rfl (V.mv rfl) ?_
                        rcases bt (!decide (i2381 = x2447.1)) with hc2456 | hc2456
                        · have h2365 := ct hc2456 h2365
                          refine JQ.skip rfl rfl rfl rfl hc2456 ?_
                          refine JQ.skip rfl rfl rfl rfl hc2456 ?_
                          refine JQ.skip rfl rfl rfl rfl hc2456 ?_
                          refine JQ.skip rfl rfl rfl rfl hc2456 ?_
                          refine JQ.skip rfl rfl rfl rfl hc2456 ?_
                          refine JQ.skip rfl rfl rfl rfl hc2456 ?_
                          refine JQ.skip rfl rfl rfl rfl hc2456 ?_
                          refine JQ.skip rfl rfl rfl rfl hc2456 ?_
                          refine JQ.val (v := .bool true) rfl rfl (V.pickT rfl hc2456 rfl) ?_
                          refine JQ.nil ?_
                          refine J.nil ?_
                          refine CJ.condK (b := true) rfl rfl ?_
                          refine CJ.seq ?_
                          refine CJ.region ?_
                          refine J.val (v := .bool false) rfl rfl (V.as rfl) ?_
                          refine J.nil ?_
                          refine CJ.ret ?_
                          have e := Option.some.inj h2365
                          subst e
                          refine ⟨nofun, fun e => ?_⟩
                          subst e
                          refine .inr ⟨nofun, ?_⟩
                          have e := Option.some.inj h
                          subst e
                          exact ⟨_, [], Res.one rfl rfl, ⟨false, rfl, rfl, rfl⟩, ((hK1793.trans hK1818).trans hK1826), fun w hs => (Sep.dropAt 0 rfl (Sep.dropAt 0 rfl hs))⟩
                        · have h2365 := cf hc2456 h2365
                          refine JQ.run rfl rfl rfl hc2456 ?_
                          refine JQ.val rfl rfl (V.fad Try.underlying34 rfl nz3 rfl) ?_
                          refine JQ.run rfl rfl rfl hc2456 ?_
                          refine JQ.val (v := .int .i64 i2382) rfl rfl (V.ld rfl (Ld.sc sc3 (Rd.cl 0 rfl rfl))) ?_
                          refine JQ.run rfl rfl rfl hc2456 ?_
                          refine JQ.val (v := .slice adxb_0 xb.length cpxb_0) rfl rfl (V.mv rfl) ?_
                          refine JQ.run rfl rfl rfl hc2456 ?_
                          refine JQ.val (v := .int .i64 i2265) rfl rfl (V.mv rfl) ?_
                          refine JQ.run rfl rfl rfl hc2456 ?_
                          obtain ⟨x2457, hx2458, h2365⟩ := ob h2365
                          obtain ⟨p2459, p2460, p2461⟩ := getI_some hx2458
                          obtain ⟨b2462, o2463, e2464, a2465⟩ := ((fxb_0.mono ((hK1793.trans hK1818).trans hK1826))).at p2460
                          refine JQ.val rfl rfl (V.iad Try.underlying22 sz37 rfl e2464 rfl p2459 p2461) ?_
                          refine JQ.run rfl rfl rfl hc2456 ?_
                          refine JQ.val rfl rfl (V.fad Try.underlying37 rfl nz3 rfl) ?_
                          refine JQ.run rfl rfl rfl hc2456 ?_
                          refine JQ.val (v := .int .i64 x2457.2) rfl rfl (V.ld rfl (Ld.sc sc3 (Rd.k (((a2465).snd).one).int (Hp.le_refl _)))) ?_
                          refine JQ.run rfl rfl rfl hc2456 ?_
                          refine JQ.val (v := .bool (!decide (i2382 = x2457.2))) rfl rfl (V.neq rfl rfl) ?_
                          refine JQ.val (v := .bool (!decide (i2382 = x2457.2))) rfl rfl (V.pickF rfl hc2456 rfl) ?_
                          refine JQ.nil ?_
                          refine J.nil ?_
                          refine CJ.cond rfl (fun hc2466 => ?_) (fun hc2466 => ?_)
                          · have h2365 := ct hc2466 h2365
                            refine CJ.seq ?_
                            refine CJ.region ?_
                            refine J.val (v := .bool false) rfl rfl (V.as rfl) ?_
                            refine J.nil ?_
                            refine CJ.ret ?_
                            have e := Option.some.inj h2365
                            subst e
                            refine ⟨nofun, fun e => ?_⟩
                            subst e
                            refine .inr ⟨nofun, ?_⟩
                            have e := Option.some.inj h
                            subst e
                            exact ⟨_, [], Res.one rfl rfl, ⟨false, rfl, rfl, rfl⟩, ((hK1793.trans hK1818).trans hK1826), fun w hs => (Sep.dropAt 0 rfl (Sep.dropAt 0 rfl hs))⟩
                          · have h2365 := cf hc2466 h2365
                            refine CJ.skip ?_
                            refine CJ.region ?_
                            refine J.val (v := .int .i64 i2265) rfl rfl (V.mv rfl) ?_
                            refine J.val (v := .int .i64 (IntKind.wrap .i64 (i2265 + 1))) rfl rfl (V.add rfl rfl) ?_
                            refine J.val (v := .int .i64 (IntKind.wrap .i64 (i2265 + 1))) rfl rfl (V.as rfl) ?_
                            refine J.dropAt 0 rfl ?_
                            refine J.dropAt 0 rfl ?_
                            refine J.nil ?_
                            have e := Option.some.inj h2365
                            subst e
                            exact ⟨rfl, ⟨IntKind.wrap .i64 (i2265 + 1), rfl, ⟨rfl, rfl, rfl, rfl, rfl, rfl, rfl, trivial⟩, rfl, rfl⟩⟩
                  · have h2365 := cf hc2369 h2365
                    refine CJ.exit ?_
                    have e := Option.some.inj h2365
                    subst e
                    refine ⟨nofun, fun e => ?_⟩
                    subst e
                    exact .inl ⟨rfl, _, rfl, ⟨rfl, ⟨rfl, rfl, rfl, rfl, rfl, rfl, trivial⟩, rfl, rfl⟩⟩
                · rintro s ρ _ _ ho2467 ⟨rfl, hf2468, rfl, rfl⟩
                  subst ho2467
                  obtain ⟨ρ, rfl⟩ := hf2468.ex
                  refine PJ.done ?_
                  refine CJ.seq ?_
                  refine CJ.seq ?_
                  refine CJ.region ?_
                  refine J.val (v := .int .i64 xc) rfl rfl (V.mv rfl) ?_
                  refine J.val (v := .bool (decide (xc < 0))) rfl rfl (V.lss rfl rfl) ?_
                  refine J.val (v := .bool (decide (xc < 0))) rfl rfl (V.mv rfl) ?_
                  refine J.cut 4 ?_
                  refine @J.meet _ _ _ _ _ _ _ _ _ _ (fun ρ K' L' => Fits [(127, .bool ((decide (xc < 0)) || (decide (xa ≤ xc)))), (0, .int .i64 xa), (1, .slice adxb_0 xb.length cpxb_0), (2, .int .i64 xc), (7, v1789), (9, v1814), (10, v1822)] ρ ∧ K1825 = K' ∧ F = L') ?_ ?_
                  · skip
                    rcases bt (decide (xc < 0)) with hc2472 | hc2472
                    · skip
                      refine J.skip rfl rfl rfl rfl hc2472 ?_
                      refine J.skip rfl rfl rfl rfl hc2472 ?_
                      refine J.skip rfl rfl rfl rfl hc2472 ?_
                      refine J.val (v := .bool true) rfl rfl (V.pickT rfl hc2472 rfl) ?_
                      refine J.nil ?_
                      exact ⟨rfl, ⟨(by simp only [hc2472]; rfl), rfl, rfl, rfl, rfl, rfl, rfl, trivial⟩, rfl, rfl⟩
                    · skip
                      refine J.run rfl rfl rfl hc2472 ?_
                      refine J.val (v := .int .i64 xc) rfl rfl (V.mv rfl) ?_
                      refine J.run rfl rfl rfl hc2472 ?_
                      refine J.val (v := .int .i64 xa) rfl rfl (V.mv rfl) ?_
                      refine J.run rfl rfl rfl hc2472 ?_
                      refine J.val (v := .bool (decide (xa ≤ xc))) rfl rfl (V.geq rfl rfl) ?_
                      refine J.val (v := .bool (decide (xa ≤ xc))) rfl rfl (V.pickF rfl hc2472 rfl) ?_
                      refine J.nil ?_
                      exact ⟨rfl, ⟨(by simp only [hc2472]; rfl), rfl, rfl, rfl, rfl, rfl, rfl, trivial⟩, rfl, rfl⟩
                  · rintro ρ _ _ ⟨hf, rfl, rfl⟩
                    obtain ⟨ρ, rfl⟩ := hf.ex
                    refine J.nil ?_
                    refine CJ.cond rfl (fun hc2473 => ?_) (fun hc2473 => ?_)
                    · have h := ct hc2473 h
                      refine CJ.seq ?_
                      refine CJ.region ?_
                      refine J.val (v := v1789) rfl rfl (V.mv rfl) ?_
                      refine J.val (v := .int .i64 xc) rfl rfl (V.mv rfl) ?_
                      obtain ⟨r2474, hr2475, h⟩ := ob h
                      refine J.op rfl (A.call (L1 := []) Try.call14 rfl (graph_Graph_Reach_ok (f1790.mono (hK1818.trans hK1826)) hr2475) rfl rfl) ?_
                      rintro _ _ _ ⟨v2480, _, rfl, ⟨⟨l2476, ad2477, cp2478, rfl, rfl, rfl⟩, rfl⟩, _, rfl⟩
                      refine J.wit Row.hn (fun hn2479 => ?_)
                      refine J.val (v := .int .i64 (((l2476.length : Nat) : Int))) rfl rfl (V.len Try.underlying30 rfl) ?_
                      refine J.val (v := .bool (decide ((((l2476.length : Nat) : Int)) = 0))) rfl rfl (V.eql rfl rfl) ?_
                      refine J.val (v := .bool (decide ((((l2476.length : Nat) : Int)) = 0))) rfl rfl (V.mv rfl) ?_
                      refine J.cut 2 ?_
                      obtain ⟨t2491, ht2492, h⟩ := ob h
                      refine @J.meet _ _ _ _ _ _ _ _ _ _ (fun ρ K' L' => Fits [(135, .bool t2491)] ρ ∧ K1825 = K' ∧ L' = Row Hp.nil 3 (.int .i64) (.slice ad2477 l2476.length cp2478) l2476 :: F) ?_ ?_
                      · skip
                        rcases bt (decide ((((l2476.length : Nat) : Int)) = 0)) with hc2493 | hc2493
                        · have ht2492 := ct hc2493 ht2492
                          refine J.run rfl rfl rfl hc2493 ?_
                          obtain ⟨r2494, hr2495, ht2492⟩ := ob ht2492
                          refine J.op rfl (A.call (L1 := []) Try.call6 rfl (law10_awake_ok hr2495) rfl rfl) ?_
                          rintro _ _ _ ⟨v2497, _, rfl, ⟨⟨t2496, rfl, rfl, rfl⟩, rfl⟩, _, rfl⟩
                          refine J.val (v := .bool t2496) rfl rfl (V.pickT rfl hc2493 rfl) ?_
                          refine J.nil ?_
                          have e := Option.some.inj ht2492
                          subst e
                          exact ⟨rfl, ⟨rfl, trivial⟩, rfl, rfl⟩
                        · have ht2492 := cf hc2493 ht2492
                          refine J.skip rfl rfl rfl rfl hc2493 ?_
                          refine J.val (v := .bool false) rfl rfl (V.pickF rfl hc2493 rfl) ?_
                          refine J.nil ?_
                          have e := Option.some.inj ht2492
                          subst e
                          exact ⟨rfl, ⟨rfl, trivial⟩, rfl, rfl⟩
                      · rintro ρ _ _ ⟨hf, rfl, rfl⟩
                        obtain ⟨ρ, rfl⟩ := hf.ex
                        refine J.val (v := .bool t2491) rfl rfl (V.as rfl) ?_
                        refine J.nil ?_
                        refine CJ.ret ?_
                        have e := Option.some.inj h
                        subst e
                        exact ⟨_, [], Res.one rfl rfl, ⟨t2491, rfl, rfl, rfl⟩, ((hK1793.trans hK1818).trans hK1826), fun w hs => (Sep.dropAt 0 rfl hs)⟩
                    · have h := cf hc2473 h
                      refine CJ.skip ?_
                      refine CJ.seq ?_
                      refine CJ.region ?_
                      refine J.val (v := v1789) rfl rfl (V.mv rfl) ?_
                      refine J.val (v := .int .i64 xc) rfl rfl (V.mv rfl) ?_
                      obtain ⟨r2500, hr2501, h⟩ := ob h
                      refine J.op rfl (A.call (L1 := []) Try.call14 rfl (graph_Graph_Reach_ok (f1790.mono (hK1818.trans hK1826)) hr2501) rfl rfl) ?_
                      rintro _ _ _ ⟨v2506, _, rfl, ⟨⟨l2502, ad2503, cp2504, rfl, rfl, rfl⟩, rfl⟩, _, rfl⟩
                      refine J.wit Row.hn (fun hn2505 => ?_)
                      refine J.val (v := .slice ad2503 l2502.length cp2504) rfl rfl (V.as rfl) ?_
                      refine J.nil ?_
                      refine CJ.seq ?_
                      refine CJ.seq ?_
                      refine CJ.region ?_
                      refine J.val (v := .slice ad2503 l2502.length cp2504) rfl rfl (V.mv rfl) ?_
                      refine J.val (v := .int .i64 xa) rfl rfl (V.mv rfl) ?_
                      refine J.val (v := .slice adxb_0 xb.length cpxb_0) rfl rfl (V.mv rfl) ?_
                      refine J.val (v := .int .i64 xc) rfl rfl (V.mv rfl) ?_
                      obtain ⟨r2510, hr2511, h⟩ := ob h
                      refine J.op rfl (A.call (L1 := []) Try.call22 rfl (ref10_Reach_ok (fxb_0.mono ((hK1793.trans hK1818).trans hK1826)) hr2511) rfl rfl) ?_
                      rintro _ _ _ ⟨v2516, _, rfl, ⟨⟨l2512, ad2513, cp2514, rfl, rfl, rfl⟩, rfl⟩, _, rfl⟩
                      refine J.wit Row.hn (fun hn2515 => ?_)
                      refine J.persist (Hp.nil_le _) (by decide) (fun K2520 hK2521 f2522 => ?_)
                      obtain ⟨r2523, hr2524, h⟩ := ob h
                      refine J.op rfl (A.call (L1 := []) Try.call21 rfl (ref10_Nodes_ok f2522 hr2524) rfl rfl) ?_
                      rintro _ _ _ ⟨v2529, _, rfl, ⟨⟨l2525, ad2526, cp2527, rfl, rfl, rfl⟩, rfl⟩, _, rfl⟩
                      refine J.wit Row.hn (fun hn2528 => ?_)
                      obtain ⟨r2533, hr2534, h⟩ := ob h
                      refine J.front 1 rfl ?_
                      refine J.op rfl (A.call (L1 := [Row Hp.nil 3 (.int .i64) (.slice ad2503 l2502.length cp2504) l2502, Row Hp.nil 3 (.int .i64) (.slice ad2526 l2525.length cp2527) l2525]) Try.call17 rfl (Tr.lend (Hp.nil_le _) (by decide) (fun K2535 hK2536 f2537 => Tr.lend (Hp.nil_le _) (by decide) (fun K2538 hK2539 f2540 => ref01_Same_ok (f2537.mono hK2539) f2540 hr2534))) rfl rfl) ?_
                      rintro _ _ _ ⟨v2542, _, rfl, ⟨⟨_, ⟨_, ⟨t2541, rfl, rfl, rfl⟩, rfl⟩, rfl⟩, rfl⟩, _, rfl⟩
                      refine J.val (v := .bool (!t2541)) rfl rfl (V.not rfl) ?_
                      refine J.val (v := .bool (!t2541)) rfl rfl (V.mv rfl) ?_
                      rcases bt (!t2541) with hc2591 | hc2591
                      · have h := ct hc2591 h
                        refine J.skip rfl rfl rfl rfl hc2591 ?_
                        refine J.skip rfl rfl rfl rfl hc2591 ?_
                        refine J.skip rfl rfl rfl rfl hc2591 ?_
                        refine J.skip rfl rfl rfl rfl hc2591 ?_
                        refine J.skip rfl rfl rfl rfl hc2591 ?_
                        refine J.skip rfl rfl rfl rfl hc2591 ?_
                        refine J.skip rfl rfl rfl rfl hc2591 ?_
                        refine J.skip rfl rfl rfl rfl hc2591 ?_
                        refine J.skip rfl rfl rfl rfl hc2591 ?_
                        refine J.val (v := .bool true) rfl rfl (V.pickT rfl hc2591 rfl) ?_
                        refine J.val (v := .bool true) rfl rfl (V.mv rfl) ?_
                        refine J.skip rfl rfl rfl rfl rfl ?_
                        refine J.skip rfl rfl rfl rfl rfl ?_
                        refine J.skip rfl rfl rfl rfl rfl ?_
                        refine J.skip rfl rfl rfl rfl rfl ?_
                        refine J.skip rfl rfl rfl rfl rfl ?_
                        refine J.skip rfl rfl rfl rfl rfl ?_
                        refine J.skip rfl rfl rfl rfl rfl ?_
                        refine J.skip rfl rfl rfl rfl rfl ?_
                        refine J.val (v := .bool true) rfl rfl (V.pickT rfl rfl rfl) ?_
                        refine J.nil ?_
                        refine CJ.condK (b := true) rfl rfl ?_
                        refine CJ.seq ?_
                        refine CJ.region ?_
                        refine J.val (v := .bool false) rfl rfl (V.as rfl) ?_
                        refine J.nil ?_
                        refine CJ.ret ?_
                        have e := Option.some.inj h
                        subst e
                        exact ⟨_, [], Res.one rfl rfl, ⟨false, rfl, rfl, rfl⟩, (((hK1793.trans hK1818).trans hK1826).trans hK2521), fun w hs => (Sep.dropAt 0 rfl (Sep.dropAt 0 rfl hs))⟩
                      · have h := cf hc2591 h
                        refine J.run rfl rfl rfl hc2591 ?_
                        refine J.val (v := v1814) rfl rfl (V.mv rfl) ?_
                        refine J.run rfl rfl rfl hc2591 ?_
                        refine J.val (v := .int .i64 xc) rfl rfl (V.mv rfl) ?_
                        refine J.run rfl rfl rfl hc2591 ?_
                        obtain ⟨r2592, hr2593, h⟩ := ob h
                        refine J.op rfl (A.call (L1 := []) Try.call13 rfl (graph_Graph_Next_ok (f1815.mono (hK1826.trans hK2521)) hr2593) rfl rfl) ?_
                        rintro _ _ _ ⟨v2598, _, rfl, ⟨⟨l2594, ad2595, cp2596, rfl, rfl, rfl⟩, rfl⟩, _, rfl⟩
                        refine J.wit Row.hn (fun hn2597 => ?_)
                        refine J.run rfl rfl rfl hc2591 ?_
                        refine J.val (v := .slice adxb_0 xb.length cpxb_0) rfl rfl (V.mv rfl) ?_
                        refine J.run rfl rfl rfl hc2591 ?_
                        obtain ⟨r2602, hr2603, h⟩ := ob h
                        refine J.op rfl (A.call (L1 := []) Try.call19 rfl (ref10_Turn_ok (fxb_0.mono (((hK1793.trans hK1818).trans hK1826).trans hK2521)) hr2603) rfl rfl) ?_
                        rintro _ _ _ ⟨v2608, _, rfl, ⟨⟨l2604, ad2605, cp2606, rfl, rfl, rfl⟩, rfl⟩, _, rfl⟩
                        refine J.wit Row.hn (fun hn2607 => ?_)
                        refine J.run rfl rfl rfl hc2591 ?_
                        refine J.val (v := .int .i64 xc) rfl rfl (V.mv rfl) ?_
                        refine J.run rfl rfl rfl hc2591 ?_
                        refine J.persist (Hp.nil_le _) (by decide) (fun K2612 hK2613 f2614 => ?_)
                        obtain ⟨r2615, hr2616, h⟩ := ob h
                        refine J.op rfl (A.call (L1 := []) Try.call20 rfl (ref10_Next_ok f2614 hr2616) rfl rfl) ?_
                        rintro _ _ _ ⟨v2621, _, rfl, ⟨⟨l2617, ad2618, cp2619, rfl, rfl, rfl⟩, rfl⟩, _, rfl⟩
                        refine J.wit Row.hn (fun hn2620 => ?_)
                        refine J.run rfl rfl rfl hc2591 ?_
                        obtain ⟨r2625, hr2626, h⟩ := ob h
                        refine J.front 1 rfl ?_
                        refine J.op rfl (A.call (L1 := [Row Hp.nil 3 (.int .i64) (.slice ad2595 l2594.length cp2596) l2594, Row Hp.nil 3 (.int .i64) (.slice ad2618 l2617.length cp2619) l2617]) Try.call17 rfl (Tr.lend (Hp.nil_le _) (by decide) (fun K2627 hK2628 f2629 => Tr.lend (Hp.nil_le _) (by decide) (fun K2630 hK2631 f2632 => ref01_Same_ok (f2629.mono hK2631) f2632 hr2626))) rfl rfl) ?_
                        rintro _ _ _ ⟨v2634, _, rfl, ⟨⟨_, ⟨_, ⟨t2633, rfl, rfl, rfl⟩, rfl⟩, rfl⟩, rfl⟩, _, rfl⟩
                        refine J.run rfl rfl rfl hc2591 ?_
                        refine J.val (v := .bool (!t2633)) rfl rfl (V.not rfl) ?_
                        refine J.val (v := .bool (!t2633)) rfl rfl (V.pickF rfl hc2591 rfl) ?_
                        refine J.val (v := .bool (!t2633)) rfl rfl (V.mv rfl) ?_
                        refine J.cut 9 ?_
                        obtain ⟨t2670, ht2671, h⟩ := ob h
                        refine @J.meet _ _ _ _ _ _ _ _ _ _ (fun ρ K' L' => Fits [(167, .bool t2670), (2, .int .i64 xc), (9, v1814), (16, .slice ad2503 l2502.length cp2504)] ρ ∧ K2612 = K' ∧ L' = Row Hp.nil 3 (.int .i64) (.slice ad2595 l2594.length cp2596) l2594 :: Row Hp.nil 3 (.int .i64) (.slice ad2618 l2617.length cp2619) l2617 :: Row Hp.nil 3 (.int .i64) (.slice ad2503 l2502.length cp2504) l2502 :: Row Hp.nil 3 (.int .i64) (.slice ad2526 l2525.length cp2527) l2525 :: F) ?_ ?_
                        · skip
                          rcases bt (!t2633) with hc2672 | hc2672
                          · have ht2671 := ct hc2672 ht2671
                            refine J.skip rfl rfl rfl rfl hc2672 ?_
                            refine J.skip rfl rfl rfl rfl hc2672 ?_
                            refine J.skip rfl rfl rfl rfl hc2672 ?_
                            refine J.skip rfl rfl rfl rfl hc2672 ?_
                            refine J.skip rfl rfl rfl rfl hc2672 ?_
                            refine J.skip rfl rfl rfl rfl hc2672 ?_
                            refine J.skip rfl rfl rfl rfl hc2672 ?_
                            refine J.skip rfl rfl rfl rfl hc2672 ?_
                            refine J.val (v := .bool true) rfl rfl (V.pickT rfl hc2672 rfl) ?_
                            refine J.nil ?_
                            have e := Option.some.inj ht2671
                            subst e
                            exact ⟨rfl, ⟨rfl, rfl, rfl, rfl, trivial⟩, rfl, rfl⟩
                          · have ht2671 := cf hc2672 ht2671
                            refine J.run rfl rfl rfl hc2672 ?_
                            refine J.val (v := v1822) rfl rfl (V.mv rfl) ?_
                            refine J.run rfl rfl rfl hc2672 ?_
                            refine J.val (v := .int .i64 xc) rfl rfl (V.mv rfl) ?_
                            refine J.run rfl rfl rfl hc2672 ?_
                            obtain ⟨r2673, hr2674, ht2671⟩ := ob ht2671
                            refine J.op rfl (A.call (L1 := []) Try.call11 rfl (graph_Graph_Out_ok (f1823.mono (hK2521.trans hK2613)) hr2674) rfl rfl) ?_
                            rintro _ _ _ ⟨v2679, _, rfl, ⟨⟨l2675, ad2676, cp2677, rfl, rfl, rfl⟩, rfl⟩, _, rfl⟩
                            refine J.wit Row.hn (fun hn2678 => ?_)
                            refine J.run rfl rfl rfl hc2672 ?_
                            refine J.val (v := v1789) rfl rfl (V.mv rfl) ?_
                            refine J.run rfl rfl rfl hc2672 ?_
                            refine J.val (v := .int .i64 xc) rfl rfl (V.mv rfl) ?_
                            refine J.run rfl rfl rfl hc2672 ?_
                            obtain ⟨r2683, hr2684, ht2671⟩ := ob ht2671
                            refine J.op rfl (A.call (L1 := []) Try.call11 rfl (graph_Graph_Out_ok (f1790.mono (((hK1818.trans hK1826).trans hK2521).trans hK2613)) hr2684) rfl rfl) ?_
                            rintro _ _ _ ⟨v2689, _, rfl, ⟨⟨l2685, ad2686, cp2687, rfl, rfl, rfl⟩, rfl⟩, _, rfl⟩
                            refine J.wit Row.hn (fun hn2688 => ?_)
                            refine J.run rfl rfl rfl hc2672 ?_
                            obtain ⟨r2693, hr2694, ht2671⟩ := ob ht2671
                            refine J.front 1 rfl ?_
                            refine J.op rfl (A.call (L1 := [Row Hp.nil 3 (.int .i64) (.slice ad2676 l2675.length cp2677) l2675, Row Hp.nil 3 (.int .i64) (.slice ad2686 l2685.length cp2687) l2685]) Try.call17 rfl (Tr.lend (Hp.nil_le _) (by decide) (fun K2695 hK2696 f2697 => Tr.lend (Hp.nil_le _) (by decide) (fun K2698 hK2699 f2700 => ref01_Same_ok (f2697.mono hK2699) f2700 hr2694))) rfl rfl) ?_
                            rintro _ _ _ ⟨v2702, _, rfl, ⟨⟨_, ⟨_, ⟨t2701, rfl, rfl, rfl⟩, rfl⟩, rfl⟩, rfl⟩, _, rfl⟩
                            refine J.run rfl rfl rfl hc2672 ?_
                            refine J.val (v := .bool (!t2701)) rfl rfl (V.not rfl) ?_
                            refine J.val (v := .bool (!t2701)) rfl rfl (V.pickF rfl hc2672 rfl) ?_
                            refine J.dropAt 0 rfl ?_
                            refine J.dropAt 0 rfl ?_
                            refine J.nil ?_
                            have e := Option.some.inj ht2671
                            subst e
                            exact ⟨rfl, ⟨rfl, rfl, rfl, rfl, trivial⟩, rfl, rfl⟩
                        · rintro ρ _ _ ⟨hf, rfl, rfl⟩
                          obtain ⟨ρ, rfl⟩ := hf.ex
                          refine J.nil ?_
                          refine CJ.cond rfl (fun hc2705 => ?_) (fun hc2705 => ?_)
                          · have h := ct hc2705 h
                            refine CJ.seq ?_
                            refine CJ.region ?_
                            refine J.val (v := .bool false) rfl rfl (V.as rfl) ?_
                            refine J.nil ?_
                            refine CJ.ret ?_
                            have e := Option.some.inj h
                            subst e
                            exact ⟨_, [], Res.one rfl rfl, ⟨false, rfl, rfl, rfl⟩, ((((hK1793.trans hK1818).trans hK1826).trans hK2521).trans hK2613), fun w hs => (Sep.dropAt 0 rfl (Sep.dropAt 0 rfl (Sep.dropAt 0 rfl (Sep.dropAt 0 rfl hs))))⟩
                          · have h := cf hc2705 h
                            refine CJ.skip ?_
                            refine CJ.seq ?_
                            refine CJ.seq ?_
                            refine CJ.region ?_
                            refine J.val (v := .int .i64 0) rfl rfl (V.as rfl) ?_
                            refine J.nil ?_
                            obtain ⟨o3121, ho3122, h⟩ := ob h
                            refine CJ.joinN (o := o3121) (fun s ρ K' L' => () = s ∧ Fits [] ρ ∧ K2612 = K' ∧ F = L') ?_ ?_
                            · skip
                              refine CJ.block ?_
                              refine CJ.dropAt 0 rfl ?_
                              refine CJ.dropAt 0 rfl ?_
                              refine CJ.dropAt 1 rfl ?_
                              refine CJ.loop (fun s ρ K' L' => ∃ (i3260 : Int), i3260 = s ∧ Fits [(2, .int .i64 xc), (9, v1814), (16, .slice ad2503 l2502.length cp2504), (17, .int .i64 i3260)] ρ ∧ K2612 = K' ∧ L' = Row Hp.nil 3 (.int .i64) (.slice ad2503 l2502.length cp2504) l2502 :: F) ho3122 ⟨0, rfl, ⟨rfl, rfl, rfl, rfl, trivial⟩, rfl, rfl⟩ ?_
                              rintro s ρ _ _ r3401 ⟨i3260, rfl, hf3399, rfl, rfl⟩ h3398
                              obtain ⟨ρ, rfl⟩ := hf3399.ex
                              refine CJ.seq ?_
                              refine CJ.seq ?_
                              refine CJ.region ?_
                              refine J.val (v := .int .i64 i3260) rfl rfl (V.mv rfl) ?_
                              refine J.val (v := .slice ad2503 l2502.length cp2504) rfl rfl (V.mv rfl) ?_
                              refine J.val (v := .int .i64 (((l2502.length : Nat) : Int))) rfl rfl (V.len Try.underlying30 rfl) ?_
                              refine J.val (v := .bool (decide (i3260 < (((l2502.length : Nat) : Int))))) rfl rfl (V.lss rfl rfl) ?_
                              refine J.nil ?_
                              refine CJ.cond rfl (fun hc3402 => ?_) (fun hc3402 => ?_)
                              · have h3398 := ct hc3402 h3398
                                refine CJ.skip ?_
                                refine CJ.seq ?_
                                refine CJ.block ?_
                                refine CJ.seq ?_
                                refine CJ.region ?_
                                refine J.val (v := v1814) rfl rfl (V.mv rfl) ?_
                                refine J.val (v := .slice ad2503 l2502.length cp2504) rfl rfl (V.mv rfl) ?_
                                refine J.val (v := .int .i64 i3260) rfl rfl (V.mv rfl) ?_
                                obtain ⟨x3403, hx3404, h3398⟩ := ob h3398
                                obtain ⟨p3405, p3406, p3407⟩ := getI_some hx3404
                                obtain ⟨g3408, e3409⟩ := hn2505 (fun e => by rw [e] at p3406; simp at p3406)
                                refine J.val rfl rfl (V.iad Try.underlying30 sz3 rfl e3409 rfl p3405 p3407) ?_
                                refine J.val (v := .int .i64 x3403) rfl rfl (V.ld rfl (Ld.sc sc3 (Rd.row 0 rfl e3409 p3406 (q := 0) (by simp [Tp.size]) (by decide) (by rintro _ rfl; rfl)))) ?_
                                obtain ⟨r3410, hr3411, h3398⟩ := ob h3398
                                refine J.op rfl (A.call (L1 := []) Try.call14 rfl (graph_Graph_Reach_ok (f1815.mono ((hK1826.trans hK2521).trans hK2613)) hr3411) rfl rfl) ?_
                                rintro _ _ _ ⟨v3416, _, rfl, ⟨⟨l3412, ad3413, cp3414, rfl, rfl, rfl⟩, rfl⟩, _, rfl⟩
                                refine J.wit Row.hn (fun hn3415 => ?_)
                                refine J.val (v := .slice ad3413 l3412.length cp3414) rfl rfl (V.as rfl) ?_
                                refine J.nil ?_
                                refine CJ.seq ?_
                                refine CJ.region ?_
                                refine J.val (v := .bool false) rfl rfl (V.as rfl) ?_
                                refine J.nil ?_
                                refine CJ.seq ?_
                                refine CJ.seq ?_
                                refine CJ.region ?_
                                refine J.val (v := .int .i64 0) rfl rfl (V.as rfl) ?_
                                refine J.nil ?_
                                obtain ⟨o3477, ho3478, h3398⟩ := ob h3398
                                refine CJ.meetN (fun ρ K' L' => ∃ (t3476 : Bool), t3476 = o3477 ∧ Fits [(2, .int .i64 xc), (9, v1814), (16, .slice ad2503 l2502.length cp2504), (17, .int .i64 i3260), (19, .bool t3476)] ρ ∧ K2612 = K' ∧ L' = Row Hp.nil 3 (.int .i64) (.slice ad2503 l2502.length cp2504) l2502 :: F) ?_ ?_
                                · skip
                                  refine CJ.block ?_
                                  refine CJ.front 1 rfl ?_
                                  refine CJ.loop (fun s ρ K' L' => ∃ (t3489 : Bool) (i3490 : Int), (t3489, i3490) = s ∧ Fits [(2, .int .i64 xc), (9, v1814), (16, .slice ad2503 l2502.length cp2504), (17, .int .i64 i3260), (18, .slice ad3413 l3412.length cp3414), (19, .bool t3489), (20, .int .i64 i3490)] ρ ∧ K2612 = K' ∧ L' = Row Hp.nil 3 (.int .i64) (.slice ad2503 l2502.length cp2504) l2502 :: Row Hp.nil 3 (.int .i64) (.slice ad3413 l3412.length cp3414) l3412 :: F) ho3478 ⟨false, 0, rfl, ⟨rfl, rfl, rfl, rfl, rfl, rfl, rfl, trivial⟩, rfl, rfl⟩ ?_
                                  rintro s ρ _ _ r3515 ⟨t3489, i3490, rfl, hf3513, rfl, rfl⟩ h3512
                                  obtain ⟨ρ, rfl⟩ := hf3513.ex
                                  refine CJ.seq ?_
                                  refine CJ.seq ?_
                                  refine CJ.region ?_
                                  refine J.val (v := .int .i64 i3490) rfl rfl (V.mv rfl) ?_
                                  refine J.val (v := .slice ad3413 l3412.length cp3414) rfl rfl (V.mv rfl) ?_
                                  refine J.val (v := .int .i64 (((l3412.length : Nat) : Int))) rfl rfl (V.len Try.underlying30 rfl) ?_
                                  refine J.val (v := .bool (decide (i3490 < (((l3412.length : Nat) : Int))))) rfl rfl (V.lss rfl rfl) ?_
                                  refine J.nil ?_
                                  refine CJ.cond rfl (fun hc3516 => ?_) (fun hc3516 => ?_)
                                  · have h3512 := ct hc3516 h3512
                                    refine CJ.skip ?_
                                    refine CJ.seq ?_
                                    refine CJ.block ?_
                                    refine CJ.region ?_
                                    refine J.val (v := .bool t3489) rfl rfl (V.mv rfl) ?_
                                    refine J.val (v := .bool t3489) rfl rfl (V.mv rfl) ?_
                                    refine J.cut 7 ?_
                                    obtain ⟨t3525, ht3526, h3512⟩ := ob h3512
                                    refine @J.meet _ _ _ _ _ _ _ _ _ _ (fun ρ K' L' => Fits [(194, .bool t3525), (2, .int .i64 xc), (9, v1814), (16, .slice ad2503 l2502.length cp2504), (17, .int .i64 i3260), (18, .slice ad3413 l3412.length cp3414), (20, .int .i64 i3490)] ρ ∧ K2612 = K' ∧ L' = Row Hp.nil 3 (.int .i64) (.slice ad2503 l2502.length cp2504) l2502 :: Row Hp.nil 3 (.int .i64) (.slice ad3413 l3412.length cp3414) l3412 :: F) ?_ ?_
                                    · skip
                                      rcases bt (t3489) with hc3527 | hc3527
                                      · have ht3526 := ct hc3527 ht3526
                                        refine J.skip rfl rfl rfl rfl hc3527 ?_
                                        refine J.skip rfl rfl rfl rfl hc3527 ?_
                                        refine J.skip rfl rfl rfl rfl hc3527 ?_
                                        refine J.skip rfl rfl rfl rfl hc3527 ?_
                                        refine J.skip rfl rfl rfl rfl hc3527 ?_
                                        refine J.skip rfl rfl rfl rfl hc3527 ?_
                                        refine J.val (v := .bool true) rfl rfl (V.pickT rfl hc3527 rfl) ?_
                                        refine J.nil ?_
                                        have e := Option.some.inj ht3526
                                        subst e
                                        exact ⟨rfl, ⟨rfl, rfl, rfl, rfl, rfl, rfl, rfl, trivial⟩, rfl, rfl⟩
                                      · have ht3526 := cf hc3527 ht3526
                                        refine J.run rfl rfl rfl hc3527 ?_
                                        refine J.val (v := .slice ad3413 l3412.length cp3414) rfl rfl (V.mv rfl) ?_
                                        refine J.run rfl rfl rfl hc3527 ?_
                                        refine J.val (v := .int .i64 i3490) rfl rfl (V.mv rfl) ?_
                                        refine J.run rfl rfl rfl hc3527 ?_
                                        obtain ⟨x3528, hx3529, ht3526⟩ := ob ht3526
                                        obtain ⟨p3530, p3531, p3532⟩ := getI_some hx3529
                                        obtain ⟨g3533, e3534⟩ := hn3415 (fun e => by rw [e] at p3531; simp at p3531)
                                        refine J.val rfl rfl (V.iad Try.underlying30 sz3 rfl e3534 rfl p3530 p3532) ?_
                                        refine J.run rfl rfl rfl hc3527 ?_
                                        refine J.val (v := .int .i64 x3528) rfl rfl (V.ld rfl (Ld.sc sc3 (Rd.row 1 rfl e3534 p3531 (q := 0) (by simp [Tp.size]) (by decide) (by rintro _ rfl; rfl)))) ?_
                                        refine J.run rfl rfl rfl hc3527 ?_
                                        refine J.val (v := .int .i64 xc) rfl rfl (V.mv rfl) ?_
                                        refine J.run rfl rfl rfl hc3527 ?_
                                        refine J.val (v := .bool (decide (x3528 = xc))) rfl rfl (V.eql rfl rfl) ?_
                                        refine J.val (v := .bool (decide (x3528 = xc))) rfl rfl (V.pickF rfl hc3527 rfl) ?_
                                        refine J.nil ?_
                                        have e := Option.some.inj ht3526
                                        subst e
                                        exact ⟨rfl, ⟨rfl, rfl, rfl, rfl, rfl, rfl, rfl, trivial⟩, rfl, rfl⟩
                                    · rintro ρ _ _ ⟨hf, rfl, rfl⟩
                                      obtain ⟨ρ, rfl⟩ := hf.ex
                                      refine J.val (v := .bool t3525) rfl rfl (V.as rfl) ?_
                                      refine J.nil ?_
                                      refine CJ.region ?_
                                      refine J.val (v := .int .i64 i3490) rfl rfl (V.mv rfl) ?_
                                      refine J.val (v := .int .i64 (IntKind.wrap .i64 (i3490 + 1))) rfl rfl (V.add rfl rfl) ?_
                                      refine J.val (v := .int .i64 (IntKind.wrap .i64 (i3490 + 1))) rfl rfl (V.as rfl) ?_
                                      refine J.nil ?_
                                      have e := Option.some.inj h3512
                                      subst e
                                      exact ⟨rfl, ⟨t3525, IntKind.wrap .i64 (i3490 + 1), rfl, ⟨rfl, rfl, rfl, rfl, rfl, rfl, rfl, trivial⟩, rfl, rfl⟩⟩
                                  · have h3512 := cf hc3516 h3512
                                    refine CJ.dropAt 1 rfl ?_
                                    refine CJ.exit ?_
                                    have e := Option.some.inj h3512
                                    subst e
                                    refine ⟨nofun, fun e => ?_⟩
                                    subst e
                                    exact ⟨rfl, ⟨t3489, rfl, ⟨rfl, rfl, rfl, rfl, rfl, trivial⟩, rfl, rfl⟩⟩
                                · rintro ρ _ _ ⟨t3476, rfl, hf3535, rfl, rfl⟩
                                  obtain ⟨ρ, rfl⟩ := hf3535.ex
                                  refine PJ.done ?_
                                  refine CJ.seq ?_
                                  refine CJ.region ?_
                                  refine J.val (v := .bool t3476) rfl rfl (V.mv rfl) ?_
                                  refine J.val (v := .bool (!t3476)) rfl rfl (V.not rfl) ?_
                                  refine J.nil ?_
                                  refine CJ.cond rfl (fun hc3537 => ?_) (fun hc3537 => ?_)
                                  · have h3398 := ct hc3537 h3398
                                    refine CJ.seq ?_
                                    refine CJ.region ?_
                                    refine J.val (v := .bool false) rfl rfl (V.as rfl) ?_
                                    refine J.nil ?_
                                    refine CJ.ret ?_
                                    have e := Option.some.inj h3398
                                    subst e
                                    refine ⟨nofun, fun e => ?_⟩
                                    subst e
                                    refine .inr ⟨nofun, ?_⟩
                                    have e := Option.some.inj h
                                    subst e
                                    exact ⟨_, [], Res.one rfl rfl, ⟨false, rfl, rfl, rfl⟩, ((((hK1793.trans hK1818).trans hK1826).trans hK2521).trans hK2613), fun w hs => (Sep.dropAt 0 rfl hs)⟩
                                  · have h3398 := cf hc3537 h3398
                                    refine CJ.skip ?_
                                    refine CJ.region ?_
                                    refine J.val (v := .int .i64 i3260) rfl rfl (V.mv rfl) ?_
                                    refine J.val (v := .int .i64 (IntKind.wrap .i64 (i3260 + 1))) rfl rfl (V.add rfl rfl) ?_
                                    refine J.val (v := .int .i64 (IntKind.wrap .i64 (i3260 + 1))) rfl rfl (V.as rfl) ?_
                                    refine J.nil ?_
                                    have e := Option.some.inj h3398
                                    subst e
                                    exact ⟨rfl, ⟨IntKind.wrap .i64 (i3260 + 1), rfl, ⟨rfl, rfl, rfl, rfl, trivial⟩, rfl, rfl⟩⟩
                              · have h3398 := cf hc3402 h3398
                                refine CJ.dropAt 0 rfl ?_
                                refine CJ.exit ?_
                                have e := Option.some.inj h3398
                                subst e
                                refine ⟨nofun, fun e => ?_⟩
                                subst e
                                exact .inl ⟨rfl, _, rfl, ⟨rfl, trivial, rfl, rfl⟩⟩
                            · rintro s ρ _ _ ho3538 ⟨rfl, hf3539, rfl, rfl⟩
                              subst ho3538
                              obtain ⟨ρ, rfl⟩ := hf3539.ex
                              refine PJ.done ?_
                              refine CJ.seq ?_
                              refine CJ.region ?_
                              obtain ⟨r3541, hr3542, h⟩ := ob h
                              refine J.op rfl (A.call (L1 := []) Try.call6 rfl (law10_awake_ok hr3542) rfl rfl) ?_
                              rintro _ _ _ ⟨v3544, _, rfl, ⟨⟨t3543, rfl, rfl, rfl⟩, rfl⟩, _, rfl⟩
                              refine J.val (v := .bool t3543) rfl rfl (V.as rfl) ?_
                              refine J.nil ?_
                              refine CJ.ret ?_
                              have e := Option.some.inj h
                              subst e
                              exact ⟨_, [], Res.one rfl rfl, ⟨t3543, rfl, rfl, rfl⟩, ((((hK1793.trans hK1818).trans hK1826).trans hK2521).trans hK2613), fun w hs => hs⟩
noncomputable def fn_law10_GraphReaches_l1 (l1315 : (List Int)) : ((List Int) × Int) → Option (((List Int) × Int) ⊕ (List Int)) := fun ((l1438, i1443) : ((List Int) × Int)) => cond (decide (i1443 < (((l1315.length : Nat) : Int)))) ((getI l1315 i1443).bind fun x1475 => (getI l1438 x1475).bind fun x1482 => (some (l1438.set x1475.toNat 1)).bind fun z1489 => some (.inl ((z1489, IntKind.wrap .i64 (i1443 + 1))))) (some (.inr (l1438)))
noncomputable def fn_law10_GraphReaches_l2 (l1405 : (List Int)) (l2187 : (List Int)) : Int → Option (Int ⊕ (Unit ⊕ (Int ⊕ (Unit ⊕ Bool)))) := fun (i2269 : Int) => cond (decide (i2269 < (((l2187.length : Nat) : Int)))) ((getI l2187 i2269).bind fun x2292 => (getI l1405 x2292).bind fun x2299 => cond (decide (x2299 = 0)) (some (.inr ((.inr (.inr ((.inr (false)))))))) (some (.inl (IntKind.wrap .i64 (i2269 + 1))))) (some (.inr ((.inl ()))))
noncomputable def fn_law10_GraphReaches_l3 (p1268 : (Option (Int × (List (Int × Int)) × ((List Int) × (List Int)) × ((List Int) × (List Int))))) (l1315 : (List Int)) (l1405 : (List Int)) : Int → Option (Int ⊕ (Unit ⊕ Bool)) := fun (i2038 : Int) => cond (decide (i2038 < (((l1315.length : Nat) : Int)))) ((getI l1315 i2038).bind fun x2178 => (fn_graph_Graph_Next p1268 x2178).bind fun l2187 => (loop (fn_law10_GraphReaches_l2 l1405 l2187) 0 : Option (Unit ⊕ (Int ⊕ (Unit ⊕ Bool)))).bind fun o => match o with | .inr r => some r | .inl () => some (.inl (IntKind.wrap .i64 (i2038 + 1)))) (some (.inr ((.inl ()))))
noncomputable def fn_law10_GraphReaches_l4 (l1405 : (List Int)) (l2367 : (List Int)) : Int → Option (Int ⊕ (Unit ⊕ Bool)) := fun (i2449 : Int) => cond (decide (i2449 < (((l2367.length : Nat) : Int)))) ((getI l2367 i2449).bind fun x2472 => (getI l1405 x2472).bind fun x2479 => cond (decide (x2479 = 0)) (some (.inr ((.inr (false))))) (some (.inl (IntKind.wrap .i64 (i2449 + 1))))) (some (.inr ((.inl ()))))
noncomputable def fn_law10_GraphReaches (xa : Int) (xb : (List (Int × Int))) (xc : Int) : Option Bool :=
  cond ((decide (40 < (((xb.length : Nat) : Int)))) || (decide (16 < xa))) ((fn_law10_awake).bind fun t1262 => some (t1262)) ((fn_law10_Of xa xb).bind fun (p1268, i1269) => cond (((!decide (i1269 = 0)) || (decide (xc < 0))) || (decide (xa ≤ xc))) ((fn_graph_Graph_Reach p1268 xc).bind fun l1284 => (cond (decide ((((l1284.length : Nat) : Int)) = 0)) ((fn_law10_awake).bind fun t1304 => some (t1304)) (some (false))).bind fun t1299 => some (t1299)) ((mk xa xa 0 : Option (List Int)).bind fun z1308 => (fn_graph_Graph_Reach p1268 xc).bind fun l1315 => (loop (fn_law10_GraphReaches_l1 l1315) (z1308, 0)).bind fun l1405 => (loop (fn_law10_GraphReaches_l3 p1268 l1315 l1405) 0 : Option (Unit ⊕ Bool)).bind fun o => match o with | .inr r => some r | .inl () => (getI l1405 xc).bind fun x2313 => cond ((decide (x2313 = 0)) || (decide ((((xb.length : Nat) : Int)) = 0))) ((getI l1405 xc).bind fun x2324 => (cond ((decide (x2324 = 1)) && (decide ((((l1315.length : Nat) : Int)) = 1))) ((fn_law10_awake).bind fun t2346 => some (t2346)) (some (false))).bind fun t2341 => some (t2341)) ((subL xb 0 (IntKind.wrap .i64 ((((xb.length : Nat) : Int)) - 1))).bind fun y2350 => (fn_law10_Of xa y2350).bind fun (p2358, i2359) => (fn_graph_Graph_Reach p2358 xc).bind fun l2367 => (loop (fn_law10_GraphReaches_l4 l1405 l2367) 0 : Option (Unit ⊕ Bool)).bind fun o => match o with | .inr r => some r | .inl () => (cond ((decide (i2359 = 0)) && (decide ((((l2367.length : Nat) : Int)) ≤ (((l1315.length : Nat) : Int))))) ((fn_law10_awake).bind fun t2505 => some (t2505)) (some (false))).bind fun t2500 => some (t2500))))
set_option maxRecDepth 100000 in
set_option maxHeartbeats 4000000 in
theorem law10_GraphReaches_ok {K : Hp} {xa : Int} {xb : (List (Int × Int))} {xc : Int} {adxb_0 : Option Addr} {cpxb_0 : Nat} (fxb_0 : Is K (.sl (.cons (.int .i64) (.one (.int .i64)))) [.slice adxb_0 xb.length cpxb_0] xb) {r : Bool} (h : fn_law10_GraphReaches xa xb xc = some r) :
    Tr Try.prog 5 #[.int .i64 xa, .slice adxb_0 xb.length cpxb_0, .int .i64 xc] K [] (fun v K' L' => (∃ (t1255 : Bool), t1255 = r ∧ .bool t1255 = v ∧ L' = []) ∧ K = K') := by
  refine Tr.k ?_
  refine Tr.of Try.func5 rfl Try.ntmps5 rfl (fun E F => ?_)
  unfold fn_law10_GraphReaches at h
  refine CJ.seq ?_
  refine CJ.region ?_
  refine J.val (v := .bool false) rfl rfl (V.as rfl) ?_
  refine J.nil ?_
  refine CJ.seq ?_
  refine CJ.seq ?_
  refine CJ.region ?_
  refine J.val (v := .slice adxb_0 xb.length cpxb_0) rfl rfl (V.mv rfl) ?_
  refine J.val (v := .int .i64 (((xb.length : Nat) : Int))) rfl rfl (V.len Try.underlying22 rfl) ?_
  refine J.val (v := .bool (decide (40 < (((xb.length : Nat) : Int))))) rfl rfl (V.gtr rfl rfl) ?_
  refine J.val (v := .bool (decide (40 < (((xb.length : Nat) : Int))))) rfl rfl (V.mv rfl) ?_
  refine J.cut 3 ?_
  refine @J.meet _ _ _ _ _ _ _ _ _ _ (fun ρ K' L' => Fits [(25, .bool ((decide (40 < (((xb.length : Nat) : Int)))) || (decide (16 < xa)))), (0, .int .i64 xa), (1, .slice adxb_0 xb.length cpxb_0), (2, .int .i64 xc)] ρ ∧ K = K' ∧ F = L') ?_ ?_
  · skip
    rcases bt (decide (40 < (((xb.length : Nat) : Int)))) with hc1258 | hc1258
    · skip
      refine J.skip rfl rfl rfl rfl hc1258 ?_
      refine J.skip rfl rfl rfl rfl hc1258 ?_
      refine J.val (v := .bool true) rfl rfl (V.pickT rfl hc1258 rfl) ?_
      refine J.nil ?_
      exact ⟨rfl, ⟨(by simp only [hc1258]; rfl), rfl, rfl, rfl, trivial⟩, rfl, rfl⟩
    · skip
      refine J.run rfl rfl rfl hc1258 ?_
      refine J.val (v := .int .i64 xa) rfl rfl (V.mv rfl) ?_
      refine J.run rfl rfl rfl hc1258 ?_
      refine J.val (v := .bool (decide (16 < xa))) rfl rfl (V.gtr rfl rfl) ?_
      refine J.val (v := .bool (decide (16 < xa))) rfl rfl (V.pickF rfl hc1258 rfl) ?_
      refine J.nil ?_
      exact ⟨rfl, ⟨(by simp only [hc1258]; rfl), rfl, rfl, rfl, trivial⟩, rfl, rfl⟩
  · rintro ρ _ _ ⟨hf, rfl, rfl⟩
    obtain ⟨ρ, rfl⟩ := hf.ex
    refine J.nil ?_
    refine CJ.cond rfl (fun hc1259 => ?_) (fun hc1259 => ?_)
    · have h := ct hc1259 h
      refine CJ.seq ?_
      refine CJ.region ?_
      obtain ⟨r1260, hr1261, h⟩ := ob h
      refine J.op rfl (A.call (L1 := []) Try.call6 rfl (law10_awake_ok hr1261) rfl rfl) ?_
      rintro _ _ _ ⟨v1263, _, rfl, ⟨⟨t1262, rfl, rfl, rfl⟩, rfl⟩, _, rfl⟩
      refine J.val (v := .bool t1262) rfl rfl (V.as rfl) ?_
      refine J.nil ?_
      refine CJ.ret ?_
      have e := Option.some.inj h
      subst e
      exact ⟨_, [], Res.one rfl rfl, ⟨t1262, rfl, rfl, rfl⟩, (Hp.le_refl _), fun w hs => hs⟩
    · have h := cf hc1259 h
      refine CJ.skip ?_
      refine CJ.seq ?_
      refine CJ.region ?_
      refine J.val (v := .int .i64 xa) rfl rfl (V.mv rfl) ?_
      refine J.val (v := .slice adxb_0 xb.length cpxb_0) rfl rfl (V.mv rfl) ?_
      obtain ⟨r1266, hr1267, h⟩ := ob h
      refine J.op rfl (A.call (L1 := []) Try.call7 rfl (law10_Of_ok fxb_0 hr1267) rfl rfl) ?_
      rintro _ K1273 _ ⟨v1272, _, rfl, ⟨p1268, i1269, v1270, rfl, rfl, f1271, rfl⟩, hK1274, rfl⟩
      refine J.val (v := .tuple #[v1270, .int .i64 i1269]) rfl rfl (V.mv rfl) ?_
      refine J.val (v := v1270) rfl rfl (V.ext rfl rfl) ?_
      refine J.val (v := .int .i64 i1269) rfl rfl (V.ext rfl rfl) ?_
      refine J.val (v := v1270) rfl rfl (V.as rfl) ?_
      refine J.val (v := .int .i64 i1269) rfl rfl (V.as rfl) ?_
      refine J.nil ?_
      refine CJ.seq ?_
      refine CJ.seq ?_
      refine CJ.region ?_
      refine J.val (v := .int .i64 i1269) rfl rfl (V.mv rfl) ?_
      refine J.val (v := .bool (!decide (i1269 = 0))) rfl rfl (V.neq rfl rfl) ?_
      refine J.val (v := .bool (!decide (i1269 = 0))) rfl rfl (V.mv rfl) ?_
      refine J.cut 3 ?_
      refine @J.meet _ _ _ _ _ _ _ _ _ _ (fun ρ K' L' => Fits [(38, .bool ((!decide (i1269 = 0)) || (decide (xc < 0)))), (0, .int .i64 xa), (1, .slice adxb_0 xb.length cpxb_0), (2, .int .i64 xc), (7, v1270)] ρ ∧ K1273 = K' ∧ F = L') ?_ ?_
      · skip
        rcases bt (!decide (i1269 = 0)) with hc1277 | hc1277
        · skip
          refine J.skip rfl rfl rfl rfl hc1277 ?_
          refine J.skip rfl rfl rfl rfl hc1277 ?_
          refine J.val (v := .bool true) rfl rfl (V.pickT rfl hc1277 rfl) ?_
          refine J.nil ?_
          exact ⟨rfl, ⟨(by simp only [hc1277]; rfl), rfl, rfl, rfl, rfl, trivial⟩, rfl, rfl⟩
        · skip
          refine J.run rfl rfl rfl hc1277 ?_
          refine J.val (v := .int .i64 xc) rfl rfl (V.mv rfl) ?_
          refine J.run rfl rfl rfl hc1277 ?_
          refine J.val (v := .bool (decide (xc < 0))) rfl rfl (V.lss rfl rfl) ?_
          refine J.val (v := .bool (decide (xc < 0))) rfl rfl (V.pickF rfl hc1277 rfl) ?_
          refine J.nil ?_
          exact ⟨rfl, ⟨(by simp only [hc1277]; rfl), rfl, rfl, rfl, rfl, trivial⟩, rfl, rfl⟩
      · rintro ρ _ _ ⟨hf, rfl, rfl⟩
        obtain ⟨ρ, rfl⟩ := hf.ex
        refine J.val (v := .bool ((!decide (i1269 = 0)) || (decide (xc < 0)))) rfl rfl (V.mv rfl) ?_
        refine J.cut 4 ?_
        refine @J.meet _ _ _ _ _ _ _ _ _ _ (fun ρ K' L' => Fits [(43, .bool (((!decide (i1269 = 0)) || (decide (xc < 0))) || (decide (xa ≤ xc)))), (0, .int .i64 xa), (1, .slice adxb_0 xb.length cpxb_0), (2, .int .i64 xc), (7, v1270)] ρ ∧ K1273 = K' ∧ F = L') ?_ ?_
        · skip
          rcases bt ((!decide (i1269 = 0)) || (decide (xc < 0))) with hc1280 | hc1280
          · skip
            refine J.skip rfl rfl rfl rfl hc1280 ?_
            refine J.skip rfl rfl rfl rfl hc1280 ?_
            refine J.skip rfl rfl rfl rfl hc1280 ?_
            refine J.val (v := .bool true) rfl rfl (V.pickT rfl hc1280 rfl) ?_
            refine J.nil ?_
            exact ⟨rfl, ⟨(by simp only [hc1280]; rfl), rfl, rfl, rfl, rfl, trivial⟩, rfl, rfl⟩
          · skip
            refine J.run rfl rfl rfl hc1280 ?_
            refine J.val (v := .int .i64 xc) rfl rfl (V.mv rfl) ?_
            refine J.run rfl rfl rfl hc1280 ?_
            refine J.val (v := .int .i64 xa) rfl rfl (V.mv rfl) ?_
            refine J.run rfl rfl rfl hc1280 ?_
            refine J.val (v := .bool (decide (xa ≤ xc))) rfl rfl (V.geq rfl rfl) ?_
            refine J.val (v := .bool (decide (xa ≤ xc))) rfl rfl (V.pickF rfl hc1280 rfl) ?_
            refine J.nil ?_
            exact ⟨rfl, ⟨(by simp only [hc1280]; rfl), rfl, rfl, rfl, rfl, trivial⟩, rfl, rfl⟩
        · rintro ρ _ _ ⟨hf, rfl, rfl⟩
          obtain ⟨ρ, rfl⟩ := hf.ex
          refine J.nil ?_
          refine CJ.cond rfl (fun hc1281 => ?_) (fun hc1281 => ?_)
          · have h := ct hc1281 h
            refine CJ.seq ?_
            refine CJ.region ?_
            refine J.val (v := v1270) rfl rfl (V.mv rfl) ?_
            refine J.val (v := .int .i64 xc) rfl rfl (V.mv rfl) ?_
            obtain ⟨r1282, hr1283, h⟩ := ob h
            refine J.op rfl (A.call (L1 := []) Try.call14 rfl (graph_Graph_Reach_ok f1271 hr1283) rfl rfl) ?_
            rintro _ _ _ ⟨v1288, _, rfl, ⟨⟨l1284, ad1285, cp1286, rfl, rfl, rfl⟩, rfl⟩, _, rfl⟩
            refine J.wit Row.hn (fun hn1287 => ?_)
            refine J.val (v := .int .i64 (((l1284.length : Nat) : Int))) rfl rfl (V.len Try.underlying30 rfl) ?_
            refine J.val (v := .bool (decide ((((l1284.length : Nat) : Int)) = 0))) rfl rfl (V.eql rfl rfl) ?_
            refine J.val (v := .bool (decide ((((l1284.length : Nat) : Int)) = 0))) rfl rfl (V.mv rfl) ?_
            refine J.cut 2 ?_
            obtain ⟨t1299, ht1300, h⟩ := ob h
            refine @J.meet _ _ _ _ _ _ _ _ _ _ (fun ρ K' L' => Fits [(51, .bool t1299)] ρ ∧ K1273 = K' ∧ L' = Row Hp.nil 3 (.int .i64) (.slice ad1285 l1284.length cp1286) l1284 :: F) ?_ ?_
            · skip
              rcases bt (decide ((((l1284.length : Nat) : Int)) = 0)) with hc1301 | hc1301
              · have ht1300 := ct hc1301 ht1300
                refine J.run rfl rfl rfl hc1301 ?_
                obtain ⟨r1302, hr1303, ht1300⟩ := ob ht1300
                refine J.op rfl (A.call (L1 := []) Try.call6 rfl (law10_awake_ok hr1303) rfl rfl) ?_
                rintro _ _ _ ⟨v1305, _, rfl, ⟨⟨t1304, rfl, rfl, rfl⟩, rfl⟩, _, rfl⟩
                refine J.val (v := .bool t1304) rfl rfl (V.pickT rfl hc1301 rfl) ?_
                refine J.nil ?_
                have e := Option.some.inj ht1300
                subst e
                exact ⟨rfl, ⟨rfl, trivial⟩, rfl, rfl⟩
              · have ht1300 := cf hc1301 ht1300
                refine J.skip rfl rfl rfl rfl hc1301 ?_
                refine J.val (v := .bool false) rfl rfl (V.pickF rfl hc1301 rfl) ?_
                refine J.nil ?_
                have e := Option.some.inj ht1300
                subst e
                exact ⟨rfl, ⟨rfl, trivial⟩, rfl, rfl⟩
            · rintro ρ _ _ ⟨hf, rfl, rfl⟩
              obtain ⟨ρ, rfl⟩ := hf.ex
              refine J.val (v := .bool t1299) rfl rfl (V.as rfl) ?_
              refine J.nil ?_
              refine CJ.ret ?_
              have e := Option.some.inj h
              subst e
              exact ⟨_, [], Res.one rfl rfl, ⟨t1299, rfl, rfl, rfl⟩, hK1274, fun w hs => (Sep.dropAt 0 rfl hs)⟩
          · have h := cf hc1281 h
            refine CJ.skip ?_
            refine CJ.seq ?_
            refine CJ.region ?_
            refine J.val (v := .int .i64 xa) rfl rfl (V.mv rfl) ?_
            obtain ⟨z1308, hz1309, h⟩ := ob h
            refine J.op rfl (A.make (K0 := Hp.nil) (ty := (.int .i64)) (x0 := 0) Try.underlying30 inf3 rfl rfl (by decide) (by decide) rfl rfl hz1309) ?_
            rintro _ _ _ ⟨b1310, rfl, rfl, rfl⟩
            have hn1311 : z1308 ≠ [] → ∃ g, (some ⟨b1310, 0, none⟩ : Option Addr) = some ⟨g, 0, none⟩ := fun _ => ⟨b1310, rfl⟩
            refine J.val (v := .slice (some ⟨b1310, 0, none⟩) z1308.length xa.toNat) rfl rfl (V.as rfl) ?_
            refine J.nil ?_
            refine CJ.seq ?_
            refine CJ.region ?_
            refine J.val (v := v1270) rfl rfl (V.mv rfl) ?_
            refine J.val (v := .int .i64 xc) rfl rfl (V.mv rfl) ?_
            obtain ⟨r1313, hr1314, h⟩ := ob h
            refine J.op rfl (A.call (L1 := []) Try.call14 rfl (graph_Graph_Reach_ok f1271 hr1314) rfl rfl) ?_
            rintro _ _ _ ⟨v1319, _, rfl, ⟨⟨l1315, ad1316, cp1317, rfl, rfl, rfl⟩, rfl⟩, _, rfl⟩
            refine J.wit Row.hn (fun hn1318 => ?_)
            refine J.val (v := .slice ad1316 l1315.length cp1317) rfl rfl (V.as rfl) ?_
            refine J.nil ?_
            refine CJ.seq ?_
            refine CJ.seq ?_
            refine CJ.region ?_
            refine J.val (v := .int .i64 0) rfl rfl (V.as rfl) ?_
            refine J.nil ?_
            obtain ⟨o1410, ho1411, h⟩ := ob h
            refine CJ.meetN (fun ρ K' L' => ∃ (l1405 : (List Int)) (ad1406 : Option Addr) (cp1407 : Nat), l1405 = o1410 ∧ Fits [(0, .int .i64 xa), (1, .slice adxb_0 xb.length cpxb_0), (2, .int .i64 xc), (7, v1270), (9, .slice ad1406 l1405.length cp1407), (10, .slice ad1316 l1315.length cp1317)] ρ ∧ K1273 = K' ∧ L' = Row Hp.nil 3 (.int .i64) (.slice ad1316 l1315.length cp1317) l1315 :: Row Hp.nil 3 (.int .i64) (.slice ad1406 l1405.length cp1407) l1405 :: F) ?_ ?_
            · skip
              refine CJ.block ?_
              refine CJ.loop (fun s ρ K' L' => ∃ (l1438 : (List Int)) (i1443 : Int) (ad1439 : Option Addr) (cp1440 : Nat), (l1438, i1443) = s ∧ Fits [(0, .int .i64 xa), (1, .slice adxb_0 xb.length cpxb_0), (2, .int .i64 xc), (7, v1270), (9, .slice ad1439 l1438.length cp1440), (10, .slice ad1316 l1315.length cp1317), (11, .int .i64 i1443)] ρ ∧ K1273 = K' ∧ L' = Row Hp.nil 3 (.int .i64) (.slice ad1316 l1315.length cp1317) l1315 :: Row Hp.nil 3 (.int .i64) (.slice ad1439 l1438.length cp1440) l1438 :: F) ho1411 ⟨z1308, 0, (some ⟨b1310, 0, none⟩), xa.toNat, rfl, ⟨rfl, rfl, rfl, rfl, rfl, rfl, rfl, trivial⟩, rfl, rfl⟩ ?_
              rintro s ρ _ _ r1473 ⟨l1438, i1443, ad1439, cp1440, rfl, hf1471, rfl, rfl⟩ h1470
              obtain ⟨ρ, rfl⟩ := hf1471.ex
              refine CJ.front 1 rfl ?_
              refine CJ.wit Row.hn (fun hn1442 => ?_)
              refine CJ.seq ?_
              refine CJ.seq ?_
              refine CJ.region ?_
              refine J.val (v := .int .i64 i1443) rfl rfl (V.mv rfl) ?_
              refine J.val (v := .slice ad1316 l1315.length cp1317) rfl rfl (V.mv rfl) ?_
              refine J.val (v := .int .i64 (((l1315.length : Nat) : Int))) rfl rfl (V.len Try.underlying30 rfl) ?_
              refine J.val (v := .bool (decide (i1443 < (((l1315.length : Nat) : Int))))) rfl rfl (V.lss rfl rfl) ?_
              refine J.nil ?_
              refine CJ.cond rfl (fun hc1474 => ?_) (fun hc1474 => ?_)
              · have h1470 := ct hc1474 h1470
                refine CJ.skip ?_
                refine CJ.seq ?_
                refine CJ.block ?_
                refine CJ.region ?_
                refine J.val (v := .slice ad1439 l1438.length cp1440) rfl rfl (V.mv rfl) ?_
                refine J.val (v := .slice ad1316 l1315.length cp1317) rfl rfl (V.mv rfl) ?_
                refine J.val (v := .int .i64 i1443) rfl rfl (V.mv rfl) ?_
                obtain ⟨x1475, hx1476, h1470⟩ := ob h1470
                obtain ⟨p1477, p1478, p1479⟩ := getI_some hx1476
                obtain ⟨g1480, e1481⟩ := hn1318 (fun e => by rw [e] at p1478; simp at p1478)
                refine J.val rfl rfl (V.iad Try.underlying30 sz3 rfl e1481 rfl p1477 p1479) ?_
                refine J.val (v := .int .i64 x1475) rfl rfl (V.ld rfl (Ld.sc sc3 (Rd.row 1 rfl e1481 p1478 (q := 0) (by simp [Tp.size]) (by decide) (by rintro _ rfl; rfl)))) ?_
                obtain ⟨x1482, hx1483, h1470⟩ := ob h1470
                obtain ⟨p1484, p1485, p1486⟩ := getI_some hx1483
                obtain ⟨g1487, e1488⟩ := hn1442 (fun e => by rw [e] at p1485; simp at p1485)
                refine J.val rfl rfl (V.iad Try.underlying30 sz3 rfl e1488 rfl p1484 p1486) ?_
                obtain ⟨z1489, hz1490, h1470⟩ := ob h1470
                have e1491 := Option.some.inj hz1490
                have hl1492 : z1489.length = l1438.length := by rw [← e1491, List.length_set]
                refine J.op rfl (A.storeR (ty := (.int .i64)) (q := 0) (y0 := 1) (zs := z1489) sz3 rfl rfl rfl rfl e1488 p1485 (by simp [Tp.size]) (by decide) (by rintro _ rfl; exact rfl) e1491) ?_
                rintro _ _ _ ⟨rfl, rfl, rfl⟩
                have hn1493 : z1489 ≠ [] → _ := fun h => hn1442 (fun e => h (List.length_eq_zero_iff.1 (by rw [hl1492]; exact List.length_eq_zero_iff.2 e)))
                refine J.nil ?_
                refine CJ.region ?_
                refine J.val (v := .int .i64 i1443) rfl rfl (V.mv rfl) ?_
                refine J.val (v := .int .i64 (IntKind.wrap .i64 (i1443 + 1))) rfl rfl (V.add rfl rfl) ?_
                refine J.val (v := .int .i64 (IntKind.wrap .i64 (i1443 + 1))) rfl rfl (V.as rfl) ?_
                refine J.front 1 rfl ?_
                refine J.nil ?_
                have e := Option.some.inj h1470
                subst e
                exact ⟨rfl, ⟨z1489, IntKind.wrap .i64 (i1443 + 1), ad1439, cp1440, rfl, ⟨rfl, rfl, rfl, rfl, (by rw [hl1492]; rfl), rfl, rfl, trivial⟩, rfl, (by rw [hl1492]; first | done | rfl)⟩⟩
              · have h1470 := cf hc1474 h1470
                refine CJ.front 1 rfl ?_
                refine CJ.exit ?_
                have e := Option.some.inj h1470
                subst e
                refine ⟨nofun, fun e => ?_⟩
                subst e
                exact ⟨rfl, ⟨l1438, ad1439, cp1440, rfl, ⟨rfl, rfl, rfl, rfl, rfl, rfl, trivial⟩, rfl, rfl⟩⟩
            · rintro ρ _ _ ⟨l1405, ad1406, cp1407, rfl, hf1494, rfl, rfl⟩
              obtain ⟨ρ, rfl⟩ := hf1494.ex
              refine PJ.front 1 rfl ?_
              refine PJ.wit Row.hn (fun hn1409 => ?_)
              refine PJ.done ?_
              refine CJ.seq ?_
              refine CJ.seq ?_
              refine CJ.region ?_
              refine J.val (v := .int .i64 0) rfl rfl (V.as rfl) ?_
              refine J.nil ?_
              obtain ⟨o1902, ho1903, h⟩ := ob h
              refine CJ.joinN (o := o1902) (fun s ρ K' L' => () = s ∧ Fits [(0, .int .i64 xa), (1, .slice adxb_0 xb.length cpxb_0), (2, .int .i64 xc), (9, .slice ad1406 l1405.length cp1407), (10, .slice ad1316 l1315.length cp1317)] ρ ∧ K1273 = K' ∧ L' = Row Hp.nil 3 (.int .i64) (.slice ad1406 l1405.length cp1407) l1405 :: Row Hp.nil 3 (.int .i64) (.slice ad1316 l1315.length cp1317) l1315 :: F) ?_ ?_
              · skip
                refine CJ.block ?_
                refine CJ.loop (fun s ρ K' L' => ∃ (i2038 : Int), i2038 = s ∧ Fits [(0, .int .i64 xa), (1, .slice adxb_0 xb.length cpxb_0), (2, .int .i64 xc), (7, v1270), (9, .slice ad1406 l1405.length cp1407), (10, .slice ad1316 l1315.length cp1317), (12, .int .i64 i2038)] ρ ∧ K1273 = K' ∧ L' = Row Hp.nil 3 (.int .i64) (.slice ad1406 l1405.length cp1407) l1405 :: Row Hp.nil 3 (.int .i64) (.slice ad1316 l1315.length cp1317) l1315 :: F) ho1903 ⟨0, rfl, ⟨rfl, rfl, rfl, rfl, rfl, rfl, rfl, trivial⟩, rfl, rfl⟩ ?_
                rintro s ρ _ _ r2176 ⟨i2038, rfl, hf2174, rfl, rfl⟩ h2173
                obtain ⟨ρ, rfl⟩ := hf2174.ex
                refine CJ.seq ?_
                refine CJ.seq ?_
                refine CJ.region ?_
                refine J.val (v := .int .i64 i2038) rfl rfl (V.mv rfl) ?_
                refine J.val (v := .slice ad1316 l1315.length cp1317) rfl rfl (V.mv rfl) ?_
                refine J.val (v := .int .i64 (((l1315.length : Nat) : Int))) rfl rfl (V.len Try.underlying30 rfl) ?_
                refine J.val (v := .bool (decide (i2038 < (((l1315.length : Nat) : Int))))) rfl rfl (V.lss rfl rfl) ?_
                refine J.nil ?_
                refine CJ.cond rfl (fun hc2177 => ?_) (fun hc2177 => ?_)
                · have h2173 := ct hc2177 h2173
                  refine CJ.skip ?_
                  refine CJ.seq ?_
                  refine CJ.block ?_
                  refine CJ.seq ?_
                  refine CJ.region ?_
                  refine J.val (v := v1270) rfl rfl (V.mv rfl) ?_
                  refine J.val (v := .slice ad1316 l1315.length cp1317) rfl rfl (V.mv rfl) ?_
                  refine J.val (v := .int .i64 i2038) rfl rfl (V.mv rfl) ?_
                  obtain ⟨x2178, hx2179, h2173⟩ := ob h2173
                  obtain ⟨p2180, p2181, p2182⟩ := getI_some hx2179
                  obtain ⟨g2183, e2184⟩ := hn1318 (fun e => by rw [e] at p2181; simp at p2181)
                  refine J.val rfl rfl (V.iad Try.underlying30 sz3 rfl e2184 rfl p2180 p2182) ?_
                  refine J.val (v := .int .i64 x2178) rfl rfl (V.ld rfl (Ld.sc sc3 (Rd.row 1 rfl e2184 p2181 (q := 0) (by simp [Tp.size]) (by decide) (by rintro _ rfl; rfl)))) ?_
                  obtain ⟨r2185, hr2186, h2173⟩ := ob h2173
                  refine J.op rfl (A.call (L1 := []) Try.call13 rfl (graph_Graph_Next_ok f1271 hr2186) rfl rfl) ?_
                  rintro _ _ _ ⟨v2191, _, rfl, ⟨⟨l2187, ad2188, cp2189, rfl, rfl, rfl⟩, rfl⟩, _, rfl⟩
                  refine J.wit Row.hn (fun hn2190 => ?_)
                  refine J.val (v := .slice ad2188 l2187.length cp2189) rfl rfl (V.as rfl) ?_
                  refine J.nil ?_
                  refine CJ.seq ?_
                  refine CJ.region ?_
                  refine J.val (v := .int .i64 0) rfl rfl (V.as rfl) ?_
                  refine J.nil ?_
                  obtain ⟨o2250, ho2251, h2173⟩ := ob h2173
                  refine CJ.joinN (o := o2250) (fun s ρ K' L' => () = s ∧ Fits [(0, .int .i64 xa), (1, .slice adxb_0 xb.length cpxb_0), (2, .int .i64 xc), (7, v1270), (9, .slice ad1406 l1405.length cp1407), (10, .slice ad1316 l1315.length cp1317), (12, .int .i64 i2038)] ρ ∧ K1273 = K' ∧ L' = Row Hp.nil 3 (.int .i64) (.slice ad1406 l1405.length cp1407) l1405 :: Row Hp.nil 3 (.int .i64) (.slice ad1316 l1315.length cp1317) l1315 :: F) ?_ ?_
                  · skip
                    refine CJ.block ?_
                    refine CJ.front 2 rfl ?_
                    refine CJ.front 2 rfl ?_
                    refine CJ.loop (fun s ρ K' L' => ∃ (i2269 : Int), i2269 = s ∧ Fits [(0, .int .i64 xa), (1, .slice adxb_0 xb.length cpxb_0), (2, .int .i64 xc), (7, v1270), (9, .slice ad1406 l1405.length cp1407), (10, .slice ad1316 l1315.length cp1317), (12, .int .i64 i2038), (13, .slice ad2188 l2187.length cp2189), (14, .int .i64 i2269)] ρ ∧ K1273 = K' ∧ L' = Row Hp.nil 3 (.int .i64) (.slice ad1406 l1405.length cp1407) l1405 :: Row Hp.nil 3 (.int .i64) (.slice ad1316 l1315.length cp1317) l1315 :: Row Hp.nil 3 (.int .i64) (.slice ad2188 l2187.length cp2189) l2187 :: F) ho2251 ⟨0, rfl, ⟨rfl, rfl, rfl, rfl, rfl, rfl, rfl, rfl, rfl, trivial⟩, rfl, rfl⟩ ?_
                    rintro s ρ _ _ r2290 ⟨i2269, rfl, hf2288, rfl, rfl⟩ h2287
                    obtain ⟨ρ, rfl⟩ := hf2288.ex
                    refine CJ.seq ?_
                    refine CJ.seq ?_
                    refine CJ.region ?_
                    refine J.val (v := .int .i64 i2269) rfl rfl (V.mv rfl) ?_
                    refine J.val (v := .slice ad2188 l2187.length cp2189) rfl rfl (V.mv rfl) ?_
                    refine J.val (v := .int .i64 (((l2187.length : Nat) : Int))) rfl rfl (V.len Try.underlying30 rfl) ?_
                    refine J.val (v := .bool (decide (i2269 < (((l2187.length : Nat) : Int))))) rfl rfl (V.lss rfl rfl) ?_
                    refine J.nil ?_
                    refine CJ.cond rfl (fun hc2291 => ?_) (fun hc2291 => ?_)
                    · have h2287 := ct hc2291 h2287
                      refine CJ.skip ?_
                      refine CJ.seq ?_
                      refine CJ.block ?_
                      refine CJ.seq ?_
                      refine CJ.region ?_
                      refine J.val (v := .slice ad1406 l1405.length cp1407) rfl rfl (V.mv rfl) ?_
                      refine J.val (v := .slice ad2188 l2187.length cp2189) rfl rfl (V.mv rfl) ?_
                      refine J.val (v := .int .i64 i2269) rfl rfl (V.mv rfl) ?_
                      obtain ⟨x2292, hx2293, h2287⟩ := ob h2287
                      obtain ⟨p2294, p2295, p2296⟩ := getI_some hx2293
                      obtain ⟨g2297, e2298⟩ := hn2190 (fun e => by rw [e] at p2295; simp at p2295)
                      refine J.val rfl rfl (V.iad Try.underlying30 sz3 rfl e2298 rfl p2294 p2296) ?_
                      refine J.val (v := .int .i64 x2292) rfl rfl (V.ld rfl (Ld.sc sc3 (Rd.row 2 rfl e2298 p2295 (q := 0) (by simp [Tp.size]) (by decide) (by rintro _ rfl; rfl)))) ?_
                      obtain ⟨x2299, hx2300, h2287⟩ := ob h2287
                      obtain ⟨p2301, p2302, p2303⟩ := getI_some hx2300
                      obtain ⟨g2304, e2305⟩ := hn1409 (fun e => by rw [e] at p2302; simp at p2302)
                      refine J.val rfl rfl (V.iad Try.underlying30 sz3 rfl e2305 rfl p2301 p2303) ?_
                      refine J.val (v := .int .i64 x2299) rfl rfl (V.ld rfl (Ld.sc sc3 (Rd.row 0 rfl e2305 p2302 (q := 0) (by simp [Tp.size]) (by decide) (by rintro _ rfl; rfl)))) ?_
                      refine J.val (v := .bool (decide (x2299 = 0))) rfl rfl (V.eql rfl rfl) ?_
                      refine J.nil ?_
                      refine CJ.cond rfl (fun hc2306 => ?_) (fun hc2306 => ?_)
                      · have h2287 := ct hc2306 h2287
                        refine CJ.seq ?_
                        refine CJ.region ?_
                        refine J.val (v := .bool false) rfl rfl (V.as rfl) ?_
                        refine J.nil ?_
                        refine CJ.ret ?_
                        have e := Option.some.inj h2287
                        subst e
                        refine ⟨nofun, fun e => ?_⟩
                        subst e
                        refine .inr ⟨nofun, ?_⟩
                        have e := Option.some.inj h2173
                        subst e
                        refine ⟨nofun, fun e => ?_⟩
                        subst e
                        refine .inr ⟨nofun, ?_⟩
                        have e := Option.some.inj h
                        subst e
                        exact ⟨_, [], Res.one rfl rfl, ⟨false, rfl, rfl, rfl⟩, hK1274, fun w hs => (Sep.dropAt 0 rfl (Sep.dropAt 0 rfl (Sep.dropAt 0 rfl hs)))⟩
                      · have h2287 := cf hc2306 h2287
                        refine CJ.skip ?_
                        refine CJ.region ?_
                        refine J.val (v := .int .i64 i2269) rfl rfl (V.mv rfl) ?_
                        refine J.val (v := .int .i64 (IntKind.wrap .i64 (i2269 + 1))) rfl rfl (V.add rfl rfl) ?_
                        refine J.val (v := .int .i64 (IntKind.wrap .i64 (i2269 + 1))) rfl rfl (V.as rfl) ?_
                        refine J.nil ?_
                        have e := Option.some.inj h2287
                        subst e
                        exact ⟨rfl, ⟨IntKind.wrap .i64 (i2269 + 1), rfl, ⟨rfl, rfl, rfl, rfl, rfl, rfl, rfl, rfl, rfl, trivial⟩, rfl, rfl⟩⟩
                    · have h2287 := cf hc2291 h2287
                      refine CJ.dropAt 2 rfl ?_
                      refine CJ.exit ?_
                      have e := Option.some.inj h2287
                      subst e
                      refine ⟨nofun, fun e => ?_⟩
                      subst e
                      exact .inl ⟨rfl, _, rfl, ⟨rfl, ⟨rfl, rfl, rfl, rfl, rfl, rfl, rfl, trivial⟩, rfl, rfl⟩⟩
                  · rintro s ρ _ _ ho2307 ⟨rfl, hf2308, rfl, rfl⟩
                    subst ho2307
                    obtain ⟨ρ, rfl⟩ := hf2308.ex
                    refine PJ.done ?_
                    refine CJ.region ?_
                    refine J.val (v := .int .i64 i2038) rfl rfl (V.mv rfl) ?_
                    refine J.val (v := .int .i64 (IntKind.wrap .i64 (i2038 + 1))) rfl rfl (V.add rfl rfl) ?_
                    refine J.val (v := .int .i64 (IntKind.wrap .i64 (i2038 + 1))) rfl rfl (V.as rfl) ?_
                    refine J.nil ?_
                    have e := Option.some.inj h2173
                    subst e
                    exact ⟨rfl, ⟨IntKind.wrap .i64 (i2038 + 1), rfl, ⟨rfl, rfl, rfl, rfl, rfl, rfl, rfl, trivial⟩, rfl, rfl⟩⟩
                · have h2173 := cf hc2177 h2173
                  refine CJ.exit ?_
                  have e := Option.some.inj h2173
                  subst e
                  refine ⟨nofun, fun e => ?_⟩
                  subst e
                  exact .inl ⟨rfl, _, rfl, ⟨rfl, ⟨rfl, rfl, rfl, rfl, rfl, trivial⟩, rfl, rfl⟩⟩
              · rintro s ρ _ _ ho2310 ⟨rfl, hf2311, rfl, rfl⟩
                subst ho2310
                obtain ⟨ρ, rfl⟩ := hf2311.ex
                refine PJ.done ?_
                refine CJ.seq ?_
                refine CJ.seq ?_
                refine CJ.region ?_
                refine J.val (v := .slice ad1406 l1405.length cp1407) rfl rfl (V.mv rfl) ?_
                refine J.val (v := .int .i64 xc) rfl rfl (V.mv rfl) ?_
                obtain ⟨x2313, hx2314, h⟩ := ob h
                obtain ⟨p2315, p2316, p2317⟩ := getI_some hx2314
                obtain ⟨g2318, e2319⟩ := hn1409 (fun e => by rw [e] at p2316; simp at p2316)
                refine J.val rfl rfl (V.iad Try.underlying30 sz3 rfl e2319 rfl p2315 p2317) ?_
                refine J.val (v := .int .i64 x2313) rfl rfl (V.ld rfl (Ld.sc sc3 (Rd.row 0 rfl e2319 p2316 (q := 0) (by simp [Tp.size]) (by decide) (by rintro _ rfl; rfl)))) ?_
                refine J.val (v := .bool (decide (x2313 = 0))) rfl rfl (V.eql rfl rfl) ?_
                refine J.val (v := .bool (decide (x2313 = 0))) rfl rfl (V.mv rfl) ?_
                refine J.cut 4 ?_
                refine @J.meet _ _ _ _ _ _ _ _ _ _ (fun ρ K' L' => Fits [(104, .bool ((decide (x2313 = 0)) || (decide ((((xb.length : Nat) : Int)) = 0)))), (0, .int .i64 xa), (1, .slice adxb_0 xb.length cpxb_0), (2, .int .i64 xc), (9, .slice ad1406 l1405.length cp1407), (10, .slice ad1316 l1315.length cp1317)] ρ ∧ K1273 = K' ∧ L' = Row Hp.nil 3 (.int .i64) (.slice ad1406 l1405.length cp1407) l1405 :: Row Hp.nil 3 (.int .i64) (.slice ad1316 l1315.length cp1317) l1315 :: F) ?_ ?_
                · skip
                  rcases bt (decide (x2313 = 0)) with hc2322 | hc2322
                  · skip
                    refine J.skip rfl rfl rfl rfl hc2322 ?_
                    refine J.skip rfl rfl rfl rfl hc2322 ?_
                    refine J.skip rfl rfl rfl rfl hc2322 ?_
                    refine J.val (v := .bool true) rfl rfl (V.pickT rfl hc2322 rfl) ?_
                    refine J.nil ?_
                    exact ⟨rfl, ⟨(by simp only [hc2322]; rfl), rfl, rfl, rfl, rfl, rfl, trivial⟩, rfl, rfl⟩
                  · skip
                    refine J.run rfl rfl rfl hc2322 ?_
                    refine J.val (v := .slice adxb_0 xb.length cpxb_0) rfl rfl (V.mv rfl) ?_
                    refine J.run rfl rfl rfl hc2322 ?_
                    refine J.val (v := .int .i64 (((xb.length : Nat) : Int))) rfl rfl (V.len Try.underlying22 rfl) ?_
                    refine J.run rfl rfl rfl hc2322 ?_
                    refine J.val (v := .bool (decide ((((xb.length : Nat) : Int)) = 0))) rfl rfl (V.eql rfl rfl) ?_
                    refine J.val (v := .bool (decide ((((xb.length : Nat) : Int)) = 0))) rfl rfl (V.pickF rfl hc2322 rfl) ?_
                    refine J.nil ?_
                    exact ⟨rfl, ⟨(by simp only [hc2322]; rfl), rfl, rfl, rfl, rfl, rfl, trivial⟩, rfl, rfl⟩
                · rintro ρ _ _ ⟨hf, rfl, rfl⟩
                  obtain ⟨ρ, rfl⟩ := hf.ex
                  refine J.nil ?_
                  refine CJ.cond rfl (fun hc2323 => ?_) (fun hc2323 => ?_)
                  · have h := ct hc2323 h
                    refine CJ.seq ?_
                    refine CJ.region ?_
                    refine J.val (v := .slice ad1406 l1405.length cp1407) rfl rfl (V.mv rfl) ?_
                    refine J.val (v := .int .i64 xc) rfl rfl (V.mv rfl) ?_
                    obtain ⟨x2324, hx2325, h⟩ := ob h
                    obtain ⟨p2326, p2327, p2328⟩ := getI_some hx2325
                    obtain ⟨g2329, e2330⟩ := hn1409 (fun e => by rw [e] at p2327; simp at p2327)
                    refine J.val rfl rfl (V.iad Try.underlying30 sz3 rfl e2330 rfl p2326 p2328) ?_
                    refine J.val (v := .int .i64 x2324) rfl rfl (V.ld rfl (Ld.sc sc3 (Rd.row 0 rfl e2330 p2327 (q := 0) (by simp [Tp.size]) (by decide) (by rintro _ rfl; rfl)))) ?_
                    refine J.val (v := .bool (decide (x2324 = 1))) rfl rfl (V.eql rfl rfl) ?_
                    refine J.val (v := .bool (decide (x2324 = 1))) rfl rfl (V.mv rfl) ?_
                    refine J.cut 4 ?_
                    refine @J.meet _ _ _ _ _ _ _ _ _ _ (fun ρ K' L' => Fits [(114, .bool ((decide (x2324 = 1)) && (decide ((((l1315.length : Nat) : Int)) = 1))))] ρ ∧ K1273 = K' ∧ L' = Row Hp.nil 3 (.int .i64) (.slice ad1406 l1405.length cp1407) l1405 :: Row Hp.nil 3 (.int .i64) (.slice ad1316 l1315.length cp1317) l1315 :: F) ?_ ?_
                    · skip
                      rcases bt (decide (x2324 = 1)) with hc2333 | hc2333
                      · skip
                        refine J.run rfl rfl rfl hc2333 ?_
                        refine J.val (v := .slice ad1316 l1315.length cp1317) rfl rfl (V.mv rfl) ?_
                        refine J.run rfl rfl rfl hc2333 ?_
                        refine J.val (v := .int .i64 (((l1315.length : Nat) : Int))) rfl rfl (V.len Try.underlying30 rfl) ?_
                        refine J.run rfl rfl rfl hc2333 ?_
                        refine J.val (v := .bool (decide ((((l1315.length : Nat) : Int)) = 1))) rfl rfl (V.eql rfl rfl) ?_
                        refine J.val (v := .bool (decide ((((l1315.length : Nat) : Int)) = 1))) rfl rfl (V.pickT rfl hc2333 rfl) ?_
                        refine J.nil ?_
                        exact ⟨rfl, ⟨(by simp only [hc2333]; rfl), trivial⟩, rfl, rfl⟩
                      · skip
                        refine J.skip rfl rfl rfl rfl hc2333 ?_
                        refine J.skip rfl rfl rfl rfl hc2333 ?_
                        refine J.skip rfl rfl rfl rfl hc2333 ?_
                        refine J.val (v := .bool false) rfl rfl (V.pickF rfl hc2333 rfl) ?_
                        refine J.nil ?_
                        exact ⟨rfl, ⟨(by simp only [hc2333]; rfl), trivial⟩, rfl, rfl⟩
                    · rintro ρ _ _ ⟨hf, rfl, rfl⟩
                      obtain ⟨ρ, rfl⟩ := hf.ex
                      refine J.val (v := .bool ((decide (x2324 = 1)) && (decide ((((l1315.length : Nat) : Int)) = 1)))) rfl rfl (V.mv rfl) ?_
                      refine J.cut 2 ?_
                      obtain ⟨t2341, ht2342, h⟩ := ob h
                      refine @J.meet _ _ _ _ _ _ _ _ _ _ (fun ρ K' L' => Fits [(117, .bool t2341)] ρ ∧ K1273 = K' ∧ L' = Row Hp.nil 3 (.int .i64) (.slice ad1406 l1405.length cp1407) l1405 :: Row Hp.nil 3 (.int .i64) (.slice ad1316 l1315.length cp1317) l1315 :: F) ?_ ?_
                      · skip
                        rcases bt ((decide (x2324 = 1)) && (decide ((((l1315.length : Nat) : Int)) = 1))) with hc2343 | hc2343
                        · have ht2342 := ct hc2343 ht2342
                          refine J.run rfl rfl rfl hc2343 ?_
                          obtain ⟨r2344, hr2345, ht2342⟩ := ob ht2342
                          refine J.op rfl (A.call (L1 := []) Try.call6 rfl (law10_awake_ok hr2345) rfl rfl) ?_
                          rintro _ _ _ ⟨v2347, _, rfl, ⟨⟨t2346, rfl, rfl, rfl⟩, rfl⟩, _, rfl⟩
                          refine J.val (v := .bool t2346) rfl rfl (V.pickT rfl hc2343 rfl) ?_
                          refine J.nil ?_
                          have e := Option.some.inj ht2342
                          subst e
                          exact ⟨rfl, ⟨rfl, trivial⟩, rfl, rfl⟩
                        · have ht2342 := cf hc2343 ht2342
                          refine J.skip rfl rfl rfl rfl hc2343 ?_
                          refine J.val (v := .bool false) rfl rfl (V.pickF rfl hc2343 rfl) ?_
                          refine J.nil ?_
                          have e := Option.some.inj ht2342
                          subst e
                          exact ⟨rfl, ⟨rfl, trivial⟩, rfl, rfl⟩
                      · rintro ρ _ _ ⟨hf, rfl, rfl⟩
                        obtain ⟨ρ, rfl⟩ := hf.ex
                        refine J.val (v := .bool t2341) rfl rfl (V.as rfl) ?_
                        refine J.nil ?_
                        refine CJ.ret ?_
                        have e := Option.some.inj h
                        subst e
                        exact ⟨_, [], Res.one rfl rfl, ⟨t2341, rfl, rfl, rfl⟩, hK1274, fun w hs => (Sep.dropAt 0 rfl (Sep.dropAt 0 rfl hs))⟩
                  · have h := cf hc2323 h
                    refine CJ.skip ?_
                    refine CJ.seq ?_
                    refine CJ.region ?_
                    refine J.val (v := .int .i64 xa) rfl rfl (V.mv rfl) ?_
                    refine J.val (v := .slice adxb_0 xb.length cpxb_0) rfl rfl (V.mv rfl) ?_
                    refine J.val (v := .slice adxb_0 xb.length cpxb_0) rfl rfl (V.mv rfl) ?_
                    refine J.val (v := .int .i64 (((xb.length : Nat) : Int))) rfl rfl (V.len Try.underlying22 rfl) ?_
                    refine J.val (v := .int .i64 (IntKind.wrap .i64 ((((xb.length : Nat) : Int)) - 1))) rfl rfl (V.sub rfl rfl) ?_
                    obtain ⟨y2350, hy2351, h⟩ := ob h
                    obtain ⟨ad2352, cp2353, hv2354, f2355⟩ := V.subI (tp := (.cons (.int .i64) (.one (.int .i64)))) Try.underlying22 sz37 (fxb_0.mono hK1274) hy2351
                    refine J.val (v := .slice ad2352 y2350.length cp2353) rfl rfl (hv2354 rfl nofun (fun _ => rfl) (fun _ h => by cases h; exact ⟨_, rfl⟩) nofun) ?_
                    obtain ⟨r2356, hr2357, h⟩ := ob h
                    refine J.op rfl (A.call (L1 := []) Try.call7 rfl (law10_Of_ok f2355 hr2357) rfl rfl) ?_
                    rintro _ K2363 _ ⟨v2362, _, rfl, ⟨p2358, i2359, v2360, rfl, rfl, f2361, rfl⟩, hK2364, rfl⟩
                    refine J.val (v := .tuple #[v2360, .int .i64 i2359]) rfl rfl (V.mv rfl) ?_
                    refine J.val (v := v2360) rfl rfl (V.ext rfl rfl) ?_
                    refine J.val (v := .int .i64 i2359) rfl rfl (V.ext rfl rfl) ?_
                    refine J.val (v := v2360) rfl rfl (V.as rfl) ?_
                    refine J.val (v := .int .i64 i2359) rfl rfl (V.as rfl) ?_
                    refine J.nil ?_
                    refine CJ.seq ?_
                    refine CJ.region ?_
                    refine J.val (v := v2360) rfl rfl (V.mv rfl) ?_
                    refine J.val (v := .int .i64 xc) rfl rfl (V.mv rfl) ?_
                    obtain ⟨r2365, hr2366, h⟩ := ob h
                    refine J.op rfl (A.call (L1 := []) Try.call14 rfl (graph_Graph_Reach_ok f2361 hr2366) rfl rfl) ?_
                    rintro _ _ _ ⟨v2371, _, rfl, ⟨⟨l2367, ad2368, cp2369, rfl, rfl, rfl⟩, rfl⟩, _, rfl⟩
                    refine J.wit Row.hn (fun hn2370 => ?_)
                    refine J.val (v := .slice ad2368 l2367.length cp2369) rfl rfl (V.as rfl) ?_
                    refine J.nil ?_
                    refine CJ.seq ?_
                    refine CJ.seq ?_
                    refine CJ.region ?_
                    refine J.val (v := .int .i64 0) rfl rfl (V.as rfl) ?_
                    refine J.nil ?_
                    obtain ⟨o2430, ho2431, h⟩ := ob h
                    refine CJ.joinN (o := o2430) (fun s ρ K' L' => () = s ∧ Fits [(10, .slice ad1316 l1315.length cp1317), (16, .int .i64 i2359), (17, .slice ad2368 l2367.length cp2369)] ρ ∧ K2363 = K' ∧ L' = Row Hp.nil 3 (.int .i64) (.slice ad1316 l1315.length cp1317) l1315 :: Row Hp.nil 3 (.int .i64) (.slice ad2368 l2367.length cp2369) l2367 :: F) ?_ ?_
                    · skip
                      refine CJ.block ?_
                      refine CJ.front 2 rfl ?_
                      refine CJ.front 2 rfl ?_
                      refine CJ.loop (fun s ρ K' L' => ∃ (i2449 : Int), i2449 = s ∧ Fits [(9, .slice ad1406 l1405.length cp1407), (10, .slice ad1316 l1315.length cp1317), (16, .int .i64 i2359), (17, .slice ad2368 l2367.length cp2369), (18, .int .i64 i2449)] ρ ∧ K2363 = K' ∧ L' = Row Hp.nil 3 (.int .i64) (.slice ad1406 l1405.length cp1407) l1405 :: Row Hp.nil 3 (.int .i64) (.slice ad1316 l1315.length cp1317) l1315 :: Row Hp.nil 3 (.int .i64) (.slice ad2368 l2367.length cp2369) l2367 :: F) ho2431 ⟨0, rfl, ⟨rfl, rfl, rfl, rfl, rfl, trivial⟩, rfl, rfl⟩ ?_
                      rintro s ρ _ _ r2470 ⟨i2449, rfl, hf2468, rfl, rfl⟩ h2467
                      obtain ⟨ρ, rfl⟩ := hf2468.ex
                      refine CJ.seq ?_
                      refine CJ.seq ?_
                      refine CJ.region ?_
                      refine J.val (v := .int .i64 i2449) rfl rfl (V.mv rfl) ?_
                      refine J.val (v := .slice ad2368 l2367.length cp2369) rfl rfl (V.mv rfl) ?_
                      refine J.val (v := .int .i64 (((l2367.length : Nat) : Int))) rfl rfl (V.len Try.underlying30 rfl) ?_
                      refine J.val (v := .bool (decide (i2449 < (((l2367.length : Nat) : Int))))) rfl rfl (V.lss rfl rfl) ?_
                      refine J.nil ?_
                      refine CJ.cond rfl (fun hc2471 => ?_) (fun hc2471 => ?_)
                      · have h2467 := ct hc2471 h2467
                        refine CJ.skip ?_
                        refine CJ.seq ?_
                        refine CJ.block ?_
                        refine CJ.seq ?_
                        refine CJ.region ?_
                        refine J.val (v := .slice ad1406 l1405.length cp1407) rfl rfl (V.mv rfl) ?_
                        refine J.val (v := .slice ad2368 l2367.length cp2369) rfl rfl (V.mv rfl) ?_
                        refine J.val (v := .int .i64 i2449) rfl rfl (V.mv rfl) ?_
                        obtain ⟨x2472, hx2473, h2467⟩ := ob h2467
                        obtain ⟨p2474, p2475, p2476⟩ := getI_some hx2473
                        obtain ⟨g2477, e2478⟩ := hn2370 (fun e => by rw [e] at p2475; simp at p2475)
                        refine J.val rfl rfl (V.iad Try.underlying30 sz3 rfl e2478 rfl p2474 p2476) ?_
                        refine J.val (v := .int .i64 x2472) rfl rfl (V.ld rfl (Ld.sc sc3 (Rd.row 2 rfl e2478 p2475 (q := 0) (by simp [Tp.size]) (by decide) (by rintro _ rfl; rfl)))) ?_
                        obtain ⟨x2479, hx2480, h2467⟩ := ob h2467
                        obtain ⟨p2481, p2482, p2483⟩ := getI_some hx2480
                        obtain ⟨g2484, e2485⟩ := hn1409 (fun e => by rw [e] at p2482; simp at p2482)
                        refine J.val rfl rfl (V.iad Try.underlying30 sz3 rfl e2485 rfl p2481 p2483) ?_
                        refine J.val (v := .int .i64 x2479) rfl rfl (V.ld rfl (Ld.sc sc3 (Rd.row 0 rfl e2485 p2482 (q := 0) (by simp [Tp.size]) (by decide) (by rintro _ rfl; rfl)))) ?_
                        refine J.val (v := .bool (decide (x2479 = 0))) rfl rfl (V.eql rfl rfl) ?_
                        refine J.nil ?_
                        refine CJ.cond rfl (fun hc2486 => ?_) (fun hc2486 => ?_)
                        · have h2467 := ct hc2486 h2467
                          refine CJ.seq ?_
                          refine CJ.region ?_
                          refine J.val (v := .bool false) rfl rfl (V.as rfl) ?_
                          refine J.nil ?_
                          refine CJ.ret ?_
                          have e := Option.some.inj h2467
                          subst e
                          refine ⟨nofun, fun e => ?_⟩
                          subst e
                          refine .inr ⟨nofun, ?_⟩
                          have e := Option.some.inj h
                          subst e
                          exact ⟨_, [], Res.one rfl rfl, ⟨false, rfl, rfl, rfl⟩, (hK1274.trans hK2364), fun w hs => (Sep.dropAt 0 rfl (Sep.dropAt 0 rfl (Sep.dropAt 0 rfl hs)))⟩
                        · have h2467 := cf hc2486 h2467
                          refine CJ.skip ?_
                          refine CJ.region ?_
                          refine J.val (v := .int .i64 i2449) rfl rfl (V.mv rfl) ?_
                          refine J.val (v := .int .i64 (IntKind.wrap .i64 (i2449 + 1))) rfl rfl (V.add rfl rfl) ?_
                          refine J.val (v := .int .i64 (IntKind.wrap .i64 (i2449 + 1))) rfl rfl (V.as rfl) ?_
                          refine J.nil ?_
                          have e := Option.some.inj h2467
                          subst e
                          exact ⟨rfl, ⟨IntKind.wrap .i64 (i2449 + 1), rfl, ⟨rfl, rfl, rfl, rfl, rfl, trivial⟩, rfl, rfl⟩⟩
                      · have h2467 := cf hc2471 h2467
                        refine CJ.dropAt 0 rfl ?_
                        refine CJ.exit ?_
                        have e := Option.some.inj h2467
                        subst e
                        refine ⟨nofun, fun e => ?_⟩
                        subst e
                        exact .inl ⟨rfl, _, rfl, ⟨rfl, ⟨rfl, rfl, rfl, trivial⟩, rfl, rfl⟩⟩
                    · rintro s ρ _ _ ho2487 ⟨rfl, hf2488, rfl, rfl⟩
                      subst ho2487
                      obtain ⟨ρ, rfl⟩ := hf2488.ex
                      refine PJ.done ?_
                      refine CJ.seq ?_
                      refine CJ.region ?_
                      refine J.val (v := .int .i64 i2359) rfl rfl (V.mv rfl) ?_
                      refine J.val (v := .bool (decide (i2359 = 0))) rfl rfl (V.eql rfl rfl) ?_
                      refine J.val (v := .bool (decide (i2359 = 0))) rfl rfl (V.mv rfl) ?_
                      refine J.cut 6 ?_
                      refine @J.meet _ _ _ _ _ _ _ _ _ _ (fun ρ K' L' => Fits [(153, .bool ((decide (i2359 = 0)) && (decide ((((l2367.length : Nat) : Int)) ≤ (((l1315.length : Nat) : Int))))))] ρ ∧ K2363 = K' ∧ L' = Row Hp.nil 3 (.int .i64) (.slice ad1316 l1315.length cp1317) l1315 :: Row Hp.nil 3 (.int .i64) (.slice ad2368 l2367.length cp2369) l2367 :: F) ?_ ?_
                      · skip
                        rcases bt (decide (i2359 = 0)) with hc2492 | hc2492
                        · skip
                          refine J.run rfl rfl rfl hc2492 ?_
                          refine J.val (v := .slice ad2368 l2367.length cp2369) rfl rfl (V.mv rfl) ?_
                          refine J.run rfl rfl rfl hc2492 ?_
                          refine J.val (v := .int .i64 (((l2367.length : Nat) : Int))) rfl rfl (V.len Try.underlying30 rfl) ?_
                          refine J.run rfl rfl rfl hc2492 ?_
                          refine J.val (v := .slice ad1316 l1315.length cp1317) rfl rfl (V.mv rfl) ?_
                          refine J.run rfl rfl rfl hc2492 ?_
                          refine J.val (v := .int .i64 (((l1315.length : Nat) : Int))) rfl rfl (V.len Try.underlying30 rfl) ?_
                          refine J.run rfl rfl rfl hc2492 ?_
                          refine J.val (v := .bool (decide ((((l2367.length : Nat) : Int)) ≤ (((l1315.length : Nat) : Int))))) rfl rfl (V.leq rfl rfl) ?_
                          refine J.val (v := .bool (decide ((((l2367.length : Nat) : Int)) ≤ (((l1315.length : Nat) : Int))))) rfl rfl (V.pickT rfl hc2492 rfl) ?_
                          refine J.nil ?_
                          exact ⟨rfl, ⟨(by simp only [hc2492]; rfl), trivial⟩, rfl, rfl⟩
                        · skip
                          refine J.skip rfl rfl rfl rfl hc2492 ?_
                          refine J.skip rfl rfl rfl rfl hc2492 ?_
                          refine J.skip rfl rfl rfl rfl hc2492 ?_
                          refine J.skip rfl rfl rfl rfl hc2492 ?_
                          refine J.skip rfl rfl rfl rfl hc2492 ?_
                          refine J.val (v := .bool false) rfl rfl (V.pickF rfl hc2492 rfl) ?_
                          refine J.nil ?_
                          exact ⟨rfl, ⟨(by simp only [hc2492]; rfl), trivial⟩, rfl, rfl⟩
                      · rintro ρ _ _ ⟨hf, rfl, rfl⟩
                        obtain ⟨ρ, rfl⟩ := hf.ex
                        refine J.val (v := .bool ((decide (i2359 = 0)) && (decide ((((l2367.length : Nat) : Int)) ≤ (((l1315.length : Nat) : Int)))))) rfl rfl (V.mv rfl) ?_
                        refine J.cut 2 ?_
                        obtain ⟨t2500, ht2501, h⟩ := ob h
                        refine @J.meet _ _ _ _ _ _ _ _ _ _ (fun ρ K' L' => Fits [(156, .bool t2500)] ρ ∧ K2363 = K' ∧ L' = Row Hp.nil 3 (.int .i64) (.slice ad1316 l1315.length cp1317) l1315 :: Row Hp.nil 3 (.int .i64) (.slice ad2368 l2367.length cp2369) l2367 :: F) ?_ ?_
                        · skip
                          rcases bt ((decide (i2359 = 0)) && (decide ((((l2367.length : Nat) : Int)) ≤ (((l1315.length : Nat) : Int))))) with hc2502 | hc2502
                          · have ht2501 := ct hc2502 ht2501
                            refine J.run rfl rfl rfl hc2502 ?_
                            obtain ⟨r2503, hr2504, ht2501⟩ := ob ht2501
                            refine J.op rfl (A.call (L1 := []) Try.call6 rfl (law10_awake_ok hr2504) rfl rfl) ?_
                            rintro _ _ _ ⟨v2506, _, rfl, ⟨⟨t2505, rfl, rfl, rfl⟩, rfl⟩, _, rfl⟩
                            refine J.val (v := .bool t2505) rfl rfl (V.pickT rfl hc2502 rfl) ?_
                            refine J.nil ?_
                            have e := Option.some.inj ht2501
                            subst e
                            exact ⟨rfl, ⟨rfl, trivial⟩, rfl, rfl⟩
                          · have ht2501 := cf hc2502 ht2501
                            refine J.skip rfl rfl rfl rfl hc2502 ?_
                            refine J.val (v := .bool false) rfl rfl (V.pickF rfl hc2502 rfl) ?_
                            refine J.nil ?_
                            have e := Option.some.inj ht2501
                            subst e
                            exact ⟨rfl, ⟨rfl, trivial⟩, rfl, rfl⟩
                        · rintro ρ _ _ ⟨hf, rfl, rfl⟩
                          obtain ⟨ρ, rfl⟩ := hf.ex
                          refine J.val (v := .bool t2500) rfl rfl (V.as rfl) ?_
                          refine J.nil ?_
                          refine CJ.ret ?_
                          have e := Option.some.inj h
                          subst e
                          exact ⟨_, [], Res.one rfl rfl, ⟨t2500, rfl, rfl, rfl⟩, (hK1274.trans hK2364), fun w hs => (Sep.dropAt 0 rfl (Sep.dropAt 0 rfl hs))⟩
end Go.Proofs.Ytoghdhopojoggaa
