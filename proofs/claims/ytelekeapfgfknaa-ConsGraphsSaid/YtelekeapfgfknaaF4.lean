/- What Go functions answer: generated. -/
import Derived.Test.YtelekeapfgfknaaF3
namespace Go.Proofs.Ytelekeapfgfknaa
open Go.RowKit
set_option linter.unusedVariables false
set_option linter.unnecessarySimpa false
set_option linter.unusedSimpArgs false
set_option maxRecDepth 20000
noncomputable def fn_graph_indexed_ik_graph_New_2_l1 (xb : (List (Int × Int))) : (Int × (List Int)) → Option ((Int × (List Int)) ⊕ (List Int)) := fun ((i1853, l1854) : (Int × (List Int))) => cond (decide (i1853 < (((xb.length : Nat) : Int)))) ((getI xb i1853).bind fun x1926 => (fn_graph_New_2 (x1926.1, x1926.2)).bind fun i1958 => (getI l1854 (IntKind.wrap .i64 (i1958 + 1))).bind fun x1962 => (getI l1854 (IntKind.wrap .i64 (i1958 + 1))).bind fun x1969 => (some (l1854.set (IntKind.wrap .i64 (i1958 + 1)).toNat (IntKind.wrap .i64 (x1962 + 1)))).bind fun z1976 => some (.inl ((IntKind.wrap .i64 (i1853 + 1), z1976)))) (some (.inr (l1854)))
noncomputable def fn_graph_indexed_ik_graph_New_2_l2 (xa : Int) : (Int × (List Int)) → Option ((Int × (List Int)) ⊕ (List Int)) := fun ((i2210, l2211) : (Int × (List Int))) => cond (decide (i2210 < xa)) ((getI l2211 (IntKind.wrap .i64 (i2210 + 1))).bind fun x2296 => (getI l2211 i2210).bind fun x2303 => (getI l2211 (IntKind.wrap .i64 (i2210 + 1))).bind fun x2310 => (some (l2211.set (IntKind.wrap .i64 (i2210 + 1)).toNat (IntKind.wrap .i64 (x2296 + x2303)))).bind fun z2317 => some (.inl ((IntKind.wrap .i64 (i2210 + 1), z2317)))) (some (.inr (l2211)))
noncomputable def fn_graph_indexed_ik_graph_New_2_l3 (xb : (List (Int × Int))) : ((List Int) × Int × (List Int)) → Option (((List Int) × Int × (List Int)) ⊕ (List Int)) := fun ((l2668, i2673, l2674) : ((List Int) × Int × (List Int))) => cond (decide (i2673 < (((xb.length : Nat) : Int)))) ((getI xb i2673).bind fun x2764 => (fn_graph_New_2 (x2764.1, x2764.2)).bind fun i2776 => (getI l2668 i2776).bind fun x2794 => (getI l2674 x2794).bind fun x2801 => (some (l2674.set x2794.toNat i2673)).bind fun z2808 => (getI l2668 i2776).bind fun x2813 => (getI l2668 i2776).bind fun x2820 => (some (l2668.set i2776.toNat (IntKind.wrap .i64 (x2813 + 1)))).bind fun z2827 => some (.inl ((z2827, IntKind.wrap .i64 (i2673 + 1), z2808)))) (some (.inr (l2674)))
noncomputable def fn_graph_indexed_ik_graph_New_2 (xa : Int) (xb : (List (Int × Int))) : Option (((List Int) × (List Int))) :=
  ((mk (IntKind.wrap .i64 (xa + 1)) (IntKind.wrap .i64 (xa + 1)) 0 : Option (List Int)).bind fun z1553 => (mk (((xb.length : Nat) : Int)) (((xb.length : Nat) : Int)) 0 : Option (List Int)).bind fun z1555 => some ((z1553, z1555)) : Option (((List Int) × (List Int)))).bind fun (l1502, l1507) => (loop (fn_graph_indexed_ik_graph_New_2_l1 xb) (0, l1502) : Option (List Int)).bind fun l1784 => (loop (fn_graph_indexed_ik_graph_New_2_l2 xa) (0, l1784) : Option (List Int)).bind fun l2149 => (fn_slices_Clone_int_int l2149).bind fun l2329 => (loop (fn_graph_indexed_ik_graph_New_2_l3 xb) (l2329, 0, l1507) : Option (List Int)).bind fun l2581 => some ((l2149, l2581))
set_option maxRecDepth 100000 in
set_option maxHeartbeats 4000000 in
theorem graph_indexed_ik_graph_New_2_ok {K : Hp} {xa : Int} {xb : (List (Int × Int))} {adxb_0 : Option Addr} {cpxb_0 : Nat} (fxb_0 : Is K (.sl (.cons (.int .i64) (.one (.int .i64)))) [.slice adxb_0 xb.length cpxb_0] xb) {r : ((List Int) × (List Int))} (h : fn_graph_indexed_ik_graph_New_2 xa xb = some r) :
    Tr Try.prog 20 #[ii xa, .slice adxb_0 xb.length cpxb_0, .func (.func 22) #[] #[]] K [] (fun v K' L' => (∃ (l1413 : (List Int)) (l1417 : (List Int)) (ad1414 : Option Addr) (cp1415 : Nat) (ad1418 : Option Addr) (cp1419 : Nat), (l1413, l1417) = r ∧ .agg #[.slice ad1414 l1413.length cp1415, .slice ad1418 l1417.length cp1419] = v ∧ Is K' (.sl (.int .i64)) [.slice ad1414 l1413.length cp1415] l1413 ∧ L' = [Row Hp.nil 3 (.int .i64) (.slice ad1418 l1417.length cp1419) l1417])) := by
 refine Tr.of Try.func20 rfl Try.ntmps20 rfl fun E F => ?_
 unfold fn_graph_indexed_ik_graph_New_2 at h
 refine cr <| jal inf67 [nos, nos] rfl fun b1422 => J.nil <| CJ.seq ?_
 obtain ⟨o1512, ho1513, h⟩ := ob h
 refine CJ.meetN (fun ρ K' L' => ∃ (l1502 : (List Int)) (l1507 : (List Int)) (nb1501 : Nat) (ad1503 : Option Addr) (cp1504 : Nat) (ad1508 : Option Addr) (cp1509 : Nat), (l1502, l1507) = o1512 ∧ Fits [(0, ii xa), (1, .slice adxb_0 xb.length cpxb_0), (2, .func (.func 22) #[] #[]), (6, .pointer (some ⟨b1422, 0, none⟩)), (7, .pointer (some ⟨nb1501, 0, none⟩))] ρ ∧ K = K' ∧ L' = Cl b1422 67 [nos, nos] :: Cl nb1501 67 [.slice ad1503 l1502.length cp1504, .slice ad1508 l1507.length cp1509] :: Row Hp.nil 3 (.int .i64) (.slice ad1503 l1502.length cp1504) l1502 :: Row Hp.nil 3 (.int .i64) (.slice ad1508 l1507.length cp1509) l1507 :: F) ?_ ?_
 · refine CJ.tree [Cl b1422 67 [nos, nos]] (.still [0, 1, 3, 4] (.alt 2 (.alt 5 (.still [6] (.alt 7 (.alt 8 (.leaf []) .done) .done)) (.alt 7 (.alt 5 (.still [6] (.alt 8 (.leaf []) .done)) .done) .done)) (.alt 5 (.alt 2 (.still [6] (.alt 7 (.alt 8 (.leaf []) .done) .done)) (.alt 7 (.alt 2 (.still [6] (.alt 8 (.leaf []) .done)) .done) .done)) (.alt 7 (.alt 2 (.alt 5 (.still [6] (.alt 8 (.leaf []) .done)) .done) (.alt 5 (.alt 2 (.still [6] (.alt 8 (.leaf []) .done)) .done) .done)) .done)))) [] mixO (by decide +kernel) ⟨0, rfl, trivial⟩ rfl <| JT.still rfl <| qm (ii xa) rfl <| qv (ii (IntKind.wrap .i64 (xa + 1))) (V.add rfl rfl) <| qm (.slice adxb_0 xb.length cpxb_0) rfl <| qv (ii (((xb.length : Nat) : Int))) (V.len Try.underlying62 rfl) <| JQ.nil ?_
   obtain ⟨z1553, hz1554, ho1513⟩ := ob ho1513
   obtain ⟨z1555, hz1556, ho1513⟩ := ob ho1513
   refine JT.alt rfl ?_ ?_
   · refine JB.op rfl (A.make (K0 := Hp.nil) (ty := (.int .i64)) (x0 := 0) Try.underlying54 inf3 rfl rfl (by decide) (by decide) rfl rfl hz1554) ?_
     rintro _ _ _ ⟨b1557, rfl, rfl, rfl⟩
     have hn1558 : z1553 ≠ [] → ∃ g, (some ⟨b1557, 0, none⟩ : Option Addr) = some ⟨g, 0, none⟩ := fun _ => ⟨b1557, rfl⟩
     refine ⟨fun w hs => Hold.sub (Hp.le_refl _) ⟨1, rfl, trivial⟩ hs, ?_⟩
     refine JT.alt rfl ?_ ?_
     · refine JB.op rfl (A.make (K0 := Hp.nil) (ty := (.int .i64)) (x0 := 0) Try.underlying54 inf3 rfl rfl (by decide) (by decide) rfl rfl hz1556) ?_
       rintro _ _ _ ⟨b1560, rfl, rfl, rfl⟩
       have hn1561 : z1555 ≠ [] → ∃ g, (some ⟨b1560, 0, none⟩ : Option Addr) = some ⟨g, 0, none⟩ := fun _ => ⟨b1560, rfl⟩
       refine ⟨fun w hs => Hold.sub (Hp.le_refl _) ⟨2, rfl, trivial⟩ hs, ?_⟩
       refine JT.still rfl <| qv (.agg #[.slice (some ⟨b1557, 0, none⟩) z1553.length (IntKind.wrap .i64 (xa + 1)).toNat, .slice (some ⟨b1560, 0, none⟩) z1555.length (((xb.length : Nat) : Int)).toNat]) (V.build inf67 places67 rfl rfl) <| JQ.nil <| JT.alt rfl ?_ JT.done
       refine JB.op rfl (A.alloc (cs := [nos, nos]) inf67 rfl) ?_
       rintro _ _ _ ⟨b1563, rfl, rfl, rfl⟩
       refine ⟨fun w hs => Hold.sub (Hp.le_refl _) ⟨3, rfl, trivial⟩ hs, ?_⟩
       refine JT.alt rfl ?_ JT.done
       refine JB.op rfl (A.store (v := .agg #[.slice (some ⟨b1557, 0, none⟩) z1553.length (IntKind.wrap .i64 (xa + 1)).toNat, .slice (some ⟨b1560, 0, none⟩) z1555.length (((xb.length : Nat) : Int)).toNat]) (cs' := [.slice (some ⟨b1557, 0, none⟩) z1553.length (IntKind.wrap .i64 (xa + 1)).toNat, .slice (some ⟨b1560, 0, none⟩) z1555.length (((xb.length : Nat) : Int)).toNat]) sz67 rfl rfl rfl rfl rfl rfl) ?_
       rintro _ _ _ ⟨rfl, rfl, rfl⟩
       refine ⟨fun w hs => Hold.sub (Hp.le_refl _) ⟨3, rfl, trivial⟩ hs, ?_⟩
       refine JT.leaf rfl <| JQ.nil <| J.front 1 rfl <| J.front 2 rfl <| J.front 2 rfl <| J.front 3 rfl <| J.nil ?_
       obtain rfl := si ho1513
       exact ⟨rfl, ⟨z1553, z1555, b1563, (some ⟨b1557, 0, none⟩), (IntKind.wrap .i64 (xa + 1)).toNat, (some ⟨b1560, 0, none⟩), (((xb.length : Nat) : Int)).toNat, rfl, ⟨rfl, rfl, rfl, rfl, rfl, trivial⟩, rfl, rfl⟩⟩
     refine JT.alt rfl ?_ JT.done
     refine JB.op rfl (A.alloc (cs := [nos, nos]) inf67 rfl) ?_
     rintro _ _ _ ⟨b1564, rfl, rfl, rfl⟩
     refine ⟨fun w hs => Hold.sub (Hp.le_refl _) ⟨2, rfl, trivial⟩ hs, ?_⟩
     refine JT.alt rfl ?_ JT.done
     refine JB.op rfl (A.make (K0 := Hp.nil) (ty := (.int .i64)) (x0 := 0) Try.underlying54 inf3 rfl rfl (by decide) (by decide) rfl rfl hz1556) ?_
     rintro _ _ _ ⟨b1565, rfl, rfl, rfl⟩
     have hn1566 : z1555 ≠ [] → ∃ g, (some ⟨b1565, 0, none⟩ : Option Addr) = some ⟨g, 0, none⟩ := fun _ => ⟨b1565, rfl⟩
     refine ⟨fun w hs => Hold.sub (Hp.le_refl _) ⟨3, rfl, trivial⟩ hs, ?_⟩
     refine JT.still rfl <| qv (.agg #[.slice (some ⟨b1557, 0, none⟩) z1553.length (IntKind.wrap .i64 (xa + 1)).toNat, .slice (some ⟨b1565, 0, none⟩) z1555.length (((xb.length : Nat) : Int)).toNat]) (V.build inf67 places67 rfl rfl) <| JQ.nil <| JT.alt rfl ?_ JT.done
     refine JB.front 1 rfl <| JB.op rfl (A.store (v := .agg #[.slice (some ⟨b1557, 0, none⟩) z1553.length (IntKind.wrap .i64 (xa + 1)).toNat, .slice (some ⟨b1565, 0, none⟩) z1555.length (((xb.length : Nat) : Int)).toNat]) (cs' := [.slice (some ⟨b1557, 0, none⟩) z1553.length (IntKind.wrap .i64 (xa + 1)).toNat, .slice (some ⟨b1565, 0, none⟩) z1555.length (((xb.length : Nat) : Int)).toNat]) sz67 rfl rfl rfl rfl rfl rfl) ?_
     rintro _ _ _ ⟨rfl, rfl, rfl⟩
     refine ⟨fun w hs => Hold.sub (Hp.le_refl _) ⟨3, rfl, trivial⟩ hs, ?_⟩
     refine JT.leaf rfl <| JQ.nil <| J.front 1 rfl <| J.front 2 rfl <| J.front 2 rfl <| J.front 3 rfl <| J.nil ?_
     obtain rfl := si ho1513
     exact ⟨rfl, ⟨z1553, z1555, b1564, (some ⟨b1557, 0, none⟩), (IntKind.wrap .i64 (xa + 1)).toNat, (some ⟨b1565, 0, none⟩), (((xb.length : Nat) : Int)).toNat, rfl, ⟨rfl, rfl, rfl, rfl, rfl, trivial⟩, rfl, rfl⟩⟩
   refine JT.alt rfl ?_ ?_
   · refine JB.op rfl (A.make (K0 := Hp.nil) (ty := (.int .i64)) (x0 := 0) Try.underlying54 inf3 rfl rfl (by decide) (by decide) rfl rfl hz1556) ?_
     rintro _ _ _ ⟨b1568, rfl, rfl, rfl⟩
     have hn1569 : z1555 ≠ [] → ∃ g, (some ⟨b1568, 0, none⟩ : Option Addr) = some ⟨g, 0, none⟩ := fun _ => ⟨b1568, rfl⟩
     refine ⟨fun w hs => Hold.sub (Hp.le_refl _) ⟨1, rfl, trivial⟩ hs, ?_⟩
     refine JT.alt rfl ?_ ?_
     · refine JB.op rfl (A.make (K0 := Hp.nil) (ty := (.int .i64)) (x0 := 0) Try.underlying54 inf3 rfl rfl (by decide) (by decide) rfl rfl hz1554) ?_
       rintro _ _ _ ⟨b1571, rfl, rfl, rfl⟩
       have hn1572 : z1553 ≠ [] → ∃ g, (some ⟨b1571, 0, none⟩ : Option Addr) = some ⟨g, 0, none⟩ := fun _ => ⟨b1571, rfl⟩
       refine ⟨fun w hs => Hold.sub (Hp.le_refl _) ⟨2, rfl, trivial⟩ hs, ?_⟩
       refine JT.still rfl <| qv (.agg #[.slice (some ⟨b1571, 0, none⟩) z1553.length (IntKind.wrap .i64 (xa + 1)).toNat, .slice (some ⟨b1568, 0, none⟩) z1555.length (((xb.length : Nat) : Int)).toNat]) (V.build inf67 places67 rfl rfl) <| JQ.nil <| JT.alt rfl ?_ JT.done
       refine JB.op rfl (A.alloc (cs := [nos, nos]) inf67 rfl) ?_
       rintro _ _ _ ⟨b1574, rfl, rfl, rfl⟩
       refine ⟨fun w hs => Hold.sub (Hp.le_refl _) ⟨3, rfl, trivial⟩ hs, ?_⟩
       refine JT.alt rfl ?_ JT.done
       refine JB.op rfl (A.store (v := .agg #[.slice (some ⟨b1571, 0, none⟩) z1553.length (IntKind.wrap .i64 (xa + 1)).toNat, .slice (some ⟨b1568, 0, none⟩) z1555.length (((xb.length : Nat) : Int)).toNat]) (cs' := [.slice (some ⟨b1571, 0, none⟩) z1553.length (IntKind.wrap .i64 (xa + 1)).toNat, .slice (some ⟨b1568, 0, none⟩) z1555.length (((xb.length : Nat) : Int)).toNat]) sz67 rfl rfl rfl rfl rfl rfl) ?_
       rintro _ _ _ ⟨rfl, rfl, rfl⟩
       refine ⟨fun w hs => Hold.sub (Hp.le_refl _) ⟨3, rfl, trivial⟩ hs, ?_⟩
       refine JT.leaf rfl <| JQ.nil <| J.front 2 rfl <| J.front 2 rfl <| J.front 2 rfl <| J.front 3 rfl <| J.nil ?_
       obtain rfl := si ho1513
       exact ⟨rfl, ⟨z1553, z1555, b1574, (some ⟨b1571, 0, none⟩), (IntKind.wrap .i64 (xa + 1)).toNat, (some ⟨b1568, 0, none⟩), (((xb.length : Nat) : Int)).toNat, rfl, ⟨rfl, rfl, rfl, rfl, rfl, trivial⟩, rfl, rfl⟩⟩
     refine JT.alt rfl ?_ JT.done
     refine JB.op rfl (A.alloc (cs := [nos, nos]) inf67 rfl) ?_
     rintro _ _ _ ⟨b1575, rfl, rfl, rfl⟩
     refine ⟨fun w hs => Hold.sub (Hp.le_refl _) ⟨2, rfl, trivial⟩ hs, ?_⟩
     refine JT.alt rfl ?_ JT.done
     refine JB.op rfl (A.make (K0 := Hp.nil) (ty := (.int .i64)) (x0 := 0) Try.underlying54 inf3 rfl rfl (by decide) (by decide) rfl rfl hz1554) ?_
     rintro _ _ _ ⟨b1576, rfl, rfl, rfl⟩
     have hn1577 : z1553 ≠ [] → ∃ g, (some ⟨b1576, 0, none⟩ : Option Addr) = some ⟨g, 0, none⟩ := fun _ => ⟨b1576, rfl⟩
     refine ⟨fun w hs => Hold.sub (Hp.le_refl _) ⟨3, rfl, trivial⟩ hs, ?_⟩
     refine JT.still rfl <| qv (.agg #[.slice (some ⟨b1576, 0, none⟩) z1553.length (IntKind.wrap .i64 (xa + 1)).toNat, .slice (some ⟨b1568, 0, none⟩) z1555.length (((xb.length : Nat) : Int)).toNat]) (V.build inf67 places67 rfl rfl) <| JQ.nil <| JT.alt rfl ?_ JT.done
     refine JB.front 1 rfl <| JB.op rfl (A.store (v := .agg #[.slice (some ⟨b1576, 0, none⟩) z1553.length (IntKind.wrap .i64 (xa + 1)).toNat, .slice (some ⟨b1568, 0, none⟩) z1555.length (((xb.length : Nat) : Int)).toNat]) (cs' := [.slice (some ⟨b1576, 0, none⟩) z1553.length (IntKind.wrap .i64 (xa + 1)).toNat, .slice (some ⟨b1568, 0, none⟩) z1555.length (((xb.length : Nat) : Int)).toNat]) sz67 rfl rfl rfl rfl rfl rfl) ?_
     rintro _ _ _ ⟨rfl, rfl, rfl⟩
     refine ⟨fun w hs => Hold.sub (Hp.le_refl _) ⟨3, rfl, trivial⟩ hs, ?_⟩
     refine JT.leaf rfl <| JQ.nil <| J.front 2 rfl <| J.front 2 rfl <| J.front 2 rfl <| J.front 3 rfl <| J.nil ?_
     obtain rfl := si ho1513
     exact ⟨rfl, ⟨z1553, z1555, b1575, (some ⟨b1576, 0, none⟩), (IntKind.wrap .i64 (xa + 1)).toNat, (some ⟨b1568, 0, none⟩), (((xb.length : Nat) : Int)).toNat, rfl, ⟨rfl, rfl, rfl, rfl, rfl, trivial⟩, rfl, rfl⟩⟩
   refine JT.alt rfl ?_ JT.done
   refine JB.op rfl (A.alloc (cs := [nos, nos]) inf67 rfl) ?_
   rintro _ _ _ ⟨b1579, rfl, rfl, rfl⟩
   refine ⟨fun w hs => Hold.sub (Hp.le_refl _) ⟨1, rfl, trivial⟩ hs, ?_⟩
   refine JT.alt rfl ?_ ?_
   · refine JB.op rfl (A.make (K0 := Hp.nil) (ty := (.int .i64)) (x0 := 0) Try.underlying54 inf3 rfl rfl (by decide) (by decide) rfl rfl hz1554) ?_
     rintro _ _ _ ⟨b1580, rfl, rfl, rfl⟩
     have hn1581 : z1553 ≠ [] → ∃ g, (some ⟨b1580, 0, none⟩ : Option Addr) = some ⟨g, 0, none⟩ := fun _ => ⟨b1580, rfl⟩
     refine ⟨fun w hs => Hold.sub (Hp.le_refl _) ⟨2, rfl, trivial⟩ hs, ?_⟩
     refine JT.alt rfl ?_ JT.done
     refine JB.op rfl (A.make (K0 := Hp.nil) (ty := (.int .i64)) (x0 := 0) Try.underlying54 inf3 rfl rfl (by decide) (by decide) rfl rfl hz1556) ?_
     rintro _ _ _ ⟨b1583, rfl, rfl, rfl⟩
     have hn1584 : z1555 ≠ [] → ∃ g, (some ⟨b1583, 0, none⟩ : Option Addr) = some ⟨g, 0, none⟩ := fun _ => ⟨b1583, rfl⟩
     refine ⟨fun w hs => Hold.sub (Hp.le_refl _) ⟨3, rfl, trivial⟩ hs, ?_⟩
     refine JT.still rfl <| qv (.agg #[.slice (some ⟨b1580, 0, none⟩) z1553.length (IntKind.wrap .i64 (xa + 1)).toNat, .slice (some ⟨b1583, 0, none⟩) z1555.length (((xb.length : Nat) : Int)).toNat]) (V.build inf67 places67 rfl rfl) <| JQ.nil <| JT.alt rfl ?_ JT.done
     refine JB.front 2 rfl <| JB.op rfl (A.store (v := .agg #[.slice (some ⟨b1580, 0, none⟩) z1553.length (IntKind.wrap .i64 (xa + 1)).toNat, .slice (some ⟨b1583, 0, none⟩) z1555.length (((xb.length : Nat) : Int)).toNat]) (cs' := [.slice (some ⟨b1580, 0, none⟩) z1553.length (IntKind.wrap .i64 (xa + 1)).toNat, .slice (some ⟨b1583, 0, none⟩) z1555.length (((xb.length : Nat) : Int)).toNat]) sz67 rfl rfl rfl rfl rfl rfl) ?_
     rintro _ _ _ ⟨rfl, rfl, rfl⟩
     refine ⟨fun w hs => Hold.sub (Hp.le_refl _) ⟨3, rfl, trivial⟩ hs, ?_⟩
     refine JT.leaf rfl <| JQ.nil <| J.front 1 rfl <| J.front 2 rfl <| J.front 2 rfl <| J.front 3 rfl <| J.nil ?_
     obtain rfl := si ho1513
     exact ⟨rfl, ⟨z1553, z1555, b1579, (some ⟨b1580, 0, none⟩), (IntKind.wrap .i64 (xa + 1)).toNat, (some ⟨b1583, 0, none⟩), (((xb.length : Nat) : Int)).toNat, rfl, ⟨rfl, rfl, rfl, rfl, rfl, trivial⟩, rfl, rfl⟩⟩
   refine JT.alt rfl ?_ JT.done
   refine JB.op rfl (A.make (K0 := Hp.nil) (ty := (.int .i64)) (x0 := 0) Try.underlying54 inf3 rfl rfl (by decide) (by decide) rfl rfl hz1556) ?_
   rintro _ _ _ ⟨b1586, rfl, rfl, rfl⟩
   have hn1587 : z1555 ≠ [] → ∃ g, (some ⟨b1586, 0, none⟩ : Option Addr) = some ⟨g, 0, none⟩ := fun _ => ⟨b1586, rfl⟩
   refine ⟨fun w hs => Hold.sub (Hp.le_refl _) ⟨2, rfl, trivial⟩ hs, ?_⟩
   refine JT.alt rfl ?_ JT.done
   refine JB.op rfl (A.make (K0 := Hp.nil) (ty := (.int .i64)) (x0 := 0) Try.underlying54 inf3 rfl rfl (by decide) (by decide) rfl rfl hz1554) ?_
   rintro _ _ _ ⟨b1589, rfl, rfl, rfl⟩
   have hn1590 : z1553 ≠ [] → ∃ g, (some ⟨b1589, 0, none⟩ : Option Addr) = some ⟨g, 0, none⟩ := fun _ => ⟨b1589, rfl⟩
   refine ⟨fun w hs => Hold.sub (Hp.le_refl _) ⟨3, rfl, trivial⟩ hs, ?_⟩
   refine JT.still rfl <| qv (.agg #[.slice (some ⟨b1589, 0, none⟩) z1553.length (IntKind.wrap .i64 (xa + 1)).toNat, .slice (some ⟨b1586, 0, none⟩) z1555.length (((xb.length : Nat) : Int)).toNat]) (V.build inf67 places67 rfl rfl) <| JQ.nil <| JT.alt rfl ?_ JT.done
   refine JB.front 2 rfl <| JB.op rfl (A.store (v := .agg #[.slice (some ⟨b1589, 0, none⟩) z1553.length (IntKind.wrap .i64 (xa + 1)).toNat, .slice (some ⟨b1586, 0, none⟩) z1555.length (((xb.length : Nat) : Int)).toNat]) (cs' := [.slice (some ⟨b1589, 0, none⟩) z1553.length (IntKind.wrap .i64 (xa + 1)).toNat, .slice (some ⟨b1586, 0, none⟩) z1555.length (((xb.length : Nat) : Int)).toNat]) sz67 rfl rfl rfl rfl rfl rfl) ?_
   rintro _ _ _ ⟨rfl, rfl, rfl⟩
   refine ⟨fun w hs => Hold.sub (Hp.le_refl _) ⟨3, rfl, trivial⟩ hs, ?_⟩
   refine JT.leaf rfl <| JQ.nil <| J.front 2 rfl <| J.front 2 rfl <| J.front 2 rfl <| J.front 3 rfl <| J.nil ?_
   obtain rfl := si ho1513
   exact ⟨rfl, ⟨z1553, z1555, b1579, (some ⟨b1589, 0, none⟩), (IntKind.wrap .i64 (xa + 1)).toNat, (some ⟨b1586, 0, none⟩), (((xb.length : Nat) : Int)).toNat, rfl, ⟨rfl, rfl, rfl, rfl, rfl, trivial⟩, rfl, rfl⟩⟩
 rintro ρ _ _ ⟨l1502, l1507, nb1501, ad1503, cp1504, ad1508, cp1509, rfl, hf1592, rfl, rfl⟩
 obtain ⟨ρ, rfl⟩ := hf1592.ex
 refine PJ.front 2 rfl <| PJ.wit Row.hn fun hn1506 => PJ.front 3 rfl <| PJ.wit Row.hn fun hn1511 => PJ.done <| CJ.seq <| CJ.seq ?_
 refine CJ.region <| jm (.slice adxb_0 xb.length cpxb_0) rfl <| jv (ii (((xb.length : Nat) : Int))) (V.len Try.underlying62 rfl) <| jm (ii 0) rfl <| J.nil ?_
 obtain ⟨o1789, ho1790, h⟩ := ob h
 refine CJ.meetN (fun ρ K' L' => ∃ (l1784 : (List Int)) (ad1785 : Option Addr) (cp1786 : Nat), l1784 = o1789 ∧ Fits [(0, ii xa), (1, .slice adxb_0 xb.length cpxb_0), (2, .func (.func 22) #[] #[]), (6, .pointer (some ⟨b1422, 0, none⟩)), (7, .pointer (some ⟨nb1501, 0, none⟩))] ρ ∧ K = K' ∧ L' = Cl b1422 67 [nos, nos] :: Cl nb1501 67 [.slice ad1785 l1784.length cp1786, .slice ad1508 l1507.length cp1509] :: Row Hp.nil 3 (.int .i64) (.slice ad1508 l1507.length cp1509) l1507 :: Row Hp.nil 3 (.int .i64) (.slice ad1785 l1784.length cp1786) l1784 :: F) ?_ ?_
 · refine CJ.block <| CJ.front 1 rfl <| CJ.front 1 rfl <| CJ.front 3 rfl <| CJ.front 3 rfl <| CJ.loop (fun s ρ K' L' => ∃ (i1853 : Int) (l1854 : (List Int)) (ad1855 : Option Addr) (cp1856 : Nat), (i1853, l1854) = s ∧ Fits [(0, ii xa), (1, .slice adxb_0 xb.length cpxb_0), (2, .func (.func 22) #[] #[]), (6, .pointer (some ⟨b1422, 0, none⟩)), (7, .pointer (some ⟨nb1501, 0, none⟩)), (22, .slice adxb_0 xb.length cpxb_0), (23, ii (((xb.length : Nat) : Int))), (24, ii i1853)] ρ ∧ K = K' ∧ L' = Cl b1422 67 [nos, nos] :: Cl nb1501 67 [.slice ad1855 l1854.length cp1856, .slice ad1508 l1507.length cp1509] :: Row Hp.nil 3 (.int .i64) (.slice ad1508 l1507.length cp1509) l1507 :: Row Hp.nil 3 (.int .i64) (.slice ad1855 l1854.length cp1856) l1854 :: F) ho1790 ⟨0, l1502, ad1503, cp1504, rfl, ⟨rfl, rfl, rfl, rfl, rfl, rfl, rfl, rfl, trivial⟩, rfl, rfl⟩ ?_
   rintro s ρ _ _ r1924 ⟨i1853, l1854, ad1855, cp1856, rfl, hf1922, rfl, rfl⟩ h1921
   obtain ⟨ρ, rfl⟩ := hf1922.ex
   refine CJ.front 3 rfl <| CJ.wit Row.hn fun hn1858 => cr <| jv (.bool (decide (i1853 < (((xb.length : Nat) : Int))))) (V.lss rfl rfl) <| J.nil <| CJ.seq ?_
   refine cc rfl h1921 (fun hc1925 h1921 => ?_) fun hc1925 h1921 => ?_
   · refine CJ.skip <| CJ.seq <| CJ.block <| CJ.seq <| CJ.region ?_
     obtain ⟨x1926, hx1927, h1921⟩ := ob h1921
     obtain ⟨p1928, p1929, p1930⟩ := getI_some hx1927
     obtain ⟨b1931, o1932, e1933, a1934⟩ := (fxb_0).at p1929
     refine jv _ (V.iad Try.underlying62 sz41 rfl e1933 rfl p1928 p1930) <| jv (.agg #[ii x1926.1, ii x1926.2]) (V.ld rfl (Ld.aggK (cs := [ii x1926.1, ii x1926.2]) Try.underlying41 sz41 rfl ⟨((a1934).fst).int, (((a1934).snd).one).int, trivial⟩ (Hp.le_refl _))) <| jal inf41 [ii 0, ii 0] rfl fun b1935 => js [ii x1926.1, ii x1926.2] sz41 rfl rfl rfl rfl rfl rfl <| J.nil <| CJ.mix [Cl b1935 41 [ii x1926.1, ii x1926.2], Row Hp.nil 3 (.int .i64) (.slice ad1855 l1854.length cp1856) l1854, Cl b1422 67 [nos, nos], Cl nb1501 67 [.slice ad1855 l1854.length cp1856, .slice ad1508 l1507.length cp1509], Row Hp.nil 3 (.int .i64) (.slice ad1508 l1507.length cp1509) l1507] [([0, 1, 2, 3], 4)] [5, 6, 7, 8, 9] [10] mixO (by decide +kernel) ⟨0, rfl, 0, rfl, 0, rfl, 0, rfl, 0, rfl, trivial⟩ rfl rfl rfl <| JM.cons ?_
     refine qv _ (V.fad Try.underlying67 rfl nz54 rfl) <| qv (.slice ad1855 l1854.length cp1856) (V.ld rfl (Ld.sc sc54 (Rd.cl 3 rfl rfl))) <| qm (.func (.func 22) #[] #[]) rfl <| qv (.agg #[ii x1926.1, ii x1926.2]) (V.ld rfl (Ld.agg (cs := [ii x1926.1, ii x1926.2]) Try.underlying41 sz41 rfl (Rd.cls 0 0 rfl rfl))) <| JQ.nil ?_
     obtain ⟨r1956, hr1957, h1921⟩ := ob h1921
     refine JA.op rfl (A.call (L1 := []) Try.call22 rfl (graph_New_2_ok hr1957) rfl rfl) ?_
     rintro _ _ _ ⟨v1959, _, rfl, ⟨⟨i1958, rfl, rfl, rfl⟩, rfl⟩, _, rfl⟩
     refine ⟨fun w hs => Hold.sub (Hp.le_refl _) ⟨0, rfl, 0, rfl, 0, rfl, 0, rfl, 0, rfl, trivial⟩ hs, ?_⟩
     refine JM.nil <| qv (ii (IntKind.wrap .i64 (i1958 + 1))) (V.add rfl rfl) ?_
     obtain ⟨x1962, hx1963, h1921⟩ := ob h1921
     obtain ⟨p1964, p1965, p1966⟩ := getI_some hx1963
     obtain ⟨g1967, e1968⟩ := hn1858 (fun e => by rw [e] at p1965; simp at p1965)
     refine qv _ (V.iad Try.underlying54 sz3 rfl e1968 rfl p1964 p1966) <| qv (ii x1962) (V.ld rfl (Ld.sc sc3 (Rd.row 1 rfl e1968 p1965 (q := 0) (by simp [Tp.size]) (by decide) (by rintro _ rfl; rfl)))) <| qv (ii (IntKind.wrap .i64 (x1962 + 1))) (V.add rfl rfl) ?_
     obtain ⟨x1969, hx1970, h1921⟩ := ob h1921
     obtain ⟨p1971, p1972, p1973⟩ := getI_some hx1970
     obtain ⟨g1974, e1975⟩ := hn1858 (fun e => by rw [e] at p1972; simp at p1972)
     refine qv _ (V.iad Try.underlying54 sz3 rfl e1975 rfl p1971 p1973) <| JQ.nil <| J.front 1 rfl ?_
     obtain ⟨z1976, hz1977, h1921⟩ := ob h1921
     have e1978 := Option.some.inj hz1977
     have hl1979 : z1976.length = l1854.length := by rw [← e1978, List.length_set]
     refine J.op rfl (A.storeR (ty := (.int .i64)) (q := 0) (y0 := IntKind.wrap .i64 (x1962 + 1)) (zs := z1976) sz3 rfl rfl rfl rfl e1975 p1972 (by simp [Tp.size]) (by decide) (by rintro _ rfl; exact rfl) e1978) ?_
     rintro _ _ _ ⟨rfl, rfl, rfl⟩
     have hn1980 : z1976 ≠ [] → _ := fun h => hn1858 (fun e => h (List.length_eq_zero_iff.1 (by rw [hl1979]; exact List.length_eq_zero_iff.2 e)))
     refine J.nil <| CJ.region <| jv (ii (IntKind.wrap .i64 (i1853 + 1))) (V.add rfl rfl) <| jm (ii (IntKind.wrap .i64 (i1853 + 1))) rfl <| J.dropAt 1 rfl <| J.front 3 rfl <| J.front 3 rfl ?_
     refine J.front 3 rfl <| J.nil ?_
     obtain rfl := si h1921
     exact ⟨rfl, ⟨IntKind.wrap .i64 (i1853 + 1), z1976, ad1855, cp1856, rfl, ⟨rfl, rfl, rfl, rfl, rfl, rfl, rfl, rfl, trivial⟩, rfl, (by rw [hl1979]; first | done | rfl)⟩⟩
   refine CJ.front 3 rfl <| CJ.front 3 rfl <| CJ.front 3 rfl <| CJ.exit ?_
   obtain rfl := si h1921
   refine ⟨nofun, fun e => ?_⟩
   subst e
   exact ⟨rfl, ⟨l1854, ad1855, cp1856, rfl, ⟨rfl, rfl, rfl, rfl, rfl, trivial⟩, rfl, rfl⟩⟩
 rintro ρ _ _ ⟨l1784, ad1785, cp1786, rfl, hf1981, rfl, rfl⟩
 obtain ⟨ρ, rfl⟩ := hf1981.ex
 refine PJ.front 3 rfl <| PJ.wit Row.hn fun hn1788 => PJ.done <| CJ.seq <| cr <| jm (ii xa) rfl ?_
 refine jm (ii 0) rfl <| J.nil ?_
 obtain ⟨o2154, ho2155, h⟩ := ob h
 refine CJ.meetN (fun ρ K' L' => ∃ (l2149 : (List Int)) (ad2150 : Option Addr) (cp2151 : Nat), l2149 = o2154 ∧ Fits [(1, .slice adxb_0 xb.length cpxb_0), (2, .func (.func 22) #[] #[]), (6, .pointer (some ⟨b1422, 0, none⟩)), (7, .pointer (some ⟨nb1501, 0, none⟩))] ρ ∧ K = K' ∧ L' = Cl b1422 67 [nos, nos] :: Cl nb1501 67 [.slice ad2150 l2149.length cp2151, .slice ad1508 l1507.length cp1509] :: Row Hp.nil 3 (.int .i64) (.slice ad1508 l1507.length cp1509) l1507 :: Row Hp.nil 3 (.int .i64) (.slice ad2150 l2149.length cp2151) l2149 :: F) ?_ ?_
 · refine CJ.block <| CJ.front 3 rfl <| CJ.front 3 rfl <| CJ.front 3 rfl <| CJ.loop (fun s ρ K' L' => ∃ (i2210 : Int) (l2211 : (List Int)) (ad2212 : Option Addr) (cp2213 : Nat), (i2210, l2211) = s ∧ Fits [(1, .slice adxb_0 xb.length cpxb_0), (2, .func (.func 22) #[] #[]), (6, .pointer (some ⟨b1422, 0, none⟩)), (7, .pointer (some ⟨nb1501, 0, none⟩)), (39, ii xa), (40, ii i2210)] ρ ∧ K = K' ∧ L' = Cl b1422 67 [nos, nos] :: Cl nb1501 67 [.slice ad2212 l2211.length cp2213, .slice ad1508 l1507.length cp1509] :: Row Hp.nil 3 (.int .i64) (.slice ad1508 l1507.length cp1509) l1507 :: Row Hp.nil 3 (.int .i64) (.slice ad2212 l2211.length cp2213) l2211 :: F) ho2155 ⟨0, l1784, ad1785, cp1786, rfl, ⟨rfl, rfl, rfl, rfl, rfl, rfl, trivial⟩, rfl, rfl⟩ ?_
   rintro s ρ _ _ r2273 ⟨i2210, l2211, ad2212, cp2213, rfl, hf2271, rfl, rfl⟩ h2270
   obtain ⟨ρ, rfl⟩ := hf2271.ex
   refine CJ.front 3 rfl <| CJ.wit Row.hn fun hn2215 => cr <| jv (.bool (decide (i2210 < xa))) (V.lss rfl rfl) <| J.nil <| CJ.seq ?_
   refine cc rfl h2270 (fun hc2274 h2270 => ?_) fun hc2274 h2270 => ?_
   · refine CJ.skip <| CJ.seq <| CJ.block <| cr <| jm (ii i2210) rfl <| ja (ii i2210) rfl ?_
     refine J.nil <| CJ.mix [Row Hp.nil 3 (.int .i64) (.slice ad2212 l2211.length cp2213) l2211, Cl b1422 67 [nos, nos], Cl nb1501 67 [.slice ad2212 l2211.length cp2213, .slice ad1508 l1507.length cp1509], Row Hp.nil 3 (.int .i64) (.slice ad1508 l1507.length cp1509) l1507] [] [0, 1, 2, 3, 4, 5, 6, 7, 8, 9, 10, 11, 12] [13] mixO (by decide +kernel) ⟨0, rfl, 0, rfl, 0, rfl, 0, rfl, trivial⟩ rfl rfl rfl <| JM.nil <| qv _ (V.fad Try.underlying67 rfl nz54 rfl) <| qv (.slice ad2212 l2211.length cp2213) (V.ld rfl (Ld.sc sc54 (Rd.cl 2 rfl rfl))) <| qm (ii i2210) rfl <| qv (ii (IntKind.wrap .i64 (i2210 + 1))) (V.add rfl rfl) ?_
     obtain ⟨x2296, hx2297, h2270⟩ := ob h2270
     obtain ⟨p2298, p2299, p2300⟩ := getI_some hx2297
     obtain ⟨g2301, e2302⟩ := hn2215 (fun e => by rw [e] at p2299; simp at p2299)
     refine qv _ (V.iad Try.underlying54 sz3 rfl e2302 rfl p2298 p2300) <| qv (ii x2296) (V.ld rfl (Ld.sc sc3 (Rd.row 0 rfl e2302 p2299 (q := 0) (by simp [Tp.size]) (by decide) (by rintro _ rfl; rfl)))) <| qv _ (V.fad Try.underlying67 rfl nz54 rfl) <| qv (.slice ad2212 l2211.length cp2213) (V.ld rfl (Ld.sc sc54 (Rd.cl 2 rfl rfl))) <| qm (ii i2210) rfl ?_
     obtain ⟨x2303, hx2304, h2270⟩ := ob h2270
     obtain ⟨p2305, p2306, p2307⟩ := getI_some hx2304
     obtain ⟨g2308, e2309⟩ := hn2215 (fun e => by rw [e] at p2306; simp at p2306)
     refine qv _ (V.iad Try.underlying54 sz3 rfl e2309 rfl p2305 p2307) <| qv (ii x2303) (V.ld rfl (Ld.sc sc3 (Rd.row 0 rfl e2309 p2306 (q := 0) (by simp [Tp.size]) (by decide) (by rintro _ rfl; rfl)))) <| qv (ii (IntKind.wrap .i64 (x2296 + x2303))) (V.add rfl rfl) ?_
     obtain ⟨x2310, hx2311, h2270⟩ := ob h2270
     obtain ⟨p2312, p2313, p2314⟩ := getI_some hx2311
     obtain ⟨g2315, e2316⟩ := hn2215 (fun e => by rw [e] at p2313; simp at p2313)
     refine qv _ (V.iad Try.underlying54 sz3 rfl e2316 rfl p2312 p2314) <| JQ.nil ?_
     obtain ⟨z2317, hz2318, h2270⟩ := ob h2270
     have e2319 := Option.some.inj hz2318
     have hl2320 : z2317.length = l2211.length := by rw [← e2319, List.length_set]
     refine J.op rfl (A.storeR (ty := (.int .i64)) (q := 0) (y0 := IntKind.wrap .i64 (x2296 + x2303)) (zs := z2317) sz3 rfl rfl rfl rfl e2316 p2313 (by simp [Tp.size]) (by decide) (by rintro _ rfl; exact rfl) e2319) ?_
     rintro _ _ _ ⟨rfl, rfl, rfl⟩
     have hn2321 : z2317 ≠ [] → _ := fun h => hn2215 (fun e => h (List.length_eq_zero_iff.1 (by rw [hl2320]; exact List.length_eq_zero_iff.2 e)))
     refine J.nil <| CJ.region <| jv (ii (IntKind.wrap .i64 (i2210 + 1))) (V.add rfl rfl) <| jm (ii (IntKind.wrap .i64 (i2210 + 1))) rfl <| J.front 3 rfl <| J.front 3 rfl <| J.front 3 rfl ?_
     refine J.nil ?_
     obtain rfl := si h2270
     exact ⟨rfl, ⟨IntKind.wrap .i64 (i2210 + 1), z2317, ad2212, cp2213, rfl, ⟨rfl, rfl, rfl, rfl, rfl, rfl, trivial⟩, rfl, (by rw [hl2320]; first | done | rfl)⟩⟩
   refine CJ.front 3 rfl <| CJ.front 3 rfl <| CJ.front 3 rfl <| CJ.exit ?_
   obtain rfl := si h2270
   refine ⟨nofun, fun e => ?_⟩
   subst e
   exact ⟨rfl, ⟨l2211, ad2212, cp2213, rfl, ⟨rfl, rfl, rfl, rfl, trivial⟩, rfl, rfl⟩⟩
 rintro ρ _ _ ⟨l2149, ad2150, cp2151, rfl, hf2322, rfl, rfl⟩
 obtain ⟨ρ, rfl⟩ := hf2322.ex
 refine PJ.front 3 rfl <| PJ.wit Row.hn fun hn2153 => PJ.done <| cr <| jv _ (V.fad Try.underlying67 rfl nz54 rfl) <| jv (.slice ad2150 l2149.length cp2151) (V.ld rfl (Ld.sc sc54 (Rd.cl 2 rfl rfl))) ?_
 refine J.persist (Hp.nil_le _) (by decide) fun K2324 hK2325 f2326 => ?_
 obtain ⟨r2327, hr2328, h⟩ := ob h
 refine J.op rfl (A.call (L1 := []) Try.call30 rfl (slices_Clone_int_int_ok f2326 hr2328) rfl rfl) ?_
 rintro _ _ _ ⟨v2333, _, rfl, ⟨⟨l2329, ad2330, cp2331, rfl, rfl, rfl⟩, rfl⟩, _, rfl⟩
 refine J.wit Row.hn fun hn2332 => ja (.slice ad2330 l2329.length cp2331) rfl <| J.nil <| CJ.seq <| cr <| jm (.slice adxb_0 xb.length cpxb_0) rfl ?_
 refine jv (ii (((xb.length : Nat) : Int))) (V.len Try.underlying62 rfl) <| jm (ii 0) rfl <| J.nil ?_
 obtain ⟨o2586, ho2587, h⟩ := ob h
 refine CJ.meetN (fun ρ K' L' => ∃ (l2581 : (List Int)) (ad2582 : Option Addr) (cp2583 : Nat), l2581 = o2586 ∧ Fits [(6, .pointer (some ⟨b1422, 0, none⟩)), (7, .pointer (some ⟨nb1501, 0, none⟩))] ρ ∧ K2324 = K' ∧ L' = Cl b1422 67 [nos, nos] :: Cl nb1501 67 [.slice ad2150 l2149.length cp2151, .slice ad2582 l2581.length cp2583] :: Row Hp.nil 3 (.int .i64) (.slice ad2582 l2581.length cp2583) l2581 :: F) ?_ ?_
 · refine CJ.block <| CJ.front 3 rfl <| CJ.front 1 rfl <| CJ.front 3 rfl <| CJ.front 3 rfl <| CJ.loop (fun s ρ K' L' => ∃ (l2668 : (List Int)) (i2673 : Int) (l2674 : (List Int)) (ad2669 : Option Addr) (cp2670 : Nat) (ad2675 : Option Addr) (cp2676 : Nat), (l2668, i2673, l2674) = s ∧ Fits [(2, .func (.func 22) #[] #[]), (6, .pointer (some ⟨b1422, 0, none⟩)), (7, .pointer (some ⟨nb1501, 0, none⟩)), (11, .slice ad2669 l2668.length cp2670), (60, .slice adxb_0 xb.length cpxb_0), (61, ii (((xb.length : Nat) : Int))), (62, ii i2673)] ρ ∧ K2324 = K' ∧ L' = Cl b1422 67 [nos, nos] :: Cl nb1501 67 [.slice ad2150 l2149.length cp2151, .slice ad2675 l2674.length cp2676] :: Row Hp.nil 3 (.int .i64) (.slice ad2669 l2668.length cp2670) l2668 :: Row Hp.nil 3 (.int .i64) (.slice ad2675 l2674.length cp2676) l2674 :: F) ho2587 ⟨l2329, 0, l1507, ad2330, cp2331, ad1508, cp1509, rfl, ⟨rfl, rfl, rfl, rfl, rfl, rfl, rfl, trivial⟩, rfl, rfl⟩ ?_
   rintro s ρ _ _ r2762 ⟨l2668, i2673, l2674, ad2669, cp2670, ad2675, cp2676, rfl, hf2760, rfl, rfl⟩ h2759
   obtain ⟨ρ, rfl⟩ := hf2760.ex
   refine CJ.front 2 rfl <| CJ.wit Row.hn fun hn2672 => CJ.front 3 rfl <| CJ.wit Row.hn fun hn2678 => cr <| jv (.bool (decide (i2673 < (((xb.length : Nat) : Int))))) (V.lss rfl rfl) ?_
   refine J.nil <| CJ.seq <| cc rfl h2759 (fun hc2763 h2759 => ?_) fun hc2763 h2759 => ?_
   · refine CJ.skip <| CJ.seq <| CJ.block <| cr <| jm (ii i2673) rfl ?_
     obtain ⟨x2764, hx2765, h2759⟩ := ob h2759
     obtain ⟨p2766, p2767, p2768⟩ := getI_some hx2765
     obtain ⟨b2769, o2770, e2771, a2772⟩ := ((fxb_0.mono hK2325)).at p2767
     refine jv _ (V.iad Try.underlying62 sz41 rfl e2771 rfl p2766 p2768) <| jv (.agg #[ii x2764.1, ii x2764.2]) (V.ld rfl (Ld.aggK (cs := [ii x2764.1, ii x2764.2]) Try.underlying41 sz41 rfl ⟨((a2772).fst).int, (((a2772).snd).one).int, trivial⟩ (Hp.le_refl _))) <| jal inf41 [ii 0, ii 0] rfl fun b2773 => ja (ii i2673) rfl <| js [ii x2764.1, ii x2764.2] sz41 rfl rfl rfl rfl rfl rfl <| J.nil <| CJ.seq ?_
     refine CJ.region <| jm (.func (.func 22) #[] #[]) rfl <| jv (.agg #[ii x2764.1, ii x2764.2]) (V.ld rfl (Ld.agg (cs := [ii x2764.1, ii x2764.2]) Try.underlying41 sz41 rfl (Rd.cls 0 0 rfl rfl))) ?_
     obtain ⟨r2774, hr2775, h2759⟩ := ob h2759
     refine J.op rfl (A.call (L1 := []) Try.call22 rfl (graph_New_2_ok hr2775) rfl rfl) ?_
     rintro _ _ _ ⟨v2777, _, rfl, ⟨⟨i2776, rfl, rfl, rfl⟩, rfl⟩, _, rfl⟩
     refine ja (ii i2776) rfl <| J.nil <| CJ.seq <| CJ.mix [Cl b2773 41 [ii x2764.1, ii x2764.2], Row Hp.nil 3 (.int .i64) (.slice ad2675 l2674.length cp2676) l2674, Row Hp.nil 3 (.int .i64) (.slice ad2669 l2668.length cp2670) l2668, Cl b1422 67 [nos, nos], Cl nb1501 67 [.slice ad2150 l2149.length cp2151, .slice ad2675 l2674.length cp2676]] [] [0, 1, 2, 3, 4, 5, 6, 7] [8] mixO (by decide +kernel) ⟨0, rfl, 0, rfl, 0, rfl, 0, rfl, 0, rfl, trivial⟩ rfl rfl rfl <| JM.nil <| qv _ (V.fad Try.underlying67 rfl nz54 rfl) <| qv (.slice ad2675 l2674.length cp2676) (V.ld rfl (Ld.sc sc54 (Rd.cl 4 rfl rfl))) ?_
     refine qm (.slice ad2669 l2668.length cp2670) rfl <| qm (ii i2776) rfl ?_
     obtain ⟨x2794, hx2795, h2759⟩ := ob h2759
     obtain ⟨p2796, p2797, p2798⟩ := getI_some hx2795
     obtain ⟨g2799, e2800⟩ := hn2672 (fun e => by rw [e] at p2797; simp at p2797)
     refine qv _ (V.iad Try.underlying54 sz3 rfl e2800 rfl p2796 p2798) <| qv (ii x2794) (V.ld rfl (Ld.sc sc3 (Rd.row 2 rfl e2800 p2797 (q := 0) (by simp [Tp.size]) (by decide) (by rintro _ rfl; rfl)))) <| qm (ii i2673) rfl ?_
     obtain ⟨x2801, hx2802, h2759⟩ := ob h2759
     obtain ⟨p2803, p2804, p2805⟩ := getI_some hx2802
     obtain ⟨g2806, e2807⟩ := hn2678 (fun e => by rw [e] at p2804; simp at p2804)
     refine qv _ (V.iad Try.underlying54 sz3 rfl e2807 rfl p2803 p2805) <| JQ.nil <| J.front 1 rfl ?_
     obtain ⟨z2808, hz2809, h2759⟩ := ob h2759
     have e2810 := Option.some.inj hz2809
     have hl2811 : z2808.length = l2674.length := by rw [← e2810, List.length_set]
     refine J.op rfl (A.storeR (ty := (.int .i64)) (q := 0) (y0 := i2673) (zs := z2808) sz3 rfl rfl rfl rfl e2807 p2804 (by simp [Tp.size]) (by decide) (by rintro _ rfl; exact rfl) e2810) ?_
     rintro _ _ _ ⟨rfl, rfl, rfl⟩
     have hn2812 : z2808 ≠ [] → _ := fun h => hn2678 (fun e => h (List.length_eq_zero_iff.1 (by rw [hl2811]; exact List.length_eq_zero_iff.2 e)))
     refine J.nil <| CJ.region <| jm (.slice ad2669 l2668.length cp2670) rfl <| jm (ii i2776) rfl ?_
     obtain ⟨x2813, hx2814, h2759⟩ := ob h2759
     obtain ⟨p2815, p2816, p2817⟩ := getI_some hx2814
     obtain ⟨g2818, e2819⟩ := hn2672 (fun e => by rw [e] at p2816; simp at p2816)
     refine jv _ (V.iad Try.underlying54 sz3 rfl e2819 rfl p2815 p2817) <| jv (ii x2813) (V.ld rfl (Ld.sc sc3 (Rd.row 2 rfl e2819 p2816 (q := 0) (by simp [Tp.size]) (by decide) (by rintro _ rfl; rfl)))) <| jv (ii (IntKind.wrap .i64 (x2813 + 1))) (V.add rfl rfl) ?_
     obtain ⟨x2820, hx2821, h2759⟩ := ob h2759
     obtain ⟨p2822, p2823, p2824⟩ := getI_some hx2821
     obtain ⟨g2825, e2826⟩ := hn2672 (fun e => by rw [e] at p2823; simp at p2823)
     refine jv _ (V.iad Try.underlying54 sz3 rfl e2826 rfl p2822 p2824) <| J.front 2 rfl ?_
     obtain ⟨z2827, hz2828, h2759⟩ := ob h2759
     have e2829 := Option.some.inj hz2828
     have hl2830 : z2827.length = l2668.length := by rw [← e2829, List.length_set]
     refine J.op rfl (A.storeR (ty := (.int .i64)) (q := 0) (y0 := IntKind.wrap .i64 (x2813 + 1)) (zs := z2827) sz3 rfl rfl rfl rfl e2826 p2823 (by simp [Tp.size]) (by decide) (by rintro _ rfl; exact rfl) e2829) ?_
     rintro _ _ _ ⟨rfl, rfl, rfl⟩
     have hn2831 : z2827 ≠ [] → _ := fun h => hn2672 (fun e => h (List.length_eq_zero_iff.1 (by rw [hl2830]; exact List.length_eq_zero_iff.2 e)))
     refine J.nil <| CJ.region <| jv (ii (IntKind.wrap .i64 (i2673 + 1))) (V.add rfl rfl) <| jm (ii (IntKind.wrap .i64 (i2673 + 1))) rfl <| J.dropAt 2 rfl <| J.front 1 rfl <| J.front 1 rfl ?_
     refine J.front 3 rfl <| J.front 3 rfl <| J.nil ?_
     obtain rfl := si h2759
     exact ⟨rfl, ⟨z2827, IntKind.wrap .i64 (i2673 + 1), z2808, ad2669, cp2670, ad2675, cp2676, rfl, ⟨rfl, rfl, rfl, (by rw [hl2830]; rfl), rfl, rfl, rfl, trivial⟩, rfl, (by rw [hl2811, hl2830]; first | done | rfl)⟩⟩
   refine CJ.dropAt 1 rfl <| CJ.front 2 rfl <| CJ.front 2 rfl <| CJ.exit ?_
   obtain rfl := si h2759
   refine ⟨nofun, fun e => ?_⟩
   subst e
   exact ⟨rfl, ⟨l2674, ad2675, cp2676, rfl, ⟨rfl, rfl, trivial⟩, rfl, rfl⟩⟩
 rintro ρ _ _ ⟨l2581, ad2582, cp2583, rfl, hf2832, rfl, rfl⟩
 obtain ⟨ρ, rfl⟩ := hf2832.ex
 refine PJ.front 2 rfl <| PJ.wit Row.hn fun hn2585 => PJ.done <| cr <| jv (.agg #[.slice ad2150 l2149.length cp2151, .slice ad2582 l2581.length cp2583]) (V.ld rfl (Ld.agg (cs := [.slice ad2150 l2149.length cp2151, .slice ad2582 l2581.length cp2583]) Try.underlying67 sz67 rfl (Rd.cls 2 0 rfl rfl))) <| J.front 1 rfl ?_
 refine js [.slice ad2150 l2149.length cp2151, .slice ad2582 l2581.length cp2583] sz67 rfl rfl rfl rfl rfl rfl <| J.nil <| CJ.ret ?_
 obtain rfl := si h
 exact ⟨_, _, Res.one rfl ⟨_, _, rfl, Ld.agg (cs := [.slice ad2150 l2149.length cp2151, .slice ad2582 l2581.length cp2583]) Try.underlying67 sz67 rfl (Rd.cls 0 0 rfl rfl)⟩, ⟨l2149, l2581, ad2150, cp2151, ad2582, cp2583, rfl, rfl, f2326, rfl⟩, hK2325, fun w hs => (Sep.dropAt 1 rfl (Sep.dropAt 0 rfl hs))⟩
noncomputable def fn_graph_New_l1 (xa : Int) (xb : (List (Int × Int))) : Int → Option (Int ⊕ (Unit ⊕ ((Option (Int × (List (Int × Int)) × ((List Int) × (List Int)) × ((List Int) × (List Int)))) × Int))) := fun (i305 : Int) => cond (decide (i305 < (((xb.length : Nat) : Int)))) ((getI xb i305).bind fun x333 => cond ((((decide (x333.1 < 0)) || (decide (xa ≤ x333.1))) || (decide (x333.2 < 0))) || (decide (xa ≤ x333.2))) (some (.inr ((.inr ((none, 7)))))) (some (.inl (IntKind.wrap .i64 (i305 + 1))))) (some (.inr ((.inl ()))))
noncomputable def fn_graph_New (xa : Int) (xb : (List (Int × Int))) : Option (((Option (Int × (List (Int × Int)) × ((List Int) × (List Int)) × ((List Int) × (List Int)))) × Int)) :=
  cond (decide (xa < 0)) (some ((none, 2))) (cond ((decide (1048576 < xa)) || (decide (67108864 < (((xb.length : Nat) : Int))))) (some ((none, 5))) ((loop (fn_graph_New_l1 xa xb) 0 : Option (Unit ⊕ ((Option (Int × (List (Int × Int)) × ((List Int) × (List Int)) × ((List Int) × (List Int)))) × Int))).bind fun o => match o with | .inr r => some r | .inl () => (fn_slices_Clone_graph_Arc_graph_Arc xb).bind fun l358 => (fn_graph_indexed_ik_graph_New_1 xa l358).bind fun (l372, l373) => (fn_graph_indexed_ik_graph_New_2 xa l358).bind fun (l386, l387) => some (((some ((xa, l358, (l372, l373), (l386, l387)))), 0))))
set_option maxRecDepth 100000 in
set_option maxHeartbeats 4000000 in
theorem graph_New_ok {K : Hp} {xa : Int} {xb : (List (Int × Int))} {adxb_0 : Option Addr} {cpxb_0 : Nat} (fxb_0 : Is K (.sl (.cons (.int .i64) (.one (.int .i64)))) [.slice adxb_0 xb.length cpxb_0] xb) {r : ((Option (Int × (List (Int × Int)) × ((List Int) × (List Int)) × ((List Int) × (List Int)))) × Int)} (h : fn_graph_New xa xb = some r) :
    Tr Try.prog 13 #[ii xa, .slice adxb_0 xb.length cpxb_0] K [] (fun v K' L' => (∃ (p202 : (Option (Int × (List (Int × Int)) × ((List Int) × (List Int)) × ((List Int) × (List Int))))) (i205 : Int) (v203 : Value), (p202, i205) = r ∧ .tuple #[v203, ii i205] = v ∧ Is K' (.ptr (.cons (.int .i64) (.cons (.sl (.cons (.int .i64) (.one (.int .i64)))) (.cons (.cons (.sl (.int .i64)) (.one (.sl (.int .i64)))) (.one (.cons (.sl (.int .i64)) (.one (.sl (.int .i64))))))))) [v203] p202 ∧ L' = [])) := by
 refine Tr.of Try.func13 rfl Try.ntmps13 rfl fun E F => ?_
 unfold fn_graph_New at h
 refine cr <| ja (.pointer none) rfl <| ja (ii 0) rfl <| J.nil <| CJ.seq <| CJ.seq ?_
 refine CJ.region <| jm (ii xa) rfl <| jv (.bool (decide (xa < 0))) (V.lss rfl rfl) <| J.nil <| cc rfl h (fun hc206 h => ?_) fun hc206 h => ?_
 · refine cr <| ja (.pointer none) rfl <| ja (ii 2) rfl <| J.nil <| CJ.ret ?_
   obtain rfl := si h
   exact ⟨_, _, Res.two rfl rfl rfl, ⟨none, 2, .pointer none, rfl, rfl, Is.ptr_nil, rfl⟩, (Hp.le_refl _), fun w hs => hs⟩
 refine CJ.skip <| CJ.seq <| cr <| jm (ii xa) rfl <| jv (.bool (decide (1048576 < xa))) (V.gtr rfl rfl) <| jm (.bool (decide (1048576 < xa))) rfl ?_
 refine J.cut 4 <| jmeet [(17, .bool ((decide (1048576 < xa)) || (decide (67108864 < (((xb.length : Nat) : Int)))))), (0, ii xa), (1, .slice adxb_0 xb.length cpxb_0)] ?_ ?_
 · rcases bt (decide (1048576 < xa)) with hc209 | hc209
   · refine J.skip rfl rfl rfl rfl hc209 <| J.skip rfl rfl rfl rfl hc209 <| J.skip rfl rfl rfl rfl hc209 <| jv (.bool true) (V.pickT rfl hc209 rfl) <| J.nil ?_
     exact ⟨rfl, ⟨(by simp only [hc209]; rfl), rfl, rfl, trivial⟩, rfl, rfl⟩
   refine J.run rfl rfl rfl hc209 <| jm (.slice adxb_0 xb.length cpxb_0) rfl <| J.run rfl rfl rfl hc209 <| jv (ii (((xb.length : Nat) : Int))) (V.len Try.underlying62 rfl) <| J.run rfl rfl rfl hc209 <| jv (.bool (decide (67108864 < (((xb.length : Nat) : Int))))) (V.gtr rfl rfl) <| jv (.bool (decide (67108864 < (((xb.length : Nat) : Int))))) (V.pickF rfl hc209 rfl) ?_
   refine J.nil ?_
   exact ⟨rfl, ⟨(by simp only [hc209]; rfl), rfl, rfl, trivial⟩, rfl, rfl⟩
 intro ρ
 refine J.nil <| cc rfl h (fun hc210 h => ?_) fun hc210 h => ?_
 · refine cr <| ja (.pointer none) rfl <| ja (ii 5) rfl <| J.nil <| CJ.ret ?_
   obtain rfl := si h
   exact ⟨_, _, Res.two rfl rfl rfl, ⟨none, 5, .pointer none, rfl, rfl, Is.ptr_nil, rfl⟩, (Hp.le_refl _), fun w hs => hs⟩
 refine CJ.skip <| CJ.seq <| cr <| jm (.slice adxb_0 xb.length cpxb_0) rfl <| jv (ii (((xb.length : Nat) : Int))) (V.len Try.underlying62 rfl) <| jm (ii 0) rfl ?_
 refine J.nil ?_
 obtain ⟨o281, ho282, h⟩ := ob h
 refine CJ.joinN (o := o281) (fun s ρ K' L' => () = s ∧ Fits [(0, ii xa), (1, .slice adxb_0 xb.length cpxb_0)] ρ ∧ K = K' ∧ F = L') ?_ ?_
 · refine CJ.block <| CJ.loop (fun s ρ K' L' => ∃ (i305 : Int), i305 = s ∧ Fits [(0, ii xa), (1, .slice adxb_0 xb.length cpxb_0), (18, .slice adxb_0 xb.length cpxb_0), (19, ii (((xb.length : Nat) : Int))), (20, ii i305)] ρ ∧ K = K' ∧ F = L') ho282 ⟨0, rfl, ⟨rfl, rfl, rfl, rfl, rfl, trivial⟩, rfl, rfl⟩ ?_
   rintro s ρ _ _ r331 ⟨i305, rfl, hf329, rfl, rfl⟩ h328
   obtain ⟨ρ, rfl⟩ := hf329.ex
   refine cr <| jv (.bool (decide (i305 < (((xb.length : Nat) : Int))))) (V.lss rfl rfl) <| J.nil <| CJ.seq <| cc rfl h328 (fun hc332 h328 => ?_) fun hc332 h328 => ?_
   · refine CJ.skip <| CJ.seq <| CJ.block <| CJ.seq <| CJ.region ?_
     obtain ⟨x333, hx334, h328⟩ := ob h328
     obtain ⟨p335, p336, p337⟩ := getI_some hx334
     obtain ⟨b338, o339, e340, a341⟩ := (fxb_0).at p336
     refine jv _ (V.iad Try.underlying62 sz41 rfl e340 rfl p335 p337) <| jv (.agg #[ii x333.1, ii x333.2]) (V.ld rfl (Ld.aggK (cs := [ii x333.1, ii x333.2]) Try.underlying41 sz41 rfl ⟨((a341).fst).int, (((a341).snd).one).int, trivial⟩ (Hp.le_refl _))) <| jal inf41 [ii 0, ii 0] rfl fun b342 => js [ii x333.1, ii x333.2] sz41 rfl rfl rfl rfl rfl rfl <| J.nil <| CJ.seq <| CJ.region ?_
     refine jv _ (V.fad Try.underlying41 rfl nz3 rfl) <| jv (ii x333.1) (V.ld rfl (Ld.sc sc3 (Rd.cl 0 rfl rfl))) <| jv (.bool (decide (x333.1 < 0))) (V.lss rfl rfl) <| jm (.bool (decide (x333.1 < 0))) rfl <| J.cut 5 <| jmeet [(32, .bool ((decide (x333.1 < 0)) || (decide (xa ≤ x333.1)))), (0, ii xa), (1, .slice adxb_0 xb.length cpxb_0), (7, .pointer (some ⟨b342, 0, none⟩)), (18, .slice adxb_0 xb.length cpxb_0), (19, ii (((xb.length : Nat) : Int))), (20, ii i305)] ?_ ?_
     · rcases bt (decide (x333.1 < 0)) with hc345 | hc345
       · refine J.skip rfl rfl rfl rfl hc345 <| J.skip rfl rfl rfl rfl hc345 <| J.skip rfl rfl rfl rfl hc345 <| J.skip rfl rfl rfl rfl hc345 <| jv (.bool true) (V.pickT rfl hc345 rfl) <| J.nil ?_
         exact ⟨rfl, ⟨(by simp only [hc345]; rfl), rfl, rfl, rfl, rfl, rfl, rfl, trivial⟩, rfl, rfl⟩
       refine J.run rfl rfl rfl hc345 <| jv _ (V.fad Try.underlying41 rfl nz3 rfl) <| J.run rfl rfl rfl hc345 <| jv (ii x333.1) (V.ld rfl (Ld.sc sc3 (Rd.cl 0 rfl rfl))) <| J.run rfl rfl rfl hc345 <| jm (ii xa) rfl <| J.run rfl rfl rfl hc345 ?_
       refine jv (.bool (decide (xa ≤ x333.1))) (V.geq rfl rfl) <| jv (.bool (decide (xa ≤ x333.1))) (V.pickF rfl hc345 rfl) <| J.nil ?_
       exact ⟨rfl, ⟨(by simp only [hc345]; rfl), rfl, rfl, rfl, rfl, rfl, rfl, trivial⟩, rfl, rfl⟩
     intro ρ
     refine jm (.bool ((decide (x333.1 < 0)) || (decide (xa ≤ x333.1)))) rfl <| J.cut 4 <| jmeet [(37, .bool (((decide (x333.1 < 0)) || (decide (xa ≤ x333.1))) || (decide (x333.2 < 0)))), (0, ii xa), (1, .slice adxb_0 xb.length cpxb_0), (7, .pointer (some ⟨b342, 0, none⟩)), (18, .slice adxb_0 xb.length cpxb_0), (19, ii (((xb.length : Nat) : Int))), (20, ii i305)] ?_ ?_
     · rcases bt ((decide (x333.1 < 0)) || (decide (xa ≤ x333.1))) with hc348 | hc348
       · refine J.skip rfl rfl rfl rfl hc348 <| J.skip rfl rfl rfl rfl hc348 <| J.skip rfl rfl rfl rfl hc348 <| jv (.bool true) (V.pickT rfl hc348 rfl) <| J.nil ?_
         exact ⟨rfl, ⟨(by simp only [hc348]; rfl), rfl, rfl, rfl, rfl, rfl, rfl, trivial⟩, rfl, rfl⟩
       refine J.run rfl rfl rfl hc348 <| jv _ (V.fad Try.underlying41 rfl nz3 rfl) <| J.run rfl rfl rfl hc348 <| jv (ii x333.2) (V.ld rfl (Ld.sc sc3 (Rd.cl 0 rfl rfl))) <| J.run rfl rfl rfl hc348 <| jv (.bool (decide (x333.2 < 0))) (V.lss rfl rfl) <| jv (.bool (decide (x333.2 < 0))) (V.pickF rfl hc348 rfl) ?_
       refine J.nil ?_
       exact ⟨rfl, ⟨(by simp only [hc348]; rfl), rfl, rfl, rfl, rfl, rfl, rfl, trivial⟩, rfl, rfl⟩
     intro ρ
     refine jm (.bool (((decide (x333.1 < 0)) || (decide (xa ≤ x333.1))) || (decide (x333.2 < 0)))) rfl <| J.cut 5 <| jmeet [(43, .bool ((((decide (x333.1 < 0)) || (decide (xa ≤ x333.1))) || (decide (x333.2 < 0))) || (decide (xa ≤ x333.2)))), (0, ii xa), (1, .slice adxb_0 xb.length cpxb_0), (18, .slice adxb_0 xb.length cpxb_0), (19, ii (((xb.length : Nat) : Int))), (20, ii i305)] ?_ ?_
     · rcases bt (((decide (x333.1 < 0)) || (decide (xa ≤ x333.1))) || (decide (x333.2 < 0))) with hc351 | hc351
       · refine J.skip rfl rfl rfl rfl hc351 <| J.skip rfl rfl rfl rfl hc351 <| J.skip rfl rfl rfl rfl hc351 <| J.skip rfl rfl rfl rfl hc351 <| jv (.bool true) (V.pickT rfl hc351 rfl) <| J.nil ?_
         exact ⟨rfl, ⟨(by simp only [hc351]; rfl), rfl, rfl, rfl, rfl, rfl, trivial⟩, rfl, rfl⟩
       refine J.run rfl rfl rfl hc351 <| jv _ (V.fad Try.underlying41 rfl nz3 rfl) <| J.run rfl rfl rfl hc351 <| jv (ii x333.2) (V.ld rfl (Ld.sc sc3 (Rd.cl 0 rfl rfl))) <| J.run rfl rfl rfl hc351 <| jm (ii xa) rfl <| J.run rfl rfl rfl hc351 ?_
       refine jv (.bool (decide (xa ≤ x333.2))) (V.geq rfl rfl) <| jv (.bool (decide (xa ≤ x333.2))) (V.pickF rfl hc351 rfl) <| J.nil ?_
       exact ⟨rfl, ⟨(by simp only [hc351]; rfl), rfl, rfl, rfl, rfl, rfl, trivial⟩, rfl, rfl⟩
     intro ρ
     refine J.nil <| cc rfl h328 (fun hc352 h328 => ?_) fun hc352 h328 => ?_
     · refine cr <| ja (.pointer none) rfl <| ja (ii 7) rfl <| J.nil <| CJ.ret ?_
       obtain rfl := si h328
       refine ⟨nofun, fun e => ?_⟩
       subst e
       refine .inr ⟨nofun, ?_⟩
       obtain rfl := si h
       exact ⟨_, _, Res.two rfl rfl rfl, ⟨none, 7, .pointer none, rfl, rfl, Is.ptr_nil, rfl⟩, (Hp.le_refl _), fun w hs => (Sep.dropAt 0 rfl hs)⟩
     refine CJ.skip <| CJ.region <| jv (ii (IntKind.wrap .i64 (i305 + 1))) (V.add rfl rfl) <| jm (ii (IntKind.wrap .i64 (i305 + 1))) rfl <| J.dropAt 0 rfl <| J.nil ?_
     obtain rfl := si h328
     exact ⟨rfl, ⟨IntKind.wrap .i64 (i305 + 1), rfl, ⟨rfl, rfl, rfl, rfl, rfl, trivial⟩, rfl, rfl⟩⟩
   refine CJ.exit ?_
   obtain rfl := si h328
   refine ⟨nofun, fun e => ?_⟩
   subst e
   exact .inl ⟨rfl, _, rfl, ⟨rfl, ⟨rfl, rfl, trivial⟩, rfl, rfl⟩⟩
 rintro s ρ _ _ ho353 ⟨rfl, hf354, rfl, rfl⟩
 subst ho353
 obtain ⟨ρ, rfl⟩ := hf354.ex
 refine PJ.done <| cr <| jm (ii xa) rfl <| jm (.slice adxb_0 xb.length cpxb_0) rfl ?_
 obtain ⟨r356, hr357, h⟩ := ob h
 refine J.op rfl (A.call (L1 := []) Try.call19 rfl (slices_Clone_graph_Arc_graph_Arc_ok fxb_0 hr357) rfl rfl) ?_
 rintro _ _ _ ⟨v362, _, rfl, ⟨⟨l358, ad359, cp360, rfl, rfl, rfl⟩, rfl⟩, _, rfl⟩
 refine J.wit Row.hn fun hn361 => jv (.agg #[ii xa, .slice ad359 l358.length cp360, nos, nos, nos, nos]) (V.build inf69 places69 rfl rfl) <| jbx [ii xa, .slice ad359 l358.length cp360, nos, nos, nos, nos] rfl rfl fun b366 => ja _ rfl <| J.nil <| CJ.seq <| CJ.region ?_
 refine jm _ rfl <| jm (ii xa) rfl <| jm _ rfl <| jv _ (V.nck rfl) <| jv _ (V.fad Try.underlying69 rfl nz62 rfl) <| jv (.slice ad359 l358.length cp360) (V.ld rfl (Ld.sc sc62 (Rd.cl 0 rfl rfl))) <| J.front 1 rfl ?_
 refine J.persist (Hp.nil_le _) (by decide) fun K367 hK368 f369 => ?_
 obtain ⟨r370, hr371, h⟩ := ob h
 refine J.op rfl (A.call (L1 := []) Try.call20 rfl (graph_indexed_ik_graph_New_1_ok f369 hr371) rfl rfl) ?_
 rintro _ K381 _ ⟨v380, _, rfl, ⟨l372, l373, ad374, cp375, ad376, cp377, rfl, rfl, f378, rfl⟩, hK382, rfl⟩
 refine J.wit Row.hn fun hn379 => jv _ (V.nck rfl) <| jv _ (V.fad Try.underlying69 rfl nz67 rfl) <| J.front 1 rfl <| js [ii xa, .slice ad359 l358.length cp360, .slice ad374 l372.length cp375, .slice ad376 l373.length cp377, nos, nos] sz67 rfl rfl rfl rfl rfl rfl <| J.nil <| CJ.seq ?_
 refine CJ.region <| jm _ rfl <| jm (ii xa) rfl <| jm _ rfl <| jv _ (V.nck rfl) <| jv _ (V.fad Try.underlying69 rfl nz62 rfl) <| jv (.slice ad359 l358.length cp360) (V.ld rfl (Ld.sc sc62 (Rd.cl 0 rfl rfl))) ?_
 obtain ⟨r384, hr385, h⟩ := ob h
 refine J.op rfl (A.call (L1 := []) Try.call20 rfl (graph_indexed_ik_graph_New_2_ok (f369.mono hK382) hr385) rfl rfl) ?_
 rintro _ K395 _ ⟨v394, _, rfl, ⟨l386, l387, ad388, cp389, ad390, cp391, rfl, rfl, f392, rfl⟩, hK396, rfl⟩
 refine J.wit Row.hn fun hn393 => jv _ (V.nck rfl) <| jv _ (V.fad Try.underlying69 rfl nz67 rfl) <| J.front 1 rfl <| js [ii xa, .slice ad359 l358.length cp360, .slice ad374 l372.length cp375, .slice ad376 l373.length cp377, .slice ad388 l386.length cp389, .slice ad390 l387.length cp391] sz67 rfl rfl rfl rfl rfl rfl <| J.nil <| CJ.seq ?_
 refine CJ.region <| jm _ rfl <| ja _ rfl <| ja (ii 0) rfl <| J.nil <| CJ.front 2 rfl <| CJ.persist (Hp.nil_le _) (by decide) fun K398 hK399 f400 => ?_
 refine CJ.front 1 rfl <| CJ.persist (Hp.nil_le _) (by decide) fun K401 hK402 f403 => CJ.persistAt (t := (.cons (.int .i64) (.cons (.sl (.cons (.int .i64) (.one (.int .i64)))) (.cons (.cons (.sl (.int .i64)) (.one (.sl (.int .i64)))) (.one (.cons (.sl (.int .i64)) (.one (.sl (.int .i64))))))))) (x := (xa, l358, (l372, l373), (l386, l387))) ⟨_, _, rfl, rfl, rfl, ⟨_, _, rfl, rfl, (f369.mono (((hK382.trans hK396).trans hK399).trans hK402)), ⟨_, _, rfl, rfl, ⟨_, _, rfl, rfl, (f378.mono ((hK396.trans hK399).trans hK402)), (f400.mono hK402)⟩, ⟨_, _, rfl, rfl, (f392.mono (hK399.trans hK402)), f403⟩⟩⟩⟩ fun K404 hK405 a406 => CJ.ret ?_
 obtain rfl := si h
 exact ⟨_, _, Res.two rfl rfl rfl, ⟨(some ((xa, l358, (l372, l373), (l386, l387)))), 0, .pointer (some ⟨b366, 0, none⟩), rfl, rfl, (At.is_ptr a406), rfl⟩, (((((hK368.trans hK382).trans hK396).trans hK399).trans hK402).trans hK405), fun w hs => hs⟩
noncomputable def fn_cons_Graph_l1 (xb : (List (Int × Int × (Int × Int × Int × Int × Bool)))) : ((List (Int × Int)) × Int) → Option (((List (Int × Int)) × Int) ⊕ (List (Int × Int))) := fun ((l346, i351) : ((List (Int × Int)) × Int)) => cond (decide (i351 < (((xb.length : Nat) : Int)))) ((getI xb i351).bind fun x386 => (getI l346 i351).bind fun x396 => (some (l346.set i351.toNat (x386.1, x386.2.1))).bind fun z403 => some (.inl ((z403, IntKind.wrap .i64 (i351 + 1))))) (some (.inr (l346)))
noncomputable def fn_cons_Graph (xa : (Int × Int × (List (Int × Int)) × (List (List (Int × Bool))) × (List (Int × Bool)) × (List (Int × (List (Int × Int)) × (List (List (Int × Bool))) × (List (Int × Bool)))) × (List ((List (Int × Int × Int × Int × Bool)) × (Int × Int × Int × (List Int) × (List Int) × (List Int)))))) (xb : (List (Int × Int × (Int × Int × Int × Int × Bool)))) : Option ((Option (Int × (List (Int × Int)) × ((List Int) × (List Int)) × ((List Int) × (List Int))))) :=
  (mk (((xb.length : Nat) : Int)) (((xb.length : Nat) : Int)) (0, 0) : Option (List (Int × Int))).bind fun z214 => (loop (fn_cons_Graph_l1 xb) (z214, 0) : Option ((List (Int × Int)))).bind fun l310 => (fn_graph_New xa.2.1 l310).bind fun (p415, i416) => some (p415)
set_option maxRecDepth 100000 in
set_option maxHeartbeats 4000000 in
theorem cons_Graph_ok {K : Hp} {xa : (Int × Int × (List (Int × Int)) × (List (List (Int × Bool))) × (List (Int × Bool)) × (List (Int × (List (Int × Int)) × (List (List (Int × Bool))) × (List (Int × Bool)))) × (List ((List (Int × Int × Int × Int × Bool)) × (Int × Int × Int × (List Int) × (List Int) × (List Int)))))} {xb : (List (Int × Int × (Int × Int × Int × Int × Bool)))} {adxa_2 : Option Addr} {cpxa_2 : Nat} {adxa_3 : Option Addr} {cpxa_3 : Nat} {adxa_4 : Option Addr} {cpxa_4 : Nat} {adxa_5 : Option Addr} {cpxa_5 : Nat} {adxa_6 : Option Addr} {cpxa_6 : Nat} {adxb_0 : Option Addr} {cpxb_0 : Nat} (fxa_2 : Is K (.sl (.cons (.int .i64) (.one (.int .i64)))) [.slice adxa_2 xa.2.2.1.length cpxa_2] xa.2.2.1) (fxa_3 : Is K (.sl (.one (.sl (.cons (.int .i64) (.one .bool))))) [.slice adxa_3 xa.2.2.2.1.length cpxa_3] xa.2.2.2.1) (fxa_4 : Is K (.sl (.cons (.int .i64) (.one .bool))) [.slice adxa_4 xa.2.2.2.2.1.length cpxa_4] xa.2.2.2.2.1) (fxa_5 : Is K (.sl (.cons (.int .i64) (.cons (.sl (.cons (.int .i64) (.one (.int .i64)))) (.cons (.sl (.one (.sl (.cons (.int .i64) (.one .bool))))) (.one (.one (.sl (.cons (.int .i64) (.one .bool))))))))) [.slice adxa_5 xa.2.2.2.2.2.1.length cpxa_5] xa.2.2.2.2.2.1) (fxa_6 : Is K (.sl (.cons (.sl (.cons (.int .i64) (.cons (.int .i64) (.cons (.int .i64) (.cons (.int .i64) (.one .bool)))))) (.one (.cons (.int .i64) (.cons (.int .i64) (.cons (.int .i64) (.cons (.sl (.int .i64)) (.cons (.sl (.int .i64)) (.one (.sl (.int .i64))))))))))) [.slice adxa_6 xa.2.2.2.2.2.2.length cpxa_6] xa.2.2.2.2.2.2) (fxb_0 : Is K (.sl (.cons (.int .i64) (.cons (.int .i64) (.one (.cons (.int .i64) (.cons (.int .i64) (.cons (.int .i64) (.cons (.int .i64) (.one .bool))))))))) [.slice adxb_0 xb.length cpxb_0] xb) {r : (Option (Int × (List (Int × Int)) × ((List Int) × (List Int)) × ((List Int) × (List Int))))} (h : fn_cons_Graph xa xb = some r) :
    Tr Try.prog 5 #[.agg #[ii xa.1, ii xa.2.1, .slice adxa_2 xa.2.2.1.length cpxa_2, .slice adxa_3 xa.2.2.2.1.length cpxa_3, .slice adxa_4 xa.2.2.2.2.1.length cpxa_4, .slice adxa_5 xa.2.2.2.2.2.1.length cpxa_5, .slice adxa_6 xa.2.2.2.2.2.2.length cpxa_6], .slice adxb_0 xb.length cpxb_0] K [] (fun v K' L' => (∃ (p210 : (Option (Int × (List (Int × Int)) × ((List Int) × (List Int)) × ((List Int) × (List Int))))) (v211 : Value), p210 = r ∧ v211 = v ∧ Is K' (.ptr (.cons (.int .i64) (.cons (.sl (.cons (.int .i64) (.one (.int .i64)))) (.cons (.cons (.sl (.int .i64)) (.one (.sl (.int .i64)))) (.one (.cons (.sl (.int .i64)) (.one (.sl (.int .i64))))))))) [v211] p210 ∧ L' = [])) := by
 refine Tr.of Try.func5 rfl Try.ntmps5 rfl fun E F => ?_
 unfold fn_cons_Graph at h
 refine cr <| jbx [ii xa.1, ii xa.2.1, .slice adxa_2 xa.2.2.1.length cpxa_2, .slice adxa_3 xa.2.2.2.1.length cpxa_3, .slice adxa_4 xa.2.2.2.2.1.length cpxa_4, .slice adxa_5 xa.2.2.2.2.2.1.length cpxa_5, .slice adxa_6 xa.2.2.2.2.2.2.length cpxa_6] rfl rfl fun b213 => ja (.pointer none) rfl <| J.nil <| CJ.seq <| CJ.region ?_
 refine jm (.slice adxb_0 xb.length cpxb_0) rfl <| jv (ii (((xb.length : Nat) : Int))) (V.len Try.underlying22 rfl) ?_
 obtain ⟨z214, hz215, h⟩ := ob h
 refine J.op rfl (A.make (K0 := Hp.nil) (ty := (.cons (.int .i64) (.one (.int .i64)))) (x0 := (0, 0)) Try.underlying62 inf41 rfl ⟨_, _, rfl, rfl, rfl, rfl⟩ (by decide) (by decide) rfl rfl hz215) ?_
 rintro _ _ _ ⟨b216, rfl, rfl, rfl⟩
 have hn217 : z214 ≠ [] → ∃ g, (some ⟨b216, 0, none⟩ : Option Addr) = some ⟨g, 0, none⟩ := fun _ => ⟨b216, rfl⟩
 refine ja (.slice (some ⟨b216, 0, none⟩) z214.length (((xb.length : Nat) : Int)).toNat) rfl <| J.nil <| CJ.seq <| cr <| jm (.slice adxb_0 xb.length cpxb_0) rfl <| jv (ii (((xb.length : Nat) : Int))) (V.len Try.underlying22 rfl) ?_
 refine jm (ii 0) rfl <| J.nil ?_
 obtain ⟨o315, ho316, h⟩ := ob h
 refine CJ.meetN (fun ρ K' L' => ∃ (l310 : (List (Int × Int))) (ad311 : Option Addr) (cp312 : Nat), l310 = o315 ∧ Fits [(2, .pointer (some ⟨b213, 0, none⟩)), (5, .slice ad311 l310.length cp312)] ρ ∧ K = K' ∧ L' = Cl b213 34 [ii xa.1, ii xa.2.1, .slice adxa_2 xa.2.2.1.length cpxa_2, .slice adxa_3 xa.2.2.2.1.length cpxa_3, .slice adxa_4 xa.2.2.2.2.1.length cpxa_4, .slice adxa_5 xa.2.2.2.2.2.1.length cpxa_5, .slice adxa_6 xa.2.2.2.2.2.2.length cpxa_6] :: Row Hp.nil 41 (.cons (.int .i64) (.one (.int .i64))) (.slice ad311 l310.length cp312) l310 :: F) ?_ ?_
 · refine CJ.block <| CJ.front 1 rfl <| CJ.loop (fun s ρ K' L' => ∃ (l346 : (List (Int × Int))) (i351 : Int) (ad347 : Option Addr) (cp348 : Nat), (l346, i351) = s ∧ Fits [(2, .pointer (some ⟨b213, 0, none⟩)), (5, .slice ad347 l346.length cp348), (13, .slice adxb_0 xb.length cpxb_0), (14, ii (((xb.length : Nat) : Int))), (15, ii i351)] ρ ∧ K = K' ∧ L' = Cl b213 34 [ii xa.1, ii xa.2.1, .slice adxa_2 xa.2.2.1.length cpxa_2, .slice adxa_3 xa.2.2.2.1.length cpxa_3, .slice adxa_4 xa.2.2.2.2.1.length cpxa_4, .slice adxa_5 xa.2.2.2.2.2.1.length cpxa_5, .slice adxa_6 xa.2.2.2.2.2.2.length cpxa_6] :: Row Hp.nil 41 (.cons (.int .i64) (.one (.int .i64))) (.slice ad347 l346.length cp348) l346 :: F) ho316 ⟨z214, 0, (some ⟨b216, 0, none⟩), (((xb.length : Nat) : Int)).toNat, rfl, ⟨rfl, rfl, rfl, rfl, rfl, trivial⟩, rfl, rfl⟩ ?_
   rintro s ρ _ _ r384 ⟨l346, i351, ad347, cp348, rfl, hf382, rfl, rfl⟩ h381
   obtain ⟨ρ, rfl⟩ := hf382.ex
   refine CJ.front 1 rfl <| CJ.wit Row.hn fun hn350 => cr <| jv (.bool (decide (i351 < (((xb.length : Nat) : Int))))) (V.lss rfl rfl) <| J.nil <| CJ.seq ?_
   refine cc rfl h381 (fun hc385 h381 => ?_) fun hc385 h381 => ?_
   · refine CJ.skip <| CJ.seq <| CJ.block <| cr <| jm (ii i351) rfl ?_
     obtain ⟨x386, hx387, h381⟩ := ob h381
     obtain ⟨p388, p389, p390⟩ := getI_some hx387
     obtain ⟨b391, o392, e393, a394⟩ := (fxb_0).at p389
     refine jv _ (V.iad Try.underlying22 sz47 rfl e393 rfl p388 p390) <| jv (.agg #[ii x386.1, ii x386.2.1, ii x386.2.2.1, ii x386.2.2.2.1, ii x386.2.2.2.2.1, ii x386.2.2.2.2.2.1, .bool x386.2.2.2.2.2.2]) (V.ld rfl (Ld.aggK (cs := [ii x386.1, ii x386.2.1, ii x386.2.2.1, ii x386.2.2.2.1, ii x386.2.2.2.2.1, ii x386.2.2.2.2.2.1, .bool x386.2.2.2.2.2.2]) Try.underlying47 sz47 rfl ⟨((a394).fst).int, (((a394).snd).fst).int, (((((a394).snd).snd).one).fst).int, ((((((a394).snd).snd).one).snd).fst).int, (((((((a394).snd).snd).one).snd).snd).fst).int, ((((((((a394).snd).snd).one).snd).snd).snd).fst).int, (((((((((a394).snd).snd).one).snd).snd).snd).snd).one).bool, trivial⟩ (Hp.le_refl _))) <| jal inf47 [ii 0, ii 0, ii 0, ii 0, ii 0, ii 0, .bool false] rfl fun b395 => ja (ii i351) rfl <| js [ii x386.1, ii x386.2.1, ii x386.2.2.1, ii x386.2.2.2.1, ii x386.2.2.2.2.1, ii x386.2.2.2.2.2.1, .bool x386.2.2.2.2.2.2] sz47 rfl rfl rfl rfl rfl rfl <| J.nil <| CJ.region ?_
     refine jm (.slice ad347 l346.length cp348) rfl <| jm (ii i351) rfl <| jv _ (V.fad Try.underlying47 rfl nz3 rfl) <| jv (ii x386.1) (V.ld rfl (Ld.sc sc3 (Rd.cl 0 rfl rfl))) <| jv _ (V.fad Try.underlying47 rfl nz3 rfl) <| jv (ii x386.2.1) (V.ld rfl (Ld.sc sc3 (Rd.cl 0 rfl rfl))) <| jv (.agg #[ii x386.1, ii x386.2.1]) (V.build inf41 places41 rfl rfl) ?_
     obtain ⟨x396, hx397, h381⟩ := ob h381
     obtain ⟨p398, p399, p400⟩ := getI_some hx397
     obtain ⟨g401, e402⟩ := hn350 (fun e => by rw [e] at p399; simp at p399)
     refine jv _ (V.iad Try.underlying62 sz41 rfl e402 rfl p398 p400) <| J.front 1 rfl ?_
     obtain ⟨z403, hz404, h381⟩ := ob h381
     have e405 := Option.some.inj hz404
     have hl406 : z403.length = l346.length := by rw [← e405, List.length_set]
     refine J.op rfl (A.storeE (ty := (.cons (.int .i64) (.one (.int .i64)))) (Kr := Hp.nil) (y0 := (x386.1, x386.2.1)) (zs := z403) (ds := [ii x386.1, ii x386.2.1]) sz41 rfl rfl rfl rfl e402 p399 (by simp [Tp.size]) rfl ⟨_, _, rfl, rfl, rfl, rfl⟩ (Els.flat rfl) e405) ?_
     rintro _ _ _ ⟨rfl, rfl, rfl⟩
     have hn407 : z403 ≠ [] → _ := fun h => hn350 (fun e => h (List.length_eq_zero_iff.1 (by rw [hl406]; exact List.length_eq_zero_iff.2 e)))
     refine J.nil <| CJ.region <| jv (ii (IntKind.wrap .i64 (i351 + 1))) (V.add rfl rfl) <| jm (ii (IntKind.wrap .i64 (i351 + 1))) rfl <| J.dropAt 1 rfl <| J.front 1 rfl <| J.nil ?_
     obtain rfl := si h381
     exact ⟨rfl, ⟨z403, IntKind.wrap .i64 (i351 + 1), ad347, cp348, rfl, ⟨rfl, (by rw [hl406]; rfl), rfl, rfl, rfl, trivial⟩, rfl, (by rw [hl406]; first | done | rfl)⟩⟩
   refine CJ.front 1 rfl <| CJ.exit ?_
   obtain rfl := si h381
   refine ⟨nofun, fun e => ?_⟩
   subst e
   exact ⟨rfl, ⟨l346, ad347, cp348, rfl, ⟨rfl, rfl, trivial⟩, rfl, rfl⟩⟩
 rintro ρ _ _ ⟨l310, ad311, cp312, rfl, hf408, rfl, rfl⟩
 obtain ⟨ρ, rfl⟩ := hf408.ex
 refine PJ.front 1 rfl <| PJ.wit Row.hn fun hn314 => PJ.done <| cr <| jv _ (V.fad Try.underlying34 rfl nz3 rfl) <| jv (ii xa.2.1) (V.ld rfl (Ld.sc sc3 (Rd.cl 1 rfl rfl))) ?_
 refine jm (.slice ad311 l310.length cp312) rfl <| J.persist (Hp.nil_le _) (by decide) fun K410 hK411 f412 => ?_
 obtain ⟨r413, hr414, h⟩ := ob h
 refine J.op rfl (A.call (L1 := []) Try.call13 rfl (graph_New_ok f412 hr414) rfl rfl) ?_
 rintro _ K420 _ ⟨v419, _, rfl, ⟨p415, i416, v417, rfl, rfl, f418, rfl⟩, hK421, rfl⟩
 refine jm (.tuple #[v417, ii i416]) rfl <| jx v417 rfl rfl <| jx (ii i416) rfl rfl <| ja v417 rfl <| ja (ii i416) rfl <| J.nil <| CJ.seq ?_
 refine CJ.region <| jm v417 rfl <| ja v417 rfl <| J.nil <| CJ.ret ?_
 obtain rfl := si h
 exact ⟨_, _, Res.one rfl rfl, ⟨p415, v417, rfl, rfl, f418, rfl⟩, (hK411.trans hK421), fun w hs => (Sep.dropAt 0 rfl hs)⟩
noncomputable def fn_ref27_Arcs_l1 (xa : (List (Int × Int × (Int × Int × Int × Int × Bool)))) : ((List (Int × Int)) × Int) → Option (((List (Int × Int)) × Int) ⊕ (List (Int × Int))) := fun ((l591, i596) : ((List (Int × Int)) × Int)) => cond (decide (i596 < (((xa.length : Nat) : Int)))) ((getI xa i596).bind fun x678 => (getI xa i596).bind fun x687 => (app l591 (([(x678.1, x687.2.1)] : List (Int × Int)))).bind fun z699 => some (.inl ((z699, IntKind.wrap .i64 (i596 + 1))))) (some (.inr (l591)))
noncomputable def fn_ref27_Arcs (xa : (List (Int × Int × (Int × Int × Int × Int × Bool)))) : Option ((List (Int × Int))) :=
  (loop (fn_ref27_Arcs_l1 xa) ((([] : List (Int × Int)), 0)) : Option ((List (Int × Int)))).bind fun l529 => some (l529)
set_option maxRecDepth 100000 in
set_option maxHeartbeats 4000000 in
theorem ref27_Arcs_ok {K : Hp} {xa : (List (Int × Int × (Int × Int × Int × Int × Bool)))} {adxa_0 : Option Addr} {cpxa_0 : Nat} (fxa_0 : Is K (.sl (.cons (.int .i64) (.cons (.int .i64) (.one (.cons (.int .i64) (.cons (.int .i64) (.cons (.int .i64) (.cons (.int .i64) (.one .bool))))))))) [.slice adxa_0 xa.length cpxa_0] xa) {r : (List (Int × Int))} (h : fn_ref27_Arcs xa = some r) :
    Tr Try.prog 6 #[.slice adxa_0 xa.length cpxa_0] K [] (fun v K' L' => (∃ (l352 : (List (Int × Int))) (ad353 : Option Addr) (cp354 : Nat), l352 = r ∧ .slice ad353 l352.length cp354 = v ∧ L' = [Row Hp.nil 65 (.cons (.int .i64) (.one (.int .i64))) (.slice ad353 l352.length cp354) l352]) ∧ K = K') := by
 refine Tr.k <| Tr.of Try.func6 rfl Try.ntmps6 rfl fun E F => ?_
 unfold fn_ref27_Arcs at h
 refine cr <| ja (nos) rfl <| J.nil <| CJ.seq <| CJ.region ?_
 refine J.op rfl (A.lit (K0 := Hp.nil) (ty := (.cons (.int .i64) (.one (.int .i64)))) (xs := ([] : List (Int × Int))) Try.underlying35 inf65 rfl (by decide) rfl rfl rfl rfl rfl (by decide)) ?_
 rintro _ _ _ ⟨b357, rfl, rfl, rfl⟩
 have hn358 : ([] : List (Int × Int)) ≠ [] → ∃ g, (some ⟨b357, 0, none⟩ : Option Addr) = some ⟨g, 0, none⟩ := fun _ => ⟨b357, rfl⟩
 refine ja (.slice (some ⟨b357, 0, none⟩) ((([] : List (Int × Int))).length) 0) rfl <| J.nil <| CJ.seq <| cr <| ja (ii 0) rfl <| J.nil ?_
 obtain ⟨o534, ho535, h⟩ := ob h
 refine CJ.meetN (fun ρ K' L' => ∃ (l529 : (List (Int × Int))) (ad530 : Option Addr) (cp531 : Nat), l529 = o534 ∧ Fits [(3, .slice ad530 l529.length cp531)] ρ ∧ K = K' ∧ L' = Row Hp.nil 65 (.cons (.int .i64) (.one (.int .i64))) (.slice ad530 l529.length cp531) l529 :: F) ?_ ?_
 · refine CJ.block <| CJ.loop (fun s ρ K' L' => ∃ (l591 : (List (Int × Int))) (i596 : Int) (ad592 : Option Addr) (cp593 : Nat), (l591, i596) = s ∧ Fits [(0, .slice adxa_0 xa.length cpxa_0), (3, .slice ad592 l591.length cp593), (4, ii i596)] ρ ∧ K = K' ∧ L' = Row Hp.nil 65 (.cons (.int .i64) (.one (.int .i64))) (.slice ad592 l591.length cp593) l591 :: F) ho535 ⟨([] : List (Int × Int)), 0, (some ⟨b357, 0, none⟩), 0, rfl, ⟨rfl, rfl, rfl, trivial⟩, rfl, rfl⟩ ?_
   rintro s ρ _ _ r655 ⟨l591, i596, ad592, cp593, rfl, hf653, rfl, rfl⟩ h652
   obtain ⟨ρ, rfl⟩ := hf653.ex
   refine CJ.wit Row.hn fun hn595 => CJ.seq <| cr <| jm (ii i596) rfl <| jm (.slice adxa_0 xa.length cpxa_0) rfl <| jv (ii (((xa.length : Nat) : Int))) (V.len Try.underlying22 rfl) ?_
   refine jv (.bool (decide (i596 < (((xa.length : Nat) : Int))))) (V.lss rfl rfl) <| J.nil <| cc rfl h652 (fun hc656 h652 => ?_) fun hc656 h652 => ?_
   · refine CJ.skip <| CJ.seq <| CJ.block <| CJ.mix [Row Hp.nil 65 (.cons (.int .i64) (.one (.int .i64))) (.slice ad592 l591.length cp593) l591] [([0, 1, 2, 3, 4, 5, 6, 7, 8, 9, 10, 11], 12)] [] [13, 14] mixO (by decide +kernel) ⟨0, rfl, trivial⟩ rfl rfl rfl <| JM.cons <| qm (.slice ad592 l591.length cp593) rfl <| qm (.slice adxa_0 xa.length cpxa_0) rfl ?_
     refine qm (ii i596) rfl ?_
     obtain ⟨x678, hx679, h652⟩ := ob h652
     obtain ⟨p680, p681, p682⟩ := getI_some hx679
     obtain ⟨b683, o684, e685, a686⟩ := (fxa_0).at p681
     refine qv _ (V.iad Try.underlying22 sz47 rfl e685 rfl p680 p682) <| qv _ (V.fad Try.underlying47 rfl nz3 rfl) <| qv (ii x678.1) (V.ld rfl (Ld.sc sc3 (Rd.k ((a686).fst).int (Hp.le_refl _)))) <| qm (.slice adxa_0 xa.length cpxa_0) rfl <| qm (ii i596) rfl ?_
     obtain ⟨x687, hx688, h652⟩ := ob h652
     obtain ⟨p689, p690, p691⟩ := getI_some hx688
     obtain ⟨b692, o693, e694, a695⟩ := (fxa_0).at p690
     refine qv _ (V.iad Try.underlying22 sz47 rfl e694 rfl p689 p691) <| qv _ (V.fad Try.underlying47 rfl nz3 rfl) <| qv (ii x687.2.1) (V.ld rfl (Ld.sc sc3 (Rd.k (((a695).snd).fst).int (Hp.le_refl _)))) <| qv (.agg #[ii x678.1, ii x687.2.1]) (V.build inf65 places65 rfl rfl) <| JQ.nil ?_
     refine JA.op rfl (A.lit (K0 := Hp.nil) (ty := (.cons (.int .i64) (.one (.int .i64)))) (xs := ([(x678.1, x687.2.1)] : List (Int × Int))) Try.underlying35 inf65 rfl (by decide) rfl rfl rfl ⟨_, _, rfl, ⟨_, _, rfl, rfl, rfl, rfl⟩, rfl⟩ rfl (by decide)) ?_
     rintro _ _ _ ⟨b696, rfl, rfl, rfl⟩
     have hn697 : ([(x678.1, x687.2.1)] : List (Int × Int)) ≠ [] → ∃ g, (some ⟨b696, 0, none⟩ : Option Addr) = some ⟨g, 0, none⟩ := fun _ => ⟨b696, rfl⟩
     refine ⟨fun w hs => Hold.sub (Hp.le_refl _) ⟨1, rfl, trivial⟩ hs, ?_⟩
     refine JM.nil <| JQ.nil ?_
     obtain ⟨z699, hz700, h652⟩ := ob h652
     refine J.front 1 rfl <| J.op rfl (A.appR (Kr := Hp.nil) Try.underlying35 inf65 rfl rfl (by decide) (by decide) rfl rfl (Els.flat rfl) (Els.flat rfl) hz700) ?_
     rintro _ _ _ ⟨v701, rfl, rfl, rfl⟩
     refine J.wit Row.form ?_
     rintro ⟨ad702, cp703, rfl, _, _, hn704⟩
     refine ja (.slice ad702 z699.length cp703) rfl <| J.nil <| CJ.region <| jm (ii i596) rfl <| jv (ii (IntKind.wrap .i64 (i596 + 1))) (V.add rfl rfl) <| ja (ii (IntKind.wrap .i64 (i596 + 1))) rfl <| J.nil ?_
     obtain rfl := si h652
     exact ⟨rfl, ⟨z699, IntKind.wrap .i64 (i596 + 1), ad702, cp703, rfl, ⟨rfl, rfl, rfl, trivial⟩, rfl, rfl⟩⟩
   refine CJ.exit ?_
   obtain rfl := si h652
   refine ⟨nofun, fun e => ?_⟩
   subst e
   exact ⟨rfl, ⟨l591, ad592, cp593, rfl, ⟨rfl, trivial⟩, rfl, rfl⟩⟩
 rintro ρ _ _ ⟨l529, ad530, cp531, rfl, hf705, rfl, rfl⟩
 obtain ⟨ρ, rfl⟩ := hf705.ex
 refine PJ.wit Row.hn fun hn533 => PJ.done <| cr <| jm (.slice ad530 l529.length cp531) rfl <| ja (.slice ad530 l529.length cp531) rfl <| J.nil ?_
 refine CJ.ret ?_
 obtain rfl := si h
 exact ⟨_, _, Res.one rfl rfl, ⟨l529, ad530, cp531, rfl, rfl, rfl⟩, (Hp.le_refl _), fun w hs => hs⟩
noncomputable def fn_ref10_Check_l1 (xa : Int) (xb : (List (Int × Int))) : Int → Option (Int ⊕ (Unit ⊕ Int)) := fun (i811 : Int) => cond (decide (i811 < (((xb.length : Nat) : Int)))) ((getI xb i811).bind fun x895 => (cond (decide (x895.1 < 0)) (some (true)) ((getI xb i811).bind fun x917 => some (decide (xa ≤ x917.1)))).bind fun t914 => (cond (t914) (some (true)) ((getI xb i811).bind fun x939 => some (decide (x939.2 < 0)))).bind fun t936 => (cond (t936) (some (true)) ((getI xb i811).bind fun x961 => some (decide (xa ≤ x961.2)))).bind fun t958 => cond (t958) (some (.inr ((.inr (7))))) (some (.inl (IntKind.wrap .i64 (i811 + 1))))) (some (.inr ((.inl ()))))
noncomputable def fn_ref10_Check (xa : Int) (xb : (List (Int × Int))) : Option Int :=
  cond (decide (xa < 0)) (some (2)) (cond ((decide (1048576 < xa)) || (decide (67108864 < (((xb.length : Nat) : Int))))) (some (5)) ((loop (fn_ref10_Check_l1 xa xb) 0 : Option (Unit ⊕ Int)).bind fun o => match o with | .inr r => some r | .inl () => some (0)))
set_option maxRecDepth 100000 in
set_option maxHeartbeats 4000000 in
theorem ref10_Check_ok {K : Hp} {xa : Int} {xb : (List (Int × Int))} {adxb_0 : Option Addr} {cpxb_0 : Nat} (fxb_0 : Is K (.sl (.cons (.int .i64) (.one (.int .i64)))) [.slice adxb_0 xb.length cpxb_0] xb) {r : Int} (h : fn_ref10_Check xa xb = some r) :
    Tr Try.prog 7 #[ii xa, .slice adxb_0 xb.length cpxb_0] K [] (fun v K' L' => (∃ (i487 : Int), i487 = r ∧ ii i487 = v ∧ L' = []) ∧ K = K') := by
 refine Tr.k <| Tr.of Try.func7 rfl Try.ntmps7 rfl fun E F => ?_
 unfold fn_ref10_Check at h
 refine cr <| ja (ii 0) rfl <| J.nil <| CJ.seq <| CJ.seq <| CJ.region ?_
 refine jm (ii xa) rfl <| jv (.bool (decide (xa < 0))) (V.lss rfl rfl) <| J.nil <| cc rfl h (fun hc488 h => ?_) fun hc488 h => ?_
 · refine cr <| ja (ii 2) rfl <| J.nil <| CJ.ret ?_
   obtain rfl := si h
   exact ⟨_, _, Res.one rfl rfl, ⟨2, rfl, rfl, rfl⟩, (Hp.le_refl _), fun w hs => hs⟩
 refine CJ.skip <| CJ.seq <| cr <| jm (ii xa) rfl <| jv (.bool (decide (1048576 < xa))) (V.gtr rfl rfl) <| jm (.bool (decide (1048576 < xa))) rfl ?_
 refine J.cut 4 <| jmeet [(14, .bool ((decide (1048576 < xa)) || (decide (67108864 < (((xb.length : Nat) : Int)))))), (0, ii xa), (1, .slice adxb_0 xb.length cpxb_0)] ?_ ?_
 · rcases bt (decide (1048576 < xa)) with hc491 | hc491
   · refine J.skip rfl rfl rfl rfl hc491 <| J.skip rfl rfl rfl rfl hc491 <| J.skip rfl rfl rfl rfl hc491 <| jv (.bool true) (V.pickT rfl hc491 rfl) <| J.nil ?_
     exact ⟨rfl, ⟨(by simp only [hc491]; rfl), rfl, rfl, trivial⟩, rfl, rfl⟩
   refine J.run rfl rfl rfl hc491 <| jm (.slice adxb_0 xb.length cpxb_0) rfl <| J.run rfl rfl rfl hc491 <| jv (ii (((xb.length : Nat) : Int))) (V.len Try.underlying35 rfl) <| J.run rfl rfl rfl hc491 <| jv (.bool (decide (67108864 < (((xb.length : Nat) : Int))))) (V.gtr rfl rfl) <| jv (.bool (decide (67108864 < (((xb.length : Nat) : Int))))) (V.pickF rfl hc491 rfl) ?_
   refine J.nil ?_
   exact ⟨rfl, ⟨(by simp only [hc491]; rfl), rfl, rfl, trivial⟩, rfl, rfl⟩
 intro ρ
 refine J.nil <| cc rfl h (fun hc492 h => ?_) fun hc492 h => ?_
 · refine cr <| ja (ii 5) rfl <| J.nil <| CJ.ret ?_
   obtain rfl := si h
   exact ⟨_, _, Res.one rfl rfl, ⟨5, rfl, rfl, rfl⟩, (Hp.le_refl _), fun w hs => hs⟩
 refine CJ.skip <| CJ.seq <| cr <| ja (ii 0) rfl <| J.nil ?_
 obtain ⟨o731, ho732, h⟩ := ob h
 refine CJ.joinN (o := o731) (fun s ρ K' L' => () = s ∧ Fits [] ρ ∧ K = K' ∧ F = L') ?_ ?_
 · refine CJ.block <| CJ.loop (fun s ρ K' L' => ∃ (i811 : Int), i811 = s ∧ Fits [(0, ii xa), (1, .slice adxb_0 xb.length cpxb_0), (5, ii i811)] ρ ∧ K = K' ∧ F = L') ho732 ⟨0, rfl, ⟨rfl, rfl, rfl, trivial⟩, rfl, rfl⟩ ?_
   rintro s ρ _ _ r893 ⟨i811, rfl, hf891, rfl, rfl⟩ h890
   obtain ⟨ρ, rfl⟩ := hf891.ex
   refine CJ.seq <| cr <| jm (ii i811) rfl <| jm (.slice adxb_0 xb.length cpxb_0) rfl <| jv (ii (((xb.length : Nat) : Int))) (V.len Try.underlying35 rfl) <| jv (.bool (decide (i811 < (((xb.length : Nat) : Int))))) (V.lss rfl rfl) ?_
   refine J.nil <| cc rfl h890 (fun hc894 h890 => ?_) fun hc894 h890 => ?_
   · refine CJ.skip <| CJ.seq <| CJ.block <| cr <| jm (.slice adxb_0 xb.length cpxb_0) rfl <| jm (ii i811) rfl ?_
     obtain ⟨x895, hx896, h890⟩ := ob h890
     obtain ⟨p897, p898, p899⟩ := getI_some hx896
     obtain ⟨b900, o901, e902, a903⟩ := (fxb_0).at p898
     refine jv _ (V.iad Try.underlying35 sz65 rfl e902 rfl p897 p899) <| jv _ (V.fad Try.underlying65 rfl nz3 rfl) <| jv (ii x895.1) (V.ld rfl (Ld.sc sc3 (Rd.k ((a903).fst).int (Hp.le_refl _)))) <| jv (.bool (decide (x895.1 < 0))) (V.lss rfl rfl) <| jm (.bool (decide (x895.1 < 0))) rfl <| J.cut 8 ?_
     obtain ⟨t914, ht915, h890⟩ := ob h890
     refine jmeet [(35, .bool t914), (0, ii xa), (1, .slice adxb_0 xb.length cpxb_0), (5, ii i811)] ?_ ?_
     · rcases bt (decide (x895.1 < 0)) with hc916 | hc916
       · have ht915 := ct hc916 ht915
         refine J.skip rfl rfl rfl rfl hc916 <| J.skip rfl rfl rfl rfl hc916 <| J.skip rfl rfl rfl rfl hc916 <| J.skip rfl rfl rfl rfl hc916 <| J.skip rfl rfl rfl rfl hc916 <| J.skip rfl rfl rfl rfl hc916 <| J.skip rfl rfl rfl rfl hc916 ?_
         refine jv (.bool true) (V.pickT rfl hc916 rfl) <| J.nil ?_
         obtain rfl := si ht915
         exact ⟨rfl, ⟨rfl, rfl, rfl, rfl, trivial⟩, rfl, rfl⟩
       have ht915 := cf hc916 ht915
       refine J.run rfl rfl rfl hc916 <| jm (.slice adxb_0 xb.length cpxb_0) rfl <| J.run rfl rfl rfl hc916 <| jm (ii i811) rfl <| J.run rfl rfl rfl hc916 ?_
       obtain ⟨x917, hx918, ht915⟩ := ob ht915
       obtain ⟨p919, p920, p921⟩ := getI_some hx918
       obtain ⟨b922, o923, e924, a925⟩ := (fxb_0).at p920
       refine jv _ (V.iad Try.underlying35 sz65 rfl e924 rfl p919 p921) <| J.run rfl rfl rfl hc916 <| jv _ (V.fad Try.underlying65 rfl nz3 rfl) <| J.run rfl rfl rfl hc916 <| jv (ii x917.1) (V.ld rfl (Ld.sc sc3 (Rd.k ((a925).fst).int (Hp.le_refl _)))) <| J.run rfl rfl rfl hc916 <| jm (ii xa) rfl ?_
       refine J.run rfl rfl rfl hc916 <| jv (.bool (decide (xa ≤ x917.1))) (V.geq rfl rfl) <| jv (.bool (decide (xa ≤ x917.1))) (V.pickF rfl hc916 rfl) <| J.nil ?_
       obtain rfl := si ht915
       exact ⟨rfl, ⟨rfl, rfl, rfl, rfl, trivial⟩, rfl, rfl⟩
     intro ρ
     refine jm (.bool t914) rfl <| J.cut 7 ?_
     obtain ⟨t936, ht937, h890⟩ := ob h890
     refine jmeet [(43, .bool t936), (0, ii xa), (1, .slice adxb_0 xb.length cpxb_0), (5, ii i811)] ?_ ?_
     · rcases bt (t914) with hc938 | hc938
       · have ht937 := ct hc938 ht937
         refine J.skip rfl rfl rfl rfl hc938 <| J.skip rfl rfl rfl rfl hc938 <| J.skip rfl rfl rfl rfl hc938 <| J.skip rfl rfl rfl rfl hc938 <| J.skip rfl rfl rfl rfl hc938 <| J.skip rfl rfl rfl rfl hc938 <| jv (.bool true) (V.pickT rfl hc938 rfl) ?_
         refine J.nil ?_
         obtain rfl := si ht937
         exact ⟨rfl, ⟨rfl, rfl, rfl, rfl, trivial⟩, rfl, rfl⟩
       have ht937 := cf hc938 ht937
       refine J.run rfl rfl rfl hc938 <| jm (.slice adxb_0 xb.length cpxb_0) rfl <| J.run rfl rfl rfl hc938 <| jm (ii i811) rfl <| J.run rfl rfl rfl hc938 ?_
       obtain ⟨x939, hx940, ht937⟩ := ob ht937
       obtain ⟨p941, p942, p943⟩ := getI_some hx940
       obtain ⟨b944, o945, e946, a947⟩ := (fxb_0).at p942
       refine jv _ (V.iad Try.underlying35 sz65 rfl e946 rfl p941 p943) <| J.run rfl rfl rfl hc938 <| jv _ (V.fad Try.underlying65 rfl nz3 rfl) <| J.run rfl rfl rfl hc938 <| jv (ii x939.2) (V.ld rfl (Ld.sc sc3 (Rd.k (((a947).snd).one).int (Hp.le_refl _)))) <| J.run rfl rfl rfl hc938 <| jv (.bool (decide (x939.2 < 0))) (V.lss rfl rfl) ?_
       refine jv (.bool (decide (x939.2 < 0))) (V.pickF rfl hc938 rfl) <| J.nil ?_
       obtain rfl := si ht937
       exact ⟨rfl, ⟨rfl, rfl, rfl, rfl, trivial⟩, rfl, rfl⟩
     intro ρ
     refine jm (.bool t936) rfl <| J.cut 8 ?_
     obtain ⟨t958, ht959, h890⟩ := ob h890
     refine jmeet [(52, .bool t958), (0, ii xa), (1, .slice adxb_0 xb.length cpxb_0), (5, ii i811)] ?_ ?_
     · rcases bt (t936) with hc960 | hc960
       · have ht959 := ct hc960 ht959
         refine J.skip rfl rfl rfl rfl hc960 <| J.skip rfl rfl rfl rfl hc960 <| J.skip rfl rfl rfl rfl hc960 <| J.skip rfl rfl rfl rfl hc960 <| J.skip rfl rfl rfl rfl hc960 <| J.skip rfl rfl rfl rfl hc960 <| J.skip rfl rfl rfl rfl hc960 ?_
         refine jv (.bool true) (V.pickT rfl hc960 rfl) <| J.nil ?_
         obtain rfl := si ht959
         exact ⟨rfl, ⟨rfl, rfl, rfl, rfl, trivial⟩, rfl, rfl⟩
       have ht959 := cf hc960 ht959
       refine J.run rfl rfl rfl hc960 <| jm (.slice adxb_0 xb.length cpxb_0) rfl <| J.run rfl rfl rfl hc960 <| jm (ii i811) rfl <| J.run rfl rfl rfl hc960 ?_
       obtain ⟨x961, hx962, ht959⟩ := ob ht959
       obtain ⟨p963, p964, p965⟩ := getI_some hx962
       obtain ⟨b966, o967, e968, a969⟩ := (fxb_0).at p964
       refine jv _ (V.iad Try.underlying35 sz65 rfl e968 rfl p963 p965) <| J.run rfl rfl rfl hc960 <| jv _ (V.fad Try.underlying65 rfl nz3 rfl) <| J.run rfl rfl rfl hc960 <| jv (ii x961.2) (V.ld rfl (Ld.sc sc3 (Rd.k (((a969).snd).one).int (Hp.le_refl _)))) <| J.run rfl rfl rfl hc960 <| jm (ii xa) rfl ?_
       refine J.run rfl rfl rfl hc960 <| jv (.bool (decide (xa ≤ x961.2))) (V.geq rfl rfl) <| jv (.bool (decide (xa ≤ x961.2))) (V.pickF rfl hc960 rfl) <| J.nil ?_
       obtain rfl := si ht959
       exact ⟨rfl, ⟨rfl, rfl, rfl, rfl, trivial⟩, rfl, rfl⟩
     intro ρ
     refine J.nil <| cc rfl h890 (fun hc970 h890 => ?_) fun hc970 h890 => ?_
     · refine cr <| ja (ii 7) rfl <| J.nil <| CJ.ret ?_
       obtain rfl := si h890
       refine ⟨nofun, fun e => ?_⟩
       subst e
       refine .inr ⟨nofun, ?_⟩
       obtain rfl := si h
       exact ⟨_, _, Res.one rfl rfl, ⟨7, rfl, rfl, rfl⟩, (Hp.le_refl _), fun w hs => hs⟩
     refine CJ.skip <| CJ.region <| jm (ii i811) rfl <| jv (ii (IntKind.wrap .i64 (i811 + 1))) (V.add rfl rfl) <| ja (ii (IntKind.wrap .i64 (i811 + 1))) rfl <| J.nil ?_
     obtain rfl := si h890
     exact ⟨rfl, ⟨IntKind.wrap .i64 (i811 + 1), rfl, ⟨rfl, rfl, rfl, trivial⟩, rfl, rfl⟩⟩
   refine CJ.exit ?_
   obtain rfl := si h890
   refine ⟨nofun, fun e => ?_⟩
   subst e
   exact .inl ⟨rfl, _, rfl, ⟨rfl, trivial, rfl, rfl⟩⟩
 rintro s ρ _ _ ho971 ⟨rfl, hf972, rfl, rfl⟩
 subst ho971
 obtain ⟨ρ, rfl⟩ := hf972.ex
 refine PJ.done <| cr <| ja (ii 0) rfl <| J.nil <| CJ.ret ?_
 obtain rfl := si h
 exact ⟨_, _, Res.one rfl rfl, ⟨0, rfl, rfl, rfl⟩, (Hp.le_refl _), fun w hs => hs⟩

noncomputable def fn_graph_Graph_Nodes (xa : (Option (Int × (List (Int × Int)) × ((List Int) × (List Int)) × ((List Int) × (List Int))))) : Option Int :=
  cond (xa.isNone) (some (0)) ((xa : Option (Int × (List (Int × Int)) × ((List Int) × (List Int)) × ((List Int) × (List Int)))).bind fun y11 => some (y11.1))
set_option maxRecDepth 100000 in
set_option maxHeartbeats 4000000 in
theorem graph_Graph_Nodes_ok {K : Hp} {xa : (Option (Int × (List (Int × Int)) × ((List Int) × (List Int)) × ((List Int) × (List Int))))} {vxa_0 : Value} (fxa_0 : Is K (.ptr (.cons (.int .i64) (.cons (.sl (.cons (.int .i64) (.one (.int .i64)))) (.cons (.cons (.sl (.int .i64)) (.one (.sl (.int .i64)))) (.one (.cons (.sl (.int .i64)) (.one (.sl (.int .i64))))))))) [vxa_0] xa) {r : Int} (h : fn_graph_Graph_Nodes xa = some r) :
    Tr Try.prog 8 #[vxa_0] K [] (fun v K' L' => (∃ (i9 : Int), i9 = r ∧ ii i9 = v ∧ L' = []) ∧ K = K') := by
 refine Tr.k <| Tr.of Try.func8 rfl Try.ntmps8 rfl fun E F => ?_
 unfold fn_graph_Graph_Nodes at h
 refine cr <| ja (ii 0) rfl <| J.nil <| CJ.seq <| CJ.seq <| CJ.region ?_
 refine jm vxa_0 rfl <| jv (.bool xa.isNone) (V.kp_eql Try.underlying24 fxa_0 rfl rfl) <| J.nil <| cc rfl h (fun hc10 h => ?_) fun hc10 h => ?_
 · refine cr <| ja (ii 0) rfl <| J.nil <| CJ.ret ?_
   obtain rfl := si h
   exact ⟨_, _, Res.one rfl rfl, ⟨0, rfl, rfl, rfl⟩, (Hp.le_refl _), fun w hs => hs⟩
 refine CJ.skip <| cr <| jm vxa_0 rfl ?_
 obtain ⟨y11, hy12, h⟩ := ob h
 obtain ⟨b13, o14, hv15, a16⟩ := Is.psome fxa_0 hy12
 refine jv _ (V.nck hv15) <| jv _ (V.fad Try.underlying69 rfl nz3 rfl) <| jv (ii y11.1) (V.ld rfl (Ld.sc sc3 (Rd.k ((a16).fst).int (Hp.le_refl _)))) <| ja (ii y11.1) rfl <| J.nil <| CJ.ret ?_
 obtain rfl := si h
 exact ⟨_, _, Res.one rfl rfl, ⟨y11.1, rfl, rfl, rfl⟩, (Hp.le_refl _), fun w hs => hs⟩

noncomputable def fn_graph_Graph_Arcs (xa : (Option (Int × (List (Int × Int)) × ((List Int) × (List Int)) × ((List Int) × (List Int))))) : Option Int :=
  cond (xa.isNone) (some (0)) ((xa : Option (Int × (List (Int × Int)) × ((List Int) × (List Int)) × ((List Int) × (List Int)))).bind fun y14 => some (((y14.2.1.length : Nat) : Int)))
set_option maxRecDepth 100000 in
set_option maxHeartbeats 4000000 in
theorem graph_Graph_Arcs_ok {K : Hp} {xa : (Option (Int × (List (Int × Int)) × ((List Int) × (List Int)) × ((List Int) × (List Int))))} {vxa_0 : Value} (fxa_0 : Is K (.ptr (.cons (.int .i64) (.cons (.sl (.cons (.int .i64) (.one (.int .i64)))) (.cons (.cons (.sl (.int .i64)) (.one (.sl (.int .i64)))) (.one (.cons (.sl (.int .i64)) (.one (.sl (.int .i64))))))))) [vxa_0] xa) {r : Int} (h : fn_graph_Graph_Arcs xa = some r) :
    Tr Try.prog 9 #[vxa_0] K [] (fun v K' L' => (∃ (i12 : Int), i12 = r ∧ ii i12 = v ∧ L' = []) ∧ K = K') := by
 refine Tr.k <| Tr.of Try.func9 rfl Try.ntmps9 rfl fun E F => ?_
 unfold fn_graph_Graph_Arcs at h
 refine cr <| ja (ii 0) rfl <| J.nil <| CJ.seq <| CJ.seq <| CJ.region ?_
 refine jm vxa_0 rfl <| jv (.bool xa.isNone) (V.kp_eql Try.underlying24 fxa_0 rfl rfl) <| J.nil <| cc rfl h (fun hc13 h => ?_) fun hc13 h => ?_
 · refine cr <| ja (ii 0) rfl <| J.nil <| CJ.ret ?_
   obtain rfl := si h
   exact ⟨_, _, Res.one rfl rfl, ⟨0, rfl, rfl, rfl⟩, (Hp.le_refl _), fun w hs => hs⟩
 refine CJ.skip <| cr <| jm vxa_0 rfl ?_
 obtain ⟨y14, hy15, h⟩ := ob h
 obtain ⟨b16, o17, hv18, a19⟩ := Is.psome fxa_0 hy15
 refine jv _ (V.nck hv18) <| jv _ (V.fad Try.underlying69 rfl nz62 rfl) ?_
 obtain ⟨ad20, cp21, c22, f23⟩ := (((a19).snd).fst).sl
 refine jv (.slice ad20 y14.2.1.length cp21) (V.ld rfl (Ld.sc sc62 (Rd.k c22 (Hp.le_refl _)))) <| jv (ii (((y14.2.1.length : Nat) : Int))) (V.len Try.underlying62 rfl) <| ja (ii (((y14.2.1.length : Nat) : Int))) rfl <| J.nil <| CJ.ret ?_
 obtain rfl := si h
 exact ⟨_, _, Res.one rfl rfl, ⟨((y14.2.1.length : Nat) : Int), rfl, rfl, rfl⟩, (Hp.le_refl _), fun w hs => hs⟩

noncomputable def fn_graph_Graph_Arc (xa : (Option (Int × (List (Int × Int)) × ((List Int) × (List Int)) × ((List Int) × (List Int))))) (xb : Int) : Option (Int × Int × Bool) :=
  (cond (decide (xb < 0)) (some (true)) ((fn_graph_Graph_Arcs xa).bind fun i54 => some (decide (i54 ≤ xb)))).bind fun t49 => cond (t49) (some ((0, 0, false))) ((xa : Option (Int × (List (Int × Int)) × ((List Int) × (List Int)) × ((List Int) × (List Int)))).bind fun y59 => (getI y59.2.1 xb).bind fun x69 => some ((x69.1, x69.2, true)))
set_option maxRecDepth 100000 in
set_option maxHeartbeats 4000000 in
theorem graph_Graph_Arc_ok {K : Hp} {xa : (Option (Int × (List (Int × Int)) × ((List Int) × (List Int)) × ((List Int) × (List Int))))} {xb : Int} {vxa_0 : Value} (fxa_0 : Is K (.ptr (.cons (.int .i64) (.cons (.sl (.cons (.int .i64) (.one (.int .i64)))) (.cons (.cons (.sl (.int .i64)) (.one (.sl (.int .i64)))) (.one (.cons (.sl (.int .i64)) (.one (.sl (.int .i64))))))))) [vxa_0] xa) {r : (Int × Int × Bool)} (h : fn_graph_Graph_Arc xa xb = some r) :
    Tr Try.prog 10 #[vxa_0, ii xb] K [] (fun v K' L' => (∃ (i38 : Int) (i39 : Int) (t40 : Bool), (i38, i39, t40) = r ∧ .tuple #[.agg #[ii i38, ii i39], .bool t40] = v ∧ L' = []) ∧ K = K') := by
 refine Tr.k <| Tr.of Try.func10 rfl Try.ntmps10 rfl fun E F => ?_
 unfold fn_graph_Graph_Arc at h
 refine cr <| jal inf41 [ii 0, ii 0] rfl fun b41 => ja (.bool false) rfl <| J.nil <| CJ.seq <| CJ.seq ?_
 refine CJ.region <| jm (ii xb) rfl <| jv (.bool (decide (xb < 0))) (V.lss rfl rfl) <| jm (.bool (decide (xb < 0))) rfl <| J.cut 5 ?_
 obtain ⟨t49, ht50, h⟩ := ob h
 refine jmeet [(13, .bool t49), (0, vxa_0), (1, ii xb), (4, .pointer (some ⟨b41, 0, none⟩))] ?_ ?_
 · rcases bt (decide (xb < 0)) with hc51 | hc51
   · have ht50 := ct hc51 ht50
     refine J.skip rfl rfl rfl rfl hc51 <| J.skip rfl rfl rfl rfl hc51 <| J.skip rfl rfl rfl rfl hc51 <| J.skip rfl rfl rfl rfl hc51 <| jv (.bool true) (V.pickT rfl hc51 rfl) <| J.nil ?_
     obtain rfl := si ht50
     exact ⟨rfl, ⟨rfl, rfl, rfl, rfl, trivial⟩, rfl, rfl⟩
   have ht50 := cf hc51 ht50
   refine J.run rfl rfl rfl hc51 <| jm (ii xb) rfl <| J.run rfl rfl rfl hc51 <| jm vxa_0 rfl <| J.run rfl rfl rfl hc51 ?_
   obtain ⟨r52, hr53, ht50⟩ := ob ht50
   refine J.op rfl (A.call (L1 := []) Try.call9 rfl (graph_Graph_Arcs_ok fxa_0 hr53) rfl rfl) ?_
   rintro _ _ _ ⟨v55, _, rfl, ⟨⟨i54, rfl, rfl, rfl⟩, rfl⟩, _, rfl⟩
   refine J.run rfl rfl rfl hc51 <| jv (.bool (decide (i54 ≤ xb))) (V.geq rfl rfl) <| jv (.bool (decide (i54 ≤ xb))) (V.pickF rfl hc51 rfl) <| J.nil ?_
   obtain rfl := si ht50
   exact ⟨rfl, ⟨rfl, rfl, rfl, rfl, trivial⟩, rfl, rfl⟩
 intro ρ
 refine J.nil <| cc rfl h (fun hc58 h => ?_) fun hc58 h => ?_
 · refine cr <| jv (.agg #[ii 0, ii 0]) (V.build inf41 places41 rfl rfl) <| js [ii 0, ii 0] sz41 rfl rfl rfl rfl rfl rfl <| ja (.bool false) rfl <| J.nil <| CJ.ret ?_
   obtain rfl := si h
   exact ⟨_, _, Res.two rfl ⟨_, _, rfl, Ld.agg (cs := [ii 0, ii 0]) Try.underlying41 sz41 rfl (Rd.cls 0 0 rfl rfl)⟩ rfl, ⟨0, 0, false, rfl, rfl, rfl⟩, (Hp.le_refl _), fun w hs => (Sep.dropAt 0 rfl hs)⟩
 refine CJ.skip <| cr <| jm vxa_0 rfl ?_
 obtain ⟨y59, hy60, h⟩ := ob h
 obtain ⟨b61, o62, hv63, a64⟩ := Is.psome fxa_0 hy60
 refine jv _ (V.nck hv63) <| jv _ (V.fad Try.underlying69 rfl nz62 rfl) ?_
 obtain ⟨ad65, cp66, c67, f68⟩ := (((a64).snd).fst).sl
 refine jv (.slice ad65 y59.2.1.length cp66) (V.ld rfl (Ld.sc sc62 (Rd.k c67 (Hp.le_refl _)))) <| jm (ii xb) rfl ?_
 obtain ⟨x69, hx70, h⟩ := ob h
 obtain ⟨p71, p72, p73⟩ := getI_some hx70
 obtain ⟨b74, o75, e76, a77⟩ := (f68).at p72
 refine jv _ (V.iad Try.underlying62 sz41 rfl e76 rfl p71 p73) <| jv (.agg #[ii x69.1, ii x69.2]) (V.ld rfl (Ld.aggK (cs := [ii x69.1, ii x69.2]) Try.underlying41 sz41 rfl ⟨((a77).fst).int, (((a77).snd).one).int, trivial⟩ (Hp.le_refl _))) <| js [ii x69.1, ii x69.2] sz41 rfl rfl rfl rfl rfl rfl <| ja (.bool true) rfl <| J.nil <| CJ.ret ?_
 obtain rfl := si h
 exact ⟨_, _, Res.two rfl ⟨_, _, rfl, Ld.agg (cs := [ii x69.1, ii x69.2]) Try.underlying41 sz41 rfl (Rd.cls 0 0 rfl rfl)⟩ rfl, ⟨x69.1, x69.2, true, rfl, rfl, rfl⟩, (Hp.le_refl _), fun w hs => (Sep.dropAt 0 rfl hs)⟩
noncomputable def fn_law27_ConsGraphs_l1 (xb : (List (Int × Int × (Int × Int × Int × Int × Bool)))) (p432 : (Option (Int × (List (Int × Int)) × ((List Int) × (List Int)) × ((List Int) × (List Int))))) : Int → Option (Int ⊕ (Unit ⊕ Bool)) := fun (i721 : Int) => cond (decide (i721 < (((xb.length : Nat) : Int)))) ((fn_graph_Graph_Arc p432 i721).bind fun (i781, i782, t783) => cond (!t783) (some (.inr ((.inr (false))))) ((getI xb i721).bind fun x809 => cond (!decide (i781 = x809.1)) (some (.inr ((.inr (false))))) ((getI xb i721).bind fun x819 => cond (!decide (i782 = x819.2.1)) (some (.inr ((.inr (false))))) (some (.inl (IntKind.wrap .i64 (i721 + 1))))))) (some (.inr ((.inl ()))))
noncomputable def fn_law27_ConsGraphs (xa : Int) (xb : (List (Int × Int × (Int × Int × Int × Int × Bool)))) : Option Bool :=
  cond ((decide (20 < xa)) || (decide (40 < (((xb.length : Nat) : Int))))) ((fn_law27_awake).bind fun t426 => some (t426)) ((fn_cons_Graph (0, xa, [], [], [], [], []) xb).bind fun p432 => (fn_ref27_Arcs xb).bind fun l440 => (fn_ref10_Check xa l440).bind fun i453 => cond (!decide (i453 = 0)) ((cond (p432.isNone) ((fn_law27_awake).bind fun t470 => some (t470)) (some (false))).bind fun t465 => some (t465)) ((cond (p432.isNone) (some (true)) ((fn_graph_Graph_Nodes p432).bind fun i486 => some (!decide (i486 = xa)))).bind fun t481 => (cond (t481) (some (true)) ((fn_graph_Graph_Arcs p432).bind fun i502 => some (!decide (i502 = (((xb.length : Nat) : Int)))))).bind fun t497 => cond (t497) (some (false)) ((loop (fn_law27_ConsGraphs_l1 xb p432) 0 : Option (Unit ⊕ Bool)).bind fun o => match o with | .inr r => some r | .inl () => (fn_law27_awake).bind fun t834 => some (t834))))
set_option maxRecDepth 100000 in
set_option maxHeartbeats 4000000 in
theorem law27_ConsGraphs_ok {K : Hp} {xa : Int} {xb : (List (Int × Int × (Int × Int × Int × Int × Bool)))} {adxb_0 : Option Addr} {cpxb_0 : Nat} (fxb_0 : Is K (.sl (.cons (.int .i64) (.cons (.int .i64) (.one (.cons (.int .i64) (.cons (.int .i64) (.cons (.int .i64) (.cons (.int .i64) (.one .bool))))))))) [.slice adxb_0 xb.length cpxb_0] xb) {r : Bool} (h : fn_law27_ConsGraphs xa xb = some r) :
    Tr Try.prog 3 #[ii xa, .slice adxb_0 xb.length cpxb_0] K [] (fun v K' L' => (∃ (t419 : Bool), t419 = r ∧ .bool t419 = v ∧ L' = []) ∧ K = K') := by
 refine Tr.k <| Tr.of Try.func3 rfl Try.ntmps3 rfl fun E F => ?_
 unfold fn_law27_ConsGraphs at h
 refine cr <| ja (.bool false) rfl <| J.nil <| CJ.seq <| CJ.seq <| CJ.region ?_
 refine jm (ii xa) rfl <| jv (.bool (decide (20 < xa))) (V.gtr rfl rfl) <| jm (.bool (decide (20 < xa))) rfl <| J.cut 4 <| jmeet [(16, .bool ((decide (20 < xa)) || (decide (40 < (((xb.length : Nat) : Int)))))), (0, ii xa), (1, .slice adxb_0 xb.length cpxb_0)] ?_ ?_
 · rcases bt (decide (20 < xa)) with hc422 | hc422
   · refine J.skip rfl rfl rfl rfl hc422 <| J.skip rfl rfl rfl rfl hc422 <| J.skip rfl rfl rfl rfl hc422 <| jv (.bool true) (V.pickT rfl hc422 rfl) <| J.nil ?_
     exact ⟨rfl, ⟨(by simp only [hc422]; rfl), rfl, rfl, trivial⟩, rfl, rfl⟩
   refine J.run rfl rfl rfl hc422 <| jm (.slice adxb_0 xb.length cpxb_0) rfl <| J.run rfl rfl rfl hc422 <| jv (ii (((xb.length : Nat) : Int))) (V.len Try.underlying22 rfl) <| J.run rfl rfl rfl hc422 <| jv (.bool (decide (40 < (((xb.length : Nat) : Int))))) (V.gtr rfl rfl) <| jv (.bool (decide (40 < (((xb.length : Nat) : Int))))) (V.pickF rfl hc422 rfl) ?_
   refine J.nil ?_
   exact ⟨rfl, ⟨(by simp only [hc422]; rfl), rfl, rfl, trivial⟩, rfl, rfl⟩
 intro ρ
 refine J.nil <| cc rfl h (fun hc423 h => ?_) fun hc423 h => ?_
 · refine CJ.seq <| CJ.region ?_
   obtain ⟨r424, hr425, h⟩ := ob h
   refine J.op rfl (A.call (L1 := []) Try.call4 rfl (law27_awake_ok hr425) rfl rfl) ?_
   rintro _ _ _ ⟨v427, _, rfl, ⟨⟨t426, rfl, rfl, rfl⟩, rfl⟩, _, rfl⟩
   refine ja (.bool t426) rfl <| J.nil <| CJ.ret ?_
   obtain rfl := si h
   exact ⟨_, _, Res.one rfl rfl, ⟨t426, rfl, rfl, rfl⟩, (Hp.le_refl _), fun w hs => hs⟩
 refine CJ.skip <| cr <| jm (ii xa) rfl <| jv (.agg #[ii 0, ii xa, nos, nos, nos, nos, nos]) (V.build inf34 places34 rfl rfl) <| jm (.slice adxb_0 xb.length cpxb_0) rfl ?_
 obtain ⟨r430, hr431, h⟩ := ob h
 refine J.op rfl (A.call (L1 := []) Try.call5 rfl (cons_Graph_ok isNil isNil isNil isNil isNil fxb_0 hr431) rfl rfl) ?_
 rintro _ K436 _ ⟨v435, _, rfl, ⟨p432, v433, rfl, rfl, f434, rfl⟩, hK437, rfl⟩
 refine ja v433 rfl <| J.nil <| cr <| jm (.slice adxb_0 xb.length cpxb_0) rfl ?_
 obtain ⟨r438, hr439, h⟩ := ob h
 refine J.op rfl (A.call (L1 := []) Try.call6 rfl (ref27_Arcs_ok (fxb_0.mono hK437) hr439) rfl rfl) ?_
 rintro _ _ _ ⟨v444, _, rfl, ⟨⟨l440, ad441, cp442, rfl, rfl, rfl⟩, rfl⟩, _, rfl⟩
 refine J.wit Row.hn fun hn443 => ja (.slice ad441 l440.length cp442) rfl <| J.nil <| CJ.seq <| cr <| jm (ii xa) rfl ?_
 refine jm (.slice ad441 l440.length cp442) rfl ?_
 obtain ⟨r448, hr449, h⟩ := ob h
 refine J.op rfl (A.call (L1 := [Row Hp.nil 65 (.cons (.int .i64) (.one (.int .i64))) (.slice ad441 l440.length cp442) l440]) Try.call7 rfl (Tr.lend (Hp.nil_le _) (by decide) (fun K450 hK451 f452 => ref10_Check_ok f452 hr449)) rfl rfl) ?_
 rintro _ _ _ ⟨v454, _, rfl, ⟨⟨_, ⟨i453, rfl, rfl, rfl⟩, rfl⟩, rfl⟩, _, rfl⟩
 refine jv (.bool (!decide (i453 = 0))) (V.neq rfl rfl) <| J.nil <| cc rfl h (fun hc457 h => ?_) fun hc457 h => ?_
 · refine cr <| jm v433 rfl <| jv (.bool p432.isNone) (V.kp_eql Try.underlying24 f434 rfl rfl) <| jm (.bool p432.isNone) rfl <| J.cut 2 ?_
   obtain ⟨t465, ht466, h⟩ := ob h
   refine jmeet [(32, .bool t465)] ?_ ?_
   · rcases bt (p432.isNone) with hc467 | hc467
     · have ht466 := ct hc467 ht466
       refine J.run rfl rfl rfl hc467 ?_
       obtain ⟨r468, hr469, ht466⟩ := ob ht466
       refine J.op rfl (A.call (L1 := []) Try.call4 rfl (law27_awake_ok hr469) rfl rfl) ?_
       rintro _ _ _ ⟨v471, _, rfl, ⟨⟨t470, rfl, rfl, rfl⟩, rfl⟩, _, rfl⟩
       refine jv (.bool t470) (V.pickT rfl hc467 rfl) <| J.nil ?_
       obtain rfl := si ht466
       exact ⟨rfl, ⟨rfl, trivial⟩, rfl, rfl⟩
     have ht466 := cf hc467 ht466
     refine J.skip rfl rfl rfl rfl hc467 <| jv (.bool false) (V.pickF rfl hc467 rfl) <| J.nil ?_
     obtain rfl := si ht466
     exact ⟨rfl, ⟨rfl, trivial⟩, rfl, rfl⟩
   intro ρ
   refine ja (.bool t465) rfl <| J.nil <| CJ.ret ?_
   obtain rfl := si h
   exact ⟨_, _, Res.one rfl rfl, ⟨t465, rfl, rfl, rfl⟩, hK437, fun w hs => (Sep.dropAt 0 rfl hs)⟩
 refine CJ.skip <| CJ.seq <| cr <| jm v433 rfl <| jv (.bool p432.isNone) (V.kp_eql Try.underlying24 f434 rfl rfl) <| jm (.bool p432.isNone) rfl ?_
 refine J.cut 5 ?_
 obtain ⟨t481, ht482, h⟩ := ob h
 refine jmeet [(40, .bool t481), (1, .slice adxb_0 xb.length cpxb_0), (5, v433)] ?_ ?_
 · rcases bt (p432.isNone) with hc483 | hc483
   · have ht482 := ct hc483 ht482
     refine J.skip rfl rfl rfl rfl hc483 <| J.skip rfl rfl rfl rfl hc483 <| J.skip rfl rfl rfl rfl hc483 <| J.skip rfl rfl rfl rfl hc483 <| jv (.bool true) (V.pickT rfl hc483 rfl) <| J.nil ?_
     obtain rfl := si ht482
     exact ⟨rfl, ⟨rfl, rfl, rfl, trivial⟩, rfl, rfl⟩
   have ht482 := cf hc483 ht482
   refine J.run rfl rfl rfl hc483 <| jm v433 rfl <| J.run rfl rfl rfl hc483 ?_
   obtain ⟨r484, hr485, ht482⟩ := ob ht482
   refine J.op rfl (A.call (L1 := []) Try.call8 rfl (graph_Graph_Nodes_ok f434 hr485) rfl rfl) ?_
   rintro _ _ _ ⟨v487, _, rfl, ⟨⟨i486, rfl, rfl, rfl⟩, rfl⟩, _, rfl⟩
   refine J.run rfl rfl rfl hc483 <| jm (ii xa) rfl <| J.run rfl rfl rfl hc483 <| jv (.bool (!decide (i486 = xa))) (V.neq rfl rfl) <| jv (.bool (!decide (i486 = xa))) (V.pickF rfl hc483 rfl) <| J.nil ?_
   obtain rfl := si ht482
   exact ⟨rfl, ⟨rfl, rfl, rfl, trivial⟩, rfl, rfl⟩
 intro ρ
 refine jm (.bool t481) rfl <| J.cut 6 ?_
 obtain ⟨t497, ht498, h⟩ := ob h
 refine jmeet [(47, .bool t497), (1, .slice adxb_0 xb.length cpxb_0), (5, v433)] ?_ ?_
 · rcases bt (t481) with hc499 | hc499
   · have ht498 := ct hc499 ht498
     refine J.skip rfl rfl rfl rfl hc499 <| J.skip rfl rfl rfl rfl hc499 <| J.skip rfl rfl rfl rfl hc499 <| J.skip rfl rfl rfl rfl hc499 <| J.skip rfl rfl rfl rfl hc499 <| jv (.bool true) (V.pickT rfl hc499 rfl) <| J.nil ?_
     obtain rfl := si ht498
     exact ⟨rfl, ⟨rfl, rfl, rfl, trivial⟩, rfl, rfl⟩
   have ht498 := cf hc499 ht498
   refine J.run rfl rfl rfl hc499 <| jm v433 rfl <| J.run rfl rfl rfl hc499 ?_
   obtain ⟨r500, hr501, ht498⟩ := ob ht498
   refine J.op rfl (A.call (L1 := []) Try.call9 rfl (graph_Graph_Arcs_ok f434 hr501) rfl rfl) ?_
   rintro _ _ _ ⟨v503, _, rfl, ⟨⟨i502, rfl, rfl, rfl⟩, rfl⟩, _, rfl⟩
   refine J.run rfl rfl rfl hc499 <| jm (.slice adxb_0 xb.length cpxb_0) rfl <| J.run rfl rfl rfl hc499 <| jv (ii (((xb.length : Nat) : Int))) (V.len Try.underlying22 rfl) <| J.run rfl rfl rfl hc499 <| jv (.bool (!decide (i502 = (((xb.length : Nat) : Int))))) (V.neq rfl rfl) <| jv (.bool (!decide (i502 = (((xb.length : Nat) : Int))))) (V.pickF rfl hc499 rfl) ?_
   refine J.nil ?_
   obtain rfl := si ht498
   exact ⟨rfl, ⟨rfl, rfl, rfl, trivial⟩, rfl, rfl⟩
 intro ρ
 refine J.nil <| cc rfl h (fun hc506 h => ?_) fun hc506 h => ?_
 · refine cr <| ja (.bool false) rfl <| J.nil <| CJ.ret ?_
   obtain rfl := si h
   exact ⟨_, _, Res.one rfl rfl, ⟨false, rfl, rfl, rfl⟩, hK437, fun w hs => (Sep.dropAt 0 rfl hs)⟩
 refine CJ.skip <| CJ.seq <| cr <| ja (ii 0) rfl <| J.nil ?_
 obtain ⟨o667, ho668, h⟩ := ob h
 refine CJ.joinN (o := o667) (fun s ρ K' L' => () = s ∧ Fits [] ρ ∧ K436 = K' ∧ F = L') ?_ ?_
 · refine CJ.block <| CJ.dropAt 0 rfl <| CJ.loop (fun s ρ K' L' => ∃ (i721 : Int), i721 = s ∧ Fits [(1, .slice adxb_0 xb.length cpxb_0), (5, v433), (7, ii i721)] ρ ∧ K436 = K' ∧ F = L') ho668 ⟨0, rfl, ⟨rfl, rfl, rfl, trivial⟩, rfl, rfl⟩ ?_
   rintro s ρ _ _ r777 ⟨i721, rfl, hf775, rfl, rfl⟩ h774
   obtain ⟨ρ, rfl⟩ := hf775.ex
   refine CJ.seq <| cr <| jm (ii i721) rfl <| jm (.slice adxb_0 xb.length cpxb_0) rfl <| jv (ii (((xb.length : Nat) : Int))) (V.len Try.underlying22 rfl) <| jv (.bool (decide (i721 < (((xb.length : Nat) : Int))))) (V.lss rfl rfl) ?_
   refine J.nil <| cc rfl h774 (fun hc778 h774 => ?_) fun hc778 h774 => ?_
   · refine CJ.skip <| CJ.seq <| CJ.block <| cr <| jm v433 rfl <| jm (ii i721) rfl ?_
     obtain ⟨r779, hr780, h774⟩ := ob h774
     refine J.op rfl (A.call (L1 := []) Try.call10 rfl (graph_Graph_Arc_ok f434 hr780) rfl rfl) ?_
     rintro _ _ _ ⟨v784, _, rfl, ⟨⟨i781, i782, t783, rfl, rfl, rfl⟩, rfl⟩, _, rfl⟩
     refine jm (.tuple #[.agg #[ii i781, ii i782], .bool t783]) rfl <| jx (.agg #[ii i781, ii i782]) rfl rfl <| jx (.bool t783) rfl rfl <| jal inf41 [ii 0, ii 0] rfl fun b787 => js [ii i781, ii i782] sz41 rfl rfl rfl rfl rfl rfl <| ja (.bool t783) rfl <| J.nil ?_
     refine CJ.seq <| CJ.mix [Cl b787 41 [ii i781, ii i782]] [] [0, 1, 2, 3, 4, 5, 6, 7, 8, 9, 10, 11, 12, 13, 14, 15, 16, 17, 18, 19, 20, 21] [] mixO (by decide +kernel) ⟨0, rfl, trivial⟩ rfl rfl rfl <| JM.nil <| qm (.bool t783) rfl <| qv (.bool (!t783)) (V.not rfl) <| qm (.bool (!t783)) rfl ?_
     rcases bt (!t783) with hc808 | hc808
     · have h774 := ct hc808 h774
       refine JQ.skip rfl rfl rfl rfl hc808 <| JQ.skip rfl rfl rfl rfl hc808 <| JQ.skip rfl rfl rfl rfl hc808 <| JQ.skip rfl rfl rfl rfl hc808 <| JQ.skip rfl rfl rfl rfl hc808 <| JQ.skip rfl rfl rfl rfl hc808 <| JQ.skip rfl rfl rfl rfl hc808 ?_
       refine JQ.skip rfl rfl rfl rfl hc808 <| qv (.bool true) (V.pickT rfl hc808 rfl) <| qm (.bool true) rfl <| JQ.skip rfl rfl rfl rfl rfl <| JQ.skip rfl rfl rfl rfl rfl <| JQ.skip rfl rfl rfl rfl rfl <| JQ.skip rfl rfl rfl rfl rfl ?_
       refine JQ.skip rfl rfl rfl rfl rfl <| JQ.skip rfl rfl rfl rfl rfl <| JQ.skip rfl rfl rfl rfl rfl <| JQ.skip rfl rfl rfl rfl rfl <| qv (.bool true) (V.pickT rfl rfl rfl) <| JQ.nil <| J.nil ?_
       refine CJ.condK (b := true) rfl rfl <| cr <| ja (.bool false) rfl <| J.nil <| CJ.ret ?_
       obtain rfl := si h774
       refine ⟨nofun, fun e => ?_⟩
       subst e
       refine .inr ⟨nofun, ?_⟩
       obtain rfl := si h
       exact ⟨_, _, Res.one rfl rfl, ⟨false, rfl, rfl, rfl⟩, hK437, fun w hs => (Sep.dropAt 0 rfl hs)⟩
     have h774 := cf hc808 h774
     refine JQ.run rfl rfl rfl hc808 <| qv _ (V.fad Try.underlying41 rfl nz3 rfl) <| JQ.run rfl rfl rfl hc808 <| qv (ii i781) (V.ld rfl (Ld.sc sc3 (Rd.cl 0 rfl rfl))) <| JQ.run rfl rfl rfl hc808 <| qm (.slice adxb_0 xb.length cpxb_0) rfl <| JQ.run rfl rfl rfl hc808 ?_
     refine qm (ii i721) rfl <| JQ.run rfl rfl rfl hc808 ?_
     obtain ⟨x809, hx810, h774⟩ := ob h774
     obtain ⟨p811, p812, p813⟩ := getI_some hx810
     obtain ⟨b814, o815, e816, a817⟩ := ((fxb_0.mono hK437)).at p812
     refine qv _ (V.iad Try.underlying22 sz47 rfl e816 rfl p811 p813) <| JQ.run rfl rfl rfl hc808 <| qv _ (V.fad Try.underlying47 rfl nz3 rfl) <| JQ.run rfl rfl rfl hc808 <| qv (ii x809.1) (V.ld rfl (Ld.sc sc3 (Rd.k ((a817).fst).int (Hp.le_refl _)))) <| JQ.run rfl rfl rfl hc808 <| qv (.bool (!decide (i781 = x809.1))) (V.neq rfl rfl) ?_
     refine qv (.bool (!decide (i781 = x809.1))) (V.pickF rfl hc808 rfl) <| qm (.bool (!decide (i781 = x809.1))) rfl ?_
     rcases bt (!decide (i781 = x809.1)) with hc818 | hc818
     · have h774 := ct hc818 h774
       refine JQ.skip rfl rfl rfl rfl hc818 <| JQ.skip rfl rfl rfl rfl hc818 <| JQ.skip rfl rfl rfl rfl hc818 <| JQ.skip rfl rfl rfl rfl hc818 <| JQ.skip rfl rfl rfl rfl hc818 <| JQ.skip rfl rfl rfl rfl hc818 <| JQ.skip rfl rfl rfl rfl hc818 ?_
       refine JQ.skip rfl rfl rfl rfl hc818 <| qv (.bool true) (V.pickT rfl hc818 rfl) <| JQ.nil <| J.nil <| CJ.condK (b := true) rfl rfl <| CJ.seq <| CJ.region ?_
       refine ja (.bool false) rfl <| J.nil <| CJ.ret ?_
       obtain rfl := si h774
       refine ⟨nofun, fun e => ?_⟩
       subst e
       refine .inr ⟨nofun, ?_⟩
       obtain rfl := si h
       exact ⟨_, _, Res.one rfl rfl, ⟨false, rfl, rfl, rfl⟩, hK437, fun w hs => (Sep.dropAt 0 rfl hs)⟩
     have h774 := cf hc818 h774
     refine JQ.run rfl rfl rfl hc818 <| qv _ (V.fad Try.underlying41 rfl nz3 rfl) <| JQ.run rfl rfl rfl hc818 <| qv (ii i782) (V.ld rfl (Ld.sc sc3 (Rd.cl 0 rfl rfl))) <| JQ.run rfl rfl rfl hc818 <| qm (.slice adxb_0 xb.length cpxb_0) rfl <| JQ.run rfl rfl rfl hc818 ?_
     refine qm (ii i721) rfl <| JQ.run rfl rfl rfl hc818 ?_
     obtain ⟨x819, hx820, h774⟩ := ob h774
     obtain ⟨p821, p822, p823⟩ := getI_some hx820
     obtain ⟨b824, o825, e826, a827⟩ := ((fxb_0.mono hK437)).at p822
     refine qv _ (V.iad Try.underlying22 sz47 rfl e826 rfl p821 p823) <| JQ.run rfl rfl rfl hc818 <| qv _ (V.fad Try.underlying47 rfl nz3 rfl) <| JQ.run rfl rfl rfl hc818 <| qv (ii x819.2.1) (V.ld rfl (Ld.sc sc3 (Rd.k (((a827).snd).fst).int (Hp.le_refl _)))) <| JQ.run rfl rfl rfl hc818 <| qv (.bool (!decide (i782 = x819.2.1))) (V.neq rfl rfl) ?_
     refine qv (.bool (!decide (i782 = x819.2.1))) (V.pickF rfl hc818 rfl) <| JQ.nil <| J.nil <| cc rfl h774 (fun hc828 h774 => ?_) fun hc828 h774 => ?_
     · refine cr <| ja (.bool false) rfl <| J.nil <| CJ.ret ?_
       obtain rfl := si h774
       refine ⟨nofun, fun e => ?_⟩
       subst e
       refine .inr ⟨nofun, ?_⟩
       obtain rfl := si h
       exact ⟨_, _, Res.one rfl rfl, ⟨false, rfl, rfl, rfl⟩, hK437, fun w hs => (Sep.dropAt 0 rfl hs)⟩
     refine CJ.skip <| CJ.region <| jm (ii i721) rfl <| jv (ii (IntKind.wrap .i64 (i721 + 1))) (V.add rfl rfl) <| ja (ii (IntKind.wrap .i64 (i721 + 1))) rfl <| J.dropAt 0 rfl <| J.nil ?_
     obtain rfl := si h774
     exact ⟨rfl, ⟨IntKind.wrap .i64 (i721 + 1), rfl, ⟨rfl, rfl, rfl, trivial⟩, rfl, rfl⟩⟩
   refine CJ.exit ?_
   obtain rfl := si h774
   refine ⟨nofun, fun e => ?_⟩
   subst e
   exact .inl ⟨rfl, _, rfl, ⟨rfl, trivial, rfl, rfl⟩⟩
 rintro s ρ _ _ ho829 ⟨rfl, hf830, rfl, rfl⟩
 subst ho829
 obtain ⟨ρ, rfl⟩ := hf830.ex
 refine PJ.done <| CJ.seq <| CJ.region ?_
 obtain ⟨r832, hr833, h⟩ := ob h
 refine J.op rfl (A.call (L1 := []) Try.call4 rfl (law27_awake_ok hr833) rfl rfl) ?_
 rintro _ _ _ ⟨v835, _, rfl, ⟨⟨t834, rfl, rfl, rfl⟩, rfl⟩, _, rfl⟩
 refine ja (.bool t834) rfl <| J.nil <| CJ.ret ?_
 obtain rfl := si h
 exact ⟨_, _, Res.one rfl rfl, ⟨t834, rfl, rfl, rfl⟩, hK437, fun w hs => hs⟩
end Go.Proofs.Ytelekeapfgfknaa
