/- 'easement/easementlaw39.PoolPlays' returns true for every input, and each argument reads afterwards as it read before: the row's frame round the walk. -/
import Derived.Test.YtmlbbjkojaljnaaZ4
namespace Go.Proofs.Ytmlbbjkojaljnaa
open Go.RowKit
set_option linter.unusedVariables false
set_option linter.unusedSimpArgs false
set_option linter.unnecessarySimpa false
set_option maxRecDepth 20000
theorem awake39 : fn_law39_awake = some true := by
  unfold fn_law39_awake
  have h : fn_pool_New_string 2 = some (.inr (0, some (2, []))) := by
    unfold fn_pool_New_string
    rw [show (mk 2 2 () : Option (List Unit)) = some (List.replicate 2 ()) from mkN (k := 2) (by decide)]
    rfl
  rw [h]
  simp only [Option.bind_some, putF, getF]
  unfold fn_pool_Pool_string_Len_p0_od fn_pool_Pool_string_Room_p0_od
  rfl
theorem refPut39 (L : List Int) (a v : Int) (ha : a ≤ 1000) (hl : (L.length : Int) ≤ a) : fn_ref39_Put (L, a) v = some (if (L.length : Int) < a then L ++ [v] else L, a, decide ((L.length : Int) < a)) := by
  unfold fn_ref39_Put
  by_cases h : (L.length : Int) < a
  · have e : decide (a ≤ (((L.length : Nat) : Int))) = false := by simp; omega
    dsimp only
    rw [e, cond_false, app_eq (by simp; omega)]
    simp only [Option.bind_some, List.nil_append]
    rw [app_eq (by simp; omega)]
    simp [h]
  · have e : decide (a ≤ (((L.length : Nat) : Int))) = true := by simp; omega
    dsimp only
    rw [e, cond_true]
    simp [h]
theorem refGet39 (L : List Int) (a : Int) (hl : L.length ≤ 1000) : fn_ref39_Get (L, a) = some (L.tail, a, L.headD 0, !L.isEmpty) := by
  unfold fn_ref39_Get
  cases L with
  | nil => rfl
  | cons x l =>
    dsimp only
    have e : decide ((((x :: l).length : Nat) : Int) = 0) = false := by simp; omega
    rw [e, cond_false, sub1 (by simp)]
    simp only [Option.bind_some]
    rw [show (0 : Int) = ((0 : Nat) : Int) from rfl, getN (by simp)]
    rfl
/-- How many are moved. -/
def mvN (L M : List Int) (b : Int) : Nat := min L.length (b.toNat - M.length)
theorem refMove39 (L M : List Int) (a b : Int) (ha : (L.length : Int) ≤ a) (ha2 : a ≤ 1000) (hb : (M.length : Int) ≤ b) (hb2 : b ≤ 1000) : fn_ref39_Move (L, a) (M, b) = some (L.drop (mvN L M b), a, M ++ L.take (mvN L M b), b, ((mvN L M b : Nat) : Int)) := by
  unfold fn_ref39_Move
  rw [loop_val (body := fn_ref39_Move_l1) (fun s => ∃ k : Nat, k ≤ mvN L M b ∧ s = ((k : Int), L.drop k, a, M ++ L.take k, b)) (fun s => mvN L M b - s.1.toNat) (b := (((mvN L M b : Nat) : Int), L.drop (mvN L M b), a, M ++ L.take (mvN L M b), b)) ?_ (s := (0, L, a, M, b)) ⟨0, Nat.zero_le _, by simp⟩]
  · rfl
  rintro s ⟨k, hk, rfl⟩
  have hk1 : k ≤ L.length := by unfold mvN at hk; omega
  have hk2 : k ≤ b.toNat - M.length := by unfold mvN at hk; omega
  unfold fn_ref39_Move_l1
  have hl1 : (L.drop k).length = L.length - k := List.length_drop
  have hl2 : (M ++ L.take k).length = M.length + k := by rw [List.length_append, List.length_take]; omega
  by_cases hc : k < mvN L M b
  · left
    have hc1 : k < L.length := by unfold mvN at hc; omega
    have hc2 : k < b.toNat - M.length := by unfold mvN at hc; omega
    refine ⟨_, ?_, ⟨k + 1, hc, rfl⟩, by dsimp only; rw [Int.toNat_natCast, Int.toNat_natCast]; omega⟩
    have e : ((decide (0 < ((((L.drop k).length : Nat) : Int)))) && (decide (((((M ++ L.take k).length : Nat) : Int)) < b))) = true := by
      rw [Bool.and_eq_true, decide_eq_true_eq, decide_eq_true_eq, hl1, hl2]; omega
    dsimp only
    rw [e, cond_true, refGet39 _ _ (by rw [hl1]; omega)]
    simp only [Option.bind_some]
    rw [refPut39 _ _ _ hb2 (by rw [hl2]; omega)]
    simp only [Option.bind_some]
    have h3 : (((M ++ L.take k).length : Nat) : Int) < b := by rw [hl2]; omega
    rw [if_pos h3, List.tail_drop]
    have h4 : (L.drop k).headD 0 = L[k] := by rw [List.drop_eq_getElem_cons hc1]; rfl
    rw [h4, List.append_assoc, ← take_snoc hc1, w64s hc (by unfold mvN; omega)]
  · right
    obtain rfl : k = mvN L M b := by omega
    have e : ((decide (0 < ((((L.drop (mvN L M b)).length : Nat) : Int)))) && (decide (((((M ++ L.take (mvN L M b)).length : Nat) : Int)) < b))) = false := by
      rw [Bool.eq_false_iff]; intro e
      rw [Bool.and_eq_true, decide_eq_true_eq, decide_eq_true_eq, hl1, hl2] at e
      unfold mvN at e; omega
    dsimp only
    rw [e, cond_false]
theorem room39 (a : Int) (L : List Int) (h : (L.length : Int) ≤ a) (ha : a ≤ 1000) : fn_pool_Pool_int_Room_p0_od (some (a, L)) = some (a - (L.length : Int), some (a, L)) := by
  unfold fn_pool_Pool_int_Room_p0_od
  simp only [Option.bind_some]
  rw [w64 (by omega) (by omega)]
theorem move39 (L M : List Int) (a b : Int) (ha : (L.length : Int) ≤ a) (ha2 : a ≤ 1000) (hb : (M.length : Int) ≤ b) (hb2 : b ≤ 1000) : fn_pool_Move_int_p0p1_od_od (some (a, L)) (some (b, M)) = some (((mvN L M b : Nat) : Int), some (a, L.drop (mvN L M b)), some (b, M ++ L.take (mvN L M b))) := by
  unfold fn_pool_Move_int_p0p1_od_od
  rw [loop_val (body := fn_pool_Move_int_p0p1_od_od_l1) (fun s => ∃ k : Nat, k ≤ mvN L M b ∧ s = ((k : Int), some (a, L.drop k), some (b, M ++ L.take k))) (fun s => mvN L M b - s.1.toNat) (b := (((mvN L M b : Nat) : Int), some (a, L.drop (mvN L M b)), some (b, M ++ L.take (mvN L M b)))) ?_ (s := (0, some (a, L), some (b, M))) ⟨0, Nat.zero_le _, by simp⟩]
  · rfl
  rintro s ⟨k, hk, rfl⟩
  have hk1 : k ≤ L.length := by unfold mvN at hk; omega
  have hk2 : k ≤ b.toNat - M.length := by unfold mvN at hk; omega
  unfold fn_pool_Move_int_p0p1_od_od_l1
  have hl1 : (L.drop k).length = L.length - k := List.length_drop
  have hl2 : (M ++ L.take k).length = M.length + k := by rw [List.length_append, List.length_take]; omega
  dsimp only
  rw [room39 b _ (by rw [hl2]; omega) hb2]
  simp only [Option.bind_some]
  by_cases hc : k < mvN L M b
  · left
    have hc1 : k < L.length := by unfold mvN at hc; omega
    have hc2 : k < b.toNat - M.length := by unfold mvN at hc; omega
    refine ⟨_, ?_, ⟨k + 1, hc, rfl⟩, by dsimp only; rw [Int.toNat_natCast, Int.toNat_natCast]; omega⟩
    have e : decide (0 < b - (((M ++ L.take k).length : Nat) : Int)) = true := by rw [decide_eq_true_eq, hl2]; omega
    rw [e, cond_true]
    simp only [getF, putF, Option.bind_some]
    have h4 : (L.drop k).headD 0 = L[k] := by rw [List.drop_eq_getElem_cons hc1]; rfl
    have h5 : (L.drop k).isEmpty = false := by rw [List.drop_eq_getElem_cons hc1]; rfl
    have h3 : (((M ++ L.take k).length : Nat) : Int) < b := by rw [hl2]; omega
    rw [h4, h5, if_pos h3, List.tail_drop, List.append_assoc, ← take_snoc hc1, w64s hc (by unfold mvN; omega)]
    rfl
  · right
    obtain rfl : k = mvN L M b := by omega
    by_cases h6 : 0 < b - (((M ++ L.take (mvN L M b)).length : Nat) : Int)
    · have h7 : L.drop (mvN L M b) = [] := by
        apply List.eq_nil_of_length_eq_zero
        rw [hl1]; rw [hl2] at h6; unfold mvN at h6 ⊢; omega
      have e : decide (0 < b - (((M ++ L.take (mvN L M b)).length : Nat) : Int)) = true := decide_eq_true h6
      rw [e, cond_true, h7]
      rfl
    · have e : decide (0 < b - (((M ++ L.take (mvN L M b)).length : Nat) : Int)) = false := decide_eq_false h6
      rw [e, cond_false]
theorem does39 (L M : List Int) (a b : Int) (x : Int × Int) (ha : (L.length : Int) ≤ a) (ha2 : a ≤ 1000) (hb : (M.length : Int) ≤ b) (hb2 : b ≤ 1000) :
    ∃ L' M', fn_law39_does_p0p1aaa_od_od (L, a) (M, b) x (some (a, L)) (some (b, M)) = some (L', a, M', b, true, some (a, L'), some (b, M')) ∧ (L'.length : Int) ≤ a ∧ (M'.length : Int) ≤ b := by
  unfold fn_law39_does_p0p1aaa_od_od
  have hla : L.length ≤ 1000 := by omega
  have hlb : M.length ≤ 1000 := by omega
  have hmv : mvN L M b ≤ L.length ∧ mvN L M b ≤ b.toNat - M.length := by unfold mvN; omega
  have hmw : mvN M L a ≤ M.length ∧ mvN M L a ≤ a.toNat - L.length := by unfold mvN; omega
  dsimp only
  by_cases c0 : x.1 = 0
  · rw [decide_eq_true c0, cond_true, refPut39 L a x.2 ha2 ha]
    simp only [Option.bind_some, putF]
    by_cases h : (L.length : Int) < a
    · exact ⟨L ++ [x.2], M, by simp [h], by simp; omega, hb⟩
    · exact ⟨L, M, by simp [h], ha, hb⟩
  rw [decide_eq_false c0, cond_false]
  by_cases c1 : x.1 = 1
  · rw [decide_eq_true c1, cond_true, refGet39 L a hla]
    simp only [Option.bind_some, getF, decide_true, cond_true, BEq.rfl]
    exact ⟨L.tail, M, rfl, by rw [List.length_tail]; omega, hb⟩
  rw [decide_eq_false c1, cond_false]
  by_cases c2 : x.1 = 2
  · rw [decide_eq_true c2, cond_true, refPut39 M b x.2 hb2 hb]
    simp only [Option.bind_some, putF]
    by_cases h : (M.length : Int) < b
    · exact ⟨L, M ++ [x.2], by simp [h], ha, by simp; omega⟩
    · exact ⟨L, M, by simp [h], ha, hb⟩
  rw [decide_eq_false c2, cond_false]
  by_cases c3 : x.1 = 3
  · rw [decide_eq_true c3, cond_true, refGet39 M b hlb]
    simp only [Option.bind_some, getF, decide_true, cond_true, BEq.rfl]
    exact ⟨L, M.tail, rfl, ha, by rw [List.length_tail]; omega⟩
  rw [decide_eq_false c3, cond_false]
  by_cases c4 : x.1 = 4
  · rw [decide_eq_true c4, cond_true, refMove39 L M a b ha ha2 hb hb2, move39 L M a b ha ha2 hb hb2]
    simp only [Option.bind_some, decide_true]
    exact ⟨_, _, rfl, by rw [List.length_drop]; omega, by rw [List.length_append, List.length_take]; omega⟩
  rw [decide_eq_false c4, cond_false]
  by_cases c5 : x.1 = 5
  · rw [decide_eq_true c5, cond_true, refMove39 M L b a hb hb2 ha ha2, move39 M L b a hb hb2 ha ha2]
    simp only [Option.bind_some, decide_true]
    exact ⟨_, _, rfl, by rw [List.length_append, List.length_take]; omega, by rw [List.length_drop]; omega⟩
  rw [decide_eq_false c5, cond_false]
  exact ⟨L, M, rfl, ha, hb⟩
theorem new39 (a : Int) (h1 : 1 ≤ a) (h2 : a ≤ 65536) : fn_pool_New_int a = some (.inr (0, some (a, []))) := by
  unfold fn_pool_New_int
  obtain ⟨n, rfl⟩ := Int.eq_ofNat_of_zero_le (show 0 ≤ a by omega)
  have e1 : decide ((n : Int) < 1) = false := by simp; omega
  have e2 : decide (65536 < (n : Int)) = false := by simp; omega
  rw [e1, cond_false, e2, cond_false, mkN (by omega)]
  rfl
theorem PoolPlays_true (xa : Int) (xb : Int) (xc : (List (Int × Int))) (k0 : Tp.Ok (.int .i64) xa) (k1 : Tp.Ok (.int .i64) xb) (k2 : Tp.Ok (.sl (.cons (.int .i64) (.one (.int .i64)))) xc) : fn_law39_PoolPlays xa xb xc = some true := by
  unfold fn_law39_PoolPlays
  by_cases hg : (1000 < xa ∧ xa ≤ 65536) ∨ xb < 1 ∨ 1000 < xb ∨ 60 < xc.length
  · have hb : (((((decide (1000 < xa)) && (decide (xa ≤ 65536))) || (decide (xb < 1))) || (decide (1000 < xb))) || (decide (60 < (((xc.length : Nat) : Int))))) = true := by
      simp; omega
    rw [hb, cond_true, awake39]; rfl
  have hb : (((((decide (1000 < xa)) && (decide (xa ≤ 65536))) || (decide (xb < 1))) || (decide (1000 < xb))) || (decide (60 < (((xc.length : Nat) : Int))))) = false := by
    rw [Bool.eq_false_iff]; intro e; apply hg
    simp at e; omega
  rw [hb, cond_false, new39 xb (by omega) (by omega)]
  by_cases h1 : xa < 1
  · have e : fn_pool_New_int xa = some (.inl 2) := by unfold fn_pool_New_int; rw [decide_eq_true h1]; rfl
    rw [e]
    simp [h1, awake39]
  by_cases h2 : 65536 < xa
  · have e : fn_pool_New_int xa = some (.inl 5) := by unfold fn_pool_New_int; rw [decide_eq_false h1, decide_eq_true h2]; rfl
    rw [e]
    simp [h1, h2, awake39]
  rw [new39 xa (by omega) (by omega)]
  simp only [Option.bind_some, decide_eq_false h1, decide_eq_false h2, cond_false, decide_true, Bool.not_true, Bool.or_self]
  obtain ⟨o, hl, ho⟩ := loop_inv (body := fn_law39_PoolPlays_l1 xa xb xc) (fun s => ∃ (k : Nat) (L M : List Int), k ≤ xc.length ∧ s = ((k : Int), some (xa, L), some (xb, M), L, xa, M, xb) ∧ (L.length : Int) ≤ xa ∧ (M.length : Int) ≤ xb) (fun s => xc.length - s.1.toNat)
    (Q := fun o => ∃ L : List Int, o = .inl (some (xa, L), L, xa) ∧ (L.length : Int) ≤ xa) (fun s hs => by
    obtain ⟨k, L, M, hk, rfl, hL, hM⟩ := hs
    unfold fn_law39_PoolPlays_l1
    by_cases hc : k < xc.length
    · left
      obtain ⟨L', M', g1, g2, g3⟩ := does39 L M xa xb (xc[k].1, xc[k].2) hL (by omega) hM (by omega)
      refine ⟨((k + 1 : Nat), some (xa, L'), some (xb, M'), L', xa, M', xb), ?_, ⟨k + 1, L', M', hc, rfl, g2, g3⟩, by dsimp only; rw [Int.toNat_natCast, Int.toNat_natCast]; omega⟩
      simp only [dlt hc, cond_true, getN hc, Option.bind_some, g1, agr_self, Bool.not_true, cond_false]
      unfold fn_pool_Pool_int_Len_p0_od
      simp only [Option.bind_some, decide_true, Bool.not_true, cond_false]
      rw [room39 xa L' g2 (by omega)]
      simp only [Option.bind_some]
      rw [room39 xb M' g3 (by omega), w64 (x := xa - (L'.length : Int)) (by omega) (by omega)]
      simp only [Option.bind_some, decide_true, Bool.not_true, cond_false]
      rw [w64 (x := xb - (M'.length : Int)) (by omega) (by omega), w64s hc (by omega)]
      simp
    · right
      simp only [dge hc, cond_false]
      exact ⟨_, rfl, L, rfl, hL⟩) (s := (0, some (xa, []), some (xb, []), [], xa, [], xb)) ⟨0, [], [], Nat.zero_le _, rfl, by simp; omega, by simp; omega⟩
  rw [hl]
  obtain ⟨L, rfl, hL⟩ := ho
  unfold fn_pool_Move_int_p0p0_od fn_pool_Pool_int_Len_p0_od
  simp [awake39]
end Go.Proofs.Ytmlbbjkojaljnaa
namespace Go.Proofs.Ytmlbbjkojaljnaa
open Go.RowKit
set_option linter.unusedVariables false
set_option linter.unnecessarySimpa false
set_option linter.unusedSimpArgs false
set_option maxRecDepth 20000
theorem PoolPlays_walk {H : Type} (enc : TypeId × Value → H) (W : World) (base : Nat) {v0 v1 v2 : Value} {d0 d1 d2 : DataW H} {p0 p1 p2 : List MemPlace}
    (h0 : DataW.Trod enc Try.prog W 0 (fun _ => true) true 3 v0 d0 p0) (h1 : DataW.Trod enc Try.prog W 0 (fun _ => true) true 3 v1 d1 p1) (h2 : DataW.Trod enc Try.prog W 0 (fun _ => true) true 22 v2 d2 p2)
    (o0 : Value.okWide Try.prog W .any base 3 v0) (o1 : Value.okWide Try.prog W .any base 3 v1) (o2 : Value.okWide Try.prog W .any base 22 v2) :
    Calls Try.prog 3 #[v0, v1, v2] W fun e W' => e = .returned (.bool true) ∧ Below W.heap.size W W' := by
  obtain ⟨xa, i0, k0⟩ := Tp.arg (.int .i64) (by kernel_rfl) o0 h0
  obtain ⟨xb, i1, k1⟩ := Tp.arg (.int .i64) (by kernel_rfl) o1 h1
  obtain ⟨xc, i2, k2⟩ := Tp.arg (.sl (.cons (.int .i64) (.one (.int .i64)))) (by kernel_rfl) o2 h2
  exact walkX (s := sp_law39_PoolPlays) (x := (xa, xb, xc)) (args := [v0, v1, v2]) law39_PoolPlays_is (PoolPlays_true xa xb xc k0 k1 k2) trivial rfl rfl ⟨_, _, rfl, of_rel _ i0, _, _, rfl, of_rel _ i1, _, _, rfl, of_rel _ i2, rfl⟩
end Go.Proofs.Ytmlbbjkojaljnaa
namespace Go.Proofs.Ytmlbbjkojaljnaa.poolPlaysFrame
set_option maxRecDepth 40000
open Go.ChangeShapes Go.WideShapes Go.ChangeAt Go.RowKit
theorem own : ownKnob Try.prog.godebug = none := by kernel_rfl
theorem contract (H : Type) (enc : TypeId × Value → H) (W : World) (base : Nat) (args : Array Value) (ds gs : List (DataW H)) (before : List MemPlace)
    (hval : ∀ (j : Nat) t v, Try.f3.params[j]? = some t → args[j]? = some v → Value.okWide Try.prog W .any base t v)
    (hW : DataW.Whole enc Try.prog Try.f3.params.toList Rows.poolPlaysSpec.vars false W args.toList ds gs before) :
    Calls Try.prog 3 args W fun e W' => ∃ v, e = .returned v ∧ Rows.poolPlaysSpec.post enc Try.prog Try.f3 false true false false W args v W' := by
  have hW' := hW
  obtain ⟨p, q, hA0, hV, rfl, hfz, hnd⟩ := hW
  have hA : DataW.TrodAll enc Try.prog W 0 (fun _ => true) true Try.f3.params.toList args.toList ds p := hA0
  rw [Try.params3] at hA hval
  obtain ⟨v0, vs0, d0, ds0, p0, q0, hargs, rfl, rfl, h0, r0⟩ := trodAll_cons hA
  obtain ⟨v1, vs1, d1, ds1, p1, q1, rfl, rfl, rfl, h1, r1⟩ := trodAll_cons r0
  obtain ⟨v2, vs2, d2, ds2, p2, q2, rfl, rfl, rfl, h2, r2⟩ := trodAll_cons r1
  obtain ⟨rfl, rfl, rfl⟩ := trodAll_nil r2
  obtain rfl : args = #[v0, v1, v2] := by cases args; simp_all
  refine (PoolPlays_walk enc W base h0 h1 h2 (hval 0 _ v0 rfl rfl) (hval 1 _ v1 rfl rfl) (hval 2 _ v2 rfl rfl)).mono fun e W' ⟨he, hb⟩ => ?_
  subst he
  exact ⟨_, rfl, law_post (tb := _) rfl hW' rfl rfl (by kernel_rfl) (by kernel_rfl) (of_decide_eq_true (by kernel_rfl)) hb⟩
noncomputable def world (os : Os) : World := World.holding Try.prog os ⟨#[], #[], []⟩
theorem reads (os : Os) {H : Type} (enc : TypeId × Value → H) : ∃ x, DataW.whole enc Try.prog ((world os).forCall (fun _ _ => 0) ⟨#[], #[.int .i64 0, .int .i64 0, .slice none 0 0], []⟩).memory Try.f3.params.toList Rows.poolPlaysSpec.vars false (#[.int .i64 0, .int .i64 0, .slice none 0 0] : Array Value).toList 8 = some x :=
  Option.isSome_iff_exists.1 (by kernel_rfl)
set_option maxRecDepth 100000 in
theorem lifted (os : Os) (started : os.Started) (H : Type) (enc : TypeId × Value → H) (F : Stop.Interp) :
    ReturnsInHanded {} Try.checked os 3 .any ((OpenSpec.ofChange Rows.poolPlaysSpec).preRow enc Try.prog Try.f3 Rows.poolPlaysRow.domain false Rows.poolPlaysRow.laid) (((OpenSpec.ofChange Rows.poolPlaysSpec).at F).post enc Try.prog Try.f3 false true false false) := by
  obtain ⟨x, hx⟩ := reads os enc
  refine returnsInHanded_of_row (C := Try.checked) (s := OpenSpec.ofChange Rows.poolPlaysSpec) own started (by kernel_rfl) Try.func3
    (witness_row_at (enc := enc) (C := Try.checked) false (world os) #[.int .i64 0, .int .i64 0, .slice none 0 0] rfl (by kernel_rfl) (by kernel_rfl) (by kernel_rfl)
      (OpenSpec.preRow_of_cond 8 hx (by kernel_rfl) (fun k hk => by cases hk) (by kernel_rfl) (laidMet_of_run' 8 (by kernel_rfl) (by kernel_rfl)))) ?_
  intro W base args ds gs before hval hW _ _ _ hL _ _
  exact contract H enc W base args ds gs before hval hW
theorem proved : Rows.PoolPlaysSaid :=
  OpenClaim.holds_of_cond 3 Try.f3 rfl rfl rfl rfl rfl rfl rfl ⟨rfl, rfl, rfl, rfl, rfl⟩ rfl rfl rfl rfl rfl (by kernel_rfl) Try.func3 (by kernel_rfl)
    (of_decide_eq_true (by kernel_rfl)) (by unfold Func.isWrapper; first | (rw [if_pos (by decide +kernel)]; kernel_rfl) | (rw [if_neg (by decide +kernel)]; exact ⟨rfl, rfl⟩))
    (fun os started H enc _ F => by rw [OpenClaim.pre_eq_preRow]; exact lifted os started H enc F)
end Go.Proofs.Ytmlbbjkojaljnaa.poolPlaysFrame
