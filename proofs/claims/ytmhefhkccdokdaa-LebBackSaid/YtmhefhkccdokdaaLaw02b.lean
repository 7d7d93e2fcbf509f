/- Layer 2's third law, walked. -/
import Derived.Test.YtmhefhkccdokdaaLaw02
namespace Go.Proofs.Ytmhefhkccdokdaa
open Go.RowKit
set_option linter.unusedVariables false
theorem ba_app (p : List UInt8) (s : ByteArray) : ((⟨p.toArray⟩ : ByteArray) ++ s).data.toList = p ++ s.data.toList ∧ ((⟨p.toArray⟩ : ByteArray) ++ s).size = p.length + s.size := by
  constructor
  · simp
  · rw [ByteArray.size_append]; rfl
theorem LebBack_math (s : ByteArray) (h : (Lb.take s.data.toList).2.2 = 0) : 1 ≤ (Lb.take s.data.toList).2.1 ∧ (Lb.take s.data.toList).2.1 ≤ s.size ∧ In64 (Lb.take s.data.toList).1 ∧
    (Lb.put (Lb.take s.data.toList).1 == (s.extract 0 (Lb.take s.data.toList).2.1.toNat).toList) = true := by
  obtain ⟨h1, h2, h3⟩ := Lb.put_take _ h
  have hl : s.data.toList.length = s.size := by simp
  rw [hl] at h2
  refine ⟨h1, h2, ?_, ?_⟩
  · have : ¬ Lb.put (Lb.take s.data.toList).1 = [] := by
      intro e
      rw [e] at h3
      have := congrArg List.length h3
      rw [List.length_take, hl] at this
      simp at this
      omega
    rw [Lb.put_nil] at this
    exact ⟨by omega, by omega⟩
  · rw [ba_take s _ (by omega), ← h3]; simp
set_option maxHeartbeats 2000000 in
set_option maxRecDepth 100000 in
theorem LebBack_core (n m : Int) (s : ByteArray) (w : World) (hn : In64 n) (hm : In64 m) : Calls Try.prog 5 #[.int .i64 n, .int .i64 m, .string s] w fun e w' => e = .returned (.bool true) ∧ Fr [] w w' := by
  have HF := Lib.hid (Fr.refl [] w)
  by_cases h : 500 < s.size
  · go_enter Try.func5, Try.ntmps5
    go_wp2_with fail
    refine (awake02 _).mono ?_
    rintro e w1 ⟨rfl, hf⟩
    have HF := Lib.hid (HF.out.trans hf)
    clear hf
    go_wp2_with fail
    go_ret
    exact ⟨rfl, HF.out⟩
  · have P := Lib.hid (fun w => Put_any n w hn)
    have Q := Lib.hid (fun w => Put_any m w hm)
    have lp := Lb.put_len5 n
    have lq := Lb.put_len5 m
    have T2 := Lib.hid (fun w => Take_any s w (by omega))
    have B := Lib.hid (LebBack_math s)
    have T1 : ∃ x : Int × Int × Int, (∀ w, Calls Try.prog 11 #[.string ((⟨(Lb.put n).toArray⟩ : ByteArray) ++ s)] w fun e w' => e = .returned (.tuple #[.int .i64 x.1, .int .i64 x.2.1, .int .i64 x.2.2]) ∧ w = w') ∧ (Lb.put n ≠ [] → x = (n, ((Lb.put n).length : Int), 0)) := by
      refine ⟨Lb.take (Lb.put n ++ s.data.toList), fun w => ?_, fun hne => ?_⟩
      · have := Take_any ((⟨(Lb.put n).toArray⟩ : ByteArray) ++ s) w (by rw [(ba_app _ s).2]; omega)
        rwa [(ba_app _ s).1] at this
      · rw [Lb.take_put n hne, Lb.put_length]
    obtain ⟨⟨x, y, z⟩, T1, hx⟩ := T1
    have HT1 := Lib.hid T1
    have LS := Lib.hid (Lb.put_less n m)
    clear T1
    generalize Lb.put n = p at *
    generalize Lb.put m = q at *
    go_enter Try.func5, Try.ntmps5
    by_cases hp : p = []
    case' pos => subst hp; clear hx
    case' neg =>
      obtain ⟨rfl, rfl, rfl⟩ : x = n ∧ y = p.length ∧ z = 0 := by simpa using hx hp
      clear hx
      have hpb : p.isEmpty = false := by simpa using hp
      by_cases hq : q = []
      case' pos => subst hq
      case' neg =>
        have hqb : q.isEmpty = false := by simpa using hq
        have HL := LS.out hp hq
    all_goals
      go_wp2_with fail
      refine (P.out _).mono ?_
      rintro e w1 ⟨rfl, hf⟩
      have HF := Lib.hid (HF.out.trans hf)
      clear hf
      go_wp2_with fail
      refine (Q.out _).mono ?_
      rintro e w2 ⟨rfl, hf⟩
      have HF := Lib.hid (HF.out.trans hf)
      clear hf
      go_wp2_with fail
      refine (HT1.out _).mono ?_
      rintro e w3 ⟨rfl, rfl⟩
      go_wp2_with fail
      refine (T2.out _).mono ?_
      rintro e w3 ⟨rfl, rfl⟩
      generalize Lb.take s.data.toList = y at *
      obtain ⟨y1, y2, y3⟩ := y
      dsimp only at B
      by_cases hy : y3 = 0
      · obtain ⟨b1, b2, b3, b4⟩ := B.out hy
        subst hy
        have PY := Lib.hid (fun w => Put_any y1 w b3)
        obtain ⟨k, rfl⟩ := Int.eq_ofNat_of_zero_le (show 0 ≤ y2 by omega)
        rw [Int.toNat_natCast] at b4
        clear B T2 HT1 P Q LS
        have b5 : k ≤ s.size := by omega
        have b6 : decide ((1 : Int) ≤ k) = true := by simpa using b1
        have b7 : decide ((k : Int) ≤ s.size) = true := by simpa using b2
        go_wp2_with fail
        refine wp_region_later (by kernel_rfl) (by kernel_rfl) ?_
        repeat (go_big_quiet_step (first | (go_at_call 8; exact later_call (PY.out _)) | (go_at_call 6; exact later_call (awake02 _))))
        refine wpQuiet_nil ?_
        intro _ hz
        obtain ⟨z, hz⟩ := hz
        subst hz
        have HF := Lib.hid (HF.out.trans z.fr)
        go_wp2_with fail
        go_ret
        exact ⟨rfl, HF.out⟩
      · have b0 : (y3 == 0) = false := by simpa using hy
        have b1 : (y3 != 0) = true := by simpa using hy
        clear B T2 HT1 P Q LS
        go_wp2_with fail
        refine wp_region_later (by kernel_rfl) (by kernel_rfl) ?_
        repeat (go_big_quiet_step ((go_at_call 6; exact later_call (awake02 _))))
        refine wpQuiet_nil ?_
        intro _ hz
        obtain ⟨z, hz⟩ := hz
        subst hz
        have HF := Lib.hid (HF.out.trans z.fr)
        go_wp2_with fail
        go_ret
        exact ⟨rfl, HF.out⟩
section
variable {H : Type} (enc : TypeId × Value → H) (W : World) (base : Nat) {v0 v1 v2 : Value} {d0 d1 d2 : DataW H} {p0 p1 p2 : List MemPlace}
theorem LebPuts_walk (h0 : DataW.Trod enc Try.prog W 0 (fun _ => true) true 3 v0 d0 p0) (h1 : DataW.Trod enc Try.prog W 0 (fun _ => true) true 22 v1 d1 p1)
    (o0 : Value.okWide Try.prog W .any base 3 v0) (o1 : Value.okWide Try.prog W .any base 22 v1) :
    Calls Try.prog 3 #[v0, v1] W fun e W' => e = .returned (.bool true) ∧ Below W.heap.size W W' := by
  obtain ⟨n, rfl, hn⟩ := arg_int Try.underlying3 o0 h0
  obtain ⟨l, hl⟩ := Ty.arg_sl (e := .int .i64) (by kernel_rfl) o1 h1
  exact (LebPuts_core n v1 l W hn (IsInts.of hl)).mono fun e W' h => ⟨h.1, h.2.below⟩
theorem LebTakes_walk (h0 : DataW.Trod enc Try.prog W 0 (fun _ => true) true 9 v0 d0 p0) (o0 : Value.okWide Try.prog W .any base 9 v0) :
    Calls Try.prog 4 #[v0] W fun e W' => e = .returned (.bool true) ∧ Below W.heap.size W W' := by
  obtain ⟨s, rfl, _⟩ := Ty.arg_str (by kernel_rfl) o0 h0
  exact (LebTakes_core s W).mono fun e W' h => ⟨h.1, h.2.below⟩
theorem LebBack_walk (h0 : DataW.Trod enc Try.prog W 0 (fun _ => true) true 3 v0 d0 p0) (h1 : DataW.Trod enc Try.prog W 0 (fun _ => true) true 3 v1 d1 p1)
    (h2 : DataW.Trod enc Try.prog W 0 (fun _ => true) true 9 v2 d2 p2) (o0 : Value.okWide Try.prog W .any base 3 v0) (o1 : Value.okWide Try.prog W .any base 3 v1)
    (o2 : Value.okWide Try.prog W .any base 9 v2) :
    Calls Try.prog 5 #[v0, v1, v2] W fun e W' => e = .returned (.bool true) ∧ Below W.heap.size W W' := by
  obtain ⟨n, rfl, hn⟩ := arg_int Try.underlying3 o0 h0
  obtain ⟨m, rfl, hm⟩ := arg_int Try.underlying3 o1 h1
  obtain ⟨s, rfl, _⟩ := Ty.arg_str (by kernel_rfl) o2 h2
  exact (LebBack_core n m s W hn hm).mono fun e W' h => ⟨h.1, h.2.below⟩
end
end Go.Proofs.Ytmhefhkccdokdaa
