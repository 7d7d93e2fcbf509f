/- Layer 2's laws, walked. -/
import Derived.Test.YtmhefhkccdokdaaFrame
import Derived.Test.YtmhefhkccdokdaaLebTake
namespace Go.Proofs.Ytmhefhkccdokdaa
open Go.RowKit
set_option linter.unusedVariables false
set_option maxRecDepth 100000 in
theorem awake02 (w : World) : Calls Try.prog 6 #[] w fun e w' => e = .returned (.bool true) ∧ Fr [] w w' := by
  have T := Take_any ⟨#[248, 5]⟩
  rw [show Lb.take ((⟨#[248, 5]⟩ : ByteArray).data.toList) = (0, 0, 3) from by decide] at T
  have P1 := fun w => Put_any 247 w ⟨by omega, by omega⟩
  have P2 := fun w => Put_any 248 w ⟨by omega, by omega⟩
  have P3 := fun w => Put_any 256 w ⟨by omega, by omega⟩
  rw [show Lb.put 247 = [247] from by decide] at P1
  rw [show Lb.put 248 = [248, 248] from by decide] at P2
  rw [show Lb.put 256 = [249, 1, 0] from by decide] at P3
  have HT := Lib.hid T
  have H1 := Lib.hid P1
  have H2 := Lib.hid P2
  have H3 := Lib.hid P3
  have HF := Lib.hid (Fr.refl [] w)
  clear T P1 P2 P3
  go_enter Try.func6, Try.ntmps6
  go_wp2_with fail
  refine (HT.out _ (by decide)).mono ?_
  rintro e w1 ⟨rfl, rfl⟩
  go_wp2_with fail
  refine (H1.out _).mono ?_
  rintro e w1 ⟨rfl, hf⟩
  have HF := Lib.hid (HF.out.trans hf)
  clear hf
  go_wp2_with fail
  refine (H2.out _).mono ?_
  rintro e w2 ⟨rfl, hf⟩
  have HF := Lib.hid (HF.out.trans hf)
  clear hf
  go_wp2_with fail
  refine (H3.out _).mono ?_
  rintro e w3 ⟨rfl, hf⟩
  have HF := Lib.hid (HF.out.trans hf)
  clear hf
  go_wp2_with fail
  go_ret
  exact ⟨rfl, HF.out⟩
set_option maxHeartbeats 1000000 in
theorem LebTakes_core (s : ByteArray) (w : World) : Calls Try.prog 4 #[.string s] w fun e w' => e = .returned (.bool true) ∧ Fr [] w w' := by
  have HF := Lib.hid (Fr.refl [] w)
  by_cases h : 500 < s.size
  · go_enter Try.func4, Try.ntmps4
    go_wp2_with fail
    refine (awake02 _).mono ?_
    rintro e w1 ⟨rfl, hf⟩
    have HF := Lib.hid (HF.out.trans hf)
    clear hf
    go_wp2_with fail
    go_ret
    exact ⟨rfl, HF.out⟩
  · have T := fun w => Take_any s w (by omega)
    have R := fun w => refTake_any s w (by omega)
    generalize Lb.take s.data.toList = x at *
    have HT := Lib.hid T
    have HR := Lib.hid R
    clear T R
    go_enter Try.func4, Try.ntmps4
    go_wp2_with fail
    refine (HT.out _).mono ?_
    rintro e w1 ⟨rfl, rfl⟩
    go_wp2_with fail
    refine (HR.out _).mono ?_
    rintro e w1 ⟨rfl, hf⟩
    have HF := Lib.hid (HF.out.trans hf)
    clear hf
    go_wp2_with fail
    refine (awake02 _).mono ?_
    rintro e w2 ⟨rfl, hf⟩
    have HF := Lib.hid (HF.out.trans hf)
    clear hf
    go_wp2_with fail
    go_ret
    exact ⟨rfl, HF.out⟩
set_option maxHeartbeats 1000000 in
theorem LebPuts_core (n : Int) (v : Value) (l : List Int) (w : World) (hn : In64 n) (hv : IsInts w v l) : Calls Try.prog 3 #[.int .i64 n, v] w fun e w' => e = .returned (.bool true) ∧ Fr [] w w' := by
  have HF := Lib.hid (Fr.refl [] w)
  have HV := Lib.hid hv
  obtain ⟨ad, cap, rfl, hlen', h64, hcells⟩ := hv
  have H64 := Lib.hid h64
  clear hcells h64
  by_cases h : 100 < l.length
  · go_enter Try.func3, Try.ntmps3
    go_wp2_with fail
    refine (awake02 _).mono ?_
    rintro e w1 ⟨rfl, hf⟩
    have HF := Lib.hid (HF.out.trans hf)
    clear hf
    go_wp2_with fail
    go_ret
    exact ⟨rfl, HF.out⟩
  · go_enter Try.func3, Try.ntmps3
    go_wp2_with fail
    go_loopw [5, 6] (fun s i wr => ∃ k : Nat, k ≤ l.length ∧ i = .int .i64 k ∧ s = .string ⟨((l.take k).flatMap Lb.put).toArray⟩ ∧ Fr [] w wr) (fun _ i _ => l.length - (intOf i).toNat)
    case atStart => exact ⟨0, by omega, rfl, rfl, HF.out⟩
    case round =>
      obtain ⟨k, hk, rfl, rfl, hf⟩ := hrel
      have HF := Lib.hid hf
      clear hf
      by_cases hlt : k < l.length
      · obtain ⟨_, _, e1, _, _, hcells⟩ := HV.out.keep HF.out
        obtain ⟨rfl, rfl⟩ : _ ∧ _ := by simpa using e1
        obtain ⟨b, o, rfl, hbb, hcs⟩ := hcells (by omega)
        have hc := hcs k hlt
        clear hcs
        have h6 := H64.out k
        have E : Hid ((l.take (k + 1)).flatMap Lb.put = (l.take k).flatMap Lb.put ++ Lb.put (l.getD k 0)) := Lib.hid (Lb.putAll_snoc l k hlt)
        have hpl := Lb.putAll_length (l.take k)
        have hp1 := Lb.put_len5 (l.getD k 0)
        have hp2 : (l.take k).length ≤ 100 := by rw [List.length_take]; omega
        generalize (l.take k).flatMap Lb.put = pre at *
        have hpl' : pre.length ≤ 500 := by omega
        have P := Lib.hid (fun w => refPut_any (l.getD k 0) w h6)
        generalize l.getD k 0 = x at *
        generalize Lb.put x = q at *
        clear e1 hcells hbb hpl hp2
        go_wp2_with fail
        refine (P.out _).mono ?_
        rintro e w1 ⟨rfl, hf⟩
        have HF := Lib.hid (HF.out.trans hf)
        clear hf
        go_wp2_with fail
        go_roundw
        case rel => exact ⟨k + 1, by omega, by go_num, by rw [E.out]; exact congrArg Value.string (ba_append _ _), HF.out⟩
        case measure => simp [intOf]; omega
      · obtain rfl : k = l.length := by omega
        have e : l.take l.length = l := List.take_length
        have A := Lib.hid (fun w' f => All_any _ l w' (HV.out.keep f) (by omega))
        have P := Lib.hid (fun w => Put_any n w hn)
        have R := Lib.hid (fun w => refPut_any n w hn)
        have S := Lib.hid (fun w => Size_any n w hn)
        have L := Lb.put_length n
        rw [e]
        clear e
        generalize l.flatMap Lb.put = al at *
        generalize Lb.put n = q at *
        generalize Lb.size n = z at *
        go_wp2_with fail
        refine (P.out _).mono ?_
        rintro e w1 ⟨rfl, hf⟩
        have HF := Lib.hid (HF.out.trans hf)
        clear hf
        go_wp2_with fail
        refine (R.out _).mono ?_
        rintro e w2 ⟨rfl, hf⟩
        have HF := Lib.hid (HF.out.trans hf)
        clear hf
        go_wp2_with fail
        refine (S.out _).mono ?_
        rintro e w2 ⟨rfl, rfl⟩
        go_wp2_with fail
        refine (R.out _).mono ?_
        rintro e w3 ⟨rfl, hf⟩
        have HF := Lib.hid (HF.out.trans hf)
        clear hf
        go_wp2_with fail
        refine (A.out _ HF.out).mono ?_
        rintro e w4 ⟨rfl, hf⟩
        have HF := Lib.hid (HF.out.trans hf)
        clear hf
        go_wp2_with fail
        refine (awake02 _).mono ?_
        rintro e w5 ⟨rfl, hf⟩
        have HF := Lib.hid (HF.out.trans hf)
        clear hf
        go_wp2_with fail
        go_ret
        exact ⟨rfl, HF.out⟩
end Go.Proofs.Ytmhefhkccdokdaa
