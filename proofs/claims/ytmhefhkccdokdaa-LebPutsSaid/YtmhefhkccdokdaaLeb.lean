/- Layer 2, leb and its reference: what each call answers. -/
import Derived.Test.YtmhefhkccdokdaaLebMath
import Derived.Test.YtmhefhkccdokdaaBuilder
import Derived.Test.YtmhefhkccdokdaaRead
namespace Go.Proofs.Ytmhefhkccdokdaa
open Go.RowKit
set_option linter.unusedVariables false
theorem conv1 (W : World) (a : Addr) (n : Int) (c : Nat) (h : W.cell? a = some (.int .u8 n)) : (convert 33 9 (.slice (some a) 1 c)).run Try.prog W = .ok (.string ⟨#[Lb.u8 n]⟩) W := by
  rw [run_convert_bytes_string W _ _ 5 (some a) 1 c Try.underlying33 Try.underlying5 Try.underlying9]
  have hl := run_loadCells_list (P := Try.prog) W a ([n].map (Value.int .u8)) (fun j v hj => by
    match j, hj with
    | 0, hj => simp at hj; subst hj; simpa [Addr.add] using h)
  rw [run_bytesToString W a 1 c [n] (by simpa using hl)]
  rfl
attribute [local go_sem] conv1
theorem digits_any (n : Int) (w : World) (h : n ≤ 4294967295) (hm : -9223372036854775808 ≤ n) : Calls Try.prog 14 #[.int .i64 n] w fun e w' => e = .returned (.int .i64 (Lb.digs n)) ∧ w = w' := by
  go_enter Try.func14, Try.ntmps14
  go_wp2_with fail
  go_loop [0, 3] (fun a s => ∃ (m : Int) (k : Nat), k + Lb.digs m = Lb.digs n ∧ m ≤ 4294967295 ∧ a = .int .i64 m ∧ s = .int .i64 k) (fun a _ => (intOf a).toNat)
  case atStart => exact ⟨n, 0, by omega, h, rfl, rfl⟩
  case round =>
    obtain ⟨m, k, hk, hm, rfl, rfl⟩ := hrel
    have hd := Lb.digs_le n
    by_cases h0 : 0 < m
    · have E := Lb.digs_step m h0 hm
      have HE := Lib.hid E
      have HK := Lib.hid hk
      clear E hk
      have hk : k ≤ 4 := by have := HK.out; omega
      go_wp2_with fail
      go_round
      case rel => exact ⟨m / 256, k + 1, by have := HK.out; have := HE.out; omega, by omega, by go_num, by go_num⟩
      case measure => simp [intOf]; omega
    · have E : Lb.digs m = 0 := by unfold Lb.digs; rw [if_pos (by omega)]
      have HK : Hid (Lb.digs n = k) := Lib.hid (by omega)
      clear E hk
      go_wp2_with fail
      go_ret
      exact ⟨ret_int (by rw [HK.out]), rfl⟩
theorem Size_any (n : Int) (w : World) (h : In64 n) : Calls Try.prog 9 #[.int .i64 n] w fun e w' => e = .returned (.int .i64 (Lb.size n)) ∧ w = w' := by
  obtain ⟨h1, h2⟩ := h
  have hd := Lb.digs_le n
  go_enter Try.func9, Try.ntmps9
  go_wp2_with (go_at_call 14; refine (digits_any _ _ (by omega) (by omega)).mono ?_; rintro e w' ⟨rfl, rfl⟩)
  all_goals go_ret
  all_goals exact ⟨ret_int (by unfold Lb.size; repeat (first | rfl | rw [if_pos (by omega)] | rw [if_neg (by omega)])), rfl⟩
theorem refdigits_any : ∀ (j : Nat) (n : Int) (w : World), j ≤ 3 → 0 < n → n ≤ 4294967295 → Lb.digs n = j + 1 →
    Calls Try.prog 13 #[.int .i64 n] w fun e w' => e = .returned (.string ⟨(Lb.low (j + 1) n).toArray⟩) ∧ Fr [] w w'
  | 0, n, w, hj, h0, h1, hd => by
    have hn : n < 256 := by unfold Lb.digs at hd; repeat (split at hd <;> try omega)
    have hd' := Lib.hid hd
    clear hd
    go_enter Try.func13, Try.ntmps13
    go_wp2_with fail
    go_ret
    have e : Lb.low (0 + 1) n = [Lb.u8 n] := by simp [Lb.low]; rw [Int.emod_eq_of_lt (by omega) hn]
    exact ⟨by rw [e]; rfl, (Fr.refl [] w).alloc _⟩
  | j + 1, n, w, hj, h0, h1, hd => by
    have hn : 256 ≤ n := by
      unfold Lb.digs at hd
      split at hd
      · omega
      · split at hd <;> omega
    have ih := fun w => refdigits_any j (n / 256) w (by omega) (by omega) (by omega) (by have := Lb.digs_step n h0 h1; omega)
    have IH := Lib.hid ih
    clear ih hd
    have S := Lb.low_snoc (j + 1) n (by omega)
    have hL : (Lb.low (j + 1) (n / 256)).length ≤ 4 := by rw [Lb.low_length]; omega
    generalize Lb.low (j + 1) (n / 256) = L at *
    have HS := Lib.hid S
    clear S
    have q1 := i64_tdiv n 256 (by omega) (by omega) (by omega)
    have q2 := tmod_pos n 256 (by omega)
    have q3 := u8_in (n % 256) (by omega) (by omega)
    go_enter Try.func13, Try.ntmps13
    go_wp2_with fail
    go_region_with (go_at_call 13; refine (IH.out _).mono ?_; rintro e w1 ⟨rfl, hf⟩; have hc := hf.cells; have HF := Lib.hid hf; clear hf)
    all_goals go_wp2_with fail
    all_goals go_ret
    all_goals refine ⟨ret_str (by rw [HS.out]; exact ba_append _ _), ?_⟩
    all_goals first | exact ((Fr.refl [] w).drew.trans HF.out).alloc _ | exact (((Fr.refl [] w).drew.alloc _).trans HF.out)
set_option maxHeartbeats 400000 in
theorem refPut_any (n : Int) (w : World) (h : In64 n) : Calls Try.prog 7 #[.int .i64 n] w fun e w' => e = .returned (.string ⟨(Lb.put n).toArray⟩) ∧ Fr [] w w' := by
  obtain ⟨h1, h2⟩ := h
  by_cases hv : n < 0 ∨ 4294967295 < n
  · have E : Hid (Lb.put n = []) := Lib.hid (by unfold Lb.put; rw [if_pos hv])
    go_enter Try.func7, Try.ntmps7
    go_wp2
    all_goals first | (exfalso; omega) | (go_ret; exact ⟨by rw [E.out]; rfl, Fr.refl _ _⟩)
  · have k1 : 0 ≤ n := by omega
    have k2 : n ≤ 4294967295 := by omega
    by_cases hs : n < 248
    · have E : Hid (Lb.put n = [Lb.u8 n]) := Lib.hid (by unfold Lb.put; rw [if_neg hv, if_pos hs])
      have q3 := u8_in n (by omega) (by omega)
      clear hv
      go_enter Try.func7, Try.ntmps7
      go_wp2
      go_ret
      exact ⟨by rw [E.out]; rfl, (Fr.refl _ _).alloc _⟩
    · obtain ⟨j, hj⟩ : ∃ j, Lb.digs n = j + 1 := ⟨Lb.digs n - 1, by have := Lb.digs_pos n (by omega); omega⟩
      have hd := Lb.digs_le n
      have E : Hid (Lb.put n = [Lb.u8 (247 + ((j : Int) + 1))] ++ Lb.low (j + 1) n) := Lib.hid (by unfold Lb.put; rw [if_neg hv, if_neg hs, hj]; simp)
      have D := Lib.hid (fun w => refdigits_any j n w (by omega) (by omega) (by omega) hj)
      have hL := Lb.low_length (j + 1) n
      generalize Lb.low (j + 1) n = L at *
      have hj3 : j ≤ 3 := by omega
      clear hv hj hd
      have HL := Lib.hid hL
      have hL' : L.length ≤ 4 := by omega
      clear hL
      go_enter Try.func7, Try.ntmps7
      go_wp2_with (go_at_call 13; refine (D.out _).mono ?_; rintro e w1 ⟨rfl, hf⟩; have hc := hf.cells; have HF := Lib.hid hf; clear hf)
      go_ret
      refine ⟨ret_str ?_, HF.out.alloc _⟩
      rw [E.out, HL.out, show (247 + ((j + 1 : Nat) : Int)) = 247 + ((j : Int) + 1) from by omega]
      exact ba_append [Lb.u8 (247 + ((j : Int) + 1))] L
theorem WriteByte_int (B b : Nat) (l : List UInt8) (c : Int) (w : World) (h : IsB B b l w) (hlen : l.length + 1 ≤ 140737488355328) (hBw : B ≤ w.heap.size) (h0 : 0 ≤ c) (h1 : c < 256) :
    Calls Try.prog 15 #[.pointer (some ⟨b, 0, none⟩), .int .u8 c] w fun e w' => e = .returned .nilIface ∧ IsB B b (l ++ [Lb.u8 c]) w' ∧ Below B w w' := by
  have e := Lb.u8_toNat c h0 h1
  have := WriteByte_any B b l (Lb.u8 c) w h hlen hBw
  rwa [e] at this
set_option maxHeartbeats 1000000 in
theorem All_any (v : Value) (l : List Int) (w : World) (hv : IsInts w v l) (hlen : l.length * 5 ≤ 100000000) :
    Calls Try.prog 10 #[v] w fun e w' => e = .returned (.string ⟨(l.flatMap Lb.put).toArray⟩) ∧ Fr [] w w' := by
  have HV := Lib.hid hv
  obtain ⟨ad, cap, rfl, hlen', h64, hcells⟩ := hv
  have H64 := Lib.hid h64
  clear hcells h64
  go_enter Try.func10, Try.ntmps10
  go_wp2_with fail
  go_loopw [10] (fun i wr => ∃ k : Nat, k ≤ l.length ∧ i = .int .i64 k ∧ IsB w.heap.size w.heap.size ((l.take k).flatMap Lb.put) wr ∧ Below w.heap.size w wr) (fun i _ => l.length - (intOf i).toNat)
  case atStart => exact ⟨0, by omega, rfl, IsB.fresh w, (Below.refl _ _).alloc (Nat.le_refl _) _⟩
  case round =>
    obtain ⟨k, hk, rfl, hb, hf⟩ := hrel
    have hlt := hb.lt.1
    have HB := Lib.hid hb
    have HF := Lib.hid hf
    clear hb hf
    by_cases h : k < l.length
    · have hcell : ∃ b o, ad = some ⟨b, o, none⟩ ∧ wr.cell? ⟨b, o + k, none⟩ = some (.int .i64 (l.getD k 0)) := by
        obtain ⟨_, _, e1, _, _, hcells⟩ := HV.out
        obtain ⟨rfl, rfl⟩ : _ ∧ _ := by simpa using e1
        obtain ⟨b, o, rfl, hbb, hc⟩ := hcells (by omega)
        exact ⟨b, o, rfl, by rw [HF.out.cell (p := ⟨b, o + k, none⟩) hbb]; exact hc k h⟩
      obtain ⟨b, o, rfl, hc⟩ := hcell
      have h6 := H64.out k
      have E : Hid ((l.take (k + 1)).flatMap Lb.put = (l.take k).flatMap Lb.put ++ Lb.put (l.getD k 0)) := Lib.hid (Lb.putAll_snoc l k h)
      have hpl : ((l.take k).flatMap Lb.put).length ≤ k * 5 := by
        have := Lb.putAll_length (l.take k)
        simp at this ⊢
        omega
      have D := Lb.digs_le (l.getD k 0)
      generalize l.getD k 0 = n at *
      generalize (l.take k).flatMap Lb.put = pre at *
      clear HV H64
      have Z := fun w => Size_any n w h6
      obtain ⟨h61, h62⟩ := h6
      by_cases hv : n < 0 ∨ 4294967295 < n
      · have e1 : Lb.size n = 0 := by unfold Lb.size; rw [if_pos hv]
        have e2 : Lb.put n = [] := by unfold Lb.put; rw [if_pos hv]
        rw [e1] at Z
        rw [e2, List.append_nil] at E
        have HZ := Lib.hid Z
        clear Z e1 e2 hv
        go_wp2_with (go_at_call 9; refine (HZ.out _).mono ?_; rintro e w' ⟨rfl, rfl⟩)
        go_roundw
        case rel => exact ⟨k + 1, by omega, by go_num, by rw [E.out]; exact HB.out, HF.out⟩
        case measure => simp [intOf]; omega
      · by_cases hs : n < 248
        · have e1 : Lb.size n = 1 := by unfold Lb.size; rw [if_neg hv, if_pos hs]
          have e2 : Lb.put n = [Lb.u8 n] := by unfold Lb.put; rw [if_neg hv, if_pos hs]
          rw [e1] at Z
          rw [e2] at E
          have HZ := Lib.hid Z
          have k1 : 0 ≤ n := by omega
          clear Z e1 e2 hv
          go_wp2_with (first | (go_at_call 9; refine (HZ.out _).mono ?_; rintro e w' ⟨rfl, rfl⟩) | (go_at_call 15; refine (WriteByte_int _ _ _ _ _ HB.out (by omega) (by omega) (by omega) (by omega)).mono ?_; rintro e w1 ⟨rfl, hb1, hf1⟩; have HB1 := Lib.hid hb1; have HF1 := Lib.hid hf1; clear hb1 hf1))
          go_roundw
          case rel => exact ⟨k + 1, by omega, by go_num, by rw [E.out]; exact HB1.out, HF.out.trans HF1.out⟩
          case measure => simp [intOf]; omega
        · have k1 : 248 ≤ n := by omega
          have k2 : n ≤ 4294967295 := by omega
          have hp := Lb.digs_pos n (by omega)
          have e1 : Lb.size n = 1 + (Lb.digs n : Int) := by unfold Lb.size; rw [if_neg hv, if_neg hs]
          have e2 : Lb.put n = [Lb.u8 (247 + Lb.digs n)] ++ Lb.low (Lb.digs n) n := by unfold Lb.put; rw [if_neg hv, if_neg hs]; rfl
          rw [e1] at Z
          have P := Lib.hid e2
          generalize Lb.digs n = d at *
          have HZ := Lib.hid Z
          clear Z e1 e2 hv
          go_wp2_with (first | (go_at_call 9; refine (HZ.out _).mono ?_; rintro e w' ⟨rfl, rfl⟩) | (go_at_call 15; refine (WriteByte_int _ _ _ _ _ HB.out (by omega) (by omega) (by omega) (by omega)).mono ?_; rintro e w1 ⟨rfl, hb1, hf1⟩; have HB1 := Lib.hid hb1; have HF1 := Lib.hid hf1; clear hb1 hf1))
          have LL := Lb.low_length d n
          have hls1 := HB1.out.lt
          have W1 : Hid (([Lb.u8 (247 + (1 + ↑d) - 1)] : List UInt8) ++ Lb.low d n = Lb.put n) := Lib.hid (by rw [P.out, show (247 + (1 + (d : Int)) - 1) = 247 + (d : Int) from by omega])
          clear HB hc P
          obtain ⟨wo, rfl⟩ : ∃ wo : World, wo = wr := ⟨_, rfl⟩
          go_loopw [7] (fun s wq => ∃ (j : Nat) (wrt : List UInt8), j ≤ d ∧ s = .int .i64 (8 * (j : Int) - 8) ∧ wrt.length + j = 1 + d ∧ wrt ++ Lb.low j n = Lb.put n ∧ IsB w.heap.size w.heap.size (pre ++ wrt) wq ∧ Below w.heap.size w wq) (fun s _ => (intOf s + 8).toNat)
          case atStart => exact ⟨d, [Lb.u8 (247 + (1 + ↑d) - 1)], by omega, val_int (by omega), by simp; try omega, W1.out, HB1.out, HF.out.trans HF1.out⟩
          case round =>
            obtain ⟨j, wrt, hj, rfl, hwl, hw, hb, hf⟩ := hrel
            have hlt2 := hb.lt.1
            have HB := Lib.hid hb
            have HF := Lib.hid hf
            have HW := Lib.hid hw
            have HWL := Lib.hid hwl
            have hwl' : wrt.length ≤ 5 := by omega
            clear hb hf hw hwl W1 HB1 HF1
            by_cases hj0 : j = 0
            · subst hj0
              go_wp2_with fail
              go_roundw
              case rel =>
                refine ⟨k + 1, by omega, by go_num, ?_, HF.out⟩
                have := HW.out
                rw [show Lb.low 0 n = [] from rfl, List.append_nil] at this
                rw [E.out, ← this]; exact HB.out
              case measure => simp [intOf]; omega
            · obtain ⟨i, rfl⟩ : ∃ i, j = i + 1 := ⟨j - 1, by omega⟩
              have ep : (2 : Int) ^ (8 * (i + 1) - 8) = 256 ^ i := by
                rw [show 8 * (i + 1) - 8 = 8 * i from by omega, Int.pow_mul]; rfl
              have EP := Lib.hid ep
              clear ep
              go_wp2_with fail
              refine (WriteByte_int _ _ _ _ _ HB.out (by simp; omega) (by omega) (by omega) (by omega)).mono ?_
              rintro e w2 ⟨rfl, hb2, hf2⟩
              rw [EP.out] at hb2
              have HB2 := Lib.hid hb2
              have HF2 := Lib.hid hf2
              clear hb2 hf2
              go_wp2_with fail
              go_roundw
              case rel =>
                refine ⟨i, wrt ++ [Lb.u8 (n / 256 ^ i % 256)], by omega, val_int (by omega), by have := HWL.out; simp; omega, ?_, ?_, HF.out.trans HF2.out⟩
                · rw [← HW.out]; simp [Lb.low]
                · rw [← List.append_assoc]; exact HB2.out
              case measure => simp [intOf]; omega
    · obtain rfl : k = l.length := by omega
      have e : l.take l.length = l := List.take_length
      rw [e] at HB
      go_wp2_with fail
      refine (BString_any _ _ _ _ HB.out (by omega)).mono ?_
      rintro e w2 ⟨rfl, hf2⟩
      have HF2 := Lib.hid hf2
      clear hf2
      go_wp2_with fail
      go_ret
      exact ⟨rfl, Fr.of_below (HF.out.trans HF2.out)⟩
theorem Put_any (n : Int) (w : World) (h : In64 n) : Calls Try.prog 8 #[.int .i64 n] w fun e w' => e = .returned (.string ⟨(Lb.put n).toArray⟩) ∧ Fr [] w w' := by
  have A := All_any (.slice (some ⟨w.heap.size, 0, none⟩) 1 1) [n] (w.alloc (.cells #[.int .i64 n] 3)) ⟨_, 1, rfl, by simp, fun k => by
    rcases k with _ | k
    · exact h
    · exact ⟨by simp, by simp⟩, fun _ => ⟨w.heap.size, 0, rfl, by simp, fun k hk => by
      obtain rfl : k = 0 := by simpa using hk
      simp [World.cell?_alloc_new]⟩⟩ (by simp)
  have e : List.flatMap Lb.put [n] = Lb.put n := by simp
  rw [e] at A
  have HA := Lib.hid A
  clear A e
  go_enter Try.func8, Try.ntmps8
  go_wp2_with fail
  refine HA.out.mono ?_
  rintro e w1 ⟨rfl, hf⟩
  have HF := Lib.hid hf
  clear hf
  go_wp2_with fail
  go_ret
  exact ⟨rfl, ((Fr.refl [] w).alloc _).trans HF.out⟩
end Go.Proofs.Ytmhefhkccdokdaa
