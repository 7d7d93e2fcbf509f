/- Layer 2, leb.Take and its reference: what each call answers. -/
import Derived.Test.YtmhefhkccdokdaaLeb
namespace Go.Proofs.Ytmhefhkccdokdaa
open Go.RowKit
set_option linter.unusedVariables false
theorem ba_get (s : ByteArray) (k : Nat) (h : k < s.size) : s[k] = s.data.toList.getD k 0 := by
  rw [List.getD_eq_getElem?_getD, List.getElem?_eq_getElem (by simpa using h)]; rfl
theorem ba_cons (s : ByteArray) (h : 0 < s.size) : s.data.toList = s[0] :: s.data.toList.tail := by
  have hl : 0 < s.data.toList.length := by simpa using h
  cases e : s.data.toList with
  | nil => rw [e] at hl; simp at hl
  | cons c r => have := ba_get s 0 h; rw [e] at this; simp at this; rw [this]; rfl
theorem val_step (l : List UInt8) (k : Nat) (h : k < l.length) : Lb.val (l.take (k + 1)) = Lb.val (l.take k) * 256 + (l.getD k 0).toNat := by
  rw [List.take_succ_eq_append_getElem h, Lb.val_snoc]; simp [List.getD, List.getElem?_eq_getElem h]
theorem ba_tail_get (s : ByteArray) (k : Nat) (h : k + 1 < s.size) : s[k + 1] = s.data.toList.tail.getD k 0 := by
  rw [ba_get s (k + 1) h]; simp [List.getD_eq_getElem?_getD]
theorem u8_lt (c : UInt8) : (c.toNat : Int) < 256 := by have := c.toNat_lt; omega
theorem val_take_bd (l : List UInt8) (k : Nat) (hk : k ≤ 4) : 0 ≤ Lb.val (l.take k) ∧ Lb.val (l.take k) ≤ 4294967295 := by
  have h := Lb.val_bd (l.take k)
  have hl : (l.take k).length ≤ 4 := by rw [List.length_take]; omega
  have : (256 : Int) ^ (l.take k).length ≤ 256 ^ 4 := by
    generalize (l.take k).length = m at *
    rcases m with _ | _ | _ | _ | _ | m <;> first | omega | decide
  have e4 : (256 : Int) ^ 4 = 4294967296 := by decide
  omega
theorem ba_take (s : ByteArray) (n : Nat) (h : n ≤ s.size) : (s.extract 0 n).toList = s.data.toList.take n := by
  rw [ByteArray.toList_eq, ByteArray.data_extract]
  simp
theorem take_test (s : ByteArray) (h0 : 0 < s.size) (r : List UInt8) (j : Nat) (L : s.data.toList = s[0] :: r) (hk : (s[0].toNat : Int) = j + 247) (h1 : 1 ≤ j) (h4 : j ≤ 4) (hs : 1 + j ≤ s.size) :
    (Lb.put (Lb.val (r.take j)) == (s.extract 0 (1 + j)).toList) = !decide (Lb.val (r.take j) < 248 ∨ Lb.digs (Lb.val (r.take j)) < j) := by
  have hl : s.data.toList.length = s.size := by simp
  rw [L] at hl
  simp only [List.length_cons] at hl
  have e : s[0].toNat - 247 = j := by omega
  have P := Lb.put_val s[0] r (by omega) (by omega) (by omega)
  rw [e] at P
  rw [ba_take s _ hs, L, show 1 + j = j + 1 from by omega, List.take_succ_cons]
  rw [Bool.eq_iff_iff, beq_iff_eq, P]
  simp
set_option maxHeartbeats 1000000 in
set_option maxRecDepth 100000 in
theorem Take_any (s : ByteArray) (w : World) (hs : s.size ≤ 1000000) :
    Calls Try.prog 11 #[.string s] w fun e w' => e = .returned (.tuple #[.int .i64 (Lb.take s.data.toList).1, .int .i64 (Lb.take s.data.toList).2.1, .int .i64 (Lb.take s.data.toList).2.2]) ∧ w = w' := by
  have DM : Hid (∀ w, Calls Try.prog 14 #[.int .i64 4294967295] w fun e w' => e = .returned (.int .i64 4) ∧ w = w') := Lib.hid (fun w => by
    have := digits_any 4294967295 w (by omega) (by omega)
    rwa [show Lb.digs 4294967295 = 4 from by decide] at this)
  by_cases h0 : s.size = 0
  · have e : s.data.toList = [] := List.length_eq_zero_iff.1 (by simpa using h0)
    have he : s.toList.isEmpty = true := by rw [ByteArray.toList_eq, e]; rfl
    have T : Lb.take s.data.toList = (0, 0, 4) := by rw [e]; rfl
    rw [T]
    clear T e
    go_enter Try.func11, Try.ntmps11
    go_wp2_with fail
    go_ret3
    exact ⟨rfl, rfl⟩
  · have h0' : 0 < s.size := by omega
    have L := ba_cons s h0'
    have hrl : s.data.toList.tail.length + 1 = s.size := by
      have : s.data.toList.length = s.size := by simp
      rw [List.length_tail]; omega
    have he : s.toList.isEmpty = false := by rw [ByteArray.toList_eq, L]; rfl
    have hb := u8_lt s[0]
    have G := Lib.hid (fun k h => ba_tail_get s k h)
    have T : Hid (Lb.take s.data.toList = Lb.take (s[0] :: s.data.toList.tail)) := Lib.hid (by rw [← L])
    generalize s.data.toList.tail = r at *
    have HR := Lib.hid hrl
    clear L h0 hrl
    by_cases h1 : s[0].toNat < 248
    · have T1 : Hid (Lb.take s.data.toList = ((s[0].toNat : Int), 1, 0)) := Lib.hid (by rw [T.out]; simp only [Lb.take, if_pos h1])
      clear T
      have h1' : (s[0].toNat : Int) < 248 := by omega
      go_enter Try.func11, Try.ntmps11
      go_wp2_with fail
      go_ret3
      exact ⟨ret_i3 (by rw [T1.out]) (by rw [T1.out]) (by rw [T1.out]), rfl⟩
    · have h1' : (248 : Int) ≤ s[0].toNat := by omega
      by_cases h2 : 251 < s[0].toNat
      · have T1 : Hid (Lb.take s.data.toList = (0, 0, 3)) := Lib.hid (by rw [T.out]; simp only [Lb.take, if_neg h1, if_pos h2])
        have h2' : (251 : Int) < s[0].toNat := by omega
        clear T
        go_enter Try.func11, Try.ntmps11
        go_wp2_with (go_at_call 14; refine (DM.out _).mono ?_; rintro e w' ⟨rfl, rfl⟩)
        go_ret3
        exact ⟨ret_i3 (by rw [T1.out]) (by rw [T1.out]) (by rw [T1.out]), rfl⟩
      · have h2' : (s[0].toNat : Int) ≤ 251 := by omega
        by_cases h3 : r.length < s[0].toNat - 247
        · have T1 : Hid (Lb.take s.data.toList = (0, 0, 4)) := Lib.hid (by rw [T.out]; simp only [Lb.take, if_neg h1, if_neg h2, if_pos h3])
          have h3' : (s.size : Int) ≤ s[0].toNat - 247 := by have := HR.out; omega
          clear T
          go_enter Try.func11, Try.ntmps11
          go_wp2_with (go_at_call 14; refine (DM.out _).mono ?_; rintro e w' ⟨rfl, rfl⟩)
          go_ret3
          exact ⟨ret_i3 (by rw [T1.out]) (by rw [T1.out]) (by rw [T1.out]), rfl⟩
        · obtain ⟨k, hk⟩ : ∃ k : Nat, s[0].toNat = k + 247 := ⟨s[0].toNat - 247, by omega⟩
          have hk' : (s[0].toNat : Int) = k + 247 := by omega
          have T1 : Hid (Lb.take s.data.toList = if Lb.val (r.take k) < 248 ∨ Lb.digs (Lb.val (r.take k)) < k then (0, 0, 3) else (Lb.val (r.take k), 1 + (k : Int), 0)) := Lib.hid (by
            rw [T.out]; simp only [Lb.take, if_neg h1, if_neg h2, if_neg h3]; rw [hk, Nat.add_sub_cancel])
          have k1 : 1 ≤ k := by omega
          have k4 : k ≤ 4 := by omega
          have ks : (k : Int) < s.size := by have := HR.out; omega
          clear T h3 hk h1 h2 h1' h2' hb
          have hdd : decide ((k : Int) + 247 < 248) = false := by simp; omega
          have hd2 : decide ((4 : Int) < k) = false := by simp; omega
          have hd3 : decide (s.size ≤ k) = false := by simp; omega
          have hd4 : decide ((s.size : Int) ≤ k) = false := by simp; omega
          go_enter Try.func11, Try.ntmps11
          go_wp2_with (go_at_call 14; refine (DM.out _).mono ?_; rintro e w' ⟨rfl, rfl⟩)
          go_loop [7, 8] (fun n i => ∃ j : Nat, j ≤ k ∧ i = .int .i64 ((j : Int) + 1) ∧ n = .int .i64 (Lb.val (r.take j))) (fun _ i => k + 1 - (intOf i).toNat)
          case atStart => exact ⟨0, by omega, rfl, rfl⟩
          case round =>
            obtain ⟨j, hj, rfl, rfl⟩ := hrel
            have B := val_take_bd r j (by omega)
            by_cases hjk : j < k
            · have V := val_step r j (by have := HR.out; omega)
              have g := G.out j (by omega)
              have hb2 := u8_lt (s[j + 1]'(by omega))
              rw [← g] at V
              have HV := Lib.hid V
              have B3 : Lb.val (r.take j) ≤ 16777215 := by
                have := Lb.val_bd (r.take j)
                have hl : (r.take j).length ≤ 3 := by rw [List.length_take]; omega
                generalize (r.take j).length = m at *
                rcases m with _ | _ | _ | _ | m <;> first | omega | (simp at this; omega)
              clear V g
              generalize Lb.val (r.take j) = x at *
              have O := Lib.hid (or_join x _ B.1 B3 (Int.natCast_nonneg _) hb2)
              go_wp2_with fail
              go_round
              case rel => exact ⟨j + 1, by omega, by go_num, val_int (by rw [HV.out]; exact O.out)⟩
              case measure => simp [intOf]; omega
            · obtain rfl : j = k := by omega
              generalize Lb.val (r.take j) = x at *
              by_cases c1 : x < 248
              · have T2 : Hid (Lb.take s.data.toList = (0, 0, 3)) := Lib.hid (by rw [T1.out, if_pos (.inl c1)])
                clear T1
                go_wp2_with fail
                go_ret3
                exact ⟨ret_i3 (by rw [T2.out]) (by rw [T2.out]) (by rw [T2.out]), rfl⟩
              · by_cases c2 : Lb.digs x < j
                · have T2 : Hid (Lb.take s.data.toList = (0, 0, 3)) := Lib.hid (by rw [T1.out, if_pos (.inr c2)])
                  have c2' : (Lb.digs x : Int) < j := by omega
                  clear T1
                  go_wp2_with (go_at_call 14; refine (digits_any _ _ (by omega) (by omega)).mono ?_; rintro e w' ⟨rfl, rfl⟩)
                  go_ret3
                  exact ⟨ret_i3 (by rw [T2.out]) (by rw [T2.out]) (by rw [T2.out]), rfl⟩
                · have T2 : Hid (Lb.take s.data.toList = (x, 1 + (j : Int), 0)) := Lib.hid (by rw [T1.out, if_neg (by omega)])
                  have c2' : (j : Int) ≤ Lb.digs x := by omega
                  clear T1
                  go_wp2_with (go_at_call 14; refine (digits_any _ _ (by omega) (by omega)).mono ?_; rintro e w' ⟨rfl, rfl⟩)
                  go_ret3
                  exact ⟨ret_i3 (by rw [T2.out]) (by rw [T2.out]) (by rw [T2.out]), rfl⟩
set_option maxHeartbeats 1000000 in
set_option maxRecDepth 100000 in
theorem refTake_any (s : ByteArray) (w : World) (hs : s.size ≤ 1000000) :
    Calls Try.prog 12 #[.string s] w fun e w' => e = .returned (.tuple #[.int .i64 (Lb.take s.data.toList).1, .int .i64 (Lb.take s.data.toList).2.1, .int .i64 (Lb.take s.data.toList).2.2]) ∧ Fr [] w w' := by
  by_cases h0 : s.size = 0
  · have e : s.data.toList = [] := List.length_eq_zero_iff.1 (by simpa using h0)
    have he : s.toList.isEmpty = true := by rw [ByteArray.toList_eq, e]; rfl
    have T : Lb.take s.data.toList = (0, 0, 4) := by rw [e]; rfl
    rw [T]
    clear T e
    go_enter Try.func12, Try.ntmps12
    go_wp2_with fail
    go_ret3
    exact ⟨rfl, Fr.refl _ _⟩
  · have h0' : 0 < s.size := by omega
    have L := ba_cons s h0'
    have hrl : s.data.toList.tail.length + 1 = s.size := by
      have : s.data.toList.length = s.size := by simp
      rw [List.length_tail]; omega
    have he : s.toList.isEmpty = false := by rw [ByteArray.toList_eq, L]; rfl
    have hb := u8_lt s[0]
    have G := Lib.hid (fun k h => ba_tail_get s k h)
    have T : Hid (Lb.take s.data.toList = Lb.take (s[0] :: s.data.toList.tail)) := Lib.hid (by rw [← L])
    have HL := Lib.hid L
    generalize s.data.toList.tail = r at *
    have HR := Lib.hid hrl
    clear L h0 hrl
    by_cases h1 : s[0].toNat < 248
    · have T1 : Hid (Lb.take s.data.toList = ((s[0].toNat : Int), 1, 0)) := Lib.hid (by rw [T.out]; simp only [Lb.take, if_pos h1])
      clear T
      have h1' : (s[0].toNat : Int) < 248 := by omega
      go_enter Try.func12, Try.ntmps12
      go_wp2_with fail
      go_ret3
      exact ⟨ret_i3 (by rw [T1.out]) (by rw [T1.out]) (by rw [T1.out]), Fr.refl _ _⟩
    · have h1' : (248 : Int) ≤ s[0].toNat := by omega
      by_cases h2 : 251 < s[0].toNat
      · have T1 : Hid (Lb.take s.data.toList = (0, 0, 3)) := Lib.hid (by rw [T.out]; simp only [Lb.take, if_neg h1, if_pos h2])
        have h2' : (251 : Int) < s[0].toNat := by omega
        clear T
        go_enter Try.func12, Try.ntmps12
        go_wp2_with fail
        go_ret3
        exact ⟨ret_i3 (by rw [T1.out]) (by rw [T1.out]) (by rw [T1.out]), Fr.refl _ _⟩
      · have h2' : (s[0].toNat : Int) ≤ 251 := by omega
        by_cases h3 : r.length < s[0].toNat - 247
        · have T1 : Hid (Lb.take s.data.toList = (0, 0, 4)) := Lib.hid (by rw [T.out]; simp only [Lb.take, if_neg h1, if_neg h2, if_pos h3])
          have h3' : (s.size : Int) < 1 + (s[0].toNat - 247) := by have := HR.out; omega
          clear T
          go_enter Try.func12, Try.ntmps12
          go_wp2_with fail
          go_ret3
          exact ⟨ret_i3 (by rw [T1.out]) (by rw [T1.out]) (by rw [T1.out]), Fr.refl _ _⟩
        · obtain ⟨k, hk⟩ : ∃ k : Nat, s[0].toNat = k + 247 := ⟨s[0].toNat - 247, by omega⟩
          have hk' : (s[0].toNat : Int) = k + 247 := by omega
          have T1 : Hid (Lb.take s.data.toList = if Lb.val (r.take k) < 248 ∨ Lb.digs (Lb.val (r.take k)) < k then (0, 0, 3) else (Lb.val (r.take k), 1 + (k : Int), 0)) := Lib.hid (by
            rw [T.out]; simp only [Lb.take, if_neg h1, if_neg h2, if_neg h3]; rw [hk, Nat.add_sub_cancel])
          have k1 : 1 ≤ k := by omega
          have k4 : k ≤ 4 := by omega
          have ks : 1 + (k : Int) ≤ s.size := by have := HR.out; omega
          have TT : Hid ((Lb.put (Lb.val (r.take k)) == (s.extract 0 (1 + k)).toList) = !decide (Lb.val (r.take k) < 248 ∨ Lb.digs (Lb.val (r.take k)) < k)) := Lib.hid (take_test s h0' r k HL.out hk' k1 k4 (by omega))
          clear T h3 hk h1 h2 h1' h2' hb
          have hdd : decide ((k : Int) + 247 < 248) = false := by simp; omega
          have hd2 : decide ((4 : Int) < k) = false := by simp; omega
          have hd3 : decide (s.size ≤ k) = false := by simp; omega
          have hd4 : decide ((s.size : Int) ≤ k) = false := by simp; omega
          go_enter Try.func12, Try.ntmps12
          go_wp2_with fail
          go_loop [7, 8] (fun n i => ∃ j : Nat, j ≤ k ∧ i = .int .i64 ((j : Int) + 1) ∧ n = .int .i64 (Lb.val (r.take j))) (fun _ i => k + 1 - (intOf i).toNat)
          case atStart => exact ⟨0, by omega, rfl, rfl⟩
          case round =>
            obtain ⟨j, hj, rfl, rfl⟩ := hrel
            have B := val_take_bd r j (by omega)
            by_cases hjk : j < k
            · have V := val_step r j (by have := HR.out; omega)
              have g := G.out j (by omega)
              have hb2 := u8_lt (s[j + 1]'(by omega))
              rw [← g] at V
              have HV := Lib.hid V
              have B3 : Lb.val (r.take j) ≤ 16777215 := by
                have := Lb.val_bd (r.take j)
                have hl : (r.take j).length ≤ 3 := by rw [List.length_take]; omega
                generalize (r.take j).length = m at *
                rcases m with _ | _ | _ | _ | m <;> first | omega | (simp at this; omega)
              clear V g
              generalize Lb.val (r.take j) = x at *
              go_wp2_with fail
              go_round
              case rel => exact ⟨j + 1, by omega, by go_num, val_int (by rw [HV.out])⟩
              case measure => simp [intOf]; omega
            · obtain rfl : j = k := by omega
              have w1 : IntKind.i64.wrap (1 + (j : Int)) = 1 + (j : Int) := IntWalk.i64_in _ (by omega)
              have w2 : (1 + (j : Int)).toNat = 1 + j := by omega
              have w3 : 0 ≤ 1 + (j : Int) := by omega
              have w4 : 1 + j ≤ s.size := by omega
              go_wp2_with fail
              go_region_with (go_at_call 7; refine (refPut_any _ _ ⟨by omega, by omega⟩).mono ?_; rintro e w' ⟨rfl, hf⟩; have HF := Lib.hid hf; clear hf)
              all_goals go_wp2_with fail
              all_goals go_ret3
              · have ht : (!Lb.put (Lb.val (r.take j)) == (s.extract 0 (1 + j)).toList) = true := by assumption
                rw [TT.out] at ht
                have T2 : Lb.take s.data.toList = (0, 0, 3) := by rw [T1.out, if_pos (by simpa using ht)]
                exact ⟨ret_i3 (by rw [T2]) (by rw [T2]) (by rw [T2]), (Fr.refl [] w).drew.trans HF.out⟩
              · have ht : (!Lb.put (Lb.val (r.take j)) == (s.extract 0 (1 + j)).toList) = false := by assumption
                rw [TT.out] at ht
                have T2 : Lb.take s.data.toList = (Lb.val (r.take j), 1 + (j : Int), 0) := by rw [T1.out, if_neg (by simpa using ht)]
                exact ⟨ret_i3 (by rw [T2]) (by rw [T2]) (by rw [T2]), (Fr.refl [] w).drew.trans HF.out⟩
end Go.Proofs.Ytmhefhkccdokdaa
