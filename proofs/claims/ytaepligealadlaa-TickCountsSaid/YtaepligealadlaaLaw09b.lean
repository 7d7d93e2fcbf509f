/- Layer 9's first law, walked. -/
import Derived.Test.YtaepligealadlaaLaw09
namespace Go.Proofs.Ytaepligealadlaa
open Go.RowKit
set_option linter.unusedVariables false
set_option maxHeartbeats 1000000 in
theorem TickCounts_core (v : Value) (a : List (Int × Int)) (p : Int) (w : World) (hv : IsPairs w v a) (hp : In64 p) :
    Calls Try.prog 3 #[v, .int .i64 p] w fun e w' => e = .returned (.bool true) ∧ Fr [] w w' := by
  have hv' := hv
  obtain ⟨ad, cap, rfl, hlen, h64, hcells⟩ := hv
  have HV := Lib.hid hv'
  have hA : ∀ k, (a.getD k (0, 0)).2 ≤ 9223372036854775807 := fun k => (h64 k).2.2
  have HA := Lib.hid hA
  clear hv' hcells h64 hA
  by_cases h50 : 50 < a.length
  · go_enter Try.func3, Try.ntmps3
    go_wp2_with (go_at_call 5; refine (awake09 _).mono ?_; rintro e w' ⟨rfl, hf⟩; have HF := Lib.hid hf; clear hf)
    go_ret
    exact ⟨rfl, HF.out⟩
  · go_enter Try.func3, Try.ntmps3
    go_wp2_with fail
    go_loopw [6, 7] (fun s i wr => ∃ k : Nat, k ≤ a.length ∧ i = .int .i64 k ∧ s = .int .i64 (Tk.sumTo (Tk.addTo a k) 7) ∧ wr.heap[w.heap.size]? = some (.cells (ints (Tk.addTo a k)) 26 (0, 0)) ∧ Fr [] w wr) (fun _ i _ => a.length - (intOf i).toNat)
    case atStart => exact ⟨0, by omega, rfl, val_int rfl, (MapKept.heap_alloc w _).1, (Fr.refl [] w).alloc _⟩
    case round =>
      obtain ⟨k, hk, rfl, rfl, hb, hf⟩ := hrel
      by_cases h : k < a.length
      · obtain ⟨_, _, e1, _, h64, hcells⟩ := HV.out.keep hf
        obtain ⟨rfl, rfl⟩ : _ ∧ _ := by simpa using e1
        obtain ⟨b, o, rfl, hbb, hc⟩ := hcells (by omega)
        obtain ⟨c1, c2⟩ := hc k h
        obtain ⟨⟨q1, q2⟩, q3, q4⟩ := h64 k
        have hg := Tk.good_addTo a HA.out k
        have hm : Tk.sumTo (Tk.addTo a k) 7 ≤ Tk.sumTo (Tk.addTo a (k + 1)) 7 := Tk.sumTo_mono (fun j => Tk.add_le hg _ _ j) 7
        have E : Hid (Tk.addTo a (k + 1) = Tk.add (Tk.addTo a k) (a.getD k (0, 0)).1 (a.getD k (0, 0)).2) := Lib.hid rfl
        have HF := Lib.hid hf
        have HB := Lib.hid hb
        clear hcells hc h64 hf hb e1
        generalize a.getD k (0, 0) = yz at *
        obtain ⟨y, z⟩ := yz
        dsimp only at c1 c2 q1 q2 q3 q4
        go_wp2_with fail
        go_region_with (go_at_call 6; refine (Add_all _ _ _ _ _ _ hg (by omega) (by exact HB.out)).mono ?_; rintro e w1 ⟨rfl, hf1, hb1⟩; have HF1 := Lib.hid hf1; have HB1 := Lib.hid hb1; clear hf1 hb1)
        all_goals
          have hg2 := Tk.good_addTo a HA.out (k + 1)
          have HB2 : Hid (w1.heap[w.heap.size]? = some (.cells (ints (Tk.addTo a (k + 1))) 26 (0, 0))) := Lib.hid (by rw [E.out]; exact HB1.out)
          have HF2 : Hid (Fr [] w w1) := Lib.hid ((HF.out.drewN 1).fresh HF1.out (by simp))
          clear HB HB1 HF HF1 E hg HV c1 c2 q1 q2 q3 q4 hbb
          generalize Tk.sumTo (Tk.addTo a k) 7 = s0 at *
          go_wp2_with (go_at_call 7; refine (Total_any _ _ _ _ hg2 HB2.out).mono ?_; rintro e w1 ⟨rfl, rfl⟩)
          go_roundw
          case rel => exact ⟨k + 1, by omega, by go_num, rfl, HB2.out, HF2.out⟩
          case measure => simp [intOf]; omega
      · obtain rfl : k = a.length := by omega
        have HF := Lib.hid hf
        have HB := Lib.hid hb
        have HW := Lib.hid (HV.out.keep hf)
        have hg := Tk.good_addTo a HA.out a.length
        have S := Lib.hid (Tk.totTo_sum a HA.out a.length 7 (by omega))
        have hof := Tk.addTo_of a HA.out
        have HO := Lib.hid hof
        clear hf hb HV hof
        go_wp2_with fail
        obtain ⟨wo, rfl⟩ : ∃ wo : World, wo = wr := ⟨_, rfl⟩
        go_loop [9, 10] (fun s i => ∃ k : Nat, k ≤ 7 ∧ i = .int .i64 k ∧ s = .int .i64 (Tk.totTo a a.length k)) (fun _ i => 7 - (intOf i).toNat)
        case atStart => exact ⟨0, by omega, rfl, rfl⟩
        case round =>
          obtain ⟨k, hk, rfl, rfl⟩ := hrel
          by_cases h : k < 7
          · have b1 := Tk.totTo_bd a a.length k
            have b2 := Tk.ofTo_bd a k a.length
            have E : Hid (Tk.totTo a a.length (k + 1) = Tk.plus (Tk.totTo a a.length k) (Tk.ofTo a k a.length)) := Lib.hid rfl
            have O := Of_any w.heap.size (Tk.addTo a a.length) 26 (k : Int) wo hg.1 HB.out
            rw [if_pos ⟨by omega, by omega⟩, Int.toNat_natCast, HO.out k (by omega) a.length] at O
            have R := refOf_any _ a (k : Int) wo HW.out
            have OO := Lib.hid O
            have RR := Lib.hid R
            clear O R
            generalize Tk.ofTo a k a.length = y at *
            generalize Tk.totTo a a.length k = x at *
            go_wp2_with (first | (go_at_call 10; refine OO.out.mono ?_; rintro e w' ⟨rfl, rfl⟩) | (go_at_call 9; refine RR.out.mono ?_; rintro e w' ⟨rfl, rfl⟩) | (go_at_call 8; refine (plus_any _ _ _ (by omega) (by omega) (by omega) (by omega)).mono ?_; rintro e w' ⟨rfl, rfl⟩))
            go_round
            case rel => exact ⟨k + 1, by omega, by go_num, by rw [E.out]⟩
            case measure => simp [intOf]; omega
          · obtain rfl : k = 7 := by omega
            have O := Of_any w.heap.size (Tk.addTo a a.length) 26 p wo hg.1 HB.out
            have eO : (if 0 ≤ p ∧ p < 7 then (Tk.addTo a a.length).getD p.toNat 0 else 0) = Tk.ofTo a p a.length := by
              by_cases c : 0 ≤ p ∧ p < 7
              · rw [if_pos c, HO.out _ (by omega)]; congr 1; omega
              · rw [if_neg c, Tk.ofTo_out a p c]
            rw [eO] at O
            have R := refOf_any _ a p wo HW.out
            have T := Total_any _ _ _ wo hg HB.out
            rw [S.out] at T
            have OO := Lib.hid O
            have RR := Lib.hid R
            have TT := Lib.hid T
            clear O R T eO
            generalize Tk.ofTo a p a.length = y at *
            generalize Tk.totTo a a.length 7 = x at *
            go_wp2_with fail
            refine (Add_nil _ _ _).mono ?_
            rintro e w' ⟨rfl, rfl⟩
            go_wp2_with fail
            refine OO.out.mono ?_
            rintro e w' ⟨rfl, rfl⟩
            go_wp2_with fail
            refine RR.out.mono ?_
            rintro e w' ⟨rfl, rfl⟩
            go_wp2_with fail
            refine TT.out.mono ?_
            rintro e w' ⟨rfl, rfl⟩
            go_wp2_with fail
            refine (Of_nil _ _).mono ?_
            rintro e w' ⟨rfl, rfl⟩
            go_wp2_with fail
            refine (Total_nil _).mono ?_
            rintro e w' ⟨rfl, rfl⟩
            go_wp2_with fail
            refine (awake09 _).mono ?_
            rintro e w' ⟨rfl, hf⟩
            have HF1 := Lib.hid hf
            clear hf
            go_wp2_with fail
            go_ret
            exact ⟨rfl, HF.out.trans HF1.out⟩
theorem TickCounts_walk {H : Type} (enc : TypeId × Value → H) (W : World) (base : Nat) {v0 v1 : Value} {d0 d1 : DataW H} {p0 p1 : List MemPlace}
    (h0 : DataW.Trod enc Try.prog W 0 (fun _ => true) true 22 v0 d0 p0) (h1 : DataW.Trod enc Try.prog W 0 (fun _ => true) true 3 v1 d1 p1)
    (o0 : Value.okWide Try.prog W .any base 22 v0) (o1 : Value.okWide Try.prog W .any base 3 v1) :
    Calls Try.prog 3 #[v0, v1] W fun e W' => e = .returned (.bool true) ∧ Below W.heap.size W W' := by
  obtain ⟨l, hl⟩ := Ty.arg_sl (e := Ty.pair) (by kernel_rfl) o0 h0
  obtain ⟨n, rfl, hn⟩ := arg_int Try.underlying3 o1 h1
  exact (TickCounts_core v0 _ n W (IsPairs.of hl) hn).mono fun e W' h => ⟨h.1, h.2.below⟩
end Go.Proofs.Ytaepligealadlaa
