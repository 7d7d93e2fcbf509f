/- 'easement/easementlaw04.SparsePlays' returns true for every input, and each argument reads afterwards as it read before: the row's frame round the walk. -/
import Derived.Test.YtnabpifledhhcaaZ4
namespace Go.Proofs.Ytnabpifledhhcaa
open Go.RowKit
set_option linter.unusedVariables false
set_option linter.unusedSimpArgs false
set_option linter.unnecessarySimpa false
theorem rfHas {s : Int} {L : List Int} (hL : L.length ≤ 9000000) (i : Int) : fn_ref03_Has (s, L) i = some (rHas L i) := by
  unfold fn_ref03_Has
  rw [loop_some L (fun x => decide (x = i)) (.inr true) (.inl ()) (fun k hk => ?_) ?_]
  · have e : L.any (fun x => decide (x = i)) = rHas L i := by
      unfold rHas
      rw [Bool.eq_iff_iff]
      simp
    rw [e]
    cases rHas L i <;> rfl
  · unfold fn_ref03_Has_l1
    simp
  · unfold fn_ref03_Has_l1
    simp only [dlt hk, cond_true, getN hk, Option.bind_some, w64s hk (by omega)]
    by_cases h : L[k] = i <;> simp [h]
theorem rfAdd {s : Int} {L : List Int} (hL : L.length ≤ 9000000) (i : Int) : fn_ref03_Add (s, L) i = some (s, rAdd s L i, rAddOk s L i) := by
  have hcond : (cond ((decide (i < 0)) || (decide (s ≤ i))) (some (true)) ((fn_ref03_Has (s, L) i).bind fun t1352 => some (t1352))) = some (!rAddOk s L i) := by
    rw [rfHas hL]
    unfold rAddOk rHas
    by_cases h1 : i < 0
    · have h2 : ¬ 0 ≤ i := by omega
      simp [h1, h2]
    · by_cases h2 : s ≤ i
      · have h3 : ¬ i < s := by omega
        simp [h1, h2, h3]
      · have h3 : i < s := by omega
        have h4 : 0 ≤ i := by omega
        simp [h1, h2, h3, h4]
  unfold fn_ref03_Add
  dsimp only
  rw [hcond]
  simp only [Option.bind_some]
  cases ho : rAddOk s L i with
  | false =>
    have : ¬ ((0 ≤ i ∧ i < s) ∧ i ∉ L) := of_decide_eq_false ho
    unfold rAdd
    rw [if_neg this]
    rfl
  | true =>
    have hh : (0 ≤ i ∧ i < s) ∧ i ∉ L := of_decide_eq_true ho
    have he : rAdd s L i = ins i L := by unfold rAdd; rw [if_pos hh]
    have key := loop_inv (body := fn_ref03_Add_l1 (s, L) i) (fun q => ∃ k : Nat, k ≤ L.length ∧ q.2.2 = (k : Int) ∧ q.1.length ≤ k + (if q.2.1 then 1 else 0) ∧ (if q.2.1 then q.1 ++ L.drop k else q.1 ++ ins i (L.drop k)) = ins i L) (fun q => L.length - q.2.2.toNat)
      (Q := fun r => r.1.length ≤ L.length + 1 ∧ (if r.2 then r.1 else r.1 ++ [i]) = ins i L) ?_ (s := (([] : List Int), false, (0 : Int))) ⟨0, Nat.zero_le _, rfl, Nat.zero_le _, by simp⟩
    · obtain ⟨⟨l, t⟩, hlp, q1, q2⟩ := key
      rw [hlp]
      simp only [Bool.not_true, cond_false, Option.bind_some]
      have ha : app l [i] = some (l ++ [i]) := app_eq (by simp at q1 ⊢; omega)
      cases t with
      | true => simp only [if_true] at q2; rw [he, ← q2]; rfl
      | false => simp only [Bool.false_eq_true, if_false] at q2; rw [he, ← q2]; simp [ha]
    · rintro ⟨l, t, j⟩ ⟨k, hk, rfl, hl, hv⟩
      dsimp only at hl hv ⊢
      unfold fn_ref03_Add_l1
      by_cases hkl : k < L.length
      · left
        have hd : L.drop k = L[k] :: L.drop (k + 1) := List.drop_eq_getElem_cons hkl
        rw [hd] at hv
        simp only [dlt hkl, cond_true, getN hkl, Option.bind_some, w64s hkl (by omega)]
        cases t with
        | true =>
          simp only [if_true] at hv
          have ha : app l [L[k]] = some (l ++ [L[k]]) := app_eq (by simp at hl ⊢; omega)
          refine ⟨(l ++ [L[k]], true, ((k + 1 : Nat) : Int)), by simp [ha], ⟨k + 1, by omega, rfl, by simp at hl ⊢; omega, ?_⟩, ?_⟩
          · simp only [if_true]; rw [← hv]; simp
          · show L.length - ((k + 1 : Nat) : Int).toNat < L.length - ((k : Nat) : Int).toNat
            rw [Int.toNat_natCast, Int.toNat_natCast]; omega
        | false =>
          simp only [Bool.false_eq_true, if_false] at hv
          rw [ins_cons] at hv
          by_cases hx : i < L[k]
          · rw [if_pos hx] at hv
            have ha : app l [i] = some (l ++ [i]) := app_eq (by simp at hl ⊢; omega)
            have ha2 : app (l ++ [i]) [L[k]] = some (l ++ [i] ++ [L[k]]) := app_eq (by simp at hl ⊢; omega)
            refine ⟨(l ++ [i] ++ [L[k]], true, ((k + 1 : Nat) : Int)), by simp [hx, ha, ha2], ⟨k + 1, by omega, rfl, ?_, ?_⟩, ?_⟩
            · simp at hl ⊢; omega
            · simp only [if_true]; rw [← hv]; simp
            · show L.length - ((k + 1 : Nat) : Int).toNat < L.length - ((k : Nat) : Int).toNat
              rw [Int.toNat_natCast, Int.toNat_natCast]; omega
          · rw [if_neg hx] at hv
            have ha : app l [L[k]] = some (l ++ [L[k]]) := app_eq (by simp at hl ⊢; omega)
            refine ⟨(l ++ [L[k]], false, ((k + 1 : Nat) : Int)), by simp [hx, ha], ⟨k + 1, by omega, rfl, by simp at hl ⊢; omega, ?_⟩, ?_⟩
            · simp only [Bool.false_eq_true, if_false]; rw [← hv]; simp
            · show L.length - ((k + 1 : Nat) : Int).toNat < L.length - ((k : Nat) : Int).toNat
              rw [Int.toNat_natCast, Int.toNat_natCast]; omega
      · right
        have e : k = L.length := by omega
        subst e
        refine ⟨(l, t), by simp, by cases t <;> simp at hl ⊢ <;> omega, ?_⟩
        cases t with
        | true => simpa using hv
        | false => simpa [ins] using hv
theorem rfDel {s : Int} {L : List Int} (hL : L.length ≤ 9000000) (i : Int) : fn_ref03_Del (s, L) i = some (s, rDel L i, decide ((rDel L i).length < L.length)) := by
  have hlp : loop (fn_ref03_Del_l1 (s, L) i) (([] : List Int), (0 : Int)) = some (rDel L i) := by
    have := loop_nat (body := fn_ref03_Del_l1 (s, L) i) (fun k : Nat => (rDel (L.take k) i, (k : Int))) L.length (b := rDel L i) ?_ ?_
    · exact this
    · intro k hk
      unfold fn_ref03_Del_l1
      have hle : (rDel (L.take k) i).length ≤ k := by
        have := List.length_filter_le (fun x => !decide (x = i)) (L.take k)
        unfold rDel
        simp at this ⊢
        omega
      have ha : app (rDel (L.take k) i) [L[k]] = some (rDel (L.take k) i ++ [L[k]]) := app_eq (by simp; omega)
      have e : rDel (L.take (k + 1)) i = rDel (L.take k) i ++ (if L[k] = i then [] else [L[k]]) := by
        unfold rDel
        rw [take_snoc hk, List.filter_append]
        by_cases h : L[k] = i <;> simp [h]
      simp only [dlt hk, cond_true, getN hk, Option.bind_some, w64s hk (by omega), ha, e]
      by_cases h : L[k] = i <;> simp [h]
    · unfold fn_ref03_Del_l1
      simp
  unfold fn_ref03_Del
  rw [hlp]
  simp
theorem rfOr {s t : Int} {L l : List Int} (hL : L.length ≤ 4000000) (hl : l.length ≤ 4000000) : fn_ref03_Or (s, L) (t, l) = some (s, if s = t then (rOr s L l).1 else L, decide (s = t) && (rOr s L l).2) := by
  have hlp : loop (fn_ref03_Or_l1 (t, l)) (false, (0 : Int), s, L) = some ((rOr s L l).2, s, (rOr s L l).1) := by
    have := loop_nat (body := fn_ref03_Or_l1 (t, l)) (fun k : Nat => ((rOr s L (l.take k)).2, (k : Int), s, (rOr s L (l.take k)).1)) l.length (b := ((rOr s L l).2, s, (rOr s L l).1)) ?_ ?_
    · simpa [rOr] using this
    · intro k hk
      unfold fn_ref03_Or_l1
      have hle := rOr_len s (l.take k) L
      have h2 : (l.take k).length ≤ k := by simp; omega
      simp only [dlt hk, cond_true, getN hk, Option.bind_some, w64s hk (by omega), rfAdd (s := s) (L := (rOr s L (l.take k)).1) (by omega), agr_self]
      rw [take_snoc hk, rOr_snoc]
    · unfold fn_ref03_Or_l1
      simp
  unfold fn_ref03_Or
  dsimp only
  rw [hlp]
  by_cases h : s = t <;> simp [h]
theorem rfSame {A B : List Int} (hA : A.length ≤ 9000000) : fn_ref01_Same A B = some (decide (A = B)) := by
  unfold fn_ref01_Same
  by_cases hl : A.length = B.length
  · rw [loop_alike A B (.inr false) (.inl ()) hl (fun k hk => ?_) ?_]
    · rw [dlen hl]
      by_cases h : A = B <;> simp [h]
    · unfold fn_ref01_Same_l1
      simp
    · unfold fn_ref01_Same_l1
      have hk2 : k < B.length := by omega
      simp only [dlt hk, cond_true, getN hk, getN hk2, Option.bind_some, w64s hk (by omega)]
      by_cases h : A[k] = B[k] <;> simp [h]
  · rw [dlen' hl]
    have : A ≠ B := fun e => hl (by rw [e])
    simp [this]
end Go.Proofs.Ytnabpifledhhcaa
namespace Go.Proofs.Ytnabpifledhhcaa
open Go.RowKit
set_option linter.unusedVariables false
set_option linter.unusedSimpArgs false
set_option linter.unnecessarySimpa false
theorem awake_of : ofS [5, 1, 5, -2] = [1, 5] := by
  refine strict_eq (cp_lt _) (by simp) fun x => ?_
  rw [ofS_mem]
  simp
  omega
theorem sp15 : Sp [1, 5] := ⟨by simp, fun x hx => by simp at hx; omega, by decide⟩
theorem awake04 : fn_law04_awake = some true := by
  unfold fn_law04_awake
  rw [Of_some (by decide), awake_of]
  simp only [Option.bind_some]
  have a1 : fn_sparse_Set_At (some [1, 5]) 1 = some (5, true) := At_nat (L := [1, 5]) 1
  have a2 : fn_sparse_Set_Rank (some [1, 5]) 5 = some 1 := sp15.rank 5
  rw [a1]
  simp only [Option.bind_some, List_some sp15, rfSame (A := [1, 5]) (B := [1, 5]) (by decide), a2]
  rfl
/-- How many there are together. -/
theorem un_count {L M : List Int} (hL : Sp L) (hM : Sp M) : (un L M).length + (L.filter (fun x => decide (x ∈ M))).length = L.length + M.length := by
  have nd : ∀ {A : List Int}, A.Pairwise (· < ·) → A.Nodup := fun h => h.imp (fun h => by omega)
  have hdis : (L ++ M.filter (fun x => !decide (x ∈ L))).Nodup := by
    rw [List.nodup_append]
    refine ⟨nd hL.rs, (nd hM.rs).filter _, fun a ha b hb => ?_⟩
    rw [List.mem_filter] at hb
    rintro rfl
    simp [ha] at hb
  have hperm : (un L M).Perm (L ++ M.filter (fun x => !decide (x ∈ L))) := by
    rw [List.perm_ext_iff_of_nodup (nd (un_rs M hL.rs)) hdis]
    intro a
    rw [un_mem hM, List.mem_append, List.mem_filter]
    by_cases ha : a ∈ L <;> simp [ha]
  have h1 := hperm.length_eq
  have h2 : L.filter (fun x => decide (x ∈ M)) = M.filter (fun x => decide (x ∈ L)) := by
    refine strict_eq (List.Pairwise.filter _ hL.rs) (List.Pairwise.filter _ hM.rs) fun x => ?_
    rw [List.mem_filter, List.mem_filter, decide_eq_true_eq, decide_eq_true_eq]
    exact ⟨fun h => ⟨h.2, h.1⟩, fun h => ⟨h.2, h.1⟩⟩
  have h3 : ∀ A : List Int, (A.filter (fun x => !decide (x ∈ L))).length + (A.filter (fun x => decide (x ∈ L))).length = A.length := fun A => by
    induction A with
    | nil => rfl
    | cons a A ih => by_cases ha : a ∈ L <;> simp [ha] <;> omega
  have h4 := h3 M
  rw [h1, h2, List.length_append]
  omega
theorem rfOf {xa : List Int} (h : xa.length ≤ 1000000) : fn_ref04_Of xa = some (ofS xa) := by
  have hlp : loop (fn_ref04_Of_l1 xa) ((0 : Int), (2147483648 : Int), ([] : List Int)) = some (2147483648, (rOr 2147483648 [] xa).1) := by
    have := loop_nat (body := fn_ref04_Of_l1 xa) (fun k : Nat => ((k : Int), (2147483648 : Int), (rOr 2147483648 [] (xa.take k)).1)) xa.length (b := (2147483648, (rOr 2147483648 [] xa).1)) ?_ ?_
    · simpa [rOr] using this
    · intro k hk
      unfold fn_ref04_Of_l1
      have hle := rOr_len 2147483648 (xa.take k) []
      have h2 : (xa.take k).length ≤ k := by simp; omega
      have h3 : (rOr 2147483648 [] (xa.take k)).1.length ≤ 9000000 := by simp at hle; omega
      simp only [dlt hk, cond_true, getN hk, Option.bind_some, w64s hk (by omega), rfAdd h3, agr_self]
      rw [take_snoc hk, rOr_snoc]
    · unfold fn_ref04_Of_l1
      simp
  unfold fn_ref04_Of
  rw [hlp]
  simp only [Option.bind_some]
  congr 1
  refine strict_eq (rOr_rs _ _ _ List.Pairwise.nil) (cp_lt _) fun x => ?_
  rw [rOr_mem, ofS_mem]
  constructor
  · rintro (h | h)
    · cases h
    · exact ⟨h.1, h.2.1, by omega⟩
  · rintro ⟨h1, h2, h3⟩
    exact .inr ⟨h1, h2, by omega⟩
theorem rfHas4 {L : List Int} (h : L.length ≤ 9000000) (i : Int) : fn_ref04_Has L i = some (decide (i ∈ L)) := by
  unfold fn_ref04_Has
  rw [rfHas h]
  rfl
theorem rfRank {L : List Int} (h : L.length ≤ 9000000) (i : Int) : fn_ref04_Rank L i = some ((rk L i : Nat) : Int) := by
  have hlp : loop (fn_ref04_Rank_l1 L i) ((0 : Int), (0 : Int)) = some ((rk L i : Nat) : Int) := by
    have := loop_nat (body := fn_ref04_Rank_l1 L i) (fun k : Nat => (((rk (L.take k) i : Nat) : Int), (k : Int))) L.length (b := ((rk L i : Nat) : Int)) ?_ ?_
    · exact this
    · intro k hk
      unfold fn_ref04_Rank_l1
      have hle := rk_le (L.take k) i
      have h2 : (L.take k).length ≤ k := by simp; omega
      have e : rk (L.take (k + 1)) i = rk (L.take k) i + (if L[k] < i then 1 else 0) := by
        unfold rk
        rw [take_snoc hk, List.filter_append, List.length_append]
        by_cases hx : L[k] < i <;> simp [hx]
      simp only [dlt hk, cond_true, getN hk, Option.bind_some, w64s hk (by omega), e]
      by_cases hx : L[k] < i
      · rw [decide_eq_true hx, if_pos hx, cond_true, w64 (by omega) (by omega)]
        rfl
      · rw [decide_eq_false hx, if_neg hx]
        rfl
    · unfold fn_ref04_Rank_l1
      simp
  unfold fn_ref04_Rank
  rw [hlp]
  rfl
theorem rfMeet {L M : List Int} (h : L.length ≤ 9000000) (h' : M.length ≤ 9000000) : fn_ref04_Meet L M = some (L.filter (fun x => decide (x ∈ M))) := by
  have hlp : loop (fn_ref04_Meet_l1 L M) (([] : List Int), (0 : Int)) = some (L.filter (fun x => decide (x ∈ M))) := by
    have := loop_nat (body := fn_ref04_Meet_l1 L M) (fun k : Nat => ((L.take k).filter (fun x => decide (x ∈ M)), (k : Int))) L.length (b := L.filter (fun x => decide (x ∈ M))) ?_ ?_
    · exact this
    · intro k hk
      unfold fn_ref04_Meet_l1
      have hle := List.length_filter_le (fun x => decide (x ∈ M)) (L.take k)
      have ha : app ((L.take k).filter (fun x => decide (x ∈ M))) [L[k]] = some ((L.take k).filter (fun x => decide (x ∈ M)) ++ [L[k]]) := app_eq (by simp at hle ⊢; omega)
      have e : (L.take (k + 1)).filter (fun x => decide (x ∈ M)) = (L.take k).filter (fun x => decide (x ∈ M)) ++ (if L[k] ∈ M then [L[k]] else []) := by
        rw [take_snoc hk, List.filter_append]
        by_cases hm : L[k] ∈ M <;> simp [hm]
      simp only [dlt hk, cond_true, getN hk, Option.bind_some, w64s hk (by omega), rfHas4 h', ha, e]
      by_cases hm : L[k] ∈ M
      · rw [decide_eq_true hm, if_pos hm]; rfl
      · rw [decide_eq_false hm, if_neg hm]; simp
    · unfold fn_ref04_Meet_l1
      simp
  unfold fn_ref04_Meet
  rw [hlp]
  rfl
theorem sub_len {A B : List Int} (hA : A.Pairwise (· < ·)) (hB : B.Pairwise (· < ·)) (h : ∀ x ∈ A, x ∈ B) : A.length ≤ B.length := by
  have e : B.filter (fun x => decide (x ∈ A)) = A := by
    refine strict_eq (List.Pairwise.filter _ hB) hA fun x => ?_
    rw [List.mem_filter, decide_eq_true_eq]
    exact ⟨fun h => h.2, fun hx => ⟨h x hx, hx⟩⟩
  rw [← e]
  exact List.length_filter_le _ _
/-- All that both may have. -/
def Wb (n : Nat) (L M : List Int) : Prop := ∃ W : List Int, W.Pairwise (· < ·) ∧ W.length ≤ n ∧ (∀ x ∈ L, x ∈ W) ∧ ∀ x ∈ M, x ∈ W
/-- One act, on both sides. -/
theorem Do_sim {n : Nat} {L M : List Int} (hL : Sp L) (hM : Sp M) (hW : Wb n L M) (hn : n ≤ 1000) (a : Int × Int) :
    ∃ L1 M1 ok, fn_ref03_Do ((2147483648 : Int), L) ((2147483648 : Int), M) a = some ((2147483648 : Int), L1, (2147483648 : Int), M1, ok) ∧ fn_law04_does_p0p1a_r_r a L M = some (ok, L1, M1) ∧ Sp L1 ∧ Sp M1 ∧ Wb (n + 1) L1 M1 := by
  obtain ⟨W, w1, w2, w3, w4⟩ := hW
  have b1 := sub_len hL.rs w1 w3
  have b2 := sub_len hM.rs w1 w4
  obtain ⟨a1, a2⟩ := Add_some hL a.2 (by omega)
  obtain ⟨a3, a4⟩ := Del_some hL a.2
  obtain ⟨a5, a6⟩ := Add_some hM a.2 (by omega)
  obtain ⟨a7, a8⟩ := Del_some hM a.2
  obtain ⟨a9, a10⟩ := Or_some hL hM (by omega)
  obtain ⟨a11, a12⟩ := Or_some hM hL (by omega)
  have wl := rAdd_len 2147483648 W a.2
  have wadd : ∀ A : List Int, (∀ x ∈ A, x ∈ W) → ∀ x ∈ rAdd 2147483648 A a.2, x ∈ rAdd 2147483648 W a.2 := fun A hA x hx => by
    rw [rAdd_mem] at hx ⊢
    exact hx.imp (hA x) id
  have wkeep : ∀ A : List Int, (∀ x ∈ A, x ∈ W) → ∀ x ∈ A, x ∈ rAdd 2147483648 W a.2 := fun A hA x hx => (rAdd_mem _ _).2 (.inl (hA x hx))
  have wdel : ∀ A : List Int, (∀ x ∈ A, x ∈ W) → ∀ x ∈ rDel A a.2, x ∈ W := fun A hA x hx => hA x (List.mem_filter.1 hx).1
  have e1 : (rOr 2147483648 L M).1 = un L M := rfl
  have e2 : (rOr 2147483648 M L).1 = un M L := rfl
  unfold fn_ref03_Do fn_law04_does_p0p1a_r_r
  dsimp only
  rw [rfAdd (by omega), rfAdd (by omega), rfDel (by omega), rfDel (by omega), rfOr (by omega) (by omega), rfOr (by omega) (by omega), a1, a3, a5, a7, a9, a11]
  simp only [Option.bind_some, rDel_len, if_true, e1, e2, decide_true, Bool.true_and]
  by_cases h0 : a.1 = 0
  · rw [decide_eq_true h0]; exact ⟨_, _, _, rfl, rfl, a2, hM, _, rAdd_rs w1 _, by omega, wadd L w3, wkeep M w4⟩
  by_cases h1 : a.1 = 1
  · rw [decide_eq_false h0, decide_eq_true h1]; exact ⟨_, _, _, rfl, rfl, a4, hM, W, w1, by omega, wdel L w3, w4⟩
  by_cases h2 : a.1 = 2
  · rw [decide_eq_false h0, decide_eq_false h1, decide_eq_true h2]; exact ⟨_, _, _, rfl, rfl, hL, a6, _, rAdd_rs w1 _, by omega, wkeep L w3, wadd M w4⟩
  by_cases h3 : a.1 = 3
  · rw [decide_eq_false h0, decide_eq_false h1, decide_eq_false h2, decide_eq_true h3]; exact ⟨_, _, _, rfl, rfl, hL, a8, W, w1, by omega, w3, wdel M w4⟩
  by_cases h4 : a.1 = 4
  · rw [decide_eq_false h0, decide_eq_false h1, decide_eq_false h2, decide_eq_false h3, decide_eq_true h4]
    refine ⟨_, _, _, rfl, rfl, a10, hM, W, w1, by omega, fun x hx => ?_, w4⟩
    exact ((un_mem hM x).1 hx).elim (w3 x) (w4 x)
  by_cases h5 : a.1 = 5
  · rw [decide_eq_false h0, decide_eq_false h1, decide_eq_false h2, decide_eq_false h3, decide_eq_false h4, decide_eq_true h5]
    refine ⟨_, _, _, rfl, rfl, hL, a12, W, w1, by omega, w3, fun x hx => ?_⟩
    exact ((un_mem hL x).1 hx).elim (w4 x) (w3 x)
  · rw [decide_eq_false h0, decide_eq_false h1, decide_eq_false h2, decide_eq_false h3, decide_eq_false h4, decide_eq_false h5]; exact ⟨_, _, _, rfl, rfl, hL, hM, W, w1, by omega, w3, w4⟩
theorem SparsePlays_true (xa : (List Int)) (xb : (List Int)) (xc : (List (Int × Int))) (xd : Int) (k0 : Tp.Ok (.sl (.int .i64)) xa) (k1 : Tp.Ok (.sl (.int .i64)) xb) (k2 : Tp.Ok (.sl (.cons (.int .i64) (.one (.int .i64)))) xc) (k3 : Tp.Ok (.int .i64) xd) : fn_law04_SparsePlays xa xb xc xd = some true := by
  unfold fn_law04_SparsePlays
  rw [awake04]
  by_cases hg : (((decide (30 < (((xc.length : Nat) : Int)))) || (decide (30 < (((xa.length : Nat) : Int))))) || (decide (30 < (((xb.length : Nat) : Int))))) = true
  · rw [hg]; rfl
  · rw [Bool.eq_false_iff.2 hg]
    simp only [Bool.or_eq_true, decide_eq_true_eq, not_or] at hg
    obtain ⟨⟨g1, g2⟩, g3⟩ := hg
    rw [cond_false, Of_some (by omega), Of_some (by omega), rfOf (by omega), rfOf (by omega)]
    have hA := ofS_sp (xa := xa) (by omega)
    have hB := ofS_sp (xa := xb) (by omega)
    have la := ofS_len xa
    have lb := ofS_len xb
    generalize ofS xa = A at *
    generalize ofS xb = B at *
    have hW : Wb 60 A B := ⟨un A B, un_rs B hA.rs, Nat.le_trans (un_len A B) (by omega), fun x hx => (un_mem hB x).2 (.inl hx), fun x hx => (un_mem hB x).2 (.inr hx)⟩
    have hlp : loop (fn_law04_SparsePlays_l1 xc xd) ((0 : Int), A, B, (2147483648 : Int), A, (2147483648 : Int), B) = some (.inl ()) := by
      refine loop_val (fun s => ∃ (k : Nat) (L M : List Int), k ≤ xc.length ∧ s = ((k : Int), L, M, (2147483648 : Int), L, (2147483648 : Int), M) ∧ Sp L ∧ Sp M ∧ Wb (60 + k) L M) (fun s => xc.length - s.1.toNat) ?_ ⟨0, A, B, Nat.zero_le _, rfl, hA, hB, hW⟩
      rintro s ⟨k, L, M, hk, rfl, r1, r2, r3⟩
      unfold fn_law04_SparsePlays_l1
      by_cases hkl : k < xc.length
      · left
        obtain ⟨L1, M1, ok, d1, d2, d3, d4, d5⟩ := Do_sim r1 r2 r3 (by omega) xc[k]
        have c1 := d3.ln
        have c2 := d4.ln
        refine ⟨(((k + 1 : Nat) : Int), L1, M1, (2147483648 : Int), L1, (2147483648 : Int), M1), ?_, ⟨k + 1, L1, M1, by omega, rfl, d3, d4, d5⟩, ?_⟩
        · have hfl := List.length_filter_le (fun x => decide (x ∈ M1)) L1
          simp only [dlt hkl, cond_true, getN hkl, Option.bind_some, d1, d2, agr_self, beq_self_eq_true, Bool.not_true, cond_false, List_some d3, List_some d4, rfSame (A := L1) (B := L1) (by omega), rfSame (A := M1) (B := M1) (by omega), decide_true, show fn_sparse_Set_Len (some L1) = some ((L1.length : Nat) : Int) from rfl, d3.has, rfHas4 (L := L1) (by omega), d3.rank, rfRank (L := L1) (by omega), Meet_some d3 d4, rfMeet (L := L1) (M := M1) (by omega) (by omega), rfSame (A := L1.filter (fun x => decide (x ∈ M1))) (B := L1.filter (fun x => decide (x ∈ M1))) (by omega), w64s hkl (by omega)]
        · show xc.length - ((k + 1 : Nat) : Int).toNat < xc.length - ((k : Nat) : Int).toNat
          rw [Int.toNat_natCast, Int.toNat_natCast]; omega
      · right
        simp only [dge hkl, cond_false]
    simp only [Option.bind_some, List_some hA, List_some hB, rfSame (A := A) (B := A) (by omega), rfSame (A := B) (B := B) (by omega), decide_true, Bool.not_true, cond_false, hlp]
theorem SparseNone_true (xa : Int) (xb : (List Int)) (k0 : Tp.Ok (.int .i64) xa) (k1 : Tp.Ok (.sl (.int .i64)) xb) : fn_law04_SparseNone xa xb = some true := by
  unfold fn_law04_SparseNone
  rw [awake04]
  by_cases hg : 60 < ((xb.length : Nat) : Int)
  · rw [decide_eq_true hg]; rfl
  · rw [decide_eq_false hg, cond_false, Of_some (by omega)]
    have hB := ofS_sp (xa := xb) (by omega)
    generalize ofS xb = B at *
    have atn : ∀ i : Int, fn_sparse_Set_At none i = some (0, false) := fun i => by
      unfold fn_sparse_Set_At
      rw [show fn_sparse_Set_Len none = some 0 from rfl]
      by_cases h : i < 0
      · simp [h]
      · have h2 : 0 ≤ i := by omega
        simp [h, h2]
    have rkn : ∀ i : Int, fn_sparse_Set_Rank none i = some 0 := fun i => rfl
    have hasn : ∀ i : Int, fn_sparse_Set_Has none i = some false := fun i => by
      unfold fn_sparse_Set_Has
      rw [rkn]
      simp only [Option.bind_some, atn, Bool.false_and]
    have deln : fn_sparse_Set_Del_zi xa = some false := by
      unfold fn_sparse_Set_Del_zi
      rw [hasn]
      rfl
    have listn : fn_sparse_Set_List_z = some [] := by
      unfold fn_sparse_Set_List_z
      rw [show fn_sparse_Set_All_z = some () from rfl]
      simp only [Option.bind_some, atn]
      rw [loop_end (b := []) (by rfl)]
      rfl
    have meetn : fn_sparse_Meet_zp0_r B = some ([], B) := by
      unfold fn_sparse_Meet_zp0_r
      rw [show fn_sparse_Set_All_z = some () from rfl]
      simp only [Option.bind_some, atn]
      rw [loop_end (b := []) (by rfl)]
      rfl
    have at0 : fn_sparse_Set_At (some B) 0 = some (B.getD 0 0, decide (0 < B.length)) := At_nat 0
    have hlp : (loop (fn_law04_SparseNone_l1 B) (B.getD 0 0, decide (0 < B.length)) : Option (Unit ⊕ Bool)) = some (if 0 < B.length then .inr true else .inl ()) := by
      by_cases h0 : 0 < B.length
      · have hg0 : B.getD 0 0 = B[0] := by simp [h0]
        have hin : decide (B[0] ∈ B) = true := decide_eq_true (List.getElem_mem h0)
        rw [if_pos h0]
        refine loop_end ?_
        unfold fn_law04_SparseNone_l1
        simp only [decide_eq_true h0, cond_true, hg0, hB.has, hin, Option.bind_some, Bool.not_true, cond_false, hB.rank, rk_get hB.rs h0, awake04]
        rfl
      · rw [if_neg h0]
        refine loop_end ?_
        unfold fn_law04_SparseNone_l1
        simp only [decide_eq_false h0, cond_false]
    simp only [Option.bind_some, atn, hasn, cond_false, show fn_sparse_Set_Add_zi xa = some false from rfl, deln, show fn_sparse_Set_Or_zp0_r B = some (false, B) from rfl, show fn_sparse_Set_Or_p0z_r B = some (false, B) from rfl, show fn_sparse_Set_Len none = some 0 from rfl, rkn, listn, meetn, show fn_sparse_Set_All_p0_r B = some B from rfl, at0, hlp, decide_true, Bool.not_true, Bool.or_self, List.length_nil, awake04]
    by_cases h0 : 0 < B.length
    · rw [if_pos h0]; rfl
    · rw [if_neg h0]; rfl
end Go.Proofs.Ytnabpifledhhcaa
namespace Go.Proofs.Ytnabpifledhhcaa
open Go.RowKit
set_option linter.unusedVariables false
set_option linter.unnecessarySimpa false
set_option linter.unusedSimpArgs false
set_option maxRecDepth 20000
theorem SparsePlays_walk {H : Type} (enc : TypeId × Value → H) (W : World) (base : Nat) {v0 v1 v2 v3 : Value} {d0 d1 d2 d3 : DataW H} {p0 p1 p2 p3 : List MemPlace}
    (h0 : DataW.Trod enc Try.prog W 0 (fun _ => true) true 22 v0 d0 p0) (h1 : DataW.Trod enc Try.prog W 0 (fun _ => true) true 22 v1 d1 p1) (h2 : DataW.Trod enc Try.prog W 0 (fun _ => true) true 23 v2 d2 p2) (h3 : DataW.Trod enc Try.prog W 0 (fun _ => true) true 3 v3 d3 p3)
    (o0 : Value.okWide Try.prog W .any base 22 v0) (o1 : Value.okWide Try.prog W .any base 22 v1) (o2 : Value.okWide Try.prog W .any base 23 v2) (o3 : Value.okWide Try.prog W .any base 3 v3) :
    Calls Try.prog 3 #[v0, v1, v2, v3] W fun e W' => e = .returned (.bool true) ∧ Below W.heap.size W W' := by
  obtain ⟨xa, i0, k0⟩ := Tp.arg (.sl (.int .i64)) (by kernel_rfl) o0 h0
  obtain ⟨xb, i1, k1⟩ := Tp.arg (.sl (.int .i64)) (by kernel_rfl) o1 h1
  obtain ⟨xc, i2, k2⟩ := Tp.arg (.sl (.cons (.int .i64) (.one (.int .i64)))) (by kernel_rfl) o2 h2
  obtain ⟨xd, i3, k3⟩ := Tp.arg (.int .i64) (by kernel_rfl) o3 h3
  exact walkX (s := sp_law04_SparsePlays) (x := (xa, xb, xc, xd)) (args := [v0, v1, v2, v3]) law04_SparsePlays_is (SparsePlays_true xa xb xc xd k0 k1 k2 k3) trivial rfl rfl ⟨_, _, rfl, of_rel _ i0, _, _, rfl, of_rel _ i1, _, _, rfl, of_rel _ i2, _, _, rfl, of_rel _ i3, rfl⟩
end Go.Proofs.Ytnabpifledhhcaa
namespace Go.Proofs.Ytnabpifledhhcaa.sparsePlaysFrame
set_option maxRecDepth 40000
open Go.ChangeShapes Go.WideShapes Go.ChangeAt Go.RowKit
theorem own : ownKnob Try.prog.godebug = none := by kernel_rfl
theorem contract (H : Type) (enc : TypeId × Value → H) (W : World) (base : Nat) (args : Array Value) (ds gs : List (DataW H)) (before : List MemPlace)
    (hval : ∀ (j : Nat) t v, Try.f3.params[j]? = some t → args[j]? = some v → Value.okWide Try.prog W .any base t v)
    (hW : DataW.Whole enc Try.prog Try.f3.params.toList Rows.sparsePlaysSpec.vars false W args.toList ds gs before) :
    Calls Try.prog 3 args W fun e W' => ∃ v, e = .returned v ∧ Rows.sparsePlaysSpec.post enc Try.prog Try.f3 false true false false W args v W' := by
  have hW' := hW
  obtain ⟨p, q, hA0, hV, rfl, hfz, hnd⟩ := hW
  have hA : DataW.TrodAll enc Try.prog W 0 (fun _ => true) true Try.f3.params.toList args.toList ds p := hA0
  rw [Try.params3] at hA hval
  obtain ⟨v0, vs0, d0, ds0, p0, q0, hargs, rfl, rfl, h0, r0⟩ := trodAll_cons hA
  obtain ⟨v1, vs1, d1, ds1, p1, q1, rfl, rfl, rfl, h1, r1⟩ := trodAll_cons r0
  obtain ⟨v2, vs2, d2, ds2, p2, q2, rfl, rfl, rfl, h2, r2⟩ := trodAll_cons r1
  obtain ⟨v3, vs3, d3, ds3, p3, q3, rfl, rfl, rfl, h3, r3⟩ := trodAll_cons r2
  obtain ⟨rfl, rfl, rfl⟩ := trodAll_nil r3
  obtain rfl : args = #[v0, v1, v2, v3] := by cases args; simp_all
  refine (SparsePlays_walk enc W base h0 h1 h2 h3 (hval 0 _ v0 rfl rfl) (hval 1 _ v1 rfl rfl) (hval 2 _ v2 rfl rfl) (hval 3 _ v3 rfl rfl)).mono fun e W' ⟨he, hb⟩ => ?_
  subst he
  exact ⟨_, rfl, law_post (tb := _) rfl hW' rfl rfl (by kernel_rfl) (by kernel_rfl) (of_decide_eq_true (by kernel_rfl)) hb⟩
noncomputable def world (os : Os) : World := World.holding Try.prog os ⟨#[], #[], []⟩
theorem reads (os : Os) {H : Type} (enc : TypeId × Value → H) : ∃ x, DataW.whole enc Try.prog ((world os).forCall (fun _ _ => 0) ⟨#[], #[.slice none 0 0, .slice none 0 0, .slice none 0 0, .int .i64 0], []⟩).memory Try.f3.params.toList Rows.sparsePlaysSpec.vars false (#[.slice none 0 0, .slice none 0 0, .slice none 0 0, .int .i64 0] : Array Value).toList 8 = some x :=
  Option.isSome_iff_exists.1 (by kernel_rfl)
set_option maxRecDepth 100000 in
theorem lifted (os : Os) (started : os.Started) (H : Type) (enc : TypeId × Value → H) (F : Stop.Interp) :
    ReturnsInHanded {} Try.checked os 3 .any ((OpenSpec.ofChange Rows.sparsePlaysSpec).preRow enc Try.prog Try.f3 Rows.sparsePlaysRow.domain false Rows.sparsePlaysRow.laid) (((OpenSpec.ofChange Rows.sparsePlaysSpec).at F).post enc Try.prog Try.f3 false true false false) := by
  obtain ⟨x, hx⟩ := reads os enc
  refine returnsInHanded_of_row (C := Try.checked) (s := OpenSpec.ofChange Rows.sparsePlaysSpec) own started (by kernel_rfl) Try.func3
    (witness_row_at (enc := enc) (C := Try.checked) false (world os) #[.slice none 0 0, .slice none 0 0, .slice none 0 0, .int .i64 0] rfl (by kernel_rfl) (by kernel_rfl) (by kernel_rfl)
      (OpenSpec.preRow_of_cond 8 hx (by kernel_rfl) (fun k hk => by cases hk) (by kernel_rfl) (laidMet_of_run' 8 (by kernel_rfl) (by kernel_rfl)))) ?_
  intro W base args ds gs before hval hW _ _ _ hL _ _
  exact contract H enc W base args ds gs before hval hW
theorem proved : Rows.SparsePlaysSaid :=
  OpenClaim.holds_of_cond 3 Try.f3 rfl rfl rfl rfl rfl rfl rfl ⟨rfl, rfl, rfl, rfl, rfl⟩ rfl rfl rfl rfl rfl (by kernel_rfl) Try.func3 (by kernel_rfl)
    (of_decide_eq_true (by kernel_rfl)) (by unfold Func.isWrapper; first | (rw [if_pos (by decide +kernel)]; kernel_rfl) | (rw [if_neg (by decide +kernel)]; exact ⟨rfl, rfl⟩))
    (fun os started H enc _ F => by rw [OpenClaim.pre_eq_preRow]; exact lifted os started H enc F)
end Go.Proofs.Ytnabpifledhhcaa.sparsePlaysFrame
