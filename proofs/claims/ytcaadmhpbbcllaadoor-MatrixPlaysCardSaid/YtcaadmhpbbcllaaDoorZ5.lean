/- A part of the proof: what lies ahead of the law. Nothing is claimed here. -/
import Derived.Test.YtcaadmhpbbcllaaDoorZ4
import Derived.Lib.RowBridge
namespace Go.Proofs.YtcaadmhpbbcllaaDoor
set_option linter.unusedVariables false
set_option linter.unusedSimpArgs false
set_option linter.unnecessarySimpa false
set_option linter.unusedSectionVars false
set_option maxRecDepth 100000
set_option maxHeartbeats 4000000
open Go.RowKit
section
abbrev MxS : OT := .cons (.dat (.int .i64)) (.one (.row 58 (.dat (.int .u64))))
abbrev MxB : OT := .box 61 MxS
abbrev MxP : TypeId := 53
abbrev pB (b : Nat) : Value := .pointer (some ⟨b, 0, none⟩)
section
variable {E : En} {K K0 K1 : Hp} {L F : List Atom} {w : World}
theorem rw_cell {e : TypeId} {g n cap : Nat} {cs : List Value} (hs : Sep E K (Rw e 1 (.slice (some ⟨g, 0, none⟩) n cap) n cs :: L) w) : ∀ i u, cs[i]? = some u → w.cell? ⟨g, i, none⟩ = some u ∧ w.frozen? ⟨g, i, none⟩ = false := by
 intro i u hu
 obtain ⟨h, ⟨hlen, h3⟩, hd0, hs2⟩ := hs
 rcases h3 with ⟨h3, _⟩ | ⟨gb, cp, cur, h3, rfl, h4, h5, h6, h7⟩
 · cases h3
 simp only [Value.slice.injEq, Option.some.injEq, Addr.mk.injEq, and_true] at h3
 obtain ⟨rfl, _, rfl⟩ := h3
 have hblk : w.heap[g]? = some (.cells cur e (0, 0)) := hs2.sub g _ (Hp.join_right (one_of g _) (hd0 g _ (one_of g _)))
 have hc : cur[i]? = some u := by
   rw [← h7, List.getElem?_take] at hu
   split at hu
   · rw [← Array.getElem?_toList]; exact hu
   · cases hu
 exact ⟨by simp [World.cell?, hblk, hc], by simp [World.frozen?, hblk]⟩
theorem rw_set {e : TypeId} {g n cap i : Nat} {cs : List Value} (hs : Sep E K (Rw e 1 (.slice (some ⟨g, 0, none⟩) n cap) n cs :: L) w) (v : Value) (hi : i < n) : Sep E K (Rw e 1 (.slice (some ⟨g, 0, none⟩) n cap) n (cs.set i v) :: L) (w.setCell ⟨g, i, none⟩ v) := by
 obtain ⟨h, ⟨hlen, h3⟩, hd0, hs2⟩ := hs
 rcases h3 with ⟨h3, _⟩ | ⟨gb, cp, cur, h3, rfl, h4, h5, h6, h7⟩
 · cases h3
 simp only [Value.slice.injEq, Option.some.injEq, Addr.mk.injEq, and_true] at h3
 obtain ⟨rfl, _, rfl⟩ := h3
 have hblk : w.heap[g]? = some (.cells cur e (0, 0)) := hs2.sub g _ (Hp.join_right (one_of g _) (hd0 g _ (one_of g _)))
 refine Sep.turn (A := fun h => h = one g (.cells cur e (0, 0))) ⟨_, rfl, hd0, hs2⟩ (fun e => e) (fun h0 ha _ => ?_)
 obtain rfl : h0 = _ := ha
 refine ⟨one g (.cells (cur.setIfInBounds i v) e (0, 0)), ⟨by simpa using hlen, .inr ⟨g, cap, _, rfl, rfl, h4, h5, by simpa using h6, ?_⟩⟩, fun n' o' e' => ?_, fun n' o' e' h1 => ?_⟩
 · rw [Array.toList_setIfInBounds, ← h7, List.take_set]
 · obtain ⟨rfl, rfl⟩ := one_some e'
   exact ⟨by simp [World.setCell, Array.getElem?_modify, hblk], fun e2 => by rw [one_of] at e2; cases e2⟩
 · have hne : n' ≠ g := fun e2 => by subst e2; rw [one_of] at h1; cases h1
   rw [setCell_ne hne]; exact e'
theorem mx_open {v : Value} {y : Int × List Int} (hs : Sep E K (MxB.own K0 [v] (some y : Option (Int × List Int)) :: L) w) : ∃ b u cs, v = pB b ∧ Els K0 (.int .u64) cs y.2 ∧ Sep E K (Cl b 61 [.int .i64 y.1, u] :: Rw 58 1 u y.2.length cs :: L) w := by
 obtain ⟨b, vs, e1, h1⟩ := Sep.ownBox (a := MxS) (y := y) hs
 cases e1
 obtain ⟨c1, c2, rfl, hl, h2⟩ := Sep.ownCons (a := .dat (.int .i64)) (r := .one (.row 58 (.dat (.int .u64)))) (x := y) h1.swap
 obtain ⟨h3, h4⟩ := Sep.ownDat (t := .int .i64) (x := y.1) h2
 obtain rfl : c1 = [.int .i64 y.1] := h3
 obtain ⟨u, cs, rfl, hE, h5⟩ := Sep.ownLeaf (t := .int .u64) (xs := y.2) h4
 exact ⟨b, u, cs, rfl, hE, h5.swap⟩
theorem mx_close {b : Nat} {u : Value} {cs : List Value} {a : Int} {l : List Int} (hE : Els K1 (.int .u64) cs l) (hs : Sep E K (Cl b 61 [.int .i64 a, u] :: Rw 58 1 u l.length cs :: L) w) : Sep E K (MxB.own K1 [pB b] (some (a, l) : Option (Int × List Int)) :: L) w := by
 have h1 := Sep.ownLeaf' (t := .int .u64) (K0 := K1) hE hs.swap
 have h2 := Sep.ownDat' (t := .int .i64) (x := a) (K0 := K1) (cs := [.int .i64 a]) rfl h1
 have h3 : Sep E K (MxS.own K1 ([.int .i64 a] ++ [u]) (a, l) :: Cl b 61 [.int .i64 a, u] :: L) w := Sep.ownCons' (a := .dat (.int .i64)) (r := .one (.row 58 (.dat (.int .u64)))) (x := a) (y := l) h2
 exact Sep.ownBox' (a := MxS) (y := (a, l)) h3.swap
theorem mx_flat {v : List Value} {x : Option (Int × List Int)} (K1 : Hp) (hs : Sep E K (MxB.own K0 v x :: L) w) : Sep E K (MxB.own K1 v x :: L) w := hs.mono (fun h k => OT.own_flat MxB rfl k)
theorem hole_flat {e : TypeId} {v : Value} {l : List (Option (Int × List Int))} {j : Nat} {es : List Value} (K1 : Hp) (hs : Sep E K (HoleA K0 e MxB v l j es :: L) w) : Sep E K (HoleA K1 e MxB v l j es :: L) w :=
 hs.mono (fun h ⟨a1, a2, e1, hst⟩ => ⟨a1, a2, e1, star_mono (fun _ k => k) (fun h k => star_mono (fun h k => EEls.mono (fun es x h k => OT.own_flat MxB rfl k) k) (fun h k => EEls.mono (fun es x h k => OT.own_flat MxB rfl k) k) k) hst⟩)
theorem take_cons_drop {α : Type} {y : α} : ∀ {l : List α} {k : Nat}, l[k]? = some y → l.take k ++ y :: l.drop (k + 1) = l
 | [], k, h => by simp at h
 | x :: l, 0, h => by simp at h; subst h; rfl
 | x :: l, k + 1, h => by simp at h; simpa using take_cons_drop h
theorem hole1 {e : TypeId} {v vr : Value} {l : List (Option (Int × List Int))} {j : Nat} (hj : j < l.length) (hs : Sep E K (HoleA K0 e MxB v l j [vr] :: L) w) : ∃ cs R, cs.length = l.length ∧ cs[j]? = some vr ∧ Sep E K (Rw e 1 v l.length cs :: R :: L) w ∧
   ∀ (vr' : Value) {E K L w}, Sep E K (Rw e 1 v l.length (cs.set j vr') :: R :: L) w → Sep E K (HoleA K0 e MxB v l j [vr'] :: L) w := by
 obtain ⟨h, ⟨c1, c2, hc, hst⟩, hd, hs⟩ := hs
 have hc' : c1.length = j := by rw [hc]; exact Nat.mul_one j
 have h1 : Sep E K (Rw e 1 v l.length (c1 ++ ([vr] ++ c2)) :: star (EEls (OT.own K0 MxB) c1 (l.take j)) (EEls (OT.own K0 MxB) c2 (l.drop (j + 1))) :: L) w := Sep.split ⟨h, hst, hd, hs⟩
 have hlen : (c1 ++ ([vr] ++ c2)).length = l.length := by have := h1.fact (fun h k => k.1); rwa [Nat.mul_one] at this
 refine ⟨_, _, hlen, by rw [← hc']; simp, h1, fun vr' {E K L w} h2 => ?_⟩
 have he : (c1 ++ ([vr] ++ c2)).set j vr' = c1 ++ ([vr'] ++ c2) := by rw [← hc']; simp
 rw [he] at h2
 exact (Sep.join h2).mono (fun h k => ⟨c1, c2, hc, k⟩)
theorem hole2 {e : TypeId} {v vr : Value} {l : List (Option (Int × List Int))} {j k : Nat} {y : Option (Int × List Int)} (hj : j < l.length) (hk : l[k]? = some y) (hjk : j ≠ k) (hs : Sep E K (HoleA K0 e MxB v l j [vr] :: L) w) :
   ∃ cs vk R, cs.length = l.length ∧ cs[j]? = some vr ∧ cs[k]? = some vk ∧ Sep E K (MxB.own K0 [vk] y :: Rw e 1 v l.length cs :: R :: L) w ∧
   ∀ (vr' : Value) {E K L w}, Sep E K (MxB.own K0 [vk] y :: Rw e 1 v l.length (cs.set j vr') :: R :: L) w → Sep E K (HoleA K0 e MxB v l j [vr'] :: L) w := by
 obtain ⟨h, ⟨c1, c2, hc, hst⟩, hd, hs⟩ := hs
 have hc' : c1.length = j := by rw [hc]; exact Nat.mul_one j
 have h1 : Sep E K (Rw e 1 v l.length (c1 ++ ([vr] ++ c2)) :: star (EEls (OT.own K0 MxB) c1 (l.take j)) (EEls (OT.own K0 MxB) c2 (l.drop (j + 1))) :: L) w := Sep.split ⟨h, hst, hd, hs⟩
 have hlen : (c1 ++ ([vr] ++ c2)).length = l.length := by have := h1.fact (fun h k => k.1); rwa [Nat.mul_one] at this
 have hcj : (c1 ++ ([vr] ++ c2))[j]? = some vr := by rw [← hc']; simp
 have h2 := Sep.split h1.swap
 have hsz : ∀ (es : List Value) (x : Option (Int × List Int)) (h : Hp), OT.own K0 MxB es x h → es.length = 1 := fun es x h k => OT.own_len MxB k
 rcases Nat.lt_or_ge k j with hlt | hge
 · have hk' : (l.take j)[k]? = some y := by rw [List.getElem?_take, if_pos hlt]; exact hk
   obtain ⟨a, es, b, rfl, ha, he, h3⟩ := Sep.openEls hsz k hk' h2
   rw [Nat.mul_one] at ha
   obtain ⟨vk, rfl⟩ : ∃ vk, es = [vk] := by
     match es, he with
     | [x], _ => exact ⟨x, rfl⟩
   have hset : (l.take j).take k ++ y :: (l.take j).drop (k + 1) = l.take j := take_cons_drop hk'
   refine ⟨_, vk, star (star (EEls (OT.own K0 MxB) a ((l.take j).take k)) (EEls (OT.own K0 MxB) b ((l.take j).drop (k + 1)))) (EEls (OT.own K0 MxB) c2 (l.drop (j + 1))), hlen, hcj, ?_, ?_, fun vr' {E K L w} h4 => ?_⟩
   · rw [← ha]; simp
   · have e1 : Sep E K (star (EEls (OT.own K0 MxB) a ((l.take j).take k)) (EEls (OT.own K0 MxB) b ((l.take j).drop (k + 1))) :: OT.own K0 MxB [vk] y :: EEls (OT.own K0 MxB) c2 (l.drop (j + 1)) :: Rw e 1 v l.length (a ++ ([vk] ++ b) ++ ([vr] ++ c2)) :: L) w := Sep.join (Sep.front 2 rfl h3).swap
     exact Sep.rot3 (Sep.join (Sep.front 2 rfl e1).swap)
   · have he : (a ++ ([vk] ++ b) ++ ([vr] ++ c2)).set j vr' = a ++ ([vk] ++ b) ++ ([vr'] ++ c2) := by rw [← hc']; simp
     rw [he] at h4
     have e2 : Sep E K (EEls (OT.own K0 MxB) a ((l.take j).take k) :: EEls (OT.own K0 MxB) b ((l.take j).drop (k + 1)) :: EEls (OT.own K0 MxB) c2 (l.drop (j + 1)) :: OT.own K0 MxB [vk] y :: Rw e 1 v l.length (a ++ ([vk] ++ b) ++ ([vr'] ++ c2)) :: L) w := Sep.split (Sep.split (Sep.front 2 rfl h4))
     have e3 := Sep.closeEls (pre := (l.take j).take k) (post := (l.take j).drop (k + 1)) (x := y) (es := [vk]) (c1 := a) (c2 := b) (Sep.front 3 rfl e2).swap
     rw [hset] at e3
     exact (Sep.join (Sep.join e3).swap).mono (fun h q => ⟨_, c2, hc, q⟩)
 · have hkj : j + 1 ≤ k := by omega
   have hk' : (l.drop (j + 1))[k - (j + 1)]? = some y := by rw [List.getElem?_drop, Nat.add_sub_cancel' hkj]; exact hk
   obtain ⟨a, es, b, rfl, ha, he, h3⟩ := Sep.openEls hsz (k - (j + 1)) hk' h2.swap
   rw [Nat.mul_one] at ha
   obtain ⟨vk, rfl⟩ : ∃ vk, es = [vk] := by
     match es, he with
     | [x], _ => exact ⟨x, rfl⟩
   have hset := take_cons_drop hk'
   refine ⟨_, vk, star (star (EEls (OT.own K0 MxB) a ((l.drop (j + 1)).take (k - (j + 1)))) (EEls (OT.own K0 MxB) b ((l.drop (j + 1)).drop (k - (j + 1) + 1)))) (EEls (OT.own K0 MxB) c1 (l.take j)), hlen, hcj, ?_, ?_, fun vr' {E K L w} h4 => ?_⟩
   · have : k = (c1 ++ ([vr] ++ a)).length := by simp; omega
     rw [this]
     simp [← List.append_assoc]
   · have e1 : Sep E K (star (EEls (OT.own K0 MxB) a ((l.drop (j + 1)).take (k - (j + 1)))) (EEls (OT.own K0 MxB) b ((l.drop (j + 1)).drop (k - (j + 1) + 1))) :: OT.own K0 MxB [vk] y :: EEls (OT.own K0 MxB) c1 (l.take j) :: Rw e 1 v l.length (c1 ++ ([vr] ++ (a ++ ([vk] ++ b)))) :: L) w := Sep.join (Sep.front 2 rfl h3).swap
     exact Sep.rot3 (Sep.join (Sep.front 2 rfl e1).swap)
   · have he : (c1 ++ ([vr] ++ (a ++ ([vk] ++ b)))).set j vr' = c1 ++ ([vr'] ++ (a ++ ([vk] ++ b))) := by rw [← hc']; simp
     rw [he] at h4
     have e2 : Sep E K (EEls (OT.own K0 MxB) a ((l.drop (j + 1)).take (k - (j + 1))) :: EEls (OT.own K0 MxB) b ((l.drop (j + 1)).drop (k - (j + 1) + 1)) :: EEls (OT.own K0 MxB) c1 (l.take j) :: OT.own K0 MxB [vk] y :: Rw e 1 v l.length (c1 ++ ([vr'] ++ (a ++ ([vk] ++ b)))) :: L) w := Sep.split (Sep.split (Sep.front 2 rfl h4))
     have e3 := Sep.closeEls (pre := (l.drop (j + 1)).take (k - (j + 1))) (post := (l.drop (j + 1)).drop (k - (j + 1) + 1)) (x := y) (es := [vk]) (c1 := a) (c2 := b) (Sep.front 3 rfl e2).swap
     rw [hset] at e3
     exact (Sep.join (Sep.join e3.swap).swap).mono (fun h q => ⟨c1, _, hc, q⟩)
theorem mx_back {m : List M} {i c r rc b0 : Nat} {z : SV} {a : Int} {l : List Int} (hb : HA.ok m K (.blk i c 61 [z, .own r])) (hr : HA.ok m K (.row r rc 58 (.int .u64) l l.length)) (hi : m[i]? = some (.val (pB b0))) (hz : ∀ u, SV.rel m K z u → u = .int .i64 a)
   (hs : Sep E K (HA.conc m (.blk i c 61 [z, .own r]) :: HA.conc m (.row r rc 58 (.int .u64) l l.length) :: L) w) : Sep E K (MxB.own K [pB b0] (some (a, l) : Option (Int × List Int)) :: L) w := by
 obtain ⟨b, vs, o1, o2, o3, o4⟩ := HA.ok_blk hb
 obtain ⟨ad, cap, cs, h1, h2, h3, h4, h5, h6, h7⟩ := hr
 rw [o4] at hs
 simp only [HA.conc, h1, h2] at hs
 rw [hi] at o1; cases o1
 obtain ⟨u, q, rfl, k1, k2⟩ := relL_cons o3
 obtain ⟨u2, q2, rfl, k3, k4⟩ := relL_cons k2
 obtain rfl := relL_nil k4
 obtain rfl := hz u k1
 have k3' := k3.1; rw [h1] at k3'; cases k3'
 exact mx_close h3 hs
theorem mx_num {m : List M} {z : Nat} {a : Value} (h : m[z]? = some (.val a)) : ∀ u, SV.rel m K (.is z .any) u → u = a := fun u hu => by have := hu.1; rw [h] at this; cases this; rfl
theorem mx_els {cs : List Value} {l : List Int} (h : Els K0 (.int .u64) cs l) : Els K1 (.int .u64) cs l := Els.flat rfl h
theorem mx_dor {p q : Value} {a b : Int × List Int} {t : Bool} {l l2 : List Int} (hf : fn_dense_Set_Or_p0p1_ir_ir a.1 a.2 b.1 b.2 = some (t, l, l2)) (hg : BldA.gk K) (hs : Sep E K (MxB.own K0 [p] (some a : Option (Int × List Int)) :: MxB.own K0 [q] (some b : Option (Int × List Int)) :: F) w) :
   Calls Tryd.prog 33 #[p, q] w fun e w' => ∃ K', e = .returned (.bool t) ∧ K.le K' ∧ Sep E K' (MxB.own K' [p] (some (a.1, l) : Option (Int × List Int)) :: MxB.own K' [q] (some (b.1, l2) : Option (Int × List Int)) :: F) w' := by
 obtain ⟨bp, u, cs, rfl, hE1, hs1⟩ := mx_open hs
 obtain ⟨bq, u2, cs2, rfl, hE2, hs2⟩ := mx_open (Sep.front 2 rfl hs1)
 have hs3 : Sep E K (Cl bq 61 [.int .i64 b.1, u2] :: Rw 58 1 u2 b.2.length cs2 :: Cl bp 61 [.int .i64 a.1, u] :: Rw 58 1 u a.2.length cs :: F) w := hs2
 obtain ⟨ad2, cap2, e2, f1, f2, f3⟩ := hs3.swap.fact (fun h k => Rw.form h k)
 obtain ⟨ad1, cap1, e1, g1, g2, g3⟩ := (Sep.front 3 rfl hs3).fact (fun h k => Rw.form h k)
 obtain ⟨m, hm⟩ : ∃ m : List M, m = [.val (pB bp), .val (pB bq), .val (.int .i64 a.1), .val (.int .i64 b.1), .val u, .cont (.int .u64) a.2 cs, .cells [.int .i64 a.1, u], .val u2, .cont (.int .u64) b.2 cs2, .cells [.int .i64 b.1, u2]] := ⟨_, rfl⟩
 have hu : sp_dense_Set_Or_p0p1_ir_ir.inn.un (TL.list sp_dense_Set_Or_p0p1_ir_ir.inn.ts ((a.1, a.2, b.1, b.2) : Int × List Int × Int × List Int)) 0 = some ([(0, .ptr 0 0), (1, .ptr 1 0)], ⟨[], 10, [.blk 1 9 61 [.is 3 (.int .i64 b.1), .own 7], .row 7 8 58 (.int .u64) b.2 b.2.length, .blk 0 6 61 [.is 2 (.int .i64 a.1), .own 4], .row 4 5 58 (.int .u64) a.2 a.2.length], [4, 7]⟩) := rfl
 have hrow1 : HA.ok m K (.row 4 5 58 (.int .u64) a.2 a.2.length) := ⟨ad1, cap1, cs, by rw [hm, ← e1]; rfl, by rw [hm]; rfl, mx_els hE1, rfl, g1, g2, fun h => g3 (fun h0 => h (List.length_eq_zero_iff.1 h0))⟩
 have hrow2 : HA.ok m K (.row 7 8 58 (.int .u64) b.2 b.2.length) := ⟨ad2, cap2, cs2, by rw [hm, ← e2]; rfl, by rw [hm]; rfl, mx_els hE2, rfl, f1, f2, fun h => f3 (fun h0 => h (List.length_eq_zero_iff.1 h0))⟩
 have o1 : u.oneCell' = true := by rw [e1]; rfl
 have o2 : u2.oneCell' = true := by rw [e2]; rfl
 have h := dense_Set_Or_p0p1_ir_ir_is (a.1, a.2, b.1, b.2) (t, l, l2) hf _ _ hu m K [pB bp, pB bq] hg (by rw [hm]; rfl) (fun x hx => by
   simp only [List.mem_cons, List.not_mem_nil, or_false] at hx
   rcases hx with rfl | rfl | rfl | rfl
   · exact ⟨bq, _, by rw [hm]; rfl, by rw [hm]; rfl, _, _, rfl, ⟨by rw [hm]; rfl, rfl⟩, _, _, rfl, ⟨by rw [hm]; rfl, o2⟩, rfl⟩
   · exact hrow2
   · exact ⟨bp, _, by rw [hm]; rfl, by rw [hm]; rfl, _, _, rfl, ⟨by rw [hm]; rfl, rfl⟩, _, _, rfl, ⟨by rw [hm]; rfl, o1⟩, rfl⟩
   · exact hrow1) ⟨_, _, rfl, ⟨bp, by rw [hm]; rfl, rfl⟩, _, _, rfl, ⟨bq, by rw [hm]; rfl, rfl⟩, rfl⟩ E w F (by subst hm; exact hs3)
 refine h.mono ?_
 rintro e w' ⟨v, K', L', rfl, ⟨vs', u', m', hun, ⟨s, rfl⟩, hlen, hok', hres, rfl⟩, hle, hs'⟩
 have hun' : ((outSh sp_dense_Set_Or_p0p1_ir_ir.outs (t, l, l2)).1.un (outSh sp_dense_Set_Or_p0p1_ir_ir.outs (t, l, l2)).2 10) = some ([(0, .bool t)], ⟨[], 16, [.blk 1 15 61 [.is 3 .any, .own 13], .row 13 14 58 (.int .u64) l2 l2.length, .blk 0 12 61 [.is 2 .any, .own 10], .row 10 11 58 (.int .u64) l l.length], [10, 13]⟩) := rfl
 rw [hun'] at hun
 cases hun
 obtain rfl : v = .bool t := hres
 refine ⟨K', rfl, hle, ?_⟩
 have hm0 : ∀ i x, m[i]? = some x → (m ++ s)[i]? = some x := fun i x h => pre_get (pre_app m s) h
 have r1 := mx_back (b0 := bq) (a := b.1) (hok' _ (by simp)) (hok' _ (by simp)) (hm0 1 _ (by rw [hm]; rfl)) (mx_num (hm0 3 _ (by rw [hm]; rfl))) hs'
 exact (mx_back (b0 := bp) (a := a.1) (hok' (.blk 0 12 61 [.is 2 .any, .own 10]) (by simp)) (hok' (.row 10 11 58 (.int .u64) l l.length) (by simp)) (hm0 0 _ (by rw [hm]; rfl)) (mx_num (hm0 2 _ (by rw [hm]; rfl))) (Sep.front 2 rfl (Sep.front 2 rfl r1)))
theorem mx_dself {p : Value} {a : Int × List Int} {t : Bool} {l : List Int} (hf : fn_dense_Set_Or_p0p0_ir a.1 a.2 = some (t, l)) (hg : BldA.gk K) (hs : Sep E K (MxB.own K0 [p] (some a : Option (Int × List Int)) :: F) w) :
   Calls Tryd.prog 33 #[p, p] w fun e w' => ∃ K', e = .returned (.bool t) ∧ K.le K' ∧ Sep E K' (MxB.own K' [p] (some (a.1, l) : Option (Int × List Int)) :: F) w' := by
 obtain ⟨bp, u, cs, rfl, hE1, hs1⟩ := mx_open hs
 obtain ⟨ad1, cap1, e1, g1, g2, g3⟩ := hs1.swap.fact (fun h k => Rw.form h k)
 obtain ⟨m, hm⟩ : ∃ m : List M, m = [.val (pB bp), .val (.int .i64 a.1), .val u, .cont (.int .u64) a.2 cs, .cells [.int .i64 a.1, u]] := ⟨_, rfl⟩
 have hu : sp_dense_Set_Or_p0p0_ir.inn.un (TL.list sp_dense_Set_Or_p0p0_ir.inn.ts ((a.1, a.2) : Int × List Int)) 0 = some ([(0, .ptr 0 0), (1, .ptr 0 0)], ⟨[], 5, [.blk 0 4 61 [.is 1 (.int .i64 a.1), .own 2], .row 2 3 58 (.int .u64) a.2 a.2.length], [2]⟩) := rfl
 have hrow1 : HA.ok m K (.row 2 3 58 (.int .u64) a.2 a.2.length) := ⟨ad1, cap1, cs, by rw [hm, ← e1]; rfl, by rw [hm]; rfl, mx_els hE1, rfl, g1, g2, fun h => g3 (fun h0 => h (List.length_eq_zero_iff.1 h0))⟩
 have o1 : u.oneCell' = true := by rw [e1]; rfl
 have h := dense_Set_Or_p0p0_ir_is (a.1, a.2) (t, l) hf _ _ hu m K [pB bp, pB bp] hg (by rw [hm]; rfl) (fun x hx => by
   simp only [List.mem_cons, List.not_mem_nil, or_false] at hx
   rcases hx with rfl | rfl
   · exact ⟨bp, _, by rw [hm]; rfl, by rw [hm]; rfl, _, _, rfl, ⟨by rw [hm]; rfl, rfl⟩, _, _, rfl, ⟨by rw [hm]; rfl, o1⟩, rfl⟩
   · exact hrow1) ⟨_, _, rfl, ⟨bp, by rw [hm]; rfl, rfl⟩, _, _, rfl, ⟨bp, by rw [hm]; rfl, rfl⟩, rfl⟩ E w F (by subst hm; exact hs1)
 refine h.mono ?_
 rintro e w' ⟨v, K', L', rfl, ⟨vs', u', m', hun, ⟨s, rfl⟩, hlen, hok', hres, rfl⟩, hle, hs'⟩
 have hun' : ((outSh sp_dense_Set_Or_p0p0_ir.outs (t, l)).1.un (outSh sp_dense_Set_Or_p0p0_ir.outs (t, l)).2 5) = some ([(0, .bool t)], ⟨[], 8, [.blk 0 7 61 [.is 1 .any, .own 5], .row 5 6 58 (.int .u64) l l.length], [5]⟩) := rfl
 rw [hun'] at hun
 cases hun
 obtain rfl : v = .bool t := hres
 refine ⟨K', rfl, hle, ?_⟩
 have hm0 : ∀ i x, m[i]? = some x → (m ++ s)[i]? = some x := fun i x h => pre_get (pre_app m s) h
 exact mx_back (b0 := bp) (a := a.1) (hok' _ (by simp)) (hok' _ (by simp)) (hm0 0 _ (by rw [hm]; rfl)) (mx_num (hm0 1 _ (by rw [hm]; rfl))) hs'
theorem mx_dnew {c : Int} {i sz : Int} {ws : List Int} (hf : fn_dense_New c = some (.inr (i, sz, ws))) (hg : BldA.gk K) (hs : Sep E K F w) :
   Calls Tryd.prog 37 #[.int .i64 c] w fun e w' => ∃ K' b, e = .returned (.tuple #[pB b, .int .i64 i]) ∧ K.le K' ∧ Sep E K' (MxB.own K' [pB b] (some (sz, ws) : Option (Int × List Int)) :: F) w' := by
 have hu : sp_dense_New.inn.un (TL.list sp_dense_New.inn.ts (c : Int)) 0 = some ([(0, .int .i64 c)], ⟨[], 0, [], []⟩) := rfl
 have h := dense_New_is (c : Int) (.inr (i, sz, ws)) hf _ _ hu [] K [.int .i64 c] hg rfl (fun x hx => by cases hx) ⟨_, _, rfl, rfl, rfl⟩ E w F hs
 refine h.mono ?_
 rintro e w' ⟨v, K', L', rfl, ⟨vs', u', m', hun, ⟨s, rfl⟩, hlen, hok', hres, rfl⟩, hle, hs'⟩
 have hun' : ((outSh sp_dense_New.outs (.inr (i, sz, ws))).1.un (outSh sp_dense_New.outs (.inr (i, sz, ws))).2 0) = some ([(0, .tup [.ptr 0 0, .int .i64 i])], ⟨[], 4, [.blk 0 3 61 [.int .i64 sz, .own 1], .row 1 2 58 (.int .u64) ws ws.length], [1]⟩) := rfl
 rw [hun'] at hun
 cases hun
 obtain ⟨us, rfl, h1⟩ := hres
 obtain ⟨u1, q, rfl, ⟨b, h2, rfl⟩, h3⟩ := relL_cons h1
 obtain ⟨u2, q2, rfl, h4, h5⟩ := relL_cons h3
 obtain rfl := relL_nil h5
 obtain rfl : u2 = .int .i64 i := h4
 exact ⟨K', b, rfl, hle, mx_back (b0 := b) (z := .int .i64 sz) (a := sz) (hok' _ (by simp)) (hok' _ (by simp)) h2 (fun u hu => hu) hs'⟩
end
theorem dor_same {a b : Int} {l l2 l' r : List Int} {t : Bool} (h : fn_dense_Set_Or_p0p1_ir_ir a l b l2 = some (t, l', r)) : r = l2 := by
 unfold fn_dense_Set_Or_p0p1_ir_ir at h
 cases hb : !decide (a = b) with
 | true => rw [hb] at h; simp only [cond_true, Option.some.injEq, Prod.mk.injEq] at h; exact h.2.2.symm
 | false =>
   rw [hb] at h
   simp only [cond_false] at h
   obtain ⟨q, _, h⟩ := ob h
   simp only [Option.some.injEq, Prod.mk.injEq] at h; exact h.2.2.symm
theorem dnew_zero {c i sz : Int} {ws : List Int} (h : fn_dense_New c = some (.inr (i, sz, ws))) : i = 0 := by
 unfold fn_dense_New at h
 cases hb : decide (c < 0) with
 | true => rw [hb] at h; simp at h
 | false =>
   rw [hb] at h
   simp only [cond_false] at h
   cases hb : decide (1048576 < c) with
   | true => rw [hb] at h; simp at h
   | false =>
     rw [hb] at h
     simp only [cond_false] at h
     obtain ⟨q, _, h⟩ := ob h
     simp only [Option.some.injEq, Sum.inr.injEq, Prod.mk.injEq] at h; exact h.1.symm
noncomputable def orH (k cols : Int) (l : List (Option (Int × List Int))) (j : Nat) (x : Option (Int × List Int)) : Option (Bool × Option (Int × List Int)) :=
 if 0 ≤ k ∧ k < (l.length : Int) then
   (if k.toNat = j then (match x with
     | none => some (false, none)
     | some s => (fn_dense_Set_Or_p0p0_ir s.1 s.2).bind fun r => some (r.1, some (s.1, r.2)))
   else match l[k.toNat]?.join with
     | some b => (match x with
       | some s => (fn_dense_Set_Or_p0p1_ir_ir s.1 s.2 b.1 b.2).bind fun r => some (r.1, some (s.1, r.2.1))
       | none => (fn_dense_New cols).bind fun o => (match o with
         | .inl _ => none
         | .inr q => (fn_dense_Set_Or_p0p1_ir_ir q.2.1 q.2.2 b.1 b.2).bind fun r => some (r.1, some (q.2.1, r.2.1))))
     | none => some (false, x))
 else some (false, x)
theorem set_self {α : Type} {l : List α} {j : Nat} {x : α} (h : l[j]? = some x) : l.set j x = l := by
 apply List.ext_getElem?
 intro i
 rw [List.getElem?_set]
 by_cases hij : j = i
 · subst hij; rw [if_pos rfl, if_pos (List.getElem?_eq_some_iff.1 h).1, h]
 · rw [if_neg hij]
section
variable {E : En} {K K0 K1 : Hp} {L F : List Atom} {w : World}
theorem own_none {v : Value} (hs : Sep E K (MxB.own K0 [v] (none : Option (Int × List Int)) :: L) w) : v = .pointer none := by
 have := hs.fact (p := [v] = [.pointer none]) (fun h k => k.1)
 simpa using this
theorem mx_or_hole {bm g cap j : Nat} {cols : Int} {l : List (Option (Int × List Int))} {x : Option (Int × List Int)} {vr : Value} {t : Bool} {x' : Option (Int × List Int)} (hg : BldA.gk K) (hj : j < l.length) (k : Int) (hf : orH k cols l j x = some (t, x'))
   (hs : Sep E K (Cl bm 49 [.int .i64 cols, .slice (some ⟨g, 0, none⟩) l.length cap] :: HoleA K0 MxP MxB (.slice (some ⟨g, 0, none⟩) l.length cap) l j [vr] :: MxB.own K0 [vr] x :: F) w) :
   Calls Tryd.prog 21 #[pB bm, .int .i64 (j : Int), .int .i64 k] w fun e w' => ∃ K' vr', e = .returned (.bool t) ∧ K.le K' ∧ (x ≠ none → vr' = vr) ∧
     Sep E K' (Cl bm 49 [.int .i64 cols, .slice (some ⟨g, 0, none⟩) l.length cap] :: HoleA K' MxP MxB (.slice (some ⟨g, 0, none⟩) l.length cap) l j [vr'] :: MxB.own K' [vr'] x' :: F) w' := by
 have ccl : ∀ {K : Hp} {L : List Atom} {w : World}, Sep E K (Cl bm 49 [.int .i64 cols, .slice (some ⟨g, 0, none⟩) l.length cap] :: L) w → w.cell? ⟨bm, 1, none⟩ = some (.slice (some ⟨g, 0, none⟩) l.length cap) ∧ w.cell? ⟨bm, 0, none⟩ = some (.int .i64 cols) := fun h => by
   have hcl := h.cl
   exact ⟨by simp [World.cell?, hcl], by simp [World.cell?, hcl]⟩
 have hc := (ccl hs).1
 have stay : ∀ {w}, Sep E K (Cl bm 49 [.int .i64 cols, .slice (some ⟨g, 0, none⟩) l.length cap] :: HoleA K0 MxP MxB (.slice (some ⟨g, 0, none⟩) l.length cap) l j [vr] :: MxB.own K0 [vr] x :: F) w →
     Sep E K (Cl bm 49 [.int .i64 cols, .slice (some ⟨g, 0, none⟩) l.length cap] :: HoleA K MxP MxB (.slice (some ⟨g, 0, none⟩) l.length cap) l j [vr] :: MxB.own K [vr] x :: F) w := fun h => by
   have h1 := mx_flat K (Sep.front 2 rfl h)
   have h2 := hole_flat K (Sep.front 2 rfl h1)
   exact Sep.front 2 rfl h2
 have hcj : w.cell? ⟨g, j, none⟩ = some vr := by
   obtain ⟨cs, R, q1, q2, q3, _⟩ := hole1 hj hs.swap
   exact (rw_cell q3 j vr q2).1
 unfold orH at hf
 split at hf
 · rename_i hk
   obtain ⟨k', rfl⟩ : ∃ k' : Nat, k = k' := ⟨k.toNat, by omega⟩
   simp only [Int.toNat_natCast] at hf
   have hk2 : k' < l.length := by omega
   split at hf
   · rename_i hkj
     subst hkj
     cases x with
     | none =>
       simp only [Option.some.injEq, Prod.mk.injEq] at hf
       obtain ⟨rfl, rfl⟩ := hf
       obtain rfl := own_none (Sep.front 2 rfl hs)
       refine (mx_or_nil bm l.length cap w hc _ _ ⟨by omega, by omega⟩ (mx_row bm g l.length cap w hc hj hcj)).mono ?_
       rintro e w' ⟨rfl, rfl⟩
       exact ⟨K, _, rfl, Hp.le_refl K, fun _ => rfl, stay hs⟩
     | some s =>
       simp only at hf
       obtain ⟨r, hr, hf⟩ := ob hf
       simp only [Option.some.injEq, Prod.mk.injEq] at hf
       obtain ⟨rfl, rfl⟩ := hf
       obtain ⟨b, _, _, rfl, _, _⟩ := mx_open (Sep.front 2 rfl hs)
       refine (mx_or bm g l.length cap w hc hj hj hcj (Q := fun b' w2 => ∃ K', b' = r.1 ∧ K.le K' ∧ Sep E K' (MxB.own K' [pB b] (some (s.1, r.2) : Option (Int × List Int)) :: Cl bm 49 [.int .i64 cols, .slice (some ⟨g, 0, none⟩) l.length cap] :: HoleA K0 MxP MxB (.slice (some ⟨g, 0, none⟩) l.length cap) l k' [pB b] :: F) w2) ?_).mono ?_
       · have hs1 := hs.drew
         have hcj1 : w.drew.cell? ⟨g, k', none⟩ = some (pB b) := hcj
         refine (mx_made_old bm g l.length cap w.drew (ccl hs1).1 hj hcj1).mono ?_
         rintro e w1 ⟨rfl, rfl⟩
         refine ⟨_, rfl, (ccl hs1).1, hcj1, (mx_dself hr hg (Sep.front 2 rfl hs1)).mono ?_⟩
         rintro e w2 ⟨K', rfl, q1, q2⟩
         exact ⟨_, rfl, K', rfl, q1, q2⟩
       · rintro e w2 ⟨b', rfl, K', rfl, q1, q2⟩
         have h1 := hole_flat K' (Sep.front 2 rfl q2)
         exact ⟨K', _, rfl, q1, fun _ => rfl, Sep.front 2 rfl h1⟩
   · rename_i hkj
     have hjk : j ≠ k' := fun e => hkj e.symm
     have stop : ∀ {y : Option (Int × List Int)}, l[k']? = some y → y = none → t = false → x' = x → Calls Tryd.prog 21 #[pB bm, .int .i64 (j : Int), .int .i64 (k' : Int)] w fun e w' => ∃ K' vr', e = .returned (.bool t) ∧ K.le K' ∧ (x ≠ none → vr' = vr) ∧
         Sep E K' (Cl bm 49 [.int .i64 cols, .slice (some ⟨g, 0, none⟩) l.length cap] :: HoleA K' MxP MxB (.slice (some ⟨g, 0, none⟩) l.length cap) l j [vr'] :: MxB.own K' [vr'] x' :: F) w' := by
       rintro y hy rfl rfl rfl
       obtain ⟨cs, vk, R, q1, q2, q3, q4, _⟩ := hole2 hj hy hjk hs.swap
       obtain rfl := own_none q4
       refine (mx_or_nil bm l.length cap w hc _ _ ⟨by omega, by omega⟩ (mx_row bm g l.length cap w hc hk2 (rw_cell q4.swap k' _ q3).1)).mono ?_
       rintro e w' ⟨rfl, rfl⟩
       exact ⟨K, _, rfl, Hp.le_refl K, fun _ => rfl, stay hs⟩
     split at hf
     · rename_i b hb0
       have hb : l[k']? = some (some b) := by
         cases hq : l[k']? with
         | none => rw [hq] at hb0; cases hb0
         | some y => rw [hq] at hb0; exact congrArg some hb0
       obtain ⟨cs, vk, R, q1, q2, q3, q4, q5⟩ := hole2 hj hb hjk hs.swap
       obtain ⟨bk, _, _, rfl, _, _⟩ := mx_open q4
       have hck := (rw_cell q4.swap k' _ q3).1
       cases x with
       | some s =>
         simp only at hf
         obtain ⟨r, hr, hf⟩ := ob hf
         simp only [Option.some.injEq, Prod.mk.injEq] at hf
         obtain ⟨rfl, rfl⟩ := hf
         obtain ⟨bj, _, _, rfl, _, _⟩ := mx_open (Sep.front 2 rfl hs)
         refine (mx_or bm g l.length cap w hc hj hk2 hck (Q := fun b' w2 => ∃ K', b' = r.1 ∧ K.le K' ∧ Sep E K' (MxB.own K' [pB bj] (some (s.1, r.2.1) : Option (Int × List Int)) :: MxB.own K' [pB bk] (some (b.1, r.2.2) : Option (Int × List Int)) :: Rw MxP 1 (.slice (some ⟨g, 0, none⟩) l.length cap) l.length cs :: R :: Cl bm 49 [.int .i64 cols, .slice (some ⟨g, 0, none⟩) l.length cap] :: F) w2) ?_).mono ?_
         · have hs1 := q4.drew
           have hcj1 : w.drew.cell? ⟨g, j, none⟩ = some (pB bj) := hcj
           have hc1 : w.drew.cell? ⟨bm, 1, none⟩ = some (.slice (some ⟨g, 0, none⟩) l.length cap) := hc
           refine (mx_made_old bm g l.length cap w.drew hc1 hj hcj1).mono ?_
           rintro e w1 ⟨rfl, rfl⟩
           refine ⟨_, rfl, hc1, hck, (mx_dor (a := s) (b := b) hr hg (Sep.front 4 rfl hs1)).mono ?_⟩
           rintro e w2 ⟨K', rfl, p1, p2⟩
           exact ⟨_, rfl, K', rfl, p1, p2⟩
         · rintro e w2 ⟨b', rfl, K', rfl, p1, p2⟩
           have hsame := dor_same hr
           rw [hsame] at p2
           have h1 := mx_flat K0 p2.swap
           have h2 := q5 (pB bj) (E := E) (K := K') (w := w2) (L := MxB.own K' [pB bj] (some (s.1, r.2.1) : Option (Int × List Int)) :: Cl bm 49 [.int .i64 cols, .slice (some ⟨g, 0, none⟩) l.length cap] :: F) (by
             rw [set_self q2]
             exact Sep.perm (by
               refine List.Perm.cons _ ?_
               exact ((List.Perm.swap _ _ _).trans ((List.Perm.swap _ _ _).cons _))) h1)
           exact ⟨K', _, rfl, p1, fun _ => rfl, Sep.front 2 rfl (hole_flat K' h2)⟩
       | none =>
         simp only at hf
         obtain ⟨o, ho, hf⟩ := ob hf
         cases o with
         | inl _ => simp at hf
         | inr q =>
         obtain ⟨i, sz, ws⟩ := q
         simp only at hf
         obtain ⟨r, hr, hf⟩ := ob hf
         simp only [Option.some.injEq, Prod.mk.injEq] at hf
         obtain ⟨rfl, rfl⟩ := hf
         obtain rfl := dnew_zero ho
         obtain rfl := own_none (Sep.front 2 rfl hs)
         refine (mx_or bm g l.length cap w hc hj hk2 hck (Q := fun b' w2 => ∃ K' bj, b' = r.1 ∧ K.le K' ∧ Sep E K' (MxB.own K' [pB bj] (some (sz, r.2.1) : Option (Int × List Int)) :: MxB.own K' [pB bk] (some (b.1, r.2.2) : Option (Int × List Int)) :: Rw MxP 1 (.slice (some ⟨g, 0, none⟩) l.length cap) l.length (cs.set j (pB bj)) :: R :: Cl bm 49 [.int .i64 cols, .slice (some ⟨g, 0, none⟩) l.length cap] :: F) w2) ?_).mono ?_
         · have hs1 := q4.drew.drew
           have hcj1 : w.drew.cell? ⟨g, j, none⟩ = some (.pointer none) := hcj
           have hc1 : w.drew.cell? ⟨bm, 1, none⟩ = some (.slice (some ⟨g, 0, none⟩) l.length cap) := hc
           have hc0 : w.drew.cell? ⟨bm, 0, none⟩ = some (.int .i64 cols) := (ccl hs).2
           refine (mx_made_new bm g l.length cap cols w.drew hc1 hc0 hj hcj1 (Q := fun p w2 => ∃ K1 bj, p = ⟨bj, 0, none⟩ ∧ K.le K1 ∧ Sep E K1 (MxB.own K1 [pB bj] (some (sz, ws) : Option (Int × List Int)) :: MxB.own K0 [pB bk] (some b : Option (Int × List Int)) :: Rw MxP 1 (.slice (some ⟨g, 0, none⟩) l.length cap) l.length (cs.set j (pB bj)) :: R :: Cl bm 49 [.int .i64 cols, .slice (some ⟨g, 0, none⟩) l.length cap] :: F) w2) ?_).mono ?_
           · refine (mx_dnew ho hg hs1).mono ?_
             rintro e w1 ⟨K1, bj, rfl, p1, p2⟩
             have e1 := rw_cell (Sep.front 2 rfl p2)
             have p3 : Sep E K1 (MxB.own K1 [pB bj] (some (sz, ws) : Option (Int × List Int)) :: MxB.own K0 [pB bk] (some b : Option (Int × List Int)) :: Rw MxP 1 (.slice (some ⟨g, 0, none⟩) l.length cap) l.length (cs.set j (pB bj)) :: R :: Cl bm 49 [.int .i64 cols, .slice (some ⟨g, 0, none⟩) l.length cap] :: MxB.own K0 [.pointer none] (none : Option (Int × List Int)) :: F) (w1.setCell ⟨g, j, none⟩ (pB bj)) :=
               Sep.front 2 rfl (Sep.front 2 rfl (rw_set (Sep.front 2 rfl p2) (pB bj) hj))
             refine ⟨⟨bj, 0, none⟩, rfl, (ccl (Sep.front 4 rfl p2)).1, (e1 j _ q2).1, (e1 j _ q2).2, (ccl (Sep.front 4 rfl p3)).1, (rw_cell (Sep.front 2 rfl p3) j _ (by rw [List.getElem?_set, if_pos rfl, if_pos (by rw [q1]; exact hj)])).1, K1, bj, rfl, p1, ?_⟩
             have p4 := (Sep.front 5 rfl p3).drop
             exact p4
           · rintro e w1 ⟨p, rfl, K1, bj, rfl, p1, p2⟩
             refine ⟨⟨bj, 0, none⟩, rfl, (ccl (Sep.front 4 rfl p2)).1, (rw_cell (Sep.front 2 rfl p2) k' _ (by rw [List.getElem?_set, if_neg hjk]; exact q3)).1, (mx_dor (K0 := K1) (a := (sz, ws)) (b := b) hr (BldA.gkm p1.cle hg) (mx_flat K1 p2.swap).swap).mono ?_⟩
             rintro e w2 ⟨K', rfl, r1, r2⟩
             exact ⟨_, rfl, K', bj, rfl, p1.trans r1, r2⟩
         · rintro e w2 ⟨b', rfl, K', bj, rfl, p1, p2⟩
           have hsame := dor_same hr
           rw [hsame] at p2
           have h1 := mx_flat K0 p2.swap
           have h2 := q5 (pB bj) (E := E) (K := K') (w := w2) (L := MxB.own K' [pB bj] (some (sz, r.2.1) : Option (Int × List Int)) :: Cl bm 49 [.int .i64 cols, .slice (some ⟨g, 0, none⟩) l.length cap] :: F) (Sep.perm (by
               refine List.Perm.cons _ ?_
               exact ((List.Perm.swap _ _ _).trans ((List.Perm.swap _ _ _).cons _))) h1)
           exact ⟨K', _, rfl, p1, fun h => absurd rfl h, Sep.front 2 rfl (hole_flat K' h2)⟩
     · rename_i hno
       have hy : ∃ y, l[k']? = some y := ⟨_, List.getElem?_eq_getElem hk2⟩
       obtain ⟨y, hy⟩ := hy
       simp only [Option.some.injEq, Prod.mk.injEq] at hf
       obtain ⟨rfl, rfl⟩ := hf
       cases y with
       | none => exact stop hy rfl rfl rfl
       | some b => rw [hy] at hno; cases hno
 · rename_i hk
   simp only [Option.some.injEq, Prod.mk.injEq] at hf
   obtain ⟨rfl, rfl⟩ := hf
   refine (mx_or_nil bm l.length cap w hc _ _ ⟨by omega, by omega⟩ (mx_row_no bm l.length cap w hc _ hk)).mono ?_
   rintro e w' ⟨rfl, rfl⟩
   exact ⟨K, _, rfl, Hp.le_refl K, fun _ => rfl, stay hs⟩
end
abbrev MxM : OT := .row MxP MxB
noncomputable def fn_matrix_Matrix_Or_p0ii_iod (xb : Int) (xc : Int) (qa0 : Int) (qa1 : (List (Option (Int × (List Int))))) : Option ((Bool × (List (Option (Int × (List Int)))))) :=
 if 0 ≤ xb ∧ xb < (qa1.length : Int) then (match qa1[xb.toNat]? with
   | some x => (orH xc qa0 qa1 xb.toNat x).bind fun r => some (r.1, qa1.set xb.toNat r.2)
   | none => none)
 else some (false, qa1)
noncomputable def sp_matrix_Matrix_Or_p0ii_iod : Spec := ⟨21, ⟨[(0, .ptr 0 0), (1, .dat (.int .i64)), (2, .dat (.int .i64))], [⟨none, 49, [.is 1 (.dat (.int .i64)), .od MxM], false, false, none, false⟩, ⟨none, 0, [], false, true, none, false⟩]⟩, [⟨[(0, .dat .bool)], [⟨(some 0), 49, [.is 1 (.any), .od MxM], false, false, none, false⟩, ⟨(some 1), 0, [], false, true, none, false⟩]⟩], fun x => fn_matrix_Matrix_Or_p0ii_iod x.1 x.2.1 x.2.2.1 x.2.2.2⟩
section
variable {E : En} {K K0 K1 : Hp} {L F : List Atom} {w : World}
theorem mx_fin {m : List M} {bm : Nat} {cols : Int} {v : Value} {rows : List (Option (Int × List Int))} {t : Bool} {e : Ending} (h5 : m.length = 5) (m0 : m[0]? = some (.val (pB bm))) (m1 : m[1]? = some (.val (.int .i64 cols)))
   (he : e = .returned (.bool t)) (hK : K.le K1) (hs : Sep E K1 (Cl bm 49 [.int .i64 cols, v] :: OT.own K1 MxM [v] rows :: F) w) :
   ∃ v K' L', e = .returned v ∧ (∃ vs' u' m', (outSh sp_matrix_Matrix_Or_p0ii_iod.outs (t, rows)).1.un (outSh sp_matrix_Matrix_Or_p0ii_iod.outs (t, rows)).2 5 = some (vs', u') ∧ m <+: m' ∧ m'.length = u'.nx ∧
     (∀ a ∈ u'.H, HA.ok m' K' a) ∧ resR m' K' vs' v ∧ L' = u'.H.map (HA.conc m')) ∧ K.le K' ∧ Sep E K' (L' ++ F) w := by
 obtain ⟨v', e1, hf⟩ := hs.swap.fact (p := ∃ v', [v] = [v'] ∧ OT.form MxM v' rows) (fun h k => own_form_row k)
 cases e1
 have hp := pre_app m [M.val v, M.hp K1, M.cells [.int .i64 cols, v]]
 have g0 : (m ++ [M.val v, M.hp K1, M.cells [.int .i64 cols, v]])[5]? = some (.val v) := by rw [← h5]; exact get_new0 rfl
 have g1 : (m ++ [M.val v, M.hp K1, M.cells [.int .i64 cols, v]])[6]? = some (.hp K1) := by rw [show (6 : Nat) = m.length + 1 by rw [h5]]; exact get_new (k := 1) rfl
 have g2 : (m ++ [M.val v, M.hp K1, M.cells [.int .i64 cols, v]])[7]? = some (.cells [.int .i64 cols, v]) := by rw [show (7 : Nat) = m.length + 2 by rw [h5]]; exact get_new (k := 2) rfl
 refine ⟨.bool t, K1, [Cl bm 49 [.int .i64 cols, v], OT.own K1 MxM [v] rows], he, ⟨[(0, .bool t)], ⟨[], 8, [.blk 0 7 49 [.is 1 .any, .own 5], .od 5 6 MxM rows], []⟩, m ++ [M.val v, M.hp K1, M.cells [.int .i64 cols, v]], rfl, hp, by simp [h5], fun a ha => ?_, rfl, ?_⟩, hK, hs⟩
 · simp only [List.mem_cons, List.not_mem_nil, or_false] at ha
   rcases ha with rfl | rfl
   · exact ⟨bm, _, pre_get hp m0, g2, _, _, rfl, ⟨pre_get hp m1, trivial⟩, _, _, rfl, ⟨g0, form_one hf⟩, rfl⟩
   · exact ⟨v, K1, g0, g1, .inr rfl, hf⟩
 · simp only [List.map_cons, List.map_nil, HA.conc, pre_get hp m0, g0, g1, g2]
end
theorem matrix_Matrix_Or_p0ii_iod_is : SpecOk Tryd.prog sp_matrix_Matrix_Or_p0ii_iod := by
 intro x r hr vs u hu m K args hgk hlen hok hsl E w F hs
 obtain ⟨xb, xc, cols, rows⟩ : Int × Int × Int × List (Option (Int × List Int)) := x
 obtain ⟨t, rows'⟩ : Bool × List (Option (Int × List Int)) := r
 have hu' : sp_matrix_Matrix_Or_p0ii_iod.inn.un (TL.list sp_matrix_Matrix_Or_p0ii_iod.inn.ts ((xb, xc, cols, rows) : Int × Int × Int × List (Option (Int × List Int)))) 0 = some ([(0, .ptr 0 0), (1, .int .i64 xb), (2, .int .i64 xc)], ⟨[], 5, [.blk 0 4 49 [.is 1 (.int .i64 cols), .own 2], .od 2 3 MxM rows], []⟩) := rfl
 rw [show sp_matrix_Matrix_Or_p0ii_iod.inn.un (TL.list _ _) 0 = _ from hu'] at hu
 cases hu
 replace hr : fn_matrix_Matrix_Or_p0ii_iod xb xc cols rows = some (t, rows') := hr
 obtain ⟨a0, q, rfl, ⟨bm, m0, rfl⟩, a1, q, rfl, h1, a2, q, rfl, h2, rfl⟩ := hsl
 obtain rfl : a1 = .int .i64 xb := h1
 obtain rfl : a2 = .int .i64 xc := h2
 obtain ⟨b, vs, o1, o2, o3, o4⟩ := HA.ok_blk (hok (.blk 0 4 49 [.is 1 (.int .i64 cols), .own 2]) (by simp))
 obtain ⟨v, K0, p1, p2, p3, p4⟩ := hok (.od 2 3 MxM rows) (by simp)
 rw [m0] at o1; cases o1
 obtain ⟨u1, q, rfl, k1, k2⟩ := relL_cons o3
 obtain ⟨u2, q2, rfl, k3, k4⟩ := relL_cons k2
 obtain rfl := relL_nil k4
 obtain rfl : u1 = .int .i64 cols := k1.2
 have k3' := k3.1; rw [p1] at k3'; cases k3'
 simp only [List.map_cons, List.map_nil, HA.conc, m0, o2, p1, p2, List.cons_append, List.nil_append] at hs
 obtain ⟨ad, cap, rfl, hg⟩ := p4
 unfold fn_matrix_Matrix_Or_p0ii_iod at hr
 have flat : ∀ {K : Hp} {L : List Atom} {w : World} (K1 : Hp) {x : List (Option (Int × List Int))} {v : Value}, Sep E K (OT.own K0 MxM [v] x :: L) w → Sep E K (OT.own K1 MxM [v] x :: L) w := @fun K L w K1 x v h => Sep.mono h (fun h k => OT.own_flat MxM rfl k)
 split at hr
 · rename_i hb
   obtain ⟨j, rfl⟩ : ∃ j : Nat, xb = j := ⟨xb.toNat, by omega⟩
   simp only [Int.toNat_natCast] at hr
   have hj : j < rows.length := by omega
   split at hr
   · rename_i x hx
     obtain ⟨q, hq, hr⟩ := ob hr
     simp only [Option.some.injEq, Prod.mk.injEq] at hr
     obtain ⟨rfl, rfl⟩ := hr
     obtain ⟨g, rfl⟩ := hg (by show rows.length ≠ 0; omega)
     obtain ⟨es, he, h3⟩ := Sep.openH (o := MxB) hx hs.swap
     obtain ⟨vr, rfl⟩ : ∃ vr, es = [vr] := by
       match es, he with
       | [x], _ => exact ⟨x, rfl⟩
     refine (mx_or_hole hgk hj xc hq (Sep.front 2 rfl h3)).mono ?_
     rintro e w' ⟨K', vr', he, r1, _, r2⟩
     have h4 := Sep.closeH (o := MxB) (y := q.2) hj (Sep.rot3 r2)
     exact mx_fin hlen m0 k1.1 he r1 h4.swap
   · cases hr
 · rename_i hb
   simp only [Option.some.injEq, Prod.mk.injEq] at hr
   obtain ⟨rfl, rfl⟩ := hr
   have hcl := hs.cl
   refine (mx_or_no bm rows.length cap w (ad := ad) (by simp [World.cell?, hcl]; rfl) xb xc hb).mono ?_
   rintro e w' ⟨he, rfl⟩
   exact mx_fin hlen m0 k1.1 he (Hp.le_refl K) (flat K hs.swap).swap
noncomputable def ok_matrix_Matrix_Or_p0ii_iod : OkSpec Tryd.prog := ⟨sp_matrix_Matrix_Or_p0ii_iod, matrix_Matrix_Or_p0ii_iod_is, Tryd.call21⟩
abbrev MxT := Int × List (Option (Int × List Int)) × Int × Option (Int × List Int)
abbrev mxIn : List Bk := [⟨none, 49, [.is 3 (.dat (.int .i64)), .rp 1], false, false, none, false⟩, ⟨none, MxP, [.rp 2], true, false, some MxB, false⟩, ⟨none, 0, [], false, false, some MxB, false⟩, ⟨none, 0, [], false, true, none, false⟩]
abbrev mxOut : List Bk := [⟨some 0, 49, [.is 3 .any, .rp 1], false, false, none, false⟩, ⟨some 1, MxP, [.rp 2], true, false, some MxB, false⟩, ⟨some 2, 0, [], false, false, some MxB, false⟩, ⟨some 3, 0, [], false, true, none, false⟩]
noncomputable def fn_matrix_Matrix_Or_h (r k cols : Int) (l : List (Option (Int × List Int))) (j : Int) (x : Option (Int × List Int)) : Option (Bool × List (Option (Int × List Int)) × Int × Option (Int × List Int)) :=
 if r = j then (match x with | none => none | some s => (orH k cols l j.toNat (some s)).bind fun q => some (q.1, l, j, q.2)) else none
noncomputable def sp_matrix_Matrix_Or_h : Spec := ⟨21, ⟨[(0, .ptr 0 0), (1, .dat (.int .i64)), (2, .dat (.int .i64))], mxIn⟩, [⟨[(0, .dat .bool)], mxOut⟩], fun x => fn_matrix_Matrix_Or_h x.1 x.2.1 x.2.2.1 x.2.2.2.1 x.2.2.2.2.1 x.2.2.2.2.2⟩
noncomputable def fn_matrix_Matrix_row_h (r cols : Int) (l : List (Option (Int × List Int))) (j : Int) (x : Option (Int × List Int)) : Option (List (Option (Int × List Int)) × Int × Option (Int × List Int)) := if r = j then some (l, j, x) else none
noncomputable def sp_matrix_Matrix_row_h : Spec := ⟨25, ⟨[(0, .ptr 0 0), (1, .dat (.int .i64))], mxIn⟩, [⟨[(0, .rp 2)], mxOut⟩], fun x => fn_matrix_Matrix_row_h x.1 x.2.1 x.2.2.1 x.2.2.2.1 x.2.2.2.2⟩
section
variable {E : En} {K K0 K1 : Hp} {L F : List Atom} {w : World}
theorem box_form {v : Value} {x : Option (Int × List Int)} (hs : Sep E K (MxB.own K0 [v] x :: L) w) : OT.form MxB v x ∧ ∃ p, v = .pointer p := by
 cases x with
 | none => obtain rfl := own_none hs; exact ⟨.inl ⟨rfl, rfl⟩, _, rfl⟩
 | some s => obtain ⟨b, _, _, rfl, _, _⟩ := mx_open hs; exact ⟨.inr ⟨_, b, rfl, rfl⟩, _, rfl⟩
theorem mx_finh {m : List M} {bm g cap : Nat} {cols j : Int} {vr : Value} {l : List (Option (Int × List Int))} {x : Option (Int × List Int)} (h7 : m.length = 7) (m0 : m[0]? = some (.val (pB bm))) (m1 : m[1]? = some (.val (.slice (some ⟨g, 0, none⟩) l.length cap))) (m2 : m[2]? = some (.val vr)) (m3 : m[3]? = some (.val (.int .i64 cols)))
   (hj : 0 ≤ j ∧ j.toNat < l.length) (hs : Sep E K1 (Cl bm 49 [.int .i64 cols, .slice (some ⟨g, 0, none⟩) l.length cap] :: HoleA K1 MxP MxB (.slice (some ⟨g, 0, none⟩) l.length cap) l j.toNat [vr] :: MxB.own K1 [vr] x :: F) w) :
   ∃ m' H, unB [0, 1, 2, 3] mxOut [0, 1, 2, 3] ⟨[⟨.sl MxB.tp, l⟩, ⟨.int .i64, j⟩, ⟨MxB.tp, x⟩], 7, [], []⟩ = some ⟨[], 10, H, []⟩ ∧ m <+: m' ∧ m'.length = 10 ∧ (∀ a ∈ H, HA.ok m' K1 a) ∧ Sep E K1 (H.map (HA.conc m') ++ F) w := by
 obtain ⟨hf, p, hp0⟩ := box_form (Sep.front 2 rfl hs)
 have hp := pre_app m [M.cells [.int .i64 cols, .slice (some ⟨g, 0, none⟩) l.length cap], M.hol K1 [vr], M.hp K1]
 obtain ⟨m', hm'⟩ : ∃ m', m' = m ++ [M.cells [.int .i64 cols, .slice (some ⟨g, 0, none⟩) l.length cap], M.hol K1 [vr], M.hp K1] := ⟨_, rfl⟩
 have g0 : m'[7]? = some (.cells [.int .i64 cols, .slice (some ⟨g, 0, none⟩) l.length cap]) := by rw [hm', ← h7]; exact get_new0 rfl
 have g1 : m'[8]? = some (.hol K1 [vr]) := by rw [hm', show (8 : Nat) = m.length + 1 by rw [h7]]; exact get_new (k := 1) rfl
 have g2 : m'[9]? = some (.hp K1) := by rw [hm', show (9 : Nat) = m.length + 2 by rw [h7]]; exact get_new (k := 2) rfl
 rw [← hm'] at hp
 have n0 := pre_get hp m0
 have n1 := pre_get hp m1
 have n2 := pre_get hp m2
 have n3 := pre_get hp m3
 refine ⟨m', [.od 2 9 MxB x, .hole 1 8 MxP MxB l j [.own 2], .blk 0 7 49 [.is 3 .any, .own 1]], rfl, hp, by simp [hm', h7], fun a ha => ?_, ?_⟩
 · simp only [List.mem_cons, List.not_mem_nil, or_false] at ha
   rcases ha with rfl | rfl | rfl
   · exact ⟨vr, K1, n2, g2, .inr rfl, hf⟩
   · exact ⟨_, cap, K1, [vr], n1, g1, .inr rfl, ⟨_, _, rfl, ⟨n2, by rw [hp0]; rfl⟩, rfl⟩, hj.1, hj.2, rfl, g, rfl⟩
   · exact ⟨bm, _, n0, g0, _, _, rfl, ⟨n3, trivial⟩, _, _, rfl, ⟨n1, rfl⟩, rfl⟩
 · simp only [List.map_cons, List.map_nil, HA.conc, n0, n1, n2, g0, g1, g2, List.cons_append, List.nil_append]
   exact Sep.front 2 rfl hs.swap
theorem mx_bef {m : List M} {cols j : Int} {l : List (Option (Int × List Int))} {x : Option (Int × List Int)} (hok : ∀ a ∈ [HA.od 2 6 MxB x, .hole 1 5 MxP MxB l j [.own 2], .blk 0 4 49 [.is 3 (.int .i64 cols), .own 1]], HA.ok m K a)
   (hs : Sep E K ([HA.od 2 6 MxB x, .hole 1 5 MxP MxB l j [.own 2], .blk 0 4 49 [.is 3 (.int .i64 cols), .own 1]].map (HA.conc m) ++ F) w) :
   ∃ bm g cap vr, m[0]? = some (.val (pB bm)) ∧ m[1]? = some (.val (.slice (some ⟨g, 0, none⟩) l.length cap)) ∧ m[2]? = some (.val vr) ∧ m[3]? = some (.val (.int .i64 cols)) ∧ (0 ≤ j ∧ j.toNat < l.length) ∧
     Sep E K (Cl bm 49 [.int .i64 cols, .slice (some ⟨g, 0, none⟩) l.length cap] :: HoleA K MxP MxB (.slice (some ⟨g, 0, none⟩) l.length cap) l j.toNat [vr] :: MxB.own K [vr] x :: F) w := by
 obtain ⟨vr, K2, p1, p2, p3, p4⟩ := hok (.od 2 6 MxB x) (by simp)
 obtain ⟨ad, cap, K3, es, q1, q2, q3, q4, q5, q6, q7, g, rfl⟩ := hok (.hole 1 5 MxP MxB l j [.own 2]) (by simp)
 obtain ⟨bm, vs, o1, o2, o3, o4⟩ := HA.ok_blk (hok (.blk 0 4 49 [.is 3 (.int .i64 cols), .own 1]) (by simp))
 obtain ⟨u1, q, rfl, k1, k2⟩ := relL_cons o3
 obtain ⟨u2, q2', rfl, k3, k4⟩ := relL_cons k2
 obtain rfl := relL_nil k4
 obtain rfl : u1 = .int .i64 cols := k1.2
 have k3' := k3.1; rw [q1] at k3'; cases k3'
 obtain ⟨u3, q3', rfl, k5, k6⟩ := relL_cons q4
 obtain rfl := relL_nil k6
 have k5' := k5.1; rw [p1] at k5'; cases k5'
 simp only [List.map_cons, List.map_nil, HA.conc, o1, o2, p1, p2, q1, q2, List.cons_append, List.nil_append] at hs
 refine ⟨bm, g, cap, vr, o1, q1, p1, k1.1, ⟨q5, q6⟩, ?_⟩
 have h1 := hole_flat K (mx_flat K hs).swap
 exact Sep.front 2 rfl h1
end
theorem matrix_Matrix_Or_h_is : SpecOk Tryd.prog sp_matrix_Matrix_Or_h := by
 intro x r hr vs u hu m K args hgk hlen hok hsl E w F hs
 obtain ⟨xb, xc, cols, l, j, x⟩ : Int × Int × Int × List (Option (Int × List Int)) × Int × Option (Int × List Int) := x
 obtain ⟨t, l', j', x'⟩ : Bool × List (Option (Int × List Int)) × Int × Option (Int × List Int) := r
 have hu' : sp_matrix_Matrix_Or_h.inn.un (TL.list sp_matrix_Matrix_Or_h.inn.ts ((xb, xc, cols, l, j, x) : Int × Int × Int × List (Option (Int × List Int)) × Int × Option (Int × List Int))) 0 = some ([(0, .ptr 0 0), (1, .int .i64 xb), (2, .int .i64 xc)], ⟨[], 7, [HA.od 2 6 MxB x, .hole 1 5 MxP MxB l j [.own 2], .blk 0 4 49 [.is 3 (.int .i64 cols), .own 1]], []⟩) := rfl
 rw [show sp_matrix_Matrix_Or_h.inn.un (TL.list _ _) 0 = _ from hu'] at hu
 cases hu
 replace hr : fn_matrix_Matrix_Or_h xb xc cols l j x = some (t, l', j', x') := hr
 obtain ⟨a0, q, rfl, ⟨bm', m0', rfl⟩, a1, q, rfl, h1, a2, q, rfl, h2, rfl⟩ := hsl
 obtain rfl : a1 = .int .i64 xb := h1
 obtain rfl : a2 = .int .i64 xc := h2
 obtain ⟨bm, g, cap, vr, m0, m1, m2, m3, hj, hs⟩ := mx_bef hok hs
 rw [m0] at m0'; cases m0'
 unfold fn_matrix_Matrix_Or_h at hr
 split at hr
 · rename_i hxj
   subst hxj
   cases x with
   | none => cases hr
   | some s =>
   simp only at hr
   obtain ⟨q, hq, hr⟩ := ob hr
   simp only [Option.some.injEq, Prod.mk.injEq] at hr
   obtain ⟨rfl, rfl, rfl, rfl⟩ := hr
   obtain ⟨jn, rfl⟩ : ∃ jn : Nat, xb = jn := ⟨xb.toNat, by omega⟩
   simp only [Int.toNat_natCast] at hq hs hj
   refine (mx_or_hole hgk hj.2 xc hq hs).mono ?_
   rintro e w' ⟨K', vr', rfl, r1, r3, r2⟩
   obtain rfl := r3 (by simp)
   obtain ⟨m', H, e1, e2, e3, e4, e5⟩ := mx_finh (j := (jn : Int)) hlen m0 m1 m2 m3 (by simpa using hj) r2
   refine ⟨_, K', _, rfl, ⟨[(0, .bool q.1)], ⟨[], 10, H, []⟩, m', ?_, e2, e3, e4, rfl, rfl⟩, r1, e5⟩
   show Sh.un ⟨[(0, .dat .bool)], mxOut⟩ [⟨.bool, q.1⟩, ⟨.sl MxB.tp, l⟩, ⟨.int .i64, (jn : Int)⟩, ⟨MxB.tp, q.2⟩] 7 = _
   have : ∀ H, unB [0, 1, 2, 3] mxOut [0, 1, 2, 3] ⟨[⟨.sl MxB.tp, l⟩, ⟨.int .i64, (jn : Int)⟩, ⟨MxB.tp, q.2⟩], 7, [], []⟩ = some ⟨[], 10, H, []⟩ → Sh.un ⟨[(0, .dat .bool)], mxOut⟩ [⟨.bool, q.1⟩, ⟨.sl MxB.tp, l⟩, ⟨.int .i64, (jn : Int)⟩, ⟨MxB.tp, q.2⟩] 7 = some ([(0, .bool q.1)], ⟨[], 10, H, []⟩) := fun H h => by cases h; rfl
   exact this H e1
 · cases hr
noncomputable def ok_matrix_Matrix_Or_h : OkSpec Tryd.prog := ⟨sp_matrix_Matrix_Or_h, matrix_Matrix_Or_h_is, Tryd.call21⟩
theorem matrix_Matrix_row_h_is : SpecOk Tryd.prog sp_matrix_Matrix_row_h := by
 intro x r hr vs u hu m K args hgk hlen hok hsl E w F hs
 obtain ⟨xb, cols, l, j, x⟩ : Int × Int × List (Option (Int × List Int)) × Int × Option (Int × List Int) := x
 obtain ⟨l', j', x'⟩ : List (Option (Int × List Int)) × Int × Option (Int × List Int) := r
 have hu' : sp_matrix_Matrix_row_h.inn.un (TL.list sp_matrix_Matrix_row_h.inn.ts ((xb, cols, l, j, x) : Int × Int × List (Option (Int × List Int)) × Int × Option (Int × List Int))) 0 = some ([(0, .ptr 0 0), (1, .int .i64 xb)], ⟨[], 7, [HA.od 2 6 MxB x, .hole 1 5 MxP MxB l j [.own 2], .blk 0 4 49 [.is 3 (.int .i64 cols), .own 1]], []⟩) := rfl
 rw [show sp_matrix_Matrix_row_h.inn.un (TL.list _ _) 0 = _ from hu'] at hu
 cases hu
 replace hr : fn_matrix_Matrix_row_h xb cols l j x = some (l', j', x') := hr
 obtain ⟨a0, q, rfl, ⟨bm', m0', rfl⟩, a1, q, rfl, h1, rfl⟩ := hsl
 obtain rfl : a1 = .int .i64 xb := h1
 obtain ⟨bm, g, cap, vr, m0, m1, m2, m3, hj, hs⟩ := mx_bef hok hs
 rw [m0] at m0'; cases m0'
 unfold fn_matrix_Matrix_row_h at hr
 split at hr
 · rename_i hxj
   subst hxj
   simp only [Option.some.injEq, Prod.mk.injEq] at hr
   obtain ⟨rfl, rfl, rfl⟩ := hr
   obtain ⟨jn, rfl⟩ : ∃ jn : Nat, xb = jn := ⟨xb.toNat, by omega⟩
   simp only [Int.toNat_natCast] at hs hj
   obtain ⟨hf, p, rfl⟩ := box_form (Sep.front 2 rfl hs)
   have hc : w.cell? ⟨bm', 1, none⟩ = some (.slice (some ⟨g, 0, none⟩) l.length cap) := by
     have hcl := hs.cl
     simp [World.cell?, hcl]
   have hcj : w.cell? ⟨g, jn, none⟩ = some (.pointer p) := by
     obtain ⟨cs, R, q1, q2, q3, _⟩ := hole1 hj.2 hs.swap
     exact (rw_cell q3 jn _ q2).1
   refine (mx_row bm' g l.length cap w hc hj.2 hcj).mono ?_
   rintro e w' ⟨rfl, rfl⟩
   obtain ⟨m', H, e1, e2, e3, e4, e5⟩ := mx_finh (j := (jn : Int)) hlen m0 m1 m2 m3 (by simpa using hj) hs
   refine ⟨_, K, _, rfl, ⟨[(0, .own 2)], ⟨[], 10, H, []⟩, m', ?_, e2, e3, e4, ⟨pre_get e2 m2, rfl⟩, rfl⟩, Hp.le_refl K, e5⟩
   have : ∀ H, unB [0, 1, 2, 3] mxOut [0, 1, 2, 3] ⟨[⟨.sl MxB.tp, l⟩, ⟨.int .i64, (jn : Int)⟩, ⟨MxB.tp, x⟩], 7, [], []⟩ = some ⟨[], 10, H, []⟩ → Sh.un ⟨[(0, .rp 2)], mxOut⟩ [⟨.sl MxB.tp, l⟩, ⟨.int .i64, (jn : Int)⟩, ⟨MxB.tp, x⟩] 7 = some ([(0, .own 2)], ⟨[], 10, H, []⟩) := fun H h => by cases h; rfl
   exact this H e1
 · cases hr
noncomputable def ok_matrix_Matrix_row_h : OkSpec Tryd.prog := ⟨sp_matrix_Matrix_row_h, matrix_Matrix_row_h_is, Tryd.call25⟩
noncomputable def sp_dense_Set_All_o : Spec := ⟨36, ⟨[(0, .rp 0)], [⟨none, 0, [], false, true, none, false⟩]⟩, [⟨[(0, .fn 39 [.ptr 1 0])], [⟨some 0, 0, [], false, true, none, false⟩, ⟨none, MxP, [.rp 0], false, false, none, false⟩]⟩], fun _ => some ()⟩
theorem dense_Set_All_o_is : SpecOk Tryd.prog sp_dense_Set_All_o := fn_is Tryd.func36 .nil (by kernel_rfl) (by kernel_rfl)
noncomputable def ok_dense_Set_All_o : OkSpec Tryd.prog := ⟨sp_dense_Set_All_o, dense_Set_All_o_is, Tryd.call36⟩
noncomputable def fn_matrix_Matrix_widen_p0i_iod_l1 (xb qa0 : Int) : (Int × Bool × List (Option (Int × List Int)) × Int × Option (Int × List Int)) → Option ((Int × Bool × List (Option (Int × List Int)) × Int × Option (Int × List Int)) ⊕ (Bool × List (Option (Int × List Int)) × Int × Option (Int × List Int))) := fun s =>
 cond (decide (0 ≤ s.1)) ((fn_matrix_Matrix_Or_h xb s.1 qa0 s.2.2.1 s.2.2.2.1 s.2.2.2.2).bind fun q => cond q.1
   ((fn_dense_Set_Next q.2.2.2 (IntKind.wrap .i64 (s.1 + 1))).bind fun i => some (.inl (i, true, q.2.1, q.2.2.1, q.2.2.2)))
   ((fn_dense_Set_Next q.2.2.2 (IntKind.wrap .i64 (s.1 + 1))).bind fun i => some (.inl (i, s.2.1, q.2.1, q.2.2.1, q.2.2.2))))
 (some (.inr (s.2.1, s.2.2.1, s.2.2.2.1, s.2.2.2.2)))
noncomputable def fn_matrix_Matrix_widen_p0i_iod (xb : Int) (qa0 : Int) (qa1 : (List (Option (Int × (List Int))))) : Option ((Bool × (List (Option (Int × (List Int)))))) :=
 (getI qa1 xb).bind fun x => (fn_matrix_Matrix_row_h xb qa0 qa1 xb x).bind fun q => (some ()).bind fun _ => (fn_dense_Set_Next q.2.2 0).bind fun i =>
   (loop (fn_matrix_Matrix_widen_p0i_iod_l1 xb qa0) (i, false, q.1, q.2.1, q.2.2) : Option (Bool × List (Option (Int × List Int)) × Int × Option (Int × List Int))).bind fun z => some (z.1, z.2.1.set z.2.2.1.toNat z.2.2.2)
noncomputable def sp_matrix_Matrix_widen_p0i_iod : Spec := ⟨32, ⟨[(0, .ptr 0 0), (1, .dat (.int .i64))], [⟨none, 49, [.is 1 (.dat (.int .i64)), .od MxM], false, false, none, false⟩, ⟨none, 0, [], false, true, none, false⟩]⟩, [⟨[(0, .dat .bool)], [⟨(some 0), 49, [.is 1 (.any), .od MxM], false, false, none, false⟩, ⟨(some 1), 0, [], false, true, none, false⟩]⟩], fun x => fn_matrix_Matrix_widen_p0i_iod x.1 x.2.1 x.2.2⟩
abbrev mxW : List Bk := [⟨some 11, 4, [.dat .bool], false, false, none, false⟩, ⟨some 22, 0, [], false, false, none, true⟩, ⟨some 0, 49, [.is 5 .any, .rp 3], false, false, none, false⟩, ⟨some 2, MxP, [.rp 4], true, false, some MxB, false⟩, ⟨some 6, 0, [], false, false, some MxB, false⟩, ⟨some 1, 0, [], false, true, none, false⟩]
noncomputable def h_matrix_Matrix_widen_p0i_iod : Hn Tryd.prog := .opn 2 1000001 (.cl ok_matrix_Matrix_row_h [] (.cl ok_dense_Set_All_o [] (.rg ⟨39, _, Tryd.func39, Tryd.call39⟩ (.cl ok_dense_Set_Next [6]
 (.jn [] ⟨[], mxW⟩ [22, 11, 0, 2, 6] (.lp ⟨[(3, .dat (.int .i64))], mxW⟩ (.tw 7 (.yl 2 (.cl ok_matrix_Matrix_Or_h [] (.tw 15 (.cl ok_dense_Set_Next [6] (.nil)) (.cl ok_dense_Set_Next [6] (.nil))))) (.nil))) (.cls 2 25 (.nil)))))))
theorem matrix_Matrix_widen_p0i_iod_is : SpecOk Tryd.prog sp_matrix_Matrix_widen_p0i_iod := fn_is Tryd.func32 h_matrix_Matrix_widen_p0i_iod (by kernel_rfl) (by kernel_rfl)
noncomputable def ok_matrix_Matrix_widen_p0i_iod : OkSpec Tryd.prog := ⟨sp_matrix_Matrix_widen_p0i_iod, matrix_Matrix_widen_p0i_iod_is, Tryd.call32⟩
end
noncomputable def fn_matrix_Matrix_Close_p0_iod_l1 (qa0 : Int) (i1377 : Int) : (List (Option (Int × (List Int)))) → Option ((List (Option (Int × (List Int)))) ⊕ (List (Option (Int × (List Int))))) := fun (l1583 : (List (Option (Int × (List Int))))) => (fn_matrix_Matrix_widen_p0i_iod i1377 qa0 l1583).bind fun (t1615, l1616) => cond (t1615) (some (.inl l1616)) (some (.inr (l1616)))
noncomputable def fn_matrix_Matrix_Close_p0_iod_l2 (qa0 : Int) (i880 : Int) : (Int × (List (Option (Int × (List Int))))) → Option ((Int × (List (Option (Int × (List Int))))) ⊕ (List (Option (Int × (List Int))))) := fun ((i1377, l1378) : (Int × (List (Option (Int × (List Int)))))) => cond (decide (i1377 < i880)) ((loop (fn_matrix_Matrix_Close_p0_iod_l1 qa0 i1377) l1378 : Option ((List (Option (Int × (List Int)))))).bind fun l1562 => some (.inl ((IntKind.wrap .i64 (i1377 + 1), l1562)))) (some (.inr (l1378)))
noncomputable def fn_matrix_Matrix_Close_p0_iod (qa0 : Int) (qa1 : (List (Option (Int × (List Int))))) : Option ((Int × (List (Option (Int × (List Int)))))) :=
 (fn_matrix_Matrix_Rows_p0_iod qa0 qa1).bind fun (i839, l840) => (fn_matrix_Matrix_Cols_p0_iod qa0 l840).bind fun (i847, l848) => cond (!decide (i839 = i847)) (some ((0, l848))) ((fn_matrix_Matrix_Count_p0_iod qa0 l848).bind fun (i864, l865) => (fn_matrix_Matrix_Rows_p0_iod qa0 l865).bind fun (i880, l881) => (loop (fn_matrix_Matrix_Close_p0_iod_l2 qa0 i880) (0, l881) : Option ((List (Option (Int × (List Int)))))).bind fun l1253 => (fn_matrix_Matrix_Count_p0_iod qa0 l1253).bind fun (i1632, l1633) => some ((IntKind.wrap .i64 (i1632 - i864), l1633)))
noncomputable def h_matrix_Matrix_Close_p0_iod : Hn Tryd.prog := .cl ok_matrix_Matrix_Rows_p0_iod [] (.cl ok_matrix_Matrix_Cols_p0_iod [] (.tw 9 (.nil) (.cl ok_matrix_Matrix_Count_p0_iod [] (.cl ok_matrix_Matrix_Rows_p0_iod [] (.jn [] ⟨[], [⟨(some 0), 49, [.is 1 (.any), .od (.row 53 (.box 61 (.cons (.dat (.int .i64)) (.one (.row 58 (.dat (.int .u64)))))))], false, false, none, false⟩, ⟨(some 1), 0, [], false, true, none, false⟩]⟩ [0, 26] (.lp ⟨[(14, .dat (.int .i64))], [⟨(some 0), 49, [.is 1 (.any), .od (.row 53 (.box 61 (.cons (.dat (.int .i64)) (.one (.row 58 (.dat (.int .u64)))))))], false, false, none, false⟩, ⟨(some 1), 0, [], false, true, none, false⟩]⟩ (.tw 15 (.pl (.pl (.jn [] ⟨[], [⟨(some 0), 49, [.is 1 (.any), .od (.row 53 (.box 61 (.cons (.dat (.int .i64)) (.one (.row 58 (.dat (.int .u64)))))))], false, false, none, false⟩, ⟨(some 1), 0, [], false, true, none, false⟩]⟩ [0, 29] (.lp ⟨[], [⟨(some 0), 49, [.is 1 (.any), .od (.row 53 (.box 61 (.cons (.dat (.int .i64)) (.one (.row 58 (.dat (.int .u64)))))))], false, false, none, false⟩, ⟨(some 1), 0, [], false, true, none, false⟩]⟩ (.cl ok_matrix_Matrix_widen_p0i_iod [] (.tw 19 (.nil) (.nil)))) (.nil)))) (.nil))) (.cl ok_matrix_Matrix_Count_p0_iod [] (.nil)))))))
noncomputable def sp_matrix_Matrix_Close_p0_iod : Spec := ⟨20, ⟨[(0, .ptr 0 0)], [⟨none, 49, [.is 1 (.dat (.int .i64)), .od (.row 53 (.box 61 (.cons (.dat (.int .i64)) (.one (.row 58 (.dat (.int .u64)))))))], false, false, none, false⟩, ⟨none, 0, [], false, true, none, false⟩]⟩, [⟨[(0, .dat (.int .i64))], [⟨(some 0), 49, [.is 1 (.any), .od (.row 53 (.box 61 (.cons (.dat (.int .i64)) (.one (.row 58 (.dat (.int .u64)))))))], false, false, none, false⟩, ⟨(some 1), 0, [], false, true, none, false⟩]⟩], fun x => fn_matrix_Matrix_Close_p0_iod x.1 x.2⟩
theorem matrix_Matrix_Close_p0_iod_is : SpecOk Tryd.prog sp_matrix_Matrix_Close_p0_iod := fn_is Tryd.func20 h_matrix_Matrix_Close_p0_iod (by kernel_rfl) (by kernel_rfl)
noncomputable def ok_matrix_Matrix_Close_p0_iod : OkSpec Tryd.prog := ⟨sp_matrix_Matrix_Close_p0_iod, matrix_Matrix_Close_p0_iod_is, Tryd.call20⟩

noncomputable def fn_law06_awake  : Option Bool :=
 (fn_matrix_New 3 3).bind fun o => match o with | .inl i222 => (fn_matrix_Matrix_Add_zii 0 1).bind fun t228 => (fn_matrix_Matrix_Add_zii 1 2).bind fun t234 => (cond (((decide (i222 = 0)) && t228) && t234) ((fn_matrix_Matrix_Close_z).bind fun i253 => some (decide (i253 = 1))) (some (false))).bind fun t249 => (cond (t249) ((fn_matrix_Matrix_Has ((none : (Option (Int × (List (Option (Int × (List Int)))))))) 0 2).bind fun t268 => some (t268)) (some (false))).bind fun t264 => (cond (t264) ((fn_matrix_Matrix_Count_z).bind fun i283 => some (decide (i283 = 3))) (some (false))).bind fun t279 => some (t279) | .inr (i287, i288, l289) => (fn_matrix_Matrix_Add_p0ii_iod 0 1 i288 l289).bind fun (t313, l314) => (fn_matrix_Matrix_Add_p0ii_iod 1 2 i288 l314).bind fun (t321, l322) => cond (((decide (i287 = 0)) && t313) && t321) ((fn_matrix_Matrix_Close_p0_iod i288 l322).bind fun (i398, l399) => (cond (decide (i398 = 1)) ((fn_matrix_Matrix_Has (some (i288, l399)) 0 2).bind fun t415 => some (t415)) (some (false))).bind fun t411 => cond (t411) ((fn_matrix_Matrix_Count_p0_iod i288 l399).bind fun (i431, l432) => some (decide (i431 = 3))) (some (false))) (some (false))
noncomputable def h_law06_awake : Hn Tryd.prog := .c2 ok_matrix_New [] (.cl ok_matrix_Matrix_Add_zii [] (.cl ok_matrix_Matrix_Add_zii [] (.gp 1 (.wt 18 (.gp 1 (.wt 21 (.gj 3 ⟨[(25, .dat .bool)], []⟩ [] (.two 21 (.cl ok_matrix_Matrix_Close_z [] (.nil)) (.nil)) (.wt 26 (.gj 2 ⟨[(29, .dat .bool)], []⟩ [] (.two 26 (.cl ok_matrix_Matrix_Has [] (.nil)) (.nil)) (.wt 30 (.gj 3 ⟨[(34, .dat .bool)], []⟩ [] (.two 30 (.cl ok_matrix_Matrix_Count_z [] (.nil)) (.nil)) (.nil)))))))))))) (.mc 0 0 3 (.cl ok_matrix_Matrix_Add_p0ii_iod [] (.cl ok_matrix_Matrix_Add_p0ii_iod [] (.gp 1 (.wt 18 (.gp 1 (.two 21 (.cl ok_matrix_Matrix_Close_p0_iod [] (.wt 26 (.gj 2 ⟨[(29, .dat .bool)], []⟩ [] (.two 26 (.cl ok_matrix_Matrix_Has [20, 0] (.nil)) (.nil)) (.two 30 (.cl ok_matrix_Matrix_Count_p0_iod [] (.nil)) (.nil))))) (.nil))))))))
noncomputable def sp_law06_awake : Spec := ⟨6, ⟨[], []⟩, [⟨[(0, .dat .bool)], []⟩], fun x => fn_law06_awake⟩
theorem law06_awake_is : SpecOk Tryd.prog sp_law06_awake := fn_is Tryd.func6 h_law06_awake (by kernel_rfl) (by kernel_rfl)
noncomputable def ok_law06_awake : OkSpec Tryd.prog := ⟨sp_law06_awake, law06_awake_is, Tryd.call6⟩
noncomputable def fn_ref06_Has_l1 (xa : (Int × Int × (List (Int × Int)))) (xb : Int) (xc : Int) : Int → Option (Int ⊕ (Unit ⊕ Bool)) := fun (i337 : Int) => cond (decide (i337 < (((xa.2.2.length : Nat) : Int)))) ((getI xa.2.2 i337).bind fun x373 => (cond (decide (x373.1 = xb)) ((getI xa.2.2 i337).bind fun x394 => some (decide (x394.2 = xc))) (some (false))).bind fun t392 => cond (t392) (some (.inr ((.inr (true))))) (some (.inl (IntKind.wrap .i64 (i337 + 1))))) (some (.inr ((.inl ()))))
noncomputable def fn_ref06_Has (xa : (Int × Int × (List (Int × Int)))) (xb : Int) (xc : Int) : Option Bool :=
 (loop (fn_ref06_Has_l1 xa xb xc) 0 : Option (Unit ⊕ Bool)).bind fun o => match o with | .inr r => some r | .inl () => some (false)
noncomputable def h_ref06_Has : Hn Tryd.prog := .jx [] ⟨[], []⟩ [] (.lp ⟨[(7, .dat (.int .i64))], []⟩ (.tw 12 (.gj 8 ⟨[(32, .dat .bool)], []⟩ [] (.two 23 (.nil) (.nil)) (.tw 32 (.nil) (.nil))) (.nil))) (.nil)
noncomputable def sp_ref06_Has : Spec := ⟨12, ⟨[(0, .dat (.cons (.int .i64) (.cons (.int .i64) (.one (.sl (.cons (.int .i64) (.one (.int .i64)))))))), (1, .dat (.int .i64)), (2, .dat (.int .i64))], []⟩, [⟨[(0, .dat .bool)], []⟩], fun x => fn_ref06_Has x.1 x.2.1 x.2.2⟩
theorem ref06_Has_is : SpecOk Tryd.prog sp_ref06_Has := fn_is Tryd.func12 h_ref06_Has (by kernel_rfl) (by kernel_rfl)
noncomputable def ok_ref06_Has : OkSpec Tryd.prog := ⟨sp_ref06_Has, ref06_Has_is, Tryd.call12⟩

noncomputable def fn_ref06_Add (xa : (Int × Int × (List (Int × Int)))) (xb : Int) (xc : Int) : Option ((Int × Int × (List (Int × Int)) × Bool)) :=
 (cond ((((decide (xb < 0)) || (decide (xa.1 ≤ xb))) || (decide (xc < 0))) || (decide (xa.2.1 ≤ xc))) (some (true)) ((fn_ref06_Has (xa.1, xa.2.1, xa.2.2) xb xc).bind fun t69 => some (t69))).bind fun t65 => cond (t65) (some ((xa.1, xa.2.1, xa.2.2, false))) ((app (([] : List (Int × Int))) xa.2.2).bind fun z77 => (app z77 (([(xb, xc)] : List (Int × Int)))).bind fun z86 => some ((xa.1, xa.2.1, z86, true)))
noncomputable def h_ref06_Add : Hn Tryd.prog := .gp 4 (.wt 17 (.gp 2 (.wt 21 (.gp 4 (.wt 27 (.gj 4 ⟨[(32, .dat .bool)], []⟩ [] (.two 27 (.nil) (.cl ok_ref06_Has [] (.nil))) (.tw 32 (.nil) (.per 10 11 (.nil)))))))))
noncomputable def sp_ref06_Add : Spec := ⟨22, ⟨[(0, .dat (.cons (.int .i64) (.cons (.int .i64) (.one (.sl (.cons (.int .i64) (.one (.int .i64)))))))), (1, .dat (.int .i64)), (2, .dat (.int .i64))], []⟩, [⟨[(0, .tup [.agg [.dat (.int .i64), .dat (.int .i64), .dat (.sl (.cons (.int .i64) (.one (.int .i64))))], .dat .bool])], []⟩], fun x => fn_ref06_Add x.1 x.2.1 x.2.2⟩
theorem ref06_Add_is : SpecOk Tryd.prog sp_ref06_Add := fn_is Tryd.func22 h_ref06_Add (by kernel_rfl) (by kernel_rfl)
noncomputable def ok_ref06_Add : OkSpec Tryd.prog := ⟨sp_ref06_Add, ref06_Add_is, Tryd.call22⟩
noncomputable def fn_ref06_Row_l1 (xa : (Int × Int × (List (Int × Int)))) (xb : Int) : ((List Int) × Int) → Option (((List Int) × Int) ⊕ (List Int)) := fun ((l344, i349) : ((List Int) × Int)) => cond (decide (i349 < xa.2.1)) ((fn_ref06_Has (xa.1, xa.2.1, xa.2.2) xb i349).bind fun t377 => cond (t377) ((app l344 ([i349] : List Int)).bind fun z385 => some (.inl ((z385, IntKind.wrap .i64 (i349 + 1))))) (some (.inl ((l344, IntKind.wrap .i64 (i349 + 1)))))) (some (.inr (l344)))
noncomputable def fn_ref06_Row (xa : (Int × Int × (List (Int × Int)))) (xb : Int) : Option (List Int) :=
 (loop (fn_ref06_Row_l1 xa xb) ((([] : List Int), 0)) : Option (List Int)).bind fun l316 => some (l316)
noncomputable def h_ref06_Row : Hn Tryd.prog := .jn [] ⟨[(5, .own 3 (.int .i64)), (7, .any)], []⟩ [2] (.lp ⟨[(5, .own 3 (.int .i64)), (6, .dat (.int .i64))], []⟩ (.tw 11 (.cl ok_ref06_Has [] (.tw 17 (.nil) (.nil))) (.nil))) (.nil)
noncomputable def sp_ref06_Row : Spec := ⟨16, ⟨[(0, .dat (.cons (.int .i64) (.cons (.int .i64) (.one (.sl (.cons (.int .i64) (.one (.int .i64)))))))), (1, .dat (.int .i64))], []⟩, [⟨[(0, .own 3 (.int .i64))], []⟩], fun x => fn_ref06_Row x.1 x.2⟩
theorem ref06_Row_is : SpecOk Tryd.prog sp_ref06_Row := fn_is Tryd.func16 h_ref06_Row (by kernel_rfl) (by kernel_rfl)
noncomputable def ok_ref06_Row : OkSpec Tryd.prog := ⟨sp_ref06_Row, ref06_Row_is, Tryd.call16⟩
noncomputable def fn_ref06_Or_l1 (xb : Int) (l1716 : (List Int)) : (Bool × Int × Int × Int × (List (Int × Int))) → Option ((Bool × Int × Int × Int × (List (Int × Int))) ⊕ (Bool × Int × Int × (List (Int × Int)))) := fun ((t2379, i2380, i2381, i2382, l2383) : (Bool × Int × Int × Int × (List (Int × Int)))) => cond (decide (i2380 < (((l1716.length : Nat) : Int)))) (((getI l1716 i2380).bind fun x2667 => ((fn_ref06_Add (i2381, i2382, l2383) xb x2667).bind fun (i2676, i2677, l2678, t2679) => some ((t2679, i2676, i2677, l2678))).bind fun x2700 => ((fn_ref06_Add (i2381, i2382, l2383) xb x2667).bind fun (i2690, i2691, l2692, t2693) => some ((t2693, i2690, i2691, l2692))).bind fun y2701 => agr x2700 y2701 (some x2700) : Option ((Bool × Int × Int × (List (Int × Int))))).bind fun (t2625, i2626, i2627, l2628) => some (.inl ((t2379 || t2625, IntKind.wrap .i64 (i2380 + 1), i2626, i2627, l2628)))) (some (.inr (((t2379, i2381, i2382, l2383)))))
noncomputable def fn_ref06_Or (xa : (Int × Int × (List (Int × Int)))) (xb : Int) (xc : Int) : Option ((Int × Int × (List (Int × Int)) × Bool)) :=
 (fn_ref06_Row (xa.1, xa.2.1, xa.2.2) xc).bind fun l1716 => (loop (fn_ref06_Or_l1 xb l1716) (false, 0, xa.1, xa.2.1, xa.2.2) : Option ((Bool × Int × Int × (List (Int × Int))))).bind fun (t2212, i2213, i2214, l2215) => some ((i2213, i2214, l2215, t2212))
noncomputable def h_ref06_Or : Hn Tryd.prog := .cl ok_ref06_Row [] (.jn [] ⟨[(9, .dat .bool)], [⟨(some 0), 30, [.dat (.int .i64), .dat (.int .i64), .dat (.sl (.cons (.int .i64) (.one (.int .i64))))], false, false, none, false⟩]⟩ [0] (.lp ⟨[(9, .dat .bool), (10, .dat (.int .i64))], [⟨(some 0), 30, [.dat (.int .i64), .dat (.int .i64), .dat (.sl (.cons (.int .i64) (.one (.int .i64))))], false, false, none, false⟩]⟩ (.tw 19 (.tr (.still [0, 1, 2, 3, 4, 5] (.alt 6 (.still [7, 8, 9] (.alt 10 (.alt 11 (.leaf [12]) .done) .done)) (.alt 10 (.alt 6 (.still [7, 8, 9] (.alt 11 (.leaf [12]) .done)) .done) .done))) ⟨[(11, .ptr 0 0), (12, .dat .bool)], [⟨none, 30, [.dat (.int .i64), .dat (.int .i64), .dat (.sl (.cons (.int .i64) (.one (.int .i64))))], false, false, none, false⟩]⟩ [] (.two 0 (.cl ok_ref06_Add [] (.nil)) (.cl ok_ref06_Add [] (.nil))) (.gp 1 (.nil))) (.nil))) (.nil))
noncomputable def sp_ref06_Or : Spec := ⟨23, ⟨[(0, .dat (.cons (.int .i64) (.cons (.int .i64) (.one (.sl (.cons (.int .i64) (.one (.int .i64)))))))), (1, .dat (.int .i64)), (2, .dat (.int .i64))], []⟩, [⟨[(0, .tup [.agg [.dat (.int .i64), .dat (.int .i64), .dat (.sl (.cons (.int .i64) (.one (.int .i64))))], .dat .bool])], []⟩], fun x => fn_ref06_Or x.1 x.2.1 x.2.2⟩
theorem ref06_Or_is : SpecOk Tryd.prog sp_ref06_Or := fn_is Tryd.func23 h_ref06_Or (by kernel_rfl) (by kernel_rfl)
noncomputable def ok_ref06_Or : OkSpec Tryd.prog := ⟨sp_ref06_Or, ref06_Or_is, Tryd.call23⟩
noncomputable def fn_ref06_Close_l1 (i71464 : Int) (l72485 : (List Int)) : (Bool × Int × Int × Int × (List (Int × Int))) → Option ((Bool × Int × Int × Int × (List (Int × Int))) ⊕ (Bool × Int × Int × (List (Int × Int)))) := fun ((t73154, i73155, i73156, i73157, l73158) : (Bool × Int × Int × Int × (List (Int × Int)))) => cond (decide (i73155 < (((l72485.length : Nat) : Int)))) (((getI l72485 i73155).bind fun x73442 => ((fn_ref06_Or (i73156, i73157, l73158) i71464 x73442).bind fun (i73451, i73452, l73453, t73454) => some ((t73454, i73451, i73452, l73453))).bind fun x73475 => ((fn_ref06_Or (i73156, i73157, l73158) i71464 x73442).bind fun (i73465, i73466, l73467, t73468) => some ((t73468, i73465, i73466, l73467))).bind fun y73476 => agr x73475 y73476 (some x73475) : Option ((Bool × Int × Int × (List (Int × Int))))).bind fun (t73400, i73401, i73402, l73403) => some (.inl ((t73154 || t73400, IntKind.wrap .i64 (i73155 + 1), i73401, i73402, l73403)))) (some (.inr (((t73154, i73156, i73157, l73158)))))
noncomputable def fn_ref06_Close_l2  : (Bool × Int × Int × Int × (List (Int × Int))) → Option ((Bool × Int × Int × Int × (List (Int × Int))) ⊕ (Bool × Int × Int × (List (Int × Int)))) := fun ((t71463, i71464, i71465, i71466, l71467) : (Bool × Int × Int × Int × (List (Int × Int)))) => cond (decide (i71464 < i71465)) ((fn_ref06_Row (i71465, i71466, l71467) i71464).bind fun l72485 => (loop (fn_ref06_Close_l1 i71464 l72485) (t71463, 0, i71465, i71466, l71467) : Option ((Bool × Int × Int × (List (Int × Int))))).bind fun (t72984, i72985, i72986, l72987) => some (.inl ((t72984, IntKind.wrap .i64 (i71464 + 1), i72985, i72986, l72987)))) (some (.inr (((t71463, i71465, i71466, l71467)))))
noncomputable def fn_ref06_Close_l3  : (Bool × Int × Int × (List (Int × Int))) → Option ((Bool × Int × Int × (List (Int × Int))) ⊕ (Int × Int × (List (Int × Int)))) := fun ((t61358, i61359, i61360, l61361) : (Bool × Int × Int × (List (Int × Int)))) => cond (t61358) ((loop (fn_ref06_Close_l2) (false, 0, i61359, i61360, l61361) : Option ((Bool × Int × Int × (List (Int × Int))))).bind fun (t70453, i70454, i70455, l70456) => some (.inl (t70453, i70454, i70455, l70456))) (some (.inr (((i61359, i61360, l61361)))))
noncomputable def fn_ref06_Close (xa : (Int × Int × (List (Int × Int)))) : Option ((Int × Int × (List (Int × Int)) × Int)) :=
 (loop (fn_ref06_Close_l3) ((decide (xa.1 = xa.2.1), xa.1, xa.2.1, xa.2.2)) : Option ((Int × Int × (List (Int × Int))))).bind fun (i55290, i55291, l55292) => some ((i55290, i55291, l55292, IntKind.wrap .i64 ((((l55292.length : Nat) : Int)) - (((xa.2.2.length : Nat) : Int)))))
noncomputable def h_ref06_Close : Hn Tryd.prog := .jn [] ⟨[], [⟨(some 0), 30, [.dat (.int .i64), .dat (.int .i64), .dat (.sl (.cons (.int .i64) (.one (.int .i64))))], false, false, none, false⟩]⟩ [0] (.lp ⟨[(5, .dat .bool)], [⟨(some 0), 30, [.dat (.int .i64), .dat (.int .i64), .dat (.sl (.cons (.int .i64) (.one (.int .i64))))], false, false, none, false⟩]⟩ (.tw 19 (.pl (.jn [] ⟨[(5, .dat .bool)], [⟨(some 0), 30, [.dat (.int .i64), .dat (.int .i64), .dat (.sl (.cons (.int .i64) (.one (.int .i64))))], false, false, none, false⟩]⟩ [0] (.lp ⟨[(5, .dat .bool), (6, .dat (.int .i64))], [⟨(some 0), 30, [.dat (.int .i64), .dat (.int .i64), .dat (.sl (.cons (.int .i64) (.one (.int .i64))))], false, false, none, false⟩]⟩ (.tw 23 (.cl ok_ref06_Row [] (.jn [] ⟨[(5, .dat .bool)], [⟨(some 0), 30, [.dat (.int .i64), .dat (.int .i64), .dat (.sl (.cons (.int .i64) (.one (.int .i64))))], false, false, none, false⟩]⟩ [0] (.lp ⟨[(5, .dat .bool), (8, .dat (.int .i64))], [⟨(some 0), 30, [.dat (.int .i64), .dat (.int .i64), .dat (.sl (.cons (.int .i64) (.one (.int .i64))))], false, false, none, false⟩]⟩ (.tw 32 (.tr (.still [0, 1, 2, 3, 4, 5] (.alt 6 (.still [7, 8, 9] (.alt 10 (.alt 11 (.leaf [12]) .done) .done)) (.alt 10 (.alt 6 (.still [7, 8, 9] (.alt 11 (.leaf [12]) .done)) .done) .done))) ⟨[(9, .ptr 0 0), (10, .dat .bool)], [⟨none, 30, [.dat (.int .i64), .dat (.int .i64), .dat (.sl (.cons (.int .i64) (.one (.int .i64))))], false, false, none, false⟩]⟩ [] (.two 0 (.cl ok_ref06_Or [] (.nil)) (.cl ok_ref06_Or [] (.nil))) (.gp 1 (.nil))) (.nil))) (.nil))) (.nil))) (.nil))) (.nil))) (.mix [([0, 1, 2, 3, 4, 5], 6)] [7] [] [2] (.nil))
noncomputable def sp_ref06_Close : Spec := ⟨24, ⟨[(0, .dat (.cons (.int .i64) (.cons (.int .i64) (.one (.sl (.cons (.int .i64) (.one (.int .i64))))))))], []⟩, [⟨[(0, .tup [.agg [.dat (.int .i64), .dat (.int .i64), .dat (.sl (.cons (.int .i64) (.one (.int .i64))))], .dat (.int .i64)])], []⟩], fun x => fn_ref06_Close x⟩
theorem ref06_Close_is : SpecOk Tryd.prog sp_ref06_Close := fn_is Tryd.func24 h_ref06_Close (by kernel_rfl) (by kernel_rfl)
noncomputable def ok_ref06_Close : OkSpec Tryd.prog := ⟨sp_ref06_Close, ref06_Close_is, Tryd.call24⟩

noncomputable def fn_law06_does_p0aa_iod (xb : (Int × Int × (List (Int × Int)))) (xc : (Int × Int × Int)) (qa0 : Int) (qa1 : (List (Option (Int × (List Int))))) : Option ((Int × Int × (List (Int × Int)) × Bool × (List (Option (Int × (List Int)))))) :=
 cond (decide (xc.1 = 0)) ((fn_ref06_Add (xb.1, xb.2.1, xb.2.2) xc.2.1 xc.2.2).bind fun (i240, i241, l242, t243) => (fn_matrix_Matrix_Add_p0ii_iod xc.2.1 xc.2.2 qa0 qa1).bind fun (t285, l286) => some ((i240, i241, l242, t285 == t243, l286))) (cond (decide (xc.1 = 1)) ((fn_ref06_Or (xb.1, xb.2.1, xb.2.2) xc.2.1 xc.2.2).bind fun (i307, i308, l309, t310) => (fn_matrix_Matrix_Or_p0ii_iod xc.2.1 xc.2.2 qa0 qa1).bind fun (t352, l353) => some ((i307, i308, l309, t352 == t310, l353))) (cond (decide (xc.1 = 2)) ((fn_ref06_Close (xb.1, xb.2.1, xb.2.2)).bind fun (i374, i375, l376, i377) => (fn_matrix_Matrix_Close_p0_iod qa0 qa1).bind fun (i419, l420) => some ((i374, i375, l376, decide (i419 = i377), l420))) (some ((xb.1, xb.2.1, xb.2.2, true, qa1)))))
noncomputable def h_law06_does_p0aa_iod : Hn Tryd.prog := .tw 16 (.cl ok_ref06_Add [] (.mix [([0, 1, 2, 3, 4, 5, 7], 6), ([8], 9)] [10] [] [9, 0, 2] (.cl ok_matrix_Matrix_Add_p0ii_iod [] (.nil)))) (.tw 36 (.cl ok_ref06_Or [] (.mix [([0, 1, 2, 3, 4, 5, 7], 6), ([8], 9)] [10] [] [9, 0, 2] (.cl ok_matrix_Matrix_Or_p0ii_iod [] (.nil)))) (.tw 56 (.cl ok_ref06_Close [] (.mix [([0, 1, 3], 2), ([4], 5)] [6] [] [9, 0, 2] (.cl ok_matrix_Matrix_Close_p0_iod [] (.nil)))) (.nil)))
noncomputable def sp_law06_does_p0aa_iod : Spec := ⟨8, ⟨[(0, .ptr 0 0), (1, .dat (.cons (.int .i64) (.cons (.int .i64) (.one (.sl (.cons (.int .i64) (.one (.int .i64)))))))), (2, .dat (.cons (.int .i64) (.cons (.int .i64) (.one (.int .i64)))))], [⟨none, 49, [.is 1 (.dat (.int .i64)), .od (.row 53 (.box 61 (.cons (.dat (.int .i64)) (.one (.row 58 (.dat (.int .u64)))))))], false, false, none, false⟩, ⟨none, 0, [], false, true, none, false⟩]⟩, [⟨[(0, .tup [.agg [.dat (.int .i64), .dat (.int .i64), .dat (.sl (.cons (.int .i64) (.one (.int .i64))))], .dat .bool])], [⟨(some 0), 49, [.is 1 (.any), .od (.row 53 (.box 61 (.cons (.dat (.int .i64)) (.one (.row 58 (.dat (.int .u64)))))))], false, false, none, false⟩, ⟨(some 1), 0, [], false, true, none, false⟩]⟩], fun x => fn_law06_does_p0aa_iod x.1 x.2.1 x.2.2.1 x.2.2.2⟩
theorem law06_does_p0aa_iod_is : SpecOk Tryd.prog sp_law06_does_p0aa_iod := fn_is Tryd.func8 h_law06_does_p0aa_iod (by kernel_rfl) (by kernel_rfl)
noncomputable def ok_law06_does_p0aa_iod : OkSpec Tryd.prog := ⟨sp_law06_does_p0aa_iod, law06_does_p0aa_iod_is, Tryd.call8⟩
noncomputable def fn_dense_Set_List_l1 (xa : (Option (Int × (List Int)))) : (Int × (List Int)) → Option ((Int × (List Int)) ⊕ (List Int)) := fun ((i278, l279) : (Int × (List Int))) => cond (decide (0 ≤ i278)) ((app l279 ([i278] : List Int)).bind fun z312 => (fn_dense_Set_Next xa (IntKind.wrap .i64 (i278 + 1))).bind fun i320 => some (.inl (i320, z312))) (some (.inr (l279)))
noncomputable def fn_dense_Set_List (xa : (Option (Int × (List Int)))) : Option (List Int) :=
 (fn_dense_Set_All xa).bind fun _ => (fn_dense_Set_Next xa 0).bind fun i175 => (loop (fn_dense_Set_List_l1 xa) (i175, []) : Option (List Int)).bind fun l249 => some (l249)
noncomputable def h_dense_Set_List : Hn Tryd.prog := .ms 5 (.cl ok_dense_Set_All [] (.rg ⟨39, _, Tryd.func39, Tryd.call39⟩ (.cl ok_dense_Set_Next [] (.jn [] ⟨[], [⟨(some 0), 39, [.own 3 (.int .i64)], false, false, none, false⟩, ⟨(some 5), 0, [], false, false, none, true⟩]⟩ [5, 0] (.lp ⟨[(3, .dat (.int .i64))], [⟨(some 0), 39, [.own 3 (.int .i64)], false, false, none, false⟩, ⟨(some 5), 0, [], false, false, none, true⟩]⟩ (.tw 7 (.yl 2 (.cl ok_dense_Set_Next [] (.nil))) (.nil))) (.nil)))))
noncomputable def sp_dense_Set_List : Spec := ⟨28, ⟨[(0, .dat (.ptr (.cons (.int .i64) (.one (.sl (.int .u64))))))], []⟩, [⟨[(0, .own 3 (.int .i64))], []⟩], fun x => fn_dense_Set_List x⟩
theorem dense_Set_List_is : SpecOk Tryd.prog sp_dense_Set_List := fn_is Tryd.func28 h_dense_Set_List (by kernel_rfl) (by kernel_rfl)
noncomputable def ok_dense_Set_List : OkSpec Tryd.prog := ⟨sp_dense_Set_List, dense_Set_List_is, Tryd.call28⟩

noncomputable def fn_matrix_Matrix_Row (xa : (Option (Int × (List (Option (Int × (List Int))))))) (xb : Int) : Option (List Int) :=
 (fn_matrix_Matrix_row xa xb).bind fun p26 => (fn_dense_Set_List p26).bind fun l34 => some (l34)
noncomputable def h_matrix_Matrix_Row : Hn Tryd.prog := .cl ok_matrix_Matrix_row [] (.cl ok_dense_Set_List [] (.nil))
noncomputable def sp_matrix_Matrix_Row : Spec := ⟨15, ⟨[(0, .dat (.ptr (.cons (.int .i64) (.one (.sl (.ptr (.cons (.int .i64) (.one (.sl (.int .u64)))))))))), (1, .dat (.int .i64))], []⟩, [⟨[(0, .own 3 (.int .i64))], []⟩], fun x => fn_matrix_Matrix_Row x.1 x.2⟩
theorem matrix_Matrix_Row_is : SpecOk Tryd.prog sp_matrix_Matrix_Row := fn_is Tryd.func15 h_matrix_Matrix_Row (by kernel_rfl) (by kernel_rfl)
noncomputable def ok_matrix_Matrix_Row : OkSpec Tryd.prog := ⟨sp_matrix_Matrix_Row, matrix_Matrix_Row_is, Tryd.call15⟩
noncomputable def fn_ref01_Same_l1 (xa : (List Int)) (xb : (List Int)) : Int → Option (Int ⊕ (Unit ⊕ Bool)) := fun (i757 : Int) => cond (decide (i757 < (((xa.length : Nat) : Int)))) ((getI xa i757).bind fun x889 => (getI xb i757).bind fun x898 => cond (!decide (x889 = x898)) (some (.inr ((.inr (false))))) (some (.inl (IntKind.wrap .i64 (i757 + 1))))) (some (.inr ((.inl ()))))
noncomputable def fn_ref01_Same (xa : (List Int)) (xb : (List Int)) : Option Bool :=
 cond (!decide ((((xa.length : Nat) : Int)) = (((xb.length : Nat) : Int)))) (some (false)) ((loop (fn_ref01_Same_l1 xa xb) 0 : Option (Unit ⊕ Bool)).bind fun o => match o with | .inr r => some r | .inl () => some (true))
noncomputable def h_ref01_Same : Hn Tryd.prog := .tw 10 (.nil) (.jx [] ⟨[], []⟩ [] (.lp ⟨[(5, .dat (.int .i64))], []⟩ (.tw 14 (.mix [] [0, 1, 2, 3, 4, 5, 6, 7, 8] [] [] (.tw 25 (.nil) (.nil))) (.nil))) (.nil))
noncomputable def sp_ref01_Same : Spec := ⟨14, ⟨[(0, .dat (.sl (.int .i64))), (1, .dat (.sl (.int .i64)))], []⟩, [⟨[(0, .dat .bool)], []⟩], fun x => fn_ref01_Same x.1 x.2⟩
theorem ref01_Same_is : SpecOk Tryd.prog sp_ref01_Same := fn_is Tryd.func14 h_ref01_Same (by kernel_rfl) (by kernel_rfl)
noncomputable def ok_ref01_Same : OkSpec Tryd.prog := ⟨sp_ref01_Same, ref01_Same_is, Tryd.call14⟩
noncomputable def fn_matrix_Matrix_Col_l1 (xa : (Option (Int × (List (Option (Int × (List Int))))))) (xb : Int) (i165 : Int) : ((List Int) × Int) → Option (((List Int) × Int) ⊕ (List Int)) := fun ((l272, i277) : ((List Int) × Int)) => cond (decide (i277 < i165)) ((fn_matrix_Matrix_Has xa i277 xb).bind fun t306 => cond (t306) ((app l272 ([i277] : List Int)).bind fun z314 => some (.inl ((z314, IntKind.wrap .i64 (i277 + 1))))) (some (.inl ((l272, IntKind.wrap .i64 (i277 + 1)))))) (some (.inr (l272)))
noncomputable def fn_matrix_Matrix_Col (xa : (Option (Int × (List (Option (Int × (List Int))))))) (xb : Int) : Option (List Int) :=
 (fn_matrix_Matrix_Rows xa).bind fun i165 => (loop (fn_matrix_Matrix_Col_l1 xa xb i165) ([], 0) : Option (List Int)).bind fun l242 => some (l242)
noncomputable def h_matrix_Matrix_Col : Hn Tryd.prog := .cl ok_matrix_Matrix_Rows [] (.jn [] ⟨[(5, .own 3 (.int .i64))], []⟩ [] (.lp ⟨[(5, .own 3 (.int .i64)), (9, .dat (.int .i64))], []⟩ (.tw 10 (.cl ok_matrix_Matrix_Has [] (.tw 15 (.nil) (.nil))) (.nil))) (.nil))
noncomputable def sp_matrix_Matrix_Col : Spec := ⟨17, ⟨[(0, .dat (.ptr (.cons (.int .i64) (.one (.sl (.ptr (.cons (.int .i64) (.one (.sl (.int .u64)))))))))), (1, .dat (.int .i64))], []⟩, [⟨[(0, .own 3 (.int .i64))], []⟩], fun x => fn_matrix_Matrix_Col x.1 x.2⟩
theorem matrix_Matrix_Col_is : SpecOk Tryd.prog sp_matrix_Matrix_Col := fn_is Tryd.func17 h_matrix_Matrix_Col (by kernel_rfl) (by kernel_rfl)
noncomputable def ok_matrix_Matrix_Col : OkSpec Tryd.prog := ⟨sp_matrix_Matrix_Col, matrix_Matrix_Col_is, Tryd.call17⟩
noncomputable def fn_ref06_Col_l1 (xa : (Int × Int × (List (Int × Int)))) (xb : Int) : ((List Int) × Int) → Option (((List Int) × Int) ⊕ (List Int)) := fun ((l344, i349) : ((List Int) × Int)) => cond (decide (i349 < xa.1)) ((fn_ref06_Has (xa.1, xa.2.1, xa.2.2) i349 xb).bind fun t377 => cond (t377) ((app l344 ([i349] : List Int)).bind fun z385 => some (.inl ((z385, IntKind.wrap .i64 (i349 + 1))))) (some (.inl ((l344, IntKind.wrap .i64 (i349 + 1)))))) (some (.inr (l344)))
noncomputable def fn_ref06_Col (xa : (Int × Int × (List (Int × Int)))) (xb : Int) : Option (List Int) :=
 (loop (fn_ref06_Col_l1 xa xb) ((([] : List Int), 0)) : Option (List Int)).bind fun l316 => some (l316)
noncomputable def h_ref06_Col : Hn Tryd.prog := .jn [] ⟨[(5, .own 3 (.int .i64)), (7, .any)], []⟩ [2] (.lp ⟨[(5, .own 3 (.int .i64)), (6, .dat (.int .i64))], []⟩ (.tw 11 (.cl ok_ref06_Has [] (.tw 17 (.nil) (.nil))) (.nil))) (.nil)
noncomputable def sp_ref06_Col : Spec := ⟨18, ⟨[(0, .dat (.cons (.int .i64) (.cons (.int .i64) (.one (.sl (.cons (.int .i64) (.one (.int .i64)))))))), (1, .dat (.int .i64))], []⟩, [⟨[(0, .own 3 (.int .i64))], []⟩], fun x => fn_ref06_Col x.1 x.2⟩
theorem ref06_Col_is : SpecOk Tryd.prog sp_ref06_Col := fn_is Tryd.func18 h_ref06_Col (by kernel_rfl) (by kernel_rfl)
noncomputable def ok_ref06_Col : OkSpec Tryd.prog := ⟨sp_ref06_Col, ref06_Col_is, Tryd.call18⟩
noncomputable def fn_law06_MatrixPlays_l1 (xa : Int) (xb : Int) (xc : (List (Int × Int × Int))) (xd : Int) (xe : Int) (i4072 : Int) : (Int × (List (Option (Int × (List Int)))) × Int × Int × (List (Int × Int))) → Option ((Int × (List (Option (Int × (List Int)))) × Int × Int × (List (Int × Int))) ⊕ (Unit ⊕ Bool)) := fun ((i6706, l6707, i6709, i6710, l6711) : (Int × (List (Option (Int × (List Int)))) × Int × Int × (List (Int × Int)))) => cond (decide (i6706 < (((xc.length : Nat) : Int)))) (((getI xc i6706).bind fun x7504 => ((fn_law06_does_p0aa_iod (i6709, i6710, l6711) (x7504.1, x7504.2.1, x7504.2.2) i4072 l6707).bind fun (i7515, i7516, l7517, t7518, l7519) => some ((t7518, l7519, i7515, i7516, l7517))).bind fun x7543 => ((fn_law06_does_p0aa_iod (i6709, i6710, l6711) (x7504.1, x7504.2.1, x7504.2.2) i4072 l6707).bind fun (i7531, i7532, l7533, t7534, l7535) => some ((t7534, l7535, i7531, i7532, l7533))).bind fun y7544 => agr x7543 y7544 (some x7543) : Option ((Bool × (List (Option (Int × (List Int)))) × Int × Int × (List (Int × Int))))).bind fun (t7454, l7455, i7457, i7458, l7459) => cond (!t7454) (some (.inr ((.inr (false))))) ((fn_matrix_Matrix_Rows_p0_iod i4072 l7455).bind fun (i7907, l7908) => cond (!decide (i7907 = xa)) (some (.inr ((.inr (false))))) ((fn_matrix_Matrix_Cols_p0_iod i4072 l7908).bind fun (i7916, l7917) => cond (!decide (i7916 = xb)) (some (.inr ((.inr (false))))) ((fn_matrix_Matrix_Has (some (i4072, l7917)) xd xe).bind fun t7925 => (fn_ref06_Has (i7457, i7458, l7459) xd xe).bind fun t7931 => cond (!(t7925 == t7931)) (some (.inr ((.inr (false))))) ((fn_matrix_Matrix_Count_p0_iod i4072 l7917).bind fun (i7938, l7939) => cond (!decide (i7938 = (((l7459.length : Nat) : Int)))) (some (.inr ((.inr (false))))) ((fn_matrix_Matrix_Row (some (i4072, l7939)) xd).bind fun l7947 => (fn_ref06_Row (i7457, i7458, l7459) xd).bind fun l7957 => (fn_ref01_Same l7947 l7957).bind fun t7973 => cond (!t7973) (some (.inr ((.inr (false))))) ((fn_matrix_Matrix_Col (some (i4072, l7939)) xe).bind fun l7980 => (fn_ref06_Col (i7457, i7458, l7459) xe).bind fun l7990 => (fn_ref01_Same l7980 l7990).bind fun t8006 => cond (!t8006) (some (.inr ((.inr (false))))) (some (.inl ((IntKind.wrap .i64 (i6706 + 1), l7939, i7457, i7458, l7459))))))))))) (some (.inr ((.inl ()))))
noncomputable def fn_law06_MatrixPlays (xa : Int) (xb : Int) (xc : (List (Int × Int × Int))) (xd : Int) (xe : Int) : Option Bool :=
 cond (((decide (20 < (((xc.length : Nat) : Int)))) || ((decide (12 < xa)) && (decide (xa ≤ 65536)))) || ((decide (12 < xb)) && (decide (xb ≤ 65536)))) ((fn_law06_awake).bind fun t4023 => some (t4023)) ((fn_matrix_New xa xb).bind fun o => match o with | .inl i4029 => cond ((decide (xa < 0)) || (decide (xb < 0))) ((cond (decide (i4029 = 2)) ((fn_law06_awake).bind fun t4048 => some (t4048)) (some (false))).bind fun t4044 => some (t4044)) (cond ((decide (65536 < xa)) || (decide (65536 < xb))) ((cond (decide (i4029 = 5)) ((fn_law06_awake).bind fun t4067 => some (t4067)) (some (false))).bind fun t4063 => some (t4063)) (some (false))) | .inr (i4071, i4072, l4073) => cond ((decide (xa < 0)) || (decide (xb < 0))) (some (false)) (cond ((decide (65536 < xa)) || (decide (65536 < xb))) (some (false)) (cond (!decide (i4071 = 0)) (some (false)) ((loop (fn_law06_MatrixPlays_l1 xa xb xc xd xe i4072) (0, l4073, xa, xb, []) : Option (Unit ⊕ Bool)).bind fun o => match o with | .inr r => some r | .inl () => (fn_law06_awake).bind fun t8014 => some (t8014)))))
noncomputable def h_law06_MatrixPlays : Hn Tryd.prog := .gp 6 (.wt 28 (.gp 6 (.tw 35 (.cl ok_law06_awake [] (.nil)) (.c2 ok_matrix_New [] (.gp 2 (.tw 48 (.wt 55 (.gj 1 ⟨[(57, .dat .bool)], []⟩ [] (.two 55 (.cl ok_law06_awake [] (.nil)) (.nil)) (.nil))) (.gp 2 (.tw 63 (.wt 70 (.gj 1 ⟨[(72, .dat .bool)], []⟩ [] (.two 70 (.cl ok_law06_awake [] (.nil)) (.nil)) (.nil))) (.nil))))) (.gp 2 (.tw 48 (.nil) (.gp 2 (.tw 63 (.nil) (.tw 78 (.nil) (.jx [] ⟨[], []⟩ [4, 0, 1] (.mc 0 0 3 (.lp ⟨[(14, .dat (.int .i64))], [⟨(some 0), 49, [.is 2 (.any), .od (.row 53 (.box 61 (.cons (.dat (.int .i64)) (.one (.row 58 (.dat (.int .u64)))))))], false, false, none, false⟩, ⟨(some 4), 30, [.dat (.int .i64), .dat (.int .i64), .dat (.sl (.cons (.int .i64) (.one (.int .i64))))], false, false, none, false⟩, ⟨(some 7), 0, [], false, true, none, false⟩]⟩ (.tw 85 (.tr (.still [0, 1, 2, 3, 4, 5] (.alt 6 (.still [7, 8, 9] (.alt 10 (.alt 11 (.leaf [12]) .done) .done)) (.alt 10 (.alt 6 (.still [7, 8, 9] (.alt 11 (.leaf [12]) .done)) .done) .done))) ⟨[(15, .ptr 1 0), (16, .dat .bool)], [⟨(some 0), 49, [.is 2 (.any), .od (.row 53 (.box 61 (.cons (.dat (.int .i64)) (.one (.row 58 (.dat (.int .u64)))))))], false, false, none, false⟩, ⟨none, 30, [.dat (.int .i64), .dat (.int .i64), .dat (.sl (.cons (.int .i64) (.one (.int .i64))))], false, false, none, false⟩, ⟨(some 7), 0, [], false, true, none, false⟩]⟩ [0, 8] (.two 0 (.cl ok_law06_does_p0aa_iod [] (.nil)) (.cl ok_law06_does_p0aa_iod [] (.nil))) (.mix [([0, 1, 2, 3, 5], 4), ([6, 7, 8, 9, 11], 10), ([12, 13, 14, 15, 16, 17, 19, 20, 21], 18), ([], 22), ([23, 24, 25, 26, 28, 29, 30], 27), ([31, 32, 33, 34, 35, 37, 38], 36), ([], 39), ([], 40), ([41, 42, 43, 44, 45, 47, 48], 46)] [] [49, 50, 51, 52] [0, 13] (.two 101 (.nil) (.cl ok_matrix_Matrix_Rows_p0_iod [] (.two 107 (.nil) (.cl ok_matrix_Matrix_Cols_p0_iod [] (.two 113 (.nil) (.cl ok_matrix_Matrix_Has [27, 0] (.cl ok_ref06_Has [] (.two 124 (.nil) (.cl ok_matrix_Matrix_Count_p0_iod [] (.two 132 (.nil) (.cl ok_matrix_Matrix_Row [33, 0] (.cl ok_ref06_Row [] (.cl ok_ref01_Same [36, 38] (.two 142 (.nil) (.cl ok_matrix_Matrix_Col [33, 0] (.cl ok_ref06_Col [] (.cl ok_ref01_Same [40, 42] (.tw 151 (.nil) (.nil))))))))))))))))))))) (.nil)))) (.cl ok_law06_awake [] (.nil))))))))))))
noncomputable def sp_law06_MatrixPlays : Spec := ⟨3, ⟨[(0, .dat (.int .i64)), (1, .dat (.int .i64)), (2, .dat (.sl (.cons (.int .i64) (.cons (.int .i64) (.one (.int .i64)))))), (3, .dat (.int .i64)), (4, .dat (.int .i64))], []⟩, [⟨[(0, .dat .bool)], []⟩], fun x => fn_law06_MatrixPlays x.1 x.2.1 x.2.2.1 x.2.2.2.1 x.2.2.2.2⟩
theorem law06_MatrixPlays_is : SpecOk Tryd.prog sp_law06_MatrixPlays := fn_is Tryd.func3 h_law06_MatrixPlays (by kernel_rfl) (by kernel_rfl)
noncomputable def ok_law06_MatrixPlays : OkSpec Tryd.prog := ⟨sp_law06_MatrixPlays, law06_MatrixPlays_is, Tryd.call3⟩
noncomputable def fn_law06_MatrixCloses_l1 (xb : (List (Int × Int))) (i17444 : Int) : (Int × (List (Option (Int × (List Int))))) → Option ((Int × (List (Option (Int × (List Int))))) ⊕ (List (Option (Int × (List Int))))) := fun ((i17895, l17896) : (Int × (List (Option (Int × (List Int)))))) => cond (decide (i17895 < (((xb.length : Nat) : Int)))) ((getI xb i17895).bind fun x18090 => (getI xb i17895).bind fun x18099 => (fn_matrix_Matrix_Add_p0ii_iod x18090.1 x18099.2 i17444 l17896).bind fun (t18110, l18111) => some (.inl ((IntKind.wrap .i64 (i17895 + 1), l18111)))) (some (.inr (l17896)))
noncomputable def fn_law06_MatrixCloses_l2 (xa : Int) (i17444 : Int) (l18127 : (List (Option (Int × (List Int))))) (i29045 : Int) (i33593 : Int) : Int → Option (Int ⊕ (Unit ⊕ (Int ⊕ (Unit ⊕ (Int ⊕ (Unit ⊕ Bool)))))) := fun (i34351 : Int) => cond (decide (i34351 < xa)) ((fn_matrix_Matrix_Has (some (i17444, l18127)) i29045 i33593).bind fun t34467 => (cond (t34467) ((fn_matrix_Matrix_Has (some (i17444, l18127)) i33593 i34351).bind fun t34482 => some (t34482)) (some (false))).bind fun t34478 => (cond (t34478) ((fn_matrix_Matrix_Has (some (i17444, l18127)) i29045 i34351).bind fun t34497 => some (!t34497)) (some (false))).bind fun t34493 => cond (t34493) (some (.inr ((.inr (.inr ((.inr (.inr ((.inr (false))))))))))) (some (.inl (IntKind.wrap .i64 (i34351 + 1))))) (some (.inr ((.inl ()))))
noncomputable def fn_law06_MatrixCloses_l3 (xa : Int) (i17444 : Int) (l18127 : (List (Option (Int × (List Int))))) (i29045 : Int) : Int → Option (Int ⊕ (Unit ⊕ (Int ⊕ (Unit ⊕ Bool)))) := fun (i33593 : Int) => cond (decide (i33593 < xa)) ((loop (fn_law06_MatrixCloses_l2 xa i17444 l18127 i29045 i33593) 0 : Option (Unit ⊕ (Int ⊕ (Unit ⊕ (Int ⊕ (Unit ⊕ Bool)))))).bind fun o => match o with | .inr r => some r | .inl () => some (.inl (IntKind.wrap .i64 (i33593 + 1)))) (some (.inr ((.inl ()))))
noncomputable def fn_law06_MatrixCloses_l4 (xa : Int) (i17444 : Int) (l18127 : (List (Option (Int × (List Int))))) : Int → Option (Int ⊕ (Unit ⊕ Bool)) := fun (i29045 : Int) => cond (decide (i29045 < xa)) ((loop (fn_law06_MatrixCloses_l3 xa i17444 l18127 i29045) 0 : Option (Unit ⊕ (Int ⊕ (Unit ⊕ Bool)))).bind fun o => match o with | .inr r => some r | .inl () => some (.inl (IntKind.wrap .i64 (i29045 + 1)))) (some (.inr ((.inl ()))))
noncomputable def fn_law06_MatrixCloses (xa : Int) (xb : (List (Int × Int))) : Option Bool :=
 cond (((decide (xa < 0)) || (decide (10 < xa))) || (decide (30 < (((xb.length : Nat) : Int))))) ((fn_law06_awake).bind fun t17433 => some (t17433)) ((fn_matrix_New xa xa).bind fun o => match o with | .inl i17439 => some (false) | .inr (i17443, i17444, l17445) => cond (!decide (i17443 = 0)) (some (false)) ((loop (fn_law06_MatrixCloses_l1 xb i17444) (0, l17445) : Option ((List (Option (Int × (List Int)))))).bind fun l17783 => (fn_matrix_Matrix_Close_p0_iod i17444 l17783).bind fun (i18126, l18127) => (loop (fn_law06_MatrixCloses_l4 xa i17444 l18127) 0 : Option (Unit ⊕ Bool)).bind fun o => match o with | .inr r => some r | .inl () => (fn_matrix_Matrix_Close_p0_iod i17444 l18127).bind fun (i34678, l34679) => (cond (decide (i34678 = 0)) ((fn_matrix_Matrix_Rows_z).bind fun i34695 => some (decide (i34695 = 0))) (some (false))).bind fun t34691 => (cond (t34691) ((fn_matrix_Matrix_Cols_z).bind fun i34710 => some (decide (i34710 = 0))) (some (false))).bind fun t34706 => (cond (t34706) ((fn_matrix_Matrix_Has ((none : (Option (Int × (List (Option (Int × (List Int)))))))) 0 0).bind fun t34725 => some (!t34725)) (some (false))).bind fun t34721 => (cond (t34721) ((fn_matrix_Matrix_Add_zii 0 0).bind fun t34740 => some (!t34740)) (some (false))).bind fun t34736 => (cond (t34736) ((fn_matrix_Matrix_Or_zii 0 0).bind fun t34755 => some (!t34755)) (some (false))).bind fun t34751 => (cond (t34751) ((fn_matrix_Matrix_Count_z).bind fun i34770 => some (decide (i34770 = 0))) (some (false))).bind fun t34766 => (cond (t34766) ((fn_matrix_Matrix_Close_z).bind fun i34785 => some (decide (i34785 = 0))) (some (false))).bind fun t34781 => (cond (t34781) ((fn_matrix_Matrix_Row ((none : (Option (Int × (List (Option (Int × (List Int)))))))) 0).bind fun l34804 => some (decide ((((l34804.length : Nat) : Int)) = 0))) (some (false))).bind fun t34800 => (cond (t34800) ((fn_matrix_Matrix_Col ((none : (Option (Int × (List (Option (Int × (List Int)))))))) 0).bind fun l34827 => some (decide ((((l34827.length : Nat) : Int)) = 0))) (some (false))).bind fun t34823 => (cond (t34823) ((fn_law06_awake).bind fun t34846 => some (t34846)) (some (false))).bind fun t34842 => some (t34842)))
noncomputable def h_law06_MatrixCloses : Hn Tryd.prog := .gp 2 (.wt 18 (.gp 3 (.tw 22 (.cl ok_law06_awake [] (.nil)) (.c2 ok_matrix_New [] (.nil) (.tw 35 (.nil) (.jn [(0, 0)] ⟨[], [⟨(some 0), 49, [.is 1 (.any), .od (.row 53 (.box 61 (.cons (.dat (.int .i64)) (.one (.row 58 (.dat (.int .u64)))))))], false, false, none, false⟩, ⟨(some 4), 0, [], false, true, none, false⟩]⟩ [0, 1] (.lp ⟨[(7, .dat (.int .i64))], [⟨(some 0), 49, [.is 1 (.any), .od (.row 53 (.box 61 (.cons (.dat (.int .i64)) (.one (.row 58 (.dat (.int .u64)))))))], false, false, none, false⟩, ⟨(some 4), 0, [], false, true, none, false⟩]⟩ (.tw 39 (.mix [] [0, 1, 2, 3, 4, 5, 6, 7, 8, 9, 10] [11] [] (.cl ok_matrix_Matrix_Add_p0ii_iod [] (.nil))) (.nil))) (.cl ok_matrix_Matrix_Close_p0_iod [] (.jx [] ⟨[], []⟩ [] (.lp ⟨[(8, .dat (.int .i64))], []⟩ (.tw 58 (.pl (.pl (.jx [] ⟨[], []⟩ [] (.lp ⟨[(9, .dat (.int .i64))], []⟩ (.tw 63 (.pl (.pl (.jx [] ⟨[], []⟩ [] (.lp ⟨[(10, .dat (.int .i64))], []⟩ (.tw 68 (.cl ok_matrix_Matrix_Has [11, 0] (.gj 4 ⟨[(80, .dat .bool)], []⟩ [] (.two 75 (.cl ok_matrix_Matrix_Has [11, 0] (.nil)) (.nil)) (.wt 81 (.gj 5 ⟨[(87, .dat .bool)], []⟩ [] (.two 81 (.cl ok_matrix_Matrix_Has [11, 0] (.nil)) (.nil)) (.tw 87 (.nil) (.nil)))))) (.nil))) (.nil)))) (.nil))) (.nil)))) (.nil))) (.cl ok_matrix_Matrix_Close_p0_iod [] (.gj 3 ⟨[(95, .dat .bool)], []⟩ [] (.two 91 (.cl ok_matrix_Matrix_Rows_z [] (.nil)) (.nil)) (.wt 96 (.gj 3 ⟨[(100, .dat .bool)], []⟩ [] (.two 96 (.cl ok_matrix_Matrix_Cols_z [] (.nil)) (.nil)) (.wt 101 (.gj 3 ⟨[(105, .dat .bool)], []⟩ [] (.two 101 (.cl ok_matrix_Matrix_Has [] (.nil)) (.nil)) (.wt 106 (.gj 3 ⟨[(110, .dat .bool)], []⟩ [] (.two 106 (.cl ok_matrix_Matrix_Add_zii [] (.nil)) (.nil)) (.wt 111 (.gj 3 ⟨[(115, .dat .bool)], []⟩ [] (.two 111 (.cl ok_matrix_Matrix_Or_zii [] (.nil)) (.nil)) (.wt 116 (.gj 3 ⟨[(120, .dat .bool)], []⟩ [] (.two 116 (.cl ok_matrix_Matrix_Count_z [] (.nil)) (.nil)) (.wt 121 (.gj 3 ⟨[(125, .dat .bool)], []⟩ [] (.two 121 (.cl ok_matrix_Matrix_Close_z [] (.nil)) (.nil)) (.wt 126 (.gj 4 ⟨[(131, .dat .bool)], []⟩ [] (.two 126 (.cl ok_matrix_Matrix_Row [] (.nil)) (.nil)) (.wt 132 (.gj 4 ⟨[(137, .dat .bool)], []⟩ [] (.two 132 (.cl ok_matrix_Matrix_Col [] (.nil)) (.nil)) (.wt 138 (.gj 1 ⟨[(140, .dat .bool)], []⟩ [] (.two 138 (.cl ok_law06_awake [] (.nil)) (.nil)) (.nil)))))))))))))))))))))))))))))
noncomputable def sp_law06_MatrixCloses : Spec := ⟨4, ⟨[(0, .dat (.int .i64)), (1, .dat (.sl (.cons (.int .i64) (.one (.int .i64)))))], []⟩, [⟨[(0, .dat .bool)], []⟩], fun x => fn_law06_MatrixCloses x.1 x.2⟩
theorem law06_MatrixCloses_is : SpecOk Tryd.prog sp_law06_MatrixCloses := fn_is Tryd.func4 h_law06_MatrixCloses (by kernel_rfl) (by kernel_rfl)
noncomputable def ok_law06_MatrixCloses : OkSpec Tryd.prog := ⟨sp_law06_MatrixCloses, law06_MatrixCloses_is, Tryd.call4⟩
noncomputable def fn_law06_MatrixTurns_l1 (xa : Int) (xb : Int) (xc : (List (Int × Int))) (i5242 : Int) : (Int × (List (Option (Int × (List Int))))) → Option ((Int × (List (Option (Int × (List Int))))) ⊕ ((List (Option (Int × (List Int)))) ⊕ Bool)) := fun ((i7705, l7706) : (Int × (List (Option (Int × (List Int)))))) => cond (decide (i7705 < (((xc.length : Nat) : Int)))) ((getI xc i7705).bind fun x8401 => (getI xc i7705).bind fun x8410 => (fn_matrix_Matrix_Has (some (i5242, l7706)) x8401.1 x8410.2).bind fun t8421 => (getI xc i7705).bind fun x8505 => (getI xc i7705).bind fun x8514 => (fn_matrix_Matrix_Add_p0ii_iod x8505.1 x8514.2 i5242 l7706).bind fun (t8525, l8526) => (getI xc i7705).bind fun x8603 => (cond (decide (0 ≤ x8603.1)) ((getI xc i7705).bind fun x8624 => some (decide (x8624.1 < xa))) (some (false))).bind fun t8622 => (cond (t8622) ((getI xc i7705).bind fun x8645 => some (decide (0 ≤ x8645.2))) (some (false))).bind fun t8643 => (cond (t8643) ((getI xc i7705).bind fun x8666 => some (decide (x8666.2 < xb))) (some (false))).bind fun t8664 => cond (t8664) (cond (!(t8525 == (!t8421))) (some (.inr ((.inr (false))))) ((getI xc i7705).bind fun x8881 => (getI xc i7705).bind fun x8890 => (fn_matrix_Matrix_Has (some (i5242, l8526)) x8881.1 x8890.2).bind fun t8901 => cond (!(t8901 == t8664)) (some (.inr ((.inr (false))))) (some (.inl ((IntKind.wrap .i64 (i7705 + 1), l8526)))))) (cond (!(t8525 == false)) (some (.inr ((.inr (false))))) ((getI xc i7705).bind fun x8907 => (getI xc i7705).bind fun x8916 => (fn_matrix_Matrix_Has (some (i5242, l8526)) x8907.1 x8916.2).bind fun t8927 => cond (!(t8927 == t8664)) (some (.inr ((.inr (false))))) (some (.inl ((IntKind.wrap .i64 (i7705 + 1), l8526))))))) (some (.inr (.inl l7706)))
noncomputable def fn_law06_MatrixTurns_l2 (xa : Int) (i5242 : Int) (l7090 : (List (Option (Int × (List Int))))) : (Int × Int) → Option ((Int × Int) ⊕ Int) := fun ((i9026, i9027) : (Int × Int)) => cond (decide (i9027 < xa)) ((fn_matrix_Matrix_Row (some (i5242, l7090)) i9027).bind fun l9065 => some (.inl ((IntKind.wrap .i64 (i9026 + (((l9065.length : Nat) : Int))), IntKind.wrap .i64 (i9027 + 1))))) (some (.inr (i9026)))
noncomputable def fn_law06_MatrixTurns_l3 (i5242 : Int) (l7090 : (List (Option (Int × (List Int))))) (i9872 : Int) (l10086 : (List Int)) : Int → Option (Int ⊕ (Unit ⊕ ((Int × Int) ⊕ (Int ⊕ Bool)))) := fun (i10211 : Int) => cond (decide (i10211 < (((l10086.length : Nat) : Int)))) ((getI l10086 i10211).bind fun x10256 => (fn_matrix_Matrix_Has (some (i5242, l7090)) x10256 i9872).bind fun t10265 => cond (!t10265) (some (.inr ((.inr (.inr ((.inr (false)))))))) (some (.inl (IntKind.wrap .i64 (i10211 + 1))))) (some (.inr ((.inl ()))))
noncomputable def fn_law06_MatrixTurns_l4 (xb : Int) (i5242 : Int) (l7090 : (List (Option (Int × (List Int))))) : (Int × Int) → Option ((Int × Int) ⊕ (Int ⊕ Bool)) := fun ((i9871, i9872) : (Int × Int)) => cond (decide (i9872 < xb)) ((fn_matrix_Matrix_Col (some (i5242, l7090)) i9872).bind fun l10086 => (loop (fn_law06_MatrixTurns_l3 i5242 l7090 i9872 l10086) 0 : Option (Unit ⊕ ((Int × Int) ⊕ (Int ⊕ Bool)))).bind fun o => match o with | .inr r => some r | .inl () => some (.inl ((IntKind.wrap .i64 (i9871 + (((l10086.length : Nat) : Int))), IntKind.wrap .i64 (i9872 + 1))))) (some (.inr (.inl i9871)))
noncomputable def fn_law06_MatrixTurns (xa : Int) (xb : Int) (xc : (List (Int × Int))) : Option Bool :=
 cond (((((decide (xa < 0)) || (decide (xb < 0))) || (decide (10 < xa))) || (decide (10 < xb))) || (decide (30 < (((xc.length : Nat) : Int))))) ((fn_law06_awake).bind fun t5231 => some (t5231)) ((fn_matrix_New xa xb).bind fun o => match o with | .inl i5237 => some (false) | .inr (i5241, i5242, l5243) => cond (!decide (i5241 = 0)) (some (false)) ((loop (fn_law06_MatrixTurns_l1 xa xb xc i5242) (0, l5243) : Option ((List (Option (Int × (List Int)))) ⊕ Bool)).bind fun o => match o with | .inr r => some r | .inl l7090 => (loop (fn_law06_MatrixTurns_l2 xa i5242 l7090) (0, 0) : Option Int).bind fun i9002 => (loop (fn_law06_MatrixTurns_l4 xb i5242 l7090) (0, 0) : Option (Int ⊕ Bool)).bind fun o => match o with | .inr r => some r | .inl i9671 => (fn_matrix_Matrix_Count_p0_iod i5242 l7090).bind fun (i10298, l10299) => (cond ((decide (i9002 = i10298)) && (decide (i9671 = i9002))) ((fn_law06_awake).bind fun t10318 => some (t10318)) (some (false))).bind fun t10314 => some (t10314)))
noncomputable def h_law06_MatrixTurns : Hn Tryd.prog := .gp 2 (.wt 25 (.gp 2 (.wt 29 (.gp 2 (.wt 33 (.gp 3 (.tw 37 (.cl ok_law06_awake [] (.nil)) (.c2 ok_matrix_New [] (.nil) (.tw 50 (.nil) (.jx [(0, 0)] ⟨[], [⟨(some 0), 49, [.is 1 (.any), .od (.row 53 (.box 61 (.cons (.dat (.int .i64)) (.one (.row 58 (.dat (.int .u64)))))))], false, false, none, false⟩, ⟨(some 4), 0, [], false, true, none, false⟩]⟩ [0, 1] (.lp ⟨[(9, .dat (.int .i64))], [⟨(some 0), 49, [.is 1 (.any), .od (.row 53 (.box 61 (.cons (.dat (.int .i64)) (.one (.row 58 (.dat (.int .u64)))))))], false, false, none, false⟩, ⟨(some 4), 0, [], false, true, none, false⟩]⟩ (.tw 54 (.mix [] [0, 1, 2, 3, 4, 5, 6, 7, 8, 9, 10] [11, 12] [] (.cl ok_matrix_Matrix_Has [5, 0] (.mix [] [0, 1, 2, 3, 4, 5, 6, 7, 8, 9, 10] [11, 12] [] (.cl ok_matrix_Matrix_Add_p0ii_iod [] (.gj 7 ⟨[(95, .dat .bool)], []⟩ [] (.two 87 (.nil) (.nil)) (.wt 96 (.gj 6 ⟨[(103, .dat .bool)], []⟩ [] (.two 96 (.nil) (.nil)) (.wt 104 (.gj 7 ⟨[(112, .dat .bool)], []⟩ [] (.two 104 (.nil) (.nil)) (.mix [([0, 1, 2, 3, 4, 5, 6, 7, 8, 9, 10, 11, 12, 13, 14, 15, 16, 17, 18, 20], 19)] [21, 22] [] [] (.two 115 (.two 120 (.nil) (.cl ok_matrix_Matrix_Has [11, 0] (.tw 135 (.nil) (.nil)))) (.two 120 (.nil) (.cl ok_matrix_Matrix_Has [11, 0] (.tw 135 (.nil) (.nil))))))))))))))) (.nil))) (.jn [] ⟨[(13, .dat (.int .i64))], []⟩ [] (.lp ⟨[(13, .dat (.int .i64)), (15, .dat (.int .i64))], []⟩ (.tw 138 (.cl ok_matrix_Matrix_Row [5, 0] (.nil)) (.nil))) (.jx [] ⟨[(14, .dat (.int .i64))], []⟩ [] (.lp ⟨[(14, .dat (.int .i64)), (16, .dat (.int .i64))], []⟩ (.tw 149 (.cl ok_matrix_Matrix_Col [5, 0] (.jx [] ⟨[], []⟩ [] (.lp ⟨[(18, .dat (.int .i64))], []⟩ (.tw 162 (.cl ok_matrix_Matrix_Has [5, 0] (.tw 172 (.nil) (.nil))) (.nil))) (.nil))) (.nil))) (.cl ok_matrix_Matrix_Count_p0_iod [] (.gp 3 (.wt 182 (.gj 1 ⟨[(184, .dat .bool)], []⟩ [] (.two 182 (.cl ok_law06_awake [] (.nil)) (.nil)) (.nil)))))))))))))))))
noncomputable def sp_law06_MatrixTurns : Spec := ⟨5, ⟨[(0, .dat (.int .i64)), (1, .dat (.int .i64)), (2, .dat (.sl (.cons (.int .i64) (.one (.int .i64)))))], []⟩, [⟨[(0, .dat .bool)], []⟩], fun x => fn_law06_MatrixTurns x.1 x.2.1 x.2.2⟩
theorem law06_MatrixTurns_is : SpecOk Tryd.prog sp_law06_MatrixTurns := fn_is Tryd.func5 h_law06_MatrixTurns (by kernel_rfl) (by kernel_rfl)
noncomputable def ok_law06_MatrixTurns : OkSpec Tryd.prog := ⟨sp_law06_MatrixTurns, law06_MatrixTurns_is, Tryd.call5⟩
section
section
variable {σ β : Type} {body : σ → Option (σ ⊕ β)}
theorem loop_nat (st : Nat → σ) (n : Nat) {b : β} (h : ∀ k, k < n → body (st k) = some (.inl (st (k + 1)))) (he : body (st n) = some (.inr b)) : loop body (st 0) = some b := by
 have : ∀ m k, k + m = n → loop body (st k) = some b := by
   intro m
   induction m with
   | zero => intro k hk; have : k = n := by omega
             subst this; exact loop_end he
   | succ m ih => intro k hk; rw [loop_next (h k (by omega))]; exact ih (k + 1) (by omega)
 exact this n 0 (by omega)
theorem least (p : Nat → Prop) : ∀ n, (∃ k, k < n ∧ p k ∧ ∀ j, j < k → ¬ p j) ∨ ∀ j, j < n → ¬ p j
 | 0 => .inr (fun j hj => by omega)
 | n + 1 => by
   rcases least p n with ⟨k, h1, h2, h3⟩ | h
   · exact .inl ⟨k, by omega, h2, h3⟩
   · by_cases hp : p n
     · exact .inl ⟨n, by omega, hp, h⟩
     · exact .inr (fun j hj => if e : j = n then e ▸ hp else h j (by omega))
theorem loop_find (p : Nat → Prop) (st : Nat → σ) (n : Nat) (hit : Nat → β) (e : β) (hgo : ∀ k, k < n → ¬ p k → body (st k) = some (.inl (st (k + 1)))) (hhit : ∀ k, k < n → p k → body (st k) = some (.inr (hit k))) (hend : body (st n) = some (.inr e)) :
   (∃ k, k < n ∧ p k ∧ (∀ j, j < k → ¬ p j) ∧ loop body (st 0) = some (hit k)) ∨ ((∀ j, j < n → ¬ p j) ∧ loop body (st 0) = some e) := by
 rcases least p n with ⟨k, h1, h2, h3⟩ | h
 · exact .inl ⟨k, h1, h2, h3, loop_nat st k (fun j hj => hgo j (by omega) (h3 j hj)) (hhit k h1 h2)⟩
 · exact .inr ⟨h, loop_nat st n (fun k hk => hgo k hk (h k hk)) hend⟩
open Classical in
theorem loop_any (p : Nat → Prop) (st : Nat → σ) (n : Nat) (b e : β) (hgo : ∀ k, k < n → ¬ p k → body (st k) = some (.inl (st (k + 1)))) (hhit : ∀ k, k < n → p k → body (st k) = some (.inr b)) (hend : body (st n) = some (.inr e)) :
   loop body (st 0) = some (if ∃ k, k < n ∧ p k then b else e) := by
 rcases loop_find p st n (fun _ => b) e hgo hhit hend with ⟨k, h1, h2, h3, h4⟩ | ⟨h1, h2⟩
 · rw [if_pos ⟨k, h1, h2⟩]; exact h4
 · rw [if_neg (fun ⟨k, h3, h4⟩ => h1 k h3 h4)]; exact h2
end
theorem w64 {x : Int} (h1 : -9223372036854775808 ≤ x) (h2 : x ≤ 9223372036854775807) : IntKind.wrap .i64 x = x := by
 rw [IntWalk.i64_left, IntWalk.wrap64_in _ ⟨h1, h2⟩]
theorem w64s {k n : Nat} (h : k < n) (hn : n ≤ 9223372036854775807) : IntKind.wrap .i64 ((k : Int) + 1) = ((k + 1 : Nat) : Int) := by
 rw [w64 (by omega) (by omega)]; rfl
theorem ne_list {α : Type} {xs ys : List α} (h : xs.length = ys.length) : (∃ k, k < xs.length ∧ xs[k]? ≠ ys[k]?) ↔ xs ≠ ys := by
 constructor
 · rintro ⟨k, _, h2⟩ rfl; exact h2 rfl
 · intro hne
   rcases least (fun k => xs[k]? ≠ ys[k]?) xs.length with ⟨k, h1, h2, _⟩ | h'
   · exact ⟨k, h1, h2⟩
   · exfalso; apply hne
     apply List.ext_getElem? 
     intro k
     by_cases hk : k < xs.length
     · exact Classical.byContradiction (fun hc => h' k hk hc)
     · rw [List.getElem?_eq_none (by omega), List.getElem?_eq_none (by omega)]
theorem getN {α : Type} {l : List α} {k : Nat} (h : k < l.length) : getI l (k : Int) = some l[k] := getI_eq rfl h
theorem any_ex {α : Type} {t : α → Bool} {l : List α} : l.any t = true ↔ ∃ k, k < l.length ∧ (l[k]?.map t) = some true := by
 rw [List.any_eq_true]
 constructor
 · rintro ⟨x, hx, h⟩
   obtain ⟨k, hk, rfl⟩ := List.getElem_of_mem hx
   exact ⟨k, hk, by simp [hk, h]⟩
 · rintro ⟨k, hk, h⟩
   exact ⟨l[k], List.getElem_mem hk, by simpa [hk] using h⟩
theorem loop_one {α β : Type} (xa : List α) (t : α → Bool) (hit e : β) (hn : xa.length ≤ 9223372036854775807) :
   loop (fun (i : Int) => (cond (decide (i < ((xa.length : Nat) : Int))) ((getI xa i).bind fun x => cond (t x) (some (.inr hit)) (some (.inl (IntKind.wrap .i64 (i + 1))))) (some (.inr e)) : Option (Int ⊕ β))) 0 = some (if xa.any t then hit else e) := by
 classical
 have h := loop_any (body := fun (i : Int) => (cond (decide (i < ((xa.length : Nat) : Int))) ((getI xa i).bind fun x => cond (t x) (some (.inr hit)) (some (.inl (IntKind.wrap .i64 (i + 1))))) (some (.inr e)) : Option (Int ⊕ β)))
   (fun k => (xa[k]?.map t) = some true) (fun k : Nat => (k : Int)) xa.length hit e ?_ ?_ ?_
 · refine h.trans ?_
   by_cases hh : xa.any t = true
   · rw [if_pos (any_ex.1 hh), if_pos hh]
   · rw [if_neg (fun h => hh (any_ex.2 h)), if_neg hh]
 · intro k hk hp
   simp [hk] at hp
   simp [hk, getN hk, hp, w64s hk hn]
 · intro k hk hp
   simp [hk] at hp
   simp [hk, getN hk, hp]
 · simp
theorem loop_two {α γ β : Type} (xa : List α) (xb : List γ) (t : α → γ → Bool) (hit e : β) (hl : xa.length = xb.length) (hn : xa.length ≤ 9223372036854775807) :
   loop (fun (i : Int) => (cond (decide (i < ((xa.length : Nat) : Int))) ((getI xa i).bind fun x => (getI xb i).bind fun y => cond (t x y) (some (.inr hit)) (some (.inl (IntKind.wrap .i64 (i + 1))))) (some (.inr e)) : Option (Int ⊕ β))) 0 = some (if (xa.zip xb).any (fun p => t p.1 p.2) then hit else e) := by
 classical
 have hz : (xa.zip xb).length = xa.length := by simp [hl]
 have h := loop_any (body := fun (i : Int) => (cond (decide (i < ((xa.length : Nat) : Int))) ((getI xa i).bind fun x => (getI xb i).bind fun y => cond (t x y) (some (.inr hit)) (some (.inl (IntKind.wrap .i64 (i + 1))))) (some (.inr e)) : Option (Int ⊕ β)))
   (fun k => ((xa.zip xb)[k]?.map fun p => t p.1 p.2) = some true) (fun k : Nat => (k : Int)) xa.length hit e ?_ ?_ ?_
 · refine h.trans ?_
   have ha := any_ex (t := fun p : α × γ => t p.1 p.2) (l := xa.zip xb)
   rw [hz] at ha
   by_cases hh : (xa.zip xb).any (fun p => t p.1 p.2) = true
   · rw [if_pos (ha.1 hh), if_pos hh]
   · rw [if_neg (fun h => hh (ha.2 h)), if_neg hh]
 · intro k hk hp
   have hk2 : k < xb.length := by omega
   have hk3 : k < (xa.zip xb).length := by omega
   have hz3 : (xa.zip xb)[k]? = some (xa[k], xb[k]) := by rw [List.getElem?_eq_getElem hk3, List.getElem_zip]
   rw [hz3] at hp
   simp at hp
   simp [hk, getN hk, getN hk2, hp, w64s hk hn]
 · intro k hk hp
   have hk2 : k < xb.length := by omega
   have hk3 : k < (xa.zip xb).length := by omega
   have hz3 : (xa.zip xb)[k]? = some (xa[k], xb[k]) := by rw [List.getElem?_eq_getElem hk3, List.getElem_zip]
   rw [hz3] at hp
   simp at hp
   simp [hk, getN hk, getN hk2, hp]
 · simp
theorem zip_any_ne {α : Type} [DecidableEq α] {xs ys : List α} (h : xs.length = ys.length) : (xs.zip ys).any (fun p => !decide (p.1 = p.2)) = !decide (xs = ys) := by
 induction xs generalizing ys with
 | nil => cases ys with
   | nil => rfl
   | cons => cases h
 | cons x xs ih => cases ys with
   | nil => cases h
   | cons y ys =>
     simp only [List.zip_cons_cons, List.any_cons, ih (by simpa using h), List.cons.injEq]
     by_cases h1 : x = y <;> simp [h1]
theorem loop_idx {α γ : Type} (xa : List α) (t : α → γ → Bool) (q : γ) (hn : xa.length ≤ 9223372036854775807) :
   ∃ r, loop (fun ((i, c) : Int × γ) => (cond (decide (i < ((xa.length : Nat) : Int))) ((getI xa i).bind fun x => cond (t x c) (some (.inr (.inr (i, c)))) (some (.inl (IntKind.wrap .i64 (i + 1), c)))) (some (.inr (.inl c))) : Option ((Int × γ) ⊕ (γ ⊕ (Int × γ))))) (0, q) = some r ∧ ((r = .inl q ∧ xa.any (t · q) = false) ∨ ∃ k : Nat, r = .inr ((k : Int), q) ∧ xa.any (t · q) = true) := by
 have h := loop_find (body := fun ((i, c) : Int × γ) => (cond (decide (i < ((xa.length : Nat) : Int))) ((getI xa i).bind fun x => cond (t x c) (some (.inr (.inr (i, c)))) (some (.inl (IntKind.wrap .i64 (i + 1), c)))) (some (.inr (.inl c))) : Option ((Int × γ) ⊕ (γ ⊕ (Int × γ)))))
   (fun k => (xa[k]?.map (t · q)) = some true) (fun k : Nat => ((k : Int), q)) xa.length (fun k => .inr ((k : Int), q)) (.inl q) ?_ ?_ ?_
 · rcases h with ⟨k, h1, h2, _, h3⟩ | ⟨h1, h2⟩
   · exact ⟨_, h3, .inr ⟨k, rfl, any_ex.2 ⟨k, h1, h2⟩⟩⟩
   · refine ⟨_, h2, .inl ⟨rfl, ?_⟩⟩
     cases hh : xa.any (t · q) with
     | false => rfl
     | true => obtain ⟨k, h3, h4⟩ := any_ex.1 hh; exact absurd h4 (h1 k h3)
 · intro k hk hp
   simp [hk] at hp
   simp [hk, getN hk, hp, w64s hk hn]
 · intro k hk hp
   simp [hk] at hp
   simp [hk, getN hk, hp]
 · simp
theorem loop_fold {α γ : Type} (xa : List α) (f : γ → α → γ) (c0 : γ) (hn : xa.length ≤ 9223372036854775807) {body : γ × Int → Option ((γ × Int) ⊕ γ)}
   (hb : ∀ k x, xa[k]? = some x → body ((xa.take k).foldl f c0, (k : Int)) = some (.inl (f ((xa.take k).foldl f c0) x, IntKind.wrap .i64 ((k : Int) + 1)))) (he : body (xa.foldl f c0, (xa.length : Int)) = some (.inr (xa.foldl f c0))) : loop body (c0, 0) = some (xa.foldl f c0) := by
 have h := loop_nat (body := body) (fun k : Nat => ((xa.take k).foldl f c0, (k : Int))) xa.length (b := xa.foldl f c0) ?_ ?_
 · simpa using h
 · intro k hk
   rw [hb k xa[k] (by simp [hk]), w64s hk hn]
   congr 3
   rw [List.take_succ_eq_append_getElem hk, List.foldl_append]; rfl
 · simpa using he
theorem foldl_snoc {α γ : Type} (g : α → γ) (xa : List α) (c : List γ) : xa.foldl (fun c x => c ++ [g x]) c = c ++ xa.map g := by
 induction xa generalizing c with
 | nil => simp
 | cons x xa ih => simp [ih]
theorem loop_map {α γ : Type} (xa : List α) (g : α → γ) (c0 : List γ) (hn : c0.length + xa.length ≤ 1073741824) {body : List γ × Int → Option ((List γ × Int) ⊕ List γ)}
   (hb : ∀ (c : List γ) (i : Int), body (c, i) = cond (decide (i < ((xa.length : Nat) : Int))) ((getI xa i).bind fun x => (app c [g x]).bind fun z => some (.inl (z, IntKind.wrap .i64 (i + 1)))) (some (.inr c))) : loop body (c0, 0) = some (c0 ++ xa.map g) := by
 rw [← foldl_snoc]
 refine loop_fold xa (fun c x => c ++ [g x]) c0 (by omega) (fun k x hx => ?_) ?_
 · have hk := (List.getElem?_eq_some_iff.1 hx).1
   rw [hb, foldl_snoc]
   have hx' : xa[k] = x := by rw [List.getElem?_eq_getElem hk] at hx; exact Option.some.inj hx
   have ha := app_eq (a := c0 ++ (xa.take k).map g) (b := [g x]) (by simp; omega)
   simp only [Option.bind_some, getN hk, hx', ha, Int.ofNat_lt.2 hk, decide_true, cond_true]
 · rw [hb]; simp
end
theorem ofInt_nat (x : Nat) : BitVec.ofInt 64 (x : Int) = BitVec.ofNat 64 x := by simp
theorem wrapU (x : Nat) (h : x < 18446744073709551616) : IntKind.wrap .u64 (x : Int) = (x : Int) := by
 rw [IntKind.wrap_u64]
 omega
theorem pow_lt64 {k : Nat} (hk : k < 64) : 2 ^ k < 18446744073709551616 := Nat.pow_lt_pow_right (by decide) hk
theorem one_pow {k : Nat} (hk : k < 64) : IntKind.wrap .u64 (1 * 2 ^ (min k (IntKind.bits .u64))) = ((2 ^ k : Nat) : Int) := by
 have h1 : min k (IntKind.bits .u64) = k := Nat.min_eq_left (Nat.le_of_lt hk)
 rw [h1, Int.one_mul]
 have := wrapU (2 ^ k) (pow_lt64 hk)
 rw [← this]
 congr 1
theorem andU (x y : Nat) (hx : x < 18446744073709551616) (hy : y < 18446744073709551616) : IntKind.wrap .u64 ((BitVec.ofInt (IntKind.bits .u64) (x : Int) &&& BitVec.ofInt (IntKind.bits .u64) (y : Int)).toNat : Int) = ((x &&& y : Nat) : Int) := by
 show IntKind.wrap .u64 ((BitVec.ofInt 64 (x : Int) &&& BitVec.ofInt 64 (y : Int)).toNat : Int) = _
 rw [ofInt_nat, ofInt_nat, BitVec.toNat_and, BitVec.toNat_ofNat, BitVec.toNat_ofNat, Nat.mod_eq_of_lt hx, Nat.mod_eq_of_lt hy]
 exact wrapU _ (Nat.and_lt_two_pow (n := 64) _ hy)
theorem orU (x y : Nat) (hx : x < 18446744073709551616) (hy : y < 18446744073709551616) : IntKind.wrap .u64 ((BitVec.ofInt (IntKind.bits .u64) (x : Int) ||| BitVec.ofInt (IntKind.bits .u64) (y : Int)).toNat : Int) = ((x ||| y : Nat) : Int) := by
 show IntKind.wrap .u64 ((BitVec.ofInt 64 (x : Int) ||| BitVec.ofInt 64 (y : Int)).toNat : Int) = _
 rw [ofInt_nat, ofInt_nat, BitVec.toNat_or, BitVec.toNat_ofNat, BitVec.toNat_ofNat, Nat.mod_eq_of_lt hx, Nat.mod_eq_of_lt hy]
 exact wrapU _ (Nat.or_lt_two_pow (n := 64) hx hy)
theorem and_bit (x k : Nat) : (x &&& 2 ^ k = 0) ↔ x.testBit k = false := by
 constructor
 · intro h
   have := congrArg (fun n => n.testBit k) h
   simpa [Nat.testBit_and, Nat.testBit_two_pow_self] using this
 · intro h
   apply Nat.eq_of_testBit_eq
   intro i
   rw [Nat.testBit_and, Nat.testBit_two_pow, Nat.zero_testBit]
   by_cases hi : k = i
   · subst hi; simp [h]
   · simp [hi]
theorem or_bit (x k i : Nat) : (x ||| 2 ^ k).testBit i = (x.testBit i || decide (k = i)) := by
 rw [Nat.testBit_or, Nat.testBit_two_pow]
def Wd (w : Int) : Prop := 0 ≤ w ∧ w < 18446744073709551616
def mem (l : List Int) (i : Nat) : Bool := match l[i / 64]? with | some w => w.toNat.testBit (i % 64) | none => false
structure Ds (n : Nat) (l : List Int) : Prop where
 hn : n ≤ 1048576
 len : l.length = (n + 63) / 64
 wd : ∀ w ∈ l, Wd w
 top : ∀ i, n ≤ i → mem l i = false
theorem mayHave_some {n : Nat} {l : List Int} (i : Int) : fn_dense_Set_mayHave (some ((n : Int), l)) i = some (decide (0 ≤ i ∧ i < n)) := by
 unfold fn_dense_Set_mayHave
 rw [show fn_dense_Set_Size (some ((n : Int), l)) = some (n : Int) from rfl]
 by_cases h : 0 ≤ i
 · simp [h]
 · simp [h]
theorem Ds.word {n : Nat} {l : List Int} (h : Ds n l) {k : Nat} (hk : k < n) : ∃ x : Nat, l[k / 64]? = some (x : Int) ∧ x < 18446744073709551616 := by
 have hl : k / 64 < l.length := by rw [h.len]; omega
 refine ⟨(l[k / 64]).toNat, ?_, ?_⟩
 · rw [List.getElem?_eq_getElem hl, Int.toNat_of_nonneg (h.wd _ (List.getElem_mem hl)).1]
 · have := h.wd _ (List.getElem_mem hl)
   unfold Wd at this
   omega
theorem mem_of {l : List Int} {k x : Nat} (h : l[k / 64]? = some (x : Int)) : mem l k = x.testBit (k % 64) := by
 unfold mem
 rw [h]
 simp
theorem Has_some {n : Nat} {l : List Int} (h : Ds n l) (i : Int) : fn_dense_Set_Has (some ((n : Int), l)) i = some (decide (0 ≤ i ∧ i < n) && mem l i.toNat) := by
 unfold fn_dense_Set_Has
 rw [mayHave_some]
 by_cases hi : 0 ≤ i ∧ i < n
 · obtain ⟨k, rfl⟩ := Int.eq_ofNat_of_zero_le hi.1
   have hk : k < n := by omega
   have hn := h.hn
   obtain ⟨x, hx, hx2⟩ := h.word hk
   have e1 : IntKind.wrap .i64 (Int.tdiv (k : Int) 64) = ((k / 64 : Nat) : Int) := by
     rw [show Int.tdiv (k : Int) 64 = ((k / 64 : Nat) : Int) from rfl]
     exact w64 (by omega) (by omega)
   have e2 : Int.tmod (k : Int) 64 = ((k % 64 : Nat) : Int) := rfl
   have g : getI l ((k / 64 : Nat) : Int) = some (x : Int) := by
     unfold getI
     rw [if_pos (Int.natCast_nonneg _), Int.toNat_natCast]
     exact hx
   have hd : decide (0 ≤ (k : Int) ∧ (k : Int) < n) = true := by simpa using hk
   rw [hd, e1, e2]
   simp only [Option.bind_some, cond_true, g, ge0_eq (Int.natCast_nonneg _), Int.toNat_natCast, Bool.true_and]
   have E : IntKind.wrap .u64 ((BitVec.ofInt (IntKind.bits .u64) (x : Int) &&& BitVec.ofInt (IntKind.bits .u64) (IntKind.wrap .u64 (1 * 2 ^ (min (k % 64) (IntKind.bits .u64))))).toNat : Int) = ((x &&& 2 ^ (k % 64) : Nat) : Int) := by
     rw [one_pow (Nat.mod_lt k (by decide))]
     exact andU x _ hx2 (pow_lt64 (Nat.mod_lt k (by decide)))
   simp only [E, mem_of hx]
   have hb := and_bit x (k % 64)
   cases ht : x.testBit (k % 64) with
   | false => simp [hb.2 ht]
   | true =>
     have : ¬ (x &&& 2 ^ (k % 64) = 0) := fun e => by rw [hb.1 e] at ht; cases ht
     have h2 : ¬ (((x &&& 2 ^ (k % 64) : Nat) : Int) = 0) := by omega
     rw [decide_eq_false h2]
     rfl
 · rw [decide_eq_false hi]
   rfl
theorem memW_set {l : List Int} {q x y : Nat} (hq : l[q]? = some (x : Int)) (j : Nat) : mem (l.set q (y : Int)) j = if j / 64 = q then y.testBit (j % 64) else mem l j := by
 unfold mem
 rw [List.getElem?_set]
 have hlt : q < l.length := (List.getElem?_eq_some_iff.1 hq).1
 by_cases hj : j / 64 = q
 · rw [if_pos hj.symm, if_pos hj, ← hj] 
   simp [hj, hlt]
 · rw [if_neg (fun e => hj e.symm), if_neg hj]
theorem Add_some {n : Nat} {l : List Int} (h : Ds n l) (i : Int) : ∃ l', fn_dense_Set_Add_p0i_ir i n l = some (decide (0 ≤ i ∧ i < n) && !mem l i.toNat, l') ∧ Ds n l' ∧ ∀ j, mem l' j = (mem l j || decide ((0 ≤ i ∧ i < n) ∧ i.toNat = j)) := by
 unfold fn_dense_Set_Add_p0i_ir
 rw [mayHave_some, Has_some h]
 by_cases hi : 0 ≤ i ∧ i < n
 · rw [decide_eq_true hi]
   cases hm : mem l i.toNat with
   | true => exact ⟨l, rfl, h, fun j => by
       by_cases hj : i.toNat = j
       · subst hj; simp [hm]
       · simp [hj]⟩
   | false =>
     obtain ⟨k, rfl⟩ := Int.eq_ofNat_of_zero_le hi.1
     have hk : k < n := by omega
     have hn := h.hn
     obtain ⟨x, hx, hx2⟩ := h.word hk
     have e1 : IntKind.wrap .i64 (Int.tdiv (k : Int) 64) = ((k / 64 : Nat) : Int) := by
       rw [show Int.tdiv (k : Int) 64 = ((k / 64 : Nat) : Int) from rfl]
       exact w64 (by omega) (by omega)
     have e2 : Int.tmod (k : Int) 64 = ((k % 64 : Nat) : Int) := rfl
     have g : getI l ((k / 64 : Nat) : Int) = some (x : Int) := by
       unfold getI
       rw [if_pos (Int.natCast_nonneg _), Int.toNat_natCast]
       exact hx
     have E : IntKind.wrap .u64 ((BitVec.ofInt (IntKind.bits .u64) (x : Int) ||| BitVec.ofInt (IntKind.bits .u64) (IntKind.wrap .u64 (1 * 2 ^ (min (k % 64) (IntKind.bits .u64))))).toNat : Int) = ((x ||| 2 ^ (k % 64) : Nat) : Int) := by
       rw [one_pow (Nat.mod_lt k (by decide))]
       exact orU x _ hx2 (pow_lt64 (Nat.mod_lt k (by decide)))
     have hlt : k / 64 < l.length := (List.getElem?_eq_some_iff.1 hx).1
     have hmem : ∀ j, mem (l.set (k / 64) ((x ||| 2 ^ (k % 64) : Nat) : Int)) j = (mem l j || decide (((0 : Int) ≤ (k : Int) ∧ (k : Int) < n) ∧ k = j)) := fun j => by
       rw [memW_set hx]
       by_cases hj : j / 64 = k / 64
       · rw [if_pos hj, or_bit, mem_of (by rw [hj]; exact hx)]
         have : (k % 64 = j % 64) ↔ k = j := by omega
         simp [this, hk]
       · rw [if_neg hj]
         have : ¬ k = j := fun e => hj (by rw [e])
         simp [this]
     refine ⟨l.set (k / 64) ((x ||| 2 ^ (k % 64) : Nat) : Int), ?_, ⟨hn, by rw [List.length_set]; exact h.len, fun w hw => ?_, fun j hj => ?_⟩, hmem⟩
     · rw [e1, e2]
       simp only [Option.bind_some, cond_true, cond_false, g, ge0_eq (Int.natCast_nonneg _), Int.toNat_natCast, Bool.true_and, Bool.not_true, Bool.not_false, E]
     · rcases List.mem_or_eq_of_mem_set hw with hw | rfl
       · exact h.wd w hw
       · have := Nat.or_lt_two_pow (n := 64) hx2 (pow_lt64 (Nat.mod_lt k (by decide)))
         unfold Wd
         omega
     · rw [hmem, h.top j hj]
       have : ¬ k = j := by omega
       simp [this]
 · rw [decide_eq_false hi]
   exact ⟨l, rfl, h, fun j => by simp [hi]⟩
theorem from_bit (x r j : Nat) : (x / 2 ^ r * 2 ^ r).testBit j = (decide (r ≤ j) && x.testBit j) := by
 rw [Nat.testBit_mul_two_pow]
 by_cases h : r ≤ j
 · rw [Nat.testBit_div_two_pow, Nat.sub_add_cancel h]
 · simp [h]
theorem from_word (x r : Nat) (hx : x < 18446744073709551616) (hr : r < 64) : IntKind.wrap .u64 ((Int.fdiv (x : Int) (2 ^ (min r (IntKind.bits .u64)))) * 2 ^ (min r (IntKind.bits .u64))) = ((x / 2 ^ r * 2 ^ r : Nat) : Int) := by
 have h1 : min r (IntKind.bits .u64) = r := Nat.min_eq_left (Nat.le_of_lt hr)
 have hp : ((2 : Int) ^ r) = ((2 ^ r : Nat) : Int) := by simp
 have h2 : Int.fdiv (x : Int) ((2 ^ r : Nat) : Int) = ((x / 2 ^ r : Nat) : Int) := by
   rw [Int.fdiv_eq_ediv_of_nonneg _ (Int.natCast_nonneg _)]
   rfl
 rw [h1, hp, h2, ← Int.natCast_mul]
 exact wrapU _ (Nat.lt_of_le_of_lt (Nat.div_mul_le_self x (2 ^ r)) hx)
theorem ctz_bit {x : Nat} (h0 : x ≠ 0) (h : x < 18446744073709551616) : Lib.ctz 64 x < 64 ∧ x.testBit (Lib.ctz 64 x) = true ∧ ∀ j, j < Lib.ctz 64 x → x.testBit j = false := by
 have h' : x < 2 ^ 64 := h
 obtain ⟨m, hm, hk⟩ := Lib.ctzFrom_spec 64 x (by omega) h'
 have e : Lib.ctz 64 x = Lib.ctzFrom 64 x := by simp [Lib.ctz, h0]
 rw [e]
 clear e
 revert hm hk
 generalize Lib.ctzFrom 64 x = c
 intro hm hk
 refine ⟨hk, ?_, fun j hj => ?_⟩
 · rw [hm, Nat.mul_comm, Nat.testBit_mul_two_pow]
   simp
 · rw [hm, Nat.mul_comm, Nat.testBit_mul_two_pow]
   simp [Nat.not_le.2 hj]
theorem andn_bit (x k : Nat) (hx : x < 18446744073709551616) (hk : k < 64) : ∃ y : Nat, IntKind.wrap .u64 ((BitVec.ofInt (IntKind.bits .u64) (x : Int) &&& ~~~BitVec.ofInt (IntKind.bits .u64) (IntKind.wrap .u64 (1 * 2 ^ (min k (IntKind.bits .u64))))).toNat : Int) = (y : Int) ∧ y < 18446744073709551616 ∧ ∀ j, y.testBit j = (x.testBit j && !decide (k = j)) := by
 rw [one_pow hk]
 refine ⟨(BitVec.ofNat 64 x &&& ~~~BitVec.ofNat 64 (2 ^ k)).toNat, ?_, BitVec.isLt _, fun j => ?_⟩
 · show IntKind.wrap .u64 ((BitVec.ofInt 64 (x : Int) &&& ~~~BitVec.ofInt 64 ((2 ^ k : Nat) : Int)).toNat : Int) = _
   rw [ofInt_nat, ofInt_nat]
   exact wrapU _ (BitVec.isLt _)
 · rw [BitVec.testBit_toNat, BitVec.getLsbD_and, BitVec.getLsbD_not, BitVec.getLsbD_ofNat, BitVec.getLsbD_ofNat, Nat.testBit_two_pow]
   by_cases hj : j < 64
   · simp [hj]
   · have : x.testBit j = false := Nat.testBit_lt_two_pow (Nat.lt_of_lt_of_le hx (show 2 ^ 64 ≤ 2 ^ j from Nat.pow_le_pow_right (by decide) (by omega)))
     simp [hj, this]
theorem Next_loop {n : Int} {l : List Int} (hw : ∀ w ∈ l, Wd w) (hlen : l.length ≤ 20000) : ∀ (d a w : Nat), a + 1 + d = l.length → w < 18446744073709551616 →
   ∃ r, loop (fn_dense_Set_Next_l1 (n, l)) ((a : Int), (w : Int)) = some r ∧ ((r = .inr (-1) ∧ w = 0 ∧ ∀ q, a < q → q < l.length → l[q]? = some 0) ∨
     ∃ b v : Nat, r = .inl ((b : Int), (v : Int)) ∧ v ≠ 0 ∧ v < 18446744073709551616 ∧ a ≤ b ∧ b < l.length ∧ ((b = a ∧ v = w) ∨ (a < b ∧ w = 0 ∧ l[b]? = some (v : Int))) ∧ ∀ q, a < q → q < b → l[q]? = some 0) := by
 intro d
 induction d with
 | zero =>
   intro a w ha hx
   by_cases h0 : w = 0
   · subst h0
     refine ⟨.inr (-1), loop_end ?_, .inl ⟨rfl, rfl, fun q h1 h2 => by omega⟩⟩
     have e : IntKind.wrap .i64 ((a : Int) + 1) = ((l.length : Nat) : Int) := by rw [w64 (by omega) (by omega)]; omega
     unfold fn_dense_Set_Next_l1
     simp [e]
   · refine ⟨.inl ((a : Int), (w : Int)), loop_end ?_, .inr ⟨a, w, rfl, h0, hx, Nat.le_refl a, by omega, .inl ⟨rfl, rfl⟩, fun q h1 h2 => by omega⟩⟩
     have h1 : ¬ ((w : Int) = 0) := by omega
     unfold fn_dense_Set_Next_l1
     simp [h1, h0]
 | succ d ih =>
   intro a w ha hx
   by_cases h0 : w = 0
   · subst h0
     have hlt : a + 1 < l.length := by omega
     have hwd := hw _ (List.getElem_mem hlt)
     obtain ⟨x, hxe⟩ : ∃ x : Nat, l[a + 1] = (x : Int) := ⟨l[a + 1].toNat, (Int.toNat_of_nonneg hwd.1).symm⟩
     have hx2 : x < 18446744073709551616 := by have := hwd.2; rw [hxe] at this; omega
     have hq : l[a + 1]? = some (x : Int) := by rw [List.getElem?_eq_getElem hlt, hxe]
     obtain ⟨r, h1, h2⟩ := ih (a + 1) x (by omega) hx2
     have e : IntKind.wrap .i64 ((a : Int) + 1) = ((a + 1 : Nat) : Int) := by rw [w64 (by omega) (by omega)]; rfl
     have hne : ¬ (((a + 1 : Nat) : Int) = ((l.length : Nat) : Int)) := by omega
     have hg : getI l ((a + 1 : Nat) : Int) = some (x : Int) := by
       unfold getI
       rw [if_pos (Int.natCast_nonneg _), Int.toNat_natCast]
       exact hq
     refine ⟨r, (loop_next (s' := (((a + 1 : Nat) : Int), (x : Int))) ?_).trans h1, ?_⟩
     · unfold fn_dense_Set_Next_l1
       simp only [e, hg, Option.bind_some, decide_eq_false hne, cond_false]
       rfl
     · rcases h2 with ⟨h3, h4, h5⟩ | ⟨b, v, h3, h4, h5, h6, h7, h8, h9⟩
       · refine .inl ⟨h3, rfl, fun q g1 g2 => ?_⟩
         by_cases hqa : q = a + 1
         · subst hqa; rw [hq, h4]; rfl
         · exact h5 q (by omega) g2
       · refine .inr ⟨b, v, h3, h4, h5, by omega, h7, .inr ?_, fun q g1 g2 => ?_⟩
         · rcases h8 with ⟨rfl, rfl⟩ | ⟨g1, g2, g3⟩
           · exact ⟨by omega, rfl, hq⟩
           · exact ⟨by omega, rfl, g3⟩
         · by_cases hqa : q = a + 1
           · subst hqa
             rcases h8 with ⟨rfl, rfl⟩ | ⟨k1, k2, k3⟩
             · omega
             · rw [hq, k2]; rfl
           · exact h9 q (by omega) g2
   · refine ⟨.inl ((a : Int), (w : Int)), loop_end ?_, .inr ⟨a, w, rfl, h0, hx, Nat.le_refl a, by omega, .inl ⟨rfl, rfl⟩, fun q h1 h2 => by omega⟩⟩
     have h1 : ¬ ((w : Int) = 0) := by omega
     unfold fn_dense_Set_Next_l1
     simp [h1, h0]
theorem mem_zero {l : List Int} {j : Nat} (h : ∀ w, l[j / 64]? = some w → w = 0) : mem l j = false := by
 unfold mem
 cases hl : l[j / 64]? with
 | none => rfl
 | some w => rw [h w hl]; simp
theorem Next_some {n : Nat} {l : List Int} (h : Ds n l) (i : Int) : ∃ r, fn_dense_Set_Next (some ((n : Int), l)) i = some r ∧ ((r = -1 ∧ ∀ j : Nat, i ≤ (j : Int) → mem l j = false) ∨
   ∃ k : Nat, r = (k : Int) ∧ i ≤ (k : Int) ∧ mem l k = true ∧ ∀ j : Nat, i ≤ (j : Int) → j < k → mem l j = false) := by
 obtain ⟨c, hc⟩ : ∃ c : Nat, (if i < 0 then 0 else i) = (c : Int) := ⟨(if i < 0 then 0 else i).toNat, by split <;> omega⟩
 have hci : ∀ j : Nat, i ≤ (j : Int) ↔ c ≤ j := fun j => by split at hc <;> omega
 have hn := h.hn
 have hl := h.len
 unfold fn_dense_Set_Next
 simp only [hc, mayHave_some, Option.bind_some]
 by_cases hk : c < n
 · have hd : decide (0 ≤ (c : Int) ∧ (c : Int) < n) = true := by simpa using hk
   obtain ⟨x, hx, hx2⟩ := h.word hk
   have e1 : IntKind.wrap .i64 (Int.tdiv (c : Int) 64) = ((c / 64 : Nat) : Int) := by
     rw [show Int.tdiv (c : Int) 64 = ((c / 64 : Nat) : Int) from rfl]
     exact w64 (by omega) (by omega)
   have e2 : Int.tmod (c : Int) 64 = ((c % 64 : Nat) : Int) := rfl
   have g : getI l ((c / 64 : Nat) : Int) = some (x : Int) := by
     unfold getI
     rw [if_pos (Int.natCast_nonneg _), Int.toNat_natCast]
     exact hx
   have hr : c % 64 < 64 := Nat.mod_lt c (by decide)
   have hw2 : x / 2 ^ (c % 64) * 2 ^ (c % 64) < 18446744073709551616 := Nat.lt_of_le_of_lt (Nat.div_mul_le_self x _) hx2
   obtain ⟨r, hlp, hcase⟩ := Next_loop (n := (n : Int)) h.wd (by omega) (l.length - 1 - c / 64) (c / 64) _ (by omega) hw2
   simp only [hd, Bool.not_true, cond_false, e1, e2, g, Option.bind_some, ge0_eq (Int.natCast_nonneg _), Int.toNat_natCast, from_word x _ hx2 hr, hlp]
   rcases hcase with ⟨rfl, h4, h5⟩ | ⟨b, v, rfl, h4, h5, h6, h7, h8, h9⟩
   · refine ⟨-1, rfl, .inl ⟨rfl, fun j hj => ?_⟩⟩
     have hj := (hci j).1 hj
     by_cases hja : j / 64 = c / 64
     · rw [mem_of (by rw [hja]; exact hx)]
       have := from_bit x (c % 64) (j % 64)
       rw [h4, Nat.zero_testBit] at this
       have hle : c % 64 ≤ j % 64 := by omega
       simpa [hle] using this.symm
     · refine mem_zero (fun w hw => ?_)
       have hlt := (List.getElem?_eq_some_iff.1 hw).1
       rw [h5 (j / 64) (by omega) hlt] at hw
       exact (Option.some.inj hw).symm
   · obtain ⟨t1, t2, t3⟩ := ctz_bit h4 h5
     have ht : tzF (v : Int) = some ((Lib.ctz 64 v : Nat) : Int) := by
       unfold tzF
       rw [if_pos ⟨Int.natCast_nonneg _, by omega⟩, Int.toNat_natCast]
     have e3 : IntKind.wrap .i64 (IntKind.wrap .i64 ((b : Int) * 64) + ((Lib.ctz 64 v : Nat) : Int)) = ((b * 64 + Lib.ctz 64 v : Nat) : Int) := by
       rw [w64 (x := (b : Int) * 64) (by omega) (by omega), w64 (by omega) (by omega)]
       omega
     refine ⟨((b * 64 + Lib.ctz 64 v : Nat) : Int), by simp only [ht, Option.bind_some, e3], .inr ⟨_, rfl, ?_⟩⟩
     generalize Lib.ctz 64 v = z at t1 t2 t3
     have d1 : (b * 64 + z) / 64 = b := by omega
     have d2 : (b * 64 + z) % 64 = z := by omega
     rcases h8 with ⟨rfl, rfl⟩ | ⟨g1, g2, g3⟩
     · rw [from_bit, Bool.and_eq_true] at t2
       have hz : c % 64 ≤ z := by simpa using t2.1
       refine ⟨(hci _).2 (by omega), ?_, fun j hj hjk => ?_⟩
       · rw [mem_of (x := x) (by rw [d1]; exact hx), d2]
         exact t2.2
       · have hj := (hci j).1 hj
         have := t3 (j % 64) (by omega)
         rw [from_bit] at this
         rw [mem_of (by rw [show j / 64 = c / 64 by omega]; exact hx)]
         have hle : c % 64 ≤ j % 64 := by omega
         simpa [hle] using this
     · refine ⟨(hci _).2 (by omega), ?_, fun j hj hjk => ?_⟩
       · rw [mem_of (x := v) (by rw [d1]; exact g3), d2]
         exact t2
       · have hj := (hci j).1 hj
         by_cases hja : j / 64 = c / 64
         · rw [mem_of (by rw [hja]; exact hx)]
           have := from_bit x (c % 64) (j % 64)
           rw [g2, Nat.zero_testBit] at this
           have hle : c % 64 ≤ j % 64 := by omega
           simpa [hle] using this.symm
         · by_cases hjb : j / 64 = b
           · rw [mem_of (by rw [hjb]; exact g3)]
             exact t3 _ (by omega)
           · exact mem_zero (fun w hw => by
               rw [h9 (j / 64) (by omega) (by omega)] at hw
               exact (Option.some.inj hw).symm)
 · have hd : decide (0 ≤ (c : Int) ∧ (c : Int) < n) = false := by simpa using hk
   simp only [hd, Bool.not_false, cond_true]
   exact ⟨-1, rfl, .inl ⟨rfl, fun j hj => h.top j (by have := (hci j).1 hj; omega)⟩⟩
theorem mem_rep (m j : Nat) : mem (List.replicate m 0) j = false := mem_zero (fun w hw => by
 rw [List.getElem?_replicate] at hw
 split at hw
 · exact (Option.some.inj hw).symm
 · cases hw)
theorem Ds_new {n : Nat} (h : n ≤ 1048576) : Ds n (List.replicate ((n + 63) / 64) 0) :=
 ⟨h, List.length_replicate, fun w hw => by
   obtain ⟨_, rfl⟩ := List.mem_replicate.1 hw
   exact ⟨Int.le_refl _, by decide⟩, fun j _ => mem_rep _ j⟩
theorem New_some (n : Int) : fn_dense_New n = if n < 0 then some (.inl 2) else if 1048576 < n then some (.inl 5) else some (.inr (0, n, List.replicate ((n.toNat + 63) / 64) 0)) := by
 unfold fn_dense_New
 by_cases h1 : n < 0
 · simp [h1]
 · by_cases h2 : 1048576 < n
   · simp [h1, h2]
   · obtain ⟨k, rfl⟩ := Int.eq_ofNat_of_zero_le (by omega : 0 ≤ n)
     have e : IntKind.wrap .i64 (Int.tdiv (IntKind.wrap .i64 (IntKind.wrap .i64 ((k : Int) + 64) - 1)) 64) = (((k + 63) / 64 : Nat) : Int) := by
       rw [w64 (x := (k : Int) + 64) (by omega) (by omega), w64 (x := (k : Int) + 64 - 1) (by omega) (by omega), show (k : Int) + 64 - 1 = ((k + 63 : Nat) : Int) by omega]
       rw [show Int.tdiv ((k + 63 : Nat) : Int) 64 = (((k + 63) / 64 : Nat) : Int) from rfl]
       exact w64 (by omega) (by omega)
     rw [e]
     have hm : (mk ((((k + 63) / 64 : Nat) : Int)) ((((k + 63) / 64 : Nat) : Int)) (0 : Int)) = some (List.replicate ((k + 63) / 64) 0) := by
       unfold mk
       rw [if_pos (by constructor <;> omega), Int.toNat_natCast]
     rw [hm]
     simp [h1, h2]
def mems (n : Nat) (l : List Int) : List Nat := (List.range n).filter (mem l)
def liN (L : List Nat) : List Int := L.map Int.ofNat
theorem filter_gap {p : Nat → Bool} {c : Nat} : ∀ (d : Nat), (∀ j, c ≤ j → j < c + d → p j = false) → (List.range (c + d)).filter p = (List.range c).filter p
 | 0, _ => rfl
 | d + 1, h => by
   rw [← Nat.add_assoc, List.range_succ, List.filter_append, filter_gap d (fun j h1 h2 => h j h1 (by omega))]
   simp [h (c + d) (by omega) (by omega)]
theorem filter_len (p : Nat → Bool) (c : Nat) : ((List.range c).filter p).length ≤ c := by
 have := List.length_filter_le p (List.range c)
 simpa using this
theorem gather {n : Nat} {l : List Int} (h : Ds n l) {body : Int × List Int → Option ((Int × List Int) ⊕ List Int)}
   (hb : ∀ (c : List Int) (k : Nat), mem l k = true → body ((k : Int), c) = (app c [(k : Int)]).bind fun z => (fn_dense_Set_Next (some ((n : Int), l)) ((k : Int) + 1)).bind fun i => some (.inl (i, z))) (he : ∀ c, body (-1, c) = some (.inr c)) :
   ∃ r, fn_dense_Set_Next (some ((n : Int), l)) 0 = some r ∧ loop body (r, []) = some (liN (mems n l)) := by
 have hn := h.hn
 have lt_of : ∀ k, mem l k = true → k < n := fun k hk => by
   rcases Nat.lt_or_ge k n with h1 | h1
   · exact h1
   · rw [h.top k h1] at hk; cases hk
 have key : ∀ (r : Int) (acc : List Int), (∃ c : Nat, c ≤ n ∧ acc = liN ((List.range c).filter (mem l)) ∧ ((r = -1 ∧ ∀ j : Nat, (c : Int) ≤ (j : Int) → mem l j = false) ∨ ∃ k : Nat, r = (k : Int) ∧ (c : Int) ≤ (k : Int) ∧ mem l k = true ∧ ∀ j : Nat, (c : Int) ≤ (j : Int) → j < k → mem l j = false)) →
     loop body (r, acc) = some (liN (mems n l)) := by
   intro r acc hI
   refine loop_val (fun s => ∃ c : Nat, c ≤ n ∧ s.2 = liN ((List.range c).filter (mem l)) ∧ ((s.1 = -1 ∧ ∀ j : Nat, (c : Int) ≤ (j : Int) → mem l j = false) ∨ ∃ k : Nat, s.1 = (k : Int) ∧ (c : Int) ≤ (k : Int) ∧ mem l k = true ∧ ∀ j : Nat, (c : Int) ≤ (j : Int) → j < k → mem l j = false)) (fun s => if s.1 < 0 then 0 else n + 1 - s.1.toNat) ?_ (s := (r, acc)) hI
   rintro ⟨r, acc⟩ ⟨c, hcn, rfl, hr⟩
   rcases hr with ⟨rfl, h2⟩ | ⟨k, rfl, h2, h3, h4⟩
   · right
     have e : mems n l = (List.range c).filter (mem l) := by
       unfold mems
       have := filter_gap (p := mem l) (c := c) (n - c) (fun j h1 _ => h2 j (by omega))
       rw [show c + (n - c) = n by omega] at this
       exact this
     rw [e]
     exact he _
   · left
     have hk := lt_of k h3
     obtain ⟨r', g1, g2⟩ := Next_some h (((k + 1 : Nat) : Int))
     have e1 : (k : Int) + 1 = ((k + 1 : Nat) : Int) := rfl
     have e2 : (List.range (k + 1)).filter (mem l) = (List.range c).filter (mem l) ++ [k] := by
       have := filter_gap (p := mem l) (c := c) (k - c) (fun j h5 h6 => h4 j (by omega) (by omega))
       rw [show c + (k - c) = k by omega] at this
       rw [List.range_succ, List.filter_append, this]
       simp [h3]
     have e3 : app (liN ((List.range c).filter (mem l))) [(k : Int)] = some (liN ((List.range (k + 1)).filter (mem l))) := by
       have := filter_len (mem l) c
       unfold app
       rw [if_pos (by simp [liN]; omega), e2]
       simp [liN]
     refine ⟨(r', liN ((List.range (k + 1)).filter (mem l))), ?_, ⟨k + 1, by omega, rfl, g2⟩, ?_⟩
     · rw [hb _ k h3]
       simp only [e3, e1, g1, Option.bind_some]
     · show (if r' < 0 then 0 else n + 1 - r'.toNat) < (if (k : Int) < 0 then 0 else n + 1 - (k : Int).toNat)
       rw [if_neg (by omega : ¬ (k : Int) < 0), Int.toNat_natCast]
       rcases g2 with ⟨rfl, _⟩ | ⟨k', rfl, k1, k2, _⟩
       · simp; omega
       · rw [if_neg (by omega : ¬ (k' : Int) < 0), Int.toNat_natCast]
         have := lt_of k' k2
         omega
 obtain ⟨r, g1, g2⟩ := Next_some h 0
 exact ⟨r, g1, key r [] ⟨0, Nat.zero_le n, rfl, g2⟩⟩
theorem Has_nat {n : Nat} {l : List Int} (h : Ds n l) (k : Nat) : fn_dense_Set_Has (some ((n : Int), l)) (k : Int) = some (mem l k) := by
 rw [Has_some h, Int.toNat_natCast]
 cases hm : mem l k with
 | false => simp
 | true =>
   have : k < n := by
     rcases Nat.lt_or_ge k n with h1 | h1
     · exact h1
     · rw [h.top k h1] at hm; cases hm
   simp [this]
section
theorem bind_of {α β : Type} {m : Option α} {f : α → Option β} {y : β} {Q : α → Prop} (h : ∃ r, m = some r ∧ Q r) (k : ∀ r, Q r → f r = some y) : m.bind f = some y := by
 obtain ⟨r, rfl, h2⟩ := h; exact k r h2
theorem bind_ex {α β : Type} {m : Option α} {f : α → Option β} {Q : α → Prop} {R : β → Prop} (h : ∃ r, m = some r ∧ Q r) (k : ∀ r, Q r → ∃ y, f r = some y ∧ R y) : ∃ y, m.bind f = some y ∧ R y := by
 obtain ⟨r, rfl, h2⟩ := h; exact k r h2
theorem getZ {α : Type} {l : List α} {i : Int} (h0 : 0 ≤ i) (h1 : i < (l.length : Nat)) : getI l i = some (l[i.toNat]'(by omega)) := by
 unfold getI; rw [if_pos h0]; simp
theorem getN1 {α : Type} {l : List α} {k : Nat} (h : k + 1 < l.length) : getI l ((k : Int) + 1) = some l[k + 1] := getI_eq rfl h
theorem dlt {k n : Nat} (h : k < n) : decide ((k : Int) < (n : Int)) = true := by simp; omega
theorem dge {k n : Nat} (h : ¬ k < n) : decide ((k : Int) < (n : Int)) = false := by simp; omega
theorem beq_dec {α : Type} [DecidableEq α] (a b : α) : (a == b) = decide (a = b) := Bool.beq_eq_decide_eq a b
section
variable {α β γ σ : Type}
theorem loop_stop {body : σ → Option (σ ⊕ β)} (n : Nat) (st : Nat → σ) (stop : Nat → Option β) (e : β) (h : ∀ k, k < n → body (st k) = some (match stop k with | none => .inl (st (k + 1)) | some b => .inr b)) (he : body (st n) = some (.inr e)) :
   loop body (st 0) = some (((List.range n).findSome? stop).getD e) := by
 rcases loop_find (fun k => (stop k).isSome = true) st n (fun k => (stop k).getD e) e (fun k hk hp => by
     rw [h k hk]; cases hs : stop k with
     | none => rfl
     | some b => simp [hs] at hp) (fun k hk hp => by
     rw [h k hk]; cases hs : stop k with
     | none => simp [hs] at hp
     | some b => rfl) he with ⟨k, h1, h2, h3, h4⟩ | ⟨h1, h2⟩
 · rw [h4]
   obtain ⟨b, hb⟩ := Option.isSome_iff_exists.1 h2
   have : (List.range n).findSome? stop = some b := by
     rw [List.findSome?_eq_some_iff]
     refine ⟨List.range k, k, (List.range' (k + 1) (n - k - 1)), ?_, hb, fun a ha => ?_⟩
     · rw [List.range_eq_range', List.range_eq_range', ← List.range'_succ (s := k) (n := n - k - 1)]
       rw [show n - k - 1 + 1 = n - k by omega]
       have := List.range'_append_1 (s := 0) (m := k) (n := n - k)
       rw [Nat.zero_add, show k + (n - k) = n by omega] at this
       exact this.symm
     · have := h3 a (List.mem_range.1 ha)
       cases hs : stop a with
       | none => rfl
       | some b => simp [hs] at this
   rw [this, hb]
 · rw [h2]
   have : (List.range n).findSome? stop = none := by
     rw [List.findSome?_eq_none_iff]
     intro a ha
     have := h1 a (List.mem_range.1 ha)
     cases hs : stop a with
     | none => rfl
     | some b => simp [hs] at this
   rw [this]; rfl
theorem loop_search {body : Int → Option (Int ⊕ β)} (xa : List α) (t : α → Bool) (hit : Nat → β) (e : β) (hb : ∀ (k : Nat) (h : k < xa.length), body (k : Int) = some (if t xa[k] then .inr (hit k) else .inl ((k + 1 : Nat) : Int))) (he : body (xa.length : Int) = some (.inr e)) :
   loop body 0 = some (match xa.findIdx? t with | some k => hit k | none => e) := by
 rcases loop_find (fun k => ∃ h : k < xa.length, t xa[k] = true) (fun k : Nat => (k : Int)) xa.length hit e (fun k hk hp => by
     rw [hb k hk, if_neg (fun h => hp ⟨hk, h⟩)]) (fun k hk ⟨_, hp⟩ => by rw [hb k hk, if_pos hp]) he with ⟨k, h1, ⟨_, h2⟩, h3, h4⟩ | ⟨h1, h2⟩
 · rw [show ((0 : Int)) = ((0 : Nat) : Int) from rfl, h4]
   have : xa.findIdx? t = some k := by
     rw [List.findIdx?_eq_some_iff_getElem]
     exact ⟨h1, h2, fun j hj => fun hc => h3 j hj ⟨by omega, by simpa using hc⟩⟩
   rw [this]
 · rw [show ((0 : Int)) = ((0 : Nat) : Int) from rfl, h2]
   have : xa.findIdx? t = none := by
     rw [List.findIdx?_eq_none_iff]
     intro x hx
     obtain ⟨k, hk, rfl⟩ := List.getElem_of_mem hx
     cases hc : t xa[k] with
     | false => rfl
     | true => exact absurd ⟨hk, hc⟩ (h1 k hk)
   rw [this]
theorem loop_some {body : Int → Option (Int ⊕ β)} (xa : List α) (t : α → Bool) (hit e : β) (hb : ∀ (k : Nat) (h : k < xa.length), body (k : Int) = some (if t xa[k] then .inr hit else .inl ((k + 1 : Nat) : Int))) (he : body (xa.length : Int) = some (.inr e)) :
   loop body 0 = some (if xa.any t then hit else e) := by
 rw [loop_search xa t (fun _ => hit) e hb he]
 cases h : xa.findIdx? t with
 | none =>
   have : xa.any t = false := by
     rw [List.any_eq_false]; intro x hx; have := List.findIdx?_eq_none_iff.1 h x hx; simp [this]
   rw [this]; rfl
 | some k =>
   obtain ⟨hk, h1, _⟩ := List.findIdx?_eq_some_iff_getElem.1 h
   have : xa.any t = true := List.any_eq_true.2 ⟨_, List.getElem_mem hk, h1⟩
   rw [this]; rfl
theorem loop_carry {δ : Type} {body : (γ × Int) → Option ((γ × Int) ⊕ δ)} (xa : List α) (acc : Nat → γ) (out : δ) (hb : ∀ (k : Nat) (h : k < xa.length), body (acc k, (k : Int)) = some (.inl (acc (k + 1), ((k + 1 : Nat) : Int)))) (he : body (acc xa.length, (xa.length : Int)) = some (.inr out)) :
   loop body (acc 0, 0) = some out := loop_nat (fun k => (acc k, (k : Int))) xa.length hb he
theorem loop_alike [DecidableEq α] {body : Int → Option (Int ⊕ β)} (xa xb : List α) (hit e : β) (hl : xa.length = xb.length) (hb : ∀ (k : Nat) (h : k < xa.length), body (k : Int) = some (if xa[k] = (xb[k]'(by omega)) then .inl ((k + 1 : Nat) : Int) else .inr hit)) (he : body (xa.length : Int) = some (.inr e)) :
   loop body 0 = some (if xa = xb then e else hit) := by
 rw [loop_search (List.range xa.length) (fun k => decide (xa[k]? ≠ xb[k]?)) (fun _ => hit) e (fun k h => by
     simp at h
     rw [hb k h]
     have h2 : k < xb.length := by omega
     by_cases hq : xa[k] = xb[k] <;> simp [h, h2, hq]) (by simpa using he)]
 by_cases hq : xa = xb
 · subst hq
   have : (List.range xa.length).findIdx? (fun k => decide (xa[k]? ≠ xa[k]?)) = none := by rw [List.findIdx?_eq_none_iff]; simp
   rw [this]; simp
 · cases h : (List.range xa.length).findIdx? (fun k => decide (xa[k]? ≠ xb[k]?)) with
   | some k => simp [hq]
   | none =>
     exfalso; apply hq
     rw [List.findIdx?_eq_none_iff] at h
     apply List.ext_getElem?
     intro k
     by_cases hk : k < xa.length
     · simpa using h k (List.mem_range.2 hk)
     · rw [List.getElem?_eq_none (by omega), List.getElem?_eq_none (by omega)]
theorem take_snoc {l : List α} {k : Nat} (h : k < l.length) : l.take (k + 1) = l.take k ++ [l[k]] := List.take_succ_eq_append_getElem h
theorem dlen {a b : Nat} (h : a = b) : (!decide ((a : Int) = (b : Int))) = false := by simp [h]
theorem dlen' {a b : Nat} (h : ¬ a = b) : (!decide ((a : Int) = (b : Int))) = true := by simp; omega
end
theorem ok64 {x : Int} (h : Tp.Ok (.int .i64) x) : -9223372036854775808 ≤ x ∧ x ≤ 9223372036854775807 := by
 have h' : (Lit.int .i64 x).wf = true := h
 simp only [Lit.wf, IntKind.min, IntKind.max, IntKind.signed, IntKind.bits, Bool.and_eq_true, decide_eq_true_eq] at h'
 simp at h'; omega
theorem sub1 {α : Type} {l : List α} (h : 1 ≤ l.length) : subL l 1 ((l.length : Nat) : Int) = some (l.drop 1) := by
 rw [subL_eq (by omega) (by omega) (by omega)]; simp
end
def pc : Nat → Nat → Nat
 | 0, _ => 0
 | n + 1, x => (x % 2) + pc n (x / 2)
theorem land_split (a b y M : Nat) (ha : a < 256) (hb : b < 256) : (a + 256 * y) &&& (b + 256 * M) = (a &&& b) + 256 * (y &&& M) := by
 have h1 : a &&& b < 256 := Nat.and_lt_two_pow (n := 8) a hb
 apply Nat.eq_of_testBit_eq
 intro i
 have e : ∀ (u v : Nat), u < 256 → (u + 256 * v).testBit i = if i < 8 then u.testBit i else v.testBit (i - 8) := fun u v hu => by
   rw [Nat.add_comm, show 256 * v = 2 ^ 8 * v from rfl, Nat.testBit_two_pow_mul_add v (show u < 2 ^ 8 from hu)]
 rw [Nat.testBit_and, e a y ha, e b M hb, e _ _ h1]
 split <;> simp [Nat.testBit_and]
def bts : Nat → List Nat → Nat
 | 0, _ => 0
 | _ + 1, [] => 0
 | n + 1, p :: l => p + 256 * bts n l
theorem eachByte (P : Nat → Bool) (h : (List.range 256).all P = true) {a : Nat} (ha : a < 256) : P a = true := List.all_eq_true.1 h a (List.mem_range.2 ha)
def s1 (M x : Nat) : Nat := ((x / 2) &&& M) + (x &&& M)
def s2 (M x : Nat) : Nat := ((x / 4) &&& M) + (x &&& M)
def s3 (M x : Nat) : Nat := (x / 16 + x) &&& M
theorem s1_split (a y M : Nat) (ha : a < 256) : s1 (85 + 256 * M) (a + 256 * y) = s1 85 a + 256 * s1 M y := by
 unfold s1
 have h2 : (a + 256 * y) / 2 = (a / 2 + 128 * (y % 2)) + 256 * (y / 2) := by omega
 have h3 : (a / 2 + 128 * (y % 2)) &&& 85 = (a / 2) &&& 85 := by
   have h4 : y % 2 = 0 ∨ y % 2 = 1 := by omega
   rcases h4 with h4 | h4
   · rw [h4]; rfl
   · rw [h4]
     have := eachByte (fun a => decide (((a / 2 + 128 * 1) &&& 85) = ((a / 2) &&& 85))) (by decide +kernel) ha
     exact of_decide_eq_true this
 rw [land_split a 85 y M ha (by decide), h2, land_split _ 85 _ M (by omega) (by decide), h3]
 omega
theorem s1_low {a : Nat} (ha : a < 256) : s1 85 a < 256 := by
 have := eachByte (fun a => decide (s1 85 a < 256)) (by decide +kernel) ha
 exact of_decide_eq_true this
theorem s2_split (a y M : Nat) (ha : a < 256) : s2 (51 + 256 * M) (a + 256 * y) = s2 51 a + 256 * s2 M y := by
 unfold s2
 have h2 : (a + 256 * y) / 4 = (a / 4 + 64 * (y % 4)) + 256 * (y / 4) := by omega
 have h3 : (a / 4 + 64 * (y % 4)) &&& 51 = (a / 4) &&& 51 := by
   have h4 : y % 4 = 0 ∨ y % 4 = 1 ∨ y % 4 = 2 ∨ y % 4 = 3 := by omega
   have := eachByte (fun a => decide (((a / 4 + 64 * 1) &&& 51) = ((a / 4) &&& 51) ∧ ((a / 4 + 64 * 2) &&& 51) = ((a / 4) &&& 51) ∧ ((a / 4 + 64 * 3) &&& 51) = ((a / 4) &&& 51))) (by decide +kernel) ha
   have := of_decide_eq_true this
   rcases h4 with h4 | h4 | h4 | h4 <;> rw [h4]
   · rfl
   · exact this.1
   · exact this.2.1
   · exact this.2.2
 rw [land_split a 51 y M ha (by decide), h2, land_split _ 51 _ M (by omega) (by decide), h3]
 omega
theorem s2_low {a : Nat} (ha : a < 256) : s2 51 a < 256 := by
 have := eachByte (fun a => decide (s2 51 a < 256)) (by decide +kernel) ha
 exact of_decide_eq_true this
theorem byte_pc {a : Nat} (ha : a < 256) : ((s2 51 (s1 85 a)) / 16 + (s2 51 (s1 85 a)) % 16) = pc 8 a ∧ (s2 51 (s1 85 a)) % 16 ≤ 4 ∧ (s2 51 (s1 85 a)) / 16 ≤ 4 ∧ s2 51 (s1 85 a) < 256 ∧ pc 8 a ≤ 8 := by
 have := eachByte (fun a => decide (((s2 51 (s1 85 a)) / 16 + (s2 51 (s1 85 a)) % 16) = pc 8 a ∧ (s2 51 (s1 85 a)) % 16 ≤ 4 ∧ (s2 51 (s1 85 a)) / 16 ≤ 4 ∧ s2 51 (s1 85 a) < 256 ∧ pc 8 a ≤ 8)) (by decide +kernel) ha
 exact of_decide_eq_true this
theorem s3_split (a y M : Nat) (ha : a < 256) (h1 : a % 16 ≤ 4) (h2 : a / 16 ≤ 4) (h3 : y % 16 ≤ 4) : s3 (15 + 256 * M) (a + 256 * y) = (a / 16 + a % 16) + 256 * s3 M y := by
 unfold s3
 have e : (a + 256 * y) / 16 + (a + 256 * y) = (a / 16 + a % 16 + 16 * (a / 16 + y % 16)) + 256 * (y / 16 + y) := by omega
 rw [e, land_split _ 15 _ M (by omega) (by decide)]
 have : (a / 16 + a % 16 + 16 * (a / 16 + y % 16)) &&& 15 = a / 16 + a % 16 := by
   rw [show (15 : Nat) = 2 ^ 4 - 1 from rfl, Nat.and_two_pow_sub_one_eq_mod]
   omega
 rw [this]
theorem pc_add : ∀ (n m x : Nat), pc (n + m) x = pc n x + pc m (x / 2 ^ n)
 | 0, m, x => by simp [pc]
 | n + 1, m, x => by
   rw [show n + 1 + m = (n + m) + 1 by omega, show pc ((n + m) + 1) x = x % 2 + pc (n + m) (x / 2) from rfl, show pc (n + 1) x = x % 2 + pc n (x / 2) from rfl]
   rw [pc_add n m, Nat.div_div_eq_div_mul, Nat.pow_succ, Nat.mul_comm 2]
   omega
theorem pc_mod (a y : Nat) (ha : a < 256) : pc 8 (a + 256 * y) = pc 8 a := by
 unfold pc pc pc pc pc pc pc pc pc
 omega
def masks : Nat → Nat → Nat
 | _, 0 => 0
 | b, n + 1 => b + 256 * masks b n
def pcs : Nat → Nat → Nat
 | 0, _ => 0
 | n + 1, x => pc 8 (x % 256) + 256 * pcs n (x / 256)
theorem three (n : Nat) : ∀ x, x < 256 ^ n → s3 (masks 15 n) (s2 (masks 51 n) (s1 (masks 85 n) x)) = pcs n x ∧ (s2 (masks 51 n) (s1 (masks 85 n) x)) % 16 ≤ 4 := by
 induction n with
 | zero => intro x hx; have : x = 0 := by simp at hx; omega
           subst this; decide
 | succ n ih =>
   intro x hx
   have hx2 : x / 256 < 256 ^ n := by
     rw [Nat.pow_succ] at hx
     exact Nat.div_lt_of_lt_mul (by rw [Nat.mul_comm]; exact hx)
   obtain ⟨i1, i2⟩ := ih _ hx2
   have ha : x % 256 < 256 := Nat.mod_lt _ (by decide)
   obtain ⟨b1, b2, b3, b4, b5⟩ := byte_pc ha
   have e : x = x % 256 + 256 * (x / 256) := by omega
   unfold masks
   have e1 : s1 (85 + 256 * masks 85 n) x = s1 85 (x % 256) + 256 * s1 (masks 85 n) (x / 256) := by
     conv => lhs; rw [e]
     exact s1_split _ _ _ ha
   rw [e1, s2_split _ _ _ (s1_low ha), s3_split _ _ _ b4 b2 b3 i2, i1, b1]
   refine ⟨rfl, ?_⟩
   omega
theorem three64 (x : Nat) (hx : x < 18446744073709551616) : s3 1085102592571150095 (s2 3689348814741910323 (s1 6148914691236517205 x)) = pcs 8 x :=
 (three 8 x hx).1
theorem last4 (x : Nat) : ∃ p0 p1 p2 p3 p4 p5 p6 p7 : Nat, pcs 8 x = p0 + 256 * (p1 + 256 * (p2 + 256 * (p3 + 256 * (p4 + 256 * (p5 + 256 * (p6 + 256 * (p7 + 256 * 0))))))) ∧ pc 64 x = p0 + p1 + p2 + p3 + p4 + p5 + p6 + p7 ∧ p0 ≤ 8 ∧ p1 ≤ 8 ∧ p2 ≤ 8 ∧ p3 ≤ 8 ∧ p4 ≤ 8 ∧ p5 ≤ 8 ∧ p6 ≤ 8 ∧ p7 ≤ 8 := by
 have h : ∀ y, pc 8 (y % 256) ≤ 8 := fun y => (byte_pc (Nat.mod_lt y (by decide))).2.2.2.2
 have g : ∀ m y, pc (8 + m) y = pc 8 (y % 256) + pc m (y / 256) := fun m y => by
   rw [pc_add 8 m]
   congr 1
   conv => lhs; rw [show y = y % 256 + 256 * (y / 256) by omega]
   exact pc_mod _ _ (Nat.mod_lt _ (by decide))
 refine ⟨_, _, _, _, _, _, _, _, rfl, ?_, h _, h _, h _, h _, h _, h _, h _, h _⟩
 rw [show (64 : Nat) = 8 + (8 + (8 + (8 + (8 + (8 + (8 + (8 + 0))))))) from rfl, g, g, g, g, g, g, g, g]
 simp only [pc]
 omega
theorem dv {k L R x : Nat} (hk : 0 < k) (h : x = L + k * R) (hL : L < k) : x / k = R := by
 rw [h, Nat.add_mul_div_left _ _ hk, Nat.div_eq_of_lt hL, Nat.zero_add]
theorem sum4 {y z u v s : Nat} {p0 p1 p2 p3 p4 p5 p6 p7 : Nat} (hy : y = p0 + 256 * (p1 + 256 * (p2 + 256 * (p3 + 256 * (p4 + 256 * (p5 + 256 * (p6 + 256 * (p7 + 256 * 0)))))))) (hs : s = p0 + p1 + p2 + p3 + p4 + p5 + p6 + p7) (h0 : p0 ≤ 8) (h1 : p1 ≤ 8) (h2 : p2 ≤ 8) (h3 : p3 ≤ 8) (h4 : p4 ≤ 8) (h5 : p5 ≤ 8) (h6 : p6 ≤ 8) (h7 : p7 ≤ 8)
   (hz : z = y + y / 256) (hu : u = z + z / 65536) (hv : v = u + u / 4294967296) : v % 128 = s ∧ v < 9223372036854775808 := by
 have e1 : y / 256 = p1 + 256 * (p2 + 256 * (p3 + 256 * (p4 + 256 * (p5 + 256 * (p6 + 256 * p7))))) := dv (L := p0) (by decide) (by rw [hy]; rfl) (by omega)
 rw [e1, hy] at hz
 have e2 : z / 65536 = (p2 + p3) + 256 * ((p3 + p4) + 256 * ((p4 + p5) + 256 * ((p5 + p6) + 256 * ((p6 + p7) + 256 * p7)))) := dv (L := (p0 + p1) + 256 * (p1 + p2)) (by decide) (by rw [hz]; clear hz hu hv hy e1; omega) (by clear hz hu hv hy e1; omega)
 rw [e2, hz] at hu
 clear e1 e2 hz hy
 have e3 : u / 4294967296 = (p4 + p5 + p6 + p7) + 256 * ((p5 + p6 + p7) + 256 * ((p6 + p7) + 256 * p7)) := dv (L := (p0 + p1 + p2 + p3) + 256 * ((p1 + p2 + p3 + p4) + 256 * ((p2 + p3 + p4 + p5) + 256 * (p3 + p4 + p5 + p6)))) (by decide) (by rw [hu]; clear hu hv; omega) (by clear hu hv; omega)
 rw [e3, hu] at hv
 clear e3 hu
 refine ⟨?_, by omega⟩
 have : v = s + 128 * (2 * ((p1+p2+p3+p4 + (p5+p6+p7)) + 256 * ((p2+p3+p4+p5 + (p6+p7)) + 256 * ((p3+p4+p5+p6 + p7) + 256 * ((p4+p5+p6+p7) + 256 * ((p5+p6+p7) + 256 * ((p6+p7) + 256 * p7))))))) := by rw [hv, hs]; clear hv hs; omega
 rw [this, Nat.add_mul_mod_self_left]
 exact Nat.mod_eq_of_lt (by omega)

def ocA (x m : Int) : Int := IntKind.wrap .u64 ((BitVec.ofInt (IntKind.bits .u64) x &&& BitVec.ofInt (IntKind.bits .u64) m).toNat : Int)
def ocS (x : Int) (k : Nat) : Int := Int.fdiv x (2 ^ (min k (IntKind.bits .u64)))
def oc1 (x : Int) : Int := IntKind.wrap .u64 (ocA (ocS x 1) 6148914691236517205 + ocA x 6148914691236517205)
def oc2 (x : Int) : Int := IntKind.wrap .u64 (ocA (ocS x 2) 3689348814741910323 + ocA x 3689348814741910323)
def oc3 (x : Int) : Int := ocA (IntKind.wrap .u64 (ocS x 4 + x)) 1085102592571150095
def oc4 (x : Int) : Int := IntKind.wrap .u64 (x + ocS x 8)
def oc5 (x : Int) : Int := IntKind.wrap .u64 (x + ocS x 16)
def oc6 (x : Int) : Int := IntKind.wrap .u64 (x + ocS x 32)
theorem Ones_form (x : Int) : fn_math_bits_OnesCount64 x = some (IntKind.wrap .i64 ((BitVec.ofInt (IntKind.bits .i64) (IntKind.wrap .i64 (oc6 (oc5 (oc4 (oc3 (oc2 (oc1 x))))))) &&& BitVec.ofInt (IntKind.bits .i64) 127).toNat : Int)) := rfl
theorem ocA_eq (x m : Nat) (M : Int) (hM : M = (m : Int)) (hx : x < 18446744073709551616) (hm : m < 18446744073709551616) : ocA (x : Int) M = ((x &&& m : Nat) : Int) := by
 rw [hM]
 exact andU x m hx hm
theorem ocS_eq (x k : Nat) (hk : k < 64) : ocS (x : Int) k = ((x / 2 ^ k : Nat) : Int) := by
 unfold ocS
 have h1 : min k (IntKind.bits .u64) = k := Nat.min_eq_left (Nat.le_of_lt hk)
 have hp : ((2 : Int) ^ k) = ((2 ^ k : Nat) : Int) := by simp
 rw [h1, hp, Int.fdiv_eq_ediv_of_nonneg _ (Int.natCast_nonneg _)]
 rfl
theorem and_le (x m : Nat) : x &&& m ≤ m := Nat.and_le_right
theorem oc1_eq (x : Nat) (hx : x < 18446744073709551616) : oc1 (x : Int) = ((s1 6148914691236517205 x : Nat) : Int) := by
 unfold oc1 s1
 rw [ocS_eq x 1 (by decide), ocA_eq (x / 2 ^ 1) 6148914691236517205 6148914691236517205 rfl (by omega) (by decide), ocA_eq x 6148914691236517205 6148914691236517205 rfl hx (by decide), ← Int.natCast_add]
 have b1 := and_le (x / 2 ^ 1) 6148914691236517205
 have b2 := and_le x 6148914691236517205
 exact wrapU _ (by omega)
theorem oc2_eq (x : Nat) (hx : x < 18446744073709551616) : oc2 (x : Int) = ((s2 3689348814741910323 x : Nat) : Int) := by
 unfold oc2 s2
 rw [ocS_eq x 2 (by decide), ocA_eq (x / 2 ^ 2) 3689348814741910323 3689348814741910323 rfl (by omega) (by decide), ocA_eq x 3689348814741910323 3689348814741910323 rfl hx (by decide), ← Int.natCast_add]
 have b1 := and_le (x / 2 ^ 2) 3689348814741910323
 have b2 := and_le x 3689348814741910323
 exact wrapU _ (by omega)
theorem oc3_eq (z : Nat) (hz : z ≤ 7378697629483820646) : oc3 (z : Int) = ((s3 1085102592571150095 z : Nat) : Int) := by
 unfold oc3 s3
 rw [ocS_eq z 4 (by decide), ← Int.natCast_add, wrapU _ (by omega), ocA_eq _ 1085102592571150095 1085102592571150095 rfl (by omega) (by decide)]
theorem s1_lt (x : Nat) : s1 6148914691236517205 x < 18446744073709551616 := by
 have b1 := and_le (x / 2) 6148914691236517205
 have b2 := and_le x 6148914691236517205
 unfold s1; omega
theorem s2_lt (x : Nat) : s2 3689348814741910323 x ≤ 7378697629483820646 := by
 have b1 := and_le (x / 4) 3689348814741910323
 have b2 := and_le x 3689348814741910323
 unfold s2; omega
theorem oc4_eq (w : Nat) (h : w + w / 256 < 18446744073709551616) : oc4 (w : Int) = ((w + w / 256 : Nat) : Int) := by
 unfold oc4
 rw [ocS_eq w 8 (by decide), ← Int.natCast_add]
 exact wrapU _ h
theorem oc5_eq (w : Nat) (h : w + w / 65536 < 18446744073709551616) : oc5 (w : Int) = ((w + w / 65536 : Nat) : Int) := by
 unfold oc5
 rw [ocS_eq w 16 (by decide), ← Int.natCast_add]
 exact wrapU _ h
theorem oc6_eq (w : Nat) (h : w + w / 4294967296 < 18446744073709551616) : oc6 (w : Int) = ((w + w / 4294967296 : Nat) : Int) := by
 unfold oc6
 rw [ocS_eq w 32 (by decide), ← Int.natCast_add]
 exact wrapU _ h
theorem oc7_eq (v : Nat) (h : v < 9223372036854775808) : IntKind.wrap .i64 ((BitVec.ofInt (IntKind.bits .i64) (IntKind.wrap .i64 (v : Int)) &&& BitVec.ofInt (IntKind.bits .i64) 127).toNat : Int) = ((v % 128 : Nat) : Int) := by
 rw [w64 (x := (v : Int)) (by omega) (by omega)]
 show IntKind.wrap .i64 ((BitVec.ofInt 64 (v : Int) &&& BitVec.ofInt 64 ((127 : Nat) : Int)).toNat : Int) = _
 rw [ofInt_nat, ofInt_nat, BitVec.toNat_and, BitVec.toNat_ofNat, BitVec.toNat_ofNat, Nat.mod_eq_of_lt (by omega), Nat.mod_eq_of_lt (by decide), show (127 : Nat) = 2 ^ 7 - 1 from rfl, Nat.and_two_pow_sub_one_eq_mod]
 exact w64 (by omega) (by omega)
theorem Ones_sum (w s : Nat) (h : ∃ p0 p1 p2 p3 p4 p5 p6 p7 : Nat, w = p0 + 256 * (p1 + 256 * (p2 + 256 * (p3 + 256 * (p4 + 256 * (p5 + 256 * (p6 + 256 * (p7 + 256 * 0))))))) ∧ s = p0 + p1 + p2 + p3 + p4 + p5 + p6 + p7 ∧ p0 ≤ 8 ∧ p1 ≤ 8 ∧ p2 ≤ 8 ∧ p3 ≤ 8 ∧ p4 ≤ 8 ∧ p5 ≤ 8 ∧ p6 ≤ 8 ∧ p7 ≤ 8) :
   IntKind.wrap .i64 ((BitVec.ofInt (IntKind.bits .i64) (IntKind.wrap .i64 (oc6 (oc5 (oc4 (w : Int))))) &&& BitVec.ofInt (IntKind.bits .i64) 127).toNat : Int) = ((s : Nat) : Int) := by
 obtain ⟨p0, p1, p2, p3, p4, p5, p6, p7, q, qs, c0, c1, c2, c3, c4, c5, c6, c7⟩ := h
 obtain ⟨r1, r2⟩ := sum4 q qs c0 c1 c2 c3 c4 c5 c6 c7 rfl rfl rfl
 clear q qs c0 c1 c2 c3 c4 c5 c6 c7
 generalize h1 : w + w / 256 = w1 at *
 generalize h2 : w1 + w1 / 65536 = w2 at *
 generalize h3 : w2 + w2 / 4294967296 = w3 at *
 rw [oc4_eq w (by omega), h1, oc5_eq w1 (by omega), h2, oc6_eq w2 (by omega), h3, oc7_eq w3 r2, r1]
theorem Ones_eq (x : Nat) (hx : x < 18446744073709551616) : fn_math_bits_OnesCount64 (x : Int) = some ((pc 64 x : Nat) : Int) := by
 rw [Ones_form, oc1_eq x hx, oc2_eq _ (s1_lt x), oc3_eq _ (s2_lt _), three64 x hx]
 exact congrArg some (Ones_sum _ _ (last4 x))
theorem pc_filter : ∀ (n x : Nat), pc n x = ((List.range n).filter (fun i => x.testBit i)).length
 | 0, _ => rfl
 | n + 1, x => by
   have e : (fun i => x.testBit i) ∘ Nat.succ = fun i => (x / 2).testBit i := funext fun i => by
     show x.testBit (i + 1) = _
     rw [Nat.testBit_succ]
   rw [show pc (n + 1) x = x % 2 + pc n (x / 2) from rfl, pc_filter n (x / 2), List.range_succ_eq_map, List.filter_cons, List.filter_map, e]
   have h0 : x.testBit 0 = decide (x % 2 = 1) := Nat.testBit_zero x
   rw [h0]
   by_cases h : x % 2 = 1
   · rw [if_pos (decide_eq_true h), List.length_cons, List.length_map, h]
     omega
   · rw [if_neg (by simpa using h), List.length_map]
     omega
def wsum (l : List Int) : Nat := (l.map fun w => pc 64 w.toNat).sum
theorem mem_cons (w : Int) (l : List Int) (i : Nat) : mem (w :: l) i = if i < 64 then w.toNat.testBit i else mem l (i - 64) := by
 unfold mem
 by_cases h : i < 64
 · rw [if_pos h, Nat.div_eq_of_lt h, Nat.mod_eq_of_lt h]
   rfl
 · rw [if_neg h, show i / 64 = (i - 64) / 64 + 1 by omega, show i % 64 = (i - 64) % 64 by omega]
   rfl
theorem wsum_eq : ∀ l : List Int, ((List.range (64 * l.length)).filter (mem l)).length = wsum l
 | [] => rfl
 | w :: l => by
   rw [show 64 * (w :: l).length = 64 + 64 * l.length by simp; omega, List.range_add, List.filter_append, List.length_append, List.filter_map, List.length_map]
   have e1 : (List.range 64).filter (mem (w :: l)) = (List.range 64).filter (fun i => w.toNat.testBit i) := List.filter_congr fun i hi => by
     rw [mem_cons, if_pos (List.mem_range.1 hi)]
   have e2 : (mem (w :: l)) ∘ (64 + ·) = mem l := funext fun i => by
     show mem (w :: l) (64 + i) = _
     rw [mem_cons, if_neg (by omega), Nat.add_sub_cancel_left]
   rw [e1, e2, wsum_eq l, ← pc_filter]
   simp [wsum]
theorem mems_len {n : Nat} {l : List Int} (h : Ds n l) : (mems n l).length = wsum l := by
 have hl := h.len
 rw [← wsum_eq]
 have := filter_gap (p := mem l) (c := n) (64 * l.length - n) (fun j h1 _ => h.top j h1)
 rw [show n + (64 * l.length - n) = 64 * l.length by omega] at this
 rw [this]
 rfl
theorem pc_le (n x : Nat) : pc n x ≤ n := by
 rw [pc_filter]; exact filter_len _ _
theorem wsum_snoc {l : List Int} {k : Nat} (hk : k < l.length) : wsum (l.take (k + 1)) = wsum (l.take k) + pc 64 (l[k]).toNat := by
 unfold wsum
 rw [take_snoc hk, List.map_append, List.sum_append]
 simp
theorem Count_some {n : Nat} {l : List Int} (h : Ds n l) : fn_dense_Set_Count (some ((n : Int), l)) = some (((mems n l).length : Nat) : Int) := by
 have hn := h.hn
 have hl := h.len
 have hb : ∀ k, k ≤ l.length → wsum (l.take k) ≤ 64 * k := fun k => by
   induction k with
   | zero => intro _; simp [wsum]
   | succ k ih =>
     intro hk
     have := ih (by omega)
     have h2 := pc_le 64 (l[k]).toNat
     rw [wsum_snoc (by omega : k < l.length)]
     omega
 unfold fn_dense_Set_Count
 have hlp : loop (fn_dense_Set_Count_l1 ((n : Int), l)) ((0 : Int), (0 : Int)) = some ((wsum l : Nat) : Int) := by
   have := loop_nat (body := fn_dense_Set_Count_l1 ((n : Int), l)) (fun k : Nat => (((wsum (l.take k) : Nat) : Int), (k : Int))) l.length (b := ((wsum l : Nat) : Int)) ?_ ?_
   · exact this
   · intro k hk
     unfold fn_dense_Set_Count_l1
     have hw := h.wd _ (List.getElem_mem hk)
     unfold Wd at hw
     obtain ⟨x, hx⟩ := Int.eq_ofNat_of_zero_le hw.1
     have ho := Ones_eq x (by omega)
     rw [← hx] at ho
     have hp : l[k].toNat = x := by omega
     have h1 := hb k (by omega)
     have h2 := hb (k + 1) (by omega)
     have e : wsum (l.take (k + 1)) = wsum (l.take k) + pc 64 x := by
       rw [wsum_snoc hk, hp]
     simp only [dlt hk, cond_true, getN hk, ho, Option.bind_some]
     rw [w64s hk (by omega), e, w64 (by omega) (by omega), ← Int.natCast_add]
   · unfold fn_dense_Set_Count_l1
     simp
 simp only [Option.isNone_some, cond_false, Option.bind_some]
 rw [hlp, mems_len h]
 rfl
theorem strict_eq : ∀ {xs ys : List Int}, xs.Pairwise (· < ·) → ys.Pairwise (· < ·) → (∀ a, a ∈ xs ↔ a ∈ ys) → xs = ys
 | [], [], _, _, _ => rfl
 | [], y :: ys, _, _, h => by have := (h y).2 (by simp); simp at this
 | x :: xs, [], _, _, h => by have := (h x).1 (by simp); simp at this
 | x :: xs, y :: ys, hx, hy, h => by
   obtain ⟨hx1, hx2⟩ := List.pairwise_cons.1 hx
   obtain ⟨hy1, hy2⟩ := List.pairwise_cons.1 hy
   have e : x = y := by
     have h1 := (h x).1 (by simp)
     have h2 := (h y).2 (by simp)
     rcases List.mem_cons.1 h1 with h1 | h1
     · exact h1
     · rcases List.mem_cons.1 h2 with h2 | h2
       · exact h2.symm
       · have := hy1 x h1; have := hx1 y h2; omega
   subst e
   rw [strict_eq hx2 hy2 (fun a => ?_)]
   constructor
   · intro ha
     rcases List.mem_cons.1 ((h a).1 (by simp [ha])) with e | e
     · subst e; have := hx1 a ha; omega
     · exact e
   · intro ha
     rcases List.mem_cons.1 ((h a).2 (by simp [ha])) with e | e
     · subst e; have := hy1 a ha; omega
     · exact e
theorem compactUpTo_sorted {zs : List Int} (hs : zs.Pairwise (· ≤ ·)) : ∀ m, m ≤ zs.length → (Lib.compactUpTo zs.toArray m).Pairwise (· < ·) ∧ ∀ a, a ∈ Lib.compactUpTo zs.toArray m ↔ a ∈ zs.take m
 | 0, _ => by simp [Lib.compactUpTo]
 | m + 1, h => by
   obtain ⟨h1, h2⟩ := compactUpTo_sorted hs m (by omega)
   have hm : m < zs.length := by omega
   have e : zs.toArray[m]! = zs[m] := by simp [getElem!_pos, hm]
   rw [Lib.compactUpTo_succ, e]
   have htk : zs.take (m + 1) = zs.take m ++ [zs[m]] := List.take_succ_eq_append_getElem hm
   have hle : ∀ a ∈ zs.take m, a ≤ zs[m] := by
     intro a ha
     have := hs.sublist (List.take_sublist (m + 1) zs)
     rw [htk] at this
     exact (List.pairwise_append.1 this).2.2 a ha _ (by simp)
   rw [htk]
   cases hk : Lib.keeps zs.toArray m with
   | false =>
     simp only [Bool.false_eq_true, if_false, List.append_nil]
     refine ⟨h1, fun a => ?_⟩
     rw [h2, List.mem_append]
     have hm0 : m ≠ 0 := by rintro rfl; simp [Lib.keeps] at hk
     have he : zs.toArray[m]! = zs.toArray[m - 1]! := by
       simp [Lib.keeps, hm0] at hk; simpa using hk
     have hp : m - 1 < zs.length := by omega
     have e2 : zs.toArray[m - 1]! = zs[m - 1] := by simp [getElem!_pos, hp]
     rw [e, e2] at he
     constructor
     · exact .inl
     · rintro (h | h)
       · exact h
       · simp at h; rw [h, he]
         exact List.mem_take_iff_getElem.2 ⟨m - 1, by omega, rfl⟩
   | true =>
     simp only [if_true]
     refine ⟨List.pairwise_append.2 ⟨h1, by simp, fun a ha b hb => ?_⟩, fun a => by rw [List.mem_append, List.mem_append, h2]⟩
     simp at hb; subst hb
     have ha' := (h2 a).1 ha
     have hle' := hle a ha'
     rcases Int.lt_or_eq_of_le hle' with h | h
     · exact h
     · exfalso
       obtain ⟨j, hj, rfl⟩ := List.mem_take_iff_getElem.1 ha'
       have hm0 : m ≠ 0 := by omega
       have hp : m - 1 < zs.length := by omega
       have e2 : zs.toArray[m - 1]! = zs[m - 1] := by simp [getElem!_pos, hp]
       simp only [Lib.keeps, e, e2] at hk
       simp [hm0] at hk
       have a1 : zs[j] ≤ zs[m - 1] := by
         rcases Nat.lt_or_ge j (m - 1) with q | q
         · exact List.pairwise_iff_getElem.1 hs j (m - 1) _ _ q
         · have : j = m - 1 := by omega
           subst this; exact Int.le_refl _
       have a2 : zs[m - 1] ≤ zs[m] := List.pairwise_iff_getElem.1 hs (m - 1) m _ _ (by omega)
       omega
theorem compact_sorted {zs : List Int} (hs : zs.Pairwise (· ≤ ·)) : (Lib.compact zs).Pairwise (· < ·) ∧ ∀ a, a ∈ Lib.compact zs ↔ a ∈ zs := by
 have := compactUpTo_sorted hs zs.length (Nat.le_refl _)
 rw [List.take_length] at this
 exact this
def ins (i : Int) : List Int → List Int
 | [] => [i]
 | x :: l => if i < x then i :: x :: l else x :: ins i l
theorem ins_mem (i a : Int) : ∀ l, a ∈ ins i l ↔ a = i ∨ a ∈ l
 | [] => by simp [ins]
 | x :: l => by
   unfold ins
   split
   · simp
   · rw [List.mem_cons, ins_mem i a l, List.mem_cons]
     constructor
     · rintro (h | h | h) <;> simp [h]
     · rintro (h | h | h) <;> simp [h]
theorem ins_rs (i : Int) : ∀ l : List Int, l.Pairwise (· < ·) → i ∉ l → (ins i l).Pairwise (· < ·)
 | [], _, _ => by simp [ins]
 | x :: l, h, hi => by
   obtain ⟨h1, h2⟩ := List.pairwise_cons.1 h
   have hx : i ≠ x := fun e => hi (by simp [e])
   unfold ins
   split
   · rename_i hlt
     refine List.pairwise_cons.2 ⟨fun a ha => ?_, h⟩
     rcases List.mem_cons.1 ha with rfl | ha
     · exact hlt
     · have := h1 a ha; omega
   · refine List.pairwise_cons.2 ⟨fun a ha => ?_, ins_rs i l h2 (fun hm => hi (by simp [hm]))⟩
     rcases (ins_mem i a l).1 ha with rfl | ha
     · omega
     · exact h1 a ha
theorem ins_len (i : Int) : ∀ l : List Int, (ins i l).length = l.length + 1
 | [] => rfl
 | x :: l => by unfold ins; split <;> simp [ins_len i l]
theorem ins_cons (i x : Int) (l : List Int) : ins i (x :: l) = if i < x then i :: x :: l else x :: ins i l := rfl
def rHas (L : List Int) (i : Int) : Bool := decide (i ∈ L)
def rAdd (s : Int) (L : List Int) (i : Int) : List Int := if (0 ≤ i ∧ i < s) ∧ i ∉ L then ins i L else L
def rAddOk (s : Int) (L : List Int) (i : Int) : Bool := decide ((0 ≤ i ∧ i < s) ∧ i ∉ L)
def rDel (L : List Int) (i : Int) : List Int := L.filter (fun x => !decide (x = i))
def rOr (s : Int) (L : List Int) : List Int → List Int × Bool
 | [] => (L, false)
 | x :: l => ((rOr s (rAdd s L x) l).1, rAddOk s L x || (rOr s (rAdd s L x) l).2)
theorem rAdd_len (s : Int) (L : List Int) (i : Int) : (rAdd s L i).length ≤ L.length + 1 := by
 unfold rAdd
 split
 · rw [ins_len]; exact Nat.le_refl _
 · omega
theorem rOr_len (s : Int) : ∀ (l L : List Int), (rOr s L l).1.length ≤ L.length + l.length
 | [], _ => Nat.le_refl _
 | x :: l, L => by
   have h1 := rOr_len s l (rAdd s L x)
   have h2 := rAdd_len s L x
   unfold rOr
   simp only [List.length_cons]
   omega
theorem rOr_snoc (s : Int) (x : Int) : ∀ (l L : List Int), rOr s L (l ++ [x]) = (rAdd s (rOr s L l).1 x, (rOr s L l).2 || rAddOk s (rOr s L l).1 x)
 | [], L => by simp [rOr]
 | y :: l, L => by
   rw [List.cons_append]
   unfold rOr
   rw [rOr_snoc s x l]
   simp [Bool.or_assoc]
theorem rDel_len {L : List Int} (i : Int) : decide ((rDel L i).length < L.length) = decide (i ∈ L) := by
 unfold rDel
 rw [Bool.eq_iff_iff, decide_eq_true_eq, decide_eq_true_eq, List.length_filter_lt_length_iff_exists]
 simp
theorem find_of {i r : Int} : ∀ {L : List Int}, L.Pairwise (· < ·) → ((r = -1 ∧ ∀ x ∈ L, ¬ i ≤ x) ∨ (r ∈ L ∧ i ≤ r ∧ ∀ x ∈ L, i ≤ x → r ≤ x)) → (L.find? (fun x => decide (i ≤ x))).getD (-1) = r
 | [], _, h => by
   rcases h with h | h
   · simp [h.1]
   · simp at h
 | x :: L, hs, h => by
   obtain ⟨h1, h2⟩ := List.pairwise_cons.1 hs
   by_cases hx : i ≤ x
   · rcases h with h | h
     · exact absurd hx (h.2 x (by simp))
     · rw [List.find?_cons_of_pos (by simpa using hx)]
       have := h.2.2 x (by simp) hx
       rcases List.mem_cons.1 h.1 with rfl | h3
       · rfl
       · have := h1 r h3; omega
   · rw [List.find?_cons_of_neg (by simpa using hx)]
     refine find_of h2 ?_
     rcases h with h | h
     · exact .inl ⟨h.1, fun y hy => h.2 y (by simp [hy])⟩
     · refine .inr ⟨?_, h.2.1, fun y hy => h.2.2 y (by simp [hy])⟩
       rcases List.mem_cons.1 h.1 with rfl | h3
       · exact absurd h.2.1 hx
       · exact h3
theorem rAdd_rs {s : Int} {L : List Int} (h : L.Pairwise (· < ·)) (i : Int) : (rAdd s L i).Pairwise (· < ·) := by
 unfold rAdd
 split
 · rename_i h4; exact ins_rs _ _ h h4.2
 · exact h
theorem rAdd_mem {s : Int} {L : List Int} (i x : Int) : x ∈ rAdd s L i ↔ x ∈ L ∨ (x = i ∧ 0 ≤ i ∧ i < s) := by
 unfold rAdd
 split
 · rename_i h4
   rw [ins_mem]
   constructor
   · rintro (h | h)
     · exact .inr ⟨h, h4.1⟩
     · exact .inl h
   · rintro (h | h)
     · exact .inr h
     · exact .inl h.1
 · rename_i h4
   constructor
   · exact .inl
   · rintro (h | ⟨rfl, h⟩)
     · exact h
     · refine Classical.byContradiction fun h5 => h4 ⟨h, h5⟩
theorem rOr_rs (s : Int) : ∀ (l L : List Int), L.Pairwise (· < ·) → (rOr s L l).1.Pairwise (· < ·)
 | [], _, h => h
 | x :: l, L, h => rOr_rs s l _ (rAdd_rs h x)
theorem rOr_mem (s : Int) (x : Int) : ∀ (l L : List Int), x ∈ (rOr s L l).1 ↔ x ∈ L ∨ (x ∈ l ∧ 0 ≤ x ∧ x < s)
 | [], L => by simp [rOr]
 | y :: l, L => by
   unfold rOr
   dsimp only
   rw [rOr_mem s x l, rAdd_mem, List.mem_cons]
   constructor
   · rintro ((h | ⟨h, h2⟩) | ⟨h, h2⟩)
     · exact .inl h
     · subst h; exact .inr ⟨.inl rfl, h2⟩
     · exact .inr ⟨.inr h, h2⟩
   · rintro (h | ⟨h | h, h2⟩)
     · exact .inl (.inl h)
     · subst h; exact .inl (.inr ⟨rfl, h2⟩)
     · exact .inr ⟨h, h2⟩
theorem rOr_ok (s : Int) : ∀ (l L : List Int), (rOr s L l).2 = true ↔ ∃ x ∈ l, (0 ≤ x ∧ x < s) ∧ x ∉ L
 | [], L => by simp [rOr]
 | y :: l, L => by
   unfold rOr
   dsimp only
   rw [Bool.or_eq_true, rOr_ok s l]
   unfold rAddOk
   rw [decide_eq_true_eq]
   constructor
   · rintro (h | ⟨x, h1, h2, h3⟩)
     · exact ⟨y, by simp, h⟩
     · exact ⟨x, by simp [h1], h2, fun h => h3 ((rAdd_mem _ _).2 (.inl h))⟩
   · rintro ⟨x, h1, h2, h3⟩
     by_cases hy : (0 ≤ y ∧ y < s) ∧ y ∉ L
     · exact .inl hy
     · rcases List.mem_cons.1 h1 with rfl | h1
       · exact absurd ⟨h2, h3⟩ hy
       · refine .inr ⟨x, h1, h2, fun h => ?_⟩
         rcases (rAdd_mem _ _).1 h with h | ⟨rfl, h⟩
         · exact h3 h
         · exact hy ⟨h, h3⟩
theorem sub_len {A B : List Int} (hA : A.Pairwise (· < ·)) (hB : B.Pairwise (· < ·)) (h : ∀ x ∈ A, x ∈ B) : A.length ≤ B.length := by
 have e : B.filter (fun x => decide (x ∈ A)) = A := by
   refine strict_eq (List.Pairwise.filter _ hB) hA fun x => ?_
   rw [List.mem_filter, decide_eq_true_eq]
   exact ⟨fun h => h.2, fun hx => ⟨h x hx, hx⟩⟩
 rw [← e]
 exact List.length_filter_le _ _
theorem ins_last {x : Int} : ∀ {A : List Int}, (∀ y ∈ A, y < x) → ins x A = A ++ [x]
 | [], _ => rfl
 | a :: A, h => by
   have := h a (by simp)
   rw [ins_cons, if_neg (by omega), ins_last (fun y hy => h y (by simp [hy]))]
   rfl
theorem rfSame {A B : List Int} (hA : A.length ≤ 9000000) : fn_ref01_Same A B = some (decide (A = B)) := by
 unfold fn_ref01_Same
 by_cases hl : A.length = B.length
 · rw [loop_alike A B (.inr false) (.inl ()) hl (fun k hk => ?_) ?_]
   · rw [dlen hl]
     by_cases h : A = B <;> simp [h]
   · unfold fn_ref01_Same_l1
     simp
   · unfold fn_ref01_Same_l1
     have hk2 : k < B.length := by omega
     simp only [dlt hk, cond_true, getN hk, getN hk2, Option.bind_some, w64s hk (by omega)]
     by_cases h : A[k] = B[k] <;> simp [h]
 · rw [dlen' hl]
   have : A ≠ B := fun e => hl (by rw [e])
   simp [this]
structure Rp (n : Nat) (l : List Int) (L : List Int) : Prop where
 ds : Ds n l
 rs : L.Pairwise (· < ·)
 mm : ∀ x : Int, x ∈ L ↔ 0 ≤ x ∧ mem l x.toNat = true
theorem liN_mem (M : List Nat) (x : Int) : x ∈ liN M ↔ 0 ≤ x ∧ x.toNat ∈ M := by
 unfold liN
 rw [List.mem_map]
 constructor
 · rintro ⟨a, ha, rfl⟩
   exact ⟨Int.natCast_nonneg _, by simpa using ha⟩
 · rintro ⟨h1, h2⟩
   exact ⟨x.toNat, h2, Int.toNat_of_nonneg h1⟩
theorem lt_of_mem {n : Nat} {l : List Int} (h : Ds n l) {k : Nat} (hk : mem l k = true) : k < n := by
 rcases Nat.lt_or_ge k n with h1 | h1
 · exact h1
 · rw [h.top k h1] at hk; cases hk
theorem mems_mem {n : Nat} {l : List Int} (h : Ds n l) (k : Nat) : k ∈ mems n l ↔ mem l k = true := by
 unfold mems
 rw [List.mem_filter, List.mem_range]
 exact ⟨fun h => h.2, fun hk => ⟨lt_of_mem h hk, hk⟩⟩
theorem liN_rs (n : Nat) (l : List Int) : (liN (mems n l)).Pairwise (· < ·) := by
 unfold liN mems
 rw [List.pairwise_map]
 refine List.Pairwise.imp (fun h => ?_) (List.Pairwise.filter (mem l) (List.pairwise_lt_range (n := n)))
 exact Int.ofNat_lt.2 h
theorem Rp.eq {n : Nat} {l L : List Int} (h : Rp n l L) : liN (mems n l) = L :=
 strict_eq (liN_rs n l) h.rs (fun x => by rw [liN_mem, mems_mem h.ds, h.mm])
theorem Rp.len {n : Nat} {l L : List Int} (h : Rp n l L) : (mems n l).length = L.length := by
 rw [← h.eq]; simp [liN]
theorem Rp.le {n : Nat} {l L : List Int} (h : Rp n l L) : L.length ≤ n := by
 rw [← h.len]; exact filter_len _ _
theorem Rp_new {n : Nat} (h : n ≤ 1048576) : Rp n (List.replicate ((n + 63) / 64) 0) [] :=
 ⟨Ds_new h, List.Pairwise.nil, fun x => by simp [mem_rep]⟩
theorem Rp.has {n : Nat} {l L : List Int} (h : Rp n l L) (i : Int) : fn_dense_Set_Has (some ((n : Int), l)) i = some (rHas L i) := by
 rw [Has_some h.ds]
 congr 1
 unfold rHas
 rw [Bool.eq_iff_iff, Bool.and_eq_true, decide_eq_true_eq, decide_eq_true_eq, h.mm]
 constructor
 · exact fun h => ⟨h.1.1, h.2⟩
 · intro h2
   have := lt_of_mem h.ds h2.2
   exact ⟨⟨h2.1, by omega⟩, h2.2⟩
theorem Rp.add {n : Nat} {l L : List Int} (h : Rp n l L) (i : Int) : ∃ l', fn_dense_Set_Add_p0i_ir i n l = some (rAddOk n L i, l') ∧ Rp n l' (rAdd n L i) := by
 obtain ⟨l', h1, h2, h3⟩ := Add_some h.ds i
 have hm := h.mm i
 have e : (decide (0 ≤ i ∧ i < n) && !mem l i.toNat) = rAddOk n L i := by
   unfold rAddOk
   rw [Bool.eq_iff_iff, Bool.and_eq_true, decide_eq_true_eq, decide_eq_true_eq, hm]
   constructor
   · rintro ⟨h5, h6⟩
     exact ⟨h5, fun h7 => by rw [h7.2] at h6; cases h6⟩
   · rintro ⟨h5, h6⟩
     refine ⟨h5, ?_⟩
     cases h7 : mem l i.toNat with
     | false => rfl
     | true => exact absurd ⟨h5.1, h7⟩ h6
 refine ⟨l', by rw [h1, e], h2, ?_, fun x => ?_⟩
 · unfold rAdd
   split
   · rename_i h4
     exact ins_rs _ _ h.rs h4.2
   · exact h.rs
 · rw [h3]
   unfold rAdd
   split
   · rename_i h4
     rw [ins_mem, h.mm, Bool.or_eq_true, decide_eq_true_eq]
     constructor
     · rintro (rfl | h5)
       · exact ⟨h4.1.1, .inr ⟨h4.1, rfl⟩⟩
       · exact ⟨h5.1, .inl h5.2⟩
     · rintro ⟨h5, h6 | h6⟩
       · exact .inr ⟨h5, h6⟩
       · exact .inl (by omega)
   · rename_i h4
     rw [h.mm, Bool.or_eq_true, decide_eq_true_eq]
     constructor
     · exact fun h5 => ⟨h5.1, .inl h5.2⟩
     · rintro ⟨h5, h6 | h6⟩
       · exact ⟨h5, h6⟩
       · have hx : x = i := by omega
         subst hx
         refine ⟨h5, ?_⟩
         cases h7 : mem l x.toNat with
         | true => rfl
         | false => exact absurd ⟨h6.1, fun h8 => by rw [(hm.1 h8).2] at h7; cases h7⟩ h4
theorem Rp.count {n : Nat} {l L : List Int} (h : Rp n l L) : fn_dense_Set_Count (some ((n : Int), l)) = some ((L.length : Nat) : Int) := by
 rw [Count_some h.ds, h.len]
theorem dense_loop {n : Nat} {l L : List Int} (h : Rp n l L) {body : Int × List Int → Option ((Int × List Int) ⊕ List Int)}
   (hb : ∀ (c : List Int) (k : Nat), mem l k = true → body ((k : Int), c) = (app c [(k : Int)]).bind fun z => (fn_dense_Set_Next (some ((n : Int), l)) ((k : Int) + 1)).bind fun i => some (.inl (i, z))) (he : ∀ c, body (-1, c) = some (.inr c)) :
   ∃ r, fn_dense_Set_Next (some ((n : Int), l)) 0 = some r ∧ loop body (r, []) = some L := by
 have := gather h.ds hb he
 rw [h.eq] at this
 exact this
theorem Rp.next {n : Nat} {l L : List Int} (h : Rp n l L) (i : Int) : fn_dense_Set_Next (some ((n : Int), l)) i = some ((L.find? (fun x => decide (i ≤ x))).getD (-1)) := by
 obtain ⟨r, h1, h2⟩ := Next_some h.ds i
 rw [h1, find_of (r := r) h.rs]
 rcases h2 with ⟨rfl, h2⟩ | ⟨k, rfl, h2, h3, h4⟩
 · refine .inl ⟨rfl, fun x hx hi => ?_⟩
   have := (h.mm x).1 hx
   rw [h2 x.toNat (by omega)] at this
   cases this.2
 · refine .inr ⟨(h.mm _).2 ⟨Int.natCast_nonneg _, by simpa using h3⟩, h2, fun x hx hi => ?_⟩
   have := (h.mm x).1 hx
   rcases Nat.lt_or_ge x.toNat k with h5 | h5
   · rw [h4 x.toNat (by omega) h5] at this
     cases this.2
   · omega
theorem andn_word (x y : Nat) (hx : x < 18446744073709551616) (hy : y < 18446744073709551616) : IntKind.wrap .u64 ((BitVec.ofInt (IntKind.bits .u64) (x : Int) &&& ~~~BitVec.ofInt (IntKind.bits .u64) (y : Int)).toNat : Int) = 0 ↔ ∀ i, x.testBit i = true → y.testBit i = true := by
 have e : IntKind.wrap .u64 ((BitVec.ofInt (IntKind.bits .u64) (x : Int) &&& ~~~BitVec.ofInt (IntKind.bits .u64) (y : Int)).toNat : Int) = (((BitVec.ofNat 64 x &&& ~~~BitVec.ofNat 64 y).toNat : Nat) : Int) := by
   show IntKind.wrap .u64 ((BitVec.ofInt 64 (x : Int) &&& ~~~BitVec.ofInt 64 (y : Int)).toNat : Int) = _
   rw [ofInt_nat, ofInt_nat]
   exact wrapU _ (BitVec.isLt _)
 have hb : ∀ i, (BitVec.ofNat 64 x &&& ~~~BitVec.ofNat 64 y).toNat.testBit i = (x.testBit i && !y.testBit i) := fun i => by
   rw [BitVec.testBit_toNat, BitVec.getLsbD_and, BitVec.getLsbD_not, BitVec.getLsbD_ofNat, BitVec.getLsbD_ofNat]
   by_cases hj : i < 64
   · simp [hj]
   · have : x.testBit i = false := Nat.testBit_lt_two_pow (Nat.lt_of_lt_of_le hx (show 2 ^ 64 ≤ 2 ^ i from Nat.pow_le_pow_right (by decide) (by omega)))
     simp [hj, this]
 rw [e]
 constructor
 · intro h i hi
   have h0 : (BitVec.ofNat 64 x &&& ~~~BitVec.ofNat 64 y).toNat = 0 := by omega
   have := hb i
   rw [h0, Nat.zero_testBit, hi] at this
   cases hy : y.testBit i with
   | true => rfl
   | false => rw [hy] at this; cases this
 · intro h
   have h0 : (BitVec.ofNat 64 x &&& ~~~BitVec.ofNat 64 y).toNat = 0 := Nat.eq_of_testBit_eq fun i => by
     rw [hb, Nat.zero_testBit]
     cases hx : x.testBit i with
     | false => rfl
     | true => rw [h i hx]; rfl
   rw [h0]
   rfl
theorem mem_word {l : List Int} {q x : Nat} (h : l[q]? = some (x : Int)) (i : Nat) (hi : i < 64) : mem l (64 * q + i) = x.testBit i := by
 have h1 : (64 * q + i) / 64 = q := by omega
 have h2 : (64 * q + i) % 64 = i := by omega
 rw [mem_of (x := x) (by rw [h1]; exact h), h2]
theorem Or_same {n : Nat} {l l' : List Int} (h : Ds n l) (h' : Ds n l') : ∃ c q, fn_dense_Set_Or_p0p1_ir_ir n l n l' = some (c, q, l') ∧ Ds n q ∧ (∀ j, mem q j = (mem l j || mem l' j)) ∧ (c = true ↔ ∃ j, mem l' j = true ∧ mem l j = false) := by
 have hn := h.hn
 have hl := h.len
 have hl' := h'.len
 have wordOf : ∀ {n : Nat} {l : List Int}, (∀ w ∈ l, Wd w) → ∀ (k : Nat) (hk : k < l.length), ∃ x : Nat, l[k] = (x : Int) ∧ x < 18446744073709551616 := fun hw k hk => by
   have := hw _ (List.getElem_mem hk)
   unfold Wd at this
   exact ⟨_, (Int.toNat_of_nonneg this.1).symm, by omega⟩
 have key := loop_inv (body := fn_dense_Set_Or_p0p1_ir_ir_l1 l') (fun s => ∃ k : Nat, k ≤ l'.length ∧ s.2.1 = (k : Int) ∧ s.2.2.length = l.length ∧ (∀ w ∈ s.2.2, Wd w) ∧ (∀ j, mem s.2.2 j = if j / 64 < k then mem l j || mem l' j else mem l j) ∧ (s.1 = true ↔ ∃ j, j / 64 < k ∧ mem l' j = true ∧ mem l j = false)) (fun s => l'.length - s.2.1.toNat)
   (Q := fun r => r.2.length = l.length ∧ (∀ w ∈ r.2, Wd w) ∧ (∀ j, mem r.2 j = (mem l j || mem l' j)) ∧ (r.1 = true ↔ ∃ j, mem l' j = true ∧ mem l j = false)) ?_ (s := (false, (0 : Int), l)) ⟨0, Nat.zero_le _, rfl, rfl, h.wd, fun j => by simp, by simp⟩
 · obtain ⟨⟨c, q⟩, hlp, q1, q2, q3, q4⟩ := key
   refine ⟨c, q, ?_, ⟨hn, by rw [q1]; exact hl, q2, fun j hj => ?_⟩, q3, q4⟩
   · unfold fn_dense_Set_Or_p0p1_ir_ir
     rw [hlp]
     simp
   · rw [q3, h.top j hj, h'.top j hj]; rfl
 · rintro ⟨c, i, q⟩ ⟨k, hk, rfl, g1, g2, g3, g4⟩
   dsimp only at g1 g2 g3 g4 ⊢
   unfold fn_dense_Set_Or_p0p1_ir_ir_l1
   by_cases hkl : k < l'.length
   · left
     have hkq : k < q.length := by omega
     obtain ⟨x, hx, hx2⟩ := wordOf (n := n) h'.wd k hkl
     obtain ⟨y, hy, hy2⟩ := wordOf (n := n) g2 k hkq
     have hxs : l'[k]? = some (x : Int) := by rw [List.getElem?_eq_getElem hkl, hx]
     have hys : q[k]? = some (y : Int) := by rw [List.getElem?_eq_getElem hkq, hy]
     have hmy : ∀ j, j / 64 = k → mem l j = y.testBit (j % 64) := fun j hj => by
       have := g3 j
       rw [if_neg (by omega), mem_of (by rw [hj]; exact hys)] at this
       exact this.symm
     have hmx : ∀ j, j / 64 = k → mem l' j = x.testBit (j % 64) := fun j hj => mem_of (by rw [hj]; exact hxs)
     have ha := andn_word x y hx2 hy2
     simp only [dlt hkl, cond_true, getN hkl, getN hkq, hx, hy, Option.bind_some, w64s hkl (by omega), Int.toNat_natCast]
     by_cases hz : IntKind.wrap .u64 ((BitVec.ofInt (IntKind.bits .u64) (x : Int) &&& ~~~BitVec.ofInt (IntKind.bits .u64) (y : Int)).toNat : Int) = 0
     · have hsub := ha.1 hz
       have hsub2 : ∀ j, j / 64 = k → mem l' j = true → mem l j = true := fun j hj hm => by
         rw [hmx j hj] at hm
         rw [hmy j hj]
         exact hsub _ hm
       refine ⟨(c, ((k + 1 : Nat) : Int), q), by rw [decide_eq_true hz]; rfl, ⟨k + 1, by omega, rfl, g1, g2, fun j => ?_, ?_⟩, ?_⟩
       · rw [g3]
         by_cases h1 : j / 64 < k
         · rw [if_pos h1, if_pos (by omega)]
         · rw [if_neg h1]
           by_cases h2 : j / 64 = k
           · rw [if_pos (by omega)]
             cases hm : mem l' j with
             | false => simp
             | true => rw [hsub2 j h2 hm]; rfl
           · rw [if_neg (by omega)]
       · rw [g4]
         constructor
         · rintro ⟨j, h1, h2⟩; exact ⟨j, by omega, h2⟩
         · rintro ⟨j, h1, h2, h3⟩
           by_cases h4 : j / 64 = k
           · rw [hsub2 j h4 h2] at h3; cases h3
           · exact ⟨j, by omega, h2, h3⟩
       · show l'.length - ((k + 1 : Nat) : Int).toNat < l'.length - ((k : Nat) : Int).toNat
         rw [Int.toNat_natCast, Int.toNat_natCast]; omega
     · have hw : IntKind.wrap .u64 ((BitVec.ofInt (IntKind.bits .u64) (y : Int) ||| BitVec.ofInt (IntKind.bits .u64) (x : Int)).toNat : Int) = ((y ||| x : Nat) : Int) := orU y x hy2 hx2
       have hex : ∃ i, x.testBit i = true ∧ y.testBit i = false := by
         refine Classical.byContradiction fun hc => hz (ha.2 fun i hi => ?_)
         cases hyi : y.testBit i with
         | true => rfl
         | false => exact absurd ⟨i, hi, hyi⟩ hc
       obtain ⟨i, hi1, hi2⟩ := hex
       have hi64 : i < 64 := by
         rcases Nat.lt_or_ge i 64 with h1 | h1
         · exact h1
         · rw [Nat.testBit_lt_two_pow (Nat.lt_of_lt_of_le hx2 (show 2 ^ 64 ≤ 2 ^ i from Nat.pow_le_pow_right (by decide) h1))] at hi1
           cases hi1
       refine ⟨(true, ((k + 1 : Nat) : Int), q.set k ((y ||| x : Nat) : Int)), by rw [decide_eq_false hz, hw]; rfl, ⟨k + 1, by omega, rfl, by rw [List.length_set]; exact g1, fun w hw => ?_, fun j => ?_, ?_⟩, ?_⟩
       · rcases List.mem_or_eq_of_mem_set hw with hw | rfl
         · exact g2 w hw
         · have := Nat.or_lt_two_pow (n := 64) hy2 hx2
           unfold Wd
           omega
       · dsimp only
         rw [memW_set hys]
         by_cases h2 : j / 64 = k
         · rw [if_pos h2, if_pos (by omega), Nat.testBit_or, hmy j h2, hmx j h2]
         · rw [if_neg h2, g3]
           by_cases h1 : j / 64 < k
           · rw [if_pos h1, if_pos (by omega)]
           · rw [if_neg h1, if_neg (by omega)]
       · refine ⟨fun _ => ⟨64 * k + i, by omega, ?_, ?_⟩, fun _ => rfl⟩
         · rw [hmx _ (by omega), show (64 * k + i) % 64 = i by omega]; exact hi1
         · rw [hmy _ (by omega), show (64 * k + i) % 64 = i by omega]; exact hi2
       · show l'.length - ((k + 1 : Nat) : Int).toNat < l'.length - ((k : Nat) : Int).toNat
         rw [Int.toNat_natCast, Int.toNat_natCast]; omega
   · right
     have e : k = l'.length := by omega
     subst e
     have hlt : ∀ j, mem l' j = true → j / 64 < l'.length := fun j hj => by
       have := lt_of_mem h' hj
       omega
     refine ⟨(c, q), by simp, g1, g2, fun j => ?_, ?_⟩
     · rw [g3]
       by_cases h1 : j / 64 < l'.length
       · rw [if_pos h1]
       · rw [if_neg h1]
         cases hm : mem l' j with
         | false => simp
         | true => exact absurd (hlt j hm) h1
     · rw [g4]
       constructor
       · rintro ⟨j, _, h2⟩; exact ⟨j, h2⟩
       · rintro ⟨j, h2⟩; exact ⟨j, hlt j h2.1, h2⟩
theorem Or_unlike {n m : Nat} (h : n ≠ m) (l l' : List Int) : fn_dense_Set_Or_p0p1_ir_ir n l m l' = some (false, l, l') := by
 unfold fn_dense_Set_Or_p0p1_ir_ir
 have : ¬ ((n : Int) = (m : Int)) := by omega
 simp [this]
theorem Rp.or {n m : Nat} {l l' L L' : List Int} (h : Rp n l L) (h' : Rp m l' L') : ∃ q, fn_dense_Set_Or_p0p1_ir_ir n l m l' = some (decide ((n : Int) = (m : Int)) && (rOr n L L').2, q, l') ∧ Rp n q (if (n : Int) = (m : Int) then (rOr n L L').1 else L) := by
 by_cases e : n = m
 · subst e
   obtain ⟨c, q, h1, h2, h3, h4⟩ := Or_same h.ds h'.ds
   refine ⟨q, ?_, ?_⟩
   · rw [h1]
     have : c = (rOr n L L').2 := by
       rw [Bool.eq_iff_iff, h4, rOr_ok]
       constructor
       · rintro ⟨j, h5, h6⟩
         have := lt_of_mem h'.ds h5
         refine ⟨(j : Int), (h'.mm _).2 ⟨Int.natCast_nonneg _, by simpa using h5⟩, ⟨Int.natCast_nonneg _, by omega⟩, fun h7 => ?_⟩
         have := ((h.mm _).1 h7).2
         rw [Int.toNat_natCast, h6] at this
         cases this
       · rintro ⟨x, h5, h6, h7⟩
         refine ⟨x.toNat, ((h'.mm _).1 h5).2, ?_⟩
         cases h8 : mem l x.toNat with
         | false => rfl
         | true => exact absurd ((h.mm x).2 ⟨h6.1, h8⟩) h7
     rw [this]
     simp
   · rw [if_pos rfl]
     refine ⟨h2, rOr_rs _ _ _ h.rs, fun x => ?_⟩
     rw [rOr_mem, h3, Bool.or_eq_true, h.mm, h'.mm]
     constructor
     · rintro (h5 | ⟨h5, h6⟩)
       · exact ⟨h5.1, .inl h5.2⟩
       · exact ⟨h5.1, .inr h5.2⟩
     · rintro ⟨h5, h6 | h6⟩
       · exact .inl ⟨h5, h6⟩
       · have := lt_of_mem h'.ds h6
         exact .inr ⟨⟨h5, h6⟩, h5, by omega⟩
 · have e2 : ¬ ((n : Int) = (m : Int)) := by omega
   rw [Or_unlike e, if_neg e2, decide_eq_false e2]
   exact ⟨l, rfl, h⟩
abbrev MX := List (Option (Int × List Int))
def hasR (x : Option (Int × List Int)) (c : Nat) : Bool := match x with | some e => mem e.2 c | none => false
def rowO (M : MX) (r : Int) : Option (Int × List Int) := if 0 ≤ r then M[r.toNat]?.join else none
def has (M : MX) (r c : Nat) : Bool := hasR M[r]?.join c
def okR (C : Nat) (x : Option (Int × List Int)) : Prop := ∀ e, x = some e → e.1 = (C : Int) ∧ Ds C e.2
structure Mx (N C : Nat) (M : MX) : Prop where
 hN : N ≤ 65536
 hC : C ≤ 65536
 len : M.length = N
 ok : ∀ r : Nat, okR C M[r]?.join
theorem okR.lt {C : Nat} {x : Option (Int × List Int)} (h : okR C x) {c : Nat} (hc : hasR x c = true) : c < C := by
 cases x with
 | none => cases hc
 | some e => exact lt_of_mem (h e rfl).2 hc
theorem okR.none {C : Nat} : okR C none := fun e h => by cases h
theorem join_some {M : MX} {r : Nat} {e : Int × List Int} (h : M[r]?.join = some e) : M[r]? = some (some e) := by
 cases hr : M[r]? with
 | none => rw [hr] at h; cases h
 | some x => rw [hr] at h; cases x with
   | none => cases h
   | some y => cases h; rfl
theorem join_at {M : MX} {r : Nat} (h : r < M.length) : M[r]?.join = M[r] := by rw [List.getElem?_eq_getElem h]; rfl
theorem join_past {M : MX} {r : Nat} (h : M.length ≤ r) : M[r]?.join = none := by rw [List.getElem?_eq_none h]; rfl
theorem Mx.lt {N C : Nat} {M : MX} (h : Mx N C M) {r c : Nat} (hm : has M r c = true) : r < N ∧ c < C := by
 refine ⟨?_, (h.ok r).lt hm⟩
 rcases Nat.lt_or_ge r N with h1 | h1
 · exact h1
 · unfold has at hm; rw [join_past (by rw [h.len]; exact h1)] at hm; cases hm
theorem join_set {M : MX} {r : Nat} (hr : r < M.length) (x : Option (Int × List Int)) (a : Nat) : (M.set r x)[a]?.join = if a = r then x else M[a]?.join := by
 rw [List.getElem?_set]
 by_cases h : r = a
 · subst h; simp [hr]
 · rw [if_neg h, if_neg (fun e => h e.symm)]
theorem has_set {M : MX} {r : Nat} (hr : r < M.length) (x : Option (Int × List Int)) (a c : Nat) : has (M.set r x) a c = if a = r then hasR x c else has M a c := by
 unfold has
 rw [join_set hr]
 split <;> rfl
theorem Mx.set {N C : Nat} {M : MX} (h : Mx N C M) {r : Nat} (hr : r < N) {x : Option (Int × List Int)} (hx : okR C x) : Mx N C (M.set r x) :=
 ⟨h.hN, h.hC, by rw [List.length_set]; exact h.len, fun a => by
   rw [join_set (by rw [h.len]; exact hr)]
   split
   · exact hx
   · exact h.ok a⟩
theorem Mx_new {N C : Nat} (hN : N ≤ 65536) (hC : C ≤ 65536) : Mx N C (List.replicate N none) :=
 ⟨hN, hC, List.length_replicate, fun r => by
   rcases Nat.lt_or_ge r N with h | h
   · rw [List.getElem?_replicate, if_pos h]; exact okR.none
   · rw [List.getElem?_replicate, if_neg (by omega)]; exact okR.none⟩
theorem has_new (N r c : Nat) : has (List.replicate N none) r c = false := by
 unfold has
 rw [List.getElem?_replicate]
 split <;> rfl
theorem MNew_eq (n c : Int) : fn_matrix_New n c = if n < 0 ∨ c < 0 then some (.inl 2) else if 65536 < n ∨ 65536 < c then some (.inl 5) else some (.inr (0, c, List.replicate n.toNat none)) := by
 unfold fn_matrix_New
 by_cases h1 : n < 0 ∨ c < 0
 · rw [if_pos h1]
   have : (decide (n < 0) || decide (c < 0)) = true := by simpa using h1
   rw [this]; rfl
 · rw [if_neg h1]
   have : (decide (n < 0) || decide (c < 0)) = false := by
     rw [Bool.eq_false_iff]; simpa using h1
   rw [this]
   by_cases h2 : 65536 < n ∨ 65536 < c
   · rw [if_pos h2]
     have : (decide (65536 < n) || decide (65536 < c)) = true := by simpa using h2
     rw [this]; rfl
   · rw [if_neg h2]
     have : (decide (65536 < n) || decide (65536 < c)) = false := by
       rw [Bool.eq_false_iff]; simpa using h2
     rw [this]
     simp only [cond_false]
     unfold mk
     rw [if_pos (by omega)]
     rfl
theorem Size_nil : fn_dense_Set_Size none = some 0 := rfl
theorem mayHave_nil (i : Int) : fn_dense_Set_mayHave none i = some false := by
 unfold fn_dense_Set_mayHave
 rw [Size_nil]
 by_cases h : 0 ≤ i
 · have h2 : ¬ i < 0 := by omega
   simp [h, h2]
 · simp [h]
theorem Has_nil (i : Int) : fn_dense_Set_Has none i = some false := by
 unfold fn_dense_Set_Has
 rw [mayHave_nil]
 rfl
theorem Count_nil : fn_dense_Set_Count none = some 0 := rfl
theorem Next_nil (i : Int) : fn_dense_Set_Next none i = some (-1) := by
 unfold fn_dense_Set_Next
 rw [mayHave_nil]
 rfl
theorem row_eq (c : Int) (M : MX) (r : Int) : fn_matrix_Matrix_row (some (c, M)) r = some (rowO M r) := by
 unfold fn_matrix_Matrix_row fn_matrix_Matrix_isRow
 rw [show fn_matrix_Matrix_Rows (some (c, M)) = some ((M.length : Nat) : Int) from rfl]
 unfold rowO
 by_cases h0 : 0 ≤ r
 · rw [if_pos h0]
   by_cases h1 : r < (M.length : Nat)
   · have hr : r.toNat < M.length := by omega
     simp only [decide_eq_true h0, cond_true, Option.bind_some, decide_eq_true h1, Bool.not_true, cond_false]
     rw [show getI M r = some M[r.toNat] from getI_eq (by omega) hr, join_at hr]
     rfl
   · simp only [decide_eq_true h0, cond_true, Option.bind_some, decide_eq_false h1, Bool.not_false]
     rw [join_past (by omega)]
 · rw [if_neg h0]
   simp [h0]
theorem okO {N C : Nat} {M : MX} (h : Mx N C M) (r : Int) : okR C (rowO M r) := by
 unfold rowO
 split
 · exact h.ok _
 · exact okR.none
theorem hasO (M : MX) (r : Int) (c : Nat) : hasR (rowO M r) c = (decide (0 ≤ r) && has M r.toNat c) := by
 unfold rowO has
 by_cases h : 0 ≤ r
 · simp [h]
 · simp [h, hasR]
theorem HasR_eq {C : Nat} {x : Option (Int × List Int)} (h : okR C x) (c : Int) : fn_dense_Set_Has x c = some (decide (0 ≤ c) && hasR x c.toNat) := by
 cases x with
 | none => rw [Has_nil]; simp [hasR]
 | some e =>
   obtain ⟨s, l⟩ := e
   obtain ⟨h1, h2⟩ := h _ rfl
   dsimp only at h1 h2
   subst h1
   rw [Has_some h2]
   congr 1
   rw [Bool.eq_iff_iff]
   simp only [Bool.and_eq_true, decide_eq_true_eq, hasR]
   constructor
   · exact fun h => ⟨h.1.1, h.2⟩
   · intro h3
     have := lt_of_mem h2 h3.2
     exact ⟨⟨h3.1, by omega⟩, h3.2⟩
theorem MHas_eq {N C : Nat} {M : MX} (h : Mx N C M) (r c : Int) : fn_matrix_Matrix_Has (some ((C : Int), M)) r c = some ((decide (0 ≤ r) && decide (0 ≤ c)) && has M r.toNat c.toNat) := by
 unfold fn_matrix_Matrix_Has
 rw [row_eq]
 simp only [Option.bind_some, HasR_eq (okO h r), hasO]
 congr 1
 cases decide (0 ≤ r) <;> cases decide (0 ≤ c) <;> simp
theorem chk_self (i : Int) : chkI i i = some () := by unfold chkI; simp
theorem getM {M : MX} {r : Nat} (h : r < M.length) : getI M (r : Int) = some M[r]?.join := by rw [getN h, join_at h]
theorem set_join {M : MX} {r : Nat} (h : r < M.length) : M.set r M[r]?.join = M := by rw [join_at h]; exact List.set_getElem_self h
theorem New_row {C : Nat} (hC : C ≤ 65536) : fn_dense_New (C : Int) = some (.inr (0, (C : Int), List.replicate ((C + 63) / 64) 0)) := by
 rw [New_some, if_neg (by omega), if_neg (by omega)]
 simp
theorem okR_new {C : Nat} (hC : C ≤ 65536) : okR C (some ((C : Int), List.replicate ((C + 63) / 64) 0)) := fun e h => by cases h; exact ⟨rfl, Ds_new (by omega)⟩
theorem hasR_new (C c : Nat) : hasR (some ((C : Int), List.replicate ((C + 63) / 64) 0)) c = false := mem_rep _ _
theorem MAdd_eq {N C : Nat} {M : MX} (h : Mx N C M) (r c : Int) : ∃ M', fn_matrix_Matrix_Add_p0ii_iod r c (C : Int) M = some (decide ((0 ≤ r ∧ r < N) ∧ 0 ≤ c ∧ c < C) && !has M r.toNat c.toNat, M') ∧ Mx N C M' ∧
   ∀ a b, has M' a b = (has M a b || decide (((0 ≤ r ∧ r < N) ∧ 0 ≤ c ∧ c < C) ∧ r.toNat = a ∧ c.toNat = b)) := by
 have hN := h.hN
 have hC := h.hC
 have hlen := h.len
 by_cases hin : (0 ≤ r ∧ r < N) ∧ 0 ≤ c ∧ c < C
 · obtain ⟨k, rfl⟩ : ∃ k : Nat, r = (k : Int) := ⟨r.toNat, by omega⟩
   have hk : k < M.length := by omega
   have hk2 : (k : Int) < ((M.length : Nat) : Int) := by omega
   have e1 : fn_matrix_Matrix_isRow_p0i_iod (k : Int) (C : Int) M = some (true, M) := by
     unfold fn_matrix_Matrix_isRow_p0i_iod
     rw [show fn_matrix_Matrix_Rows_p0_iod (C : Int) M = some (((M.length : Nat) : Int), M) from rfl]
     simp only [decide_eq_true hin.1.1, cond_true, Option.bind_some, decide_eq_true hk2]
   have e2 : (((!true) || decide (c < 0)) || decide ((C : Int) ≤ c)) = false := by simp; omega
   have main : ∀ (s : Int) (l : List Int), s = (C : Int) → Ds C l → ∃ l', fn_dense_Set_Add_p0i_ir c s l = some (!mem l c.toNat, l') ∧ okR C (some (s, l')) ∧ ∀ b, mem l' b = (mem l b || decide (c.toNat = b)) := by
     rintro s l rfl hl
     obtain ⟨l', q1, q2, q3⟩ := Add_some hl c
     refine ⟨l', ?_, fun e he => by cases he; exact ⟨rfl, q2⟩, fun b => ?_⟩
     · rw [q1]; simp [hin.2]
     · rw [q3]; simp [hin.2]
   unfold fn_matrix_Matrix_Add_p0ii_iod
   rw [e1]
   simp only [Option.bind_some, e2, cond_false, getM hk, chk_self, Int.toNat_natCast, set_join hk]
   have hd : decide (((0 : Int) ≤ (k : Int) ∧ (k : Int) < N) ∧ 0 ≤ c ∧ c < C) = true := by simpa using hin
   have fin : ∀ (x : Option (Int × List Int)) (l' : List Int), M[k]?.join = x → (∀ b, mem l' b = (hasR x b || decide (c.toNat = b))) → ∀ a b, has (M.set k (some ((C : Int), l'))) a b = (has M a b || decide ((((0 : Int) ≤ (k : Int) ∧ (k : Int) < N) ∧ 0 ≤ c ∧ c < C) ∧ k = a ∧ c.toNat = b)) := fun x l' hx hl a b => by
     rw [has_set hk]
     by_cases hak : a = k
     · subst hak
       rw [if_pos rfl]
       show mem l' b = _
       rw [hl, ← hx]
       simp [hin, has]
     · rw [if_neg hak]
       have : ¬ k = a := fun e => hak e.symm
       simp [this]
   cases hx : M[k]?.join with
   | none =>
     have hk3 : k < (M.set k (some ((C : Int), List.replicate ((C + 63) / 64) 0))).length := by rw [List.length_set]; exact hk
     have e3 : M.set k none = M := by have := set_join hk; rw [hx] at this; exact this
     obtain ⟨l', q1, q2, q3⟩ := main (C : Int) _ rfl (Ds_new (n := C) (by omega))
     simp only [Option.isNone_none, cond_true, e3, hx, Option.bind_some, New_row hC, getM hk3, join_set hk, if_true, q1, List.set_set, getM hk]
     refine ⟨_, by rw [hd]; simp [hx, has, hasR, mem_rep], h.set (by omega) q2, fin none l' hx (fun b => by rw [q3, mem_rep]; rfl)⟩
   | some e =>
     obtain ⟨s, l⟩ := e
     obtain ⟨p1, p2⟩ := h.ok k _ hx
     dsimp only at p1 p2
     subst p1
     have e3 : M.set k (some ((C : Int), l)) = M := by have := set_join hk; rw [hx] at this; exact this
     obtain ⟨l', q1, q2, q3⟩ := main (C : Int) l rfl p2
     simp only [Option.isNone_some, cond_false, e3, hx, Option.bind_some, getM hk, q1]
     refine ⟨_, by rw [hd]; simp [hx, has, hasR], h.set (by omega) q2, fin _ l' hx (fun b => by rw [q3]; rfl)⟩
 · have hout : ∃ t, fn_matrix_Matrix_isRow_p0i_iod r (C : Int) M = some (t, M) ∧ (((!t) || decide (c < 0)) || decide ((C : Int) ≤ c)) = true := by
     unfold fn_matrix_Matrix_isRow_p0i_iod
     rw [show fn_matrix_Matrix_Rows_p0_iod (C : Int) M = some (((M.length : Nat) : Int), M) from rfl]
     by_cases h0 : 0 ≤ r
     · refine ⟨decide (r < ((M.length : Nat) : Int)), by simp [h0], ?_⟩
       simp
       omega
     · refine ⟨false, by simp [h0], by simp⟩
   obtain ⟨t, q1, q2⟩ := hout
   have hf : decide ((0 ≤ r ∧ r < N) ∧ 0 ≤ c ∧ c < C) = false := by simpa using hin
   refine ⟨M, ?_, h, fun a b => ?_⟩
   · unfold fn_matrix_Matrix_Add_p0ii_iod
     rw [q1, hf]
     simp only [Option.bind_some, q2, cond_true, Bool.false_and]
   · have : ¬ (((0 ≤ r ∧ r < N) ∧ 0 ≤ c ∧ c < C) ∧ r.toNat = a ∧ c.toNat = b) := fun e => hin e.1
     simp [this]
def rowL (C : Nat) (f : Nat → Bool) : List Nat := (List.range C).filter f
theorem rowL_le (C : Nat) (f : Nat → Bool) : (rowL C f).length ≤ C := filter_len f C
def cntM (N C : Nat) (f : Nat → Nat → Bool) : Nat := ((List.range N).map fun r => (rowL C (f r)).length).sum
theorem cnt_succ (N C : Nat) (f : Nat → Nat → Bool) : cntM (N + 1) C f = cntM N C f + (rowL C (f N)).length := by
 unfold cntM
 rw [List.range_succ, List.map_append, List.sum_append]
 simp
theorem cnt_le (N C : Nat) (f : Nat → Nat → Bool) : cntM N C f ≤ N * C := by
 induction N with
 | zero => simp [cntM]
 | succ N ih => rw [cnt_succ, Nat.succ_mul]; have := rowL_le C (f N); omega
theorem CountR_eq {C : Nat} {x : Option (Int × List Int)} (h : okR C x) : fn_dense_Set_Count x = some (((rowL C (hasR x)).length : Nat) : Int) := by
 cases x with
 | none =>
   rw [Count_nil]
   have : rowL C (hasR none) = [] := List.filter_eq_nil_iff.2 (fun a _ => by simp [hasR])
   rw [this]; rfl
 | some e =>
   obtain ⟨s, l⟩ := e
   obtain ⟨h1, h2⟩ := h _ rfl
   dsimp only at h1 h2
   subst h1
   rw [Count_some h2]; rfl
theorem MCount_eq {N C : Nat} {M : MX} (h : Mx N C M) : fn_matrix_Matrix_Count_p0_iod (C : Int) M = some (((cntM N C (has M) : Nat) : Int), M) := by
 have hN := h.hN
 have hC := h.hC
 have hlen := h.len
 unfold fn_matrix_Matrix_Count_p0_iod
 rw [show fn_matrix_Matrix_Rows_p0_iod (C : Int) M = some (((M.length : Nat) : Int), M) from rfl]
 simp only [Option.bind_some]
 have key := loop_nat (body := fn_matrix_Matrix_Count_p0_iod_l1 ((M.length : Nat) : Int)) (fun k => (((cntM k C (has M) : Nat) : Int), (k : Int), M)) N (b := (((cntM N C (has M) : Nat) : Int), M)) (fun k hk => by
   have hk2 : k < M.length := by omega
   unfold fn_matrix_Matrix_Count_p0_iod_l1
   have hle := cnt_le (k + 1) C (has M)
   have h1 : (k + 1) * C ≤ 65536 * 65536 := Nat.mul_le_mul (by omega) hC
   simp only [dlt hk2, cond_true, getM hk2, Option.bind_some, chk_self, CountR_eq (h.ok k), w64s hk2 (by omega), Int.toNat_natCast, set_join hk2]
   have e : ((cntM k C (has M) : Nat) : Int) + (((rowL C (hasR M[k]?.join)).length : Nat) : Int) = ((cntM (k + 1) C (has M) : Nat) : Int) := by rw [cnt_succ]; rfl
   rw [e, w64 (by omega) (by omega)]) (by
   unfold fn_matrix_Matrix_Count_p0_iod_l1
   simp only [dge (show ¬ N < M.length by omega), cond_false])
 have e0 : ((0 : Int), (0 : Int), M) = (((cntM 0 C (has M) : Nat) : Int), ((0 : Nat) : Int), M) := rfl
 rw [e0, key]
 rfl
theorem ListR_eq {C : Nat} {x : Option (Int × List Int)} (h : okR C x) (hC : C ≤ 65536) : fn_dense_Set_List x = some (liN (rowL C (hasR x))) := by
 cases x with
 | none =>
   have : rowL C (hasR none) = [] := List.filter_eq_nil_iff.2 (fun a _ => by simp [hasR])
   rw [this]
   unfold fn_dense_Set_List
   rw [show fn_dense_Set_All none = some () from rfl, Next_nil]
   simp only [Option.bind_some]
   rw [loop_end (b := []) (by unfold fn_dense_Set_List_l1; rfl)]
   rfl
 | some e =>
   obtain ⟨s, l⟩ := e
   obtain ⟨h1, h2⟩ := h _ rfl
   dsimp only at h1 h2
   subst h1
   obtain ⟨r, q1, q2⟩ := gather h2 (body := fn_dense_Set_List_l1 (some ((C : Int), l))) (fun c k hk => by
     have := lt_of_mem h2 hk
     unfold fn_dense_Set_List_l1
     have e1 : decide ((0 : Int) ≤ (k : Int)) = true := by simp
     simp only [e1, cond_true]
     rw [w64 (by omega) (by omega)]) (fun c => by unfold fn_dense_Set_List_l1; rfl)
   unfold fn_dense_Set_List
   rw [show fn_dense_Set_All (some ((C : Int), l)) = some () from rfl]
   simp only [Option.bind_some, q1, q2]
   rfl
theorem MRow_eq {N C : Nat} {M : MX} (h : Mx N C M) (r : Int) : fn_matrix_Matrix_Row (some ((C : Int), M)) r = some (liN (rowL C fun c => decide (0 ≤ r) && has M r.toNat c)) := by
 unfold fn_matrix_Matrix_Row
 rw [row_eq]
 simp only [Option.bind_some, ListR_eq (okO h r) h.hC]
 congr 3
 funext c
 exact hasO M r c
theorem MCol_eq {N C : Nat} {M : MX} (h : Mx N C M) (c : Int) : fn_matrix_Matrix_Col (some ((C : Int), M)) c = some (liN (rowL N fun r => decide (0 ≤ c) && has M r c.toNat)) := by
 have hN := h.hN
 have hlen := h.len
 unfold fn_matrix_Matrix_Col
 rw [show fn_matrix_Matrix_Rows (some ((C : Int), M)) = some ((M.length : Nat) : Int) from rfl]
 simp only [Option.bind_some]
 have key := loop_nat (body := fn_matrix_Matrix_Col_l1 (some ((C : Int), M)) c ((M.length : Nat) : Int)) (fun k => (liN (rowL k fun r => decide (0 ≤ c) && has M r c.toNat), (k : Int))) N (b := liN (rowL N fun r => decide (0 ≤ c) && has M r c.toNat)) (fun k hk => by
   have hk2 : k < M.length := by omega
   unfold fn_matrix_Matrix_Col_l1
   have hb := rowL_le k (fun r => decide (0 ≤ c) && has M r c.toNat)
   have e1 : decide ((0 : Int) ≤ (k : Int)) = true := by simp
   simp only [dlt hk2, cond_true, MHas_eq h, Option.bind_some, w64s hk2 (by omega), e1, Bool.true_and, Int.toNat_natCast]
   have e2 : rowL (k + 1) (fun r => decide (0 ≤ c) && has M r c.toNat) = rowL k (fun r => decide (0 ≤ c) && has M r c.toNat) ++ (if (decide (0 ≤ c) && has M k c.toNat) = true then [k] else []) := by
     unfold rowL
     rw [List.range_succ, List.filter_append]
     congr 1
     simp [List.filter_cons]
   cases hq : (decide (0 ≤ c) && has M k c.toNat) with
   | true =>
     rw [e2, hq, if_pos rfl]
     simp only [cond_true]
     rw [app_eq (by simp [liN]; omega)]
     simp [liN]
   | false =>
     rw [e2, hq, if_neg (by simp)]
     simp) (by
   unfold fn_matrix_Matrix_Col_l1
   simp only [dge (show ¬ N < M.length by omega), cond_false])
 have e0 : (([] : List Int), (0 : Int)) = (liN (rowL 0 fun r => decide (0 ≤ c) && has M r c.toNat), ((0 : Nat) : Int)) := rfl
 rw [e0, key]
 rfl
theorem self_eq {n : Nat} {l : List Int} (h : Ds n l) : fn_dense_Set_Or_p0p0_ir (n : Int) l = some (false, l) := by
 have hn := h.hn
 have hl := h.len
 unfold fn_dense_Set_Or_p0p0_ir
 have e : (!decide ((n : Int) = (n : Int))) = false := by simp
 rw [e]
 simp only [cond_false]
 have key := loop_nat (body := fn_dense_Set_Or_p0p0_ir_l1 l) (fun k => (false, l, (k : Int))) l.length (b := (false, l)) (fun k hk => by
   unfold fn_dense_Set_Or_p0p0_ir_l1
   have hw := h.wd l[k] (List.getElem_mem hk)
   obtain ⟨x, hx, hx2⟩ : ∃ x : Nat, l[k] = (x : Int) ∧ x < 18446744073709551616 := by
     unfold Wd at hw
     exact ⟨_, (Int.toNat_of_nonneg hw.1).symm, by omega⟩
   have ha := (andn_word x x hx2 hx2).2 (fun i h => h)
   simp only [dlt hk, cond_true, getN hk, Option.bind_some, hx, ha, w64s hk (by omega)]
   simp) (by
   unfold fn_dense_Set_Or_p0p0_ir_l1
   simp only [dge (Nat.lt_irrefl _), cond_false])
 have e0 : (false, l, (0 : Int)) = (false, l, ((0 : Nat) : Int)) := rfl
 rw [e0, key]
 rfl
theorem orR {C : Nat} {s l : List Int} (h : Ds C s) (h' : Ds C l) : ∃ b q, fn_dense_Set_Or_p0p1_ir_ir (C : Int) s (C : Int) l = some (b, q, l) ∧ okR C (some ((C : Int), q)) ∧ (∀ c, mem q c = (mem s c || mem l c)) ∧ (b = true ↔ ∃ c, mem l c = true ∧ mem s c = false) := by
 obtain ⟨b, q, h1, h2, h3, h4⟩ := Or_same h h'
 exact ⟨b, q, h1, fun e he => by cases he; exact ⟨rfl, h2⟩, h3, h4⟩
theorem orH_eq {N C : Nat} {M : MX} (h : Mx N C M) {j : Nat} (hj : j < N) (k : Int) {x : Option (Int × List Int)} (hx : okR C x) (hsub : ∀ c, has M j c = true → hasR x c = true) :
   ∃ b x', orH k (C : Int) M j x = some (b, x') ∧ okR C x' ∧ (∀ c, hasR x' c = (hasR x c || (decide (0 ≤ k) && has M k.toNat c))) ∧ (b = true ↔ ∃ c, (decide (0 ≤ k) && has M k.toNat c) = true ∧ hasR x c = false) ∧ (x ≠ none → x' ≠ none) := by
 have hC := h.hC
 have hlen := h.len
 have same : (∀ c, (decide (0 ≤ k) && has M k.toNat c) = true → hasR x c = true) → orH k (C : Int) M j x = some (false, x) → ∃ b x', orH k (C : Int) M j x = some (b, x') ∧ okR C x' ∧ (∀ c, hasR x' c = (hasR x c || (decide (0 ≤ k) && has M k.toNat c))) ∧ (b = true ↔ ∃ c, (decide (0 ≤ k) && has M k.toNat c) = true ∧ hasR x c = false) ∧ (x ≠ none → x' ≠ none) := fun hs he =>
   ⟨false, x, he, hx, fun c => by
     cases hq : (decide (0 ≤ k) && has M k.toNat c) with
     | false => simp
     | true => rw [hs c hq]; rfl, Iff.intro (fun h => (by cases h)) (fun ⟨c, h1, h2⟩ => (by rw [hs c h1] at h2; cases h2)), id⟩
 by_cases hk : 0 ≤ k ∧ k < (M.length : Int)
 · obtain ⟨k', rfl⟩ : ∃ k' : Nat, k = (k' : Int) := ⟨k.toNat, by omega⟩
   have hk2 : k' < M.length := by omega
   by_cases hkj : k' = j
   · subst hkj
     refine same (fun c hc => hsub c (by simpa using hc)) ?_
     unfold orH
     rw [if_pos hk, if_pos (Int.toNat_natCast _)]
     cases x with
     | none => rfl
     | some e =>
       obtain ⟨s, l⟩ := e
       obtain ⟨p1, p2⟩ := hx _ rfl
       dsimp only at p1 p2
       subst p1
       simp only [self_eq p2, Option.bind_some]
   · have hd : decide ((0 : Int) ≤ (k' : Int)) = true := by simp
     simp only [hd, Bool.true_and, Int.toNat_natCast] at same ⊢
     have hun : orH (k' : Int) (C : Int) M j x = (match (generalizing := false) M[k']?.join with
         | some b => (match (generalizing := false) x with
           | some s => (fn_dense_Set_Or_p0p1_ir_ir s.1 s.2 b.1 b.2).bind fun r => some (r.1, some (s.1, r.2.1))
           | none => (fn_dense_New (C : Int)).bind fun o => (match (generalizing := false) o with
             | .inl _ => none
             | .inr q => (fn_dense_Set_Or_p0p1_ir_ir q.2.1 q.2.2 b.1 b.2).bind fun r => some (r.1, some (q.2.1, r.2.1))))
         | none => some (false, x)) := by
       unfold orH
       rw [if_pos hk, if_neg (show ¬ ((k' : Int)).toNat = j by rw [Int.toNat_natCast]; exact hkj)]
       rfl
     cases hy : M[k']?.join with
     | none =>
       have hM : M[k']? = some none := by
         rw [join_at hk2] at hy
         rw [List.getElem?_eq_getElem hk2, hy]
       refine same (fun c hc => ?_) (by rw [hun, hy])
       unfold has at hc
       rw [hy] at hc; cases hc
     | some b =>
       obtain ⟨bs, bl⟩ := b
       obtain ⟨p1, p2⟩ := h.ok k' _ hy
       dsimp only at p1 p2
       subst p1
       have hh : ∀ c, has M k' c = mem bl c := fun c => by unfold has; rw [hy]; rfl
       cases x with
       | none =>
         obtain ⟨b, q, q1, q2, q3, q4⟩ := orR (Ds_new (n := C) (by omega)) p2
         refine ⟨b, some ((C : Int), q), ?_, q2, fun c => ?_, ?_, fun h => absurd rfl h⟩
         · rw [hun, hy]
           simp only [New_row hC, Option.bind_some, q1]
         · show mem q c = _
           rw [q3, mem_rep, hh]; rfl
         · rw [q4]
           constructor
           · rintro ⟨c, h1, _⟩; exact ⟨c, by rw [hh]; exact h1, rfl⟩
           · rintro ⟨c, h1, _⟩; exact ⟨c, by rw [← hh]; exact h1, mem_rep _ _⟩
       | some e =>
         obtain ⟨s, l⟩ := e
         obtain ⟨p3, p4⟩ := hx _ rfl
         dsimp only at p3 p4
         subst p3
         obtain ⟨b, q, q1, q2, q3, q4⟩ := orR p4 p2
         refine ⟨b, some ((C : Int), q), ?_, q2, fun c => ?_, ?_, fun _ h => by cases h⟩
         · rw [hun, hy]
           simp only [Option.bind_some, q1]
         · show mem q c = _
           rw [q3, hh]; rfl
         · rw [q4]
           constructor
           · rintro ⟨c, h1, h2⟩; exact ⟨c, by rw [hh]; exact h1, h2⟩
           · rintro ⟨c, h1, h2⟩; exact ⟨c, by rw [← hh]; exact h1, h2⟩
 · refine same (fun c hc => ?_) ?_
   · simp only [Bool.and_eq_true, decide_eq_true_eq] at hc
     have := h.lt hc.2
     exact absurd ⟨hc.1, by omega⟩ hk
   · unfold orH
     rw [if_neg hk]
theorem MOr_eq {N C : Nat} {M : MX} (h : Mx N C M) (r k : Int) : ∃ b M', fn_matrix_Matrix_Or_p0ii_iod r k (C : Int) M = some (b, M') ∧ Mx N C M' ∧
   (∀ a c, has M' a c = (has M a c || (decide ((0 ≤ r ∧ r < N) ∧ r.toNat = a) && (decide (0 ≤ k) && has M k.toNat c)))) ∧ (b = true ↔ (0 ≤ r ∧ r < N) ∧ ∃ c, (decide (0 ≤ k) && has M k.toNat c) = true ∧ has M r.toNat c = false) := by
 have hlen := h.len
 unfold fn_matrix_Matrix_Or_p0ii_iod
 by_cases hr : 0 ≤ r ∧ r < (N : Int)
 · obtain ⟨j, rfl⟩ : ∃ j : Nat, r = (j : Int) := ⟨r.toNat, by omega⟩
   have hj : j < M.length := by omega
   obtain ⟨b, x', q1, q2, q3, q4, _⟩ := orH_eq h (j := j) (by omega) k (h.ok j) (fun c hc => hc)
   rw [if_pos (by rw [hlen]; exact hr)]
   rw [join_at hj] at q1 q3 q4
   simp only [Int.toNat_natCast, List.getElem?_eq_getElem hj, q1, Option.bind_some]
   refine ⟨b, _, rfl, h.set (by omega) q2, fun a c => ?_, ?_⟩
   · rw [has_set hj]
     by_cases ha : a = j
     · subst ha
       rw [if_pos rfl, q3]
       simp [hr, has, join_at hj]
     · rw [if_neg ha]
       have : ¬ j = a := fun e => ha e.symm
       simp [this]
   · rw [q4]
     unfold has
     rw [join_at hj]
     exact ⟨fun h => ⟨hr, h⟩, fun h => h.2⟩
 · rw [if_neg (by rw [hlen]; exact hr)]
   refine ⟨false, M, rfl, h, fun a c => ?_, Iff.intro (fun h => (by cases h)) (fun h => absurd h.1 hr)⟩
   have : ¬ ((0 ≤ r ∧ r < (N : Int)) ∧ r.toNat = a) := fun e => hr e.1
   simp [this]
theorem NextR_eq {C : Nat} {x : Option (Int × List Int)} (h : okR C x) (i : Int) : ∃ q, fn_dense_Set_Next x i = some q ∧ ((q = -1 ∧ ∀ c : Nat, i ≤ (c : Int) → hasR x c = false) ∨ ∃ k : Nat, q = (k : Int) ∧ i ≤ (k : Int) ∧ hasR x k = true ∧ ∀ c : Nat, i ≤ (c : Int) → c < k → hasR x c = false) := by
 cases x with
 | none => exact ⟨-1, Next_nil i, .inl ⟨rfl, fun c _ => rfl⟩⟩
 | some e =>
   obtain ⟨s, l⟩ := e
   obtain ⟨h1, h2⟩ := h _ rfl
   dsimp only at h1 h2
   subst h1
   exact Next_some h2 i
structure Wid (N C : Nat) (M : MX) (r : Nat) (x : Option (Int × List Int)) : Prop where
 ok : okR C x
 sup : ∀ c, has M r c = true → hasR x c = true
 snd : ∀ S : Nat → Prop, (∀ c, has M r c = true → S c) → (∀ k c, S k → has M k c = true → S c) → ∀ c, hasR x c = true → S c
theorem widen_eq {N C : Nat} {M : MX} (h : Mx N C M) {r : Nat} (hr : r < N) : ∃ b M', fn_matrix_Matrix_widen_p0i_iod (r : Int) (C : Int) M = some (b, M') ∧ Mx N C M' ∧ (∀ a c, a ≠ r → has M' a c = has M a c) ∧ (∀ c, has M r c = true → has M' r c = true) ∧
   (∀ S : Nat → Prop, (∀ c, has M r c = true → S c) → (∀ k c, S k → has M k c = true → S c) → ∀ c, has M' r c = true → S c) ∧
   (b = false → (∀ c, has M' r c = has M r c) ∧ ∀ k c, has M r k = true → has M k c = true → has M r c = true) ∧ (b = true → ∃ c, has M' r c = true ∧ has M r c = false) := by
 have hN := h.hN
 have hC := h.hC
 have hlen := h.len
 have hr2 : r < M.length := by omega
 have key : ∀ (i0 : Int), ((i0 = -1 ∧ ∀ c : Nat, (0 : Int) ≤ (c : Int) → hasR M[r]?.join c = false) ∨ ∃ k : Nat, i0 = (k : Int) ∧ (0 : Int) ≤ (k : Int) ∧ hasR M[r]?.join k = true ∧ ∀ c : Nat, (0 : Int) ≤ (c : Int) → c < k → hasR M[r]?.join c = false) →
     ∃ z : Bool × MX × Int × Option (Int × List Int), loop (fn_matrix_Matrix_widen_p0i_iod_l1 (r : Int) (C : Int)) (i0, false, M, (r : Int), M[r]?.join) = some z ∧ (z.2.1 = M ∧ z.2.2.1 = (r : Int) ∧ Wid N C M r z.2.2.2 ∧
       (z.1 = false → (∀ c, hasR z.2.2.2 c = has M r c) ∧ ∀ k c, has M r k = true → has M k c = true → has M r c = true) ∧ (z.1 = true → ∃ c, hasR z.2.2.2 c = true ∧ has M r c = false)) := by
   intro i0 hi0
   refine loop_inv (I := fun s => s.2.2.1 = M ∧ s.2.2.2.1 = (r : Int) ∧ Wid N C M r s.2.2.2.2 ∧ (s.2.1 = false → ∀ c, hasR s.2.2.2.2 c = has M r c) ∧ (s.2.1 = true → ∃ c, hasR s.2.2.2.2 c = true ∧ has M r c = false) ∧
     ∃ f : Nat, ((s.1 = -1 ∧ ∀ c : Nat, (f : Int) ≤ (c : Int) → hasR s.2.2.2.2 c = false) ∨ ∃ k : Nat, s.1 = (k : Int) ∧ (f : Int) ≤ (k : Int) ∧ hasR s.2.2.2.2 k = true ∧ ∀ c : Nat, (f : Int) ≤ (c : Int) → c < k → hasR s.2.2.2.2 c = false) ∧
       (s.2.1 = false → ∀ k c, k < f → has M r k = true → has M k c = true → has M r c = true)) (fun s => if s.1 < 0 then 0 else C + 1 - s.1.toNat) ?_ ?_
   · rintro ⟨i, t, l, j, x⟩ ⟨rfl, rfl, hw, ht, ht2, f, hi, hp⟩
     dsimp only at *
     rcases hi with ⟨rfl, hi⟩ | ⟨k, rfl, hfk, hk, hlt⟩
     · right
       refine ⟨(t, l, (r : Int), x), by unfold fn_matrix_Matrix_widen_p0i_iod_l1; rfl, rfl, rfl, hw, fun h0 => ⟨ht h0, fun k c h1 h2 => ?_⟩, ht2⟩
       refine hp h0 k c ?_ h1 h2
       rcases Nat.lt_or_ge k f with h3 | h3
       · exact h3
       · have := hi k (by omega)
         rw [hw.sup k h1] at this; cases this
     · left
       have hkC : k < C := hw.ok.lt hk
       obtain ⟨b, x', q1, q2, q3, q4, q5⟩ := orH_eq h hr (k : Int) hw.ok hw.sup
       have hd : decide ((0 : Int) ≤ (k : Int)) = true := by simp
       simp only [hd, Bool.true_and, Int.toNat_natCast] at q3 q4
       have hxn : x ≠ none := fun e => by rw [e] at hk; cases hk
       have eO : fn_matrix_Matrix_Or_h (r : Int) (k : Int) (C : Int) l (r : Int) x = some (b, l, (r : Int), x') := by
         unfold fn_matrix_Matrix_Or_h
         rw [if_pos rfl]
         cases x with
         | none => exact absurd rfl hxn
         | some e => simp only [Int.toNat_natCast, q1, Option.bind_some]
       obtain ⟨i', n1, n2⟩ := NextR_eq q2 (((k + 1 : Nat) : Int))
       have hw' : Wid N C l r x' := ⟨q2, fun c hc => by rw [q3, hw.sup c hc]; rfl, fun S s1 s2 c hc => by
         rw [q3, Bool.or_eq_true] at hc
         rcases hc with hc | hc
         · exact hw.snd S s1 s2 c hc
         · exact s2 k c (hw.snd S s1 s2 k hk) hc⟩
       have hmu : (if i' < 0 then 0 else C + 1 - i'.toNat) < (if ((k : Nat) : Int) < 0 then 0 else C + 1 - ((k : Nat) : Int).toNat) := by
         rw [if_neg (by omega : ¬ ((k : Nat) : Int) < 0), Int.toNat_natCast]
         rcases n2 with ⟨rfl, _⟩ | ⟨k', rfl, k1, k2, _⟩
         · simp; omega
         · rw [if_neg (by omega), Int.toNat_natCast]
           have := q2.lt k2
           omega
       refine ⟨(i', (t || b), l, (r : Int), x'), ?_, ⟨rfl, rfl, hw', ?_, ?_, k + 1, n2, ?_⟩, hmu⟩
       · unfold fn_matrix_Matrix_widen_p0i_iod_l1
         simp only [hd, cond_true, eO, Option.bind_some, w64s (show k < 65536 by omega) (by omega), n1]
         cases b <;> cases t <;> rfl
       · intro h0 c
         simp only [Bool.or_eq_false_iff] at h0
         rw [q3, ht h0.1]
         cases hc : has l k c with
         | false => simp
         | true =>
           have : ¬ ∃ c, has l k c = true ∧ hasR x c = false := fun e => by rw [q4.2 e] at h0; cases h0.2
           have h5 : hasR x c = true := by
             cases h6 : hasR x c with
             | true => rfl
             | false => exact absurd ⟨c, hc, h6⟩ this
           rw [ht h0.1] at h5
           rw [h5]; rfl
       · intro h0
         simp only [Bool.or_eq_true] at h0
         rcases h0 with h0 | h0
         · obtain ⟨c, c1, c2⟩ := ht2 h0
           exact ⟨c, by rw [q3, c1]; rfl, c2⟩
         · obtain ⟨c, c1, c2⟩ := q4.1 h0
           refine ⟨c, by rw [q3, c1]; simp, ?_⟩
           cases h6 : has l r c with
           | false => rfl
           | true => rw [hw.sup c h6] at c2; cases c2
       · intro h0 k' c hk' h1 h2
         simp only [Bool.or_eq_false_iff] at h0
         rcases Nat.lt_or_ge k' f with h3 | h3
         · exact hp h0.1 k' c h3 h1 h2
         · have h4 := hw.sup k' h1
           rcases Nat.lt_or_ge k' k with h5 | h5
           · rw [hlt k' (by omega) h5] at h4; cases h4
           · obtain rfl : k' = k := by omega
             have : ¬ ∃ c, has l k' c = true ∧ hasR x c = false := fun e => by rw [q4.2 e] at h0; cases h0.2
             have h5 : hasR x c = true := by
               cases h6 : hasR x c with
               | true => rfl
               | false => exact absurd ⟨c, h2, h6⟩ this
             rw [ht h0.1] at h5; exact h5
   · exact ⟨rfl, rfl, ⟨h.ok r, fun c hc => hc, fun S s1 s2 c hc => s1 c hc⟩, fun _ c => rfl, (fun h0 => by cases h0), 0, hi0, fun _ k c h0 => by omega⟩
 obtain ⟨i0, n1, n2⟩ := NextR_eq (h.ok r) 0
 obtain ⟨⟨t, l, j, x⟩, z1, z2, z3, z4, z5, z6⟩ := key i0 n2
 dsimp only at z2 z3 z4 z5 z6
 subst z2 z3
 have hx : ∀ c, has (l.set r x) r c = hasR x c := fun c => by rw [has_set hr2, if_pos rfl]
 refine ⟨t, l.set r x, ?_, h.set hr z4.ok, fun a c ha => by rw [has_set hr2, if_neg ha], fun c hc => by rw [hx]; exact z4.sup c hc, fun S s1 s2 c hc => by rw [hx] at hc; exact z4.snd S s1 s2 c hc, fun h0 => ⟨fun c => by rw [hx]; exact (z5 h0).1 c, (z5 h0).2⟩, fun h0 => ?_⟩
 · unfold fn_matrix_Matrix_widen_p0i_iod
   have eR : fn_matrix_Matrix_row_h (r : Int) (C : Int) l (r : Int) l[r]?.join = some (l, (r : Int), l[r]?.join) := by unfold fn_matrix_Matrix_row_h; rw [if_pos rfl]
   simp only [getM hr2, Option.bind_some, eR, n1, z1, Int.toNat_natCast]
 · obtain ⟨c, c1, c2⟩ := z6 h0
   exact ⟨c, by rw [hx]; exact c1, c2⟩
theorem rowL_lt {C : Nat} {f g : Nat → Bool} (hs : ∀ c, f c = true → g c = true) {c : Nat} (hc : c < C) (h1 : g c = true) (h2 : f c = false) : (rowL C f).length < (rowL C g).length := by
 unfold rowL
 induction C with
 | zero => omega
 | succ C ih =>
   have le : ∀ n, ((List.range n).filter f).length ≤ ((List.range n).filter g).length := fun n => by
     induction n with
     | zero => simp
     | succ n ih =>
       rw [List.range_succ, List.filter_append, List.filter_append, List.length_append, List.length_append]
       have : (List.filter f [n]).length ≤ (List.filter g [n]).length := by
         cases hf : f n with
         | false => simp [List.filter_cons, hf]
         | true => simp [List.filter_cons, hf, hs n hf]
       omega
   rw [List.range_succ, List.filter_append, List.filter_append, List.length_append, List.length_append]
   by_cases hcC : c = C
   · subst hcC
     have := le c
     simp [List.filter_cons, h1, h2]
     omega
   · have := ih (by omega)
     have : (List.filter f [C]).length ≤ (List.filter g [C]).length := by
       cases hf : f C with
       | false => simp [List.filter_cons, hf]
       | true => simp [List.filter_cons, hf, hs C hf]
     omega
theorem rowL_congr {C : Nat} {f g : Nat → Bool} (h : ∀ c, c < C → f c = g c) : rowL C f = rowL C g := List.filter_congr (fun c hc => h c (List.mem_range.1 hc))
theorem widen_all {N C : Nat} {M : MX} (h : Mx N C M) {r : Nat} (hr : r < N) : ∃ M', loop (fn_matrix_Matrix_Close_p0_iod_l1 (C : Int) (r : Int)) M = some M' ∧ (Mx N C M' ∧ (∀ a c, a ≠ r → has M' a c = has M a c) ∧ (∀ c, has M r c = true → has M' r c = true) ∧
   (∀ S : Nat → Prop, (∀ c, has M r c = true → S c) → (∀ k c, S k → has M k c = true → S c) → ∀ c, has M' r c = true → S c) ∧ ∀ k c, has M' r k = true → has M' k c = true → has M' r c = true) := by
 refine loop_inv (I := fun M1 => Mx N C M1 ∧ (∀ a c, a ≠ r → has M1 a c = has M a c) ∧ (∀ c, has M r c = true → has M1 r c = true) ∧ (∀ S : Nat → Prop, (∀ c, has M r c = true → S c) → (∀ k c, S k → has M k c = true → S c) → ∀ c, has M1 r c = true → S c))
   (fun M1 => C - (rowL C (has M1 r)).length) ?_ ⟨h, fun _ _ _ => rfl, fun _ hc => hc, fun S s1 s2 c hc => s1 c hc⟩
 rintro M1 ⟨g1, g2, g3, g4⟩
 obtain ⟨b, M2, q1, q2, q3, q4, q5, q6, q7⟩ := widen_eq g1 hr
 have e : fn_matrix_Matrix_Close_p0_iod_l1 (C : Int) (r : Int) M1 = cond b (some (.inl M2)) (some (.inr M2)) := by
   unfold fn_matrix_Matrix_Close_p0_iod_l1
   rw [q1]; rfl
 have snd2 : ∀ S : Nat → Prop, (∀ c, has M r c = true → S c) → (∀ k c, S k → has M k c = true → S c) → ∀ c, has M2 r c = true → S c := fun S s1 s2 c0 hc0 => by
   refine q5 S (fun c hc => g4 S s1 s2 c hc) (fun k c hk hc => ?_) c0 hc0
   clear hc0
   by_cases hkr : k = r
   · subst hkr; exact g4 S s1 s2 c hc
   · rw [g2 k c hkr] at hc; exact s2 k c hk hc
 have I2 : Mx N C M2 ∧ (∀ a c, a ≠ r → has M2 a c = has M a c) ∧ (∀ c, has M r c = true → has M2 r c = true) := ⟨q2, fun a c ha => (q3 a c ha).trans (g2 a c ha), fun c hc => q4 c (g3 c hc)⟩
 cases b with
 | true =>
   left
   obtain ⟨c, c1, c2⟩ := q7 rfl
   refine ⟨M2, e, ⟨I2.1, I2.2.1, I2.2.2, snd2⟩, ?_⟩
   have h1 := rowL_lt (f := has M1 r) (g := has M2 r) q4 (q2.lt c1).2 c1 c2
   have h2 := rowL_le C (has M2 r)
   show C - (rowL C (has M2 r)).length < C - (rowL C (has M1 r)).length
   omega
 | false =>
   right
   obtain ⟨h1, h2⟩ := q6 rfl
   refine ⟨M2, e, I2.1, I2.2.1, I2.2.2, snd2, fun k c hk hc => ?_⟩
   rw [h1] at hk ⊢
   have hc' : has M1 k c = true := by
     by_cases hkr : k = r
     · subst hkr; rw [h1] at hc; exact hc
     · rw [q3 k c hkr] at hc; exact hc
   exact h2 k c hk hc'
inductive TC (R : Nat → Nat → Bool) : Nat → Nat → Prop where
 | base {a b : Nat} : R a b = true → TC R a b
 | step {a b c : Nat} : TC R a b → R b c = true → TC R a c
theorem TC.trans {R : Nat → Nat → Bool} {a b c : Nat} (h : TC R a b) (k : TC R b c) : TC R a c := by
 induction k with
 | base h1 => exact .step h h1
 | step _ h1 ih => exact .step ih h1
theorem TC.least {R : Nat → Nat → Bool} {T : Nat → Nat → Prop} (h1 : ∀ a b, R a b = true → T a b) (h2 : ∀ a b c, T a b → T b c → T a c) {a b : Nat} (h : TC R a b) : T a b := by
 induction h with
 | base h => exact h1 _ _ h
 | step _ h ih => exact h2 _ _ _ ih (h1 _ _ h)
theorem MClose_eq {N : Nat} {M : MX} (h : Mx N N M) : ∃ M', fn_matrix_Matrix_Close_p0_iod (N : Int) M = some (((cntM N N (has M') : Nat) : Int) - ((cntM N N (has M) : Nat) : Int), M') ∧ Mx N N M' ∧ ∀ a c, has M' a c = true ↔ TC (has M) a c := by
 have hN := h.hN
 have hlen := h.len
 have key := loop_inv (body := fn_matrix_Matrix_Close_p0_iod_l2 (N : Int) (N : Int)) (fun s => ∃ k : Nat, s.1 = (k : Int) ∧ k ≤ N ∧ Mx N N s.2 ∧ (∀ a c, has M a c = true → has s.2 a c = true) ∧ (∀ a c, has s.2 a c = true → TC (has M) a c) ∧ ∀ a c, a < k → TC (has M) a c → has s.2 a c = true) (fun s => N - s.1.toNat)
   (Q := fun M' => Mx N N M' ∧ ∀ a c, has M' a c = true ↔ TC (has M) a c) ?_ (s := ((0 : Int), M)) ⟨0, rfl, Nat.zero_le _, h, fun _ _ hc => hc, fun a c hc => .base hc, fun a c h0 => by omega⟩
 · obtain ⟨M', k1, k2, k3⟩ := key
   refine ⟨M', ?_, k2, k3⟩
   unfold fn_matrix_Matrix_Close_p0_iod
   have er : ∀ M1 : MX, Mx N N M1 → fn_matrix_Matrix_Rows_p0_iod (N : Int) M1 = some ((N : Int), M1) := fun M1 h1 => by
     show some (((M1.length : Nat) : Int), M1) = _
     rw [h1.len]
   have ec : ∀ M1 : MX, fn_matrix_Matrix_Cols_p0_iod (N : Int) M1 = some ((N : Int), M1) := fun M1 => rfl
   have e0 : (!decide ((N : Int) = (N : Int))) = false := by simp
   have b1 := cnt_le N N (has M')
   have b2 := cnt_le N N (has M)
   have b3 : N * N ≤ 65536 * 65536 := Nat.mul_le_mul hN hN
   simp only [er M h, ec, Option.bind_some, e0, cond_false, MCount_eq h, k1, MCount_eq k2]
   rw [w64 (by omega) (by omega)]
   rfl
 · rintro ⟨i, M1⟩ ⟨k, rfl, hk, g1, g2, g3, g4⟩
   dsimp only at *
   by_cases hkN : k < N
   · left
     obtain ⟨M2, q1, q2, q3, q4, q5, q6⟩ := widen_all g1 hkN
     refine ⟨(((k + 1 : Nat) : Int), M2), ?_, ⟨k + 1, rfl, hkN, q2, fun a c hc => ?_, fun a c hc => ?_, fun a c ha hc => ?_⟩, ?_⟩
     · unfold fn_matrix_Matrix_Close_p0_iod_l2
       simp only [dlt hkN, cond_true, q1, Option.bind_some, w64s hkN (by omega)]
     · by_cases hak : a = k
       · subst hak; exact q4 c (g2 _ c hc)
       · rw [q3 a c hak]; exact g2 a c hc
     · by_cases hak : a = k
       · subst hak
         exact q5 (fun c => TC (has M) a c) (fun c hc => g3 _ c hc) (fun k' c hk' hc => hk'.trans (g3 _ c hc)) c hc
       · rw [q3 a c hak] at hc; exact g3 a c hc
     · by_cases hak : a = k
       · have up : ∀ b c, has M b c = true → has M2 b c = true := fun b d hd => by
           by_cases hb : b = k
           · rw [hb] at hd ⊢; exact q4 d (g2 _ d hd)
           · rw [q3 b d hb]; exact g2 b d hd
         subst hak
         have all : ∀ {c}, TC (has M) a c → has M2 a c = true := fun {c} hc => by
           induction hc with
           | base h1 => exact up _ _ h1
           | step _ h1 ih => exact q6 _ _ ih (up _ _ h1)
         exact all hc
       · rw [q3 a c hak]; exact g4 a c (by omega) hc
     · show N - ((k + 1 : Nat) : Int).toNat < N - ((k : Nat) : Int).toNat
       rw [Int.toNat_natCast, Int.toNat_natCast]; omega
   · right
     obtain rfl : k = N := by omega
     refine ⟨M1, ?_, g1, fun a c => ⟨g3 a c, fun hc => ?_⟩⟩
     · unfold fn_matrix_Matrix_Close_p0_iod_l2
       simp only [dge (Nat.lt_irrefl _), cond_false]
     · refine g4 a c ?_ hc
       have : ∀ {a c}, TC (has M) a c → a < k := fun {a c} hc => by
         induction hc with
         | base h1 => exact (h.lt h1).1
         | step _ _ ih => exact ih
       exact this hc
abbrev LC := List (Int × Int)
def inL (L : LC) (r c : Nat) : Bool := decide (((r : Int), (c : Int)) ∈ L)
structure Lw (N C : Nat) (L : LC) : Prop where
 nd : L.Nodup
 rg : ∀ p ∈ L, (0 ≤ p.1 ∧ p.1 < (N : Int)) ∧ 0 ≤ p.2 ∧ p.2 < (C : Int)
theorem Lw.nil {N C : Nat} : Lw N C [] := ⟨List.nodup_nil, fun p h => by cases h⟩
theorem Lw.lt {N C : Nat} {L : LC} (h : Lw N C L) {r c : Nat} (hm : inL L r c = true) : r < N ∧ c < C := by
 have := h.rg _ (of_decide_eq_true hm)
 dsimp only at this
 omega
theorem rowL_add {C c : Nat} {f g : Nat → Bool} (hg : ∀ b, g b = (f b || decide (c = b))) (hf : f c = false) : (rowL C g).length = (rowL C f).length + (if c < C then 1 else 0) := by
 unfold rowL
 induction C with
 | zero => simp
 | succ C ih =>
   rw [List.range_succ, List.filter_append, List.filter_append, List.length_append, List.length_append, ih]
   have h1 : (List.filter g [C]).length = (List.filter f [C]).length + (if c = C then 1 else 0) := by
     by_cases hc : c = C
     · subst hc; simp [List.filter_cons, hg, hf]
     · simp [List.filter_cons, hg, hc]
   rw [h1]
   by_cases hc : c = C
   · subst hc; simp; omega
   · by_cases h2 : c < C
     · rw [if_pos h2, if_neg hc, if_pos (by omega)]; omega
     · rw [if_neg h2, if_neg hc, if_neg (by omega)]; omega
theorem cnt_add {N C r c : Nat} {f g : Nat → Nat → Bool} (hg : ∀ a b, g a b = (f a b || decide (r = a ∧ c = b))) (hf : f r c = false) (hc : c < C) : cntM N C g = cntM N C f + (if r < N then 1 else 0) := by
 induction N with
 | zero => simp [cntM]
 | succ N ih =>
   rw [cnt_succ, cnt_succ, ih]
   by_cases hr : r = N
   · subst hr
     rw [rowL_add (c := c) (f := f r) (g := g r) (fun b => by rw [hg]; simp) hf, if_pos hc, if_neg (by omega), if_pos (by omega)]
     omega
   · have : rowL C (g N) = rowL C (f N) := rowL_congr (fun b _ => by rw [hg]; simp [hr])
     rw [this]
     by_cases h2 : r < N
     · rw [if_pos h2, if_pos (by omega)]; omega
     · rw [if_neg h2, if_neg (by omega)]; omega
theorem cnt_zero (N C : Nat) : cntM N C (fun _ _ => false) = 0 := by
 induction N with
 | zero => simp [cntM]
 | succ N ih => rw [cnt_succ, ih]; simp [rowL]
theorem cnt_congr {N C : Nat} {f g : Nat → Nat → Bool} (h : ∀ a b, f a b = g a b) : cntM N C f = cntM N C g := by
 have : f = g := by funext a b; exact h a b
 rw [this]
theorem Lw.cnt {N C : Nat} : ∀ {L : LC}, Lw N C L → L.length = cntM N C (inL L)
 | [], h => by rw [cnt_congr (g := fun _ _ => false) (fun a b => by simp [inL]), cnt_zero]; rfl
 | p :: L, h => by
   have hp := h.rg p (by simp)
   have hnd := List.nodup_cons.1 h.nd
   have ih := Lw.cnt (L := L) ⟨hnd.2, fun q hq => h.rg q (List.mem_cons_of_mem _ hq)⟩
   obtain ⟨r, c⟩ := p
   dsimp only at hp
   obtain ⟨r, rfl⟩ : ∃ r' : Nat, r = (r' : Int) := ⟨r.toNat, by omega⟩
   obtain ⟨c, rfl⟩ : ∃ c' : Nat, c = (c' : Int) := ⟨c.toNat, by omega⟩
   rw [List.length_cons, ih, cnt_add (r := r) (c := c) (f := inL L) (g := inL (((r : Int), (c : Int)) :: L)) (fun a b => by
     unfold inL
     rw [Bool.eq_iff_iff]
     simp only [Bool.or_eq_true, decide_eq_true_eq, List.mem_cons, Prod.mk.injEq]
     constructor
     · rintro (⟨h1, h2⟩ | h1)
       · exact .inr ⟨by omega, by omega⟩
       · exact .inl h1
     · rintro (h1 | ⟨h1, h2⟩)
       · exact .inr h1
       · exact .inl ⟨by omega, by omega⟩) (decide_eq_false hnd.1) (by omega), if_pos (by omega)]
theorem Lw.len {N C : Nat} {L : LC} (h : Lw N C L) : L.length ≤ N * C := by rw [h.cnt]; exact cnt_le N C _
theorem rfHas6 {n m : Int} {L : LC} (hL : L.length ≤ 9000000) (r c : Int) : fn_ref06_Has (n, m, L) r c = some (decide ((r, c) ∈ L)) := by
 unfold fn_ref06_Has
 rw [loop_some L (fun x => decide (x = (r, c))) (.inr true) (.inl ()) (fun k hk => ?_) ?_]
 · have e : L.any (fun x => decide (x = (r, c))) = decide ((r, c) ∈ L) := by
     rw [Bool.eq_iff_iff]
     simp
   rw [e]
   cases decide ((r, c) ∈ L) <;> rfl
 · unfold fn_ref06_Has_l1
   simp
 · unfold fn_ref06_Has_l1
   simp only [dlt hk, cond_true, getN hk, Option.bind_some, w64s hk (by omega)]
   rcases hx : L[k] with ⟨a, b⟩
   by_cases h1 : a = r
   · by_cases h2 : b = c
     · simp [h1, h2]
     · simp [h1, h2]
   · simp [h1]
theorem rfAdd6 {n m : Int} {L : LC} (hL : L.length ≤ 9000000) (r c : Int) : fn_ref06_Add (n, m, L) r c = some (n, m, (if (((0 ≤ r ∧ r < n) ∧ 0 ≤ c ∧ c < m) ∧ (r, c) ∉ L) then L ++ [(r, c)] else L), decide (((0 ≤ r ∧ r < n) ∧ 0 ≤ c ∧ c < m) ∧ (r, c) ∉ L)) := by
 have hc : (cond ((((decide (r < 0)) || (decide (n ≤ r))) || (decide (c < 0))) || (decide (m ≤ c))) (some (true)) ((fn_ref06_Has (n, m, L) r c).bind fun t => some (t))) = some (!decide (((0 ≤ r ∧ r < n) ∧ 0 ≤ c ∧ c < m) ∧ (r, c) ∉ L)) := by
   rw [rfHas6 hL]
   by_cases hin : (0 ≤ r ∧ r < n) ∧ 0 ≤ c ∧ c < m
   · have e : ((((decide (r < 0)) || (decide (n ≤ r))) || (decide (c < 0))) || (decide (m ≤ c))) = false := by simp; omega
     rw [e]
     simp [hin]
   · have e : ((((decide (r < 0)) || (decide (n ≤ r))) || (decide (c < 0))) || (decide (m ≤ c))) = true := by simp; omega
     rw [e]
     simp [hin]
 unfold fn_ref06_Add
 dsimp only
 rw [hc]
 simp only [Option.bind_some]
 by_cases hin : ((0 ≤ r ∧ r < n) ∧ 0 ≤ c ∧ c < m) ∧ (r, c) ∉ L
 · rw [if_pos hin, decide_eq_true hin]
   simp only [Bool.not_true, cond_false]
   rw [app_eq (by simp; omega)]
   simp only [Option.bind_some, List.nil_append]
   rw [app_eq (by simp; omega)]
   rfl
 · rw [if_neg hin, decide_eq_false hin]
   rfl
theorem gatherL {n : Nat} (hn : n ≤ 65536) (p : Nat → Bool) {body : List Int × Int → Option ((List Int × Int) ⊕ List Int)}
   (hb : ∀ (l : List Int) (k : Nat), k < n → l.length ≤ k → body (l, (k : Int)) = cond (p k) ((app l [(k : Int)]).bind fun z => some (.inl (z, ((k + 1 : Nat) : Int)))) (some (.inl (l, ((k + 1 : Nat) : Int))))) (he : ∀ l, body (l, (n : Int)) = some (.inr l)) :
   loop body ([], 0) = some (liN (rowL n p)) := by
 have e0 : (([] : List Int), (0 : Int)) = (liN (rowL 0 p), ((0 : Nat) : Int)) := rfl
 rw [e0]
 refine loop_nat (fun k => (liN (rowL k p), (k : Int))) n (fun k hk => ?_) (he _)
 have hle := rowL_le k p
 rw [hb _ k hk (by simpa [liN] using hle)]
 have e2 : rowL (k + 1) p = rowL k p ++ (if p k = true then [k] else []) := by
   unfold rowL
   rw [List.range_succ, List.filter_append]
   congr 1
   simp [List.filter_cons]
 cases hq : p k with
 | true =>
   rw [e2, hq, if_pos rfl]
   simp only [cond_true]
   rw [app_eq (by simp [liN]; omega)]
   simp [liN]
 | false =>
   rw [e2, hq, if_neg (by simp)]
   simp
theorem rfRow6 {n : Int} {C : Nat} {L : LC} (hC : C ≤ 65536) (hL : L.length ≤ 9000000) (r : Int) : fn_ref06_Row (n, (C : Int), L) r = some (liN (rowL C fun c => decide ((r, (c : Int)) ∈ L))) := by
 unfold fn_ref06_Row
 rw [gatherL hC (fun c => decide ((r, (c : Int)) ∈ L)) (fun l k hk hl => ?_) (fun l => ?_)]
 · rfl
 · unfold fn_ref06_Row_l1
   simp only [dlt hk, cond_true, rfHas6 hL, Option.bind_some, w64s hk (by omega)]
 · unfold fn_ref06_Row_l1
   simp only [dge (Nat.lt_irrefl _), cond_false]
theorem rfCol6 {N : Nat} {m : Int} {L : LC} (hN : N ≤ 65536) (hL : L.length ≤ 9000000) (c : Int) : fn_ref06_Col ((N : Int), m, L) c = some (liN (rowL N fun r => decide (((r : Int), c) ∈ L))) := by
 unfold fn_ref06_Col
 rw [gatherL hN (fun r => decide (((r : Int), c) ∈ L)) (fun l k hk hl => ?_) (fun l => ?_)]
 · rfl
 · unfold fn_ref06_Col_l1
   simp only [dlt hk, cond_true, rfHas6 hL, Option.bind_some, w64s hk (by omega)]
 · unfold fn_ref06_Col_l1
   simp only [dge (Nat.lt_irrefl _), cond_false]
theorem mem_neg {N C : Nat} {L : LC} (h : Lw N C L) {r : Int} {c : Int} : decide ((r, c) ∈ L) = ((decide (0 ≤ r) && decide (0 ≤ c)) && inL L r.toNat c.toNat) := by
 unfold inL
 rw [Bool.eq_iff_iff]
 simp only [Bool.and_eq_true, decide_eq_true_eq]
 constructor
 · intro hm
   have := h.rg _ hm
   dsimp only at this
   refine ⟨⟨this.1.1, this.2.1⟩, ?_⟩
   rw [Int.toNat_of_nonneg this.1.1, Int.toNat_of_nonneg this.2.1]; exact hm
 · rintro ⟨⟨h1, h2⟩, h3⟩
   rw [Int.toNat_of_nonneg h1, Int.toNat_of_nonneg h2] at h3; exact h3
theorem Lw.add {N C : Nat} {L : LC} (h : Lw N C L) {r c : Int} (hin : (0 ≤ r ∧ r < (N : Int)) ∧ 0 ≤ c ∧ c < (C : Int)) (hno : (r, c) ∉ L) : Lw N C (L ++ [(r, c)]) :=
 ⟨by
   rw [List.nodup_append]
   refine ⟨h.nd, by simp, fun a ha b hb => ?_⟩
   simp only [List.mem_singleton] at hb
   subst hb
   exact fun e => hno (e ▸ ha), fun p hp => by
   rw [List.mem_append] at hp
   rcases hp with hp | hp
   · exact h.rg p hp
   · simp only [List.mem_singleton] at hp; subst hp; exact hin⟩
theorem inL_add {L : LC} {r c : Int} (h : 0 ≤ r ∧ 0 ≤ c) (a b : Nat) : inL (L ++ [(r, c)]) a b = (inL L a b || decide (r.toNat = a ∧ c.toNat = b)) := by
 unfold inL
 rw [Bool.eq_iff_iff]
 simp only [Bool.or_eq_true, decide_eq_true_eq, List.mem_append, List.mem_singleton, Prod.mk.injEq]
 constructor
 · rintro (h1 | ⟨h1, h2⟩)
   · exact .inl h1
   · exact .inr ⟨by omega, by omega⟩
 · rintro (h1 | ⟨h1, h2⟩)
   · exact .inl h1
   · exact .inr ⟨by omega, by omega⟩
theorem rfOr6 {N C : Nat} {L : LC} (hN : N ≤ 100) (hC : C ≤ 100) (h : Lw N C L) (r k : Int) : ∃ L' b, fn_ref06_Or ((N : Int), (C : Int), L) r k = some ((N : Int), (C : Int), L', b) ∧ Lw N C L' ∧ (∃ D, L' = L ++ D ∧ (b = true ↔ D ≠ [])) ∧
   ∀ a c, inL L' a c = (inL L a c || (decide ((0 ≤ r ∧ r < (N : Int)) ∧ r.toNat = a) && (decide (0 ≤ k) && inL L k.toNat c))) := by
 have lenL : ∀ {L : LC}, Lw N C L → L.length ≤ 10000 := fun h => Nat.le_trans h.len (Nat.mul_le_mul hN hC)
 have h0 := lenL h
 obtain ⟨cs, hcs⟩ : ∃ cs, cs = rowL C (fun c => decide ((k, (c : Int)) ∈ L)) := ⟨_, rfl⟩
 have hcl : cs.length ≤ 100 := by rw [hcs]; exact Nat.le_trans (rowL_le _ _) hC
 have hcm : ∀ c, c ∈ cs ↔ (decide (0 ≤ k) && inL L k.toNat c) = true := fun c => by
   rw [hcs]
   unfold rowL
   rw [List.mem_filter, List.mem_range, mem_neg h]
   simp only [Bool.and_eq_true, decide_eq_true_eq, Int.toNat_natCast]
   constructor
   · rintro ⟨_, ⟨h1, _⟩, h2⟩; exact ⟨h1, h2⟩
   · rintro ⟨h1, h2⟩; exact ⟨(h.lt h2).2, ⟨h1, by omega⟩, h2⟩
 have hcC : ∀ c ∈ cs, c < C := fun c hc => by
   rw [hcs] at hc
   exact List.mem_range.1 (List.mem_filter.1 hc).1
 have key := loop_inv (body := fn_ref06_Or_l1 r (liN cs)) (fun s => ∃ (k : Nat) (D : LC), s.2.1 = (k : Int) ∧ k ≤ cs.length ∧ s.2.2.1 = (N : Int) ∧ s.2.2.2.1 = (C : Int) ∧ s.2.2.2.2 = L ++ D ∧ Lw N C (L ++ D) ∧ (s.1 = true ↔ D ≠ []) ∧
     ∀ a c, inL (L ++ D) a c = (inL L a c || (decide ((0 ≤ r ∧ r < (N : Int)) ∧ r.toNat = a) && decide (c ∈ cs.take k)))) (fun s => cs.length - s.2.1.toNat)
   (Q := fun z => ∃ D, z.2.1 = (N : Int) ∧ z.2.2.1 = (C : Int) ∧ z.2.2.2 = L ++ D ∧ Lw N C (L ++ D) ∧ (z.1 = true ↔ D ≠ []) ∧ ∀ a c, inL (L ++ D) a c = (inL L a c || (decide ((0 ≤ r ∧ r < (N : Int)) ∧ r.toNat = a) && decide (c ∈ cs)))) ?_
   (s := (false, (0 : Int), (N : Int), (C : Int), L)) ⟨0, [], rfl, Nat.zero_le _, rfl, rfl, by simp, by simpa using h, by simp, fun a c => by simp⟩
 · obtain ⟨⟨b, n1, m1, L'⟩, z1, D, z2, z3, z4, z5, z6, z7⟩ := key
   dsimp only at z2 z3 z4 z6
   subst z2 z3 z4
   refine ⟨L ++ D, b, ?_, z5, ⟨D, rfl, z6⟩, fun a c => ?_⟩
   · unfold fn_ref06_Or
     dsimp only
     rw [rfRow6 (by omega) (by omega), ← hcs]
     simp only [Option.bind_some, z1]
   · rw [z7]
     congr 2
     rw [Bool.eq_iff_iff, decide_eq_true_eq]
     exact hcm c
 · rintro ⟨b, i, n1, m1, L1⟩ ⟨k, D, rfl, hk, rfl, rfl, rfl, g1, g2, g3⟩
   dsimp only at g2 hk ⊢
   have hll : (liN cs).length = cs.length := by simp [liN]
   unfold fn_ref06_Or_l1
   by_cases hkl : k < cs.length
   · left
     have hk2 : k < (liN cs).length := by omega
     have hx : (liN cs)[k] = ((cs[k] : Nat) : Int) := by simp [liN]
     have hcC' := hcC cs[k] (List.getElem_mem hkl)
     have hL1 := lenL g1
     simp only [dlt hk2, cond_true, getN hk2, Option.bind_some, hx, rfAdd6 (show (L ++ D).length ≤ 9000000 by omega), agr_self, w64s hk2 (by omega)]
     have htk : cs.take (k + 1) = cs.take k ++ [cs[k]] := take_snoc hkl
     by_cases hin : ((0 ≤ r ∧ r < (N : Int)) ∧ (0 : Int) ≤ ((cs[k] : Nat) : Int) ∧ ((cs[k] : Nat) : Int) < (C : Int)) ∧ (r, ((cs[k] : Nat) : Int)) ∉ L ++ D
     · rw [if_pos hin, decide_eq_true hin]
       refine ⟨_, rfl, ⟨k + 1, D ++ [(r, ((cs[k] : Nat) : Int))], rfl, hkl, rfl, rfl, by simp, ?_, by simp, fun a c => ?_⟩, by simp; omega⟩
       · rw [← List.append_assoc]; exact g1.add hin.1 hin.2
       · rw [← List.append_assoc, inL_add ⟨hin.1.1.1, hin.1.2.1⟩, g3, htk]
         rw [Bool.eq_iff_iff]
         simp only [Bool.or_eq_true, Bool.and_eq_true, decide_eq_true_eq, List.mem_append, List.mem_singleton, Int.toNat_natCast]
         constructor
         · rintro ((h1 | h1) | h1)
           · exact .inl h1
           · exact .inr ⟨h1.1, .inl h1.2⟩
           · exact .inr ⟨⟨hin.1.1, h1.1⟩, .inr h1.2.symm⟩
         · rintro (h1 | ⟨h1, h2 | h2⟩)
           · exact .inl (.inl h1)
           · exact .inl (.inr ⟨h1, h2⟩)
           · exact .inr ⟨h1.2, h2.symm⟩
     · rw [if_neg hin, decide_eq_false hin]
       refine ⟨_, rfl, ⟨k + 1, D, rfl, hkl, rfl, rfl, rfl, g1, by simpa using g2, fun a c => ?_⟩, by simp; omega⟩
       rw [g3, htk]
       rw [Bool.eq_iff_iff]
       simp only [Bool.or_eq_true, Bool.and_eq_true, decide_eq_true_eq, List.mem_append, List.mem_singleton]
       constructor
       · rintro (h1 | h1)
         · exact .inl h1
         · exact .inr ⟨h1.1, .inl h1.2⟩
       · rintro (h1 | ⟨h1, h2 | h2⟩)
         · exact .inl h1
         · exact .inr ⟨h1, h2⟩
         · have hmem : (r, ((cs[k] : Nat) : Int)) ∈ L ++ D := by
             rcases Classical.em ((r, ((cs[k] : Nat) : Int)) ∈ L ++ D) with h3 | h3
             · exact h3
             · exact absurd ⟨⟨h1.1, by omega, by omega⟩, h3⟩ hin
           have h4 : inL (L ++ D) a c = true := by
             unfold inL
             rw [decide_eq_true_eq, h2, ← h1.2, Int.toNat_of_nonneg h1.1.1]
             exact hmem
           rw [g3] at h4
           simpa only [Bool.or_eq_true, Bool.and_eq_true, decide_eq_true_eq] using h4
   · right
     have hk2 : ¬ k < (liN cs).length := by omega
     obtain rfl : k = cs.length := by omega
     rw [List.take_length] at g3
     exact ⟨(b, (N : Int), (C : Int), L ++ D), by simp only [dge hk2, cond_false], D, rfl, rfl, rfl, g1, g2, g3⟩
theorem inL_sup {L D : LC} {a c : Nat} (h : inL L a c = true) : inL (L ++ D) a c = true := by
 unfold inL at h ⊢
 rw [decide_eq_true_eq] at h ⊢
 exact List.mem_append_left _ h
theorem lenL {N C : Nat} {L : LC} (hN : N ≤ 100) (hC : C ≤ 100) (h : Lw N C L) : L.length ≤ 10000 := Nat.le_trans h.len (Nat.mul_le_mul hN hC)
theorem rfClose1 {N : Nat} (hN : N ≤ 100) {L0 L : LC} {T : Nat → Nat → Prop} (hT : ∀ a b c, T a b → T b c → T a c) {D0 : LC} (hL : L = L0 ++ D0) (hw : Lw N N L) (hsnd : ∀ a c, inL L a c = true → T a c) {b0 : Bool} (hb0 : b0 = true ↔ D0 ≠ []) {r : Nat} (hr : r < N) (cs : List Nat) (hcs : ∀ c, c ∈ cs ↔ inL L r c = true) (hcl : cs.length ≤ 100) :
   ∃ z : Bool × Int × Int × LC, loop (fn_ref06_Close_l1 (r : Int) (liN cs)) (b0, 0, (N : Int), (N : Int), L) = some z ∧ ∃ D, z.2.1 = (N : Int) ∧ z.2.2.1 = (N : Int) ∧ z.2.2.2 = L0 ++ D ∧ Lw N N (L0 ++ D) ∧ (z.1 = true ↔ D ≠ []) ∧ (∀ a c, inL (L0 ++ D) a c = true → T a c) ∧ (D = [] → D0 = [] ∧ ∀ k c, inL L0 r k = true → inL L0 k c = true → inL L0 r c = true) := by
 refine loop_inv (I := fun s => ∃ (k : Nat) (D : LC), s.2.1 = (k : Int) ∧ k ≤ cs.length ∧ s.2.2.1 = (N : Int) ∧ s.2.2.2.1 = (N : Int) ∧ s.2.2.2.2 = L0 ++ D ∧ Lw N N (L0 ++ D) ∧ (s.1 = true ↔ D ≠ []) ∧ (∀ a c, inL (L0 ++ D) a c = true → T a c) ∧ (∀ c ∈ cs, inL (L0 ++ D) r c = true) ∧
   (D = [] → D0 = [] ∧ ∀ j, j < k → ∀ c, ∀ x, cs[j]? = some x → inL L0 x c = true → inL L0 r c = true)) (fun s => cs.length - s.2.1.toNat) ?_ ⟨0, D0, rfl, Nat.zero_le _, rfl, rfl, hL, hL ▸ hw, hb0, hL ▸ hsnd, fun c hc => hL ▸ (hcs c).1 hc, fun h => ⟨h, fun j hj => by omega⟩⟩
 rintro ⟨b, i, n1, m1, L1⟩ ⟨k, D, rfl, hk, rfl, rfl, rfl, g1, g2, g3, g4, g5⟩
 dsimp only at g2 hk ⊢
 have hll : (liN cs).length = cs.length := by simp [liN]
 unfold fn_ref06_Close_l1
 by_cases hkl : k < cs.length
 · left
   have hk2 : k < (liN cs).length := by omega
   have hx : (liN cs)[k] = ((cs[k] : Nat) : Int) := by simp [liN]
   obtain ⟨L', b', q1, q2, ⟨D', rfl, q3⟩, q4⟩ := rfOr6 hN hN g1 (r : Int) ((cs[k] : Nat) : Int)
   simp only [dlt hk2, cond_true, getN hk2, Option.bind_some, hx, q1, agr_self, w64s hk2 (by omega)]
   have q4' : ∀ a c, inL (L0 ++ (D ++ D')) a c = (inL (L0 ++ D) a c || (decide (r = a) && inL (L0 ++ D) cs[k] c)) := fun a c => by
     rw [← List.append_assoc, q4]
     have e1 : decide (((0 : Int) ≤ (r : Int) ∧ (r : Int) < (N : Int)) ∧ ((r : Int)).toNat = a) = decide (r = a) := by
       rw [Int.toNat_natCast]
       have : (0 : Int) ≤ (r : Int) ∧ (r : Int) < (N : Int) := by omega
       simp [this]
     rw [e1, Int.toNat_natCast]
     simp
   refine ⟨_, rfl, ⟨k + 1, D ++ D', rfl, hkl, rfl, rfl, by simp, by rw [← List.append_assoc]; exact q2, ?_, fun a c hc => ?_, fun c hc => ?_, fun h0 => ?_⟩, by simp; omega⟩
   · simp only [Bool.or_eq_true, g2, q3, List.append_eq_nil_iff, ne_eq, not_and]
     constructor
     · rintro (h1 | h1) h2
       · exact absurd h2 h1
       · exact h1
     · intro h1
       by_cases h2 : D = []
       · exact .inr (h1 h2)
       · exact .inl h2
   · rw [q4', Bool.or_eq_true, Bool.and_eq_true, decide_eq_true_eq] at hc
     rcases hc with hc | ⟨rfl, hc⟩
     · exact g3 a c hc
     · exact hT _ _ _ (g3 _ _ (g4 _ (List.getElem_mem hkl))) (g3 _ _ hc)
   · rw [q4', g4 c hc]; rfl
   · obtain ⟨rfl, rfl⟩ := List.append_eq_nil_iff.1 h0
     obtain ⟨h1, h2⟩ := g5 rfl
     refine ⟨h1, fun j hj c x hx9 hc => ?_⟩
     rcases Nat.lt_or_ge j k with h3 | h3
     · exact h2 j h3 c x hx9 hc
     · obtain rfl : j = k := by omega
       rw [List.getElem?_eq_getElem hkl] at hx9
       cases hx9
       have := q4' r c
       rw [List.append_nil, List.append_nil, hc] at this
       simpa using this
 · right
   have hk2 : ¬ k < (liN cs).length := by omega
   obtain rfl : k = cs.length := by omega
   refine ⟨(b, (N : Int), (N : Int), L0 ++ D), by simp only [dge hk2, cond_false], D, rfl, rfl, rfl, g1, g2, g3, fun h0 => ⟨(g5 h0).1, fun k c h1 h2 => ?_⟩⟩
   subst h0
   have hm := (hcs k).2 (by rw [hL, (g5 rfl).1]; simpa using h1)
   obtain ⟨j, hj, hjk⟩ := List.getElem_of_mem hm
   exact (g5 rfl).2 j hj c k (by rw [List.getElem?_eq_getElem hj, hjk]) h2
theorem rfClose2 {N : Nat} (hN : N ≤ 100) {L0 : LC} {T : Nat → Nat → Prop} (hT : ∀ a b c, T a b → T b c → T a c) (hw : Lw N N L0) (hsnd : ∀ a c, inL L0 a c = true → T a c) :
   ∃ z : Bool × Int × Int × LC, loop fn_ref06_Close_l2 (false, 0, (N : Int), (N : Int), L0) = some z ∧ ∃ D, z.2.1 = (N : Int) ∧ z.2.2.1 = (N : Int) ∧ z.2.2.2 = L0 ++ D ∧ Lw N N (L0 ++ D) ∧ (z.1 = true ↔ D ≠ []) ∧ (∀ a c, inL (L0 ++ D) a c = true → T a c) ∧ (D = [] → ∀ a k c, inL L0 a k = true → inL L0 k c = true → inL L0 a c = true) := by
 refine loop_inv (I := fun s => ∃ (k : Nat) (D : LC), s.2.1 = (k : Int) ∧ k ≤ N ∧ s.2.2.1 = (N : Int) ∧ s.2.2.2.1 = (N : Int) ∧ s.2.2.2.2 = L0 ++ D ∧ Lw N N (L0 ++ D) ∧ (s.1 = true ↔ D ≠ []) ∧ (∀ a c, inL (L0 ++ D) a c = true → T a c) ∧
   (D = [] → ∀ a k' c, a < k → inL L0 a k' = true → inL L0 k' c = true → inL L0 a c = true)) (fun s => N - s.2.1.toNat) ?_ ⟨0, [], rfl, Nat.zero_le _, rfl, rfl, by simp, by simpa using hw, by simp, by simpa using hsnd, fun _ a k c h => by omega⟩
 rintro ⟨b, i, n1, m1, L1⟩ ⟨k, D, rfl, hk, rfl, rfl, rfl, g1, g2, g3, g4⟩
 dsimp only at g2 hk ⊢
 unfold fn_ref06_Close_l2
 by_cases hkl : k < N
 · left
   have h1 := lenL hN hN g1
   obtain ⟨cs, hcs⟩ : ∃ cs, cs = rowL N (fun c => decide (((k : Int), (c : Int)) ∈ L0 ++ D)) := ⟨_, rfl⟩
   obtain ⟨⟨b', n1, m1, L'⟩, q0, D', q1, q2, q3, q4, q5, q6, q7⟩ := rfClose1 hN hT rfl g1 g3 g2 hkl cs (fun c => by
     rw [hcs]
     unfold rowL
     rw [List.mem_filter, List.mem_range]
     exact ⟨fun h => h.2, fun h => ⟨(g1.lt h).2, h⟩⟩) (by rw [hcs]; exact Nat.le_trans (rowL_le _ _) hN)
   dsimp only at q1 q2 q3
   subst q1 q2 q3
   simp only [dlt hkl, cond_true, rfRow6 (show N ≤ 65536 by omega) (show (L0 ++ D).length ≤ 9000000 by omega), ← hcs, Option.bind_some, q0, w64s hkl (by omega)]
   refine ⟨_, rfl, ⟨k + 1, D', rfl, hkl, rfl, rfl, rfl, q4, q5, q6, fun h0 a k' c ha h2 h3 => ?_⟩, by simp; omega⟩
   obtain ⟨h4, h5⟩ := q7 h0
   by_cases hak : a = k
   · subst hak; exact h5 k' c h2 h3
   · exact g4 h4 a k' c (by omega) h2 h3
 · right
   obtain rfl : k = N := by omega
   refine ⟨(b, (k : Int), (k : Int), L0 ++ D), by simp only [dge (Nat.lt_irrefl _), cond_false], D, rfl, rfl, rfl, g1, g2, g3, fun h0 a k' c h2 h3 => g4 h0 a k' c ?_ h2 h3⟩
   subst h0
   rw [List.append_nil] at g1
   exact (g1.lt h2).1
theorem rfClose6 {N : Nat} (hN : N ≤ 100) {L : LC} (hw : Lw N N L) : ∃ L', fn_ref06_Close ((N : Int), (N : Int), L) = some ((N : Int), (N : Int), L', ((L'.length : Nat) : Int) - ((L.length : Nat) : Int)) ∧ Lw N N L' ∧ ∀ a c, inL L' a c = true ↔ TC (inL L) a c := by
 have key := loop_inv (body := fn_ref06_Close_l3) (fun s => s.2.1 = (N : Int) ∧ s.2.2.1 = (N : Int) ∧ Lw N N s.2.2.2 ∧ (∀ a c, inL L a c = true → inL s.2.2.2 a c = true) ∧ (∀ a c, inL s.2.2.2 a c = true → TC (inL L) a c) ∧ (s.1 = false → ∀ a k c, inL s.2.2.2 a k = true → inL s.2.2.2 k c = true → inL s.2.2.2 a c = true)) (fun s => 2 * (N * N - s.2.2.2.length) + (if s.1 then 1 else 0))
   (Q := fun z => z.1 = (N : Int) ∧ z.2.1 = (N : Int) ∧ Lw N N z.2.2 ∧ ∀ a c, inL z.2.2 a c = true ↔ TC (inL L) a c) ?_ (s := (true, (N : Int), (N : Int), L)) ⟨rfl, rfl, hw, fun _ _ h => h, fun a c h => .base h, fun h => by cases h⟩
 · obtain ⟨⟨n1, m1, L'⟩, z1, z2, z3, z4, z5⟩ := key
   dsimp only at z2 z3
   subst z2 z3
   refine ⟨L', ?_, z4, z5⟩
   have h1 : L'.length ≤ 10000 := lenL hN hN z4
   have h2 := lenL hN hN hw
   unfold fn_ref06_Close
   have e : decide ((N : Int) = (N : Int)) = true := by simp
   dsimp only
   rw [e, z1]
   dsimp only [Option.bind_some]
   rw [w64 (by omega) (by omega)]
 · rintro ⟨b, n1, m1, L1⟩ ⟨rfl, rfl, g1, g2, g3, g4⟩
   dsimp only at *
   unfold fn_ref06_Close_l3
   cases b with
   | false =>
     right
     refine ⟨((N : Int), (N : Int), L1), rfl, rfl, rfl, g1, fun a c => ⟨g3 a c, fun h => ?_⟩⟩
     exact TC.least (T := fun a b => inL L1 a b = true) g2 (fun a b c h1 h2 => g4 rfl a b c h1 h2) h
   | true =>
     left
     obtain ⟨⟨b', n1, m1, L'⟩, q0, D, q1, q2, q3, q4, q5, q6, q7⟩ := rfClose2 hN (T := TC (inL L)) (fun a b c h k => h.trans k) g1 g3
     dsimp only at q1 q2 q3
     subst q1 q2 q3
     simp only [cond_true, q0, Option.bind_some]
     refine ⟨_, rfl, ⟨rfl, rfl, q4, fun a c h => inL_sup (g2 a c h), q6, fun h0 => ?_⟩, ?_⟩
     · have hD : D = [] := by
         rcases Classical.em (D = []) with h | h
         · exact h
         · rw [q5.2 h] at h0; cases h0
       subst hD
       rw [List.append_nil]
       exact q7 rfl
     · show 2 * (N * N - (L1 ++ D).length) + (if b' then 1 else 0) < 2 * (N * N - L1.length) + 1
       have h1 := q4.len
       rw [List.length_append] at h1 ⊢
       cases b' with
       | false => simp; omega
       | true =>
         have h2 : 1 ≤ D.length := List.length_pos_iff.2 (q5.1 rfl)
         simp; omega
theorem rfCloseN {n m : Int} (hnm : n ≠ m) {L : LC} (hL : L.length ≤ 10000) : fn_ref06_Close (n, m, L) = some (n, m, L, 0) := by
 unfold fn_ref06_Close
 have e : decide (n = m) = false := by simpa using hnm
 simp only [e]
 rw [loop_end (b := (n, m, L)) (by unfold fn_ref06_Close_l3; rfl)]
 simp only [Option.bind_some]
 rw [w64 (by omega) (by omega)]
 simp
def aw2 (a b : Nat) : Bool := decide (0 = a ∧ 1 = b) || decide (1 = a ∧ 2 = b)
def aw3 (a b : Nat) : Bool := aw2 a b || decide (0 = a ∧ 2 = b)
theorem aw_cnt2 : cntM 3 3 aw2 = 2 := by decide
theorem aw_cnt3 : cntM 3 3 aw3 = 3 := by decide
theorem aw_tc {f : Nat → Nat → Bool} (hf : ∀ a b, f a b = aw2 a b) (a b : Nat) : TC f a b ↔ aw3 a b = true := by
 constructor
 · refine TC.least (T := fun a b => aw3 a b = true) (fun a b h => by rw [hf] at h; unfold aw3; rw [h]; rfl) (fun a b c h1 h2 => ?_)
   unfold aw3 aw2 at *
   simp only [Bool.or_eq_true, decide_eq_true_eq] at *
   omega
 · intro h
   unfold aw3 aw2 at h
   simp only [Bool.or_eq_true, decide_eq_true_eq] at h
   have h01 : f 0 1 = true := by rw [hf]; rfl
   have h12 : f 1 2 = true := by rw [hf]; rfl
   rcases h with (⟨rfl, rfl⟩ | ⟨rfl, rfl⟩) | ⟨rfl, rfl⟩
   · exact .base h01
   · exact .base h12
   · exact .step (.base h01) h12
theorem awake06 : fn_law06_awake = some true := by
 have h0 := Mx_new (N := 3) (C := 3) (by omega) (by omega)
 obtain ⟨M1, a1, a2, a3⟩ := MAdd_eq h0 0 1
 obtain ⟨M2, b1, b2, b3⟩ := MAdd_eq a2 1 2
 obtain ⟨M3, c1, c2, c3⟩ := MClose_eq b2
 have e1 : ∀ a b, has M1 a b = decide (0 = a ∧ 1 = b) := fun a b => by rw [a3, has_new]; simp
 have e2 : ∀ a b, has M2 a b = aw2 a b := fun a b => by rw [b3, e1]; unfold aw2; simp
 have e3 : ∀ a b, has M3 a b = aw3 a b := fun a b => by rw [Bool.eq_iff_iff, c3, aw_tc e2]
 rw [cnt_congr e3, cnt_congr e2, aw_cnt2, aw_cnt3] at c1
 have a1' : fn_matrix_Matrix_Add_p0ii_iod 0 1 3 (List.replicate 3 none) = some (true, M1) := by
   rw [show (3 : Int) = ((3 : Nat) : Int) from rfl, a1, has_new]; rfl
 have b1' : fn_matrix_Matrix_Add_p0ii_iod 1 2 3 M1 = some (true, M2) := by
   rw [show (3 : Int) = ((3 : Nat) : Int) from rfl, b1, e1]; rfl
 have c1' : fn_matrix_Matrix_Close_p0_iod 3 M2 = some (1, M3) := c1
 have d1 : fn_matrix_Matrix_Has (some (3, M3)) 0 2 = some true := by
   have := MHas_eq c2 0 2
   rw [e3] at this
   exact this
 have d2 : fn_matrix_Matrix_Count_p0_iod 3 M3 = some (3, M3) := by
   have := MCount_eq c2
   rw [cnt_congr e3, aw_cnt3] at this
   exact this
 unfold fn_law06_awake
 rw [MNew_eq, if_neg (by omega), if_neg (by omega)]
 simp only [Option.bind_some, show Int.toNat 3 = 3 from rfl, a1', b1', c1', d1, d2]
 rfl
theorem new_iff {N C : Nat} {L D : LC} (h : Lw N C (L ++ D)) : D ≠ [] ↔ ∃ a c, inL (L ++ D) a c = true ∧ inL L a c = false := by
 constructor
 · intro hD
   obtain ⟨p, D', rfl⟩ := List.exists_cons_of_ne_nil hD
   have hp : p ∈ L ++ p :: D' := by simp
   have hr := h.rg p hp
   have hn : p ∉ L := by
     have := (List.nodup_append.1 h.nd).2.2
     exact fun hL => this p hL p (by simp) rfl
   have e : (((p.1.toNat : Nat) : Int), ((p.2.toNat : Nat) : Int)) = p := by
     rw [Int.toNat_of_nonneg hr.1.1, Int.toNat_of_nonneg hr.2.1]
   refine ⟨p.1.toNat, p.2.toNat, ?_, ?_⟩
   · unfold inL; rw [e]; exact decide_eq_true hp
   · unfold inL; rw [e]; exact decide_eq_false hn
 · rintro ⟨a, c, h1, h2⟩ rfl
   rw [List.append_nil] at h1
   rw [h1] at h2; cases h2
theorem does_eq {N C : Nat} {M : MX} {L : LC} (hN : N ≤ 100) (hC : C ≤ 100) (h : Mx N C M) (hw : Lw N C L) (hr : ∀ a c, has M a c = inL L a c) (x : Int × Int × Int) :
   ∃ L' M', fn_law06_does_p0aa_iod ((N : Int), (C : Int), L) x (C : Int) M = some ((N : Int), (C : Int), L', true, M') ∧ Mx N C M' ∧ Lw N C L' ∧ ∀ a c, has M' a c = inL L' a c := by
 obtain ⟨kind, r, c⟩ := x
 have hl := lenL hN hC hw
 unfold fn_law06_does_p0aa_iod
 dsimp only
 by_cases h0 : kind = 0
 · obtain ⟨M', q1, q2, q3⟩ := MAdd_eq h r c
   simp only [decide_eq_true h0, cond_true, rfAdd6 (show L.length ≤ 9000000 by omega), Option.bind_some, q1]
   have eb : decide (((0 ≤ r ∧ r < (N : Int)) ∧ 0 ≤ c ∧ c < (C : Int)) ∧ (r, c) ∉ L) = (decide ((0 ≤ r ∧ r < (N : Int)) ∧ 0 ≤ c ∧ c < (C : Int)) && !has M r.toNat c.toNat) := by
     rw [hr]
     by_cases hin : (0 ≤ r ∧ r < (N : Int)) ∧ 0 ≤ c ∧ c < (C : Int)
     · have e := mem_neg hw (r := r) (c := c)
       rw [decide_eq_true hin.1.1, decide_eq_true hin.2.1] at e
       simp only [Bool.true_and] at e
       rw [← e]
       simp [hin]
     · simp [hin]
   by_cases hin : ((0 ≤ r ∧ r < (N : Int)) ∧ 0 ≤ c ∧ c < (C : Int)) ∧ (r, c) ∉ L
   · rw [if_pos hin, eb]
     refine ⟨_, M', by simp, q2, hw.add hin.1 hin.2, fun a b => ?_⟩
     rw [q3, inL_add ⟨hin.1.1.1, hin.1.2.1⟩, hr]
     simp [hin.1]
   · rw [if_neg hin, eb]
     refine ⟨_, M', by simp, q2, hw, fun a b => ?_⟩
     rw [q3, hr]
     have : decide (((0 ≤ r ∧ r < (N : Int)) ∧ 0 ≤ c ∧ c < (C : Int)) ∧ r.toNat = a ∧ c.toNat = b) = true → inL L a b = true := fun hd => by
       have hd := of_decide_eq_true hd
       have hm : (r, c) ∈ L := by
         rcases Classical.em ((r, c) ∈ L) with h3 | h3
         · exact h3
         · exact absurd ⟨hd.1, h3⟩ hin
       unfold inL
       rw [decide_eq_true_eq, ← hd.2.1, ← hd.2.2, Int.toNat_of_nonneg hd.1.1.1, Int.toNat_of_nonneg hd.1.2.1]
       exact hm
     cases hq : decide (((0 ≤ r ∧ r < (N : Int)) ∧ 0 ≤ c ∧ c < (C : Int)) ∧ r.toNat = a ∧ c.toNat = b) with
     | false => simp
     | true => rw [this hq]; rfl
 · by_cases h1 : kind = 1
   · obtain ⟨L', b', p1, p2, ⟨D, rfl, p3⟩, p4⟩ := rfOr6 hN hC hw r c
     obtain ⟨b, M', q1, q2, q3, q4⟩ := MOr_eq h r c
     have hsame : ∀ a k, has M' a k = inL (L ++ D) a k := fun a k => by rw [q3, p4, hr, hr]
     have eb : b = b' := by
       rw [Bool.eq_iff_iff, p3, new_iff p2, q4]
       constructor
       · rintro ⟨hin, k, k1, k2⟩
         refine ⟨r.toNat, k, ?_, by rw [← hr]; exact k2⟩
         rw [← hsame, q3, k1]
         simp [hin]
       · rintro ⟨a, k, k1, k2⟩
         rw [← hsame, q3, Bool.or_eq_true] at k1
         rw [← hr] at k2
         rcases k1 with k1 | k1
         · rw [k1] at k2; cases k2
         · simp only [Bool.and_eq_true, decide_eq_true_eq] at k1
           obtain ⟨⟨hin, rfl⟩, k3⟩ := k1
           exact ⟨hin, k, by simpa using k3, k2⟩
     simp only [decide_eq_false h0, cond_false, decide_eq_true h1, cond_true, p1, Option.bind_some, q1, eb]
     exact ⟨_, M', by simp, q2, p2, hsame⟩
   · by_cases h2 : kind = 2
     · by_cases hnm : N = C
       · subst hnm
         obtain ⟨L', p1, p2, p3⟩ := rfClose6 hN hw
         obtain ⟨M', q1, q2, q3⟩ := MClose_eq h
         have hf : has M = inL L := by funext a c; exact hr a c
         have hsame : ∀ a k, has M' a k = inL L' a k := fun a k => by rw [Bool.eq_iff_iff, q3, p3, hf]
         simp only [decide_eq_false h0, cond_false, decide_eq_false h1, decide_eq_true h2, cond_true, p1, Option.bind_some, q1, cnt_congr hsame, cnt_congr hr, ← hw.cnt, ← p2.cnt]
         exact ⟨_, M', by simp, q2, p2, hsame⟩
       · have hne : ¬ (N : Int) = (C : Int) := by omega
         have e : fn_matrix_Matrix_Close_p0_iod (C : Int) M = some (0, M) := by
           unfold fn_matrix_Matrix_Close_p0_iod
           rw [show fn_matrix_Matrix_Rows_p0_iod (C : Int) M = some (((M.length : Nat) : Int), M) from rfl, h.len]
           simp only [Option.bind_some]
           rw [show fn_matrix_Matrix_Cols_p0_iod (C : Int) M = some ((C : Int), M) from rfl]
           simp [hne]
         simp only [decide_eq_false h0, cond_false, decide_eq_false h1, decide_eq_true h2, cond_true, rfCloseN hne hl, Option.bind_some, e]
         exact ⟨L, M, by simp, h, hw, hr⟩
     · simp only [decide_eq_false h0, cond_false, decide_eq_false h1, decide_eq_false h2]
       exact ⟨L, M, rfl, h, hw, hr⟩
theorem MatrixPlays_true (xa : Int) (xb : Int) (xc : (List (Int × Int × Int))) (xd : Int) (xe : Int) (k0 : Tp.Ok (.int .i64) xa) (k1 : Tp.Ok (.int .i64) xb) (k2 : Tp.Ok (.sl (.cons (.int .i64) (.cons (.int .i64) (.one (.int .i64))))) xc) (k3 : Tp.Ok (.int .i64) xd) (k4 : Tp.Ok (.int .i64) xe) : fn_law06_MatrixPlays xa xb xc xd xe = some true := by
 unfold fn_law06_MatrixPlays
 by_cases hg : (((decide (20 < (((xc.length : Nat) : Int)))) || ((decide (12 < xa)) && (decide (xa ≤ 65536)))) || ((decide (12 < xb)) && (decide (xb ≤ 65536)))) = true
 · rw [hg, awake06]; rfl
 · rw [Bool.not_eq_true] at hg
   rw [hg]
   simp only [cond_false, MNew_eq]
   simp only [Bool.or_eq_false_iff, Bool.and_eq_false_iff, decide_eq_false_iff_not] at hg
   by_cases hneg : xa < 0 ∨ xb < 0
   · have e : ((decide (xa < 0)) || (decide (xb < 0))) = true := by simpa using hneg
     rw [if_pos hneg]
     simp only [Option.bind_some, e, cond_true, awake06]
     rfl
   · have e : ((decide (xa < 0)) || (decide (xb < 0))) = false := by
       rw [Bool.eq_false_iff]; simpa using hneg
     rw [if_neg hneg]
     by_cases hbig : 65536 < xa ∨ 65536 < xb
     · have e2 : ((decide (65536 < xa)) || (decide (65536 < xb))) = true := by simpa using hbig
       rw [if_pos hbig]
       simp only [Option.bind_some, e, e2, cond_true, cond_false, awake06]
       rfl
     · have e2 : ((decide (65536 < xa)) || (decide (65536 < xb))) = false := by
         rw [Bool.eq_false_iff]; simpa using hbig
       rw [if_neg hbig]
       simp only [Option.bind_some, e, e2, cond_false]
       obtain ⟨N, rfl⟩ : ∃ N : Nat, xa = (N : Int) := ⟨xa.toNat, by omega⟩
       obtain ⟨C, rfl⟩ : ∃ C : Nat, xb = (C : Int) := ⟨xb.toNat, by omega⟩
       have hN : N ≤ 100 := by omega
       have hC : C ≤ 100 := by omega
       have hlen : xc.length ≤ 20 := by omega
       have e3 : (!decide ((0 : Int) = 0)) = false := rfl
       simp only [e3, cond_false, Int.toNat_natCast]
       have key := loop_val (body := fn_law06_MatrixPlays_l1 (N : Int) (C : Int) xc xd xe (C : Int)) (b := .inl ()) (fun s => ∃ k : Nat, s.1 = (k : Int) ∧ k ≤ xc.length ∧ s.2.2.1 = (N : Int) ∧ s.2.2.2.1 = (C : Int) ∧ Mx N C s.2.1 ∧ Lw N C s.2.2.2.2 ∧ ∀ a c, has s.2.1 a c = inL s.2.2.2.2 a c) (fun s => xc.length - s.1.toNat) ?_
         (s := ((0 : Int), List.replicate N none, (N : Int), (C : Int), ([] : LC))) ⟨0, rfl, Nat.zero_le _, rfl, rfl, Mx_new (by omega) (by omega), Lw.nil, fun a c => by rw [has_new]; simp [inL]⟩
       · rw [key]
         simp only [Option.bind_some, awake06]
         rfl
       · rintro ⟨i, M, n1, m1, L⟩ ⟨k, rfl, hk, rfl, rfl, h1, h2, h3⟩
         dsimp only at *
         by_cases hkl : k < xc.length
         · left
           obtain ⟨L', M', q1, q2, q3, q4⟩ := does_eq hN hC h1 h2 h3 xc[k]
           have hl := lenL hN hC q3
           have q1' : fn_law06_does_p0aa_iod ((N : Int), (C : Int), L) (xc[k].1, xc[k].2.1, xc[k].2.2) (C : Int) M = some ((N : Int), (C : Int), L', true, M') := q1
           refine ⟨(((k + 1 : Nat) : Int), M', (N : Int), (C : Int), L'), ?_, ⟨k + 1, rfl, hkl, rfl, rfl, q2, q3, q4⟩, ?_⟩
           · have eR : fn_matrix_Matrix_Rows_p0_iod (C : Int) M' = some ((N : Int), M') := by
               show some (((M'.length : Nat) : Int), M') = _
               rw [q2.len]
             have eC : fn_matrix_Matrix_Cols_p0_iod (C : Int) M' = some ((C : Int), M') := rfl
             have eN : (!decide ((N : Int) = (N : Int))) = false := by simp
             have eM : (!decide ((C : Int) = (C : Int))) = false := by simp
             have eH : fn_matrix_Matrix_Has (some ((C : Int), M')) xd xe = some (decide ((xd, xe) ∈ L')) := by rw [MHas_eq q2, mem_neg q3, q4]
             have eK : fn_matrix_Matrix_Count_p0_iod (C : Int) M' = some (((L'.length : Nat) : Int), M') := by rw [MCount_eq q2, cnt_congr q4, ← q3.cnt]
             have eW : fn_matrix_Matrix_Row (some ((C : Int), M')) xd = some (liN (rowL C fun c => decide ((xd, (c : Int)) ∈ L'))) := by
               rw [MRow_eq q2]
               congr 2
               refine rowL_congr (fun c _ => ?_)
               rw [mem_neg q3, q4]
               simp
             have eL : fn_matrix_Matrix_Col (some ((C : Int), M')) xe = some (liN (rowL N fun r => decide (((r : Int), xe) ∈ L'))) := by
               rw [MCol_eq q2]
               congr 2
               refine rowL_congr (fun c _ => ?_)
               rw [mem_neg q3, q4]
               simp
             have s1 : ∀ (A : List Int), A.length ≤ 9000000 → fn_ref01_Same A A = some true := fun A hA => by rw [rfSame hA]; simp
             have l1 := rowL_le C (fun c => decide ((xd, (c : Int)) ∈ L'))
             have l2 := rowL_le N (fun r => decide (((r : Int), xe) ∈ L'))
             have ee : ∀ b : Bool, (!(b == b)) = false := fun b => by cases b <;> rfl
             have eK2 : (!decide ((((L'.length : Nat) : Int)) = (((L'.length : Nat) : Int)))) = false := by simp
             unfold fn_law06_MatrixPlays_l1
             simp only [dlt hkl, cond_true, getN hkl, Option.bind_some, q1', agr_self, Bool.not_true, cond_false, eR, eN, eC, eM, eH, rfHas6 (show L'.length ≤ 9000000 by omega), ee, eK, eK2, eW, rfRow6 (show C ≤ 65536 by omega) (show L'.length ≤ 9000000 by omega), s1 _ (show (liN (rowL C fun c => decide ((xd, (c : Int)) ∈ L'))).length ≤ 9000000 by simp [liN]; omega), eL, rfCol6 (show N ≤ 65536 by omega) (show L'.length ≤ 9000000 by omega), s1 _ (show (liN (rowL N fun r => decide (((r : Int), xe) ∈ L'))).length ≤ 9000000 by simp [liN]; omega), w64s hkl (by omega)]
             rfl
           · show xc.length - ((k + 1 : Nat) : Int).toNat < xc.length - ((k : Nat) : Int).toNat
             rw [Int.toNat_natCast, Int.toNat_natCast]; omega
         · right
           unfold fn_law06_MatrixPlays_l1
           simp only [dge hkl, cond_false]
theorem MHasN {N C : Nat} {M : MX} (h : Mx N C M) (r c : Nat) : fn_matrix_Matrix_Has (some ((C : Int), M)) (r : Int) (c : Int) = some (has M r c) := by
 rw [MHas_eq h]
 simp
theorem Count_zz : fn_matrix_Matrix_Count_z = some 0 := by
 unfold fn_matrix_Matrix_Count_z
 rw [show fn_matrix_Matrix_Rows_z = some 0 from rfl]
 simp only [Option.bind_some]
 rw [loop_end (b := 0) (by rfl)]
 rfl
theorem Close_zz : fn_matrix_Matrix_Close_z = some 0 := by
 unfold fn_matrix_Matrix_Close_z
 rw [show fn_matrix_Matrix_Rows_z = some 0 from rfl, show fn_matrix_Matrix_Cols_z = some 0 from rfl, Count_zz]
 simp only [Option.bind_some]
 rw [loop_end (b := ()) (by rfl)]
 rfl
theorem row_zz : fn_matrix_Matrix_row none 0 = some none := by rfl
theorem Has_zz : fn_matrix_Matrix_Has none 0 0 = some false := by
 unfold fn_matrix_Matrix_Has
 rw [row_zz]
 simp only [Option.bind_some, Has_nil]
theorem Row_zz : fn_matrix_Matrix_Row none 0 = some [] := by
 unfold fn_matrix_Matrix_Row
 rw [row_zz]
 simp only [Option.bind_some]
 rw [ListR_eq (C := 0) okR.none (by omega)]
 rfl
theorem Col_zz : fn_matrix_Matrix_Col none 0 = some [] := by
 unfold fn_matrix_Matrix_Col
 rw [show fn_matrix_Matrix_Rows none = some 0 from rfl]
 simp only [Option.bind_some]
 rw [loop_end (b := []) (by rfl)]
 rfl
theorem adds {N : Nat} {M : MX} (h : Mx N N M) (xb : List (Int × Int)) (hl : xb.length ≤ 30) : ∃ M', loop (fn_law06_MatrixCloses_l1 xb (N : Int)) (0, M) = some M' ∧ Mx N N M' := by
 refine loop_inv (I := fun s => ∃ k : Nat, s.1 = (k : Int) ∧ k ≤ xb.length ∧ Mx N N s.2) (fun s => xb.length - s.1.toNat) ?_ ⟨0, rfl, Nat.zero_le _, h⟩
 rintro ⟨i, M1⟩ ⟨k, rfl, hk, h1⟩
 dsimp only at *
 unfold fn_law06_MatrixCloses_l1
 by_cases hkl : k < xb.length
 · left
   obtain ⟨M2, q1, q2, _⟩ := MAdd_eq h1 xb[k].1 xb[k].2
   refine ⟨(((k + 1 : Nat) : Int), M2), by simp only [dlt hkl, cond_true, getN hkl, Option.bind_some, q1, w64s hkl (by omega)], ⟨k + 1, rfl, hkl, q2⟩, ?_⟩
   rw [Int.toNat_natCast, Int.toNat_natCast]; omega
 · right
   exact ⟨M1, by simp only [dge hkl, cond_false], h1⟩
theorem MatrixCloses_true (xa : Int) (xb : (List (Int × Int))) (k0 : Tp.Ok (.int .i64) xa) (k1 : Tp.Ok (.sl (.cons (.int .i64) (.one (.int .i64)))) xb) : fn_law06_MatrixCloses xa xb = some true := by
 unfold fn_law06_MatrixCloses
 by_cases hg : (((decide (xa < 0)) || (decide (10 < xa))) || (decide (30 < (((xb.length : Nat) : Int))))) = true
 · rw [hg, awake06]; rfl
 · rw [Bool.not_eq_true] at hg
   rw [hg]
   simp only [Bool.or_eq_false_iff, decide_eq_false_iff_not] at hg
   obtain ⟨N, rfl⟩ : ∃ N : Nat, xa = (N : Int) := ⟨xa.toNat, by omega⟩
   have hN : N ≤ 10 := by omega
   simp only [cond_false]
   rw [MNew_eq, if_neg (by omega), if_neg (by omega)]
   simp only [Option.bind_some, Int.toNat_natCast]
   have e3 : (!decide True) = false := rfl
   rw [e3]
   simp only [cond_false]
   obtain ⟨M1, q1, q2⟩ := adds (Mx_new (N := N) (C := N) (by omega) (by omega)) xb (by omega)
   obtain ⟨M2, r1, r2, r3⟩ := MClose_eq q2
   obtain ⟨M3, s1, s2, s3⟩ := MClose_eq r2
   have tr : ∀ a b c, has M2 a b = true → has M2 b c = true → has M2 a c = true := fun a b c h1 h2 => (r3 a c).2 (((r3 a b).1 h1).trans ((r3 b c).1 h2))
   have same : ∀ a c, has M3 a c = has M2 a c := fun a c => by
     rw [Bool.eq_iff_iff, s3]
     exact ⟨fun h => TC.least (T := fun a b => has M2 a b = true) (fun _ _ h => h) tr h, fun h => .base h⟩
   rw [cnt_congr same, Int.sub_self] at s1
   have l2 : ∀ r k : Nat, loop (fn_law06_MatrixCloses_l2 (N : Int) (N : Int) M2 (r : Int) (k : Int)) 0 = some (.inl ()) := fun r k => by
     refine loop_nat (fun c => ((c : Nat) : Int)) N (fun c hc => ?_) (by unfold fn_law06_MatrixCloses_l2; simp only [dge (Nat.lt_irrefl _), cond_false])
     unfold fn_law06_MatrixCloses_l2
     simp only [dlt hc, cond_true, MHasN r2, Option.bind_some, w64s hc (by omega)]
     cases h1 : has M2 r k with
     | false => rfl
     | true =>
       cases h2 : has M2 k c with
       | false => rfl
       | true => rw [tr r k c h1 h2]; rfl
   have l3 : ∀ r : Nat, loop (fn_law06_MatrixCloses_l3 (N : Int) (N : Int) M2 (r : Int)) 0 = some (.inl ()) := fun r => by
     refine loop_nat (fun c => ((c : Nat) : Int)) N (fun c hc => ?_) (by unfold fn_law06_MatrixCloses_l3; simp only [dge (Nat.lt_irrefl _), cond_false])
     unfold fn_law06_MatrixCloses_l3
     simp only [dlt hc, cond_true, l2, Option.bind_some, w64s hc (by omega)]
   have l4 : loop (fn_law06_MatrixCloses_l4 (N : Int) (N : Int) M2) 0 = some (.inl ()) := by
     refine loop_nat (fun c => ((c : Nat) : Int)) N (fun c hc => ?_) (by unfold fn_law06_MatrixCloses_l4; simp only [dge (Nat.lt_irrefl _), cond_false])
     unfold fn_law06_MatrixCloses_l4
     simp only [dlt hc, cond_true, l3, Option.bind_some, w64s hc (by omega)]
   simp only [q1, Option.bind_some, r1, l4, s1, show fn_matrix_Matrix_Rows_z = some 0 from rfl, show fn_matrix_Matrix_Cols_z = some 0 from rfl, Has_zz, show fn_matrix_Matrix_Add_zii 0 0 = some false from rfl, show fn_matrix_Matrix_Or_zii 0 0 = some false from rfl, Count_zz, Close_zz, Row_zz, Col_zz, awake06]
   rfl
theorem sum_row (C : Nat) (p : Nat → Bool) : ((List.range C).map fun c => if p c then 1 else 0).sum = (rowL C p).length := by
 induction C with
 | zero => rfl
 | succ C ih =>
   unfold rowL at *
   rw [List.range_succ, List.map_append, List.sum_append, ih, List.filter_append, List.length_append]
   cases h : p C <;> simp [List.filter_cons, h]
theorem sum_add (C : Nat) (f g : Nat → Nat) : ((List.range C).map fun c => f c + g c).sum = ((List.range C).map f).sum + ((List.range C).map g).sum := by
 induction C with
 | zero => rfl
 | succ C ih =>
   rw [List.range_succ, List.map_append, List.sum_append, List.map_append, List.sum_append, List.map_append, List.sum_append, ih]
   simp
   omega
theorem cnt_zero2 (C : Nat) (f : Nat → Nat → Bool) : cntM C 0 f = 0 := by
 induction C with
 | zero => rfl
 | succ C ih => rw [cnt_succ, ih]; rfl
theorem cnt_turn (N C : Nat) (f : Nat → Nat → Bool) : cntM N C f = cntM C N (fun c r => f r c) := by
 induction N with
 | zero => rw [cnt_zero2]; rfl
 | succ N ih =>
   rw [cnt_succ, ih]
   unfold cntM
   have e : ∀ c, (rowL (N + 1) (fun r => f r c)).length = (rowL N (fun r => f r c)).length + (if f N c then 1 else 0) := fun c => by
     unfold rowL
     rw [List.range_succ, List.filter_append, List.length_append]
     cases h : f N c <;> simp [List.filter_cons, h]
   simp only [e]
   rw [sum_add, sum_row]
theorem MatrixTurns_true (xa : Int) (xb : Int) (xc : (List (Int × Int))) (k0 : Tp.Ok (.int .i64) xa) (k1 : Tp.Ok (.int .i64) xb) (k2 : Tp.Ok (.sl (.cons (.int .i64) (.one (.int .i64)))) xc) : fn_law06_MatrixTurns xa xb xc = some true := by
 unfold fn_law06_MatrixTurns
 by_cases hg : (((((decide (xa < 0)) || (decide (xb < 0))) || (decide (10 < xa))) || (decide (10 < xb))) || (decide (30 < (((xc.length : Nat) : Int))))) = true
 · rw [hg, awake06]; rfl
 · rw [Bool.not_eq_true] at hg
   rw [hg]
   simp only [Bool.or_eq_false_iff, decide_eq_false_iff_not] at hg
   obtain ⟨N, rfl⟩ : ∃ N : Nat, xa = (N : Int) := ⟨xa.toNat, by omega⟩
   obtain ⟨C, rfl⟩ : ∃ C : Nat, xb = (C : Int) := ⟨xb.toNat, by omega⟩
   have hN : N ≤ 10 := by omega
   have hC : C ≤ 10 := by omega
   simp only [cond_false]
   rw [MNew_eq, if_neg (by omega), if_neg (by omega)]
   simp only [Option.bind_some, Int.toNat_natCast]
   have e3 : (!decide True) = false := rfl
   rw [e3]
   simp only [cond_false]
   have l1 : ∃ z, loop (fn_law06_MatrixTurns_l1 (N : Int) (C : Int) xc (C : Int)) (0, List.replicate N none) = some z ∧ ∃ M, z = .inl M ∧ Mx N C M := by
     refine loop_inv (I := fun s => ∃ k : Nat, s.1 = (k : Int) ∧ k ≤ xc.length ∧ Mx N C s.2) (fun s => xc.length - s.1.toNat) ?_ ⟨0, rfl, Nat.zero_le _, Mx_new (by omega) (by omega)⟩
     rintro ⟨i, M1⟩ ⟨k, rfl, hk, h1⟩
     dsimp only at *
     by_cases hkl : k < xc.length
     · left
       obtain ⟨M2, q1, q2, q3⟩ := MAdd_eq h1 xc[k].1 xc[k].2
       refine ⟨(((k + 1 : Nat) : Int), M2), ?_, ⟨k + 1, rfl, hkl, q2⟩, by rw [Int.toNat_natCast, Int.toNat_natCast]; omega⟩
       unfold fn_law06_MatrixTurns_l1
       obtain ⟨p, hp⟩ : ∃ p, p = xc[k] := ⟨_, rfl⟩
       rw [← hp] at q1 q3
       simp only [dlt hkl, cond_true, getN hkl, Option.bind_some, ← hp, MHas_eq h1, q1, MHas_eq q2, w64s hkl (by omega)]
       by_cases hin : (0 ≤ p.1 ∧ p.1 < (N : Int)) ∧ 0 ≤ p.2 ∧ p.2 < (C : Int)
       · have g1 : has M2 p.1.toNat p.2.toNat = true := by rw [q3]; simp [hin]
         simp only [decide_eq_true hin.1.1, decide_eq_true hin.1.2, decide_eq_true hin.2.1, decide_eq_true hin.2.2, decide_eq_true hin, cond_true, Option.bind_some, Bool.true_and, g1]
         cases has M1 p.1.toNat p.2.toNat <;> rfl
       · have g1 : ((decide (0 ≤ p.1) && decide (0 ≤ p.2)) && has M2 p.1.toNat p.2.toNat) = false := by
           rw [Bool.eq_false_iff]
           intro hh
           simp only [Bool.and_eq_true, decide_eq_true_eq] at hh
           have := q2.lt hh.2
           exact hin (by omega)
         rw [g1, decide_eq_false hin]
         cases d1 : decide (0 ≤ p.1) with
         | false => rfl
         | true =>
           cases d2 : decide (p.1 < (N : Int)) with
           | false => rfl
           | true =>
             cases d3 : decide (0 ≤ p.2) with
             | false => rfl
             | true =>
               cases d4 : decide (p.2 < (C : Int)) with
               | false => rfl
               | true =>
                 exact absurd ⟨⟨of_decide_eq_true d1, of_decide_eq_true d2⟩, of_decide_eq_true d3, of_decide_eq_true d4⟩ hin
     · right
       refine ⟨.inl M1, ?_, M1, rfl, h1⟩
       unfold fn_law06_MatrixTurns_l1
       simp only [dge hkl, cond_false]
   obtain ⟨_, z1, M, rfl, hM⟩ := l1
   have hcl : ∀ k, k ≤ N → cntM k C (has M) ≤ 100 := fun k hk => Nat.le_trans (cnt_le k C _) (Nat.le_trans (Nat.mul_le_mul (show k ≤ 10 by omega) hC) (by omega))
   have hcr : ∀ k, k ≤ C → cntM k N (fun c r => has M r c) ≤ 100 := fun k hk => Nat.le_trans (cnt_le k N _) (Nat.le_trans (Nat.mul_le_mul (show k ≤ 10 by omega) hN) (by omega))
   have l2 : loop (fn_law06_MatrixTurns_l2 (N : Int) (C : Int) M) ((0 : Int), (0 : Int)) = some ((cntM N C (has M) : Nat) : Int) := by
     have e0 : ((0 : Int), (0 : Int)) = (((cntM 0 C (has M) : Nat) : Int), ((0 : Nat) : Int)) := rfl
     rw [e0]
     refine loop_nat (fun k => (((cntM k C (has M) : Nat) : Int), ((k : Nat) : Int))) N (fun k hk => ?_) (by unfold fn_law06_MatrixTurns_l2; simp only [dge (Nat.lt_irrefl _), cond_false])
     unfold fn_law06_MatrixTurns_l2
     have hd : decide ((0 : Int) ≤ (k : Int)) = true := by simp
     have hb := hcl (k + 1) hk
     simp only [dlt hk, cond_true, MRow_eq hM, Option.bind_some, w64s hk (by omega), hd, Bool.true_and, Int.toNat_natCast]
     have e : ((cntM k C (has M) : Nat) : Int) + (((liN (rowL C fun c => has M k c)).length : Nat) : Int) = ((cntM (k + 1) C (has M) : Nat) : Int) := by
       rw [cnt_succ]; simp [liN]
     rw [e, w64 (by omega) (by omega)]
   have l4 : loop (fn_law06_MatrixTurns_l4 (C : Int) (C : Int) M) ((0 : Int), (0 : Int)) = some (.inl ((cntM C N (fun c r => has M r c) : Nat) : Int)) := by
     have e0 : ((0 : Int), (0 : Int)) = (((cntM 0 N (fun c r => has M r c) : Nat) : Int), ((0 : Nat) : Int)) := rfl
     rw [e0]
     refine loop_nat (fun k => (((cntM k N (fun c r => has M r c) : Nat) : Int), ((k : Nat) : Int))) C (fun k hk => ?_) (by unfold fn_law06_MatrixTurns_l4; simp only [dge (Nat.lt_irrefl _), cond_false])
     unfold fn_law06_MatrixTurns_l4
     have hd : decide ((0 : Int) ≤ (k : Int)) = true := by simp
     have hb := hcr (k + 1) hk
     have l3 : loop (fn_law06_MatrixTurns_l3 (C : Int) M (k : Int) (liN (rowL N fun r => has M r k))) 0 = some (.inl ()) := by
       refine loop_nat (fun c => ((c : Nat) : Int)) (liN (rowL N fun r => has M r k)).length (fun c hc => ?_) (by unfold fn_law06_MatrixTurns_l3; simp only [dge (Nat.lt_irrefl _), cond_false])
       have hl := rowL_le N (fun r => has M r k)
       have hc2 : c < (rowL N fun r => has M r k).length := by simpa [liN] using hc
       have hc3 : c < 65536 := by omega
       have hx : (liN (rowL N fun r => has M r k))[c] = (((rowL N fun r => has M r k)[c] : Nat) : Int) := by simp [liN]
       have hm : has M (rowL N fun r => has M r k)[c] k = true := by
         have : (rowL N fun r => has M r k)[c] ∈ rowL N fun r => has M r k := List.getElem_mem hc2
         exact (List.mem_filter.1 this).2
       unfold fn_law06_MatrixTurns_l3
       simp only [dlt hc, cond_true, getN hc, Option.bind_some, hx, MHasN hM, hm, w64s hc3 (by omega)]
       rfl
     simp only [dlt hk, cond_true, MCol_eq hM, Option.bind_some, w64s hk (by omega), hd, Bool.true_and, Int.toNat_natCast, l3]
     have e : ((cntM k N (fun c r => has M r c) : Nat) : Int) + (((liN (rowL N fun r => has M r k)).length : Nat) : Int) = ((cntM (k + 1) N (fun c r => has M r c) : Nat) : Int) := by
       rw [cnt_succ]; simp [liN]
     rw [e, w64 (by omega) (by omega)]
   simp only [z1, Option.bind_some, l2, l4, MCount_eq hM, ← cnt_turn]
   have ed : (decide True && decide True) = true := rfl
   rw [ed]
   simp only [cond_true, awake06, Option.bind_some]
end Go.Proofs.YtcaadmhpbbcllaaDoor
