/- 'easement/easementlaw39.PoolSets' returns true for every input, and each argument reads afterwards as it read before: the row's frame round the walk. -/
import Derived.Test.YtmlbbjkojaljnaaDoorZ4
import Derived.Test.YtmlbbjkojaljnaaDoorProg
import Derived.Tactics
import Derived.Tactics2
import Derived.Laws.Rows
import Derived.Test.YtmlbbjkojaljnaaDoorRows
import Derived.Lib.LaidTab
import Derived.Test.YtmlbbjkojaljnaaDoorCards
import Derived.Test.YtmlbbjkojaljnaaDoorTie
import Derived.Lay
import Derived.SevenTiedAt
namespace Go.Proofs.YtmlbbjkojaljnaaDoor
set_option linter.unusedVariables false
set_option linter.unusedSimpArgs false
set_option linter.unnecessarySimpa false
set_option maxRecDepth 100000
set_option maxHeartbeats 4000000
section
open Go.RowKit Go.Conc
section
variable (p c : Nat) {T : TypeId} {cap s r : Nat} {buf : Array Value} (w : World)
theorem put_set_room (v : Value) (hp : w.heap[p]? = some (.cells #[.chan (some c)] T (0, 0))) (hc : w.heap[c]? = some (.chan cap buf false s r false)) (hroom : buf.size < cap) :
   Calls Tryd.prog 32 #[.pointer (some ⟨p, 0, none⟩), v] w fun e w' => e = .returned (.bool true) ∧ w' = w.setChan c cap (buf.push (v)) false (s + 1) r false := by
 have hld : w.cell? ⟨p, 0, none⟩ = some (.chan (some c)) := by simp [World.cell?, hp]
 have hfz : w.frozen? ⟨p, 0, none⟩ = false := by simp [World.frozen?, hp]
 refine calls_of_loneTo fun cs => ?_
 have e : Frame.enter Tryd.prog 32 #[.pointer (some ⟨p, 0, none⟩), v] .normal = (base 32).at ⟨#[.pointer (some ⟨p, 0, none⟩), v, undef, undef, undef, undef, undef, undef, undef, undef, undef, undef, undef, undef, undef], []⟩ [.code (Tryd.f32.body.getD .skip)] := by
   simp [Frame.enter, Frame.at, Tryd.func32, base, Tryd.f32]
   try rfl
 rw [e]
 refine LoneTo.goes (n := 60) ?_
 simp only [Tryd.f32, Option.getD_some]
 s_c stepG_seq
 s_reg
 s_op
 s_c stepG_region_end
 s_c stepG_seq
 s_c stepG_seq
 s_reg
 s_op
 s_op
 s_c stepG_region_end
 s_cond false
 s_c stepG_skip
 s_c stepG_seq
 s_c stepG_seq
 s_reg
 s_op
 s_op
 s_op
 s_op
 s_c stepG_region_end
 s_reg
 s_op
 s_c stepG_region_end
 s_c stepG_seq
 s_reg
 s_stop
 refine LoneTo.step (step_sel_send_room (c := c) (cap := cap) (buf := buf) (s := s) (r := r) (tm := false) (stepG_comm (cases := #[scase c (v) (.pointer none)]) (blocking := false) (shape := .select) (w' := w) rfl rfl (by decide) (by simp [go_sem, execOp, scase, Act.eval])) hc hroom) ?_
 rw [Frame.finish_at]
 walk_nrm
 refine LoneTo.goes (n := 30) ?_
 s_op
 s_op
 s_c stepG_region_end
 s_c stepG_block
 s_cond true
 s_c stepG_seq
 s_reg
 s_op
 s_c stepG_region_end
 s_c stepG_ret'
 s_stop
 refine LoneTo.done ⟨.returned (.bool true), _, rfl, ⟨rfl, rfl⟩, rfl, rfl, rfl, rfl, _, Tryd.func32, by simp [results, Tryd.f32, Frame.at]⟩
theorem put_set_full (v : Value) (hp : w.heap[p]? = some (.cells #[.chan (some c)] T (0, 0))) (hc : w.heap[c]? = some (.chan cap buf false s r false)) (hroom : ¬ buf.size < cap) :
   Calls Tryd.prog 32 #[.pointer (some ⟨p, 0, none⟩), v] w fun e w' => e = .returned (.bool false) ∧ w' = w := by
 have hld : w.cell? ⟨p, 0, none⟩ = some (.chan (some c)) := by simp [World.cell?, hp]
 have hfz : w.frozen? ⟨p, 0, none⟩ = false := by simp [World.frozen?, hp]
 refine calls_of_loneTo fun cs => ?_
 have e : Frame.enter Tryd.prog 32 #[.pointer (some ⟨p, 0, none⟩), v] .normal = (base 32).at ⟨#[.pointer (some ⟨p, 0, none⟩), v, undef, undef, undef, undef, undef, undef, undef, undef, undef, undef, undef, undef, undef], []⟩ [.code (Tryd.f32.body.getD .skip)] := by
   simp [Frame.enter, Frame.at, Tryd.func32, base, Tryd.f32]
   try rfl
 rw [e]
 refine LoneTo.goes (n := 60) ?_
 simp only [Tryd.f32, Option.getD_some]
 s_c stepG_seq
 s_reg
 s_op
 s_c stepG_region_end
 s_c stepG_seq
 s_c stepG_seq
 s_reg
 s_op
 s_op
 s_c stepG_region_end
 s_cond false
 s_c stepG_skip
 s_c stepG_seq
 s_c stepG_seq
 s_reg
 s_op
 s_op
 s_op
 s_op
 s_c stepG_region_end
 s_reg
 s_op
 s_c stepG_region_end
 s_c stepG_seq
 s_reg
 s_stop
 refine LoneTo.step (step_sel_send_full (c := c) (cap := cap) (buf := buf) (s := s) (r := r) (tm := false) (stepG_comm (cases := #[scase c (v) (.pointer none)]) (blocking := false) (shape := .select) (w' := w) rfl rfl (by decide) (by simp [go_sem, execOp, scase, Act.eval])) hc hroom) ?_
 rw [Frame.finish_at]
 walk_nrm
 refine LoneTo.goes (n := 30) ?_
 s_op
 s_op
 s_c stepG_region_end
 s_c stepG_block
 s_cond false
 s_c stepG_seq
 s_reg
 s_op
 s_c stepG_region_end
 s_c stepG_ret'
 s_stop
 refine LoneTo.done ⟨.returned (.bool false), _, rfl, ⟨rfl, rfl⟩, rfl, rfl, rfl, rfl, _, Tryd.func32, by simp [results, Tryd.f32, Frame.at]⟩
theorem get_set_some (hp : w.heap[p]? = some (.cells #[.chan (some c)] T (0, 0))) (hc : w.heap[c]? = some (.chan cap buf false s r false)) (hsome : 0 < buf.size) (a0 : Value) (h0 : buf.getD 0 undef = a0) :
   Calls Tryd.prog 27 #[.pointer (some ⟨p, 0, none⟩)] w fun e w' => e = .returned (.tuple #[a0, .bool true]) ∧ w' = w.setChan c cap (buf.extract 1 buf.size) false s (r + 1) false := by
 have hld : w.cell? ⟨p, 0, none⟩ = some (.chan (some c)) := by simp [World.cell?, hp]
 have hfz : w.frozen? ⟨p, 0, none⟩ = false := by simp [World.frozen?, hp]
 refine calls_of_loneTo fun cs => ?_
 have e : Frame.enter Tryd.prog 27 #[.pointer (some ⟨p, 0, none⟩)] .normal = (base 27).at ⟨#[.pointer (some ⟨p, 0, none⟩), undef, undef, undef, undef, undef, undef, undef, undef, undef, undef, undef, undef, undef, undef, undef, undef, undef, undef], []⟩ [.code (Tryd.f27.body.getD .skip)] := by
   simp [Frame.enter, Frame.at, Tryd.func27, base, Tryd.f27]
   try rfl
 rw [e]
 refine LoneTo.goes (n := 60) ?_
 simp only [Tryd.f27, Option.getD_some]
 s_c stepG_seq
 s_reg
 s_op
 s_op
 s_c stepG_region_end
 s_c stepG_seq
 s_reg
 s_op
 s_c stepG_region_end
 s_c stepG_seq
 s_c stepG_seq
 s_reg
 s_op
 s_op
 s_c stepG_region_end
 s_cond false
 s_c stepG_skip
 s_c stepG_seq
 s_reg
 s_op
 s_op
 s_op
 s_op
 s_c stepG_region_end
 s_c stepG_seq
 s_reg
 s_stop
 refine LoneTo.step (step_sel_recv_buf (c := c) (z := .pointer none) (cap := cap) (buf := buf) (s := s) (r := r) (tm := false) (closed := false) (stepG_comm (cases := #[rcase c (.pointer none)]) (blocking := false) (shape := .select) (w' := w) rfl rfl (by decide) (by simp [go_sem, execOp, rcase, Act.eval])) hc hsome) ?_
 rw [Frame.finish_at]
 rw [h0]
 walk_nrm
 refine LoneTo.goes (n := 30) ?_
 s_op
 s_op
 s_c stepG_region_end
 s_c stepG_block
 s_cond true
 s_c stepG_seq
 s_reg
 s_op
 s_op
 s_c stepG_region_end
 s_c stepG_seq
 s_reg
 s_op
 s_op
 s_op
 s_c stepG_region_end
 s_c stepG_ret'
 s_stop
 refine LoneTo.done ⟨.returned (.tuple #[a0, .bool true]), _, rfl, ⟨rfl, rfl⟩, rfl, rfl, rfl, rfl, _, Tryd.func27, by simp [results, Tryd.f27, Frame.at]⟩
theorem get_set_none (hp : w.heap[p]? = some (.cells #[.chan (some c)] T (0, 0))) (hc : w.heap[c]? = some (.chan cap #[] false s r false)) :
   Calls Tryd.prog 27 #[.pointer (some ⟨p, 0, none⟩)] w fun e w' => e = .returned (.tuple #[.pointer none, .bool false]) ∧ w' = w := by
 have hld : w.cell? ⟨p, 0, none⟩ = some (.chan (some c)) := by simp [World.cell?, hp]
 have hfz : w.frozen? ⟨p, 0, none⟩ = false := by simp [World.frozen?, hp]
 refine calls_of_loneTo fun cs => ?_
 have e : Frame.enter Tryd.prog 27 #[.pointer (some ⟨p, 0, none⟩)] .normal = (base 27).at ⟨#[.pointer (some ⟨p, 0, none⟩), undef, undef, undef, undef, undef, undef, undef, undef, undef, undef, undef, undef, undef, undef, undef, undef, undef, undef], []⟩ [.code (Tryd.f27.body.getD .skip)] := by
   simp [Frame.enter, Frame.at, Tryd.func27, base, Tryd.f27]
   try rfl
 rw [e]
 refine LoneTo.goes (n := 60) ?_
 simp only [Tryd.f27, Option.getD_some]
 s_c stepG_seq
 s_reg
 s_op
 s_op
 s_c stepG_region_end
 s_c stepG_seq
 s_reg
 s_op
 s_c stepG_region_end
 s_c stepG_seq
 s_c stepG_seq
 s_reg
 s_op
 s_op
 s_c stepG_region_end
 s_cond false
 s_c stepG_skip
 s_c stepG_seq
 s_reg
 s_op
 s_op
 s_op
 s_op
 s_c stepG_region_end
 s_c stepG_seq
 s_reg
 s_stop
 refine LoneTo.step (step_lone_select_default (c := c) (z := .pointer none) (cap := cap) (s := s) (r := r) (tm := false) (stepG_comm (cases := #[rcase c (.pointer none)]) (blocking := false) (shape := .select) (w' := w) rfl rfl (by decide) (by simp [go_sem, execOp, rcase, Act.eval])) hc) ?_
 rw [Frame.finish_at]
 walk_nrm
 refine LoneTo.goes (n := 30) ?_
 s_op
 s_op
 s_c stepG_region_end
 s_c stepG_block
 s_cond false
 s_c stepG_seq
 s_reg
 s_op
 s_op
 s_op
 s_c stepG_region_end
 s_c stepG_ret'
 s_stop
 refine LoneTo.done ⟨.returned (.tuple #[.pointer none, .bool false]), _, rfl, ⟨rfl, rfl⟩, rfl, rfl, rfl, rfl, _, Tryd.func27, by simp [results, Tryd.f27, Frame.at]⟩
end
abbrev Oset : OT := .box 57 (.cons (.dat (.int .i64)) (.one (.row 58 (.dat (.int .u64)))))
abbrev Och_set : OT := .chn Oset
abbrev DSet : Type := Option (Int × List Int)
section
variable {E : En} {K : Hp} {L : List Atom} {w : World} {a : OT} {mv : Value}
theorem chn_open {y : Int × List a.tp.den} (hs : Sep E K (OT.own K (.chn a) [mv] (some y : Option (Int × List a.tp.den)) :: L) w) : ∃ c buf s r, mv = .chan (some c) ∧ (0 : Int) ≤ y.1 ∧ a.tp.size = 1 ∧ buf.size = y.2.length ∧ Sep E K ((fun h => h = one c (.chan (Int.toNat y.1) buf false s r false)) :: EEls (OT.own K a) buf.toList y.2 :: L) w := by
 obtain ⟨h0, ⟨c, buf, s, r, e1, h1, h2, hst⟩, hd, hs⟩ := hs
 cases e1
 have hs := Sep.split ⟨h0, hst, hd, hs⟩
 have hl := hs.swap.fact (fun h k => EEls.len (k := 1) (fun es x h k => by rw [OT.own_len a k, h2]) k)
 exact ⟨c, buf, s, r, rfl, h1, h2, by rw [← Array.length_toList, hl, Nat.mul_one], hs⟩
theorem chn_close {y : Int × List a.tp.den} {c s r : Nat} {buf : Array Value} (h1 : (0 : Int) ≤ y.1) (h2 : a.tp.size = 1) (hs : Sep E K ((fun h => h = one c (.chan (Int.toNat y.1) buf false s r false)) :: EEls (OT.own K a) buf.toList y.2 :: L) w) : Sep E K (OT.own K (.chn a) [.chan (some c)] (some y : Option (Int × List a.tp.den)) :: L) w :=
 (Sep.join hs).mono (fun h k => ⟨c, buf, s, r, rfl, h1, h2, k⟩)
end
theorem put_set_tr_room {K : Hp} {b : Nat} {mv pv : Value} (y : Int × List DSet) (x : DSet) (hr : ((y.2.length : Nat) : Int) < y.1) :
   Tr Tryd.prog 32 #[.pointer (some ⟨b, 0, none⟩), pv] K [Cl b 68 [mv], OT.own K Och_set [mv] (some y : Option (Int × List DSet)), OT.own K Oset [pv] x] (fun u K' L' => (u = .bool true ∧ L' = [Cl b 68 [mv], OT.own K Och_set [mv] (some (y.1, y.2 ++ [x]) : Option (Int × List DSet))]) ∧ K = K') := by
 intro E w F hs
 have hs : Sep E K (Cl b 68 [mv] :: OT.own K Och_set [mv] (some y : Option (Int × List DSet)) :: OT.own K Oset [pv] x :: F) w := hs
 have hp := hs.cl
 obtain ⟨c, buf, s, r, rfl, h1, h2, hsz, hs2⟩ := chn_open (a := Oset) (y := y) hs.swap
 have hc := hs2.obj
 have hsz : buf.size = y.2.length := hsz
 refine (put_set_room b c w pv hp hc (by omega)).mono ?_
 rintro e w' ⟨rfl, rfl⟩
 refine ⟨_, K, _, rfl, ⟨⟨rfl, rfl⟩, rfl⟩, Hp.le_refl K, ?_⟩
 have hs3 := hs2.onl (onl_chan (cap' := Int.toNat y.1) (s' := s + 1) (r' := r) (buf' := buf.push pv) hc)
 have hs4 : Sep E K (EEls (OT.own K Oset) [pv] [x] :: (fun h => h = one c (.chan (Int.toNat y.1) (buf.push pv) false (s + 1) r false)) :: EEls (OT.own K Oset) buf.toList y.2 :: Cl b 68 [.chan (some c)] :: F) (w.setChan c (Int.toNat y.1) (buf.push pv) false (s + 1) r false) := by
   refine (Sep.front 3 rfl hs3).mono (fun h k => ⟨[pv], [], rfl, h, Hp.nil, k, ⟨rfl, rfl⟩, (fun n o e => by cases e), (Hp.join_nil h).symm⟩)
 have hs5 := Sep.appEls (Sep.front 2 rfl hs4)
 rw [← Array.toList_push] at hs5
 exact (chn_close (a := Oset) (y := (y.1, y.2 ++ [x])) h1 h2 hs5.swap).swap
theorem put_set_tr_full {K : Hp} {b : Nat} {mv pv : Value} (y : Int × List DSet) (hr : ¬ ((y.2.length : Nat) : Int) < y.1) :
   Tr Tryd.prog 32 #[.pointer (some ⟨b, 0, none⟩), pv] K [Cl b 68 [mv], OT.own K Och_set [mv] (some y : Option (Int × List DSet))] (fun u K' L' => (u = .bool false ∧ L' = [Cl b 68 [mv], OT.own K Och_set [mv] (some y : Option (Int × List DSet))]) ∧ K = K') := by
 intro E w F hs
 have hs : Sep E K (Cl b 68 [mv] :: OT.own K Och_set [mv] (some y : Option (Int × List DSet)) :: F) w := hs
 have hp := hs.cl
 obtain ⟨c, buf, s, r, rfl, h1, h2, hsz, hs2⟩ := chn_open (a := Oset) (y := y) hs.swap
 have hc := hs2.obj
 have hsz : buf.size = y.2.length := hsz
 refine (put_set_full b c w pv hp hc (by omega)).mono ?_
 rintro e w' ⟨rfl, rfl⟩
 exact ⟨_, K, _, rfl, ⟨⟨rfl, rfl⟩, rfl⟩, Hp.le_refl K, hs⟩
theorem get_set_tr {K : Hp} {b : Nat} {mv : Value} (y : Int × List DSet) :
   Tr Tryd.prog 27 #[.pointer (some ⟨b, 0, none⟩)] K [Cl b 68 [mv], OT.own K Och_set [mv] (some y : Option (Int × List DSet))] (fun u K' L' => (∃ pv, u = .tuple #[pv, .bool (!y.2.isEmpty)] ∧ L' = [Cl b 68 [mv], OT.own K Oset [pv] (y.2.headD none), OT.own K Och_set [mv] (some (y.1, y.2.tail) : Option (Int × List DSet))]) ∧ K = K') := by
 intro E w F hs
 have hs : Sep E K (Cl b 68 [mv] :: OT.own K Och_set [mv] (some y : Option (Int × List DSet)) :: F) w := hs
 have hp := hs.cl
 obtain ⟨c, buf, s, r, rfl, h1, h2, hsz, hs2⟩ := chn_open (a := Oset) (y := y) hs.swap
 have hc := hs2.obj
 have hsz : buf.size = y.2.length := hsz
 obtain ⟨rm, l⟩ := y
 cases l with
 | nil =>
   obtain rfl : buf = #[] := Array.eq_empty_of_size_eq_zero (by simpa using hsz)
   refine (get_set_none b c w hp hc).mono ?_
   rintro e w' ⟨rfl, rfl⟩
   refine ⟨_, K, _, rfl, ⟨⟨_, rfl, rfl⟩, rfl⟩, Hp.le_refl K, ?_⟩
   exact (Sep.ownNil (e := 57) (a := .cons (.dat (.int .i64)) (.one (.row 58 (.dat (.int .u64))))) hs).swap
 | cons x l =>
   obtain ⟨h0, ⟨es, rr, e1, hst⟩, hd, hs3⟩ := hs2.swap
   have hs4 := Sep.split ⟨h0, hst, hd, hs3⟩
   have hl := hs4.fact (fun h k => OT.own_len Oset k)
   obtain ⟨pv, rfl⟩ : ∃ pv, es = [pv] := by
     match es, hl with
     | [pv], _ => exact ⟨pv, rfl⟩
   obtain ⟨bl⟩ := buf
   replace e1 : bl = pv :: rr := e1
   subst e1
   refine (get_set_some b c w hp hc (by simp) pv rfl).mono ?_
   rintro e w' ⟨rfl, rfl⟩
   refine ⟨_, K, _, rfl, ⟨⟨_, rfl, rfl⟩, rfl⟩, Hp.le_refl K, ?_⟩
   have hs5 := (Sep.front 2 rfl hs4).onl (onl_chan (cap' := Int.toNat rm) (s' := s) (r' := r + 1) (buf' := (Array.mk (pv :: rr)).extract 1 (Array.mk (pv :: rr)).size) hc)
   have e2 : ((Array.mk (pv :: rr)).extract 1 (Array.mk (pv :: rr)).size).toList = rr := by simp [List.take_of_length_le]
   have hs6 : Sep E K (OT.own K Och_set [.chan (some c)] (some (rm, l) : Option (Int × List DSet)) :: OT.own K Oset [pv] x :: Cl b 68 [.chan (some c)] :: F) _ := chn_close (a := Oset) (y := (rm, l)) h1 h2 (by rw [e2]; exact (Sep.front 2 rfl hs5).swap)
   exact (Sep.front 2 rfl hs6.swap)
abbrev DCh : Type := Option (Int × List DSet)
def getS_ (x : DCh) : Option (DSet × Bool × DCh) := x.bind fun y => some ((y.2.headD none : DSet), !y.2.isEmpty, (some (y.1, y.2.tail) : DCh))
def putS_ (c : DCh) (n : Int) (l : List Int) : Option (DCh ⊕ (DCh × List Int)) := c.bind fun y => bif decide (((y.2.length : Nat) : Int) < y.1) then some (.inl ((some (y.1, y.2 ++ [some (n, l)]) : DCh))) else some (.inr (c, l))
noncomputable def spGet : Spec := ⟨27, ⟨[(0, .ptr 0 0)], [⟨none, 68, [.od Och_set], false, false, none, false⟩]⟩, [⟨[(0, .tup [.od Oset, .dat .bool])], [⟨(some 0), 68, [.od Och_set], false, false, none, false⟩]⟩], fun x => getS_ x⟩
noncomputable def spPut : Spec := ⟨32, ⟨[(0, .ptr 0 0), (1, .ptr 1 0)], [⟨none, 68, [.od Och_set], false, false, none, false⟩, ⟨none, 57, [.is 2 (.dat (.int .i64)), .own 58 (.int .u64)], false, false, none, false⟩, ⟨none, 0, [], false, true, none, false⟩]⟩, [⟨[(0, .lit (.bool true))], [⟨(some 0), 68, [.od Och_set], false, false, none, false⟩]⟩, ⟨[(0, .lit (.bool false))], [⟨(some 0), 68, [.od Och_set], false, false, none, false⟩, ⟨(some 1), 57, [.is 2 (.any), .own 58 (.int .u64)], false, false, none, false⟩, ⟨(some 2), 0, [], false, true, none, false⟩]⟩], fun x => putS_ x.1 x.2.1 x.2.2⟩
theorem chn_some {K : Hp} {a : OT} {v : Value} {y : Int × List a.tp.den} (hf : OT.form (.chn a) v (some y : Option (Int × List a.tp.den))) : ∃ c, v = .chan (some c) := by
 rcases hf with ⟨hf, _⟩ | ⟨y', c, _, hb⟩
 · cases hf
 · exact ⟨c, hb⟩
theorem get_set_is [BldA] : SpecOk Tryd.prog spGet := by
 intro x r hr vv u hu m K args hgk hm hH hsl E w F hs
 have hu' : spGet.inn.un (TL.list _ x) 0 = some ([(0, .ptr 0 0)], ⟨[], 4, [.blk 0 3 68 [.own 1], .od 1 2 Och_set x], []⟩) := rfl
 rw [hu'] at hu
 cases hu
 replace hm : m.length = 4 := hm
 obtain ⟨v1, u1, rfl, ⟨b, e1, rfl⟩, rfl⟩ := hsl
 obtain ⟨b', vs, g0, g3, v0, r0, rfl, ⟨h1, h1o⟩, rfl⟩ := hH (.blk 0 3 68 [.own 1]) (by simp)
 rw [g0] at e1; cases e1
 obtain ⟨mv, K0, g1, g2, hk, hf⟩ := hH (.od 1 2 Och_set x) (by simp)
 rw [g1] at h1
 have e0 : v0 = mv := by cases h1; rfl
 subst e0
 have hs' : Sep E K (HA.conc m (.blk 0 3 68 [.own 1]) :: HA.conc m (.od 1 2 Och_set x) :: F) w := hs
 simp only [HA.conc, g0, g1, g2, g3] at hs'
 have hs' : Sep E K (Cl b 68 [v0] :: OT.own K Och_set [v0] x :: F) w := (hs'.swap.mono (fun h k => KOk.own hk k)).swap
 cases hy : (x : DCh) with
 | none => exact absurd hr (by show getS_ x ≠ some r; rw [hy]; exact nofun)
 | some y =>
 rw [hy] at hs' hf
 have hr' : getS_ x = some r := hr
 rw [hy] at hr'
 refine (get_set_tr y E w F hs').mono ?_
 rintro e w' ⟨v, K', L', rfl, ⟨⟨pv, rfl, rfl⟩, rfl⟩, hle, hs2⟩
 obtain rfl : r = ((y.2.headD none : DSet), !y.2.isEmpty, (some (y.1, y.2.tail) : DCh)) := (Option.some.inj hr').symm
 obtain ⟨c, rfl⟩ := chn_some (K := K) hf
 have hs2 : Sep E K (Cl b 68 [.chan (some c)] :: OT.own K Oset [pv] (y.2.headD none : DSet) :: OT.own K Och_set [.chan (some c)] (some (y.1, y.2.tail) : DCh) :: F) w' := hs2
 obtain ⟨pv', e3, hpf⟩ := hs2.swap.fact (p := ∃ v, [pv] = [v] ∧ OT.form Oset v (y.2.headD none : DSet)) (fun h k => own_form_box k)
 cases e3
 let ms : List M := [M.val pv, M.hp K, M.val (.chan (some c)), M.hp K, M.cells [.chan (some c)]]
 have f0 : (m ++ ms)[0]? = some (.val (.pointer (some ⟨b, 0, none⟩))) := by rw [List.getElem?_append_left (by omega)]; exact g0
 have f4 : (m ++ ms)[4]? = some (.val pv) := by rw [List.getElem?_append_right (by omega), hm]; rfl
 have f5 : (m ++ ms)[5]? = some (.hp K) := by rw [List.getElem?_append_right (by omega), hm]; rfl
 have f6 : (m ++ ms)[6]? = some (.val (.chan (some c))) := by rw [List.getElem?_append_right (by omega), hm]; rfl
 have f7 : (m ++ ms)[7]? = some (.hp K) := by rw [List.getElem?_append_right (by omega), hm]; rfl
 have f8 : (m ++ ms)[8]? = some (.cells [.chan (some c)]) := by rw [List.getElem?_append_right (by omega), hm]; rfl
 refine ⟨_, K, _, rfl, ⟨[(0, .tup [.own 4, .bool (!y.2.isEmpty)])], ⟨[], 9, [.blk 0 8 68 [.own 6], .od 6 7 Och_set (some (y.1, y.2.tail) : DCh), .od 4 5 Oset (y.2.headD none : DSet)], []⟩, m ++ ms, rfl, List.prefix_append _ _, by simp [hm, ms], ?_, ⟨_, rfl, _, _, rfl, ⟨f4, form_one hpf⟩, _, _, rfl, rfl, rfl⟩, rfl⟩, hle, ?_⟩
 · intro a ha
   simp only [List.mem_cons, List.mem_nil_iff, or_false] at ha
   rcases ha with rfl | rfl | rfl
   · exact ⟨b, _, f0, f8, _, _, rfl, ⟨f6, rfl⟩, rfl⟩
   · exact ⟨_, K, f6, f7, KOk.refl, .inr ⟨_, c, rfl, rfl⟩⟩
   · exact ⟨_, K, f4, f5, KOk.refl, hpf⟩
 · show Sep E K (HA.conc _ (.blk 0 8 68 [.own 6]) :: HA.conc _ (.od 6 7 Och_set (some (y.1, y.2.tail) : DCh)) :: HA.conc _ (.od 4 5 Oset (y.2.headD none : DSet)) :: F) w'
   simp only [HA.conc, f0, f4, f5, f6, f7, f8]
   exact (Sep.front 2 rfl hs2).swap
theorem put_set_is [BldA] : SpecOk Tryd.prog spPut := by
 intro (x : DCh × Int × List Int) (r : DCh ⊕ (DCh × List Int)) (hr : putS_ x.1 x.2.1 x.2.2 = some r) vv u hu m K args hgk hm hH hsl E w F hs
 obtain ⟨x, n, l⟩ := x
 replace hu : some ([(0, .ptr 0 0), (1, .ptr 1 0)], ⟨[], 9, [.blk 1 8 57 [.is 2 (.int .i64 n), .own 6], .row 6 7 58 (.int .u64) l (List.length l), .blk 0 5 68 [.own 3], .od 3 4 Och_set x], [6]⟩) = some (vv, u) := hu
 cases hu
 replace hm : m.length = 9 := hm
 obtain ⟨v1, u1, rfl, ⟨b, e1, rfl⟩, v2, u2, rfl, ⟨b2, e2, rfl⟩, rfl⟩ := hsl
 have hB := hH (.blk 0 5 68 [.own 3]) (by simp)
 obtain ⟨b', vs, g0, g5, v0, r0, rfl, ⟨h1, h1o⟩, rfl⟩ := hB
 rw [g0] at e1; cases e1
 obtain ⟨mv, K0, g3, g4, hk, hf⟩ := hH (.od 3 4 Och_set x) (by simp)
 rw [g3] at h1
 have e0 : v0 = mv := by cases h1; rfl
 subst e0
 have hA := hH (.blk 1 8 57 [.is 2 (.int .i64 n), .own 6]) (by simp)
 have hR := hH (.row 6 7 58 (.int .u64) l (List.length l)) (by simp)
 have hs' : Sep E K (HA.conc m (.blk 1 8 57 [.is 2 (.int .i64 n), .own 6]) :: HA.conc m (.row 6 7 58 (.int .u64) l (List.length l)) :: HA.conc m (.blk 0 5 68 [.own 3]) :: HA.conc m (.od 3 4 Och_set x) :: F) w := hs
 have hr' : putS_ x n l = some r := hr
 cases hy : x with
 | none => rw [hy] at hr'; cases hr'
 | some y =>
 subst hy
 obtain ⟨c, rfl⟩ := chn_some (K := K) hf
 have hB2 : HA.conc m (.blk 0 5 68 [.own 3]) = Cl b 68 [.chan (some c)] := by simp only [HA.conc, g0, g5]
 have hC2 : HA.conc m (.od 3 4 Och_set (some y : DCh)) = OT.own K0 Och_set [.chan (some c)] (some y : DCh) := by simp only [HA.conc, g3, g4]
 by_cases hroom : ((y.2.length : Nat) : Int) < y.1
 · have hr2 : putS_ (some y) n l = some (.inl (some (y.1, y.2 ++ [some (n, l)]) : DCh)) := by
     show (bif decide (((y.2.length : Nat) : Int) < y.1) then _ else _) = _
     rw [decide_eq_true hroom]; rfl
   rw [hr2] at hr'
   obtain rfl := (Option.some.inj hr').symm
   have hcol : OT.col Oset [.ptr 1 0] [.blk 1 8 57 [.is 2 (.int .i64 n), .own 6], .row 6 7 58 (.int .u64) l (List.length l), .blk 0 5 68 [.own 3], .od 3 4 Och_set (some y : DCh)] = some ((some (n, l) : DSet), [], [.blk 0 5 68 [.own 3], .od 3 4 Och_set (some y : DCh)]) := rfl
   obtain ⟨c1, c2, k1, k2, k3, k4⟩ := col_ok (K := K) (m := m) (us := [.pointer (some ⟨b2, 0, none⟩)]) Oset hcol ⟨_, [], rfl, ⟨b2, e2, rfl⟩, rfl⟩ hH
   obtain rfl := relL_nil k2
   rw [List.append_nil] at k1
   subst k1
   have hs3 : Sep E K (OT.own K Oset [.pointer (some ⟨b2, 0, none⟩)] (some (n, l) : DSet) :: HA.conc m (.blk 0 5 68 [.own 3]) :: HA.conc m (.od 3 4 Och_set (some y : DCh)) :: F) w := k4 hs
   rw [hB2, hC2] at hs3
   have hs4 : Sep E K (Cl b 68 [.chan (some c)] :: OT.own K Och_set [.chan (some c)] (some y : DCh) :: OT.own K Oset [.pointer (some ⟨b2, 0, none⟩)] (some (n, l) : DSet) :: F) w := (Sep.front 2 rfl (Sep.front 2 rfl hs3) |>.swap |>.mono (fun h k => KOk.own hk k) |>.swap)
   refine (put_set_tr_room y (some (n, l)) hroom E w F hs4).mono ?_
   rintro e w' ⟨v, K', L', rfl, ⟨⟨rfl, rfl⟩, rfl⟩, hle, hs2⟩
   have hs2 : Sep E K (Cl b 68 [.chan (some c)] :: OT.own K Och_set [.chan (some c)] (some (y.1, y.2 ++ [some (n, l)]) : DCh) :: F) w' := hs2
   let ms : List M := [M.val (.chan (some c)), M.hp K, M.cells [.chan (some c)]]
   have f0 : (m ++ ms)[0]? = some (.val (.pointer (some ⟨b, 0, none⟩))) := by rw [List.getElem?_append_left (by omega)]; exact g0
   have f9 : (m ++ ms)[9]? = some (.val (.chan (some c))) := by rw [List.getElem?_append_right (by omega), hm]; rfl
   have f10 : (m ++ ms)[10]? = some (.hp K) := by rw [List.getElem?_append_right (by omega), hm]; rfl
   have f11 : (m ++ ms)[11]? = some (.cells [.chan (some c)]) := by rw [List.getElem?_append_right (by omega), hm]; rfl
   refine ⟨_, K, _, rfl, ⟨[(0, .bool true)], ⟨[], 12, [.blk 0 11 68 [.own 9], .od 9 10 Och_set (some (y.1, y.2 ++ [some (n, l)]) : DCh)], []⟩, m ++ ms, rfl, List.prefix_append _ _, by simp [hm, ms], ?_, rfl, rfl⟩, hle, ?_⟩
   · intro a ha
     simp only [List.mem_cons, List.mem_nil_iff, or_false] at ha
     rcases ha with rfl | rfl
     · exact ⟨b, _, f0, f11, _, _, rfl, ⟨f9, rfl⟩, rfl⟩
     · exact ⟨_, K, f9, f10, KOk.refl, .inr ⟨_, c, rfl, rfl⟩⟩
   · show Sep E K (HA.conc _ (.blk 0 11 68 [.own 9]) :: HA.conc _ (.od 9 10 Och_set (some (y.1, y.2 ++ [some (n, l)]) : DCh)) :: F) w'
     simp only [HA.conc, f0, f9, f10, f11]
     exact hs2
 · have hr2 : putS_ (some y) n l = some (.inr ((some y : DCh), l)) := by
     show (bif decide (((y.2.length : Nat) : Int) < y.1) then _ else _) = _
     rw [decide_eq_false hroom]; rfl
   rw [hr2] at hr'
   obtain rfl := (Option.some.inj hr').symm
   obtain ⟨bq, vs2, g1, g8, sz, q1, rfl, ⟨g2, hsz⟩, rv, q2, rfl, ⟨g6, hone⟩, rfl⟩ := hA
   rw [g1] at e2; cases e2
   obtain ⟨ad, cap, cs, g6', g7, r1, r2, r3, r4, r5⟩ := hR
   rw [g6] at g6'; cases g6'
   have hA2 : HA.conc m (.blk 1 8 57 [.is 2 (.int .i64 n), .own 6]) = Cl b2 57 [sz, .slice ad (List.length l) cap] := by simp only [HA.conc, g1, g8]
   have hR2 : HA.conc m (.row 6 7 58 (.int .u64) l (List.length l)) = Rw 58 1 (.slice ad (List.length l) cap) (List.length l) cs := by simp only [HA.conc, g6, g7]; rfl
   rw [hA2, hR2, hB2, hC2] at hs'
   have hs4 : Sep E K (Cl b 68 [.chan (some c)] :: OT.own K Och_set [.chan (some c)] (some y : DCh) :: Cl b2 57 [sz, .slice ad (List.length l) cap] :: Rw 58 1 (.slice ad (List.length l) cap) (List.length l) cs :: F) w := ((Sep.front 3 rfl hs').mono (fun h k => KOk.own hk k) |> Sep.front 3 rfl)
   refine (put_set_tr_full y hroom E w _ hs4).mono ?_
   rintro e w' ⟨v, K', L', rfl, ⟨⟨rfl, rfl⟩, rfl⟩, hle, hs2⟩
   have hs2 : Sep E K (Cl b 68 [.chan (some c)] :: OT.own K Och_set [.chan (some c)] (some y : DCh) :: Cl b2 57 [sz, .slice ad (List.length l) cap] :: Rw 58 1 (.slice ad (List.length l) cap) (List.length l) cs :: F) w' := hs2
   let ms : List M := [M.val (.chan (some c)), M.hp K, M.cells [.chan (some c)], M.val (.slice ad (List.length l) cap), M.cont (.int .u64) l cs, M.cells [sz, .slice ad (List.length l) cap]]
   have f0 : (m ++ ms)[0]? = some (.val (.pointer (some ⟨b, 0, none⟩))) := by rw [List.getElem?_append_left (by omega)]; exact g0
   have f1 : (m ++ ms)[1]? = some (.val (.pointer (some ⟨b2, 0, none⟩))) := by rw [List.getElem?_append_left (by omega)]; exact g1
   have f2 : (m ++ ms)[2]? = some (.val sz) := by rw [List.getElem?_append_left (by omega)]; exact g2
   have f9 : (m ++ ms)[9]? = some (.val (.chan (some c))) := by rw [List.getElem?_append_right (by omega), hm]; rfl
   have f10 : (m ++ ms)[10]? = some (.hp K) := by rw [List.getElem?_append_right (by omega), hm]; rfl
   have f11 : (m ++ ms)[11]? = some (.cells [.chan (some c)]) := by rw [List.getElem?_append_right (by omega), hm]; rfl
   have f12 : (m ++ ms)[12]? = some (.val (.slice ad (List.length l) cap)) := by rw [List.getElem?_append_right (by omega), hm]; rfl
   have f13 : (m ++ ms)[13]? = some (.cont (.int .u64) l cs) := by rw [List.getElem?_append_right (by omega), hm]; rfl
   have f14 : (m ++ ms)[14]? = some (.cells [sz, .slice ad (List.length l) cap]) := by rw [List.getElem?_append_right (by omega), hm]; rfl
   refine ⟨_, K, _, rfl, ⟨[(0, .bool false)], ⟨[], 15, [.blk 1 14 57 [.is 2 .any, .own 12], .row 12 13 58 (.int .u64) l (List.length l), .blk 0 11 68 [.own 9], .od 9 10 Och_set (some y : DCh)], [12]⟩, m ++ ms, rfl, List.prefix_append _ _, by simp [hm, ms], ?_, rfl, rfl⟩, hle, ?_⟩
   · intro a ha
     simp only [List.mem_cons, List.mem_nil_iff, or_false] at ha
     rcases ha with rfl | rfl | rfl | rfl
     · exact ⟨b2, _, f1, f14, _, _, rfl, ⟨f2, trivial⟩, _, _, rfl, ⟨f12, hone⟩, rfl⟩
     · exact ⟨ad, cap, cs, f12, f13, r1, r2, r3, r4, r5⟩
     · exact ⟨b, _, f0, f11, _, _, rfl, ⟨f9, rfl⟩, rfl⟩
     · exact ⟨_, K, f9, f10, KOk.refl, .inr ⟨_, c, rfl, rfl⟩⟩
   · show Sep E K (HA.conc _ (.blk 1 14 57 [.is 2 .any, .own 12]) :: HA.conc _ (.row 12 13 58 (.int .u64) l (List.length l)) :: HA.conc _ (.blk 0 11 68 [.own 9]) :: HA.conc _ (.od 9 10 Och_set (some y : DCh)) :: F) w'
     simp only [HA.conc, f0, f1, f9, f10, f11, f12, f13, f14]
     exact Sep.front 3 rfl (Sep.front 3 rfl hs2)
end
open Go.RowKit
section
instance nob : BldA := ⟨1000000000, fun b _ => Cl b 1000000000 [.pointer none, .slice none 0 0], fun h => h, tzGk, tzGk.mono⟩
noncomputable def ok_TZ : OkSpec Tryd.prog := ⟨sp_TZ, TZ_is (fun _ h => h), Tryd.call35⟩

noncomputable def fn_dense_New (xa : Int) : Option ((Int ⊕ (Int × Int × (List Int)))) :=
 cond (decide (xa < 0)) (some (.inl 2)) (cond (decide (1048576 < xa)) (some (.inl 5)) ((mk (IntKind.wrap .i64 (Int.tdiv (IntKind.wrap .i64 ((IntKind.wrap .i64 (xa + 64)) - 1)) 64)) (IntKind.wrap .i64 (Int.tdiv (IntKind.wrap .i64 ((IntKind.wrap .i64 (xa + 64)) - 1)) 64)) 0 : Option (List Int)).bind fun z20 => some (.inr (0, xa, z20))))
noncomputable def h_dense_New : Hn Tryd.prog := .tw 5 (.nil) (.tw 7 (.nil) (.pl (.pl (.nil))))
noncomputable def sp_dense_New : Spec := ⟨20, ⟨[(0, .dat (.int .i64))], []⟩, [⟨[(0, .tup [.nilp, .dat (.int .i64)])], []⟩, ⟨[(0, .tup [.ptr 0 0, .dat (.int .i64)])], [⟨none, 57, [.dat (.int .i64), .own 58 (.int .u64)], false, false, none, false⟩]⟩], fun x => fn_dense_New x⟩
theorem dense_New_is : SpecOk Tryd.prog sp_dense_New := fn_is Tryd.func20 h_dense_New (by kernel_rfl) (by kernel_rfl)
noncomputable def ok_dense_New : OkSpec Tryd.prog := ⟨sp_dense_New, dense_New_is, Tryd.call20⟩

noncomputable def fn_pool_New_dense_Set (xa : Int) : Option ((Int ⊕ (Int × (Option (Int × (List (Option (Int × (List Int))))))))) :=
 cond (decide (xa < 1)) (some (.inl 2)) (cond (decide (65536 < xa)) (some (.inl 5)) ((mk xa xa () : Option (List Unit)).bind fun _ => some (.inr ((0, (some (xa, []) : (Option (Int × (List (Option (Int × (List Int))))))))))))
noncomputable def h_pool_New_dense_Set : Hn Tryd.prog := .tw 5 (.nil) (.tw 7 (.nil) (.ot (.chn (.box 57 (.cons (.dat (.int .i64)) (.one (.row 58 (.dat (.int .u64))))))) (.pl (.nil))))
noncomputable def sp_pool_New_dense_Set : Spec := ⟨21, ⟨[(0, .dat (.int .i64))], []⟩, [⟨[(0, .tup [.nilp, .dat (.int .i64)])], []⟩, ⟨[(0, .tup [.ptr 0 0, .dat (.int .i64)])], [⟨none, 68, [.od (.chn (.box 57 (.cons (.dat (.int .i64)) (.one (.row 58 (.dat (.int .u64)))))))], false, false, none, false⟩]⟩], fun x => fn_pool_New_dense_Set x⟩
theorem pool_New_dense_Set_is : SpecOk Tryd.prog sp_pool_New_dense_Set := fn_is Tryd.func21 h_pool_New_dense_Set (by kernel_rfl) (by kernel_rfl)
noncomputable def ok_pool_New_dense_Set : OkSpec Tryd.prog := ⟨sp_pool_New_dense_Set, pool_New_dense_Set_is, Tryd.call21⟩

noncomputable def fn_pool_NewSets (xa : Int) (xb : Int) : Option ((Int ⊕ (Int × Int × (Option (Option (Int × (List (Option (Int × (List Int)))))))))) :=
 (fn_dense_New xa).bind fun o => match o with | .inl i65 => (cond (!decide (i65 = 0)) (some (.inl i65)) ((fn_pool_New_dense_Set xb).bind fun o => match o with | .inl i72 => cond (!decide (i72 = 0)) (some (.inl i72)) (some (.inr (0, xa, none))) | .inr (i78, l79) => cond (!decide (i78 = 0)) (some (.inl i78)) (some (.inr (0, xa, some l79))))) | .inr (i88, i89, l90) => cond (!decide (i88 = 0)) (some (.inl i88)) ((fn_pool_New_dense_Set xb).bind fun o => match o with | .inl i102 => cond (!decide (i102 = 0)) (some (.inl i102)) (some (.inr (0, xa, none))) | .inr (i108, l109) => cond (!decide (i108 = 0)) (some (.inl i108)) (some (.inr (0, xa, some l109))))
noncomputable def h_pool_NewSets : Hn Tryd.prog := .c2 ok_dense_New [] (.tw 16 (.nil) (.c2 ok_pool_New_dense_Set [] (.tw 24 (.nil) (.pl (.pl (.nil)))) (.tw 24 (.nil) (.pl (.pl (.nil)))))) (.tw 16 (.nil) (.c2 ok_pool_New_dense_Set [] (.tw 24 (.nil) (.pl (.pl (.nil)))) (.tw 24 (.nil) (.pl (.pl (.nil))))))
noncomputable def sp_pool_NewSets : Spec := ⟨5, ⟨[(0, .dat (.int .i64)), (1, .dat (.int .i64))], []⟩, [⟨[(0, .tup [.nilp, .dat (.int .i64)])], []⟩, ⟨[(0, .tup [.ptr 0 0, .dat (.int .i64)])], [⟨none, 46, [.dat (.int .i64), .lit (.int .i64 0), .od (.box 68 (.one (.chn (.box 57 (.cons (.dat (.int .i64)) (.one (.row 58 (.dat (.int .u64)))))))))], false, false, none, false⟩]⟩], fun x => fn_pool_NewSets x.1 x.2⟩
theorem pool_NewSets_is : SpecOk Tryd.prog sp_pool_NewSets := fn_is Tryd.func5 h_pool_NewSets (by kernel_rfl) (by kernel_rfl)
noncomputable def ok_pool_NewSets : OkSpec Tryd.prog := ⟨sp_pool_NewSets, pool_NewSets_is, Tryd.call5⟩

noncomputable def fn_pool_New_string (xa : Int) : Option ((Int ⊕ (Int × (Option (Int × (List (List UInt8))))))) :=
 cond (decide (xa < 1)) (some (.inl 2)) (cond (decide (65536 < xa)) (some (.inl 5)) ((mk xa xa () : Option (List Unit)).bind fun _ => some (.inr ((0, (some (xa, []) : (Option (Int × (List (List UInt8))))))))))
noncomputable def h_pool_New_string : Hn Tryd.prog := .tw 5 (.nil) (.tw 7 (.nil) (.ot (.obj 1 (.cons (.int .i64) (.one (.sl .str)))) (.pl (.nil))))
noncomputable def sp_pool_New_string : Spec := ⟨22, ⟨[(0, .dat (.int .i64))], []⟩, [⟨[(0, .tup [.nilp, .dat (.int .i64)])], []⟩, ⟨[(0, .tup [.ptr 0 0, .dat (.int .i64)])], [⟨none, 71, [.od (.obj 1 (.cons (.int .i64) (.one (.sl .str))))], false, false, none, false⟩]⟩], fun x => fn_pool_New_string x⟩
theorem pool_New_string_is : SpecOk Tryd.prog sp_pool_New_string := fn_is Tryd.func22 h_pool_New_string (by kernel_rfl) (by kernel_rfl)
noncomputable def ok_pool_New_string : OkSpec Tryd.prog := ⟨sp_pool_New_string, pool_New_string_is, Tryd.call22⟩

noncomputable def fn_pool_Pool_string_Put_zs (xb : (List UInt8)) : Option Bool :=
 some (false)
noncomputable def h_pool_Pool_string_Put_zs : Hn Tryd.prog := .nil
noncomputable def sp_pool_Pool_string_Put_zs : Spec := ⟨23, ⟨[(0, .nilp), (1, .dat .str)], []⟩, [⟨[(0, .dat .bool)], []⟩], fun x => fn_pool_Pool_string_Put_zs x⟩
theorem pool_Pool_string_Put_zs_is : SpecOk Tryd.prog sp_pool_Pool_string_Put_zs := fn_is Tryd.func23 h_pool_Pool_string_Put_zs (by kernel_rfl) (by kernel_rfl)
noncomputable def ok_pool_Pool_string_Put_zs : OkSpec Tryd.prog := ⟨sp_pool_Pool_string_Put_zs, pool_Pool_string_Put_zs_is, Tryd.call23⟩

noncomputable def fn_pool_Pool_string_Get_z  : Option (List UInt8 × Bool) :=
 some ((([] : List UInt8), false))
noncomputable def h_pool_Pool_string_Get_z : Hn Tryd.prog := .nil
noncomputable def sp_pool_Pool_string_Get_z : Spec := ⟨24, ⟨[(0, .nilp)], []⟩, [⟨[(0, .tup [.dat .str, .dat .bool])], []⟩], fun x => fn_pool_Pool_string_Get_z⟩
theorem pool_Pool_string_Get_z_is : SpecOk Tryd.prog sp_pool_Pool_string_Get_z := fn_is Tryd.func24 h_pool_Pool_string_Get_z (by kernel_rfl) (by kernel_rfl)
noncomputable def ok_pool_Pool_string_Get_z : OkSpec Tryd.prog := ⟨sp_pool_Pool_string_Get_z, pool_Pool_string_Get_z_is, Tryd.call24⟩

noncomputable def fn_pool_Pool_string_Len_z  : Option Int :=
 some (0)
noncomputable def h_pool_Pool_string_Len_z : Hn Tryd.prog := .nil
noncomputable def sp_pool_Pool_string_Len_z : Spec := ⟨25, ⟨[(0, .nilp)], []⟩, [⟨[(0, .dat (.int .i64))], []⟩], fun x => fn_pool_Pool_string_Len_z⟩
theorem pool_Pool_string_Len_z_is : SpecOk Tryd.prog sp_pool_Pool_string_Len_z := fn_is Tryd.func25 h_pool_Pool_string_Len_z (by kernel_rfl) (by kernel_rfl)
noncomputable def ok_pool_Pool_string_Len_z : OkSpec Tryd.prog := ⟨sp_pool_Pool_string_Len_z, pool_Pool_string_Len_z_is, Tryd.call25⟩

noncomputable def fn_pool_Pool_string_Room_z  : Option Int :=
 some (0)
noncomputable def h_pool_Pool_string_Room_z : Hn Tryd.prog := .nil
noncomputable def sp_pool_Pool_string_Room_z : Spec := ⟨26, ⟨[(0, .nilp)], []⟩, [⟨[(0, .dat (.int .i64))], []⟩], fun x => fn_pool_Pool_string_Room_z⟩
theorem pool_Pool_string_Room_z_is : SpecOk Tryd.prog sp_pool_Pool_string_Room_z := fn_is Tryd.func26 h_pool_Pool_string_Room_z (by kernel_rfl) (by kernel_rfl)
noncomputable def ok_pool_Pool_string_Room_z : OkSpec Tryd.prog := ⟨sp_pool_Pool_string_Room_z, pool_Pool_string_Room_z_is, Tryd.call26⟩

noncomputable def fn_pool_Pool_string_Len_p0_od (qa0 : (Option (Int × (List (List UInt8))))) : Option ((Int × (Option (Int × (List (List UInt8)))))) :=
 (qa0 : (Option (Int × (List (List UInt8))))).bind fun y7 => some ((((y7.2.length : Nat) : Int), qa0))
noncomputable def h_pool_Pool_string_Len_p0_od : Hn Tryd.prog := .nil
noncomputable def sp_pool_Pool_string_Len_p0_od : Spec := ⟨25, ⟨[(0, .ptr 0 0)], [⟨none, 71, [.od (.obj 1 (.cons (.int .i64) (.one (.sl .str))))], false, false, none, false⟩]⟩, [⟨[(0, .dat (.int .i64))], [⟨(some 0), 71, [.od (.obj 1 (.cons (.int .i64) (.one (.sl .str))))], false, false, none, false⟩]⟩], fun x => fn_pool_Pool_string_Len_p0_od x⟩
theorem pool_Pool_string_Len_p0_od_is : SpecOk Tryd.prog sp_pool_Pool_string_Len_p0_od := fn_is Tryd.func25 h_pool_Pool_string_Len_p0_od (by kernel_rfl) (by kernel_rfl)
noncomputable def ok_pool_Pool_string_Len_p0_od : OkSpec Tryd.prog := ⟨sp_pool_Pool_string_Len_p0_od, pool_Pool_string_Len_p0_od_is, Tryd.call25⟩

noncomputable def fn_pool_Pool_string_Room_p0_od (qa0 : (Option (Int × (List (List UInt8))))) : Option ((Int × (Option (Int × (List (List UInt8)))))) :=
 (qa0 : (Option (Int × (List (List UInt8))))).bind fun y22 => (qa0 : (Option (Int × (List (List UInt8))))).bind fun y23 => some ((IntKind.wrap .i64 (y22.1 - (((y23.2.length : Nat) : Int))), qa0))
noncomputable def h_pool_Pool_string_Room_p0_od : Hn Tryd.prog := .mix [] [0, 1, 2, 3, 4, 5, 6, 7, 8, 9, 10, 11] [] [] (.nil)
noncomputable def sp_pool_Pool_string_Room_p0_od : Spec := ⟨26, ⟨[(0, .ptr 0 0)], [⟨none, 71, [.od (.obj 1 (.cons (.int .i64) (.one (.sl .str))))], false, false, none, false⟩]⟩, [⟨[(0, .dat (.int .i64))], [⟨(some 0), 71, [.od (.obj 1 (.cons (.int .i64) (.one (.sl .str))))], false, false, none, false⟩]⟩], fun x => fn_pool_Pool_string_Room_p0_od x⟩
theorem pool_Pool_string_Room_p0_od_is : SpecOk Tryd.prog sp_pool_Pool_string_Room_p0_od := fn_is Tryd.func26 h_pool_Pool_string_Room_p0_od (by kernel_rfl) (by kernel_rfl)
noncomputable def ok_pool_Pool_string_Room_p0_od : OkSpec Tryd.prog := ⟨sp_pool_Pool_string_Room_p0_od, pool_Pool_string_Room_p0_od_is, Tryd.call26⟩

noncomputable def fn_law39_awake  : Option Bool :=
 (fn_pool_New_string 2).bind fun o => match o with | .inl i190 => (fn_pool_Pool_string_Put_zs ([97] : List UInt8)).bind fun t196 => (fn_pool_Pool_string_Put_zs ([98] : List UInt8)).bind fun t202 => (fn_pool_Pool_string_Put_zs ([99] : List UInt8)).bind fun t208 => (fn_pool_Pool_string_Get_z).bind fun (s214, t215) => (cond ((((((decide (i190 = 0)) && t196) && t202) && (!t208)) && (decide (s214 = ([97] : List UInt8)))) && t215) ((fn_pool_Pool_string_Len_z).bind fun i240 => some (decide (i240 = 1))) (some (false))).bind fun t236 => (cond (t236) ((fn_pool_Pool_string_Room_z).bind fun i255 => some (decide (i255 = 1))) (some (false))).bind fun t251 => some (t251) | .inr (i259, l260) => (putF ([97] : List UInt8) l260).bind fun r272 => (putF ([98] : List UInt8) r272.2).bind fun r274 => (putF ([99] : List UInt8) r274.2).bind fun r276 => (getF ([] : List UInt8) r276.2).bind fun r280 => cond ((((((decide (i259 = 0)) && r272.1) && r274.1) && (!r276.1)) && (decide (r280.1 = ([97] : List UInt8)))) && r280.2.1) ((fn_pool_Pool_string_Len_p0_od r280.2.2).bind fun (i350, l351) => cond (decide (i350 = 1)) ((fn_pool_Pool_string_Room_p0_od l351).bind fun (i368, l369) => some (decide (i368 = 1))) (some (false))) (some (false))
noncomputable def h_law39_awake : Hn Tryd.prog := .c2 ok_pool_New_string [] (.cl ok_pool_Pool_string_Put_zs [] (.cl ok_pool_Pool_string_Put_zs [] (.cl ok_pool_Pool_string_Put_zs [] (.cl ok_pool_Pool_string_Get_z [] (.gp 1 (.wt 28 (.gp 1 (.wt 31 (.gp 2 (.wt 35 (.gp 2 (.wt 39 (.gp 1 (.wt 42 (.gj 3 ⟨[(46, .dat .bool)], []⟩ [] (.two 42 (.cl ok_pool_Pool_string_Len_z [] (.nil)) (.nil)) (.wt 47 (.gj 3 ⟨[(51, .dat .bool)], []⟩ [] (.two 47 (.cl ok_pool_Pool_string_Room_z [] (.nil)) (.nil)) (.nil)))))))))))))))))) (.cl ok_put_str [] (.cl ok_put_str [] (.cl ok_put_str [] (.cl ok_get_str [] (.gp 1 (.wt 28 (.gp 1 (.wt 31 (.gp 2 (.wt 35 (.gp 2 (.wt 39 (.gp 1 (.two 42 (.cl ok_pool_Pool_string_Len_p0_od [] (.two 47 (.cl ok_pool_Pool_string_Room_p0_od [] (.nil)) (.nil))) (.nil)))))))))))))))
noncomputable def sp_law39_awake : Spec := ⟨6, ⟨[], []⟩, [⟨[(0, .dat .bool)], []⟩], fun x => fn_law39_awake⟩
theorem law39_awake_is : SpecOk Tryd.prog sp_law39_awake := fn_is Tryd.func6 h_law39_awake (by kernel_rfl) (by kernel_rfl)
noncomputable def ok_law39_awake : OkSpec Tryd.prog := ⟨sp_law39_awake, law39_awake_is, Tryd.call6⟩

noncomputable def fn_pool_Pool_dense_Set_Get_p0_od (qa0 : (Option (Int × (List (Option (Int × (List Int))))))) : Option (((Option (Int × (List Int))) × Bool × (Option (Int × (List (Option (Int × (List Int)))))))) :=
 (qa0 : (Option (Int × (List (Option (Int × (List Int))))))).bind fun y8 => some (((y8.2.headD none : (Option (Int × (List Int)))), !y8.2.isEmpty, (some (y8.1, y8.2.tail) : (Option (Int × (List (Option (Int × (List Int)))))))))
noncomputable def h_pool_Pool_dense_Set_Get_p0_od : Hn Tryd.prog := .nil
noncomputable def sp_pool_Pool_dense_Set_Get_p0_od : Spec := ⟨27, ⟨[(0, .ptr 0 0)], [⟨none, 68, [.od (.chn (.box 57 (.cons (.dat (.int .i64)) (.one (.row 58 (.dat (.int .u64)))))))], false, false, none, false⟩]⟩, [⟨[(0, .tup [.od (.box 57 (.cons (.dat (.int .i64)) (.one (.row 58 (.dat (.int .u64)))))), .dat .bool])], [⟨(some 0), 68, [.od (.chn (.box 57 (.cons (.dat (.int .i64)) (.one (.row 58 (.dat (.int .u64)))))))], false, false, none, false⟩]⟩], fun x => fn_pool_Pool_dense_Set_Get_p0_od x⟩
theorem pool_Pool_dense_Set_Get_p0_od_is : SpecOk Tryd.prog sp_pool_Pool_dense_Set_Get_p0_od := get_set_is
noncomputable def ok_pool_Pool_dense_Set_Get_p0_od : OkSpec Tryd.prog := ⟨sp_pool_Pool_dense_Set_Get_p0_od, pool_Pool_dense_Set_Get_p0_od_is, Tryd.call27⟩

noncomputable def fn_pool_Sets_Take_p0_iiod (qa0 : Int) (qa1 : Int) (qa2 : (Option (Option (Int × (List (Option (Int × (List Int)))))))) : Option (((Option (Int × (List Int))) × Int × (Option (Option (Int × (List (Option (Int × (List Int))))))))) :=
 (qa2).bind fun y81 => (fn_pool_Pool_dense_Set_Get_p0_od y81).bind fun (l86, t87, l88) => cond (t87) (some ((l86, qa1, some l88))) ((fn_dense_New qa0).bind fun o => match o with | .inl i114 => some ((none, IntKind.wrap .i64 (qa1 + 1), some l88)) | .inr (i118, i119, l120) => some ((some (i119, l120), IntKind.wrap .i64 (qa1 + 1), some l88)))
noncomputable def h_pool_Sets_Take_p0_iiod : Hn Tryd.prog := .wt 13 (.opb 2 3 (.cl ok_pool_Pool_dense_Set_Get_p0_od [] (.tw 17 (.nil) (.c2 ok_dense_New [] (.nil) (.nil)))))
noncomputable def sp_pool_Sets_Take_p0_iiod : Spec := ⟨7, ⟨[(0, .ptr 0 0)], [⟨none, 46, [.is 1 (.dat (.int .i64)), .dat (.int .i64), .od (.box 68 (.one (.chn (.box 57 (.cons (.dat (.int .i64)) (.one (.row 58 (.dat (.int .u64)))))))))], false, false, none, false⟩, ⟨none, 0, [], false, true, none, false⟩]⟩, [⟨[(0, .od (.box 57 (.cons (.dat (.int .i64)) (.one (.row 58 (.dat (.int .u64)))))))], [⟨(some 0), 46, [.is 1 (.any), .dat (.int .i64), .od (.box 68 (.one (.chn (.box 57 (.cons (.dat (.int .i64)) (.one (.row 58 (.dat (.int .u64)))))))))], false, false, none, false⟩, ⟨(some 1), 0, [], false, true, none, false⟩]⟩], fun x => fn_pool_Sets_Take_p0_iiod x.1 x.2.1 x.2.2⟩
theorem pool_Sets_Take_p0_iiod_is : SpecOk Tryd.prog sp_pool_Sets_Take_p0_iiod := fn_is Tryd.func7 h_pool_Sets_Take_p0_iiod (by kernel_rfl) (by kernel_rfl)
noncomputable def ok_pool_Sets_Take_p0_iiod : OkSpec Tryd.prog := ⟨sp_pool_Sets_Take_p0_iiod, pool_Sets_Take_p0_iiod_is, Tryd.call7⟩

noncomputable def fn_dense_Set_Size (xa : (Option (Int × (List Int)))) : Option Int :=
 cond (xa.isNone) (some (0)) ((xa : Option (Int × (List Int))).bind fun y11 => some (y11.1))
noncomputable def h_dense_Set_Size : Hn Tryd.prog := .tw 4 (.nil) (.nil)
noncomputable def sp_dense_Set_Size : Spec := ⟨8, ⟨[(0, .dat (.ptr (.cons (.int .i64) (.one (.sl (.int .u64))))))], []⟩, [⟨[(0, .dat (.int .i64))], []⟩], fun x => fn_dense_Set_Size x⟩
theorem dense_Set_Size_is : SpecOk Tryd.prog sp_dense_Set_Size := fn_is Tryd.func8 h_dense_Set_Size (by kernel_rfl) (by kernel_rfl)
noncomputable def ok_dense_Set_Size : OkSpec Tryd.prog := ⟨sp_dense_Set_Size, dense_Set_Size_is, Tryd.call8⟩

noncomputable def fn_math_bits_OnesCount64 (xa : Int) : Option Int :=
 some (IntKind.wrap .i64 ((BitVec.ofInt (IntKind.bits .i64) (IntKind.wrap .i64 (IntKind.wrap .u64 ((IntKind.wrap .u64 ((IntKind.wrap .u64 ((IntKind.wrap .u64 ((BitVec.ofInt (IntKind.bits .u64) (IntKind.wrap .u64 ((Int.fdiv (IntKind.wrap .u64 ((IntKind.wrap .u64 ((BitVec.ofInt (IntKind.bits .u64) (Int.fdiv (IntKind.wrap .u64 ((IntKind.wrap .u64 ((BitVec.ofInt (IntKind.bits .u64) (Int.fdiv xa (2 ^ (min (Int.toNat 1) (IntKind.bits .u64)))) &&& BitVec.ofInt (IntKind.bits .u64) 6148914691236517205).toNat : Int)) + (IntKind.wrap .u64 ((BitVec.ofInt (IntKind.bits .u64) xa &&& BitVec.ofInt (IntKind.bits .u64) 6148914691236517205).toNat : Int)))) (2 ^ (min (Int.toNat 2) (IntKind.bits .u64)))) &&& BitVec.ofInt (IntKind.bits .u64) 3689348814741910323).toNat : Int)) + (IntKind.wrap .u64 ((BitVec.ofInt (IntKind.bits .u64) (IntKind.wrap .u64 ((IntKind.wrap .u64 ((BitVec.ofInt (IntKind.bits .u64) (Int.fdiv xa (2 ^ (min (Int.toNat 1) (IntKind.bits .u64)))) &&& BitVec.ofInt (IntKind.bits .u64) 6148914691236517205).toNat : Int)) + (IntKind.wrap .u64 ((BitVec.ofInt (IntKind.bits .u64) xa &&& BitVec.ofInt (IntKind.bits .u64) 6148914691236517205).toNat : Int)))) &&& BitVec.ofInt (IntKind.bits .u64) 3689348814741910323).toNat : Int)))) (2 ^ (min (Int.toNat 4) (IntKind.bits .u64)))) + (IntKind.wrap .u64 ((IntKind.wrap .u64 ((BitVec.ofInt (IntKind.bits .u64) (Int.fdiv (IntKind.wrap .u64 ((IntKind.wrap .u64 ((BitVec.ofInt (IntKind.bits .u64) (Int.fdiv xa (2 ^ (min (Int.toNat 1) (IntKind.bits .u64)))) &&& BitVec.ofInt (IntKind.bits .u64) 6148914691236517205).toNat : Int)) + (IntKind.wrap .u64 ((BitVec.ofInt (IntKind.bits .u64) xa &&& BitVec.ofInt (IntKind.bits .u64) 6148914691236517205).toNat : Int)))) (2 ^ (min (Int.toNat 2) (IntKind.bits .u64)))) &&& BitVec.ofInt (IntKind.bits .u64) 3689348814741910323).toNat : Int)) + (IntKind.wrap .u64 ((BitVec.ofInt (IntKind.bits .u64) (IntKind.wrap .u64 ((IntKind.wrap .u64 ((BitVec.ofInt (IntKind.bits .u64) (Int.fdiv xa (2 ^ (min (Int.toNat 1) (IntKind.bits .u64)))) &&& BitVec.ofInt (IntKind.bits .u64) 6148914691236517205).toNat : Int)) + (IntKind.wrap .u64 ((BitVec.ofInt (IntKind.bits .u64) xa &&& BitVec.ofInt (IntKind.bits .u64) 6148914691236517205).toNat : Int)))) &&& BitVec.ofInt (IntKind.bits .u64) 3689348814741910323).toNat : Int)))))) &&& BitVec.ofInt (IntKind.bits .u64) 1085102592571150095).toNat : Int)) + (Int.fdiv (IntKind.wrap .u64 ((BitVec.ofInt (IntKind.bits .u64) (IntKind.wrap .u64 ((Int.fdiv (IntKind.wrap .u64 ((IntKind.wrap .u64 ((BitVec.ofInt (IntKind.bits .u64) (Int.fdiv (IntKind.wrap .u64 ((IntKind.wrap .u64 ((BitVec.ofInt (IntKind.bits .u64) (Int.fdiv xa (2 ^ (min (Int.toNat 1) (IntKind.bits .u64)))) &&& BitVec.ofInt (IntKind.bits .u64) 6148914691236517205).toNat : Int)) + (IntKind.wrap .u64 ((BitVec.ofInt (IntKind.bits .u64) xa &&& BitVec.ofInt (IntKind.bits .u64) 6148914691236517205).toNat : Int)))) (2 ^ (min (Int.toNat 2) (IntKind.bits .u64)))) &&& BitVec.ofInt (IntKind.bits .u64) 3689348814741910323).toNat : Int)) + (IntKind.wrap .u64 ((BitVec.ofInt (IntKind.bits .u64) (IntKind.wrap .u64 ((IntKind.wrap .u64 ((BitVec.ofInt (IntKind.bits .u64) (Int.fdiv xa (2 ^ (min (Int.toNat 1) (IntKind.bits .u64)))) &&& BitVec.ofInt (IntKind.bits .u64) 6148914691236517205).toNat : Int)) + (IntKind.wrap .u64 ((BitVec.ofInt (IntKind.bits .u64) xa &&& BitVec.ofInt (IntKind.bits .u64) 6148914691236517205).toNat : Int)))) &&& BitVec.ofInt (IntKind.bits .u64) 3689348814741910323).toNat : Int)))) (2 ^ (min (Int.toNat 4) (IntKind.bits .u64)))) + (IntKind.wrap .u64 ((IntKind.wrap .u64 ((BitVec.ofInt (IntKind.bits .u64) (Int.fdiv (IntKind.wrap .u64 ((IntKind.wrap .u64 ((BitVec.ofInt (IntKind.bits .u64) (Int.fdiv xa (2 ^ (min (Int.toNat 1) (IntKind.bits .u64)))) &&& BitVec.ofInt (IntKind.bits .u64) 6148914691236517205).toNat : Int)) + (IntKind.wrap .u64 ((BitVec.ofInt (IntKind.bits .u64) xa &&& BitVec.ofInt (IntKind.bits .u64) 6148914691236517205).toNat : Int)))) (2 ^ (min (Int.toNat 2) (IntKind.bits .u64)))) &&& BitVec.ofInt (IntKind.bits .u64) 3689348814741910323).toNat : Int)) + (IntKind.wrap .u64 ((BitVec.ofInt (IntKind.bits .u64) (IntKind.wrap .u64 ((IntKind.wrap .u64 ((BitVec.ofInt (IntKind.bits .u64) (Int.fdiv xa (2 ^ (min (Int.toNat 1) (IntKind.bits .u64)))) &&& BitVec.ofInt (IntKind.bits .u64) 6148914691236517205).toNat : Int)) + (IntKind.wrap .u64 ((BitVec.ofInt (IntKind.bits .u64) xa &&& BitVec.ofInt (IntKind.bits .u64) 6148914691236517205).toNat : Int)))) &&& BitVec.ofInt (IntKind.bits .u64) 3689348814741910323).toNat : Int)))))) &&& BitVec.ofInt (IntKind.bits .u64) 1085102592571150095).toNat : Int)) (2 ^ (min (Int.toNat 8) (IntKind.bits .u64)))))) + (Int.fdiv (IntKind.wrap .u64 ((IntKind.wrap .u64 ((BitVec.ofInt (IntKind.bits .u64) (IntKind.wrap .u64 ((Int.fdiv (IntKind.wrap .u64 ((IntKind.wrap .u64 ((BitVec.ofInt (IntKind.bits .u64) (Int.fdiv (IntKind.wrap .u64 ((IntKind.wrap .u64 ((BitVec.ofInt (IntKind.bits .u64) (Int.fdiv xa (2 ^ (min (Int.toNat 1) (IntKind.bits .u64)))) &&& BitVec.ofInt (IntKind.bits .u64) 6148914691236517205).toNat : Int)) + (IntKind.wrap .u64 ((BitVec.ofInt (IntKind.bits .u64) xa &&& BitVec.ofInt (IntKind.bits .u64) 6148914691236517205).toNat : Int)))) (2 ^ (min (Int.toNat 2) (IntKind.bits .u64)))) &&& BitVec.ofInt (IntKind.bits .u64) 3689348814741910323).toNat : Int)) + (IntKind.wrap .u64 ((BitVec.ofInt (IntKind.bits .u64) (IntKind.wrap .u64 ((IntKind.wrap .u64 ((BitVec.ofInt (IntKind.bits .u64) (Int.fdiv xa (2 ^ (min (Int.toNat 1) (IntKind.bits .u64)))) &&& BitVec.ofInt (IntKind.bits .u64) 6148914691236517205).toNat : Int)) + (IntKind.wrap .u64 ((BitVec.ofInt (IntKind.bits .u64) xa &&& BitVec.ofInt (IntKind.bits .u64) 6148914691236517205).toNat : Int)))) &&& BitVec.ofInt (IntKind.bits .u64) 3689348814741910323).toNat : Int)))) (2 ^ (min (Int.toNat 4) (IntKind.bits .u64)))) + (IntKind.wrap .u64 ((IntKind.wrap .u64 ((BitVec.ofInt (IntKind.bits .u64) (Int.fdiv (IntKind.wrap .u64 ((IntKind.wrap .u64 ((BitVec.ofInt (IntKind.bits .u64) (Int.fdiv xa (2 ^ (min (Int.toNat 1) (IntKind.bits .u64)))) &&& BitVec.ofInt (IntKind.bits .u64) 6148914691236517205).toNat : Int)) + (IntKind.wrap .u64 ((BitVec.ofInt (IntKind.bits .u64) xa &&& BitVec.ofInt (IntKind.bits .u64) 6148914691236517205).toNat : Int)))) (2 ^ (min (Int.toNat 2) (IntKind.bits .u64)))) &&& BitVec.ofInt (IntKind.bits .u64) 3689348814741910323).toNat : Int)) + (IntKind.wrap .u64 ((BitVec.ofInt (IntKind.bits .u64) (IntKind.wrap .u64 ((IntKind.wrap .u64 ((BitVec.ofInt (IntKind.bits .u64) (Int.fdiv xa (2 ^ (min (Int.toNat 1) (IntKind.bits .u64)))) &&& BitVec.ofInt (IntKind.bits .u64) 6148914691236517205).toNat : Int)) + (IntKind.wrap .u64 ((BitVec.ofInt (IntKind.bits .u64) xa &&& BitVec.ofInt (IntKind.bits .u64) 6148914691236517205).toNat : Int)))) &&& BitVec.ofInt (IntKind.bits .u64) 3689348814741910323).toNat : Int)))))) &&& BitVec.ofInt (IntKind.bits .u64) 1085102592571150095).toNat : Int)) + (Int.fdiv (IntKind.wrap .u64 ((BitVec.ofInt (IntKind.bits .u64) (IntKind.wrap .u64 ((Int.fdiv (IntKind.wrap .u64 ((IntKind.wrap .u64 ((BitVec.ofInt (IntKind.bits .u64) (Int.fdiv (IntKind.wrap .u64 ((IntKind.wrap .u64 ((BitVec.ofInt (IntKind.bits .u64) (Int.fdiv xa (2 ^ (min (Int.toNat 1) (IntKind.bits .u64)))) &&& BitVec.ofInt (IntKind.bits .u64) 6148914691236517205).toNat : Int)) + (IntKind.wrap .u64 ((BitVec.ofInt (IntKind.bits .u64) xa &&& BitVec.ofInt (IntKind.bits .u64) 6148914691236517205).toNat : Int)))) (2 ^ (min (Int.toNat 2) (IntKind.bits .u64)))) &&& BitVec.ofInt (IntKind.bits .u64) 3689348814741910323).toNat : Int)) + (IntKind.wrap .u64 ((BitVec.ofInt (IntKind.bits .u64) (IntKind.wrap .u64 ((IntKind.wrap .u64 ((BitVec.ofInt (IntKind.bits .u64) (Int.fdiv xa (2 ^ (min (Int.toNat 1) (IntKind.bits .u64)))) &&& BitVec.ofInt (IntKind.bits .u64) 6148914691236517205).toNat : Int)) + (IntKind.wrap .u64 ((BitVec.ofInt (IntKind.bits .u64) xa &&& BitVec.ofInt (IntKind.bits .u64) 6148914691236517205).toNat : Int)))) &&& BitVec.ofInt (IntKind.bits .u64) 3689348814741910323).toNat : Int)))) (2 ^ (min (Int.toNat 4) (IntKind.bits .u64)))) + (IntKind.wrap .u64 ((IntKind.wrap .u64 ((BitVec.ofInt (IntKind.bits .u64) (Int.fdiv (IntKind.wrap .u64 ((IntKind.wrap .u64 ((BitVec.ofInt (IntKind.bits .u64) (Int.fdiv xa (2 ^ (min (Int.toNat 1) (IntKind.bits .u64)))) &&& BitVec.ofInt (IntKind.bits .u64) 6148914691236517205).toNat : Int)) + (IntKind.wrap .u64 ((BitVec.ofInt (IntKind.bits .u64) xa &&& BitVec.ofInt (IntKind.bits .u64) 6148914691236517205).toNat : Int)))) (2 ^ (min (Int.toNat 2) (IntKind.bits .u64)))) &&& BitVec.ofInt (IntKind.bits .u64) 3689348814741910323).toNat : Int)) + (IntKind.wrap .u64 ((BitVec.ofInt (IntKind.bits .u64) (IntKind.wrap .u64 ((IntKind.wrap .u64 ((BitVec.ofInt (IntKind.bits .u64) (Int.fdiv xa (2 ^ (min (Int.toNat 1) (IntKind.bits .u64)))) &&& BitVec.ofInt (IntKind.bits .u64) 6148914691236517205).toNat : Int)) + (IntKind.wrap .u64 ((BitVec.ofInt (IntKind.bits .u64) xa &&& BitVec.ofInt (IntKind.bits .u64) 6148914691236517205).toNat : Int)))) &&& BitVec.ofInt (IntKind.bits .u64) 3689348814741910323).toNat : Int)))))) &&& BitVec.ofInt (IntKind.bits .u64) 1085102592571150095).toNat : Int)) (2 ^ (min (Int.toNat 8) (IntKind.bits .u64)))))) (2 ^ (min (Int.toNat 16) (IntKind.bits .u64)))))) + (Int.fdiv (IntKind.wrap .u64 ((IntKind.wrap .u64 ((IntKind.wrap .u64 ((BitVec.ofInt (IntKind.bits .u64) (IntKind.wrap .u64 ((Int.fdiv (IntKind.wrap .u64 ((IntKind.wrap .u64 ((BitVec.ofInt (IntKind.bits .u64) (Int.fdiv (IntKind.wrap .u64 ((IntKind.wrap .u64 ((BitVec.ofInt (IntKind.bits .u64) (Int.fdiv xa (2 ^ (min (Int.toNat 1) (IntKind.bits .u64)))) &&& BitVec.ofInt (IntKind.bits .u64) 6148914691236517205).toNat : Int)) + (IntKind.wrap .u64 ((BitVec.ofInt (IntKind.bits .u64) xa &&& BitVec.ofInt (IntKind.bits .u64) 6148914691236517205).toNat : Int)))) (2 ^ (min (Int.toNat 2) (IntKind.bits .u64)))) &&& BitVec.ofInt (IntKind.bits .u64) 3689348814741910323).toNat : Int)) + (IntKind.wrap .u64 ((BitVec.ofInt (IntKind.bits .u64) (IntKind.wrap .u64 ((IntKind.wrap .u64 ((BitVec.ofInt (IntKind.bits .u64) (Int.fdiv xa (2 ^ (min (Int.toNat 1) (IntKind.bits .u64)))) &&& BitVec.ofInt (IntKind.bits .u64) 6148914691236517205).toNat : Int)) + (IntKind.wrap .u64 ((BitVec.ofInt (IntKind.bits .u64) xa &&& BitVec.ofInt (IntKind.bits .u64) 6148914691236517205).toNat : Int)))) &&& BitVec.ofInt (IntKind.bits .u64) 3689348814741910323).toNat : Int)))) (2 ^ (min (Int.toNat 4) (IntKind.bits .u64)))) + (IntKind.wrap .u64 ((IntKind.wrap .u64 ((BitVec.ofInt (IntKind.bits .u64) (Int.fdiv (IntKind.wrap .u64 ((IntKind.wrap .u64 ((BitVec.ofInt (IntKind.bits .u64) (Int.fdiv xa (2 ^ (min (Int.toNat 1) (IntKind.bits .u64)))) &&& BitVec.ofInt (IntKind.bits .u64) 6148914691236517205).toNat : Int)) + (IntKind.wrap .u64 ((BitVec.ofInt (IntKind.bits .u64) xa &&& BitVec.ofInt (IntKind.bits .u64) 6148914691236517205).toNat : Int)))) (2 ^ (min (Int.toNat 2) (IntKind.bits .u64)))) &&& BitVec.ofInt (IntKind.bits .u64) 3689348814741910323).toNat : Int)) + (IntKind.wrap .u64 ((BitVec.ofInt (IntKind.bits .u64) (IntKind.wrap .u64 ((IntKind.wrap .u64 ((BitVec.ofInt (IntKind.bits .u64) (Int.fdiv xa (2 ^ (min (Int.toNat 1) (IntKind.bits .u64)))) &&& BitVec.ofInt (IntKind.bits .u64) 6148914691236517205).toNat : Int)) + (IntKind.wrap .u64 ((BitVec.ofInt (IntKind.bits .u64) xa &&& BitVec.ofInt (IntKind.bits .u64) 6148914691236517205).toNat : Int)))) &&& BitVec.ofInt (IntKind.bits .u64) 3689348814741910323).toNat : Int)))))) &&& BitVec.ofInt (IntKind.bits .u64) 1085102592571150095).toNat : Int)) + (Int.fdiv (IntKind.wrap .u64 ((BitVec.ofInt (IntKind.bits .u64) (IntKind.wrap .u64 ((Int.fdiv (IntKind.wrap .u64 ((IntKind.wrap .u64 ((BitVec.ofInt (IntKind.bits .u64) (Int.fdiv (IntKind.wrap .u64 ((IntKind.wrap .u64 ((BitVec.ofInt (IntKind.bits .u64) (Int.fdiv xa (2 ^ (min (Int.toNat 1) (IntKind.bits .u64)))) &&& BitVec.ofInt (IntKind.bits .u64) 6148914691236517205).toNat : Int)) + (IntKind.wrap .u64 ((BitVec.ofInt (IntKind.bits .u64) xa &&& BitVec.ofInt (IntKind.bits .u64) 6148914691236517205).toNat : Int)))) (2 ^ (min (Int.toNat 2) (IntKind.bits .u64)))) &&& BitVec.ofInt (IntKind.bits .u64) 3689348814741910323).toNat : Int)) + (IntKind.wrap .u64 ((BitVec.ofInt (IntKind.bits .u64) (IntKind.wrap .u64 ((IntKind.wrap .u64 ((BitVec.ofInt (IntKind.bits .u64) (Int.fdiv xa (2 ^ (min (Int.toNat 1) (IntKind.bits .u64)))) &&& BitVec.ofInt (IntKind.bits .u64) 6148914691236517205).toNat : Int)) + (IntKind.wrap .u64 ((BitVec.ofInt (IntKind.bits .u64) xa &&& BitVec.ofInt (IntKind.bits .u64) 6148914691236517205).toNat : Int)))) &&& BitVec.ofInt (IntKind.bits .u64) 3689348814741910323).toNat : Int)))) (2 ^ (min (Int.toNat 4) (IntKind.bits .u64)))) + (IntKind.wrap .u64 ((IntKind.wrap .u64 ((BitVec.ofInt (IntKind.bits .u64) (Int.fdiv (IntKind.wrap .u64 ((IntKind.wrap .u64 ((BitVec.ofInt (IntKind.bits .u64) (Int.fdiv xa (2 ^ (min (Int.toNat 1) (IntKind.bits .u64)))) &&& BitVec.ofInt (IntKind.bits .u64) 6148914691236517205).toNat : Int)) + (IntKind.wrap .u64 ((BitVec.ofInt (IntKind.bits .u64) xa &&& BitVec.ofInt (IntKind.bits .u64) 6148914691236517205).toNat : Int)))) (2 ^ (min (Int.toNat 2) (IntKind.bits .u64)))) &&& BitVec.ofInt (IntKind.bits .u64) 3689348814741910323).toNat : Int)) + (IntKind.wrap .u64 ((BitVec.ofInt (IntKind.bits .u64) (IntKind.wrap .u64 ((IntKind.wrap .u64 ((BitVec.ofInt (IntKind.bits .u64) (Int.fdiv xa (2 ^ (min (Int.toNat 1) (IntKind.bits .u64)))) &&& BitVec.ofInt (IntKind.bits .u64) 6148914691236517205).toNat : Int)) + (IntKind.wrap .u64 ((BitVec.ofInt (IntKind.bits .u64) xa &&& BitVec.ofInt (IntKind.bits .u64) 6148914691236517205).toNat : Int)))) &&& BitVec.ofInt (IntKind.bits .u64) 3689348814741910323).toNat : Int)))))) &&& BitVec.ofInt (IntKind.bits .u64) 1085102592571150095).toNat : Int)) (2 ^ (min (Int.toNat 8) (IntKind.bits .u64)))))) + (Int.fdiv (IntKind.wrap .u64 ((IntKind.wrap .u64 ((BitVec.ofInt (IntKind.bits .u64) (IntKind.wrap .u64 ((Int.fdiv (IntKind.wrap .u64 ((IntKind.wrap .u64 ((BitVec.ofInt (IntKind.bits .u64) (Int.fdiv (IntKind.wrap .u64 ((IntKind.wrap .u64 ((BitVec.ofInt (IntKind.bits .u64) (Int.fdiv xa (2 ^ (min (Int.toNat 1) (IntKind.bits .u64)))) &&& BitVec.ofInt (IntKind.bits .u64) 6148914691236517205).toNat : Int)) + (IntKind.wrap .u64 ((BitVec.ofInt (IntKind.bits .u64) xa &&& BitVec.ofInt (IntKind.bits .u64) 6148914691236517205).toNat : Int)))) (2 ^ (min (Int.toNat 2) (IntKind.bits .u64)))) &&& BitVec.ofInt (IntKind.bits .u64) 3689348814741910323).toNat : Int)) + (IntKind.wrap .u64 ((BitVec.ofInt (IntKind.bits .u64) (IntKind.wrap .u64 ((IntKind.wrap .u64 ((BitVec.ofInt (IntKind.bits .u64) (Int.fdiv xa (2 ^ (min (Int.toNat 1) (IntKind.bits .u64)))) &&& BitVec.ofInt (IntKind.bits .u64) 6148914691236517205).toNat : Int)) + (IntKind.wrap .u64 ((BitVec.ofInt (IntKind.bits .u64) xa &&& BitVec.ofInt (IntKind.bits .u64) 6148914691236517205).toNat : Int)))) &&& BitVec.ofInt (IntKind.bits .u64) 3689348814741910323).toNat : Int)))) (2 ^ (min (Int.toNat 4) (IntKind.bits .u64)))) + (IntKind.wrap .u64 ((IntKind.wrap .u64 ((BitVec.ofInt (IntKind.bits .u64) (Int.fdiv (IntKind.wrap .u64 ((IntKind.wrap .u64 ((BitVec.ofInt (IntKind.bits .u64) (Int.fdiv xa (2 ^ (min (Int.toNat 1) (IntKind.bits .u64)))) &&& BitVec.ofInt (IntKind.bits .u64) 6148914691236517205).toNat : Int)) + (IntKind.wrap .u64 ((BitVec.ofInt (IntKind.bits .u64) xa &&& BitVec.ofInt (IntKind.bits .u64) 6148914691236517205).toNat : Int)))) (2 ^ (min (Int.toNat 2) (IntKind.bits .u64)))) &&& BitVec.ofInt (IntKind.bits .u64) 3689348814741910323).toNat : Int)) + (IntKind.wrap .u64 ((BitVec.ofInt (IntKind.bits .u64) (IntKind.wrap .u64 ((IntKind.wrap .u64 ((BitVec.ofInt (IntKind.bits .u64) (Int.fdiv xa (2 ^ (min (Int.toNat 1) (IntKind.bits .u64)))) &&& BitVec.ofInt (IntKind.bits .u64) 6148914691236517205).toNat : Int)) + (IntKind.wrap .u64 ((BitVec.ofInt (IntKind.bits .u64) xa &&& BitVec.ofInt (IntKind.bits .u64) 6148914691236517205).toNat : Int)))) &&& BitVec.ofInt (IntKind.bits .u64) 3689348814741910323).toNat : Int)))))) &&& BitVec.ofInt (IntKind.bits .u64) 1085102592571150095).toNat : Int)) + (Int.fdiv (IntKind.wrap .u64 ((BitVec.ofInt (IntKind.bits .u64) (IntKind.wrap .u64 ((Int.fdiv (IntKind.wrap .u64 ((IntKind.wrap .u64 ((BitVec.ofInt (IntKind.bits .u64) (Int.fdiv (IntKind.wrap .u64 ((IntKind.wrap .u64 ((BitVec.ofInt (IntKind.bits .u64) (Int.fdiv xa (2 ^ (min (Int.toNat 1) (IntKind.bits .u64)))) &&& BitVec.ofInt (IntKind.bits .u64) 6148914691236517205).toNat : Int)) + (IntKind.wrap .u64 ((BitVec.ofInt (IntKind.bits .u64) xa &&& BitVec.ofInt (IntKind.bits .u64) 6148914691236517205).toNat : Int)))) (2 ^ (min (Int.toNat 2) (IntKind.bits .u64)))) &&& BitVec.ofInt (IntKind.bits .u64) 3689348814741910323).toNat : Int)) + (IntKind.wrap .u64 ((BitVec.ofInt (IntKind.bits .u64) (IntKind.wrap .u64 ((IntKind.wrap .u64 ((BitVec.ofInt (IntKind.bits .u64) (Int.fdiv xa (2 ^ (min (Int.toNat 1) (IntKind.bits .u64)))) &&& BitVec.ofInt (IntKind.bits .u64) 6148914691236517205).toNat : Int)) + (IntKind.wrap .u64 ((BitVec.ofInt (IntKind.bits .u64) xa &&& BitVec.ofInt (IntKind.bits .u64) 6148914691236517205).toNat : Int)))) &&& BitVec.ofInt (IntKind.bits .u64) 3689348814741910323).toNat : Int)))) (2 ^ (min (Int.toNat 4) (IntKind.bits .u64)))) + (IntKind.wrap .u64 ((IntKind.wrap .u64 ((BitVec.ofInt (IntKind.bits .u64) (Int.fdiv (IntKind.wrap .u64 ((IntKind.wrap .u64 ((BitVec.ofInt (IntKind.bits .u64) (Int.fdiv xa (2 ^ (min (Int.toNat 1) (IntKind.bits .u64)))) &&& BitVec.ofInt (IntKind.bits .u64) 6148914691236517205).toNat : Int)) + (IntKind.wrap .u64 ((BitVec.ofInt (IntKind.bits .u64) xa &&& BitVec.ofInt (IntKind.bits .u64) 6148914691236517205).toNat : Int)))) (2 ^ (min (Int.toNat 2) (IntKind.bits .u64)))) &&& BitVec.ofInt (IntKind.bits .u64) 3689348814741910323).toNat : Int)) + (IntKind.wrap .u64 ((BitVec.ofInt (IntKind.bits .u64) (IntKind.wrap .u64 ((IntKind.wrap .u64 ((BitVec.ofInt (IntKind.bits .u64) (Int.fdiv xa (2 ^ (min (Int.toNat 1) (IntKind.bits .u64)))) &&& BitVec.ofInt (IntKind.bits .u64) 6148914691236517205).toNat : Int)) + (IntKind.wrap .u64 ((BitVec.ofInt (IntKind.bits .u64) xa &&& BitVec.ofInt (IntKind.bits .u64) 6148914691236517205).toNat : Int)))) &&& BitVec.ofInt (IntKind.bits .u64) 3689348814741910323).toNat : Int)))))) &&& BitVec.ofInt (IntKind.bits .u64) 1085102592571150095).toNat : Int)) (2 ^ (min (Int.toNat 8) (IntKind.bits .u64)))))) (2 ^ (min (Int.toNat 16) (IntKind.bits .u64)))))) (2 ^ (min (Int.toNat 32) (IntKind.bits .u64))))))) &&& BitVec.ofInt (IntKind.bits .i64) 127).toNat : Int))
noncomputable def h_math_bits_OnesCount64 : Hn Tryd.prog := .nil
noncomputable def sp_math_bits_OnesCount64 : Spec := ⟨28, ⟨[(0, .dat (.int .u64))], []⟩, [⟨[(0, .dat (.int .i64))], []⟩], fun x => fn_math_bits_OnesCount64 x⟩
theorem math_bits_OnesCount64_is : SpecOk Tryd.prog sp_math_bits_OnesCount64 := fn_is Tryd.func28 h_math_bits_OnesCount64 (by kernel_rfl) (by kernel_rfl)
noncomputable def ok_math_bits_OnesCount64 : OkSpec Tryd.prog := ⟨sp_math_bits_OnesCount64, math_bits_OnesCount64_is, Tryd.call28⟩
noncomputable def fn_dense_Set_Count_l1 (y125 : (Int × (List Int))) : (Int × Int) → Option ((Int × Int) ⊕ Int) := fun ((i209, i210) : (Int × Int)) => cond (decide (i210 < (((y125.2.length : Nat) : Int)))) ((getI y125.2 i210).bind fun x231 => (fn_math_bits_OnesCount64 x231).bind fun i242 => some (.inl ((IntKind.wrap .i64 (i209 + i242), IntKind.wrap .i64 (i210 + 1))))) (some (.inr (i209)))
noncomputable def fn_dense_Set_Count (xa : (Option (Int × (List Int)))) : Option Int :=
 cond (xa.isNone) (some (0)) ((xa : Option (Int × (List Int))).bind fun y125 => (loop (fn_dense_Set_Count_l1 y125) (0, 0) : Option Int).bind fun i190 => some (i190))
noncomputable def h_dense_Set_Count : Hn Tryd.prog := .tw 7 (.nil) (.jn [] ⟨[(3, .dat (.int .i64))], []⟩ [] (.lp ⟨[(3, .dat (.int .i64)), (13, .dat (.int .i64))], []⟩ (.tw 14 (.cl ok_math_bits_OnesCount64 [] (.nil)) (.nil))) (.nil))
noncomputable def sp_dense_Set_Count : Spec := ⟨9, ⟨[(0, .dat (.ptr (.cons (.int .i64) (.one (.sl (.int .u64))))))], []⟩, [⟨[(0, .dat (.int .i64))], []⟩], fun x => fn_dense_Set_Count x⟩
theorem dense_Set_Count_is : SpecOk Tryd.prog sp_dense_Set_Count := fn_is Tryd.func9 h_dense_Set_Count (by kernel_rfl) (by kernel_rfl)
noncomputable def ok_dense_Set_Count : OkSpec Tryd.prog := ⟨sp_dense_Set_Count, dense_Set_Count_is, Tryd.call9⟩

noncomputable def fn_pool_Sets_Made_p0_iiod (qa0 : Int) (qa1 : Int) (qa2 : (Option (Option (Int × (List (Option (Int × (List Int)))))))) : Option ((Int × (Option (Option (Int × (List (Option (Int × (List Int))))))))) :=
 some ((qa1, qa2))
noncomputable def h_pool_Sets_Made_p0_iiod : Hn Tryd.prog := .nil
noncomputable def sp_pool_Sets_Made_p0_iiod : Spec := ⟨10, ⟨[(0, .ptr 0 0)], [⟨none, 46, [.is 1 (.dat (.int .i64)), .is 2 (.dat (.int .i64)), .od (.box 68 (.one (.chn (.box 57 (.cons (.dat (.int .i64)) (.one (.row 58 (.dat (.int .u64)))))))))], false, false, none, false⟩, ⟨none, 0, [], false, true, none, false⟩, ⟨none, 0, [], false, true, none, false⟩]⟩, [⟨[(0, .dat (.int .i64))], [⟨(some 0), 46, [.is 1 (.any), .is 2 (.any), .od (.box 68 (.one (.chn (.box 57 (.cons (.dat (.int .i64)) (.one (.row 58 (.dat (.int .u64)))))))))], false, false, none, false⟩, ⟨(some 1), 0, [], false, true, none, false⟩, ⟨(some 2), 0, [], false, true, none, false⟩]⟩], fun x => fn_pool_Sets_Made_p0_iiod x.1 x.2.1 x.2.2⟩
theorem pool_Sets_Made_p0_iiod_is : SpecOk Tryd.prog sp_pool_Sets_Made_p0_iiod := fn_is Tryd.func10 h_pool_Sets_Made_p0_iiod (by kernel_rfl) (by kernel_rfl)
noncomputable def ok_pool_Sets_Made_p0_iiod : OkSpec Tryd.prog := ⟨sp_pool_Sets_Made_p0_iiod, pool_Sets_Made_p0_iiod_is, Tryd.call10⟩

noncomputable def fn_dense_Set_mayHave (xa : (Option (Int × (List Int)))) (xb : Int) : Option Bool :=
 (cond (decide (0 ≤ xb)) ((fn_dense_Set_Size xa).bind fun i28 => some (decide (xb < i28))) (some (false))).bind fun t24 => some (t24)
noncomputable def h_dense_Set_mayHave : Hn Tryd.prog := .gj 4 ⟨[(12, .dat .bool)], []⟩ [] (.two 7 (.cl ok_dense_Set_Size [] (.nil)) (.nil)) (.nil)
noncomputable def sp_dense_Set_mayHave : Spec := ⟨29, ⟨[(0, .dat (.ptr (.cons (.int .i64) (.one (.sl (.int .u64)))))), (1, .dat (.int .i64))], []⟩, [⟨[(0, .dat .bool)], []⟩], fun x => fn_dense_Set_mayHave x.1 x.2⟩
theorem dense_Set_mayHave_is : SpecOk Tryd.prog sp_dense_Set_mayHave := fn_is Tryd.func29 h_dense_Set_mayHave (by kernel_rfl) (by kernel_rfl)
noncomputable def ok_dense_Set_mayHave : OkSpec Tryd.prog := ⟨sp_dense_Set_mayHave, dense_Set_mayHave_is, Tryd.call29⟩

noncomputable def fn_dense_Set_Has (xa : (Option (Int × (List Int)))) (xb : Int) : Option Bool :=
 (fn_dense_Set_mayHave xa xb).bind fun t200 => cond (t200) ((xa : Option (Int × (List Int))).bind fun y205 => (getI y205.2 (IntKind.wrap .i64 (Int.tdiv xb 64))).bind fun x215 => (ge0 (Int.tmod xb 64)).bind fun u224 => some (!decide ((IntKind.wrap .u64 ((BitVec.ofInt (IntKind.bits .u64) x215 &&& BitVec.ofInt (IntKind.bits .u64) (IntKind.wrap .u64 (1 * 2 ^ (min (Int.toNat (Int.tmod xb 64)) (IntKind.bits .u64))))).toNat : Int)) = 0))) (some (false))
noncomputable def h_dense_Set_Has : Hn Tryd.prog := .mix [([0, 1], 2)] [3, 4, 5, 6, 7, 8, 9, 10, 11, 12, 13, 14, 15, 16, 17, 18] [] [] (.cl ok_dense_Set_mayHave [] (.two 8 (.nil) (.nil)))
noncomputable def sp_dense_Set_Has : Spec := ⟨19, ⟨[(0, .dat (.ptr (.cons (.int .i64) (.one (.sl (.int .u64)))))), (1, .dat (.int .i64))], []⟩, [⟨[(0, .dat .bool)], []⟩], fun x => fn_dense_Set_Has x.1 x.2⟩
theorem dense_Set_Has_is : SpecOk Tryd.prog sp_dense_Set_Has := fn_is Tryd.func19 h_dense_Set_Has (by kernel_rfl) (by kernel_rfl)
noncomputable def ok_dense_Set_Has : OkSpec Tryd.prog := ⟨sp_dense_Set_Has, dense_Set_Has_is, Tryd.call19⟩

noncomputable def fn_dense_Set_Add_p0i_ir (xb : Int) (qa0 : Int) (qa1 : (List Int)) : Option ((Bool × (List Int))) :=
 (fn_dense_Set_mayHave (some (qa0, qa1)) xb).bind fun t100 => (cond (!t100) (some (true)) ((fn_dense_Set_Has (some (qa0, qa1)) xb).bind fun t115 => some (t115))).bind fun t111 => cond (t111) (some ((false, qa1))) ((getI qa1 (IntKind.wrap .i64 (Int.tdiv xb 64))).bind fun x168 => (ge0 (Int.tmod xb 64)).bind fun u175 => (getI qa1 (IntKind.wrap .i64 (Int.tdiv xb 64))).bind fun x177 => (some (qa1.set (IntKind.wrap .i64 (Int.tdiv xb 64)).toNat (IntKind.wrap .u64 ((BitVec.ofInt (IntKind.bits .u64) x168 ||| BitVec.ofInt (IntKind.bits .u64) (IntKind.wrap .u64 (1 * 2 ^ (min (Int.toNat (Int.tmod xb 64)) (IntKind.bits .u64))))).toNat : Int)))).bind fun z184 => some ((true, z184)))
noncomputable def h_dense_Set_Add_p0i_ir : Hn Tryd.prog := .cl ok_dense_Set_mayHave [2, 0] (.gj 3 ⟨[(13, .dat .bool)], []⟩ [] (.two 9 (.nil) (.cl ok_dense_Set_Has [2, 0] (.nil))) (.tw 13 (.nil) (.mix [] [0, 1, 2, 3, 4, 5, 6, 7, 8, 9, 10, 11, 12] [13] [] (.nil))))
noncomputable def sp_dense_Set_Add_p0i_ir : Spec := ⟨11, ⟨[(0, .ptr 0 0), (1, .dat (.int .i64))], [⟨none, 57, [.is 1 (.dat (.int .i64)), .own 58 (.int .u64)], false, false, none, false⟩, ⟨none, 0, [], false, true, none, false⟩]⟩, [⟨[(0, .dat .bool)], [⟨(some 0), 57, [.is 1 (.any), .own 58 (.int .u64)], false, false, none, false⟩, ⟨(some 1), 0, [], false, true, none, false⟩]⟩], fun x => fn_dense_Set_Add_p0i_ir x.1 x.2.1 x.2.2⟩
theorem dense_Set_Add_p0i_ir_is : SpecOk Tryd.prog sp_dense_Set_Add_p0i_ir := fn_is Tryd.func11 h_dense_Set_Add_p0i_ir (by kernel_rfl) (by kernel_rfl)
noncomputable def ok_dense_Set_Add_p0i_ir : OkSpec Tryd.prog := ⟨sp_dense_Set_Add_p0i_ir, dense_Set_Add_p0i_ir_is, Tryd.call11⟩

noncomputable def fn_dense_Set_All_p0_ir (qa0 : Int) (qa1 : (List Int)) : Option (List Int) :=
 some (qa1)
noncomputable def h_dense_Set_All_p0_ir : Hn Tryd.prog := .nil
noncomputable def sp_dense_Set_All_p0_ir : Spec := ⟨30, ⟨[(0, .ptr 0 0)], [⟨none, 57, [.is 1 (.dat (.int .i64)), .own 58 (.int .u64)], false, false, none, false⟩, ⟨none, 0, [], false, true, none, false⟩]⟩, [⟨[(0, .fn 33 [.ptr 1 0])], [⟨(some 0), 57, [.is 2 (.any), .own 58 (.int .u64)], false, false, none, false⟩, ⟨none, 28, [.ptr 0 0], false, false, none, false⟩, ⟨(some 1), 0, [], false, true, none, false⟩]⟩], fun x => fn_dense_Set_All_p0_ir x.1 x.2⟩
theorem dense_Set_All_p0_ir_is : SpecOk Tryd.prog sp_dense_Set_All_p0_ir := fn_is Tryd.func30 h_dense_Set_All_p0_ir (by kernel_rfl) (by kernel_rfl)
noncomputable def ok_dense_Set_All_p0_ir : OkSpec Tryd.prog := ⟨sp_dense_Set_All_p0_ir, dense_Set_All_p0_ir_is, Tryd.call30⟩
noncomputable def fn_dense_Set_Next_l1 (y175 : (Int × (List Int))) : (Int × Int) → Option ((Int × Int) ⊕ ((Int × Int) ⊕ Int)) := fun ((i285, i286) : (Int × Int)) => cond (decide (i286 = 0)) (cond (decide ((IntKind.wrap .i64 (i285 + 1)) = (((y175.2.length : Nat) : Int)))) (some (.inr ((.inr ((-1)))))) ((getI y175.2 (IntKind.wrap .i64 (i285 + 1))).bind fun x319 => some (.inl ((IntKind.wrap .i64 (i285 + 1), x319))))) (some (.inr ((.inl (i285, i286)))))
noncomputable def fn_dense_Set_Next (xa : (Option (Int × (List Int)))) (xb : Int) : Option Int :=
 (fn_dense_Set_mayHave xa (if xb < 0 then 0 else xb)).bind fun t170 => cond (!t170) (some ((-1))) ((xa : Option (Int × (List Int))).bind fun y175 => (getI y175.2 (IntKind.wrap .i64 (Int.tdiv (if xb < 0 then 0 else xb) 64))).bind fun x185 => (ge0 (Int.tmod (if xb < 0 then 0 else xb) 64)).bind fun u194 => (ge0 (Int.tmod (if xb < 0 then 0 else xb) 64)).bind fun u196 => (loop (fn_dense_Set_Next_l1 y175) ((IntKind.wrap .i64 (Int.tdiv (if xb < 0 then 0 else xb) 64), IntKind.wrap .u64 ((Int.fdiv x185 (2 ^ (min (Int.toNat (Int.tmod (if xb < 0 then 0 else xb) 64)) (IntKind.bits .u64)))) * 2 ^ (min (Int.toNat (Int.tmod (if xb < 0 then 0 else xb) 64)) (IntKind.bits .u64))))) : Option ((Int × Int) ⊕ Int)).bind fun o => match o with | .inr r => some r | .inl (i262, i263) => (tzF i263).bind fun i330 => some (IntKind.wrap .i64 ((IntKind.wrap .i64 (i262 * 64)) + i330)))
noncomputable def h_dense_Set_Next : Hn Tryd.prog := .ms 0 (.cl ok_dense_Set_mayHave [] (.tw 12 (.nil) (.jx [] ⟨[(5, .dat (.int .i64)), (6, .dat (.int .u64))], []⟩ [] (.lp ⟨[(5, .dat (.int .i64)), (6, .dat (.int .u64))], []⟩ (.tw 29 (.tw 38 (.nil) (.nil)) (.nil))) (.cl ok_TZ [] (.nil)))))
noncomputable def sp_dense_Set_Next : Spec := ⟨34, ⟨[(0, .dat (.ptr (.cons (.int .i64) (.one (.sl (.int .u64)))))), (1, .dat (.int .i64))], []⟩, [⟨[(0, .dat (.int .i64))], []⟩], fun x => fn_dense_Set_Next x.1 x.2⟩
theorem dense_Set_Next_is : SpecOk Tryd.prog sp_dense_Set_Next := fn_is Tryd.func34 h_dense_Set_Next (by kernel_rfl) (by kernel_rfl)
noncomputable def ok_dense_Set_Next : OkSpec Tryd.prog := ⟨sp_dense_Set_Next, dense_Set_Next_is, Tryd.call34⟩

noncomputable def fn_dense_Set_Del_p0i_ir (xb : Int) (qa0 : Int) (qa1 : (List Int)) : Option ((Bool × (List Int))) :=
 (fn_dense_Set_Has (some (qa0, qa1)) xb).bind fun t85 => cond (!t85) (some ((false, qa1))) ((getI qa1 (IntKind.wrap .i64 (Int.tdiv xb 64))).bind fun x138 => (ge0 (Int.tmod xb 64)).bind fun u145 => (getI qa1 (IntKind.wrap .i64 (Int.tdiv xb 64))).bind fun x147 => (some (qa1.set (IntKind.wrap .i64 (Int.tdiv xb 64)).toNat (IntKind.wrap .u64 ((BitVec.ofInt (IntKind.bits .u64) x138 &&& ~~~BitVec.ofInt (IntKind.bits .u64) (IntKind.wrap .u64 (1 * 2 ^ (min (Int.toNat (Int.tmod xb 64)) (IntKind.bits .u64))))).toNat : Int)))).bind fun z154 => some ((true, z154)))
noncomputable def h_dense_Set_Del_p0i_ir : Hn Tryd.prog := .cl ok_dense_Set_Has [2, 0] (.tw 8 (.nil) (.mix [] [0, 1, 2, 3, 4, 5, 6, 7, 8, 9, 10, 11, 12] [13] [] (.nil)))
noncomputable def sp_dense_Set_Del_p0i_ir : Spec := ⟨31, ⟨[(0, .ptr 0 0), (1, .dat (.int .i64))], [⟨none, 57, [.is 1 (.dat (.int .i64)), .own 58 (.int .u64)], false, false, none, false⟩, ⟨none, 0, [], false, true, none, false⟩]⟩, [⟨[(0, .dat .bool)], [⟨(some 0), 57, [.is 1 (.any), .own 58 (.int .u64)], false, false, none, false⟩, ⟨(some 1), 0, [], false, true, none, false⟩]⟩], fun x => fn_dense_Set_Del_p0i_ir x.1 x.2.1 x.2.2⟩
theorem dense_Set_Del_p0i_ir_is : SpecOk Tryd.prog sp_dense_Set_Del_p0i_ir := fn_is Tryd.func31 h_dense_Set_Del_p0i_ir (by kernel_rfl) (by kernel_rfl)
noncomputable def ok_dense_Set_Del_p0i_ir : OkSpec Tryd.prog := ⟨sp_dense_Set_Del_p0i_ir, dense_Set_Del_p0i_ir_is, Tryd.call31⟩

noncomputable def fn_pool_Pool_dense_Set_Put_p0p1_od_ir (qa0 : (Option (Int × (List (Option (Int × (List Int))))))) (qb0 : Int) (qb1 : (List Int)) : Option (((Option (Int × (List (Option (Int × (List Int)))))) ⊕ ((Option (Int × (List (Option (Int × (List Int)))))) × (List Int)))) :=
 (qa0 : (Option (Int × (List (Option (Int × (List Int))))))).bind fun y11 => bif decide (((y11.2.length : Nat) : Int) < y11.1) then some (.inl ((some (y11.1, y11.2 ++ [some (qb0, qb1)]) : (Option (Int × (List (Option (Int × (List Int))))))))) else some (.inr (qa0, qb1))
noncomputable def h_pool_Pool_dense_Set_Put_p0p1_od_ir : Hn Tryd.prog := .pl (.nil)
noncomputable def sp_pool_Pool_dense_Set_Put_p0p1_od_ir : Spec := ⟨32, ⟨[(0, .ptr 0 0), (1, .ptr 1 0)], [⟨none, 68, [.od (.chn (.box 57 (.cons (.dat (.int .i64)) (.one (.row 58 (.dat (.int .u64)))))))], false, false, none, false⟩, ⟨none, 57, [.is 2 (.dat (.int .i64)), .own 58 (.int .u64)], false, false, none, false⟩, ⟨none, 0, [], false, true, none, false⟩]⟩, [⟨[(0, .lit (.bool true))], [⟨(some 0), 68, [.od (.chn (.box 57 (.cons (.dat (.int .i64)) (.one (.row 58 (.dat (.int .u64)))))))], false, false, none, false⟩]⟩, ⟨[(0, .lit (.bool false))], [⟨(some 0), 68, [.od (.chn (.box 57 (.cons (.dat (.int .i64)) (.one (.row 58 (.dat (.int .u64)))))))], false, false, none, false⟩, ⟨(some 1), 57, [.is 2 (.any), .own 58 (.int .u64)], false, false, none, false⟩, ⟨(some 2), 0, [], false, true, none, false⟩]⟩], fun x => fn_pool_Pool_dense_Set_Put_p0p1_od_ir x.1 x.2.1 x.2.2⟩
theorem pool_Pool_dense_Set_Put_p0p1_od_ir_is : SpecOk Tryd.prog sp_pool_Pool_dense_Set_Put_p0p1_od_ir := put_set_is
noncomputable def ok_pool_Pool_dense_Set_Put_p0p1_od_ir : OkSpec Tryd.prog := ⟨sp_pool_Pool_dense_Set_Put_p0p1_od_ir, pool_Pool_dense_Set_Put_p0p1_od_ir_is, Tryd.call32⟩
noncomputable def fn_pool_Sets_Give_p0p1_iiod_ir_l1 (qb0 : Int) : (Int × (List Int)) → Option ((Int × (List Int)) ⊕ (List Int)) := fun ((i637, l638) : (Int × (List Int))) => cond (decide (0 ≤ i637)) ((fn_dense_Set_Del_p0i_ir i637 qb0 l638).bind fun (t702, l703) => (fn_dense_Set_Next (some (qb0, l703)) (IntKind.wrap .i64 (i637 + 1))).bind fun i720 => some (.inl (i720, l703))) (some (.inr (l638)))
noncomputable def fn_pool_Sets_Give_p0p1_iiod_ir (qa0 : Int) (qa1 : Int) (qa2 : (Option (Option (Int × (List (Option (Int × (List Int)))))))) (qb0 : Int) (qb1 : (List Int)) : Option ((((Option (Option (Int × (List (Option (Int × (List Int))))))) × (List Int)) ⊕ (Option (Option (Int × (List (Option (Int × (List Int))))))))) :=
 (fn_dense_Set_Size (some (qb0, qb1))).bind fun i417 => cond (!decide (i417 = qa0)) (some (.inl (qa2, qb1))) ((fn_dense_Set_All_p0_ir qb0 qb1).bind fun l436 => (fn_dense_Set_Next (some (qb0, l436)) 0).bind fun i455 => (loop (fn_pool_Sets_Give_p0p1_iiod_ir_l1 qb0) (i455, l436) : Option (List Int)).bind fun l589 => (qa2).bind fun y746 => (fn_pool_Pool_dense_Set_Put_p0p1_od_ir y746 qb0 l589).bind fun o => match o with | .inl l751 => some (.inr (some l751)) | .inr (l757, l758) => some (.inl (some l757, l758)))
noncomputable def h_pool_Sets_Give_p0p1_iiod_ir : Hn Tryd.prog := .mix [([0, 1, 2, 3, 4, 5, 6, 7, 9, 10, 11, 12], 8)] [13, 14] [] [] (.cl ok_dense_Set_Size [8, 1] (.tw 20 (.nil) (.cl ok_dense_Set_All_p0_ir [] (.rg ⟨33, _, Tryd.func33, Tryd.call33⟩ (.cl ok_dense_Set_Next [17, 1] (.jn [] ⟨[], [⟨(some 1), 57, [.is 2 (.any), .own 58 (.int .u64)], false, false, none, false⟩, ⟨(some 21), 0, [], false, false, none, true⟩, ⟨(some 4), 0, [], false, true, none, false⟩]⟩ [21, 17, 1] (.lp ⟨[(3, .dat (.int .i64))], [⟨(some 1), 57, [.is 2 (.any), .own 58 (.int .u64)], false, false, none, false⟩, ⟨(some 21), 0, [], false, false, none, true⟩, ⟨(some 4), 0, [], false, true, none, false⟩]⟩ (.tw 7 (.yl 2 (.cl ok_dense_Set_Del_p0i_ir [] (.cl ok_dense_Set_Next [28, 1] (.nil)))) (.nil))) (.mix [] [0, 1, 2, 3, 4] [5, 6] [] (.wt 31 (.opb 5 6 (.c2 ok_pool_Pool_dense_Set_Put_p0p1_od_ir [] (.pl (.nil)) (.nil)))))))))))
noncomputable def sp_pool_Sets_Give_p0p1_iiod_ir : Spec := ⟨12, ⟨[(0, .ptr 0 0), (1, .ptr 1 0)], [⟨none, 46, [.is 2 (.dat (.int .i64)), .is 3 (.dat (.int .i64)), .od (.box 68 (.one (.chn (.box 57 (.cons (.dat (.int .i64)) (.one (.row 58 (.dat (.int .u64)))))))))], false, false, none, false⟩, ⟨none, 57, [.is 4 (.dat (.int .i64)), .own 58 (.int .u64)], false, false, none, false⟩, ⟨none, 0, [], false, true, none, false⟩, ⟨none, 0, [], false, true, none, false⟩, ⟨none, 0, [], false, true, none, false⟩]⟩, [⟨[(0, .lit (.bool false))], [⟨(some 0), 46, [.is 2 (.any), .is 3 (.any), .od (.box 68 (.one (.chn (.box 57 (.cons (.dat (.int .i64)) (.one (.row 58 (.dat (.int .u64)))))))))], false, false, none, false⟩, ⟨(some 1), 57, [.is 4 (.any), .own 58 (.int .u64)], false, false, none, false⟩, ⟨(some 2), 0, [], false, true, none, false⟩, ⟨(some 3), 0, [], false, true, none, false⟩, ⟨(some 4), 0, [], false, true, none, false⟩]⟩, ⟨[(0, .lit (.bool true))], [⟨(some 0), 46, [.is 1 (.any), .is 2 (.any), .od (.box 68 (.one (.chn (.box 57 (.cons (.dat (.int .i64)) (.one (.row 58 (.dat (.int .u64)))))))))], false, false, none, false⟩, ⟨(some 2), 0, [], false, true, none, false⟩, ⟨(some 3), 0, [], false, true, none, false⟩]⟩], fun x => fn_pool_Sets_Give_p0p1_iiod_ir x.1 x.2.1 x.2.2.1 x.2.2.2.1 x.2.2.2.2⟩
theorem pool_Sets_Give_p0p1_iiod_ir_is : SpecOk Tryd.prog sp_pool_Sets_Give_p0p1_iiod_ir := fn_is Tryd.func12 h_pool_Sets_Give_p0p1_iiod_ir (by kernel_rfl) (by kernel_rfl)
noncomputable def ok_pool_Sets_Give_p0p1_iiod_ir : OkSpec Tryd.prog := ⟨sp_pool_Sets_Give_p0p1_iiod_ir, pool_Sets_Give_p0p1_iiod_ir_is, Tryd.call12⟩

noncomputable def fn_pool_Sets_Take_z  : Option Unit :=
 some (())
noncomputable def h_pool_Sets_Take_z : Hn Tryd.prog := .nil
noncomputable def sp_pool_Sets_Take_z : Spec := ⟨7, ⟨[(0, .nilp)], []⟩, [⟨[(0, .nilp)], []⟩], fun x => fn_pool_Sets_Take_z⟩
theorem pool_Sets_Take_z_is : SpecOk Tryd.prog sp_pool_Sets_Take_z := fn_is Tryd.func7 h_pool_Sets_Take_z (by kernel_rfl) (by kernel_rfl)
noncomputable def ok_pool_Sets_Take_z : OkSpec Tryd.prog := ⟨sp_pool_Sets_Take_z, pool_Sets_Take_z_is, Tryd.call7⟩

noncomputable def fn_dense_Set_Add_zi (xb : Int) : Option Bool :=
 (fn_dense_Set_mayHave ((none : (Option (Int × (List Int))))) xb).bind fun t26 => (cond (!t26) (some (true)) ((fn_dense_Set_Has ((none : (Option (Int × (List Int))))) xb).bind fun t41 => some (t41))).bind fun t37 => cond (t37) (some (false)) (none)
noncomputable def h_dense_Set_Add_zi : Hn Tryd.prog := .cl ok_dense_Set_mayHave [] (.gj 3 ⟨[(13, .dat .bool)], []⟩ [] (.two 9 (.nil) (.cl ok_dense_Set_Has [] (.nil))) (.tw 13 (.nil) (.mix [] [0, 1, 2, 3, 4, 5, 6, 7, 8, 9, 10, 11, 12] [13] [] (.nil))))
noncomputable def sp_dense_Set_Add_zi : Spec := ⟨11, ⟨[(0, .nilp), (1, .dat (.int .i64))], []⟩, [⟨[(0, .dat .bool)], []⟩], fun x => fn_dense_Set_Add_zi x⟩
theorem dense_Set_Add_zi_is : SpecOk Tryd.prog sp_dense_Set_Add_zi := fn_is Tryd.func11 h_dense_Set_Add_zi (by kernel_rfl) (by kernel_rfl)
noncomputable def ok_dense_Set_Add_zi : OkSpec Tryd.prog := ⟨sp_dense_Set_Add_zi, dense_Set_Add_zi_is, Tryd.call11⟩

noncomputable def fn_pool_Sets_Give_p0z_iiod (qa0 : Int) (qa1 : Int) (qa2 : (Option (Option (Int × (List (Option (Int × (List Int)))))))) : Option ((Option (Option (Int × (List (Option (Int × (List Int)))))))) :=
 some (qa2)
noncomputable def h_pool_Sets_Give_p0z_iiod : Hn Tryd.prog := .mix [([0, 1, 2, 3, 4, 5, 6, 7, 9, 10, 11, 12], 8)] [13, 14] [] [] (.nil)
noncomputable def sp_pool_Sets_Give_p0z_iiod : Spec := ⟨12, ⟨[(0, .ptr 0 0), (1, .nilp)], [⟨none, 46, [.is 1 (.dat (.int .i64)), .is 2 (.dat (.int .i64)), .od (.box 68 (.one (.chn (.box 57 (.cons (.dat (.int .i64)) (.one (.row 58 (.dat (.int .u64)))))))))], false, false, none, false⟩, ⟨none, 0, [], false, true, none, false⟩, ⟨none, 0, [], false, true, none, false⟩]⟩, [⟨[(0, .lit (.bool false))], [⟨(some 0), 46, [.is 1 (.any), .is 2 (.any), .od (.box 68 (.one (.chn (.box 57 (.cons (.dat (.int .i64)) (.one (.row 58 (.dat (.int .u64)))))))))], false, false, none, false⟩, ⟨(some 1), 0, [], false, true, none, false⟩, ⟨(some 2), 0, [], false, true, none, false⟩]⟩], fun x => fn_pool_Sets_Give_p0z_iiod x.1 x.2.1 x.2.2⟩
theorem pool_Sets_Give_p0z_iiod_is : SpecOk Tryd.prog sp_pool_Sets_Give_p0z_iiod := fn_is Tryd.func12 h_pool_Sets_Give_p0z_iiod (by kernel_rfl) (by kernel_rfl)
noncomputable def ok_pool_Sets_Give_p0z_iiod : OkSpec Tryd.prog := ⟨sp_pool_Sets_Give_p0z_iiod, pool_Sets_Give_p0z_iiod_is, Tryd.call12⟩
noncomputable def fn_law39_PoolSets_l1 (xa : Int) (xb : Int) (xc : (List Int)) (i4603 : Int) : (Int × Int × Int × Int × (Option (Option (Int × (List (Option (Int × (List Int)))))))) → Option ((Int × Int × Int × Int × (Option (Option (Int × (List (Option (Int × (List Int)))))))) ⊕ (Unit ⊕ Bool)) := fun ((i7488, i7489, i7490, i7491, l7492) : (Int × Int × Int × Int × (Option (Option (Int × (List (Option (Int × (List Int))))))))) => cond (decide (i7490 < (((xc.length : Nat) : Int)))) ((fn_pool_Sets_Take_p0_iiod i4603 i7491 l7492).bind fun (l8227, i8228, l8229) => (cond (decide (0 < i7488)) (some ((IntKind.wrap .i64 (i7488 - 1), i7489))) (some ((i7488, IntKind.wrap .i64 (i7489 + 1)))) : Option (Int × Int)).bind fun (i8236, i8237) => (cond (l8227.isNone) (some (true)) ((fn_dense_Set_Size l8227).bind fun i8298 => some (!decide (i8298 = xa)))).bind fun t8294 => (cond (t8294) (some (true)) ((fn_dense_Set_Count l8227).bind fun i8313 => some (!decide (i8313 = 0)))).bind fun t8309 => cond (t8309) (some (.inr ((.inr (false))))) ((fn_pool_Sets_Made_p0_iiod i4603 i8228 l8229).bind fun (i8329, l8330) => cond (!decide (i8329 = i8237)) (some (.inr ((.inr (false))))) ((getI xc i7490).bind fun x8362 => (l8227).bind fun y8371 => (fn_dense_Set_Add_p0i_ir x8362 y8371.1 y8371.2).bind fun (t8378, l8379) => (fn_dense_Set_Add_p0i_ir 0 y8371.1 l8379).bind fun (t8402, l8403) => (getI xc i7490).bind fun x8421 => cond (decide ((IntKind.wrap .i64 ((BitVec.ofInt (IntKind.bits .i64) x8421 &&& BitVec.ofInt (IntKind.bits .i64) 1).toNat : Int)) = 0)) ((fn_pool_Sets_Give_p0p1_iiod_ir i4603 i8228 l8330 y8371.1 l8403).bind fun o => match o with | .inl (l8452, l8453) => (cond (!(false == (decide (i8236 < xb)))) (some (.inr ((.inr (false))))) ((fn_pool_NewSets xa xb).bind fun o => match o with | .inl i8480 => (fn_pool_Sets_Take_z).bind fun _ => (fn_dense_Set_Add_zi 0).bind fun t8502 => (fn_pool_Sets_Give_p0z_iiod i4603 i8228 l8452).bind fun l8515 => (cond (!(false == (decide ((IntKind.wrap .i64 (i8236 + 1)) < xb)))) (some (true)) ((fn_dense_Set_Count ((none : (Option (Int × (List Int)))))).bind fun i8546 => some (!decide (i8546 = 0)))).bind fun t8542 => cond (t8542) (some (.inr ((.inr (false))))) (cond (decide ((IntKind.wrap .i64 (i8236 + 1)) < xb)) (some (.inl ((IntKind.wrap .i64 ((IntKind.wrap .i64 (i8236 + 1)) + 1), i8237, IntKind.wrap .i64 (i7490 + 1), i8228, l8515)))) (some (.inl ((IntKind.wrap .i64 (i8236 + 1), i8237, IntKind.wrap .i64 (i7490 + 1), i8228, l8515))))) | .inr (i8552, i8553, l8554) => (fn_pool_Sets_Take_p0_iiod i8553 0 l8554).bind fun (l8572, i8573, l8574) => (l8572).bind fun y8597 => (fn_dense_Set_Add_p0i_ir 0 y8597.1 y8597.2).bind fun (t8604, l8605) => (fn_pool_Sets_Give_p0p1_iiod_ir i4603 i8228 l8452 y8597.1 l8605).bind fun o => match o with | .inl (l8635, l8636) => (cond (!(false == (decide ((IntKind.wrap .i64 (i8236 + 1)) < xb)))) (some (true)) ((fn_dense_Set_Count (some (y8597.1, l8636))).bind fun i8672 => some (!decide (i8672 = 0)))).bind fun t8668 => cond (t8668) (some (.inr ((.inr (false))))) (cond (decide ((IntKind.wrap .i64 (i8236 + 1)) < xb)) (some (.inl ((IntKind.wrap .i64 ((IntKind.wrap .i64 (i8236 + 1)) + 1), i8237, IntKind.wrap .i64 (i7490 + 1), i8228, l8635)))) (some (.inl ((IntKind.wrap .i64 (i8236 + 1), i8237, IntKind.wrap .i64 (i7490 + 1), i8228, l8635))))) | .inr l8678 => (cond (!(true == (decide ((IntKind.wrap .i64 (i8236 + 1)) < xb)))) (some (true)) (some (false))).bind fun t8688 => cond (t8688) (some (.inr ((.inr (false))))) (cond (decide ((IntKind.wrap .i64 (i8236 + 1)) < xb)) (some (.inl ((IntKind.wrap .i64 ((IntKind.wrap .i64 (i8236 + 1)) + 1), i8237, IntKind.wrap .i64 (i7490 + 1), i8228, l8678)))) (some (.inl ((IntKind.wrap .i64 (i8236 + 1), i8237, IntKind.wrap .i64 (i7490 + 1), i8228, l8678))))))) | .inr l8692 => cond (!(true == (decide (i8236 < xb)))) (some (.inr ((.inr (false))))) ((fn_pool_NewSets xa xb).bind fun o => match o with | .inl i8715 => (fn_pool_Sets_Take_z).bind fun _ => (fn_dense_Set_Add_zi 0).bind fun t8737 => (fn_pool_Sets_Give_p0z_iiod i4603 i8228 l8692).bind fun l8750 => (cond (!(false == (decide ((IntKind.wrap .i64 (i8236 + 1)) < xb)))) (some (true)) ((fn_dense_Set_Count ((none : (Option (Int × (List Int)))))).bind fun i8781 => some (!decide (i8781 = 0)))).bind fun t8777 => cond (t8777) (some (.inr ((.inr (false))))) (cond (decide ((IntKind.wrap .i64 (i8236 + 1)) < xb)) (some (.inl ((IntKind.wrap .i64 ((IntKind.wrap .i64 (i8236 + 1)) + 1), i8237, IntKind.wrap .i64 (i7490 + 1), i8228, l8750)))) (some (.inl ((IntKind.wrap .i64 (i8236 + 1), i8237, IntKind.wrap .i64 (i7490 + 1), i8228, l8750))))) | .inr (i8787, i8788, l8789) => (fn_pool_Sets_Take_p0_iiod i8788 0 l8789).bind fun (l8807, i8808, l8809) => (l8807).bind fun y8832 => (fn_dense_Set_Add_p0i_ir 0 y8832.1 y8832.2).bind fun (t8839, l8840) => (fn_pool_Sets_Give_p0p1_iiod_ir i4603 i8228 l8692 y8832.1 l8840).bind fun o => match o with | .inl (l8870, l8871) => (cond (!(false == (decide ((IntKind.wrap .i64 (i8236 + 1)) < xb)))) (some (true)) ((fn_dense_Set_Count (some (y8832.1, l8871))).bind fun i8907 => some (!decide (i8907 = 0)))).bind fun t8903 => cond (t8903) (some (.inr ((.inr (false))))) (cond (decide ((IntKind.wrap .i64 (i8236 + 1)) < xb)) (some (.inl ((IntKind.wrap .i64 ((IntKind.wrap .i64 (i8236 + 1)) + 1), i8237, IntKind.wrap .i64 (i7490 + 1), i8228, l8870)))) (some (.inl ((IntKind.wrap .i64 (i8236 + 1), i8237, IntKind.wrap .i64 (i7490 + 1), i8228, l8870))))) | .inr l8913 => (cond (!(true == (decide ((IntKind.wrap .i64 (i8236 + 1)) < xb)))) (some (true)) (some (false))).bind fun t8923 => cond (t8923) (some (.inr ((.inr (false))))) (cond (decide ((IntKind.wrap .i64 (i8236 + 1)) < xb)) (some (.inl ((IntKind.wrap .i64 ((IntKind.wrap .i64 (i8236 + 1)) + 1), i8237, IntKind.wrap .i64 (i7490 + 1), i8228, l8913)))) (some (.inl ((IntKind.wrap .i64 (i8236 + 1), i8237, IntKind.wrap .i64 (i7490 + 1), i8228, l8913))))))) (some (.inl ((i8236, i8237, IntKind.wrap .i64 (i7490 + 1), i8228, l8330))))))) (some (.inr ((.inl ()))))
noncomputable def fn_law39_PoolSets (xa : Int) (xb : Int) (xc : (List Int)) : Option Bool :=
 cond (((((decide (xa < 0)) || (decide (200 < xa))) || (decide (xb < 1))) || (decide (20 < xb))) || (decide (40 < (((xc.length : Nat) : Int))))) ((fn_pool_NewSets (-1) 0).bind fun o => match o with | .inl i4479 => ((fn_pool_NewSets 0 0).bind fun o => match o with | .inl i4485 => (cond ((bif decide (i4479 = 2) then true else false) && (decide (i4485 = 2))) ((fn_law39_awake).bind fun t4506 => some (t4506)) (some (false))).bind fun t4502 => some (t4502) | .inr (i4510, i4511, l4512) => (cond (((decide (i4479 = 2)) && false) && (decide (i4510 = 2))) ((fn_law39_awake).bind fun t4556 => some (t4556)) (some (false))).bind fun t4552 => some (t4552)) | .inr (i4560, i4561, l4562) => (fn_pool_NewSets 0 0).bind fun o => match o with | .inl i4584 => some (false) | .inr (i4588, i4589, l4590) => some (false)) ((fn_pool_NewSets xa xb).bind fun o => match o with | .inl i4598 => some (false) | .inr (i4602, i4603, l4604) => cond (!decide (i4602 = 0)) (some (false)) ((loop (fn_law39_PoolSets_l1 xa xb xc i4603) (0, 0, 0, 0, l4604) : Option (Unit ⊕ Bool)).bind fun o => match o with | .inr r => some r | .inl () => (fn_law39_awake).bind fun t8929 => some (t8929)))
noncomputable def h_law39_PoolSets : Hn Tryd.prog := .gp 2 (.wt 27 (.gp 2 (.wt 31 (.gp 2 (.wt 35 (.gp 3 (.tw 39 (.c2 ok_pool_NewSets [] (.c2 ok_pool_NewSets [] (.wt 54 (.gp 2 (.wt 58 (.gp 2 (.wt 62 (.gj 1 ⟨[(64, .dat .bool)], []⟩ [] (.two 62 (.cl ok_law39_awake [] (.nil)) (.nil)) (.nil))))))) (.wt 54 (.gp 2 (.wt 58 (.gp 2 (.wt 62 (.gj 1 ⟨[(64, .dat .bool)], []⟩ [] (.two 62 (.cl ok_law39_awake [] (.nil)) (.nil)) (.nil)))))))) (.c2 ok_pool_NewSets [] (.nil) (.nil))) (.c2 ok_pool_NewSets [] (.nil) (.tw 76 (.nil) (.jx [] ⟨[], []⟩ [0, 1] (.mc 0 0 3 (.lp ⟨[(13, .dat (.int .i64)), (14, .dat (.int .i64)), (15, .dat (.int .i64))], [⟨(some 0), 46, [.is 1 (.any), .dat (.int .i64), .od (.box 68 (.one (.chn (.box 57 (.cons (.dat (.int .i64)) (.one (.row 58 (.dat (.int .u64)))))))))], false, false, none, false⟩, ⟨(some 4), 0, [], false, true, none, false⟩]⟩ (.tw 80 (.cl ok_pool_Sets_Take_p0_iiod [] (.sq [] ⟨[(13, .dat (.int .i64)), (14, .dat (.int .i64))], []⟩ [] (.tw 86 (.nil) (.nil)) (.wt 93 (.gj 4 ⟨[(98, .dat .bool)], []⟩ [] (.two 93 (.nil) (.cl ok_dense_Set_Size [11] (.nil))) (.wt 99 (.gj 3 ⟨[(103, .dat .bool)], []⟩ [] (.two 99 (.nil) (.cl ok_dense_Set_Count [11] (.nil))) (.two 104 (.nil) (.mc 0 1 15 (.cl ok_pool_Sets_Made_p0_iiod [] (.tw 109 (.nil) (.wt 114 (.opb 11 12 (.wt 1000026 (.mc 11 0 23 (.cl ok_dense_Set_Add_p0i_ir [] (.cl ok_dense_Set_Add_p0i_ir [] (.tw 123 (.c2 ok_pool_Sets_Give_p0p1_iiod_ir [] (.tw 130 (.nil) (.c2 ok_pool_NewSets [] (.cl ok_pool_Sets_Take_z [] (.cl ok_dense_Set_Add_zi [] (.cl ok_pool_Sets_Give_p0z_iiod [] (.gj 7 ⟨[(159, .dat .bool)], []⟩ [] (.two 151 (.nil) (.cl ok_dense_Set_Count [] (.nil))) (.tw 159 (.nil) (.tw 162 (.nil) (.nil))))))) (.mc 51 0 54 (.cl ok_pool_Sets_Take_p0_iiod [] (.wt 141 (.opb 59 60 (.wt 1000067 (.mc 59 0 64 (.cl ok_dense_Set_Add_p0i_ir [] (.c2 ok_pool_Sets_Give_p0p1_iiod_ir [] (.wt 151 (.gj 7 ⟨[(159, .dat .bool)], []⟩ [] (.two 151 (.nil) (.cl ok_dense_Set_Count [83, 59] (.nil))) (.tw 159 (.nil) (.tw 162 (.nil) (.nil))))) (.wt 151 (.gj 7 ⟨[(159, .dat .bool)], []⟩ [] (.two 151 (.nil) (.nil)) (.tw 159 (.nil) (.tw 162 (.nil) (.nil))))))))))))))) (.tw 130 (.nil) (.c2 ok_pool_NewSets [] (.cl ok_pool_Sets_Take_z [] (.cl ok_dense_Set_Add_zi [] (.cl ok_pool_Sets_Give_p0z_iiod [] (.gj 7 ⟨[(159, .dat .bool)], []⟩ [] (.two 151 (.nil) (.cl ok_dense_Set_Count [] (.nil))) (.tw 159 (.nil) (.tw 162 (.nil) (.nil))))))) (.mc 48 0 51 (.cl ok_pool_Sets_Take_p0_iiod [] (.wt 141 (.opb 56 57 (.wt 1000064 (.mc 56 0 61 (.cl ok_dense_Set_Add_p0i_ir [] (.c2 ok_pool_Sets_Give_p0p1_iiod_ir [] (.wt 151 (.gj 7 ⟨[(159, .dat .bool)], []⟩ [] (.two 151 (.nil) (.cl ok_dense_Set_Count [80, 56] (.nil))) (.tw 159 (.nil) (.tw 162 (.nil) (.nil))))) (.wt 151 (.gj 7 ⟨[(159, .dat .bool)], []⟩ [] (.two 151 (.nil) (.nil)) (.tw 159 (.nil) (.tw 162 (.nil) (.nil)))))))))))))))) (.nil)))))))))))))))))) (.nil)))) (.cl ok_law39_awake [] (.nil))))))))))))
noncomputable def sp_law39_PoolSets : Spec := ⟨3, ⟨[(0, .dat (.int .i64)), (1, .dat (.int .i64)), (2, .dat (.sl (.int .i64)))], []⟩, [⟨[(0, .dat .bool)], []⟩], fun x => fn_law39_PoolSets x.1 x.2.1 x.2.2⟩
theorem law39_PoolSets_is : SpecOk Tryd.prog sp_law39_PoolSets := fn_is Tryd.func3 h_law39_PoolSets (by kernel_rfl) (by kernel_rfl)
noncomputable def ok_law39_PoolSets : OkSpec Tryd.prog := ⟨sp_law39_PoolSets, law39_PoolSets_is, Tryd.call3⟩
end
section
section
variable {σ β : Type} {body : σ → Option (σ ⊕ β)}
theorem loop_nat (st : Nat → σ) (n : Nat) {b : β} (h : ∀ k, k < n → body (st k) = some (.inl (st (k + 1)))) (he : body (st n) = some (.inr b)) : loop body (st 0) = some b := by
 have : ∀ m k, k + m = n → loop body (st k) = some b := by
   intro m
   induction m with
   | zero => intro k hk; have : k = n := by omega
             subst this; exact loop_end he
   | succ m ih => intro k hk; rw [loop_next (h k (by omega))]; exact ih (k + 1) (by omega)
 exact this n 0 (by omega)
theorem least (p : Nat → Prop) : ∀ n, (∃ k, k < n ∧ p k ∧ ∀ j, j < k → ¬ p j) ∨ ∀ j, j < n → ¬ p j
 | 0 => .inr (fun j hj => by omega)
 | n + 1 => by
   rcases least p n with ⟨k, h1, h2, h3⟩ | h
   · exact .inl ⟨k, by omega, h2, h3⟩
   · by_cases hp : p n
     · exact .inl ⟨n, by omega, hp, h⟩
     · exact .inr (fun j hj => if e : j = n then e ▸ hp else h j (by omega))
theorem loop_find (p : Nat → Prop) (st : Nat → σ) (n : Nat) (hit : Nat → β) (e : β) (hgo : ∀ k, k < n → ¬ p k → body (st k) = some (.inl (st (k + 1)))) (hhit : ∀ k, k < n → p k → body (st k) = some (.inr (hit k))) (hend : body (st n) = some (.inr e)) :
   (∃ k, k < n ∧ p k ∧ (∀ j, j < k → ¬ p j) ∧ loop body (st 0) = some (hit k)) ∨ ((∀ j, j < n → ¬ p j) ∧ loop body (st 0) = some e) := by
 rcases least p n with ⟨k, h1, h2, h3⟩ | h
 · exact .inl ⟨k, h1, h2, h3, loop_nat st k (fun j hj => hgo j (by omega) (h3 j hj)) (hhit k h1 h2)⟩
 · exact .inr ⟨h, loop_nat st n (fun k hk => hgo k hk (h k hk)) hend⟩
open Classical in
theorem loop_any (p : Nat → Prop) (st : Nat → σ) (n : Nat) (b e : β) (hgo : ∀ k, k < n → ¬ p k → body (st k) = some (.inl (st (k + 1)))) (hhit : ∀ k, k < n → p k → body (st k) = some (.inr b)) (hend : body (st n) = some (.inr e)) :
   loop body (st 0) = some (if ∃ k, k < n ∧ p k then b else e) := by
 rcases loop_find p st n (fun _ => b) e hgo hhit hend with ⟨k, h1, h2, h3, h4⟩ | ⟨h1, h2⟩
 · rw [if_pos ⟨k, h1, h2⟩]; exact h4
 · rw [if_neg (fun ⟨k, h3, h4⟩ => h1 k h3 h4)]; exact h2
end
theorem w64 {x : Int} (h1 : -9223372036854775808 ≤ x) (h2 : x ≤ 9223372036854775807) : IntKind.wrap .i64 x = x := by
 rw [IntWalk.i64_left, IntWalk.wrap64_in _ ⟨h1, h2⟩]
theorem w64s {k n : Nat} (h : k < n) (hn : n ≤ 9223372036854775807) : IntKind.wrap .i64 ((k : Int) + 1) = ((k + 1 : Nat) : Int) := by
 rw [w64 (by omega) (by omega)]; rfl
theorem ne_list {α : Type} {xs ys : List α} (h : xs.length = ys.length) : (∃ k, k < xs.length ∧ xs[k]? ≠ ys[k]?) ↔ xs ≠ ys := by
 constructor
 · rintro ⟨k, _, h2⟩ rfl; exact h2 rfl
 · intro hne
   rcases least (fun k => xs[k]? ≠ ys[k]?) xs.length with ⟨k, h1, h2, _⟩ | h'
   · exact ⟨k, h1, h2⟩
   · exfalso; apply hne
     apply List.ext_getElem? 
     intro k
     by_cases hk : k < xs.length
     · exact Classical.byContradiction (fun hc => h' k hk hc)
     · rw [List.getElem?_eq_none (by omega), List.getElem?_eq_none (by omega)]
theorem getN {α : Type} {l : List α} {k : Nat} (h : k < l.length) : getI l (k : Int) = some l[k] := getI_eq rfl h
theorem any_ex {α : Type} {t : α → Bool} {l : List α} : l.any t = true ↔ ∃ k, k < l.length ∧ (l[k]?.map t) = some true := by
 rw [List.any_eq_true]
 constructor
 · rintro ⟨x, hx, h⟩
   obtain ⟨k, hk, rfl⟩ := List.getElem_of_mem hx
   exact ⟨k, hk, by simp [hk, h]⟩
 · rintro ⟨k, hk, h⟩
   exact ⟨l[k], List.getElem_mem hk, by simpa [hk] using h⟩
theorem loop_one {α β : Type} (xa : List α) (t : α → Bool) (hit e : β) (hn : xa.length ≤ 9223372036854775807) :
   loop (fun (i : Int) => (cond (decide (i < ((xa.length : Nat) : Int))) ((getI xa i).bind fun x => cond (t x) (some (.inr hit)) (some (.inl (IntKind.wrap .i64 (i + 1))))) (some (.inr e)) : Option (Int ⊕ β))) 0 = some (if xa.any t then hit else e) := by
 classical
 have h := loop_any (body := fun (i : Int) => (cond (decide (i < ((xa.length : Nat) : Int))) ((getI xa i).bind fun x => cond (t x) (some (.inr hit)) (some (.inl (IntKind.wrap .i64 (i + 1))))) (some (.inr e)) : Option (Int ⊕ β)))
   (fun k => (xa[k]?.map t) = some true) (fun k : Nat => (k : Int)) xa.length hit e ?_ ?_ ?_
 · refine h.trans ?_
   by_cases hh : xa.any t = true
   · rw [if_pos (any_ex.1 hh), if_pos hh]
   · rw [if_neg (fun h => hh (any_ex.2 h)), if_neg hh]
 · intro k hk hp
   simp [hk] at hp
   simp [hk, getN hk, hp, w64s hk hn]
 · intro k hk hp
   simp [hk] at hp
   simp [hk, getN hk, hp]
 · simp
theorem loop_two {α γ β : Type} (xa : List α) (xb : List γ) (t : α → γ → Bool) (hit e : β) (hl : xa.length = xb.length) (hn : xa.length ≤ 9223372036854775807) :
   loop (fun (i : Int) => (cond (decide (i < ((xa.length : Nat) : Int))) ((getI xa i).bind fun x => (getI xb i).bind fun y => cond (t x y) (some (.inr hit)) (some (.inl (IntKind.wrap .i64 (i + 1))))) (some (.inr e)) : Option (Int ⊕ β))) 0 = some (if (xa.zip xb).any (fun p => t p.1 p.2) then hit else e) := by
 classical
 have hz : (xa.zip xb).length = xa.length := by simp [hl]
 have h := loop_any (body := fun (i : Int) => (cond (decide (i < ((xa.length : Nat) : Int))) ((getI xa i).bind fun x => (getI xb i).bind fun y => cond (t x y) (some (.inr hit)) (some (.inl (IntKind.wrap .i64 (i + 1))))) (some (.inr e)) : Option (Int ⊕ β)))
   (fun k => ((xa.zip xb)[k]?.map fun p => t p.1 p.2) = some true) (fun k : Nat => (k : Int)) xa.length hit e ?_ ?_ ?_
 · refine h.trans ?_
   have ha := any_ex (t := fun p : α × γ => t p.1 p.2) (l := xa.zip xb)
   rw [hz] at ha
   by_cases hh : (xa.zip xb).any (fun p => t p.1 p.2) = true
   · rw [if_pos (ha.1 hh), if_pos hh]
   · rw [if_neg (fun h => hh (ha.2 h)), if_neg hh]
 · intro k hk hp
   have hk2 : k < xb.length := by omega
   have hk3 : k < (xa.zip xb).length := by omega
   have hz3 : (xa.zip xb)[k]? = some (xa[k], xb[k]) := by rw [List.getElem?_eq_getElem hk3, List.getElem_zip]
   rw [hz3] at hp
   simp at hp
   simp [hk, getN hk, getN hk2, hp, w64s hk hn]
 · intro k hk hp
   have hk2 : k < xb.length := by omega
   have hk3 : k < (xa.zip xb).length := by omega
   have hz3 : (xa.zip xb)[k]? = some (xa[k], xb[k]) := by rw [List.getElem?_eq_getElem hk3, List.getElem_zip]
   rw [hz3] at hp
   simp at hp
   simp [hk, getN hk, getN hk2, hp]
 · simp
theorem zip_any_ne {α : Type} [DecidableEq α] {xs ys : List α} (h : xs.length = ys.length) : (xs.zip ys).any (fun p => !decide (p.1 = p.2)) = !decide (xs = ys) := by
 induction xs generalizing ys with
 | nil => cases ys with
   | nil => rfl
   | cons => cases h
 | cons x xs ih => cases ys with
   | nil => cases h
   | cons y ys =>
     simp only [List.zip_cons_cons, List.any_cons, ih (by simpa using h), List.cons.injEq]
     by_cases h1 : x = y <;> simp [h1]
theorem loop_idx {α γ : Type} (xa : List α) (t : α → γ → Bool) (q : γ) (hn : xa.length ≤ 9223372036854775807) :
   ∃ r, loop (fun ((i, c) : Int × γ) => (cond (decide (i < ((xa.length : Nat) : Int))) ((getI xa i).bind fun x => cond (t x c) (some (.inr (.inr (i, c)))) (some (.inl (IntKind.wrap .i64 (i + 1), c)))) (some (.inr (.inl c))) : Option ((Int × γ) ⊕ (γ ⊕ (Int × γ))))) (0, q) = some r ∧ ((r = .inl q ∧ xa.any (t · q) = false) ∨ ∃ k : Nat, r = .inr ((k : Int), q) ∧ xa.any (t · q) = true) := by
 have h := loop_find (body := fun ((i, c) : Int × γ) => (cond (decide (i < ((xa.length : Nat) : Int))) ((getI xa i).bind fun x => cond (t x c) (some (.inr (.inr (i, c)))) (some (.inl (IntKind.wrap .i64 (i + 1), c)))) (some (.inr (.inl c))) : Option ((Int × γ) ⊕ (γ ⊕ (Int × γ)))))
   (fun k => (xa[k]?.map (t · q)) = some true) (fun k : Nat => ((k : Int), q)) xa.length (fun k => .inr ((k : Int), q)) (.inl q) ?_ ?_ ?_
 · rcases h with ⟨k, h1, h2, _, h3⟩ | ⟨h1, h2⟩
   · exact ⟨_, h3, .inr ⟨k, rfl, any_ex.2 ⟨k, h1, h2⟩⟩⟩
   · refine ⟨_, h2, .inl ⟨rfl, ?_⟩⟩
     cases hh : xa.any (t · q) with
     | false => rfl
     | true => obtain ⟨k, h3, h4⟩ := any_ex.1 hh; exact absurd h4 (h1 k h3)
 · intro k hk hp
   simp [hk] at hp
   simp [hk, getN hk, hp, w64s hk hn]
 · intro k hk hp
   simp [hk] at hp
   simp [hk, getN hk, hp]
 · simp
theorem loop_fold {α γ : Type} (xa : List α) (f : γ → α → γ) (c0 : γ) (hn : xa.length ≤ 9223372036854775807) {body : γ × Int → Option ((γ × Int) ⊕ γ)}
   (hb : ∀ k x, xa[k]? = some x → body ((xa.take k).foldl f c0, (k : Int)) = some (.inl (f ((xa.take k).foldl f c0) x, IntKind.wrap .i64 ((k : Int) + 1)))) (he : body (xa.foldl f c0, (xa.length : Int)) = some (.inr (xa.foldl f c0))) : loop body (c0, 0) = some (xa.foldl f c0) := by
 have h := loop_nat (body := body) (fun k : Nat => ((xa.take k).foldl f c0, (k : Int))) xa.length (b := xa.foldl f c0) ?_ ?_
 · simpa using h
 · intro k hk
   rw [hb k xa[k] (by simp [hk]), w64s hk hn]
   congr 3
   rw [List.take_succ_eq_append_getElem hk, List.foldl_append]; rfl
 · simpa using he
theorem foldl_snoc {α γ : Type} (g : α → γ) (xa : List α) (c : List γ) : xa.foldl (fun c x => c ++ [g x]) c = c ++ xa.map g := by
 induction xa generalizing c with
 | nil => simp
 | cons x xa ih => simp [ih]
theorem loop_map {α γ : Type} (xa : List α) (g : α → γ) (c0 : List γ) (hn : c0.length + xa.length ≤ 1073741824) {body : List γ × Int → Option ((List γ × Int) ⊕ List γ)}
   (hb : ∀ (c : List γ) (i : Int), body (c, i) = cond (decide (i < ((xa.length : Nat) : Int))) ((getI xa i).bind fun x => (app c [g x]).bind fun z => some (.inl (z, IntKind.wrap .i64 (i + 1)))) (some (.inr c))) : loop body (c0, 0) = some (c0 ++ xa.map g) := by
 rw [← foldl_snoc]
 refine loop_fold xa (fun c x => c ++ [g x]) c0 (by omega) (fun k x hx => ?_) ?_
 · have hk := (List.getElem?_eq_some_iff.1 hx).1
   rw [hb, foldl_snoc]
   have hx' : xa[k] = x := by rw [List.getElem?_eq_getElem hk] at hx; exact Option.some.inj hx
   have ha := app_eq (a := c0 ++ (xa.take k).map g) (b := [g x]) (by simp; omega)
   simp only [Option.bind_some, getN hk, hx', ha, Int.ofNat_lt.2 hk, decide_true, cond_true]
 · rw [hb]; simp
end
theorem ofInt_nat (x : Nat) : BitVec.ofInt 64 (x : Int) = BitVec.ofNat 64 x := by simp
theorem wrapU (x : Nat) (h : x < 18446744073709551616) : IntKind.wrap .u64 (x : Int) = (x : Int) := by
 rw [IntKind.wrap_u64]
 omega
theorem pow_lt64 {k : Nat} (hk : k < 64) : 2 ^ k < 18446744073709551616 := Nat.pow_lt_pow_right (by decide) hk
theorem one_pow {k : Nat} (hk : k < 64) : IntKind.wrap .u64 (1 * 2 ^ (min k (IntKind.bits .u64))) = ((2 ^ k : Nat) : Int) := by
 have h1 : min k (IntKind.bits .u64) = k := Nat.min_eq_left (Nat.le_of_lt hk)
 rw [h1, Int.one_mul]
 have := wrapU (2 ^ k) (pow_lt64 hk)
 rw [← this]
 congr 1
theorem andU (x y : Nat) (hx : x < 18446744073709551616) (hy : y < 18446744073709551616) : IntKind.wrap .u64 ((BitVec.ofInt (IntKind.bits .u64) (x : Int) &&& BitVec.ofInt (IntKind.bits .u64) (y : Int)).toNat : Int) = ((x &&& y : Nat) : Int) := by
 show IntKind.wrap .u64 ((BitVec.ofInt 64 (x : Int) &&& BitVec.ofInt 64 (y : Int)).toNat : Int) = _
 rw [ofInt_nat, ofInt_nat, BitVec.toNat_and, BitVec.toNat_ofNat, BitVec.toNat_ofNat, Nat.mod_eq_of_lt hx, Nat.mod_eq_of_lt hy]
 exact wrapU _ (Nat.and_lt_two_pow (n := 64) _ hy)
theorem orU (x y : Nat) (hx : x < 18446744073709551616) (hy : y < 18446744073709551616) : IntKind.wrap .u64 ((BitVec.ofInt (IntKind.bits .u64) (x : Int) ||| BitVec.ofInt (IntKind.bits .u64) (y : Int)).toNat : Int) = ((x ||| y : Nat) : Int) := by
 show IntKind.wrap .u64 ((BitVec.ofInt 64 (x : Int) ||| BitVec.ofInt 64 (y : Int)).toNat : Int) = _
 rw [ofInt_nat, ofInt_nat, BitVec.toNat_or, BitVec.toNat_ofNat, BitVec.toNat_ofNat, Nat.mod_eq_of_lt hx, Nat.mod_eq_of_lt hy]
 exact wrapU _ (Nat.or_lt_two_pow (n := 64) hx hy)
theorem and_bit (x k : Nat) : (x &&& 2 ^ k = 0) ↔ x.testBit k = false := by
 constructor
 · intro h
   have := congrArg (fun n => n.testBit k) h
   simpa [Nat.testBit_and, Nat.testBit_two_pow_self] using this
 · intro h
   apply Nat.eq_of_testBit_eq
   intro i
   rw [Nat.testBit_and, Nat.testBit_two_pow, Nat.zero_testBit]
   by_cases hi : k = i
   · subst hi; simp [h]
   · simp [hi]
theorem or_bit (x k i : Nat) : (x ||| 2 ^ k).testBit i = (x.testBit i || decide (k = i)) := by
 rw [Nat.testBit_or, Nat.testBit_two_pow]
def Wd (w : Int) : Prop := 0 ≤ w ∧ w < 18446744073709551616
def mem (l : List Int) (i : Nat) : Bool := match l[i / 64]? with | some w => w.toNat.testBit (i % 64) | none => false
structure Ds (n : Nat) (l : List Int) : Prop where
 hn : n ≤ 1048576
 len : l.length = (n + 63) / 64
 wd : ∀ w ∈ l, Wd w
 top : ∀ i, n ≤ i → mem l i = false
theorem mayHave_some {n : Nat} {l : List Int} (i : Int) : fn_dense_Set_mayHave (some ((n : Int), l)) i = some (decide (0 ≤ i ∧ i < n)) := by
 unfold fn_dense_Set_mayHave
 rw [show fn_dense_Set_Size (some ((n : Int), l)) = some (n : Int) from rfl]
 by_cases h : 0 ≤ i
 · simp [h]
 · simp [h]
theorem Ds.word {n : Nat} {l : List Int} (h : Ds n l) {k : Nat} (hk : k < n) : ∃ x : Nat, l[k / 64]? = some (x : Int) ∧ x < 18446744073709551616 := by
 have hl : k / 64 < l.length := by rw [h.len]; omega
 refine ⟨(l[k / 64]).toNat, ?_, ?_⟩
 · rw [List.getElem?_eq_getElem hl, Int.toNat_of_nonneg (h.wd _ (List.getElem_mem hl)).1]
 · have := h.wd _ (List.getElem_mem hl)
   unfold Wd at this
   omega
theorem mem_of {l : List Int} {k x : Nat} (h : l[k / 64]? = some (x : Int)) : mem l k = x.testBit (k % 64) := by
 unfold mem
 rw [h]
 simp
theorem Has_some {n : Nat} {l : List Int} (h : Ds n l) (i : Int) : fn_dense_Set_Has (some ((n : Int), l)) i = some (decide (0 ≤ i ∧ i < n) && mem l i.toNat) := by
 unfold fn_dense_Set_Has
 rw [mayHave_some]
 by_cases hi : 0 ≤ i ∧ i < n
 · obtain ⟨k, rfl⟩ := Int.eq_ofNat_of_zero_le hi.1
   have hk : k < n := by omega
   have hn := h.hn
   obtain ⟨x, hx, hx2⟩ := h.word hk
   have e1 : IntKind.wrap .i64 (Int.tdiv (k : Int) 64) = ((k / 64 : Nat) : Int) := by
     rw [show Int.tdiv (k : Int) 64 = ((k / 64 : Nat) : Int) from rfl]
     exact w64 (by omega) (by omega)
   have e2 : Int.tmod (k : Int) 64 = ((k % 64 : Nat) : Int) := rfl
   have g : getI l ((k / 64 : Nat) : Int) = some (x : Int) := by
     unfold getI
     rw [if_pos (Int.natCast_nonneg _), Int.toNat_natCast]
     exact hx
   have hd : decide (0 ≤ (k : Int) ∧ (k : Int) < n) = true := by simpa using hk
   rw [hd, e1, e2]
   simp only [Option.bind_some, cond_true, g, ge0_eq (Int.natCast_nonneg _), Int.toNat_natCast, Bool.true_and]
   have E : IntKind.wrap .u64 ((BitVec.ofInt (IntKind.bits .u64) (x : Int) &&& BitVec.ofInt (IntKind.bits .u64) (IntKind.wrap .u64 (1 * 2 ^ (min (k % 64) (IntKind.bits .u64))))).toNat : Int) = ((x &&& 2 ^ (k % 64) : Nat) : Int) := by
     rw [one_pow (Nat.mod_lt k (by decide))]
     exact andU x _ hx2 (pow_lt64 (Nat.mod_lt k (by decide)))
   simp only [E, mem_of hx]
   have hb := and_bit x (k % 64)
   cases ht : x.testBit (k % 64) with
   | false => simp [hb.2 ht]
   | true =>
     have : ¬ (x &&& 2 ^ (k % 64) = 0) := fun e => by rw [hb.1 e] at ht; cases ht
     have h2 : ¬ (((x &&& 2 ^ (k % 64) : Nat) : Int) = 0) := by omega
     rw [decide_eq_false h2]
     rfl
 · rw [decide_eq_false hi]
   rfl
theorem memW_set {l : List Int} {q x y : Nat} (hq : l[q]? = some (x : Int)) (j : Nat) : mem (l.set q (y : Int)) j = if j / 64 = q then y.testBit (j % 64) else mem l j := by
 unfold mem
 rw [List.getElem?_set]
 have hlt : q < l.length := (List.getElem?_eq_some_iff.1 hq).1
 by_cases hj : j / 64 = q
 · rw [if_pos hj.symm, if_pos hj, ← hj] 
   simp [hj, hlt]
 · rw [if_neg (fun e => hj e.symm), if_neg hj]
theorem Add_some {n : Nat} {l : List Int} (h : Ds n l) (i : Int) : ∃ l', fn_dense_Set_Add_p0i_ir i n l = some (decide (0 ≤ i ∧ i < n) && !mem l i.toNat, l') ∧ Ds n l' ∧ ∀ j, mem l' j = (mem l j || decide ((0 ≤ i ∧ i < n) ∧ i.toNat = j)) := by
 unfold fn_dense_Set_Add_p0i_ir
 rw [mayHave_some, Has_some h]
 by_cases hi : 0 ≤ i ∧ i < n
 · rw [decide_eq_true hi]
   cases hm : mem l i.toNat with
   | true => exact ⟨l, rfl, h, fun j => by
       by_cases hj : i.toNat = j
       · subst hj; simp [hm]
       · simp [hj]⟩
   | false =>
     obtain ⟨k, rfl⟩ := Int.eq_ofNat_of_zero_le hi.1
     have hk : k < n := by omega
     have hn := h.hn
     obtain ⟨x, hx, hx2⟩ := h.word hk
     have e1 : IntKind.wrap .i64 (Int.tdiv (k : Int) 64) = ((k / 64 : Nat) : Int) := by
       rw [show Int.tdiv (k : Int) 64 = ((k / 64 : Nat) : Int) from rfl]
       exact w64 (by omega) (by omega)
     have e2 : Int.tmod (k : Int) 64 = ((k % 64 : Nat) : Int) := rfl
     have g : getI l ((k / 64 : Nat) : Int) = some (x : Int) := by
       unfold getI
       rw [if_pos (Int.natCast_nonneg _), Int.toNat_natCast]
       exact hx
     have E : IntKind.wrap .u64 ((BitVec.ofInt (IntKind.bits .u64) (x : Int) ||| BitVec.ofInt (IntKind.bits .u64) (IntKind.wrap .u64 (1 * 2 ^ (min (k % 64) (IntKind.bits .u64))))).toNat : Int) = ((x ||| 2 ^ (k % 64) : Nat) : Int) := by
       rw [one_pow (Nat.mod_lt k (by decide))]
       exact orU x _ hx2 (pow_lt64 (Nat.mod_lt k (by decide)))
     have hlt : k / 64 < l.length := (List.getElem?_eq_some_iff.1 hx).1
     have hmem : ∀ j, mem (l.set (k / 64) ((x ||| 2 ^ (k % 64) : Nat) : Int)) j = (mem l j || decide (((0 : Int) ≤ (k : Int) ∧ (k : Int) < n) ∧ k = j)) := fun j => by
       rw [memW_set hx]
       by_cases hj : j / 64 = k / 64
       · rw [if_pos hj, or_bit, mem_of (by rw [hj]; exact hx)]
         have : (k % 64 = j % 64) ↔ k = j := by omega
         simp [this, hk]
       · rw [if_neg hj]
         have : ¬ k = j := fun e => hj (by rw [e])
         simp [this]
     refine ⟨l.set (k / 64) ((x ||| 2 ^ (k % 64) : Nat) : Int), ?_, ⟨hn, by rw [List.length_set]; exact h.len, fun w hw => ?_, fun j hj => ?_⟩, hmem⟩
     · rw [e1, e2]
       simp only [Option.bind_some, cond_true, cond_false, g, ge0_eq (Int.natCast_nonneg _), Int.toNat_natCast, Bool.true_and, Bool.not_true, Bool.not_false, E]
     · rcases List.mem_or_eq_of_mem_set hw with hw | rfl
       · exact h.wd w hw
       · have := Nat.or_lt_two_pow (n := 64) hx2 (pow_lt64 (Nat.mod_lt k (by decide)))
         unfold Wd
         omega
     · rw [hmem, h.top j hj]
       have : ¬ k = j := by omega
       simp [this]
 · rw [decide_eq_false hi]
   exact ⟨l, rfl, h, fun j => by simp [hi]⟩
theorem from_bit (x r j : Nat) : (x / 2 ^ r * 2 ^ r).testBit j = (decide (r ≤ j) && x.testBit j) := by
 rw [Nat.testBit_mul_two_pow]
 by_cases h : r ≤ j
 · rw [Nat.testBit_div_two_pow, Nat.sub_add_cancel h]
 · simp [h]
theorem from_word (x r : Nat) (hx : x < 18446744073709551616) (hr : r < 64) : IntKind.wrap .u64 ((Int.fdiv (x : Int) (2 ^ (min r (IntKind.bits .u64)))) * 2 ^ (min r (IntKind.bits .u64))) = ((x / 2 ^ r * 2 ^ r : Nat) : Int) := by
 have h1 : min r (IntKind.bits .u64) = r := Nat.min_eq_left (Nat.le_of_lt hr)
 have hp : ((2 : Int) ^ r) = ((2 ^ r : Nat) : Int) := by simp
 have h2 : Int.fdiv (x : Int) ((2 ^ r : Nat) : Int) = ((x / 2 ^ r : Nat) : Int) := by
   rw [Int.fdiv_eq_ediv_of_nonneg _ (Int.natCast_nonneg _)]
   rfl
 rw [h1, hp, h2, ← Int.natCast_mul]
 exact wrapU _ (Nat.lt_of_le_of_lt (Nat.div_mul_le_self x (2 ^ r)) hx)
theorem ctz_bit {x : Nat} (h0 : x ≠ 0) (h : x < 18446744073709551616) : Lib.ctz 64 x < 64 ∧ x.testBit (Lib.ctz 64 x) = true ∧ ∀ j, j < Lib.ctz 64 x → x.testBit j = false := by
 have h' : x < 2 ^ 64 := h
 obtain ⟨m, hm, hk⟩ := Lib.ctzFrom_spec 64 x (by omega) h'
 have e : Lib.ctz 64 x = Lib.ctzFrom 64 x := by simp [Lib.ctz, h0]
 rw [e]
 clear e
 revert hm hk
 generalize Lib.ctzFrom 64 x = c
 intro hm hk
 refine ⟨hk, ?_, fun j hj => ?_⟩
 · rw [hm, Nat.mul_comm, Nat.testBit_mul_two_pow]
   simp
 · rw [hm, Nat.mul_comm, Nat.testBit_mul_two_pow]
   simp [Nat.not_le.2 hj]
theorem andn_bit (x k : Nat) (hx : x < 18446744073709551616) (hk : k < 64) : ∃ y : Nat, IntKind.wrap .u64 ((BitVec.ofInt (IntKind.bits .u64) (x : Int) &&& ~~~BitVec.ofInt (IntKind.bits .u64) (IntKind.wrap .u64 (1 * 2 ^ (min k (IntKind.bits .u64))))).toNat : Int) = (y : Int) ∧ y < 18446744073709551616 ∧ ∀ j, y.testBit j = (x.testBit j && !decide (k = j)) := by
 rw [one_pow hk]
 refine ⟨(BitVec.ofNat 64 x &&& ~~~BitVec.ofNat 64 (2 ^ k)).toNat, ?_, BitVec.isLt _, fun j => ?_⟩
 · show IntKind.wrap .u64 ((BitVec.ofInt 64 (x : Int) &&& ~~~BitVec.ofInt 64 ((2 ^ k : Nat) : Int)).toNat : Int) = _
   rw [ofInt_nat, ofInt_nat]
   exact wrapU _ (BitVec.isLt _)
 · rw [BitVec.testBit_toNat, BitVec.getLsbD_and, BitVec.getLsbD_not, BitVec.getLsbD_ofNat, BitVec.getLsbD_ofNat, Nat.testBit_two_pow]
   by_cases hj : j < 64
   · simp [hj]
   · have : x.testBit j = false := Nat.testBit_lt_two_pow (Nat.lt_of_lt_of_le hx (show 2 ^ 64 ≤ 2 ^ j from Nat.pow_le_pow_right (by decide) (by omega)))
     simp [hj, this]
theorem Del_some {n : Nat} {l : List Int} (h : Ds n l) (i : Int) : ∃ l', fn_dense_Set_Del_p0i_ir i n l = some (decide (0 ≤ i ∧ i < n) && mem l i.toNat, l') ∧ Ds n l' ∧ ∀ j, mem l' j = (mem l j && !decide ((0 ≤ i ∧ i < n) ∧ i.toNat = j)) := by
 unfold fn_dense_Set_Del_p0i_ir
 rw [Has_some h]
 by_cases hi : 0 ≤ i ∧ i < n
 · rw [decide_eq_true hi]
   cases hm : mem l i.toNat with
   | false => exact ⟨l, rfl, h, fun j => by
       by_cases hj : i.toNat = j
       · subst hj; simp [hm]
       · simp [hj]⟩
   | true =>
     obtain ⟨k, rfl⟩ := Int.eq_ofNat_of_zero_le hi.1
     have hk : k < n := by omega
     have hn := h.hn
     obtain ⟨x, hx, hx2⟩ := h.word hk
     have e1 : IntKind.wrap .i64 (Int.tdiv (k : Int) 64) = ((k / 64 : Nat) : Int) := by
       rw [show Int.tdiv (k : Int) 64 = ((k / 64 : Nat) : Int) from rfl]
       exact w64 (by omega) (by omega)
     have e2 : Int.tmod (k : Int) 64 = ((k % 64 : Nat) : Int) := rfl
     have g : getI l ((k / 64 : Nat) : Int) = some (x : Int) := by
       unfold getI
       rw [if_pos (Int.natCast_nonneg _), Int.toNat_natCast]
       exact hx
     obtain ⟨y, E, hy, hb⟩ := andn_bit x (k % 64) hx2 (Nat.mod_lt k (by decide))
     have hmem : ∀ j, mem (l.set (k / 64) (y : Int)) j = (mem l j && !decide (((0 : Int) ≤ (k : Int) ∧ (k : Int) < n) ∧ k = j)) := fun j => by
       rw [memW_set hx]
       by_cases hj : j / 64 = k / 64
       · rw [if_pos hj, hb, mem_of (by rw [hj]; exact hx)]
         have : (k % 64 = j % 64) ↔ k = j := by omega
         simp [this, hk]
       · rw [if_neg hj]
         have : ¬ k = j := fun e => hj (by rw [e])
         simp [this]
     refine ⟨l.set (k / 64) (y : Int), ?_, ⟨hn, by rw [List.length_set]; exact h.len, fun w hw => ?_, fun j hj => ?_⟩, hmem⟩
     · rw [e1, e2]
       simp only [Option.bind_some, cond_true, cond_false, g, ge0_eq (Int.natCast_nonneg _), Int.toNat_natCast, Bool.true_and, Bool.not_true, Bool.not_false, E]
     · rcases List.mem_or_eq_of_mem_set hw with hw | rfl
       · exact h.wd w hw
       · unfold Wd
         omega
     · rw [hmem, h.top j hj]
       rfl
 · rw [decide_eq_false hi]
   exact ⟨l, rfl, h, fun j => by simp [hi]⟩
theorem Next_loop {n : Int} {l : List Int} (hw : ∀ w ∈ l, Wd w) (hlen : l.length ≤ 20000) : ∀ (d a w : Nat), a + 1 + d = l.length → w < 18446744073709551616 →
   ∃ r, loop (fn_dense_Set_Next_l1 (n, l)) ((a : Int), (w : Int)) = some r ∧ ((r = .inr (-1) ∧ w = 0 ∧ ∀ q, a < q → q < l.length → l[q]? = some 0) ∨
     ∃ b v : Nat, r = .inl ((b : Int), (v : Int)) ∧ v ≠ 0 ∧ v < 18446744073709551616 ∧ a ≤ b ∧ b < l.length ∧ ((b = a ∧ v = w) ∨ (a < b ∧ w = 0 ∧ l[b]? = some (v : Int))) ∧ ∀ q, a < q → q < b → l[q]? = some 0) := by
 intro d
 induction d with
 | zero =>
   intro a w ha hx
   by_cases h0 : w = 0
   · subst h0
     refine ⟨.inr (-1), loop_end ?_, .inl ⟨rfl, rfl, fun q h1 h2 => by omega⟩⟩
     have e : IntKind.wrap .i64 ((a : Int) + 1) = ((l.length : Nat) : Int) := by rw [w64 (by omega) (by omega)]; omega
     unfold fn_dense_Set_Next_l1
     simp [e]
   · refine ⟨.inl ((a : Int), (w : Int)), loop_end ?_, .inr ⟨a, w, rfl, h0, hx, Nat.le_refl a, by omega, .inl ⟨rfl, rfl⟩, fun q h1 h2 => by omega⟩⟩
     have h1 : ¬ ((w : Int) = 0) := by omega
     unfold fn_dense_Set_Next_l1
     simp [h1, h0]
 | succ d ih =>
   intro a w ha hx
   by_cases h0 : w = 0
   · subst h0
     have hlt : a + 1 < l.length := by omega
     have hwd := hw _ (List.getElem_mem hlt)
     obtain ⟨x, hxe⟩ : ∃ x : Nat, l[a + 1] = (x : Int) := ⟨l[a + 1].toNat, (Int.toNat_of_nonneg hwd.1).symm⟩
     have hx2 : x < 18446744073709551616 := by have := hwd.2; rw [hxe] at this; omega
     have hq : l[a + 1]? = some (x : Int) := by rw [List.getElem?_eq_getElem hlt, hxe]
     obtain ⟨r, h1, h2⟩ := ih (a + 1) x (by omega) hx2
     have e : IntKind.wrap .i64 ((a : Int) + 1) = ((a + 1 : Nat) : Int) := by rw [w64 (by omega) (by omega)]; rfl
     have hne : ¬ (((a + 1 : Nat) : Int) = ((l.length : Nat) : Int)) := by omega
     have hg : getI l ((a + 1 : Nat) : Int) = some (x : Int) := by
       unfold getI
       rw [if_pos (Int.natCast_nonneg _), Int.toNat_natCast]
       exact hq
     refine ⟨r, (loop_next (s' := (((a + 1 : Nat) : Int), (x : Int))) ?_).trans h1, ?_⟩
     · unfold fn_dense_Set_Next_l1
       simp only [e, hg, Option.bind_some, decide_eq_false hne, cond_false]
       rfl
     · rcases h2 with ⟨h3, h4, h5⟩ | ⟨b, v, h3, h4, h5, h6, h7, h8, h9⟩
       · refine .inl ⟨h3, rfl, fun q g1 g2 => ?_⟩
         by_cases hqa : q = a + 1
         · subst hqa; rw [hq, h4]; rfl
         · exact h5 q (by omega) g2
       · refine .inr ⟨b, v, h3, h4, h5, by omega, h7, .inr ?_, fun q g1 g2 => ?_⟩
         · rcases h8 with ⟨rfl, rfl⟩ | ⟨g1, g2, g3⟩
           · exact ⟨by omega, rfl, hq⟩
           · exact ⟨by omega, rfl, g3⟩
         · by_cases hqa : q = a + 1
           · subst hqa
             rcases h8 with ⟨rfl, rfl⟩ | ⟨k1, k2, k3⟩
             · omega
             · rw [hq, k2]; rfl
           · exact h9 q (by omega) g2
   · refine ⟨.inl ((a : Int), (w : Int)), loop_end ?_, .inr ⟨a, w, rfl, h0, hx, Nat.le_refl a, by omega, .inl ⟨rfl, rfl⟩, fun q h1 h2 => by omega⟩⟩
     have h1 : ¬ ((w : Int) = 0) := by omega
     unfold fn_dense_Set_Next_l1
     simp [h1, h0]
theorem mem_zero {l : List Int} {j : Nat} (h : ∀ w, l[j / 64]? = some w → w = 0) : mem l j = false := by
 unfold mem
 cases hl : l[j / 64]? with
 | none => rfl
 | some w => rw [h w hl]; simp
theorem Next_some {n : Nat} {l : List Int} (h : Ds n l) (i : Int) : ∃ r, fn_dense_Set_Next (some ((n : Int), l)) i = some r ∧ ((r = -1 ∧ ∀ j : Nat, i ≤ (j : Int) → mem l j = false) ∨
   ∃ k : Nat, r = (k : Int) ∧ i ≤ (k : Int) ∧ mem l k = true ∧ ∀ j : Nat, i ≤ (j : Int) → j < k → mem l j = false) := by
 obtain ⟨c, hc⟩ : ∃ c : Nat, (if i < 0 then 0 else i) = (c : Int) := ⟨(if i < 0 then 0 else i).toNat, by split <;> omega⟩
 have hci : ∀ j : Nat, i ≤ (j : Int) ↔ c ≤ j := fun j => by split at hc <;> omega
 have hn := h.hn
 have hl := h.len
 unfold fn_dense_Set_Next
 simp only [hc, mayHave_some, Option.bind_some]
 by_cases hk : c < n
 · have hd : decide (0 ≤ (c : Int) ∧ (c : Int) < n) = true := by simpa using hk
   obtain ⟨x, hx, hx2⟩ := h.word hk
   have e1 : IntKind.wrap .i64 (Int.tdiv (c : Int) 64) = ((c / 64 : Nat) : Int) := by
     rw [show Int.tdiv (c : Int) 64 = ((c / 64 : Nat) : Int) from rfl]
     exact w64 (by omega) (by omega)
   have e2 : Int.tmod (c : Int) 64 = ((c % 64 : Nat) : Int) := rfl
   have g : getI l ((c / 64 : Nat) : Int) = some (x : Int) := by
     unfold getI
     rw [if_pos (Int.natCast_nonneg _), Int.toNat_natCast]
     exact hx
   have hr : c % 64 < 64 := Nat.mod_lt c (by decide)
   have hw2 : x / 2 ^ (c % 64) * 2 ^ (c % 64) < 18446744073709551616 := Nat.lt_of_le_of_lt (Nat.div_mul_le_self x _) hx2
   obtain ⟨r, hlp, hcase⟩ := Next_loop (n := (n : Int)) h.wd (by omega) (l.length - 1 - c / 64) (c / 64) _ (by omega) hw2
   simp only [hd, Bool.not_true, cond_false, e1, e2, g, Option.bind_some, ge0_eq (Int.natCast_nonneg _), Int.toNat_natCast, from_word x _ hx2 hr, hlp]
   rcases hcase with ⟨rfl, h4, h5⟩ | ⟨b, v, rfl, h4, h5, h6, h7, h8, h9⟩
   · refine ⟨-1, rfl, .inl ⟨rfl, fun j hj => ?_⟩⟩
     have hj := (hci j).1 hj
     by_cases hja : j / 64 = c / 64
     · rw [mem_of (by rw [hja]; exact hx)]
       have := from_bit x (c % 64) (j % 64)
       rw [h4, Nat.zero_testBit] at this
       have hle : c % 64 ≤ j % 64 := by omega
       simpa [hle] using this.symm
     · refine mem_zero (fun w hw => ?_)
       have hlt := (List.getElem?_eq_some_iff.1 hw).1
       rw [h5 (j / 64) (by omega) hlt] at hw
       exact (Option.some.inj hw).symm
   · obtain ⟨t1, t2, t3⟩ := ctz_bit h4 h5
     have ht : tzF (v : Int) = some ((Lib.ctz 64 v : Nat) : Int) := by
       unfold tzF
       rw [if_pos ⟨Int.natCast_nonneg _, by omega⟩, Int.toNat_natCast]
     have e3 : IntKind.wrap .i64 (IntKind.wrap .i64 ((b : Int) * 64) + ((Lib.ctz 64 v : Nat) : Int)) = ((b * 64 + Lib.ctz 64 v : Nat) : Int) := by
       rw [w64 (x := (b : Int) * 64) (by omega) (by omega), w64 (by omega) (by omega)]
       omega
     refine ⟨((b * 64 + Lib.ctz 64 v : Nat) : Int), by simp only [ht, Option.bind_some, e3], .inr ⟨_, rfl, ?_⟩⟩
     generalize Lib.ctz 64 v = z at t1 t2 t3
     have d1 : (b * 64 + z) / 64 = b := by omega
     have d2 : (b * 64 + z) % 64 = z := by omega
     rcases h8 with ⟨rfl, rfl⟩ | ⟨g1, g2, g3⟩
     · rw [from_bit, Bool.and_eq_true] at t2
       have hz : c % 64 ≤ z := by simpa using t2.1
       refine ⟨(hci _).2 (by omega), ?_, fun j hj hjk => ?_⟩
       · rw [mem_of (x := x) (by rw [d1]; exact hx), d2]
         exact t2.2
       · have hj := (hci j).1 hj
         have := t3 (j % 64) (by omega)
         rw [from_bit] at this
         rw [mem_of (by rw [show j / 64 = c / 64 by omega]; exact hx)]
         have hle : c % 64 ≤ j % 64 := by omega
         simpa [hle] using this
     · refine ⟨(hci _).2 (by omega), ?_, fun j hj hjk => ?_⟩
       · rw [mem_of (x := v) (by rw [d1]; exact g3), d2]
         exact t2
       · have hj := (hci j).1 hj
         by_cases hja : j / 64 = c / 64
         · rw [mem_of (by rw [hja]; exact hx)]
           have := from_bit x (c % 64) (j % 64)
           rw [g2, Nat.zero_testBit] at this
           have hle : c % 64 ≤ j % 64 := by omega
           simpa [hle] using this.symm
         · by_cases hjb : j / 64 = b
           · rw [mem_of (by rw [hjb]; exact g3)]
             exact t3 _ (by omega)
           · exact mem_zero (fun w hw => by
               rw [h9 (j / 64) (by omega) (by omega)] at hw
               exact (Option.some.inj hw).symm)
 · have hd : decide (0 ≤ (c : Int) ∧ (c : Int) < n) = false := by simpa using hk
   simp only [hd, Bool.not_false, cond_true]
   exact ⟨-1, rfl, .inl ⟨rfl, fun j hj => h.top j (by have := (hci j).1 hj; omega)⟩⟩
theorem mem_rep (m j : Nat) : mem (List.replicate m 0) j = false := mem_zero (fun w hw => by
 rw [List.getElem?_replicate] at hw
 split at hw
 · exact (Option.some.inj hw).symm
 · cases hw)
theorem Ds_new {n : Nat} (h : n ≤ 1048576) : Ds n (List.replicate ((n + 63) / 64) 0) :=
 ⟨h, List.length_replicate, fun w hw => by
   obtain ⟨_, rfl⟩ := List.mem_replicate.1 hw
   exact ⟨Int.le_refl _, by decide⟩, fun j _ => mem_rep _ j⟩
theorem New_some (n : Int) : fn_dense_New n = if n < 0 then some (.inl 2) else if 1048576 < n then some (.inl 5) else some (.inr (0, n, List.replicate ((n.toNat + 63) / 64) 0)) := by
 unfold fn_dense_New
 by_cases h1 : n < 0
 · simp [h1]
 · by_cases h2 : 1048576 < n
   · simp [h1, h2]
   · obtain ⟨k, rfl⟩ := Int.eq_ofNat_of_zero_le (by omega : 0 ≤ n)
     have e : IntKind.wrap .i64 (Int.tdiv (IntKind.wrap .i64 (IntKind.wrap .i64 ((k : Int) + 64) - 1)) 64) = (((k + 63) / 64 : Nat) : Int) := by
       rw [w64 (x := (k : Int) + 64) (by omega) (by omega), w64 (x := (k : Int) + 64 - 1) (by omega) (by omega), show (k : Int) + 64 - 1 = ((k + 63 : Nat) : Int) by omega]
       rw [show Int.tdiv ((k + 63 : Nat) : Int) 64 = (((k + 63) / 64 : Nat) : Int) from rfl]
       exact w64 (by omega) (by omega)
     rw [e]
     have hm : (mk ((((k + 63) / 64 : Nat) : Int)) ((((k + 63) / 64 : Nat) : Int)) (0 : Int)) = some (List.replicate ((k + 63) / 64) 0) := by
       unfold mk
       rw [if_pos (by constructor <;> omega), Int.toNat_natCast]
     rw [hm]
     simp [h1, h2]
def mems (n : Nat) (l : List Int) : List Nat := (List.range n).filter (mem l)
def liN (L : List Nat) : List Int := L.map Int.ofNat
theorem filter_gap {p : Nat → Bool} {c : Nat} : ∀ (d : Nat), (∀ j, c ≤ j → j < c + d → p j = false) → (List.range (c + d)).filter p = (List.range c).filter p
 | 0, _ => rfl
 | d + 1, h => by
   rw [← Nat.add_assoc, List.range_succ, List.filter_append, filter_gap d (fun j h1 h2 => h j h1 (by omega))]
   simp [h (c + d) (by omega) (by omega)]
theorem filter_len (p : Nat → Bool) (c : Nat) : ((List.range c).filter p).length ≤ c := by
 have := List.length_filter_le p (List.range c)
 simpa using this
theorem gather {n : Nat} {l : List Int} (h : Ds n l) {body : Int × List Int → Option ((Int × List Int) ⊕ List Int)}
   (hb : ∀ (c : List Int) (k : Nat), mem l k = true → body ((k : Int), c) = (app c [(k : Int)]).bind fun z => (fn_dense_Set_Next (some ((n : Int), l)) ((k : Int) + 1)).bind fun i => some (.inl (i, z))) (he : ∀ c, body (-1, c) = some (.inr c)) :
   ∃ r, fn_dense_Set_Next (some ((n : Int), l)) 0 = some r ∧ loop body (r, []) = some (liN (mems n l)) := by
 have hn := h.hn
 have lt_of : ∀ k, mem l k = true → k < n := fun k hk => by
   rcases Nat.lt_or_ge k n with h1 | h1
   · exact h1
   · rw [h.top k h1] at hk; cases hk
 have key : ∀ (r : Int) (acc : List Int), (∃ c : Nat, c ≤ n ∧ acc = liN ((List.range c).filter (mem l)) ∧ ((r = -1 ∧ ∀ j : Nat, (c : Int) ≤ (j : Int) → mem l j = false) ∨ ∃ k : Nat, r = (k : Int) ∧ (c : Int) ≤ (k : Int) ∧ mem l k = true ∧ ∀ j : Nat, (c : Int) ≤ (j : Int) → j < k → mem l j = false)) →
     loop body (r, acc) = some (liN (mems n l)) := by
   intro r acc hI
   refine loop_val (fun s => ∃ c : Nat, c ≤ n ∧ s.2 = liN ((List.range c).filter (mem l)) ∧ ((s.1 = -1 ∧ ∀ j : Nat, (c : Int) ≤ (j : Int) → mem l j = false) ∨ ∃ k : Nat, s.1 = (k : Int) ∧ (c : Int) ≤ (k : Int) ∧ mem l k = true ∧ ∀ j : Nat, (c : Int) ≤ (j : Int) → j < k → mem l j = false)) (fun s => if s.1 < 0 then 0 else n + 1 - s.1.toNat) ?_ (s := (r, acc)) hI
   rintro ⟨r, acc⟩ ⟨c, hcn, rfl, hr⟩
   rcases hr with ⟨rfl, h2⟩ | ⟨k, rfl, h2, h3, h4⟩
   · right
     have e : mems n l = (List.range c).filter (mem l) := by
       unfold mems
       have := filter_gap (p := mem l) (c := c) (n - c) (fun j h1 _ => h2 j (by omega))
       rw [show c + (n - c) = n by omega] at this
       exact this
     rw [e]
     exact he _
   · left
     have hk := lt_of k h3
     obtain ⟨r', g1, g2⟩ := Next_some h (((k + 1 : Nat) : Int))
     have e1 : (k : Int) + 1 = ((k + 1 : Nat) : Int) := rfl
     have e2 : (List.range (k + 1)).filter (mem l) = (List.range c).filter (mem l) ++ [k] := by
       have := filter_gap (p := mem l) (c := c) (k - c) (fun j h5 h6 => h4 j (by omega) (by omega))
       rw [show c + (k - c) = k by omega] at this
       rw [List.range_succ, List.filter_append, this]
       simp [h3]
     have e3 : app (liN ((List.range c).filter (mem l))) [(k : Int)] = some (liN ((List.range (k + 1)).filter (mem l))) := by
       have := filter_len (mem l) c
       unfold app
       rw [if_pos (by simp [liN]; omega), e2]
       simp [liN]
     refine ⟨(r', liN ((List.range (k + 1)).filter (mem l))), ?_, ⟨k + 1, by omega, rfl, g2⟩, ?_⟩
     · rw [hb _ k h3]
       simp only [e3, e1, g1, Option.bind_some]
     · show (if r' < 0 then 0 else n + 1 - r'.toNat) < (if (k : Int) < 0 then 0 else n + 1 - (k : Int).toNat)
       rw [if_neg (by omega : ¬ (k : Int) < 0), Int.toNat_natCast]
       rcases g2 with ⟨rfl, _⟩ | ⟨k', rfl, k1, k2, _⟩
       · simp; omega
       · rw [if_neg (by omega : ¬ (k' : Int) < 0), Int.toNat_natCast]
         have := lt_of k' k2
         omega
 obtain ⟨r, g1, g2⟩ := Next_some h 0
 exact ⟨r, g1, key r [] ⟨0, Nat.zero_le n, rfl, g2⟩⟩
theorem Has_nat {n : Nat} {l : List Int} (h : Ds n l) (k : Nat) : fn_dense_Set_Has (some ((n : Int), l)) (k : Int) = some (mem l k) := by
 rw [Has_some h, Int.toNat_natCast]
 cases hm : mem l k with
 | false => simp
 | true =>
   have : k < n := by
     rcases Nat.lt_or_ge k n with h1 | h1
     · exact h1
     · rw [h.top k h1] at hm; cases hm
   simp [this]
section
theorem bind_of {α β : Type} {m : Option α} {f : α → Option β} {y : β} {Q : α → Prop} (h : ∃ r, m = some r ∧ Q r) (k : ∀ r, Q r → f r = some y) : m.bind f = some y := by
 obtain ⟨r, rfl, h2⟩ := h; exact k r h2
theorem bind_ex {α β : Type} {m : Option α} {f : α → Option β} {Q : α → Prop} {R : β → Prop} (h : ∃ r, m = some r ∧ Q r) (k : ∀ r, Q r → ∃ y, f r = some y ∧ R y) : ∃ y, m.bind f = some y ∧ R y := by
 obtain ⟨r, rfl, h2⟩ := h; exact k r h2
theorem getZ {α : Type} {l : List α} {i : Int} (h0 : 0 ≤ i) (h1 : i < (l.length : Nat)) : getI l i = some (l[i.toNat]'(by omega)) := by
 unfold getI; rw [if_pos h0]; simp
theorem getN1 {α : Type} {l : List α} {k : Nat} (h : k + 1 < l.length) : getI l ((k : Int) + 1) = some l[k + 1] := getI_eq rfl h
theorem dlt {k n : Nat} (h : k < n) : decide ((k : Int) < (n : Int)) = true := by simp; omega
theorem dge {k n : Nat} (h : ¬ k < n) : decide ((k : Int) < (n : Int)) = false := by simp; omega
theorem beq_dec {α : Type} [DecidableEq α] (a b : α) : (a == b) = decide (a = b) := Bool.beq_eq_decide_eq a b
section
variable {α β γ σ : Type}
theorem loop_stop {body : σ → Option (σ ⊕ β)} (n : Nat) (st : Nat → σ) (stop : Nat → Option β) (e : β) (h : ∀ k, k < n → body (st k) = some (match stop k with | none => .inl (st (k + 1)) | some b => .inr b)) (he : body (st n) = some (.inr e)) :
   loop body (st 0) = some (((List.range n).findSome? stop).getD e) := by
 rcases loop_find (fun k => (stop k).isSome = true) st n (fun k => (stop k).getD e) e (fun k hk hp => by
     rw [h k hk]; cases hs : stop k with
     | none => rfl
     | some b => simp [hs] at hp) (fun k hk hp => by
     rw [h k hk]; cases hs : stop k with
     | none => simp [hs] at hp
     | some b => rfl) he with ⟨k, h1, h2, h3, h4⟩ | ⟨h1, h2⟩
 · rw [h4]
   obtain ⟨b, hb⟩ := Option.isSome_iff_exists.1 h2
   have : (List.range n).findSome? stop = some b := by
     rw [List.findSome?_eq_some_iff]
     refine ⟨List.range k, k, (List.range' (k + 1) (n - k - 1)), ?_, hb, fun a ha => ?_⟩
     · rw [List.range_eq_range', List.range_eq_range', ← List.range'_succ (s := k) (n := n - k - 1)]
       rw [show n - k - 1 + 1 = n - k by omega]
       have := List.range'_append_1 (s := 0) (m := k) (n := n - k)
       rw [Nat.zero_add, show k + (n - k) = n by omega] at this
       exact this.symm
     · have := h3 a (List.mem_range.1 ha)
       cases hs : stop a with
       | none => rfl
       | some b => simp [hs] at this
   rw [this, hb]
 · rw [h2]
   have : (List.range n).findSome? stop = none := by
     rw [List.findSome?_eq_none_iff]
     intro a ha
     have := h1 a (List.mem_range.1 ha)
     cases hs : stop a with
     | none => rfl
     | some b => simp [hs] at this
   rw [this]; rfl
theorem loop_search {body : Int → Option (Int ⊕ β)} (xa : List α) (t : α → Bool) (hit : Nat → β) (e : β) (hb : ∀ (k : Nat) (h : k < xa.length), body (k : Int) = some (if t xa[k] then .inr (hit k) else .inl ((k + 1 : Nat) : Int))) (he : body (xa.length : Int) = some (.inr e)) :
   loop body 0 = some (match xa.findIdx? t with | some k => hit k | none => e) := by
 rcases loop_find (fun k => ∃ h : k < xa.length, t xa[k] = true) (fun k : Nat => (k : Int)) xa.length hit e (fun k hk hp => by
     rw [hb k hk, if_neg (fun h => hp ⟨hk, h⟩)]) (fun k hk ⟨_, hp⟩ => by rw [hb k hk, if_pos hp]) he with ⟨k, h1, ⟨_, h2⟩, h3, h4⟩ | ⟨h1, h2⟩
 · rw [show ((0 : Int)) = ((0 : Nat) : Int) from rfl, h4]
   have : xa.findIdx? t = some k := by
     rw [List.findIdx?_eq_some_iff_getElem]
     exact ⟨h1, h2, fun j hj => fun hc => h3 j hj ⟨by omega, by simpa using hc⟩⟩
   rw [this]
 · rw [show ((0 : Int)) = ((0 : Nat) : Int) from rfl, h2]
   have : xa.findIdx? t = none := by
     rw [List.findIdx?_eq_none_iff]
     intro x hx
     obtain ⟨k, hk, rfl⟩ := List.getElem_of_mem hx
     cases hc : t xa[k] with
     | false => rfl
     | true => exact absurd ⟨hk, hc⟩ (h1 k hk)
   rw [this]
theorem loop_some {body : Int → Option (Int ⊕ β)} (xa : List α) (t : α → Bool) (hit e : β) (hb : ∀ (k : Nat) (h : k < xa.length), body (k : Int) = some (if t xa[k] then .inr hit else .inl ((k + 1 : Nat) : Int))) (he : body (xa.length : Int) = some (.inr e)) :
   loop body 0 = some (if xa.any t then hit else e) := by
 rw [loop_search xa t (fun _ => hit) e hb he]
 cases h : xa.findIdx? t with
 | none =>
   have : xa.any t = false := by
     rw [List.any_eq_false]; intro x hx; have := List.findIdx?_eq_none_iff.1 h x hx; simp [this]
   rw [this]; rfl
 | some k =>
   obtain ⟨hk, h1, _⟩ := List.findIdx?_eq_some_iff_getElem.1 h
   have : xa.any t = true := List.any_eq_true.2 ⟨_, List.getElem_mem hk, h1⟩
   rw [this]; rfl
theorem loop_carry {δ : Type} {body : (γ × Int) → Option ((γ × Int) ⊕ δ)} (xa : List α) (acc : Nat → γ) (out : δ) (hb : ∀ (k : Nat) (h : k < xa.length), body (acc k, (k : Int)) = some (.inl (acc (k + 1), ((k + 1 : Nat) : Int)))) (he : body (acc xa.length, (xa.length : Int)) = some (.inr out)) :
   loop body (acc 0, 0) = some out := loop_nat (fun k => (acc k, (k : Int))) xa.length hb he
theorem loop_alike [DecidableEq α] {body : Int → Option (Int ⊕ β)} (xa xb : List α) (hit e : β) (hl : xa.length = xb.length) (hb : ∀ (k : Nat) (h : k < xa.length), body (k : Int) = some (if xa[k] = (xb[k]'(by omega)) then .inl ((k + 1 : Nat) : Int) else .inr hit)) (he : body (xa.length : Int) = some (.inr e)) :
   loop body 0 = some (if xa = xb then e else hit) := by
 rw [loop_search (List.range xa.length) (fun k => decide (xa[k]? ≠ xb[k]?)) (fun _ => hit) e (fun k h => by
     simp at h
     rw [hb k h]
     have h2 : k < xb.length := by omega
     by_cases hq : xa[k] = xb[k] <;> simp [h, h2, hq]) (by simpa using he)]
 by_cases hq : xa = xb
 · subst hq
   have : (List.range xa.length).findIdx? (fun k => decide (xa[k]? ≠ xa[k]?)) = none := by rw [List.findIdx?_eq_none_iff]; simp
   rw [this]; simp
 · cases h : (List.range xa.length).findIdx? (fun k => decide (xa[k]? ≠ xb[k]?)) with
   | some k => simp [hq]
   | none =>
     exfalso; apply hq
     rw [List.findIdx?_eq_none_iff] at h
     apply List.ext_getElem?
     intro k
     by_cases hk : k < xa.length
     · simpa using h k (List.mem_range.2 hk)
     · rw [List.getElem?_eq_none (by omega), List.getElem?_eq_none (by omega)]
theorem take_snoc {l : List α} {k : Nat} (h : k < l.length) : l.take (k + 1) = l.take k ++ [l[k]] := List.take_succ_eq_append_getElem h
theorem dlen {a b : Nat} (h : a = b) : (!decide ((a : Int) = (b : Int))) = false := by simp [h]
theorem dlen' {a b : Nat} (h : ¬ a = b) : (!decide ((a : Int) = (b : Int))) = true := by simp; omega
end
theorem ok64 {x : Int} (h : Tp.Ok (.int .i64) x) : -9223372036854775808 ≤ x ∧ x ≤ 9223372036854775807 := by
 have h' : (Lit.int .i64 x).wf = true := h
 simp only [Lit.wf, IntKind.min, IntKind.max, IntKind.signed, IntKind.bits, Bool.and_eq_true, decide_eq_true_eq] at h'
 simp at h'; omega
theorem sub1 {α : Type} {l : List α} (h : 1 ≤ l.length) : subL l 1 ((l.length : Nat) : Int) = some (l.drop 1) := by
 rw [subL_eq (by omega) (by omega) (by omega)]; simp
end
def pc : Nat → Nat → Nat
 | 0, _ => 0
 | n + 1, x => (x % 2) + pc n (x / 2)
theorem land_split (a b y M : Nat) (ha : a < 256) (hb : b < 256) : (a + 256 * y) &&& (b + 256 * M) = (a &&& b) + 256 * (y &&& M) := by
 have h1 : a &&& b < 256 := Nat.and_lt_two_pow (n := 8) a hb
 apply Nat.eq_of_testBit_eq
 intro i
 have e : ∀ (u v : Nat), u < 256 → (u + 256 * v).testBit i = if i < 8 then u.testBit i else v.testBit (i - 8) := fun u v hu => by
   rw [Nat.add_comm, show 256 * v = 2 ^ 8 * v from rfl, Nat.testBit_two_pow_mul_add v (show u < 2 ^ 8 from hu)]
 rw [Nat.testBit_and, e a y ha, e b M hb, e _ _ h1]
 split <;> simp [Nat.testBit_and]
def bts : Nat → List Nat → Nat
 | 0, _ => 0
 | _ + 1, [] => 0
 | n + 1, p :: l => p + 256 * bts n l
theorem eachByte (P : Nat → Bool) (h : (List.range 256).all P = true) {a : Nat} (ha : a < 256) : P a = true := List.all_eq_true.1 h a (List.mem_range.2 ha)
def s1 (M x : Nat) : Nat := ((x / 2) &&& M) + (x &&& M)
def s2 (M x : Nat) : Nat := ((x / 4) &&& M) + (x &&& M)
def s3 (M x : Nat) : Nat := (x / 16 + x) &&& M
theorem s1_split (a y M : Nat) (ha : a < 256) : s1 (85 + 256 * M) (a + 256 * y) = s1 85 a + 256 * s1 M y := by
 unfold s1
 have h2 : (a + 256 * y) / 2 = (a / 2 + 128 * (y % 2)) + 256 * (y / 2) := by omega
 have h3 : (a / 2 + 128 * (y % 2)) &&& 85 = (a / 2) &&& 85 := by
   have h4 : y % 2 = 0 ∨ y % 2 = 1 := by omega
   rcases h4 with h4 | h4
   · rw [h4]; rfl
   · rw [h4]
     have := eachByte (fun a => decide (((a / 2 + 128 * 1) &&& 85) = ((a / 2) &&& 85))) (by decide +kernel) ha
     exact of_decide_eq_true this
 rw [land_split a 85 y M ha (by decide), h2, land_split _ 85 _ M (by omega) (by decide), h3]
 omega
theorem s1_low {a : Nat} (ha : a < 256) : s1 85 a < 256 := by
 have := eachByte (fun a => decide (s1 85 a < 256)) (by decide +kernel) ha
 exact of_decide_eq_true this
theorem s2_split (a y M : Nat) (ha : a < 256) : s2 (51 + 256 * M) (a + 256 * y) = s2 51 a + 256 * s2 M y := by
 unfold s2
 have h2 : (a + 256 * y) / 4 = (a / 4 + 64 * (y % 4)) + 256 * (y / 4) := by omega
 have h3 : (a / 4 + 64 * (y % 4)) &&& 51 = (a / 4) &&& 51 := by
   have h4 : y % 4 = 0 ∨ y % 4 = 1 ∨ y % 4 = 2 ∨ y % 4 = 3 := by omega
   have := eachByte (fun a => decide (((a / 4 + 64 * 1) &&& 51) = ((a / 4) &&& 51) ∧ ((a / 4 + 64 * 2) &&& 51) = ((a / 4) &&& 51) ∧ ((a / 4 + 64 * 3) &&& 51) = ((a / 4) &&& 51))) (by decide +kernel) ha
   have := of_decide_eq_true this
   rcases h4 with h4 | h4 | h4 | h4 <;> rw [h4]
   · rfl
   · exact this.1
   · exact this.2.1
   · exact this.2.2
 rw [land_split a 51 y M ha (by decide), h2, land_split _ 51 _ M (by omega) (by decide), h3]
 omega
theorem s2_low {a : Nat} (ha : a < 256) : s2 51 a < 256 := by
 have := eachByte (fun a => decide (s2 51 a < 256)) (by decide +kernel) ha
 exact of_decide_eq_true this
theorem byte_pc {a : Nat} (ha : a < 256) : ((s2 51 (s1 85 a)) / 16 + (s2 51 (s1 85 a)) % 16) = pc 8 a ∧ (s2 51 (s1 85 a)) % 16 ≤ 4 ∧ (s2 51 (s1 85 a)) / 16 ≤ 4 ∧ s2 51 (s1 85 a) < 256 ∧ pc 8 a ≤ 8 := by
 have := eachByte (fun a => decide (((s2 51 (s1 85 a)) / 16 + (s2 51 (s1 85 a)) % 16) = pc 8 a ∧ (s2 51 (s1 85 a)) % 16 ≤ 4 ∧ (s2 51 (s1 85 a)) / 16 ≤ 4 ∧ s2 51 (s1 85 a) < 256 ∧ pc 8 a ≤ 8)) (by decide +kernel) ha
 exact of_decide_eq_true this
theorem s3_split (a y M : Nat) (ha : a < 256) (h1 : a % 16 ≤ 4) (h2 : a / 16 ≤ 4) (h3 : y % 16 ≤ 4) : s3 (15 + 256 * M) (a + 256 * y) = (a / 16 + a % 16) + 256 * s3 M y := by
 unfold s3
 have e : (a + 256 * y) / 16 + (a + 256 * y) = (a / 16 + a % 16 + 16 * (a / 16 + y % 16)) + 256 * (y / 16 + y) := by omega
 rw [e, land_split _ 15 _ M (by omega) (by decide)]
 have : (a / 16 + a % 16 + 16 * (a / 16 + y % 16)) &&& 15 = a / 16 + a % 16 := by
   rw [show (15 : Nat) = 2 ^ 4 - 1 from rfl, Nat.and_two_pow_sub_one_eq_mod]
   omega
 rw [this]
theorem pc_add : ∀ (n m x : Nat), pc (n + m) x = pc n x + pc m (x / 2 ^ n)
 | 0, m, x => by simp [pc]
 | n + 1, m, x => by
   rw [show n + 1 + m = (n + m) + 1 by omega, show pc ((n + m) + 1) x = x % 2 + pc (n + m) (x / 2) from rfl, show pc (n + 1) x = x % 2 + pc n (x / 2) from rfl]
   rw [pc_add n m, Nat.div_div_eq_div_mul, Nat.pow_succ, Nat.mul_comm 2]
   omega
theorem pc_mod (a y : Nat) (ha : a < 256) : pc 8 (a + 256 * y) = pc 8 a := by
 unfold pc pc pc pc pc pc pc pc pc
 omega
def masks : Nat → Nat → Nat
 | _, 0 => 0
 | b, n + 1 => b + 256 * masks b n
def pcs : Nat → Nat → Nat
 | 0, _ => 0
 | n + 1, x => pc 8 (x % 256) + 256 * pcs n (x / 256)
theorem three (n : Nat) : ∀ x, x < 256 ^ n → s3 (masks 15 n) (s2 (masks 51 n) (s1 (masks 85 n) x)) = pcs n x ∧ (s2 (masks 51 n) (s1 (masks 85 n) x)) % 16 ≤ 4 := by
 induction n with
 | zero => intro x hx; have : x = 0 := by simp at hx; omega
           subst this; decide
 | succ n ih =>
   intro x hx
   have hx2 : x / 256 < 256 ^ n := by
     rw [Nat.pow_succ] at hx
     exact Nat.div_lt_of_lt_mul (by rw [Nat.mul_comm]; exact hx)
   obtain ⟨i1, i2⟩ := ih _ hx2
   have ha : x % 256 < 256 := Nat.mod_lt _ (by decide)
   obtain ⟨b1, b2, b3, b4, b5⟩ := byte_pc ha
   have e : x = x % 256 + 256 * (x / 256) := by omega
   unfold masks
   have e1 : s1 (85 + 256 * masks 85 n) x = s1 85 (x % 256) + 256 * s1 (masks 85 n) (x / 256) := by
     conv => lhs; rw [e]
     exact s1_split _ _ _ ha
   rw [e1, s2_split _ _ _ (s1_low ha), s3_split _ _ _ b4 b2 b3 i2, i1, b1]
   refine ⟨rfl, ?_⟩
   omega
theorem three64 (x : Nat) (hx : x < 18446744073709551616) : s3 1085102592571150095 (s2 3689348814741910323 (s1 6148914691236517205 x)) = pcs 8 x :=
 (three 8 x hx).1
theorem last4 (x : Nat) : ∃ p0 p1 p2 p3 p4 p5 p6 p7 : Nat, pcs 8 x = p0 + 256 * (p1 + 256 * (p2 + 256 * (p3 + 256 * (p4 + 256 * (p5 + 256 * (p6 + 256 * (p7 + 256 * 0))))))) ∧ pc 64 x = p0 + p1 + p2 + p3 + p4 + p5 + p6 + p7 ∧ p0 ≤ 8 ∧ p1 ≤ 8 ∧ p2 ≤ 8 ∧ p3 ≤ 8 ∧ p4 ≤ 8 ∧ p5 ≤ 8 ∧ p6 ≤ 8 ∧ p7 ≤ 8 := by
 have h : ∀ y, pc 8 (y % 256) ≤ 8 := fun y => (byte_pc (Nat.mod_lt y (by decide))).2.2.2.2
 have g : ∀ m y, pc (8 + m) y = pc 8 (y % 256) + pc m (y / 256) := fun m y => by
   rw [pc_add 8 m]
   congr 1
   conv => lhs; rw [show y = y % 256 + 256 * (y / 256) by omega]
   exact pc_mod _ _ (Nat.mod_lt _ (by decide))
 refine ⟨_, _, _, _, _, _, _, _, rfl, ?_, h _, h _, h _, h _, h _, h _, h _, h _⟩
 rw [show (64 : Nat) = 8 + (8 + (8 + (8 + (8 + (8 + (8 + (8 + 0))))))) from rfl, g, g, g, g, g, g, g, g]
 simp only [pc]
 omega
theorem dv {k L R x : Nat} (hk : 0 < k) (h : x = L + k * R) (hL : L < k) : x / k = R := by
 rw [h, Nat.add_mul_div_left _ _ hk, Nat.div_eq_of_lt hL, Nat.zero_add]
theorem sum4 {y z u v s : Nat} {p0 p1 p2 p3 p4 p5 p6 p7 : Nat} (hy : y = p0 + 256 * (p1 + 256 * (p2 + 256 * (p3 + 256 * (p4 + 256 * (p5 + 256 * (p6 + 256 * (p7 + 256 * 0)))))))) (hs : s = p0 + p1 + p2 + p3 + p4 + p5 + p6 + p7) (h0 : p0 ≤ 8) (h1 : p1 ≤ 8) (h2 : p2 ≤ 8) (h3 : p3 ≤ 8) (h4 : p4 ≤ 8) (h5 : p5 ≤ 8) (h6 : p6 ≤ 8) (h7 : p7 ≤ 8)
   (hz : z = y + y / 256) (hu : u = z + z / 65536) (hv : v = u + u / 4294967296) : v % 128 = s ∧ v < 9223372036854775808 := by
 have e1 : y / 256 = p1 + 256 * (p2 + 256 * (p3 + 256 * (p4 + 256 * (p5 + 256 * (p6 + 256 * p7))))) := dv (L := p0) (by decide) (by rw [hy]; rfl) (by omega)
 rw [e1, hy] at hz
 have e2 : z / 65536 = (p2 + p3) + 256 * ((p3 + p4) + 256 * ((p4 + p5) + 256 * ((p5 + p6) + 256 * ((p6 + p7) + 256 * p7)))) := dv (L := (p0 + p1) + 256 * (p1 + p2)) (by decide) (by rw [hz]; clear hz hu hv hy e1; omega) (by clear hz hu hv hy e1; omega)
 rw [e2, hz] at hu
 clear e1 e2 hz hy
 have e3 : u / 4294967296 = (p4 + p5 + p6 + p7) + 256 * ((p5 + p6 + p7) + 256 * ((p6 + p7) + 256 * p7)) := dv (L := (p0 + p1 + p2 + p3) + 256 * ((p1 + p2 + p3 + p4) + 256 * ((p2 + p3 + p4 + p5) + 256 * (p3 + p4 + p5 + p6)))) (by decide) (by rw [hu]; clear hu hv; omega) (by clear hu hv; omega)
 rw [e3, hu] at hv
 clear e3 hu
 refine ⟨?_, by omega⟩
 have : v = s + 128 * (2 * ((p1+p2+p3+p4 + (p5+p6+p7)) + 256 * ((p2+p3+p4+p5 + (p6+p7)) + 256 * ((p3+p4+p5+p6 + p7) + 256 * ((p4+p5+p6+p7) + 256 * ((p5+p6+p7) + 256 * ((p6+p7) + 256 * p7))))))) := by rw [hv, hs]; clear hv hs; omega
 rw [this, Nat.add_mul_mod_self_left]
 exact Nat.mod_eq_of_lt (by omega)

def ocA (x m : Int) : Int := IntKind.wrap .u64 ((BitVec.ofInt (IntKind.bits .u64) x &&& BitVec.ofInt (IntKind.bits .u64) m).toNat : Int)
def ocS (x : Int) (k : Nat) : Int := Int.fdiv x (2 ^ (min k (IntKind.bits .u64)))
def oc1 (x : Int) : Int := IntKind.wrap .u64 (ocA (ocS x 1) 6148914691236517205 + ocA x 6148914691236517205)
def oc2 (x : Int) : Int := IntKind.wrap .u64 (ocA (ocS x 2) 3689348814741910323 + ocA x 3689348814741910323)
def oc3 (x : Int) : Int := ocA (IntKind.wrap .u64 (ocS x 4 + x)) 1085102592571150095
def oc4 (x : Int) : Int := IntKind.wrap .u64 (x + ocS x 8)
def oc5 (x : Int) : Int := IntKind.wrap .u64 (x + ocS x 16)
def oc6 (x : Int) : Int := IntKind.wrap .u64 (x + ocS x 32)
theorem Ones_form (x : Int) : fn_math_bits_OnesCount64 x = some (IntKind.wrap .i64 ((BitVec.ofInt (IntKind.bits .i64) (IntKind.wrap .i64 (oc6 (oc5 (oc4 (oc3 (oc2 (oc1 x))))))) &&& BitVec.ofInt (IntKind.bits .i64) 127).toNat : Int)) := rfl
theorem ocA_eq (x m : Nat) (M : Int) (hM : M = (m : Int)) (hx : x < 18446744073709551616) (hm : m < 18446744073709551616) : ocA (x : Int) M = ((x &&& m : Nat) : Int) := by
 rw [hM]
 exact andU x m hx hm
theorem ocS_eq (x k : Nat) (hk : k < 64) : ocS (x : Int) k = ((x / 2 ^ k : Nat) : Int) := by
 unfold ocS
 have h1 : min k (IntKind.bits .u64) = k := Nat.min_eq_left (Nat.le_of_lt hk)
 have hp : ((2 : Int) ^ k) = ((2 ^ k : Nat) : Int) := by simp
 rw [h1, hp, Int.fdiv_eq_ediv_of_nonneg _ (Int.natCast_nonneg _)]
 rfl
theorem and_le (x m : Nat) : x &&& m ≤ m := Nat.and_le_right
theorem oc1_eq (x : Nat) (hx : x < 18446744073709551616) : oc1 (x : Int) = ((s1 6148914691236517205 x : Nat) : Int) := by
 unfold oc1 s1
 rw [ocS_eq x 1 (by decide), ocA_eq (x / 2 ^ 1) 6148914691236517205 6148914691236517205 rfl (by omega) (by decide), ocA_eq x 6148914691236517205 6148914691236517205 rfl hx (by decide), ← Int.natCast_add]
 have b1 := and_le (x / 2 ^ 1) 6148914691236517205
 have b2 := and_le x 6148914691236517205
 exact wrapU _ (by omega)
theorem oc2_eq (x : Nat) (hx : x < 18446744073709551616) : oc2 (x : Int) = ((s2 3689348814741910323 x : Nat) : Int) := by
 unfold oc2 s2
 rw [ocS_eq x 2 (by decide), ocA_eq (x / 2 ^ 2) 3689348814741910323 3689348814741910323 rfl (by omega) (by decide), ocA_eq x 3689348814741910323 3689348814741910323 rfl hx (by decide), ← Int.natCast_add]
 have b1 := and_le (x / 2 ^ 2) 3689348814741910323
 have b2 := and_le x 3689348814741910323
 exact wrapU _ (by omega)
theorem oc3_eq (z : Nat) (hz : z ≤ 7378697629483820646) : oc3 (z : Int) = ((s3 1085102592571150095 z : Nat) : Int) := by
 unfold oc3 s3
 rw [ocS_eq z 4 (by decide), ← Int.natCast_add, wrapU _ (by omega), ocA_eq _ 1085102592571150095 1085102592571150095 rfl (by omega) (by decide)]
theorem s1_lt (x : Nat) : s1 6148914691236517205 x < 18446744073709551616 := by
 have b1 := and_le (x / 2) 6148914691236517205
 have b2 := and_le x 6148914691236517205
 unfold s1; omega
theorem s2_lt (x : Nat) : s2 3689348814741910323 x ≤ 7378697629483820646 := by
 have b1 := and_le (x / 4) 3689348814741910323
 have b2 := and_le x 3689348814741910323
 unfold s2; omega
theorem oc4_eq (w : Nat) (h : w + w / 256 < 18446744073709551616) : oc4 (w : Int) = ((w + w / 256 : Nat) : Int) := by
 unfold oc4
 rw [ocS_eq w 8 (by decide), ← Int.natCast_add]
 exact wrapU _ h
theorem oc5_eq (w : Nat) (h : w + w / 65536 < 18446744073709551616) : oc5 (w : Int) = ((w + w / 65536 : Nat) : Int) := by
 unfold oc5
 rw [ocS_eq w 16 (by decide), ← Int.natCast_add]
 exact wrapU _ h
theorem oc6_eq (w : Nat) (h : w + w / 4294967296 < 18446744073709551616) : oc6 (w : Int) = ((w + w / 4294967296 : Nat) : Int) := by
 unfold oc6
 rw [ocS_eq w 32 (by decide), ← Int.natCast_add]
 exact wrapU _ h
theorem oc7_eq (v : Nat) (h : v < 9223372036854775808) : IntKind.wrap .i64 ((BitVec.ofInt (IntKind.bits .i64) (IntKind.wrap .i64 (v : Int)) &&& BitVec.ofInt (IntKind.bits .i64) 127).toNat : Int) = ((v % 128 : Nat) : Int) := by
 rw [w64 (x := (v : Int)) (by omega) (by omega)]
 show IntKind.wrap .i64 ((BitVec.ofInt 64 (v : Int) &&& BitVec.ofInt 64 ((127 : Nat) : Int)).toNat : Int) = _
 rw [ofInt_nat, ofInt_nat, BitVec.toNat_and, BitVec.toNat_ofNat, BitVec.toNat_ofNat, Nat.mod_eq_of_lt (by omega), Nat.mod_eq_of_lt (by decide), show (127 : Nat) = 2 ^ 7 - 1 from rfl, Nat.and_two_pow_sub_one_eq_mod]
 exact w64 (by omega) (by omega)
theorem Ones_sum (w s : Nat) (h : ∃ p0 p1 p2 p3 p4 p5 p6 p7 : Nat, w = p0 + 256 * (p1 + 256 * (p2 + 256 * (p3 + 256 * (p4 + 256 * (p5 + 256 * (p6 + 256 * (p7 + 256 * 0))))))) ∧ s = p0 + p1 + p2 + p3 + p4 + p5 + p6 + p7 ∧ p0 ≤ 8 ∧ p1 ≤ 8 ∧ p2 ≤ 8 ∧ p3 ≤ 8 ∧ p4 ≤ 8 ∧ p5 ≤ 8 ∧ p6 ≤ 8 ∧ p7 ≤ 8) :
   IntKind.wrap .i64 ((BitVec.ofInt (IntKind.bits .i64) (IntKind.wrap .i64 (oc6 (oc5 (oc4 (w : Int))))) &&& BitVec.ofInt (IntKind.bits .i64) 127).toNat : Int) = ((s : Nat) : Int) := by
 obtain ⟨p0, p1, p2, p3, p4, p5, p6, p7, q, qs, c0, c1, c2, c3, c4, c5, c6, c7⟩ := h
 obtain ⟨r1, r2⟩ := sum4 q qs c0 c1 c2 c3 c4 c5 c6 c7 rfl rfl rfl
 clear q qs c0 c1 c2 c3 c4 c5 c6 c7
 generalize h1 : w + w / 256 = w1 at *
 generalize h2 : w1 + w1 / 65536 = w2 at *
 generalize h3 : w2 + w2 / 4294967296 = w3 at *
 rw [oc4_eq w (by omega), h1, oc5_eq w1 (by omega), h2, oc6_eq w2 (by omega), h3, oc7_eq w3 r2, r1]
theorem Ones_eq (x : Nat) (hx : x < 18446744073709551616) : fn_math_bits_OnesCount64 (x : Int) = some ((pc 64 x : Nat) : Int) := by
 rw [Ones_form, oc1_eq x hx, oc2_eq _ (s1_lt x), oc3_eq _ (s2_lt _), three64 x hx]
 exact congrArg some (Ones_sum _ _ (last4 x))
theorem pc_filter : ∀ (n x : Nat), pc n x = ((List.range n).filter (fun i => x.testBit i)).length
 | 0, _ => rfl
 | n + 1, x => by
   have e : (fun i => x.testBit i) ∘ Nat.succ = fun i => (x / 2).testBit i := funext fun i => by
     show x.testBit (i + 1) = _
     rw [Nat.testBit_succ]
   rw [show pc (n + 1) x = x % 2 + pc n (x / 2) from rfl, pc_filter n (x / 2), List.range_succ_eq_map, List.filter_cons, List.filter_map, e]
   have h0 : x.testBit 0 = decide (x % 2 = 1) := Nat.testBit_zero x
   rw [h0]
   by_cases h : x % 2 = 1
   · rw [if_pos (decide_eq_true h), List.length_cons, List.length_map, h]
     omega
   · rw [if_neg (by simpa using h), List.length_map]
     omega
def wsum (l : List Int) : Nat := (l.map fun w => pc 64 w.toNat).sum
theorem mem_cons (w : Int) (l : List Int) (i : Nat) : mem (w :: l) i = if i < 64 then w.toNat.testBit i else mem l (i - 64) := by
 unfold mem
 by_cases h : i < 64
 · rw [if_pos h, Nat.div_eq_of_lt h, Nat.mod_eq_of_lt h]
   rfl
 · rw [if_neg h, show i / 64 = (i - 64) / 64 + 1 by omega, show i % 64 = (i - 64) % 64 by omega]
   rfl
theorem wsum_eq : ∀ l : List Int, ((List.range (64 * l.length)).filter (mem l)).length = wsum l
 | [] => rfl
 | w :: l => by
   rw [show 64 * (w :: l).length = 64 + 64 * l.length by simp; omega, List.range_add, List.filter_append, List.length_append, List.filter_map, List.length_map]
   have e1 : (List.range 64).filter (mem (w :: l)) = (List.range 64).filter (fun i => w.toNat.testBit i) := List.filter_congr fun i hi => by
     rw [mem_cons, if_pos (List.mem_range.1 hi)]
   have e2 : (mem (w :: l)) ∘ (64 + ·) = mem l := funext fun i => by
     show mem (w :: l) (64 + i) = _
     rw [mem_cons, if_neg (by omega), Nat.add_sub_cancel_left]
   rw [e1, e2, wsum_eq l, ← pc_filter]
   simp [wsum]
theorem mems_len {n : Nat} {l : List Int} (h : Ds n l) : (mems n l).length = wsum l := by
 have hl := h.len
 rw [← wsum_eq]
 have := filter_gap (p := mem l) (c := n) (64 * l.length - n) (fun j h1 _ => h.top j h1)
 rw [show n + (64 * l.length - n) = 64 * l.length by omega] at this
 rw [this]
 rfl
theorem pc_le (n x : Nat) : pc n x ≤ n := by
 rw [pc_filter]; exact filter_len _ _
theorem wsum_snoc {l : List Int} {k : Nat} (hk : k < l.length) : wsum (l.take (k + 1)) = wsum (l.take k) + pc 64 (l[k]).toNat := by
 unfold wsum
 rw [take_snoc hk, List.map_append, List.sum_append]
 simp
theorem Count_some {n : Nat} {l : List Int} (h : Ds n l) : fn_dense_Set_Count (some ((n : Int), l)) = some (((mems n l).length : Nat) : Int) := by
 have hn := h.hn
 have hl := h.len
 have hb : ∀ k, k ≤ l.length → wsum (l.take k) ≤ 64 * k := fun k => by
   induction k with
   | zero => intro _; simp [wsum]
   | succ k ih =>
     intro hk
     have := ih (by omega)
     have h2 := pc_le 64 (l[k]).toNat
     rw [wsum_snoc (by omega : k < l.length)]
     omega
 unfold fn_dense_Set_Count
 have hlp : loop (fn_dense_Set_Count_l1 ((n : Int), l)) ((0 : Int), (0 : Int)) = some ((wsum l : Nat) : Int) := by
   have := loop_nat (body := fn_dense_Set_Count_l1 ((n : Int), l)) (fun k : Nat => (((wsum (l.take k) : Nat) : Int), (k : Int))) l.length (b := ((wsum l : Nat) : Int)) ?_ ?_
   · exact this
   · intro k hk
     unfold fn_dense_Set_Count_l1
     have hw := h.wd _ (List.getElem_mem hk)
     unfold Wd at hw
     obtain ⟨x, hx⟩ := Int.eq_ofNat_of_zero_le hw.1
     have ho := Ones_eq x (by omega)
     rw [← hx] at ho
     have hp : l[k].toNat = x := by omega
     have h1 := hb k (by omega)
     have h2 := hb (k + 1) (by omega)
     have e : wsum (l.take (k + 1)) = wsum (l.take k) + pc 64 x := by
       rw [wsum_snoc hk, hp]
     simp only [dlt hk, cond_true, getN hk, ho, Option.bind_some]
     rw [w64s hk (by omega), e, w64 (by omega) (by omega), ← Int.natCast_add]
   · unfold fn_dense_Set_Count_l1
     simp
 simp only [Option.isNone_some, cond_false, Option.bind_some]
 rw [hlp, mems_len h]
 rfl
theorem awake39 : fn_law39_awake = some true := by
 unfold fn_law39_awake
 have h : fn_pool_New_string 2 = some (.inr (0, some (2, []))) := by
   unfold fn_pool_New_string
   rw [show (mk 2 2 () : Option (List Unit)) = some (List.replicate 2 ()) from mkN (k := 2) (by decide)]
   rfl
 rw [h]
 simp only [Option.bind_some, putF, getF]
 unfold fn_pool_Pool_string_Len_p0_od fn_pool_Pool_string_Room_p0_od
 rfl
def Emp (n : Nat) (v : Option (Int × List Int)) : Prop := ∃ l, v = some ((n : Int), l) ∧ Ds n l ∧ ∀ j, mem l j = false
theorem mems_nil {n : Nat} {l : List Int} (h : ∀ j, mem l j = false) : mems n l = [] := by
 unfold mems
 rw [List.filter_eq_nil_iff]
 intro j _; rw [h j]; decide
theorem count0 {n : Nat} {l : List Int} (h : Ds n l) (he : ∀ j, mem l j = false) : fn_dense_Set_Count (some ((n : Int), l)) = some 0 := by
 rw [Count_some h, mems_nil he]; rfl
theorem size_some (n : Int) (l : List Int) : fn_dense_Set_Size (some (n, l)) = some n := rfl
theorem new_emp {n : Nat} (h : n ≤ 1048576) : ∃ l, fn_dense_New (n : Int) = some (.inr (0, (n : Int), l)) ∧ Ds n l ∧ ∀ j, mem l j = false := by
 refine ⟨List.replicate ((n + 63) / 64) 0, ?_, Ds_new h, fun j => mem_rep _ j⟩
 rw [New_some, if_neg (by omega), if_neg (by omega), Int.toNat_natCast]
theorem newSets_some {n room : Nat} (h : n ≤ 200) (h1 : 1 ≤ room) (h2 : room ≤ 20) : fn_pool_NewSets (n : Int) (room : Int) = some (.inr (0, (n : Int), some (some ((room : Int), [])))) := by
 unfold fn_pool_NewSets
 obtain ⟨l, e, _⟩ := new_emp (n := n) (by omega)
 have e2 : fn_pool_New_dense_Set (room : Int) = some (.inr (0, some ((room : Int), []))) := by
   unfold fn_pool_New_dense_Set
   rw [show decide ((room : Int) < 1) = false from decide_eq_false (by omega), show decide (65536 < (room : Int)) = false from decide_eq_false (by omega), mkN (k := room) (by omega)]
   rfl
 rw [e]
 simp [e2]
theorem newSets_neg : fn_pool_NewSets (-1) 0 = some (.inl 2) := by
 unfold fn_pool_NewSets
 rw [New_some]
 simp
theorem newSets_no : fn_pool_NewSets 0 0 = some (.inl 2) := by
 unfold fn_pool_NewSets
 rw [New_some]
 simp [fn_pool_New_dense_Set]
theorem take_new {n : Nat} (h : n ≤ 200) (made room : Int) : ∃ v, Emp n v ∧ fn_pool_Sets_Take_p0_iiod (n : Int) made (some (some (room, []))) = some (v, IntKind.wrap .i64 (made + 1), some (some (room, []))) := by
 obtain ⟨l, e, h1, h2⟩ := new_emp (n := n) (by omega)
 refine ⟨_, ⟨l, rfl, h1, h2⟩, ?_⟩
 unfold fn_pool_Sets_Take_p0_iiod fn_pool_Pool_dense_Set_Get_p0_od
 simp [e]
theorem take_old {n : Nat} (made room : Int) (v : Option (Int × List Int)) (q : List (Option (Int × List Int))) : fn_pool_Sets_Take_p0_iiod (n : Int) made (some (some (room, v :: q))) = some (v, made, some (some (room, q))) := by
 unfold fn_pool_Sets_Take_p0_iiod fn_pool_Pool_dense_Set_Get_p0_od
 simp
theorem emptied {n : Nat} {l : List Int} (h : Ds n l) {r : Int} (hr : fn_dense_Set_Next (some ((n : Int), l)) 0 = some r) : ∃ l', (loop (fn_pool_Sets_Give_p0p1_iiod_ir_l1 (n : Int)) (r, l) : Option (List Int)) = some l' ∧ Ds n l' ∧ ∀ j, mem l' j = false := by
 refine loop_inv (fun s => Ds n s.2 ∧ ((s.1 = -1 ∧ ∀ j : Nat, mem s.2 j = false) ∨ ∃ k : Nat, s.1 = (k : Int) ∧ k < n ∧ mem s.2 k = true ∧ ∀ j : Nat, j < k → mem s.2 j = false)) (fun s => if s.1 < 0 then 0 else n + 1 - s.1.toNat) (Q := fun l' => Ds n l' ∧ ∀ j, mem l' j = false) ?_ ?_
 · rintro ⟨r, l⟩ ⟨hd, h1⟩
   rcases h1 with ⟨rfl, he⟩ | ⟨k, rfl, hk, hm, hb⟩
   · exact .inr ⟨l, rfl, hd, he⟩
   · obtain ⟨l2, d1, d2, d3⟩ := Del_some hd (k : Int)
     obtain ⟨r2, n1, n2⟩ := Next_some d2 ((k : Int) + 1)
     have hn := hd.hn
     refine .inl ⟨(r2, l2), ?_, ?_, ?_⟩
     · unfold fn_pool_Sets_Give_p0p1_iiod_ir_l1
       dsimp only
       rw [show decide ((0 : Int) ≤ (k : Int)) = true from decide_eq_true (by omega)]
       simp only [cond_true]
       rw [d1]
       simp only [Option.bind_some]
       rw [w64 (x := (k : Int) + 1) (by omega) (by omega), n1]
       rfl
     · have hm2 : ∀ j : Nat, j < k + 1 → mem l2 j = false := by
         intro j hj
         rw [d3]
         by_cases e : j = k
         · subst e
           rw [show decide ((0 ≤ (j : Int) ∧ (j : Int) < (n : Int)) ∧ ((j : Int)).toNat = j) = true from decide_eq_true (by omega)]
           simp
         · have hb' : mem l j = false := hb j (by omega)
           rw [hb']; simp
       refine ⟨d2, ?_⟩
       rcases n2 with ⟨rfl, ha⟩ | ⟨k2, rfl, h3, h4, h5⟩
       · refine .inl ⟨rfl, fun j => ?_⟩
         by_cases hj : j < k + 1
         · exact hm2 j hj
         · exact ha j (by omega)
       · refine .inr ⟨k2, rfl, ?_, h4, fun j hj => ?_⟩
         · by_cases hc : k2 < n
           · exact hc
           · rw [d2.top k2 (by omega)] at h4; cases h4
         · by_cases hj2 : j < k + 1
           · exact hm2 j hj2
           · exact h5 j (by omega) hj
     · show (if r2 < 0 then 0 else n + 1 - r2.toNat) < (if (k : Int) < 0 then 0 else n + 1 - ((k : Int)).toNat)
       rcases n2 with ⟨rfl, _⟩ | ⟨k2, rfl, h3, h4, _⟩
       · rw [if_pos (by decide), if_neg (by omega)]; omega
       · rw [if_neg (by omega), if_neg (by omega)]; omega
 · refine ⟨h, ?_⟩
   obtain ⟨r2, n1, n2⟩ := Next_some h 0
   rw [hr] at n1; cases n1
   rcases n2 with ⟨rfl, ha⟩ | ⟨k2, rfl, h3, h4, h5⟩
   · exact .inl ⟨rfl, fun j => ha j (by omega)⟩
   · refine .inr ⟨k2, rfl, ?_, h4, fun j hj => h5 j (by omega) hj⟩
     by_cases hc : k2 < n
     · exact hc
     · rw [h.top k2 (by omega)] at h4; cases h4
theorem give_room {n : Nat} {l : List Int} (h : Ds n l) (made room : Int) (q : List (Option (Int × List Int))) (hq : ((q.length : Nat) : Int) < room) : ∃ v, Emp n v ∧ fn_pool_Sets_Give_p0p1_iiod_ir (n : Int) made (some (some (room, q))) (n : Int) l = some (.inr (some (some (room, q ++ [v])))) := by
 obtain ⟨r, n1, _⟩ := Next_some h 0
 obtain ⟨l', e, h1, h2⟩ := emptied h n1
 refine ⟨_, ⟨l', rfl, h1, h2⟩, ?_⟩
 unfold fn_pool_Sets_Give_p0p1_iiod_ir fn_dense_Set_All_p0_ir fn_pool_Pool_dense_Set_Put_p0p1_od_ir
 rw [size_some]
 simp only [Option.bind_some, decide_true, Bool.not_true, cond_false, n1, e, decide_eq_true hq, cond_true]
theorem give_full {n : Nat} {l : List Int} (h : Ds n l) (made room : Int) (q : List (Option (Int × List Int))) (hq : ¬ ((q.length : Nat) : Int) < room) : ∃ l', Ds n l' ∧ (∀ j, mem l' j = false) ∧ fn_pool_Sets_Give_p0p1_iiod_ir (n : Int) made (some (some (room, q))) (n : Int) l = some (.inl (some (some (room, q)), l')) := by
 obtain ⟨r, n1, _⟩ := Next_some h 0
 obtain ⟨l', e, h1, h2⟩ := emptied h n1
 refine ⟨l', h1, h2, ?_⟩
 unfold fn_pool_Sets_Give_p0p1_iiod_ir fn_dense_Set_All_p0_ir fn_pool_Pool_dense_Set_Put_p0p1_od_ir
 rw [size_some]
 simp only [Option.bind_some, decide_true, Bool.not_true, cond_false, n1, e, decide_eq_false hq]
theorem take_any {n : Nat} (h : n ≤ 200) (m room : Int) (q : List (Option (Int × List Int))) (hq : ∀ v ∈ q, Emp n v) (hm : 0 ≤ m ∧ m ≤ 40) (hl : ((q.length : Nat) : Int) ≤ room) (hr : 1 ≤ room) (hr2 : room ≤ 20) :
   ∃ v q' m', Emp n v ∧ (∀ v ∈ q', Emp n v) ∧ 0 ≤ m' ∧ m' ≤ m + 1 ∧ ((q'.length : Nat) : Int) < room ∧ fn_pool_Sets_Take_p0_iiod (n : Int) m (some (some (room, q))) = some (v, m', some (some (room, q'))) ∧
   (cond (decide (0 < ((q.length : Nat) : Int))) (some ((IntKind.wrap .i64 (((q.length : Nat) : Int) - 1), m))) (some ((((q.length : Nat) : Int), IntKind.wrap .i64 (m + 1)))) : Option (Int × Int)) = some (((q'.length : Nat) : Int), m') := by
 cases q with
 | nil =>
   obtain ⟨v, hv, e⟩ := take_new h m room
   rw [w64 (x := m + 1) (by omega) (by omega)] at e
   refine ⟨v, [], m + 1, hv, (fun _ hx => by cases hx), by omega, by omega, (by show ((0 : Nat) : Int) < room; omega), e, ?_⟩
   rw [w64 (x := m + 1) (by omega) (by omega)]
   rfl
 | cons v q =>
   refine ⟨v, q, m, hq v (by simp), fun x hx => hq x (by simp [hx]), hm.1, by omega, ?_, take_old m room v q, ?_⟩
   · simp only [List.length_cons] at hl; omega
   · rw [show decide (0 < (((v :: q).length : Nat) : Int)) = true from decide_eq_true (by simp only [List.length_cons]; omega)]
     simp only [cond_true, List.length_cons] at hl ⊢
     rw [w64 (by omega) (by omega)]
     congr 2; omega
theorem fullsets {n room : Nat} (h : n ≤ 200) (h1 : 1 ≤ room) (h2 : room ≤ 20) (xc : List Int) (hc : xc.length ≤ 40) :
   (loop (fn_law39_PoolSets_l1 (n : Int) (room : Int) xc (n : Int)) (0, 0, 0, 0, some (some ((room : Int), []))) : Option (Unit ⊕ Bool)) = some (.inl ()) := by
 refine loop_val (fun s => ∃ (q : List (Option (Int × List Int))) (i : Nat) (m : Int), s = (((q.length : Nat) : Int), m, (i : Int), m, some (some ((room : Int), q))) ∧ (∀ v ∈ q, Emp n v) ∧ q.length ≤ room ∧ i ≤ xc.length ∧ 0 ≤ m ∧ m ≤ i) (fun s => xc.length - s.2.2.1.toNat) ?_ ⟨[], 0, 0, rfl, fun _ hx => (by cases hx), by simp, by omega, by omega, by omega⟩
 rintro _ ⟨q, i, m, rfl, hq, hql, hi, hm0, hm1⟩
 by_cases hlt : i < xc.length
 · refine .inl ?_
   obtain ⟨v, q', m', hv, hq', k1, k2, k3, hT, hC⟩ := take_any h m (room : Int) q hq ⟨hm0, by omega⟩ (by omega) (by omega) (by omega)
   obtain ⟨l, rfl, hd, he⟩ := hv
   have hg : getI xc (i : Int) = some xc[i] := getN hlt
   obtain ⟨l1, a1, a2, _⟩ := Add_some hd xc[i]
   obtain ⟨l2, b1, b2, _⟩ := Add_some a2 0
   obtain ⟨v2, hv2, g2⟩ := give_room b2 m' (room : Int) q' k3
   obtain ⟨v3, hv3, t3⟩ := take_new h 0 (room : Int)
   obtain ⟨l3, rfl, hd3, _⟩ := hv3
   obtain ⟨l4, c1, c2, _⟩ := Add_some hd3 0
   have hw1 : IntKind.wrap .i64 (((q'.length : Nat) : Int) + 1) = ((q'.length + 1 : Nat) : Int) := by rw [w64 (by omega) (by omega)]; simp
   have hwi : IntKind.wrap .i64 ((i : Int) + 1) = ((i + 1 : Nat) : Int) := by rw [w64 (by omega) (by omega)]; simp
   have hql2 : (((q' ++ [v2]).length : Nat) : Int) = ((q'.length + 1 : Nat) : Int) := by simp
   unfold fn_law39_PoolSets_l1
   dsimp only
   rw [show decide ((i : Int) < ((xc.length : Nat) : Int)) = true from decide_eq_true (by omega)]
   simp only [cond_true, hT, Option.bind_some, hC, Option.isNone_some, cond_false, size_some, decide_true, Bool.not_true, count0 hd he, fn_pool_Sets_Made_p0_iiod, hg, a1, b1]
   by_cases hb : decide ((IntKind.wrap .i64 ((BitVec.ofInt (IntKind.bits .i64) xc[i] &&& BitVec.ofInt (IntKind.bits .i64) 1).toNat : Int)) = 0) = true
   · rw [hb]
     simp only [cond_true, g2, Option.bind_some, decide_eq_true k3, BEq.rfl, Bool.not_true, cond_false, newSets_some h h1 h2, t3, c1, hw1]
     by_cases hr : ((q'.length + 1 : Nat) : Int) < (room : Int)
     · obtain ⟨v4, hv4, g4⟩ := give_room c2 m' (room : Int) (q' ++ [v2]) (by rw [hql2]; exact hr)
       have hw2 : IntKind.wrap .i64 (((q'.length + 1 : Nat) : Int) + 1) = ((q'.length + 2 : Nat) : Int) := by rw [w64 (by omega) (by omega)]; omega
       simp only [g4, Option.bind_some, decide_eq_true hr, BEq.rfl, Bool.not_true, cond_false, cond_true, hw2, hwi]
       refine ⟨_, rfl, ⟨q' ++ [v2] ++ [v4], i + 1, m', by simp, ?_, by simp; omega, by omega, k1, by omega⟩, ?_⟩
       · intro x hx
         simp only [List.mem_append, List.mem_singleton] at hx
         rcases hx with (hx | rfl) | rfl
         · exact hq' x hx
         · exact hv2
         · exact hv4
       · show xc.length - (((i + 1 : Nat) : Int)).toNat < xc.length - ((i : Int)).toNat
         omega
     · obtain ⟨l5, d5, e5, g4⟩ := give_full c2 m' (room : Int) (q' ++ [v2]) (by rw [hql2]; exact hr)
       simp only [g4, Option.bind_some, decide_eq_false hr, BEq.rfl, Bool.not_true, cond_false, count0 d5 e5, decide_true, hwi]
       refine ⟨_, rfl, ⟨q' ++ [v2], i + 1, m', by simp, ?_, by simp; omega, by omega, k1, by omega⟩, ?_⟩
       · intro x hx
         simp only [List.mem_append, List.mem_singleton] at hx
         rcases hx with hx | rfl
         · exact hq' x hx
         · exact hv2
       · show xc.length - (((i + 1 : Nat) : Int)).toNat < xc.length - ((i : Int)).toNat
         omega
   · rw [Bool.not_eq_true] at hb
     rw [hb]
     simp only [cond_false, hwi]
     refine ⟨_, rfl, ⟨q', i + 1, m', rfl, hq', by omega, by omega, k1, by omega⟩, ?_⟩
     show xc.length - (((i + 1 : Nat) : Int)).toNat < xc.length - ((i : Int)).toNat
     omega
 · refine .inr ?_
   unfold fn_law39_PoolSets_l1
   dsimp only
   rw [show decide ((i : Int) < ((xc.length : Nat) : Int)) = false from decide_eq_false (by omega)]
   rfl
theorem PoolSets_true (xa : Int) (xb : Int) (xc : (List Int)) (k0 : Tp.Ok (.int .i64) xa) (k1 : Tp.Ok (.int .i64) xb) (k2 : Tp.Ok (.sl (.int .i64)) xc) : fn_law39_PoolSets xa xb xc = some true := by
 unfold fn_law39_PoolSets
 by_cases h : 0 ≤ xa ∧ xa ≤ 200 ∧ 1 ≤ xb ∧ xb ≤ 20 ∧ ((xc.length : Nat) : Int) ≤ 40
 · obtain ⟨h1, h2, h3, h4, h5⟩ := h
   obtain ⟨n, rfl⟩ := Int.eq_ofNat_of_zero_le h1
   obtain ⟨room, rfl⟩ := Int.eq_ofNat_of_zero_le (a := xb) (by omega)
   rw [show (((((decide ((n : Int) < 0)) || (decide (200 < (n : Int)))) || (decide ((room : Int) < 1))) || (decide (20 < (room : Int)))) || (decide (40 < (((xc.length : Nat) : Int))))) = false by
     simp only [Bool.or_eq_false_iff, decide_eq_false_iff_not]; omega]
   simp only [cond_false, newSets_some (n := n) (room := room) (by omega) (by omega) (by omega), Option.bind_some, decide_true, Bool.not_true, fullsets (n := n) (room := room) (by omega) (by omega) (by omega) xc (by omega), awake39]
 · rw [show (((((decide (xa < 0)) || (decide (200 < xa))) || (decide (xb < 1))) || (decide (20 < xb))) || (decide (40 < (((xc.length : Nat) : Int))))) = true by
     simp only [Bool.or_eq_true, decide_eq_true_eq]; omega]
   simp only [cond_true, newSets_neg, newSets_no, Option.bind_some, decide_true, Bool.and_self, awake39]
theorem PoolSets_walk {H : Type} (enc : TypeId × Value → H) (W : World) (base : Nat) {v0 v1 v2 : Value} {d0 d1 d2 : DataW H} {p0 p1 p2 : List MemPlace}
   (h0 : DataW.Trod enc Tryd.prog W 0 (fun _ => true) true 3 v0 d0 p0) (h1 : DataW.Trod enc Tryd.prog W 0 (fun _ => true) true 3 v1 d1 p1) (h2 : DataW.Trod enc Tryd.prog W 0 (fun _ => true) true 22 v2 d2 p2)
   (o0 : Value.okWide Tryd.prog W .any base 3 v0) (o1 : Value.okWide Tryd.prog W .any base 3 v1) (o2 : Value.okWide Tryd.prog W .any base 22 v2)
   (hgk : tzGk (Hp.of W)) :
   Calls Tryd.prog 3 #[v0, v1, v2] W fun e W' => e = .returned (.bool true) ∧ Below W.heap.size W W' := by
 obtain ⟨xa, i0, k0⟩ := Tp.arg (.int .i64) (by kernel_rfl) o0 h0
 obtain ⟨xb, i1, k1⟩ := Tp.arg (.int .i64) (by kernel_rfl) o1 h1
 obtain ⟨xc, i2, k2⟩ := Tp.arg (.sl (.int .i64)) (by kernel_rfl) o2 h2
 exact walkX (s := sp_law39_PoolSets) (x := (xa, xb, xc)) (args := [v0, v1, v2]) law39_PoolSets_is (PoolSets_true xa xb xc k0 k1 k2) hgk rfl rfl ⟨_, _, rfl, of_rel _ i0, _, _, rfl, of_rel _ i1, _, _, rfl, of_rel _ i2, rfl⟩
theorem tz_tab : ∀ j, j < 64 → (Lib.deBruijn64tab.map Int.ofNat).getD j 0 = ((Lib.deBruijn64tab.getD j 0 : Nat) : Int) := by decide +kernel
theorem tzGk_of {W : World} {rest : List (String × DataW Unit)} (h : laidMet Tryd.prog (("math/bits.deBruijn64tab", Rows.laid_math_bits_deBruijn64tab) :: rest) W) : tzGk (Hp.of W) := by
 have hg : Tryd.prog.globalNamed "math/bits.deBruijn64tab" = some 0 := by kernel_rfl
 have hT : Lib.TabIs Tryd.prog W "math/bits.deBruijn64tab" .u8 (Lib.deBruijn64tab.map Int.ofNat) :=
   Lib.tabIs_of_head (t := 74) (e := 5) (n := 64) hg (by kernel_rfl) (by kernel_rfl) (by kernel_rfl) (by kernel_rfl) (by kernel_rfl) h
 intro j hj
 rw [← tz_tab j hj]
 exact cellK_of (hT.cell hg j (by simpa [Lib.deBruijn64tab] using hj))
end Go.Proofs.YtmlbbjkojaljnaaDoor
namespace Go.Proofs.YtmlbbjkojaljnaaDoor.poolSetsFrame
set_option maxRecDepth 40000
open Go.ChangeShapes Go.WideShapes Go.ChangeAt Go.RowKit
theorem own : ownKnob Tryd.prog.godebug = none := by kernel_rfl
theorem contract (H : Type) (enc : TypeId × Value → H) (W : World) (base : Nat) (args : Array Value) (ds gs : List (DataW H)) (before : List MemPlace)
    (hval : ∀ (j : Nat) t v, Tryd.f3.params[j]? = some t → args[j]? = some v → Value.okWide Tryd.prog W .any base t v)
    (hW : DataW.Whole enc Tryd.prog Tryd.f3.params.toList Rows.poolSetsSpec.vars false W args.toList ds gs before) (hgk : tzGk (Hp.of W)) :
    Calls Tryd.prog 3 args W fun e W' => ∃ v, e = .returned v ∧ Rows.poolSetsSpec.post enc Tryd.prog Tryd.f3 false true false false W args v W' := by
  have hW' := hW
  obtain ⟨p, q, hA0, hV, rfl, hfz, hnd⟩ := hW
  have hA : DataW.TrodAll enc Tryd.prog W 0 (fun _ => true) true Tryd.f3.params.toList args.toList ds p := hA0
  rw [Tryd.params3] at hA hval
  obtain ⟨v0, vs0, d0, ds0, p0, q0, hargs, rfl, rfl, h0, r0⟩ := trodAll_cons hA
  obtain ⟨v1, vs1, d1, ds1, p1, q1, rfl, rfl, rfl, h1, r1⟩ := trodAll_cons r0
  obtain ⟨v2, vs2, d2, ds2, p2, q2, rfl, rfl, rfl, h2, r2⟩ := trodAll_cons r1
  obtain ⟨rfl, rfl, rfl⟩ := trodAll_nil r2
  obtain rfl : args = #[v0, v1, v2] := by cases args; simp_all
  refine (PoolSets_walk enc W base h0 h1 h2 (hval 0 _ v0 rfl rfl) (hval 1 _ v1 rfl rfl) (hval 2 _ v2 rfl rfl) hgk).mono fun e W' ⟨he, hb⟩ => ?_
  subst he
  exact ⟨_, rfl, law_post (tb := _) rfl hW' rfl rfl (by kernel_rfl) (by kernel_rfl) (of_decide_eq_true (by kernel_rfl)) hb⟩
noncomputable def world (os : Os) : World := World.laidAll Tryd.prog os Rows.poolSetsRow.laid
theorem reads (os : Os) {H : Type} (enc : TypeId × Value → H) : ∃ x, DataW.whole enc Tryd.prog ((world os).forCall (fun _ _ => 0) ⟨#[], #[.int .i64 0, .int .i64 0, .slice none 0 0], []⟩).memory Tryd.f3.params.toList Rows.poolSetsSpec.vars false (#[.int .i64 0, .int .i64 0, .slice none 0 0] : Array Value).toList 8 = some x :=
  Option.isSome_iff_exists.1 (by kernel_rfl)
set_option maxRecDepth 100000 in
theorem lifted (os : Os) (started : os.Started) (H : Type) (enc : TypeId × Value → H) (F : Stop.Interp) :
    ReturnsInHanded {} Tryd.checked os 3 .any ((OpenSpec.ofChange Rows.poolSetsSpec).preRow enc Tryd.prog Tryd.f3 Rows.poolSetsRow.domain false Rows.poolSetsRow.laid) (((OpenSpec.ofChange Rows.poolSetsSpec).at F).post enc Tryd.prog Tryd.f3 false true false false) := by
  obtain ⟨x, hx⟩ := reads os enc
  refine returnsInHanded_of_row (C := Tryd.checked) (s := OpenSpec.ofChange Rows.poolSetsSpec) own started (by kernel_rfl) Tryd.func3
    ⟨world os, fun _ _ => 0, ⟨#[], #[.int .i64 0, .int .i64 0, .slice none 0 0], []⟩, World.laidAll_os _ _ _, World.shaped_of_ZipB (by kernel_rfl) (by kernel_rfl), rfl, (Input.okWide_of_okWideB (by kernel_rfl)).2,
      OpenSpec.preRow_of_cond 8 hx (by kernel_rfl) (fun k hk => by cases hk) (by kernel_rfl) (by rw [MakeChecks.laidMetH_plain _ _ _ (by kernel_rfl)]; exact laidMet_laidAll _ (by kernel_rfl) (by kernel_rfl)),
      by simp only [Assume.holds]; exact ⟨by simp, by simp, by simp, by simp, by simp⟩⟩ ?_
  intro W base args ds gs before hval hW _ _ _ hL _ _
  exact contract H enc W base args ds gs before hval hW (tzGk_of (rest := []) (by rw [MakeChecks.laidMetH_plain _ _ _ (by kernel_rfl)] at hL; exact hL))
theorem proved : Rows.PoolSetsSaid :=
  OpenClaim.holds_of_cond 3 Tryd.f3 rfl rfl rfl rfl rfl rfl rfl ⟨rfl, rfl, rfl, rfl, rfl⟩ rfl rfl rfl rfl rfl (by kernel_rfl) Tryd.func3 (by kernel_rfl)
    (of_decide_eq_true (by kernel_rfl)) (by unfold Func.isWrapper; first | (rw [if_pos (by decide +kernel)]; kernel_rfl) | (rw [if_neg (by decide +kernel)]; exact ⟨rfl, rfl⟩))
    (fun os started H enc _ F => by rw [OpenClaim.pre_eq_preRow]; exact lifted os started H enc F)
theorem card : Rows.PoolSetsCardSaid :=
  Claim7.holds_tied_plain_at .later [] [.data] true (true, "f4e9763ac16a8ca2ade756a676b4130c2ddf149700c301966da13f33e7b866e7") false proved (fun _ h => by cases h) (by kernel_rfl) (fun _ h => by cases h) poolSets_row_tie rfl ⟨rfl, rfl⟩ (by kernel_rfl) rfl
    (fun f fn hf hfn => by
      obtain rfl : f = 3 := Option.some.inj ((show Tryd.prog.funcNamed "easement/easementlaw39.PoolSets" = some 3 by kernel_rfl).symm.trans hf) |>.symm
      obtain rfl : fn = Tryd.f3 := (Option.some.inj (Tryd.func3.symm.trans hfn)).symm
      exact ⟨by kernel_rfl, fun j t ht => by
        rw [Tryd.params3] at ht
        have hm : t ∈ [3, 3, 22] := by simpa using Array.mem_of_getElem? ht
        have hall : ([3, 3, 22].all fun u => !Tryd.prog.wantsStandIn u) = true := by kernel_rfl
        exact (show Tryd.prog.wantsStandIn t = false by simpa using List.all_eq_true.1 hall t hm)⟩)
    (by kernel_rfl)
end Go.Proofs.YtmlbbjkojaljnaaDoor.poolSetsFrame
