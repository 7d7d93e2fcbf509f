/- strings.Builder, as bytes that it holds: its methods, judged. -/
import Derived.Test.YthmnkgldkjkheaaDoorDt
import Derived.Test.YthmnkgldkjkheaaDoorRows
import Derived.Test.YthmnkgldkjkheaaDoorOs
import Derived.Lib.Builder
import Derived.RegionTactic
namespace Go.Proofs.YthmnkgldkjkheaaDoor
open Go.RowKit
set_option linter.unusedVariables false
set_option maxRecDepth 40000
section
variable {P : Program} {K : Hp}
theorem Tr.exA {f : FuncId} {args : Array Value} {α : Type} {A : α → Atom} {L : List Atom} {R : Value → Hp → List Atom → Prop} (h : ∀ x, Tr P f args K (A x :: L) R) : Tr P f args K (Go.Proofs.YthmnkgldkjkheaaDoor.exA A :: L) R := fun E w F hs => by
  obtain ⟨x, hx⟩ := Sep.open hs
  exact h x E w F hx
theorem Tr.star {f : FuncId} {args : Array Value} {A B : Atom} {L : List Atom} {R : Value → Hp → List Atom → Prop} (h : Tr P f args K (A :: B :: L) R) : Tr P f args K (Go.Proofs.YthmnkgldkjkheaaDoor.star A B :: L) R := fun E w F hs => h E w F (Sep.split hs)
theorem Tr.to {f : FuncId} {args : Array Value} {L : List Atom} {R R' : Value → Hp → List Atom → Prop} (h : Tr P f args K L R) (k : ∀ v K' L', R v K' L' → ∃ L2, R' v K' L2 ∧ ∀ E w F, Sep E K' (L' ++ F) w → Sep E K' (L2 ++ F) w) : Tr P f args K L R' := fun E w F hs =>
  (h E w F hs).mono fun e w' ⟨v, K', L', h1, h2, h3, h4⟩ => by
    obtain ⟨L2, h5, h6⟩ := k v K' L' h2
    exact ⟨v, K', L2, h1, h5, h3, h6 E w' F h4⟩
end
/-- The bytes, as what cells hold. -/
def bl (l : List UInt8) : List Int := l.map fun x => (x.toNat : Int)
theorem bl_app (a b : List UInt8) : bl (a ++ b) = bl a ++ bl b := by simp [bl]
theorem bl_len (l : List UInt8) : (bl l).length = l.length := by simp [bl]
def wrB (l : List UInt8) (c : Int) : Option (List UInt8) := if 0 ≤ c ∧ c < 256 then app l [UInt8.ofNat c.toNat] else none
theorem wrB_some {l r : List UInt8} {c : Int} (h : wrB l c = some r) : app (bl l) [c] = some (bl r) := by
  unfold wrB at h; split at h
  · rename_i hc
    obtain ⟨h1, rfl⟩ := app_some h
    rw [app_eq (by rw [bl_len]; simpa using h1), bl_app]
    congr 2
    simp [bl]
    omega
  · cases h
theorem wrB_eq {l : List UInt8} {c : UInt8} (h : l.length + 1 ≤ 1073741824) : wrB l (c.toNat : Int) = some (l ++ [c]) := by
  have : c.toNat < 256 := c.toNat_lt
  unfold wrB; rw [if_pos ⟨by omega, by omega⟩, app_eq (by simpa using h)]; simp
def wrS (l s : List UInt8) : Option (List UInt8) := app l s
def Bld (b : Nat) (l : List UInt8) : Atom := Go.Proofs.YthmnkgldkjkheaaDoor.exA fun a : { a : Value // a = .pointer none ∨ a = .pointer (some ⟨b, 0, none⟩) } => Go.Proofs.YthmnkgldkjkheaaDoor.exA fun v : Value => Go.Proofs.YthmnkgldkjkheaaDoor.star (Cl b 44 [a.1, v]) (Row Hp.nil 5 (.int .u8) v (bl l))
theorem Bld.make {E : En} {K : Hp} {L : List Atom} {w : World} {b : Nat} {l : List UInt8} {a v : Value} (ha : a = .pointer none ∨ a = .pointer (some ⟨b, 0, none⟩)) (h : Sep E K (Cl b 44 [a, v] :: Row Hp.nil 5 (.int .u8) v (bl l) :: L) w) : Sep E K (Bld b l :: L) w :=
  Sep.close (A := fun a : { a : Value // a = .pointer none ∨ a = .pointer (some ⟨b, 0, none⟩) } => Go.Proofs.YthmnkgldkjkheaaDoor.exA fun v : Value => Go.Proofs.YthmnkgldkjkheaaDoor.star (Cl b 44 [a.1, v]) (Row Hp.nil 5 (.int .u8) v (bl l))) ⟨a, ha⟩ (Sep.close v (Sep.join h))
/-- A builder that was made just now. -/
theorem Bld.fresh {E : En} {K : Hp} {L : List Atom} {w : World} {b : Nat} (h : Sep E K (Cl b 44 [.pointer none, .slice none 0 0] :: L) w) : Sep E K (Bld b [] :: L) w :=
  Bld.make (.inl rfl) (Sep.swap (Sep.rowNil h))
set_option maxHeartbeats 400000 in
theorem copyCheck_nil (b : Nat) (v : Value) (w : World) (hbk : w.heap[b]? = some (.cells #[.pointer none, v] 44 (0, 0))) :
    Calls Tryd.prog 27 #[.pointer (some ⟨b, 0, none⟩)] w fun e w' => e = .returned (.tuple #[]) ∧ w' = w.setCell ⟨b, 0, none⟩ (.pointer (some ⟨b, 0, none⟩)) := by
  have c0 : w.cell? ⟨b, 0, none⟩ = some (.pointer none) := by simp [World.cell?, hbk]
  have f0 : w.frozen? ⟨b, 0, none⟩ = false := Lib.frozen_of_heap hbk 0
  have S : w.shape? b = some (44, 2) := by simp [World.shape?, hbk]
  clear hbk
  obtain ⟨j, hj, hjs⟩ := Option.map_eq_some_iff.1 (show (Tryd.prog.info? 44).map (·.size) = some 2 by kernel_rfl)
  go_enter Tryd.func27, Tryd.ntmps27
  go_wp2
  rw [Lib.run_to_unsafe w ⟨b, 0, none⟩ Tryd.underlying42 Tryd.underlying58 hj (by rw [hjs]; decide) S (Nat.zero_lt_succ 1)]
  simp only [Result.andThen]
  rw [Oper.upon_value]
  go_wp2
  rw [run_callFunc_extern Tryd.func30 (by kernel_rfl) (by kernel_rfl) (by kernel_rfl) (e := Extern.AbiNoEscape.same) (by kernel_rfl)]
  rw [Lib.run_noEscape]
  simp only [Result.andThen]
  rw [Oper.upon_value]
  go_wp2
  rw [Lib.run_from_unsafe w ⟨b, 0, none⟩ Tryd.underlying58 Tryd.underlying42 hj S (by kernel_rfl)]
  simp only [Result.andThen]
  rw [Oper.upon_value]
  go_wp2
  go_end0
  exact ⟨rfl, rfl⟩
theorem copyCheck_self (b : Nat) (v : Value) (w : World) (hbk : w.heap[b]? = some (.cells #[.pointer (some ⟨b, 0, none⟩), v] 44 (0, 0))) :
    Calls Tryd.prog 27 #[.pointer (some ⟨b, 0, none⟩)] w fun e w' => e = .returned (.tuple #[]) ∧ w' = w := by
  have c0 : w.cell? ⟨b, 0, none⟩ = some (.pointer (some ⟨b, 0, none⟩)) := by simp [World.cell?, hbk]
  clear hbk
  obtain ⟨j, hj, hjs⟩ := Option.map_eq_some_iff.1 (show (Tryd.prog.info? 44).map (·.size) = some 2 by kernel_rfl)
  go_enter Tryd.func27, Tryd.ntmps27
  go_wp2
  rw [Lib.run_neq_ptr_same w _ Tryd.underlying42 hj]
  go_wp2
  go_end0
  exact ⟨rfl, rfl⟩
theorem copyCheck_tr {K : Hp} (b : Nat) (a v : Value) (ha : a = .pointer none ∨ a = .pointer (some ⟨b, 0, none⟩)) : Tr Tryd.prog 27 #[.pointer (some ⟨b, 0, none⟩)] K [Cl b 44 [a, v]] (fun u K' L' => (.tuple #[] = u ∧ L' = [Cl b 44 [.pointer (some ⟨b, 0, none⟩), v]]) ∧ K = K') := fun E w F hs => by
  have hc := hs.cl
  rcases ha with rfl | rfl
  · refine (copyCheck_nil b v w hc).mono fun e w' ⟨h1, h2⟩ => ?_
    subst h1; subst h2
    exact ⟨_, K, _, rfl, ⟨⟨rfl, rfl⟩, rfl⟩, Hp.le_refl K, Sep.setCell hs 0 _⟩
  · refine (copyCheck_self b v w hc).mono fun e w' ⟨h1, h2⟩ => ?_
    subst h1; subst h2
    exact ⟨_, K, _, rfl, ⟨⟨rfl, rfl⟩, rfl⟩, Hp.le_refl K, hs⟩
theorem infU8 : Inf Tryd.prog 5 (.int .u8 0) 1 1 := by unfold Inf; kernel_rfl
theorem szBuf : (Tryd.prog.info? 41).map (·.size) = some 1 := by kernel_rfl
theorem nzBuf : Tryd.prog.cellsOf 41 ≠ 0 := by decide +kernel
theorem scBuf : scalar Tryd.prog 41 = true := by kernel_rfl
theorem copyCheck_row {K : Hp} {pba : Nat} {a0 v : Value} {l : List Int} (ha : a0 = .pointer none ∨ a0 = .pointer (some ⟨pba, 0, none⟩)) : Tr Tryd.prog 27 #[.pointer (some ⟨pba, 0, none⟩)] K [Cl pba 44 [a0, v], Row Hp.nil 5 (.int .u8) v l] (fun u K' L' => (.tuple #[] = u ∧ L' = [Cl pba 44 [.pointer (some ⟨pba, 0, none⟩), v], Row Hp.nil 5 (.int .u8) v l]) ∧ K = K') := fun E w F hs =>
  (copyCheck_tr pba a0 v ha E w (Row Hp.nil 5 (.int .u8) v l :: F) hs).mono fun e w' ⟨u, K', L', h1, ⟨⟨h2, h3⟩, h4⟩, h5, h6⟩ => by
    subst h3
    exact ⟨u, K', _, h1, ⟨⟨h2, rfl⟩, h4⟩, h5, h6⟩
set_option maxRecDepth 100000 in
theorem WriteByte_row {K : Hp} {pba : Nat} {a0 : Value} {ad : Option Addr} {cp : Nat} {l z : List Int} {c : Int} (ha : a0 = .pointer none ∨ a0 = .pointer (some ⟨pba, 0, none⟩)) (hz : Go.Proofs.YthmnkgldkjkheaaDoor.app l [c] = some z) :
    Tr Tryd.prog 20 #[.pointer (some ⟨pba, 0, none⟩), .int .u8 c] K [Cl pba 44 [a0, .slice ad l.length cp], Row Hp.nil 5 (.int .u8) (.slice ad l.length cp) l] (fun v K' L' => (∃ (ad2 : Option Addr) (cp2 : Nat), .nilIface = v ∧ L' = [Cl pba 44 [.pointer (some ⟨pba, 0, none⟩), .slice ad2 z.length cp2], Row Hp.nil 5 (.int .u8) (.slice ad2 z.length cp2) z]) ∧ K = K') := by
  refine Tr.k ?_
  refine Tr.of Tryd.func20 rfl Tryd.ntmps20 rfl (fun E F => ?_)
  refine CJ.seq ?_
  refine CJ.region ?_
  refine J.val (v := .nilIface) rfl rfl (V.as rfl) ?_
  refine J.nil ?_
  refine CJ.seq ?_
  refine CJ.region ?_
  refine J.val rfl rfl (V.mv rfl) ?_
  refine J.op rfl (A.call (L1 := [Cl pba 44 [a0, .slice ad l.length cp], Row Hp.nil 5 (.int .u8) (.slice ad l.length cp) l]) Tryd.call27 rfl (copyCheck_row ha) rfl rfl) ?_
  rintro _ _ _ ⟨v23, _, rfl, ⟨⟨rfl, rfl⟩, rfl⟩, _, rfl⟩
  refine J.nil ?_
  refine CJ.seq ?_
  refine CJ.region ?_
  refine J.val rfl rfl (V.mv rfl) ?_
  refine J.val rfl rfl (V.mv rfl) ?_
  refine J.val rfl rfl (V.nck rfl) ?_
  refine J.val rfl rfl (V.fad Tryd.underlying44 rfl nzBuf rfl) ?_
  refine J.val (v := .slice ad l.length cp) rfl rfl (V.ld rfl (Ld.sc scBuf (Rd.cl 0 rfl rfl))) ?_
  refine J.val (v := .int .u8 c) rfl rfl (V.mv rfl) ?_
  refine J.op rfl (A.lit (K0 := Hp.nil) (ty := (.int .u8)) (xs := ([c] : List Int)) Tryd.underlying41 infU8 rfl (by decide) rfl rfl rfl ⟨_, _, rfl, rfl, rfl⟩ rfl (by decide)) ?_
  rintro _ _ _ ⟨b27, rfl, rfl, rfl⟩
  refine J.front 2 rfl ?_
  refine J.front 1 rfl ?_
  refine J.front 1 rfl ?_
  refine J.op rfl (A.appR (Kr := Hp.nil) Tryd.underlying41 infU8 rfl rfl (by decide) (by decide) rfl rfl (Els.flat rfl) (Els.flat rfl) hz) ?_
  rintro _ _ _ ⟨v32, rfl, rfl, rfl⟩
  refine J.wit Row.form ?_
  rintro ⟨ad33, cp34, rfl, _, _, hn35⟩
  refine J.val rfl rfl (V.nck rfl) ?_
  refine J.val rfl rfl (V.fad Tryd.underlying44 rfl nzBuf rfl) ?_
  refine J.front 1 rfl ?_
  refine J.op rfl (A.store1 (v := .slice ad33 z.length cp34) (cs' := [.pointer (some ⟨pba, 0, none⟩), .slice ad33 z.length cp34]) szBuf rfl rfl rfl rfl rfl rfl) ?_
  rintro _ _ _ ⟨rfl, rfl, rfl⟩
  refine J.nil ?_
  refine CJ.seq ?_
  refine CJ.region ?_
  refine J.val (v := .nilIface) rfl rfl (V.as rfl) ?_
  refine J.nil ?_
  refine CJ.ret ?_
  exact ⟨_, [Cl pba 44 [.pointer (some ⟨pba, 0, none⟩), .slice ad33 z.length cp34], Row Hp.nil 5 (.int .u8) (.slice ad33 z.length cp34) z], Res.one rfl rfl, ⟨ad33, cp34, rfl, rfl⟩, (Hp.le_refl _), fun w hs => hs⟩
/-- WriteByte. -/
theorem WriteByte_ok {K : Hp} {pb : Nat} {l : List UInt8} {c : Int} {r : List UInt8} (h : wrB l c = some r) :
    Tr Tryd.prog 20 #[.pointer (some ⟨pb, 0, none⟩), .int .u8 c] K [Bld pb l] (fun v K' L' => (∃ (l1 : List UInt8), l1 = r ∧ .nilIface = v ∧ L' = [Bld pb l1]) ∧ K = K') := by
  refine Tr.exA fun a => Tr.exA fun v => Tr.star fun E w F hs => ?_
  obtain ⟨ad, cp, rfl, -⟩ := Sep.fact (Sep.swap hs) Row.form
  refine (WriteByte_row (K := K) (pba := pb) a.2 (wrB_some h) E w F hs).mono fun e w' ⟨u, K', L', h1, ⟨⟨ad2, cp2, h2, h3⟩, h4⟩, h5, h6⟩ => ?_
  subst h3
  exact ⟨u, K', [Bld pb r], h1, ⟨⟨r, rfl, h2, rfl⟩, h4⟩, h5, Bld.make (.inr rfl) h6⟩
set_option maxRecDepth 100000 in
theorem WriteString_row {K : Hp} {pba : Nat} {a0 : Value} {ad : Option Addr} {cp : Nat} {l z : List Int} {s : List UInt8} (ha : a0 = .pointer none ∨ a0 = .pointer (some ⟨pba, 0, none⟩)) (hz : Go.Proofs.YthmnkgldkjkheaaDoor.app l (ofU8 s) = some z) :
    Tr Tryd.prog 21 #[.pointer (some ⟨pba, 0, none⟩), .string ⟨s.toArray⟩] K [Cl pba 44 [a0, .slice ad l.length cp], Row Hp.nil 5 (.int .u8) (.slice ad l.length cp) l] (fun v K' L' => (∃ (ad2 : Option Addr) (cp2 : Nat), .tuple #[.int .i64 ((s.length : Nat) : Int), .nilIface] = v ∧ L' = [Cl pba 44 [.pointer (some ⟨pba, 0, none⟩), .slice ad2 z.length cp2], Row Hp.nil 5 (.int .u8) (.slice ad2 z.length cp2) z]) ∧ K = K') := by
  refine Tr.k ?_
  refine Tr.of Tryd.func21 rfl Tryd.ntmps21 rfl (fun E F => ?_)
  refine CJ.seq ?_
  refine CJ.region ?_
  refine J.val (v := .int .i64 0) rfl rfl (V.as rfl) ?_
  refine J.val (v := .nilIface) rfl rfl (V.as rfl) ?_
  refine J.nil ?_
  refine CJ.seq ?_
  refine CJ.region ?_
  refine J.val rfl rfl (V.mv rfl) ?_
  refine J.op rfl (A.call (L1 := [Cl pba 44 [a0, .slice ad l.length cp], Row Hp.nil 5 (.int .u8) (.slice ad l.length cp) l]) Tryd.call27 rfl (copyCheck_row ha) rfl rfl) ?_
  rintro _ _ _ ⟨v23, _, rfl, ⟨⟨rfl, rfl⟩, rfl⟩, _, rfl⟩
  refine J.nil ?_
  refine CJ.seq ?_
  refine CJ.region ?_
  refine J.val rfl rfl (V.mv rfl) ?_
  refine J.val rfl rfl (V.mv rfl) ?_
  refine J.val rfl rfl (V.nck rfl) ?_
  refine J.val rfl rfl (V.fad Tryd.underlying44 rfl nzBuf rfl) ?_
  refine J.val (v := .slice ad l.length cp) rfl rfl (V.ld rfl (Ld.sc scBuf (Rd.cl 0 rfl rfl))) ?_
  refine J.val (v := .string ⟨s.toArray⟩) rfl rfl (V.mv rfl) ?_
  refine J.front 1 rfl ?_
  refine J.op rfl (A.appS Tryd.underlying41 Tryd.underlying9 infU8 rfl rfl hz) ?_
  rintro _ _ _ ⟨v32, rfl, rfl, rfl⟩
  refine J.wit Row.form ?_
  rintro ⟨ad33, cp34, rfl, _, _, hn35⟩
  refine J.val rfl rfl (V.nck rfl) ?_
  refine J.val rfl rfl (V.fad Tryd.underlying44 rfl nzBuf rfl) ?_
  refine J.front 1 rfl ?_
  refine J.op rfl (A.store1 (v := .slice ad33 z.length cp34) (cs' := [.pointer (some ⟨pba, 0, none⟩), .slice ad33 z.length cp34]) szBuf rfl rfl rfl rfl rfl rfl) ?_
  rintro _ _ _ ⟨rfl, rfl, rfl⟩
  refine J.nil ?_
  refine CJ.seq ?_
  refine CJ.region ?_
  refine J.val (v := .string ⟨s.toArray⟩) rfl rfl (V.mv rfl) ?_
  refine J.val (v := .int .i64 (((s.length : Nat) : Int))) rfl rfl (V.lens Tryd.underlying9 rfl) ?_
  refine J.val (v := .int .i64 (((s.length : Nat) : Int))) rfl rfl (V.as rfl) ?_
  refine J.val (v := .nilIface) rfl rfl (V.as rfl) ?_
  refine J.nil ?_
  refine CJ.ret ?_
  exact ⟨_, [Cl pba 44 [.pointer (some ⟨pba, 0, none⟩), .slice ad33 z.length cp34], Row Hp.nil 5 (.int .u8) (.slice ad33 z.length cp34) z], Res.two rfl rfl rfl, ⟨ad33, cp34, rfl, rfl⟩, (Hp.le_refl _), fun w hs => hs⟩
theorem wrS_some {l s r : List UInt8} (h : wrS l s = some r) : app (bl l) (ofU8 s) = some (bl r) := by
  unfold wrS at h
  obtain ⟨h1, rfl⟩ := app_some h
  rw [show ofU8 s = bl s from rfl, app_eq (by rw [bl_len, bl_len]; exact h1), bl_app]
/-- WriteString. -/
theorem WriteString_ok {K : Hp} {pb : Nat} {l s : List UInt8} {r : List UInt8} (h : wrS l s = some r) :
    Tr Tryd.prog 21 #[.pointer (some ⟨pb, 0, none⟩), .string ⟨s.toArray⟩] K [Bld pb l] (fun v K' L' => (∃ (l1 : List UInt8), l1 = r ∧ .tuple #[.int .i64 ((s.length : Nat) : Int), .nilIface] = v ∧ L' = [Bld pb l1]) ∧ K = K') := by
  refine Tr.exA fun a => Tr.exA fun v => Tr.star fun E w F hs => ?_
  obtain ⟨ad, cp, rfl, -⟩ := Sep.fact (Sep.swap hs) Row.form
  refine (WriteString_row (K := K) (pba := pb) a.2 (wrS_some h) E w F hs).mono fun e w' ⟨u, K', L', h1, ⟨⟨ad2, cp2, h2, h3⟩, h4⟩, h5, h6⟩ => ?_
  subst h3
  exact ⟨u, K', [Bld pb r], h1, ⟨⟨r, rfl, h2, rfl⟩, h4⟩, h5, Bld.make (.inr rfl) h6⟩
/-- What a world keeps but for one block. -/
structure Kp (w w' : World) (g : Option Nat) : Prop where
  os : w'.os = w.os
  tape : w'.tape = w.tape
  out : w'.output = w.output
  block : ∀ n o, w.heap[n]? = some o → g ≠ some n → w'.heap[n]? = some o
theorem Kp.drew (w : World) (g : Option Nat) : Kp w w.drew g := ⟨rfl, rfl, rfl, fun _ _ h _ => h⟩
theorem Kp.alloc {w w' : World} {g : Option Nat} (h : Kp w w' g) (o : Obj) : Kp w (w'.alloc o) g := ⟨h.os, h.tape, h.out, fun n x hx hn => by
  have := h.block n x hx hn
  rw [Below.heap_alloc _ _ _ (lt_of_block this)]; exact this⟩
theorem Kp.freeze {w w' : World} {g : Nat} (h : Kp w w' (some g)) (m : Nat) : Kp w (w'.freeze ⟨g, 0, none⟩ m) (some g) := by
  unfold World.freeze
  split
  · exact h
  · refine ⟨h.os, h.tape, h.out, fun n x hx hn => ?_⟩
    have h1 := h.block n x hx hn
    have hne : g ≠ n := fun e => hn (by rw [e])
    show (w'.heap.modify g _)[n]? = some x
    rw [Array.getElem?_modify]; simp [hne, h1]
set_option maxHeartbeats 1000000 in
theorem BString_kp (b : Nat) (p v : Value) (l : List UInt8) (w : World) (hbk : w.heap[b]? = some (.cells #[p, v] 44 (0, 0))) (hown : w.ownsRow 0 5 1 v l.length (Lib.byteCells l)) :
    Calls Tryd.prog 22 #[.pointer (some ⟨b, 0, none⟩)] w fun e w' => e = .returned (.string ⟨l.toArray⟩) ∧ Kp w w' v.ownBlock := by
  have hlt := lt_of_block hbk
  have hUS0 : ∀ W q, (Builtin.unsafeString_ #[56, 3] 9 #[.pointer q, .int .i64 0]).run Tryd.prog W = .ok (.string .empty) W := fun W q => Lib.run_unsafeString_none W _ _ _ q
  rcases hown.2 with ⟨rfl, h0⟩ | ⟨g, cap, cur, rfl, hbg, hg, hnc, hcm, hcs, htake⟩
  · obtain rfl : l = [] := List.length_eq_zero_iff.1 h0
    have c1 : w.drew.cell? ⟨b, 1, none⟩ = some (.slice none 0 0) := by
      have : w.drew.heap[b]? = some (.cells #[p, .slice none 0 0] 44 (0, 0)) := hbk
      rw [Lib.cell_of_heap this]; rfl
    have hSD : (Builtin.unsafeSliceData_ #[41] 56 #[.slice none 0 0]).run Tryd.prog w.drew = .ok (.pointer none) w.drew := rfl
    clear hbk hown h0
    go_enter Tryd.func22, Tryd.ntmps22
    go_wp2
    go_region
    all_goals (go_wp2; go_ret; exact ⟨rfl, Kp.drew w _⟩)
  · by_cases hl0 : l = []
    · subst hl0
      by_cases hc0 : cap = 0
      · subst hc0
        have hSD : (Builtin.unsafeSliceData_ #[41] 56 #[.slice (some ⟨g, 0, none⟩) 0 0]).run Tryd.prog w.drew = .ok (.pointer (some ⟨w.drew.heap.size, 0, none⟩)) (w.drew.alloc (.view ⟨g, 0, none⟩ 5)) :=
          Lib.run_unsafeSliceData_zero w.drew _ _ 5 Tryd.underlying56 ⟨g, 0, none⟩ 0 (5, cur.size) (by have hg' : w.drew.heap[g]? = some (.cells cur 5 (0, 0)) := hg; simp [World.shape?, hg'])
        have c1 : w.drew.cell? ⟨b, 1, none⟩ = some (.slice (some ⟨g, 0, none⟩) 0 0) := by
          have : w.drew.heap[b]? = some (.cells #[p, .slice (some ⟨g, 0, none⟩) 0 0] 44 (0, 0)) := hbk
          rw [Lib.cell_of_heap this]; rfl
        have c2 : (w.drew.alloc (.view ⟨g, 0, none⟩ 5)).cell? ⟨b, 1, none⟩ = some (.slice (some ⟨g, 0, none⟩) 0 0) := by
          have : (w.drew.alloc (.view ⟨g, 0, none⟩ 5)).heap[b]? = _ := (Lib.alloc_old w.drew _ b hlt).trans hbk
          rw [Lib.cell_of_heap this]; rfl
        have c3 : (w.alloc (.view ⟨g, 0, none⟩ 5)).drew.cell? ⟨b, 1, none⟩ = some (.slice (some ⟨g, 0, none⟩) 0 0) := c2
        have c0 : w.cell? ⟨b, 1, none⟩ = some (.slice (some ⟨g, 0, none⟩) 0 0) := c1
        clear hbk hown htake hcs hg
        go_enter Tryd.func22, Tryd.ntmps22
        go_wp2
        go_region
        all_goals (go_wp2; go_ret; exact ⟨rfl, (Kp.drew w _).alloc _⟩)
      · have c1 : w.drew.cell? ⟨b, 1, none⟩ = some (.slice (some ⟨g, 0, none⟩) 0 cap) := by
          have : w.drew.heap[b]? = some (.cells #[p, .slice (some ⟨g, 0, none⟩) 0 cap] 44 (0, 0)) := hbk
          rw [Lib.cell_of_heap this]; rfl
        have hSD : (Builtin.unsafeSliceData_ #[41] 56 #[.slice (some ⟨g, 0, none⟩) 0 cap]).run Tryd.prog w.drew = .ok (.pointer (some ⟨g, 0, none⟩)) w.drew :=
          Lib.run_unsafeSliceData_row _ _ _ _ _ _ hc0
        clear hbk hown htake hcs hg hc0
        go_enter Tryd.func22, Tryd.ntmps22
        go_wp2
        go_region
        all_goals (go_wp2; go_ret; exact ⟨rfl, Kp.drew w _⟩)
    · have hl1 : l.length ≠ 0 := by simpa using hl0
      have c1 : w.drew.cell? ⟨b, 1, none⟩ = some (.slice (some ⟨g, 0, none⟩) l.length cap) := by
        have : w.drew.heap[b]? = some (.cells #[p, .slice (some ⟨g, 0, none⟩) l.length cap] 44 (0, 0)) := hbk
        rw [Lib.cell_of_heap this]; rfl
      have hSD : (Builtin.unsafeSliceData_ #[41] 56 #[.slice (some ⟨g, 0, none⟩) l.length cap]).run Tryd.prog w.drew = .ok (.pointer (some ⟨g, 0, none⟩)) w.drew :=
        Lib.run_unsafeSliceData_row _ _ _ _ _ _ (by omega)
      have hUS : (Builtin.unsafeString_ #[56, 3] 9 #[.pointer (some ⟨g, 0, none⟩), .int .i64 l.length]).run Tryd.prog w.drew = .ok (.string ⟨l.toArray⟩) (w.drew.freeze ⟨g, 0, none⟩ l.length) := by
        refine Lib.run_unsafeString_row w.drew 56 3 9 5 Tryd.underlying56 (by kernel_rfl) g cur.size (by have hg' : w.drew.heap[g]? = some (.cells cur 5 (0, 0)) := hg; simp [World.shape?, hg']) l hl0 (by omega) (by unfold maxLen at hcm; omega) ?_
        intro j x hx
        exact hown.cells (g := g) rfl j (.int .u8 x.toNat) (by simp [Lib.byteCells, hx])
      clear hbk hown htake hcs hg hl0 hl1 hUS0
      go_enter Tryd.func22, Tryd.ntmps22
      go_wp2
      go_region
      all_goals (go_wp2; go_ret; exact ⟨rfl, (Kp.drew w (some g)).freeze _⟩)
/-- String: the builder is given up. -/
theorem BString_ok {K : Hp} {pb : Nat} {l : List UInt8} {r : List UInt8} (h : some l = some r) :
    Tr Tryd.prog 22 #[.pointer (some ⟨pb, 0, none⟩)] K [Bld pb l] (fun v K' L' => (∃ (s1 : List UInt8), s1 = r ∧ .string ⟨s1.toArray⟩ = v ∧ L' = []) ∧ K = K') := by
  obtain rfl := Option.some.inj h
  refine Tr.exA fun a => Tr.exA fun v => Tr.star fun E w F hs => ?_
  have hbk := hs.cl
  have hsw := Sep.swap hs
  obtain ⟨h0, ⟨cs, h1, h2⟩, h3, h4⟩ := hsw
  have hown := h2.owns (w := w) (fun n o e => h4.sub n o (Hp.join_right e (h3 n o e)))
  obtain rfl := els_u8 h1
  rw [bl_len] at hown
  have e : (bl l).map (Value.int .u8) = Lib.byteCells l := by simp [bl, Lib.byteCells]
  rw [e] at hown
  refine (BString_kp pb a.1 v l w hbk hown).mono fun e w' ⟨h5, h6⟩ => ?_
  subst h5
  refine ⟨_, K, [], rfl, ⟨⟨l, rfl, rfl, rfl⟩, rfl⟩, Hp.le_refl K, ?_⟩
  have hturn : Sep E K (emp :: Cl pb 44 [a.1, v] :: F) w' := by
    refine Sep.turn (Sep.swap hs) (fun he => ⟨h6.os.trans he.1, h6.tape.trans he.2.1, h6.out.trans he.2.2⟩) (fun h hr hle => ⟨Hp.nil, rfl, fun n o e => (by cases e), fun n o e hn => h6.block n o e (fun e' => ?_)⟩)
    obtain ⟨cs', _, hr2⟩ := hr
    exact (hr2.block n).1 hn e'
  exact hturn.drop.drop
end Go.Proofs.YthmnkgldkjkheaaDoor
