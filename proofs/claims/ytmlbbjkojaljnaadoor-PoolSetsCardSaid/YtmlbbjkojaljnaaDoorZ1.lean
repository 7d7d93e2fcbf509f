/- A part of the proof: what lies ahead of the law. Nothing is claimed here. -/
import Derived.WalkKit
import Derived.WalkSpells
import Derived.WalkLawsBesides
import Derived.Lib.Hide
import Derived.OneCell
import Derived.ProofKit
import Derived.OpenShut
import Derived.Lib.SmallJoins
import Derived.Deep.RegionWith
import Derived.Deep.DeepMust
import Derived.Deep.QuietTactic
import Derived.BigQuiet
import Derived.Test.YtmlbbjkojaljnaaDoorRows
import Derived.JoinedCond
import Derived.Deep.DeepHandedRow
import Derived.Deep.Slices
import Derived.Deep.AppendLies
import Derived.TacticsIn
import Derived.OrdersIn
import Derived.LoopNIn
import GoSem.Core.View
import Derived.Maps.AppendAt
import Derived.Laws.CopyRow
import Derived.Laws.MakeOwn
import Derived.Shelf.Abstract
import Derived.LoopN
import Derived.Laws.StructEq
import Derived.Laws.Cover3
import Derived.ChangeKeysEq
import Derived.Laws.BytesString
namespace Go.Proofs.YtmlbbjkojaljnaaDoor
set_option linter.unusedVariables false
open Go.RowKit
section
theorem snoc_ind {α : Type} {P : List α → Prop} (h0 : P []) (h1 : ∀ l a, P l → P (l ++ [a])) (l : List α) : P l := by
 rw [← List.reverse_reverse l]
 induction l.reverse with
 | nil => exact h0
 | cons a r ih => rw [List.reverse_cons]; exact h1 _ _ ih
theorem ret_int {k : IntKind} {a b : Int} (h : a = b) : Ending.returned (.int k a) = .returned (.int k b) := by rw [h]
theorem ret_bool {a b : Bool} (h : a = b) : Ending.returned (.bool a) = .returned (.bool b) := by rw [h]
theorem ret_str {a b : ByteArray} (h : a = b) : Ending.returned (.string a) = .returned (.string b) := by rw [h]
theorem ret_arr {a b : List UInt8} (h : a = b) : Ending.returned (.string ⟨a.toArray⟩) = .returned (.string ⟨b.toArray⟩) := by rw [h]
theorem ret_i3 {i j k : IntKind} {a b c a' b' c' : Int} (h1 : a = a') (h2 : b = b') (h3 : c = c') : Ending.returned (.tuple #[.int i a, .int j b, .int k c]) = .returned (.tuple #[.int i a', .int j b', .int k c']) := by rw [h1, h2, h3]
theorem val_int {k : IntKind} {a b : Int} (h : a = b) : Value.int k a = .int k b := by rw [h]
theorem and1_i64 (x : Int) (h0 : 0 ≤ x) (h1 : x ≤ 9223372036854775807) : bits .and .i64 x 1 = x % 2 := by
 obtain ⟨n, rfl⟩ := Int.eq_ofNat_of_zero_le h0
 have hx : n &&& 1 = n % 2 := nat_mask1 n
 have e := ofInt_u64 n (by omega)
 have e1 : (BitVec.ofInt 64 (1 : Int)).toNat = 1 := by decide
 show IntKind.i64.wrap ((BitVec.ofInt 64 (n : Int) &&& BitVec.ofInt 64 (1 : Int)).toNat : Int) = _
 rw [BitVec.toNat_and, e, e1, hx, IntWalk.i64_left, IntWalk.wrap64_in _ (by omega)]
 omega
theorem or_i64 (a b : Nat) (ha : a < 9223372036854775808) (hb : b < 9223372036854775808) : bits .or .i64 (a : Int) (b : Int) = ((a ||| b : Nat) : Int) := by
 have hx : a ||| b < 2 ^ 63 := Nat.or_lt_two_pow (by omega) (by omega)
 show IntKind.i64.wrap ((BitVec.ofInt 64 (a : Int) ||| BitVec.ofInt 64 (b : Int)).toNat : Int) = _
 rw [BitVec.toNat_or, ofInt_u64 a (by omega), ofInt_u64 b (by omega), IntWalk.i64_left, IntWalk.wrap64_in _ (by omega)]
theorem or_join (x c : Int) (h0 : 0 ≤ x) (h1 : x ≤ 16777215) (h2 : 0 ≤ c) (h3 : c < 256) : bits .or .i64 (x * 256) c = x * 256 + c := by
 obtain ⟨n, rfl⟩ := Int.eq_ofNat_of_zero_le h0
 obtain ⟨m, rfl⟩ := Int.eq_ofNat_of_zero_le h2
 have := or_i64 (n * 256) m (by omega) (by omega)
 rw [nat_join 8 (n * 256) m (by omega) (by omega)] at this
 simpa using this
@[go_sem] theorem run_eqlNil {P : Program} (w : World) (t e : TypeId) (a : Option Addr) (l c : Nat) (h : P.underlying t = some (.slice e)) : (binOp .eql t (.slice a l c) (.slice none 0 0)).run P w = .ok (.bool a.isNone) w := by
 simp only [binOp]
 simp [run_equal_slice_nil w t e a l c h]
theorem ba_append (a b : List UInt8) : ((⟨a.toArray⟩ : ByteArray) ++ (⟨b.toArray⟩ : ByteArray)) = ⟨(a ++ b).toArray⟩ := ByteArray.ext (by simp)
theorem i64_tdiv (n k : Int) (h0 : 0 ≤ n) (h1 : n ≤ 9223372036854775807) (hk : 0 < k) : IntKind.i64.wrap (n.tdiv k) = n / k := by
 rw [Int.tdiv_eq_ediv_of_nonneg h0, IntWalk.i64_left, IntWalk.wrap64_in]
 have := Int.ediv_nonneg h0 (Int.le_of_lt hk)
 have := Int.ediv_le_self k h0
 omega
theorem tmod_pos (n k : Int) (h0 : 0 ≤ n) : n.tmod k = n % k := Int.tmod_eq_emod_of_nonneg h0
theorem u8_in (n : Int) (h0 : 0 ≤ n) (h1 : n < 256) : IntKind.u8.wrap n = n := by rw [IntKind.wrap_u8', Int.emod_eq_of_lt h0 h1]
theorem div_mul_bd {a b M : Int} (hb : 0 < b) (h : a ≤ M / b) : a * b ≤ M := Int.le_trans (Int.mul_le_mul_of_nonneg_right h (by omega)) (Int.ediv_mul_le M (by omega))
theorem mul_gt_of {a b M : Int} (hb : 0 < b) (h : M / b < a) : M < a * b := by
 have h1 := Int.lt_ediv_add_one_mul_self M hb
 have h2 : (M / b + 1) * b ≤ a * b := Int.mul_le_mul_of_nonneg_right (by omega) (by omega)
 omega
section
open Go.ChangeShapes Go.WideShapes Go.Joins
variable {H : Type} {enc : TypeId × Value → H} {P : Program} {w : World} {base : Nat} {spare : Nat → Bool} {held : Bool}
def In64 (n : Int) : Prop := -9223372036854775808 ≤ n ∧ n ≤ 9223372036854775807
theorem in64_of_wf {n : Int} (h : (Lit.int .i64 n).wf = true) : In64 n := by
 simp only [Lit.wf, IntKind.min, IntKind.max, IntKind.signed, IntKind.bits, Bool.and_eq_true, decide_eq_true_eq] at h
 simp at h
 exact ⟨by omega, by omega⟩
theorem arg_int {r : Reach} {b : Nat} {t : TypeId} {v : Value} {d : DataW H} {p : List MemPlace} (ht : P.underlying t = some (.int .i64)) (hv : Value.okWide P w r b t v) (h : DataW.Trod enc P w base spare held t v d p) :
   ∃ n : Int, v = .int .i64 n ∧ In64 n := by
 obtain ⟨n, rfl, _, _, wf⟩ := open_int ht hv h
 exact ⟨n, rfl, in64_of_wf wf⟩
theorem arg_arr3 {r : Reach} {b : Nat} {t e : TypeId} {v : Value} {d : DataW H} {p : List MemPlace} (ht : P.underlying t = some (.array 3 e)) (he : P.underlying e = some (.int .i64)) (hc : P.cellsOf e = 1) (hC : P.cellsOf t = 3)
   (hv : Value.okWide P w r b t v) (h : DataW.Trod enc P w base spare held t v d p) :
   ∃ x y z : Int, v = .agg #[.int .i64 x, .int .i64 y, .int .i64 z] ∧ In64 x ∧ In64 y ∧ In64 z := by
 obtain ⟨cs, rfl⟩ : ∃ cs, v = .agg cs := by
   simp only [Value.okWide, ht] at hv
   obtain ⟨cs, h1, _⟩ := hv
   exact ⟨cs, h1⟩
 obtain ⟨f, hf⟩ := h
 obtain ⟨xs, m, rfl, _, hlen, hxl, hi⟩ := DataW.trod_array ht hf
 rw [hC] at hlen
 obtain ⟨l⟩ := cs
 obtain ⟨c0, c1, c2, rfl⟩ : ∃ a b c, l = [a, b, c] := by
   simp only [Value.cells] at hlen
   match l, hlen with
   | [a, b, c], _ => exact ⟨a, b, c, rfl⟩
 have i0 := hi 0 (by omega)
 have i1 := hi 1 (by omega)
 have i2 := hi 2 (by omega)
 simp [hc, Value.cells, List.getElem?_eq_getElem (show 0 < xs.length by omega)] at i0
 simp [hc, Value.cells, List.getElem?_eq_getElem (show 1 < xs.length by omega)] at i1
 simp [hc, Value.cells, List.getElem?_eq_getElem (show 2 < xs.length by omega)] at i2
 obtain ⟨x, e0, _, w0⟩ := DataW.trod_int he i0
 obtain ⟨y, e1, _, w1⟩ := DataW.trod_int he i1
 obtain ⟨z, e2, _, w2⟩ := DataW.trod_int he i2
 simp at e0 e1 e2
 subst e0 e1 e2
 exact ⟨x, y, z, rfl, in64_of_wf w0, in64_of_wf w1, in64_of_wf w2⟩
end
theorem quiet {P : Program} {f : FuncId} {args : Array Value} {w : World} {n : Nat} {v : Value} (h : Calls P f args (w.drewN n) fun e w' => e = .returned v ∧ w.drewN n = w') :
   Calls P f args (w.drewN n) fun e w'' => e = .returned v ∧ ∃ m, w'' = w.drewN m := h.mono fun _ _ h => ⟨h.1, n, h.2.symm⟩
structure Fr (S : List Nat) (w w' : World) : Prop where
 os : w'.os = w.os
 tape : w'.tape = w.tape
 output : w'.output = w.output
 size : w.heap.size ≤ w'.heap.size
 block : ∀ k, k < w.heap.size → k ∉ S → w'.heap[k]? = w.heap[k]?
theorem Fr.refl (S : List Nat) (w : World) : Fr S w w := ⟨rfl, rfl, rfl, Nat.le_refl _, fun _ _ _ => rfl⟩
theorem Fr.trans {S : List Nat} {a b c : World} (h : Fr S a b) (k : Fr S b c) : Fr S a c :=
 ⟨k.os.trans h.os, k.tape.trans h.tape, k.output.trans h.output, Nat.le_trans h.size k.size, fun i hi hS => (k.block i (Nat.lt_of_lt_of_le hi h.size) hS).trans (h.block i hi hS)⟩
theorem Fr.mono {S T : List Nat} {a b : World} (h : Fr S a b) (hST : ∀ x, x ∈ S → x ∈ T) : Fr T a b := ⟨h.os, h.tape, h.output, h.size, fun k hk hT => h.block k hk (fun hs => hT (hST k hs))⟩
theorem Fr.fresh {S T : List Nat} {a b c : World} (h : Fr S a b) (k : Fr T b c) (hT : ∀ x, x ∈ T → x ∈ S ∨ a.heap.size ≤ x) : Fr S a c :=
 ⟨k.os.trans h.os, k.tape.trans h.tape, k.output.trans h.output, Nat.le_trans h.size k.size, fun i hi hS => (k.block i (Nat.lt_of_lt_of_le hi h.size) (fun hm => by
   rcases hT i hm with h1 | h1
   · exact hS h1
   · omega)).trans (h.block i hi hS)⟩
theorem Fr.drew {S : List Nat} {a w : World} (h : Fr S a w) : Fr S a w.drew := ⟨h.os, h.tape, h.output, h.size, h.block⟩
theorem Fr.drewN {S : List Nat} {a w : World} (h : Fr S a w) (n : Nat) : Fr S a (w.drewN n) := ⟨h.os, h.tape, h.output, h.size, h.block⟩
theorem Fr.alloc {S : List Nat} {a w : World} (h : Fr S a w) (o : Obj) : Fr S a (w.alloc o) :=
 h.trans ⟨rfl, rfl, rfl, by simp, fun k hk _ => Below.heap_alloc _ _ _ hk⟩
theorem Fr.setCell {S : List Nat} {a w : World} (h : Fr S a w) (p : Addr) (hp : p.block ∈ S ∨ a.heap.size ≤ p.block) (u : Value) : Fr S a (w.setCell p u) :=
 h.fresh (T := [p.block]) ⟨rfl, rfl, rfl, by simp [World.setCell], fun k _ hS => Below.heap_setCell _ _ _ _ (fun e => hS (by simp [e]))⟩ (fun x hx => by simp at hx; subst hx; exact hp)
theorem Fr.below {a b : World} (h : Fr [] a b) : Below a.heap.size a b := ⟨h.os, h.tape, h.output, h.size, fun k hk => h.block k hk (by simp)⟩
theorem Fr.of_below {S : List Nat} {a b : World} (h : Below a.heap.size a b) : Fr S a b := ⟨h.os, h.tape, h.output, h.size, fun k hk _ => h.block k hk⟩
theorem Fr.cell {S : List Nat} {w w' : World} (h : Fr S w w') {p : Addr} (hp : p.block < w.heap.size) (hS : p.block ∉ S) : w'.cell? p = w.cell? p := World.cell?_of_block (w := w) (h.block p.block hp hS)
theorem Fr.frozen {S : List Nat} {w w' : World} (h : Fr S w w') {p : Addr} (hp : p.block < w.heap.size) (hS : p.block ∉ S) : w'.frozen? p = w.frozen? p := World.frozen?_of_block (w := w) (h.block p.block hp hS)
theorem Fr.cells {w w' : World} (h : Fr [] w w') : ∀ b o, b < w.heap.size → w'.cell? ⟨b, o, none⟩ = w.cell? ⟨b, o, none⟩ := fun b o hb => h.cell (p := ⟨b, o, none⟩) hb (by simp)
theorem Fr.keeps {S : List Nat} {w w' : World} (h : Fr S w w') {b : Nat} {o : Obj} (hb : w.heap[b]? = some o) (hS : b ∉ S) : w'.heap[b]? = some o := by
 rw [h.block b (lt_of_block hb) hS]; exact hb
theorem cell_lt {w : World} {p : Addr} {v : Value} (h : w.cell? p = some v) : p.block < w.heap.size := by
 rcases Nat.lt_or_ge p.block w.heap.size with h' | h'
 · exact h'
 · simp [World.cell?, Array.getElem?_eq_none h'] at h
theorem cell_alloc {w : World} {p : Addr} {v : Value} (o : Obj) (h : w.cell? p = some v) : (w.alloc o).cell? p = some v := by
 rw [World.cell?_alloc_lt _ _ _ (cell_lt h)]; exact h
theorem Fr.cell_some {w w' : World} (f : Fr [] w w') {p : Addr} {v : Value} (h : w.cell? p = some v) : w'.cell? p = some v := by
 rw [f.cell (cell_lt h) (by simp)]; exact h
theorem setCell_one {w : World} {b : Nat} {v0 : Value} {t : TypeId} (hb : w.heap[b]? = some (.cells #[v0] t (0, 0))) (v : Value) : (w.setCell ⟨b, 0, none⟩ v).cell? ⟨b, 0, none⟩ = some v := cell_of_one (one_setCell hb)
theorem alloc_new (w : World) (o : Obj) : (w.alloc o).heap[w.heap.size]? = some o := (MapKept.heap_alloc w o).1
theorem alloc_at (w : World) (o : Obj) (n : Nat) (h : w.heap.size = n) : (w.alloc o).heap[n]? = some o := by subst h; exact alloc_new w o
structure Later (w0 : World) where
 w : World
 fr : Fr [] w0 w
instance laterSome (w : World) : Nonempty (Later w) := ⟨⟨w, Fr.refl [] w⟩⟩
def Later.rest {w : World} (z : Later w) (p : Addr) : Option Value := z.w.cell? p
@[go_sem] theorem Later.cell {w : World} (z : Later w) (p : Addr) : z.w.cell? p = (w.cell? p).or (z.rest p) := by
 cases h : w.cell? p with
 | none => rfl
 | some v =>
   have hp : p.block < w.heap.size := by
     rcases Nat.lt_or_ge p.block w.heap.size with h' | h'
     · exact h'
     · simp [World.cell?, Array.getElem?_eq_none h'] at h
   rw [z.fr.cell hp (by simp), h]
   rfl
@[go_sem] theorem later_or (v : Value) (x : Option Value) : (some v).or x = some v := rfl
theorem later_call {P : Program} {w : World} {f : FuncId} {args : Array Value} {z : Later w} {v : Value} (h : Calls P f args z.w fun e w' => e = .returned v ∧ Fr [] z.w w') :
   Calls P f args z.w fun e w'' => e = .returned v ∧ ∃ y : Later w, w'' = y.w := h.mono fun e w' k => ⟨k.1, ⟨w', z.fr.trans k.2⟩, rfl⟩
theorem later_same {P : Program} {w : World} {f : FuncId} {args : Array Value} {z : Later w} {v : Value} (h : Calls P f args z.w fun e w' => e = .returned v ∧ z.w = w') :
   Calls P f args z.w fun e w'' => e = .returned v ∧ ∃ y : Later w, w'' = y.w := h.mono fun e w' k => ⟨k.1, z, k.2.symm⟩
theorem wp_region_later {P : Program} {id : Nat} {Q : Exit → Act → World → Prop} {a : Act} {w : World} {l : List Oper} (hm : P.follows .mixedOrders = true) (hB : Region.lexB .any l.toArray = true)
   (h : wpQuiet P l.toArray (fun w' => ∃ z : Later w, w' = z.w) (fun a' => ∀ w', (∃ z : Later w, w' = z.w) → Q .normal a' w') l a) : (Code.region id l.toArray true).wp P Q a w :=
 wp_region_quiet (C := fun w' => ∃ z : Later w, w' = z.w) hm hB ⟨⟨{ w with drawn := w.drawn + 1 }, (Fr.refl [] w).drew⟩, rfl⟩ (by simpa using h)
def ints (l : List Int) : Array Value := (l.map (Value.int .i64)).toArray
theorem cell_ints {w : World} {b : Nat} {l : List Int} {t : TypeId} (h : w.heap[b]? = some (.cells (ints l) t (0, 0))) (i : Nat) (hi : i < l.length) : w.cell? ⟨b, i, none⟩ = some (.int .i64 (l.getD i 0)) := by
 simp [World.cell?, h, ints, List.getD, List.getElem?_eq_getElem hi]
theorem free_cells {w : World} {b : Nat} {c : Array Value} {t : TypeId} (h : w.heap[b]? = some (.cells c t (0, 0))) (i : Nat) : w.frozen? ⟨b, i, none⟩ = false := by simp [World.frozen?, h]
theorem block_setCell {w : World} {b : Nat} {c : Array Value} {t : TypeId} (h : w.heap[b]? = some (.cells c t (0, 0))) (i : Nat) (v : Value) : (w.setCell ⟨b, i, none⟩ v).heap[b]? = some (.cells (c.setIfInBounds i v) t (0, 0)) := by
 have hlt := lt_of_block h
 have h' : w.heap[b] = .cells c t (0, 0) := by simpa [Array.getElem?_eq_getElem hlt] using h
 show (w.heap.modify b _)[b]? = _
 rw [Array.getElem?_eq_getElem (by simpa using hlt), Array.getElem_modify_self, h']
 rfl
theorem ints_set {w : World} {b : Nat} {l : List Int} {t : TypeId} (h : w.heap[b]? = some (.cells (ints l) t (0, 0))) (i : Nat) (v : Int) : (w.setCell ⟨b, i, none⟩ (.int .i64 v)).heap[b]? = some (.cells (ints (l.set i v)) t (0, 0)) := by
 rw [block_setCell h]; simp [ints, List.map_set]
end
section
open Go.ChangeShapes Go.WideShapes Go.ChangeAt Go.RowKit
section
variable {H : Type} {enc : TypeId × Value → H} {P : Program}
theorem trodAll_stays (hl : laidOutB P = true) {W W' : World} (hb : Below W.heap.size W W') : ∀ (ts : List TypeId) (vs : List Value) (ds : List (DataW H)) (ps : List MemPlace),
   (∀ t ∈ ts, P.readableRec t = true ∧ t < P.types.size) → DataW.TrodAll enc P W 0 (fun _ => true) true ts vs ds ps → (∀ x ∈ ps, x.block < W.heap.size) →
   DataW.TrodAll enc P W' 0 (fun b => decide (b < W.heap.size)) true ts vs ds ps
 | [], vs, ds, ps, _, h, _ => by
   obtain ⟨rfl, rfl, rfl⟩ := trodAll_nil h
   exact trodAll_mk0
 | t :: ts, vs, ds, ps, hr, h, hlt => by
   obtain ⟨v, vs', d, ds', p, q, rfl, rfl, rfl, h0, r0⟩ := trodAll_cons h
   refine trodAll_cons_mk (Below.trod hl (hr t (by simp)).1 (hr t (by simp)).2 h0 hb (fun x hx => hlt x (by simp [hx]))) ?_
   exact trodAll_stays hl hb ts vs' ds' q (fun t ht => hr t (by simp [ht])) r0 (fun x hx => hlt x (by simp [hx]))
theorem law_post {f : Func} {s : ChangeSpec} {W W' : World} {args : Array Value} {ds gs : List (DataW H)} {before : List MemPlace} {tb : TypeId}
   (hv : s.vars = []) (hW : DataW.Whole enc P f.params.toList s.vars false W args.toList ds gs before)
   (hfn : s.fn H ds = { results := [.lit (.bool true)], args := ds }) (hres : f.resultTypes = #[tb]) (htb : P.underlying tb = some .bool)
   (hl : laidOutB P = true) (hr : ∀ t ∈ f.params.toList, P.readableRec t = true ∧ t < P.types.size) (hb : Below W.heap.size W W') :
   s.post enc P f false true false false W args (.bool true) W' := by
 have hW' := hW
 obtain ⟨p, q, hA, hV, rfl, hfz, hnd⟩ := hW
 have hlt := hW'.lt
 have hV' := hV
 rw [hv] at hV
 obtain ⟨rfl, rfl⟩ := trodVars_none hV
 have he : s.fn H (ds ++ []) = { results := [.lit (.bool true)], args := ds } := by rw [List.append_nil]; exact hfn
 refine ⟨ds, [], p ++ [], [], p, [], hW', ?_, ?_, ?_, hb.frame _, fun h => by cases h⟩
 · rw [he, hres]; exact trodAll_cons_mk (shut_bool htb true) trodAll_mk0
 · rw [he]; exact trodAll_stays hl hb _ _ _ _ hr hA (fun x hx => hlt x (by simp [hx]))
 · rw [he, hv]; exact rfl
end
end
section
open Go.ChangeShapes Go.WideShapes Go.RowKit Go.Deep
open Go.ChangeMaps (open_string)
inductive Ty where
 | int (k : IntKind)
 | bool
 | str
 | sl (e : Ty)
 | emp
 | cons (a r : Ty)
namespace Ty
abbrev den : Ty → Type
 | .int _ => Int
 | .bool => Bool
 | .str => ByteArray
 | .sl e => List e.den
 | .emp => Unit
 | .cons a r => a.den × r.den
def size : Ty → Nat
 | .emp => 0
 | .cons a r => a.size + r.size
 | _ => 1
mutual
def has (P : Program) : Ty → TypeId → Bool
 | .int k, t => match P.underlying t with | some (.int k') => decide (k' = k) | _ => false
 | .bool, t => match P.underlying t with | some .bool => true | _ => false
 | .str, t => match P.underlying t with | some .string => true | _ => false
 | .sl e, t => match P.underlying t with | some (.slice e') => has P e e' && decide (P.cellsOf e' = e.size) && decide (0 < e.size) | _ => false
 | .emp, t => match P.underlying t with | some (.struct fs) => fs.toList.isEmpty && decide (P.cellsOf t = 0) | _ => false
 | .cons a r, t => match P.underlying t with
   | some (.struct fs) => (match fs.toList with | f :: fs => decide (f.offset = 0) && decide (P.cellsOf f.type = a.size) && has P a f.type && hasAll P a.size r fs | [] => false) && decide (P.cellsOf t = a.size + r.size)
   | _ => false
def hasAll (P : Program) : Nat → Ty → List Field → Bool
 | _, .emp, [] => true
 | o, .cons a r, f :: fs => decide (f.offset = o) && decide (P.cellsOf f.type = a.size) && has P a f.type && hasAll P (o + a.size) r fs
 | _, _, _ => false
end
def Is (W : World) : (t : Ty) → List Value → t.den → Prop
 | .int k, cs, n => cs = [.int k n] ∧ (Lit.int k n).wf = true
 | .bool, cs, b => cs = [.bool b]
 | .str, cs, s => cs = [.string s] ∧ s.size ≤ maxLen
 | .sl e, cs, l => ∃ ad cap, cs = [.slice ad l.length cap] ∧ l.length ≤ maxLen ∧ (ad = none → l = [] ∧ cap = 0) ∧ (l ≠ [] → ∃ b o, ad = some ⟨b, o, none⟩ ∧ b < W.heap.size ∧
     ∀ k x, l[k]? = some x → ∃ es, es.length = e.size ∧ Is W e es x ∧ ∀ j, j < e.size → W.cell? ⟨b, o + k * e.size + j, none⟩ = es[j]?)
 | .emp, cs, _ => cs = []
 | .cons a r, cs, d => ∃ c1 c2, cs = c1 ++ c2 ∧ c1.length = a.size ∧ Is W a c1 d.1 ∧ Is W r c2 d.2
theorem Is.len {W : World} : ∀ {t : Ty} {cs : List Value} {d : t.den}, Is W t cs d → cs.length = t.size
 | .int _, cs, d, h => by simp only [Is] at h; rw [h.1]; rfl
 | .bool, cs, d, h => by simp only [Is] at h; rw [h]; rfl
 | .str, cs, d, h => by simp only [Is] at h; rw [h.1]; rfl
 | .sl e, cs, d, h => by simp only [Is] at h; obtain ⟨_, _, h, _⟩ := h; rw [h]; rfl
 | .emp, cs, d, h => by simp only [Is] at h; rw [h]; rfl
 | .cons a r, cs, d, h => by
   simp only [Is] at h
   obtain ⟨c1, c2, rfl, h1, _, h2⟩ := h
   simp [Ty.size, h1, Is.len h2]
theorem Is.keep {W W' : World} (f : Fr [] W W') : ∀ {t : Ty} {cs : List Value} {d : t.den}, Is W t cs d → Is W' t cs d
 | .int _, cs, d, h => h
 | .bool, cs, d, h => h
 | .str, cs, d, h => h
 | .emp, cs, d, h => h
 | .sl e, cs, d, h => by
   simp only [Is] at h ⊢
   obtain ⟨ad, cap, h1, h2, h3, h4⟩ := h
   refine ⟨ad, cap, h1, h2, h3, fun hne => ?_⟩
   obtain ⟨b, o, hb, hlt, hk⟩ := h4 hne
   refine ⟨b, o, hb, Nat.lt_of_lt_of_le hlt f.size, fun k x hx => ?_⟩
   obtain ⟨es, hl, hi, hj⟩ := hk k x hx
   refine ⟨es, hl, Is.keep f hi, fun j hjl => ?_⟩
   rw [f.cell (p := ⟨b, _, none⟩) hlt (by simp)]
   exact hj j hjl
 | .cons a r, cs, d, h => by
   simp only [Is] at h ⊢
   obtain ⟨c1, c2, rfl, h1, h2, h3⟩ := h
   exact ⟨c1, c2, rfl, h1, Is.keep f h2, Is.keep f h3⟩
theorem exists_list {α : Type} {R : Nat → α → Prop} : ∀ n : Nat, (∀ k, k < n → ∃ x, R k x) → ∃ l : List α, l.length = n ∧ ∀ k x, l[k]? = some x → R k x
 | 0, _ => ⟨[], rfl, fun k x h => by simp at h⟩
 | n + 1, h => by
   obtain ⟨l, hl, hr⟩ := exists_list n (fun k hk => h k (by omega))
   obtain ⟨x, hx⟩ := h n (by omega)
   refine ⟨l ++ [x], by simp [hl], fun k y hy => ?_⟩
   rcases Nat.lt_trichotomy k n with hk | hk | hk
   · rw [List.getElem?_append_left (by omega)] at hy; exact hr k y hy
   · subst hk; subst hl; simp at hy; subst hy; exact hx
   · rw [List.getElem?_eq_none (by simp; omega)] at hy; simp at hy
section
variable {H : Type} {enc : TypeId × Value → H} {P : Program} {W : World} {base : Nat} {spare : Nat → Bool} {held : Bool}
mutual
theorem read : ∀ (ty : Ty) {t : TypeId} {fuel : Nat} {cs : List Value} {x : DataW H × List MemPlace}, ty.has P t = true → DataW.trod enc P W base spare held fuel t cs = some x → ∃ d : ty.den, Is W ty cs d
 | .int k, t, fuel, cs, x, hh, h => by
   unfold has at hh
   split at hh
   · rename_i k' ht
     simp at hh; subst hh
     obtain ⟨n, rfl, _, hw⟩ := DataW.trod_int ht h
     exact ⟨n, rfl, hw⟩
   · simp at hh
 | .bool, t, fuel, cs, x, hh, h => by
   unfold has at hh
   split at hh
   · rename_i ht
     obtain ⟨b, rfl, _⟩ := DataW.trod_bool ht h
     exact ⟨b, rfl⟩
   · simp at hh
 | .str, t, fuel, cs, x, hh, h => by
   unfold has at hh
   split at hh
   · rename_i ht
     obtain ⟨s, rfl, _, hs⟩ := DataW.trod_string ht h
     exact ⟨s, rfl, hs⟩
   · simp at hh
 | .sl e, t, fuel, cs, x, hh, h => by
   unfold has at hh
   split at hh
   · rename_i e' ht
     simp only [Bool.and_eq_true, decide_eq_true_eq] at hh
     obtain ⟨⟨he, hc⟩, h0⟩ := hh
     rcases open_slice ht h with ⟨rfl, _⟩ | ⟨a, len, cap, m, n, D, Pl, rfl, hb, hl, hm, hmm, _, hi⟩
     · exact ⟨[], none, 0, rfl, by simp, fun _ => ⟨rfl, rfl⟩, fun h => absurd rfl h⟩
     · rw [hc] at hi
       have hall : ∀ k, k < len → ∃ x : e.den, ∃ es, es.length = e.size ∧ Is W e es x ∧ ∀ j, j < e.size → W.cell? (a.add (k * e.size + j)) = es[j]? := fun k hk => by
         have hkm : k < m := by rw [hmm]; split <;> omega
         obtain ⟨cs', hcs, ht'⟩ := hi k hkm
         obtain ⟨d, hd⟩ := read e he ht'
         obtain ⟨_, hlen, hcell⟩ := World.cells?_some hcs
         refine ⟨d, cs', hlen, hd, fun j hj => ?_⟩
         rw [← hcell j hj, Go.Deep.add_add]
       obtain ⟨l, hlen, hl'⟩ := exists_list len hall
       refine ⟨l, some a, cap, by rw [hlen], by omega, fun h => by simp at h, fun hne => ?_⟩
       have hpos : 0 < len := by rw [← hlen]; exact List.length_pos_iff.2 hne
       obtain ⟨x0, es0, hes, _, hc0⟩ := hall 0 hpos
       have hc00 := hc0 0 h0
       have hsome : ∃ v, W.cell? a = some v := by
         refine ⟨es0[0]'(by omega), ?_⟩
         have : a.add (0 * e.size + 0) = a := by simp [Addr.add]
         rw [this, List.getElem?_eq_getElem (by omega)] at hc00
         exact hc00
       obtain ⟨v0, hv0⟩ := hsome
       have hspot : a.spot = none := by
         cases hs : a.spot with
         | none => rfl
         | some s => simp [World.cell?, hs] at hv0; split at hv0 <;> simp at hv0
       have hlt : a.block < W.heap.size := by
         rcases Nat.lt_or_ge a.block W.heap.size with h | h
         · exact h
         · simp [World.cell?, Array.getElem?_eq_none h] at hv0
       obtain ⟨b, o, s⟩ := a
       simp only at hspot hlt
       subst hspot
       refine ⟨b, o, rfl, hlt, fun k x hx => ?_⟩
       obtain ⟨es, h1, h2, h3⟩ := hl' k x hx
       refine ⟨es, h1, h2, fun j hj => ?_⟩
       rw [← h3 j hj]
       simp only [Addr.add]
       split
       · congr 2; omega
       · congr 2; omega
   · simp at hh
 | .emp, t, fuel, cs, x, hh, h => by
   unfold has at hh
   split at hh
   · rename_i fs ht
     simp only [Bool.and_eq_true, decide_eq_true_eq] at hh
     obtain ⟨_, _, _, _, hlen, _⟩ := DataW.trod_struct ht h
     exact ⟨(), List.length_eq_zero_iff.1 (by omega)⟩
   · simp at hh
 | .cons a r, t, fuel, cs, x, hh, h => by
   unfold has at hh
   split at hh
   · rename_i fs ht
     simp only [Bool.and_eq_true, decide_eq_true_eq] at hh
     obtain ⟨hh, hC⟩ := hh
     split at hh
     · rename_i f fs' hfs
       simp only [Bool.and_eq_true, decide_eq_true_eq] at hh
       obtain ⟨⟨⟨h1, h2⟩, h3⟩, h4⟩ := hh
       obtain ⟨xs, n, _, _, hlen, hxl, hf⟩ := DataW.trod_struct ht h
       have hsz : fs.size = fs'.length + 1 := by rw [← Array.length_toList, hfs]; simp
       have hget : ∀ i, fs[i]? = (f :: fs')[i]? := fun i => by rw [← hfs, Array.getElem?_toList]
       have t0 := hf 0 f (by rw [hget]; rfl)
       rw [h1, h2, List.drop_zero, List.getElem?_eq_getElem (by omega)] at t0
       obtain ⟨d0, hd0⟩ := read a h3 t0
       obtain ⟨d1, hd1⟩ := readAll a.size r fs' (cs := cs.drop a.size) (all := cs) h4 (by rw [List.length_drop]; omega) (fun i g hg => by
         have t1 := hf (i + 1) g (by rw [hget]; exact hg)
         have hi : i < fs'.length := (List.getElem?_eq_some_iff.1 hg).1
         rw [List.getElem?_eq_getElem (by omega)] at t1
         exact ⟨n, _, t1⟩) rfl
       exact ⟨(d0, d1), cs.take a.size, cs.drop a.size, (List.take_append_drop _ _).symm, by rw [List.length_take]; omega, hd0, hd1⟩
     · simp at hh
   · simp at hh
theorem readAll : ∀ (o : Nat) (ty : Ty) (fs : List Field) {cs all : List Value}, ty.hasAll P o fs = true → cs.length = ty.size →
   (∀ (i : Nat) (f : Field), fs[i]? = some f → ∃ n x, DataW.trod enc P W base spare held n f.type ((all.drop f.offset).take (P.cellsOf f.type)) = some x) → cs = all.drop o → ∃ d : ty.den, Is W ty cs d
 | o, .emp, [], cs, all, hh, hl, hf, hc => ⟨(), List.length_eq_zero_iff.1 hl⟩
 | o, .cons a r, f :: fs, cs, all, hh, hl, hf, hc => by
   unfold hasAll at hh
   simp only [Bool.and_eq_true, decide_eq_true_eq] at hh
   obtain ⟨⟨⟨h1, h2⟩, h3⟩, h4⟩ := hh
   obtain ⟨n, x, t0⟩ := hf 0 f rfl
   rw [h1, h2, ← hc] at t0
   obtain ⟨d0, hd0⟩ := read a h3 t0
   have hl' : cs.length = a.size + r.size := hl
   obtain ⟨d1, hd1⟩ := readAll (o + a.size) r fs (cs := cs.drop a.size) (all := all) h4 (by simp; omega) (fun i g hg => hf (i + 1) g hg) (by rw [hc, List.drop_drop])
   exact ⟨(d0, d1), cs.take a.size, cs.drop a.size, by simp, by simp; omega, hd0, hd1⟩
 | _, .int _, _, _, _, hh, _, _, _ => by simp [hasAll] at hh
 | _, .bool, _, _, _, hh, _, _, _ => by simp [hasAll] at hh
 | _, .str, _, _, _, hh, _, _, _ => by simp [hasAll] at hh
 | _, .sl _, _, _, _, hh, _, _, _ => by simp [hasAll] at hh
 | _, .emp, _ :: _, _, _, hh, _, _, _ => by simp [hasAll] at hh
 | _, .cons _ _, [], _, _, hh, _, _, _ => by simp [hasAll] at hh
end
end
section
variable {H : Type} {enc : TypeId × Value → H} {P : Program} {W : World} {base b : Nat} {spare : Nat → Bool} {held : Bool} {r : Reach} {t : TypeId} {v : Value} {d : DataW H} {p : List MemPlace}
theorem arg_sl {e : Ty} (hh : (Ty.sl e).has P t = true) (hv : Value.okWide P W r b t v) (h : DataW.Trod enc P W base spare held t v d p) : ∃ l, Is W (.sl e) [v] l := by
 obtain ⟨f, hf⟩ := h
 have h2 := hh
 unfold has at hh
 split at hh
 · rename_i e' ht
   obtain ⟨a, n, c, rfl⟩ := okWide_slice ht hv
   exact read _ h2 hf
 · simp at hh
theorem arg_str (hh : Ty.str.has P t = true) (hv : Value.okWide P W r b t v) (h : DataW.Trod enc P W base spare held t v d p) : ∃ s : ByteArray, v = .string s ∧ s.size ≤ maxLen := by
 obtain ⟨f, hf⟩ := h
 unfold has at hh
 split at hh
 · rename_i ht
   obtain ⟨s, rfl, _, _, hs⟩ := open_string ht hv ⟨f, hf⟩
   exact ⟨s, rfl, hs⟩
 · simp at hh
theorem arg_st {a q : Ty} (hh : (Ty.cons a q).has P t = true) (hv : Value.okWide P W r b t v) (h : DataW.Trod enc P W base spare held t v d p) : ∃ cs y, v = .agg cs ∧ Is W (.cons a q) cs.toList y := by
 obtain ⟨f, hf⟩ := h
 have h2 := hh
 unfold has at hh
 split at hh
 · rename_i fs ht
   obtain ⟨cs, rfl, _⟩ := okWide_struct ht hv
   obtain ⟨y, hy⟩ := read _ h2 hf
   exact ⟨cs, y, rfl, hy⟩
 · simp at hh
end
abbrev pair : Ty := .cons (.int .i64) (.cons (.int .i64) .emp)
end Ty
def IsInts (w : World) (v : Value) (l : List Int) : Prop :=
 ∃ ad cap, (v = .slice ad l.length cap) ∧ l.length ≤ 9223372036854775807 ∧ (∀ k, In64 (l.getD k 0)) ∧ (l.length ≠ 0 → ∃ b o, ad = some ⟨b, o, none⟩ ∧ b < w.heap.size ∧ ∀ k, k < l.length → w.cell? ⟨b, o + k, none⟩ = some (.int .i64 (l.getD k 0)))
theorem IsInts.keep {w w' : World} {v : Value} {l : List Int} (h : IsInts w v l) (f : Fr [] w w') : IsInts w' v l := by
 obtain ⟨ad, cap, rfl, hlen, h64, hc⟩ := h
 refine ⟨ad, cap, rfl, hlen, h64, fun h0 => ?_⟩
 obtain ⟨b, o, rfl, hb, hc⟩ := hc h0
 refine ⟨b, o, rfl, Nat.lt_of_lt_of_le hb f.size, fun k hk => ?_⟩
 rw [f.cell (p := ⟨b, _, none⟩) hb (by simp)]
 exact hc k hk
theorem IsInts.of {W : World} {v : Value} {l : List Int} (h : Ty.Is W (.sl (.int .i64)) [v] l) : IsInts W v l := by
 simp only [Ty.Is] at h
 obtain ⟨ad, cap, h1, h2, h3, h4⟩ := h
 simp at h1
 have hg : ∀ k, k < l.length → ∃ b o, ad = some ⟨b, o, none⟩ ∧ b < W.heap.size ∧ W.cell? ⟨b, o + k, none⟩ = some (.int .i64 (l.getD k 0)) ∧ In64 (l.getD k 0) := fun k hk => by
   obtain ⟨b, o, rfl, hb, hc⟩ := h4 (by intro e; rw [e] at hk; simp at hk)
   obtain ⟨es, hl, ⟨rfl, w1⟩, hj⟩ := hc k l[k] (List.getElem?_eq_getElem hk)
   have j0 := hj 0 (by decide)
   refine ⟨b, o, rfl, hb, ?_, ?_⟩
   · simpa [Ty.size, List.getD, List.getElem?_eq_getElem hk] using j0
   · simpa [List.getD, List.getElem?_eq_getElem hk] using in64_of_wf w1
 refine ⟨ad, cap, h1, by unfold maxLen at h2; omega, fun k => ?_, fun h0 => ?_⟩
 · rcases Nat.lt_or_ge k l.length with hk | hk
   · obtain ⟨_, _, _, _, _, h⟩ := hg k hk; exact h
   · simp only [List.getD, List.getElem?_eq_none hk]; exact ⟨by simp, by simp⟩
 · obtain ⟨b, o, rfl, hb, _⟩ := hg 0 (by omega)
   refine ⟨b, o, rfl, hb, fun k hk => ?_⟩
   obtain ⟨b', o', e, _, h, _⟩ := hg k hk
   simp at e
   obtain ⟨rfl, rfl⟩ := e
   exact h
def IsPairs (w : World) (v : Value) (a : List (Int × Int)) : Prop :=
 ∃ ad cap, (v = .slice ad a.length cap) ∧ a.length ≤ 9223372036854775807 ∧ (∀ k, In64 (a.getD k (0, 0)).1 ∧ In64 (a.getD k (0, 0)).2) ∧ (a.length ≠ 0 → ∃ b o, ad = some ⟨b, o, none⟩ ∧ b < w.heap.size ∧ ∀ k, k < a.length →
   w.cell? ⟨b, o + k * 2, none⟩ = some (.int .i64 (a.getD k (0, 0)).1) ∧ w.cell? ⟨b, o + k * 2 + 1, none⟩ = some (.int .i64 (a.getD k (0, 0)).2))
theorem IsPairs.keep {w w' : World} {v : Value} {a : List (Int × Int)} (h : IsPairs w v a) (f : Fr [] w w') : IsPairs w' v a := by
 obtain ⟨ad, cap, rfl, hlen, h64, hc⟩ := h
 refine ⟨ad, cap, rfl, hlen, h64, fun h0 => ?_⟩
 obtain ⟨b, o, rfl, hb, hc⟩ := hc h0
 refine ⟨b, o, rfl, Nat.lt_of_lt_of_le hb f.size, fun k hk => ?_⟩
 rw [f.cell (p := ⟨b, _, none⟩) hb (by simp), f.cell (p := ⟨b, _, none⟩) hb (by simp)]
 exact hc k hk
theorem IsPairs.of {W : World} {v : Value} {l : List (Ty.den Ty.pair)} (h : Ty.Is W (.sl Ty.pair) [v] l) : IsPairs W v (l.map fun x => (x.1, x.2.1)) := by
 simp only [Ty.Is] at h
 obtain ⟨ad, cap, h1, h2, h3, h4⟩ := h
 simp at h1
 have hz : In64 0 ∧ In64 0 := ⟨⟨by omega, by omega⟩, ⟨by omega, by omega⟩⟩
 have hg : ∀ k, k < l.length → ∃ b o, ad = some ⟨b, o, none⟩ ∧ b < W.heap.size ∧ W.cell? ⟨b, o + k * 2, none⟩ = some (.int .i64 ((l.map fun x => (x.1, x.2.1)).getD k (0, 0)).1) ∧
     W.cell? ⟨b, o + k * 2 + 1, none⟩ = some (.int .i64 ((l.map fun x => (x.1, x.2.1)).getD k (0, 0)).2) ∧ In64 ((l.map fun x => (x.1, x.2.1)).getD k (0, 0)).1 ∧ In64 ((l.map fun x => (x.1, x.2.1)).getD k (0, 0)).2 := fun k hk => by
   obtain ⟨b, o, rfl, hb, hc⟩ := h4 (by intro e; rw [e] at hk; simp at hk)
   obtain ⟨es, hl, he, hj⟩ := hc k l[k] (List.getElem?_eq_getElem hk)
   obtain ⟨c1, c2, rfl, _, ⟨rfl, w1⟩, c3, c4, rfl, _, ⟨rfl, w2⟩, rfl⟩ := he
   have j0 := hj 0 (by decide)
   have j1 := hj 1 (by decide)
   refine ⟨b, o, rfl, hb, ?_, ?_, ?_, ?_⟩
   · simpa [Ty.size, List.getD, List.getElem?_eq_getElem hk] using j0
   · simpa [Ty.size, List.getD, List.getElem?_eq_getElem hk] using j1
   · simpa [List.getD, List.getElem?_eq_getElem hk] using in64_of_wf w1
   · simpa [List.getD, List.getElem?_eq_getElem hk] using in64_of_wf w2
 refine ⟨ad, cap, by simpa using h1, by simp; unfold maxLen at h2; omega, fun k => ?_, fun h0 => ?_⟩
 · rcases Nat.lt_or_ge k l.length with hk | hk
   · obtain ⟨_, _, _, _, _, _, h⟩ := hg k hk; exact h
   · simpa [List.getD, List.getElem?_eq_none (show (l.map fun x => (x.1, x.2.1)).length ≤ k by simpa using hk)] using hz
 · simp at h0
   obtain ⟨b, o, rfl, hb, _⟩ := hg 0 (List.length_pos_iff.2 h0)
   refine ⟨b, o, rfl, hb, fun k hk => ?_⟩
   obtain ⟨b', o', e, _, h, h', _⟩ := hg k (by simpa using hk)
   simp at e
   obtain ⟨rfl, rfl⟩ := e
   exact ⟨h, h'⟩
end
section
section
variable {α : Type}
def Sl (f : α → List Value) (k : Nat) (w : World) (v : Value) (l : List α) : Prop :=
 ∃ ad cap, (v = .slice ad l.length cap) ∧ l.length ≤ cap ∧ cap ≤ 9223372036854775807 ∧ (l.length ≠ 0 → ∃ b o, ad = some ⟨b, o, none⟩ ∧ b < w.heap.size ∧ ∀ i x, l[i]? = some x → ∀ j, j < k → w.cell? ⟨b, o + i * k + j, none⟩ = (f x)[j]?)
theorem Sl.nil (f : α → List Value) (k : Nat) (w : World) (cap : Nat) (ad : Option Addr) (h : cap ≤ 9223372036854775807) : Sl f k w (.slice ad 0 cap) [] := ⟨ad, cap, rfl, by simp, h, fun h => absurd rfl h⟩
theorem Sl.keep {f : α → List Value} {k : Nat} {w w' : World} {v : Value} {l : List α} (h : Sl f k w v l) (fr : Fr [] w w') : Sl f k w' v l := by
 obtain ⟨ad, cap, rfl, h1, h2, hc⟩ := h
 refine ⟨ad, cap, rfl, h1, h2, fun h0 => ?_⟩
 obtain ⟨b, o, rfl, hb, hc⟩ := hc h0
 refine ⟨b, o, rfl, Nat.lt_of_lt_of_le hb fr.size, fun i x hx j hj => ?_⟩
 rw [fr.cell (p := ⟨b, _, none⟩) hb (by simp)]
 exact hc i x hx j hj
theorem Sl.open {f : α → List Value} {k : Nat} {w : World} {v : Value} {l : List α} (h : Sl f k w v l) : ∃ ad cap, v = .slice ad l.length cap ∧ l.length ≤ cap ∧ cap ≤ 9223372036854775807 := by
 obtain ⟨ad, cap, h, h1, h2, _⟩ := h
 exact ⟨ad, cap, h, h1, h2⟩
theorem Sl.at {f : α → List Value} {k : Nat} {w : World} {ad : Option Addr} {n cap : Nat} {l : List α} (h : Sl f k w (.slice ad n cap) l) (i : Nat) (x : α) (hx : l[i]? = some x) :
   ∃ b o, ad = some ⟨b, o, none⟩ ∧ b < w.heap.size ∧ ∀ j, j < k → w.cell? ⟨b, o + i * k + j, none⟩ = (f x)[j]? := by
 obtain ⟨ad', cap', h0, h1, h2, hc⟩ := h
 have hi : i < l.length := (List.getElem?_eq_some_iff.1 hx).1
 simp only [Value.slice.injEq] at h0
 obtain ⟨rfl, rfl, rfl⟩ := h0
 obtain ⟨b, o, rfl, hb, hc⟩ := hc (by omega)
 exact ⟨b, o, rfl, hb, fun j hj => hc i x hx j hj⟩
theorem Sl.drop {f : α → List Value} {k : Nat} {w : World} {b o : Nat} {n cap : Nat} {l : List α} (h : Sl f k w (.slice (some ⟨b, o, none⟩) n cap) l) (m : Nat) (hm : m ≤ n) : Sl f k w (.slice (some ⟨b, o + m * k, none⟩) (n - m) (cap - m)) (l.drop m) := by
 obtain ⟨ad, cap', h0, h1, h2, hc⟩ := h
 simp only [Value.slice.injEq] at h0
 obtain ⟨rfl, rfl, rfl⟩ := h0
 refine ⟨_, _, by rw [List.length_drop], by rw [List.length_drop]; omega, by omega, fun h0 => ?_⟩
 rw [List.length_drop] at h0
 obtain ⟨b', o', e, hb, hc⟩ := hc (by omega)
 simp at e
 obtain ⟨rfl, rfl⟩ := e
 refine ⟨b, _, rfl, hb, fun i x hx j hj => ?_⟩
 rw [List.getElem?_drop] at hx
 have := hc (m + i) x hx j hj
 rw [Nat.add_mul] at this
 rw [← this]
 congr 2
 omega
theorem Sl.tail {f : α → List Value} {k : Nat} {w : World} {b o n cap : Nat} {x : α} {l : List α} (h : Sl f k w (.slice (some ⟨b, o, none⟩) n cap) (x :: l)) : Sl f k w (.slice (some ⟨b, o + k, none⟩) (n - 1) (cap - 1)) l := by
 have hn : 1 ≤ n := by
   obtain ⟨ad, cap', h0, _⟩ := h
   simp only [Value.slice.injEq] at h0
   obtain ⟨_, rfl, _⟩ := h0
   simp
 have := h.drop 1 hn
 simpa using this
theorem Sl.take {f : α → List Value} {k : Nat} {w : World} {ad : Option Addr} {n cap : Nat} {l : List α} (h : Sl f k w (.slice ad n cap) l) (m c : Nat) (hm : m ≤ n) (hc : m ≤ c) (hc' : c ≤ 9223372036854775807) : Sl f k w (.slice ad m c) (l.take m) := by
 obtain ⟨ad', cap', h0, h1, h2, hc⟩ := h
 simp only [Value.slice.injEq] at h0
 obtain ⟨rfl, rfl, rfl⟩ := h0
 refine ⟨_, _, by rw [List.length_take, Nat.min_eq_left hm], by rw [List.length_take]; omega, hc', fun h0 => ?_⟩
 rw [List.length_take] at h0
 obtain ⟨b, o, rfl, hb, hc⟩ := hc (by omega)
 exact ⟨b, o, rfl, hb, fun i x hx j hj => hc i x (by rw [List.getElem?_take] at hx; split at hx <;> simp_all) j hj⟩
def Own (e : TypeId) (f : α → List Value) (k : Nat) (B : Nat) (w : World) (v : Value) (l : List α) : Prop := w.ownsRow B e k v l.length (l.flatMap f) ∧ l.length ≤ 9223372036854775807
theorem flatMap_length (f : α → List Value) (k : Nat) (hf : ∀ x, (f x).length = k) (l : List α) : (l.flatMap f).length = l.length * k := by
 induction l with
 | nil => simp
 | cons a r ih => simp [ih, hf, Nat.add_mul]; omega
theorem flatMap_get (f : α → List Value) (k : Nat) (hf : ∀ x, (f x).length = k) : ∀ (l : List α) (i : Nat) (x : α), l[i]? = some x → ∀ j, j < k → (l.flatMap f)[i * k + j]? = (f x)[j]?
 | [], i, x, h, j, hj => by simp at h
 | a :: r, 0, x, h, j, hj => by
   simp at h; subst h
   rw [List.flatMap_cons, List.getElem?_append_left (by rw [hf]; omega)]; simp
 | a :: r, i + 1, x, h, j, hj => by
   rw [List.flatMap_cons, List.getElem?_append_right (by rw [hf]; rw [Nat.add_mul]; omega), hf]
   have : (i + 1) * k + j - k = i * k + j := by rw [Nat.add_mul]; omega
   rw [this]
   exact flatMap_get f k hf r i x (by simpa using h) j hj
theorem Own.nil (e : TypeId) (f : α → List Value) (k : Nat) (B : Nat) (w : World) : Own e f k B w (.slice none 0 0) [] := ⟨World.ownsRow_nil _ _ _ _, by simp⟩
theorem Own.lit (e : TypeId) (f : α → List Value) (k : Nat) (hf : ∀ x, (f x).length = k) (w : World) (l : List α) (cs : Array Value) (hcs : cs.toList = l.flatMap f) (B : Nat) (hB : B ≤ w.heap.size) (hl : l.length ≤ 9223372036854775807) :
   Own e f k B (w.alloc (.cells cs e)) (.slice (some ⟨w.heap.size, 0, none⟩) l.length l.length) l := by
 have := World.ownsRow_lit (size := k) (base := B) (e := e) w cs l.length hB (by unfold maxLen; omega) (by rw [← Array.length_toList, hcs, flatMap_length f k hf])
 rw [hcs] at this
 exact ⟨this, hl⟩
theorem Own.lit_at (e : TypeId) (f : α → List Value) (k : Nat) (hf : ∀ x, (f x).length = k) (w : World) (l : List α) (cs : Array Value) (hcs : cs.toList = l.flatMap f) (B n m : Nat) (hn : w.heap.size = n) (hB : B ≤ n) (hm : l.length = m) (hl : m ≤ 9223372036854775807) :
   Own e f k B (w.alloc (.cells cs e)) (.slice (some ⟨n, 0, none⟩) m m) l := by
 subst hn; subst hm; exact Own.lit e f k hf w l cs hcs B hB hl
theorem Own.sl {e : TypeId} {f : α → List Value} {k : Nat} (hf : ∀ x, (f x).length = k) {B : Nat} {w : World} {v : Value} {l : List α} (h : Own e f k B w v l) : Sl f k w v l := by
 obtain ⟨h, hl⟩ := h
 have h' := h
 rcases h.2 with ⟨rfl, h0⟩ | ⟨g, cap, cur, rfl, hb, hg, hn, hm, hs, ht⟩
 · obtain rfl : l = [] := List.length_eq_zero_iff.1 h0
   exact Sl.nil f k w 0 none (by omega)
 · refine ⟨_, cap, rfl, hn, by unfold maxLen at hm; omega, fun h0 => ⟨g, 0, rfl, lt_of_block hg, fun i x hx j hj => ?_⟩⟩
   have hi : i < l.length := (List.getElem?_eq_some_iff.1 hx).1
   have := h'.cellAt (i * k + j) (by
     have : (i + 1) * k ≤ l.length * k := Nat.mul_le_mul_right k (by omega)
     rw [Nat.add_mul] at this; omega)
   rw [Nat.zero_add, this]
   exact flatMap_get f k hf l i x hx j hj
theorem Sl.news {f : α → List Value} {k : Nat} (hf : ∀ x, (f x).length = k) (hk : 0 < k) {w : World} {a : Addr} {n cap : Nat} {l : List α} (h : Sl f k w (.slice (some a) n cap) l) : ∀ j u, (l.flatMap f)[j]? = some u → w.cell? (a.add j) = some u := by
 intro j u hu
 have hj : j < (l.flatMap f).length := (List.getElem?_eq_some_iff.1 hu).1
 rw [flatMap_length f k hf] at hj
 have hi : j / k < l.length := Nat.div_lt_of_lt_mul (by rw [Nat.mul_comm]; exact hj)
 have hx : l[j / k]? = some l[j / k] := List.getElem?_eq_getElem hi
 obtain ⟨b, o, e, hb, hc⟩ := h.at (j / k) _ hx
 obtain rfl := Option.some.inj e
 have hm : j % k < k := Nat.mod_lt _ hk
 have hd : j / k * k + j % k = j := by rw [Nat.mul_comm]; exact Nat.div_add_mod j k
 have g := flatMap_get f k hf l (j / k) _ hx (j % k) hm
 rw [hd, hu] at g
 rw [g, ← hc (j % k) hm, Nat.add_assoc, hd]
 unfold Addr.add
 split
 · rename_i h0; subst h0; rfl
 · rfl
theorem Own.base {e : TypeId} {f : α → List Value} {k B : Nat} {w : World} {v : Value} {l : List α} (h : Own e f k B w v l) : ∀ x, v.ownBlock = some x → B ≤ x ∧ x < w.heap.size := h.1.lt
theorem Own.keep {e : TypeId} {f : α → List Value} {k B : Nat} {w w' : World} {v : Value} {l : List α} {S : List Nat} (h : Own e f k B w v l) (fr : Fr S w w') (hS : ∀ x, v.ownBlock = some x → x ∉ S) : Own e f k B w' v l := by
 obtain ⟨⟨h1, h2⟩, hl⟩ := h
 refine ⟨⟨h1, ?_⟩, hl⟩
 rcases h2 with hn | ⟨g, cap, cur, rfl, hb, hg, rest⟩
 · exact .inl hn
 · exact .inr ⟨g, cap, cur, rfl, hb, fr.keeps hg (hS g rfl), rest⟩
theorem Own.keep0 {e : TypeId} {f : α → List Value} {k B : Nat} {w w' : World} {v : Value} {l : List α} (h : Own e f k B w v l) (fr : Fr [] w w') : Own e f k B w' v l := h.keep fr (fun _ _ => by simp)
theorem Own.store {e : TypeId} {f : α → List Value} {k B : Nat} {w : World} {v : Value} {l : List α} (h : Own e f k B w v l) (p : Addr) (u : Value) (hp : p.block < B) : Own e f k B (w.setCell p u) v l :=
 h.keep (S := [p.block]) ((Fr.refl _ _).setCell _ (.inl (by simp)) _) (fun x hx => by have := (h.base x hx).1; simp; omega)
theorem Own.down {e : TypeId} {f : α → List Value} {k B B' : Nat} {w : World} {v : Value} {l : List α} (h : Own e f k B w v l) (hB : B' ≤ B) : Own e f k B' w v l := by
 obtain ⟨⟨h1, h2⟩, hl⟩ := h
 refine ⟨⟨h1, ?_⟩, hl⟩
 rcases h2 with hn | ⟨g, cap, cur, rfl, hb, rest⟩
 · exact .inl hn
 · exact .inr ⟨g, cap, cur, rfl, Nat.le_trans hB hb, rest⟩
theorem Own.drew {e : TypeId} {f : α → List Value} {k B : Nat} {w : World} {v : Value} {l : List α} (h : Own e f k B w v l) : Own e f k B w.drew v l := h
theorem Own.snoc {e : TypeId} {f : α → List Value} {k B : Nat} {w : World} {v : Value} {l m : List α} {n : Nat} (h : w.ownsRow B e k v n (l.flatMap f ++ m.flatMap f)) (hn : n = l.length + m.length) (hl : n ≤ 9223372036854775807) : Own e f k B w v (l ++ m) := by
 subst hn
 exact ⟨by simpa using h, by simpa using hl⟩
theorem Fr.of_grown {w w' : World} {v : Value} (h : w.grownBy w' v.ownBlock) {S : List Nat} {w0 : World} (h0 : Fr S w0 w) (hv : ∀ x, v.ownBlock = some x → x ∈ S ∨ w0.heap.size ≤ x) : Fr S w0 w' := by
 refine ⟨h.os.trans h0.os, h.tape.trans h0.tape, h.output.trans h0.output, Nat.le_trans h0.size h.size, fun i hi hS => ?_⟩
 rw [h.block i (Nat.lt_of_lt_of_le hi h0.size) (fun e => by
   rcases hv i e.symm with h1 | h1
   · exact hS h1
   · omega)]
 exact h0.block i hi hS
theorem append1 {P : Program} {ops : Array Oper} {rest : List Oper} {o : Oper} {a : Act} {w : World} {Q : Exit → Act → World → Prop} (hgd : o.guard = none) (s x : Operand) (t : TypeId)
   (ho : o.op = .call { callee := .builtin .append, args := #[s, x], argTypes := #[t, t] })
   {e : TypeId} {f : α → List Value} {k : Nat} (hf : ∀ x, (f x).length = k) (h1 : ∀ y, ∀ u ∈ f y, u.oneCell' = true) (i : TypeInfo) (z : Value) (bytes : Nat) (ht : P.underlying t = some (.slice e)) (hi : P.info? e = some i) (hz : i.zero = some z)
   (hsize : i.size = k) (hby : i.bytes = bytes) (hzs : z.cells.size = k) (hsz : 0 < k)
   {B : Nat} {v : Value} {l : List α} (hs : a.eval s = v) (hown : Own e f k B w v l)
   (n : Nat) (y : α) (hx : a.eval x = .slice (some ⟨n, 0, none⟩) 1 1) (cs : Array Value) (te : TypeId) (hblk : w.heap[n]? = some (.cells cs te (0, 0))) (hcs : cs.toList = f y)
   (hlen : l.length ≤ 1000000000) (hbytes : bytes ≤ 1000) (hbase : B ≤ w.heap.size)
   (h : ∀ v' w', Own e f k B w' v' (l ++ [y]) → w.grownBy w' v.ownBlock → wpList P ops Q rest (a.put o.dst v') w') : wpList P ops Q (o :: rest) a w := by
 have hm : (l.length + 1) * bytes ≤ 1000000001 * 1000 := Nat.mul_le_mul (by omega) hbytes
 refine wpList_append_own w hgd s x t ho B e i z k bytes ht hi hz hsize hby hzs hsz v l.length (l.flatMap f) hs hown.1 ⟨n, 0, none⟩ 1 1 (f y) hx (by rw [hf]; omega) ?_ (h1 y) (by unfold maxLen; omega) (by omega) hbase ?_
 · intro j u hj
   have : w.cell? ⟨n, j, none⟩ = some u := by
     simp only [World.cell?, hblk]
     rw [← hcs] at hj
     simpa using hj
   unfold Addr.add
   split
   · rename_i h0; subst h0; exact this
   · simpa using this
 · intro v' w' h2 h3 _
   exact h v' w' (Own.snoc (m := [y]) (by simpa using h2) rfl (by simp; omega)) h3
theorem Own.place {e : TypeId} {f : α → List Value} {k B : Nat} {w : World} {v : Value} {l : List α} (h : Own e f k B w v l) (hn : l ≠ []) : ∃ g cap, v = .slice (some ⟨g, 0, none⟩) l.length cap ∧ B ≤ g ∧ g < w.heap.size ∧ l.length ≤ cap ∧ cap ≤ 9223372036854775807 := by
 obtain ⟨⟨h1, h2⟩, hl⟩ := h
 rcases h2 with ⟨_, hn'⟩ | ⟨g, cap, cur, rfl, hb, hg, h3, h4, _⟩
 · exact absurd (List.length_eq_zero_iff.1 hn') hn
 · exact ⟨g, cap, rfl, hb, lt_of_block hg, h3, by unfold maxLen at h4; omega⟩
theorem flatMap_set (f : α → List Value) (k : Nat) (hf : ∀ x, (f x).length = k) : ∀ (l : List α) (i : Nat) (x y : α), l[i]? = some x → ∀ (j : Nat) (u : Value), j < k → (f x).set j u = f y → (l.set i y).flatMap f = (l.flatMap f).set (i * k + j) u
 | [], i, x, y, hx, j, u, hj, he => by simp at hx
 | z :: l, 0, x, y, hx, j, u, hj, he => by
     simp at hx
     subst hx
     simp only [List.set_cons_zero, List.flatMap_cons, Nat.zero_mul, Nat.zero_add]
     rw [List.set_append_left _ _ (by rw [hf]; exact hj), he]
 | z :: l, i + 1, x, y, hx, j, u, hj, he => by
     have ih := flatMap_set f k hf l i x y (by simpa using hx) j u hj he
     simp only [List.set_cons_succ, List.flatMap_cons]
     rw [ih, List.set_append_right _ _ (by rw [hf, Nat.succ_mul]; omega), hf]
     congr 2
     rw [Nat.succ_mul]; omega
theorem Own.set1 {e : TypeId} {f : α → List Value} {k B : Nat} (hf : ∀ x, (f x).length = k) {w : World} {g n cap : Nat} {l : List α} (h : Own e f k B w (.slice (some ⟨g, 0, none⟩) n cap) l) (i : Nat) (x y : α) (hx : l[i]? = some x) (j : Nat) (hj : j < k) (u : Value) (he : (f x).set j u = f y) :
   Own e f k B (w.setCell ⟨g, i * k + j, none⟩ u) (.slice (some ⟨g, 0, none⟩) n cap) (l.set i y) := by
 obtain ⟨⟨h1, h2⟩, hl⟩ := h
 rcases h2 with ⟨hn, _⟩ | ⟨g', cap', cur, hv, hb, hg, h3, h4, h5, h6⟩
 · cases hn
 cases hv
 refine ⟨⟨?_, .inr ⟨g, cap, cur.setIfInBounds (i * k + j) u, by simp, hb, block_setCell hg _ _, by simpa using h3, h4, by simpa using h5, ?_⟩⟩, by simpa using hl⟩
 · rw [flatMap_length _ _ hf]
 · rw [flatMap_set f k hf l i x y hx j u hj he, Array.toList_setIfInBounds, List.length_set, List.take_set, h6]
theorem Own.free {e : TypeId} {f : α → List Value} {k B : Nat} {w : World} {g n cap : Nat} {l : List α} (h : Own e f k B w (.slice (some ⟨g, 0, none⟩) n cap) l) (o : Nat) : w.frozen? ⟨g, o, none⟩ = false := by
 obtain ⟨⟨h1, h2⟩, hl⟩ := h
 rcases h2 with ⟨hn, _⟩ | ⟨g', cap', cur, hv, hb, hg, _⟩
 · cases hn
 cases hv
 simp [World.frozen?, hg]
def num (n : Int) : List Value := [.int .i64 n]
theorem num_len (n : Int) : (num n).length = 1 := rfl
theorem num_one1 (n : Int) : ∀ u ∈ num n, u.oneCell' = true := by intro u hu; simp [num] at hu; subst hu; rfl
theorem flatMap_num (l : List Int) : l.flatMap num = l.map (Value.int .i64) := by
 induction l with
 | nil => rfl
 | cons a l ih => simp [num, ← ih]
theorem append1_wp {P : Program} {o : Oper} {a : Act} {w : World} {K : Act → World → Prop} {Q : Exit → Act → World → Prop} (s x : Operand) (t : TypeId)
   (ho : o.op = .call { callee := .builtin .append, args := #[s, x], argTypes := #[t, t] })
   {e : TypeId} {f : α → List Value} {k : Nat} (hf : ∀ x, (f x).length = k) (h1 : ∀ y, ∀ u ∈ f y, u.oneCell' = true) (i : TypeInfo) (z : Value) (bytes : Nat) (ht : P.underlying t = some (.slice e)) (hi : P.info? e = some i) (hz : i.zero = some z)
   (hsize : i.size = k) (hby : i.bytes = bytes) (hzs : z.cells.size = k) (hsz : 0 < k)
   {B : Nat} {v : Value} {l : List α} (hs : a.eval s = v) (hown : Own e f k B w v l)
   (n : Nat) (y : α) (hx : a.eval x = .slice (some ⟨n, 0, none⟩) 1 1) (cs : Array Value) (te : TypeId) (hblk : w.heap[n]? = some (.cells cs te (0, 0))) (hcs : cs.toList = f y)
   (hlen : l.length ≤ 1000000000) (hbytes : bytes ≤ 1000) (hbase : B ≤ w.heap.size)
   (h : ∀ g cap w', Own e f k B w' (.slice (some ⟨g, 0, none⟩) (l.length + 1) cap) (l ++ [y]) → w.grownBy w' v.ownBlock → K (a.put o.dst (.slice (some ⟨g, 0, none⟩) (l.length + 1) cap)) w') : o.wp P a w K Q := by
 have hm : (l.length + 1) * bytes ≤ 1000000001 * 1000 := Nat.mul_le_mul (by omega) hbytes
 refine wp_append_lies w s x t ho B e i z k bytes ht hi hz hsize hby hzs hsz v l.length (l.flatMap f) hs hown.1 ⟨n, 0, none⟩ 1 1 (f y) hx (by rw [hf]; omega) ?_ (h1 y) (by omega) (by unfold maxLen; omega) (by omega) hbase _ rfl ?_
 · intro j u hj
   have : w.cell? ⟨n, j, none⟩ = some u := by
     simp only [World.cell?, hblk]
     rw [← hcs] at hj
     simpa using hj
   unfold Addr.add
   split
   · rename_i h0; subst h0; exact this
   · simpa using this
 · intro g cap w' h2 h3 _ _
   exact h g cap w' (Own.snoc (m := [y]) (by simpa using h2) rfl (by simp; omega)) h3
theorem num_at {w : World} {ad : Option Addr} {n cap : Nat} {l : List Int} (h : Sl num 1 w (.slice ad n cap) l) (i : Nat) (hi : i < l.length) :
   ∃ b o, ad = some ⟨b, o, none⟩ ∧ b < w.heap.size ∧ w.cell? ⟨b, o + i, none⟩ = some (.int .i64 (l.getD i 0)) := by
 obtain ⟨b, o, e, hb, hc⟩ := h.at i l[i] (List.getElem?_eq_getElem hi)
 refine ⟨b, o, e, hb, ?_⟩
 have := hc 0 (by decide)
 simp only [Nat.mul_one, Nat.add_zero] at this
 rw [this]
 simp [num, List.getD, List.getElem?_eq_getElem hi]
end
end
section
structure Past (S : List Nat) (w0 : World) where
 w : World
 fr : Fr S w0 w
instance pastSome (S : List Nat) (w : World) : Nonempty (Past S w) := ⟨⟨w, Fr.refl S w⟩⟩
def Past.rest {S : List Nat} {w : World} (z : Past S w) (p : Addr) : Option Value := z.w.cell? p
theorem Past.or {S : List Nat} {w : World} (z : Past S w) (p : Addr) (hp : p.block ∉ S) : z.w.cell? p = (w.cell? p).or (z.rest p) := by
 cases h : w.cell? p with
 | none => rfl
 | some v => rw [z.fr.cell (cell_lt h) hp, h]; rfl
@[go_sem] theorem Past.cell0 {w : World} (z : Past [] w) (p : Addr) : z.w.cell? p = (w.cell? p).or (z.rest p) := z.or p (by simp)
@[go_sem] theorem Past.cell1 {x : Nat} {w : World} (z : Past [x] w) (b o : Nat) (t : Option Nat) : z.w.cell? ⟨b, o, t⟩ = if b = x then z.rest ⟨b, o, t⟩ else (w.cell? ⟨b, o, t⟩).or (z.rest ⟨b, o, t⟩) := by
 split
 · rfl
 · exact z.or _ (by simpa)
@[go_sem] theorem Past.cell2 {x y : Nat} {w : World} (z : Past [x, y] w) (b o : Nat) (t : Option Nat) : z.w.cell? ⟨b, o, t⟩ = if b = x ∨ b = y then z.rest ⟨b, o, t⟩ else (w.cell? ⟨b, o, t⟩).or (z.rest ⟨b, o, t⟩) := by
 split
 · rfl
 · exact z.or _ (by simp; omega)
section
variable {P : Program} {ops : Array Oper} {md : Region.Mode} {C : World → Prop} {T : Nat → Bool} {Q : Exit → Act → World → Prop}
def noExit : Exit → Act → World → Prop := fun _ _ _ => False
def plainOp (o : Oper) : Bool := match o.op with
 | .move _ | .assign _ | .pick .. | .build .. | .buildSlice .. | .load .. | .nilCheck _ | .binOp .. | .unOp .. | .convert .. | .sliceToArrayPointer .. | .makeInterface .. | .makeFunc .. | .slice .. | .fieldAddr .. | .field .. | .indexAddr .. | .index .. | .lookup .. | .typeAssert .. | .extract .. => true
 | .call c => match c.callee with | .builtin .len => true | .builtin .cap => true | _ => false
 | _ => false
theorem run_value {s : Sem Value} {w w' : World} {n : Next} (h : (do pure (Next.value (← s)) : Sem Next).run P w = .ok n w') : ∃ u, n = .value u := by
 rw [Sem.run_bind] at h
 cases hs : s.run P w with
 | ok u w1 => rw [hs] at h; simp [Result.andThen, Sem.run_pure] at h; exact ⟨u, h.1.symm⟩
 | halt x w1 => rw [hs] at h; simp [Result.andThen] at h
theorem run_value2 {α : Type} {s : Sem α} {f : α → Value} {w w' : World} {n : Next} (h : (do pure (Next.value (f (← s))) : Sem Next).run P w = .ok n w') : ∃ u, n = .value u := by
 rw [Sem.run_bind] at h
 cases hs : s.run P w with
 | ok u w1 => rw [hs] at h; simp [Result.andThen, Sem.run_pure] at h; exact ⟨_, h.1.symm⟩
 | halt x w1 => rw [hs] at h; simp [Result.andThen] at h
def OnlyV (P : Program) (s : Sem Next) : Prop := ∀ w w' n, s.run P w = .ok n w' → ∃ u, n = .value u
theorem OnlyV.pure (u : Value) : OnlyV P (Pure.pure (.value u)) := fun w w' n h => by simp [Sem.run_pure] at h; exact ⟨u, h.1.symm⟩
theorem OnlyV.bind {α : Type} {s : Sem α} {f : α → Sem Next} (h : ∀ x, OnlyV P (f x)) : OnlyV P (s >>= f) := fun w w' n hr => by
 rw [Sem.run_bind] at hr
 cases hs : s.run P w with
 | ok u w1 => rw [hs] at hr; exact h u w1 w' n (by simpa [Result.andThen] using hr)
 | halt x w1 => rw [hs] at hr; simp [Result.andThen] at hr
theorem OnlyV.nilp : OnlyV P (runtimePanic .nilDeref) := fun w w' n h => by
 have e : (runtimePanic .nilDeref : Sem Next).run P w = .halt (.panic (.iface P.rt.errorString (strVal "invalid memory address or nil pointer dereference"))) w := by
   simp [runtimePanic, goPanic, go_sem]
 rw [e] at h; cases h
theorem plain_value {ρ : Operand → Value} {o : Oper} {w w' : World} {n : Next} (ho : plainOp o = true) (h : (execOp ρ o).run P w = .ok n w') : ∃ u, n = .value u := by
 obtain ⟨dst, op, type, pos, after, guard⟩ := o
 cases op <;> simp only [plainOp, Bool.false_eq_true] at ho <;> simp only [execOp] at h
 case move x => simp [Sem.run_pure] at h; exact ⟨_, h.1.symm⟩
 case assign x => simp [Sem.run_pure] at h; exact ⟨_, h.1.symm⟩
 case call c =>
   obtain ⟨cal, args, ats⟩ := c
   cases cal with
   | builtin b =>
     cases b <;> simp only [Bool.false_eq_true] at ho
     · exact run_value (s := Builtin.cap_ ats type (args.map ρ)) h
     · exact run_value (s := Builtin.len_ ats type (args.map ρ)) h
   | _ => simp at ho
 case nilCheck x =>
   have key : ∀ s : Sem Next, OnlyV P s → s.run P w = .ok n w' → ∃ u, n = .value u := fun s hs hr => hs w w' n hr
   refine key _ ?_ h
   split
   · exact OnlyV.nilp
   · exact OnlyV.nilp
   · exact OnlyV.nilp
   · split
     · exact OnlyV.nilp
     · refine OnlyV.bind (fun p => OnlyV.bind (fun b => ?_))
       split
       · exact OnlyV.bind (fun _ => OnlyV.pure _)
       · exact OnlyV.pure _
     · exact OnlyV.pure _
   · exact OnlyV.pure _
 case pick c x y => exact run_value2 (s := asBool (ρ c)) (f := fun b => if b = true then ρ x else ρ y) h
 all_goals exact run_value h
def FirmAt (P : Program) (ops : Array Oper) (C : World → Prop) (o : Oper) (v : Value) (a : Act) : Prop :=
 (Region.wanted o (yielded ops a.tmps) = true ∧ ∀ w, C w → (execOp a.eval o).run P w = .ok (.value v) w) ∨
 (Region.wanted o (yielded ops a.tmps) = false ∧ v = undef)
theorem FirmAt.of_same {o : Oper} {v : Value} {a a' : Act} (hy : FirmAt P ops C o v a) (he : execOp a'.eval o = execOp a.eval o)
   (hw : Region.wanted o (yielded ops a'.tmps) = Region.wanted o (yielded ops a.tmps)) : FirmAt P ops C o v a' := by
 unfold FirmAt at *
 rw [he, hw]
 exact hy
def wideR (r : Option Nat) : Fence := { Fence.wide with round := r }
def nodf (o : Oper) : Bool := match o.op with | .defer _ => false | _ => true
def wpLs (P : Program) (ops : Array Oper) (Q : Exit → Act → World → Prop) : List Oper → Act → World → Prop
 | [], a, w => Q .normal a w
 | o :: rest, a, w => if Region.wanted o (yielded ops a.tmps) then o.wp P a w (wpLs P ops Q rest) Q else wpLs P ops Q rest (a.put o.dst undef) w
theorem wpLs_nil {P : Program} {ops : Array Oper} {Q : Exit → Act → World → Prop} {a : Act} {w : World} (h : Q .normal a w) : wpLs P ops Q [] a w := h
theorem wpLs_plain {P : Program} {ops : Array Oper} {Q : Exit → Act → World → Prop} {a : Act} {w : World} {rest : List Oper} {o : Oper} (hg : o.guard = none)
   (h : ∀ K : Act → World → Prop, (∀ a w, wpLs P ops Q rest a w → K a w) → o.wp P a w K Q) : wpLs P ops Q (o :: rest) a w := by
 unfold wpLs
 rw [if_pos (by simp [Region.wanted, hg])]
 exact h _ (fun _ _ h => h)
theorem wpLs_skip {P : Program} {ops : Array Oper} {Q : Exit → Act → World → Prop} {a : Act} {w : World} {rest : List Oper} {o : Oper} (hw : Region.wanted o (yielded ops a.tmps) = false) (h : wpLs P ops Q rest (a.put o.dst undef) w) : wpLs P ops Q (o :: rest) a w := by
 unfold wpLs
 rw [if_neg (by simp [hw])]
 exact h
theorem semR {r : Option Nat} {ρ : Operand → Value} {o : Oper} (hd : nodf o = true) : o.semAt r ρ = execOp ρ o := by
 have h : ∀ c, o.op ≠ .defer c := fun c e => by unfold nodf at hd; rw [e] at hd; cases hd
 cases r with
 | none => exact Oper.semAt_none ρ o
 | some l => exact Oper.semAt_some l ρ o h
theorem rowsIn_of {r : Option Nat} {n : Nat} {P : Program} {row : String} {args : Array Value} {w : World} {R : Value → World → Prop} (h : Rows P row args w R) : RowsIn (wideR r) n P row args w R :=
 fun c cs _ => let ⟨v, w', x, s⟩ := h c cs; ⟨v, w', x, stepsIn_wide.2 s⟩
theorem wpIn_of_wp {r : Option Nat} {n : Nat} {P : Program} {o : Oper} {a : Act} {w : World} {K : Act → World → Prop} {Q : Exit → Act → World → Prop} (hd : nodf o = true) (h : o.wp P a w K Q) : o.wpIn (wideR r) n P a w K Q := by
 refine ⟨fun _ _ => trivial, ?_⟩
 rw [show o.semAt (wideR r).round a.eval = execOp a.eval o from semR hd]
 unfold Oper.wp at h
 generalize (execOp a.eval o).run P w = x at h ⊢
 cases x with
 | ok nx w' =>
   cases nx with
   | value v => exact h
   | skip => exact h
   | defer d => exact h
   | enter f args => exact ⟨fun hh => by simp [wideR, Fence.wide] at hh, (callsIn_wide (n := n - 1)).2 h⟩
   | row row args => exact ⟨fun hh => by simp [wideR, Fence.wide] at hh, rowsIn_of h⟩
   | _ => exact h.elim
 | halt x w' =>
   cases x with
   | panic v => exact h
   | _ => exact h.elim
theorem wpListIn_of {r : Option Nat} {n : Nat} {P : Program} {ops : Array Oper} {Q : Exit → Act → World → Prop} : ∀ {l : List Oper} {a : Act} {w : World}, l.all nodf = true → wpLs P ops Q l a w → wpListIn (wideR r) n P ops Q l a w
 | [], a, w, _, h => h
 | o :: l, a, w, hd, h => by
   simp only [List.all_cons, Bool.and_eq_true] at hd
   unfold wpLs at h
   unfold wpListIn
   split
   · rename_i hw; rw [if_pos hw] at h
     exact Oper.wpIn_mono (fun a w h => wpListIn_of hd.2 h) (wpIn_of_wp hd.1 h)
   · rename_i hw; rw [if_neg hw] at h
     exact ⟨fun _ _ => trivial, wpListIn_of hd.2 h⟩
def mixOp (P : Program) (ops : Array Oper) (C : World → Prop) (T : Nat → Bool) (Q : Exit → Act → World → Prop) (i : Nat) (K : Act → World → Prop) (a : Act) (w : World) : Prop :=
 match ops[i]? with
 | none => K a w
 | some o => if Region.wanted o (yielded ops a.tmps) then (if T i then o.wp P a w K Q else o.wp P a w (fun a' w' => C w' ∧ K a' w') noExit) else K (a.put o.dst undef) w
theorem wp_noExit {o : Oper} {a : Act} {w : World} {K : Act → World → Prop} (h : o.wp P a w K noExit) : o.wp P a w K Q := by
 unfold Oper.wp at *
 generalize (execOp a.eval o).run P w = r at *
 cases r with
 | ok n w' =>
   cases n <;> simp only [Oper.upon] at h ⊢ <;>
     first
       | exact h
       | exact Calls.mono h (fun e w'' he => by
           cases e
           · exact he
           · exact he.elim
           · obtain ⟨_, _, hf⟩ := he; exact hf.elim)
 | halt x w' => cases x <;> simp only [Oper.upon] at h ⊢ <;> first | exact h.elim | exact h
theorem mixOp_mono {i : Nat} {a : Act} {w : World} {K K' : Act → World → Prop} (h : ∀ a w, K a w → K' a w) (hh : mixOp P ops C T Q i K a w) : mixOp P ops C T Q i K' a w := by
 unfold mixOp at *
 split
 · exact h _ _ (by simpa [*] using hh)
 · rename_i o ho
   simp only [ho] at hh
   split
   · rename_i hw
     simp only [hw, if_true] at hh
     split
     · rename_i ht; simp only [ht, if_true] at hh; exact Oper.wp_mono h hh
     · rename_i ht; simp only [ht] at hh; exact Oper.wp_mono (fun a w k => ⟨k.1, h a w k.2⟩) hh
   · rename_i hw; simp only [hw] at hh; exact h _ _ hh
def mixAny (P : Program) (md : Region.Mode) (ops : Array Oper) (C : World → Prop) (T : Nat → Bool) (Q : Exit → Act → World → Prop) : Nat → Array Bool → Act → World → Prop
 | 0, listed, a, w => Region.ready md ops listed = [] ∧ Q .normal a w
 | fuel + 1, listed, a, w =>
   (Region.ready md ops listed = [] → Q .normal a w) ∧
   ∀ i ∈ Region.ready md ops listed, mixOp P ops C T Q i (mixAny P md ops C T Q fuel (listed.setIfInBounds i true)) a w
theorem wpAny_of_mix : ∀ (fuel : Nat) (listed : Array Bool) (a : Act) (w : World), mixAny P md ops C T Q fuel listed a w → wpAny P md ops Q fuel listed a w
 | 0, _, _, _, h => h
 | fuel + 1, _, _, _, h => ⟨h.1, fun i hi => by
     have h1 := mixOp_mono (fun a w k => wpAny_of_mix fuel _ a w k) (h.2 i hi)
     unfold mixOp at h1
     unfold wpOp
     split
     · rename_i ho; simpa [ho] using h1
     · rename_i o ho
       simp only [ho] at h1
       split
       · rename_i hw
         simp only [hw, if_true] at h1
         split at h1
         · exact .inl h1
         · exact .inl (wp_noExit (Oper.wp_mono (fun a w k => k.2) h1))
       · rename_i hw; simpa [hw] using h1⟩
theorem wpAnyIn_of_mix {r : Option Nat} {n : Nat} (hd : ∀ (i : Nat) o, ops[i]? = some o → nodf o = true) : ∀ (fuel : Nat) (listed : Array Bool) (a : Act) (w : World), mixAny P md ops C T Q fuel listed a w → wpAnyIn (wideR r) n P md ops Q fuel listed a w
 | 0, _, _, _, h => h
 | fuel + 1, _, _, _, h => ⟨h.1, fun i hi => by
     have h1 := mixOp_mono (fun a w k => wpAnyIn_of_mix (r := r) (n := n) hd fuel _ a w k) (h.2 i hi)
     unfold mixOp at h1
     unfold wpOpIn
     split
     · rename_i ho; simpa [ho] using h1
     · rename_i o ho
       simp only [ho] at h1
       split
       · rename_i hw
         simp only [hw, if_true] at h1
         split at h1
         · exact wpIn_of_wp (hd _ _ ho) h1
         · exact wpIn_of_wp (hd _ _ ho) (wp_noExit (Oper.wp_mono (fun a w k => k.2) h1))
       · rename_i hw; exact ⟨fun _ _ => trivial, by simpa [hw] using h1⟩⟩
theorem nodf_at {l : List Oper} (h : l.all nodf = true) : ∀ (i : Nat) o, l.toArray[i]? = some o → nodf o = true := fun i o ho => List.all_eq_true.1 h o (List.mem_of_getElem? (by simpa using ho))
theorem FirmAt.mixOp {i : Nat} {o : Oper} {v : Value} {a : Act} {w : World} (hi : ops[i]? = some o) (hT : T i = false) (hC : C w) (hy : FirmAt P ops C o v a) {K : Act → World → Prop} (h : K (a.put o.dst v) w) : mixOp P ops C T Q i K a w := by
 unfold Go.Proofs.YtmlbbjkojaljnaaDoor.mixOp
 simp only [hi]
 rcases hy with ⟨hw, hv⟩ | ⟨hw, rfl⟩
 · simp only [hw, if_true, hT, Bool.false_eq_true, if_false, Oper.wp, hv w hC, Oper.upon]; exact ⟨hC, h⟩
 · simp only [hw, Bool.false_eq_true, if_false]; exact h
theorem mixOp_put {j : Nat} {oi oj : Oper} {v : Value} (hj : ops[j]? = some oj) (hT : T j = false) (hap : oi.apart ops oj = true)
   (hsi : ∀ cs b, oi.op ≠ .select cs b) (hsj : ∀ cs b, oj.op ≠ .select cs b) {K : Act → World → Prop} {a : Act} {w : World} (hC : C w)
   (hy : FirmAt P ops C oi v a) (h : mixOp P ops C T Q j K (a.put oi.dst v) w) :
   mixOp P ops C T Q j (fun a' w' => FirmAt P ops C oi v a' ∧ C w' ∧ K (a'.put oi.dst v) w') a w := by
 obtain ⟨h1, h2, h3⟩ := Oper.apart_spec hap
 have keep : ∀ (a : Act), FirmAt P ops C oi v a → ∀ u, FirmAt P ops C oi v (a.put oj.dst u) := fun a hy u =>
   hy.of_same (execOp_put oi hsi a oj.dst u h3) (wanted_put oi a oj.dst u h3)
 have keepD : ∀ d, FirmAt P ops C oi v { a with defers := d :: a.defers } := fun d => hy.of_same rfl rfl
 unfold mixOp at *
 simp only [hj, hT, Bool.false_eq_true, if_false] at *
 rw [wanted_put oj a oi.dst v h1] at h
 split
 · rename_i hw
   simp only [hw, if_true] at h
   unfold Oper.wp at *
   rw [execOp_put oj hsj a oi.dst v h1] at h
   generalize (execOp a.eval oj).run P w = r at *
   cases r with
   | ok n w' =>
     cases n <;> simp only [Oper.upon] at h ⊢
     case value u => exact ⟨h.1, keep a hy u, h.1, by rw [← Act.put_comm a v u h2]; exact h.2⟩
     case skip => exact ⟨h.1, keep a hy _, h.1, by rw [← Act.put_comm a v undef h2]; exact h.2⟩
     case defer d =>
       refine ⟨h.1, keep _ (keepD d) _, h.1, ?_⟩
       rw [← Act.put_comm _ v undef h2, ← Act.put_defers]
       exact h.2
     case enter f args =>
       refine Calls.mono h fun e w'' he => ?_
       cases e with
       | returned u => exact ⟨he.1, keep a hy u, he.1, by rw [← Act.put_comm a v u h2]; exact he.2⟩
       | panicked c => exact he.elim
       | outgrown => exact he
     case row row args => exact Rows.mono h fun u w'' he => ⟨he.1, keep a hy u, he.1, by rw [← Act.put_comm a v u h2]; exact he.2⟩
   | halt x w' =>
     cases x <;> simp only [Oper.upon] at h ⊢
     case panic u => exact h.elim
 · rename_i hw
   simp only [hw] at h
   exact ⟨keep a hy _, hC, by rw [← Act.put_comm a v undef h2]; exact h⟩
def Shut (md : Region.Mode) (ops : Array Oper) (listed : Array Bool) : Prop := ∀ j o, ops[j]? = some o → listed.getD j false = true → ∀ e ∈ o.after, Region.binds md e = true → listed.getD e.on false = true
def waits (md : Region.Mode) (ops : Array Oper) : Nat → Nat → Nat → Bool
 | 0, _, _ => false
 | n + 1, j, i => match ops[j]? with
   | some o => o.after.any fun e => Region.binds md e && (e.on == i || waits md ops n e.on i)
   | none => false
def wbits (md : Region.Mode) : List Edge → Nat → Nat
 | [], m => m
 | e :: r, m => wbits md r (if Region.binds md e then m ||| (1 <<< e.on) else m)
def wgo (md : Region.Mode) (ops : Array Oper) : Nat → Nat → Nat
 | 0, m => m
 | t + 1, m => wgo md ops t (if m.testBit t then (match ops[t]? with | some o => wbits md o.after.toList m | none => m) else m)
def waitsF (md : Region.Mode) (ops : Array Oper) (j i : Nat) : Bool := (wgo md ops ops.size (1 <<< j)).testBit i && !Nat.beq i j
theorem testBit_shl (a k : Nat) : (1 <<< a).testBit k = decide (a = k) := by
 rw [Nat.one_shiftLeft, Nat.testBit_two_pow]
theorem wbits_ok {md : Region.Mode} {p : Nat → Prop} : ∀ (l : List Edge) {m : Nat}, (∀ e ∈ l, Region.binds md e = true → p e.on) → (∀ k, m.testBit k = true → p k) → ∀ k, (wbits md l m).testBit k = true → p k
 | [], m, _, hm => hm
 | e :: r, m, hl, hm => by
   unfold wbits
   refine wbits_ok r (fun e' he' => hl e' (List.mem_cons_of_mem _ he')) (fun k hk => ?_)
   split at hk
   · rename_i hb
     rw [Nat.testBit_or, Bool.or_eq_true, testBit_shl] at hk
     rcases hk with hk | hk
     · exact hm k hk
     · have : e.on = k := by simpa using hk
       rw [← this]
       exact hl e List.mem_cons_self hb
   · exact hm k hk
theorem wgo_ok {md : Region.Mode} {ops : Array Oper} {p : Nat → Prop} (hp : ∀ t o, p t → ops[t]? = some o → ∀ e ∈ o.after.toList, Region.binds md e = true → p e.on) : ∀ (t : Nat) {m : Nat}, (∀ k, m.testBit k = true → p k) → ∀ k, (wgo md ops t m).testBit k = true → p k
 | 0, m, hm => hm
 | t + 1, m, hm => by
   unfold wgo
   refine wgo_ok hp t (fun k hk => ?_)
   split at hk
   · rename_i hb
     split at hk
     · rename_i o ho
       exact wbits_ok _ (hp t o (hm t hb) ho) hm k hk
     · exact hm k hk
   · exact hm k hk
theorem waitsF_listed {md : Region.Mode} {ops : Array Oper} {listed : Array Bool} (hS : Shut md ops listed) {i j : Nat} (h : waitsF md ops j i = true) (hj : ∀ o, ops[j]? = some o → ∀ e ∈ o.after, Region.binds md e = true → listed.getD e.on false = true) : listed.getD i false = true := by
 unfold waitsF at h
 rw [Bool.and_eq_true] at h
 have key := wgo_ok (md := md) (ops := ops) (p := fun k => k = j ∨ listed.getD k false = true) (fun t o ht ho e he hb => by
   rcases ht with rfl | ht
   · exact .inr (hj o ho e (by simpa using he) hb)
   · exact .inr (hS t o ho ht e (by simpa using he) hb)) ops.size (m := 1 <<< j) (fun k hk => by rw [testBit_shl] at hk; exact .inl ((by simpa using hk : j = k).symm)) i h.1
 rcases key with rfl | hk
 · have := h.2
   rw [Nat.beq_refl] at this
   cases this
 · exact hk
theorem waits_listed {listed : Array Bool} (hS : Shut md ops listed) {i : Nat} : ∀ (n j : Nat), waits md ops n j i = true → (∀ o, ops[j]? = some o → ∀ e ∈ o.after, Region.binds md e = true → listed.getD e.on false = true) → listed.getD i false = true
 | 0, _, h, _ => by simp [waits] at h
 | n + 1, j, h, hj => by
     simp only [waits] at h
     cases ho : ops[j]? with
     | none => simp [ho] at h
     | some o =>
       simp only [ho, Array.any_eq_true'] at h
       obtain ⟨e, he, hb⟩ := h
       simp only [Bool.and_eq_true, Bool.or_eq_true, beq_iff_eq] at hb
       have h1 := hj o ho e he hb.1
       rcases hb.2 with rfl | h2
       · exact h1
       · exact waits_listed hS n e.on h2 (fun o' ho' => hS e.on o' ho' h1)
theorem shut_set {listed : Array Bool} {j : Nat} (hS : Shut md ops listed) (hj : j ∈ Region.ready md ops listed) : Shut md ops (listed.setIfInBounds j true) := by
 obtain ⟨_, oj, hoj, hall⟩ := mem_ready.1 hj
 intro k o hk hl e he hb
 by_cases hkj : j = k
 · subst hkj
   rw [hoj] at hk
   obtain rfl := Option.some.inj hk
   exact getD_set_true (hall e he hb)
 · rw [getD_set_ne false hkj] at hl
   exact getD_set_true (hS k o hk hl e he hb)
theorem unlisted {listed : Array Bool} {i : Nat} (h : i ∈ Region.ready md ops listed) : listed.getD i false = true → False := by
 have h0 := (mem_ready.1 h).1
 intro h1
 rcases Nat.lt_or_ge i listed.size with h' | h'
 · simp [h'] at h0 h1; rw [h0] at h1; cases h1
 · simp [Array.getElem?_eq_none h'] at h1
theorem mixAny_first {i : Nat} {oi : Oper} {v : Value} (hi : ops[i]? = some oi) (hTi : T i = false) (hsel : ∀ (j : Nat) (o : Oper) cs b, ops[j]? = some o → o.op ≠ .select cs b)
   (hwait : ∀ j, T j = true → waitsF md ops j i = true) :
   ∀ (fuel : Nat) (listed : Array Bool) (a : Act) (w : World), C w → Shut md ops listed →
     (∀ j oj, ops[j]? = some oj → j ≠ i → listed.getD j true = false → (∀ e ∈ oj.after, Region.binds md e = true → e.on ≠ i) → oi.apart ops oj = true) →
     i ∈ Region.ready md ops listed → FirmAt P ops C oi v a →
     mixAny P md ops C T Q fuel (listed.setIfInBounds i true) (a.put oi.dst v) w → mixAny P md ops C T Q (fuel + 1) listed a w := by
 intro fuel
 induction fuel with
 | zero =>
   intro listed a w hC hS _ hr hy H
   refine ⟨fun h => (by rw [h] at hr; cases hr), fun j hj => ?_⟩
   by_cases hji : j = i
   · subst hji; exact hy.mixOp hi hTi hC H
   · have := ready_mono hj hji
     rw [H.1] at this
     cases this
 | succ fuel ih =>
   intro listed a w hC hS hfree hr hy H
   refine ⟨fun h => (by rw [h] at hr; cases hr), fun j hj => ?_⟩
   by_cases hji : j = i
   · subst hji; exact hy.mixOp hi hTi hC H
   · have h1 := H.2 j (ready_mono hj hji)
     obtain ⟨hjun, oj, hoj, hall⟩ := mem_ready.1 hj
     have hTj : T j = false := by
       cases ht : T j with
       | false => rfl
       | true => exact (unlisted hr (waitsF_listed hS (hwait j ht) (fun o ho => by rw [hoj] at ho; obtain rfl := Option.some.inj ho; exact hall))).elim
     have hnot : ∀ e ∈ oj.after, Region.binds md e = true → e.on ≠ i := fun e he hb heq => unlisted hr (heq ▸ hall e he hb)
     have h2 := mixOp_put hoj hTj (hfree j oj hoj hji hjun hnot) (fun cs b => hsel i oi cs b hi) (fun cs b => hsel j oj cs b hoj) hC hy h1
     have hfree' : ∀ k ok, ops[k]? = some ok → k ≠ i → (listed.setIfInBounds j true).getD k true = false →
         (∀ e ∈ ok.after, Region.binds md e = true → e.on ≠ i) → oi.apart ops ok = true := fun k ok hk hki hun hno => by
       refine hfree k ok hk hki ?_ hno
       by_cases hjk : j = k
       · subst hjk; exact hjun
       · rw [getD_set_ne true hjk] at hun; exact hun
     refine mixOp_mono (fun a' w' h3 => ih (listed.setIfInBounds j true) a' w' h3.2.1 (shut_set hS hj) hfree' (ready_mono hr (Ne.symm hji)) h3.1 ?_) h2
     rw [Array.setIfInBounds_comm _ _ hji]
     exact h3.2.2
def mixStill (md : Region.Mode) (ops : Array Oper) (tail : List Nat) : List Nat → Array Bool → Option (Array Bool)
 | [], l => some l
 | i :: r, l => if (Region.ready md ops l).contains i && Region.free md ops l i && !tail.contains i && tail.all (fun j => waitsF md ops j i) && ((ops[i]?).map plainOp).getD false then mixStill md ops tail r (l.setIfInBounds i true) else none
def mixPlan (md : Region.Mode) (ops : Array Oper) (tail : List Nat) : List (List Nat × Nat) → Array Bool → Option (Array Bool)
 | [], l => some l
 | (s, k) :: r, l => match mixStill md ops tail s l with
   | some l' => if Region.ready md ops l' == [k] && !tail.contains k then mixPlan md ops tail r (l'.setIfInBounds k true) else none
   | none => none
def mixTail (md : Region.Mode) (ops : Array Oper) (tail : List Nat) : List Nat → Array Bool → Bool
 | [], l => (Region.ready md ops l).isEmpty
 | t :: r, l => Region.ready md ops l == [t] && tail.contains t && mixTail md ops tail r (l.setIfInBounds t true)
def mixB (md : Region.Mode) (ops : Array Oper) (plan : List (List Nat × Nat)) (fin tail : List Nat) : Bool :=
 Region.noSelect ops && (plan.map (fun p => p.1.length + 1)).sum + fin.length + tail.length == ops.size && match mixPlan md ops tail plan (Array.replicate ops.size false) with
   | some l => match mixStill md ops tail fin l with
     | some l' => mixTail md ops tail tail l'
     | none => false
   | none => false
def picks (l : List Oper) : List Nat → List Oper
 | [] => []
 | i :: r => match l[i]? with | some o => o :: picks l r | none => picks l r
def segs (l : List Oper) : List (List Nat × Nat) → List (List Oper × Oper)
 | [] => []
 | (s, k) :: r => match l[k]? with | some o => (picks l s, o) :: segs l r | none => segs l r
theorem picks_cons {l : List Oper} {i : Nat} {o : Oper} {r : List Nat} (h : l[i]? = some o) : picks l (i :: r) = o :: picks l r := by simp [picks, h]
theorem segs_cons {l : List Oper} {s : List Nat} {k : Nat} {o : Oper} {r : List (List Nat × Nat)} (h : l[k]? = some o) : segs l ((s, k) :: r) = (picks l s, o) :: segs l r := by simp [segs, h]
def aloneOp (P : Program) (ops : Array Oper) (C : World → Prop) (o : Oper) (K : Act → World → Prop) (a : Act) (w : World) : Prop :=
 if Region.wanted o (yielded ops a.tmps) then o.wp P a w (fun a' w' => C w' ∧ K a' w') noExit else K (a.put o.dst undef) w
def wpMix (P : Program) (ops : Array Oper) (C : World → Prop) (F : Act → World → Prop) : List (List Oper × Oper) → Act → World → Prop
 | [], a, w => F a w
 | (s, o) :: r, a, w => wpQuiet P ops C (fun a' => aloneOp P ops C o (wpMix P ops C F r) a' w) s a
theorem firm_of_quiet {o : Oper} {a : Act} {K : Act → Prop} (ho : plainOp o = true) (hne : ∃ w, C w) (h : if Region.wanted o (yielded ops a.tmps) then o.quiet P a C K else K (a.put o.dst undef)) : ∃ v, FirmAt P ops C o v a ∧ K (a.put o.dst v) := by
 by_cases hw : Region.wanted o (yielded ops a.tmps) = true
 · simp only [hw, if_true] at h
   obtain ⟨v, h1, h2⟩ := h
   refine ⟨v, .inl ⟨hw, fun w hC => ?_⟩, h2⟩
   have h3 := h1 w hC
   unfold Oper.quietAt at h3
   cases hr : (execOp a.eval o).run P w with
   | ok n w' =>
     obtain ⟨u, rfl⟩ := plain_value ho hr
     rw [hr] at h3
     obtain ⟨rfl, rfl⟩ := h3
     rfl
   | halt x w' => rw [hr] at h3; exact h3.elim
 · simp only [hw] at h
   exact ⟨undef, .inr ⟨by simpa using hw, rfl⟩, h⟩
theorem mix_still {l : List Oper} {tail : List Nat} (hs : Region.noSelect l.toArray = true) : ∀ (s : List Nat) (k : Nat) (listed listed' : Array Bool) (a : Act) (w : World) (K : Act → Prop), mixStill md l.toArray tail s listed = some listed' → C w → Shut md l.toArray listed →
   (∀ a', K a' → mixAny P md l.toArray C (tail.contains ·) Q k listed' a' w) → wpQuiet P l.toArray C K (picks l s) a → (Shut md l.toArray listed' ∧ mixAny P md l.toArray C (tail.contains ·) Q (k + s.length) listed a w)
 | [], k, listed, listed', a, w, K, hm, hC, hS, hK, h => by
     simp only [mixStill, Option.some.injEq] at hm
     subst hm
     exact ⟨hS, hK a h⟩
 | i :: s, k, listed, listed', a, w, K, hm, hC, hS, hK, h => by
     simp only [mixStill] at hm
     split at hm
     case isFalse => cases hm
     case isTrue hb =>
       simp only [Bool.and_eq_true, Bool.not_eq_true', List.all_eq_true] at hb
       obtain ⟨⟨⟨⟨hr, hf⟩, ht⟩, hw⟩, hp⟩ := hb
       have hmem : i ∈ Region.ready md l.toArray listed := by simpa using hr
       obtain ⟨_, oi, ho, _⟩ := mem_ready.1 hmem
       rw [ho] at hp
       have ho' : l[i]? = some oi := by simpa using ho
       rw [picks_cons ho'] at h
       obtain ⟨v, hy, hn⟩ := firm_of_quiet (by simpa using hp) ⟨w, hC⟩ h
       have h1 := mix_still hs s k (listed.setIfInBounds i true) listed' (a.put oi.dst v) w K hm hC (shut_set hS hmem) hK hn
       refine ⟨h1.1, ?_⟩
       have h2 := mixAny_first (T := (tail.contains ·)) (Q := Q) ho ht (Region.noSelect_spec hs) (fun j hj => hw j (by simpa using hj)) (k + s.length) listed a w hC hS (Region.free_spec ho hf) hmem hy h1.2
       simpa [Nat.add_assoc] using h2
theorem mix_alone {l : List Oper} {tail : List Nat} {k fuel : Nat} {o : Oper} {listed : Array Bool} {a : Act} {w : World} (hr : Region.ready md l.toArray listed = [k]) (ho : l[k]? = some o) (ht : tail.contains k = false)
   (h : aloneOp P l.toArray C o (mixAny P md l.toArray C (tail.contains ·) Q fuel (listed.setIfInBounds k true)) a w) : mixAny P md l.toArray C (tail.contains ·) Q (fuel + 1) listed a w := by
 refine ⟨fun h0 => by rw [hr] at h0; simp at h0, fun i hi => ?_⟩
 rw [hr] at hi
 obtain rfl := List.mem_singleton.1 hi
 unfold mixOp
 have ho' : l.toArray[i]? = some o := by simpa using ho
 simp only [ho', ht, Bool.false_eq_true, if_false]
 exact h
theorem mix_tail {l : List Oper} {tail : List Nat} : ∀ (r : List Nat) (listed : Array Bool) (a : Act) (w : World), mixTail md l.toArray tail r listed = true → wpLs P l.toArray Q (picks l r) a w → mixAny P md l.toArray C (tail.contains ·) Q r.length listed a w
 | [], listed, a, w, hm, h => ⟨by simpa [mixTail] using hm, h⟩
 | t :: r, listed, a, w, hm, h => by
     simp only [mixTail, Bool.and_eq_true, beq_iff_eq] at hm
     obtain ⟨⟨hr, ht⟩, hm⟩ := hm
     have hmem : t ∈ Region.ready md l.toArray listed := by rw [hr]; simp
     obtain ⟨_, o, ho, _⟩ := mem_ready.1 hmem
     have ho' : l[t]? = some o := by simpa using ho
     rw [picks_cons ho'] at h
     have ih := fun a w => mix_tail r (listed.setIfInBounds t true) a w hm
     refine ⟨fun h0 => by rw [hr] at h0; simp at h0, fun i hi => ?_⟩
     rw [hr] at hi
     obtain rfl := List.mem_singleton.1 hi
     unfold mixOp
     simp only [ho, ht, if_true]
     unfold wpLs at h
     split
     · rename_i hw
       simp only [hw, if_true] at h
       exact Oper.wp_mono ih h
     · rename_i hw
       simp only [hw] at h
       exact ih _ _ h
theorem mix_plan {l : List Oper} {tail : List Nat} {F : Act → World → Prop} (hs : Region.noSelect l.toArray = true) : ∀ (plan : List (List Nat × Nat)) (k : Nat) (listed listed' : Array Bool) (a : Act) (w : World), mixPlan md l.toArray tail plan listed = some listed' → C w → Shut md l.toArray listed →
   (∀ a' w', C w' → Shut md l.toArray listed' → F a' w' → mixAny P md l.toArray C (tail.contains ·) Q k listed' a' w') → wpMix P l.toArray C F (segs l plan) a w → mixAny P md l.toArray C (tail.contains ·) Q (k + (plan.map (fun p => p.1.length + 1)).sum) listed a w
 | [], k, listed, listed', a, w, hm, hC, hS, hK, h => by
     simp only [mixPlan, Option.some.injEq] at hm
     subst hm
     exact hK a w hC hS h
 | (s, i) :: r, k, listed, listed', a, w, hm, hC, hS, hK, h => by
     simp only [mixPlan] at hm
     split at hm
     case h_2 => cases hm
     case h_1 l1 h1 =>
       split at hm
       case isFalse => cases hm
       case isTrue hb =>
         simp only [Bool.and_eq_true, beq_iff_eq, Bool.not_eq_true'] at hb
         have hmem : i ∈ Region.ready md l.toArray l1 := by rw [hb.1]; simp
         obtain ⟨_, o, ho, _⟩ := mem_ready.1 hmem
         have ho' : l[i]? = some o := by simpa using ho
         rw [segs_cons ho'] at h
         have hS1 : Shut md l.toArray l1 := (mix_still (P := P) (Q := noExit) (md := md) (tail := tail) (C := C) hs s 0 listed l1 a w (fun _ => False) h1 hC hS (fun _ h => h.elim)) |> fun f => by
           have : ∀ (s : List Nat) (listed l1 : Array Bool), mixStill md l.toArray tail s listed = some l1 → Shut md l.toArray listed → Shut md l.toArray l1 := by
             intro s
             induction s with
             | nil => intro a b h1 h2; simp only [mixStill, Option.some.injEq] at h1; subst h1; exact h2
             | cons i s ih =>
               intro a b h1 h2
               simp only [mixStill] at h1
               split at h1
               case isFalse => cases h1
               case isTrue hb =>
                 simp only [Bool.and_eq_true] at hb
                 exact ih _ _ h1 (shut_set h2 (by simpa using hb.1.1.1.1))
           exact this s listed l1 h1 hS
         have h2 := (mix_still (P := P) (Q := Q) (md := md) (tail := tail) (C := C) hs s (k + (r.map (fun p => p.1.length + 1)).sum + 1) listed l1 a w _ h1 hC hS (fun a' hk => by
           refine mix_alone hb.1 ho' hb.2 ?_
           unfold aloneOp at *
           split
           · rename_i hw
             simp only [hw, if_true] at hk
             exact Oper.wp_mono (fun a2 w2 hk2 => ⟨hk2.1, mix_plan hs r k (l1.setIfInBounds i true) listed' a2 w2 hm hk2.1 (shut_set hS1 hmem) hK hk2.2⟩) hk
           · rename_i hw
             simp only [hw] at hk
             exact mix_plan hs r k (l1.setIfInBounds i true) listed' _ w hm hC (shut_set hS1 hmem) hK hk) h).2
         have e : k + (r.map (fun p => p.1.length + 1)).sum + 1 + s.length = k + (((s, i) :: r).map (fun p => p.1.length + 1)).sum := by simp; omega
         rw [e] at h2
         exact h2
theorem wp_region_mix {id : Nat} {a : Act} {w : World} {l : List Oper} (plan : List (List Nat × Nat)) (fin tail : List Nat) (hm : P.follows .mixedOrders = true) (hB : mixB .any l.toArray plan fin tail = true) (C : World → Prop) (hC : C w.drew)
   {ss : List (List Oper × Oper)} (hss : segs l plan = ss) {fs ts : List Oper} (hfs : picks l fin = fs) (hts : picks l tail = ts)
   (h : wpMix P l.toArray C (fun a' w' => wpQuiet P l.toArray C (fun a' => wpLs P l.toArray Q ts a' w') fs a') ss a w.drew) (hnd : l.all nodf = true := by rfl) {r : Option Nat} {n : Nat} : (Code.region id l.toArray true).wpIn (wideR r) n P Q a w := by
 subst hss hfs hts
 unfold mixB at hB
 simp only [Bool.and_eq_true, beq_iff_eq] at hB
 obtain ⟨⟨hs, hn⟩, hB⟩ := hB
 split at hB
 case h_2 => cases hB
 case h_1 l1 h1 =>
   split at hB
   case h_2 => cases hB
   case h_1 l2 h2 =>
     refine wpIn_region_any hm (wpAnyIn_of_mix (C := C) (T := (tail.contains ·)) (nodf_at hnd) _ _ _ _ ?_)
     have hS0 : Shut Region.Mode.any l.toArray (Array.replicate l.toArray.size false) := by
       intro j o _ hl
       exfalso
       rcases Nat.lt_or_ge j (Array.replicate l.toArray.size false).size with h' | h'
       · simp at h'; simp [h'] at hl
       · rw [Array.getD_eq_getD_getElem?, Array.getElem?_eq_none h'] at hl
         cases hl
     have h3 := mix_plan (P := P) (Q := Q) (C := C) (md := .any) (tail := tail) hs plan (tail.length + fin.length) (Array.replicate l.toArray.size false) l1 a w.drew h1 hC hS0
       (fun a' w' hC' hS' hF => (mix_still (P := P) (Q := Q) (md := .any) (tail := tail) (C := C) hs fin tail.length l1 l2 a' w' _ h2 hC' hS' (fun a2 hk => mix_tail tail l2 a2 w' hB hk) hF).2) h
     rw [show tail.length + fin.length + (plan.map (fun p => p.1.length + 1)).sum = l.toArray.size by omega] at h3
     exact h3
theorem wpMix_cons {F : Act → World → Prop} {s : List Oper} {o : Oper} {r : List (List Oper × Oper)} {a : Act} {w : World} (h : wpQuiet P ops C (fun a' => aloneOp P ops C o (wpMix P ops C F r) a' w) s a) : wpMix P ops C F ((s, o) :: r) a w := h
theorem wpMix_nil {F : Act → World → Prop} {a : Act} {w : World} (h : F a w) : wpMix P ops C F [] a w := h
theorem alone_past {S : List Nat} {W : World} {o : Oper} {K : Act → World → Prop} {a : Act} {w : World} (hw : Region.wanted o (yielded ops a.tmps) = true)
   (h : ∀ K' : Act → World → Prop, (∀ a' w', Fr S W w' → K a' w' → K' a' w') → o.wp P a w K' noExit) : aloneOp P ops (fun w' => ∃ z : Past S W, w' = z.w) o K a w := by
 unfold aloneOp
 rw [if_pos hw]
 exact h _ (fun a' w' f k => ⟨⟨⟨w', f⟩, rfl⟩, k⟩)
theorem alone_skip {o : Oper} {K : Act → World → Prop} {a : Act} {w : World} (hw : Region.wanted o (yielded ops a.tmps) = false) (h : K (a.put o.dst undef) w) : aloneOp P ops C o K a w := by
 unfold aloneOp
 rw [if_neg (by simp [hw])]
 exact h
theorem wp_region_past {id : Nat} {a : Act} {w : World} {l : List Oper} (S : List Nat) (plan : List (List Nat × Nat)) (fin tail : List Nat) (hm : P.follows .mixedOrders = true) (hB : mixB .any l.toArray plan fin tail = true)
   {ss : List (List Oper × Oper)} (hss : segs l plan = ss) {fs ts : List Oper} (hfs : picks l fin = fs) (hts : picks l tail = ts)
   (h : wpMix P l.toArray (fun w' => ∃ z : Past S w, w' = z.w) (fun a' w' => wpQuiet P l.toArray (fun w' => ∃ z : Past S w, w' = z.w) (fun a' => wpLs P l.toArray Q ts a' w') fs a') ss a w.drew) (hnd : l.all nodf = true := by rfl) {r : Option Nat} {n : Nat} : (Code.region id l.toArray true).wpIn (wideR r) n P Q a w :=
 wp_region_mix plan fin tail hm hB _ ⟨⟨w.drew, (Fr.refl S w).drew⟩, rfl⟩ hss hfs hts h hnd
end
end
section
abbrev Hp := Nat → Option Obj
def Hp.le (a b : Hp) : Prop := ∀ n o, a n = some o → b n = some o
def Hp.join (a b : Hp) : Hp := fun n => (a n).or (b n)
theorem Hp.le_refl (a : Hp) : a.le a := fun _ _ h => h
theorem Hp.le_trans {a b c : Hp} (h : a.le b) (k : b.le c) : a.le c := fun n o e => k n o (h n o e)
theorem Hp.le.trans {a b c : Hp} (h : a.le b) (k : b.le c) : a.le c := fun n o e => k n o (h n o e)
theorem Hp.le_join (a b : Hp) : a.le (a.join b) := fun n o e => by simp [Hp.join, e]
theorem Hp.join_le {a b c : Hp} (h : a.le c) (k : b.le c) : (a.join b).le c := fun n o e => by
 unfold Hp.join at e
 cases ha : a n with
 | none => rw [ha] at e; exact k n o (by simpa using e)
 | some x => rw [ha] at e; simp at e; subst e; exact h n x ha
theorem Hp.join_right {a b : Hp} {n : Nat} {o : Obj} (h : b n = some o) (ha : a n = none) : a.join b n = some o := by simp [Hp.join, h, ha]
theorem Hp.join_some {a b : Hp} {n : Nat} {o : Obj} (h : a.join b n = some o) : a n = some o ∨ (a n = none ∧ b n = some o) := by
 unfold Hp.join at h
 cases ha : a n with
 | none => rw [ha] at h; exact .inr ⟨rfl, by simpa using h⟩
 | some x => rw [ha] at h; exact .inl (by simpa using h)
theorem Hp.join_none {a b : Hp} {n : Nat} (h : a.join b n = none) : a n = none ∧ b n = none := by
 unfold Hp.join at h
 cases ha : a n with
 | none => rw [ha] at h; exact ⟨rfl, by simpa using h⟩
 | some x => rw [ha] at h; simp at h
def Hp.of (w : World) : Hp := fun n => w.heap[n]?
def Hp.nil : Hp := fun _ => none
theorem Hp.nil_le (a : Hp) : Hp.nil.le a := fun _ _ h => by cases h
structure En where
 os : Os
 tape : Nat → Question → Nat
 out : Array (Nat × ByteArray)
 rd : Option Nat := none
def En.of (w : World) : En := ⟨w.os, w.tape, w.output, none⟩
def En.at (E : En) (w : World) : Prop := w.os = E.os ∧ w.tape = E.tape ∧ w.output = E.out
abbrev Atom := Hp → Prop
def Sep (E : En) : Hp → List Atom → World → Prop
 | K, [], w => E.at w ∧ K.le (Hp.of w)
 | K, A :: L, w => ∃ h : Hp, A h ∧ (∀ n o, h n = some o → K n = none) ∧ Sep E (K.join h) L w
section
variable {E : En}
theorem Sep.sub : ∀ {L : List Atom} {K : Hp} {w : World}, Sep E K L w → K.le (Hp.of w)
 | [], K, w, h => h.2
 | A :: L, K, w, ⟨h, _, _, hs⟩ => (Hp.le_join K h).trans (Sep.sub hs)
theorem Sep.env : ∀ {L : List Atom} {K : Hp} {w : World}, Sep E K L w → E.at w
 | [], K, w, h => h.1
 | A :: L, K, w, ⟨h, _, _, hs⟩ => Sep.env hs
theorem Sep.move {w w' : World} (he : E.at w → E.at w') : ∀ {L : List Atom} {K1 K2 : Hp}, Sep E K1 L w → K2.le (Hp.of w') →
   (∀ n o, w.heap[n]? = some o → K1 n = none → K2 n = none ∧ w'.heap[n]? = some o) → Sep E K2 L w'
 | [], K1, K2, h, h2, _ => ⟨he h.1, h2⟩
 | A :: L, K1, K2, ⟨h, ha, hd, hs⟩, h2, h3 => by
   have hle := (show Hp.le h (Hp.of w) from fun n o e => Sep.sub hs n o (Hp.join_right e (hd n o e)))
   refine ⟨h, ha, fun n o e => (h3 n o (hle n o e) (hd n o e)).1, Sep.move he hs ?_ ?_⟩
   · exact Hp.join_le h2 (fun n o e => (h3 n o (hle n o e) (hd n o e)).2)
   · intro n o e k
     obtain ⟨k1, k2⟩ := Hp.join_none k
     obtain ⟨k3, k4⟩ := h3 n o e k1
     exact ⟨by simp [Hp.join, k3, k2], k4⟩
theorem Sep.weaken {L : List Atom} {K1 K2 : Hp} {w : World} (h : Sep E K1 L w) (k : K2.le K1) : Sep E K2 L w :=
 Sep.move id h (k.trans h.sub) (fun n o e h1 => by
   refine ⟨?_, e⟩
   cases h2 : K2 n with
   | none => rfl
   | some x => rw [k n x h2] at h1; cases h1)
theorem Sep.drop {A : Atom} {L : List Atom} {K : Hp} {w : World} (h : Sep E K (A :: L) w) : Sep E K L w := by
 obtain ⟨h, _, _, hs⟩ := h
 exact hs.weaken (Hp.le_join K h)
theorem Hp.join_swap {a b c : Hp} (h : ∀ n o, c n = some o → a.join b n = none) : (a.join b).join c = (a.join c).join b := by
 funext n
 unfold Hp.join
 cases ha : a n with
 | some x => simp
 | none =>
   cases hc : c n with
   | none => simp
   | some y =>
     have := h n y hc
     simp [Hp.join, ha] at this
     simp [this]
theorem Sep.swap {A B : Atom} {L : List Atom} {K : Hp} {w : World} (h : Sep E K (A :: B :: L) w) : Sep E K (B :: A :: L) w := by
 obtain ⟨h1, ha, hd, h2, hb, hd2, hs⟩ := h
 refine ⟨h2, hb, fun n o e => (Hp.join_none (hd2 n o e)).1, h1, ha, fun n o e => ?_, ?_⟩
 · have := hd n o e
   cases h' : h2 n with
   | none => simp [Hp.join, this, h']
   | some x =>
     have := (Hp.join_none (hd2 n x h')).2
     rw [e] at this; cases this
 · rw [Hp.join_swap hd2] at hs
   exact hs
theorem Sep.front : ∀ (i : Nat) {A : Atom} {L : List Atom} {K : Hp} {w : World}, L[i]? = some A → Sep E K L w → Sep E K (A :: L.eraseIdx i) w
 | 0, A, B :: L, K, w, h, hs => by simp at h; subst h; exact hs
 | i + 1, A, B :: L, K, w, h, hs => by
   obtain ⟨hb, h1, h2, h3⟩ := hs
   exact Sep.swap ⟨hb, h1, h2, Sep.front i (by simpa using h) h3⟩
 | i, A, [], K, w, h, hs => by simp at h
theorem Sep.turn {A B : Atom} {L : List Atom} {K : Hp} {w w' : World} (hs : Sep E K (A :: L) w) (he : E.at w → E.at w')
   (h : ∀ h, A h → h.le (Hp.of w) → ∃ h', B h' ∧ (∀ n o, h' n = some o → w'.heap[n]? = some o ∧ (h n = none → w.heap[n]? = none)) ∧ ∀ n o, w.heap[n]? = some o → h n = none → w'.heap[n]? = some o) : Sep E K (B :: L) w' := by
 obtain ⟨h1, ha, hd, hs⟩ := hs
 have hle := (show Hp.le h1 (Hp.of w) from fun n o e => hs.sub n o (Hp.join_right e (hd n o e)))
 obtain ⟨h2, hb, hn, hk⟩ := h h1 ha hle
 have hK := (Hp.le_join K h1).trans hs.sub
 have hd2 : ∀ n o, h2 n = some o → K n = none := fun n o e => by
   cases hKn : K n with
   | none => rfl
   | some x =>
     have e1 : h1 n = none := by
       cases e1 : h1 n with
       | none => rfl
       | some y => rw [hd n y e1] at hKn; cases hKn
     have := (hn n o e).2 e1
     have h3 := hK n x hKn
     unfold Hp.of at h3
     rw [this] at h3; cases h3
 refine ⟨h2, hb, hd2, Sep.move he hs ?_ ?_⟩
 · refine Hp.join_le (fun n o e => ?_) (fun n o e => (hn n o e).1)
   refine hk n o (hK n o e) ?_
   cases e1 : h1 n with
   | none => rfl
   | some y => rw [hd n y e1] at e; cases e
 · intro n o e k
   obtain ⟨k1, k2⟩ := Hp.join_none k
   refine ⟨?_, hk n o e k2⟩
   cases e2 : h2 n with
   | none => simp [Hp.join, k1, e2]
   | some y => rw [(hn n y e2).2 k2] at e; cases e
theorem Hp.join_nil (K : Hp) : K.join Hp.nil = K := by funext n; simp [Hp.join, Hp.nil]
def emp : Atom := fun h => h = Hp.nil
theorem Sep.emp {L : List Atom} {K : Hp} {w : World} (h : Sep E K L w) : Sep E K (emp :: L) w :=
 ⟨Hp.nil, rfl, fun _ _ e => (by cases e), (by rw [Hp.join_nil]; exact h)⟩
def star (A B : Atom) : Atom := fun h => ∃ h1 h2, A h1 ∧ B h2 ∧ (∀ n o, h2 n = some o → h1 n = none) ∧ h = h1.join h2
theorem Hp.join_assoc (a b c : Hp) : (a.join b).join c = a.join (b.join c) := by
 funext n; unfold Hp.join; cases a n <;> simp
theorem Sep.split {A B : Atom} {L : List Atom} {K : Hp} {w : World} (h : Sep E K (star A B :: L) w) : Sep E K (A :: B :: L) w := by
 obtain ⟨h, ⟨h1, h2, ha, hb, hd, rfl⟩, hK, hs⟩ := h
 refine ⟨h1, ha, fun n o e => hK n o (Hp.le_join h1 h2 n o e), h2, hb, fun n o e => ?_, ?_⟩
 · have e1 := hd n o e
   simp [Hp.join, e1, hK n o (Hp.join_right e e1)]
 · rw [Hp.join_assoc]; exact hs
theorem Sep.join {A B : Atom} {L : List Atom} {K : Hp} {w : World} (h : Sep E K (A :: B :: L) w) : Sep E K (star A B :: L) w := by
 obtain ⟨h1, ha, hd, h2, hb, hd2, hs⟩ := h
 refine ⟨h1.join h2, ⟨h1, h2, ha, hb, fun n o e => (Hp.join_none (hd2 n o e)).2, rfl⟩, fun n o e => ?_, ?_⟩
 · rcases Hp.join_some e with e | ⟨_, e⟩
   · exact hd n o e
   · exact (Hp.join_none (hd2 n o e)).1
 · rw [← Hp.join_assoc]; exact hs
def exA {α : Type} (A : α → Atom) : Atom := fun h => ∃ x, A x h
theorem Sep.open {α : Type} {A : α → Atom} {L : List Atom} {K : Hp} {w : World} (h : Sep E K (exA A :: L) w) : ∃ x, Sep E K (A x :: L) w := by
 obtain ⟨h, ⟨x, ha⟩, hd, hs⟩ := h; exact ⟨x, h, ha, hd, hs⟩
theorem Sep.close {α : Type} {A : α → Atom} {L : List Atom} {K : Hp} {w : World} (x : α) (h : Sep E K (A x :: L) w) : Sep E K (exA A :: L) w := by
 obtain ⟨h, ha, hd, hs⟩ := h; exact ⟨h, ⟨x, ha⟩, hd, hs⟩
theorem Sep.mono {A B : Atom} {L : List Atom} {K : Hp} {w : World} (h : Sep E K (A :: L) w) (k : ∀ h, A h → B h) : Sep E K (B :: L) w := by
 obtain ⟨h, ha, hd, hs⟩ := h; exact ⟨h, k h ha, hd, hs⟩
theorem Sep.fact {A : Atom} {p : Prop} {L : List Atom} {K : Hp} {w : World} (h : Sep E K (A :: L) w) (k : ∀ h, A h → p) : p := by
 obtain ⟨h, ha, _⟩ := h; exact k h ha
theorem En.of_fr {S : List Nat} {w w' : World} (f : Fr S w w') (h : E.at w) : E.at w' := ⟨f.os.trans h.1, f.tape.trans h.2.1, f.output.trans h.2.2⟩
theorem Hp.of_fr {w w' : World} (f : Fr [] w w') : (Hp.of w).le (Hp.of w') := fun n o e => f.keeps e (by simp)
theorem Sep.fr {L : List Atom} {K : Hp} {w w' : World} (h : Sep E K L w) (f : Fr [] w w') : Sep E K L w' :=
 Sep.move (En.of_fr f) h (h.sub.trans (Hp.of_fr f)) (fun n o e k => ⟨k, Hp.of_fr f n o e⟩)
theorem Sep.drew {L : List Atom} {K : Hp} {w : World} (h : Sep E K L w) : Sep E K L w.drew := h.fr (Fr.refl [] w).drew
theorem Sep.start (w : World) : Sep (En.of w) (Hp.of w) [] w := ⟨⟨rfl, rfl, rfl⟩, Hp.le_refl _⟩
theorem Sep.below {w w' : World} {K : Hp} {L : List Atom} (h : Sep (En.of w) K L w') (k : (Hp.of w).le K) : Below w.heap.size w w' := by
 obtain ⟨h1, h2, h3⟩ := h.env
 have hk := k.trans h.sub
 have hb : ∀ n, n < w.heap.size → w'.heap[n]? = w.heap[n]? := fun n hn => by
   have e : w.heap[n]? = some w.heap[n] := Array.getElem?_eq_getElem hn
   rw [e]; exact hk n _ e
 refine ⟨h1, h2, h3, ?_, hb⟩
 rcases Nat.lt_or_ge w'.heap.size w.heap.size with h' | h'
 · have := hb _ h'
   rw [Array.getElem?_eq_none (Nat.le_refl _), Array.getElem?_eq_getElem h'] at this
   cases this
 · exact h'
def En.out0 (E : En) : En := { E with rd := none }
theorem Sep.rd {E E' : En} (h : ∀ w, E.at w → E'.at w) : ∀ {L : List Atom} {K : Hp} {w : World}, Sep E K L w → Sep E' K L w
 | [], K, w, hs => ⟨h w hs.1, hs.2⟩
 | A :: L, K, w, ⟨h1, ha, hd, hs⟩ => ⟨h1, ha, hd, Sep.rd h hs⟩
theorem Sep.out0 {E : En} {L : List Atom} {K : Hp} {w : World} (h : Sep E K L w) : Sep E.out0 K L w := Sep.rd (E := E) (E' := E.out0) (fun w h => h) h
theorem Sep.back {E : En} {L : List Atom} {K : Hp} {w : World} (h : Sep E.out0 K L w) : Sep E K L w := Sep.rd (E := E.out0) (E' := E) (fun w h => h) h
end
def one (b : Nat) (o : Obj) : Hp := fun n => if n = b then some o else none
theorem one_some {b n : Nat} {o x : Obj} (h : one b o n = some x) : n = b ∧ x = o := by
 unfold one at h; split at h
 · simp at h; exact ⟨by assumption, h.symm⟩
 · cases h
def Cl (b : Nat) (t : TypeId) (cs : List Value) : Atom := fun h => h = one b (.cells cs.toArray t (0, 0))
def Rw (e : TypeId) (k : Nat) (v : Value) (n : Nat) (cs : List Value) : Atom := fun h =>
 cs.length = n * k ∧ ((v = .slice none n 0 ∧ n = 0 ∧ h = Hp.nil) ∨
   ∃ g cap, ∃ cur : Array Value, v = .slice (some ⟨g, 0, none⟩) n cap ∧ h = one g (.cells cur e (0, 0)) ∧ n ≤ cap ∧ cap ≤ maxLen ∧ cur.size = cap * k ∧ cur.toList.take (n * k) = cs)
section
variable {E : En} {L : List Atom} {K : Hp} {w : World}
theorem Sep.alloc (h : Sep E K L w) (t : TypeId) (cs : Array Value) : Sep E K (Cl w.heap.size t cs.toList :: L) (w.alloc (.cells cs t)) :=
 Sep.turn h.emp (fun e => e) (fun h0 ha _ => by
   unfold _root_.Go.Proofs.YtmlbbjkojaljnaaDoor.emp at ha; subst ha
   refine ⟨_, rfl, fun n o e => ?_, fun n o e _ => ?_⟩
   · obtain ⟨rfl, rfl⟩ := one_some e
     exact ⟨by simpa using alloc_new w _, fun _ => Array.getElem?_eq_none (Nat.le_refl _)⟩
   · rw [Below.heap_alloc _ _ _ (lt_of_block e)]; exact e)
theorem Sep.cl {b : Nat} {t : TypeId} {cs : List Value} (h : Sep E K (Cl b t cs :: L) w) : w.heap[b]? = some (.cells cs.toArray t (0, 0)) := by
 obtain ⟨h, rfl, hd, hs⟩ := h
 exact hs.sub b _ (Hp.join_right (by simp [one]) (hd b (.cells cs.toArray t (0, 0)) (by simp [one])))
theorem Sep.setCell {b : Nat} {t : TypeId} {cs : List Value} (h : Sep E K (Cl b t cs :: L) w) (i : Nat) (v : Value) : Sep E K (Cl b t (cs.set i v) :: L) (w.setCell ⟨b, i, none⟩ v) := by
 have hb := h.cl
 refine Sep.turn h (fun e => e) (fun h0 ha _ => ?_)
 unfold Cl at ha; subst ha
 refine ⟨_, rfl, fun n o e => ?_, fun n o e h1 => ?_⟩
 · obtain ⟨rfl, rfl⟩ := one_some e
   refine ⟨?_, fun h => by simp [one] at h⟩
   rw [block_setCell hb]; simp
 · have hn : n ≠ b := fun e => by subst e; simp [one] at h1
   show (w.heap.modify b _)[n]? = some o
   rw [Array.getElem?_modify]; simp [Ne.symm hn, e]
end
end
section
abbrev Sl0 := Nat → Value
def upd (ρ : Sl0) (d : Nat) (v : Value) : Sl0 := fun i => bif Nat.beq i d then v else ρ i
def ups : List (Nat × Value) → Sl0 → Sl0
 | [], ρ => ρ
 | p :: l, ρ => upd (ups l ρ) p.1 p.2
def Fits : List (Nat × Value) → Sl0 → Prop
 | [], ρ => True
 | p :: l, ρ => ρ p.1 = p.2 ∧ Fits l ρ
theorem upd_self {ρ : Sl0} {d : Nat} {v : Value} (h : ρ d = v) : upd ρ d v = ρ := by
 funext i
 unfold upd
 cases hb : Nat.beq i d with
 | false => rfl
 | true => rw [Nat.eq_of_beq_eq_true hb, h]; rfl
theorem Fits.eq : ∀ {l : List (Nat × Value)} {ρ : Sl0}, Fits l ρ → ups l ρ = ρ
 | [], ρ, _ => rfl
 | p :: l, ρ, h => by
   unfold ups
   rw [Fits.eq h.2, upd_self h.1]
theorem Fits.ex {l : List (Nat × Value)} {ρ : Sl0} (h : Fits l ρ) : ∃ σ, ρ = ups l σ := ⟨ρ, h.eq.symm⟩
def frm (n : Nat) (ρ : Sl0) : Array Value := Array.ofFn fun i : Fin n => ρ i
def act (n : Nat) (ρ : Sl0) : Act := ⟨frm n ρ, []⟩
def ev (n : Nat) (ρ : Sl0) : Operand → Value
 | .tmp t => bif Nat.blt t n then ρ t else undef
 | .const v => v
 | .global g => .pointer (some ⟨g, 0, none⟩)
 | .func f => .func (.func f) #[] #[]
theorem frm_get (n : Nat) (ρ : Sl0) (t : Nat) : (frm n ρ)[t]? = if t < n then some (ρ t) else none := by
 unfold frm
 simp [Array.getElem?_ofFn]
theorem blt_true {a b : Nat} (h : a < b) : Nat.blt a b = true := by rw [Nat.blt_eq]; exact h
theorem blt_false {a b : Nat} (h : ¬ a < b) : Nat.blt a b = false := by rw [Bool.eq_false_iff]; intro h'; rw [Nat.blt_eq] at h'; exact h h'
theorem eval_act (n : Nat) (ρ : Sl0) : (act n ρ).eval = ev n ρ := by
 funext x
 cases x with
 | tmp t =>
   show (frm n ρ).getD t undef = _
   rw [Array.getD_eq_getD_getElem?, frm_get]
   unfold ev
   by_cases h : t < n
   · simp [h, blt_true h]
   · simp [h, blt_false h]
 | const v => rfl
 | global g => rfl
 | func f => rfl
theorem put_act (n : Nat) (ρ : Sl0) (d : Nat) (v : Value) : (act n ρ).put (some d) v = act n (upd ρ d v) := by
 unfold act Act.put
 simp only [Act.mk.injEq, and_true]
 apply Array.ext_getElem?
 intro i
 rw [frm_get, Array.getElem?_setIfInBounds, frm_get]
 have hs : (frm n ρ).size = n := by unfold frm; simp
 rw [hs]
 by_cases hi : i < n
 · by_cases hd : d = i
   · subst hd
     simp [hi, upd]
   · have : Nat.beq i d = false := by
       rw [Bool.eq_false_iff]; intro h; exact hd (Nat.eq_of_beq_eq_true h).symm
     simp [hd, hi, upd, this]
 · by_cases hd : d = i
   · subst hd; simp [hi]
   · simp [hd, hi]
abbrev Post := Exit → Sl0 → Hp → List Atom → Prop
def Lift (E : En) (n : Nat) (Φ : Post) : Exit → Act → World → Prop := fun e a w => ∃ ρ K L, a = act n ρ ∧ Sep E K L w ∧ Φ e ρ K L
structure CJ (P : Program) (E : En) (n : Nat) (c : Code) (Φ : Post) (ρ : Sl0) (K : Hp) (L : List Atom) : Prop where
 go : ∀ w, Sep E K L w → c.wpIn (wideR E.rd) 0 P (Lift E n Φ) (act n ρ) w
structure J (P : Program) (E : En) (n : Nat) (ops : Array Oper) (l : List Oper) (Φ : Post) (ρ : Sl0) (K : Hp) (L : List Atom) : Prop where
 go : ∀ w, Sep E K L w → wpLs P ops (Lift E n Φ) l (act n ρ) w
def Post.then (N : Sl0 → Hp → List Atom → Prop) (Φ : Post) : Post
 | .normal, ρ, K, L => N ρ K L
 | e, ρ, K, L => Φ e ρ K L
def Post.block (id : Nat) (Φ : Post) : Post
 | .exit id', ρ, K, L => bif Nat.beq id' id then Φ .normal ρ K L else Φ (.exit id') ρ K L
 | e, ρ, K, L => Φ e ρ K L
section
variable {P : Program} {E : En} {n : Nat} {Φ : Post} {ρ : Sl0} {K : Hp} {L : List Atom}
theorem CJ.seq {c1 c2 : Code} (h : CJ P E n c1 (Post.then (fun ρ K L => CJ P E n c2 Φ ρ K L) Φ) ρ K L) : CJ P E n (.seq c1 c2) Φ ρ K L := ⟨fun w hs =>
 wpIn_seq (wpIn_mono (h.go w hs) (fun e a w ⟨ρ, K, L, ha, hs, hΦ⟩ => by
   subst ha
   cases e with
   | normal => exact hΦ.go w hs
   | _ => exact ⟨ρ, K, L, rfl, hs, hΦ⟩))⟩
theorem CJ.block {id : Nat} {c : Code} (h : CJ P E n c (Post.block id Φ) ρ K L) : CJ P E n (.block id c) Φ ρ K L := ⟨fun w hs =>
 wpIn_block (wpIn_mono (h.go w hs) (fun e a w ⟨ρ, K, L, ha, hs, hΦ⟩ => by
   subst ha
   cases e with
   | exit id' =>
     show if id' = id then _ else _
     unfold Post.block at hΦ
     by_cases hid : id' = id
     · subst hid
       rw [if_pos rfl]
       simp only [show Nat.beq id' id' = true from Nat.beq_refl id', cond_true] at hΦ
       exact ⟨ρ, K, L, rfl, hs, hΦ⟩
     · rw [if_neg hid]
       have : Nat.beq id' id = false := by rw [Bool.eq_false_iff]; intro h; exact hid (Nat.eq_of_beq_eq_true h)
       simp only [this, cond_false] at hΦ
       exact ⟨ρ, K, L, rfl, hs, hΦ⟩
   | _ => exact ⟨ρ, K, L, rfl, hs, hΦ⟩))⟩
theorem CJ.cond {c : Operand} {x y : Code} {t : Bool} (hc : ev n ρ c = .bool t) (ht : t = true → CJ P E n x Φ ρ K L) (hf : t = false → CJ P E n y Φ ρ K L) : CJ P E n (.cond c x y) Φ ρ K L := ⟨fun w hs =>
 wpIn_cond_split (by rw [eval_act]; exact hc) (fun h => (ht h).go w hs) (fun h => (hf h).go w hs)⟩
theorem CJ.skip (h : Φ .normal ρ K L) : CJ P E n .skip Φ ρ K L := ⟨fun w hs => wpIn_skip ⟨ρ, K, L, rfl, hs, h⟩⟩
theorem CJ.exit {id : Nat} (h : Φ (.exit id) ρ K L) : CJ P E n (.exit id) Φ ρ K L := ⟨fun w hs => wpIn_exit ⟨ρ, K, L, rfl, hs, h⟩⟩
theorem CJ.ret (h : Φ .ret ρ K L) : CJ P E n .ret Φ ρ K L := ⟨fun w hs => wpIn_ret ⟨ρ, K, L, rfl, hs, h⟩⟩
theorem CJ.mono {c : Code} {Φ' : Post} (h : CJ P E n c Φ' ρ K L) (k : ∀ e ρ K L, Φ' e ρ K L → Φ e ρ K L) : CJ P E n c Φ ρ K L := ⟨fun w hs =>
 wpIn_mono (h.go w hs) (fun e a w ⟨ρ, K, L, ha, hs, hΦ⟩ => ⟨ρ, K, L, ha, hs, k _ _ _ _ hΦ⟩)⟩
theorem CJ.region {id : Nat} {l : List Oper} (h : J P E n l.toArray l Φ ρ K L) (hnd : l.all nodf = true := by rfl) : CJ P E n (.region id l.toArray false) Φ ρ K L := ⟨fun w hs => wpIn_region_lit (wpListIn_of hnd (h.go w hs))⟩
theorem J.nil {ops : Array Oper} (h : Φ .normal ρ K L) : J P E n ops [] Φ ρ K L := ⟨fun w hs => wpLs_nil ⟨ρ, K, L, rfl, hs, h⟩⟩
theorem J.by {ops : Array Oper} {l : List Oper} {K' : Hp} {L' : List Atom} (k : ∀ w, Sep E K L w → Sep E K' L' w) (h : J P E n ops l Φ ρ K' L') : J P E n ops l Φ ρ K L := ⟨fun w hs => h.go w (k w hs)⟩
theorem CJ.by {c : Code} {K' : Hp} {L' : List Atom} (k : ∀ w, Sep E K L w → Sep E K' L' w) (h : CJ P E n c Φ ρ K' L') : CJ P E n c Φ ρ K L := ⟨fun w hs => h.go w (k w hs)⟩
theorem J.front (i : Nat) {A : Atom} {ops : Array Oper} {l : List Oper} (hi : L[i]? = some A) (h : J P E n ops l Φ ρ K (A :: L.eraseIdx i)) : J P E n ops l Φ ρ K L := ⟨fun w hs => h.go w (hs.front i hi)⟩
theorem CJ.front (i : Nat) {A : Atom} {c : Code} (hi : L[i]? = some A) (h : CJ P E n c Φ ρ K (A :: L.eraseIdx i)) : CJ P E n c Φ ρ K L := ⟨fun w hs => h.go w (hs.front i hi)⟩
theorem J.wit {A : Atom} {p : Prop} {ops : Array Oper} {l : List Oper} (k : ∀ h, A h → p) (h : p → J P E n ops l Φ ρ K (A :: L)) : J P E n ops l Φ ρ K (A :: L) := ⟨fun w hs => (h (hs.fact k)).go w hs⟩
theorem CJ.wit {A : Atom} {p : Prop} {c : Code} (k : ∀ h, A h → p) (h : p → CJ P E n c Φ ρ K (A :: L)) : CJ P E n c Φ ρ K (A :: L) := ⟨fun w hs => (h (hs.fact k)).go w hs⟩
theorem CJ.ex {α : Type} {A : α → Atom} {c : Code} (h : ∀ x, CJ P E n c Φ ρ K (A x :: L)) : CJ P E n c Φ ρ K (exA A :: L) := ⟨fun w hs => let ⟨x, hx⟩ := hs.open; (h x).go w hx⟩
theorem CJ.star {A B : Atom} {c : Code} (h : CJ P E n c Φ ρ K (A :: B :: L)) : CJ P E n c Φ ρ K (star A B :: L) := ⟨fun w hs => h.go w hs.split⟩
def Hold (E : En) (K : Hp) (R : List Atom) (w : World) : Prop := ∃ K' L', K.le K' ∧ Sep E K' (R ++ L') w
theorem Hold.of_sep {w : World} (h : Sep E K L w) : Hold E K L w := ⟨K, [], Hp.le_refl K, by simpa using h⟩
def Val (P : Program) (n : Nat) (C : World → Prop) (ρ : Sl0) (o : Oper) (v : Value) : Prop := ∀ w, C w → (execOp (ev n ρ) o).run P w = .ok (.value v) w
theorem J.val {ops : Array Oper} {rest : List Oper} {o : Oper} {d : Nat} {v : Value} (hg : o.guard = none) (hd : o.dst = some d) (hv : Val P n (Hold E K L) ρ o v) (h : J P E n ops rest Φ (upd ρ d v) K L) : J P E n ops (o :: rest) Φ ρ K L := ⟨fun w hs =>
 wpLs_plain hg (fun X hX => by
   unfold Oper.wp
   rw [eval_act, hv w (Hold.of_sep hs), Oper.upon_value, hd, put_act]
   exact hX _ _ (h.go w hs))⟩
structure Ao (P : Program) (E : En) (n : Nat) (o : Oper) (ρ : Sl0) (K : Hp) (L : List Atom) (N : Sl0 → Hp → List Atom → Prop) : Prop where
 go : ∀ w, Sep E K L w → ∀ (X : Act → World → Prop) (Q : Exit → Act → World → Prop), (∀ ρ' K' L' w', N ρ' K' L' → Sep E K' L' w' → X (act n ρ') w') → o.wp P (act n ρ) w X Q
theorem J.op {ops : Array Oper} {rest : List Oper} {o : Oper} {N : Sl0 → Hp → List Atom → Prop} (hg : o.guard = none) (hv : Ao P E n o ρ K L N) (h : ∀ ρ' K' L', N ρ' K' L' → J P E n ops rest Φ ρ' K' L') : J P E n ops (o :: rest) Φ ρ K L := ⟨fun w hs =>
 wpLs_plain hg (fun X hX => hv.go w hs X _ (fun ρ' K' L' w' hN hs' => hX _ _ ((h ρ' K' L' hN).go w' hs')))⟩
theorem yielded_act {ops : Array Oper} {g d : Nat} {b : Bool} (hg : (ops[g]?).bind (·.dst) = some d) (hv : ev n ρ (.tmp d) = .bool b) : yielded ops (frm n ρ) g = some b := by
 unfold yielded
 rw [hg]
 simp only [Option.bind_some]
 rw [frm_get]
 replace hv : (bif Nat.blt d n then ρ d else undef) = .bool b := hv
 by_cases h : d < n
 · rw [blt_true h] at hv
   simp only [cond_true] at hv
   simp [h, hv]
 · rw [blt_false h] at hv
   simp [undef] at hv
theorem J.run {ops : Array Oper} {rest : List Oper} {o : Oper} {g d : Nat} {b c : Bool} (hg : o.guard = some (g, c)) (hd : (ops[g]?).bind (·.dst) = some d) (hv : ev n ρ (.tmp d) = .bool b) (hb : b = c)
   (h : J P E n ops ({ o with guard := none } :: rest) Φ ρ K L) : J P E n ops (o :: rest) Φ ρ K L := ⟨fun w hs => by
 have h' := h.go w hs
 have hw : Region.wanted o (yielded ops (act n ρ).tmps) = true := by
   unfold Region.wanted; rw [hg]
   show (yielded ops (frm n ρ) g == some c) = true
   rw [yielded_act hd hv, hb]; simp
 unfold wpLs at h' ⊢
 rw [if_pos hw]
 rw [if_pos (by rfl)] at h'
 exact h'⟩
theorem J.skip {ops : Array Oper} {rest : List Oper} {o : Oper} {g d e : Nat} {b c : Bool} (hg : o.guard = some (g, c)) (he : o.dst = some e) (hd : (ops[g]?).bind (·.dst) = some d) (hv : ev n ρ (.tmp d) = .bool b) (hb : b = !c)
   (h : J P E n ops rest Φ (upd ρ e undef) K L) : J P E n ops (o :: rest) Φ ρ K L := ⟨fun w hs => by
 have hw : Region.wanted o (yielded ops (act n ρ).tmps) = false := by
   unfold Region.wanted; rw [hg]
   show (yielded ops (frm n ρ) g == some c) = false
   rw [yielded_act hd hv, hb]; cases c <;> rfl
 refine wpLs_skip hw ?_
 rw [he, put_act]
 exact h.go w hs⟩
theorem J.skipu {ops : Array Oper} {rest : List Oper} {o : Oper} {g d e : Nat} {c : Bool} (hg : o.guard = some (g, c)) (he : o.dst = some e) (hd : (ops[g]?).bind (·.dst) = some d) (hv : ev n ρ (.tmp d) = undef)
   (h : J P E n ops rest Φ (upd ρ e undef) K L) : J P E n ops (o :: rest) Φ ρ K L := ⟨fun w hs => by
 have hw : Region.wanted o (yielded ops (act n ρ).tmps) = false := by
   unfold Region.wanted; rw [hg]
   show (yielded ops (frm n ρ) g == some c) = false
   have : yielded ops (frm n ρ) g = none := by
     unfold yielded
     rw [hd]
     simp only [Option.bind_some]
     rw [frm_get]
     replace hv : (bif Nat.blt d n then ρ d else undef) = undef := hv
     by_cases h : d < n
     · rw [blt_true h] at hv
       simp only [cond_true] at hv
       simp [h, hv, undef]
     · simp [h]
   rw [this]; rfl
 refine wpLs_skip hw ?_
 rw [he, put_act]
 exact h.go w hs⟩
theorem wpLs_post {P : Program} {ops : Array Oper} {Q Q' : Exit → Act → World → Prop} (k : ∀ e a w, Q e a w → Q' e a w) : ∀ {l : List Oper} {a : Act} {w : World}, wpLs P ops Q l a w → wpLs P ops Q' l a w
 | [], a, w, h => k _ _ _ h
 | o :: l, a, w, h => by
   unfold wpLs at h ⊢
   have hm : ∀ a' w', wpLs P ops Q l a' w' → wpLs P ops Q' l a' w' := fun a' w' h' => wpLs_post k h'
   split
   · rename_i hw
     rw [if_pos hw] at h
     · skip
       unfold Oper.wp at h ⊢
       generalize (execOp a.eval o).run P w = r at h ⊢
       cases r with
       | ok nx w' =>
         cases nx with
         | value v => exact hm _ _ h
         | skip => exact hm _ _ h
         | defer d => exact hm _ _ h
         | enter f args =>
           refine Calls.mono (R := _) h ?_
           intro e w'' hh
           cases e with
           | returned v => exact hm _ _ hh
           | panicked ch => exact k _ _ _ hh
           | outgrown => obtain ⟨a', w', hh⟩ := hh; exact ⟨a', w', k _ _ _ hh⟩
         | row r args => exact Rows.mono h (fun v w'' hh => hm _ _ hh)
         | _ => exact h.elim
       | halt x w' =>
         cases x with
         | panic v => exact k _ _ _ h
         | _ => exact h.elim
   · rename_i hw
     rw [if_neg hw] at h
     exact hm _ _ h
theorem wpLs_app {P : Program} {ops : Array Oper} {Q : Exit → Act → World → Prop} : ∀ {l1 l2 : List Oper} {a : Act} {w : World}, wpLs P ops (Exit.then (wpLs P ops Q l2) Q) l1 a w → wpLs P ops Q (l1 ++ l2) a w
 | [], l2, a, w, h => h
 | o :: l1, l2, a, w, h => by
   unfold wpLs at h
   rw [List.cons_append]
   unfold wpLs
   have hm : ∀ a' w', wpLs P ops (Exit.then (wpLs P ops Q l2) Q) l1 a' w' → wpLs P ops Q (l1 ++ l2) a' w' := fun a' w' h' => wpLs_app h'
   split
   · rename_i hw
     rw [if_pos hw] at h
     · skip
       unfold Oper.wp at h ⊢
       generalize (execOp a.eval o).run P w = r at h ⊢
       cases r with
       | ok nx w' =>
         cases nx with
         | value v => exact hm _ _ h
         | skip => exact hm _ _ h
         | defer d => exact hm _ _ h
         | enter f args =>
           refine Calls.mono (R := _) h ?_
           intro e w'' hh
           cases e with
           | returned v => exact hm _ _ hh
           | panicked ch => exact hh
           | outgrown => obtain ⟨a', w', hh⟩ := hh; exact ⟨a', w', hh⟩
         | row r args => exact Rows.mono h (fun v w'' hh => hm _ _ hh)
         | _ => exact h.elim
       | halt x w' =>
         cases x with
         | panic v => exact h
         | _ => exact h.elim
   · rename_i hw
     rw [if_neg hw] at h
     exact hm _ _ h
theorem J.cut (k : Nat) {ops : Array Oper} {l : List Oper} (h : J P E n ops (l.take k) (Post.then (fun ρ K L => J P E n ops (l.drop k) Φ ρ K L) Φ) ρ K L) : J P E n ops l Φ ρ K L := ⟨fun w hs => by
 have h' := h.go w hs
 rw [← List.take_append_drop k l]
 refine wpLs_app ?_
 refine wpLs_post ?_ h'
 intro e a w ⟨ρ, K, L, ha, hs, hΦ⟩
 subst ha
 cases e with
 | normal => exact hΦ.go w hs
 | _ => exact ⟨ρ, K, L, rfl, hs, hΦ⟩⟩
theorem Sep.dropAt {w : World} (i : Nat) {A : Atom} (hi : L[i]? = some A) (h : Sep E K L w) : Sep E K (L.eraseIdx i) w := (h.front i hi).drop
theorem J.dropAt (i : Nat) {A : Atom} {ops : Array Oper} {l : List Oper} (hi : L[i]? = some A) (h : J P E n ops l Φ ρ K (L.eraseIdx i)) : J P E n ops l Φ ρ K L := ⟨fun w hs => h.go w (hs.dropAt i hi)⟩
theorem CJ.dropAt (i : Nat) {A : Atom} {c : Code} (hi : L[i]? = some A) (h : CJ P E n c Φ ρ K (L.eraseIdx i)) : CJ P E n c Φ ρ K L := ⟨fun w hs => h.go w (hs.dropAt i hi)⟩
theorem CJ.join {σ τ : Type} {o : σ ⊕ τ} {c : Code} {N : Sl0 → Hp → List Atom → Prop} (M : σ → Sl0 → Hp → List Atom → Prop)
   (h1 : CJ P E n c (fun e ρ K L => (e = .normal ∧ ∃ s, o = .inl s ∧ M s ρ K L) ∨ (e ≠ .normal ∧ Φ e ρ K L)) ρ K L) (h2 : ∀ s ρ K L, o = .inl s → M s ρ K L → N ρ K L) : CJ P E n c (Post.then N Φ) ρ K L := h1.mono (fun e ρ K L h => by
 rcases h with ⟨rfl, s, hs, hM⟩ | ⟨hne, h⟩
 · exact h2 s ρ K L hs hM
 · cases e with
   | normal => exact absurd rfl hne
   | _ => exact h)
theorem CJ.meet {c : Code} {N : Sl0 → Hp → List Atom → Prop} (M : Sl0 → Hp → List Atom → Prop) (h1 : CJ P E n c (fun e ρ K L => e = .normal ∧ M ρ K L) ρ K L) (h2 : ∀ ρ K L, M ρ K L → N ρ K L) : CJ P E n c (Post.then N Φ) ρ K L := h1.mono (fun e ρ K L ⟨he, h⟩ => by subst he; exact h2 ρ K L h)
theorem J.meet {ops : Array Oper} {l : List Oper} {N : Sl0 → Hp → List Atom → Prop} (M : Sl0 → Hp → List Atom → Prop) (h1 : J P E n ops l (fun e ρ K L => e = .normal ∧ M ρ K L) ρ K L) (h2 : ∀ ρ K L, M ρ K L → N ρ K L) : J P E n ops l (Post.then N Φ) ρ K L := ⟨fun w hs =>
 wpLs_post (fun e a w ⟨ρ, K, L, ha, hs, he, h⟩ => by subst he; exact ⟨ρ, K, L, ha, hs, h2 ρ K L h⟩) (h1.go w hs)⟩
theorem CJ.condK {c : Operand} {x y : Code} {t b : Bool} (hc : ev n ρ c = .bool t) (hb : t = b) (h : CJ P E n (bif b then x else y) Φ ρ K L) : CJ P E n (.cond c x y) Φ ρ K L := by
 subst hb
 refine CJ.cond hc (fun ht => ?_) (fun ht => ?_)
 · subst ht; exact h
 · subst ht; exact h
end
end
section
open Go.ChangeShapes Go.WideShapes Go.RowKit Go.Deep
open Go.ChangeMaps (open_string)
inductive Tp where
 | int (k : IntKind)
 | bool
 | str
 | sl (e : Tp)
 | ptr (e : Tp)
 | emp
 | one (a : Tp)
 | cons (a r : Tp)
namespace Tp
abbrev den : Tp → Type
 | .int _ => Int
 | .bool => Bool
 | .str => List UInt8
 | .sl e => List e.den
 | .ptr e => Option e.den
 | .emp => Unit
 | .one a => a.den
 | .cons a r => a.den × r.den
def size : Tp → Nat
 | .emp => 0
 | .one a => a.size
 | .cons a r => a.size + r.size
 | _ => 1
mutual
def has (P : Program) : Tp → TypeId → Bool
 | .int k, t => match P.underlying t with | some (.int k') => decide (k' = k) | _ => false
 | .bool, t => match P.underlying t with | some .bool => true | _ => false
 | .str, t => match P.underlying t with | some .string => true | _ => false
 | .sl e, t => match P.underlying t with | some (.slice e') => has P e e' && decide (P.cellsOf e' = e.size) && decide (0 < e.size) | _ => false
 | .ptr _, _ => false
 | .emp, t => match P.underlying t with | some (.struct fs) => fs.toList.isEmpty && decide (P.cellsOf t = 0) | _ => false
 | .one a, t => match P.underlying t with
   | some (.struct fs) => (match fs.toList with | [f] => decide (f.offset = 0) && decide (P.cellsOf f.type = a.size) && has P a f.type | _ => false) && decide (P.cellsOf t = a.size)
   | some (.array n e) => decide (n = 1) && decide (P.cellsOf e = a.size) && has P a e && decide (P.cellsOf t = a.size)
   | _ => false
 | .cons a r, t => match P.underlying t with
   | some (.struct fs) => (match fs.toList with | f :: fs => decide (f.offset = 0) && decide (P.cellsOf f.type = a.size) && has P a f.type && hasAll P a.size r fs | [] => false) && decide (P.cellsOf t = a.size + r.size)
   | some (.array n e) => decide (n ≠ 0) && decide (P.cellsOf e = a.size) && has P a e && hasArr P e r (n - 1) && decide (P.cellsOf t = a.size + r.size)
   | _ => false
def hasAll (P : Program) : Nat → Tp → List Field → Bool
 | _, .emp, [] => true
 | o, .one a, [f] => decide (f.offset = o) && decide (P.cellsOf f.type = a.size) && has P a f.type
 | o, .cons a r, f :: fs => decide (f.offset = o) && decide (P.cellsOf f.type = a.size) && has P a f.type && hasAll P (o + a.size) r fs
 | _, _, _ => false
def hasArr (P : Program) (e : TypeId) : Tp → Nat → Bool
 | .one a, n => decide (n = 1) && decide (P.cellsOf e = a.size) && has P a e
 | .cons a r, n => decide (n ≠ 0) && decide (P.cellsOf e = a.size) && has P a e && hasArr P e r (n - 1)
 | _, _ => false
end
def Ok : (t : Tp) → t.den → Prop
 | .int k, n => (Lit.int k n).wf = true
 | .bool, _ => True
 | .str, s => s.length ≤ maxLen
 | .sl e, l => l.length ≤ maxLen ∧ ∀ x ∈ l, Ok e x
 | .ptr e, o => ∀ x, o = some x → Ok e x
 | .emp, _ => True
 | .one a, d => Ok a d
 | .cons a r, d => Ok a d.1 ∧ Ok r d.2
end Tp
def cellK (K : Hp) (b o : Nat) : Option Value := match K b with | some (.cells c _ _) => c[o]? | _ => none
theorem cellK_le {K K' : Hp} (h : K.le K') {b o : Nat} {v : Value} (k : cellK K b o = some v) : cellK K' b o = some v := by
 unfold cellK at *
 cases hK : K b with
 | none => rw [hK] at k; cases k
 | some x => rw [h b x hK]; rw [hK] at k; exact k
theorem cellK_world {K : Hp} {w : World} (h : K.le (Hp.of w)) {b o : Nat} {v : Value} (k : cellK K b o = some v) : w.cell? ⟨b, o, none⟩ = some v := by
 unfold cellK at k
 cases hK : K b with
 | none => rw [hK] at k; cases k
 | some x =>
   rw [hK] at k
   have := h b x hK
   unfold Hp.of at this
   cases x <;> simp_all [World.cell?]
theorem cellK_of {w : World} {b o : Nat} {v : Value} (k : w.cell? ⟨b, o, none⟩ = some v) : cellK (Hp.of w) b o = some v := by
 unfold World.cell? at k
 unfold cellK Hp.of
 simp only at k ⊢
 split at k
 · rename_i e; rw [e]; simpa using k
 · cases k
def Is (K : Hp) : (t : Tp) → List Value → t.den → Prop
 | .int k, cs, n => cs = [.int k n]
 | .bool, cs, b => cs = [.bool b]
 | .str, cs, s => cs = [.string ⟨s.toArray⟩]
 | .sl e, cs, l => ∃ ad cap, cs = [.slice ad l.length cap] ∧ l.length ≤ cap ∧ cap ≤ maxLen ∧ (l ≠ [] → ∃ b o, ad = some ⟨b, o, none⟩ ∧
     ∀ k x, l[k]? = some x → ∃ es, es.length = e.size ∧ Is K e es x ∧ ∀ j, j < e.size → cellK K b (o + k * e.size + j) = es[j]?)
 | .ptr e, cs, d => (d = none ∧ cs = [.pointer none]) ∨ ∃ x b o, d = some x ∧ cs = [.pointer (some ⟨b, o, none⟩)] ∧ ∃ es, es.length = e.size ∧ Is K e es x ∧ ∀ j, j < e.size → cellK K b (o + j) = es[j]?
 | .emp, cs, _ => cs = []
 | .one a, cs, d => Is K a cs d
 | .cons a r, cs, d => ∃ c1 c2, cs = c1 ++ c2 ∧ c1.length = a.size ∧ Is K a c1 d.1 ∧ Is K r c2 d.2
theorem Is.len {K : Hp} : ∀ {t : Tp} {cs : List Value} {d : t.den}, Is K t cs d → cs.length = t.size
 | .int _, cs, d, h => by simp only [Is] at h; rw [h]; rfl
 | .bool, cs, d, h => by simp only [Is] at h; rw [h]; rfl
 | .str, cs, d, h => by simp only [Is] at h; rw [h]; rfl
 | .sl e, cs, d, h => by simp only [Is] at h; obtain ⟨_, _, h, _⟩ := h; rw [h]; rfl
 | .ptr e, cs, d, h => by simp only [Is] at h; rcases h with ⟨_, h⟩ | ⟨_, _, _, _, h, _⟩ <;> (rw [h]; rfl)
 | .emp, cs, d, h => by simp only [Is] at h; rw [h]; rfl
 | .one a, cs, d, h => Is.len (t := a) (by simpa only [Is] using h)
 | .cons a r, cs, d, h => by
   simp only [Is] at h
   obtain ⟨c1, c2, rfl, h1, _, h2⟩ := h
   simp [Tp.size, h1, Is.len h2]
theorem Is.mono {K K' : Hp} (f : K.le K') : ∀ {t : Tp} {cs : List Value} {d : t.den}, Is K t cs d → Is K' t cs d
 | .int _, cs, d, h => h
 | .bool, cs, d, h => h
 | .str, cs, d, h => h
 | .emp, cs, d, h => h
 | .one a, cs, d, h => by simp only [Is] at h ⊢; exact Is.mono f h
 | .sl e, cs, d, h => by
   simp only [Is] at h ⊢
   obtain ⟨ad, cap, h1, h2, h3, h4⟩ := h
   refine ⟨ad, cap, h1, h2, h3, fun hne => ?_⟩
   obtain ⟨b, o, hb, hk⟩ := h4 hne
   refine ⟨b, o, hb, fun k x hx => ?_⟩
   obtain ⟨es, hl, hi, hj⟩ := hk k x hx
   refine ⟨es, hl, Is.mono f hi, fun j hjl => ?_⟩
   have := hj j hjl
   rw [List.getElem?_eq_getElem (by omega)] at this ⊢
   exact cellK_le f this
 | .ptr e, cs, d, h => by
   simp only [Is] at h ⊢
   rcases h with h | ⟨x, b, o, h1, h2, es, hl, hi, hj⟩
   · exact .inl h
   · refine .inr ⟨x, b, o, h1, h2, es, hl, Is.mono f hi, fun j hjl => ?_⟩
     have := hj j hjl
     rw [List.getElem?_eq_getElem (by omega)] at this ⊢
     exact cellK_le f this
 | .cons a r, cs, d, h => by
   simp only [Is] at h ⊢
   obtain ⟨c1, c2, rfl, h1, h2, h3⟩ := h
   exact ⟨c1, c2, rfl, h1, Is.mono f h2, Is.mono f h3⟩
def At (K : Hp) (e : Tp) (b o : Nat) (x : e.den) : Prop := ∃ es, es.length = e.size ∧ Is K e es x ∧ ∀ j, j < e.size → cellK K b (o + j) = es[j]?
theorem Is.at {K : Hp} {e : Tp} {ad : Option Addr} {n cap : Nat} {l : List e.den} (h : Is K (.sl e) [.slice ad n cap] l) {i : Nat} {x : e.den} (hx : l[i]? = some x) : ∃ b o, ad = some ⟨b, o, none⟩ ∧ At K e b (o + i * e.size) x := by
 simp only [Is] at h
 obtain ⟨ad', cap', h0, _, _, h⟩ := h
 simp at h0
 obtain ⟨rfl, rfl, rfl⟩ := h0
 obtain ⟨b, o, rfl, h4⟩ := h (fun e => by rw [e] at hx; simp at hx)
 obtain ⟨es, h1, h2, h3⟩ := h4 i x hx
 exact ⟨b, o, rfl, es, h1, h2, h3⟩
theorem At.mono {K K' : Hp} (f : K.le K') {e : Tp} {b o : Nat} {x : e.den} (h : At K e b o x) : At K' e b o x := by
 obtain ⟨es, h1, h2, h3⟩ := h
 refine ⟨es, h1, h2.mono f, fun j hj => ?_⟩
 have := h3 j hj
 rw [List.getElem?_eq_getElem (by omega)] at this ⊢
 exact cellK_le f this
theorem At.fst {K : Hp} {a r : Tp} {b o : Nat} {x : (Tp.cons a r).den} (h : At K (.cons a r) b o x) : At K a b o x.1 := by
 obtain ⟨es, h1, h2, h3⟩ := h
 simp only [Is] at h2
 obtain ⟨c1, c2, rfl, hl, h4, h5⟩ := h2
 refine ⟨c1, hl, h4, fun j hj => ?_⟩
 rw [h3 j (by simp [Tp.size]; omega), List.getElem?_append_left (by omega)]
theorem At.snd {K : Hp} {a r : Tp} {b o : Nat} {x : (Tp.cons a r).den} (h : At K (.cons a r) b o x) : At K r b (o + a.size) x.2 := by
 obtain ⟨es, h1, h2, h3⟩ := h
 simp only [Is] at h2
 obtain ⟨c1, c2, rfl, hl, h4, h5⟩ := h2
 refine ⟨c2, h5.len, h5, fun j hj => ?_⟩
 rw [Nat.add_assoc, h3 (a.size + j) (by simp [Tp.size]; omega), List.getElem?_append_right (by omega)]
 congr 1; omega
theorem At.one {K : Hp} {a : Tp} {b o : Nat} {x : (Tp.one a).den} (h : At K (.one a) b o x) : At K a b o x := h
theorem At.int {K : Hp} {k : IntKind} {b o : Nat} {x : Int} (h : At K (.int k) b o x) : cellK K b o = some (.int k x) := by
 obtain ⟨es, h1, h2, h3⟩ := h
 simp only [Is] at h2; subst h2
 simpa using h3 0 (by simp [Tp.size])
theorem At.bool {K : Hp} {b o : Nat} {x : Bool} (h : At K .bool b o x) : cellK K b o = some (.bool x) := by
 obtain ⟨es, h1, h2, h3⟩ := h
 simp only [Is] at h2; subst h2
 simpa using h3 0 (by decide)
theorem At.str {K : Hp} {b o : Nat} {x : List UInt8} (h : At K .str b o x) : cellK K b o = some (.string ⟨x.toArray⟩) := by
 obtain ⟨es, h1, h2, h3⟩ := h
 simp only [Is] at h2; subst h2
 simpa using h3 0 (by decide)
theorem At.sl {K : Hp} {e : Tp} {b o : Nat} {x : List e.den} (h : At K (.sl e) b o x) : ∃ ad cap, cellK K b o = some (.slice ad x.length cap) ∧ Is K (.sl e) [.slice ad x.length cap] x := by
 obtain ⟨es, h1, h2, h3⟩ := h
 have h2' := h2
 simp only [Is] at h2
 obtain ⟨ad, cap, rfl, _⟩ := h2
 exact ⟨ad, cap, by simpa using h3 0 (by simp [Tp.size]), h2'⟩
theorem At.ptr {K : Hp} {e : Tp} {b o : Nat} {x : Option e.den} (h : At K (.ptr e) b o x) : ∃ v, cellK K b o = some v ∧ Is K (.ptr e) [v] x := by
 obtain ⟨es, h1, h2, h3⟩ := h
 have hl := h1
 match es, h1 with
 | [v], _ => exact ⟨v, by simpa using h3 0 (by simp [Tp.size]), h2⟩
theorem At.agg {K : Hp} {e : Tp} {b o : Nat} {x : e.den} (h : At K e b o x) : ∃ cs, Is K e cs x ∧ ∀ j v, cs[j]? = some v → cellK K b (o + j) = some v := by
 obtain ⟨es, h1, h2, h3⟩ := h
 refine ⟨es, h2, fun j v hv => ?_⟩
 rw [h3 j (by rw [← h1]; exact (List.getElem?_eq_some_iff.1 hv).1), hv]
theorem Is.ptr {K : Hp} {e : Tp} {v : Value} {x : e.den} (h : Is K (.ptr e) [v] (some x)) : ∃ b o, v = .pointer (some ⟨b, o, none⟩) ∧ At K e b o x := by
 simp only [Is] at h
 rcases h with ⟨h, _⟩ | ⟨y, b, o, h1, h2, h3⟩
 · cases h
 · cases h1; simp at h2; exact ⟨b, o, h2, h3⟩
theorem Is.ptr0 {K : Hp} {e : Tp} {v : Value} (h : Is K (.ptr e) [v] none) : v = .pointer none := by
 simp only [Is] at h
 rcases h with ⟨_, h⟩ | ⟨y, b, o, h1, h2, h3⟩
 · simpa using h
 · cases h1
theorem Is.slv {K : Hp} {e : Tp} {v : Value} {l : List e.den} (h : Is K (.sl e) [v] l) : ∃ ad cap, v = .slice ad l.length cap := by
 simp only [Is] at h
 obtain ⟨ad, cap, h, _⟩ := h
 exact ⟨ad, cap, by simpa using h⟩
theorem Is.sl_len {K : Hp} {e : Tp} {v : Value} {l : List e.den} (h : Is K (.sl e) [v] l) : l.length ≤ maxLen := by
 simp only [Is] at h
 obtain ⟨ad, cap, h, h1, h2, _⟩ := h
 omega
section
variable {H : Type} {enc : TypeId × Value → H} {P : Program} {W : World} {base : Nat} {spare : Nat → Bool} {held : Bool}
theorem Tp.list_ex {α : Type} {R : Nat → α → Prop} : ∀ n : Nat, (∀ k, k < n → ∃ x, R k x) → ∃ l : List α, l.length = n ∧ ∀ k x, l[k]? = some x → R k x
 | 0, _ => ⟨[], rfl, fun k x h => by simp at h⟩
 | n + 1, h => by
   obtain ⟨l, hl, hr⟩ := Tp.list_ex n (fun k hk => h k (by omega))
   obtain ⟨x, hx⟩ := h n (by omega)
   refine ⟨l ++ [x], by simp [hl], fun k y hy => ?_⟩
   rcases Nat.lt_trichotomy k n with hk | hk | hk
   · rw [List.getElem?_append_left (by omega)] at hy; exact hr k y hy
   · subst hk; subst hl; simp at hy; subst hy; exact hx
   · rw [List.getElem?_eq_none (by simp; omega)] at hy; simp at hy
mutual
theorem Tp.read : ∀ (ty : Tp) {t : TypeId} {fuel : Nat} {cs : List Value} {x : DataW H × List MemPlace}, ty.has P t = true → DataW.trod enc P W base spare held fuel t cs = some x → ∃ d : ty.den, Is (Hp.of W) ty cs d ∧ ty.Ok d
 | .int k, t, fuel, cs, x, hh, h => by
   unfold Tp.has at hh
   split at hh
   · rename_i k' ht
     simp at hh; subst hh
     obtain ⟨n, rfl, _, hw⟩ := DataW.trod_int ht h
     exact ⟨n, rfl, hw⟩
   · simp at hh
 | .bool, t, fuel, cs, x, hh, h => by
   unfold Tp.has at hh
   split at hh
   · rename_i ht
     obtain ⟨b, rfl, _⟩ := DataW.trod_bool ht h
     exact ⟨b, rfl, trivial⟩
   · simp at hh
 | .str, t, fuel, cs, x, hh, h => by
   unfold Tp.has at hh
   split at hh
   · rename_i ht
     obtain ⟨s, rfl, _, hs⟩ := DataW.trod_string ht h
     exact ⟨s.data.toList, rfl, by simpa [Tp.Ok] using hs⟩
   · simp at hh
 | .ptr e, t, fuel, cs, x, hh, h => by simp [Tp.has] at hh
 | .sl e, t, fuel, cs, x, hh, h => by
   unfold Tp.has at hh
   split at hh
   · rename_i e' ht
     simp only [Bool.and_eq_true, decide_eq_true_eq] at hh
     obtain ⟨⟨he, hc⟩, h0⟩ := hh
     rcases open_slice ht h with ⟨rfl, _⟩ | ⟨a, len, cap, m, n, D, Pl, rfl, hb, hl, hm, hmm, _, hi⟩
     · exact ⟨[], ⟨none, 0, rfl, by simp, by simp, fun h => absurd rfl h⟩, by simp, fun x hx => by simp at hx⟩
     · rw [hc] at hi
       have hall : ∀ k, k < len → ∃ x : e.den, e.Ok x ∧ ∃ es, es.length = e.size ∧ Is (Hp.of W) e es x ∧ ∀ j, j < e.size → W.cell? (a.add (k * e.size + j)) = es[j]? := fun k hk => by
         have hkm : k < m := by rw [hmm]; split <;> omega
         obtain ⟨cs', hcs, ht'⟩ := hi k hkm
         obtain ⟨d, hd, hok⟩ := Tp.read e he ht'
         obtain ⟨_, hlen, hcell⟩ := World.cells?_some hcs
         refine ⟨d, hok, cs', hlen, hd, fun j hj => ?_⟩
         rw [← hcell j hj, Go.Deep.add_add]
       obtain ⟨l, hlen, hl'⟩ := Tp.list_ex len hall
       refine ⟨l, ⟨some a, cap, by rw [hlen], by omega, hm, fun hne => ?_⟩, by omega, fun x hx => ?_⟩
       · have hpos : 0 < len := by rw [← hlen]; exact List.length_pos_iff.2 hne
         obtain ⟨x0, _, es0, hes, _, hc0⟩ := hall 0 hpos
         have hc00 := hc0 0 h0
         have hsome : ∃ v, W.cell? a = some v := by
           refine ⟨es0[0]'(by omega), ?_⟩
           have : a.add (0 * e.size + 0) = a := by simp [Addr.add]
           rw [this, List.getElem?_eq_getElem (by omega)] at hc00
           exact hc00
         obtain ⟨v0, hv0⟩ := hsome
         have hspot : a.spot = none := by
           cases hs : a.spot with
           | none => rfl
           | some s => simp [World.cell?, hs] at hv0; split at hv0 <;> simp at hv0
         obtain ⟨b, o, s⟩ := a
         simp only at hspot
         subst hspot
         refine ⟨b, o, rfl, fun k x hx => ?_⟩
         obtain ⟨_, es, h1, h2, h3⟩ := hl' k x hx
         refine ⟨es, h1, h2, fun j hj => ?_⟩
         have h4 := h3 j hj
         rw [List.getElem?_eq_getElem (by omega)] at h4 ⊢
         refine cellK_of ?_
         rw [← h4]
         simp only [Addr.add]
         split
         · congr 2; omega
         · congr 2; omega
       · obtain ⟨i, hi, rfl⟩ := List.getElem_of_mem hx
         exact (hl' i _ (List.getElem?_eq_getElem hi)).1
   · simp at hh
 | .emp, t, fuel, cs, x, hh, h => by
   unfold Tp.has at hh
   split at hh
   · rename_i fs ht
     simp only [Bool.and_eq_true, decide_eq_true_eq] at hh
     obtain ⟨_, _, _, _, hlen, _⟩ := DataW.trod_struct ht h
     exact ⟨(), List.length_eq_zero_iff.1 (by omega), trivial⟩
   · simp at hh
 | .one a, t, fuel, cs, x, hh, h => by
   unfold Tp.has at hh
   split at hh
   · rename_i fs ht
     simp only [Bool.and_eq_true, decide_eq_true_eq] at hh
     obtain ⟨hh, hC⟩ := hh
     split at hh
     · rename_i f hfs
       simp only [Bool.and_eq_true, decide_eq_true_eq] at hh
       obtain ⟨⟨h1, h2⟩, h3⟩ := hh
       obtain ⟨xs, n, _, _, hlen, hxl, hf⟩ := DataW.trod_struct ht h
       have hsz : fs.size = 1 := by rw [← Array.length_toList, hfs]; simp
       have hget : ∀ i, fs[i]? = [f][i]? := fun i => by rw [← hfs, Array.getElem?_toList]
       have t0 := hf 0 f (by rw [hget]; rfl)
       rw [h1, h2, List.drop_zero, List.getElem?_eq_getElem (by omega), List.take_of_length_le (by omega)] at t0
       exact Tp.read a h3 t0
     · simp at hh
   · rename_i n e ht
     simp only [Bool.and_eq_true, decide_eq_true_eq] at hh
     obtain ⟨⟨⟨h1, h2⟩, h3⟩, hC⟩ := hh
     obtain ⟨xs, m, _, _, hlen, hxl, hf⟩ := DataW.trod_array ht h
     have t0 := hf 0 (by omega)
     rw [h2, Nat.zero_mul, List.drop_zero, List.getElem?_eq_getElem (by omega), List.take_of_length_le (by omega)] at t0
     exact Tp.read a h3 t0
   · simp at hh
 | .cons a r, t, fuel, cs, x, hh, h => by
   unfold Tp.has at hh
   split at hh
   · rename_i fs ht
     simp only [Bool.and_eq_true, decide_eq_true_eq] at hh
     obtain ⟨hh, hC⟩ := hh
     split at hh
     · rename_i f fs' hfs
       simp only [Bool.and_eq_true, decide_eq_true_eq] at hh
       obtain ⟨⟨⟨h1, h2⟩, h3⟩, h4⟩ := hh
       obtain ⟨xs, n, _, _, hlen, hxl, hf⟩ := DataW.trod_struct ht h
       have hsz : fs.size = fs'.length + 1 := by rw [← Array.length_toList, hfs]; simp
       have hget : ∀ i, fs[i]? = (f :: fs')[i]? := fun i => by rw [← hfs, Array.getElem?_toList]
       have t0 := hf 0 f (by rw [hget]; rfl)
       rw [h1, h2, List.drop_zero, List.getElem?_eq_getElem (by omega)] at t0
       obtain ⟨d0, hd0, ok0⟩ := Tp.read a h3 t0
       obtain ⟨d1, hd1, ok1⟩ := Tp.readAll a.size r fs' (cs := cs.drop a.size) (all := cs) h4 (by rw [List.length_drop]; omega) (fun i g hg => by
         have t1 := hf (i + 1) g (by rw [hget]; exact hg)
         have hi : i < fs'.length := (List.getElem?_eq_some_iff.1 hg).1
         rw [List.getElem?_eq_getElem (by omega)] at t1
         exact ⟨n, _, t1⟩) rfl
       exact ⟨(d0, d1), ⟨cs.take a.size, cs.drop a.size, (List.take_append_drop _ _).symm, by rw [List.length_take]; omega, hd0, hd1⟩, ok0, ok1⟩
     · simp at hh
   · rename_i n e ht
     simp only [Bool.and_eq_true, decide_eq_true_eq] at hh
     obtain ⟨⟨⟨⟨h1, h2⟩, h3⟩, h4⟩, hC⟩ := hh
     obtain ⟨xs, m, _, _, hlen, hxl, hf⟩ := DataW.trod_array ht h
     have t0 := hf 0 (by omega)
     rw [h2, Nat.zero_mul, List.drop_zero, List.getElem?_eq_getElem (by omega)] at t0
     obtain ⟨d0, hd0, ok0⟩ := Tp.read a h3 t0
     obtain ⟨d1, hd1, ok1⟩ := Tp.readArr 1 (n - 1) r (e := e) (cs := cs.drop a.size) (all := cs) h4 (by rw [List.length_drop]; omega) (fun i hi => by
       have t1 := hf (1 + i) (by omega)
       rw [List.getElem?_eq_getElem (by omega)] at t1
       exact ⟨m, _, t1⟩) (by rw [Nat.one_mul, h2])
     exact ⟨(d0, d1), ⟨cs.take a.size, cs.drop a.size, (List.take_append_drop _ _).symm, by rw [List.length_take]; omega, hd0, hd1⟩, ok0, ok1⟩
   · simp at hh
theorem Tp.readAll : ∀ (o : Nat) (ty : Tp) (fs : List Field) {cs all : List Value}, ty.hasAll P o fs = true → cs.length = ty.size →
   (∀ (i : Nat) (f : Field), fs[i]? = some f → ∃ n x, DataW.trod enc P W base spare held n f.type ((all.drop f.offset).take (P.cellsOf f.type)) = some x) → cs = all.drop o → ∃ d : ty.den, Is (Hp.of W) ty cs d ∧ ty.Ok d
 | o, .emp, [], cs, all, hh, hl, hf, hc => ⟨(), List.length_eq_zero_iff.1 hl, trivial⟩
 | o, .one a, [f], cs, all, hh, hl, hf, hc => by
   unfold Tp.hasAll at hh
   simp only [Bool.and_eq_true, decide_eq_true_eq] at hh
   obtain ⟨⟨h1, h2⟩, h3⟩ := hh
   obtain ⟨n, x, t0⟩ := hf 0 f rfl
   rw [h1, h2, ← hc, List.take_of_length_le (by rw [hl]; exact Nat.le_refl _)] at t0
   exact Tp.read a h3 t0
 | o, .cons a r, f :: fs, cs, all, hh, hl, hf, hc => by
   unfold Tp.hasAll at hh
   simp only [Bool.and_eq_true, decide_eq_true_eq] at hh
   obtain ⟨⟨⟨h1, h2⟩, h3⟩, h4⟩ := hh
   obtain ⟨n, x, t0⟩ := hf 0 f rfl
   rw [h1, h2, ← hc] at t0
   obtain ⟨d0, hd0, ok0⟩ := Tp.read a h3 t0
   have hl' : cs.length = a.size + r.size := hl
   obtain ⟨d1, hd1, ok1⟩ := Tp.readAll (o + a.size) r fs (cs := cs.drop a.size) (all := all) h4 (by simp; omega) (fun i g hg => hf (i + 1) g hg) (by rw [hc, List.drop_drop])
   exact ⟨(d0, d1), ⟨cs.take a.size, cs.drop a.size, by simp, by simp; omega, hd0, hd1⟩, ok0, ok1⟩
 | _, .int _, _, _, _, hh, _, _, _ => by simp [Tp.hasAll] at hh
 | _, .bool, _, _, _, hh, _, _, _ => by simp [Tp.hasAll] at hh
 | _, .str, _, _, _, hh, _, _, _ => by simp [Tp.hasAll] at hh
 | _, .sl _, _, _, _, hh, _, _, _ => by simp [Tp.hasAll] at hh
 | _, .ptr _, _, _, _, hh, _, _, _ => by simp [Tp.hasAll] at hh
 | _, .emp, _ :: _, _, _, hh, _, _, _ => by simp [Tp.hasAll] at hh
 | _, .one _, [], _, _, hh, _, _, _ => by simp [Tp.hasAll] at hh
 | _, .one _, _ :: _ :: _, _, _, hh, _, _, _ => by simp [Tp.hasAll] at hh
 | _, .cons _ _, [], _, _, hh, _, _, _ => by simp [Tp.hasAll] at hh
theorem Tp.readArr : ∀ (k n : Nat) (ty : Tp) {e : TypeId} {cs all : List Value}, ty.hasArr P e n = true → cs.length = ty.size →
   (∀ i, i < n → ∃ m x, DataW.trod enc P W base spare held m e ((all.drop ((k + i) * P.cellsOf e)).take (P.cellsOf e)) = some x) → cs = all.drop (k * P.cellsOf e) → ∃ d : ty.den, Is (Hp.of W) ty cs d ∧ ty.Ok d
 | k, n, .one a, e, cs, all, hh, hl, hf, hc => by
   unfold Tp.hasArr at hh
   simp only [Bool.and_eq_true, decide_eq_true_eq] at hh
   obtain ⟨⟨h1, h2⟩, h3⟩ := hh
   obtain ⟨m, x, t0⟩ := hf 0 (by omega)
   rw [Nat.add_zero, ← hc, List.take_of_length_le (by rw [hl, h2]; exact Nat.le_refl _)] at t0
   exact Tp.read a h3 t0
 | k, n, .cons a r, e, cs, all, hh, hl, hf, hc => by
   unfold Tp.hasArr at hh
   simp only [Bool.and_eq_true, decide_eq_true_eq] at hh
   obtain ⟨⟨⟨h1, h2⟩, h3⟩, h4⟩ := hh
   obtain ⟨m, x, t0⟩ := hf 0 (by omega)
   rw [Nat.add_zero, ← hc, h2] at t0
   obtain ⟨d0, hd0, ok0⟩ := Tp.read a h3 t0
   have hl' : cs.length = a.size + r.size := hl
   obtain ⟨d1, hd1, ok1⟩ := Tp.readArr (k + 1) (n - 1) r (e := e) (cs := cs.drop a.size) (all := all) h4 (by simp; omega) (fun i hi => by
     have := hf (i + 1) (by omega)
     rw [show k + (i + 1) = k + 1 + i by omega] at this; exact this) (by rw [hc, List.drop_drop, Nat.add_mul, Nat.one_mul, h2])
   exact ⟨(d0, d1), ⟨cs.take a.size, cs.drop a.size, by simp, by simp; omega, hd0, hd1⟩, ok0, ok1⟩
 | _, _, .int _, _, _, _, hh, _, _, _ => by simp [Tp.hasArr] at hh
 | _, _, .bool, _, _, _, hh, _, _, _ => by simp [Tp.hasArr] at hh
 | _, _, .str, _, _, _, hh, _, _, _ => by simp [Tp.hasArr] at hh
 | _, _, .sl _, _, _, _, hh, _, _, _ => by simp [Tp.hasArr] at hh
 | _, _, .ptr _, _, _, _, hh, _, _, _ => by simp [Tp.hasArr] at hh
 | _, _, .emp, _, _, _, hh, _, _, _ => by simp [Tp.hasArr] at hh
end
end
def IsV (K : Hp) : (t : Tp) → Value → t.den → Prop
 | .emp, v, x => ∃ cs : List Value, v = .agg cs.toArray ∧ Is K .emp cs x
 | .one a, v, x => ∃ cs : List Value, v = .agg cs.toArray ∧ Is K (.one a) cs x
 | .cons a r, v, x => ∃ cs : List Value, v = .agg cs.toArray ∧ Is K (.cons a r) cs x
 | .int k, v, x => Is K (.int k) [v] x
 | .bool, v, x => Is K .bool [v] x
 | .str, v, x => Is K .str [v] x
 | .sl e, v, x => Is K (.sl e) [v] x
 | .ptr e, v, x => Is K (.ptr e) [v] x
theorem IsV.mono {K K' : Hp} (f : K.le K') : ∀ {t : Tp} {v : Value} {d : t.den}, IsV K t v d → IsV K' t v d
 | .int _, v, d, h => Is.mono f (t := .int _) h
 | .bool, v, d, h => Is.mono f (t := .bool) h
 | .str, v, d, h => Is.mono f (t := .str) h
 | .sl e, v, d, h => Is.mono f (t := .sl e) h
 | .ptr e, v, d, h => Is.mono f (t := .ptr e) h
 | .emp, v, d, h => let ⟨cs, h1, h2⟩ := h; ⟨cs, h1, h2.mono f⟩
 | .one a, v, d, h => let ⟨cs, h1, h2⟩ := h; ⟨cs, h1, h2.mono f⟩
 | .cons a r, v, d, h => let ⟨cs, h1, h2⟩ := h; ⟨cs, h1, h2.mono f⟩
section
variable {H : Type} {enc : TypeId × Value → H} {P : Program} {W : World} {base b : Nat} {spare : Nat → Bool} {held : Bool} {r : Reach} {t : TypeId} {v : Value} {d : DataW H} {p : List MemPlace}
theorem okWide_arr {n : Nat} {e : TypeId} (ht : P.underlying t = some (.array n e)) (h : Value.okWide P W r b t v) : ∃ cs, v = .agg cs := by
 simp only [Value.okWide, ht] at h
 obtain ⟨cs, h1, _⟩ := h
 exact ⟨cs, h1⟩
theorem Tp.arg (ty : Tp) (hh : ty.has P t = true) (hv : Value.okWide P W r b t v) (h : DataW.Trod enc P W base spare held t v d p) : ∃ x : ty.den, IsV (Hp.of W) ty v x ∧ ty.Ok x := by
 obtain ⟨f, hf⟩ := h
 have h2 := hh
 cases ty with
 | int k =>
   unfold Tp.has at hh
   split at hh
   · rename_i k' ht
     obtain ⟨n, rfl⟩ := okWide_int ht hv
     exact Tp.read (.int k) h2 hf
   · simp at hh
 | bool =>
   unfold Tp.has at hh
   split at hh
   · rename_i ht
     obtain ⟨n, rfl⟩ := okWide_bool ht hv
     exact Tp.read .bool h2 hf
   · simp at hh
 | str =>
   unfold Tp.has at hh
   split at hh
   · rename_i ht
     obtain ⟨n, rfl⟩ := okWide_string ht hv
     exact Tp.read .str h2 hf
   · simp at hh
 | ptr e => simp [Tp.has] at hh
 | sl e =>
   unfold Tp.has at hh
   split at hh
   · rename_i e' ht
     obtain ⟨a, n, c, rfl⟩ := okWide_slice ht hv
     exact Tp.read (.sl e) h2 hf
   · simp at hh
 | emp =>
   unfold Tp.has at hh
   split at hh
   · rename_i fs ht
     obtain ⟨cs, rfl, _⟩ := okWide_struct ht hv
     obtain ⟨x, hx, ok⟩ := Tp.read .emp h2 hf
     exact ⟨x, ⟨cs.toList, by simp, hx⟩, ok⟩
   · simp at hh
 | one a =>
   unfold Tp.has at hh
   split at hh
   · rename_i fs ht
     obtain ⟨cs, rfl, _⟩ := okWide_struct ht hv
     obtain ⟨x, hx, ok⟩ := Tp.read (.one a) h2 hf
     exact ⟨x, ⟨cs.toList, by simp, hx⟩, ok⟩
   · rename_i n e ht
     obtain ⟨cs, rfl⟩ := okWide_arr ht hv
     obtain ⟨x, hx, ok⟩ := Tp.read (.one a) h2 hf
     exact ⟨x, ⟨cs.toList, by simp, hx⟩, ok⟩
   · simp at hh
 | cons a q =>
   unfold Tp.has at hh
   split at hh
   · rename_i fs ht
     obtain ⟨cs, rfl, _⟩ := okWide_struct ht hv
     obtain ⟨x, hx, ok⟩ := Tp.read (.cons a q) h2 hf
     exact ⟨x, ⟨cs.toList, by simp, hx⟩, ok⟩
   · rename_i n e ht
     obtain ⟨cs, rfl⟩ := okWide_arr ht hv
     obtain ⟨x, hx, ok⟩ := Tp.read (.cons a q) h2 hf
     exact ⟨x, ⟨cs.toList, by simp, hx⟩, ok⟩
   · simp at hh
end
end
theorem ob {α β : Type} {m : Option α} {k : α → Option β} {r : β} (h : m.bind k = some r) : ∃ x, m = some x ∧ k x = some r := by
 cases m with
 | none => cases h
 | some x => exact ⟨x, rfl, h⟩
theorem ct {α : Type} {c : Bool} {x y : Option α} {r : α} (hc : c = true) (h : cond c x y = some r) : x = some r := by subst hc; exact h
theorem cf {α : Type} {c : Bool} {x y : Option α} {r : α} (hc : c = false) (h : cond c x y = some r) : y = some r := by subst hc; exact h
def getI {α : Type} (l : List α) (i : Int) : Option α := if 0 ≤ i then l[i.toNat]? else none
theorem getI_some {α : Type} {l : List α} {i : Int} {x : α} (h : getI l i = some x) : 0 ≤ i ∧ l[i.toNat]? = some x ∧ i < (l.length : Nat) := by
 unfold getI at h
 split at h
 · have := (List.getElem?_eq_some_iff.1 h).1
   exact ⟨by assumption, h, by omega⟩
 · cases h
theorem getI_eq {α : Type} {l : List α} {i : Int} {k : Nat} (hi : i = k) (h : k < l.length) : getI l i = some l[k] := by
 subst hi; unfold getI; rw [if_pos (by omega)]; simp [h]
def nz (b : Int) : Option Unit := if b = 0 then none else some ()
theorem nz_some {b : Int} {u : Unit} (h : nz b = some u) : b ≠ 0 := by unfold nz at h; split at h; cases h; assumption
theorem nz_eq {b : Int} (h : b ≠ 0) : nz b = some () := by unfold nz; rw [if_neg h]
def ge0 (b : Int) : Option Unit := if 0 ≤ b then some () else none
theorem ge0_some {b : Int} {u : Unit} (h : ge0 b = some u) : 0 ≤ b := by unfold ge0 at h; split at h; assumption; cases h
theorem ge0_eq {b : Int} (h : 0 ≤ b) : ge0 b = some () := by unfold ge0; rw [if_pos h]
def subL {α : Type} (l : List α) (lo hi : Int) : Option (List α) := if 0 ≤ lo ∧ lo ≤ hi ∧ hi ≤ (l.length : Nat) then some ((l.take hi.toNat).drop lo.toNat) else none
theorem subL_some {α : Type} {l y : List α} {lo hi : Int} (h : subL l lo hi = some y) : 0 ≤ lo ∧ lo ≤ hi ∧ hi ≤ (l.length : Nat) ∧ y = (l.take hi.toNat).drop lo.toNat := by
 unfold subL at h; split at h
 · rename_i hh; cases h; exact ⟨hh.1, hh.2.1, hh.2.2, rfl⟩
 · cases h
theorem subL_eq {α : Type} {l : List α} {lo hi : Int} (h1 : 0 ≤ lo) (h2 : lo ≤ hi) (h3 : hi ≤ (l.length : Nat)) : subL l lo hi = some ((l.take hi.toNat).drop lo.toNat) := by unfold subL; rw [if_pos ⟨h1, h2, h3⟩]
def app {α : Type} (a b : List α) : Option (List α) := if a.length + b.length ≤ 1073741824 then some (a ++ b) else none
theorem app_some {α : Type} {a b y : List α} (h : app a b = some y) : a.length + b.length ≤ 1073741824 ∧ a ++ b = y := by
 unfold app at h; split at h
 · rename_i hh; cases h; exact ⟨hh, rfl⟩
 · cases h
theorem app_eq {α : Type} {a b : List α} (h : a.length + b.length ≤ 1073741824) : app a b = some (a ++ b) := by unfold app; rw [if_pos h]
noncomputable def lim {α : Type} (g : Nat → Option α) : Option α := open Classical in if h : ∃ n, (g n).isSome then g h.choose else none
theorem lim_some {α : Type} {g : Nat → Option α} {r : α} (h : lim g = some r) : ∃ n, g n = some r := by
 unfold lim at h
 split at h
 · exact ⟨_, h⟩
 · cases h
theorem lim_eq {α : Type} {g : Nat → Option α} {r : α} {n : Nat} (h : g n = some r) (hu : ∀ m x, g m = some x → x = r) : lim g = some r := by
 unfold lim
 have hex : ∃ n, (g n).isSome := ⟨n, by rw [h]; rfl⟩
 rw [dif_pos hex]
 have := hex.choose_spec
 cases hg : g hex.choose with
 | none => rw [hg] at this; cases this
 | some x => rw [hu _ x hg]
def iter {σ β : Type} (body : σ → Option (σ ⊕ β)) : Nat → σ → Option β
 | 0, _ => none
 | n + 1, s => (body s).bind fun r => match r with | .inl s' => iter body n s' | .inr b => some b
noncomputable def loop {σ β : Type} (body : σ → Option (σ ⊕ β)) (s : σ) : Option β := lim (fun n => iter body n s)
theorem iter_det {σ β : Type} {body : σ → Option (σ ⊕ β)} : ∀ {n m : Nat} {s : σ} {x y : β}, iter body n s = some x → iter body m s = some y → x = y
 | 0, _, _, _, _, h, _ => by cases h
 | _ + 1, 0, _, _, _, _, h => by cases h
 | n + 1, m + 1, s, x, y, h, k => by
   unfold iter at h k
   cases hb : body s with
   | none => rw [hb] at h; cases h
   | some r =>
     rw [hb] at h k
     cases r with
     | inl s' => exact iter_det (n := n) (m := m) h k
     | inr b => cases h; cases k; rfl
theorem loop_iter {σ β : Type} {body : σ → Option (σ ⊕ β)} {s : σ} {r : β} (h : loop body s = some r) : ∃ n, iter body n s = some r := lim_some h
theorem loop_of {σ β : Type} {body : σ → Option (σ ⊕ β)} {s : σ} {r : β} {n : Nat} (h : iter body n s = some r) : loop body s = some r := lim_eq (n := n) h (fun m x hx => iter_det hx h)
theorem loop_next {σ β : Type} {body : σ → Option (σ ⊕ β)} {s s' : σ} (h : body s = some (.inl s')) : loop body s = loop body s' := by
 cases hl : loop body s' with
 | some r =>
   obtain ⟨n, hn⟩ := loop_iter hl
   exact loop_of (n := n + 1) (by unfold iter; rw [h]; exact hn)
 | none =>
   cases hl2 : loop body s with
   | none => rfl
   | some r =>
     obtain ⟨n, hn⟩ := loop_iter hl2
     cases n with
     | zero => cases hn
     | succ n =>
       unfold iter at hn
       rw [h] at hn
       rw [loop_of (n := n) hn] at hl; cases hl
theorem loop_end {σ β : Type} {body : σ → Option (σ ⊕ β)} {s : σ} {b : β} (h : body s = some (.inr b)) : loop body s = some b := loop_of (n := 1) (by unfold iter; rw [h]; rfl)
theorem loop_inv {σ β : Type} {body : σ → Option (σ ⊕ β)} (I : σ → Prop) (μ : σ → Nat) {Q : β → Prop} (hb : ∀ s, I s → (∃ s', body s = some (.inl s') ∧ I s' ∧ μ s' < μ s) ∨ ∃ b, body s = some (.inr b) ∧ Q b) {s : σ} (h : I s) : ∃ b, loop body s = some b ∧ Q b := by
 generalize hm : μ s = m
 induction m using Nat.strongRecOn generalizing s with
 | _ m ih =>
   rcases hb s h with ⟨s', h1, h2, h3⟩ | ⟨b, h1, h2⟩
   · rw [loop_next h1]; exact ih _ (by omega) h2 rfl
   · exact ⟨b, loop_end h1, h2⟩
theorem loop_val {σ β : Type} {body : σ → Option (σ ⊕ β)} (I : σ → Prop) (μ : σ → Nat) {b : β} (hb : ∀ s, I s → (∃ s', body s = some (.inl s') ∧ I s' ∧ μ s' < μ s) ∨ body s = some (.inr b)) {s : σ} (h : I s) : loop body s = some b := by
 obtain ⟨b', h1, rfl⟩ := loop_inv I μ (Q := fun x => x = b) (fun s hs => by
   rcases hb s hs with h | h
   · exact .inl h
   · exact .inr ⟨b, h, rfl⟩) h
 exact h1
section
section
variable {P : Program} {n : Nat} {C : World → Prop} {ρ : Sl0} {d : Option Nat} {t : TypeId} {pos : String} {af : Array Edge} {g : Option (Nat × Bool)} {x y c : Operand} {u v : Value}
theorem V.mv (hx : ev n ρ x = v) : Val P n C ρ ⟨d, .move x, t, pos, af, g⟩ v := fun w _ => by subst hx; rfl
theorem V.as (hx : ev n ρ x = v) : Val P n C ρ ⟨d, .assign x, t, pos, af, g⟩ v := fun w _ => by subst hx; rfl
theorem V.pick {b : Bool} (hc : ev n ρ c = .bool b) (hv : (bif b then ev n ρ x else ev n ρ y) = v) : Val P n C ρ ⟨d, .pick c x y, t, pos, af, g⟩ v := fun w _ => by
 subst hv; cases b <;> simp [execOp, hc, asBool]
theorem V.pickT {b : Bool} (hc : ev n ρ c = .bool b) (hb : b = true) (hv : ev n ρ x = v) : Val P n C ρ ⟨d, .pick c x y, t, pos, af, g⟩ v := V.pick hc (by rw [hb]; exact hv)
theorem V.pickF {b : Bool} (hc : ev n ρ c = .bool b) (hb : b = false) (hv : ev n ρ y = v) : Val P n C ρ ⟨d, .pick c x y, t, pos, af, g⟩ v := V.pick hc (by rw [hb]; exact hv)
section
variable {k : IntKind} {a b : Int} {tx ty : TypeId}
theorem V.add (hx : ev n ρ x = .int k a) (hy : ev n ρ y = .int k b) : Val P n C ρ ⟨d, .binOp .add tx x y ty, t, pos, af, g⟩ (.int k (k.wrap (a + b))) := fun w _ => by
 simp [execOp, eqGuard, binOp, hx, hy, Op.intArith]
theorem V.sub (hx : ev n ρ x = .int k a) (hy : ev n ρ y = .int k b) : Val P n C ρ ⟨d, .binOp .sub tx x y ty, t, pos, af, g⟩ (.int k (k.wrap (a - b))) := fun w _ => by
 simp [execOp, eqGuard, binOp, hx, hy, Op.intArith]
theorem V.mul (hx : ev n ρ x = .int k a) (hy : ev n ρ y = .int k b) : Val P n C ρ ⟨d, .binOp .mul tx x y ty, t, pos, af, g⟩ (.int k (k.wrap (a * b))) := fun w _ => by
 simp [execOp, eqGuard, binOp, hx, hy, Op.intArith]
theorem V.quo (hx : ev n ρ x = .int k a) (hy : ev n ρ y = .int k b) (hb : b ≠ 0) : Val P n C ρ ⟨d, .binOp .quo tx x y ty, t, pos, af, g⟩ (.int k (k.wrap (a.tdiv b))) := fun w _ => by
 simp [execOp, eqGuard, binOp, hx, hy, Op.intDiv, hb]
theorem V.rem (hx : ev n ρ x = .int k a) (hy : ev n ρ y = .int k b) (hb : b ≠ 0) : Val P n C ρ ⟨d, .binOp .rem tx x y ty, t, pos, af, g⟩ (.int k (a.tmod b)) := fun w _ => by
 simp [execOp, eqGuard, binOp, hx, hy, Op.intDiv, hb]
theorem V.and (hx : ev n ρ x = .int k a) (hy : ev n ρ y = .int k b) : Val P n C ρ ⟨d, .binOp .and tx x y ty, t, pos, af, g⟩ (.int k (k.wrap ((BitVec.ofInt k.bits a &&& BitVec.ofInt k.bits b).toNat : Int))) := fun w _ => by
 simp [execOp, eqGuard, binOp, hx, hy, Op.intBits]
theorem V.or (hx : ev n ρ x = .int k a) (hy : ev n ρ y = .int k b) : Val P n C ρ ⟨d, .binOp .or tx x y ty, t, pos, af, g⟩ (.int k (k.wrap ((BitVec.ofInt k.bits a ||| BitVec.ofInt k.bits b).toNat : Int))) := fun w _ => by
 simp [execOp, eqGuard, binOp, hx, hy, Op.intBits]
theorem V.xor (hx : ev n ρ x = .int k a) (hy : ev n ρ y = .int k b) : Val P n C ρ ⟨d, .binOp .xor tx x y ty, t, pos, af, g⟩ (.int k (k.wrap ((BitVec.ofInt k.bits a ^^^ BitVec.ofInt k.bits b).toNat : Int))) := fun w _ => by
 simp [execOp, eqGuard, binOp, hx, hy, Op.intBits]
theorem V.andNot (hx : ev n ρ x = .int k a) (hy : ev n ρ y = .int k b) : Val P n C ρ ⟨d, .binOp .andNot tx x y ty, t, pos, af, g⟩ (.int k (k.wrap ((BitVec.ofInt k.bits a &&& ~~~BitVec.ofInt k.bits b).toNat : Int))) := fun w _ => by
 simp [execOp, eqGuard, binOp, hx, hy, Op.intBits]
theorem V.lss (hx : ev n ρ x = .int k a) (hy : ev n ρ y = .int k b) : Val P n C ρ ⟨d, .binOp .lss tx x y ty, t, pos, af, g⟩ (.bool (decide (a < b))) := fun w _ => by
 simp [execOp, eqGuard, binOp, hx, hy, Op.intCmp]
theorem V.leq (hx : ev n ρ x = .int k a) (hy : ev n ρ y = .int k b) : Val P n C ρ ⟨d, .binOp .leq tx x y ty, t, pos, af, g⟩ (.bool (decide (a ≤ b))) := fun w _ => by
 simp [execOp, eqGuard, binOp, hx, hy, Op.intCmp]
theorem V.gtr (hx : ev n ρ x = .int k a) (hy : ev n ρ y = .int k b) : Val P n C ρ ⟨d, .binOp .gtr tx x y ty, t, pos, af, g⟩ (.bool (decide (b < a))) := fun w _ => by
 simp [execOp, eqGuard, binOp, hx, hy, Op.intCmp]
theorem V.geq (hx : ev n ρ x = .int k a) (hy : ev n ρ y = .int k b) : Val P n C ρ ⟨d, .binOp .geq tx x y ty, t, pos, af, g⟩ (.bool (decide (b ≤ a))) := fun w _ => by
 simp [execOp, eqGuard, binOp, hx, hy, Op.intCmp]
theorem V.eql (hx : ev n ρ x = .int k a) (hy : ev n ρ y = .int k b) : Val P n C ρ ⟨d, .binOp .eql tx x y ty, t, pos, af, g⟩ (.bool (decide (a = b))) := fun w _ => by
 simp [execOp, eqGuard, binOp, hx, hy, Op.intCmp]
 exact Bool.beq_eq_decide_eq a b
theorem V.neq (hx : ev n ρ x = .int k a) (hy : ev n ρ y = .int k b) : Val P n C ρ ⟨d, .binOp .neq tx x y ty, t, pos, af, g⟩ (.bool (!decide (a = b))) := fun w _ => by
 simp [execOp, eqGuard, binOp, hx, hy, Op.intCmp]
 rw [bne, Bool.beq_eq_decide_eq]
theorem V.shl {k' : IntKind} (hx : ev n ρ x = .int k a) (hy : ev n ρ y = .int k' b) (hb : 0 ≤ b) : Val P n C ρ ⟨d, .binOp .shl tx x y ty, t, pos, af, g⟩ (.int k (k.wrap (a * 2 ^ (min b.toNat k.bits)))) := fun w _ => by
 have : ¬ b < 0 := by omega
 simp [execOp, eqGuard, binOp, hx, hy, Op.shift, this]
theorem V.shr {k' : IntKind} (hx : ev n ρ x = .int k a) (hy : ev n ρ y = .int k' b) (hb : 0 ≤ b) : Val P n C ρ ⟨d, .binOp .shr tx x y ty, t, pos, af, g⟩ (.int k (a.fdiv (2 ^ (min b.toNat k.bits)))) := fun w _ => by
 have : ¬ b < 0 := by omega
 simp [execOp, eqGuard, binOp, hx, hy, Op.shift, this]
theorem V.neg (hx : ev n ρ x = .int k a) : Val P n C ρ ⟨d, .unOp .neg tx x, t, pos, af, g⟩ (.int k (k.wrap (0 - a))) := fun w _ => by
 simp [execOp, Op.unary, hx, Op.intArith]
theorem V.conv {k' : IntKind} {src dst : TypeId} (hs : P.underlying src = some (.int k)) (hd : P.underlying dst = some (.int k')) (hx : ev n ρ x = .int k a) : Val P n C ρ ⟨d, .convert src dst x, t, pos, af, g⟩ (.int k' (k'.wrap a)) := fun w _ => by
 simp [execOp, hx, convert, run_underlying hs, run_underlying hd, Conv.intToInt]
end
section
variable {a b : Bool} {tx ty : TypeId}
theorem V.not (hx : ev n ρ x = .bool a) : Val P n C ρ ⟨d, .unOp .not tx x, t, pos, af, g⟩ (.bool (!a)) := fun w _ => by
 simp [execOp, Op.unary, hx]
theorem V.eqb (ht : P.underlying tx = some .bool) (hx : ev n ρ x = .bool a) (hy : ev n ρ y = .bool b) : Val P n C ρ ⟨d, .binOp .eql tx x y ty, t, pos, af, g⟩ (.bool (a == b)) := fun w _ => by
 have := run_eql_bool (P := P) (w := w) tx a b ht
 simp only [execOp, hx, hy]
 simp [eqGuard, this]
theorem V.neb (ht : P.underlying tx = some .bool) (hx : ev n ρ x = .bool a) (hy : ev n ρ y = .bool b) : Val P n C ρ ⟨d, .binOp .neq tx x y ty, t, pos, af, g⟩ (.bool (!(a == b))) := fun w _ => by
 have := run_neq_bool (P := P) (w := w) tx a b ht
 simp only [execOp, hx, hy]
 simp [eqGuard, this]
end
section
variable {a b : List UInt8} {tx ty : TypeId}
theorem bsl (a : List UInt8) : (⟨a.toArray⟩ : ByteArray).toList = a := by rw [ByteArray.toList_eq]
theorem V.eqs (hx : ev n ρ x = .string ⟨a.toArray⟩) (hy : ev n ρ y = .string ⟨b.toArray⟩) : Val P n C ρ ⟨d, .binOp .eql tx x y ty, t, pos, af, g⟩ (.bool (decide (a = b))) := fun w _ => by
 simp [execOp, eqGuard, binOp, hx, hy, Op.stringOp]
 exact Bool.beq_eq_decide_eq a b
theorem V.nes (hx : ev n ρ x = .string ⟨a.toArray⟩) (hy : ev n ρ y = .string ⟨b.toArray⟩) : Val P n C ρ ⟨d, .binOp .neq tx x y ty, t, pos, af, g⟩ (.bool (!decide (a = b))) := fun w _ => by
 simp [execOp, eqGuard, binOp, hx, hy, Op.stringOp]
 rw [Bool.beq_eq_decide_eq a b]
theorem V.cat {z : List UInt8} (hx : ev n ρ x = .string ⟨a.toArray⟩) (hy : ev n ρ y = .string ⟨b.toArray⟩) (hz : app a b = some z) : Val P n C ρ ⟨d, .binOp .add tx x y ty, t, pos, af, g⟩ (.string ⟨z.toArray⟩) := fun w _ => by
 obtain ⟨h, rfl⟩ := app_some hz
 have h1 : ¬ ((9223372036854775807 : Int) < (a.length : Int) + (b.length : Int)) := by omega
 have h2 : (⟨a.toArray⟩ ++ ⟨b.toArray⟩ : ByteArray) = ⟨(a ++ b).toArray⟩ := ba_append a b
 have h3 : ((IntKind.i64.max : Int)) = 9223372036854775807 := rfl
 simp [execOp, eqGuard, binOp, hx, hy, Op.stringOp, ByteArray.size, h1, h2, h3]
theorem V.lens (ht : P.underlying tx = some .string) (hx : ev n ρ x = .string ⟨a.toArray⟩) : Val P n C ρ ⟨d, .call ⟨.builtin .len, #[x], #[tx]⟩, t, pos, af, g⟩ (.int .i64 (a.length : Nat)) := fun w _ => by
 simp [execOp, resolve, invoke, builtin, hx, Builtin.len_, run_underlying ht, goInt]
 rfl
end
theorem V.len {tx e : TypeId} {ad : Option Addr} {m cp : Nat} (ht : P.underlying tx = some (.slice e)) (hx : ev n ρ x = .slice ad m cp) : Val P n C ρ ⟨d, .call ⟨.builtin .len, #[x], #[tx]⟩, t, pos, af, g⟩ (.int .i64 (m : Nat)) := fun w _ => by
 simp [execOp, resolve, invoke, builtin, hx, Builtin.len_, run_underlying ht, goInt]
theorem V.cap {tx e : TypeId} {ad : Option Addr} {m cp : Nat} (ht : P.underlying tx = some (.slice e)) (hx : ev n ρ x = .slice ad m cp) : Val P n C ρ ⟨d, .call ⟨.builtin .cap, #[x], #[tx]⟩, t, pos, af, g⟩ (.int .i64 (cp : Nat)) := fun w _ => by
 simp [execOp, resolve, invoke, builtin, hx, Builtin.cap_, run_underlying ht, goInt]
theorem V.ext {i : Nat} {vs : Array Value} (hx : ev n ρ x = .tuple vs) (hv : vs[i]? = some v) : Val P n C ρ ⟨d, .extract x i, t, pos, af, g⟩ v := fun w _ => by
 simp [execOp, hx, Instr.extract, hv]
theorem addr_add (b o m : Nat) : (⟨b, o, none⟩ : Addr).add m = ⟨b, o + m, none⟩ := by
 unfold Addr.add; split
 · rename_i h; subst h; rfl
 · rfl
theorem V.fad {s : TypeId} {fs : Array Field} {f : Field} {i b o : Nat} (hs : P.underlying s = some (.struct fs)) (hf : fs[i]? = some f) (hz : P.cellsOf f.type ≠ 0) (hx : ev n ρ x = .pointer (some ⟨b, o, none⟩)) :
   Val P n C ρ ⟨d, .fieldAddr s x i, t, pos, af, g⟩ (.pointer (some ⟨b, o + f.offset, none⟩)) := fun w _ => by
 unfold Program.cellsOf at hz
 cases hi : P.info? f.type with
 | none => rw [hi] at hz; simp at hz
 | some i' =>
   rw [hi] at hz
   simp at hz
   simp [execOp, hx, Instr.fieldAt, run_underlying hs, hf, Instr.sureAddr, fieldPlace, sizeOf, typeInfo, hi, hz, addr_add]
theorem V.iad {tx e : TypeId} {ad : Option Addr} {b o m cp : Nat} {i : Int} {k : IntKind} {sz : Nat} (ht : P.underlying tx = some (.slice e)) (hz : (P.info? e).map (·.size) = some sz) (hx : ev n ρ x = .slice ad m cp) (he : ad = some ⟨b, o, none⟩) (hy : ev n ρ y = .int k i) (h0 : 0 ≤ i) (h1 : i < (m : Int)) :
   Val P n C ρ ⟨d, .indexAddr tx x y, t, pos, af, g⟩ (.pointer (some ⟨b, o + i.toNat * sz, none⟩)) := fun w _ => by
 subst he
 cases hi : P.info? e with
 | none => rw [hi] at hz; simp at hz
 | some i' =>
   rw [hi] at hz
   simp at hz
   simp [execOp, hx, hy, Instr.indexAt, asIntOf, run_underlying ht, h0, h1, sizeOf, typeInfo, hi, hz, addr_add]
theorem V.ixs {tx : TypeId} {s : List UInt8} {i : Int} {k : IntKind} {q : UInt8} (ht : P.underlying tx = some .string) (hx : ev n ρ x = .string ⟨s.toArray⟩) (hy : ev n ρ y = .int k i) (h0 : 0 ≤ i) (h1 : s[i.toNat]? = some q) :
   Val P n C ρ ⟨d, .index tx x y, t, pos, af, g⟩ (.int .u8 (q.toNat : Nat)) := fun w _ => by
 have hl : i.toNat < s.length := (List.getElem?_eq_some_iff.1 h1).1
 have hq : s[i.toNat] = q := (List.getElem?_eq_some_iff.1 h1).2
 have h2 : (⟨s.toArray⟩ : ByteArray)[i.toNat]? = some q := by
   show (if h : i.toNat < (⟨s.toArray⟩ : ByteArray).size then some ((⟨s.toArray⟩ : ByteArray)[i.toNat]) else none) = some q
   rw [dif_pos (show i.toNat < (⟨s.toArray⟩ : ByteArray).size by simpa [ByteArray.size] using hl)]
   show some (s.toArray[i.toNat]) = _
   simp [hq]
 simp [execOp, hx, hy, Instr.index, asIntOf, run_underlying ht, h0, h2]
theorem V.slc {tx e : TypeId} {lo hi : Option Operand} {b o m cp l h sz : Nat} (ht : P.underlying tx = some (.slice e)) (hz : (P.info? e).map (·.size) = some sz) (hx : ev n ρ x = .slice (some ⟨b, o, none⟩) m cp)
   (hl : ∀ q, lo = some q → ∃ k, ev n ρ q = .int k (l : Nat)) (hl0 : lo = none → l = 0) (hh : ∀ q, hi = some q → ∃ k, ev n ρ q = .int k (h : Nat)) (hh0 : hi = none → h = m) (h1 : l ≤ h) (h2 : h ≤ m) (h3 : m ≤ cp) :
   Val P n C ρ ⟨d, .slice tx x lo hi none, t, pos, af, g⟩ (.slice (some (if cp = l then ⟨b, o, none⟩ else ⟨b, o + l * sz, none⟩)) (h - l) (cp - l)) := fun w _ => by
 cases hi' : P.info? e with
 | none => rw [hi'] at hz; simp at hz
 | some i' =>
   rw [hi'] at hz
   simp at hz
   have a2 : h ≤ cp := by omega
   cases lo with
   | none =>
     obtain rfl := hl0 rfl
     cases hi with
     | none =>
       obtain rfl := hh0 rfl
       simp [execOp, hx, Instr.sliceAt, run_underlying ht, Instr.slice, Instr.sliceBounds, sizeOf, typeInfo, hi', addr_add]
     | some q =>
       obtain ⟨k, hq⟩ := hh q rfl
       simp [execOp, hx, hq, Instr.sliceAt, run_underlying ht, Instr.slice, Instr.sliceBounds, Instr.sliceBound, asIntOf, a2, sizeOf, typeInfo, hi', addr_add]
       try (by_cases q : cp = l <;> simp [q])
   | some ql =>
     obtain ⟨k1, hq1⟩ := hl ql rfl
     cases hi with
     | none =>
       obtain rfl := hh0 rfl
       simp [execOp, hx, hq1, Instr.sliceAt, run_underlying ht, Instr.slice, Instr.sliceBounds, Instr.sliceBound, asIntOf, h1, sizeOf, typeInfo, hi', hz, addr_add]
       try (by_cases q : cp = l <;> simp [q])
     | some q =>
       obtain ⟨k, hq⟩ := hh q rfl
       simp [execOp, hx, hq, hq1, Instr.sliceAt, run_underlying ht, Instr.slice, Instr.sliceBounds, Instr.sliceBound, asIntOf, h1, a2, sizeOf, typeInfo, hi', hz, addr_add]
       try (by_cases q : cp = l <;> simp [q])
theorem V.nck {b o : Nat} (hx : ev n ρ x = .pointer (some ⟨b, o, none⟩)) : Val P n C ρ ⟨d, .nilCheck x, t, pos, af, g⟩ (.pointer (some ⟨b, o, none⟩)) := fun w _ => by
 simp [execOp, hx]
theorem V.mkf {f : FuncId} {xs : Array Operand} {caps : Array Value} (h' : xs.toList.map (ev n ρ) = caps.toList) : Val P n C ρ ⟨d, .makeFunc (.func f) #[] xs, t, pos, af, g⟩ (.func (.func f) #[] caps) := fun w _ => by
 have h : xs.map (ev n ρ) = caps := Array.ext' (by simpa using h')
 simp [execOp, Instr.makeFunc, h]
theorem pointee_of {P : Program} {tx e : TypeId} (ht : P.underlying tx = some (.pointer e)) : P.underlying tx = some (.pointer (P.pointee tx)) := by
 rw [ht]; simp [Program.pointee, ht]
theorem V.pn_eql {tx ty e : TypeId} {p : Option Addr} (ht : P.underlying tx = some (.pointer e)) (hx : ev n ρ x = .pointer p) (hy : ev n ρ y = .pointer none) : Val P n C ρ ⟨d, .binOp .eql tx x y ty, t, pos, af, g⟩ (.bool p.isNone) := fun w _ => by
 have := run_eql_pointer_nil (P := P) (w := w) tx p (pointee_of ht)
 simp only [execOp, hx, hy]
 simp [eqGuard, this]
theorem V.pn_neq {tx ty e : TypeId} {p : Option Addr} (ht : P.underlying tx = some (.pointer e)) (hx : ev n ρ x = .pointer p) (hy : ev n ρ y = .pointer none) : Val P n C ρ ⟨d, .binOp .neq tx x y ty, t, pos, af, g⟩ (.bool (!p.isNone)) := fun w _ => by
 have := run_neq_pointer_nil (P := P) (w := w) tx p (pointee_of ht)
 simp only [execOp, hx, hy]
 simp [eqGuard, this]
theorem V.subs {tx : TypeId} {s z : List UInt8} {lo hi : Option Operand} {l h : Int} (ht : P.underlying tx = some .string) (hx : ev n ρ x = .string ⟨s.toArray⟩) (hl : ∀ q, lo = some q → ∃ k, ev n ρ q = .int k l) (hl0 : lo = none → l = 0) (hh : ∀ q, hi = some q → ∃ k, ev n ρ q = .int k h) (hh0 : hi = none → h = (s.length : Nat)) (hz : subL s l h = some z) :
   Val P n C ρ ⟨d, .slice tx x lo hi none, t, pos, af, g⟩ (.string ⟨z.toArray⟩) := fun w _ => by
 obtain ⟨a1, a2, a3, rfl⟩ := subL_some hz
 obtain ⟨l, rfl⟩ := Int.eq_ofNat_of_zero_le a1
 obtain ⟨h, rfl⟩ := Int.eq_ofNat_of_zero_le (show 0 ≤ h by omega)
 have b1 : l ≤ h := by omega
 have b2 : h ≤ s.length := by omega
 have e : (⟨s.toArray⟩ : ByteArray).extract l h = ⟨((s.take h).drop l).toArray⟩ := by
   apply ByteArray.ext
   simp [ByteArray.data_extract]
   rw [List.drop_take]
 have hsz : (⟨s.toArray⟩ : ByteArray).size = s.length := by simp [ByteArray.size]
 simp only [Int.toNat_natCast]
 cases lo with
 | none =>
   have h0 := hl0 rfl
   obtain rfl : l = 0 := by omega
   cases hi with
   | none =>
     have h1 := hh0 rfl
     obtain rfl : h = s.length := by omega
     rw [← hsz] at e ⊢
     simp [execOp, hx, Instr.sliceAt, run_underlying ht, Instr.slice, Instr.sliceBounds]
     rw [hsz, List.take_length]
   | some q =>
     obtain ⟨k, hq⟩ := hh q rfl
     simp [execOp, hx, hq, Instr.sliceAt, run_underlying ht, Instr.slice, Instr.sliceBounds, Instr.sliceBound, asIntOf, hsz, b2, e]
 | some ql =>
   obtain ⟨k1, hq1⟩ := hl ql rfl
   cases hi with
   | none =>
     have h1 := hh0 rfl
     obtain rfl : h = s.length := by omega
     simp [execOp, hx, hq1, Instr.sliceAt, run_underlying ht, Instr.slice, Instr.sliceBounds, Instr.sliceBound, asIntOf, hsz, b1, e]
   | some q =>
     obtain ⟨k, hq⟩ := hh q rfl
     simp [execOp, hx, hq, hq1, Instr.sliceAt, run_underlying ht, Instr.slice, Instr.sliceBounds, Instr.sliceBound, asIntOf, hsz, b1, b2, e]
end
end
section
def Els (K : Hp) (t : Tp) : List Value → List t.den → Prop
 | cs, [] => cs = []
 | cs, x :: xs => ∃ es r, cs = es ++ r ∧ Is K t es x ∧ Els K t r xs
theorem Els.len {K : Hp} {t : Tp} : ∀ {xs : List t.den} {cs : List Value}, Els K t cs xs → cs.length = xs.length * t.size
 | [], cs, h => by subst h; simp
 | x :: xs, cs, h => by
   obtain ⟨es, r, rfl, h1, h2⟩ := h
   rw [List.length_append, h1.len, Els.len h2, List.length_cons, Nat.succ_mul]; omega
theorem Els.mono {K K' : Hp} (f : K.le K') {t : Tp} : ∀ {xs : List t.den} {cs : List Value}, Els K t cs xs → Els K' t cs xs
 | [], cs, h => h
 | x :: xs, cs, h => by
   obtain ⟨es, r, rfl, h1, h2⟩ := h
   exact ⟨es, r, rfl, h1.mono f, Els.mono f h2⟩
theorem Els.app {K : Hp} {t : Tp} : ∀ {xs : List t.den} {cs : List Value} {ys : List t.den} {ds : List Value}, Els K t cs xs → Els K t ds ys → Els K t (cs ++ ds) (xs ++ ys)
 | [], cs, ys, ds, h, k => by subst h; exact k
 | x :: xs, cs, ys, ds, h, k => by
   obtain ⟨es, r, rfl, h1, h2⟩ := h
   exact ⟨es, r ++ ds, by simp, h1, Els.app h2 k⟩
theorem Els.get {K : Hp} {t : Tp} : ∀ {xs : List t.den} {cs : List Value}, Els K t cs xs → ∀ (i : Nat) x, xs[i]? = some x → ∃ es, es.length = t.size ∧ Is K t es x ∧ ∀ j, j < t.size → cs[i * t.size + j]? = es[j]?
 | [], cs, h, i, x, hx => by simp at hx
 | y :: xs, cs, h, 0, x, hx => by
   obtain ⟨es, r, rfl, h1, h2⟩ := h
   simp at hx; subst hx
   exact ⟨es, h1.len, h1, fun j hj => by rw [Nat.zero_mul, Nat.zero_add, List.getElem?_append_left (by rw [h1.len]; exact hj)]⟩
 | y :: xs, cs, h, i + 1, x, hx => by
   obtain ⟨es, r, rfl, h1, h2⟩ := h
   obtain ⟨es', l', h3, h4⟩ := Els.get h2 i x (by simpa using hx)
   refine ⟨es', l', h3, fun j hj => ?_⟩
   rw [List.getElem?_append_right (by rw [h1.len, Nat.succ_mul]; omega), h1.len, ← h4 j hj]
   congr 1; rw [Nat.succ_mul]; omega
theorem Els.set {K : Hp} {t : Tp} : ∀ {xs : List t.den} {cs : List Value}, Els K t cs xs → ∀ (i : Nat) (x y : t.den), xs[i]? = some x → ∀ (j : Nat) (u : Value), j < t.size → (∀ es, Is K t es x → Is K t (es.set j u) y) → Els K t (cs.set (i * t.size + j) u) (xs.set i y)
 | [], cs, h, i, x, y, hx, _, _, _, _ => by simp at hx
 | z :: xs, cs, h, 0, x, y, hx, j, u, hj, hs => by
   obtain ⟨es, r, rfl, h1, h2⟩ := h
   simp at hx; subst hx
   refine ⟨es.set j u, r, ?_, hs es h1, h2⟩
   rw [Nat.zero_mul, Nat.zero_add, List.set_append_left _ _ (by rw [h1.len]; exact hj)]
 | z :: xs, cs, h, i + 1, x, y, hx, j, u, hj, hs => by
   obtain ⟨es, r, rfl, h1, h2⟩ := h
   refine ⟨es, r.set (i * t.size + j) u, ?_, h1, Els.set h2 i x y (by simpa using hx) j u hj hs⟩
   rw [List.set_append_right _ _ (by rw [h1.len, Nat.succ_mul]; omega), h1.len]
   congr 2; rw [Nat.succ_mul]; omega
def Tp.flat : Tp → Bool
 | .sl _ | .ptr _ => false
 | .one a => a.flat
 | .cons a r => a.flat && r.flat
 | _ => true
theorem Is.flat {K K' : Hp} : ∀ {t : Tp} (h : t.flat = true) {cs : List Value} {d : t.den}, Is K t cs d → Is K' t cs d
 | .int _, _, _, _, h => h
 | .bool, _, _, _, h => h
 | .str, _, _, _, h => h
 | .emp, _, _, _, h => h
 | .sl _, hf, _, _, _ => by cases hf
 | .ptr _, hf, _, _, _ => by cases hf
 | .one a, hf, _, _, h => Is.flat (t := a) hf h
 | .cons a r, hf, _, _, h => by
   simp only [Tp.flat, Bool.and_eq_true] at hf
   simp only [Is] at h ⊢
   obtain ⟨c1, c2, rfl, h1, h2, h3⟩ := h
   exact ⟨c1, c2, rfl, h1, Is.flat hf.1 h2, Is.flat hf.2 h3⟩
theorem Els.flat {K K' : Hp} {t : Tp} (hf : t.flat = true) : ∀ {xs : List t.den} {cs : List Value}, Els K t cs xs → Els K' t cs xs
 | [], cs, h => h
 | x :: xs, cs, h => by
   obtain ⟨es, r, rfl, h1, h2⟩ := h
   exact ⟨es, r, rfl, h1.flat hf, Els.flat hf h2⟩
def Row (K : Hp) (e : TypeId) (t : Tp) (v : Value) (xs : List t.den) : Atom := fun h => ∃ cs, Els K t cs xs ∧ Rw e t.size v xs.length cs h
section
variable {K K' : Hp} {e : TypeId} {t : Tp} {v : Value} {xs : List t.den} {E : En} {L : List Atom} {w : World}
theorem Row.mono (f : K.le K') : ∀ h, Row K e t v xs h → Row K' e t v xs h := fun h ⟨cs, h1, h2⟩ => ⟨cs, h1.mono f, h2⟩
def Cells (K : Hp) (b : Nat) : Nat → List Value → Prop
 | _, [] => True
 | o, v :: vs => cellK K b o = some v ∧ Cells K b (o + 1) vs
theorem Cells.at {K : Hp} {b : Nat} : ∀ {vs : List Value} {o : Nat}, Cells K b o vs → ∀ j u, vs[j]? = some u → cellK K b (o + j) = some u
 | [], o, h, j, u, hu => by simp at hu
 | v :: vs, o, h, 0, u, hu => by simp at hu; subst hu; exact h.1
 | v :: vs, o, h, j + 1, u, hu => by
   have := Cells.at h.2 j u (by simpa using hu)
   rw [← this]; congr 1; omega
theorem Row.form : ∀ h, Row K e t v xs h → ∃ ad cap, v = .slice ad xs.length cap ∧ xs.length ≤ cap ∧ cap ≤ maxLen ∧ (xs ≠ [] → ∃ g, ad = some ⟨g, 0, none⟩) := by
 rintro h ⟨cs, h1, h2, h3⟩
 rcases h3 with ⟨h3, h4, _⟩ | ⟨g, cap, cur, h3, _, h4, h5, _⟩
 · exact ⟨none, 0, h3, by omega, by simp, fun hne => absurd (List.length_eq_zero_iff.1 h4) hne⟩
 · exact ⟨_, cap, h3, h4, h5, fun _ => ⟨g, rfl⟩⟩
theorem Row.nil : Row K e t (.slice none 0 0) [] Hp.nil := ⟨[], rfl, by simp, .inl ⟨rfl, rfl, rfl⟩⟩
theorem Sep.rowNil (h : Sep E K L w) : Sep E K (Row Hp.nil e t (.slice none 0 0) [] :: L) w := h.emp.mono (fun h e => by obtain rfl : h = Hp.nil := e; exact Row.nil)
theorem Rw.cells {k n : Nat} {cs : List Value} {K0 : Hp} (h : Rw e k v n cs K0) : ∀ i u, cs[i]? = some u → ∃ g cap, v = .slice (some ⟨g, 0, none⟩) n cap ∧ cellK K0 g i = some u := by
 intro i u hu
 obtain ⟨hl, h⟩ := h
 have hi : i < cs.length := (List.getElem?_eq_some_iff.1 hu).1
 rcases h with ⟨_, h0, _⟩ | ⟨g, cap, cur, rfl, rfl, hn, hm, hs, ht⟩
 · rw [h0, Nat.zero_mul] at hl; omega
 · refine ⟨g, cap, rfl, ?_⟩
   simp only [cellK, one, if_true]
   rw [← ht, List.getElem?_take] at hu
   split at hu
   · simpa using hu
   · cases hu
theorem Row.is {K0 : Hp} (h : Row K e t v xs K0) (k1 : K.le K') (k2 : K0.le K') (h0 : 0 < t.size) : Is K' (.sl t) [v] xs := by
 obtain ⟨ad, cap, rfl, h1, h2, h3⟩ := Row.form K0 h
 obtain ⟨cs, h4, h5⟩ := h
 simp only [Is]
 refine ⟨ad, cap, rfl, h1, h2, fun hne => ?_⟩
 obtain ⟨g, rfl⟩ := h3 hne
 refine ⟨g, 0, rfl, fun k x hx => ?_⟩
 obtain ⟨es, hl, hi, hc⟩ := h4.get k x hx
 refine ⟨es, hl, hi.mono k1, fun j hj => ?_⟩
 have := hc j hj
 rw [List.getElem?_eq_getElem (show j < es.length by omega)] at this ⊢
 obtain ⟨g', cap', hv, hcell⟩ := h5.cells _ _ this
 simp at hv
 obtain ⟨rfl, rfl⟩ := hv
 rw [Nat.zero_add]
 exact cellK_le k2 hcell
theorem Sep.persist {K0 : Hp} (hs : Sep E K (Row K0 e t v xs :: L) w) (k : K0.le K) (h0 : 0 < t.size) : ∃ K', K.le K' ∧ Is K' (.sl t) [v] xs ∧ Sep E K' L w := by
 obtain ⟨h, ha, hd, hs⟩ := hs
 refine ⟨K.join h, Hp.le_join K h, ?_, hs⟩
 exact Row.is ha (k.trans (Hp.le_join K h)) (fun n o e => Hp.join_right e (hd n o e)) h0
theorem Sep.persistCl {b : Nat} {cs : List Value} (hs : Sep E K (Cl b e cs :: L) w) : ∃ K', K.le K' ∧ (∀ i u, cs[i]? = some u → cellK K' b i = some u) ∧ Sep E K' L w := by
 obtain ⟨h, rfl, hd, hs⟩ := hs
 refine ⟨_, Hp.le_join K _, fun i u hu => ?_, hs⟩
 have : K.join (one b (.cells cs.toArray e (0, 0))) b = some (.cells cs.toArray e (0, 0)) := Hp.join_right (by simp [one]) (hd b (.cells cs.toArray e (0, 0)) (by simp [one]))
 simp [cellK, this, hu]
end
section
variable {P : Program} {E : En} {n : Nat} {C : World → Prop} {ρ : Sl0} {K : Hp} {R L : List Atom} {d : Option Nat} {t : TypeId} {pos : String} {af : Array Edge} {g : Option (Nat × Bool)} {x y c : Operand} {u v : Value}
def Rd (C : World → Prop) (b o : Nat) (v : Value) : Prop := ∀ w, C w → w.cell? ⟨b, o, none⟩ = some v
theorem Rd.k {b o : Nat} {v : Value} {K0 : Hp} (h : cellK K0 b o = some v) (k : K0.le K) : Rd (Hold E K R) b o v := fun w ⟨K', L', h1, h2⟩ => cellK_world ((k.trans h1).trans h2.sub) h
theorem Rd.cl (i : Nat) {b o : Nat} {e : TypeId} {cs : List Value} {v : Value} (hi : R[i]? = some (Cl b e cs)) (hc : cs[o]? = some v) : Rd (Hold E K R) b o v := fun w ⟨K', L', h1, h2⟩ => by
 have h3 := Sep.front i (A := Cl b e cs) (by rw [List.getElem?_append_left (List.getElem?_eq_some_iff.1 hi).1]; exact hi) h2
 have h4 := h3.cl
 simp [World.cell?, h4, hc]
theorem Rd.row (i : Nat) {b o : Nat} {e : TypeId} {s : Tp} {K0 : Hp} {ad : Option Addr} {m cap : Nat} {xs : List s.den} (hi : R[i]? = some (Row K0 e s (.slice ad m cap) xs)) (he : ad = some ⟨b, 0, none⟩) {j : Nat} {x : s.den} (hx : xs[j]? = some x) {q : Nat} (hq : o = j * s.size + q) (hj : q < s.size)
   (k : ∀ es, Is K0 s es x → es[q]? = some v) : Rd (Hold E K R) b o v := fun w ⟨K', L', h1, h2⟩ => by
 subst he
 obtain ⟨h, ⟨cs, h3, h4⟩, h5, h6⟩ := Sep.front i (by rw [List.getElem?_append_left (List.getElem?_eq_some_iff.1 hi).1]; exact hi) h2
 obtain ⟨es, h7, h8, h9⟩ := h3.get j x hx
 have h10 := h9 q hj
 rw [k es h8] at h10
 obtain ⟨g, cap', hv, hcell⟩ := h4.cells _ _ h10
 simp at hv
 obtain ⟨rfl, _, _⟩ := hv
 subst hq
 refine cellK_world h6.sub (cellK_le (fun n o e => Hp.join_right e (h5 n o e)) hcell)
theorem notAgg_int {P : Program} {t : TypeId} {k : IntKind} (h : P.underlying t = some (.int k)) : (P.underlying t).any (fun d => match d with | .struct _ | .array _ _ => true | _ => false) = false := by rw [h]; rfl
def scalar (P : Program) (t : TypeId) : Bool := match P.underlying t with | some (.struct _) | some (.array _ _) | none => false | _ => true
theorem run_isAgg {P : Program} {t : TypeId} (w : World) (h : scalar P t = true) : (isAgg t).run P w = .ok false w := by
 unfold scalar at h
 cases ht : P.underlying t with
 | none => rw [ht] at h; simp at h
 | some dsc => rw [ht] at h; simp [isAgg, run_underlying ht]; cases dsc <;> simp_all
theorem run_load' {P : Program} {w : World} {a : Addr} {v : Value} (h : w.cell? a = some v) : (load a).run P w = .ok v w := by simp [run_load, h]
theorem V.load {b o : Nat} (ht : scalar P t = true) (hx : ev n ρ x = .pointer (some ⟨b, o, none⟩)) (h : Rd C b o v) {ty : TypeId} : Val P n C ρ ⟨d, .load t x, ty, pos, af, g⟩ v := fun w hw => by
 have hc := h w hw
 simp [execOp, hx, Instr.loadAt, Instr.sureAddr, loadVar, run_isAgg w ht, hc]
theorem V.loadA {fs : Array Field} {b o : Nat} {cs : List Value} {sz : Nat} (ht : P.underlying t = some (.struct fs)) (hz : (P.info? t).map (·.size) = some sz) (hx : ev n ρ x = .pointer (some ⟨b, o, none⟩)) (hl : cs.length = sz) (h : ∀ j u, cs[j]? = some u → Rd C b (o + j) u) {ty : TypeId} :
   Val P n C ρ ⟨d, .load t x, ty, pos, af, g⟩ (.agg cs.toArray) := fun w hw => by
 cases hi : P.info? t with
 | none => rw [hi] at hz; simp at hz
 | some i' =>
   rw [hi] at hz
   simp at hz
   have h2 := run_loadCells_list (P := P) w ⟨b, o, none⟩ cs (fun j u hu => by rw [addr_add]; exact h j u hu w hw)
   have h3 : (isAgg t).run P w = .ok true w := by simp [isAgg, run_underlying ht]
   rw [hl] at h2
   simp [execOp, hx, Instr.loadAt, Instr.sureAddr, loadVar, h3, sizeOf, typeInfo, hi, hz, h2]
end
end
section
def Inf (P : Program) (e : TypeId) (z : Value) (size bytes : Nat) : Prop := (P.info? e).map (fun i => (i.zero, i.size, i.bytes)) = some (some z, size, bytes)
theorem Inf.open {P : Program} {e : TypeId} {z : Value} {size bytes : Nat} (h : Inf P e z size bytes) : ∃ i, P.info? e = some i ∧ i.zero = some z ∧ i.size = size ∧ i.bytes = bytes := by
 unfold Inf at h
 cases hi : P.info? e with
 | none => rw [hi] at h; simp at h
 | some i => rw [hi] at h; simp at h; exact ⟨i, rfl, h⟩
theorem Is.one' {K : Hp} : ∀ {t : Tp} {cs : List Value} {d : t.den}, Is K t cs d → ∀ u ∈ cs, u.oneCell' = true
 | .int _, cs, d, h => by simp only [Is] at h; subst h; intro u hu; simp at hu; subst hu; rfl
 | .bool, cs, d, h => by simp only [Is] at h; subst h; intro u hu; simp at hu; subst hu; rfl
 | .str, cs, d, h => by simp only [Is] at h; subst h; intro u hu; simp at hu; subst hu; rfl
 | .sl e, cs, d, h => by simp only [Is] at h; obtain ⟨_, _, rfl, _⟩ := h; intro u hu; simp at hu; subst hu; rfl
 | .ptr e, cs, d, h => by simp only [Is] at h; rcases h with ⟨_, rfl⟩ | ⟨_, _, _, _, rfl, _⟩ <;> (intro u hu; simp at hu; subst hu; rfl)
 | .emp, cs, d, h => by simp only [Is] at h; subst h; intro u hu; simp at hu
 | .one a, cs, d, h => Is.one' (t := a) (by simpa only [Is] using h)
 | .cons a r, cs, d, h => by
   simp only [Is] at h
   obtain ⟨c1, c2, rfl, h1, h2, h3⟩ := h
   intro u hu
   rcases List.mem_append.1 hu with hu | hu
   · exact Is.one' h2 u hu
   · exact Is.one' h3 u hu
theorem Els.one' {K : Hp} {t : Tp} : ∀ {xs : List t.den} {cs : List Value}, Els K t cs xs → ∀ u ∈ cs, u.oneCell' = true
 | [], cs, h => by subst h; intro u hu; simp at hu
 | x :: xs, cs, h => by
   obtain ⟨es, r, rfl, h1, h2⟩ := h
   intro u hu
   rcases List.mem_append.1 hu with hu | hu
   · exact h1.one' u hu
   · exact Els.one' h2 u hu
section
variable {E : En} {L : List Atom} {K : Hp} {w : World}
theorem one_of (b : Nat) (o : Obj) : one b o b = some o := by simp [one]
theorem Sep.setRow {b : Nat} {t : TypeId} {cs : List Value} (h : Sep E K (Cl b t cs :: L) w) (ds : List Value) : Sep E K (Cl b t ds :: L) (w.setRow b ds.toArray) := by
 have hb := h.cl
 refine Sep.turn h (fun e => e) (fun h0 ha _ => ?_)
 obtain rfl : h0 = _ := ha
 refine ⟨_, rfl, fun n o e => ?_, fun n o e h1 => ?_⟩
 · obtain ⟨rfl, rfl⟩ := one_some e
   exact ⟨setRow_heap w n _ _ t (0, 0) hb, fun h => by rw [one_of] at h; cases h⟩
 · have hn : n ≠ b := fun e => by subst e; rw [one_of] at h1; cases h1
   rw [setRow_other w b n _ hn]; exact e
end
def setAll : List Value → Nat → List Value → List Value
 | cs, _, [] => cs
 | cs, o, v :: vs => setAll (cs.set o v) (o + 1) vs
def fillL (place : Nat → Option (Nat × Nat)) : List Value → List (Nat × Value) → Option (List Value)
 | cs, [] => some cs
 | cs, (i, v) :: r => match place i with
   | none => none
   | some (off, size) => bif Nat.beq v.cells.toList.length size && Nat.ble (off + v.cells.toList.length) cs.length then fillL place (setAll cs off v.cells.toList) r else none
theorem fillL_mono {f g : Nat → Option (Nat × Nat)} (h : ∀ i p, f i = some p → g i = some p) : ∀ {l : List (Nat × Value)} {z cs : List Value}, fillL f z l = some cs → fillL g z l = some cs
 | [], z, cs, e => e
 | (i, v) :: r, z, cs, e => by
   unfold fillL at e ⊢
   cases hf : f i with
   | none => rw [hf] at e; cases e
   | some p =>
     rw [hf] at e
     rw [h i p hf]
     dsimp only at e ⊢
     cases hb : Nat.beq v.cells.toList.length p.snd && Nat.ble (p.fst + v.cells.toList.length) z.length with
     | false => rw [hb] at e; cases e
     | true => rw [hb] at e; exact fillL_mono h e
theorem setAll_foldl (off : Nat) : ∀ (vs : List Value) (k : Nat) (cells : Array Value), ((vs.zipIdx k).foldl (fun cs x => cs.setIfInBounds (off + x.2) x.1) cells).toList = setAll cells.toList (off + k) vs
 | [], k, cells => rfl
 | v :: vs, k, cells => by
   rw [List.zipIdx_cons, List.foldl_cons, setAll_foldl off vs (k + 1)]
   simp [setAll, Nat.add_assoc]
theorem fill_of {place : Nat → Option (Nat × Nat)} : ∀ {parts : List (Nat × Value)} {cells : Array Value} {ds : List Value}, fillL place cells.toList parts = some ds → Instr.fill place cells parts = some ds.toArray
 | [], cells, ds, h => by
   unfold fillL at h
   cases h
   unfold Instr.fill; simp
 | (i, v) :: r, cells, ds, h => by
   unfold fillL at h
   unfold Instr.fill
   cases hp : place i with
   | none => rw [hp] at h; cases h
   | some q =>
     obtain ⟨off, size⟩ := q
     rw [hp] at h
     simp only at h ⊢
     cases hb : (Nat.beq v.cells.toList.length size && Nat.ble (off + v.cells.toList.length) cells.toList.length) with
     | false => rw [hb] at h; cases h
     | true =>
       rw [hb] at h
       simp only [cond_true] at h
       rw [Bool.and_eq_true] at hb
       have h1 := Nat.eq_of_beq_eq_true hb.1
       have h2 := Nat.le_of_ble_eq_true hb.2
       simp only [Array.length_toList] at h1 h2
       have hn : ¬ ((decide (v.cells.size ≠ size) || decide (off + v.cells.size > cells.size)) = true) := by simp; omega
       rw [if_neg hn]
       apply fill_of
       have e : (Array.foldl (fun cs (x : Value × Nat) => cs.setIfInBounds (off + x.2) x.1) cells v.cells.zipIdx).toList = setAll cells.toList off v.cells.toList := by
         rw [← Array.foldl_toList, Array.toList_zipIdx]
         exact setAll_foldl off v.cells.toList 0 cells
       rw [e]
       exact h
def zrow : Nat → List Value → List Value
 | 0, _ => []
 | n + 1, z => z ++ zrow n z
theorem zrow_len (z : List Value) : ∀ n, (zrow n z).length = n * z.length
 | 0 => by simp [zrow]
 | n + 1 => by simp [zrow, zrow_len z n, Nat.succ_mul]; omega
theorem zrow_get (z : List Value) (hz : 0 < z.length) : ∀ (n i : Nat), i < n * z.length → (zrow n z)[i]? = z[i % z.length]?
 | 0, i, h => by simp at h
 | n + 1, i, h => by
   unfold zrow
   rw [Nat.succ_mul] at h
   rcases Nat.lt_or_ge i z.length with hi | hi
   · rw [List.getElem?_append_left hi, Nat.mod_eq_of_lt hi]
   · rw [List.getElem?_append_right hi, zrow_get z hz n (i - z.length) (by omega), Nat.mod_eq_sub_mod hi]
theorem zrow_eq (z : Array Value) (hz : 0 < z.size) (n : Nat) : (Array.range (n * z.size)).map (z[· % z.size]!) = (zrow n z.toList).toArray := by
 have hl : (zrow n z.toList).length = n * z.size := by rw [zrow_len, Array.length_toList]
 apply Array.ext
 · simp [hl]
 · intro i h1 h2
   simp at h1
   have h3 := zrow_get z.toList (by simpa using hz) n i (by simpa using h1)
   have hm : i % z.size < z.size := Nat.mod_lt _ hz
   simp only [Array.length_toList, Array.getElem?_toList, Array.getElem?_eq_getElem hm, List.getElem?_eq_getElem (show i < (zrow n z.toList).length by omega)] at h3
   simp only [Array.getElem_map, Array.getElem_range, List.getElem_toArray]
   rw [getElem!_pos z (i % z.size) hm]
   exact (Option.some.inj h3).symm
section
variable {P : Program} {E : En} {n : Nat} {ρ : Sl0} {K : Hp} {L : List Atom} {d : Nat} {t : TypeId} {pos : String} {af : Array Edge} {g : Option (Nat × Bool)} {x y c : Operand} {u v : Value}
theorem Ao.of {o : Oper} {N : Sl0 → Hp → List Atom → Prop} (ho : o.dst = some d) (h : ∀ w, Sep E K L w → ∃ v w' K' L', (execOp (ev n ρ) o).run P w = .ok (.value v) w' ∧ Sep E K' L' w' ∧ N (upd ρ d v) K' L') : Ao P E n o ρ K L N := by
 refine ⟨fun w hs X Q hX => ?_⟩
 obtain ⟨v, w', K', L', h1, h2, h3⟩ := h w hs
 unfold Oper.wp
 rw [eval_act, h1, Oper.upon_value, ho, put_act]
 exact hX _ _ _ _ h3 h2
theorem A.alloc {e : TypeId} {z : Value} {sz bt : Nat} {cs : List Value} (hi : Inf P e z sz bt) (hcs : z.cells.toList = cs) : Ao P E n ⟨some d, .alloc e, t, pos, af, g⟩ ρ K L (fun ρ' K' L' => ∃ b, ρ' = upd ρ d (.pointer (some ⟨b, 0, none⟩)) ∧ K = K' ∧ L' = Cl b e cs :: L) :=
 Ao.of rfl (fun w hs => by
   subst hcs
   obtain ⟨i, h1, h2, _, _⟩ := hi.open
   refine ⟨_, _, K, _, ?_, Sep.alloc hs e z.cells, w.heap.size, rfl, rfl, rfl⟩
   simp [execOp, Instr.alloc, zeroValue, typeInfo, h1, h2, newVar, newRow])
theorem A.box {e : TypeId} {cs : List Value} (hx : ev n ρ x = v) (hcs : v.cells.toList = cs) : Ao P E n ⟨some d, .box e x, t, pos, af, g⟩ ρ K L (fun ρ' K' L' => ∃ b, ρ' = upd ρ d (.pointer (some ⟨b, 0, none⟩)) ∧ K = K' ∧ L' = Cl b e cs :: L) :=
 Ao.of rfl (fun w hs => by
   subst hcs
   refine ⟨_, _, K, _, ?_, Sep.alloc hs e v.cells, w.heap.size, rfl, rfl, rfl⟩
   simp [execOp, Instr.box, hx, newVar, newRow])
theorem Ao.ofU {o : Oper} {N : Sl0 → Hp → List Atom → Prop} (ho : o.dst = none) (h : ∀ w, Sep E K L w → ∃ w' K' L', (execOp (ev n ρ) o).run P w = .ok .skip w' ∧ Sep E K' L' w' ∧ N ρ K' L') : Ao P E n o ρ K L N := by
 refine ⟨fun w hs X Q hX => ?_⟩
 obtain ⟨w', K', L', h1, h2, h3⟩ := h w hs
 unfold Oper.wp
 rw [eval_act, h1, Oper.upon_skip, ho]
 exact hX _ _ _ _ h3 h2
theorem A.store {s e : TypeId} {b o sz : Nat} {cs : List Value} (hz : (P.info? s).map (·.size) = some sz) (hx : ev n ρ x = .pointer (some ⟨b, o, none⟩)) (hy : ev n ρ y = v) (hl : v.cells.size = sz) (hl2' : Nat.ble (o + sz) cs.length = true) (h1' : v.cells.toList.all (fun u => u.oneCell') = true) {cs' : List Value} (hcs : cs.take o ++ v.cells.toList ++ cs.drop (o + sz) = cs') :
   Ao P E n ⟨none, .store s x y, t, pos, af, g⟩ ρ K (Cl b e cs :: L) (fun ρ' K' L' => ρ = ρ' ∧ K = K' ∧ L' = Cl b e cs' :: L) := by
 subst hcs
 have hl2 := Nat.le_of_ble_eq_true hl2'
 have h1 : ∀ u ∈ v.cells.toList, u.oneCell' = true := List.all_eq_true.1 h1'
 exact Ao.ofU rfl (fun w hs => by
   refine ⟨_, K, _, ?_, Sep.setRow hs _, rfl, rfl, rfl⟩
   cases hi : P.info? s with
   | none => rw [hi] at hz; simp at hz
   | some i' =>
     rw [hi] at hz
     simp at hz
     have h2 := run_storeCells_at P b o e v.cells.toList 0 cs.toArray w hs.cl (by simp [hl]; omega) h1
     simp only [Nat.add_zero, Array.length_toList, hl] at h2
     simp [execOp, hx, hy, Instr.storeAt, Instr.sureAddr, storeVar, sizeOf, typeInfo, hi, hz, hl, h2])
theorem A.store1 {s e : TypeId} {b o : Nat} {cs : List Value} (hz : (P.info? s).map (·.size) = some 1) (hx : ev n ρ x = .pointer (some ⟨b, o, none⟩)) (hy : ev n ρ y = v) (hl : v.cells = #[v]) (h1 : v.oneCell' = true) (hl2 : Nat.blt o cs.length = true) {cs' : List Value} (hcs : cs.set o v = cs') :
   Ao P E n ⟨none, .store s x y, t, pos, af, g⟩ ρ K (Cl b e cs :: L) (fun ρ' K' L' => ρ = ρ' ∧ K = K' ∧ L' = Cl b e cs' :: L) := by
 subst hcs
 rw [Nat.blt_eq] at hl2
 have h := A.store (P := P) (E := E) (n := n) (ρ := ρ) (K := K) (L := L) (t := t) (pos := pos) (af := af) (g := g) (e := e) (cs := cs) hz hx hy (by rw [hl]; rfl) (Nat.ble_eq_true_of_le (by omega)) (by rw [hl]; simp [h1]) rfl
 have e : cs.take o ++ v.cells.toList ++ cs.drop (o + 1) = cs.set o v := by
   rw [hl, List.set_eq_take_append_cons_drop, if_pos hl2]; simp
 rw [e] at h
 exact h
theorem A.storeR {s e : TypeId} {ad : Option Addr} {b q j m cap : Nat} {K0 : Hp} {ty : Tp} {xs : List ty.den} {x0 y0 : ty.den} {o : Nat} (hz : (P.info? s).map (·.size) = some 1) (hx : ev n ρ x = .pointer (some ⟨b, o, none⟩)) (hy : ev n ρ y = v) (hl : v.cells = #[v]) (h1 : v.oneCell' = true) (he : ad = some ⟨b, 0, none⟩)
   (hj : xs[j]? = some x0) (ho : o = j * ty.size + q) (hq : q < ty.size) (hs : ∀ es, Is K0 ty es x0 → Is K0 ty (es.set q v) y0) {zs : List ty.den} (hz : xs.set j y0 = zs) :
   Ao P E n ⟨none, .store s x y, t, pos, af, g⟩ ρ K (Row K0 e ty (.slice ad m cap) xs :: L) (fun ρ' K' L' => ρ = ρ' ∧ K = K' ∧ L' = Row K0 e ty (.slice ad m cap) zs :: L) :=
 Ao.ofU rfl (fun w hsep => by
   subst hz
   subst he
   obtain ⟨h, ⟨cs, h2, hlen, h3⟩, hd, hs2⟩ := hsep
   rcases h3 with ⟨h3, _⟩ | ⟨gb, cp, cur, h3, rfl, h4, h5, h6, h7⟩
   · cases h3
   simp only [Value.slice.injEq, Option.some.injEq, Addr.mk.injEq, and_true] at h3
   obtain ⟨rfl, hm, rfl⟩ := h3
   have hblk : w.heap[b]? = some (.cells cur e (0, 0)) := hs2.sub b _ (Hp.join_right (one_of b _) (hd b _ (one_of b _)))
   have hjx : j < xs.length := (List.getElem?_eq_some_iff.1 hj).1
   have hle : (j + 1) * ty.size ≤ xs.length * ty.size := Nat.mul_le_mul_right _ (by omega)
   have hle2 : xs.length * ty.size ≤ cap * ty.size := Nat.mul_le_mul_right _ (by omega)
   rw [Nat.succ_mul] at hle
   have hoc : o < cur.size := by omega
   refine ⟨w.setRow b (cur.set o v hoc), K, _, ?_, ?_, rfl, rfl, rfl⟩
   · cases hi : P.info? s with
     | none => rw [hi] at hz; simp at hz
     | some i' =>
       rw [hi] at hz
       simp at hz
       have h8 := run_storeCells_at P b o e [v] 0 cur w hblk (by simp; omega) (by intro u hu; simp at hu; subst hu; exact h1)
       have h9 : (cur.toList.take o ++ [v] ++ cur.toList.drop (o + 1)).toArray = cur.set o v hoc := by
         apply Array.ext'
         rw [Array.toList_set, List.set_eq_take_append_cons_drop, if_pos (by simpa using hoc)]
         simp
       simp only [Nat.add_zero, List.length_cons, List.length_nil, Nat.zero_add] at h8
       rw [h9] at h8
       simp [execOp, hx, hy, Instr.storeAt, Instr.sureAddr, storeVar, sizeOf, typeInfo, hi, hz, hl, h8]
   · refine Sep.turn (A := fun h => h = one b (.cells cur e (0, 0))) ⟨_, rfl, hd, hs2⟩ (fun e => e) (fun h0 ha _ => ?_)
     obtain rfl : h0 = _ := ha
     refine ⟨one b (.cells (cur.set o v hoc) e (0, 0)), ⟨cs.set o v, ?_, by simp [hlen], .inr ⟨b, cap, _, by simp [hm], rfl, by simpa using h4, h5, by simpa using h6, ?_⟩⟩, fun n o' e' => ?_, fun n o' e' h1 => ?_⟩
     · rw [ho]; exact h2.set j x0 y0 hj q v hq hs
     · rw [List.length_set, Array.toList_set, List.take_set, h7]
     · obtain ⟨rfl, rfl⟩ := one_some e'
       exact ⟨setRow_heap w n _ _ e (0, 0) hblk, fun h => by rw [one_of] at h; cases h⟩
     · have hn : n ≠ b := fun e => by subst e; rw [one_of] at h1; cases h1
       rw [setRow_other w b n _ hn]; exact e')
theorem A.lit {s e : TypeId} {z : Value} {sz bt len : Nat} {parts : Array (Nat × Operand)} {cs0 : List Value} {K0 : Hp} {ty : Tp} {xs : List ty.den} (hs : P.underlying s = some (.slice e)) (hi : Inf P e z sz bt) (hty : ty.size = sz) (hbig : len * sz ≤ 16777216)
   (hzs : z.cells.size = sz) (hc0 : fillL (fun i => some (i * sz, sz)) (zrow len z.cells.toList) (parts.toList.map fun (i, x) => (i, ev n ρ x)) = some cs0) (hcs0 : cs0.length = len * sz) (he0 : Els K0 ty cs0 xs) (hlen : xs.length = len) (hpos : 0 < sz) :
   Ao P E n ⟨some d, .buildSlice s len parts, t, pos, af, g⟩ ρ K L (fun ρ' K' L' => ∃ b, ρ' = upd ρ d (.slice (some ⟨b, 0, none⟩) xs.length len) ∧ K = K' ∧ L' = Row K0 e ty (.slice (some ⟨b, 0, none⟩) xs.length len) xs :: L) :=
 Ao.of rfl (fun w hsep => by
   obtain ⟨i, h1, h2, h3, _⟩ := hi.open
   obtain ⟨cs, hcs', hcs, he⟩ : ∃ cs : Array Value, cs = cs0.toArray ∧ cs.size = len * sz ∧ Els K0 ty cs.toList xs := ⟨_, rfl, by simpa using hcs0, by simpa using he0⟩
   have hc : Instr.fill (fun i => some (i * sz, sz)) ((Array.range (len * sz)).map (z.cells[· % z.cells.size]!)) (parts.map fun (i, x) => (i, ev n ρ x)).toList = some cs := by
     have e := zrow_eq z.cells (by omega) len
     rw [hzs] at e
     simp only [hzs]
     rw [e, hcs']
     apply fill_of
     simpa using hc0
   refine ⟨.slice (some ⟨w.heap.size, 0, none⟩) xs.length len, _, K, _, ?_, (Sep.alloc hsep e cs).mono (fun h hh => ?_), w.heap.size, rfl, rfl, rfl⟩
   · have hb : ¬ (2 ^ 24 < len * sz) := by omega
     by_cases h0 : len * sz = 0
     · have hl0 : len = 0 := by rcases Nat.mul_eq_zero.1 h0 with h | h <;> omega
       subst hl0
       simp only [Nat.zero_mul] at hc
       have : Instr.fill (fun i => some (i * sz, sz)) #[] (List.map (fun x => (x.1, ev n ρ x.2)) parts.toList) = some cs := by simpa [Array.range] using hc
       simp [execOp, Instr.buildSlice, run_underlying hs, sizeOf, typeInfo, h1, h3, newRow, hlen, this, (show Array.range 0 = #[] from rfl)]
     · have hc' : Instr.fill (fun i => some (i * sz, sz)) ((Array.range (len * sz)).map (z.cells[· % z.cells.size]!)) (List.map (fun x => (x.1, ev n ρ x.2)) parts.toList) = some cs := by simpa using hc
       have hm : len ≠ 0 ∧ sz ≠ 0 := ⟨fun h => h0 (by simp [h]), fun h => h0 (by simp [h])⟩
       simp [execOp, Instr.buildSlice, run_underlying hs, sizeOf, typeInfo, h1, h2, h3, zeroValue, newRow, hlen, hb, hc']
       try (intro h; exact absurd h h0)
   · obtain rfl : h = _ := hh
     exact ⟨cs.toList, he, by simp [hcs, hlen, hty], .inr ⟨w.heap.size, len, cs, rfl, by simp, by omega, by unfold maxLen; have : len ≤ len * sz := Nat.le_mul_of_pos_right _ hpos; omega, by rw [hcs, hty], by rw [hlen, hty, ← hcs, ← Array.length_toList, List.take_length]⟩⟩)
end
end
section
section
variable {E : En} {L : List Atom} {K : Hp} {w : World}
theorem Rw.owns {e : TypeId} {k n : Nat} {v : Value} {cs : List Value} {h : Hp} (hr : Rw e k v n cs h) (hle : h.le (Hp.of w)) : w.ownsRow 0 e k v n cs := by
 obtain ⟨h1, h2⟩ := hr
 refine ⟨h1, ?_⟩
 rcases h2 with ⟨rfl, rfl, _⟩ | ⟨g, cap, cur, rfl, rfl, h3, h4, h5, h6⟩
 · exact .inl ⟨rfl, rfl⟩
 · exact .inr ⟨g, cap, cur, rfl, Nat.zero_le _, hle g _ (one_of g _), h3, h4, h5, h6⟩
theorem Rw.block {e : TypeId} {k n : Nat} {v : Value} {cs : List Value} {h : Hp} (hr : Rw e k v n cs h) (b : Nat) : h b = none ↔ v.ownBlock ≠ some b := by
 obtain ⟨h1, h2⟩ := hr
 rcases h2 with ⟨rfl, rfl, rfl⟩ | ⟨g, cap, cur, rfl, rfl, h3, h4, h5, h6⟩
 · simp [Hp.nil, Value.ownBlock]
 · simp only [one, Value.ownBlock, ne_eq, Option.some.injEq]
   constructor
   · intro h e; subst e; simp at h
   · intro h; rw [if_neg (fun e => h e.symm)]
theorem Sep.grown {e : TypeId} {t : Tp} {v v' : Value} {xs zs : List t.den} {K0 K1 : Hp} {w' : World} {cs' : List Value} {m : Nat} (hs : Sep E K (Row K0 e t v xs :: L) w) (hn : m = zs.length)
   (ho : w'.ownsRow 0 e t.size v' m cs') (hz : Els K1 t cs' zs) (hg : w.grownBy w' v.ownBlock) (hb : v'.ownBlock = v.ownBlock ∨ v'.ownBlock = some w.heap.size) : Sep E K (Row K1 e t v' zs :: L) w' := by
 subst hn
 refine Sep.turn hs (fun he => ⟨hg.os.trans he.1, hg.tape.trans he.2.1, hg.output.trans he.2.2⟩) (fun h ⟨cs, h1, h2⟩ hle => ?_)
 have hkeep : ∀ n o, w.heap[n]? = some o → h n = none → w'.heap[n]? = some o := fun n o e hn => by
   rw [hg.block n (lt_of_block e) (fun e' => (h2.block n).1 hn e'.symm)]; exact e
 obtain ⟨h3, h4⟩ := ho
 rcases h4 with ⟨rfl, h4⟩ | ⟨g, cap, cur, rfl, _, h5, h6, h7, h8, h9⟩
 · exact ⟨Hp.nil, ⟨cs', hz, h3, .inl ⟨by rw [h4], h4, rfl⟩⟩, fun n o e => (by cases e), hkeep⟩
 · refine ⟨one g (.cells cur e (0, 0)), ⟨cs', hz, h3, .inr ⟨g, cap, cur, rfl, rfl, h6, h7, h8, h9⟩⟩, fun n o e' => ?_, hkeep⟩
   obtain ⟨rfl, rfl⟩ := one_some e'
   refine ⟨h5, fun hn => ?_⟩
   rcases hb with hb | hb
   · exact absurd hb.symm (by have := (h2.block n).1 hn; simpa [Value.ownBlock] using this)
   · simp [Value.ownBlock] at hb
     rw [hb]; exact Array.getElem?_eq_none (Nat.le_refl _)
end
theorem Is.nil_len {K : Hp} {t : Tp} {m cap : Nat} {l : List t.den} (h : Is K (.sl t) [.slice none m cap] l) : l = [] ∧ m = 0 := by
 simp only [Is] at h
 obtain ⟨ad, cap', h1, h2, h3, h4⟩ := h
 simp at h1
 obtain ⟨rfl, rfl, rfl⟩ := h1
 by_cases hl : l = []
 · exact ⟨hl, by rw [hl]; rfl⟩
 · obtain ⟨b, o, h5, _⟩ := h4 hl; cases h5
theorem Is.cells {K : Hp} {t : Tp} (h0 : 0 < t.size) {b : Addr} {m cap : Nat} : ∀ {l : List t.den}, Is K (.sl t) [.slice (some b) m cap] l → ∃ cs, Els K t cs l ∧ m = l.length ∧ ∀ w : World, K.le (Hp.of w) → ∀ j u, cs[j]? = some u → w.cell? (b.add j) = some u := by
 intro l h
 simp only [Is] at h
 obtain ⟨ad, cap', h1, h2, h3, h4⟩ := h
 simp only [List.cons.injEq, Value.slice.injEq, and_true] at h1
 obtain ⟨rfl, rfl, rfl⟩ := h1
 by_cases hl : l = []
 · subst hl
   exact ⟨[], rfl, rfl, fun w hw j u hu => by simp at hu⟩
 · obtain ⟨b', o, h5, h6⟩ := h4 hl
   simp only [Option.some.injEq] at h5
   subst h5
   have gen : ∀ (l : List t.den) (o : Nat), (∀ k x, l[k]? = some x → ∃ es, es.length = t.size ∧ Is K t es x ∧ ∀ j, j < t.size → cellK K b' (o + k * t.size + j) = es[j]?) →
       ∃ cs, Els K t cs l ∧ ∀ w : World, K.le (Hp.of w) → ∀ j u, cs[j]? = some u → w.cell? ⟨b', o + j, none⟩ = some u := by
     intro l
     induction l with
     | nil => exact fun o _ => ⟨[], rfl, fun w hw j u hu => by simp at hu⟩
     | cons x l ih =>
       intro o hh
       obtain ⟨es, hl1, hi1, hc1⟩ := hh 0 x rfl
       obtain ⟨cs, he, hc⟩ := ih (o + t.size) (fun k y hy => by
         obtain ⟨es', a1, a2, a3⟩ := hh (k + 1) y (by simpa using hy)
         refine ⟨es', a1, a2, fun j hj => ?_⟩
         rw [← a3 j hj]; congr 1; rw [Nat.succ_mul]; omega)
       refine ⟨es ++ cs, ⟨es, cs, rfl, hi1, he⟩, fun w hw j u hu => ?_⟩
       rcases Nat.lt_or_ge j t.size with hj | hj
       · rw [List.getElem?_append_left (by omega)] at hu
         have := hc1 j hj
         rw [hu, Nat.zero_mul, Nat.add_zero] at this
         exact cellK_world hw this
       · rw [List.getElem?_append_right (by omega)] at hu
         have := hc w hw _ u hu
         rw [← this]; congr 2; omega
   obtain ⟨cs, he, hc⟩ := gen l o h6
   exact ⟨cs, he, rfl, fun w hw j u hu => by rw [addr_add]; exact hc w hw j u hu⟩
section
variable {P : Program} {E : En} {n : Nat} {ρ : Sl0} {K : Hp} {L : List Atom} {d : Nat} {t : TypeId} {pos : String} {af : Array Edge} {g : Option (Nat × Bool)} {x y c : Operand} {u v : Value}
theorem run_append_none {w : World} {s e ty : TypeId} {z : Value} {sz bt : Nat} {k n : Nat} {cs : List Value} {v : Value} {cap : Nat} (hs : P.underlying s = some (.slice e)) (hi : Inf P e z sz bt) (ho : w.ownsRow 0 e k v n cs) :
   (Builtin.append_ #[s, s] ty #[v, .slice none 0 cap]).run P w = .ok v w := by
 obtain ⟨i, h1, h2, h3, _⟩ := hi.open
 rcases ho.2 with ⟨rfl, rfl⟩ | ⟨g, cp, cur, rfl, _, h5, h6, _⟩
 · simp [Builtin.append_, run_underlying hs, sizeOf, typeInfo, h1, Builtin.lenOf, Builtin.firstCells]
 · simp [Builtin.append_, run_underlying hs, sizeOf, typeInfo, h1, Builtin.lenOf, Builtin.firstCells, h6, storeCells]
theorem run_app {w : World} {s e ty : TypeId} {z : Value} {sz bt m cap : Nat} {ad : Option Addr} {v : Value} {N : Nat} {cs ds : List Value} (hs : P.underlying s = some (.slice e)) (hi : Inf P e z sz bt) (hzs : z.cells.size = sz) (hpos : 0 < sz) (hbt : bt ≤ 100000)
   (ho : w.ownsRow 0 e sz v N cs) (hm : ds.length = m * sz) (hd : ∀ b, ad = some b → ∀ j u, ds[j]? = some u → w.cell? (b.add j) = some u) (hn : ad = none → m = 0) (h1 : ∀ u ∈ ds, u.oneCell' = true) (hlen : N + m ≤ 1073741824) :
   ∃ v' w', (Builtin.append_ #[s, s] ty #[v, .slice ad m cap]).run P w = .ok v' w' ∧ w'.ownsRow 0 e sz v' (N + m) (cs ++ ds) ∧ w.grownBy w' v.ownBlock ∧ (v'.ownBlock = v.ownBlock ∨ v'.ownBlock = some w.heap.size) := by
 cases ad with
 | none =>
   obtain rfl := hn rfl
   obtain rfl : ds = [] := List.length_eq_zero_iff.1 (by simpa using hm)
   refine ⟨v, w, run_append_none (P := P) (ty := ty) (cap := cap) hs hi ho, by simpa using ho, ⟨rfl, rfl, rfl, Nat.le_refl _, fun _ _ _ => rfl⟩, .inl rfl⟩
 | some b =>
   obtain ⟨i, i1, i2, i3, i4⟩ := hi.open
   have hb : (N + m) * bt ≤ 1073741824 * 100000 := Nat.mul_le_mul hlen hbt
   obtain ⟨v', w', r1, r2, r3, _, r5⟩ := run_append_own_at (P := P) w 0 s ty e i z sz bt hs i1 i2 i3 i4 hzs hpos v N cs ho b m cap ds hm (hd b rfl) h1 (by unfold maxLen; omega) (by omega) (Nat.zero_le _)
   exact ⟨v', w', r1, r2, r3, r5⟩
theorem A.appP {s e : TypeId} {z : Value} {sz bt m cap : Nat} {K0 K1 : Hp} {ad : Option Addr} {ty : Tp} {xs ys : List ty.den} (hs : P.underlying s = some (.slice e)) (hi : Inf P e z sz bt) (hty : ty.size = sz) (hzs : z.cells.size = sz) (hpos : 0 < sz) (hbt : bt ≤ 100000)
   (hx : ev n ρ x = v) (hy : ev n ρ y = .slice ad m cap) (hys : Is K1 (.sl ty) [.slice ad m cap] ys) (hk1 : K1.le K) {Kr : Hp} (f0 : ∀ {xs cs}, Els K0 ty cs xs → Els Kr ty cs xs) (f1 : ∀ {xs cs}, Els K1 ty cs xs → Els Kr ty cs xs) {zs : List ty.den} (hz : Go.Proofs.YtmlbbjkojaljnaaDoor.app xs ys = some zs) :
   Ao P E n ⟨some d, .call ⟨.builtin .append, #[x, y], #[s, s]⟩, t, pos, af, g⟩ ρ K (Row K0 e ty v xs :: L) (fun ρ' K' L' => ∃ v', ρ' = upd ρ d v' ∧ K = K' ∧ L' = Row Kr e ty v' zs :: L) :=
 Ao.of rfl (fun w hsep => by
   obtain ⟨hlen, rfl⟩ := app_some hz
   have hsep' := hsep
   obtain ⟨h, ⟨cs, h1, h2⟩, h3, h4⟩ := hsep
   have hown := h2.owns (w := w) (fun n o e => h4.sub n o (Hp.join_right e (h3 n o e)))
   rw [hty] at hown
   have hds : ∃ ds, Els K1 ty ds ys ∧ m = ys.length ∧ ∀ b, ad = some b → ∀ j u, ds[j]? = some u → w.cell? (b.add j) = some u := by
     cases ad with
     | none =>
       obtain ⟨rfl, rfl⟩ := hys.nil_len
       exact ⟨[], rfl, rfl, fun b hb => by cases hb⟩
     | some b =>
       obtain ⟨ds, h5, h6, h7⟩ := hys.cells (by omega)
       exact ⟨ds, h5, h6, fun b' hb => by cases hb; exact h7 w (hk1.trans hsep'.sub)⟩
   obtain ⟨ds, h5, rfl, h7⟩ := hds
   obtain ⟨v', w', r1, r2, r3, r5⟩ := run_app (P := P) (w := w) (ty := t) (cap := cap) hs hi hzs hpos hbt hown (by rw [h5.len, hty]) h7 (fun e => by subst e; exact hys.nil_len.2) h5.one' hlen
   refine ⟨v', w', K, _, ?_, hsep'.grown (K1 := Kr) List.length_append.symm (by rw [hty]; exact r2) ((f0 h1).app (f1 h5)) r3 r5, v', rfl, rfl, rfl⟩
   simp [execOp, resolve, invoke, builtin, hx, hy, r1])
theorem A.appR {s e : TypeId} {z : Value} {sz bt : Nat} {K0 K1 : Hp} {ty : Tp} {xs ys : List ty.den} (hs : P.underlying s = some (.slice e)) (hi : Inf P e z sz bt) (hty : ty.size = sz) (hzs : z.cells.size = sz) (hpos : 0 < sz) (hbt : bt ≤ 100000)
   (hx : ev n ρ x = v) (hy : ev n ρ y = u) {Kr : Hp} (f0 : ∀ {xs cs}, Els K0 ty cs xs → Els Kr ty cs xs) (f1 : ∀ {xs cs}, Els K1 ty cs xs → Els Kr ty cs xs) {zs : List ty.den} (hz : Go.Proofs.YtmlbbjkojaljnaaDoor.app xs ys = some zs) :
   Ao P E n ⟨some d, .call ⟨.builtin .append, #[x, y], #[s, s]⟩, t, pos, af, g⟩ ρ K (Row K0 e ty v xs :: Row K1 e ty u ys :: L) (fun ρ' K' L' => ∃ v', ρ' = upd ρ d v' ∧ K = K' ∧ L' = Row Kr e ty v' zs :: L) :=
 Ao.of rfl (fun w hsep => by
   obtain ⟨hlen, rfl⟩ := app_some hz
   have hsep' := hsep
   obtain ⟨h0, hr0, hd0, hs0⟩ := hsep.swap
   obtain ⟨h, ⟨cs, h1, h2⟩, h3, h4⟩ := hsep
   have hown := h2.owns (w := w) (fun n o e => h4.sub n o (Hp.join_right e (h3 n o e)))
   rw [hty] at hown
   have hle0 : h0.le (Hp.of w) := fun n o e => hs0.sub n o (Hp.join_right e (hd0 n o e))
   obtain ⟨ad, cap, rfl, _⟩ := Row.form h0 hr0
   obtain ⟨ds, h5, h6⟩ := hr0
   have h7 : ∀ b, ad = some b → ∀ j u, ds[j]? = some u → w.cell? (b.add j) = some u := fun b hb j u hu => by
     obtain ⟨g, cap', hv, hc⟩ := h6.cells j u hu
     rw [hb] at hv
     simp only [Value.slice.injEq, Option.some.injEq] at hv
     rw [hv.1, addr_add, Nat.zero_add]
     exact cellK_world hle0 hc
   obtain ⟨v', w', r1, r2, r3, r5⟩ := run_app (P := P) (w := w) (ty := t) (cap := cap) hs hi hzs hpos hbt hown (by rw [h5.len, hty]) h7 (fun e => by
     subst e
     rcases h6.2 with ⟨_, h, _⟩ | ⟨g, cap', cur, hv, _⟩
     · exact h
     · cases hv) h5.one' hlen
   refine ⟨v', w', K, _, ?_, (hsep'.grown (K1 := Kr) List.length_append.symm (by rw [hty]; exact r2) ((f0 h1).app (f1 h5)) r3 r5).swap.drop, v', rfl, rfl, rfl⟩
   simp [execOp, resolve, invoke, builtin, hx, hy, r1])
def Tr (P : Program) (f : FuncId) (args : Array Value) (K : Hp) (L : List Atom) (R : Value → Hp → List Atom → Prop) : Prop :=
 ∀ E w F, Sep E K (L ++ F) w → Calls P f args w fun e w' => ∃ v K' L', e = .returned v ∧ R v K' L' ∧ K.le K' ∧ Sep E K' (L' ++ F) w'
theorem Tr.mono {f : FuncId} {args : Array Value} {L1 : List Atom} {R R' : Value → Hp → List Atom → Prop} (h : Tr P f args K L1 R) (k : ∀ v K' L', R v K' L' → R' v K' L') : Tr P f args K L1 R' := fun E w F hs =>
 (h E w F hs).mono (fun e w' ⟨v, K', L', h1, h2, h3, h4⟩ => ⟨v, K', L', h1, k _ _ _ h2, h3, h4⟩)
theorem A.call {f : FuncId} {xs : Array Operand} {ts : Array TypeId} {fo : Operand} {args caps : Array Value} {L1 : List Atom} {R : Value → Hp → List Atom → Prop} (hf : Enters P f) (hv : ev n ρ fo = .func (.func f) #[] caps) (h : Tr P f args K L1 R) (ha' : xs.toList.map (ev n ρ) ++ caps.toList = args.toList) {L0 : List Atom} (hL : L0 = L1 ++ L) :
   Ao P E n ⟨some d, .call ⟨.value fo, xs, ts⟩, t, pos, af, g⟩ ρ K L0 (fun ρ' K' L' => ∃ v L2, ρ' = upd ρ d v ∧ R v K' L2 ∧ K.le K' ∧ L2 ++ L = L') := by
 refine ⟨fun w hs X Q hX => ?_⟩
 subst hL
 have ha : xs.map (ev n ρ) ++ caps = args := Array.ext' (by simpa using ha')
 unfold Oper.wp
 have hr : (execOp (act n ρ).eval ⟨some d, .call ⟨.value fo, xs, ts⟩, t, pos, af, g⟩).run P w = .ok (.enter f args) w := by
   rw [eval_act]
   have := hf args w
   simp [execOp, resolve, Deferred.ofValue, hv, invoke, ha, this]
 rw [hr, Oper.upon_enter]
 refine (h E w L hs).mono ?_
 rintro e w' ⟨v, K', L', rfl, h1, h2, h3⟩
 show X _ _
 rw [put_act]
 exact hX _ _ _ _ ⟨v, L', rfl, h1, h2, rfl⟩ h3
theorem A.callU {f : FuncId} {xs : Array Operand} {ts : Array TypeId} {fo : Operand} {args caps : Array Value} {L1 : List Atom} {R : Value → Hp → List Atom → Prop} (hf : Enters P f) (hv : ev n ρ fo = .func (.func f) #[] caps) (h : Tr P f args K L1 R) (ha' : xs.toList.map (ev n ρ) ++ caps.toList = args.toList) {L0 : List Atom} (hL : L0 = L1 ++ L) :
   Ao P E n ⟨none, .call ⟨.value fo, xs, ts⟩, t, pos, af, g⟩ ρ K L0 (fun ρ' K' L' => ∃ v L2, ρ = ρ' ∧ R v K' L2 ∧ K.le K' ∧ L2 ++ L = L') := by
 refine ⟨fun w hs X Q hX => ?_⟩
 subst hL
 have ha : xs.map (ev n ρ) ++ caps = args := Array.ext' (by simpa using ha')
 unfold Oper.wp
 have hr : (execOp (act n ρ).eval ⟨none, .call ⟨.value fo, xs, ts⟩, t, pos, af, g⟩).run P w = .ok (.enter f args) w := by
   rw [eval_act]
   have := hf args w
   simp [execOp, resolve, Deferred.ofValue, hv, invoke, ha, this]
 rw [hr, Oper.upon_enter]
 refine (h E w L hs).mono ?_
 rintro e w' ⟨v, K', L', rfl, h1, h2, h3⟩
 exact hX _ _ _ _ ⟨v, L', rfl, h1, h2, rfl⟩ h3
theorem Tr.k {f : FuncId} {args : Array Value} {p : Value → List Atom → Prop} {L1 : List Atom} (h : Tr P f args K L1 (fun u _ L' => p u L')) : Tr P f args K L1 (fun u K' L' => p u L' ∧ K = K') := fun E w F hs =>
 (h E w F hs).mono (fun e w' ⟨v, K', L', h1, h2, h3, h4⟩ => ⟨v, K, L', h1, ⟨h2, rfl⟩, Hp.le_refl K, h4.weaken h3⟩)
theorem Tr.lend {f : FuncId} {args : Array Value} {K0 : Hp} {e : TypeId} {ty : Tp} {xs : List ty.den} {p : Value → List Atom → Prop} {L1 : List Atom} (hk : K0.le K) (h0 : 0 < ty.size) (h : ∀ K', K.le K' → Is K' (.sl ty) [v] xs → Tr P f args K' L1 (fun u K'' L' => p u L' ∧ K' = K'')) :
   Tr P f args K (Row K0 e ty v xs :: L1) (fun u K' L' => (∃ L2, p u L2 ∧ L' = Row K0 e ty v xs :: L2) ∧ K = K') := by
 intro E w F hs
 obtain ⟨h1, ha, hd, hs⟩ := hs
 refine (h _ (Hp.le_join K h1) (Row.is ha (hk.trans (Hp.le_join K h1)) (fun n o e => Hp.join_right e (hd n o e)) h0) E w F hs).mono ?_
 rintro e w' ⟨u, K', L', rfl, ⟨h2, rfl⟩, h3, h4⟩
 exact ⟨u, K, _, rfl, ⟨⟨L', h2, rfl⟩, rfl⟩, Hp.le_refl K, h1, ha, hd, h4⟩
end
end
section
section
variable {P : Program} {E : En} {n : Nat} {C : World → Prop} {Φ : Post} {ρ : Sl0} {K : Hp} {L R : List Atom} {v : Value}
def Ld (P : Program) (C : World → Prop) (t : TypeId) (b o : Nat) (v : Value) : Prop := ∀ w, C w → (loadVar t ⟨b, o, none⟩).run P w = .ok v w
theorem Ld.sc {t : TypeId} {b o : Nat} (ht : scalar P t = true) (h : Rd C b o v) : Ld P C t b o v := fun w hw => by
 have hc := h w hw
 simp [loadVar, run_isAgg w ht, hc]
theorem Ld.agg {t : TypeId} {fs : Array Field} {b o : Nat} {cs : List Value} {sz : Nat} (ht : P.underlying t = some (.struct fs)) (hz : (P.info? t).map (·.size) = some sz) (hl : cs.length = sz) (h : ∀ j u, cs[j]? = some u → Rd C b (o + j) u) : Ld P C t b o (.agg cs.toArray) := fun w hw => by
 cases hi : P.info? t with
 | none => rw [hi] at hz; simp at hz
 | some i' =>
   rw [hi] at hz
   simp at hz
   have h2 := run_loadCells_list (P := P) w ⟨b, o, none⟩ cs (fun j u hu => by rw [addr_add]; exact h j u hu w hw)
   have h3 : (isAgg t).run P w = .ok true w := by simp [isAgg, run_underlying ht]
   rw [hl] at h2
   simp [loadVar, h3, sizeOf, typeInfo, hi, hz, h2]
theorem Ld.arr {t e : TypeId} {len : Nat} {b o : Nat} {cs : List Value} {sz : Nat} (ht : P.underlying t = some (.array len e)) (hz : (P.info? t).map (·.size) = some sz) (hl : cs.length = sz) (h : ∀ j u, cs[j]? = some u → Rd C b (o + j) u) : Ld P C t b o (.agg cs.toArray) := fun w hw => by
 cases hi : P.info? t with
 | none => rw [hi] at hz; simp at hz
 | some i' =>
   rw [hi] at hz
   simp at hz
   have h2 := run_loadCells_list (P := P) w ⟨b, o, none⟩ cs (fun j u hu => by rw [addr_add]; exact h j u hu w hw)
   have h3 : (isAgg t).run P w = .ok true w := by simp [isAgg, run_underlying ht]
   rw [hl] at h2
   simp [loadVar, h3, sizeOf, typeInfo, hi, hz, h2]
theorem Ld.aggK {t : TypeId} {fs : Array Field} {b o : Nat} {cs : List Value} {sz : Nat} {K0 : Hp} (ht : P.underlying t = some (.struct fs)) (hz : (P.info? t).map (·.size) = some sz) (hl : cs.length = sz) (h : Cells K0 b o cs) (k : K0.le K) : Ld P (Hold E K R) t b o (.agg cs.toArray) :=
 Ld.agg ht hz hl (fun j u hu => Rd.k (h.at j u hu) k)
theorem V.ld {t ty : TypeId} {b o : Nat} {d : Option Nat} {pos : String} {af : Array Edge} {g : Option (Nat × Bool)} {x : Operand} (hx : ev n ρ x = .pointer (some ⟨b, o, none⟩)) (h : Ld P C t b o v) : Val P n C ρ ⟨d, .load t x, ty, pos, af, g⟩ v := fun w hw => by
 have hc := h w hw
 simp [execOp, hx, Instr.loadAt, Instr.sureAddr, hc]
theorem Rd.cls (i : Nat) {b : Nat} {e : TypeId} {cs ds : List Value} (o : Nat) (hi : R[i]? = some (Cl b e cs)) (hd : ds = (cs.drop o).take ds.length) : ∀ j u, ds[j]? = some u → Rd (Hold E K R) b (o + j) u := fun j u hu => by
 refine Rd.cl i hi ?_
 rw [hd, List.getElem?_take, List.getElem?_drop] at hu
 split at hu
 · exact hu
 · cases hu
theorem Rd.ks {b o : Nat} {ds : List Value} {K0 : Hp} (h : ∀ j u, ds[j]? = some u → cellK K0 b (o + j) = some u) (k : K0.le K) : ∀ j u, ds[j]? = some u → Rd (Hold E K R) b (o + j) u := fun j u hu => Rd.k (h j u hu) k
def RvOk (P : Program) (n : Nat) (C : World → Prop) (ρ : Sl0) : ResultVar → Value → Prop
 | .tmp t, v => ev n ρ (.tmp t) = v
 | .cell a ty, v => ∃ b o, ev n ρ (.tmp a) = .pointer (some ⟨b, o, none⟩) ∧ Ld P C ty b o v
def rvS (tmps : Array Value) : ResultVar → Sem Value
 | .tmp t => pure (tmps.getD t undef)
 | .cell a t => do loadVar t (← asAddr (tmps.getD a undef))
theorem results_rvS (fn : Func) (tmps : Array Value) : results fn tmps = (do let vs ← fn.results.mapM (rvS tmps); pure (if h : vs.size = 1 then vs[0] else .tuple vs)) := by
 unfold results
 congr 2
theorem rv_run {r : ResultVar} (h : RvOk P n C ρ r v) {w : World} (hw : C w) : (rvS (frm n ρ) r).run P w = .ok v w := by
 cases r with
 | tmp t =>
   have h' : (act n ρ).eval (.tmp t) = v := by rw [eval_act]; exact h
   have h2 : (frm n ρ).getD t undef = v := h'
   simp only [rvS, h2, Sem.run_pure]
 | cell a t =>
   obtain ⟨b, o, h1, h3⟩ := h
   have h' : (act n ρ).eval (.tmp a) = .pointer (some ⟨b, o, none⟩) := by rw [eval_act]; exact h1
   have h2 : (frm n ρ).getD a undef = .pointer (some ⟨b, o, none⟩) := h'
   have := h3 w hw
   simp only [rvS, h2, asAddr]
   simpa using this
def Res (P : Program) (n : Nat) (C : World → Prop) (ρ : Sl0) (fn : Func) (v : Value) : Prop := ∀ w, C w → (results fn (frm n ρ)).run P w = .ok v w
theorem Res.zero {fn : Func} (h : fn.results = #[]) : Res P n C ρ fn (.tuple #[]) := fun w _ => results_none h _ _ _
theorem Res.one {fn : Func} {r1 : ResultVar} {v1 : Value} (h : fn.results = #[r1]) (h1 : RvOk P n C ρ r1 v1) : Res P n C ρ fn v1 := fun w hw => by
 have k1 := rv_run h1 hw
 rw [results_rvS, h]
 simp only [Array.mapM_eq_mapM_toList, List.mapM_cons, List.mapM_nil]
 simp [k1]
theorem Res.two {fn : Func} {r1 r2 : ResultVar} {v1 v2 : Value} (h : fn.results = #[r1, r2]) (h1 : RvOk P n C ρ r1 v1) (h2 : RvOk P n C ρ r2 v2) : Res P n C ρ fn (.tuple #[v1, v2]) := fun w hw => by
 have k1 := rv_run h1 hw
 have k2 := rv_run h2 hw
 rw [results_rvS, h]
 simp only [Array.mapM_eq_mapM_toList, List.mapM_cons, List.mapM_nil]
 simp [k1, k2]
theorem Res.three {fn : Func} {r1 r2 r3 : ResultVar} {v1 v2 v3 : Value} (h : fn.results = #[r1, r2, r3]) (h1 : RvOk P n C ρ r1 v1) (h2 : RvOk P n C ρ r2 v2) (h3 : RvOk P n C ρ r3 v3) : Res P n C ρ fn (.tuple #[v1, v2, v3]) := fun w hw => by
 have k1 := rv_run h1 hw
 have k2 := rv_run h2 hw
 have k3 := rv_run h3 hw
 rw [results_rvS, h]
 simp only [Array.mapM_eq_mapM_toList, List.mapM_cons, List.mapM_nil]
 simp [k1, k2, k3]
theorem Res.four {fn : Func} {r1 r2 r3 r4 : ResultVar} {v1 v2 v3 v4 : Value} (h : fn.results = #[r1, r2, r3, r4]) (h1 : RvOk P n C ρ r1 v1) (h2 : RvOk P n C ρ r2 v2) (h3 : RvOk P n C ρ r3 v3) (h4 : RvOk P n C ρ r4 v4) : Res P n C ρ fn (.tuple #[v1, v2, v3, v4]) := fun w hw => by
 have k1 := rv_run h1 hw
 have k2 := rv_run h2 hw
 have k3 := rv_run h3 hw
 have k4 := rv_run h4 hw
 rw [results_rvS, h]
 simp only [Array.mapM_eq_mapM_toList, List.mapM_cons, List.mapM_nil]
 simp [k1, k2, k3, k4]
def Ends (P : Program) (E : En) (n : Nat) (fn : Func) (K0 : Hp) (F : List Atom) (R : Value → Hp → List Atom → Prop) (ρ : Sl0) (K : Hp) (L : List Atom) : Prop := ∃ v L', Res P n (Hold E K L) ρ fn v ∧ R v K L' ∧ K0.le K ∧ ∀ w, Sep E K L w → Sep E K (L' ++ F) w
def RetP (P : Program) (E : En) (n : Nat) (fn : Func) (K0 : Hp) (F : List Atom) (R : Value → Hp → List Atom → Prop) : Post
 | .normal, ρ, K, L | .ret, ρ, K, L => Ends P E n fn K0 F R ρ K L
 | _, _, _, _ => False
def args0 (args : Array Value) : Sl0 := fun i => (args.toList)[i]?.getD undef
theorem frm_args {n : Nat} {args : Array Value} (h : args.size ≤ n) : args ++ Array.replicate (n - args.size) undef = frm n (args0 args) := by
 apply Array.ext_getElem?
 intro i
 rw [frm_get, Array.getElem?_append]
 unfold args0
 by_cases hi : i < args.size
 · rw [if_pos hi, if_pos (by omega)]
   simp [hi]
 · rw [if_neg hi, Array.getElem?_replicate]
   by_cases h2 : i < n
   · rw [if_pos (by omega), if_pos h2]
     simp [show args.toList[i]? = none from List.getElem?_eq_none (by simpa using hi)]
   · rw [if_neg (by omega), if_neg h2]
theorem Tr.of {f : FuncId} {fn : Func} {c : Code} {args : Array Value} {R : Value → Hp → List Atom → Prop} (hf : P.funcs[f]? = some fn) (hb : fn.body = some c) (hn : fn.ntmps = n) (ha : Nat.ble args.size n = true)
   (h : ∀ E F, CJ P E n c (RetP P E n fn K F R) (args0 args) K (L ++ F)) : Tr P f args K L R := fun E w F hs => by
 refine calls_of_wp hf hb ?_
 rw [hn, frm_args (Nat.le_of_ble_eq_true ha)]
 refine wp_mono (wpIn_wide.1 ((h E.out0 F).go w hs.out0)) ?_
 rintro e a w' ⟨ρ, K', L', rfl, h1, h2⟩
 have key : Ends P E.out0 n fn K F R ρ K' L' → (act n ρ).defers = [] ∧ ∃ v, (results fn (act n ρ).tmps).run P w' = .ok v w' ∧ ∃ v' K'' L'', Ending.returned v = .returned v' ∧ R v' K'' L'' ∧ K.le K'' ∧ Sep E K'' (L'' ++ F) w' := by
   rintro ⟨v, L2, h3, h4, h5, h6⟩
   exact ⟨rfl, v, h3 w' (Hold.of_sep h1), v, K', L2, rfl, h4, h5, (h6 w' h1).back⟩
 cases e with
 | normal => exact key h2
 | ret => exact key h2
 | _ => exact h2.elim
end
section
variable {P : Program} {E : En} {n : Nat} {Φ : Post} {ρ : Sl0} {K : Hp} {L : List Atom}
theorem CJ.loop {σ β : Type} {body : σ → Option (σ ⊕ β)} {s0 : σ} {b : β} {c : Code} (I : σ → Sl0 → Hp → List Atom → Prop) (h : loop body s0 = some b) (h0 : I s0 ρ K L)
   (hb : ∀ s ρ K L r, I s ρ K L → body s = some r → CJ P E n c (fun e ρ K L => match r with | .inl s' => e = .normal ∧ I s' ρ K L | .inr x => e ≠ .normal ∧ (x = b → Φ e ρ K L)) ρ K L) : CJ P E n (.loop c) Φ ρ K L := by
 obtain ⟨m, hm⟩ := loop_iter h
 refine ⟨fun w hs => ?_⟩
 clear h
 refine wpIn_loop_rounds m ?_
 induction m generalizing s0 ρ K L w with
 | zero => cases hm
 | succ m ih =>
   unfold iter at hm
   obtain ⟨r, hr, h1⟩ := ob hm
   rw [roundsIn_succ]
   refine wpIn_mono ((hb s0 ρ K L r h0 hr).go w hs) ?_
   rintro e a' w'' ⟨ρ', K', L', rfl, hs', hΦ⟩
   cases r with
   | inl s' =>
     obtain ⟨rfl, hI'⟩ := hΦ
     exact ih (s0 := s') (ρ := ρ') (K := K') (L := L') hI' h1 w'' hs'
   | inr x =>
     cases h1
     obtain ⟨hne, hΦ⟩ := hΦ
     cases e with
     | normal => exact absurd rfl hne
     | _ => exact ⟨ρ', K', L', rfl, hs', hΦ rfl⟩
end
end
section
def SubA : List Atom → List Atom → Prop
 | [], _ => True
 | A :: R, L => ∃ i, L[i]? = some A ∧ SubA R (L.eraseIdx i)
theorem SubA.sep {E : En} {w : World} : ∀ {R L : List Atom} {K : Hp}, SubA R L → Sep E K L w → ∃ L', Sep E K (R ++ L') w
 | [], L, K, _, h => ⟨L, h⟩
 | A :: R, L, K, ⟨i, hi, hs⟩, h => by
   obtain ⟨h0, h1, h2, h3⟩ := h.front i hi
   obtain ⟨L', h4⟩ := SubA.sep hs h3
   exact ⟨L', h0, h1, h2, h4⟩
theorem Hold.sub {E : En} {K0 K : Hp} {R L : List Atom} {w : World} (k : K0.le K) (hs : SubA R L) (h : Sep E K L w) : Hold E K0 R w := by
 obtain ⟨L', h'⟩ := hs.sep h
 exact ⟨K, L', k, h'⟩
section
variable {P : Program} {E : En} {n : Nat} {Φ : Post} {ρ : Sl0} {K : Hp} {L : List Atom} {ops : Array Oper} {C : World → Prop} {X : Act → World → Prop}
structure JQ (P : Program) (n : Nat) (ops : Array Oper) (C : World → Prop) (s : List Oper) (N : Sl0 → Prop) (ρ : Sl0) : Prop where
 go : wpQuiet P ops C (fun a => ∃ ρ', a = act n ρ' ∧ N ρ') s (act n ρ)
structure JM (P : Program) (E : En) (n : Nat) (ops : Array Oper) (C : World → Prop) (X : Act → World → Prop) (ss : List (List Oper × Oper)) (ρ : Sl0) (K : Hp) (L : List Atom) : Prop where
 go : ∀ w, Sep E K L w → wpMix P ops C X ss (act n ρ) w
structure JA (P : Program) (E : En) (n : Nat) (ops : Array Oper) (C : World → Prop) (X : Act → World → Prop) (o : Oper) (r : List (List Oper × Oper)) (ρ : Sl0) (K : Hp) (L : List Atom) : Prop where
 go : ∀ w, Sep E K L w → aloneOp P ops C o (wpMix P ops C X r) (act n ρ) w
theorem wpQuiet_mono {Q Q' : Act → Prop} (k : ∀ a, Q a → Q' a) : ∀ {l : List Oper} {a : Act}, wpQuiet P ops C Q l a → wpQuiet P ops C Q' l a
 | [], a, h => k a h
 | o :: l, a, h => by
   unfold wpQuiet at h ⊢
   split
   · rename_i hw; rw [if_pos hw] at h; exact Oper.quiet_mono (fun a h => wpQuiet_mono k h) h
   · rename_i hw; rw [if_neg hw] at h; exact wpQuiet_mono k h
theorem JQ.nil {N : Sl0 → Prop} (h : N ρ) : JQ P n ops C [] N ρ := ⟨⟨ρ, rfl, h⟩⟩
theorem JQ.val {rest : List Oper} {o : Oper} {d : Nat} {v : Value} {N : Sl0 → Prop} (hg : o.guard = none) (hd : o.dst = some d) (hv : Val P n C ρ o v) (h : JQ P n ops C rest N (upd ρ d v)) : JQ P n ops C (o :: rest) N ρ := by
 constructor
 unfold wpQuiet
 rw [if_pos (by simp [Region.wanted, hg])]
 refine ⟨v, fun w hw => ?_, ?_⟩
 · unfold Oper.quietAt
   rw [eval_act, hv w hw]
   exact ⟨rfl, rfl⟩
 · rw [hd, put_act]; exact h.go
theorem wanted_run {o : Oper} {g d : Nat} {b c : Bool} (hg : o.guard = some (g, c)) (hd : (ops[g]?).bind (·.dst) = some d) (hv : ev n ρ (.tmp d) = .bool b) (hb : b = c) : Region.wanted o (yielded ops (act n ρ).tmps) = true := by
 unfold Region.wanted; rw [hg]
 show (yielded ops (frm n ρ) g == some c) = true
 rw [yielded_act hd hv, hb]; simp
theorem wanted_skip {o : Oper} {g d : Nat} {b c : Bool} (hg : o.guard = some (g, c)) (hd : (ops[g]?).bind (·.dst) = some d) (hv : ev n ρ (.tmp d) = .bool b) (hb : b = !c) : Region.wanted o (yielded ops (act n ρ).tmps) = false := by
 unfold Region.wanted; rw [hg]
 show (yielded ops (frm n ρ) g == some c) = false
 rw [yielded_act hd hv, hb]; cases c <;> rfl
theorem wanted_skipu {o : Oper} {g d : Nat} {c : Bool} (hg : o.guard = some (g, c)) (hd : (ops[g]?).bind (·.dst) = some d) (hv : ev n ρ (.tmp d) = undef) : Region.wanted o (yielded ops (act n ρ).tmps) = false := by
 unfold Region.wanted; rw [hg]
 show (yielded ops (frm n ρ) g == some c) = false
 have : yielded ops (frm n ρ) g = none := by
   unfold yielded
   rw [hd]
   simp only [Option.bind_some]
   rw [frm_get]
   replace hv : (bif Nat.blt d n then ρ d else undef) = undef := hv
   by_cases h : d < n
   · rw [blt_true h] at hv
     simp only [cond_true] at hv
     simp [h, hv, undef]
   · simp [h]
 rw [this]; rfl
theorem JQ.run {rest : List Oper} {o : Oper} {g d : Nat} {b c : Bool} {N : Sl0 → Prop} (hg : o.guard = some (g, c)) (hd : (ops[g]?).bind (·.dst) = some d) (hv : ev n ρ (.tmp d) = .bool b) (hb : b = c) (h : JQ P n ops C ({ o with guard := none } :: rest) N ρ) : JQ P n ops C (o :: rest) N ρ := by
 have h := h.go
 constructor
 unfold wpQuiet at h ⊢
 rw [if_pos (wanted_run hg hd hv hb)]
 rw [if_pos (by rfl)] at h
 exact h
theorem JQ.skip {rest : List Oper} {o : Oper} {g d e : Nat} {b c : Bool} {N : Sl0 → Prop} (hg : o.guard = some (g, c)) (he : o.dst = some e) (hd : (ops[g]?).bind (·.dst) = some d) (hv : ev n ρ (.tmp d) = .bool b) (hb : b = !c) (h : JQ P n ops C rest N (upd ρ e undef)) : JQ P n ops C (o :: rest) N ρ := by
 constructor
 unfold wpQuiet
 rw [if_neg (by rw [wanted_skip hg hd hv hb]; simp), he, put_act]
 exact h.go
theorem JQ.skipu {rest : List Oper} {o : Oper} {g d e : Nat} {c : Bool} {N : Sl0 → Prop} (hg : o.guard = some (g, c)) (he : o.dst = some e) (hd : (ops[g]?).bind (·.dst) = some d) (hv : ev n ρ (.tmp d) = undef) (h : JQ P n ops C rest N (upd ρ e undef)) : JQ P n ops C (o :: rest) N ρ := by
 constructor
 unfold wpQuiet
 rw [if_neg (by rw [wanted_skipu hg hd hv]; simp), he, put_act]
 exact h.go
theorem JM.nil {fs ts : List Oper} (h : JQ P n ops C fs (fun ρ' => J P E n ops ts Φ ρ' K L) ρ) : JM P E n ops C (fun a' w' => wpQuiet P ops C (fun a => wpLs P ops (Lift E n Φ) ts a w') fs a') [] ρ K L := ⟨fun w hs =>
 wpMix_nil (wpQuiet_mono (fun a ⟨ρ', ha, hJ⟩ => by subst ha; exact hJ.go w hs) h.go)⟩
theorem JM.cons {s : List Oper} {o : Oper} {r : List (List Oper × Oper)} (h : JQ P n ops C s (fun ρ' => JA P E n ops C X o r ρ' K L) ρ) : JM P E n ops C X ((s, o) :: r) ρ K L := ⟨fun w hs =>
 wpMix_cons (wpQuiet_mono (fun a ⟨ρ', ha, hJ⟩ => by subst ha; exact hJ.go w hs) h.go)⟩
theorem JA.op {o : Oper} {r : List (List Oper × Oper)} {N : Sl0 → Hp → List Atom → Prop} (hg : o.guard = none) (hv : Ao P E n o ρ K L N) (h : ∀ ρ' K' L', N ρ' K' L' → (∀ w, Sep E K' L' w → C w) ∧ JM P E n ops C X r ρ' K' L') : JA P E n ops C X o r ρ K L := ⟨fun w hs => by
 unfold aloneOp
 rw [if_pos (by simp [Region.wanted, hg])]
 exact hv.go w hs _ _ (fun ρ' K' L' w' hN hs' => ⟨(h ρ' K' L' hN).1 w' hs', (h ρ' K' L' hN).2.go w' hs'⟩)⟩
theorem JA.run {o : Oper} {r : List (List Oper × Oper)} {g d : Nat} {b c : Bool} (hg : o.guard = some (g, c)) (hd : (ops[g]?).bind (·.dst) = some d) (hv : ev n ρ (.tmp d) = .bool b) (hb : b = c) (h : JA P E n ops C X { o with guard := none } r ρ K L) : JA P E n ops C X o r ρ K L := ⟨fun w hs => by
 have h' := h.go w hs
 unfold aloneOp at h' ⊢
 rw [if_pos (wanted_run hg hd hv hb)]
 rw [if_pos (by rfl)] at h'
 exact h'⟩
theorem JA.skip {o : Oper} {r : List (List Oper × Oper)} {g d e : Nat} {b c : Bool} (hg : o.guard = some (g, c)) (he : o.dst = some e) (hd : (ops[g]?).bind (·.dst) = some d) (hv : ev n ρ (.tmp d) = .bool b) (hb : b = !c) (h : JM P E n ops C X r (upd ρ e undef) K L) : JA P E n ops C X o r ρ K L := ⟨fun w hs =>
 alone_skip (wanted_skip hg hd hv hb) (by rw [he, put_act]; exact h.go w hs)⟩
theorem JA.skipu {o : Oper} {r : List (List Oper × Oper)} {g d e : Nat} {c : Bool} (hg : o.guard = some (g, c)) (he : o.dst = some e) (hd : (ops[g]?).bind (·.dst) = some d) (hv : ev n ρ (.tmp d) = undef) (h : JM P E n ops C X r (upd ρ e undef) K L) : JA P E n ops C X o r ρ K L := ⟨fun w hs =>
 alone_skip (wanted_skipu hg hd hv) (by rw [he, put_act]; exact h.go w hs)⟩
theorem JA.front (i : Nat) {A : Atom} {o : Oper} {r : List (List Oper × Oper)} (hi : L[i]? = some A) (h : JA P E n ops C X o r ρ K (A :: L.eraseIdx i)) : JA P E n ops C X o r ρ K L := ⟨fun w hs => h.go w (hs.front i hi)⟩
theorem JM.front (i : Nat) {A : Atom} {ss : List (List Oper × Oper)} (hi : L[i]? = some A) (h : JM P E n ops C X ss ρ K (A :: L.eraseIdx i)) : JM P E n ops C X ss ρ K L := ⟨fun w hs => h.go w (hs.front i hi)⟩
theorem JM.wit {A : Atom} {p : Prop} {ss : List (List Oper × Oper)} (k : ∀ h, A h → p) (h : p → JM P E n ops C X ss ρ K (A :: L)) : JM P E n ops C X ss ρ K (A :: L) := ⟨fun w hs => (h (hs.fact k)).go w hs⟩
theorem CJ.mix {id : Nat} {l : List Oper} (R : List Atom) (plan : List (List Nat × Nat)) (fin tail : List Nat) (hm : P.follows .mixedOrders = true) (hB : mixB .any l.toArray plan fin tail = true) (hR : SubA R L)
   {ss : List (List Oper × Oper)} (hss : segs l plan = ss) {fs ts : List Oper} (hfs : picks l fin = fs) (hts : picks l tail = ts)
   (h : JM P E n l.toArray (Hold E K R) (fun a' w' => wpQuiet P l.toArray (Hold E K R) (fun a => wpLs P l.toArray (Lift E n Φ) ts a w') fs a') ss ρ K L) (hnd : l.all nodf = true := by rfl) : CJ P E n (.region id l.toArray true) Φ ρ K L := ⟨fun w hs =>
 wp_region_mix plan fin tail hm hB (Hold E K R) (Hold.sub (Hp.le_refl K) hR hs.drew) hss hfs hts (h.go _ hs.drew) hnd⟩
end
end
section
theorem isNil {K : Hp} {t : Tp} : Is K (.sl t) [.slice none 0 0] [] := ⟨none, 0, rfl, by simp, by simp, fun h => absurd rfl h⟩
structure PJ (E : En) (N : Sl0 → Hp → List Atom → Prop) (ρ : Sl0) (K : Hp) (L : List Atom) : Prop where
 go : ∀ w, Sep E K L w → ∃ K' L', Sep E K' L' w ∧ N ρ K' L'
section
variable {P : Program} {E : En} {n : Nat} {Φ : Post} {N : Sl0 → Hp → List Atom → Prop} {ρ : Sl0} {K K0 : Hp} {L : List Atom} {e : TypeId} {t : Tp} {v : Value} {xs : List t.den}
theorem PJ.done (h : N ρ K L) : PJ E N ρ K L := ⟨fun w hs => ⟨K, L, hs, h⟩⟩
theorem PJ.by {K' : Hp} {L' : List Atom} (k : ∀ w, Sep E K L w → Sep E K' L' w) (h : PJ E N ρ K' L') : PJ E N ρ K L := ⟨fun w hs => h.go w (k w hs)⟩
theorem PJ.front (i : Nat) {A : Atom} (hi : L[i]? = some A) (h : PJ E N ρ K (A :: L.eraseIdx i)) : PJ E N ρ K L := ⟨fun w hs => h.go w (hs.front i hi)⟩
theorem PJ.dropAt (i : Nat) {A : Atom} (hi : L[i]? = some A) (h : PJ E N ρ K (L.eraseIdx i)) : PJ E N ρ K L := ⟨fun w hs => h.go w (hs.dropAt i hi)⟩
theorem PJ.wit {A : Atom} {p : Prop} (k : ∀ h, A h → p) (h : p → PJ E N ρ K (A :: L)) : PJ E N ρ K (A :: L) := ⟨fun w hs => (h (hs.fact k)).go w hs⟩
theorem PJ.persist (k : K0.le K) (h0 : 0 < t.size) (h : ∀ K', K.le K' → Is K' (.sl t) [v] xs → PJ E N ρ K' L) : PJ E N ρ K (Row K0 e t v xs :: L) := ⟨fun w hs =>
 let ⟨K', h1, h2, h3⟩ := hs.persist k h0; (h K' h1 h2).go w h3⟩
theorem CJ.monoP {c : Code} {Φ' : Post} (h : CJ P E n c Φ' ρ K L) (k : ∀ e ρ K L, Φ' e ρ K L → PJ E (Φ e) ρ K L) : CJ P E n c Φ ρ K L := ⟨fun w hs =>
 wpIn_mono (h.go w hs) (fun e a w ⟨ρ, K, L, ha, hs, hΦ⟩ => let ⟨K', L', hs', hN⟩ := (k _ _ _ _ hΦ).go w hs; ⟨ρ, K', L', ha, hs', hN⟩)⟩
theorem CJ.joinN {σ τ : Type} {o : σ ⊕ τ} {c : Code} (M : σ → Sl0 → Hp → List Atom → Prop)
   (h1 : CJ P E n c (fun e ρ K L => (e = .normal ∧ ∃ s, o = .inl s ∧ M s ρ K L) ∨ (e ≠ .normal ∧ Φ e ρ K L)) ρ K L) (h2 : ∀ s ρ K L, o = .inl s → M s ρ K L → PJ E (Φ .normal) ρ K L) : CJ P E n c Φ ρ K L := h1.monoP (fun e ρ K L h => by
 rcases h with ⟨rfl, s, hs, hM⟩ | ⟨hne, h⟩
 · exact h2 s ρ K L hs hM
 · exact PJ.done h)
theorem CJ.meetN {c : Code} (M : Sl0 → Hp → List Atom → Prop) (h1 : CJ P E n c (fun e ρ K L => e = .normal ∧ M ρ K L) ρ K L) (h2 : ∀ ρ K L, M ρ K L → PJ E (Φ .normal) ρ K L) : CJ P E n c Φ ρ K L := h1.monoP (fun e ρ K L ⟨he, h⟩ => by subst he; exact h2 ρ K L h)
end
theorem Row.hn {K : Hp} {e : TypeId} {t : Tp} {ad : Option Addr} {m cap : Nat} {xs : List t.den} : ∀ h, Row K e t (.slice ad m cap) xs h → (xs ≠ [] → ∃ g, ad = some ⟨g, 0, none⟩) := fun h hr => by
 obtain ⟨ad', cap', e, _, _, hn⟩ := Row.form h hr
 simp only [Value.slice.injEq] at e
 obtain ⟨rfl, _, _⟩ := e
 exact hn
theorem bt (b : Bool) : b = true ∨ b = false := by cases b <;> simp
section
variable {P : Program} {E : En} {n : Nat} {Φ : Post} {ρ : Sl0} {K K0 : Hp} {L R : List Atom} {ops : Array Oper} {C : World → Prop} {X : Act → World → Prop} {e : TypeId} {t : Tp} {v : Value} {xs : List t.den}
theorem J.persist {l : List Oper} (k : K0.le K) (h0 : 0 < t.size) (h : ∀ K', K.le K' → Is K' (.sl t) [v] xs → J P E n ops l Φ ρ K' L) : J P E n ops l Φ ρ K (Row K0 e t v xs :: L) := ⟨fun w hs =>
 let ⟨K', h1, h2, h3⟩ := hs.persist k h0; (h K' h1 h2).go w h3⟩
theorem CJ.persist {c : Code} (k : K0.le K) (h0 : 0 < t.size) (h : ∀ K', K.le K' → Is K' (.sl t) [v] xs → CJ P E n c Φ ρ K' L) : CJ P E n c Φ ρ K (Row K0 e t v xs :: L) := ⟨fun w hs =>
 let ⟨K', h1, h2, h3⟩ := hs.persist k h0; (h K' h1 h2).go w h3⟩
theorem JA.persist {o : Oper} {r : List (List Oper × Oper)} (k : K0.le K) (h0 : 0 < t.size) (h : ∀ K', K.le K' → Is K' (.sl t) [v] xs → JA P E n ops C X o r ρ K' L) : JA P E n ops C X o r ρ K (Row K0 e t v xs :: L) := ⟨fun w hs =>
 let ⟨K', h1, h2, h3⟩ := hs.persist k h0; (h K' h1 h2).go w h3⟩
theorem JA.by {o : Oper} {r : List (List Oper × Oper)} {K' : Hp} {L' : List Atom} (k : ∀ w, Sep E K L w → Sep E K' L' w) (h : JA P E n ops C X o r ρ K' L') : JA P E n ops C X o r ρ K L := ⟨fun w hs => h.go w (k w hs)⟩
end
section
variable {P : Program} {E : En} {n : Nat} {C : World → Prop} {ρ : Sl0} {K K0 : Hp} {R : List Atom} {d : Option Nat} {t : TypeId} {pos : String} {af : Array Edge} {g : Option (Nat × Bool)} {x y c : Operand} {u v : Value}
theorem Rd.rows (i : Nat) {b : Nat} {e : TypeId} {s : Tp} {ad : Option Addr} {m cap : Nat} {xs : List s.den} (hi : R[i]? = some (Row K0 e s (.slice ad m cap) xs)) (he : ad = some ⟨b, 0, none⟩) {j : Nat} {x : s.den} (hx : xs[j]? = some x) {cs : List Value} (hl : cs.length = s.size)
   (k : ∀ es, Is K0 s es x → es = cs) : ∀ q u, cs[q]? = some u → Rd (Hold E K R) b (0 + j * s.size + q) u := fun q u hu =>
 Rd.row i hi he hx (q := q) (by omega) (by rw [← hl]; exact (List.getElem?_eq_some_iff.1 hu).1) (fun es hes => by rw [k es hes]; exact hu)
theorem Is.part {tp : Tp} {b o m cp : Nat} {s : List tp.den} (hs : Is K0 (.sl tp) [.slice (some ⟨b, o, none⟩) m cp] s) (l h : Nat) (h1 : l ≤ h) (h2 : h ≤ s.length) :
   Is K0 (.sl tp) [.slice (some (if cp = l then ⟨b, o, none⟩ else ⟨b, o + l * tp.size, none⟩)) (h - l) (cp - l)] ((s.take h).drop l) := by
 simp only [Is] at hs ⊢
 obtain ⟨ad', cap', h0, a1, a2, a3⟩ := hs
 simp only [List.cons.injEq, Value.slice.injEq, and_true] at h0
 obtain ⟨rfl, rfl, rfl⟩ := h0
 have hlen : ((s.take h).drop l).length = h - l := by rw [List.length_drop, List.length_take]; omega
 refine ⟨_, _, by rw [hlen], by omega, by omega, fun hne => ?_⟩
 have hlt : l < h := by
   rcases Nat.lt_or_ge l h with h' | h'
   · exact h'
   · exact absurd (List.length_eq_zero_iff.1 (by omega)) hne
 obtain ⟨b', o', e, a4⟩ := a3 (fun e => by rw [e] at h2; simp at h2; omega)
 simp only [Option.some.injEq, Addr.mk.injEq, and_true] at e
 obtain ⟨rfl, rfl⟩ := e
 rw [if_neg (by omega)]
 refine ⟨b, o + l * tp.size, rfl, fun k x hx => ?_⟩
 rw [List.getElem?_drop, List.getElem?_take] at hx
 split at hx
 · obtain ⟨es, a5, a6, a7⟩ := a4 (l + k) x hx
   refine ⟨es, a5, a6, fun j hj => ?_⟩
   rw [← a7 j hj, Nat.add_mul]
   congr 1; omega
 · cases hx
theorem V.subI {tx e : TypeId} {tp : Tp} {ad : Option Addr} {m cp : Nat} {s z : List tp.den} {l h : Int} (ht : P.underlying tx = some (.slice e)) (hz : (P.info? e).map (·.size) = some tp.size) (hs : Is K0 (.sl tp) [.slice ad m cp] s) (hy : subL s l h = some z) :
   ∃ ad' cp', (∀ {n : Nat} {C : World → Prop} {ρ : Sl0} {d : Option Nat} {t : TypeId} {pos : String} {af : Array Edge} {g : Option (Nat × Bool)} {x : Operand} {lo hi : Option Operand}, ev n ρ x = .slice ad m cp → (∀ q, lo = some q → ∃ k, ev n ρ q = .int k l) → (lo = none → l = 0) → (∀ q, hi = some q → ∃ k, ev n ρ q = .int k h) → (hi = none → h = (m : Nat)) →
     Val P n C ρ ⟨d, .slice tx x lo hi none, t, pos, af, g⟩ (.slice ad' z.length cp')) ∧ Is K0 (.sl tp) [.slice ad' z.length cp'] z := by
 obtain ⟨a1, a2, a3, rfl⟩ := subL_some hy
 obtain ⟨l, rfl⟩ := Int.eq_ofNat_of_zero_le a1
 obtain ⟨h, rfl⟩ := Int.eq_ofNat_of_zero_le (show 0 ≤ h by omega)
 have b1 : l ≤ h := by omega
 have b2 : h ≤ s.length := by omega
 simp only [Int.toNat_natCast]
 have hm : m = s.length ∧ s.length ≤ cp := by
   simp only [Is] at hs
   obtain ⟨ad', cap', h0, a4, _⟩ := hs
   simp only [List.cons.injEq, Value.slice.injEq, and_true] at h0
   obtain ⟨_, rfl, rfl⟩ := h0
   exact ⟨rfl, a4⟩
 obtain ⟨rfl, hcp⟩ := hm
 have hlen : ((s.take h).drop l).length = h - l := by rw [List.length_drop, List.length_take]; omega
 cases ad with
 | none =>
   obtain ⟨rfl, _⟩ := hs.nil_len
   simp only [List.length_nil] at b2 hlen hcp ⊢
   obtain rfl : h = 0 := by omega
   obtain rfl : l = 0 := by omega
   refine ⟨none, cp, ?_, by simpa using hs⟩
   intro n C ρ d t pos af g x lo hi hx hl hl0 hh hh0 w _
   cases hi' : P.info? e with
   | none => rw [hi'] at hz; simp at hz
   | some i' =>
     cases lo with
     | none =>
       cases hi with
       | none => simp [execOp, hx, Instr.sliceAt, run_underlying ht, Instr.slice, Instr.sliceBounds, sizeOf, typeInfo, hi']
       | some q =>
         obtain ⟨k, hq⟩ := hh q rfl
         simp [execOp, hx, hq, Instr.sliceAt, run_underlying ht, Instr.slice, Instr.sliceBounds, Instr.sliceBound, asIntOf, sizeOf, typeInfo, hi']
     | some ql =>
       obtain ⟨k1, hq1⟩ := hl ql rfl
       cases hi with
       | none => simp [execOp, hx, hq1, Instr.sliceAt, run_underlying ht, Instr.slice, Instr.sliceBounds, Instr.sliceBound, asIntOf, sizeOf, typeInfo, hi']
       | some q =>
         obtain ⟨k, hq⟩ := hh q rfl
         simp [execOp, hx, hq, hq1, Instr.sliceAt, run_underlying ht, Instr.slice, Instr.sliceBounds, Instr.sliceBound, asIntOf, sizeOf, typeInfo, hi']
 | some a =>
   by_cases hs0 : s = []
   · subst hs0
     simp only [List.length_nil] at b2 hlen hcp ⊢
     obtain rfl : h = 0 := by omega
     obtain rfl : l = 0 := by omega
     refine ⟨some (if cp = 0 then a else a.add (0 * tp.size)), cp, ?_, ?_⟩
     · intro n C ρ d t pos af g x lo hi hx hl hl0 hh hh0 w _
       cases hi' : P.info? e with
       | none => rw [hi'] at hz; simp at hz
       | some i' =>
         cases lo with
         | none =>
           cases hi with
           | none => (simp [execOp, hx, Instr.sliceAt, run_underlying ht, Instr.slice, Instr.sliceBounds, sizeOf, typeInfo, hi']; by_cases q0 : cp = 0 <;> simp [q0])
           | some q =>
             obtain ⟨k, hq⟩ := hh q rfl
             (simp [execOp, hx, hq, Instr.sliceAt, run_underlying ht, Instr.slice, Instr.sliceBounds, Instr.sliceBound, asIntOf, sizeOf, typeInfo, hi']; by_cases q0 : cp = 0 <;> simp [q0])
         | some ql =>
           obtain ⟨k1, hq1⟩ := hl ql rfl
           cases hi with
           | none => (simp [execOp, hx, hq1, Instr.sliceAt, run_underlying ht, Instr.slice, Instr.sliceBounds, Instr.sliceBound, asIntOf, sizeOf, typeInfo, hi']; by_cases q0 : cp = 0 <;> simp [q0])
           | some q =>
             obtain ⟨k, hq⟩ := hh q rfl
             (simp [execOp, hx, hq, hq1, Instr.sliceAt, run_underlying ht, Instr.slice, Instr.sliceBounds, Instr.sliceBound, asIntOf, sizeOf, typeInfo, hi']; by_cases q0 : cp = 0 <;> simp [q0])
     · simp only [Is] at hs ⊢
       obtain ⟨_, _, h0, a4, a5, _⟩ := hs
       simp only [List.cons.injEq, Value.slice.injEq, and_true] at h0
       obtain ⟨_, _, rfl⟩ := h0
       exact ⟨_, _, rfl, by simp, a5, fun hne => absurd rfl hne⟩
   · obtain ⟨x0, hx0⟩ : ∃ x, s[0]? = some x := by
       cases s with
       | nil => exact absurd rfl hs0
       | cons x r => exact ⟨x, rfl⟩
     obtain ⟨b, o, he, _⟩ := hs.at hx0
     simp only [Option.some.injEq] at he
     subst he
     have hp := hs.part l h b1 b2
     rw [← hlen] at hp
     refine ⟨_, _, ?_, hp⟩
     intro n C ρ d t pos af g x lo hi hx hl hl0 hh hh0
     rw [hlen]
     exact V.slc (o := o) ht hz hx hl (fun e => by have := hl0 e; omega) hh (fun e => by have := hh0 e; omega) b1 b2 hcp
theorem V.fld {s ft : TypeId} {fs : Array Field} {f : Field} {i : Nat} {cs : Array Value} (hs : P.underlying s = some (.struct fs)) (hf : fs[i]? = some f) (h : ∀ w, (part f.type cs f.offset).run P w = .ok v w) (hx : ev n ρ x = .agg cs) : Val P n C ρ ⟨d, .field s x i, t, pos, af, g⟩ v := fun w _ => by
 simp [execOp, hx, Instr.field, run_underlying hs, hf, asAgg, h w]
theorem Ld0.sc {ft : TypeId} {cs : Array Value} {o : Nat} (ht : scalar P ft = true) (h : cs[o]? = some v) : ∀ w, (part ft cs o).run P w = .ok v w := fun w => by
 simp [part, run_isAgg w ht, h]
theorem Ld0.agg {ft : TypeId} {fs : Array Field} {cs ds : Array Value} {o sz : Nat} (ht : P.underlying ft = some (.struct fs)) (hz : (P.info? ft).map (·.size) = some sz) (h : cs.extract o (o + sz) = ds) : ∀ w, (part ft cs o).run P w = .ok (.agg ds) w := fun w => by
 cases hi : P.info? ft with
 | none => rw [hi] at hz; simp at hz
 | some i' =>
   rw [hi] at hz
   simp at hz
   have h3 : (isAgg ft).run P w = .ok true w := by simp [isAgg, run_underlying ht]
   simp [part, h3, sizeOf, typeInfo, hi, hz, h]
theorem Ld0.arr {ft e : TypeId} {len : Nat} {cs ds : Array Value} {o sz : Nat} (ht : P.underlying ft = some (.array len e)) (hz : (P.info? ft).map (·.size) = some sz) (h : cs.extract o (o + sz) = ds) : ∀ w, (part ft cs o).run P w = .ok (.agg ds) w := fun w => by
 cases hi : P.info? ft with
 | none => rw [hi] at hz; simp at hz
 | some i' =>
   rw [hi] at hz
   simp at hz
   have h3 : (isAgg ft).run P w = .ok true w := by simp [isAgg, run_underlying ht]
   simp [part, h3, sizeOf, typeInfo, hi, hz, h]
def Places (P : Program) (s : TypeId) (ps : List (Nat × Nat)) : Prop := ∃ fs, P.underlying s = some (.struct fs) ∧ fs.toList.mapM (fun f => (P.info? f.type).map fun i => (f.offset, i.size)) = some ps
theorem V.build {s : TypeId} {z : Value} {sz bt : Nat} {ps : List (Nat × Nat)} {parts : Array (Nat × Operand)} {cs : List Value} (hi : Inf P s z sz bt) (hp : Places P s ps) (hc : fillL (fun i => ps[i]?) z.cells.toList (parts.toList.map fun (i, x) => (i, ev n ρ x)) = some cs) (hcs : .agg cs.toArray = v) : Val P n C ρ ⟨d, .build s parts, t, pos, af, g⟩ v := fun w _ => by
 subst hcs
 obtain ⟨i, h1, h2, _, _⟩ := hi.open
 obtain ⟨fs, h3, h4⟩ := hp
 have hc' : Instr.fill (fun i => ps[i]?) z.cells (List.map (fun x => (x.1, ev n ρ x.2)) parts.toList) = some cs.toArray := fill_of hc
 simp [execOp, Instr.build, zeroValue, typeInfo, h1, h2, run_underlying h3, Array.mapM_eq_mapM_toList, run_places w _ _ h4, hc']
theorem V.max {k : IntKind} {a b : Int} {ts : Array TypeId} (hx : ev n ρ x = .int k a) (hy : ev n ρ y = .int k b) : Val P n C ρ ⟨d, .call ⟨.builtin .max, #[x, y], ts⟩, t, pos, af, g⟩ (.int k (if a < b then b else a)) := fun w _ => by
 have := run_max_int2 (P := P) (w := w) ts t k k a b
 simp [execOp, resolve, invoke, builtin, hx, hy, this]
theorem V.min {k : IntKind} {a b : Int} {ts : Array TypeId} (hx : ev n ρ x = .int k a) (hy : ev n ρ y = .int k b) : Val P n C ρ ⟨d, .call ⟨.builtin .min, #[x, y], ts⟩, t, pos, af, g⟩ (.int k (if b < a then b else a)) := fun w _ => by
 have := run_min_int2 (P := P) (w := w) ts t k k a b
 simp [execOp, resolve, invoke, builtin, hx, hy, this]
end
end
section
structure EqIn (P : Program) (d : Nat) (t : TypeId) (x y : Value) (b : Bool) : Prop where
 go : ∀ w, (Op.equalIn d t x y).run P w = .ok b w
structure EqFs (P : Program) (d : Nat) (xs ys : Array Value) (fs : List Field) (b : Bool) : Prop where
 go : ∀ w, (Op.eqFields d xs ys fs).run P w = .ok b w
section
variable {P : Program} {m d : Nat} {t : TypeId}
theorem EqIn.int {k k' : IntKind} {a b : Int} (hd : m = d + 1) (ht : P.underlying t = some (.int k')) : EqIn P m t (.int k a) (.int k b) (decide (a = b)) := ⟨fun w => by
 subst hd; rw [run_equalIn_int w d t k k' a b ht, Bool.beq_eq_decide_eq]⟩
theorem EqIn.bool {a b : Bool} (hd : m = d + 1) (ht : P.underlying t = some .bool) : EqIn P m t (.bool a) (.bool b) (a == b) := ⟨fun w => by
 subst hd; exact run_equalIn_bool w d t a b ht⟩
theorem EqIn.str {a b : List UInt8} (hd : m = d + 1) (ht : P.underlying t = some .string) : EqIn P m t (.string ⟨a.toArray⟩) (.string ⟨b.toArray⟩) (decide (a = b)) := ⟨fun w => by
 subst hd; rw [run_equalIn_string w d t _ _ ht, bsl, bsl, Bool.beq_eq_decide_eq]⟩
theorem EqIn.st {fs : Array Field} {xs ys : Array Value} {b : Bool} (hd : m = d + 1) (ht : P.underlying t = some (.struct fs)) (hp : P.stoodInHeld t = false) (h : EqFs P d xs ys fs.toList b) : EqIn P m t (.agg xs) (.agg ys) b := ⟨fun w => by
 have hf : P.fieldsOf t = fs := by simp [Program.fieldsOf, ht]
 subst hd; rw [run_equalIn_struct w d t xs ys (by rw [hf]; exact ht) hp, hf]; exact h.go w⟩
structure EqIs (P : Program) (d : Nat) (e : TypeId) (c : Nat) (xs ys : Array Value) (is : List Nat) (b : Bool) : Prop where
 go : ∀ w, (Op.eqItems d e c xs ys is).run P w = .ok b w
theorem EqIn.arr {e : TypeId} {len z : Nat} {xs ys : Array Value} {b : Bool} (hd : m = d + 1) (ht : P.underlying t = some (.array len e)) (hz : (P.info? e).map (·.size) = some z) (h : EqIs P d e z xs ys (List.range len) b) : EqIn P m t (.agg xs) (.agg ys) b := ⟨fun w => by
 subst hd
 cases hi : P.info? e with
 | none => rw [hi] at hz; cases hz
 | some i =>
   rw [run_equalIn_array w d xs ys ht hi]
   have hc : P.cellsOf e = z := by rw [hi] at hz; simpa [Program.cellsOf, hi] using hz
   rw [hc]; exact h.go w⟩
theorem EqIs.nil {e : TypeId} {c : Nat} {xs ys : Array Value} : EqIs P d e c xs ys [] true := ⟨fun w => by simp [Op.eqItems]⟩
theorem EqIs.cons {e : TypeId} {c i : Nat} {is : List Nat} {xs ys : Array Value} {a b : Bool} {x y : Value} (hx : ∀ w, (part e xs (i * c)).run P w = .ok x w) (hy : ∀ w, (part e ys (i * c)).run P w = .ok y w) (h : EqIn P d e x y a) (hr : EqIs P d e c xs ys is b) : EqIs P d e c xs ys (i :: is) (a && b) := ⟨fun w => by
 unfold Op.eqItems
 simp only [Sem.run_bind, hx w, Result.andThen_ok, hy w, h.go w]
 cases a
 · simp
 · simpa using hr.go w⟩
theorem EqFs.nil {xs ys : Array Value} : EqFs P d xs ys [] true := ⟨fun w => by simp [Op.eqFields]⟩
theorem EqFs.cons {xs ys : Array Value} {f : Field} {fs : List Field} {a b : Bool} {x y : Value} (hn : f.name ≠ "_") (hx : ∀ w, (part f.type xs f.offset).run P w = .ok x w) (hy : ∀ w, (part f.type ys f.offset).run P w = .ok y w)
   (h : EqIn P d f.type x y a) (hr : EqFs P d xs ys fs b) : EqFs P d xs ys (f :: fs) (a && b) := ⟨fun w => by
 unfold Op.eqFields
 rw [if_pos hn]
 simp only [Sem.run_bind, hx w, Result.andThen_ok, hy w, h.go w]
 cases a
 · simp
 · simpa using hr.go w⟩
theorem EqFs.last {xs ys : Array Value} {f : Field} {a : Bool} {x y : Value} (hn : f.name ≠ "_") (hx : ∀ w, (part f.type xs f.offset).run P w = .ok x w) (hy : ∀ w, (part f.type ys f.offset).run P w = .ok y w)
   (h : EqIn P d f.type x y a) : EqFs P d xs ys [f] a := by simpa using EqFs.cons hn hx hy h EqFs.nil
end
section
variable {P : Program} {n : Nat} {C : World → Prop} {ρ : Sl0} {d : Option Nat} {t : TypeId} {pos : String} {af : Array Edge} {g : Option (Nat × Bool)} {x y : Operand} {tx ty : TypeId}
theorem V.eqst {cs ds : Array Value} {b : Bool} (hg : P.eqGuardType P.depth tx = false) (h : EqIn P 10000 tx (.agg cs) (.agg ds) b) (hx : ev n ρ x = .agg cs) (hy : ev n ρ y = .agg ds) : Val P n C ρ ⟨d, .binOp .eql tx x y ty, t, pos, af, g⟩ (.bool b) := fun w _ => by
 have e1 := run_eqGuard_agg (w := w) (P := P) .eql tx x y cs ds hg
 have e2 := run_eql_struct (w := w) (P := P) tx cs ds
 rw [h.go w] at e2
 simp only [execOp, hx, hy]
 simp [e1, e2]
theorem V.nest {cs ds : Array Value} {b : Bool} (hg : P.eqGuardType P.depth tx = false) (h : EqIn P 10000 tx (.agg cs) (.agg ds) b) (hx : ev n ρ x = .agg cs) (hy : ev n ρ y = .agg ds) : Val P n C ρ ⟨d, .binOp .neq tx x y ty, t, pos, af, g⟩ (.bool (!b)) := fun w _ => by
 have e1 := run_eqGuard_agg (w := w) (P := P) .neq tx x y cs ds hg
 have e2 := run_neq_struct (w := w) (P := P) tx cs ds
 rw [h.go w] at e2
 simp only [execOp, hx, hy]
 simp [e1, e2]
theorem V.sn_eql {e : TypeId} {p : Option Addr} {l c : Nat} (ht : P.underlying tx = some (.slice e)) (hx : ev n ρ x = .slice p l c) (hy : ev n ρ y = .slice none 0 0) : Val P n C ρ ⟨d, .binOp .eql tx x y ty, t, pos, af, g⟩ (.bool p.isNone) := fun w _ => by
 have := run_equal_slice_nil (P := P) (w := w) tx e p l c ht
 simp only [execOp, hx, hy]
 simp only [binOp]
 simp [eqGuard, this]
theorem V.sn_neq {e : TypeId} {p : Option Addr} {l c : Nat} (ht : P.underlying tx = some (.slice e)) (hx : ev n ρ x = .slice p l c) (hy : ev n ρ y = .slice none 0 0) : Val P n C ρ ⟨d, .binOp .neq tx x y ty, t, pos, af, g⟩ (.bool (!p.isNone)) := fun w _ => by
 have := run_neq_slice_nil (P := P) (w := w) tx e p l c ht
 simp only [execOp, hx, hy]
 simp [eqGuard, this]
end
section
variable {α β : Type}
noncomputable def both (a b : Option α) : Option α := open Classical in if a = b then a else none
theorem both_some {a b : Option α} {r : α} (h : both a b = some r) : a = some r ∧ b = some r := by
 unfold both at h; split at h
 · rename_i e; exact ⟨h, e ▸ h⟩
 · cases h
theorem both_self (a : Option α) : both a a = a := by simp [both]
noncomputable def nilb (x : List β) (a b : Option α) : Option α := if x.isEmpty then both a b else b
theorem nilb_nil {x : List β} {a b : Option α} {r : α} (hx : x = []) (h : nilb x a b = some r) : a = some r := by
 subst hx; exact (both_some h).1
theorem nilb_cons {x : List β} {a b : Option α} {r : α} (h : nilb x a b = some r) : b = some r := by
 unfold nilb at h; split at h
 · exact (both_some h).2
 · exact h
theorem nilb_eq {x : List β} {a b : Option α} (h : x = [] → a = b) : nilb x a b = b := by
 unfold nilb; split
 · rename_i e; rw [h (by simpa using e), both_self]
 · rfl
end
theorem Is.int_eq {K : Hp} {k : IntKind} {cs : List Value} {x : Int} (h : Is K (.int k) cs x) : cs = [.int k x] := by simpa only [Is] using h
theorem Is.bool_eq {K : Hp} {cs : List Value} {x : Bool} (h : Is K .bool cs x) : cs = [.bool x] := by simpa only [Is] using h
theorem Is.str_eq {K : Hp} {cs : List Value} {x : List UInt8} (h : Is K .str cs x) : cs = [.string ⟨x.toArray⟩] := by simpa only [Is] using h
theorem Is.emp_eq {K : Hp} {cs : List Value} {x : Tp.emp.den} (h : Is K .emp cs x) : cs = [] := by simpa only [Is] using h
theorem Is.one_eq {K : Hp} {a : Tp} {cs : List Value} {x : a.den} (h : Is K (.one a) cs x) : Is K a cs x := by simpa only [Is] using h
theorem Is.cons_eq {K : Hp} {a r : Tp} {cs : List Value} {x : a.den × r.den} (h : Is K (.cons a r) cs x) : ∃ c1 c2, cs = c1 ++ c2 ∧ c1.length = a.size ∧ Is K a c1 x.1 ∧ Is K r c2 x.2 := by simpa only [Is] using h
theorem Is.sl_eq {K : Hp} {e : Tp} {cs : List Value} {x : List e.den} (h : Is K (.sl e) cs x) : ∃ ad cp, cs = [.slice ad x.length cp] ∧ Is K (.sl e) [.slice ad x.length cp] x := by
 have h' := h
 simp only [Is] at h'
 obtain ⟨ad, cp, rfl, _⟩ := h'
 exact ⟨ad, cp, rfl, h⟩
theorem IsV.int_eq {K : Hp} {k : IntKind} {v : Value} {x : Int} (h : IsV K (.int k) v x) : v = .int k x := by simpa only [IsV, Is, List.cons.injEq, and_true] using h
theorem IsV.bool_eq {K : Hp} {v : Value} {x : Bool} (h : IsV K .bool v x) : v = .bool x := by simpa only [IsV, Is, List.cons.injEq, and_true] using h
theorem IsV.str_eq {K : Hp} {v : Value} {x : List UInt8} (h : IsV K .str v x) : v = .string ⟨x.toArray⟩ := by simpa only [IsV, Is, List.cons.injEq, and_true] using h
theorem IsV.sl_eq {K : Hp} {e : Tp} {v : Value} {x : List e.den} (h : IsV K (.sl e) v x) : ∃ ad cp, v = .slice ad x.length cp ∧ Is K (.sl e) [.slice ad x.length cp] x := by
 obtain ⟨ad, cp, h1, h2⟩ := Is.sl_eq h
 exact ⟨ad, cp, by simpa using h1, h2⟩
theorem IsV.emp_eq {K : Hp} {v : Value} {x : Tp.emp.den} (h : IsV K .emp v x) : ∃ cs : List Value, v = .agg cs.toArray ∧ Is K .emp cs x := h
theorem IsV.one_eq {K : Hp} {a : Tp} {v : Value} {x : a.den} (h : IsV K (.one a) v x) : ∃ cs : List Value, v = .agg cs.toArray ∧ Is K (.one a) cs x := h
theorem IsV.cons_eq {K : Hp} {a r : Tp} {v : Value} {x : a.den × r.den} (h : IsV K (.cons a r) v x) : ∃ cs : List Value, v = .agg cs.toArray ∧ Is K (.cons a r) cs x := h
theorem Sep.nrow {E : En} {K K0 : Hp} {L : List Atom} {w : World} {e : TypeId} {t : Tp} {ad : Option Addr} {m n c : Nat} {xs : List t.den} (hl : m = n) (hs : Sep E K (Row K0 e t (.slice ad m c) xs :: L) w) : Sep E K (Row K0 e t (.slice ad n c) xs :: L) w := by subst hl; exact hs
theorem Is.n_eq {K : Hp} {t : Tp} {ad : Option Addr} {n c : Nat} {x : List t.den} (hl : x.length = n) (h : Is K (.sl t) [.slice ad n c] x) : Is K (.sl t) [.slice ad x.length c] x := by subst hl; exact h
theorem Row.len {K : Hp} {e : TypeId} {t : Tp} {ad : Option Addr} {n c : Nat} {xs : List t.den} : ∀ h, Row K e t (.slice ad n c) xs h → xs.length = n := fun h hr => by
 obtain ⟨ad', c', e1, _⟩ := Row.form h hr
 simp only [Value.slice.injEq] at e1
 exact e1.2.1.symm
theorem Is.nil_of {K : Hp} {t : Tp} {n c : Nat} {x : List t.den} (h : Is K (.sl t) [.slice none n c] x) : x = [] := by
 obtain ⟨ad, c', h1, h2, h3, h4⟩ := h
 cases h1
 exact List.length_eq_zero_iff.1 (by first | exact (h2 rfl) | exact (h2 rfl).1 | simp_all)
theorem hn_nil {α : Type} {x : List α} (h : x ≠ [] → ∃ g, (none : Option Addr) = some ⟨g, 0, none⟩) : x = [] := by
 cases x with
 | nil => rfl
 | cons a x => obtain ⟨g, e⟩ := h (by simp); cases e
end
section
section
variable {P : Program} {n : Nat} {C : World → Prop} {ρ : Sl0} {d : Option Nat} {t : TypeId} {pos : String} {af : Array Edge} {g : Option (Nat × Bool)} {x y : Operand} {tx ty : TypeId}
theorem run_equal_func_nil {w : World} (t : TypeId) {a b c} (f : Fn) (u v : Array Value) (h : P.underlying t = some (.func a b c)) : (Op.equal t (.func f u v) .nilFunc).run P w = .ok false w := by
 show (Op.equalIn (9999 + 1) t (.func f u v) .nilFunc).run P w = .ok false w
 rw [Op.equalIn]
 simp [run_underlying h]
theorem V.fn_eql {a b c} {f : Fn} {u v : Array Value} (ht : P.underlying tx = some (.func a b c)) (hx : ev n ρ x = .func f u v) (hy : ev n ρ y = .nilFunc) : Val P n C ρ ⟨d, .binOp .eql tx x y ty, t, pos, af, g⟩ (.bool false) := fun w _ => by
 have := run_equal_func_nil (P := P) (w := w) tx f u v ht
 simp only [execOp, hx, hy]
 simp only [binOp]
 simp [eqGuard, this]
theorem V.fn_neq {a b c} {f : Fn} {u v : Array Value} (ht : P.underlying tx = some (.func a b c)) (hx : ev n ρ x = .func f u v) (hy : ev n ρ y = .nilFunc) : Val P n C ρ ⟨d, .binOp .neq tx x y ty, t, pos, af, g⟩ (.bool true) := fun w _ => by
 have := run_equal_func_nil (P := P) (w := w) tx f u v ht
 simp only [execOp, hx, hy]
 simp only [binOp]
 simp [eqGuard, this]
end
noncomputable def lev {α : Type} (g : Nat → Option α) : Option α := open Classical in if h : ∃ r N, ∀ n, N ≤ n → g n = some r then some h.choose else none
theorem lev_some {α : Type} {g : Nat → Option α} {r : α} (h : lev g = some r) : ∃ n, g n = some r := by
 unfold lev at h
 split at h
 · rename_i hex
   obtain ⟨N, hN⟩ := hex.choose_spec
   exact ⟨N, (hN N (Nat.le_refl _)).trans h⟩
 · cases h
theorem lev_eq {α : Type} {g : Nat → Option α} {r : α} (N : Nat) (h : ∀ n, N ≤ n → g n = some r) : lev g = some r := by
 unfold lev
 have hex : ∃ r N, ∀ n, N ≤ n → g n = some r := ⟨r, N, h⟩
 rw [dif_pos hex]
 obtain ⟨M, hM⟩ := hex.choose_spec
 have h1 := hM (max N M) (Nat.le_max_right _ _)
 rw [h (max N M) (Nat.le_max_left _ _)] at h1
 exact h1.symm
def mk {α : Type} (len cap : Int) (z : α) : Option (List α) := if 0 ≤ len ∧ len ≤ cap ∧ cap ≤ 1073741824 then some (List.replicate len.toNat z) else none
theorem mk_some {α : Type} {len cap : Int} {z : α} {r : List α} (h : mk len cap z = some r) : 0 ≤ len ∧ len ≤ cap ∧ cap ≤ 1073741824 ∧ List.replicate len.toNat z = r := by
 unfold mk at h; split at h
 · rename_i hh; cases h; exact ⟨hh.1, hh.2.1, hh.2.2, rfl⟩
 · cases h
theorem mk_eq {α : Type} {len cap : Int} {z : α} (h1 : 0 ≤ len) (h2 : len ≤ cap) (h3 : cap ≤ 1073741824) : mk len cap z = some (List.replicate len.toNat z) := by unfold mk; rw [if_pos ⟨h1, h2, h3⟩]
theorem mkN {α : Type} {k : Nat} {z : α} (h : k ≤ 1073741824) : mk (k : Int) (k : Int) z = some (List.replicate k z) := by rw [mk_eq (by omega) (by omega) (by omega)]; simp
theorem Els.zrow {K : Hp} {t : Tp} {z : List Value} {x : t.den} (h : Is K t z x) : ∀ n, Els K t (zrow n z) (List.replicate n x)
 | 0 => rfl
 | n + 1 => ⟨z, _, rfl, h, Els.zrow h n⟩
theorem zrow_take (z : List Value) : ∀ (n m : Nat), n ≤ m → (zrow m z).take (n * z.length) = zrow n z
 | 0, m, _ => by simp [zrow]
 | n + 1, m + 1, h => by
   unfold zrow
   rw [Nat.succ_mul, Nat.add_comm, List.take_length_add_append, zrow_take z n m (by omega)]
section
variable {P : Program} {E : En} {n : Nat} {ρ : Sl0} {K : Hp} {L : List Atom} {d : Nat} {t : TypeId} {pos : String} {af : Array Edge} {g : Option (Nat × Bool)} {x y c : Operand} {u v : Value}
theorem A.make {s e : TypeId} {z : Value} {sz bt : Nat} {len cap : Int} {k1 k2 : IntKind} {K0 : Hp} {ty : Tp} {x0 : ty.den} (hs : P.underlying s = some (.slice e)) (hi : Inf P e z sz bt) (hty : ty.size = sz) (hz0 : Is K0 ty z.cells.toList x0) (hpos : 0 < sz) (hbt : bt ≤ 100000)
   (hx : ev n ρ x = .int k1 len) (hy : ev n ρ y = .int k2 cap) {zs : List ty.den} (hz : mk len cap x0 = some zs) :
   Ao P E n ⟨some d, .makeSlice s x y, t, pos, af, g⟩ ρ K L (fun ρ' K' L' => ∃ b, ρ' = upd ρ d (.slice (some ⟨b, 0, none⟩) zs.length cap.toNat) ∧ K = K' ∧ L' = Row K0 e ty (.slice (some ⟨b, 0, none⟩) zs.length cap.toNat) zs :: L) :=
 Ao.of rfl (fun w hsep => by
   obtain ⟨h1, h2, h3, rfl⟩ := mk_some hz
   obtain ⟨i, i1, i2, i3, i4⟩ := hi.open
   have hzl : z.cells.toList.length = sz := by rw [hz0.len, hty]
   have hb : (i.bytes : Int) * cap ≤ 281474976710656 := by
     have a1 : (i.bytes : Int) ≤ 100000 := by omega
     have a2 : (i.bytes : Int) * cap ≤ 100000 * cap := Int.mul_le_mul_of_nonneg_right a1 (by omega)
     omega
   have hr := run_make (P := P) w s e i z hs i1 i2 k1 k2 len cap h1 h2 hb (by omega)
   have hc : madeCells z.cells (cap.toNat * i.size) = (zrow cap.toNat z.cells.toList).toArray := by
     have e := zrow_eq z.cells (by rw [← Array.length_toList]; omega) cap.toNat
     unfold madeCells
     rw [i3]
     rw [show sz = z.cells.size by rw [← Array.length_toList]; omega]
     exact e
   rw [hc] at hr
   have hsz : i.size = sz := i3
   have hrow : Sep E K (Row K0 e ty (.slice (some ⟨w.heap.size, 0, none⟩) (List.replicate len.toNat x0).length cap.toNat) (List.replicate len.toNat x0) :: L) (w.alloc (.cells (zrow cap.toNat z.cells.toList).toArray e)) := by
     refine (Sep.alloc hsep e (zrow cap.toNat z.cells.toList).toArray).mono (fun h hh => ?_)
     obtain rfl : h = _ := hh
     refine ⟨zrow len.toNat z.cells.toList, Els.zrow hz0 _, by rw [zrow_len, List.length_replicate, hzl, hty], .inr ⟨w.heap.size, cap.toNat, (zrow cap.toNat z.cells.toList).toArray, by simp, by simp, by simp; omega, by unfold maxLen; omega, by rw [List.size_toArray, zrow_len, hzl, hty], ?_⟩⟩
     rw [List.length_replicate, hty, ← hzl]
     exact zrow_take _ _ _ (by omega)
   refine ⟨.slice (some ⟨w.heap.size, 0, none⟩) len.toNat cap.toNat, _, K, _, ?_, hrow, w.heap.size, by simp, rfl, rfl⟩
   simp [execOp, hx, hy, hr])
end
theorem Els.put {K : Hp} {t : Tp} : ∀ {xs : List t.den} {cs : List Value}, Els K t cs xs → ∀ (i : Nat) (y : t.den) (ds : List Value), i < xs.length → Is K t ds y → Els K t (cs.take (i * t.size) ++ ds ++ cs.drop (i * t.size + t.size)) (xs.set i y)
 | [], cs, h, i, y, ds, hi, _ => by simp at hi
 | z :: xs, cs, h, 0, y, ds, hi, hd => by
   obtain ⟨es, r, rfl, h1, h2⟩ := h
   refine ⟨ds, r, ?_, hd, h2⟩
   rw [Nat.zero_mul, Nat.zero_add, List.take_zero, List.nil_append, ← h1.len, List.drop_left]
 | z :: xs, cs, h, i + 1, y, ds, hi, hd => by
   obtain ⟨es, r, rfl, h1, h2⟩ := h
   refine ⟨es, _, ?_, h1, Els.put h2 i y ds (by simpa using hi) hd⟩
   have e : (i + 1) * t.size = es.length + i * t.size := by rw [h1.len, Nat.succ_mul, Nat.add_comm]
   rw [e, List.take_length_add_append, Nat.add_assoc, ← List.drop_drop (i := i * t.size + t.size) (j := es.length), List.drop_left]
   simp only [List.append_assoc]
section
variable {P : Program} {E : En} {n : Nat} {ρ : Sl0} {K : Hp} {L : List Atom} {d : Nat} {t : TypeId} {pos : String} {af : Array Edge} {g : Option (Nat × Bool)} {x y c : Operand} {u v : Value}
theorem A.storeE {s e : TypeId} {ad : Option Addr} {b j m cap sz : Nat} {K0 Kr : Hp} {ty : Tp} {xs : List ty.den} {x0 y0 : ty.den} {o : Nat} {ds : List Value} (hz : (P.info? s).map (·.size) = some sz) (hx : ev n ρ x = .pointer (some ⟨b, o, none⟩)) (hy : ev n ρ y = v) (hl : v.cells.toList = ds) (h1' : ds.all (fun u => u.oneCell') = true) (he : ad = some ⟨b, 0, none⟩)
   (hj : xs[j]? = some x0) (ho : o = j * ty.size) (hsz : sz = ty.size) (hd : Is Kr ty ds y0) (f0 : ∀ {xs cs}, Els K0 ty cs xs → Els Kr ty cs xs) {zs : List ty.den} (hzs : xs.set j y0 = zs) :
   Ao P E n ⟨none, .store s x y, t, pos, af, g⟩ ρ K (Row K0 e ty (.slice ad m cap) xs :: L) (fun ρ' K' L' => ρ = ρ' ∧ K = K' ∧ L' = Row Kr e ty (.slice ad m cap) zs :: L) :=
 Ao.ofU rfl (fun w hsep => by
   subst hzs
   subst he
   have h1 : ∀ u ∈ ds, u.oneCell' = true := List.all_eq_true.1 h1'
   obtain ⟨h, ⟨cs, h2, hlen, h3⟩, hd0, hs2⟩ := hsep
   rcases h3 with ⟨h3, _⟩ | ⟨gb, cp, cur, h3, rfl, h4, h5, h6, h7⟩
   · cases h3
   simp only [Value.slice.injEq, Option.some.injEq, Addr.mk.injEq, and_true] at h3
   obtain ⟨rfl, hm, rfl⟩ := h3
   have hblk : w.heap[b]? = some (.cells cur e (0, 0)) := hs2.sub b _ (Hp.join_right (one_of b _) (hd0 b _ (one_of b _)))
   have hjx : j < xs.length := (List.getElem?_eq_some_iff.1 hj).1
   have hle : (j + 1) * ty.size ≤ xs.length * ty.size := Nat.mul_le_mul_right _ (by omega)
   have hle2 : xs.length * ty.size ≤ cap * ty.size := Nat.mul_le_mul_right _ (by omega)
   rw [Nat.succ_mul] at hle
   have hdl : ds.length = ty.size := hd.len
   have hcl : cs.length = xs.length * ty.size := hlen
   have hcz : cur.toList.length = cap * ty.size := by rw [Array.length_toList]; exact h6
   have L1 : (cur.toList.take (j * ty.size)).length = j * ty.size := by rw [List.length_take, hcz]; omega
   have L2 : (cs.take (j * ty.size)).length = j * ty.size := by rw [List.length_take, hcl]; omega
   have hvs : v.cells.size = ds.length := by rw [← hl, Array.length_toList]
   subst hsz
   subst ho
   cases hi : P.info? s with
   | none => rw [hi] at hz; simp at hz
   | some i' =>
     rw [hi] at hz
     simp at hz
     have h8 := run_storeCells_at P b (j * ty.size) e ds 0 cur w hblk (by rw [hdl, ← Array.length_toList, hcz]; omega) h1
     simp only [Nat.add_zero] at h8
     refine ⟨w.setRow b (cur.toList.take (j * ty.size) ++ ds ++ cur.toList.drop (j * ty.size + ds.length)).toArray, K, _, ?_, ?_, rfl, rfl, rfl⟩
     · simp [execOp, hx, hy, Instr.storeAt, Instr.sureAddr, storeVar, sizeOf, typeInfo, hi, hz, hvs, hdl, hl]
       rw [hdl] at h8
       rw [h8]; simp
     · refine Sep.turn (A := fun h => h = one b (.cells cur e (0, 0))) ⟨_, rfl, hd0, hs2⟩ (fun e => e) (fun h0 ha _ => ?_)
       obtain rfl : h0 = _ := ha
       refine ⟨one b (.cells (cur.toList.take (j * ty.size) ++ ds ++ cur.toList.drop (j * ty.size + ds.length)).toArray e (0, 0)), ⟨cs.take (j * ty.size) ++ ds ++ cs.drop (j * ty.size + ty.size), (f0 h2).put j y0 ds hjx hd, ?_, .inr ⟨b, cap, _, by simp [hm], rfl, by simpa using h4, h5, ?_, ?_⟩⟩, fun n o' e' => ?_, fun n o' e' h1 => ?_⟩
       · rw [List.length_append, List.length_append, L2, List.length_drop, hcl, hdl, List.length_set]; omega
       · rw [List.size_toArray, List.length_append, List.length_append, L1, List.length_drop, hcz, hdl]; omega
       · rw [List.length_set, ← h7]
         rw [List.take_take, Nat.min_eq_left (by omega), List.append_assoc, List.take_append, List.take_append, L1, List.take_take, Nat.min_eq_right (by omega), List.take_of_length_le (l := ds) (by omega), List.drop_take, hdl, List.append_assoc, Nat.sub_sub]
       · obtain ⟨rfl, rfl⟩ := one_some e'
         exact ⟨setRow_heap w n _ _ e (0, 0) hblk, fun h => by rw [one_of] at h; cases h⟩
       · have hn : n ≠ b := fun e => by subst e; rw [one_of] at h1; cases h1
         rw [setRow_other w b n _ hn]; exact e')
end
def toU8 (l : List Int) : List UInt8 := l.map fun n => UInt8.ofNat n.toNat
theorem foldl_push8 : ∀ (ns : List Int) (s : ByteArray), ns.foldl (fun r n => r.push (UInt8.ofNat n.toNat)) s = ⟨s.data ++ (toU8 ns).toArray⟩
 | [], s => by simp [toU8]
 | n :: ns, s => by
   rw [List.foldl_cons, foldl_push8 ns]
   simp [ByteArray.push, toU8]
theorem els_u8 {K : Hp} {k : IntKind} : ∀ {cs : List Value} {xs : List Int}, Els K (.int k) cs xs → cs = xs.map (Value.int k)
 | cs, [], h => h
 | cs, x :: xs, h => by
   obtain ⟨es, r, rfl, h1, h2⟩ := h
   simp only [Is] at h1
   subst h1
   rw [els_u8 h2]; rfl
section
variable {P : Program} {E : En} {n : Nat} {C : World → Prop} {ρ : Sl0} {K K0 : Hp} {R L : List Atom} {d : Option Nat} {t : TypeId} {pos : String} {af : Array Edge} {g : Option (Nat × Bool)} {x y c : Operand} {u v : Value}
theorem run_b2s {w : World} {src dst e : TypeId} {ad : Option Addr} {m cp : Nat} {xs : List Int} (hs : P.underlying src = some (.slice e)) (he : P.underlying e = some (.int .u8)) (hd : P.underlying dst = some .string) (hl : m = xs.length)
   (h : ∀ b, ad = some b → ∀ j u, (xs.map (Value.int .u8))[j]? = some u → w.cell? (b.add j) = some u) (hn : ad = none → xs = []) : (convert src dst (.slice ad m cp)).run P w = .ok (.string ⟨(toU8 xs).toArray⟩) w := by
 rw [run_convert_bytes_string w src dst e ad m cp hs he hd]
 cases ad with
 | none => rw [hn rfl]; rfl
 | some b =>
   have h1 := run_loadCells_list (P := P) w b (xs.map (Value.int .u8)) (fun j u hj => h b rfl j u hj)
   rw [List.length_map, ← hl] at h1
   rw [run_bytesToString w b m cp xs h1, foldl_push8]
   simp
theorem V.b2sK {src dst e : TypeId} {ad : Option Addr} {m cp : Nat} {xs : List Int} (hs : P.underlying src = some (.slice e)) (he : P.underlying e = some (.int .u8)) (hd : P.underlying dst = some .string) (hx : ev n ρ x = .slice ad m cp)
   (h : Is K0 (.sl (.int .u8)) [.slice ad m cp] xs) (k : K0.le K) : Val P n (Hold E K R) ρ ⟨d, .convert src dst x, t, pos, af, g⟩ (.string ⟨(toU8 xs).toArray⟩) := fun w ⟨K', L', h1, h2⟩ => by
 have hm : m = xs.length ∧ ∀ b, ad = some b → ∀ j u, (xs.map (Value.int .u8))[j]? = some u → w.cell? (b.add j) = some u := by
   cases ad with
   | none => obtain ⟨rfl, rfl⟩ := h.nil_len; exact ⟨rfl, fun b hb => by cases hb⟩
   | some b =>
     obtain ⟨cs, a1, a2, a3⟩ := h.cells (by decide)
     obtain rfl := els_u8 a1
     exact ⟨a2, fun b' hb => by cases hb; exact a3 w ((k.trans h1).trans h2.sub)⟩
 have := run_b2s (P := P) (w := w) (cp := cp) hs he hd hm.1 hm.2 (fun e => by subst e; exact h.nil_len.1)
 simp [execOp, hx, this]
theorem V.b2sR (i : Nat) {src dst e e2 : TypeId} {ad : Option Addr} {m cp : Nat} {xs : List Int} (hi : R[i]? = some (Row K0 e2 (.int .u8) (.slice ad m cp) xs)) (hs : P.underlying src = some (.slice e)) (he : P.underlying e = some (.int .u8)) (hd : P.underlying dst = some .string) (hx : ev n ρ x = .slice ad m cp) :
   Val P n (Hold E K R) ρ ⟨d, .convert src dst x, t, pos, af, g⟩ (.string ⟨(toU8 xs).toArray⟩) := fun w ⟨K', L', h1, h2⟩ => by
 obtain ⟨h0, hr, h5, h6⟩ := Sep.front i (by rw [List.getElem?_append_left (List.getElem?_eq_some_iff.1 hi).1]; exact hi) h2
 obtain ⟨ad', cap', hv, _, _, hne⟩ := Row.form h0 hr
 simp only [Value.slice.injEq] at hv
 obtain ⟨rfl, rfl, rfl⟩ := hv
 obtain ⟨cs, a1, a2⟩ := hr
 obtain rfl := els_u8 a1
 have hc : ∀ b, ad = some b → ∀ j u, (xs.map (Value.int .u8))[j]? = some u → w.cell? (b.add j) = some u := fun b hb j u hj => by
   obtain ⟨g, cap, hv, hcell⟩ := a2.cells j u hj
   simp only [Value.slice.injEq] at hv
   rw [hb] at hv
   obtain ⟨hv, _⟩ := hv
   cases hv
   rw [addr_add, Nat.zero_add]
   exact cellK_world h6.sub (cellK_le (fun n o e => Hp.join_right e (h5 n o e)) hcell)
 have := run_b2s (P := P) (w := w) (cp := cp) hs he hd rfl hc (fun e => by
   subst e
   cases hxs : xs with
   | nil => rfl
   | cons a l => obtain ⟨g, hg⟩ := hne (by simp [hxs]); cases hg)
 simp [execOp, hx, this]
end
def optc {α β : Type} (x : Option α) (a : Option β) (f : α → Option β) : Option β := match x with | none => a | some y => f y
theorem optc_none {α β : Type} {x : Option α} {a : Option β} {f : α → Option β} {r : β} (hx : x = none) (h : optc x a f = some r) : a = some r := by subst hx; exact h
theorem optc_some {α β : Type} {x : Option α} {a : Option β} {f : α → Option β} {r : β} {y : α} (hx : x = some y) (h : optc x a f = some r) : f y = some r := by subst hx; exact h
theorem Is.pnil {K : Hp} {t : Tp} {x : Option t.den} : ∀ {v : Value}, Is K (.ptr t) [v] x → x = none → v = .pointer none := fun h e => by subst e; exact h.ptr0
theorem Is.psome {K : Hp} {t : Tp} {x : Option t.den} {y : t.den} : ∀ {v : Value}, Is K (.ptr t) [v] x → x = some y → ∃ b o, v = .pointer (some ⟨b, o, none⟩) ∧ At K t b o y := fun h e => by subst e; exact h.ptr
theorem Is.ptr_nil {K : Hp} {t : Tp} : Is K (.ptr t) [.pointer none] (none : Option t.den) := .inl ⟨rfl, rfl⟩
theorem At.is_ptr {K : Hp} {t : Tp} {b o : Nat} {y : t.den} (h : At K t b o y) : Is K (.ptr t) [.pointer (some ⟨b, o, none⟩)] (some y) := by
 obtain ⟨es, h1, h2, h3⟩ := h
 exact .inr ⟨y, b, o, rfl, rfl, es, h1, h2, h3⟩
theorem Sep.persistAt {E : En} {K : Hp} {L : List Atom} {w : World} {b : Nat} {e : TypeId} {t : Tp} {cs : List Value} {x : t.den} (h : Is K t cs x) (hs : Sep E K (Cl b e cs :: L) w) : ∃ K', K.le K' ∧ At K' t b 0 x ∧ Sep E K' L w := by
 obtain ⟨K', h1, h2, h3⟩ := hs.persistCl
 refine ⟨K', h1, ⟨cs, h.len, h.mono h1, fun j hj => ?_⟩, h3⟩
 have hj' : j < cs.length := by rw [h.len]; exact hj
 rw [List.getElem?_eq_getElem hj', Nat.zero_add]
 exact h2 j _ (List.getElem?_eq_getElem hj')
section
variable {P : Program} {E : En} {n : Nat} {Φ : Post} {N : Sl0 → Hp → List Atom → Prop} {ρ : Sl0} {K K0 : Hp} {L R : List Atom} {ops : Array Oper} {C : World → Prop} {X : Act → World → Prop} {e : TypeId} {t : Tp} {b : Nat} {cs : List Value} {x : t.den}
theorem J.persistAt {l : List Oper} (k : Is K t cs x) (h : ∀ K', K.le K' → At K' t b 0 x → J P E n ops l Φ ρ K' L) : J P E n ops l Φ ρ K (Cl b e cs :: L) := ⟨fun w hs => let ⟨K', h1, h2, h3⟩ := hs.persistAt k; (h K' h1 h2).go w h3⟩
theorem CJ.persistAt {c : Code} (k : Is K t cs x) (h : ∀ K', K.le K' → At K' t b 0 x → CJ P E n c Φ ρ K' L) : CJ P E n c Φ ρ K (Cl b e cs :: L) := ⟨fun w hs => let ⟨K', h1, h2, h3⟩ := hs.persistAt k; (h K' h1 h2).go w h3⟩
theorem PJ.persistAt (k : Is K t cs x) (h : ∀ K', K.le K' → At K' t b 0 x → PJ E N ρ K' L) : PJ E N ρ K (Cl b e cs :: L) := ⟨fun w hs => let ⟨K', h1, h2, h3⟩ := hs.persistAt k; (h K' h1 h2).go w h3⟩
theorem JA.persistAt {o : Oper} {r : List (List Oper × Oper)} (k : Is K t cs x) (h : ∀ K', K.le K' → At K' t b 0 x → JA P E n ops C X o r ρ K' L) : JA P E n ops C X o r ρ K (Cl b e cs :: L) := ⟨fun w hs => let ⟨K', h1, h2, h3⟩ := hs.persistAt k; (h K' h1 h2).go w h3⟩
end
section
variable {P : Program} {n : Nat} {C : World → Prop} {ρ : Sl0} {d : Option Nat} {t : TypeId} {pos : String} {af : Array Edge} {g : Option (Nat × Bool)} {x y : Operand} {tx ty e : TypeId} {K : Hp} {tp : Tp} {v : Value}
theorem V.kp_eql {q : Option tp.den} (ht : P.underlying tx = some (.pointer e)) (h : Is K (.ptr tp) [v] q) (hx : ev n ρ x = v) (hy : ev n ρ y = .pointer none) : Val P n C ρ ⟨d, .binOp .eql tx x y ty, t, pos, af, g⟩ (.bool q.isNone) := by
 cases q with
 | none => obtain rfl := h.ptr0; exact V.pn_eql ht hx hy
 | some z => obtain ⟨b, o, rfl, _⟩ := h.ptr; exact V.pn_eql ht hx hy
theorem V.kp_neq {q : Option tp.den} (ht : P.underlying tx = some (.pointer e)) (h : Is K (.ptr tp) [v] q) (hx : ev n ρ x = v) (hy : ev n ρ y = .pointer none) : Val P n C ρ ⟨d, .binOp .neq tx x y ty, t, pos, af, g⟩ (.bool (!q.isNone)) := by
 cases q with
 | none => obtain rfl := h.ptr0; exact V.pn_neq ht hx hy
 | some z => obtain ⟨b, o, rfl, _⟩ := h.ptr; exact V.pn_neq ht hx hy
end
end
end Go.Proofs.YtmlbbjkojaljnaaDoor
