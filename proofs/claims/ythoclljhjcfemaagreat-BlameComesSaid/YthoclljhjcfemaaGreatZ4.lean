/- A part of the proof: what lies ahead of the law. Nothing is claimed here. -/
import Derived.Test.YthoclljhjcfemaaGreatZ3
import Derived.Shelf.Vars
import Derived.Test.YthoclljhjcfemaaGreatRows
import Derived.Lib.RowBridge
namespace Go.Proofs.YthoclljhjcfemaaGreat
open Go.RowKit
set_option linter.unusedVariables false
set_option linter.unusedSimpArgs false
set_option linter.unnecessarySimpa false
section
variable {E : En} {K K0 : Hp} {L : List Atom} {w : World}
theorem Sep.arr {b : Nat} {e : TypeId} {t : Tp} {m : Nat} {cs : List Value} {xs : List t.den} (he : Els Hp.nil t cs xs) (hl : xs.length = m) (hm : Nat.ble m 1048576 = true) (hs : Sep E K (Cl b e cs :: L) w) : Sep E K (Row Hp.nil e t (.slice (some ⟨b, 0, none⟩) m m) xs :: L) w := by
  have hm := Nat.le_of_ble_eq_true hm
  subst hl
  refine hs.mono (fun h ha => ?_)
  obtain rfl : h = _ := ha
  exact ⟨cs, he, he.len, .inr ⟨b, xs.length, cs.toArray, rfl, rfl, Nat.le_refl _, by unfold maxLen; omega, by rw [List.size_toArray]; exact he.len, by simp [← he.len]⟩⟩
end
section
variable {P : Program} {K0 : Hp}
/-- A part of an array. -/
theorem V.subA {tx e : TypeId} {tp : Tp} {b m : Nat} {s z : List tp.den} {l h : Int} (ht : P.underlying tx = some (.array m e)) (hz : (P.info? e).map (·.size) = some tp.size) (hl : s.length = m) (hs : Is K0 (.sl tp) [.slice (some ⟨b, 0, none⟩) m m] s) (hy : subL s l h = some z) :
    ∃ ad' cp', (∀ {n : Nat} {C : World → Prop} {ρ : Sl0} {d : Option Nat} {t : TypeId} {pos : String} {af : Array Edge} {g : Option (Nat × Bool)} {x : Operand} {lo hi : Option Operand}, ev n ρ x = .pointer (some ⟨b, 0, none⟩) → (∀ q, lo = some q → ∃ k, ev n ρ q = .int k l) → (lo = none → l = 0) → (∀ q, hi = some q → ∃ k, ev n ρ q = .int k h) → (hi = none → h = (m : Nat)) →
      Val P n C ρ ⟨d, .slice tx x lo hi none, t, pos, af, g⟩ (.slice ad' z.length cp')) ∧ Is K0 (.sl tp) [.slice ad' z.length cp'] z := by
  subst hl
  obtain ⟨a1, a2, a3, rfl⟩ := subL_some hy
  obtain ⟨l, rfl⟩ := Int.eq_ofNat_of_zero_le a1
  obtain ⟨h, rfl⟩ := Int.eq_ofNat_of_zero_le (show 0 ≤ h by omega)
  have b1 : l ≤ h := by omega
  have b2 : h ≤ s.length := by omega
  simp only [Int.toNat_natCast]
  have hlen : ((s.take h).drop l).length = h - l := by rw [List.length_drop, List.length_take]; omega
  refine ⟨some (if s.length = l then ⟨b, 0, none⟩ else ⟨b, 0 + l * tp.size, none⟩), s.length - l, ?_, by rw [hlen]; exact hs.part l h b1 b2⟩
  intro n C ρ d t pos af g x lo hi hx hl hl0 hh hh0 w _
  rw [hlen]
  cases hi' : P.info? e with
  | none => rw [hi'] at hz; simp at hz
  | some i' =>
    rw [hi'] at hz
    simp at hz
    cases lo with
    | none =>
      have := hl0 rfl
      obtain rfl : l = 0 := by omega
      cases hi with
      | none =>
        have := hh0 rfl
        obtain rfl : h = s.length := by omega
        simp [execOp, hx, Instr.sliceAt, run_underlying ht, Instr.sureAddr, Instr.sliceBounds, sizeOf, typeInfo, hi', hz, addr_add]
      | some q =>
        obtain ⟨k, hq⟩ := hh q rfl
        simp [execOp, hx, hq, Instr.sliceAt, run_underlying ht, Instr.sureAddr, Instr.sliceBounds, Instr.sliceBound, asIntOf, b2, sizeOf, typeInfo, hi', hz, addr_add]
        try (by_cases q : s.length = 0 <;> simp [q])
    | some ql =>
      obtain ⟨k1, hq1⟩ := hl ql rfl
      cases hi with
      | none =>
        have := hh0 rfl
        obtain rfl : h = s.length := by omega
        simp [execOp, hx, hq1, Instr.sliceAt, run_underlying ht, Instr.sureAddr, Instr.sliceBounds, Instr.sliceBound, asIntOf, b1, sizeOf, typeInfo, hi', hz, addr_add]
        try (by_cases q : s.length = l <;> simp [q])
      | some q =>
        obtain ⟨k, hq⟩ := hh q rfl
        simp [execOp, hx, hq, hq1, Instr.sliceAt, run_underlying ht, Instr.sureAddr, Instr.sliceBounds, Instr.sliceBound, asIntOf, b1, b2, sizeOf, typeInfo, hi', hz, addr_add]
        try (by_cases q : s.length = l <;> simp [q])
theorem lt_cap {α : Type} {xs : List α} {i : Int} {m : Nat} (h : i < (xs.length : Nat)) (hl : xs.length = m) : i < (m : Nat) := by subst hl; exact h
end
end Go.Proofs.YthoclljhjcfemaaGreat
namespace Go.Proofs.YthoclljhjcfemaaGreat
open Go.RowKit
set_option linter.unusedVariables false
set_option linter.unusedSimpArgs false
set_option linter.unnecessarySimpa false
theorem Sep.ofBelow {E : En} {K : Hp} {L : List Atom} {w w' : World} (h : Sep E K L w) (b : Below w.heap.size w w') : Sep E K L w' := h.fr (Fr.of_below b)
/-- What is known of the globals. -/
def Gk (K : Hp) : Prop := ∃ m : Int, cellK K 0 0 = some (.int .i64 m)
theorem Gk.mono {K K' : Hp} (h : Gk K) (f : K.le K') : Gk K' := let ⟨m, h⟩ := h; ⟨m, cellK_le f h⟩
theorem Gk.of {W : World} (h : W.ShapedOpen Tryz.prog) : Gk (Hp.of W) :=
  let ⟨m, hm⟩ := Go.Proofs.cell_of_shapedOpen_int (zero := #[.int .i64 0]) (t := 3) h (of_decide_eq_true (by kernel_rfl)) (by kernel_rfl) rfl (by kernel_rfl) (by kernel_rfl) Tryz.underlying3
  ⟨m, cellK_of hm⟩
def joinF (xs : List (List UInt8)) (sep : List UInt8) : Option (List UInt8) := if (Lib.join xs sep).length ≤ 140737488355328 ∧ xs.length ≤ 140737488355328 then some (Lib.join xs sep) else none
theorem els_strs_eq {K : Hp} : ∀ {xs : List (List UInt8)} {cs : List Value}, Els K .str cs xs → cs = xs.map fun x => Value.string ⟨x.toArray⟩
  | [], cs, h => h
  | x :: xs, cs, h => by
    obtain ⟨es, r, rfl, h1, h2⟩ := h
    simp only [Is] at h1
    subst h1
    rw [els_strs_eq h2]; rfl
theorem strings_Join_ok {K : Hp} {xa : List (List UInt8)} {xb : List UInt8} {ad : Option Addr} {cp : Nat} (fa : Is K (.sl .str) [.slice ad xa.length cp] xa) {r : List UInt8} (h : joinF xa xb = some r) :
    Tr Tryz.prog 80 #[.slice ad xa.length cp, .string ⟨xb.toArray⟩] K [] (fun v K' L' => (∃ s1 : List UInt8, s1 = r ∧ v = .string ⟨s1.toArray⟩ ∧ L' = []) ∧ K = K') := by
  refine Tr.k (fun E w F hs => ?_)
  unfold joinF at h
  split at h
  · rename_i hlt
    cases h
    by_cases hx : xa = []
    · subst hx
      refine (Tryz.strings_Join_none ad cp ⟨xb.toArray⟩ w).mono ?_
      rintro e w' ⟨rfl, rfl⟩
      exact ⟨_, K, [], rfl, ⟨[], rfl, rfl, rfl⟩, Hp.le_refl K, hs⟩
    · have fa' := fa
      simp only [Is] at fa
      obtain ⟨ad', cp', e0, a1, a2, a3⟩ := fa
      simp only [List.cons.injEq, Value.slice.injEq, and_true] at e0
      obtain ⟨rfl, _, rfl⟩ := e0
      obtain ⟨b, o, rfl, a4⟩ := a3 hx
      obtain ⟨cs, c1, c2, c3⟩ := fa'.cells (by decide)
      obtain rfl := els_strs_eq c1
      have hc : ∀ (j : Nat) x, (xa.map fun x => (⟨x.toArray⟩ : ByteArray))[j]? = some x → w.cell? ⟨b, o + j, none⟩ = some (.string x) := fun j x hj => by
        have := c3 w hs.sub j (.string x) (by rw [List.getElem?_map] at hj ⊢; cases hq : xa[j]? with
          | none => rw [hq] at hj; simp at hj
          | some q => rw [hq] at hj; simp at hj ⊢; exact hj)
        rwa [addr_add] at this
      have hb : b < w.heap.size := by
        cases xa with
        | nil => exact absurd rfl hx
        | cons q xs =>
          have := hc 0 _ rfl
          unfold World.cell? at this
          simp only at this
          split at this
          · rename_i e; exact lt_of_block e
          · cases this
      have hm : (xa.map fun x => (⟨x.toArray⟩ : ByteArray)).map (·.data.toList) = xa := by simp [Function.comp_def]
      have hl : (xa.map fun x => (⟨x.toArray⟩ : ByteArray)).length = xa.length := by simp
      have := Tryz.strings_Join b o cp (xa.map fun x => (⟨x.toArray⟩ : ByteArray)) ⟨xb.toArray⟩ w hc hb (by rw [hl]; exact hlt.2) (by rw [hl]; exact a1) (by rw [hm]; exact hlt.1)
      rw [hl, hm] at this
      refine this.mono ?_
      rintro e w' ⟨rfl, hbl⟩
      exact ⟨_, K, [], rfl, ⟨_, rfl, rfl, rfl⟩, Hp.le_refl K, hs.ofBelow hbl⟩
  · cases h
end Go.Proofs.YthoclljhjcfemaaGreat
namespace Go.Proofs.YthoclljhjcfemaaGreat
open Go.RowKit
set_option linter.unusedVariables false
set_option linter.unnecessarySimpa false
set_option linter.unusedSimpArgs false
set_option linter.unusedSectionVars false
set_option maxRecDepth 20000
theorem inf121 : Inf Tryz.prog 121 (.agg #[.int .u8 0, .int .u8 0, .int .u8 0, .int .u8 0, .int .u8 0, .int .u8 0, .int .u8 0, .int .u8 0, .int .u8 0, .int .u8 0, .int .u8 0, .int .u8 0, .int .u8 0, .int .u8 0, .int .u8 0, .int .u8 0, .int .u8 0, .int .u8 0, .int .u8 0, .int .u8 0]) 20 20 := by unfold Inf; kernel_rfl
theorem sz5 : (Tryz.prog.info? 5).map (·.size) = some 1 := by kernel_rfl
noncomputable def fn_numeral_Text_l1  : (Int × (List Int) × Int) → Option ((Int × (List Int) × Int) ⊕ List UInt8) := fun ((i262, l263, i266) : (Int × (List Int) × Int)) => (getI l263 (IntKind.wrap .i64 (i266 - 1))).bind fun x295 => (some (l263.set (IntKind.wrap .i64 (i266 - 1)).toNat (IntKind.wrap .u8 (IntKind.wrap .i64 (48 + (Int.tmod i262 10)))))).bind fun z300 => cond (decide ((IntKind.wrap .i64 (Int.tdiv i262 10)) = 0)) ((subL z300 (IntKind.wrap .i64 (i266 - 1)) (((20 : Nat) : Int))).bind fun y308 => some (.inr (toU8 y308))) (some (.inl ((IntKind.wrap .i64 (Int.tdiv i262 10), z300, IntKind.wrap .i64 (i266 - 1)))))
noncomputable def fn_numeral_Text (xa : Int) : Option (List UInt8) :=
  cond (decide (xa < 0)) (some (([] : List UInt8))) (loop (fn_numeral_Text_l1) ((xa, ([0, 0, 0, 0, 0, 0, 0, 0, 0, 0, 0, 0, 0, 0, 0, 0, 0, 0, 0, 0] : List Int), 20)))
set_option maxRecDepth 100000 in
set_option maxHeartbeats 4000000 in
theorem numeral_Text_ok {K : Hp} {xa : Int}   {r : List UInt8} (h : fn_numeral_Text xa = some r) :
    Tr Tryz.prog 30 #[ii xa] K [] (fun v K' L' => (∃ (s157 : List UInt8), s157 = r ∧ .string ⟨s157.toArray⟩ = v ∧ L' = []) ∧ K = K') := by
 refine Tr.k <| Tr.of Tryz.func30 rfl Tryz.ntmps30 rfl fun E F => ?_
 unfold fn_numeral_Text at h
 refine cr <| ja (.string ⟨([] : List UInt8).toArray⟩) rfl <| J.nil <| CJ.seq <| CJ.seq <| CJ.region ?_
 refine jm (ii xa) rfl <| jv (.bool (decide (xa < 0))) (V.lss rfl rfl) <| J.nil <| cc rfl h (fun hc158 h => ?_) fun hc158 h => ?_
 · refine cr <| ja (.string ⟨([] : List UInt8).toArray⟩) rfl <| J.nil <| CJ.ret ?_
   obtain rfl := si h
   exact ⟨_, _, Res.one rfl rfl, ⟨([] : List UInt8), rfl, rfl, rfl⟩, (Hp.le_refl _), fun w hs => hs⟩
 refine CJ.skip <| cr <| jal inf121 [.int .u8 0, .int .u8 0, .int .u8 0, .int .u8 0, .int .u8 0, .int .u8 0, .int .u8 0, .int .u8 0, .int .u8 0, .int .u8 0, .int .u8 0, .int .u8 0, .int .u8 0, .int .u8 0, .int .u8 0, .int .u8 0, .int .u8 0, .int .u8 0, .int .u8 0, .int .u8 0] rfl fun b159 => ?_
 have hl160 : ([0, 0, 0, 0, 0, 0, 0, 0, 0, 0, 0, 0, 0, 0, 0, 0, 0, 0, 0, 0] : List Int).length = 20 := rfl
 refine J.by (fun w hs => Sep.arr (t := (.int .u8)) (xs := ([0, 0, 0, 0, 0, 0, 0, 0, 0, 0, 0, 0, 0, 0, 0, 0, 0, 0, 0, 0] : List Int)) ⟨_, _, rfl, rfl, ⟨_, _, rfl, rfl, ⟨_, _, rfl, rfl, ⟨_, _, rfl, rfl, ⟨_, _, rfl, rfl, ⟨_, _, rfl, rfl, ⟨_, _, rfl, rfl, ⟨_, _, rfl, rfl, ⟨_, _, rfl, rfl, ⟨_, _, rfl, rfl, ⟨_, _, rfl, rfl, ⟨_, _, rfl, rfl, ⟨_, _, rfl, rfl, ⟨_, _, rfl, rfl, ⟨_, _, rfl, rfl, ⟨_, _, rfl, rfl, ⟨_, _, rfl, rfl, ⟨_, _, rfl, rfl, ⟨_, _, rfl, rfl, ⟨_, _, rfl, rfl, rfl⟩⟩⟩⟩⟩⟩⟩⟩⟩⟩⟩⟩⟩⟩⟩⟩⟩⟩⟩⟩ hl160 rfl hs) <| J.nil <| cr <| ja (ii 20) rfl <| J.nil <| CJ.block ?_
 refine CJ.loop (fun s ρ K' L' => ∃ (i262 : Int) (l263 : (List Int)) (i266 : Int), (i262, l263, i266) = s ∧ Fits [(0, ii i262), (3, .pointer (some ⟨b159, 0, none⟩)), (4, ii i266)] ρ ∧ K = K' ∧ L' = Row Hp.nil 121 (.int .u8) (.slice (some ⟨b159, 0, none⟩) 20 20) l263 :: F) h ⟨xa, ([0, 0, 0, 0, 0, 0, 0, 0, 0, 0, 0, 0, 0, 0, 0, 0, 0, 0, 0, 0] : List Int), 20, rfl, ⟨rfl, rfl, rfl, trivial⟩, rfl, rfl⟩ ?_
 rintro s ρ _ _ r294 ⟨i262, l263, i266, rfl, hf292, rfl, rfl⟩ h291
 obtain ⟨ρ, rfl⟩ := hf292.ex
 refine CJ.wit Row.len fun hl265 => CJ.block <| cr <| jm (ii i266) rfl <| jv (ii (IntKind.wrap .i64 (i266 - 1))) (V.sub rfl rfl) <| ja (ii (IntKind.wrap .i64 (i266 - 1))) rfl ?_
 refine J.nil <| cr <| jm (ii (IntKind.wrap .i64 (i266 - 1))) rfl <| jm (ii i262) rfl <| jv (ii (Int.tmod i262 10)) (V.rem rfl rfl (by decide)) <| jv (ii (IntKind.wrap .i64 (48 + (Int.tmod i262 10)))) (V.add rfl rfl) ?_
 refine jv (.int .u8 (IntKind.wrap .u8 (IntKind.wrap .i64 (48 + (Int.tmod i262 10))))) (V.conv Tryz.underlying3 Tryz.underlying5 rfl) ?_
 obtain ⟨x295, hx296, h291⟩ := ob h291
 obtain ⟨p297, p298, p299⟩ := getI_some hx296
 refine jv _ (V.iadA Tryz.underlying121 sz5 rfl rfl p297 (lt_cap p299 hl265)) ?_
 obtain ⟨z300, hz301, h291⟩ := ob h291
 have e302 := Option.some.inj hz301
 have hl303 : z300.length = 20 := by rw [← e302, List.length_set]; exact hl265
 refine J.op rfl (A.storeR (ty := (.int .u8)) (q := 0) (y0 := IntKind.wrap .u8 (IntKind.wrap .i64 (48 + (Int.tmod i262 10)))) (zs := z300) sz5 rfl rfl rfl rfl rfl p298 (by simp [Tp.size]) (by decide) (by rintro _ rfl; exact rfl) e302) ?_
 rintro _ _ _ ⟨rfl, rfl, rfl⟩
 refine J.nil <| cr <| jm (ii i262) rfl <| jv (ii (IntKind.wrap .i64 (Int.tdiv i262 10))) (V.quo rfl rfl (by decide)) <| ja (ii (IntKind.wrap .i64 (Int.tdiv i262 10))) rfl <| J.nil ?_
 refine cr <| jm (ii (IntKind.wrap .i64 (Int.tdiv i262 10))) rfl <| jv (.bool (decide ((IntKind.wrap .i64 (Int.tdiv i262 10)) = 0))) (V.eql rfl rfl) <| J.nil <| cc rfl h291 (fun hc304 h291 => ?_) fun hc304 h291 => ?_
 · refine cr <| jm (ii (IntKind.wrap .i64 (i266 - 1))) rfl <| J.persist (Hp.nil_le _) (by decide) fun K305 hK306 f307 => ?_
   obtain ⟨y308, hy309, h291⟩ := ob h291
   obtain ⟨ad310, cp311, hv312, f313⟩ := V.subA (tp := (.int .u8)) Tryz.underlying121 sz5 hl303 f307 hy309
   refine jv (.slice ad310 y308.length cp311) (hv312 rfl (fun _ h => by cases h; exact ⟨_, rfl⟩) nofun nofun (fun _ => rfl)) <| jv (.string ⟨(toU8 y308).toArray⟩) (V.b2sK Tryz.underlying122 Tryz.underlying5 Tryz.underlying9 rfl f313 (Hp.le_refl _)) <| ja (.string ⟨(toU8 y308).toArray⟩) rfl <| J.nil <| CJ.ret ?_
   obtain rfl := si h291
   refine ⟨nofun, fun e => ?_⟩
   subst e
   exact ⟨_, _, Res.one rfl rfl, ⟨toU8 y308, rfl, rfl, rfl⟩, hK306, fun w hs => hs⟩
 refine CJ.skip ?_
 obtain rfl := si h291
 exact ⟨rfl, ⟨IntKind.wrap .i64 (Int.tdiv i262 10), z300, IntKind.wrap .i64 (i266 - 1), rfl, ⟨rfl, rfl, rfl, trivial⟩, rfl, rfl⟩⟩
variable [BldA]
theorem text1_is {P : Program} {f : Nat} {fn : Int → Option (List UInt8)} (ok : ∀ {K : Hp} {xa : Int} {r : List UInt8}, fn xa = some r → Tr P f #[ii xa] K [] (fun v K' L' => (∃ s : List UInt8, s = r ∧ .string ⟨s.toArray⟩ = v ∧ L' = []) ∧ K = K')) : SpecOk P ⟨f, ⟨[(0, .dat (.int .i64))], []⟩, [⟨[(0, .dat .str)], []⟩], fn⟩ := by
  intro x r hr vs u hu m K args hgk hm hH hsl E w F hs
  have hu' : Sh.un ⟨[(0, .dat (.int .i64))], []⟩ (TL.list [Tp.int .i64] x) 0 = some ([(0, .int .i64 x)], ⟨[], 0, [], []⟩) := rfl
  rw [show (Spec.inn ⟨f, ⟨[(0, .dat (.int .i64))], []⟩, [⟨[(0, .dat .str)], []⟩], fn⟩).un (TL.list _ x) 0 = _ from hu'] at hu
  cases hu
  obtain ⟨v, q, rfl, h1, rfl⟩ := hsl
  obtain rfl : v = ii x := h1
  refine (ok (K := K) hr E w F hs).mono ?_
  rintro e w' ⟨v, K', L', rfl, ⟨⟨s, rfl, rfl, rfl⟩, rfl⟩, h1, h2⟩
  exact ⟨_, K, [], rfl, ⟨[(0, .str s)], ⟨[], 0, [], []⟩, m, rfl, List.prefix_rfl, hm, fun a h => (by cases h), rfl, rfl⟩, h1, h2⟩
theorem join_is {P : Program} {f : Nat} {fn : List (List UInt8) → List UInt8 → Option (List UInt8)} (ok : ∀ {K : Hp} {xa : List (List UInt8)} {xb : List UInt8} {ad : Option Addr} {cp : Nat} (fa : Is K (.sl .str) [.slice ad xa.length cp] xa) {r : List UInt8}, fn xa xb = some r → Tr P f #[.slice ad xa.length cp, .string ⟨xb.toArray⟩] K [] (fun v K' L' => (∃ s1 : List UInt8, s1 = r ∧ v = .string ⟨s1.toArray⟩ ∧ L' = []) ∧ K = K')) : SpecOk P ⟨f, ⟨[(0, .dat (.sl .str)), (1, .dat .str)], []⟩, [⟨[(0, .dat .str)], []⟩], fun x => fn x.1 x.2⟩ := by
  intro x r hr vs u hu m K args hgk hm hH hsl E w F hs
  have hu' : Sh.un ⟨[(0, .dat (.sl .str)), (1, .dat .str)], []⟩ (TL.list [Tp.sl .str, Tp.str] x) 0 = some ([(0, .row .str x.1 (List.length (α := List UInt8) x.1)), (1, .str x.2)], ⟨[], 0, [], []⟩) := rfl
  rw [show (Spec.inn ⟨f, ⟨[(0, .dat (.sl .str)), (1, .dat .str)], []⟩, [⟨[(0, .dat .str)], []⟩], fun x => fn x.1 x.2⟩).un (TL.list _ x) 0 = _ from hu'] at hu
  cases hu
  obtain ⟨v, q, rfl, h1, v2, q2, rfl, h2, rfl⟩ := hsl
  obtain rfl : v2 = .string ⟨x.2.toArray⟩ := h2
  obtain ⟨fa, _⟩ := h1
  have fa0 := fa
  simp only [Is] at fa
  obtain ⟨ad, cp, e0, _⟩ := fa
  simp only [List.cons.injEq, and_true] at e0
  subst e0
  refine (ok (K := K) fa0 hr E w F hs).mono ?_
  rintro e w' ⟨v, K', L', rfl, ⟨⟨s, rfl, rfl, rfl⟩, rfl⟩, h1, h2⟩
  exact ⟨_, K, [], rfl, ⟨[(0, .str s)], ⟨[], 0, [], []⟩, m, rfl, List.prefix_rfl, hm, fun a h => (by cases h), rfl, rfl⟩, h1, h2⟩
noncomputable def sp_numeral_Text : Spec := ⟨30, ⟨[(0, .dat (.int .i64))], []⟩, [⟨[(0, .dat .str)], []⟩], fn_numeral_Text⟩
theorem numeral_Text_is : SpecOk Tryz.prog sp_numeral_Text := text1_is fun h => numeral_Text_ok h
noncomputable def ok_numeral_Text : OkSpec Tryz.prog := ⟨sp_numeral_Text, numeral_Text_is, Tryz.call30⟩
noncomputable def sp_Join : Spec := ⟨80, ⟨[(0, .dat (.sl .str)), (1, .dat .str)], []⟩, [⟨[(0, .dat .str)], []⟩], fun x => joinF x.1 x.2⟩
theorem Join_is : SpecOk Tryz.prog sp_Join := join_is strings_Join_ok
noncomputable def ok_Join : OkSpec Tryz.prog := ⟨sp_Join, Join_is, Tryz.call80⟩
end Go.Proofs.YthoclljhjcfemaaGreat
namespace Go.Proofs.YthoclljhjcfemaaGreat
open Go.RowKit
set_option linter.unusedVariables false
set_option maxRecDepth 100000
set_option maxHeartbeats 4000000
instance nob : BldA := ⟨1000000000, fun b _ => Cl b 1000000000 [.pointer none, .slice none 0 0], fun h => h, fun _ => True, fun _ _ => trivial⟩

noncomputable def fn_ref15_Few (xa : (List (Int × Bool))) (xb : Int) : Option Bool :=
  some (decide ((((xa.length : Nat) : Int)) ≤ xb))
noncomputable def h_ref15_Few : Hn Tryz.prog := .nil
noncomputable def sp_ref15_Few : Spec := ⟨16, ⟨[(0, .dat (.one (.sl (.cons (.int .i64) (.one .bool))))), (1, .dat (.int .i64))], []⟩, [⟨[(0, .dat .bool)], []⟩], fun x => fn_ref15_Few x.1 x.2⟩
theorem ref15_Few_is : SpecOk Tryz.prog sp_ref15_Few := fn_is Tryz.func16 h_ref15_Few (by kernel_rfl) (by kernel_rfl)
noncomputable def ok_ref15_Few : OkSpec Tryz.prog := ⟨sp_ref15_Few, ref15_Few_is, Tryz.call16⟩
noncomputable def fn_ref17_Few_l1 (xa : (Int × (List (Int × Int)) × (List (List (Int × Bool))) × (List (Int × Bool)))) : Int → Option (Int ⊕ (Unit ⊕ Bool)) := fun (i264 : Int) => cond (decide (i264 < (((xa.2.2.1.length : Nat) : Int)))) ((getI xa.2.2.1 i264).bind fun x289 => (fn_ref15_Few x289 20).bind fun t304 => cond (!t304) (some (.inr ((.inr (false))))) (some (.inl (IntKind.wrap .i64 (i264 + 1))))) (some (.inr ((.inl ()))))
noncomputable def fn_ref17_Few (xa : (Int × (List (Int × Int)) × (List (List (Int × Bool))) × (List (Int × Bool)))) : Option Bool :=
  (cond ((decide (20 < (((xa.2.1.length : Nat) : Int)))) || (decide (20 < (((xa.2.2.1.length : Nat) : Int))))) (some (true)) ((fn_ref15_Few xa.2.2.2 20).bind fun t170 => some (!t170))).bind fun t166 => cond (t166) (some (false)) ((loop (fn_ref17_Few_l1 xa) 0 : Option (Unit ⊕ Bool)).bind fun o => match o with | .inr r => some r | .inl () => some (true))
noncomputable def h_ref17_Few : Hn Tryz.prog := .gp 4 (.wt 14 (.gj 4 ⟨[(19, .dat .bool)], []⟩ [] (.two 14 (.nil) (.cl ok_ref15_Few [] (.nil))) (.tw 19 (.nil) (.jx [] ⟨[], []⟩ [] (.lp ⟨[(3, .dat (.int .i64))], []⟩ (.tw 24 (.cl ok_ref15_Few [] (.tw 33 (.nil) (.nil))) (.nil))) (.nil)))))
noncomputable def sp_ref17_Few : Spec := ⟨17, ⟨[(0, .dat (.cons (.int .i64) (.cons (.sl (.cons (.int .i64) (.one (.int .i64)))) (.cons (.sl (.one (.sl (.cons (.int .i64) (.one .bool))))) (.one (.one (.sl (.cons (.int .i64) (.one .bool)))))))))], []⟩, [⟨[(0, .dat .bool)], []⟩], fun x => fn_ref17_Few x⟩
theorem ref17_Few_is : SpecOk Tryz.prog sp_ref17_Few := fn_is Tryz.func17 h_ref17_Few (by kernel_rfl) (by kernel_rfl)
noncomputable def ok_ref17_Few : OkSpec Tryz.prog := ⟨sp_ref17_Few, ref17_Few_is, Tryz.call17⟩
noncomputable def fn_ref20_Small_l1 (xa : (Int × Int × (List (Int × Int)) × (List (List (Int × Bool))) × (List (Int × Bool)) × (List (Int × (List (Int × Int)) × (List (List (Int × Bool))) × (List (Int × Bool)))) × (List ((List (Int × Int × Int × Int × Bool)) × (Int × Int × Int × (List Int) × (List Int) × (List Int)))))) : Int → Option (Int ⊕ (Unit ⊕ Bool)) := fun (i726 : Int) => cond (decide (i726 < (((xa.2.2.2.1.length : Nat) : Int)))) ((getI xa.2.2.2.1 i726).bind fun x751 => (fn_ref15_Few x751 20).bind fun t766 => cond (!t766) (some (.inr ((.inr (false))))) (some (.inl (IntKind.wrap .i64 (i726 + 1))))) (some (.inr ((.inl ()))))
noncomputable def fn_ref20_Small_l2 (xa : (Int × Int × (List (Int × Int)) × (List (List (Int × Bool))) × (List (Int × Bool)) × (List (Int × (List (Int × Int)) × (List (List (Int × Bool))) × (List (Int × Bool)))) × (List ((List (Int × Int × Int × Int × Bool)) × (Int × Int × Int × (List Int) × (List Int) × (List Int)))))) : Int → Option (Int ⊕ (Unit ⊕ Bool)) := fun (i892 : Int) => cond (decide (i892 < (((xa.2.2.2.2.2.1.length : Nat) : Int)))) ((getI xa.2.2.2.2.2.1 i892).bind fun x925 => (fn_ref17_Few (x925.1, x925.2.1, x925.2.2.1, x925.2.2.2)).bind fun t948 => cond (!t948) (some (.inr ((.inr (false))))) (some (.inl (IntKind.wrap .i64 (i892 + 1))))) (some (.inr ((.inl ()))))
noncomputable def fn_ref20_Small_l3 (xa : (Int × Int × (List (Int × Int)) × (List (List (Int × Bool))) × (List (Int × Bool)) × (List (Int × (List (Int × Int)) × (List (List (Int × Bool))) × (List (Int × Bool)))) × (List ((List (Int × Int × Int × Int × Bool)) × (Int × Int × Int × (List Int) × (List Int) × (List Int)))))) : (Int × Int) → Option ((Int × Int) ⊕ (Int ⊕ Bool)) := fun ((i1135, i1136) : (Int × Int)) => cond (decide (i1136 < (((xa.2.2.2.2.2.2.length : Nat) : Int)))) ((getI xa.2.2.2.2.2.2 i1136).bind fun x1184 => (getI xa.2.2.2.2.2.2 i1136).bind fun x1206 => cond (((decide (20 < (((x1184.2.2.2.2.1.length : Nat) : Int)))) || (decide (20 < (((x1184.2.2.2.2.2.1.length : Nat) : Int))))) || (decide (20 < (((x1184.2.2.2.2.2.2.length : Nat) : Int))))) (some (.inr ((.inr (false))))) (some (.inl ((IntKind.wrap .i64 (i1135 + (((x1206.1.length : Nat) : Int))), IntKind.wrap .i64 (i1136 + 1)))))) (some (.inr (.inl i1135)))
noncomputable def fn_ref20_Small (xa : (Int × Int × (List (Int × Int)) × (List (List (Int × Bool))) × (List (Int × Bool)) × (List (Int × (List (Int × Int)) × (List (List (Int × Bool))) × (List (Int × Bool)))) × (List ((List (Int × Int × Int × Int × Bool)) × (Int × Int × Int × (List Int) × (List Int) × (List Int)))))) : Option Bool :=
  (cond ((((decide (20 < (((xa.2.2.1.length : Nat) : Int)))) || (decide (10 < (((xa.2.2.2.1.length : Nat) : Int))))) || (decide (4 < (((xa.2.2.2.2.2.1.length : Nat) : Int))))) || (decide (8 < (((xa.2.2.2.2.2.2.length : Nat) : Int))))) (some (true)) ((fn_ref15_Few xa.2.2.2.2.1 20).bind fun t632 => some (!t632))).bind fun t628 => cond (t628) (some (false)) ((loop (fn_ref20_Small_l1 xa) 0 : Option (Unit ⊕ Bool)).bind fun o => match o with | .inr r => some r | .inl () => (loop (fn_ref20_Small_l2 xa) 0 : Option (Unit ⊕ Bool)).bind fun o => match o with | .inr r => some r | .inl () => (loop (fn_ref20_Small_l3 xa) (0, 0) : Option (Int ⊕ Bool)).bind fun o => match o with | .inr r => some r | .inl i1089 => some (decide (i1089 ≤ 24)))
noncomputable def h_ref20_Small : Hn Tryz.prog := .gp 4 (.wt 18 (.gp 4 (.wt 24 (.gp 4 (.wt 30 (.gj 4 ⟨[(35, .dat .bool)], []⟩ [] (.two 30 (.nil) (.cl ok_ref15_Few [] (.nil))) (.tw 35 (.nil) (.jx [] ⟨[], []⟩ [] (.lp ⟨[(3, .dat (.int .i64))], []⟩ (.tw 40 (.cl ok_ref15_Few [] (.tw 49 (.nil) (.nil))) (.nil))) (.jx [] ⟨[], []⟩ [] (.lp ⟨[(4, .dat (.int .i64))], []⟩ (.tw 54 (.cl ok_ref17_Few [] (.tw 63 (.nil) (.nil))) (.nil))) (.jx [] ⟨[(5, .dat (.int .i64))], []⟩ [] (.lp ⟨[(5, .dat (.int .i64)), (6, .dat (.int .i64))], []⟩ (.tw 68 (.gp 4 (.wt 96 (.gp 4 (.tw 101 (.nil) (.nil))))) (.nil))) (.nil)))))))))))
noncomputable def sp_ref20_Small : Spec := ⟨4, ⟨[(0, .dat (.cons (.int .i64) (.cons (.int .i64) (.cons (.sl (.cons (.int .i64) (.one (.int .i64)))) (.cons (.sl (.one (.sl (.cons (.int .i64) (.one .bool))))) (.cons (.one (.sl (.cons (.int .i64) (.one .bool)))) (.cons (.sl (.cons (.int .i64) (.cons (.sl (.cons (.int .i64) (.one (.int .i64)))) (.cons (.sl (.one (.sl (.cons (.int .i64) (.one .bool))))) (.one (.one (.sl (.cons (.int .i64) (.one .bool))))))))) (.one (.sl (.cons (.sl (.cons (.int .i64) (.cons (.int .i64) (.cons (.int .i64) (.cons (.int .i64) (.one .bool)))))) (.one (.cons (.int .i64) (.cons (.int .i64) (.cons (.int .i64) (.cons (.sl (.int .i64)) (.cons (.sl (.int .i64)) (.one (.sl (.int .i64)))))))))))))))))))], []⟩, [⟨[(0, .dat .bool)], []⟩], fun x => fn_ref20_Small x⟩
theorem ref20_Small_is : SpecOk Tryz.prog sp_ref20_Small := fn_is Tryz.func4 h_ref20_Small (by kernel_rfl) (by kernel_rfl)
noncomputable def ok_ref20_Small : OkSpec Tryz.prog := ⟨sp_ref20_Small, ref20_Small_is, Tryz.call4⟩

noncomputable def fn_slices_Clone_graph_Arc_graph_Arc (xa : (List (Int × Int))) : Option ((List (Int × Int))) :=
  nilb xa (some ([])) ((app (([] : List (Int × Int))) xa).bind fun z21 => some (z21))
noncomputable def h_slices_Clone_graph_Arc_graph_Arc : Hn Tryz.prog := .two 4 (.nil) (.nil)
noncomputable def sp_slices_Clone_graph_Arc_graph_Arc : Spec := ⟨57, ⟨[(0, .dat (.sl (.cons (.int .i64) (.one (.int .i64)))))], []⟩, [⟨[(0, .own 104 (.cons (.int .i64) (.one (.int .i64))))], []⟩], fun x => fn_slices_Clone_graph_Arc_graph_Arc x⟩
theorem slices_Clone_graph_Arc_graph_Arc_is : SpecOk Tryz.prog sp_slices_Clone_graph_Arc_graph_Arc := fn_is Tryz.func57 h_slices_Clone_graph_Arc_graph_Arc (by kernel_rfl) (by kernel_rfl)
noncomputable def ok_slices_Clone_graph_Arc_graph_Arc : OkSpec Tryz.prog := ⟨sp_slices_Clone_graph_Arc_graph_Arc, slices_Clone_graph_Arc_graph_Arc_is, Tryz.call57⟩

noncomputable def fn_graph_New_1 (xa : (Int × Int)) : Option Int :=
  some (xa.1)
noncomputable def h_graph_New_1 : Hn Tryz.prog := .nil
noncomputable def sp_graph_New_1 : Spec := ⟨59, ⟨[(0, .dat (.cons (.int .i64) (.one (.int .i64))))], []⟩, [⟨[(0, .dat (.int .i64))], []⟩], fun x => fn_graph_New_1 x⟩
theorem graph_New_1_is : SpecOk Tryz.prog sp_graph_New_1 := fn_is Tryz.func59 h_graph_New_1 (by kernel_rfl) (by kernel_rfl)
noncomputable def ok_graph_New_1 : OkSpec Tryz.prog := ⟨sp_graph_New_1, graph_New_1_is, Tryz.call59⟩

noncomputable def fn_slices_Clone_int_int (xa : (List Int)) : Option (List Int) :=
  nilb xa (some ([])) ((app ([] : List Int) xa).bind fun z21 => some (z21))
noncomputable def h_slices_Clone_int_int : Hn Tryz.prog := .two 4 (.nil) (.nil)
noncomputable def sp_slices_Clone_int_int : Spec := ⟨82, ⟨[(0, .dat (.sl (.int .i64)))], []⟩, [⟨[(0, .own 3 (.int .i64))], []⟩], fun x => fn_slices_Clone_int_int x⟩
theorem slices_Clone_int_int_is : SpecOk Tryz.prog sp_slices_Clone_int_int := fn_is Tryz.func82 h_slices_Clone_int_int (by kernel_rfl) (by kernel_rfl)
noncomputable def ok_slices_Clone_int_int : OkSpec Tryz.prog := ⟨sp_slices_Clone_int_int, slices_Clone_int_int_is, Tryz.call82⟩
noncomputable def fn_graph_indexed_ik_graph_New_1_l1 (xb : (List (Int × Int))) : (Int × (List Int)) → Option ((Int × (List Int)) ⊕ (List Int)) := fun ((i3260, l3261) : (Int × (List Int))) => cond (decide (i3260 < (((xb.length : Nat) : Int)))) ((getI xb i3260).bind fun x3370 => (fn_graph_New_1 (x3370.1, x3370.2)).bind fun i3442 => (getI l3261 (IntKind.wrap .i64 (i3442 + 1))).bind fun x3446 => (getI l3261 (IntKind.wrap .i64 (i3442 + 1))).bind fun x3453 => (some (l3261.set (IntKind.wrap .i64 (i3442 + 1)).toNat (IntKind.wrap .i64 (x3446 + 1)))).bind fun z3460 => some (.inl ((IntKind.wrap .i64 (i3260 + 1), z3460)))) (some (.inr (l3261)))
noncomputable def fn_graph_indexed_ik_graph_New_1_l2 (xa : Int) : (Int × (List Int)) → Option ((Int × (List Int)) ⊕ (List Int)) := fun ((i3855, l3856) : (Int × (List Int))) => cond (decide (i3855 < xa)) ((getI l3856 (IntKind.wrap .i64 (i3855 + 1))).bind fun x4022 => (getI l3856 i3855).bind fun x4029 => (getI l3856 (IntKind.wrap .i64 (i3855 + 1))).bind fun x4036 => (some (l3856.set (IntKind.wrap .i64 (i3855 + 1)).toNat (IntKind.wrap .i64 (x4022 + x4029)))).bind fun z4043 => some (.inl ((IntKind.wrap .i64 (i3855 + 1), z4043)))) (some (.inr (l3856)))
noncomputable def fn_graph_indexed_ik_graph_New_1_l3 (xb : (List (Int × Int))) : ((List Int) × Int × (List Int)) → Option (((List Int) × Int × (List Int)) ⊕ (List Int)) := fun ((l4499, i4504, l4505) : ((List Int) × Int × (List Int))) => cond (decide (i4504 < (((xb.length : Nat) : Int)))) ((getI xb i4504).bind fun x4620 => (fn_graph_New_1 (x4620.1, x4620.2)).bind fun i4632 => (getI l4499 i4632).bind fun x4678 => (getI l4505 x4678).bind fun x4685 => (some (l4505.set x4678.toNat i4504)).bind fun z4692 => (getI l4499 i4632).bind fun x4697 => (getI l4499 i4632).bind fun x4704 => (some (l4499.set i4632.toNat (IntKind.wrap .i64 (x4697 + 1)))).bind fun z4711 => some (.inl ((z4711, IntKind.wrap .i64 (i4504 + 1), z4692)))) (some (.inr (l4505)))
noncomputable def fn_graph_indexed_ik_graph_New_1 (xa : Int) (xb : (List (Int × Int))) : Option (((List Int) × (List Int))) :=
  (((mk (IntKind.wrap .i64 (xa + 1)) (IntKind.wrap .i64 (xa + 1)) 0 : Option (List Int)).bind fun z2781 => ((mk (((xb.length : Nat) : Int)) (((xb.length : Nat) : Int)) 0 : Option (List Int)).bind fun z2786 => some ((z2781, z2786))).bind fun x2798 => ((mk (((xb.length : Nat) : Int)) (((xb.length : Nat) : Int)) 0 : Option (List Int)).bind fun z2793 => some ((z2781, z2793))).bind fun y2799 => agr x2798 y2799 (some x2798)).bind fun x2844 => (((mk (((xb.length : Nat) : Int)) (((xb.length : Nat) : Int)) 0 : Option (List Int)).bind fun z2800 => ((mk (IntKind.wrap .i64 (xa + 1)) (IntKind.wrap .i64 (xa + 1)) 0 : Option (List Int)).bind fun z2805 => some ((z2805, z2800))).bind fun x2817 => ((mk (IntKind.wrap .i64 (xa + 1)) (IntKind.wrap .i64 (xa + 1)) 0 : Option (List Int)).bind fun z2812 => some ((z2812, z2800))).bind fun y2818 => agr x2817 y2818 (some x2817)).bind fun x2842 => (((mk (IntKind.wrap .i64 (xa + 1)) (IntKind.wrap .i64 (xa + 1)) 0 : Option (List Int)).bind fun z2820 => (mk (((xb.length : Nat) : Int)) (((xb.length : Nat) : Int)) 0 : Option (List Int)).bind fun z2825 => some ((z2820, z2825))).bind fun x2840 => ((mk (((xb.length : Nat) : Int)) (((xb.length : Nat) : Int)) 0 : Option (List Int)).bind fun z2830 => (mk (IntKind.wrap .i64 (xa + 1)) (IntKind.wrap .i64 (xa + 1)) 0 : Option (List Int)).bind fun z2835 => some ((z2835, z2830))).bind fun y2841 => agr x2840 y2841 (some x2840)).bind fun y2843 => agr x2842 y2843 (some x2842)).bind fun y2845 => agr x2844 y2845 (some x2844) : Option (((List Int) × (List Int)))).bind fun (l2706, l2711) => (loop (fn_graph_indexed_ik_graph_New_1_l1 xb) (0, l2706) : Option (List Int)).bind fun l3153 => (loop (fn_graph_indexed_ik_graph_New_1_l2 xa) (0, l3153) : Option (List Int)).bind fun l3754 => (fn_slices_Clone_int_int l3754).bind fun l4053 => (loop (fn_graph_indexed_ik_graph_New_1_l3 xb) (l4053, 0, l2711) : Option (List Int)).bind fun l4386 => some ((l3754, l4386))
noncomputable def h_graph_indexed_ik_graph_New_1 : Hn Tryz.prog := .tr (.still [0, 1, 3, 4] (.alt 2 (.alt 5 (.still [6] (.alt 7 (.alt 8 (.leaf []) .done) .done)) (.alt 7 (.alt 5 (.still [6] (.alt 8 (.leaf []) .done)) .done) .done)) (.alt 5 (.alt 2 (.still [6] (.alt 7 (.alt 8 (.leaf []) .done) .done)) (.alt 7 (.alt 2 (.still [6] (.alt 8 (.leaf []) .done)) .done) .done)) (.alt 7 (.alt 2 (.alt 5 (.still [6] (.alt 8 (.leaf []) .done)) .done) (.alt 5 (.alt 2 (.still [6] (.alt 8 (.leaf []) .done)) .done) .done)) .done)))) ⟨[(7, .ptr 0 0)], [⟨none, 127, [.own 3 (.int .i64), .own 3 (.int .i64)], false, false, none, false⟩]⟩ [] (.two 0 (.two 0 (.nil) (.nil)) (.two 0 (.two 0 (.nil) (.nil)) (.two 0 (.nil) (.nil)))) (.jn [(2, 1)] ⟨[], [⟨(some 2), 127, [.own 3 (.int .i64), .is 1 (.any)], false, false, none, false⟩, ⟨(some 8), 0, [], false, true, none, false⟩]⟩ [2, 3] (.lp ⟨[(24, .dat (.int .i64))], [⟨(some 2), 127, [.own 3 (.int .i64), .is 1 (.any)], false, false, none, false⟩, ⟨(some 8), 0, [], false, true, none, false⟩]⟩ (.tw 25 (.mix [([0, 1, 2, 3], 4)] [5, 6, 7, 8, 9] [10] [] (.cl ok_graph_New_1 [] (.nil))) (.nil))) (.jn [] ⟨[], [⟨(some 2), 127, [.own 3 (.int .i64), .is 1 (.any)], false, false, none, false⟩, ⟨(some 8), 0, [], false, true, none, false⟩]⟩ [2, 9] (.lp ⟨[(40, .dat (.int .i64))], [⟨(some 2), 127, [.own 3 (.int .i64), .is 1 (.any)], false, false, none, false⟩, ⟨(some 8), 0, [], false, true, none, false⟩]⟩ (.tw 41 (.mix [] [0, 1, 2, 3, 4, 5, 6, 7, 8, 9, 10, 11, 12] [13] [] (.nil)) (.nil))) (.per 12 13 (.cl ok_slices_Clone_int_int [] (.jn [(2, 0)] ⟨[(59, .any), (11, .any)], [⟨(some 2), 127, [.is 1 (.any), .own 3 (.int .i64)], false, false, none, false⟩, ⟨(some 17), 0, [], false, true, none, false⟩]⟩ [15, 2, 5] (.lp ⟨[(11, .own 3 (.int .i64)), (62, .dat (.int .i64))], [⟨(some 2), 127, [.is 1 (.any), .own 3 (.int .i64)], false, false, none, false⟩, ⟨(some 17), 0, [], false, true, none, false⟩]⟩ (.tw 63 (.cl ok_graph_New_1 [] (.mix [] [0, 1, 2, 3, 4, 5, 6, 7] [8] [] (.nil))) (.nil))) (.nil))))))
noncomputable def sp_graph_indexed_ik_graph_New_1 : Spec := ⟨58, ⟨[(0, .dat (.int .i64)), (1, .dat (.sl (.cons (.int .i64) (.one (.int .i64))))), (2, .fn 59 [])], []⟩, [⟨[(0, .agg [.dat (.sl (.int .i64)), .own 3 (.int .i64)])], []⟩], fun x => fn_graph_indexed_ik_graph_New_1 x.1 x.2⟩
theorem graph_indexed_ik_graph_New_1_is : SpecOk Tryz.prog sp_graph_indexed_ik_graph_New_1 := fn_is Tryz.func58 h_graph_indexed_ik_graph_New_1 (by kernel_rfl) (by kernel_rfl)
noncomputable def ok_graph_indexed_ik_graph_New_1 : OkSpec Tryz.prog := ⟨sp_graph_indexed_ik_graph_New_1, graph_indexed_ik_graph_New_1_is, Tryz.call58⟩

noncomputable def fn_graph_New_2 (xa : (Int × Int)) : Option Int :=
  some (xa.2)
noncomputable def h_graph_New_2 : Hn Tryz.prog := .nil
noncomputable def sp_graph_New_2 : Spec := ⟨60, ⟨[(0, .dat (.cons (.int .i64) (.one (.int .i64))))], []⟩, [⟨[(0, .dat (.int .i64))], []⟩], fun x => fn_graph_New_2 x⟩
theorem graph_New_2_is : SpecOk Tryz.prog sp_graph_New_2 := fn_is Tryz.func60 h_graph_New_2 (by kernel_rfl) (by kernel_rfl)
noncomputable def ok_graph_New_2 : OkSpec Tryz.prog := ⟨sp_graph_New_2, graph_New_2_is, Tryz.call60⟩
noncomputable def fn_graph_indexed_ik_graph_New_2_l1 (xb : (List (Int × Int))) : (Int × (List Int)) → Option ((Int × (List Int)) ⊕ (List Int)) := fun ((i3260, l3261) : (Int × (List Int))) => cond (decide (i3260 < (((xb.length : Nat) : Int)))) ((getI xb i3260).bind fun x3370 => (fn_graph_New_2 (x3370.1, x3370.2)).bind fun i3442 => (getI l3261 (IntKind.wrap .i64 (i3442 + 1))).bind fun x3446 => (getI l3261 (IntKind.wrap .i64 (i3442 + 1))).bind fun x3453 => (some (l3261.set (IntKind.wrap .i64 (i3442 + 1)).toNat (IntKind.wrap .i64 (x3446 + 1)))).bind fun z3460 => some (.inl ((IntKind.wrap .i64 (i3260 + 1), z3460)))) (some (.inr (l3261)))
noncomputable def fn_graph_indexed_ik_graph_New_2_l2 (xa : Int) : (Int × (List Int)) → Option ((Int × (List Int)) ⊕ (List Int)) := fun ((i3855, l3856) : (Int × (List Int))) => cond (decide (i3855 < xa)) ((getI l3856 (IntKind.wrap .i64 (i3855 + 1))).bind fun x4022 => (getI l3856 i3855).bind fun x4029 => (getI l3856 (IntKind.wrap .i64 (i3855 + 1))).bind fun x4036 => (some (l3856.set (IntKind.wrap .i64 (i3855 + 1)).toNat (IntKind.wrap .i64 (x4022 + x4029)))).bind fun z4043 => some (.inl ((IntKind.wrap .i64 (i3855 + 1), z4043)))) (some (.inr (l3856)))
noncomputable def fn_graph_indexed_ik_graph_New_2_l3 (xb : (List (Int × Int))) : ((List Int) × Int × (List Int)) → Option (((List Int) × Int × (List Int)) ⊕ (List Int)) := fun ((l4499, i4504, l4505) : ((List Int) × Int × (List Int))) => cond (decide (i4504 < (((xb.length : Nat) : Int)))) ((getI xb i4504).bind fun x4620 => (fn_graph_New_2 (x4620.1, x4620.2)).bind fun i4632 => (getI l4499 i4632).bind fun x4678 => (getI l4505 x4678).bind fun x4685 => (some (l4505.set x4678.toNat i4504)).bind fun z4692 => (getI l4499 i4632).bind fun x4697 => (getI l4499 i4632).bind fun x4704 => (some (l4499.set i4632.toNat (IntKind.wrap .i64 (x4697 + 1)))).bind fun z4711 => some (.inl ((z4711, IntKind.wrap .i64 (i4504 + 1), z4692)))) (some (.inr (l4505)))
noncomputable def fn_graph_indexed_ik_graph_New_2 (xa : Int) (xb : (List (Int × Int))) : Option (((List Int) × (List Int))) :=
  (((mk (IntKind.wrap .i64 (xa + 1)) (IntKind.wrap .i64 (xa + 1)) 0 : Option (List Int)).bind fun z2781 => ((mk (((xb.length : Nat) : Int)) (((xb.length : Nat) : Int)) 0 : Option (List Int)).bind fun z2786 => some ((z2781, z2786))).bind fun x2798 => ((mk (((xb.length : Nat) : Int)) (((xb.length : Nat) : Int)) 0 : Option (List Int)).bind fun z2793 => some ((z2781, z2793))).bind fun y2799 => agr x2798 y2799 (some x2798)).bind fun x2844 => (((mk (((xb.length : Nat) : Int)) (((xb.length : Nat) : Int)) 0 : Option (List Int)).bind fun z2800 => ((mk (IntKind.wrap .i64 (xa + 1)) (IntKind.wrap .i64 (xa + 1)) 0 : Option (List Int)).bind fun z2805 => some ((z2805, z2800))).bind fun x2817 => ((mk (IntKind.wrap .i64 (xa + 1)) (IntKind.wrap .i64 (xa + 1)) 0 : Option (List Int)).bind fun z2812 => some ((z2812, z2800))).bind fun y2818 => agr x2817 y2818 (some x2817)).bind fun x2842 => (((mk (IntKind.wrap .i64 (xa + 1)) (IntKind.wrap .i64 (xa + 1)) 0 : Option (List Int)).bind fun z2820 => (mk (((xb.length : Nat) : Int)) (((xb.length : Nat) : Int)) 0 : Option (List Int)).bind fun z2825 => some ((z2820, z2825))).bind fun x2840 => ((mk (((xb.length : Nat) : Int)) (((xb.length : Nat) : Int)) 0 : Option (List Int)).bind fun z2830 => (mk (IntKind.wrap .i64 (xa + 1)) (IntKind.wrap .i64 (xa + 1)) 0 : Option (List Int)).bind fun z2835 => some ((z2835, z2830))).bind fun y2841 => agr x2840 y2841 (some x2840)).bind fun y2843 => agr x2842 y2843 (some x2842)).bind fun y2845 => agr x2844 y2845 (some x2844) : Option (((List Int) × (List Int)))).bind fun (l2706, l2711) => (loop (fn_graph_indexed_ik_graph_New_2_l1 xb) (0, l2706) : Option (List Int)).bind fun l3153 => (loop (fn_graph_indexed_ik_graph_New_2_l2 xa) (0, l3153) : Option (List Int)).bind fun l3754 => (fn_slices_Clone_int_int l3754).bind fun l4053 => (loop (fn_graph_indexed_ik_graph_New_2_l3 xb) (l4053, 0, l2711) : Option (List Int)).bind fun l4386 => some ((l3754, l4386))
noncomputable def h_graph_indexed_ik_graph_New_2 : Hn Tryz.prog := .tr (.still [0, 1, 3, 4] (.alt 2 (.alt 5 (.still [6] (.alt 7 (.alt 8 (.leaf []) .done) .done)) (.alt 7 (.alt 5 (.still [6] (.alt 8 (.leaf []) .done)) .done) .done)) (.alt 5 (.alt 2 (.still [6] (.alt 7 (.alt 8 (.leaf []) .done) .done)) (.alt 7 (.alt 2 (.still [6] (.alt 8 (.leaf []) .done)) .done) .done)) (.alt 7 (.alt 2 (.alt 5 (.still [6] (.alt 8 (.leaf []) .done)) .done) (.alt 5 (.alt 2 (.still [6] (.alt 8 (.leaf []) .done)) .done) .done)) .done)))) ⟨[(7, .ptr 0 0)], [⟨none, 127, [.own 3 (.int .i64), .own 3 (.int .i64)], false, false, none, false⟩]⟩ [] (.two 0 (.two 0 (.nil) (.nil)) (.two 0 (.two 0 (.nil) (.nil)) (.two 0 (.nil) (.nil)))) (.jn [(2, 1)] ⟨[], [⟨(some 2), 127, [.own 3 (.int .i64), .is 1 (.any)], false, false, none, false⟩, ⟨(some 8), 0, [], false, true, none, false⟩]⟩ [2, 3] (.lp ⟨[(24, .dat (.int .i64))], [⟨(some 2), 127, [.own 3 (.int .i64), .is 1 (.any)], false, false, none, false⟩, ⟨(some 8), 0, [], false, true, none, false⟩]⟩ (.tw 25 (.mix [([0, 1, 2, 3], 4)] [5, 6, 7, 8, 9] [10] [] (.cl ok_graph_New_2 [] (.nil))) (.nil))) (.jn [] ⟨[], [⟨(some 2), 127, [.own 3 (.int .i64), .is 1 (.any)], false, false, none, false⟩, ⟨(some 8), 0, [], false, true, none, false⟩]⟩ [2, 9] (.lp ⟨[(40, .dat (.int .i64))], [⟨(some 2), 127, [.own 3 (.int .i64), .is 1 (.any)], false, false, none, false⟩, ⟨(some 8), 0, [], false, true, none, false⟩]⟩ (.tw 41 (.mix [] [0, 1, 2, 3, 4, 5, 6, 7, 8, 9, 10, 11, 12] [13] [] (.nil)) (.nil))) (.per 12 13 (.cl ok_slices_Clone_int_int [] (.jn [(2, 0)] ⟨[(59, .any), (11, .any)], [⟨(some 2), 127, [.is 1 (.any), .own 3 (.int .i64)], false, false, none, false⟩, ⟨(some 17), 0, [], false, true, none, false⟩]⟩ [15, 2, 5] (.lp ⟨[(11, .own 3 (.int .i64)), (62, .dat (.int .i64))], [⟨(some 2), 127, [.is 1 (.any), .own 3 (.int .i64)], false, false, none, false⟩, ⟨(some 17), 0, [], false, true, none, false⟩]⟩ (.tw 63 (.cl ok_graph_New_2 [] (.mix [] [0, 1, 2, 3, 4, 5, 6, 7] [8] [] (.nil))) (.nil))) (.nil))))))
noncomputable def sp_graph_indexed_ik_graph_New_2 : Spec := ⟨58, ⟨[(0, .dat (.int .i64)), (1, .dat (.sl (.cons (.int .i64) (.one (.int .i64))))), (2, .fn 60 [])], []⟩, [⟨[(0, .agg [.dat (.sl (.int .i64)), .own 3 (.int .i64)])], []⟩], fun x => fn_graph_indexed_ik_graph_New_2 x.1 x.2⟩
theorem graph_indexed_ik_graph_New_2_is : SpecOk Tryz.prog sp_graph_indexed_ik_graph_New_2 := fn_is Tryz.func58 h_graph_indexed_ik_graph_New_2 (by kernel_rfl) (by kernel_rfl)
noncomputable def ok_graph_indexed_ik_graph_New_2 : OkSpec Tryz.prog := ⟨sp_graph_indexed_ik_graph_New_2, graph_indexed_ik_graph_New_2_is, Tryz.call58⟩
noncomputable def fn_graph_New_l1 (xa : Int) (xb : (List (Int × Int))) : Int → Option (Int ⊕ (Unit ⊕ ((Option (Int × (List (Int × Int)) × ((List Int) × (List Int)) × ((List Int) × (List Int)))) × Int))) := fun (i289 : Int) => cond (decide (i289 < (((xb.length : Nat) : Int)))) ((getI xb i289).bind fun x314 => cond ((((decide (x314.1 < 0)) || (decide (xa ≤ x314.1))) || (decide (x314.2 < 0))) || (decide (xa ≤ x314.2))) (some (.inr ((.inr ((none, 7)))))) (some (.inl (IntKind.wrap .i64 (i289 + 1))))) (some (.inr ((.inl ()))))
noncomputable def fn_graph_New (xa : Int) (xb : (List (Int × Int))) : Option (((Option (Int × (List (Int × Int)) × ((List Int) × (List Int)) × ((List Int) × (List Int)))) × Int)) :=
  cond (decide (xa < 0)) (some ((none, 2))) (cond ((decide (1048576 < xa)) || (decide (67108864 < (((xb.length : Nat) : Int))))) (some ((none, 5))) ((loop (fn_graph_New_l1 xa xb) 0 : Option (Unit ⊕ ((Option (Int × (List (Int × Int)) × ((List Int) × (List Int)) × ((List Int) × (List Int)))) × Int))).bind fun o => match o with | .inr r => some r | .inl () => (fn_slices_Clone_graph_Arc_graph_Arc xb).bind fun l336 => (fn_graph_indexed_ik_graph_New_1 xa l336).bind fun (l350, l351) => (fn_graph_indexed_ik_graph_New_2 xa l336).bind fun (l364, l365) => some (((some ((xa, l336, (l350, l351), (l364, l365)))), 0))))
noncomputable def h_graph_New : Hn Tryz.prog := .tw 10 (.nil) (.gp 3 (.tw 17 (.nil) (.jx [] ⟨[], []⟩ [] (.lp ⟨[(20, .dat (.int .i64))], []⟩ (.tw 21 (.gp 4 (.wt 33 (.gp 3 (.wt 38 (.gp 4 (.tw 43 (.nil) (.nil))))))) (.nil))) (.cl ok_slices_Clone_graph_Arc_graph_Arc [] (.per 0 1 (.cl ok_graph_indexed_ik_graph_New_1 [] (.cl ok_graph_indexed_ik_graph_New_2 [] (.per 4 5 (.per 7 8 (.perb 2 9 (.cons (.int .i64) (.cons (.sl (.cons (.int .i64) (.one (.int .i64)))) (.cons (.cons (.sl (.int .i64)) (.one (.sl (.int .i64)))) (.one (.cons (.sl (.int .i64)) (.one (.sl (.int .i64)))))))) (.nil)))))))))))
noncomputable def sp_graph_New : Spec := ⟨36, ⟨[(0, .dat (.int .i64)), (1, .dat (.sl (.cons (.int .i64) (.one (.int .i64)))))], []⟩, [⟨[(0, .tup [.dat (.ptr (.cons (.int .i64) (.cons (.sl (.cons (.int .i64) (.one (.int .i64)))) (.cons (.cons (.sl (.int .i64)) (.one (.sl (.int .i64)))) (.one (.cons (.sl (.int .i64)) (.one (.sl (.int .i64))))))))), .dat (.int .i64)])], []⟩], fun x => fn_graph_New x.1 x.2⟩
theorem graph_New_is : SpecOk Tryz.prog sp_graph_New := fn_is Tryz.func36 h_graph_New (by kernel_rfl) (by kernel_rfl)
noncomputable def ok_graph_New : OkSpec Tryz.prog := ⟨sp_graph_New, graph_New_is, Tryz.call36⟩
noncomputable def fn_cons_Graph_l1 (xb : (List (Int × Int × (Int × Int × Int × Int × Bool)))) : ((List (Int × Int)) × Int) → Option (((List (Int × Int)) × Int) ⊕ (List (Int × Int))) := fun ((l443, i448) : ((List (Int × Int)) × Int)) => cond (decide (i448 < (((xb.length : Nat) : Int)))) ((getI xb i448).bind fun x480 => (getI l443 i448).bind fun x490 => (some (l443.set i448.toNat (x480.1, x480.2.1))).bind fun z497 => some (.inl ((z497, IntKind.wrap .i64 (i448 + 1))))) (some (.inr (l443)))
noncomputable def fn_cons_Graph (xa : (Int × Int × (List (Int × Int)) × (List (List (Int × Bool))) × (List (Int × Bool)) × (List (Int × (List (Int × Int)) × (List (List (Int × Bool))) × (List (Int × Bool)))) × (List ((List (Int × Int × Int × Int × Bool)) × (Int × Int × Int × (List Int) × (List Int) × (List Int)))))) (xb : (List (Int × Int × (Int × Int × Int × Int × Bool)))) : Option ((Option (Int × (List (Int × Int)) × ((List Int) × (List Int)) × ((List Int) × (List Int))))) :=
  (mk (((xb.length : Nat) : Int)) (((xb.length : Nat) : Int)) (0, 0) : Option (List (Int × Int))).bind fun z316 => (loop (fn_cons_Graph_l1 xb) (z316, 0) : Option ((List (Int × Int)))).bind fun l409 => (fn_graph_New xa.2.1 l409).bind fun (p507, i508) => some (p507)
noncomputable def h_cons_Graph : Hn Tryz.prog := .jn [] ⟨[(5, .own 104 (.cons (.int .i64) (.one (.int .i64)))), (12, .any)], []⟩ [2] (.lp ⟨[(5, .own 104 (.cons (.int .i64) (.one (.int .i64)))), (15, .dat (.int .i64))], []⟩ (.tw 16 (.nil) (.nil))) (.per 4 5 (.cl ok_graph_New [] (.nil)))
noncomputable def sp_cons_Graph : Spec := ⟨24, ⟨[(0, .dat (.cons (.int .i64) (.cons (.int .i64) (.cons (.sl (.cons (.int .i64) (.one (.int .i64)))) (.cons (.sl (.one (.sl (.cons (.int .i64) (.one .bool))))) (.cons (.one (.sl (.cons (.int .i64) (.one .bool)))) (.cons (.sl (.cons (.int .i64) (.cons (.sl (.cons (.int .i64) (.one (.int .i64)))) (.cons (.sl (.one (.sl (.cons (.int .i64) (.one .bool))))) (.one (.one (.sl (.cons (.int .i64) (.one .bool))))))))) (.one (.sl (.cons (.sl (.cons (.int .i64) (.cons (.int .i64) (.cons (.int .i64) (.cons (.int .i64) (.one .bool)))))) (.one (.cons (.int .i64) (.cons (.int .i64) (.cons (.int .i64) (.cons (.sl (.int .i64)) (.cons (.sl (.int .i64)) (.one (.sl (.int .i64))))))))))))))))))), (1, .dat (.sl (.cons (.int .i64) (.cons (.int .i64) (.one (.cons (.int .i64) (.cons (.int .i64) (.cons (.int .i64) (.cons (.int .i64) (.one .bool))))))))))], []⟩, [⟨[(0, .dat (.ptr (.cons (.int .i64) (.cons (.sl (.cons (.int .i64) (.one (.int .i64)))) (.cons (.cons (.sl (.int .i64)) (.one (.sl (.int .i64)))) (.one (.cons (.sl (.int .i64)) (.one (.sl (.int .i64))))))))))], []⟩], fun x => fn_cons_Graph x.1 x.2⟩
theorem cons_Graph_is : SpecOk Tryz.prog sp_cons_Graph := fn_is Tryz.func24 h_cons_Graph (by kernel_rfl) (by kernel_rfl)
noncomputable def ok_cons_Graph : OkSpec Tryz.prog := ⟨sp_cons_Graph, cons_Graph_is, Tryz.call24⟩

noncomputable def fn_graph_Graph_Nodes (xa : (Option (Int × (List (Int × Int)) × ((List Int) × (List Int)) × ((List Int) × (List Int))))) : Option Int :=
  cond (xa.isNone) (some (0)) ((xa : Option (Int × (List (Int × Int)) × ((List Int) × (List Int)) × ((List Int) × (List Int)))).bind fun y11 => some (y11.1))
noncomputable def h_graph_Graph_Nodes : Hn Tryz.prog := .tw 4 (.nil) (.nil)
noncomputable def sp_graph_Graph_Nodes : Spec := ⟨42, ⟨[(0, .dat (.ptr (.cons (.int .i64) (.cons (.sl (.cons (.int .i64) (.one (.int .i64)))) (.cons (.cons (.sl (.int .i64)) (.one (.sl (.int .i64)))) (.one (.cons (.sl (.int .i64)) (.one (.sl (.int .i64))))))))))], []⟩, [⟨[(0, .dat (.int .i64))], []⟩], fun x => fn_graph_Graph_Nodes x⟩
theorem graph_Graph_Nodes_is : SpecOk Tryz.prog sp_graph_Graph_Nodes := fn_is Tryz.func42 h_graph_Graph_Nodes (by kernel_rfl) (by kernel_rfl)
noncomputable def ok_graph_Graph_Nodes : OkSpec Tryz.prog := ⟨sp_graph_Graph_Nodes, graph_Graph_Nodes_is, Tryz.call42⟩

noncomputable def fn_math_bits_Mul64 (xa : Int) (xb : Int) : Option (Int × Int) :=
  some ((IntKind.wrap .u64 ((IntKind.wrap .u64 ((IntKind.wrap .u64 ((Int.fdiv xa (2 ^ (min (Int.toNat 32) (IntKind.bits .u64)))) * (Int.fdiv xb (2 ^ (min (Int.toNat 32) (IntKind.bits .u64)))))) + (Int.fdiv (IntKind.wrap .u64 ((IntKind.wrap .u64 ((Int.fdiv xa (2 ^ (min (Int.toNat 32) (IntKind.bits .u64)))) * (IntKind.wrap .u64 ((BitVec.ofInt (IntKind.bits .u64) xb &&& BitVec.ofInt (IntKind.bits .u64) 4294967295).toNat : Int)))) + (Int.fdiv (IntKind.wrap .u64 ((IntKind.wrap .u64 ((BitVec.ofInt (IntKind.bits .u64) xa &&& BitVec.ofInt (IntKind.bits .u64) 4294967295).toNat : Int)) * (IntKind.wrap .u64 ((BitVec.ofInt (IntKind.bits .u64) xb &&& BitVec.ofInt (IntKind.bits .u64) 4294967295).toNat : Int)))) (2 ^ (min (Int.toNat 32) (IntKind.bits .u64)))))) (2 ^ (min (Int.toNat 32) (IntKind.bits .u64)))))) + (Int.fdiv (IntKind.wrap .u64 ((IntKind.wrap .u64 ((BitVec.ofInt (IntKind.bits .u64) (IntKind.wrap .u64 ((IntKind.wrap .u64 ((Int.fdiv xa (2 ^ (min (Int.toNat 32) (IntKind.bits .u64)))) * (IntKind.wrap .u64 ((BitVec.ofInt (IntKind.bits .u64) xb &&& BitVec.ofInt (IntKind.bits .u64) 4294967295).toNat : Int)))) + (Int.fdiv (IntKind.wrap .u64 ((IntKind.wrap .u64 ((BitVec.ofInt (IntKind.bits .u64) xa &&& BitVec.ofInt (IntKind.bits .u64) 4294967295).toNat : Int)) * (IntKind.wrap .u64 ((BitVec.ofInt (IntKind.bits .u64) xb &&& BitVec.ofInt (IntKind.bits .u64) 4294967295).toNat : Int)))) (2 ^ (min (Int.toNat 32) (IntKind.bits .u64)))))) &&& BitVec.ofInt (IntKind.bits .u64) 4294967295).toNat : Int)) + (IntKind.wrap .u64 ((IntKind.wrap .u64 ((BitVec.ofInt (IntKind.bits .u64) xa &&& BitVec.ofInt (IntKind.bits .u64) 4294967295).toNat : Int)) * (Int.fdiv xb (2 ^ (min (Int.toNat 32) (IntKind.bits .u64)))))))) (2 ^ (min (Int.toNat 32) (IntKind.bits .u64))))), IntKind.wrap .u64 (xa * xb)))
noncomputable def h_math_bits_Mul64 : Hn Tryz.prog := .nil
noncomputable def sp_math_bits_Mul64 : Spec := ⟨94, ⟨[(0, .dat (.int .u64)), (1, .dat (.int .u64))], []⟩, [⟨[(0, .tup [.dat (.int .u64), .dat (.int .u64)])], []⟩], fun x => fn_math_bits_Mul64 x.1 x.2⟩
theorem math_bits_Mul64_is : SpecOk Tryz.prog sp_math_bits_Mul64 := fn_is Tryz.func94 h_math_bits_Mul64 (by kernel_rfl) (by kernel_rfl)
noncomputable def ok_math_bits_Mul64 : OkSpec Tryz.prog := ⟨sp_math_bits_Mul64, math_bits_Mul64_is, Tryz.call94⟩

noncomputable def fn_math_bits_Mul (xa : Int) (xb : Int) : Option (Int × Int) :=
  (fn_math_bits_Mul64 xa xb).bind fun (i13, i14) => some ((i13, i14))
noncomputable def h_math_bits_Mul : Hn Tryz.prog := .cl ok_math_bits_Mul64 [] (.nil)
noncomputable def sp_math_bits_Mul : Spec := ⟨83, ⟨[(0, .dat (.int .u64)), (1, .dat (.int .u64))], []⟩, [⟨[(0, .tup [.dat (.int .u64), .dat (.int .u64)])], []⟩], fun x => fn_math_bits_Mul x.1 x.2⟩
theorem math_bits_Mul_is : SpecOk Tryz.prog sp_math_bits_Mul := fn_is Tryz.func83 h_math_bits_Mul (by kernel_rfl) (by kernel_rfl)
noncomputable def ok_math_bits_Mul : OkSpec Tryz.prog := ⟨sp_math_bits_Mul, math_bits_Mul_is, Tryz.call83⟩
noncomputable def fn_slices_Repeat_int_int_l1  : ((List Int) × Int) → Option (((List Int) × Int) ⊕ (List Int)) := fun ((l268, i273) : ((List Int) × Int)) => cond (decide (i273 < (((l268.length : Nat) : Int)))) ((subL l268 i273 (((l268.length : Nat) : Int))).bind fun _ => (subL l268 0 i273).bind fun _ => (some (cpy l268 ((i273 : Int).toNat) ((List.drop (0 : Int).toNat (List.take (i273 : Int).toNat l268)).take (((((l268.length : Nat) : Int) : Int).toNat) - (i273 : Int).toNat)))).bind fun z297 => some (.inl ((z297, IntKind.wrap .i64 (i273 + (((min (List.drop (0 : Int).toNat (List.take (i273 : Int).toNat l268)).length (((((l268.length : Nat) : Int) : Int).toNat) - (i273 : Int).toNat) : Nat) : Int))))))) (some (.inr (l268)))
noncomputable def fn_slices_Repeat_int_int (xa : (List Int)) (xb : Int) : Option (List Int) :=
  (cond (decide (xb < 0)) (none) (some (())) : Option Unit).bind fun () => (fn_math_bits_Mul (IntKind.wrap .u64 (((xa.length : Nat) : Int))) (IntKind.wrap .u64 xb)).bind fun (i184, i185) => (cond ((decide (0 < i184)) || (decide (9223372036854775807 < i185))) (none) (some (())) : Option Unit).bind fun () => (mk (IntKind.wrap .i64 i185) (IntKind.wrap .i64 i185) 0 : Option (List Int)).bind fun z195 => (some (cpy z195 ((0 : Int).toNat) (xa.take (z195.length - (0 : Int).toNat)))).bind fun z200 => (loop (fn_slices_Repeat_int_int_l1) ((z200, ((min xa.length (z195.length - (0 : Int).toNat) : Nat) : Int))) : Option (List Int)).bind fun l248 => some (l248)
noncomputable def h_slices_Repeat_int_int : Hn Tryz.prog := .pl (.sq [] ⟨[], []⟩ [] (.tw 10 (.nil) (.nil)) (.cl ok_math_bits_Mul [] (.sq [] ⟨[], []⟩ [] (.gp 2 (.tw 26 (.nil) (.nil))) (.jn [] ⟨[(7, .own 3 (.int .i64)), (30, .any), (31, .any)], []⟩ [0] (.lp ⟨[(7, .own 3 (.int .i64)), (8, .dat (.int .i64))], []⟩ (.tw 37 (.mix [([0, 1, 2, 3, 4, 5, 6], 7)] [8, 9] [] [3] (.nil)) (.nil))) (.nil)))))
noncomputable def sp_slices_Repeat_int_int : Spec := ⟨61, ⟨[(0, .dat (.sl (.int .i64))), (1, .dat (.int .i64))], []⟩, [⟨[(0, .own 3 (.int .i64))], []⟩], fun x => fn_slices_Repeat_int_int x.1 x.2⟩
theorem slices_Repeat_int_int_is : SpecOk Tryz.prog sp_slices_Repeat_int_int := fn_is Tryz.func61 h_slices_Repeat_int_int (by kernel_rfl) (by kernel_rfl)
noncomputable def ok_slices_Repeat_int_int : OkSpec Tryz.prog := ⟨sp_slices_Repeat_int_int, slices_Repeat_int_int_is, Tryz.call61⟩

noncomputable def fn_bfs_Tree_reach_p0ii_rrn (xb : Int) (xc : Int) (qa0 : (List Int)) (qa1 : (List Int)) : Option (((List Int) × (List Int) × (List (List Int)))) :=
  (getI qa0 xb).bind fun x88 => (some (qa0.set xb.toNat xc)).bind fun z95 => (cond (decide (xc = 0)) ((app ([] : List (List Int)) (([[]] : List (List Int)) : List (List Int))).bind fun z108 => some (z108)) (some ([])) : Option ((List (List Int)))).bind fun l104 => (getI l104 xc).bind fun x110 => (getI l104 xc).bind fun _ => (chkI xc xc).bind fun _ => (app x110 ([xb] : List Int)).bind fun z153 => (getI l104 xc).bind fun _ => (chkI xc xc).bind fun _ => some ((z95, qa1, l104.set xc.toNat z153))
noncomputable def h_bfs_Tree_reach_p0ii_rrn : Hn Tryz.prog := .pl (.sq [(0, 0), (0, 1)] ⟨[], [⟨(some 0), 134, [.is 1 (.any), .is 2 (.any), .od (.row 44 (.row 3 (.dat (.int .i64))))], false, false, none, false⟩, ⟨(some 7), 0, [], false, true, none, false⟩, ⟨(some 8), 0, [], false, true, none, false⟩]⟩ [0] (.tw 19 (.ot (.row 3 (.dat (.int .i64))) (.ot (.row 3 (.dat (.int .i64))) (.nil))) (.nil)) (.opp [9] 9 38 (.mix [([0, 1, 2, 3, 4, 5, 6, 7, 8, 9, 10, 11, 12], 13), ([], 14)] [15] [16] [13] (.cls 9 19 (.nil)))))
noncomputable def sp_bfs_Tree_reach_p0ii_rrn : Spec := ⟨62, ⟨[(0, .ptr 0 0), (1, .dat (.int .i64)), (2, .dat (.int .i64))], [⟨none, 134, [.own 3 (.int .i64), .own 3 (.int .i64), .nils], false, false, none, false⟩]⟩, [⟨[], [⟨(some 0), 134, [.own 3 (.int .i64), .own 3 (.int .i64), .od (.row 44 (.row 3 (.dat (.int .i64))))], false, false, none, false⟩]⟩], fun x => fn_bfs_Tree_reach_p0ii_rrn x.1 x.2.1 x.2.2.1 x.2.2.2⟩
theorem bfs_Tree_reach_p0ii_rrn_is : SpecOk Tryz.prog sp_bfs_Tree_reach_p0ii_rrn := fn_is Tryz.func62 h_bfs_Tree_reach_p0ii_rrn (by kernel_rfl) (by kernel_rfl)
noncomputable def ok_bfs_Tree_reach_p0ii_rrn : OkSpec Tryz.prog := ⟨sp_bfs_Tree_reach_p0ii_rrn, bfs_Tree_reach_p0ii_rrn_is, Tryz.call62⟩

noncomputable def fn_stack_Queue_int_grow_p0_rii (qa0 : (List Int)) (qa1 : Int) (qa2 : Int) : Option (List Int) :=
  (mk (IntKind.wrap .i64 ((IntKind.wrap .i64 (2 * (((qa0.length : Nat) : Int)))) + 1)) (IntKind.wrap .i64 ((IntKind.wrap .i64 (2 * (((qa0.length : Nat) : Int)))) + 1)) 0 : Option (List Int)).bind fun z15 => (subL qa0 qa1 (((qa0.length : Nat) : Int))).bind fun _ => (some (cpy z15 ((0 : Int).toNat) ((List.drop (qa1 : Int).toNat (List.take (((qa0.length : Nat) : Int) : Int).toNat qa0)).take (z15.length - (0 : Int).toNat)))).bind fun z20 => (subL z20 (((min (List.drop (qa1 : Int).toNat (List.take (((qa0.length : Nat) : Int) : Int).toNat qa0)).length (z15.length - (0 : Int).toNat) : Nat) : Int)) (((z15.length : Nat) : Int))).bind fun _ => (subL qa0 0 qa1).bind fun _ => (some (cpy z20 ((((min (List.drop (qa1 : Int).toNat (List.take (((qa0.length : Nat) : Int) : Int).toNat qa0)).length (z15.length - (0 : Int).toNat) : Nat) : Int) : Int).toNat) ((List.drop (0 : Int).toNat (List.take (qa1 : Int).toNat qa0)).take (((((z15.length : Nat) : Int) : Int).toNat) - (((min (List.drop (qa1 : Int).toNat (List.take (((qa0.length : Nat) : Int) : Int).toNat qa0)).length (z15.length - (0 : Int).toNat) : Nat) : Int) : Int).toNat)))).bind fun z22 => some (z22)
noncomputable def h_stack_Queue_int_grow_p0_rii : Hn Tryz.prog := .mix [] [0, 1, 2, 3, 4, 5, 6, 7, 8, 9] [10, 11] [] (.mix [] [0, 1, 2, 3, 4, 5, 6, 7, 8, 9, 10, 11] [12] [] (.nil))
noncomputable def sp_stack_Queue_int_grow_p0_rii : Spec := ⟨84, ⟨[(0, .ptr 0 0)], [⟨none, 136, [.own 3 (.int .i64), .dat (.int .i64), .is 1 (.dat (.int .i64))], false, false, none, false⟩, ⟨none, 0, [], false, true, none, false⟩]⟩, [⟨[], [⟨(some 0), 136, [.own 3 (.int .i64), .lit (.int .i64 0), .is 1 (.any)], false, false, none, false⟩, ⟨(some 1), 0, [], false, true, none, false⟩]⟩], fun x => fn_stack_Queue_int_grow_p0_rii x.1 x.2.1 x.2.2⟩
theorem stack_Queue_int_grow_p0_rii_is : SpecOk Tryz.prog sp_stack_Queue_int_grow_p0_rii := fn_is Tryz.func84 h_stack_Queue_int_grow_p0_rii (by kernel_rfl) (by kernel_rfl)
noncomputable def ok_stack_Queue_int_grow_p0_rii : OkSpec Tryz.prog := ⟨sp_stack_Queue_int_grow_p0_rii, stack_Queue_int_grow_p0_rii_is, Tryz.call84⟩
noncomputable def fn_stack_Queue_int_Push_p0k_nii_l1 (xb : (List Int)) : (Int × (List Int) × Int × Int) → Option ((Int × (List Int) × Int × Int) ⊕ ((List Int) × Int × Int)) := fun ((i914, l915, i920, i921) : (Int × (List Int) × Int × Int)) => cond (decide (i914 < (((xb.length : Nat) : Int)))) ((getI xb i914).bind fun x1014 => (cond (decide (i921 = (((l915.length : Nat) : Int)))) ((fn_stack_Queue_int_grow_p0_rii l915 i920 i921).bind fun l1044 => some ((l1044, 0))) (some ((l915, i920))) : Option (((List Int) × Int))).bind fun (l1035, i1040) => (nz (((l1035.length : Nat) : Int))).bind fun u1080 => (getI l1035 (Int.tmod (IntKind.wrap .i64 (i1040 + i921)) (((l1035.length : Nat) : Int)))).bind fun x1082 => (some (l1035.set (Int.tmod (IntKind.wrap .i64 (i1040 + i921)) (((l1035.length : Nat) : Int))).toNat x1014)).bind fun z1089 => some (.inl ((IntKind.wrap .i64 (i914 + 1), z1089, i1040, IntKind.wrap .i64 (i921 + 1))))) (some (.inr (((l915, i920, i921)))))
noncomputable def fn_stack_Queue_int_Push_p0k_nii (xb : (List Int)) (qa1 : Int) (qa2 : Int) : Option (((List Int) × Int × Int)) :=
  (loop (fn_stack_Queue_int_Push_p0k_nii_l1 xb) (0, [], qa1, qa2) : Option (((List Int) × Int × Int))).bind fun (l819, i824, i825) => some ((l819, i824, i825))
noncomputable def h_stack_Queue_int_Push_p0k_nii : Hn Tryz.prog := .jn [] ⟨[], [⟨(some 0), 136, [.own 3 (.int .i64), .dat (.int .i64), .dat (.int .i64)], false, false, none, false⟩]⟩ [0] (.lp ⟨[(10, .dat (.int .i64))], [⟨(some 0), 136, [.own 3 (.int .i64), .dat (.int .i64), .dat (.int .i64)], false, false, none, false⟩]⟩ (.tw 11 (.pl (.pl (.sq [(0, 2)] ⟨[], [⟨(some 0), 136, [.own 3 (.int .i64), .dat (.int .i64), .is 1 (.any)], false, false, none, false⟩, ⟨(some 5), 0, [], false, true, none, false⟩]⟩ [0, 2] (.mix [] [0, 1, 2, 3, 4, 5, 6, 7, 8, 9] [] [] (.tw 23 (.cl ok_stack_Queue_int_grow_p0_rii [] (.nil)) (.nil))) (.mix [] [0, 1, 2, 3, 4, 5, 6, 7, 8, 9, 10, 11, 12, 13, 14, 15, 16, 17, 18, 19, 20] [21] [] (.nil))))) (.nil))) (.nil)
noncomputable def sp_stack_Queue_int_Push_p0k_nii : Spec := ⟨63, ⟨[(0, .ptr 0 0), (1, .dat (.sl (.int .i64)))], [⟨none, 136, [.nils, .dat (.int .i64), .dat (.int .i64)], false, false, none, false⟩]⟩, [⟨[], [⟨(some 0), 136, [.own 3 (.int .i64), .dat (.int .i64), .dat (.int .i64)], false, false, none, false⟩]⟩], fun x => fn_stack_Queue_int_Push_p0k_nii x.1 x.2.1 x.2.2⟩
theorem stack_Queue_int_Push_p0k_nii_is : SpecOk Tryz.prog sp_stack_Queue_int_Push_p0k_nii := fn_is Tryz.func63 h_stack_Queue_int_Push_p0k_nii (by kernel_rfl) (by kernel_rfl)
noncomputable def ok_stack_Queue_int_Push_p0k_nii : OkSpec Tryz.prog := ⟨sp_stack_Queue_int_Push_p0k_nii, stack_Queue_int_Push_p0k_nii_is, Tryz.call63⟩

noncomputable def fn_stack_Queue_int_Len_p0_rii (qa0 : (List Int)) (qa1 : Int) (qa2 : Int) : Option ((Int × (List Int))) :=
  some ((qa2, qa0))
noncomputable def h_stack_Queue_int_Len_p0_rii : Hn Tryz.prog := .nil
noncomputable def sp_stack_Queue_int_Len_p0_rii : Spec := ⟨64, ⟨[(0, .ptr 0 0)], [⟨none, 136, [.own 3 (.int .i64), .is 1 (.dat (.int .i64)), .is 2 (.dat (.int .i64))], false, false, none, false⟩, ⟨none, 0, [], false, true, none, false⟩, ⟨none, 0, [], false, true, none, false⟩]⟩, [⟨[(0, .dat (.int .i64))], [⟨(some 0), 136, [.own 3 (.int .i64), .is 1 (.any), .is 2 (.any)], false, false, none, false⟩, ⟨(some 1), 0, [], false, true, none, false⟩, ⟨(some 2), 0, [], false, true, none, false⟩]⟩], fun x => fn_stack_Queue_int_Len_p0_rii x.1 x.2.1 x.2.2⟩
theorem stack_Queue_int_Len_p0_rii_is : SpecOk Tryz.prog sp_stack_Queue_int_Len_p0_rii := fn_is Tryz.func64 h_stack_Queue_int_Len_p0_rii (by kernel_rfl) (by kernel_rfl)
noncomputable def ok_stack_Queue_int_Len_p0_rii : OkSpec Tryz.prog := ⟨sp_stack_Queue_int_Len_p0_rii, stack_Queue_int_Len_p0_rii_is, Tryz.call64⟩

noncomputable def fn_stack_Queue_int_Pop_p0_rii (qa0 : (List Int)) (qa1 : Int) (qa2 : Int) : Option ((Int × Bool × (List Int) × Int × Int)) :=
  (fn_stack_Queue_int_Len_p0_rii qa0 qa1 qa2).bind fun (i94, l95) => cond (decide (i94 = 0)) (some ((0, false, l95, qa1, qa2))) ((getI l95 qa1).bind fun x126 => (getI l95 qa1).bind fun x154 => (some (l95.set qa1.toNat 0)).bind fun z161 => (nz (((l95.length : Nat) : Int))).bind fun u172 => some ((x126, true, z161, Int.tmod (IntKind.wrap .i64 (qa1 + 1)) (((l95.length : Nat) : Int)), IntKind.wrap .i64 (qa2 - 1))))
noncomputable def h_stack_Queue_int_Pop_p0_rii : Hn Tryz.prog := .mc 0 1 3 (.mc 0 2 3 (.cl ok_stack_Queue_int_Len_p0_rii [] (.tw 8 (.nil) (.mix [] [0, 1, 2, 3, 4, 5, 6, 7, 8, 9, 10] [] [] (.mix [] [0, 1, 2, 3, 4, 5, 6, 7, 8, 9] [10] [] (.mix [] [0, 1, 2, 3, 4, 5, 6, 7, 8, 9, 10, 11, 12, 13] [14] [] (.nil)))))))
noncomputable def sp_stack_Queue_int_Pop_p0_rii : Spec := ⟨65, ⟨[(0, .ptr 0 0)], [⟨none, 136, [.own 3 (.int .i64), .dat (.int .i64), .dat (.int .i64)], false, false, none, false⟩]⟩, [⟨[(0, .tup [.dat (.int .i64), .dat .bool])], [⟨(some 0), 136, [.own 3 (.int .i64), .dat (.int .i64), .dat (.int .i64)], false, false, none, false⟩]⟩], fun x => fn_stack_Queue_int_Pop_p0_rii x.1 x.2.1 x.2.2⟩
theorem stack_Queue_int_Pop_p0_rii_is : SpecOk Tryz.prog sp_stack_Queue_int_Pop_p0_rii := fn_is Tryz.func65 h_stack_Queue_int_Pop_p0_rii (by kernel_rfl) (by kernel_rfl)
noncomputable def ok_stack_Queue_int_Pop_p0_rii : OkSpec Tryz.prog := ⟨sp_stack_Queue_int_Pop_p0_rii, stack_Queue_int_Pop_p0_rii_is, Tryz.call65⟩

noncomputable def fn_graph_Graph_isNode (xa : (Option (Int × (List (Int × Int)) × ((List Int) × (List Int)) × ((List Int) × (List Int))))) (xb : Int) : Option Bool :=
  (cond (decide (0 ≤ xb)) ((fn_graph_Graph_Nodes xa).bind fun i28 => some (decide (xb < i28))) (some (false))).bind fun t24 => some (t24)
noncomputable def h_graph_Graph_isNode : Hn Tryz.prog := .gj 4 ⟨[(12, .dat .bool)], []⟩ [] (.two 7 (.cl ok_graph_Graph_Nodes [] (.nil)) (.nil)) (.nil)
noncomputable def sp_graph_Graph_isNode : Spec := ⟨85, ⟨[(0, .dat (.ptr (.cons (.int .i64) (.cons (.sl (.cons (.int .i64) (.one (.int .i64)))) (.cons (.cons (.sl (.int .i64)) (.one (.sl (.int .i64)))) (.one (.cons (.sl (.int .i64)) (.one (.sl (.int .i64)))))))))), (1, .dat (.int .i64))], []⟩, [⟨[(0, .dat .bool)], []⟩], fun x => fn_graph_Graph_isNode x.1 x.2⟩
theorem graph_Graph_isNode_is : SpecOk Tryz.prog sp_graph_Graph_isNode := fn_is Tryz.func85 h_graph_Graph_isNode (by kernel_rfl) (by kernel_rfl)
noncomputable def ok_graph_Graph_isNode : OkSpec Tryz.prog := ⟨sp_graph_Graph_isNode, graph_Graph_isNode_is, Tryz.call85⟩

noncomputable def fn_graph_index_of (xa : ((List Int) × (List Int))) (xb : Int) : Option (List Int) :=
  (getI xa.1 xb).bind fun x175 => (getI xa.1 (IntKind.wrap .i64 (xb + 1))).bind fun x184 => (subL xa.2 x175 x184).bind fun y193 => some (y193)
noncomputable def h_graph_index_of : Hn Tryz.prog := .mix [] [0, 1, 2, 3, 4, 5, 6, 7, 8, 9, 10, 11, 12, 13, 14] [] [] (.nil)
noncomputable def sp_graph_index_of : Spec := ⟨86, ⟨[(0, .dat (.cons (.sl (.int .i64)) (.one (.sl (.int .i64))))), (1, .dat (.int .i64))], []⟩, [⟨[(0, .dat (.sl (.int .i64)))], []⟩], fun x => fn_graph_index_of x.1 x.2⟩
theorem graph_index_of_is : SpecOk Tryz.prog sp_graph_index_of := fn_is Tryz.func86 h_graph_index_of (by kernel_rfl) (by kernel_rfl)
noncomputable def ok_graph_index_of : OkSpec Tryz.prog := ⟨sp_graph_index_of, graph_index_of_is, Tryz.call86⟩

noncomputable def fn_graph_Graph_Out (xa : (Option (Int × (List (Int × Int)) × ((List Int) × (List Int)) × ((List Int) × (List Int))))) (xb : Int) : Option (List Int) :=
  (fn_graph_Graph_isNode xa xb).bind fun t48 => cond (!t48) (some ([])) ((xa : Option (Int × (List (Int × Int)) × ((List Int) × (List Int)) × ((List Int) × (List Int)))).bind fun y54 => (fn_graph_index_of (y54.2.2.1.1, y54.2.2.1.2) xb).bind fun l70 => (fn_slices_Clone_int_int l70).bind fun l79 => some (l79))
noncomputable def h_graph_Graph_Out : Hn Tryz.prog := .cl ok_graph_Graph_isNode [] (.tw 8 (.nil) (.cl ok_graph_index_of [] (.cl ok_slices_Clone_int_int [] (.nil))))
noncomputable def sp_graph_Graph_Out : Spec := ⟨66, ⟨[(0, .dat (.ptr (.cons (.int .i64) (.cons (.sl (.cons (.int .i64) (.one (.int .i64)))) (.cons (.cons (.sl (.int .i64)) (.one (.sl (.int .i64)))) (.one (.cons (.sl (.int .i64)) (.one (.sl (.int .i64)))))))))), (1, .dat (.int .i64))], []⟩, [⟨[(0, .own 3 (.int .i64))], []⟩], fun x => fn_graph_Graph_Out x.1 x.2⟩
theorem graph_Graph_Out_is : SpecOk Tryz.prog sp_graph_Graph_Out := fn_is Tryz.func66 h_graph_Graph_Out (by kernel_rfl) (by kernel_rfl)
noncomputable def ok_graph_Graph_Out : OkSpec Tryz.prog := ⟨sp_graph_Graph_Out, graph_Graph_Out_is, Tryz.call66⟩

noncomputable def fn_tick_Counter_Add_zii (xb : Int) (xc : Int) : Option Unit :=
  some (())
noncomputable def h_tick_Counter_Add_zii : Hn Tryz.prog := .nil
noncomputable def sp_tick_Counter_Add_zii : Spec := ⟨41, ⟨[(0, .nilp), (1, .dat (.int .i64)), (2, .dat (.int .i64))], []⟩, [⟨[], []⟩], fun x => fn_tick_Counter_Add_zii x.1 x.2⟩
theorem tick_Counter_Add_zii_is : SpecOk Tryz.prog sp_tick_Counter_Add_zii := fn_is Tryz.func41 h_tick_Counter_Add_zii (by kernel_rfl) (by kernel_rfl)
noncomputable def ok_tick_Counter_Add_zii : OkSpec Tryz.prog := ⟨sp_tick_Counter_Add_zii, tick_Counter_Add_zii_is, Tryz.call41⟩

noncomputable def fn_graph_Graph_Arcs (xa : (Option (Int × (List (Int × Int)) × ((List Int) × (List Int)) × ((List Int) × (List Int))))) : Option Int :=
  cond (xa.isNone) (some (0)) ((xa : Option (Int × (List (Int × Int)) × ((List Int) × (List Int)) × ((List Int) × (List Int)))).bind fun y14 => some (((y14.2.1.length : Nat) : Int)))
noncomputable def h_graph_Graph_Arcs : Hn Tryz.prog := .tw 4 (.nil) (.nil)
noncomputable def sp_graph_Graph_Arcs : Spec := ⟨70, ⟨[(0, .dat (.ptr (.cons (.int .i64) (.cons (.sl (.cons (.int .i64) (.one (.int .i64)))) (.cons (.cons (.sl (.int .i64)) (.one (.sl (.int .i64)))) (.one (.cons (.sl (.int .i64)) (.one (.sl (.int .i64))))))))))], []⟩, [⟨[(0, .dat (.int .i64))], []⟩], fun x => fn_graph_Graph_Arcs x⟩
theorem graph_Graph_Arcs_is : SpecOk Tryz.prog sp_graph_Graph_Arcs := fn_is Tryz.func70 h_graph_Graph_Arcs (by kernel_rfl) (by kernel_rfl)
noncomputable def ok_graph_Graph_Arcs : OkSpec Tryz.prog := ⟨sp_graph_Graph_Arcs, graph_Graph_Arcs_is, Tryz.call70⟩

noncomputable def fn_graph_Graph_Arc (xa : (Option (Int × (List (Int × Int)) × ((List Int) × (List Int)) × ((List Int) × (List Int))))) (xb : Int) : Option (Int × Int × Bool) :=
  (cond (decide (xb < 0)) (some (true)) ((fn_graph_Graph_Arcs xa).bind fun i52 => some (decide (i52 ≤ xb)))).bind fun t48 => cond (t48) (some ((0, 0, false))) ((xa : Option (Int × (List (Int × Int)) × ((List Int) × (List Int)) × ((List Int) × (List Int)))).bind fun y57 => (getI y57.2.1 xb).bind fun x67 => some ((x67.1, x67.2, true)))
noncomputable def h_graph_Graph_Arc : Hn Tryz.prog := .gj 4 ⟨[(13, .dat .bool)], []⟩ [] (.two 8 (.nil) (.cl ok_graph_Graph_Arcs [] (.nil))) (.tw 13 (.nil) (.nil))
noncomputable def sp_graph_Graph_Arc : Spec := ⟨40, ⟨[(0, .dat (.ptr (.cons (.int .i64) (.cons (.sl (.cons (.int .i64) (.one (.int .i64)))) (.cons (.cons (.sl (.int .i64)) (.one (.sl (.int .i64)))) (.one (.cons (.sl (.int .i64)) (.one (.sl (.int .i64)))))))))), (1, .dat (.int .i64))], []⟩, [⟨[(0, .tup [.agg [.dat (.int .i64), .dat (.int .i64)], .dat .bool])], []⟩], fun x => fn_graph_Graph_Arc x.1 x.2⟩
theorem graph_Graph_Arc_is : SpecOk Tryz.prog sp_graph_Graph_Arc := fn_is Tryz.func40 h_graph_Graph_Arc (by kernel_rfl) (by kernel_rfl)
noncomputable def ok_graph_Graph_Arc : OkSpec Tryz.prog := ⟨sp_graph_Graph_Arc, graph_Graph_Arc_is, Tryz.call40⟩

noncomputable def fn_bfs_Tree_reach_p0ii_rrod (xb : Int) (xc : Int) (qa0 : (List Int)) (qa1 : (List Int)) (qa2 : (List (List Int))) : Option (((List Int) × (List Int) × (List (List Int)))) :=
  (getI qa0 xb).bind fun x121 => (some (qa0.set xb.toNat xc)).bind fun z128 => (cond (decide (xc = (((qa2.length : Nat) : Int)))) ((app (qa2 : List (List Int)) (([[]] : List (List Int)) : List (List Int))).bind fun z147 => some (z147)) (some (qa2)) : Option ((List (List Int)))).bind fun l140 => (getI l140 xc).bind fun x149 => (getI l140 xc).bind fun _ => (chkI xc xc).bind fun _ => (app x149 ([xb] : List Int)).bind fun z192 => (getI l140 xc).bind fun _ => (chkI xc xc).bind fun _ => some ((z128, qa1, l140.set xc.toNat z192))
noncomputable def h_bfs_Tree_reach_p0ii_rrod : Hn Tryz.prog := .pl (.sq [(0, 0), (0, 1)] ⟨[], [⟨(some 0), 134, [.is 1 (.any), .is 2 (.any), .od (.row 44 (.row 3 (.dat (.int .i64))))], false, false, none, false⟩, ⟨(some 9), 0, [], false, true, none, false⟩, ⟨(some 10), 0, [], false, true, none, false⟩]⟩ [0, 5] (.tw 19 (.ot (.row 3 (.dat (.int .i64))) (.ot (.row 3 (.dat (.int .i64))) (.nil))) (.nil)) (.opp [9] 11 38 (.mix [([0, 1, 2, 3, 4, 5, 6, 7, 8, 9, 10, 11, 12], 13), ([], 14)] [15] [16] [15] (.cls 11 21 (.nil)))))
noncomputable def sp_bfs_Tree_reach_p0ii_rrod : Spec := ⟨62, ⟨[(0, .ptr 0 0), (1, .dat (.int .i64)), (2, .dat (.int .i64))], [⟨none, 134, [.own 3 (.int .i64), .own 3 (.int .i64), .od (.row 44 (.row 3 (.dat (.int .i64))))], false, false, none, false⟩]⟩, [⟨[], [⟨(some 0), 134, [.own 3 (.int .i64), .own 3 (.int .i64), .od (.row 44 (.row 3 (.dat (.int .i64))))], false, false, none, false⟩]⟩], fun x => fn_bfs_Tree_reach_p0ii_rrod x.1 x.2.1 x.2.2.1 x.2.2.2.1 x.2.2.2.2⟩
theorem bfs_Tree_reach_p0ii_rrod_is : SpecOk Tryz.prog sp_bfs_Tree_reach_p0ii_rrod := fn_is Tryz.func62 h_bfs_Tree_reach_p0ii_rrod (by kernel_rfl) (by kernel_rfl)
noncomputable def ok_bfs_Tree_reach_p0ii_rrod : OkSpec Tryz.prog := ⟨sp_bfs_Tree_reach_p0ii_rrod, bfs_Tree_reach_p0ii_rrod_is, Tryz.call62⟩
noncomputable def fn_stack_Queue_int_Push_p0k_rii_l1 (xb : (List Int)) : (Int × (List Int) × Int × Int) → Option ((Int × (List Int) × Int × Int) ⊕ ((List Int) × Int × Int)) := fun ((i915, l916, i921, i922) : (Int × (List Int) × Int × Int)) => cond (decide (i915 < (((xb.length : Nat) : Int)))) ((getI xb i915).bind fun x1014 => (cond (decide (i922 = (((l916.length : Nat) : Int)))) ((fn_stack_Queue_int_grow_p0_rii l916 i921 i922).bind fun l1044 => some ((l1044, 0))) (some ((l916, i921))) : Option (((List Int) × Int))).bind fun (l1035, i1040) => (nz (((l1035.length : Nat) : Int))).bind fun u1080 => (getI l1035 (Int.tmod (IntKind.wrap .i64 (i1040 + i922)) (((l1035.length : Nat) : Int)))).bind fun x1082 => (some (l1035.set (Int.tmod (IntKind.wrap .i64 (i1040 + i922)) (((l1035.length : Nat) : Int))).toNat x1014)).bind fun z1089 => some (.inl ((IntKind.wrap .i64 (i915 + 1), z1089, i1040, IntKind.wrap .i64 (i922 + 1))))) (some (.inr (((l916, i921, i922)))))
noncomputable def fn_stack_Queue_int_Push_p0k_rii (xb : (List Int)) (qa0 : (List Int)) (qa1 : Int) (qa2 : Int) : Option (((List Int) × Int × Int)) :=
  (loop (fn_stack_Queue_int_Push_p0k_rii_l1 xb) (0, qa0, qa1, qa2) : Option (((List Int) × Int × Int))).bind fun (l819, i824, i825) => some ((l819, i824, i825))
noncomputable def h_stack_Queue_int_Push_p0k_rii : Hn Tryz.prog := .jn [] ⟨[], [⟨(some 0), 136, [.own 3 (.int .i64), .dat (.int .i64), .dat (.int .i64)], false, false, none, false⟩]⟩ [1, 0] (.lp ⟨[(10, .dat (.int .i64))], [⟨(some 0), 136, [.own 3 (.int .i64), .dat (.int .i64), .dat (.int .i64)], false, false, none, false⟩]⟩ (.tw 11 (.pl (.pl (.sq [(0, 2)] ⟨[], [⟨(some 0), 136, [.own 3 (.int .i64), .dat (.int .i64), .is 1 (.any)], false, false, none, false⟩, ⟨(some 7), 0, [], false, true, none, false⟩]⟩ [0, 4] (.mix [] [0, 1, 2, 3, 4, 5, 6, 7, 8, 9] [] [] (.tw 23 (.cl ok_stack_Queue_int_grow_p0_rii [] (.nil)) (.nil))) (.mix [] [0, 1, 2, 3, 4, 5, 6, 7, 8, 9, 10, 11, 12, 13, 14, 15, 16, 17, 18, 19, 20] [21] [] (.nil))))) (.nil))) (.nil)
noncomputable def sp_stack_Queue_int_Push_p0k_rii : Spec := ⟨63, ⟨[(0, .ptr 0 0), (1, .dat (.sl (.int .i64)))], [⟨none, 136, [.own 3 (.int .i64), .dat (.int .i64), .dat (.int .i64)], false, false, none, false⟩]⟩, [⟨[], [⟨(some 0), 136, [.own 3 (.int .i64), .dat (.int .i64), .dat (.int .i64)], false, false, none, false⟩]⟩], fun x => fn_stack_Queue_int_Push_p0k_rii x.1 x.2.1 x.2.2.1 x.2.2.2⟩
theorem stack_Queue_int_Push_p0k_rii_is : SpecOk Tryz.prog sp_stack_Queue_int_Push_p0k_rii := fn_is Tryz.func63 h_stack_Queue_int_Push_p0k_rii (by kernel_rfl) (by kernel_rfl)
noncomputable def ok_stack_Queue_int_Push_p0k_rii : OkSpec Tryz.prog := ⟨sp_stack_Queue_int_Push_p0k_rii, stack_Queue_int_Push_p0k_rii_is, Tryz.call63⟩

noncomputable def fn_bfs_Tree_lead_p0ii_rrod (xb : Int) (xc : Int) (qa0 : (List Int)) (qa1 : (List Int)) (qa2 : (List (List Int))) : Option (((List Int) × (List Int) × (List (List Int)))) :=
  (getI qa1 xb).bind fun x110 => (cond (decide (x110 < 0)) (some (true)) ((getI qa1 xb).bind fun x127 => some (decide (xc < x127)))).bind fun t125 => cond (t125) ((getI qa1 xb).bind fun x147 => (some (qa1.set xb.toNat xc)).bind fun z154 => some ((qa0, z154, qa2))) (some ((qa0, qa1, qa2)))
noncomputable def h_bfs_Tree_lead_p0ii_rrod : Hn Tryz.prog := .gj 9 ⟨[(24, .dat .bool)], []⟩ [] (.two 14 (.nil) (.nil)) (.tw 24 (.nil) (.nil))
noncomputable def sp_bfs_Tree_lead_p0ii_rrod : Spec := ⟨67, ⟨[(0, .ptr 0 0), (1, .dat (.int .i64)), (2, .dat (.int .i64))], [⟨none, 134, [.own 3 (.int .i64), .own 3 (.int .i64), .od (.row 44 (.row 3 (.dat (.int .i64))))], false, false, none, false⟩]⟩, [⟨[], [⟨(some 0), 134, [.own 3 (.int .i64), .own 3 (.int .i64), .od (.row 44 (.row 3 (.dat (.int .i64))))], false, false, none, false⟩]⟩], fun x => fn_bfs_Tree_lead_p0ii_rrod x.1 x.2.1 x.2.2.1 x.2.2.2.1 x.2.2.2.2⟩
theorem bfs_Tree_lead_p0ii_rrod_is : SpecOk Tryz.prog sp_bfs_Tree_lead_p0ii_rrod := fn_is Tryz.func67 h_bfs_Tree_lead_p0ii_rrod (by kernel_rfl) (by kernel_rfl)
noncomputable def ok_bfs_Tree_lead_p0ii_rrod : OkSpec Tryz.prog := ⟨sp_bfs_Tree_lead_p0ii_rrod, bfs_Tree_lead_p0ii_rrod_is, Tryz.call67⟩
noncomputable def fn_bfs_From_kpiz_l1 (xa : (Option (Int × (List (Int × Int)) × ((List Int) × (List Int)) × ((List Int) × (List Int))))) (i35428 : Int) (l35453 : (List Int)) : (Int × (List Int) × (List Int) × (List (List Int)) × (List Int) × Int × Int) → Option ((Int × (List Int) × (List Int) × (List (List Int)) × (List Int) × Int × Int) ⊕ ((List Int) × (List Int) × (List (List Int)) × (List Int) × Int × Int)) := fun ((i37391, l37392, l37397, l37402, l37404, i37409, i37410) : (Int × (List Int) × (List Int) × (List (List Int)) × (List Int) × Int × Int)) => cond (decide (i37391 < (((l35453.length : Nat) : Int)))) ((getI l35453 i37391).bind fun x37895 => (fn_graph_Graph_Arc xa x37895).bind fun (i37913, i37914, t37915) => ((getI l37392 i37914).bind fun x38114 => cond (decide (x38114 < 0)) ((getI l37392 i35428).bind fun x38169 => (fn_bfs_Tree_reach_p0ii_rrod i37914 (IntKind.wrap .i64 (x38169 + 1)) l37392 l37397 l37402).bind fun (l38178, l38179, l38180) => (fn_stack_Queue_int_Push_p0k_rii ([i37914] : List Int) l37404 i37409 i37410).bind fun (l38222, i38223, i38224) => some ((l38178, l38179, l38180, l38222, i38223, i38224))) (some ((l37392, l37397, l37402, l37404, i37409, i37410))) : Option (((List Int) × (List Int) × (List (List Int)) × (List Int) × Int × Int))).bind fun (l38067, l38072, l38077, l38079, i38084, i38085) => (getI l38067 i37914).bind fun x38289 => (getI l38067 i35428).bind fun x38296 => cond (decide (x38289 = (IntKind.wrap .i64 (x38296 + 1)))) ((fn_bfs_Tree_lead_p0ii_rrod i37914 x37895 l38067 l38072 l38077).bind fun (l38325, l38326, l38327) => some (.inl ((IntKind.wrap .i64 (i37391 + 1), l38325, l38326, l38327, l38079, i38084, i38085)))) (some (.inl ((IntKind.wrap .i64 (i37391 + 1), l38067, l38072, l38077, l38079, i38084, i38085))))) (some (.inr (((l37392, l37397, l37402, l37404, i37409, i37410)))))
noncomputable def fn_bfs_From_kpiz_l2 (xa : (Option (Int × (List (Int × Int)) × ((List Int) × (List Int)) × ((List Int) × (List Int))))) : ((List Int) × (List Int) × (List (List Int)) × (List Int) × Int × Int) → Option (((List Int) × (List Int) × (List (List Int)) × (List Int) × Int × Int) ⊕ ((List Int) × (List Int) × (List (List Int)))) := fun ((l32391, l32396, l32401, l32403, i32408, i32409) : ((List Int) × (List Int) × (List (List Int)) × (List Int) × Int × Int)) => (fn_stack_Queue_int_Len_p0_rii l32403 i32408 i32409).bind fun (i35400, l35401) => cond (decide (0 < i35400)) ((fn_stack_Queue_int_Pop_p0_rii l35401 i32408 i32409).bind fun (i35428, t35429, l35430, i35431, i35432) => (fn_graph_Graph_Out xa i35428).bind fun l35453 => (fn_tick_Counter_Add_zii 6 (IntKind.wrap .i64 (1 + (((l35453.length : Nat) : Int))))).bind fun _ => (loop (fn_bfs_From_kpiz_l1 xa i35428 l35453) (0, l32391, l32396, l32401, l35430, i35431, i35432) : Option (((List Int) × (List Int) × (List (List Int)) × (List Int) × Int × Int))).bind fun (l36897, l36902, l36907, l36909, i36914, i36915) => some (.inl (l36897, l36902, l36907, l36909, i36914, i36915))) (some (.inr (((l32391, l32396, l32401)))))
noncomputable def fn_bfs_From_kpiz_l3 (l29414 : (List (List Int))) : (Int × (List (List Int))) → Option ((Int × (List (List Int))) ⊕ (List (List Int))) := fun ((i38376, l38377) : (Int × (List (List Int)))) => cond (decide (i38376 < (((l29414.length : Nat) : Int)))) ((getI l38377 i38376).bind fun x38388 => (getI l38377 i38376).bind fun _ => (chkI i38376 i38376).bind fun _ => (srt x38388).bind fun l38392 => some (.inl ((IntKind.wrap .i64 (i38376 + 1), l38377.set i38376.toNat l38392)))) (some (.inr (l38377)))
noncomputable def fn_bfs_From_kpiz (xa : (Option (Int × (List (Int × Int)) × ((List Int) × (List Int)) × ((List Int) × (List Int))))) (xb : Int) : Option ((Option ((List Int) × (List Int) × (List (List Int))))) :=
  (fn_graph_Graph_Nodes xa).bind fun i20275 => (fn_slices_Repeat_int_int (([(-1)] : List Int)) i20275).bind fun l20284 => (fn_graph_Graph_Nodes xa).bind fun i20297 => (fn_slices_Repeat_int_int (([(-1)] : List Int)) i20297).bind fun l20306 => ((cond (decide (0 ≤ xb)) ((fn_graph_Graph_Nodes xa).bind fun i20417 => some (decide (xb < i20417))) (some (false))).bind fun t20413 => cond (t20413) ((fn_bfs_Tree_reach_p0ii_rrn xb 0 l20284 l20306).bind fun (l20424, l20425, l20426) => (fn_stack_Queue_int_Push_p0k_nii ([xb] : List Int) 0 0).bind fun (l20467, i20468, i20469) => some ((l20424, l20425, l20426, l20467, i20468, i20469))) (some ((l20284, l20306, [], [], 0, 0))) : Option (((List Int) × (List Int) × (List (List Int)) × (List Int) × Int × Int))).bind fun (l20387, l20392, l20397, l20399, i20404, i20405) => (loop (fn_bfs_From_kpiz_l2 xa) (l20387, l20392, l20397, l20399, i20404, i20405) : Option (((List Int) × (List Int) × (List (List Int))))).bind fun (l29404, l29409, l29414) => (loop (fn_bfs_From_kpiz_l3 l29414) (0, l29414) : Option ((List (List Int)))).bind fun l38367 => some ((some (l29404, l29409, l38367)))
noncomputable def h_bfs_From_kpiz : Hn Tryz.prog := .cl ok_graph_Graph_Nodes [] (.per 0 1 (.cl ok_slices_Repeat_int_int [] (.cl ok_graph_Graph_Nodes [] (.per 4 5 (.cl ok_slices_Repeat_int_int [] (.pl (.sq [] ⟨[(21, .any), (25, .any), (26, .any)], [⟨(some 8), 134, [.own 3 (.int .i64), .own 3 (.int .i64), .od (.row 44 (.row 3 (.dat (.int .i64))))], false, false, none, false⟩, ⟨(some 10), 136, [.own 3 (.int .i64), .dat (.int .i64), .dat (.int .i64)], false, false, none, false⟩]⟩ [10, 8, 6, 2] (.gj 4 ⟨[(35, .dat .bool)], []⟩ [] (.two 30 (.cl ok_graph_Graph_Nodes [] (.nil)) (.nil)) (.tw 35 (.cl ok_bfs_Tree_reach_p0ii_rrn [] (.cl ok_stack_Queue_int_Push_p0k_nii [24] (.nil))) (.nil))) (.jn [] ⟨[], [⟨(some 8), 134, [.own 3 (.int .i64), .own 3 (.int .i64), .od (.row 44 (.row 3 (.dat (.int .i64))))], false, false, none, false⟩]⟩ [8, 10, 12, 14, 19, 16] (.lp ⟨[], [⟨(some 8), 134, [.own 3 (.int .i64), .own 3 (.int .i64), .od (.row 44 (.row 3 (.dat (.int .i64))))], false, false, none, false⟩, ⟨(some 10), 136, [.own 3 (.int .i64), .dat (.int .i64), .dat (.int .i64)], false, false, none, false⟩]⟩ (.mc 10 1 31 (.mc 10 2 31 (.cl ok_stack_Queue_int_Len_p0_rii [] (.tw 43 (.cl ok_stack_Queue_int_Pop_p0_rii [] (.cl ok_graph_Graph_Out [] (.cl ok_tick_Counter_Add_zii [] (.jn [] ⟨[], [⟨(some 8), 134, [.own 3 (.int .i64), .own 3 (.int .i64), .od (.row 44 (.row 3 (.dat (.int .i64))))], false, false, none, false⟩, ⟨(some 10), 136, [.own 3 (.int .i64), .dat (.int .i64), .dat (.int .i64)], false, false, none, false⟩]⟩ [43, 10, 8, 22, 24, 26] (.lp ⟨[(58, .dat (.int .i64))], [⟨(some 8), 134, [.own 3 (.int .i64), .own 3 (.int .i64), .od (.row 44 (.row 3 (.dat (.int .i64))))], false, false, none, false⟩, ⟨(some 10), 136, [.own 3 (.int .i64), .dat (.int .i64), .dat (.int .i64)], false, false, none, false⟩]⟩ (.tw 59 (.cl ok_graph_Graph_Arc [] (.sq [] ⟨[], [⟨(some 8), 134, [.own 3 (.int .i64), .own 3 (.int .i64), .od (.row 44 (.row 3 (.dat (.int .i64))))], false, false, none, false⟩, ⟨(some 10), 136, [.own 3 (.int .i64), .dat (.int .i64), .dat (.int .i64)], false, false, none, false⟩]⟩ [8, 10, 48, 50, 55, 52] (.mix [] [0, 1, 2, 3, 4, 5, 6, 7, 8] [] [] (.tw 76 (.mix [] [0, 1, 2, 3, 4, 5, 6, 7, 8, 9, 10] [11] [] (.cl ok_bfs_Tree_reach_p0ii_rrod [] (.cl ok_stack_Queue_int_Push_p0k_rii [75] (.nil)))) (.nil))) (.mix [] [0, 1, 2, 3, 4, 5, 6, 7, 8, 9, 10, 11, 12, 13, 14, 15, 16] [] [] (.tw 109 (.cl ok_bfs_Tree_lead_p0ii_rrod [] (.nil)) (.nil))))) (.nil))) (.nil))))) (.nil)))))) (.jn [] ⟨[], [⟨(some 26), 0, [], false, false, some (.row 44 (.row 3 (.dat (.int .i64)))), false⟩]⟩ [26] (.lp ⟨[(121, .dat (.int .i64))], [⟨(some 26), 0, [], false, false, some (.row 44 (.row 3 (.dat (.int .i64)))), false⟩]⟩ (.tw 122 (.opn 26 121 (.cl ok_Sort [] (.cls 26 30 (.nil)))) (.nil))) (.per 22 23 (.per 24 25 (.per 26 29 (.perb 8 28 (.cons (.sl (.int .i64)) (.cons (.sl (.int .i64)) (.one (.sl (.sl (.int .i64)))))) (.nil))))))))))))))
noncomputable def sp_bfs_From_kpiz : Spec := ⟨37, ⟨[(0, .dat (.ptr (.cons (.int .i64) (.cons (.sl (.cons (.int .i64) (.one (.int .i64)))) (.cons (.cons (.sl (.int .i64)) (.one (.sl (.int .i64)))) (.one (.cons (.sl (.int .i64)) (.one (.sl (.int .i64)))))))))), (1, .dat (.int .i64)), (2, .nilp)], []⟩, [⟨[(0, .dat (.ptr (.cons (.sl (.int .i64)) (.cons (.sl (.int .i64)) (.one (.sl (.sl (.int .i64))))))))], []⟩], fun x => fn_bfs_From_kpiz x.1 x.2⟩
theorem bfs_From_kpiz_is : SpecOk Tryz.prog sp_bfs_From_kpiz := fn_is Tryz.func37 h_bfs_From_kpiz (by kernel_rfl) (by kernel_rfl)
noncomputable def ok_bfs_From_kpiz : OkSpec Tryz.prog := ⟨sp_bfs_From_kpiz, bfs_From_kpiz_is, Tryz.call37⟩

noncomputable def fn_bfs_Tree_isNode (xa : (Option ((List Int) × (List Int) × (List (List Int))))) (xb : Int) : Option Bool :=
  (cond ((!xa.isNone) && (decide (0 ≤ xb))) ((xa : Option ((List Int) × (List Int) × (List (List Int)))).bind fun y42 => some (decide (xb < (((y42.1.length : Nat) : Int))))) (some (false))).bind fun t40 => some (t40)
noncomputable def h_bfs_Tree_isNode : Hn Tryz.prog := .gp 2 (.wt 11 (.gj 7 ⟨[(19, .dat .bool)], []⟩ [] (.two 11 (.nil) (.nil)) (.nil)))
noncomputable def sp_bfs_Tree_isNode : Spec := ⟨69, ⟨[(0, .dat (.ptr (.cons (.sl (.int .i64)) (.cons (.sl (.int .i64)) (.one (.sl (.sl (.int .i64)))))))), (1, .dat (.int .i64))], []⟩, [⟨[(0, .dat .bool)], []⟩], fun x => fn_bfs_Tree_isNode x.1 x.2⟩
theorem bfs_Tree_isNode_is : SpecOk Tryz.prog sp_bfs_Tree_isNode := fn_is Tryz.func69 h_bfs_Tree_isNode (by kernel_rfl) (by kernel_rfl)
noncomputable def ok_bfs_Tree_isNode : OkSpec Tryz.prog := ⟨sp_bfs_Tree_isNode, bfs_Tree_isNode_is, Tryz.call69⟩

noncomputable def fn_bfs_Tree_Dist (xa : (Option ((List Int) × (List Int) × (List (List Int))))) (xb : Int) : Option Int :=
  (fn_bfs_Tree_isNode xa xb).bind fun t30 => cond (!t30) (some ((-1))) ((xa : Option ((List Int) × (List Int) × (List (List Int)))).bind fun y35 => (getI y35.1 xb).bind fun x45 => some (x45))
noncomputable def h_bfs_Tree_Dist : Hn Tryz.prog := .cl ok_bfs_Tree_isNode [] (.tw 8 (.nil) (.nil))
noncomputable def sp_bfs_Tree_Dist : Spec := ⟨38, ⟨[(0, .dat (.ptr (.cons (.sl (.int .i64)) (.cons (.sl (.int .i64)) (.one (.sl (.sl (.int .i64)))))))), (1, .dat (.int .i64))], []⟩, [⟨[(0, .dat (.int .i64))], []⟩], fun x => fn_bfs_Tree_Dist x.1 x.2⟩
theorem bfs_Tree_Dist_is : SpecOk Tryz.prog sp_bfs_Tree_Dist := fn_is Tryz.func38 h_bfs_Tree_Dist (by kernel_rfl) (by kernel_rfl)
noncomputable def ok_bfs_Tree_Dist : OkSpec Tryz.prog := ⟨sp_bfs_Tree_Dist, bfs_Tree_Dist_is, Tryz.call38⟩

noncomputable def fn_bfs_Tree_Back (xa : (Option ((List Int) × (List Int) × (List (List Int))))) (xb : Int) : Option Int :=
  (fn_bfs_Tree_isNode xa xb).bind fun t30 => cond (!t30) (some ((-1))) ((xa : Option ((List Int) × (List Int) × (List (List Int)))).bind fun y35 => (getI y35.2.1 xb).bind fun x45 => some (x45))
noncomputable def h_bfs_Tree_Back : Hn Tryz.prog := .cl ok_bfs_Tree_isNode [] (.tw 8 (.nil) (.nil))
noncomputable def sp_bfs_Tree_Back : Spec := ⟨39, ⟨[(0, .dat (.ptr (.cons (.sl (.int .i64)) (.cons (.sl (.int .i64)) (.one (.sl (.sl (.int .i64)))))))), (1, .dat (.int .i64))], []⟩, [⟨[(0, .dat (.int .i64))], []⟩], fun x => fn_bfs_Tree_Back x.1 x.2⟩
theorem bfs_Tree_Back_is : SpecOk Tryz.prog sp_bfs_Tree_Back := fn_is Tryz.func39 h_bfs_Tree_Back (by kernel_rfl) (by kernel_rfl)
noncomputable def ok_bfs_Tree_Back : OkSpec Tryz.prog := ⟨sp_bfs_Tree_Back, bfs_Tree_Back_is, Tryz.call39⟩
noncomputable def fn_path_Short_kpiiz_l1 (xa : (Option (Int × (List (Int × Int)) × ((List Int) × (List Int)) × ((List Int) × (List Int))))) (p461 : (Option ((List Int) × (List Int) × (List (List Int))))) : (Int × (List Int) × Int) → Option ((Int × (List Int) × Int) ⊕ (List Int)) := fun ((i660, l661, i666) : (Int × (List Int) × Int)) => cond (decide (0 ≤ i666)) ((fn_bfs_Tree_Back p461 i660).bind fun i713 => (getI l661 i666).bind fun x717 => (some (l661.set i666.toNat i713)).bind fun z724 => (getI z724 i666).bind fun x729 => (fn_graph_Graph_Arc xa x729).bind fun (i738, i739, t740) => some (.inl ((i738, z724, IntKind.wrap .i64 (i666 - 1))))) (some (.inr (l661)))
noncomputable def fn_path_Short_kpiiz (xa : (Option (Int × (List (Int × Int)) × ((List Int) × (List Int)) × ((List Int) × (List Int))))) (xb : Int) (xc : Int) : Option (((List Int) × Bool)) :=
  (fn_bfs_From_kpiz xa xb).bind fun p461 => (fn_bfs_Tree_Dist p461 xc).bind fun i469 => cond (decide (i469 < 0)) (some (([], false))) ((fn_bfs_Tree_Dist p461 xc).bind fun i477 => (mk i477 i477 0 : Option (List Int)).bind fun z481 => (loop (fn_path_Short_kpiiz_l1 xa p461) ((xc, z481, IntKind.wrap .i64 ((((z481.length : Nat) : Int)) - 1))) : Option (List Int)).bind fun l613 => (fn_tick_Counter_Add_zii 6 (((l613.length : Nat) : Int))).bind fun _ => some ((l613, true)))
noncomputable def h_path_Short_kpiiz : Hn Tryz.prog := .cl ok_bfs_From_kpiz [] (.cl ok_bfs_Tree_Dist [] (.tw 22 (.nil) (.cl ok_bfs_Tree_Dist [] (.jn [] ⟨[(11, .own 3 (.int .i64)), (26, .any), (27, .any)], []⟩ [0] (.lp ⟨[(2, .dat (.int .i64)), (11, .own 3 (.int .i64)), (12, .dat (.int .i64))], []⟩ (.tw 31 (.cl ok_bfs_Tree_Back [] (.cl ok_graph_Graph_Arc [] (.nil))) (.nil))) (.cl ok_tick_Counter_Add_zii [] (.nil))))))
noncomputable def sp_path_Short_kpiiz : Spec := ⟨25, ⟨[(0, .dat (.ptr (.cons (.int .i64) (.cons (.sl (.cons (.int .i64) (.one (.int .i64)))) (.cons (.cons (.sl (.int .i64)) (.one (.sl (.int .i64)))) (.one (.cons (.sl (.int .i64)) (.one (.sl (.int .i64)))))))))), (1, .dat (.int .i64)), (2, .dat (.int .i64)), (3, .nilp)], []⟩, [⟨[(0, .tup [.own 3 (.int .i64), .dat .bool])], []⟩], fun x => fn_path_Short_kpiiz x.1 x.2.1 x.2.2⟩
theorem path_Short_kpiiz_is : SpecOk Tryz.prog sp_path_Short_kpiiz := fn_is Tryz.func25 h_path_Short_kpiiz (by kernel_rfl) (by kernel_rfl)
noncomputable def ok_path_Short_kpiiz : OkSpec Tryz.prog := ⟨sp_path_Short_kpiiz, path_Short_kpiiz_is, Tryz.call25⟩
noncomputable def fn_blame_Of_akkz_l1 (xc : (List (Int × Int))) (p285 : (Option (Int × (List (Int × Int)) × ((List Int) × (List Int)) × ((List Int) × (List Int))))) : ((List (Int × Int × (List Int))) × Int) → Option (((List (Int × Int × (List Int))) × Int) ⊕ (List (Int × Int × (List Int)))) := fun ((l471, i476) : ((List (Int × Int × (List Int))) × Int)) => cond (decide (i476 < (((xc.length : Nat) : Int)))) ((getI xc i476).bind fun x523 => (fn_path_Short_kpiiz p285 x523.1 x523.2).bind fun (l535, t536) => cond (t536) ((app l471 (([(x523.1, x523.2, l535)] : List (Int × Int × (List Int))))).bind fun z551 => some (.inl ((z551, IntKind.wrap .i64 (i476 + 1))))) (some (.inl ((l471, IntKind.wrap .i64 (i476 + 1)))))) (some (.inr (l471)))
noncomputable def fn_blame_Of_akkz (xa : (Int × Int × (List (Int × Int)) × (List (List (Int × Bool))) × (List (Int × Bool)) × (List (Int × (List (Int × Int)) × (List (List (Int × Bool))) × (List (Int × Bool)))) × (List ((List (Int × Int × Int × Int × Bool)) × (Int × Int × Int × (List Int) × (List Int) × (List Int)))))) (xb : (List (Int × Int × (Int × Int × Int × Int × Bool)))) (xc : (List (Int × Int))) : Option ((List (Int × Int × (List Int)))) :=
  (fn_cons_Graph (xa.1, xa.2.1, xa.2.2.1, xa.2.2.2.1, xa.2.2.2.2.1, xa.2.2.2.2.2.1, xa.2.2.2.2.2.2) xb).bind fun p285 => (loop (fn_blame_Of_akkz_l1 xc p285) ([], 0) : Option ((List (Int × Int × (List Int))))).bind fun l422 => some (l422)
noncomputable def h_blame_Of_akkz : Hn Tryz.prog := .cl ok_cons_Graph [] (.jn [] ⟨[(10, .own 46 (.cons (.int .i64) (.cons (.int .i64) (.one (.sl (.int .i64))))))], []⟩ [0] (.lp ⟨[(10, .own 46 (.cons (.int .i64) (.cons (.int .i64) (.one (.sl (.int .i64)))))), (20, .dat (.int .i64))], []⟩ (.tw 21 (.cl ok_path_Short_kpiiz [] (.tw 34 (.per 7 8 (.nil)) (.nil))) (.nil))) (.nil))
noncomputable def sp_blame_Of_akkz : Spec := ⟨9, ⟨[(0, .dat (.cons (.int .i64) (.cons (.int .i64) (.cons (.sl (.cons (.int .i64) (.one (.int .i64)))) (.cons (.sl (.one (.sl (.cons (.int .i64) (.one .bool))))) (.cons (.one (.sl (.cons (.int .i64) (.one .bool)))) (.cons (.sl (.cons (.int .i64) (.cons (.sl (.cons (.int .i64) (.one (.int .i64)))) (.cons (.sl (.one (.sl (.cons (.int .i64) (.one .bool))))) (.one (.one (.sl (.cons (.int .i64) (.one .bool))))))))) (.one (.sl (.cons (.sl (.cons (.int .i64) (.cons (.int .i64) (.cons (.int .i64) (.cons (.int .i64) (.one .bool)))))) (.one (.cons (.int .i64) (.cons (.int .i64) (.cons (.int .i64) (.cons (.sl (.int .i64)) (.cons (.sl (.int .i64)) (.one (.sl (.int .i64))))))))))))))))))), (1, .dat (.sl (.cons (.int .i64) (.cons (.int .i64) (.one (.cons (.int .i64) (.cons (.int .i64) (.cons (.int .i64) (.cons (.int .i64) (.one .bool)))))))))), (2, .dat (.sl (.cons (.int .i64) (.one (.int .i64))))), (3, .nilp)], []⟩, [⟨[(0, .own 46 (.cons (.int .i64) (.cons (.int .i64) (.one (.sl (.int .i64))))))], []⟩], fun x => fn_blame_Of_akkz x.1 x.2.1 x.2.2⟩
theorem blame_Of_akkz_is : SpecOk Tryz.prog sp_blame_Of_akkz := fn_is Tryz.func9 h_blame_Of_akkz (by kernel_rfl) (by kernel_rfl)
noncomputable def ok_blame_Of_akkz : OkSpec Tryz.prog := ⟨sp_blame_Of_akkz, blame_Of_akkz_is, Tryz.call9⟩

noncomputable def fn_numeral_Pair (xa : (Int × Int)) : Option (List UInt8) :=
  cond ((decide (xa.1 < 0)) || (decide (xa.2 < 0))) (some (([] : List UInt8))) ((fn_numeral_Text xa.1).bind fun s124 => (app s124 ([58] : List UInt8)).bind fun z128 => (fn_numeral_Text xa.2).bind fun s132 => (app z128 s132).bind fun z136 => some (z136))
noncomputable def h_numeral_Pair : Hn Tryz.prog := .gp 3 (.tw 10 (.nil) (.mix [([0, 1, 4, 5], 2), ([3], 6)] [7, 8] [] [] (.cl ok_numeral_Text [] (.cl ok_numeral_Text [] (.nil)))))
noncomputable def sp_numeral_Pair : Spec := ⟨29, ⟨[(0, .dat (.cons (.int .i64) (.one (.int .i64))))], []⟩, [⟨[(0, .dat .str)], []⟩], fun x => fn_numeral_Pair x⟩
theorem numeral_Pair_is : SpecOk Tryz.prog sp_numeral_Pair := fn_is Tryz.func29 h_numeral_Pair (by kernel_rfl) (by kernel_rfl)
noncomputable def ok_numeral_Pair : OkSpec Tryz.prog := ⟨sp_numeral_Pair, numeral_Pair_is, Tryz.call29⟩

noncomputable def fn_prov_isKind (xa : Int) : Option Bool :=
  some ((decide (1 ≤ xa)) && (decide (xa ≤ 7)))
noncomputable def h_prov_isKind : Hn Tryz.prog := .gp 2 (.nil)
noncomputable def sp_prov_isKind : Spec := ⟨89, ⟨[(0, .dat (.int .i64))], []⟩, [⟨[(0, .dat .bool)], []⟩], fun x => fn_prov_isKind x⟩
theorem prov_isKind_is : SpecOk Tryz.prog sp_prov_isKind := fn_is Tryz.func89 h_prov_isKind (by kernel_rfl) (by kernel_rfl)
noncomputable def ok_prov_isKind : OkSpec Tryz.prog := ⟨sp_prov_isKind, prov_isKind_is, Tryz.call89⟩

noncomputable def fn_prov_Right (xa : (Int × Int × Int × Int × Bool)) : Option Bool :=
  (cond (((decide (0 ≤ xa.1)) && (decide (0 ≤ xa.2.1))) && (decide (0 ≤ xa.2.2.2.1))) ((fn_prov_isKind xa.2.2.1).bind fun t38 => some (t38)) (some (false))).bind fun t34 => some (t34)
noncomputable def h_prov_Right : Hn Tryz.prog := .gp 3 (.wt 11 (.gp 3 (.wt 16 (.gj 3 ⟨[(20, .dat .bool)], []⟩ [] (.two 16 (.cl ok_prov_isKind [] (.nil)) (.nil)) (.nil)))))
noncomputable def sp_prov_Right : Spec := ⟨78, ⟨[(0, .dat (.cons (.int .i64) (.cons (.int .i64) (.cons (.int .i64) (.cons (.int .i64) (.one .bool))))))], []⟩, [⟨[(0, .dat .bool)], []⟩], fun x => fn_prov_Right x⟩
theorem prov_Right_is : SpecOk Tryz.prog sp_prov_Right := fn_is Tryz.func78 h_prov_Right (by kernel_rfl) (by kernel_rfl)
noncomputable def ok_prov_Right : OkSpec Tryz.prog := ⟨sp_prov_Right, prov_Right_is, Tryz.call78⟩

noncomputable def fn_prov_Name (xa : Int) : Option (List UInt8) :=
  cond (decide (xa = 1)) (some (([102, 108, 111, 119] : List UInt8))) (cond (decide (xa = 2)) (some (([108, 111, 97, 110] : List UInt8))) (cond (decide (xa = 3)) (some (([98, 97, 115, 101] : List UInt8))) (cond (decide (xa = 4)) (some (([110, 101, 101, 100] : List UInt8))) (cond (decide (xa = 5)) (some (([112, 97, 115, 115] : List UInt8))) (cond (decide (xa = 6)) (some (([103, 105, 118, 101] : List UInt8))) (cond (decide (xa = 7)) (some (([111, 117, 116] : List UInt8))) (some (([63] : List UInt8)))))))))
noncomputable def h_prov_Name : Hn Tryz.prog := .tw 4 (.nil) (.tw 6 (.nil) (.tw 8 (.nil) (.tw 10 (.nil) (.tw 12 (.nil) (.tw 14 (.nil) (.tw 16 (.nil) (.nil)))))))
noncomputable def sp_prov_Name : Spec := ⟨79, ⟨[(0, .dat (.int .i64))], []⟩, [⟨[(0, .dat .str)], []⟩], fun x => fn_prov_Name x⟩
theorem prov_Name_is : SpecOk Tryz.prog sp_prov_Name := fn_is Tryz.func79 h_prov_Name (by kernel_rfl) (by kernel_rfl)
noncomputable def ok_prov_Name : OkSpec Tryz.prog := ⟨sp_prov_Name, prov_Name_is, Tryz.call79⟩

noncomputable def fn_prov_Text (xa : (Int × Int × Int × Int × Bool)) : Option (List UInt8) :=
  (fn_prov_Right (xa.1, xa.2.1, xa.2.2.1, xa.2.2.2.1, xa.2.2.2.2)).bind fun t165 => cond (!t165) (some (([63] : List UInt8))) ((fn_numeral_Text xa.1).bind fun s265 => (app s265 ([46] : List UInt8)).bind fun z269 => (fn_numeral_Text xa.2.1).bind fun s273 => (app z269 s273).bind fun z277 => (fn_prov_Name xa.2.2.1).bind fun s281 => (fn_numeral_Text xa.2.2.2.1).bind fun s287 => cond (xa.2.2.2.2) ((app (([z277, s281, s287] : List (List UInt8))) (([([98, 97, 99, 107] : List UInt8)] : List (List UInt8)))).bind fun z298 => (joinF z298 ([32] : List UInt8)).bind fun s309 => some (s309)) ((joinF (([z277, s281, s287] : List (List UInt8))) ([32] : List UInt8)).bind fun s318 => some (s318)))
noncomputable def h_prov_Text : Hn Tryz.prog := .cl ok_prov_Right [] (.tw 6 (.nil) (.mix [([0, 1, 4, 5, 8, 9, 11, 12], 2), ([3], 6), ([7], 10), ([], 13), ([], 14)] [15] [] [] (.cl ok_numeral_Text [] (.cl ok_numeral_Text [] (.cl ok_prov_Name [] (.cl ok_numeral_Text [] (.tw 23 (.cl ok_Join [6] (.nil)) (.cl ok_Join [2] (.nil)))))))))
noncomputable def sp_prov_Text : Spec := ⟨53, ⟨[(0, .dat (.cons (.int .i64) (.cons (.int .i64) (.cons (.int .i64) (.cons (.int .i64) (.one .bool))))))], []⟩, [⟨[(0, .dat .str)], []⟩], fun x => fn_prov_Text x⟩
theorem prov_Text_is : SpecOk Tryz.prog sp_prov_Text := fn_is Tryz.func53 h_prov_Text (by kernel_rfl) (by kernel_rfl)
noncomputable def ok_prov_Text : OkSpec Tryz.prog := ⟨sp_prov_Text, prov_Text_is, Tryz.call53⟩

noncomputable def fn_prov_Edge (xa : (Int × Int × (Int × Int × Int × Int × Bool))) : Option (List UInt8) :=
  (fn_numeral_Pair (xa.1, xa.2.1)).bind fun s118 => (app s118 ([32, 97, 116, 32] : List UInt8)).bind fun z122 => (fn_prov_Text (xa.2.2.1, xa.2.2.2.1, xa.2.2.2.2.1, xa.2.2.2.2.2.1, xa.2.2.2.2.2.2)).bind fun s126 => (app z122 s126).bind fun z130 => some (z130)
noncomputable def h_prov_Edge : Hn Tryz.prog := .mix [([0, 1, 2, 3, 4, 7, 8], 5), ([6], 9)] [10, 11] [] [] (.cl ok_numeral_Pair [] (.cl ok_prov_Text [] (.nil)))
noncomputable def sp_prov_Edge : Spec := ⟨31, ⟨[(0, .dat (.cons (.int .i64) (.cons (.int .i64) (.one (.cons (.int .i64) (.cons (.int .i64) (.cons (.int .i64) (.cons (.int .i64) (.one .bool)))))))))], []⟩, [⟨[(0, .dat .str)], []⟩], fun x => fn_prov_Edge x⟩
theorem prov_Edge_is : SpecOk Tryz.prog sp_prov_Edge := fn_is Tryz.func31 h_prov_Edge (by kernel_rfl) (by kernel_rfl)
noncomputable def ok_prov_Edge : OkSpec Tryz.prog := ⟨sp_prov_Edge, prov_Edge_is, Tryz.call31⟩
noncomputable def fn_blame_Text_l1 (xa : (List (Int × Int × (Int × Int × Int × Int × Bool)))) (xb : (Int × Int × (List Int))) : ((List (List UInt8)) × Int) → Option (((List (List UInt8)) × Int) ⊕ (List (List UInt8))) := fun ((l698, i703) : ((List (List UInt8)) × Int)) => cond (decide (i703 < (((xb.2.2.length : Nat) : Int)))) ((getI xb.2.2 i703).bind fun x752 => cond ((decide (0 ≤ x752)) && (decide (x752 < (((xa.length : Nat) : Int))))) ((getI xa x752).bind fun x765 => (fn_prov_Edge ((x765.1, x765.2.1, (x765.2.2.1, x765.2.2.2.1, x765.2.2.2.2.1, x765.2.2.2.2.2.1, x765.2.2.2.2.2.2)))).bind fun s776 => (app ([32, 32] : List UInt8) s776).bind fun z780 => (app l698 (([z780] : List (List UInt8)))).bind fun z785 => some (.inl ((z785, IntKind.wrap .i64 (i703 + 1))))) (some (.inl ((l698, IntKind.wrap .i64 (i703 + 1)))))) (some (.inr (l698)))
noncomputable def fn_blame_Text (xa : (List (Int × Int × (Int × Int × Int × Int × Bool)))) (xb : (Int × Int × (List Int))) : Option ((List (List UInt8))) :=
  (fn_numeral_Pair (xb.1, xb.2.1)).bind fun s491 => (app s491 ([32, 105, 115, 32, 109, 105, 115, 115, 105, 110, 103, 44, 32, 98, 121, 32] : List UInt8)).bind fun z495 => (fn_numeral_Text (((xb.2.2.length : Nat) : Int))).bind fun s499 => (app z495 s499).bind fun z503 => (loop (fn_blame_Text_l1 xa xb) ((([z503] : List (List UInt8)), 0)) : Option ((List (List UInt8)))).bind fun l647 => some (l647)
noncomputable def h_blame_Text : Hn Tryz.prog := .cl ok_numeral_Pair [] (.cl ok_numeral_Text [] (.jn [] ⟨[(6, .own 9 .str), (22, .any)], []⟩ [2, 0] (.lp ⟨[(6, .own 9 .str), (26, .dat (.int .i64))], []⟩ (.tw 27 (.gp 4 (.tw 37 (.cl ok_prov_Edge [] (.nil)) (.nil))) (.nil))) (.nil)))
noncomputable def sp_blame_Text : Spec := ⟨19, ⟨[(0, .dat (.sl (.cons (.int .i64) (.cons (.int .i64) (.one (.cons (.int .i64) (.cons (.int .i64) (.cons (.int .i64) (.cons (.int .i64) (.one .bool)))))))))), (1, .dat (.cons (.int .i64) (.cons (.int .i64) (.one (.sl (.int .i64))))))], []⟩, [⟨[(0, .own 9 .str)], []⟩], fun x => fn_blame_Text x.1 x.2⟩
theorem blame_Text_is : SpecOk Tryz.prog sp_blame_Text := fn_is Tryz.func19 h_blame_Text (by kernel_rfl) (by kernel_rfl)
noncomputable def ok_blame_Text : OkSpec Tryz.prog := ⟨sp_blame_Text, blame_Text_is, Tryz.call19⟩
noncomputable def fn_ref33_Lines_l1 (xa : (List (List UInt8))) (xb : (List (List UInt8))) : Int → Option (Int ⊕ (Unit ⊕ Bool)) := fun (i757 : Int) => cond (decide (i757 < (((xa.length : Nat) : Int)))) ((getI xa i757).bind fun x889 => (getI xb i757).bind fun x898 => cond (!decide (x889 = x898)) (some (.inr ((.inr (false))))) (some (.inl (IntKind.wrap .i64 (i757 + 1))))) (some (.inr ((.inl ()))))
noncomputable def fn_ref33_Lines (xa : (List (List UInt8))) (xb : (List (List UInt8))) : Option Bool :=
  cond (!decide ((((xa.length : Nat) : Int)) = (((xb.length : Nat) : Int)))) (some (false)) ((loop (fn_ref33_Lines_l1 xa xb) 0 : Option (Unit ⊕ Bool)).bind fun o => match o with | .inr r => some r | .inl () => some (true))
noncomputable def h_ref33_Lines : Hn Tryz.prog := .tw 10 (.nil) (.jx [] ⟨[], []⟩ [] (.lp ⟨[(5, .dat (.int .i64))], []⟩ (.tw 14 (.mix [] [0, 1, 2, 3, 4, 5, 6, 7, 8] [] [] (.tw 25 (.nil) (.nil))) (.nil))) (.nil))
noncomputable def sp_ref33_Lines : Spec := ⟨18, ⟨[(0, .dat (.sl .str)), (1, .dat (.sl .str))], []⟩, [⟨[(0, .dat .bool)], []⟩], fun x => fn_ref33_Lines x.1 x.2⟩
theorem ref33_Lines_is : SpecOk Tryz.prog sp_ref33_Lines := fn_is Tryz.func18 h_ref33_Lines (by kernel_rfl) (by kernel_rfl)
noncomputable def ok_ref33_Lines : OkSpec Tryz.prog := ⟨sp_ref33_Lines, ref33_Lines_is, Tryz.call18⟩

noncomputable def fn_law33_awake  : Option Bool :=
  (fn_blame_Of_akkz (0, 3, [], [], [], [], []) (([(1, 2, (0, 0, 7, 0, false))] : List (Int × Int × (Int × Int × Int × Int × Bool)))) (([(1, 2), (2, 1)] : List (Int × Int)))).bind fun l122 => cond (decide ((((l122.length : Nat) : Int)) = 1)) ((getI l122 0).bind fun x176 => (fn_blame_Text (([(1, 2, (0, 0, 7, 0, false))] : List (Int × Int × (Int × Int × Int × Int × Bool)))) (x176.1, x176.2.1, x176.2.2)).bind fun l191 => (fn_ref33_Lines l191 (([([49, 58, 50, 32, 105, 115, 32, 109, 105, 115, 115, 105, 110, 103, 44, 32, 98, 121, 32, 49] : List UInt8), ([32, 32, 49, 58, 50, 32, 97, 116, 32, 48, 46, 48, 32, 111, 117, 116, 32, 48] : List UInt8)] : List (List UInt8)))).bind fun t210 => some (t210)) (some (false))
noncomputable def h_law33_awake : Hn Tryz.prog := .per 0 1 (.per 2 3 (.cl ok_blame_Of_akkz [] (.two 15 (.per 4 5 (.cl ok_blame_Text [] (.cl ok_ref33_Lines [6, 8] (.nil)))) (.nil))))
noncomputable def sp_law33_awake : Spec := ⟨5, ⟨[], []⟩, [⟨[(0, .dat .bool)], []⟩], fun x => fn_law33_awake⟩
theorem law33_awake_is : SpecOk Tryz.prog sp_law33_awake := fn_is Tryz.func5 h_law33_awake (by kernel_rfl) (by kernel_rfl)
noncomputable def ok_law33_awake : OkSpec Tryz.prog := ⟨sp_law33_awake, law33_awake_is, Tryz.call5⟩
noncomputable def fn_ref21_head_l1 (xa : (Int × Int × (List (Int × Int)) × (List (List (Int × Bool))) × (List (Int × Bool)) × (List (Int × (List (Int × Int)) × (List (List (Int × Bool))) × (List (Int × Bool)))) × (List ((List (Int × Int × Int × Int × Bool)) × (Int × Int × Int × (List Int) × (List Int) × (List Int)))))) : Int → Option (Int ⊕ (Unit ⊕ (Int × Int × Int × Int))) := fun (i242 : Int) => cond (decide (i242 < (((xa.2.2.1.length : Nat) : Int)))) ((getI xa.2.2.1 i242).bind fun x267 => cond ((((decide (x267.1 < 0)) || (decide (xa.1 ≤ x267.1))) || (decide (x267.2 < 0))) || (decide (xa.1 ≤ x267.2))) (some (.inr ((.inr ((7, 1, i242, 0)))))) (some (.inl (IntKind.wrap .i64 (i242 + 1))))) (some (.inr ((.inl ()))))
noncomputable def fn_ref21_head (xa : (Int × Int × (List (Int × Int)) × (List (List (Int × Bool))) × (List (Int × Bool)) × (List (Int × (List (Int × Int)) × (List (List (Int × Bool))) × (List (Int × Bool)))) × (List ((List (Int × Int × Int × Int × Bool)) × (Int × Int × Int × (List Int) × (List Int) × (List Int)))))) : Option (Int × Int × Int × Int) :=
  cond ((decide (xa.1 < 1)) || (decide (xa.2.1 < xa.1))) (some ((7, 0, 0, 0))) (cond (decide (65536 < xa.2.1)) (some ((6, 0, 0, 0))) (cond (decide (65536 < (((xa.2.2.1.length : Nat) : Int)))) (some ((6, 1, 0, 0))) ((loop (fn_ref21_head_l1 xa) 0 : Option (Unit ⊕ (Int × Int × Int × Int))).bind fun o => match o with | .inr r => some r | .inl () => some ((0, 0, 0, 0)))))
noncomputable def h_ref21_head : Hn Tryz.prog := .gp 5 (.tw 14 (.nil) (.tw 18 (.nil) (.tw 23 (.nil) (.jx [] ⟨[], [⟨(some 2), 96, [.lit (.int .i64 0), .lit (.int .i64 0), .lit (.int .i64 0), .lit (.int .i64 0)], false, false, none, false⟩]⟩ [2] (.lp ⟨[(3, .dat (.int .i64))], [⟨(some 2), 96, [.lit (.int .i64 0), .lit (.int .i64 0), .lit (.int .i64 0), .lit (.int .i64 0)], false, false, none, false⟩]⟩ (.tw 29 (.gp 5 (.wt 47 (.gp 3 (.wt 52 (.gp 5 (.tw 58 (.nil) (.nil))))))) (.nil))) (.nil)))))
noncomputable def sp_ref21_head : Spec := ⟨54, ⟨[(0, .dat (.cons (.int .i64) (.cons (.int .i64) (.cons (.sl (.cons (.int .i64) (.one (.int .i64)))) (.cons (.sl (.one (.sl (.cons (.int .i64) (.one .bool))))) (.cons (.one (.sl (.cons (.int .i64) (.one .bool)))) (.cons (.sl (.cons (.int .i64) (.cons (.sl (.cons (.int .i64) (.one (.int .i64)))) (.cons (.sl (.one (.sl (.cons (.int .i64) (.one .bool))))) (.one (.one (.sl (.cons (.int .i64) (.one .bool))))))))) (.one (.sl (.cons (.sl (.cons (.int .i64) (.cons (.int .i64) (.cons (.int .i64) (.cons (.int .i64) (.one .bool)))))) (.one (.cons (.int .i64) (.cons (.int .i64) (.cons (.int .i64) (.cons (.sl (.int .i64)) (.cons (.sl (.int .i64)) (.one (.sl (.int .i64)))))))))))))))))))], []⟩, [⟨[(0, .agg [.dat (.int .i64), .dat (.int .i64), .dat (.int .i64), .dat (.int .i64)])], []⟩], fun x => fn_ref21_head x⟩
theorem ref21_head_is : SpecOk Tryz.prog sp_ref21_head := fn_is Tryz.func54 h_ref21_head (by kernel_rfl) (by kernel_rfl)
noncomputable def ok_ref21_head : OkSpec Tryz.prog := ⟨sp_ref21_head, ref21_head_is, Tryz.call54⟩
noncomputable def fn_ref15_Check_l1 (xa : (List (Int × Bool))) (xb : Int) : Int → Option (Int ⊕ (Unit ⊕ Int)) := fun (i339 : Int) => cond (decide (i339 < (((xa.length : Nat) : Int)))) ((getI xa i339).bind fun x375 => (cond (decide (x375.1 < 0)) (some (true)) ((getI xa i339).bind fun x396 => some (decide (xb ≤ x396.1)))).bind fun t394 => cond (t394) (some (.inr ((.inr (7))))) (some (.inl (IntKind.wrap .i64 (i339 + 1))))) (some (.inr ((.inl ()))))
noncomputable def fn_ref15_Check (xa : (List (Int × Bool))) (xb : Int) : Option Int :=
  cond (decide (16 < (((xa.length : Nat) : Int)))) (some (6)) ((loop (fn_ref15_Check_l1 xa xb) 0 : Option (Unit ⊕ Int)).bind fun o => match o with | .inr r => some r | .inl () => some (0))
noncomputable def h_ref15_Check : Hn Tryz.prog := .tw 9 (.nil) (.jx [] ⟨[], []⟩ [] (.lp ⟨[(5, .dat (.int .i64))], []⟩ (.tw 14 (.gj 8 ⟨[(33, .dat .bool)], []⟩ [] (.two 24 (.nil) (.nil)) (.tw 33 (.nil) (.nil))) (.nil))) (.nil))
noncomputable def sp_ref15_Check : Spec := ⟨81, ⟨[(0, .dat (.one (.sl (.cons (.int .i64) (.one .bool))))), (1, .dat (.int .i64))], []⟩, [⟨[(0, .dat (.int .i64))], []⟩], fun x => fn_ref15_Check x.1 x.2⟩
theorem ref15_Check_is : SpecOk Tryz.prog sp_ref15_Check := fn_is Tryz.func81 h_ref15_Check (by kernel_rfl) (by kernel_rfl)
noncomputable def ok_ref15_Check : OkSpec Tryz.prog := ⟨sp_ref15_Check, ref15_Check_is, Tryz.call81⟩
noncomputable def fn_ref15_Shape_l1 (xa : (List (Int × Bool))) (xb : (List (Int × Bool))) : Int → Option (Int ⊕ (Unit ⊕ Bool)) := fun (i761 : Int) => cond (decide (i761 < (((xa.length : Nat) : Int)))) ((getI xa i761).bind fun x893 => (getI xb i761).bind fun x902 => cond (!(x893.2 == x902.2)) (some (.inr ((.inr (false))))) (some (.inl (IntKind.wrap .i64 (i761 + 1))))) (some (.inr ((.inl ()))))
noncomputable def fn_ref15_Shape (xa : (List (Int × Bool))) (xb : (List (Int × Bool))) : Option Bool :=
  cond (!decide ((((xa.length : Nat) : Int)) = (((xb.length : Nat) : Int)))) (some (false)) ((loop (fn_ref15_Shape_l1 xa xb) 0 : Option (Unit ⊕ Bool)).bind fun o => match o with | .inr r => some r | .inl () => some (true))
noncomputable def h_ref15_Shape : Hn Tryz.prog := .tw 12 (.nil) (.jx [] ⟨[], []⟩ [] (.lp ⟨[(5, .dat (.int .i64))], []⟩ (.tw 17 (.mix [] [0, 1, 2, 3, 4, 5, 6, 7, 8, 9, 10, 11, 12] [] [] (.tw 32 (.nil) (.nil))) (.nil))) (.nil))
noncomputable def sp_ref15_Shape : Spec := ⟨73, ⟨[(0, .dat (.one (.sl (.cons (.int .i64) (.one .bool))))), (1, .dat (.one (.sl (.cons (.int .i64) (.one .bool)))))], []⟩, [⟨[(0, .dat .bool)], []⟩], fun x => fn_ref15_Shape x.1 x.2⟩
theorem ref15_Shape_is : SpecOk Tryz.prog sp_ref15_Shape := fn_is Tryz.func73 h_ref15_Shape (by kernel_rfl) (by kernel_rfl)
noncomputable def ok_ref15_Shape : OkSpec Tryz.prog := ⟨sp_ref15_Shape, ref15_Shape_is, Tryz.call73⟩
noncomputable def fn_ref17_Check_l1 (xa : (Int × (List (Int × Int)) × (List (List (Int × Bool))) × (List (Int × Bool)))) : Int → Option (Int ⊕ (Unit ⊕ Int)) := fun (i618 : Int) => cond (decide (i618 < (((xa.2.1.length : Nat) : Int)))) ((getI xa.2.1 i618).bind fun x643 => cond ((((decide (x643.1 < 0)) || (decide (xa.1 ≤ x643.1))) || (decide (x643.2 < 0))) || (decide (xa.1 ≤ x643.2))) (some (.inr ((.inr (7))))) (some (.inl (IntKind.wrap .i64 (i618 + 1))))) (some (.inr ((.inl ()))))
noncomputable def fn_ref17_Check_l2 (xa : (Int × (List (Int × Int)) × (List (List (Int × Bool))) × (List (Int × Bool)))) : Int → Option (Int ⊕ (Unit ⊕ Int)) := fun (i908 : Int) => cond (decide (i908 < (((xa.2.2.1.length : Nat) : Int)))) ((getI xa.2.2.1 i908).bind fun x1011 => (fn_ref15_Check x1011 xa.1).bind fun i1026 => cond (!decide (i1026 = 0)) (some (.inr ((.inr (i1026))))) (some (.inl (IntKind.wrap .i64 (i908 + 1))))) (some (.inr ((.inl ()))))
noncomputable def fn_ref17_Check (xa : (Int × (List (Int × Int)) × (List (List (Int × Bool))) × (List (Int × Bool)))) : Option Int :=
  cond (decide (xa.1 < 0)) (some (7)) (cond (((decide (16 < xa.1)) || (decide (16 < (((xa.2.1.length : Nat) : Int))))) || (decide (16 < (((xa.2.2.1.length : Nat) : Int))))) (some (6)) ((loop (fn_ref17_Check_l1 xa) 0 : Option (Unit ⊕ Int)).bind fun o => match o with | .inr r => some r | .inl () => (loop (fn_ref17_Check_l2 xa) 0 : Option (Unit ⊕ Int)).bind fun o => match o with | .inr r => some r | .inl () => (fn_ref15_Check xa.2.2.2 xa.1).bind fun i1033 => some (i1033)))
noncomputable def h_ref17_Check : Hn Tryz.prog := .tw 9 (.nil) (.gp 4 (.wt 19 (.gp 4 (.tw 24 (.nil) (.jx [] ⟨[], []⟩ [] (.lp ⟨[(3, .dat (.int .i64))], []⟩ (.tw 29 (.gp 5 (.wt 47 (.gp 3 (.wt 52 (.gp 5 (.tw 58 (.nil) (.nil))))))) (.nil))) (.jx [] ⟨[], []⟩ [] (.lp ⟨[(5, .dat (.int .i64))], []⟩ (.tw 63 (.mix [] [0, 1, 2, 3, 4, 5, 6] [7, 8] [] (.cl ok_ref15_Check [] (.tw 75 (.nil) (.nil)))) (.nil))) (.cl ok_ref15_Check [] (.nil))))))))
noncomputable def sp_ref17_Check : Spec := ⟨75, ⟨[(0, .dat (.cons (.int .i64) (.cons (.sl (.cons (.int .i64) (.one (.int .i64)))) (.cons (.sl (.one (.sl (.cons (.int .i64) (.one .bool))))) (.one (.one (.sl (.cons (.int .i64) (.one .bool)))))))))], []⟩, [⟨[(0, .dat (.int .i64))], []⟩], fun x => fn_ref17_Check x⟩
theorem ref17_Check_is : SpecOk Tryz.prog sp_ref17_Check := fn_is Tryz.func75 h_ref17_Check (by kernel_rfl) (by kernel_rfl)
noncomputable def ok_ref17_Check : OkSpec Tryz.prog := ⟨sp_ref17_Check, ref17_Check_is, Tryz.call75⟩
noncomputable def fn_ref21_types_l1 (xa : (Int × Int × (List (Int × Int)) × (List (List (Int × Bool))) × (List (Int × Bool)) × (List (Int × (List (Int × Int)) × (List (List (Int × Bool))) × (List (Int × Bool)))) × (List ((List (Int × Int × Int × Int × Bool)) × (Int × Int × Int × (List Int) × (List Int) × (List Int)))))) : Int → Option (Int ⊕ (Unit ⊕ (Int × Int × Int × Int))) := fun (i875 : Int) => cond (decide (i875 < (((xa.2.2.2.1.length : Nat) : Int)))) ((getI xa.2.2.2.1 i875).bind fun x978 => (fn_ref15_Check x978 xa.2.1).bind fun i993 => cond (!decide (i993 = 0)) (some (.inr ((.inr ((i993, 2, i875, 0)))))) (some (.inl (IntKind.wrap .i64 (i875 + 1))))) (some (.inr ((.inl ()))))
noncomputable def fn_ref21_types_l2 (xa : (Int × Int × (List (Int × Int)) × (List (List (Int × Bool))) × (List (Int × Bool)) × (List (Int × (List (Int × Int)) × (List (List (Int × Bool))) × (List (Int × Bool)))) × (List ((List (Int × Int × Int × Int × Bool)) × (Int × Int × Int × (List Int) × (List Int) × (List Int)))))) : Int → Option (Int ⊕ (Unit ⊕ (Int × Int × Int × Int))) := fun (i1186 : Int) => cond (decide (i1186 < (((xa.2.2.2.2.2.1.length : Nat) : Int)))) ((getI xa.2.2.2.2.2.1 i1186).bind fun x1219 => (fn_ref17_Check (x1219.1, x1219.2.1, x1219.2.2.1, x1219.2.2.2)).bind fun i1242 => cond (!decide (i1242 = 0)) (some (.inr ((.inr ((i1242, 4, i1186, 0)))))) (some (.inl (IntKind.wrap .i64 (i1186 + 1))))) (some (.inr ((.inl ()))))
noncomputable def fn_ref21_types (xa : (Int × Int × (List (Int × Int)) × (List (List (Int × Bool))) × (List (Int × Bool)) × (List (Int × (List (Int × Int)) × (List (List (Int × Bool))) × (List (Int × Bool)))) × (List ((List (Int × Int × Int × Int × Bool)) × (Int × Int × Int × (List Int) × (List Int) × (List Int)))))) : Option (Int × Int × Int × Int) :=
  cond (decide ((((xa.2.2.2.1.length : Nat) : Int)) = 0)) (some ((14, 2, 0, 0))) (cond (decide (65536 < (((xa.2.2.2.1.length : Nat) : Int)))) (some ((6, 2, 0, 0))) ((loop (fn_ref21_types_l1 xa) 0 : Option (Unit ⊕ (Int × Int × Int × Int))).bind fun o => match o with | .inr r => some r | .inl () => (fn_ref15_Check xa.2.2.2.2.1 xa.1).bind fun i1000 => cond (!decide (i1000 = 0)) (some ((i1000, 3, 0, 0))) ((getI xa.2.2.2.1 0).bind fun x1044 => (fn_ref15_Shape x1044 xa.2.2.2.2.1).bind fun t1059 => cond (!t1059) (some ((8, 3, 0, 0))) (cond (decide (65536 < (((xa.2.2.2.2.2.1.length : Nat) : Int)))) (some ((6, 4, 0, 0))) ((loop (fn_ref21_types_l2 xa) 0 : Option (Unit ⊕ (Int × Int × Int × Int))).bind fun o => match o with | .inr r => some r | .inl () => some ((0, 0, 0, 0)))))))
noncomputable def h_ref21_types : Hn Tryz.prog := .tw 11 (.nil) (.tw 16 (.nil) (.jx [] ⟨[], [⟨(some 2), 96, [.lit (.int .i64 0), .lit (.int .i64 0), .lit (.int .i64 0), .lit (.int .i64 0)], false, false, none, false⟩]⟩ [2] (.lp ⟨[(3, .dat (.int .i64))], [⟨(some 2), 96, [.lit (.int .i64 0), .lit (.int .i64 0), .lit (.int .i64 0), .lit (.int .i64 0)], false, false, none, false⟩]⟩ (.tw 22 (.mix [] [0, 1, 2, 3, 4, 5, 6] [7, 8] [] (.cl ok_ref15_Check [] (.tw 34 (.nil) (.nil)))) (.nil))) (.cl ok_ref15_Check [] (.tw 44 (.nil) (.mix [] [0, 1, 2, 3, 4, 5] [6, 7] [] (.cl ok_ref15_Shape [] (.tw 54 (.nil) (.tw 59 (.nil) (.jx [] ⟨[], [⟨(some 2), 96, [.lit (.int .i64 0), .lit (.int .i64 0), .lit (.int .i64 0), .lit (.int .i64 0)], false, false, none, false⟩]⟩ [2] (.lp ⟨[(6, .dat (.int .i64))], [⟨(some 2), 96, [.lit (.int .i64 0), .lit (.int .i64 0), .lit (.int .i64 0), .lit (.int .i64 0)], false, false, none, false⟩]⟩ (.tw 65 (.cl ok_ref17_Check [] (.tw 75 (.nil) (.nil))) (.nil))) (.nil))))))))))
noncomputable def sp_ref21_types : Spec := ⟨55, ⟨[(0, .dat (.cons (.int .i64) (.cons (.int .i64) (.cons (.sl (.cons (.int .i64) (.one (.int .i64)))) (.cons (.sl (.one (.sl (.cons (.int .i64) (.one .bool))))) (.cons (.one (.sl (.cons (.int .i64) (.one .bool)))) (.cons (.sl (.cons (.int .i64) (.cons (.sl (.cons (.int .i64) (.one (.int .i64)))) (.cons (.sl (.one (.sl (.cons (.int .i64) (.one .bool))))) (.one (.one (.sl (.cons (.int .i64) (.one .bool))))))))) (.one (.sl (.cons (.sl (.cons (.int .i64) (.cons (.int .i64) (.cons (.int .i64) (.cons (.int .i64) (.one .bool)))))) (.one (.cons (.int .i64) (.cons (.int .i64) (.cons (.int .i64) (.cons (.sl (.int .i64)) (.cons (.sl (.int .i64)) (.one (.sl (.int .i64)))))))))))))))))))], []⟩, [⟨[(0, .agg [.dat (.int .i64), .dat (.int .i64), .dat (.int .i64), .dat (.int .i64)])], []⟩], fun x => fn_ref21_types x⟩
theorem ref21_types_is : SpecOk Tryz.prog sp_ref21_types := fn_is Tryz.func55 h_ref21_types (by kernel_rfl) (by kernel_rfl)
noncomputable def ok_ref21_types : OkSpec Tryz.prog := ⟨sp_ref21_types, ref21_types_is, Tryz.call55⟩

noncomputable def fn_ref18_Dst (xa : Int) : Option Bool :=
  some ((((decide (xa = 1)) || (decide (xa = 2))) || (decide (xa = 3))) || (decide (xa = 5)))
noncomputable def h_ref18_Dst : Hn Tryz.prog := .gp 2 (.wt 9 (.gp 2 (.wt 13 (.gp 2 (.nil)))))
noncomputable def sp_ref18_Dst : Spec := ⟨48, ⟨[(0, .dat (.int .i64))], []⟩, [⟨[(0, .dat .bool)], []⟩], fun x => fn_ref18_Dst x⟩
theorem ref18_Dst_is : SpecOk Tryz.prog sp_ref18_Dst := fn_is Tryz.func48 h_ref18_Dst (by kernel_rfl) (by kernel_rfl)
noncomputable def ok_ref18_Dst : OkSpec Tryz.prog := ⟨sp_ref18_Dst, ref18_Dst_is, Tryz.call48⟩

noncomputable def fn_ref18_Src (xa : Int) : Option Bool :=
  some ((decide (1 ≤ xa)) && (decide (xa ≤ 4)))
noncomputable def h_ref18_Src : Hn Tryz.prog := .gp 2 (.nil)
noncomputable def sp_ref18_Src : Spec := ⟨49, ⟨[(0, .dat (.int .i64))], []⟩, [⟨[(0, .dat .bool)], []⟩], fun x => fn_ref18_Src x⟩
theorem ref18_Src_is : SpecOk Tryz.prog sp_ref18_Src := fn_is Tryz.func49 h_ref18_Src (by kernel_rfl) (by kernel_rfl)
noncomputable def ok_ref18_Src : OkSpec Tryz.prog := ⟨sp_ref18_Src, ref18_Src_is, Tryz.call49⟩

noncomputable def fn_ref18_Region (xa : Int) : Option Bool :=
  some ((decide (xa = 2)) || (decide (xa = 3)))
noncomputable def h_ref18_Region : Hn Tryz.prog := .gp 2 (.nil)
noncomputable def sp_ref18_Region : Spec := ⟨50, ⟨[(0, .dat (.int .i64))], []⟩, [⟨[(0, .dat .bool)], []⟩], fun x => fn_ref18_Region x⟩
theorem ref18_Region_is : SpecOk Tryz.prog sp_ref18_Region := fn_is Tryz.func50 h_ref18_Region (by kernel_rfl) (by kernel_rfl)
noncomputable def ok_ref18_Region : OkSpec Tryz.prog := ⟨sp_ref18_Region, ref18_Region_is, Tryz.call50⟩

noncomputable def fn_ref18_Form (xa : (Int × Int × Int × Int × Bool)) : Option Bool :=
  (cond ((decide (0 ≤ xa.1)) && (decide (xa.1 ≤ 5))) ((fn_ref18_Dst xa.1).bind fun t97 => some (t97 || (decide (xa.2.1 = 0)))) (some (false))).bind fun t93 => (cond (t93) ((fn_ref18_Src xa.1).bind fun t118 => some (t118 || (decide (xa.2.2.1 = 0)))) (some (false))).bind fun t114 => (cond (t114) ((fn_ref18_Region xa.1).bind fun t145 => some (t145 || ((decide (xa.2.2.2.1 = 0)) && (!xa.2.2.2.2)))) (some (false))).bind fun t141 => some (t141)
noncomputable def h_ref18_Form : Hn Tryz.prog := .gp 3 (.wt 11 (.gj 8 ⟨[(20, .dat .bool)], []⟩ [] (.two 11 (.cl ok_ref18_Dst [] (.wt 15 (.gp 3 (.nil)))) (.nil)) (.wt 21 (.gj 8 ⟨[(30, .dat .bool)], []⟩ [] (.two 21 (.cl ok_ref18_Src [] (.wt 25 (.gp 3 (.nil)))) (.nil)) (.wt 31 (.gj 13 ⟨[(45, .dat .bool)], []⟩ [] (.two 31 (.cl ok_ref18_Region [] (.wt 35 (.gp 8 (.nil)))) (.nil)) (.nil)))))))
noncomputable def sp_ref18_Form : Spec := ⟨47, ⟨[(0, .dat (.cons (.int .i64) (.cons (.int .i64) (.cons (.int .i64) (.cons (.int .i64) (.one .bool))))))], []⟩, [⟨[(0, .dat .bool)], []⟩], fun x => fn_ref18_Form x⟩
theorem ref18_Form_is : SpecOk Tryz.prog sp_ref18_Form := fn_is Tryz.func47 h_ref18_Form (by kernel_rfl) (by kernel_rfl)
noncomputable def ok_ref18_Form : OkSpec Tryz.prog := ⟨sp_ref18_Form, ref18_Form_is, Tryz.call47⟩
noncomputable def fn_ref16_slots_rkkii_l1 (xb : (List (Int × Bool))) (xc : (List (Int × Bool))) (xd : Int) (xe : Int) : ((List (Int × Int × Int × Int × Bool)) × Int) → Option (((List (Int × Int × Int × Int × Bool)) × Int) ⊕ (List (Int × Int × Int × Int × Bool))) := fun ((l1989, i1994) : ((List (Int × Int × Int × Int × Bool)) × Int)) => cond (decide (i1994 < (((xb.length : Nat) : Int)))) ((getI xb i1994).bind fun x2257 => (getI xc i1994).bind fun x2266 => (app l1989 (([(x2257.1, x2266.1, xd, IntKind.wrap .i64 (xe + i1994), false)] : List (Int × Int × Int × Int × Bool)))).bind fun z2278 => (getI xc i1994).bind fun x2284 => cond (x2284.2) ((getI xc i1994).bind fun x2357 => (getI xb i1994).bind fun x2366 => (app z2278 (([(x2357.1, x2366.1, xd, IntKind.wrap .i64 (xe + i1994), true)] : List (Int × Int × Int × Int × Bool)))).bind fun z2378 => some (.inl ((z2378, IntKind.wrap .i64 (i1994 + 1))))) (some (.inl ((z2278, IntKind.wrap .i64 (i1994 + 1)))))) (some (.inr (l1989)))
noncomputable def fn_ref16_slots_rkkii (xb : (List (Int × Bool))) (xc : (List (Int × Bool))) (xd : Int) (xe : Int) (qxa : (List (Int × Int × Int × Int × Bool))) : Option ((List (Int × Int × Int × Int × Bool))) :=
  (loop (fn_ref16_slots_rkkii_l1 xb xc xd xe) (qxa, 0) : Option ((List (Int × Int × Int × Int × Bool)))).bind fun l1787 => some (l1787)
noncomputable def h_ref16_slots_rkkii : Hn Tryz.prog := .jn [] ⟨[(0, .own 91 (.cons (.int .i64) (.cons (.int .i64) (.cons (.int .i64) (.cons (.int .i64) (.one .bool))))))], []⟩ [0] (.lp ⟨[(0, .own 91 (.cons (.int .i64) (.cons (.int .i64) (.cons (.int .i64) (.cons (.int .i64) (.one .bool)))))), (11, .dat (.int .i64))], []⟩ (.tw 15 (.mix [([0, 1, 2, 3, 4, 5, 6, 7, 8, 9, 10, 11, 12, 13, 14, 15], 16)] [] [17, 18] [] (.tw 40 (.mix [([0, 1, 2, 3, 4, 5, 6, 7, 8, 9, 10, 11, 12, 13, 14, 15], 16)] [] [17, 18] [] (.nil)) (.nil))) (.nil))) (.nil)
noncomputable def sp_ref16_slots_rkkii : Spec := ⟨74, ⟨[(0, .own 91 (.cons (.int .i64) (.cons (.int .i64) (.cons (.int .i64) (.cons (.int .i64) (.one .bool)))))), (1, .dat (.sl (.cons (.int .i64) (.one .bool)))), (2, .dat (.sl (.cons (.int .i64) (.one .bool)))), (3, .dat (.int .i64)), (4, .dat (.int .i64))], []⟩, [⟨[(0, .own 91 (.cons (.int .i64) (.cons (.int .i64) (.cons (.int .i64) (.cons (.int .i64) (.one .bool))))))], []⟩], fun x => fn_ref16_slots_rkkii x.2.1 x.2.2.1 x.2.2.2.1 x.2.2.2.2 x.1⟩
theorem ref16_slots_rkkii_is : SpecOk Tryz.prog sp_ref16_slots_rkkii := fn_is Tryz.func74 h_ref16_slots_rkkii (by kernel_rfl) (by kernel_rfl)
noncomputable def ok_ref16_slots_rkkii : OkSpec Tryz.prog := ⟨sp_ref16_slots_rkkii, ref16_slots_rkkii_is, Tryz.call74⟩

noncomputable def fn_ref16_Flow (xa : (List (Int × Bool))) (xb : (List (Int × Bool))) (xc : Int) (xd : Int) : Option (((List (Int × Int × Int × Int × Bool)) × Int)) :=
  (fn_ref15_Shape xa xb).bind fun t34 => cond (!t34) (some (([], 8))) ((fn_ref16_slots_rkkii xa xb xc xd (([] : List (Int × Int × Int × Int × Bool)))).bind fun l45 => some ((l45, 0)))
noncomputable def h_ref16_Flow : Hn Tryz.prog := .cl ok_ref15_Shape [] (.tw 13 (.nil) (.cl ok_ref16_slots_rkkii [] (.nil)))
noncomputable def sp_ref16_Flow : Spec := ⟨45, ⟨[(0, .dat (.one (.sl (.cons (.int .i64) (.one .bool))))), (1, .dat (.one (.sl (.cons (.int .i64) (.one .bool))))), (2, .dat (.int .i64)), (3, .dat (.int .i64))], []⟩, [⟨[(0, .tup [.own 91 (.cons (.int .i64) (.cons (.int .i64) (.cons (.int .i64) (.cons (.int .i64) (.one .bool))))), .dat (.int .i64)])], []⟩], fun x => fn_ref16_Flow x.1 x.2.1 x.2.2.1 x.2.2.2⟩
theorem ref16_Flow_is : SpecOk Tryz.prog sp_ref16_Flow := fn_is Tryz.func45 h_ref16_Flow (by kernel_rfl) (by kernel_rfl)
noncomputable def ok_ref16_Flow : OkSpec Tryz.prog := ⟨sp_ref16_Flow, ref16_Flow_is, Tryz.call45⟩
noncomputable def fn_ref15_Ref_l1 (xa : (List (Int × Bool))) (xc : Bool) : ((List (Int × Bool)) × Int) → Option (((List (Int × Bool)) × Int) ⊕ (List (Int × Bool))) := fun ((l1690, i1695) : ((List (Int × Bool)) × Int)) => cond (decide (i1695 < (((xa.length : Nat) : Int)))) ((getI xa i1695).bind fun x1892 => (getI xa i1695).bind fun x1901 => cond (x1901.2) ((app l1690 (([(x1892.1, true)] : List (Int × Bool)))).bind fun z1914 => some (.inl ((z1914, IntKind.wrap .i64 (i1695 + 1))))) ((app l1690 (([(x1892.1, xc)] : List (Int × Bool)))).bind fun z1923 => some (.inl ((z1923, IntKind.wrap .i64 (i1695 + 1)))))) (some (.inr (l1690)))
noncomputable def fn_ref15_Ref (xa : (List (Int × Bool))) (xb : Int) (xc : Bool) : Option ((List (Int × Bool))) :=
  (loop (fn_ref15_Ref_l1 xa xc) ((([(xb, false)] : List (Int × Bool)), 0)) : Option ((List (Int × Bool)))).bind fun l1566 => some (l1566)
noncomputable def h_ref15_Ref : Hn Tryz.prog := .jn [] ⟨[(7, .own 152 (.cons (.int .i64) (.one .bool))), (11, .any)], []⟩ [4] (.lp ⟨[(7, .own 152 (.cons (.int .i64) (.one .bool))), (8, .dat (.int .i64))], []⟩ (.tw 16 (.mix [([0, 1, 2, 3, 4, 5, 6, 7, 8, 9, 10, 11, 12, 13, 14, 15, 16], 17)] [] [18, 19] [] (.two 32 (.nil) (.nil))) (.nil))) (.nil)
noncomputable def sp_ref15_Ref : Spec := ⟨77, ⟨[(0, .dat (.one (.sl (.cons (.int .i64) (.one .bool))))), (1, .dat (.int .i64)), (2, .dat .bool)], []⟩, [⟨[(0, .agg [.own 152 (.cons (.int .i64) (.one .bool))])], []⟩], fun x => fn_ref15_Ref x.1 x.2.1 x.2.2⟩
theorem ref15_Ref_is : SpecOk Tryz.prog sp_ref15_Ref := fn_is Tryz.func77 h_ref15_Ref (by kernel_rfl) (by kernel_rfl)
noncomputable def ok_ref15_Ref : OkSpec Tryz.prog := ⟨sp_ref15_Ref, ref15_Ref_is, Tryz.call77⟩

noncomputable def fn_ref16_Loan (xa : (List (Int × Bool))) (xb : (List (Int × Bool))) (xc : Int) (xd : Bool) : Option (((List (Int × Int × Int × Int × Bool)) × Int)) :=
  (fn_ref15_Ref xa xc xd).bind fun l140 => (fn_ref15_Shape l140 xb).bind fun t153 => cond (!t153) (some (([], 8))) ((getI xb 0).bind fun x159 => (subL xb 1 (((xb.length : Nat) : Int))).bind fun y189 => (fn_ref16_slots_rkkii xa y189 1 1 (([(xc, x159.1, 2, 0, false)] : List (Int × Int × Int × Int × Bool)))).bind fun l197 => some ((l197, 0)))
noncomputable def h_ref16_Loan : Hn Tryz.prog := .mix [([0, 1, 2, 4], 3)] [] [5, 6] [] (.cl ok_ref15_Ref [] (.cl ok_ref15_Shape [4] (.tw 17 (.nil) (.mix [] [0, 1, 2, 3, 4, 5] [6, 7, 8] [] (.cl ok_ref16_slots_rkkii [] (.nil))))))
noncomputable def sp_ref16_Loan : Spec := ⟨51, ⟨[(0, .dat (.one (.sl (.cons (.int .i64) (.one .bool))))), (1, .dat (.one (.sl (.cons (.int .i64) (.one .bool))))), (2, .dat (.int .i64)), (3, .dat .bool)], []⟩, [⟨[(0, .tup [.own 91 (.cons (.int .i64) (.cons (.int .i64) (.cons (.int .i64) (.cons (.int .i64) (.one .bool))))), .dat (.int .i64)])], []⟩], fun x => fn_ref16_Loan x.1 x.2.1 x.2.2.1 x.2.2.2⟩
theorem ref16_Loan_is : SpecOk Tryz.prog sp_ref16_Loan := fn_is Tryz.func51 h_ref16_Loan (by kernel_rfl) (by kernel_rfl)
noncomputable def ok_ref16_Loan : OkSpec Tryz.prog := ⟨sp_ref16_Loan, ref16_Loan_is, Tryz.call51⟩
noncomputable def fn_ref16_Again_l1 (xa : (List (Int × Bool))) (xd : Bool) : Int → Option (Int ⊕ (Unit ⊕ ((List (Int × Int × Int × Int × Bool)) × Int))) := fun (i473 : Int) => cond (decide (i473 < (((xa.length : Nat) : Int)))) ((cond (xd) ((getI xa i473).bind fun x512 => some (!x512.2)) (some (false))).bind fun t510 => cond (t510) (some (.inr ((.inr (([], 8)))))) (some (.inl (IntKind.wrap .i64 (i473 + 1))))) (some (.inr ((.inl ()))))
noncomputable def fn_ref16_Again (xa : (List (Int × Bool))) (xb : (List (Int × Bool))) (xc : Int) (xd : Bool) : Option (((List (Int × Int × Int × Int × Bool)) × Int)) :=
  (cond (decide ((((xa.length : Nat) : Int)) = 0)) (some (true)) ((fn_ref15_Shape xa xb).bind fun t349 => some (!t349))).bind fun t345 => (cond (t345) (some (true)) ((getI xa 0).bind fun x365 => some (x365.2))).bind fun t363 => cond (t363) (some (([], 8))) ((loop (fn_ref16_Again_l1 xa xd) 1 : Option (Unit ⊕ ((List (Int × Int × Int × Int × Bool)) × Int))).bind fun o => match o with | .inr r => some r | .inl () => (getI xa 0).bind fun x586 => (getI xb 0).bind fun x595 => (subL xa 1 (((xa.length : Nat) : Int))).bind fun y643 => (subL xb 1 (((xb.length : Nat) : Int))).bind fun y649 => (fn_ref16_slots_rkkii y643 y649 1 1 (([(x586.1, xc, 3, 0, false), (xc, x595.1, 2, 0, false)] : List (Int × Int × Int × Int × Bool)))).bind fun l657 => some ((l657, 0)))
noncomputable def h_ref16_Again : Hn Tryz.prog := .gj 4 ⟨[(21, .dat .bool)], []⟩ [] (.two 16 (.nil) (.cl ok_ref15_Shape [] (.nil))) (.wt 22 (.gj 5 ⟨[(28, .dat .bool)], []⟩ [] (.two 22 (.nil) (.nil)) (.tw 28 (.nil) (.jx [] ⟨[], []⟩ [] (.lp ⟨[(10, .dat (.int .i64))], []⟩ (.tw 33 (.gj 7 ⟨[(45, .dat .bool)], []⟩ [] (.two 37 (.nil) (.nil)) (.tw 45 (.nil) (.nil))) (.nil))) (.mix [([0, 1, 2, 3, 4, 5, 6, 7, 8, 9, 10, 11, 12, 13], 14)] [15] [] [] (.mix [] [0, 1, 2, 3, 4, 5, 6] [7, 8, 9] [] (.cl ok_ref16_slots_rkkii [] (.nil))))))))
noncomputable def sp_ref16_Again : Spec := ⟨52, ⟨[(0, .dat (.one (.sl (.cons (.int .i64) (.one .bool))))), (1, .dat (.one (.sl (.cons (.int .i64) (.one .bool))))), (2, .dat (.int .i64)), (3, .dat .bool)], []⟩, [⟨[(0, .tup [.own 91 (.cons (.int .i64) (.cons (.int .i64) (.cons (.int .i64) (.cons (.int .i64) (.one .bool))))), .dat (.int .i64)])], []⟩], fun x => fn_ref16_Again x.1 x.2.1 x.2.2.1 x.2.2.2⟩
theorem ref16_Again_is : SpecOk Tryz.prog sp_ref16_Again := fn_is Tryz.func52 h_ref16_Again (by kernel_rfl) (by kernel_rfl)
noncomputable def ok_ref16_Again : OkSpec Tryz.prog := ⟨sp_ref16_Again, ref16_Again_is, Tryz.call52⟩

noncomputable def fn_ref18_Needs (xa : (Int × Int × Int × Int × Bool)) (xb : (List (List (Int × Bool)))) (xc : Int) : Option (((List (Int × Int × Int × Int × Bool)) × Int)) :=
  (fn_ref18_Form (xa.1, xa.2.1, xa.2.2.1, xa.2.2.2.1, xa.2.2.2.2)).bind fun t547 => cond (!t547) (some (([], 3))) ((fn_ref18_Dst xa.1).bind fun t555 => (cond (t555 && ((decide (xa.2.1 < 0)) || (decide ((((xb.length : Nat) : Int)) ≤ xa.2.1)))) (some (true)) ((fn_ref18_Src xa.1).bind fun t588 => some (t588 && ((decide (xa.2.2.1 < 0)) || (decide ((((xb.length : Nat) : Int)) ≤ xa.2.2.1)))))).bind fun t584 => (cond (t584) (some (true)) ((fn_ref18_Region xa.1).bind fun t621 => some (t621 && ((decide (xa.2.2.2.1 < 0)) || (decide (xc ≤ xa.2.2.2.1)))))).bind fun t617 => cond (t617) (some (([], 7))) (cond (decide (xa.1 = 1)) ((getI xb xa.2.2.1).bind fun x748 => (getI xb xa.2.1).bind fun x761 => (fn_ref16_Flow x748 x761 1 0).bind fun (l776, i777) => some ((l776, i777))) (cond (decide (xa.1 = 2)) ((getI xb xa.2.2.1).bind fun x897 => (getI xb xa.2.1).bind fun x910 => (fn_ref16_Loan x897 x910 xa.2.2.2.1 xa.2.2.2.2).bind fun (l925, i926) => some ((l925, i926))) (cond (decide (xa.1 = 3)) ((getI xb xa.2.2.1).bind fun x1046 => (getI xb xa.2.1).bind fun x1059 => (fn_ref16_Again x1046 x1059 xa.2.2.2.1 xa.2.2.2.2).bind fun (l1074, i1075) => some ((l1074, i1075))) (some (([], 0)))))))
noncomputable def h_ref18_Needs : Hn Tryz.prog := .cl ok_ref18_Form [] (.tw 10 (.nil) (.cl ok_ref18_Dst [] (.gp 10 (.wt 26 (.gj 15 ⟨[(42, .dat .bool)], []⟩ [] (.two 26 (.nil) (.cl ok_ref18_Src [] (.wt 30 (.gp 10 (.nil))))) (.wt 43 (.gj 14 ⟨[(58, .dat .bool)], []⟩ [] (.two 43 (.nil) (.cl ok_ref18_Region [] (.wt 47 (.gp 9 (.nil))))) (.tw 58 (.nil) (.tw 61 (.mix [([0, 1, 2, 3, 4, 5, 6, 7, 8, 9], 10)] [11, 12, 13, 14] [] [] (.cl ok_ref16_Flow [] (.nil))) (.tw 77 (.mix [([0, 1, 2, 3, 4, 5, 6, 7, 8, 9, 10, 11, 12, 13], 14)] [15, 16, 17, 18] [] [] (.cl ok_ref16_Loan [] (.nil))) (.tw 97 (.mix [([0, 1, 2, 3, 4, 5, 6, 7, 8, 9, 10, 11, 12, 13], 14)] [15, 16, 17, 18] [] [] (.cl ok_ref16_Again [] (.nil))) (.nil))))))))))))
noncomputable def sp_ref18_Needs : Spec := ⟨28, ⟨[(0, .dat (.cons (.int .i64) (.cons (.int .i64) (.cons (.int .i64) (.cons (.int .i64) (.one .bool)))))), (1, .dat (.sl (.one (.sl (.cons (.int .i64) (.one .bool)))))), (2, .dat (.int .i64))], []⟩, [⟨[(0, .tup [.own 91 (.cons (.int .i64) (.cons (.int .i64) (.cons (.int .i64) (.cons (.int .i64) (.one .bool))))), .dat (.int .i64)])], []⟩], fun x => fn_ref18_Needs x.1 x.2.1 x.2.2⟩
theorem ref18_Needs_is : SpecOk Tryz.prog sp_ref18_Needs := fn_is Tryz.func28 h_ref18_Needs (by kernel_rfl) (by kernel_rfl)
noncomputable def ok_ref18_Needs : OkSpec Tryz.prog := ⟨sp_ref18_Needs, ref18_Needs_is, Tryz.call28⟩

noncomputable def fn_ref19_Form (xa : (Int × Int × Int × (List Int) × (List Int) × (List Int))) : Option Int :=
  cond ((decide (xa.1 < 1)) || (decide (4 < xa.1))) (some (3)) (cond (((((decide (xa.1 = 1)) || (decide (xa.1 = 4))) && (!decide ((((xa.2.2.2.1.length : Nat) : Int)) = 1))) || ((decide (xa.1 = 2)) && (decide ((((xa.2.2.2.1.length : Nat) : Int)) = 0)))) || ((decide (xa.1 = 3)) && (!decide ((((xa.2.2.2.1.length : Nat) : Int)) = 0)))) (some (3)) (cond ((!decide (xa.1 = 4)) && (((!decide (xa.2.1 = 0)) || (!decide (xa.2.2.1 = 0))) || (!decide ((((xa.2.2.2.2.2.length : Nat) : Int)) = 0)))) (some (3)) (cond (((decide (xa.1 = 1)) || (decide (xa.1 = 3))) && (!decide ((((xa.2.2.2.2.1.length : Nat) : Int)) = 0))) (some (3)) (cond (((decide (16 < (((xa.2.2.2.1.length : Nat) : Int)))) || (decide (16 < (((xa.2.2.2.2.1.length : Nat) : Int))))) || (decide (16 < (((xa.2.2.2.2.2.length : Nat) : Int))))) (some (6)) (some (0))))))
noncomputable def h_ref19_Form : Hn Tryz.prog := .gp 3 (.tw 10 (.nil) (.gp 3 (.wt 19 (.gp 4 (.wt 25 (.gp 9 (.wt 36 (.gp 9 (.tw 46 (.nil) (.gp 14 (.tw 65 (.nil) (.gp 3 (.wt 74 (.gp 4 (.tw 79 (.nil) (.gp 4 (.wt 90 (.gp 4 (.tw 95 (.nil) (.nil))))))))))))))))))))
noncomputable def sp_ref19_Form : Spec := ⟨43, ⟨[(0, .dat (.cons (.int .i64) (.cons (.int .i64) (.cons (.int .i64) (.cons (.sl (.int .i64)) (.cons (.sl (.int .i64)) (.one (.sl (.int .i64)))))))))], []⟩, [⟨[(0, .dat (.int .i64))], []⟩], fun x => fn_ref19_Form x⟩
theorem ref19_Form_is : SpecOk Tryz.prog sp_ref19_Form := fn_is Tryz.func43 h_ref19_Form (by kernel_rfl) (by kernel_rfl)
noncomputable def ok_ref19_Form : OkSpec Tryz.prog := ⟨sp_ref19_Form, ref19_Form_is, Tryz.call43⟩
noncomputable def fn_ref19_within_l1 (xa : (List Int)) (xb : Int) : Int → Option (Int ⊕ (Unit ⊕ Bool)) := fun (i335 : Int) => cond (decide (i335 < (((xa.length : Nat) : Int)))) ((getI xa i335).bind fun x371 => (cond (decide (x371 < 0)) (some (true)) ((getI xa i335).bind fun x392 => some (decide (xb ≤ x392)))).bind fun t390 => cond (t390) (some (.inr ((.inr (false))))) (some (.inl (IntKind.wrap .i64 (i335 + 1))))) (some (.inr ((.inl ()))))
noncomputable def fn_ref19_within (xa : (List Int)) (xb : Int) : Option Bool :=
  (loop (fn_ref19_within_l1 xa xb) 0 : Option (Unit ⊕ Bool)).bind fun o => match o with | .inr r => some r | .inl () => some (true)
noncomputable def h_ref19_within : Hn Tryz.prog := .jx [] ⟨[], []⟩ [] (.lp ⟨[(5, .dat (.int .i64))], []⟩ (.tw 9 (.gj 6 ⟨[(24, .dat .bool)], []⟩ [] (.two 17 (.nil) (.nil)) (.tw 24 (.nil) (.nil))) (.nil))) (.nil)
noncomputable def sp_ref19_within : Spec := ⟨44, ⟨[(0, .dat (.sl (.int .i64))), (1, .dat (.int .i64))], []⟩, [⟨[(0, .dat .bool)], []⟩], fun x => fn_ref19_within x.1 x.2⟩
theorem ref19_within_is : SpecOk Tryz.prog sp_ref19_within := fn_is Tryz.func44 h_ref19_within (by kernel_rfl) (by kernel_rfl)
noncomputable def ok_ref19_within : OkSpec Tryz.prog := ⟨sp_ref19_within, ref19_within_is, Tryz.call44⟩
noncomputable def fn_ref15_Subst_l1 (xa : (List (Int × Bool))) (xb : (List Int)) : ((List (Int × Bool)) × Int) → Option (((List (Int × Bool)) × Int) ⊕ ((List (Int × Bool)) ⊕ ((List (Int × Bool)) × Int))) := fun ((l1565, i1570) : ((List (Int × Bool)) × Int)) => cond (decide (i1570 < (((xa.length : Nat) : Int)))) ((getI xa i1570).bind fun x1683 => cond ((decide (x1683.1 < 0)) || (decide ((((xb.length : Nat) : Int)) ≤ x1683.1))) (some (.inr ((.inr (([], 7)))))) ((getI xb x1683.1).bind fun x1760 => (getI xa i1570).bind fun x1769 => (app l1565 (([(x1760, x1769.2)] : List (Int × Bool)))).bind fun z1781 => some (.inl ((z1781, IntKind.wrap .i64 (i1570 + 1)))))) (some (.inr (.inl l1565)))
noncomputable def fn_ref15_Subst (xa : (List (Int × Bool))) (xb : (List Int)) : Option (((List (Int × Bool)) × Int)) :=
  (loop (fn_ref15_Subst_l1 xa xb) ((([] : List (Int × Bool)), 0)) : Option ((List (Int × Bool)) ⊕ ((List (Int × Bool)) × Int))).bind fun o => match o with | .inr r => some r | .inl l1450 => some ((l1450, 0))
noncomputable def h_ref15_Subst : Hn Tryz.prog := .jx [] ⟨[(6, .own 152 (.cons (.int .i64) (.one .bool))), (9, .any)], [⟨(some 2), 26, [.nils], false, false, none, false⟩]⟩ [4, 2] (.lp ⟨[(6, .own 152 (.cons (.int .i64) (.one .bool))), (7, .dat (.int .i64))], [⟨(some 2), 26, [.nils], false, false, none, false⟩]⟩ (.tw 14 (.gp 4 (.tw 30 (.nil) (.mix [([0, 1, 2, 3, 4, 5, 6, 7, 8, 9, 10, 11], 12)] [] [13, 14] [] (.nil)))) (.nil))) (.nil)
noncomputable def sp_ref15_Subst : Spec := ⟨76, ⟨[(0, .dat (.one (.sl (.cons (.int .i64) (.one .bool))))), (1, .dat (.sl (.int .i64)))], []⟩, [⟨[(0, .tup [.agg [.own 152 (.cons (.int .i64) (.one .bool))], .dat (.int .i64)])], []⟩], fun x => fn_ref15_Subst x.1 x.2⟩
theorem ref15_Subst_is : SpecOk Tryz.prog sp_ref15_Subst := fn_is Tryz.func76 h_ref15_Subst (by kernel_rfl) (by kernel_rfl)
noncomputable def ok_ref15_Subst : OkSpec Tryz.prog := ⟨sp_ref15_Subst, ref15_Subst_is, Tryz.call76⟩
noncomputable def fn_ref17_Call_l1 (xa : (Int × (List (Int × Int)) × (List (List (Int × Bool))) × (List (Int × Bool)))) (xb : (List Int)) : ((List (Int × Int × Int × Int × Bool)) × Int) → Option (((List (Int × Int × Int × Int × Bool)) × Int) ⊕ (List (Int × Int × Int × Int × Bool))) := fun ((l3453, i3458) : ((List (Int × Int × Int × Int × Bool)) × Int)) => cond (decide (i3458 < (((xa.2.1.length : Nat) : Int)))) ((getI xa.2.1 i3458).bind fun x3747 => (getI xb x3747.1).bind fun x3756 => (getI xa.2.1 i3458).bind fun x3765 => (getI xb x3765.2).bind fun x3774 => (app l3453 (([(x3756, x3774, 4, i3458, false)] : List (Int × Int × Int × Int × Bool)))).bind fun z3786 => some (.inl ((z3786, IntKind.wrap .i64 (i3458 + 1))))) (some (.inr (l3453)))
noncomputable def fn_ref17_Call_l2 (xa : (Int × (List (Int × Int)) × (List (List (Int × Bool))) × (List (Int × Bool)))) (xb : (List Int)) (xc : (List (List (Int × Bool)))) : ((List (Int × Int × Int × Int × Bool)) × Int) → Option (((List (Int × Int × Int × Int × Bool)) × Int) ⊕ ((List (Int × Int × Int × Int × Bool)) ⊕ ((List (Int × Int × Int × Int × Bool)) × Int))) := fun ((l4463, i4468) : ((List (Int × Int × Int × Int × Bool)) × Int)) => cond (decide (i4468 < (((xa.2.2.1.length : Nat) : Int)))) ((getI xa.2.2.1 i4468).bind fun x4638 => (fn_ref15_Subst x4638 xb).bind fun (l4653, i4654) => (getI xc i4468).bind fun x4765 => (fn_ref16_Flow x4765 l4653 5 (IntKind.wrap .i64 (16 * i4468))).bind fun (l4780, i4781) => cond (!decide (i4781 = 0)) (some (.inr ((.inr (([], i4781)))))) ((app l4463 l4780).bind fun z4791 => some (.inl ((z4791, IntKind.wrap .i64 (i4468 + 1)))))) (some (.inr (.inl l4463)))
noncomputable def fn_ref17_Call (xa : (Int × (List (Int × Int)) × (List (List (Int × Bool))) × (List (Int × Bool)))) (xb : (List Int)) (xc : (List (List (Int × Bool)))) (xd : (List (Int × Bool))) : Option (((List (Int × Int × Int × Int × Bool)) × Int)) :=
  (fn_ref17_Check (xa.1, xa.2.1, xa.2.2.1, xa.2.2.2)).bind fun i2757 => cond (!decide (i2757 = 0)) (some (([], i2757))) (cond ((!decide ((((xb.length : Nat) : Int)) = xa.1)) || (!decide ((((xc.length : Nat) : Int)) = (((xa.2.2.1.length : Nat) : Int))))) (some (([], 2))) ((loop (fn_ref17_Call_l1 xa xb) ((([] : List (Int × Int × Int × Int × Bool)), 0)) : Option ((List (Int × Int × Int × Int × Bool)))).bind fun l3279 => (loop (fn_ref17_Call_l2 xa xb xc) (l3279, 0) : Option ((List (Int × Int × Int × Int × Bool)) ⊕ ((List (Int × Int × Int × Int × Bool)) × Int))).bind fun o => match o with | .inr r => some r | .inl l4292 => (fn_ref15_Subst xa.2.2.2 xb).bind fun (l4800, i4801) => (fn_ref16_Flow l4800 xd 6 0).bind fun (l4815, i4816) => cond (!decide (i4816 = 0)) (some (([], i4816))) ((app l4292 l4815).bind fun z4826 => some ((z4826, 0)))))
noncomputable def h_ref17_Call : Hn Tryz.prog := .cl ok_ref17_Check [] (.tw 25 (.nil) (.gp 6 (.tw 39 (.nil) (.jn [] ⟨[(11, .own 91 (.cons (.int .i64) (.cons (.int .i64) (.cons (.int .i64) (.cons (.int .i64) (.one .bool)))))), (40, .any)], []⟩ [4] (.lp ⟨[(11, .own 91 (.cons (.int .i64) (.cons (.int .i64) (.cons (.int .i64) (.cons (.int .i64) (.one .bool)))))), (12, .dat (.int .i64))], []⟩ (.tw 45 (.mix [([0, 1, 2, 3, 4, 5, 6, 7, 8, 9, 10, 11, 12, 13, 14, 15, 16, 17, 18, 19, 20], 21)] [] [22, 23] [] (.nil)) (.nil))) (.jx [] ⟨[(11, .own 91 (.cons (.int .i64) (.cons (.int .i64) (.cons (.int .i64) (.cons (.int .i64) (.one .bool))))))], []⟩ [6] (.lp ⟨[(11, .own 91 (.cons (.int .i64) (.cons (.int .i64) (.cons (.int .i64) (.cons (.int .i64) (.one .bool)))))), (13, .dat (.int .i64))], []⟩ (.tw 75 (.cl ok_ref15_Subst [] (.per 10 11 (.mix [([0, 1, 2, 3, 4, 5, 6], 7)] [8, 9, 10, 11, 12] [] [] (.cl ok_ref16_Flow [] (.tw 100 (.nil) (.nil)))))) (.nil))) (.cl ok_ref15_Subst [] (.per 10 11 (.cl ok_ref16_Flow [] (.tw 119 (.nil) (.nil))))))))))
noncomputable def sp_ref17_Call : Spec := ⟨46, ⟨[(0, .dat (.cons (.int .i64) (.cons (.sl (.cons (.int .i64) (.one (.int .i64)))) (.cons (.sl (.one (.sl (.cons (.int .i64) (.one .bool))))) (.one (.one (.sl (.cons (.int .i64) (.one .bool))))))))), (1, .dat (.sl (.int .i64))), (2, .dat (.sl (.one (.sl (.cons (.int .i64) (.one .bool)))))), (3, .dat (.one (.sl (.cons (.int .i64) (.one .bool)))))], []⟩, [⟨[(0, .tup [.own 91 (.cons (.int .i64) (.cons (.int .i64) (.cons (.int .i64) (.cons (.int .i64) (.one .bool))))), .dat (.int .i64)])], []⟩], fun x => fn_ref17_Call x.1 x.2.1 x.2.2.1 x.2.2.2⟩
theorem ref17_Call_is : SpecOk Tryz.prog sp_ref17_Call := fn_is Tryz.func46 h_ref17_Call (by kernel_rfl) (by kernel_rfl)
noncomputable def ok_ref17_Call : OkSpec Tryz.prog := ⟨sp_ref17_Call, ref17_Call_is, Tryz.call46⟩
noncomputable def fn_ref19_Needs_l1 (xa : (Int × Int × Int × (List Int) × (List Int) × (List Int))) (xb : (Int × Int × (List (List (Int × Bool))) × (List (Int × Bool)) × (List (Int × (List (Int × Int)) × (List (List (Int × Bool))) × (List (Int × Bool)))))) : ((List (List (Int × Bool))) × Int) → Option (((List (List (Int × Bool))) × Int) ⊕ (List (List (Int × Bool)))) := fun ((l2259, i2264) : ((List (List (Int × Bool))) × Int)) => cond (decide (i2264 < (((xa.2.2.2.2.1.length : Nat) : Int)))) ((getI xa.2.2.2.2.1 i2264).bind fun x2455 => (getI xb.2.2.1 x2455).bind fun x2464 => (app l2259 (([x2464] : List (List (Int × Bool))))).bind fun z2480 => some (.inl ((z2480, IntKind.wrap .i64 (i2264 + 1))))) (some (.inr (l2259)))
noncomputable def fn_ref19_Needs (xa : (Int × Int × Int × (List Int) × (List Int) × (List Int))) (xb : (Int × Int × (List (List (Int × Bool))) × (List (Int × Bool)) × (List (Int × (List (Int × Int)) × (List (List (Int × Bool))) × (List (Int × Bool)))))) : Option (((List (Int × Int × Int × Int × Bool)) × Int)) :=
  (fn_ref19_Form (xa.1, xa.2.1, xa.2.2.1, xa.2.2.2.1, xa.2.2.2.2.1, xa.2.2.2.2.2)).bind fun i1568 => cond (!decide (i1568 = 0)) (some (([], i1568))) ((fn_ref19_within xa.2.2.2.1 xb.1).bind fun t1576 => (cond (!t1576) (some (true)) ((fn_ref19_within xa.2.2.2.2.1 (((xb.2.2.1.length : Nat) : Int))).bind fun t1591 => some (!t1591))).bind fun t1587 => (cond (t1587) (some (true)) ((fn_ref19_within xa.2.2.2.2.2 xb.2.1).bind fun t1606 => some (!t1606))).bind fun t1602 => cond (t1602) (some (([], 7))) ((cond (decide (xa.1 = 4)) ((fn_ref19_within ([xa.2.2.1] : List Int) (((xb.2.2.1.length : Nat) : Int))).bind fun t1662 => (cond (!t1662) (some (true)) ((fn_ref19_within ([xa.2.1] : List Int) (((xb.2.2.2.2.length : Nat) : Int))).bind fun t1689 => some (!t1689))).bind fun t1679 => some (t1679)) (some (false))).bind fun t1652 => cond (t1652) (some (([], 7))) (cond ((decide (xa.1 = 3)) && (decide ((((xb.2.2.1.length : Nat) : Int)) = 0))) (some (([], 14))) (cond (decide (xa.1 = 3)) ((getI xb.2.2.1 0).bind fun x1773 => (fn_ref16_Flow x1773 xb.2.2.2.1 7 0).bind fun (l1788, i1789) => some ((l1788, i1789))) (cond (decide (xa.1 = 4)) ((loop (fn_ref19_Needs_l1 xa xb) ((([] : List (List (Int × Bool))), 0)) : Option ((List (List (Int × Bool))))).bind fun l2141 => (getI xb.2.2.2.2 xa.2.1).bind fun x2630 => (getI xb.2.2.1 xa.2.2.1).bind fun x2651 => (fn_ref17_Call (x2630.1, x2630.2.1, x2630.2.2.1, x2630.2.2.2) xa.2.2.2.2.2 l2141 x2651).bind fun (l2669, i2670) => some ((l2669, i2670))) (some (([], 0))))))))
noncomputable def h_ref19_Needs : Hn Tryz.prog := .cl ok_ref19_Form [] (.tw 12 (.nil) (.cl ok_ref19_within [] (.gj 7 ⟨[(28, .dat .bool)], []⟩ [] (.two 20 (.nil) (.cl ok_ref19_within [] (.nil))) (.wt 29 (.gj 6 ⟨[(36, .dat .bool)], []⟩ [] (.two 29 (.nil) (.cl ok_ref19_within [] (.nil))) (.tw 36 (.nil) (.gj 18 ⟨[(59, .dat .bool)], []⟩ [] (.two 40 (.cl ok_ref19_within [4] (.wt 49 (.gj 8 ⟨[(58, .dat .bool)], []⟩ [] (.two 49 (.nil) (.cl ok_ref19_within [6] (.nil))) (.nil)))) (.nil)) (.tw 59 (.nil) (.gp 4 (.tw 68 (.nil) (.tw 71 (.mix [([0, 1, 2, 3, 4, 5], 6)] [7, 8, 9, 10] [] [] (.cl ok_ref16_Flow [] (.nil))) (.tw 83 (.jn [] ⟨[(7, .own 26 (.one (.sl (.cons (.int .i64) (.one .bool))))), (84, .any)], []⟩ [4] (.lp ⟨[(7, .own 26 (.one (.sl (.cons (.int .i64) (.one .bool))))), (8, .dat (.int .i64))], []⟩ (.tw 89 (.mix [([0, 1, 2, 3, 4, 5, 6, 7, 8, 9], 10)] [] [11, 12] [] (.nil)) (.nil))) (.mix [([0, 1, 2, 3, 4, 5, 6, 7, 8, 9, 10, 11, 12, 13, 14], 15)] [16, 17, 18, 19] [] [6] (.per 6 7 (.cl ok_ref17_Call [] (.nil))))) (.nil)))))))))))))
noncomputable def sp_ref19_Needs : Spec := ⟨27, ⟨[(0, .dat (.cons (.int .i64) (.cons (.int .i64) (.cons (.int .i64) (.cons (.sl (.int .i64)) (.cons (.sl (.int .i64)) (.one (.sl (.int .i64))))))))), (1, .dat (.cons (.int .i64) (.cons (.int .i64) (.cons (.sl (.one (.sl (.cons (.int .i64) (.one .bool))))) (.cons (.one (.sl (.cons (.int .i64) (.one .bool)))) (.one (.sl (.cons (.int .i64) (.cons (.sl (.cons (.int .i64) (.one (.int .i64)))) (.cons (.sl (.one (.sl (.cons (.int .i64) (.one .bool))))) (.one (.one (.sl (.cons (.int .i64) (.one .bool)))))))))))))))], []⟩, [⟨[(0, .tup [.own 91 (.cons (.int .i64) (.cons (.int .i64) (.cons (.int .i64) (.cons (.int .i64) (.one .bool))))), .dat (.int .i64)])], []⟩], fun x => fn_ref19_Needs x.1 x.2⟩
theorem ref19_Needs_is : SpecOk Tryz.prog sp_ref19_Needs := fn_is Tryz.func27 h_ref19_Needs (by kernel_rfl) (by kernel_rfl)
noncomputable def ok_ref19_Needs : OkSpec Tryz.prog := ⟨sp_ref19_Needs, ref19_Needs_is, Tryz.call27⟩
noncomputable def fn_ref21_blocks_l1 (xa : (Int × Int × (List (Int × Int)) × (List (List (Int × Bool))) × (List (Int × Bool)) × (List (Int × (List (Int × Int)) × (List (List (Int × Bool))) × (List (Int × Bool)))) × (List ((List (Int × Int × Int × Int × Bool)) × (Int × Int × Int × (List Int) × (List Int) × (List Int)))))) : (Int × Int) → Option ((Int × Int) ⊕ (Unit ⊕ (Int × Int × Int × Int))) := fun ((i4053, i4054) : (Int × Int)) => cond (decide (i4054 < (((xa.2.2.2.2.2.2.length : Nat) : Int)))) ((getI xa.2.2.2.2.2.2 i4054).bind fun x4074 => cond (decide (65536 < (IntKind.wrap .i64 (i4053 + (((x4074.1.length : Nat) : Int)))))) (some (.inr ((.inr ((6, 5, i4054, 0)))))) (some (.inl ((IntKind.wrap .i64 (i4053 + (((x4074.1.length : Nat) : Int))), IntKind.wrap .i64 (i4054 + 1)))))) (some (.inr ((.inl ()))))
noncomputable def fn_ref21_blocks_l2 (xa : (Int × Int × (List (Int × Int)) × (List (List (Int × Bool))) × (List (Int × Bool)) × (List (Int × (List (Int × Int)) × (List (List (Int × Bool))) × (List (Int × Bool)))) × (List ((List (Int × Int × Int × Int × Bool)) × (Int × Int × Int × (List Int) × (List Int) × (List Int)))))) (i6666 : Int) (x7313 : ((List (Int × Int × Int × Int × Bool)) × (Int × Int × Int × (List Int) × (List Int) × (List Int)))) : Int → Option (Int ⊕ (Unit ⊕ (Int ⊕ (Unit ⊕ (Int × Int × Int × Int))))) := fun (i7659 : Int) => cond (decide (i7659 < (((x7313.1.length : Nat) : Int)))) ((getI x7313.1 i7659).bind fun x7805 => (fn_ref18_Needs (x7805.1, x7805.2.1, x7805.2.2.1, x7805.2.2.2.1, x7805.2.2.2.2) xa.2.2.2.1 xa.2.1).bind fun (l7816, i7817) => cond (!decide (i7817 = 0)) (some (.inr ((.inr (.inr ((.inr ((i7817, 6, i6666, i7659))))))))) (some (.inl (IntKind.wrap .i64 (i7659 + 1))))) (some (.inr ((.inl ()))))
noncomputable def fn_ref21_blocks_l3 (xa : (Int × Int × (List (Int × Int)) × (List (List (Int × Bool))) × (List (Int × Bool)) × (List (Int × (List (Int × Int)) × (List (List (Int × Bool))) × (List (Int × Bool)))) × (List ((List (Int × Int × Int × Int × Bool)) × (Int × Int × Int × (List Int) × (List Int) × (List Int)))))) : Int → Option (Int ⊕ (Unit ⊕ (Int × Int × Int × Int))) := fun (i6666 : Int) => cond (decide (i6666 < (((xa.2.2.2.2.2.2.length : Nat) : Int)))) ((getI xa.2.2.2.2.2.2 i6666).bind fun x7313 => (loop (fn_ref21_blocks_l2 xa i6666 x7313) 0 : Option (Unit ⊕ (Int ⊕ (Unit ⊕ (Int × Int × Int × Int))))).bind fun o => match o with | .inr r => some r | .inl () => (getI xa.2.2.2.2.2.2 i6666).bind fun x7922 => (fn_ref19_Needs (x7922.2.1, x7922.2.2.1, x7922.2.2.2.1, x7922.2.2.2.2.1, x7922.2.2.2.2.2.1, x7922.2.2.2.2.2.2) ((((xa.2.2.2.2.2.2.length : Nat) : Int), xa.2.1, xa.2.2.2.1, xa.2.2.2.2.1, xa.2.2.2.2.2.1))).bind fun (l7945, i7946) => cond (!decide (i7946 = 0)) (some (.inr ((.inr ((i7946, 7, i6666, 0)))))) (some (.inl (IntKind.wrap .i64 (i6666 + 1))))) (some (.inr ((.inl ()))))
noncomputable def fn_ref21_blocks (xa : (Int × Int × (List (Int × Int)) × (List (List (Int × Bool))) × (List (Int × Bool)) × (List (Int × (List (Int × Int)) × (List (List (Int × Bool))) × (List (Int × Bool)))) × (List ((List (Int × Int × Int × Int × Bool)) × (Int × Int × Int × (List Int) × (List Int) × (List Int)))))) : Option (Int × Int × Int × Int) :=
  cond (decide ((((xa.2.2.2.2.2.2.length : Nat) : Int)) = 0)) (some ((14, 5, 0, 0))) (cond (decide (65536 < (((xa.2.2.2.2.2.2.length : Nat) : Int)))) (some ((6, 5, 0, 0))) ((loop (fn_ref21_blocks_l1 xa) (0, 0) : Option (Unit ⊕ (Int × Int × Int × Int))).bind fun o => match o with | .inr r => some r | .inl () => (loop (fn_ref21_blocks_l3 xa) 0 : Option (Unit ⊕ (Int × Int × Int × Int))).bind fun o => match o with | .inr r => some r | .inl () => some ((0, 0, 0, 0))))
noncomputable def h_ref21_blocks : Hn Tryz.prog := .tw 16 (.nil) (.tw 21 (.nil) (.jx [] ⟨[], [⟨(some 2), 96, [.lit (.int .i64 0), .lit (.int .i64 0), .lit (.int .i64 0), .lit (.int .i64 0)], false, false, none, false⟩]⟩ [2] (.lp ⟨[(3, .dat (.int .i64)), (4, .dat (.int .i64))], [⟨(some 2), 96, [.lit (.int .i64 0), .lit (.int .i64 0), .lit (.int .i64 0), .lit (.int .i64 0)], false, false, none, false⟩]⟩ (.tw 27 (.tw 40 (.nil) (.nil)) (.nil))) (.jx [] ⟨[], [⟨(some 2), 96, [.lit (.int .i64 0), .lit (.int .i64 0), .lit (.int .i64 0), .lit (.int .i64 0)], false, false, none, false⟩]⟩ [2] (.lp ⟨[(6, .dat (.int .i64))], [⟨(some 2), 96, [.lit (.int .i64 0), .lit (.int .i64 0), .lit (.int .i64 0), .lit (.int .i64 0)], false, false, none, false⟩]⟩ (.tw 59 (.pl (.pl (.jx [] ⟨[], [⟨(some 2), 96, [.lit (.int .i64 0), .lit (.int .i64 0), .lit (.int .i64 0), .lit (.int .i64 0)], false, false, none, false⟩]⟩ [2] (.lp ⟨[(8, .dat (.int .i64))], [⟨(some 2), 96, [.lit (.int .i64 0), .lit (.int .i64 0), .lit (.int .i64 0), .lit (.int .i64 0)], false, false, none, false⟩]⟩ (.tw 71 (.mix [([0, 1, 2, 3, 4, 5, 6, 7], 8)] [9, 10, 11, 12, 13] [] [] (.cl ok_ref18_Needs [] (.tw 87 (.nil) (.nil)))) (.nil))) (.mix [([0, 1, 2, 3, 4, 5, 6], 7)] [8, 9, 10, 11, 12] [] [] (.cl ok_ref19_Needs [] (.tw 104 (.nil) (.nil))))))) (.nil))) (.nil))))
noncomputable def sp_ref21_blocks : Spec := ⟨56, ⟨[(0, .dat (.cons (.int .i64) (.cons (.int .i64) (.cons (.sl (.cons (.int .i64) (.one (.int .i64)))) (.cons (.sl (.one (.sl (.cons (.int .i64) (.one .bool))))) (.cons (.one (.sl (.cons (.int .i64) (.one .bool)))) (.cons (.sl (.cons (.int .i64) (.cons (.sl (.cons (.int .i64) (.one (.int .i64)))) (.cons (.sl (.one (.sl (.cons (.int .i64) (.one .bool))))) (.one (.one (.sl (.cons (.int .i64) (.one .bool))))))))) (.one (.sl (.cons (.sl (.cons (.int .i64) (.cons (.int .i64) (.cons (.int .i64) (.cons (.int .i64) (.one .bool)))))) (.one (.cons (.int .i64) (.cons (.int .i64) (.cons (.int .i64) (.cons (.sl (.int .i64)) (.cons (.sl (.int .i64)) (.one (.sl (.int .i64)))))))))))))))))))], []⟩, [⟨[(0, .agg [.dat (.int .i64), .dat (.int .i64), .dat (.int .i64), .dat (.int .i64)])], []⟩], fun x => fn_ref21_blocks x⟩
theorem ref21_blocks_is : SpecOk Tryz.prog sp_ref21_blocks := fn_is Tryz.func56 h_ref21_blocks (by kernel_rfl) (by kernel_rfl)
noncomputable def ok_ref21_blocks : OkSpec Tryz.prog := ⟨sp_ref21_blocks, ref21_blocks_is, Tryz.call56⟩

noncomputable def fn_ref21_Check (xa : (Int × Int × (List (Int × Int)) × (List (List (Int × Bool))) × (List (Int × Bool)) × (List (Int × (List (Int × Int)) × (List (List (Int × Bool))) × (List (Int × Bool)))) × (List ((List (Int × Int × Int × Int × Bool)) × (Int × Int × Int × (List Int) × (List Int) × (List Int)))))) : Option (Int × Int × Int × Int) :=
  (fn_ref21_head (xa.1, xa.2.1, xa.2.2.1, xa.2.2.2.1, xa.2.2.2.2.1, xa.2.2.2.2.2.1, xa.2.2.2.2.2.2)).bind fun (i42, i43, i44, i45) => cond (!decide (i42 = 0)) (some ((i42, i43, i44, i45))) ((fn_ref21_types (xa.1, xa.2.1, xa.2.2.1, xa.2.2.2.1, xa.2.2.2.2.1, xa.2.2.2.2.2.1, xa.2.2.2.2.2.2)).bind fun (i53, i54, i55, i56) => cond (!decide (i53 = 0)) (some ((i53, i54, i55, i56))) ((fn_ref21_blocks (xa.1, xa.2.1, xa.2.2.1, xa.2.2.2.1, xa.2.2.2.2.1, xa.2.2.2.2.2.1, xa.2.2.2.2.2.2)).bind fun (i63, i65, i66, i67) => some ((i63, i65, i66, i67))))
noncomputable def h_ref21_Check : Hn Tryz.prog := .cl ok_ref21_head [] (.tw 8 (.nil) (.cl ok_ref21_types [] (.tw 14 (.nil) (.cl ok_ref21_blocks [] (.nil)))))
noncomputable def sp_ref21_Check : Spec := ⟨32, ⟨[(0, .dat (.cons (.int .i64) (.cons (.int .i64) (.cons (.sl (.cons (.int .i64) (.one (.int .i64)))) (.cons (.sl (.one (.sl (.cons (.int .i64) (.one .bool))))) (.cons (.one (.sl (.cons (.int .i64) (.one .bool)))) (.cons (.sl (.cons (.int .i64) (.cons (.sl (.cons (.int .i64) (.one (.int .i64)))) (.cons (.sl (.one (.sl (.cons (.int .i64) (.one .bool))))) (.one (.one (.sl (.cons (.int .i64) (.one .bool))))))))) (.one (.sl (.cons (.sl (.cons (.int .i64) (.cons (.int .i64) (.cons (.int .i64) (.cons (.int .i64) (.one .bool)))))) (.one (.cons (.int .i64) (.cons (.int .i64) (.cons (.int .i64) (.cons (.sl (.int .i64)) (.cons (.sl (.int .i64)) (.one (.sl (.int .i64)))))))))))))))))))], []⟩, [⟨[(0, .agg [.dat (.int .i64), .dat (.int .i64), .dat (.int .i64), .dat (.int .i64)])], []⟩], fun x => fn_ref21_Check x⟩
theorem ref21_Check_is : SpecOk Tryz.prog sp_ref21_Check := fn_is Tryz.func32 h_ref21_Check (by kernel_rfl) (by kernel_rfl)
noncomputable def ok_ref21_Check : OkSpec Tryz.prog := ⟨sp_ref21_Check, ref21_Check_is, Tryz.call32⟩

noncomputable def fn_ref21_OK (xa : (Int × Int × (List (Int × Int)) × (List (List (Int × Bool))) × (List (Int × Bool)) × (List (Int × (List (Int × Int)) × (List (List (Int × Bool))) × (List (Int × Bool)))) × (List ((List (Int × Int × Int × Int × Bool)) × (Int × Int × Int × (List Int) × (List Int) × (List Int)))))) : Option Bool :=
  (fn_ref21_Check (xa.1, xa.2.1, xa.2.2.1, xa.2.2.2.1, xa.2.2.2.2.1, xa.2.2.2.2.2.1, xa.2.2.2.2.2.2)).bind fun (i15, i17, i18, i19) => some (decide (i15 = 0))
noncomputable def h_ref21_OK : Hn Tryz.prog := .cl ok_ref21_Check [] (.nil)
noncomputable def sp_ref21_OK : Spec := ⟨20, ⟨[(0, .dat (.cons (.int .i64) (.cons (.int .i64) (.cons (.sl (.cons (.int .i64) (.one (.int .i64)))) (.cons (.sl (.one (.sl (.cons (.int .i64) (.one .bool))))) (.cons (.one (.sl (.cons (.int .i64) (.one .bool)))) (.cons (.sl (.cons (.int .i64) (.cons (.sl (.cons (.int .i64) (.one (.int .i64)))) (.cons (.sl (.one (.sl (.cons (.int .i64) (.one .bool))))) (.one (.one (.sl (.cons (.int .i64) (.one .bool))))))))) (.one (.sl (.cons (.sl (.cons (.int .i64) (.cons (.int .i64) (.cons (.int .i64) (.cons (.int .i64) (.one .bool)))))) (.one (.cons (.int .i64) (.cons (.int .i64) (.cons (.int .i64) (.cons (.sl (.int .i64)) (.cons (.sl (.int .i64)) (.one (.sl (.int .i64)))))))))))))))))))], []⟩, [⟨[(0, .dat .bool)], []⟩], fun x => fn_ref21_OK x⟩
theorem ref21_OK_is : SpecOk Tryz.prog sp_ref21_OK := fn_is Tryz.func20 h_ref21_OK (by kernel_rfl) (by kernel_rfl)
noncomputable def ok_ref21_OK : OkSpec Tryz.prog := ⟨sp_ref21_OK, ref21_OK_is, Tryz.call20⟩
noncomputable def fn_ref22_All_l1 (i1763 : Int) (x1889 : ((List (Int × Int × Int × Int × Bool)) × (Int × Int × Int × (List Int) × (List Int) × (List Int)))) : ((List (Int × Int × Bool)) × Int) → Option (((List (Int × Int × Bool)) × Int) ⊕ (List (Int × Int × Bool))) := fun ((l1972, i1977) : ((List (Int × Int × Bool)) × Int)) => cond (decide (i1977 ≤ (((x1889.1.length : Nat) : Int)))) ((app l1972 (([(i1763, i1977, decide (i1977 = (((x1889.1.length : Nat) : Int))))] : List (Int × Int × Bool)))).bind fun z1999 => some (.inl ((z1999, IntKind.wrap .i64 (i1977 + 1))))) (some (.inr (l1972)))
noncomputable def fn_ref22_All_l2 (xa : (Int × Int × (List (Int × Int)) × (List (List (Int × Bool))) × (List (Int × Bool)) × (List (Int × (List (Int × Int)) × (List (List (Int × Bool))) × (List (Int × Bool)))) × (List ((List (Int × Int × Int × Int × Bool)) × (Int × Int × Int × (List Int) × (List Int) × (List Int)))))) : ((List (Int × Int × Bool)) × Int) → Option (((List (Int × Int × Bool)) × Int) ⊕ (List (Int × Int × Bool))) := fun ((l1758, i1763) : ((List (Int × Int × Bool)) × Int)) => cond (decide (i1763 < (((xa.2.2.2.2.2.2.length : Nat) : Int)))) ((getI xa.2.2.2.2.2.2 i1763).bind fun x1889 => (loop (fn_ref22_All_l1 i1763 x1889) (l1758, 0) : Option ((List (Int × Int × Bool)))).bind fun l1951 => some (.inl ((l1951, IntKind.wrap .i64 (i1763 + 1))))) (some (.inr (l1758)))
noncomputable def fn_ref22_All (xa : (Int × Int × (List (Int × Int)) × (List (List (Int × Bool))) × (List (Int × Bool)) × (List (Int × (List (Int × Int)) × (List (List (Int × Bool))) × (List (Int × Bool)))) × (List ((List (Int × Int × Int × Int × Bool)) × (Int × Int × Int × (List Int) × (List Int) × (List Int)))))) : Option ((List (Int × Int × Bool))) :=
  (fn_ref21_OK (xa.1, xa.2.1, xa.2.2.1, xa.2.2.2.1, xa.2.2.2.2.1, xa.2.2.2.2.2.1, xa.2.2.2.2.2.2)).bind fun t1255 => cond (!t1255) (some (([] : List (Int × Int × Bool)))) ((loop (fn_ref22_All_l2 xa) ((([] : List (Int × Int × Bool)), 0)) : Option ((List (Int × Int × Bool)))).bind fun l1630 => some (l1630))
noncomputable def h_ref22_All : Hn Tryz.prog := .cl ok_ref21_OK [] (.tw 10 (.nil) (.jn [] ⟨[(3, .own 54 (.cons (.int .i64) (.cons (.int .i64) (.one .bool)))), (7, .any)], []⟩ [2] (.lp ⟨[(3, .own 54 (.cons (.int .i64) (.cons (.int .i64) (.one .bool)))), (4, .dat (.int .i64))], []⟩ (.tw 16 (.pl (.pl (.jn [] ⟨[(3, .own 54 (.cons (.int .i64) (.cons (.int .i64) (.one .bool))))], []⟩ [4] (.lp ⟨[(3, .own 54 (.cons (.int .i64) (.cons (.int .i64) (.one .bool)))), (6, .dat (.int .i64))], []⟩ (.tw 28 (.nil) (.nil))) (.nil)))) (.nil))) (.nil)))
noncomputable def sp_ref22_All : Spec := ⟨8, ⟨[(0, .dat (.cons (.int .i64) (.cons (.int .i64) (.cons (.sl (.cons (.int .i64) (.one (.int .i64)))) (.cons (.sl (.one (.sl (.cons (.int .i64) (.one .bool))))) (.cons (.one (.sl (.cons (.int .i64) (.one .bool)))) (.cons (.sl (.cons (.int .i64) (.cons (.sl (.cons (.int .i64) (.one (.int .i64)))) (.cons (.sl (.one (.sl (.cons (.int .i64) (.one .bool))))) (.one (.one (.sl (.cons (.int .i64) (.one .bool))))))))) (.one (.sl (.cons (.sl (.cons (.int .i64) (.cons (.int .i64) (.cons (.int .i64) (.cons (.int .i64) (.one .bool)))))) (.one (.cons (.int .i64) (.cons (.int .i64) (.cons (.int .i64) (.cons (.sl (.int .i64)) (.cons (.sl (.int .i64)) (.one (.sl (.int .i64)))))))))))))))))))], []⟩, [⟨[(0, .own 54 (.cons (.int .i64) (.cons (.int .i64) (.one .bool))))], []⟩], fun x => fn_ref22_All x⟩
theorem ref22_All_is : SpecOk Tryz.prog sp_ref22_All := fn_is Tryz.func8 h_ref22_All (by kernel_rfl) (by kernel_rfl)
noncomputable def ok_ref22_All : OkSpec Tryz.prog := ⟨sp_ref22_All, ref22_All_is, Tryz.call8⟩
noncomputable def fn_ref27_At_l1 (xb : (Int × Int × Bool)) (l2100 : (List (Int × Int × Int × Int × Bool))) : ((List (Int × Int × (Int × Int × Int × Int × Bool))) × Int) → Option (((List (Int × Int × (Int × Int × Int × Int × Bool))) × Int) ⊕ (List (Int × Int × (Int × Int × Int × Int × Bool)))) := fun ((l2867, i2872) : ((List (Int × Int × (Int × Int × Int × Int × Bool))) × Int)) => cond (decide (i2872 < (((l2100.length : Nat) : Int)))) ((getI l2100 i2872).bind fun x3154 => (getI l2100 i2872).bind fun x3161 => (getI l2100 i2872).bind fun x3168 => (getI l2100 i2872).bind fun x3175 => (getI l2100 i2872).bind fun x3182 => (app l2867 (([(x3154.1, x3161.2.1, (xb.1, xb.2.1, x3168.2.2.1, x3175.2.2.2.1, x3182.2.2.2.2))] : List (Int × Int × (Int × Int × Int × Int × Bool))))).bind fun z3192 => some (.inl ((z3192, IntKind.wrap .i64 (i2872 + 1))))) (some (.inr (l2867)))
noncomputable def fn_ref27_At (xa : (Int × Int × (List (Int × Int)) × (List (List (Int × Bool))) × (List (Int × Bool)) × (List (Int × (List (Int × Int)) × (List (List (Int × Bool))) × (List (Int × Bool)))) × (List ((List (Int × Int × Int × Int × Bool)) × (Int × Int × Int × (List Int) × (List Int) × (List Int)))))) (xb : (Int × Int × Bool)) : Option ((List (Int × Int × (Int × Int × Int × Int × Bool)))) :=
  (getI xa.2.2.2.2.2.2 xb.1).bind fun x1978 => (cond (xb.2.2) ((fn_ref19_Needs (x1978.2.1, x1978.2.2.1, x1978.2.2.2.1, x1978.2.2.2.2.1, x1978.2.2.2.2.2.1, x1978.2.2.2.2.2.2) ((((xa.2.2.2.2.2.2.length : Nat) : Int), xa.2.1, xa.2.2.2.1, xa.2.2.2.2.1, xa.2.2.2.2.2.1))).bind fun (l2109, i2110) => some (l2109)) ((getI x1978.1 xb.2.1).bind fun x2178 => (fn_ref18_Needs (x2178.1, x2178.2.1, x2178.2.2.1, x2178.2.2.2.1, x2178.2.2.2.2) xa.2.2.2.1 xa.2.1).bind fun (l2189, i2190) => some (l2189)) : Option ((List (Int × Int × Int × Int × Bool)))).bind fun l2100 => (loop (fn_ref27_At_l1 xb l2100) ((([] : List (Int × Int × (Int × Int × Int × Int × Bool))), 0)) : Option ((List (Int × Int × (Int × Int × Int × Int × Bool))))).bind fun l2697 => some (l2697)
noncomputable def h_ref27_At : Hn Tryz.prog := .pl (.pl (.pl (.sq [] ⟨[(6, .own 91 (.cons (.int .i64) (.cons (.int .i64) (.cons (.int .i64) (.cons (.int .i64) (.one .bool))))))], []⟩ [] (.tw 18 (.cl ok_ref19_Needs [] (.nil)) (.mix [([0, 1, 2, 3, 4, 5, 6, 7, 8, 9], 10)] [11, 12, 13, 14] [] [] (.cl ok_ref18_Needs [] (.nil)))) (.jn [] ⟨[(8, .own 56 (.cons (.int .i64) (.cons (.int .i64) (.one (.cons (.int .i64) (.cons (.int .i64) (.cons (.int .i64) (.cons (.int .i64) (.one .bool))))))))), (52, .any)], []⟩ [11, 7, 4, 0] (.lp ⟨[(8, .own 56 (.cons (.int .i64) (.cons (.int .i64) (.one (.cons (.int .i64) (.cons (.int .i64) (.cons (.int .i64) (.cons (.int .i64) (.one .bool))))))))), (9, .dat (.int .i64))], []⟩ (.tw 56 (.mix [([0, 1, 2, 3, 4, 5, 6, 7, 8, 9, 10, 11, 12, 13, 14, 15, 16, 17, 18, 19, 20, 21, 22, 23, 24, 25, 26, 27, 28, 29, 30, 31], 32)] [] [33, 34] [] (.nil)) (.nil))) (.nil)))))
noncomputable def sp_ref27_At : Spec := ⟨15, ⟨[(0, .dat (.cons (.int .i64) (.cons (.int .i64) (.cons (.sl (.cons (.int .i64) (.one (.int .i64)))) (.cons (.sl (.one (.sl (.cons (.int .i64) (.one .bool))))) (.cons (.one (.sl (.cons (.int .i64) (.one .bool)))) (.cons (.sl (.cons (.int .i64) (.cons (.sl (.cons (.int .i64) (.one (.int .i64)))) (.cons (.sl (.one (.sl (.cons (.int .i64) (.one .bool))))) (.one (.one (.sl (.cons (.int .i64) (.one .bool))))))))) (.one (.sl (.cons (.sl (.cons (.int .i64) (.cons (.int .i64) (.cons (.int .i64) (.cons (.int .i64) (.one .bool)))))) (.one (.cons (.int .i64) (.cons (.int .i64) (.cons (.int .i64) (.cons (.sl (.int .i64)) (.cons (.sl (.int .i64)) (.one (.sl (.int .i64))))))))))))))))))), (1, .dat (.cons (.int .i64) (.cons (.int .i64) (.one .bool))))], []⟩, [⟨[(0, .own 56 (.cons (.int .i64) (.cons (.int .i64) (.one (.cons (.int .i64) (.cons (.int .i64) (.cons (.int .i64) (.cons (.int .i64) (.one .bool)))))))))], []⟩], fun x => fn_ref27_At x.1 x.2⟩
theorem ref27_At_is : SpecOk Tryz.prog sp_ref27_At := fn_is Tryz.func15 h_ref27_At (by kernel_rfl) (by kernel_rfl)
noncomputable def ok_ref27_At : OkSpec Tryz.prog := ⟨sp_ref27_At, ref27_At_is, Tryz.call15⟩
noncomputable def fn_ref27_Of_l1 (xa : (Int × Int × (List (Int × Int)) × (List (List (Int × Bool))) × (List (Int × Bool)) × (List (Int × (List (Int × Int)) × (List (List (Int × Bool))) × (List (Int × Bool)))) × (List ((List (Int × Int × Int × Int × Bool)) × (Int × Int × Int × (List Int) × (List Int) × (List Int)))))) (l835 : (List (Int × Int × Bool))) : ((List (Int × Int × (Int × Int × Int × Int × Bool))) × Int) → Option (((List (Int × Int × (Int × Int × Int × Int × Bool))) × Int) ⊕ (List (Int × Int × (Int × Int × Int × Int × Bool)))) := fun ((l1176, i1181) : ((List (Int × Int × (Int × Int × Int × Int × Bool))) × Int)) => cond (decide (i1181 < (((l835.length : Nat) : Int)))) ((getI l835 i1181).bind fun x1316 => (fn_ref27_At (xa.1, xa.2.1, xa.2.2.1, xa.2.2.2.1, xa.2.2.2.2.1, xa.2.2.2.2.2.1, xa.2.2.2.2.2.2) (x1316.1, x1316.2.1, x1316.2.2)).bind fun l1325 => (app l1176 l1325).bind fun z1333 => some (.inl ((z1333, IntKind.wrap .i64 (i1181 + 1))))) (some (.inr (l1176)))
noncomputable def fn_ref27_Of (xa : (Int × Int × (List (Int × Int)) × (List (List (Int × Bool))) × (List (Int × Bool)) × (List (Int × (List (Int × Int)) × (List (List (Int × Bool))) × (List (Int × Bool)))) × (List ((List (Int × Int × Int × Int × Bool)) × (Int × Int × Int × (List Int) × (List Int) × (List Int)))))) : Option ((List (Int × Int × (Int × Int × Int × Int × Bool)))) :=
  (fn_ref22_All (xa.1, xa.2.1, xa.2.2.1, xa.2.2.2.1, xa.2.2.2.2.1, xa.2.2.2.2.2.1, xa.2.2.2.2.2.2)).bind fun l835 => (loop (fn_ref27_Of_l1 xa l835) ((([] : List (Int × Int × (Int × Int × Int × Int × Bool))), 0)) : Option ((List (Int × Int × (Int × Int × Int × Int × Bool))))).bind fun l1090 => some (l1090)
noncomputable def h_ref27_Of : Hn Tryz.prog := .cl ok_ref22_All [] (.jn [] ⟨[(4, .own 56 (.cons (.int .i64) (.cons (.int .i64) (.one (.cons (.int .i64) (.cons (.int .i64) (.cons (.int .i64) (.cons (.int .i64) (.one .bool))))))))), (8, .any)], []⟩ [4] (.lp ⟨[(4, .own 56 (.cons (.int .i64) (.cons (.int .i64) (.one (.cons (.int .i64) (.cons (.int .i64) (.cons (.int .i64) (.cons (.int .i64) (.one .bool))))))))), (5, .dat (.int .i64))], []⟩ (.tw 12 (.mix [([0, 1, 2, 3, 4, 5], 6)] [] [7, 8] [] (.cl ok_ref27_At [] (.nil))) (.nil))) (.nil))
noncomputable def sp_ref27_Of : Spec := ⟨6, ⟨[(0, .dat (.cons (.int .i64) (.cons (.int .i64) (.cons (.sl (.cons (.int .i64) (.one (.int .i64)))) (.cons (.sl (.one (.sl (.cons (.int .i64) (.one .bool))))) (.cons (.one (.sl (.cons (.int .i64) (.one .bool)))) (.cons (.sl (.cons (.int .i64) (.cons (.sl (.cons (.int .i64) (.one (.int .i64)))) (.cons (.sl (.one (.sl (.cons (.int .i64) (.one .bool))))) (.one (.one (.sl (.cons (.int .i64) (.one .bool))))))))) (.one (.sl (.cons (.sl (.cons (.int .i64) (.cons (.int .i64) (.cons (.int .i64) (.cons (.int .i64) (.one .bool)))))) (.one (.cons (.int .i64) (.cons (.int .i64) (.cons (.int .i64) (.cons (.sl (.int .i64)) (.cons (.sl (.int .i64)) (.one (.sl (.int .i64)))))))))))))))))))], []⟩, [⟨[(0, .own 56 (.cons (.int .i64) (.cons (.int .i64) (.one (.cons (.int .i64) (.cons (.int .i64) (.cons (.int .i64) (.cons (.int .i64) (.one .bool)))))))))], []⟩], fun x => fn_ref27_Of x⟩
theorem ref27_Of_is : SpecOk Tryz.prog sp_ref27_Of := fn_is Tryz.func6 h_ref27_Of (by kernel_rfl) (by kernel_rfl)
noncomputable def ok_ref27_Of : OkSpec Tryz.prog := ⟨sp_ref27_Of, ref27_Of_is, Tryz.call6⟩
noncomputable def fn_ref31_Of_l1 (xb : (List (Int × Int))) (i366481 : Int) (i370794 : Int) : (Int × Int) → Option ((Int × Int) ⊕ Int) := fun ((i371497, i371498) : (Int × Int)) => cond (decide (i371498 < (((xb.length : Nat) : Int)))) ((getI xb i371498).bind fun x371595 => (cond (decide (x371595.1 = i366481)) ((getI xb i371498).bind fun x371616 => some (decide (x371616.2 = i370794))) (some (false))).bind fun t371614 => cond (t371614) (some (.inl ((1, IntKind.wrap .i64 (i371498 + 1))))) (some (.inl ((i371497, IntKind.wrap .i64 (i371498 + 1)))))) (some (.inr (i371497)))
noncomputable def fn_ref31_Of_l2 (xa : Int) (xb : (List (Int × Int))) (i366481 : Int) : ((List Int) × Int) → Option (((List Int) × Int) ⊕ (List Int)) := fun ((l370789, i370794) : ((List Int) × Int)) => cond (decide (i370794 < xa)) ((cond ((decide (i366481 = i370794)) || (decide (i366481 = 0))) (some (1)) (some (0)) : Option Int).bind fun i371231 => (loop (fn_ref31_Of_l1 xb i366481 i370794) (i371231, 0) : Option Int).bind fun i371432 => (app l370789 ([i371432] : List Int)).bind fun z371638 => some (.inl ((z371638, IntKind.wrap .i64 (i370794 + 1))))) (some (.inr (l370789)))
noncomputable def fn_ref31_Of_l3 (xa : Int) (xb : (List (Int × Int))) : ((List (List Int)) × Int) → Option (((List (List Int)) × Int) ⊕ (List (List Int))) := fun ((l366479, i366481) : ((List (List Int)) × Int)) => cond (decide (i366481 < xa)) ((loop (fn_ref31_Of_l2 xa xb i366481) ((([] : List Int), 0)) : Option (List Int)).bind fun l370357 => (app (l366479 : List (List Int)) (([l370357] : List (List Int)) : List (List Int))).bind fun z371648 => some (.inl ((z371648, IntKind.wrap .i64 (i366481 + 1))))) (some (.inr (l366479)))
noncomputable def fn_ref31_Of_l4 (xa : Int) (i549493 : Int) (i558409 : Int) : (Bool × Int × (List (List Int))) → Option ((Bool × Int × (List (List Int))) ⊕ (Bool × (List (List Int)))) := fun ((t559894, i559895, l559896) : (Bool × Int × (List (List Int)))) => cond (decide (i559895 < xa)) ((getI l559896 i549493).bind fun x560046 => (getI l559896 i549493).bind fun _ => (chkI i549493 i549493).bind fun _ => (getI x560046 i558409).bind fun x560105 => cond (decide (x560105 = 1)) ((getI (l559896.set i549493.toNat x560046) i558409).bind fun x560125 => (getI (l559896.set i549493.toNat x560046) i558409).bind fun _ => (chkI i558409 i558409).bind fun _ => (getI x560125 i559895).bind fun x560129 => cond (decide (x560129 = 1)) ((getI ((l559896.set i549493.toNat x560046).set i558409.toNat x560125) i549493).bind fun x560149 => (getI ((l559896.set i549493.toNat x560046).set i558409.toNat x560125) i549493).bind fun _ => (chkI i549493 i549493).bind fun _ => (getI x560149 i559895).bind fun x560153 => cond (decide (x560153 = 0)) ((getI (((l559896.set i549493.toNat x560046).set i558409.toNat x560125).set i549493.toNat x560149) i549493).bind fun x560161 => (getI (((l559896.set i549493.toNat x560046).set i558409.toNat x560125).set i549493.toNat x560149) i549493).bind fun _ => (chkI i549493 i549493).bind fun _ => (getI x560161 i559895).bind fun x560177 => (some (x560161.set i559895.toNat 1)).bind fun z560184 => some (.inl ((true, IntKind.wrap .i64 (i559895 + 1), (((l559896.set i549493.toNat x560046).set i558409.toNat x560125).set i549493.toNat x560149).set i549493.toNat z560184)))) (some (.inl ((t559894, IntKind.wrap .i64 (i559895 + 1), ((l559896.set i549493.toNat x560046).set i558409.toNat x560125).set i549493.toNat x560149))))) (some (.inl ((t559894, IntKind.wrap .i64 (i559895 + 1), (l559896.set i549493.toNat x560046).set i558409.toNat x560125))))) (some (.inl ((t559894, IntKind.wrap .i64 (i559895 + 1), l559896.set i549493.toNat x560046))))) (some (.inr (((t559894, l559896)))))
noncomputable def fn_ref31_Of_l5 (xa : Int) (i549493 : Int) : (Bool × Int × (List (List Int))) → Option ((Bool × Int × (List (List Int))) ⊕ (Bool × (List (List Int)))) := fun ((t558408, i558409, l558410) : (Bool × Int × (List (List Int)))) => cond (decide (i558409 < xa)) ((loop (fn_ref31_Of_l4 xa i549493 i558409) (t558408, 0, l558410) : Option ((Bool × (List (List Int))))).bind fun (t559745, l559746) => some (.inl ((t559745, IntKind.wrap .i64 (i558409 + 1), l559746)))) (some (.inr (((t558408, l558410)))))
noncomputable def fn_ref31_Of_l6 (xa : Int) : (Bool × Int × (List (List Int))) → Option ((Bool × Int × (List (List Int))) ⊕ (Bool × (List (List Int)))) := fun ((t549492, i549493, l549494) : (Bool × Int × (List (List Int)))) => cond (decide (i549493 < xa)) ((loop (fn_ref31_Of_l5 xa i549493) (t549492, 0, l549494) : Option ((Bool × (List (List Int))))).bind fun (t557516, l557517) => some (.inl ((t557516, IntKind.wrap .i64 (i549493 + 1), l557517)))) (some (.inr (((t549492, l549494)))))
noncomputable def fn_ref31_Of_l7 (xa : Int) : (Bool × (List (List Int))) → Option ((Bool × (List (List Int))) ⊕ (List (List Int))) := fun ((t497342, l497343) : (Bool × (List (List Int)))) => cond (t497342) ((loop (fn_ref31_Of_l6 xa) (false, 0, l497343) : Option ((Bool × (List (List Int))))).bind fun (t544478, l544479) => some (.inl (t544478, l544479))) (some (.inr (l497343)))
noncomputable def fn_ref31_Of (xa : Int) (xb : (List (Int × Int))) : Option ((List (List Int))) :=
  cond ((decide (xa < 0)) || (decide (65536 < xa))) (some (([] : List (List Int)))) ((loop (fn_ref31_Of_l3 xa xb) ((([] : List (List Int)), 0)) : Option ((List (List Int)))).bind fun l363892 => (loop (fn_ref31_Of_l7 xa) (true, l363892) : Option ((List (List Int)))).bind fun l465919 => some (l465919))
noncomputable def h_ref31_Of : Hn Tryz.prog := .ot (.row 3 (.dat (.int .i64))) (.gp 2 (.tw 21 (.nil) (.jn [] ⟨[(5, .od (.row 44 (.row 3 (.dat (.int .i64)))))], []⟩ [0] (.lp ⟨[(5, .od (.row 44 (.row 3 (.dat (.int .i64))))), (6, .dat (.int .i64))], []⟩ (.tw 25 (.pl (.pl (.jn [] ⟨[(7, .own 3 (.int .i64)), (28, .any)], []⟩ [4] (.lp ⟨[(7, .own 3 (.int .i64)), (8, .dat (.int .i64))], []⟩ (.tw 31 (.pl (.pl (.sq [] ⟨[(9, .dat (.int .i64))], []⟩ [] (.gp 2 (.tw 40 (.nil) (.nil))) (.jn [] ⟨[(9, .dat (.int .i64))], []⟩ [] (.lp ⟨[(9, .dat (.int .i64)), (10, .dat (.int .i64))], []⟩ (.tw 44 (.gj 7 ⟨[(62, .dat .bool)], []⟩ [] (.two 54 (.nil) (.nil)) (.tw 62 (.nil) (.nil))) (.nil))) (.nil))))) (.nil))) (.ot (.row 3 (.dat (.int .i64))) (.ot (.row 3 (.dat (.int .i64))) (.nil)))))) (.nil))) (.jn [] ⟨[], [⟨(some 2), 0, [], false, false, some (.row 44 (.row 3 (.dat (.int .i64)))), false⟩]⟩ [2] (.lp ⟨[(11, .dat .bool)], [⟨(some 2), 0, [], false, false, some (.row 44 (.row 3 (.dat (.int .i64)))), false⟩]⟩ (.tw 71 (.pl (.jn [] ⟨[(11, .dat .bool)], [⟨(some 2), 0, [], false, false, some (.row 44 (.row 3 (.dat (.int .i64)))), false⟩]⟩ [2] (.lp ⟨[(11, .dat .bool), (12, .dat (.int .i64))], [⟨(some 2), 0, [], false, false, some (.row 44 (.row 3 (.dat (.int .i64)))), false⟩]⟩ (.tw 74 (.pl (.pl (.jn [] ⟨[(11, .dat .bool)], [⟨(some 2), 0, [], false, false, some (.row 44 (.row 3 (.dat (.int .i64)))), false⟩]⟩ [2] (.lp ⟨[(11, .dat .bool), (13, .dat (.int .i64))], [⟨(some 2), 0, [], false, false, some (.row 44 (.row 3 (.dat (.int .i64)))), false⟩]⟩ (.tw 79 (.pl (.pl (.jn [] ⟨[(11, .dat .bool)], [⟨(some 2), 0, [], false, false, some (.row 44 (.row 3 (.dat (.int .i64)))), false⟩]⟩ [2] (.lp ⟨[(11, .dat .bool), (14, .dat (.int .i64))], [⟨(some 2), 0, [], false, false, some (.row 44 (.row 3 (.dat (.int .i64)))), false⟩]⟩ (.tw 84 (.opn 2 88 (.two 95 (.wt 97 (.cls 2 8 (.opn 2 97 (.two 105 (.wt 107 (.cls 2 12 (.opn 2 107 (.wt 114 (.wt 1000019 (.cls 2 16 (.tw 114 (.opn 2 116 (.wt 120 (.wt 1000024 (.cls 2 20 (.nil))))) (.nil)))))))) (.cls 2 12 (.nil)))))) (.cls 2 8 (.nil)))) (.nil))) (.nil)))) (.nil))) (.nil)))) (.nil))) (.nil))) (.nil))) (.nil)))))
noncomputable def sp_ref31_Of : Spec := ⟨21, ⟨[(0, .dat (.int .i64)), (1, .dat (.sl (.cons (.int .i64) (.one (.int .i64)))))], []⟩, [⟨[(0, .od (.row 44 (.row 3 (.dat (.int .i64)))))], []⟩], fun x => fn_ref31_Of x.1 x.2⟩
theorem ref31_Of_is : SpecOk Tryz.prog sp_ref31_Of := fn_is Tryz.func21 h_ref31_Of (by kernel_rfl) (by kernel_rfl)
noncomputable def ok_ref31_Of : OkSpec Tryz.prog := ⟨sp_ref31_Of, ref31_Of_is, Tryz.call21⟩
noncomputable def fn_ref27_Arcs_l1 (xa : (List (Int × Int × (Int × Int × Int × Int × Bool)))) : ((List (Int × Int)) × Int) → Option (((List (Int × Int)) × Int) ⊕ (List (Int × Int))) := fun ((l1378, i1383) : ((List (Int × Int)) × Int)) => cond (decide (i1383 < (((xa.length : Nat) : Int)))) ((getI xa i1383).bind fun x1546 => (getI xa i1383).bind fun x1555 => (app l1378 (([(x1546.1, x1555.2.1)] : List (Int × Int)))).bind fun z1567 => some (.inl ((z1567, IntKind.wrap .i64 (i1383 + 1))))) (some (.inr (l1378)))
noncomputable def fn_ref27_Arcs (xa : (List (Int × Int × (Int × Int × Int × Int × Bool)))) : Option ((List (Int × Int))) :=
  (loop (fn_ref27_Arcs_l1 xa) ((([] : List (Int × Int)), 0)) : Option ((List (Int × Int)))).bind fun l1276 => some (l1276)
noncomputable def h_ref27_Arcs : Hn Tryz.prog := .jn [] ⟨[(3, .own 124 (.cons (.int .i64) (.one (.int .i64)))), (5, .any)], []⟩ [0] (.lp ⟨[(3, .own 124 (.cons (.int .i64) (.one (.int .i64)))), (4, .dat (.int .i64))], []⟩ (.tw 9 (.mix [([0, 1, 2, 3, 4, 5, 6, 7, 8, 9, 10, 11], 12)] [] [13, 14] [] (.nil)) (.nil))) (.nil)
noncomputable def sp_ref27_Arcs : Spec := ⟨33, ⟨[(0, .dat (.sl (.cons (.int .i64) (.cons (.int .i64) (.one (.cons (.int .i64) (.cons (.int .i64) (.cons (.int .i64) (.cons (.int .i64) (.one .bool))))))))))], []⟩, [⟨[(0, .own 124 (.cons (.int .i64) (.one (.int .i64))))], []⟩], fun x => fn_ref27_Arcs x⟩
theorem ref27_Arcs_is : SpecOk Tryz.prog sp_ref27_Arcs := fn_is Tryz.func33 h_ref27_Arcs (by kernel_rfl) (by kernel_rfl)
noncomputable def ok_ref27_Arcs : OkSpec Tryz.prog := ⟨sp_ref27_Arcs, ref27_Arcs_is, Tryz.call33⟩
noncomputable def fn_ref10_Check_l1 (xa : Int) (xb : (List (Int × Int))) : Int → Option (Int ⊕ (Unit ⊕ Int)) := fun (i765 : Int) => cond (decide (i765 < (((xb.length : Nat) : Int)))) ((getI xb i765).bind fun x843 => (cond (decide (x843.1 < 0)) (some (true)) ((getI xb i765).bind fun x864 => some (decide (xa ≤ x864.1)))).bind fun t862 => (cond (t862) (some (true)) ((getI xb i765).bind fun x885 => some (decide (x885.2 < 0)))).bind fun t883 => (cond (t883) (some (true)) ((getI xb i765).bind fun x906 => some (decide (xa ≤ x906.2)))).bind fun t904 => cond (t904) (some (.inr ((.inr (7))))) (some (.inl (IntKind.wrap .i64 (i765 + 1))))) (some (.inr ((.inl ()))))
noncomputable def fn_ref10_Check (xa : Int) (xb : (List (Int × Int))) : Option Int :=
  cond (decide (xa < 0)) (some (2)) (cond ((decide (1048576 < xa)) || (decide (67108864 < (((xb.length : Nat) : Int))))) (some (5)) ((loop (fn_ref10_Check_l1 xa xb) 0 : Option (Unit ⊕ Int)).bind fun o => match o with | .inr r => some r | .inl () => some (0)))
noncomputable def h_ref10_Check : Hn Tryz.prog := .tw 7 (.nil) (.gp 3 (.tw 14 (.nil) (.jx [] ⟨[], []⟩ [] (.lp ⟨[(5, .dat (.int .i64))], []⟩ (.tw 18 (.gj 7 ⟨[(35, .dat .bool)], []⟩ [] (.two 27 (.nil) (.nil)) (.wt 36 (.gj 6 ⟨[(43, .dat .bool)], []⟩ [] (.two 36 (.nil) (.nil)) (.wt 44 (.gj 7 ⟨[(52, .dat .bool)], []⟩ [] (.two 44 (.nil) (.nil)) (.tw 52 (.nil) (.nil))))))) (.nil))) (.nil))))
noncomputable def sp_ref10_Check : Spec := ⟨34, ⟨[(0, .dat (.int .i64)), (1, .dat (.sl (.cons (.int .i64) (.one (.int .i64)))))], []⟩, [⟨[(0, .dat (.int .i64))], []⟩], fun x => fn_ref10_Check x.1 x.2⟩
theorem ref10_Check_is : SpecOk Tryz.prog sp_ref10_Check := fn_is Tryz.func34 h_ref10_Check (by kernel_rfl) (by kernel_rfl)
noncomputable def ok_ref10_Check : OkSpec Tryz.prog := ⟨sp_ref10_Check, ref10_Check_is, Tryz.call34⟩
noncomputable def fn_ref10_Reach_l1 (xb : (List (Int × Int))) : ((List Int) × Bool × Int) → Option (((List Int) × Bool × Int) ⊕ ((List Int) × Bool)) := fun ((l8214, t8219, i8220) : ((List Int) × Bool × Int)) => cond (decide (i8220 < (((xb.length : Nat) : Int)))) ((getI xb i8220).bind fun x8304 => (getI l8214 x8304.1).bind fun x8313 => (cond (decide (x8313 = 1)) ((getI xb i8220).bind fun x8339 => (getI l8214 x8339.2).bind fun x8348 => some (decide (x8348 = 0))) (some (false))).bind fun t8337 => cond (t8337) ((getI xb i8220).bind fun x8356 => (getI l8214 x8356.2).bind fun x8365 => (some (l8214.set x8356.2.toNat 1)).bind fun z8372 => some (.inl ((z8372, true, IntKind.wrap .i64 (i8220 + 1))))) (some (.inl ((l8214, t8219, IntKind.wrap .i64 (i8220 + 1)))))) (some (.inr (((l8214, t8219)))))
noncomputable def fn_ref10_Reach_l2 (xb : (List (Int × Int))) : ((List Int) × Bool) → Option (((List Int) × Bool) ⊕ (List Int)) := fun ((l7374, t7379) : ((List Int) × Bool)) => cond (t7379) ((loop (fn_ref10_Reach_l1 xb) (l7374, false, 0) : Option (((List Int) × Bool))).bind fun (l8127, t8132) => some (.inl (l8127, t8132))) (some (.inr (l7374)))
noncomputable def fn_ref10_Reach (xa : Int) (xb : (List (Int × Int))) (xc : Int) : Option (List Int) :=
  (mk xa xa 0 : Option (List Int)).bind fun z5349 => (getI z5349 xc).bind fun x5354 => (some (z5349.set xc.toNat 1)).bind fun z5361 => (loop (fn_ref10_Reach_l2 xb) (z5361, true) : Option (List Int)).bind fun l6869 => some (l6869)
noncomputable def h_ref10_Reach : Hn Tryz.prog := .jn [] ⟨[(7, .own 3 (.int .i64)), (11, .any), (12, .any)], []⟩ [0] (.lp ⟨[(7, .own 3 (.int .i64)), (8, .dat .bool)], []⟩ (.tw 15 (.pl (.jn [] ⟨[(7, .own 3 (.int .i64)), (8, .dat .bool)], []⟩ [3] (.lp ⟨[(7, .own 3 (.int .i64)), (8, .dat .bool), (9, .dat (.int .i64))], []⟩ (.tw 19 (.gj 9 ⟨[(41, .dat .bool)], []⟩ [] (.two 31 (.nil) (.nil)) (.tw 41 (.nil) (.nil))) (.nil))) (.nil))) (.nil))) (.nil)
noncomputable def sp_ref10_Reach : Spec := ⟨35, ⟨[(0, .dat (.int .i64)), (1, .dat (.sl (.cons (.int .i64) (.one (.int .i64))))), (2, .dat (.int .i64))], []⟩, [⟨[(0, .own 3 (.int .i64))], []⟩], fun x => fn_ref10_Reach x.1 x.2.1 x.2.2⟩
theorem ref10_Reach_is : SpecOk Tryz.prog sp_ref10_Reach := fn_is Tryz.func35 h_ref10_Reach (by kernel_rfl) (by kernel_rfl)
noncomputable def ok_ref10_Reach : OkSpec Tryz.prog := ⟨sp_ref10_Reach, ref10_Reach_is, Tryz.call35⟩
noncomputable def fn_ref30_Outlives_l1 (xa : (Int × Int × (List (Int × Int)) × (List (List (Int × Bool))) × (List (Int × Bool)) × (List (Int × (List (Int × Int)) × (List (List (Int × Bool))) × (List (Int × Bool)))) × (List ((List (Int × Int × Int × Int × Bool)) × (Int × Int × Int × (List Int) × (List Int) × (List Int)))))) (i4699 : Int) (l4956 : (List Int)) : ((List (Int × Int)) × Int) → Option (((List (Int × Int)) × Int) ⊕ (List (Int × Int))) := fun ((l5118, i5123) : ((List (Int × Int)) × Int)) => cond ((decide (i5123 < xa.1)) && (decide (i5123 < xa.2.1))) ((cond (!decide (i5123 = i4699)) ((getI l4956 i5123).bind fun x5176 => some (decide (x5176 = 1))) (some (false))).bind fun t5174 => cond (t5174) ((app l5118 (([(i4699, i5123)] : List (Int × Int)))).bind fun z5187 => some (.inl ((z5187, IntKind.wrap .i64 (i5123 + 1))))) (some (.inl ((l5118, IntKind.wrap .i64 (i5123 + 1)))))) (some (.inr (l5118)))
noncomputable def fn_ref30_Outlives_l2 (xa : (Int × Int × (List (Int × Int)) × (List (List (Int × Bool))) × (List (Int × Bool)) × (List (Int × (List (Int × Int)) × (List (List (Int × Bool))) × (List (Int × Bool)))) × (List ((List (Int × Int × Int × Int × Bool)) × (Int × Int × Int × (List Int) × (List Int) × (List Int)))))) (l3671 : (List (Int × Int))) : ((List (Int × Int)) × Int) → Option (((List (Int × Int)) × Int) ⊕ (List (Int × Int))) := fun ((l4694, i4699) : ((List (Int × Int)) × Int)) => cond ((decide (i4699 < xa.1)) && (decide (i4699 < xa.2.1))) ((fn_ref10_Reach xa.2.1 l3671 i4699).bind fun l4956 => (loop (fn_ref30_Outlives_l1 xa i4699 l4956) (l4694, 0) : Option ((List (Int × Int)))).bind fun l5076 => some (.inl ((l5076, IntKind.wrap .i64 (i4699 + 1))))) (some (.inr (l4694)))
noncomputable def fn_ref30_Outlives (xa : (Int × Int × (List (Int × Int)) × (List (List (Int × Bool))) × (List (Int × Bool)) × (List (Int × (List (Int × Int)) × (List (List (Int × Bool))) × (List (Int × Bool)))) × (List ((List (Int × Int × Int × Int × Bool)) × (Int × Int × Int × (List Int) × (List Int) × (List Int)))))) (xb : (List (Int × Int × (Int × Int × Int × Int × Bool)))) : Option ((List (Int × Int))) :=
  (fn_ref27_Arcs xb).bind fun l3671 => (fn_ref10_Check xa.2.1 l3671).bind fun i3684 => cond (!decide (i3684 = 0)) (some (([] : List (Int × Int)))) ((loop (fn_ref30_Outlives_l2 xa l3671) ((([] : List (Int × Int)), 0)) : Option ((List (Int × Int)))).bind fun l4440 => some (l4440))
noncomputable def h_ref30_Outlives : Hn Tryz.prog := .cl ok_ref27_Arcs [] (.cl ok_ref10_Check [4] (.tw 17 (.nil) (.per 4 5 (.jn [] ⟨[(5, .own 67 (.cons (.int .i64) (.one (.int .i64)))), (10, .any)], []⟩ [2] (.lp ⟨[(5, .own 67 (.cons (.int .i64) (.one (.int .i64)))), (7, .dat (.int .i64))], []⟩ (.gp 4 (.tw 28 (.cl ok_ref10_Reach [] (.jn [] ⟨[(5, .own 67 (.cons (.int .i64) (.one (.int .i64))))], []⟩ [6] (.lp ⟨[(5, .own 67 (.cons (.int .i64) (.one (.int .i64)))), (9, .dat (.int .i64))], []⟩ (.gp 4 (.tw 45 (.gj 5 ⟨[(57, .dat .bool)], []⟩ [] (.two 51 (.nil) (.nil)) (.tw 57 (.nil) (.nil))) (.nil)))) (.nil))) (.nil)))) (.nil)))))
noncomputable def sp_ref30_Outlives : Spec := ⟨22, ⟨[(0, .dat (.cons (.int .i64) (.cons (.int .i64) (.cons (.sl (.cons (.int .i64) (.one (.int .i64)))) (.cons (.sl (.one (.sl (.cons (.int .i64) (.one .bool))))) (.cons (.one (.sl (.cons (.int .i64) (.one .bool)))) (.cons (.sl (.cons (.int .i64) (.cons (.sl (.cons (.int .i64) (.one (.int .i64)))) (.cons (.sl (.one (.sl (.cons (.int .i64) (.one .bool))))) (.one (.one (.sl (.cons (.int .i64) (.one .bool))))))))) (.one (.sl (.cons (.sl (.cons (.int .i64) (.cons (.int .i64) (.cons (.int .i64) (.cons (.int .i64) (.one .bool)))))) (.one (.cons (.int .i64) (.cons (.int .i64) (.cons (.int .i64) (.cons (.sl (.int .i64)) (.cons (.sl (.int .i64)) (.one (.sl (.int .i64))))))))))))))))))), (1, .dat (.sl (.cons (.int .i64) (.cons (.int .i64) (.one (.cons (.int .i64) (.cons (.int .i64) (.cons (.int .i64) (.cons (.int .i64) (.one .bool))))))))))], []⟩, [⟨[(0, .own 67 (.cons (.int .i64) (.one (.int .i64))))], []⟩], fun x => fn_ref30_Outlives x.1 x.2⟩
theorem ref30_Outlives_is : SpecOk Tryz.prog sp_ref30_Outlives := fn_is Tryz.func22 h_ref30_Outlives (by kernel_rfl) (by kernel_rfl)
noncomputable def ok_ref30_Outlives : OkSpec Tryz.prog := ⟨sp_ref30_Outlives, ref30_Outlives_is, Tryz.call22⟩

noncomputable def fn_ref31_Has (xa : (List (List Int))) (xb : Int) (xc : Int) : Option Bool :=
  (cond ((((decide (0 ≤ xb)) && (decide (xb < (((xa.length : Nat) : Int))))) && (decide (0 ≤ xc))) && (decide (xc < (((xa.length : Nat) : Int))))) ((getI xa xb).bind fun x86 => (getI x86 xc).bind fun x99 => some (decide (x99 = 1))) (some (false))).bind fun t84 => some (t84)
noncomputable def h_ref31_Has : Hn Tryz.prog := .gp 4 (.wt 15 (.gp 2 (.wt 19 (.gp 4 (.wt 25 (.gj 8 ⟨[(34, .dat .bool)], []⟩ [] (.two 25 (.nil) (.nil)) (.nil)))))))
noncomputable def sp_ref31_Has : Spec := ⟨23, ⟨[(0, .dat (.sl (.sl (.int .i64)))), (1, .dat (.int .i64)), (2, .dat (.int .i64))], []⟩, [⟨[(0, .dat .bool)], []⟩], fun x => fn_ref31_Has x.1 x.2.1 x.2.2⟩
theorem ref31_Has_is : SpecOk Tryz.prog sp_ref31_Has := fn_is Tryz.func23 h_ref31_Has (by kernel_rfl) (by kernel_rfl)
noncomputable def ok_ref31_Has : OkSpec Tryz.prog := ⟨sp_ref31_Has, ref31_Has_is, Tryz.call23⟩
noncomputable def fn_ref32_Missing_l1 (l1350 : (List (List Int))) (l1423 : (List (Int × Int))) : ((List (Int × Int)) × Int) → Option (((List (Int × Int)) × Int) ⊕ (List (Int × Int))) := fun ((l1785, i1790) : ((List (Int × Int)) × Int)) => cond (decide (i1790 < (((l1423.length : Nat) : Int)))) ((getI l1423 i1790).bind fun x1921 => (getI l1423 i1790).bind fun x1928 => (fn_ref31_Has l1350 x1921.1 x1928.2).bind fun t1937 => cond (!t1937) ((getI l1423 i1790).bind fun x1942 => (app l1785 (([(x1942.1, x1942.2)] : List (Int × Int)))).bind fun z1952 => some (.inl ((z1952, IntKind.wrap .i64 (i1790 + 1))))) (some (.inl ((l1785, IntKind.wrap .i64 (i1790 + 1)))))) (some (.inr (l1785)))
noncomputable def fn_ref32_Missing (xa : (Int × Int × (List (Int × Int)) × (List (List (Int × Bool))) × (List (Int × Bool)) × (List (Int × (List (Int × Int)) × (List (List (Int × Bool))) × (List (Int × Bool)))) × (List ((List (Int × Int × Int × Int × Bool)) × (Int × Int × Int × (List Int) × (List Int) × (List Int)))))) : Option ((List (Int × Int))) :=
  (fn_ref21_OK (xa.1, xa.2.1, xa.2.2.1, xa.2.2.2.1, xa.2.2.2.2.1, xa.2.2.2.2.2.1, xa.2.2.2.2.2.2)).bind fun t1343 => cond (!t1343) (some (([] : List (Int × Int)))) ((fn_ref31_Of xa.1 xa.2.2.1).bind fun l1350 => (fn_ref27_Of (xa.1, xa.2.1, xa.2.2.1, xa.2.2.2.1, xa.2.2.2.2.1, xa.2.2.2.2.2.1, xa.2.2.2.2.2.2)).bind fun l1410 => (fn_ref30_Outlives (xa.1, xa.2.1, xa.2.2.1, xa.2.2.2.1, xa.2.2.2.2.1, xa.2.2.2.2.2.1, xa.2.2.2.2.2.2) l1410).bind fun l1423 => (loop (fn_ref32_Missing_l1 l1350 l1423) ((([] : List (Int × Int)), 0)) : Option ((List (Int × Int)))).bind fun l1694 => some (l1694))
noncomputable def h_ref32_Missing : Hn Tryz.prog := .cl ok_ref21_OK [] (.tw 10 (.nil) (.cl ok_ref31_Of [] (.mix [([0, 1], 2)] [] [3, 4] [] (.cl ok_ref27_Of [] (.per 6 7 (.cl ok_ref30_Outlives [] (.per 4 5 (.jn [] ⟨[(3, .own 67 (.cons (.int .i64) (.one (.int .i64)))), (7, .any)], []⟩ [2, 0] (.lp ⟨[(3, .own 67 (.cons (.int .i64) (.one (.int .i64)))), (6, .dat (.int .i64))], []⟩ (.tw 24 (.mix [] [0, 1, 2, 3, 4, 5, 6, 7, 8, 9, 10] [11, 12] [] (.cl ok_ref31_Has [] (.tw 39 (.nil) (.nil)))) (.nil))) (.nil)))))))))
noncomputable def sp_ref32_Missing : Spec := ⟨7, ⟨[(0, .dat (.cons (.int .i64) (.cons (.int .i64) (.cons (.sl (.cons (.int .i64) (.one (.int .i64)))) (.cons (.sl (.one (.sl (.cons (.int .i64) (.one .bool))))) (.cons (.one (.sl (.cons (.int .i64) (.one .bool)))) (.cons (.sl (.cons (.int .i64) (.cons (.sl (.cons (.int .i64) (.one (.int .i64)))) (.cons (.sl (.one (.sl (.cons (.int .i64) (.one .bool))))) (.one (.one (.sl (.cons (.int .i64) (.one .bool))))))))) (.one (.sl (.cons (.sl (.cons (.int .i64) (.cons (.int .i64) (.cons (.int .i64) (.cons (.int .i64) (.one .bool)))))) (.one (.cons (.int .i64) (.cons (.int .i64) (.cons (.int .i64) (.cons (.sl (.int .i64)) (.cons (.sl (.int .i64)) (.one (.sl (.int .i64)))))))))))))))))))], []⟩, [⟨[(0, .own 67 (.cons (.int .i64) (.one (.int .i64))))], []⟩], fun x => fn_ref32_Missing x⟩
theorem ref32_Missing_is : SpecOk Tryz.prog sp_ref32_Missing := fn_is Tryz.func7 h_ref32_Missing (by kernel_rfl) (by kernel_rfl)
noncomputable def ok_ref32_Missing : OkSpec Tryz.prog := ⟨sp_ref32_Missing, ref32_Missing_is, Tryz.call7⟩
noncomputable def fn_blame_Bounds_l1 (xa : (List (Int × Int × (List Int)))) : ((List (Int × Int)) × Int) → Option (((List (Int × Int)) × Int) ⊕ (List (Int × Int))) := fun ((l331, i336) : ((List (Int × Int)) × Int)) => cond (decide (i336 < (((xa.length : Nat) : Int)))) ((getI xa i336).bind fun x370 => (app l331 (([(x370.1, x370.2.1)] : List (Int × Int)))).bind fun z387 => some (.inl ((z387, IntKind.wrap .i64 (i336 + 1))))) (some (.inr (l331)))
noncomputable def fn_blame_Bounds (xa : (List (Int × Int × (List Int)))) : Option ((List (Int × Int))) :=
  (loop (fn_blame_Bounds_l1 xa) ([], 0) : Option ((List (Int × Int)))).bind fun l294 => some (l294)
noncomputable def h_blame_Bounds : Hn Tryz.prog := .jn [] ⟨[(3, .own 67 (.cons (.int .i64) (.one (.int .i64))))], []⟩ [] (.lp ⟨[(3, .own 67 (.cons (.int .i64) (.one (.int .i64)))), (8, .dat (.int .i64))], []⟩ (.tw 9 (.nil) (.nil))) (.nil)
noncomputable def sp_blame_Bounds : Spec := ⟨11, ⟨[(0, .dat (.sl (.cons (.int .i64) (.cons (.int .i64) (.one (.sl (.int .i64)))))))], []⟩, [⟨[(0, .own 67 (.cons (.int .i64) (.one (.int .i64))))], []⟩], fun x => fn_blame_Bounds x⟩
theorem blame_Bounds_is : SpecOk Tryz.prog sp_blame_Bounds := fn_is Tryz.func11 h_blame_Bounds (by kernel_rfl) (by kernel_rfl)
noncomputable def ok_blame_Bounds : OkSpec Tryz.prog := ⟨sp_blame_Bounds, blame_Bounds_is, Tryz.call11⟩
noncomputable def fn_ref17_Bounds_l1 (xa : (List (Int × Int))) (xb : (List (Int × Int))) : Int → Option (Int ⊕ (Unit ⊕ Bool)) := fun (i757 : Int) => cond (decide (i757 < (((xa.length : Nat) : Int)))) ((getI xa i757).bind fun x889 => (getI xb i757).bind fun x898 => cond (!((decide (x889.1 = x898.1)) && ((decide (x889.2 = x898.2))))) (some (.inr ((.inr (false))))) (some (.inl (IntKind.wrap .i64 (i757 + 1))))) (some (.inr ((.inl ()))))
noncomputable def fn_ref17_Bounds (xa : (List (Int × Int))) (xb : (List (Int × Int))) : Option Bool :=
  cond (!decide ((((xa.length : Nat) : Int)) = (((xb.length : Nat) : Int)))) (some (false)) ((loop (fn_ref17_Bounds_l1 xa xb) 0 : Option (Unit ⊕ Bool)).bind fun o => match o with | .inr r => some r | .inl () => some (true))
noncomputable def h_ref17_Bounds : Hn Tryz.prog := .tw 10 (.nil) (.jx [] ⟨[], []⟩ [] (.lp ⟨[(5, .dat (.int .i64))], []⟩ (.tw 14 (.mix [] [0, 1, 2, 3, 4, 5, 6, 7, 8] [] [] (.tw 25 (.nil) (.nil))) (.nil))) (.nil))
noncomputable def sp_ref17_Bounds : Spec := ⟨10, ⟨[(0, .dat (.sl (.cons (.int .i64) (.one (.int .i64))))), (1, .dat (.sl (.cons (.int .i64) (.one (.int .i64)))))], []⟩, [⟨[(0, .dat .bool)], []⟩], fun x => fn_ref17_Bounds x.1 x.2⟩
theorem ref17_Bounds_is : SpecOk Tryz.prog sp_ref17_Bounds := fn_is Tryz.func10 h_ref17_Bounds (by kernel_rfl) (by kernel_rfl)
noncomputable def ok_ref17_Bounds : OkSpec Tryz.prog := ⟨sp_ref17_Bounds, ref17_Bounds_is, Tryz.call10⟩
noncomputable def fn_blame_Places_l1 (xa : (List (Int × Int × (Int × Int × Int × Int × Bool)))) (xb : (Int × Int × (List Int))) : ((List (Int × Int × Int × Int × Bool)) × Int) → Option (((List (Int × Int × Int × Int × Bool)) × Int) ⊕ ((List (Int × Int × Int × Int × Bool)) ⊕ (List (Int × Int × Int × Int × Bool)))) := fun ((l412, i417) : ((List (Int × Int × Int × Int × Bool)) × Int)) => cond (decide (i417 < (((xb.2.2.length : Nat) : Int)))) ((getI xb.2.2 i417).bind fun x459 => cond ((decide (x459 < 0)) || (decide ((((xa.length : Nat) : Int)) ≤ x459))) (some (.inr ((.inr ([]))))) ((getI xa x459).bind fun x473 => (app l412 (([(x473.2.2.1, x473.2.2.2.1, x473.2.2.2.2.1, x473.2.2.2.2.2.1, x473.2.2.2.2.2.2)] : List (Int × Int × Int × Int × Bool)))).bind fun z485 => some (.inl ((z485, IntKind.wrap .i64 (i417 + 1)))))) (some (.inr (.inl l412)))
noncomputable def fn_blame_Places (xa : (List (Int × Int × (Int × Int × Int × Int × Bool)))) (xb : (Int × Int × (List Int))) : Option ((List (Int × Int × Int × Int × Bool))) :=
  (loop (fn_blame_Places_l1 xa xb) ([], 0) : Option ((List (Int × Int × Int × Int × Bool)) ⊕ (List (Int × Int × Int × Int × Bool)))).bind fun o => match o with | .inr r => some r | .inl l367 => some (l367)
noncomputable def h_blame_Places : Hn Tryz.prog := .jx [] ⟨[(5, .own 51 (.cons (.int .i64) (.cons (.int .i64) (.cons (.int .i64) (.cons (.int .i64) (.one .bool))))))], []⟩ [0] (.lp ⟨[(5, .own 51 (.cons (.int .i64) (.cons (.int .i64) (.cons (.int .i64) (.cons (.int .i64) (.one .bool)))))), (11, .dat (.int .i64))], []⟩ (.tw 12 (.gp 4 (.tw 22 (.nil) (.nil))) (.nil))) (.nil)
noncomputable def sp_blame_Places : Spec := ⟨12, ⟨[(0, .dat (.sl (.cons (.int .i64) (.cons (.int .i64) (.one (.cons (.int .i64) (.cons (.int .i64) (.cons (.int .i64) (.cons (.int .i64) (.one .bool)))))))))), (1, .dat (.cons (.int .i64) (.cons (.int .i64) (.one (.sl (.int .i64))))))], []⟩, [⟨[(0, .own 51 (.cons (.int .i64) (.cons (.int .i64) (.cons (.int .i64) (.cons (.int .i64) (.one .bool))))))], []⟩], fun x => fn_blame_Places x.1 x.2⟩
theorem blame_Places_is : SpecOk Tryz.prog sp_blame_Places := fn_is Tryz.func12 h_blame_Places (by kernel_rfl) (by kernel_rfl)
noncomputable def ok_blame_Places : OkSpec Tryz.prog := ⟨sp_blame_Places, blame_Places_is, Tryz.call12⟩
noncomputable def fn_path_Walk_l1 (xa : (Option (Int × (List (Int × Int)) × ((List Int) × (List Int)) × ((List Int) × (List Int))))) (xc : (List Int)) : (Int × Int) → Option ((Int × Int) ⊕ (Int ⊕ (Int × Bool))) := fun ((i290, i291) : (Int × Int)) => cond (decide (i291 < (((xc.length : Nat) : Int)))) ((getI xc i291).bind fun x319 => (fn_graph_Graph_Arc xa x319).bind fun (i330, i331, t332) => cond ((!t332) || (!decide (i330 = i290))) (some (.inr ((.inr ((0, false)))))) (some (.inl ((i331, IntKind.wrap .i64 (i291 + 1)))))) (some (.inr (.inl i290)))
noncomputable def fn_path_Walk (xa : (Option (Int × (List (Int × Int)) × ((List Int) × (List Int)) × ((List Int) × (List Int))))) (xb : Int) (xc : (List Int)) : Option (Int × Bool) :=
  (cond (decide (xb < 0)) (some (true)) ((fn_graph_Graph_Nodes xa).bind fun i183 => some (decide (i183 ≤ xb)))).bind fun t179 => cond (t179) (some ((0, false))) ((loop (fn_path_Walk_l1 xa xc) (xb, 0) : Option (Int ⊕ (Int × Bool))).bind fun o => match o with | .inr r => some r | .inl i264 => some ((i264, true)))
noncomputable def h_path_Walk : Hn Tryz.prog := .gj 4 ⟨[(19, .dat .bool)], []⟩ [] (.two 14 (.nil) (.cl ok_graph_Graph_Nodes [] (.nil))) (.tw 19 (.nil) (.jx [] ⟨[(1, .dat (.int .i64))], []⟩ [] (.lp ⟨[(1, .dat (.int .i64)), (22, .dat (.int .i64))], []⟩ (.tw 23 (.cl ok_graph_Graph_Arc [] (.gp 4 (.tw 39 (.nil) (.nil)))) (.nil))) (.nil)))
noncomputable def sp_path_Walk : Spec := ⟨26, ⟨[(0, .dat (.ptr (.cons (.int .i64) (.cons (.sl (.cons (.int .i64) (.one (.int .i64)))) (.cons (.cons (.sl (.int .i64)) (.one (.sl (.int .i64)))) (.one (.cons (.sl (.int .i64)) (.one (.sl (.int .i64)))))))))), (1, .dat (.int .i64)), (2, .dat (.sl (.int .i64)))], []⟩, [⟨[(0, .tup [.dat (.int .i64), .dat .bool])], []⟩], fun x => fn_path_Walk x.1 x.2.1 x.2.2⟩
theorem path_Walk_is : SpecOk Tryz.prog sp_path_Walk := fn_is Tryz.func26 h_path_Walk (by kernel_rfl) (by kernel_rfl)
noncomputable def ok_path_Walk : OkSpec Tryz.prog := ⟨sp_path_Walk, path_Walk_is, Tryz.call26⟩

noncomputable def fn_blame_Right (xa : (Int × Int × (List (Int × Int)) × (List (List (Int × Bool))) × (List (Int × Bool)) × (List (Int × (List (Int × Int)) × (List (List (Int × Bool))) × (List (Int × Bool)))) × (List ((List (Int × Int × Int × Int × Bool)) × (Int × Int × Int × (List Int) × (List Int) × (List Int)))))) (xb : (List (Int × Int × (Int × Int × Int × Int × Bool)))) (xc : (Int × Int × (List Int))) : Option Bool :=
  (fn_cons_Graph (xa.1, xa.2.1, xa.2.2.1, xa.2.2.2.1, xa.2.2.2.2.1, xa.2.2.2.2.2.1, xa.2.2.2.2.2.2) xb).bind fun p37 => (fn_path_Walk p37 xc.1 xc.2.2).bind fun (i45, t46) => cond ((!t46) || (!decide (i45 = xc.2.1))) (some (false)) ((fn_path_Short_kpiiz p37 xc.1 xc.2.1).bind fun (l55, t56) => some (decide ((((xc.2.2.length : Nat) : Int)) = (((l55.length : Nat) : Int)))))
noncomputable def h_blame_Right : Hn Tryz.prog := .cl ok_cons_Graph [] (.cl ok_path_Walk [] (.gp 4 (.tw 31 (.nil) (.cl ok_path_Short_kpiiz [] (.nil)))))
noncomputable def sp_blame_Right : Spec := ⟨13, ⟨[(0, .dat (.cons (.int .i64) (.cons (.int .i64) (.cons (.sl (.cons (.int .i64) (.one (.int .i64)))) (.cons (.sl (.one (.sl (.cons (.int .i64) (.one .bool))))) (.cons (.one (.sl (.cons (.int .i64) (.one .bool)))) (.cons (.sl (.cons (.int .i64) (.cons (.sl (.cons (.int .i64) (.one (.int .i64)))) (.cons (.sl (.one (.sl (.cons (.int .i64) (.one .bool))))) (.one (.one (.sl (.cons (.int .i64) (.one .bool))))))))) (.one (.sl (.cons (.sl (.cons (.int .i64) (.cons (.int .i64) (.cons (.int .i64) (.cons (.int .i64) (.one .bool)))))) (.one (.cons (.int .i64) (.cons (.int .i64) (.cons (.int .i64) (.cons (.sl (.int .i64)) (.cons (.sl (.int .i64)) (.one (.sl (.int .i64))))))))))))))))))), (1, .dat (.sl (.cons (.int .i64) (.cons (.int .i64) (.one (.cons (.int .i64) (.cons (.int .i64) (.cons (.int .i64) (.cons (.int .i64) (.one .bool)))))))))), (2, .dat (.cons (.int .i64) (.cons (.int .i64) (.one (.sl (.int .i64))))))], []⟩, [⟨[(0, .dat .bool)], []⟩], fun x => fn_blame_Right x.1 x.2.1 x.2.2⟩
theorem blame_Right_is : SpecOk Tryz.prog sp_blame_Right := fn_is Tryz.func13 h_blame_Right (by kernel_rfl) (by kernel_rfl)
noncomputable def ok_blame_Right : OkSpec Tryz.prog := ⟨sp_blame_Right, blame_Right_is, Tryz.call13⟩
noncomputable def fn_ref22_Of_l1 (xa : (List (Int × Int × Bool))) (xb : Int) (xc : Int) : Int → Option (Int ⊕ (Unit ⊕ (Int × Bool))) := fun (i336 : Int) => cond (decide (i336 < (((xa.length : Nat) : Int)))) ((getI xa i336).bind fun x372 => (cond (decide (x372.1 = xb)) ((getI xa i336).bind fun x393 => some (decide (x393.2.1 = xc))) (some (false))).bind fun t391 => cond (t391) (some (.inr ((.inr ((i336, true)))))) (some (.inl (IntKind.wrap .i64 (i336 + 1))))) (some (.inr ((.inl ()))))
noncomputable def fn_ref22_Of (xa : (List (Int × Int × Bool))) (xb : Int) (xc : Int) : Option (Int × Bool) :=
  (loop (fn_ref22_Of_l1 xa xb xc) 0 : Option (Unit ⊕ (Int × Bool))).bind fun o => match o with | .inr r => some r | .inl () => some ((0, false))
noncomputable def h_ref22_Of : Hn Tryz.prog := .jx [] ⟨[], []⟩ [] (.lp ⟨[(8, .dat (.int .i64))], []⟩ (.tw 12 (.gj 7 ⟨[(30, .dat .bool)], []⟩ [] (.two 22 (.nil) (.nil)) (.tw 30 (.nil) (.nil))) (.nil))) (.nil)
noncomputable def sp_ref22_Of : Spec := ⟨14, ⟨[(0, .dat (.sl (.cons (.int .i64) (.cons (.int .i64) (.one .bool))))), (1, .dat (.int .i64)), (2, .dat (.int .i64))], []⟩, [⟨[(0, .tup [.dat (.int .i64), .dat .bool])], []⟩], fun x => fn_ref22_Of x.1 x.2.1 x.2.2⟩
theorem ref22_Of_is : SpecOk Tryz.prog sp_ref22_Of := fn_is Tryz.func14 h_ref22_Of (by kernel_rfl) (by kernel_rfl)
noncomputable def ok_ref22_Of : OkSpec Tryz.prog := ⟨sp_ref22_Of, ref22_Of_is, Tryz.call14⟩
noncomputable def fn_law33_BlameComes_l1 (l72468 : (List (Int × Int × (Int × Int × Int × Int × Bool)))) (l72504 : (List (Int × Int × (List Int)))) (i99488 : Int) (i110790 : Int) (l112007 : (List (Int × Int × (Int × Int × Int × Int × Bool)))) : (Bool × Int) → Option ((Bool × Int) ⊕ Bool) := fun ((t112645, i112646) : (Bool × Int)) => cond (decide (i112646 < (((l112007.length : Nat) : Int)))) (cond (t112645) (some (.inl ((true, IntKind.wrap .i64 (i112646 + 1))))) ((getI l112007 i112646).bind fun x112926 => (getI l72504 i99488).bind fun x112933 => (getI x112933.2.2 i110790).bind fun x112946 => (getI l72468 x112946).bind fun x112955 => some (.inl (((decide (x112926.1 = x112955.1)) && ((decide (x112926.2.1 = x112955.2.1)) && (((decide (x112926.2.2.1 = x112955.2.2.1)) && ((decide (x112926.2.2.2.1 = x112955.2.2.2.1)) && ((decide (x112926.2.2.2.2.1 = x112955.2.2.2.2.1)) && ((decide (x112926.2.2.2.2.2.1 = x112955.2.2.2.2.2.1)) && (x112926.2.2.2.2.2.2 == x112955.2.2.2.2.2.2))))))), IntKind.wrap .i64 (i112646 + 1)))))) (some (.inr (t112645)))
noncomputable def fn_law33_BlameComes_l2 (xa : (Int × Int × (List (Int × Int)) × (List (List (Int × Bool))) × (List (Int × Bool)) × (List (Int × (List (Int × Int)) × (List (List (Int × Bool))) × (List (Int × Bool)))) × (List ((List (Int × Int × Int × Int × Bool)) × (Int × Int × Int × (List Int) × (List Int) × (List Int)))))) (l72468 : (List (Int × Int × (Int × Int × Int × Int × Bool)))) (l72488 : (List (Int × Int × Bool))) (l72504 : (List (Int × Int × (List Int)))) (i99488 : Int) (l106244 : (List (Int × Int × Int × Int × Bool))) : Int → Option (Int ⊕ (Unit ⊕ (Int ⊕ (Unit ⊕ Bool)))) := fun (i110790 : Int) => cond (decide (i110790 < (((l106244.length : Nat) : Int)))) ((getI l106244 i110790).bind fun x111952 => (getI l106244 i110790).bind fun x111959 => (fn_ref22_Of l72488 x111952.1 x111959.2.1).bind fun (i111971, t111972) => cond (!t111972) (some (.inr ((.inr (.inr ((.inr (false)))))))) ((getI l72488 i111971).bind fun x111998 => (fn_ref27_At (xa.1, xa.2.1, xa.2.2.1, xa.2.2.2.1, xa.2.2.2.2.1, xa.2.2.2.2.2.1, xa.2.2.2.2.2.2) (x111998.1, x111998.2.1, x111998.2.2)).bind fun l112007 => (loop (fn_law33_BlameComes_l1 l72468 l72504 i99488 i110790 l112007) (false, 0) : Option Bool).bind fun t112489 => cond (!t112489) (some (.inr ((.inr (.inr ((.inr (false)))))))) (some (.inl (IntKind.wrap .i64 (i110790 + 1)))))) (some (.inr ((.inl ()))))
noncomputable def fn_law33_BlameComes_l3 (xa : (Int × Int × (List (Int × Int)) × (List (List (Int × Bool))) × (List (Int × Bool)) × (List (Int × (List (Int × Int)) × (List (List (Int × Bool))) × (List (Int × Bool)))) × (List ((List (Int × Int × Int × Int × Bool)) × (Int × Int × Int × (List Int) × (List Int) × (List Int)))))) (l72468 : (List (Int × Int × (Int × Int × Int × Int × Bool)))) (l72488 : (List (Int × Int × Bool))) (l72504 : (List (Int × Int × (List Int)))) : Int → Option (Int ⊕ (Unit ⊕ Bool)) := fun (i99488 : Int) => cond (decide (i99488 < (((l72504.length : Nat) : Int)))) ((getI l72504 i99488).bind fun x106229 => (fn_blame_Places l72468 (x106229.1, x106229.2.1, x106229.2.2)).bind fun l106244 => (getI l72504 i99488).bind fun x106393 => (fn_blame_Right (xa.1, xa.2.1, xa.2.2.1, xa.2.2.2.1, xa.2.2.2.2.1, xa.2.2.2.2.2.1, xa.2.2.2.2.2.2) l72468 (x106393.1, x106393.2.1, x106393.2.2)).bind fun t106408 => cond (!t106408) (some (.inr ((.inr (false))))) ((getI l72504 i99488).bind fun x106413 => cond (decide ((((x106413.2.2.length : Nat) : Int)) = 0)) (some (.inr ((.inr (false))))) ((getI l72504 i99488).bind fun x106427 => cond (!decide ((((l106244.length : Nat) : Int)) = (((x106427.2.2.length : Nat) : Int)))) (some (.inr ((.inr (false))))) ((loop (fn_law33_BlameComes_l2 xa l72468 l72488 l72504 i99488 l106244) 0 : Option (Unit ⊕ (Int ⊕ (Unit ⊕ Bool)))).bind fun o => match o with | .inr r => some r | .inl () => some (.inl (IntKind.wrap .i64 (i99488 + 1))))))) (some (.inr ((.inl ()))))
noncomputable def fn_law33_BlameComes (xa : (Int × Int × (List (Int × Int)) × (List (List (Int × Bool))) × (List (Int × Bool)) × (List (Int × (List (Int × Int)) × (List (List (Int × Bool))) × (List (Int × Bool)))) × (List ((List (Int × Int × Int × Int × Bool)) × (Int × Int × Int × (List Int) × (List Int) × (List Int)))))) : Option Bool :=
  (fn_ref20_Small (xa.1, xa.2.1, xa.2.2.1, xa.2.2.2.1, xa.2.2.2.2.1, xa.2.2.2.2.2.1, xa.2.2.2.2.2.2)).bind fun t72453 => cond ((!t72453) || (decide (20 < xa.2.1))) ((fn_law33_awake).bind fun t72462 => some (t72462)) ((fn_ref27_Of (xa.1, xa.2.1, xa.2.2.1, xa.2.2.2.1, xa.2.2.2.2.1, xa.2.2.2.2.2.1, xa.2.2.2.2.2.2)).bind fun l72468 => (fn_ref32_Missing (xa.1, xa.2.1, xa.2.2.1, xa.2.2.2.1, xa.2.2.2.2.1, xa.2.2.2.2.2.1, xa.2.2.2.2.2.2)).bind fun l72478 => (fn_ref22_All (xa.1, xa.2.1, xa.2.2.1, xa.2.2.2.1, xa.2.2.2.2.1, xa.2.2.2.2.2.1, xa.2.2.2.2.2.2)).bind fun l72488 => (fn_blame_Of_akkz (xa.1, xa.2.1, xa.2.2.1, xa.2.2.2.1, xa.2.2.2.2.1, xa.2.2.2.2.2.1, xa.2.2.2.2.2.2) l72468 l72478).bind fun l72504 => (fn_blame_Bounds l72504).bind fun l72517 => (fn_ref17_Bounds l72517 l72478).bind fun t72530 => cond (!t72530) (some (false)) ((loop (fn_law33_BlameComes_l3 xa l72468 l72488 l72504) 0 : Option (Unit ⊕ Bool)).bind fun o => match o with | .inr r => some r | .inl () => (fn_law33_awake).bind fun t112967 => some (t112967)))
noncomputable def h_law33_BlameComes : Hn Tryz.prog := .cl ok_ref20_Small [] (.gp 3 (.tw 22 (.cl ok_law33_awake [] (.nil)) (.cl ok_ref27_Of [] (.cl ok_ref32_Missing [] (.cl ok_ref22_All [] (.per 2 3 (.per 4 5 (.cl ok_blame_Of_akkz [] (.per 8 9 (.cl ok_blame_Bounds [] (.cl ok_ref17_Bounds [10] (.tw 38 (.nil) (.jx [] ⟨[(35, .any)], []⟩ [10] (.lp ⟨[(7, .dat (.int .i64))], []⟩ (.tw 42 (.cl ok_blame_Places [] (.mix [([0, 1, 2, 3, 4, 5], 6)] [7, 8, 9, 10, 11, 12, 13, 14, 15, 16, 17, 18, 19, 20, 21, 22, 23, 24, 25, 26, 27] [] [] (.cl ok_blame_Right [] (.two 59 (.nil) (.two 68 (.nil) (.tw 78 (.nil) (.jx [] ⟨[], []⟩ [] (.lp ⟨[(9, .dat (.int .i64))], []⟩ (.tw 82 (.mix [([0, 1, 2, 3, 4, 5, 6, 7, 8, 9, 10], 11)] [12, 13, 14, 15, 16] [] [] (.cl ok_ref22_Of [6] (.tw 101 (.nil) (.mix [] [0, 1, 2, 3, 4] [5, 6] [] (.cl ok_ref27_At [] (.jn [] ⟨[(13, .dat .bool)], []⟩ [] (.lp ⟨[(13, .dat .bool), (14, .dat (.int .i64))], []⟩ (.tw 111 (.mix [] [0, 1, 2, 3, 4, 5, 6, 7, 8, 9, 10, 11, 12, 13, 14, 15, 16, 17, 18, 19] [] [] (.two 115 (.nil) (.nil))) (.nil))) (.tw 134 (.nil) (.nil)))))))) (.nil))) (.nil)))))))) (.nil))) (.cl ok_law33_awake [] (.nil)))))))))))))))
noncomputable def sp_law33_BlameComes : Spec := ⟨3, ⟨[(0, .dat (.cons (.int .i64) (.cons (.int .i64) (.cons (.sl (.cons (.int .i64) (.one (.int .i64)))) (.cons (.sl (.one (.sl (.cons (.int .i64) (.one .bool))))) (.cons (.one (.sl (.cons (.int .i64) (.one .bool)))) (.cons (.sl (.cons (.int .i64) (.cons (.sl (.cons (.int .i64) (.one (.int .i64)))) (.cons (.sl (.one (.sl (.cons (.int .i64) (.one .bool))))) (.one (.one (.sl (.cons (.int .i64) (.one .bool))))))))) (.one (.sl (.cons (.sl (.cons (.int .i64) (.cons (.int .i64) (.cons (.int .i64) (.cons (.int .i64) (.one .bool)))))) (.one (.cons (.int .i64) (.cons (.int .i64) (.cons (.int .i64) (.cons (.sl (.int .i64)) (.cons (.sl (.int .i64)) (.one (.sl (.int .i64)))))))))))))))))))], []⟩, [⟨[(0, .dat .bool)], []⟩], fun x => fn_law33_BlameComes x⟩
theorem law33_BlameComes_is : SpecOk Tryz.prog sp_law33_BlameComes := fn_is Tryz.func3 h_law33_BlameComes (by kernel_rfl) (by kernel_rfl)
end Go.Proofs.YthoclljhjcfemaaGreat
namespace Go.Proofs.YthoclljhjcfemaaGreat
open Go.RowKit
set_option linter.unusedVariables false
set_option maxRecDepth 100000
set_option maxHeartbeats 4000000
noncomputable def fn_row_within_1_ap0_i (xa : (Int × Bool)) (qa0 : Int) : Option Bool :=
  some ((decide (xa.1 < 0)) || (decide (qa0 ≤ xa.1)))
noncomputable def fn_slices_IndexFunc_api_Slot_api_Slot_k_row_within_1_p0_i_l1 (xa : (List (Int × Bool))) (qa0 : Int) : Int → Option (Int ⊕ (Unit ⊕ Int)) := fun (i185 : Int) => cond (decide (i185 < (((xa.length : Nat) : Int)))) ((getI xa i185).bind fun x206 => (fn_row_within_1_ap0_i (x206.1, x206.2) qa0).bind fun t217 => cond (t217) (some (.inr ((.inr (i185))))) (some (.inl (IntKind.wrap .i64 (i185 + 1))))) (some (.inr ((.inl ()))))
noncomputable def fn_slices_IndexFunc_api_Slot_api_Slot_k_row_within_1_p0_i (xa : (List (Int × Bool))) (qa0 : Int) : Option Int :=
  (loop (fn_slices_IndexFunc_api_Slot_api_Slot_k_row_within_1_p0_i_l1 xa qa0) 0 : Option (Unit ⊕ Int)).bind fun o => match o with | .inr r => some r | .inl () => some ((-1))
noncomputable def fn_slices_ContainsFunc_api_Slot_api_Slot_k_row_within_1_p0_i (xa : (List (Int × Bool))) (qa0 : Int) : Option Bool :=
  (fn_slices_IndexFunc_api_Slot_api_Slot_k_row_within_1_p0_i xa qa0).bind fun i10 => some (decide (0 ≤ i10))
noncomputable def fn_row_within (xa : (List (Int × Bool))) (xb : Int) : Option Bool :=
  (fn_slices_ContainsFunc_api_Slot_api_Slot_k_row_within_1_p0_i xa xb).bind fun t14 => some (!t14)
noncomputable def fn_row_Check (xa : (List (Int × Bool))) (xb : Int) : Option Int :=
  cond (decide (16 < (((xa.length : Nat) : Int)))) (some (6)) ((fn_row_within xa xb).bind fun t15 => cond (!t15) (some (7)) (some (0)))
noncomputable def fn_row_Shape_1 (xa : (Int × Bool)) (xb : (Int × Bool)) : Option Bool :=
  some (xa.2 == xb.2)
noncomputable def fn_slices_EqualFunc_api_Slot_api_Slot_api_Slot_api_Slot_kk_row_Shape_1_l1 (xa : (List (Int × Bool))) (xb : (List (Int × Bool))) : Int → Option (Int ⊕ (Unit ⊕ Bool)) := fun (i297 : Int) => cond (decide (i297 < (((xa.length : Nat) : Int)))) ((getI xa i297).bind fun x329 => (getI xb i297).bind fun x339 => (fn_row_Shape_1 (x329.1, x329.2) (x339.1, x339.2)).bind fun t351 => cond (!t351) (some (.inr ((.inr (false))))) (some (.inl (IntKind.wrap .i64 (i297 + 1))))) (some (.inr ((.inl ()))))
noncomputable def fn_slices_EqualFunc_api_Slot_api_Slot_api_Slot_api_Slot_kk_row_Shape_1 (xa : (List (Int × Bool))) (xb : (List (Int × Bool))) : Option Bool :=
  cond (!decide ((((xa.length : Nat) : Int)) = (((xb.length : Nat) : Int)))) (some (false)) ((loop (fn_slices_EqualFunc_api_Slot_api_Slot_api_Slot_api_Slot_kk_row_Shape_1_l1 xa xb) 0 : Option (Unit ⊕ Bool)).bind fun o => match o with | .inr r => some r | .inl () => some (true))
noncomputable def fn_row_Shape (xa : (List (Int × Bool))) (xb : (List (Int × Bool))) : Option Bool :=
  (fn_slices_EqualFunc_api_Slot_api_Slot_api_Slot_api_Slot_kk_row_Shape_1 xa xb).bind fun t14 => some (t14)
noncomputable def fn_sig_Check_1_ip0_ikkk (xa : Int) (qa0 : Int) (qa1 : (List (Int × Int))) (qa2 : (List (List (Int × Bool)))) (qa3 : (List (Int × Bool))) : Option Bool :=
  some ((decide (0 ≤ xa)) && (decide (xa < qa0)))
noncomputable def fn_sig_Check_l1 (xa : (Int × (List (Int × Int)) × (List (List (Int × Bool))) × (List (Int × Bool)))) : Int → Option (Int ⊕ (Unit ⊕ Int)) := fun (i509 : Int) => cond (decide (i509 < (((xa.2.1.length : Nat) : Int)))) ((getI xa.2.1 i509).bind fun x546 => (fn_sig_Check_1_ip0_ikkk x546.1 xa.1 xa.2.1 xa.2.2.1 xa.2.2.2).bind fun t558 => (cond (!t558) (some (true)) ((fn_sig_Check_1_ip0_ikkk x546.2 xa.1 xa.2.1 xa.2.2.1 xa.2.2.2).bind fun t573 => some (!t573))).bind fun t569 => cond (t569) (some (.inr ((.inr (7))))) (some (.inl (IntKind.wrap .i64 (i509 + 1))))) (some (.inr ((.inl ()))))
noncomputable def fn_sig_Check_l2 (xa : (Int × (List (Int × Int)) × (List (List (Int × Bool))) × (List (Int × Bool)))) : Int → Option (Int ⊕ (Unit ⊕ Int)) := fun (i671 : Int) => cond (decide (i671 < (((xa.2.2.1.length : Nat) : Int)))) ((getI xa.2.2.1 i671).bind fun x697 => (fn_row_Check x697 xa.1).bind fun i713 => cond (!decide (i713 = 0)) (some (.inr ((.inr (i713))))) (some (.inl (IntKind.wrap .i64 (i671 + 1))))) (some (.inr ((.inl ()))))
noncomputable def fn_sig_Check (xa : (Int × (List (Int × Int)) × (List (List (Int × Bool))) × (List (Int × Bool)))) : Option Int :=
  cond (decide (xa.1 < 0)) (some (7)) (cond (((decide (16 < xa.1)) || (decide (16 < (((xa.2.1.length : Nat) : Int))))) || (decide (16 < (((xa.2.2.1.length : Nat) : Int))))) (some (6)) ((loop (fn_sig_Check_l1 xa) 0 : Option (Unit ⊕ Int)).bind fun o => match o with | .inr r => some r | .inl () => (loop (fn_sig_Check_l2 xa) 0 : Option (Unit ⊕ Int)).bind fun o => match o with | .inr r => some r | .inl () => (fn_row_Check xa.2.2.2 xa.1).bind fun i720 => some (i720)))
noncomputable def fn_stmt_fieldsOf (xa : Int) : Option (Bool × Bool × Bool × Bool) :=
  cond (decide (xa = 0)) (some ((false, false, false, true))) (cond (decide (xa = 1)) (some ((true, true, false, true))) ((cond (decide (xa = 2)) (some (decide (xa = 2))) (some (decide (xa = 3))) : Option Bool).bind fun t18 => cond (t18) (some ((true, true, true, true))) (cond (decide (xa = 4)) (some ((false, true, false, true))) (cond (decide (xa = 5)) (some ((true, false, false, true))) (some ((false, false, false, false)))))))
noncomputable def fn_stmt_own (xa : (Int × Int × Int × Int × Bool)) (xb : (Bool × Bool × Bool)) : Option (Int × Int × Int × Int × Bool) :=
  (cond (xb.1) (some (xa.2.1)) (some (0)) : Option Int).bind fun i22 => (cond (xb.2.1) (some (xa.2.2.1)) (some (0)) : Option Int).bind fun i25 => cond (xb.2.2) (some ((xa.1, i22, i25, xa.2.2.2.1, xa.2.2.2.2))) (some ((xa.1, i22, i25, 0, false)))
noncomputable def fn_stmt_form (xa : (Int × Int × Int × Int × Bool)) : Option (Bool × Bool × Bool × Int) :=
  (fn_stmt_fieldsOf xa.1).bind fun (t67, t68, t69, t70) => cond (!t70) (some ((false, false, false, 3))) ((fn_stmt_own (xa.1, xa.2.1, xa.2.2.1, xa.2.2.2.1, xa.2.2.2.2) (t67, t68, t69)).bind fun (i111, i112, i113, i114, t115) => cond (!((decide (xa.1 = i111)) && ((decide (xa.2.1 = i112)) && ((decide (xa.2.2.1 = i113)) && ((decide (xa.2.2.2.1 = i114)) && (xa.2.2.2.2 == t115)))))) (some ((false, false, false, 3))) (some ((t67, t68, t69, 0))))
noncomputable def fn_stmt_Needs_1_ip0_k (xa : Int) (qa0 : (List (List (Int × Bool)))) : Option Bool :=
  some ((decide (0 ≤ xa)) && (decide (xa < (((qa0.length : Nat) : Int)))))
noncomputable def fn_relate_related_l1 (xa : (List (Int × Bool))) (xb : (List (Int × Bool))) (xc : Int) (xd : Int) : ((List (Int × Int × Int × Int × Bool)) × Int) → Option (((List (Int × Int × Int × Int × Bool)) × Int) ⊕ (List (Int × Int × Int × Int × Bool))) := fun ((l2000, i2005) : ((List (Int × Int × Int × Int × Bool)) × Int)) => cond (decide (i2005 < (((xa.length : Nat) : Int)))) ((getI xa i2005).bind fun x2269 => (getI xb i2005).bind fun x2278 => (app l2000 (([(x2269.1, x2278.1, xc, IntKind.wrap .i64 (xd + i2005), false)] : List (Int × Int × Int × Int × Bool)))).bind fun z2290 => (getI xb i2005).bind fun x2296 => cond (x2296.2) ((getI xb i2005).bind fun x2369 => (getI xa i2005).bind fun x2378 => (app z2290 (([(x2369.1, x2378.1, xc, IntKind.wrap .i64 (xd + i2005), true)] : List (Int × Int × Int × Int × Bool)))).bind fun z2390 => some (.inl ((z2390, IntKind.wrap .i64 (i2005 + 1))))) (some (.inl ((z2290, IntKind.wrap .i64 (i2005 + 1)))))) (some (.inr (l2000)))
noncomputable def fn_relate_related (xa : (List (Int × Bool))) (xb : (List (Int × Bool))) (xc : Int) (xd : Int) : Option ((List (Int × Int × Int × Int × Bool))) :=
  (loop (fn_relate_related_l1 xa xb xc xd) ([], 0) : Option ((List (Int × Int × Int × Int × Bool)))).bind fun l1796 => some (l1796)
noncomputable def fn_relate_Flow (xa : (List (Int × Bool))) (xb : (List (Int × Bool))) (xc : Int) (xd : Int) : Option (((List (Int × Int × Int × Int × Bool)) × Int)) :=
  (fn_row_Shape xa xb).bind fun t30 => cond (!t30) (some (([], 8))) ((fn_relate_related xa xb xc xd).bind fun l38 => some ((l38, 0)))
noncomputable def fn_row_Ref_l1 (xa : (List (Int × Bool))) (xc : Bool) : ((List (Int × Bool)) × Int) → Option (((List (Int × Bool)) × Int) ⊕ (List (Int × Bool))) := fun ((l430, i435) : ((List (Int × Bool)) × Int)) => cond (decide (i435 < (((xa.length : Nat) : Int)))) ((getI xa i435).bind fun x467 => (app l430 (([(x467.1, x467.2 || xc)] : List (Int × Bool)))).bind fun z483 => some (.inl ((z483, IntKind.wrap .i64 (i435 + 1))))) (some (.inr (l430)))
noncomputable def fn_row_Ref (xa : (List (Int × Bool))) (xb : Int) (xc : Bool) : Option ((List (Int × Bool))) :=
  (loop (fn_row_Ref_l1 xa xc) ((([(xb, false)] : List (Int × Bool)), 0)) : Option ((List (Int × Bool)))).bind fun l396 => some (l396)
noncomputable def fn_relate_Loan (xa : (List (Int × Bool))) (xb : (List (Int × Bool))) (xc : Int) (xd : Bool) : Option (((List (Int × Int × Int × Int × Bool)) × Int)) :=
  (fn_row_Ref xa xc xd).bind fun l175 => (fn_row_Shape xb l175).bind fun t188 => cond (!t188) (some (([], 8))) ((getI xb 0).bind fun x194 => (subL xb 1 (((xb.length : Nat) : Int))).bind fun y254 => (fn_relate_related xa y254 1 1).bind fun l262 => (app (([(xc, x194.1, 2, 0, false)] : List (Int × Int × Int × Int × Bool))) l262).bind fun z270 => some ((z270, 0)))
noncomputable def fn_relate_mayBorrowAgain_1 (xa : (Int × Bool)) : Option Bool :=
  some (!xa.2)
noncomputable def fn_slices_IndexFunc_api_Slot_api_Slot_k_relate_mayBorrowAgain_1_l1 (xa : (List (Int × Bool))) : Int → Option (Int ⊕ (Unit ⊕ Int)) := fun (i185 : Int) => cond (decide (i185 < (((xa.length : Nat) : Int)))) ((getI xa i185).bind fun x206 => (fn_relate_mayBorrowAgain_1 (x206.1, x206.2)).bind fun t217 => cond (t217) (some (.inr ((.inr (i185))))) (some (.inl (IntKind.wrap .i64 (i185 + 1))))) (some (.inr ((.inl ()))))
noncomputable def fn_slices_IndexFunc_api_Slot_api_Slot_k_relate_mayBorrowAgain_1 (xa : (List (Int × Bool))) : Option Int :=
  (loop (fn_slices_IndexFunc_api_Slot_api_Slot_k_relate_mayBorrowAgain_1_l1 xa) 0 : Option (Unit ⊕ Int)).bind fun o => match o with | .inr r => some r | .inl () => some ((-1))
noncomputable def fn_slices_ContainsFunc_api_Slot_api_Slot_k_relate_mayBorrowAgain_1 (xa : (List (Int × Bool))) : Option Bool :=
  (fn_slices_IndexFunc_api_Slot_api_Slot_k_relate_mayBorrowAgain_1 xa).bind fun i10 => some (decide (0 ≤ i10))
noncomputable def fn_relate_mayBorrowAgain (xa : (List (Int × Bool))) (xb : (List (Int × Bool))) (xc : Bool) : Option Bool :=
  (cond (decide ((((xa.length : Nat) : Int)) = 0)) (some (true)) ((getI xa 0).bind fun x70 => some (x70.2))).bind fun t68 => (cond (t68) (some (true)) ((fn_row_Shape xa xb).bind fun t90 => some (!t90))).bind fun t86 => cond (t86) (some (false)) ((subL xa 1 (((xa.length : Nat) : Int))).bind fun y95 => (fn_slices_ContainsFunc_api_Slot_api_Slot_k_relate_mayBorrowAgain_1 y95).bind fun t103 => some ((!xc) || (!t103)))
noncomputable def fn_relate_Again (xa : (List (Int × Bool))) (xb : (List (Int × Bool))) (xc : Int) (xd : Bool) : Option (((List (Int × Int × Int × Int × Bool)) × Int)) :=
  (fn_relate_mayBorrowAgain xa xb xd).bind fun t198 => cond (!t198) (some (([], 8))) ((getI xa 0).bind fun x267 => (getI xb 0).bind fun x276 => (subL xa 1 (((xa.length : Nat) : Int))).bind fun y354 => (subL xb 1 (((xb.length : Nat) : Int))).bind fun y360 => (fn_relate_related y354 y360 1 1).bind fun l368 => (app (([(x267.1, xc, 3, 0, false), (xc, x276.1, 2, 0, false)] : List (Int × Int × Int × Int × Bool))) l368).bind fun z376 => some ((z376, 0)))
noncomputable def fn_stmt_Needs (xa : (Int × Int × Int × Int × Bool)) (xb : (List (List (Int × Bool)))) (xc : Int) : Option (((List (Int × Int × Int × Int × Bool)) × Int)) :=
  (fn_stmt_form (xa.1, xa.2.1, xa.2.2.1, xa.2.2.2.1, xa.2.2.2.2)).bind fun (t542, t543, t544, i545) => cond (!decide (i545 = 0)) (some (([], i545))) ((cond (t542) ((fn_stmt_Needs_1_ip0_k xa.2.1 xb).bind fun t563 => some (!t563)) (some (false))).bind fun t559 => (cond (t559) (some (true)) ((cond (t543) ((fn_stmt_Needs_1_ip0_k xa.2.2.1 xb).bind fun t596 => some (!t596)) (some (false))).bind fun t592 => some (t592))).bind fun t583 => cond (t583 || (t544 && ((decide (xa.2.2.2.1 < 0)) || (decide (xc ≤ xa.2.2.2.1))))) (some (([], 7))) (cond (decide (xa.1 = 1)) ((getI xb xa.2.2.1).bind fun x735 => (getI xb xa.2.1).bind fun x748 => (fn_relate_Flow x735 x748 1 0).bind fun (l763, i764) => some ((l763, i764))) (cond (decide (xa.1 = 2)) ((getI xb xa.2.2.1).bind fun x884 => (getI xb xa.2.1).bind fun x897 => (fn_relate_Loan x884 x897 xa.2.2.2.1 xa.2.2.2.2).bind fun (l912, i913) => some ((l912, i913))) (cond (decide (xa.1 = 3)) ((getI xb xa.2.2.1).bind fun x1033 => (getI xb xa.2.1).bind fun x1046 => (fn_relate_Again x1033 x1046 xa.2.2.2.1 xa.2.2.2.2).bind fun (l1061, i1062) => some ((l1061, i1062))) (some (([], 0)))))))
noncomputable def fn_term_calls (xa : (Int × Int × Int × (List Int) × (List Int) × (List Int))) : Option Bool :=
  some (((!decide (xa.2.1 = 0)) || (!decide (xa.2.2.1 = 0))) || (decide (0 < (((xa.2.2.2.2.2.length : Nat) : Int)))))
noncomputable def fn_term_form (xa : (Int × Int × Int × (List Int) × (List Int) × (List Int))) : Option Int :=
  (cond (decide (xa.1 = 1)) ((cond ((decide ((((xa.2.2.2.1.length : Nat) : Int)) = 1)) && (decide ((((xa.2.2.2.2.1.length : Nat) : Int)) = 0))) ((fn_term_calls (xa.1, xa.2.1, xa.2.2.1, xa.2.2.2.1, xa.2.2.2.2.1, xa.2.2.2.2.2)).bind fun t194 => some (!t194)) (some (false))).bind fun t190 => some (t190)) (cond (decide (xa.1 = 2)) ((cond (decide (0 < (((xa.2.2.2.1.length : Nat) : Int)))) ((fn_term_calls (xa.1, xa.2.1, xa.2.2.1, xa.2.2.2.1, xa.2.2.2.2.1, xa.2.2.2.2.2)).bind fun t210 => some (!t210)) (some (false))).bind fun t206 => some (t206)) (cond (decide (xa.1 = 3)) ((cond ((decide ((((xa.2.2.2.1.length : Nat) : Int)) = 0)) && (decide ((((xa.2.2.2.2.1.length : Nat) : Int)) = 0))) ((fn_term_calls (xa.1, xa.2.1, xa.2.2.1, xa.2.2.2.1, xa.2.2.2.2.1, xa.2.2.2.2.2)).bind fun t229 => some (!t229)) (some (false))).bind fun t225 => some (t225)) (cond (decide (xa.1 = 4)) (some (decide ((((xa.2.2.2.1.length : Nat) : Int)) = 1))) (some (false))))) : Option Bool).bind fun t178 => cond (!t178) (some (3)) (cond (((decide (16 < (((xa.2.2.2.1.length : Nat) : Int)))) || (decide (16 < (((xa.2.2.2.2.1.length : Nat) : Int))))) || (decide (16 < (((xa.2.2.2.2.2.length : Nat) : Int))))) (some (6)) (some (0)))
noncomputable def fn_term_beyond (xa : Int) : Option Unit :=
  some (())
noncomputable def fn_term_beyond_1_ip0_i (xa : Int) (qa0 : Int) : Option Bool :=
  some ((decide (xa < 0)) || (decide (qa0 ≤ xa)))
noncomputable def fn_slices_IndexFunc_int_int_k_term_beyond_1_p0_i_l1 (xa : (List Int)) (qa0 : Int) : Int → Option (Int ⊕ (Unit ⊕ Int)) := fun (i185 : Int) => cond (decide (i185 < (((xa.length : Nat) : Int)))) ((getI xa i185).bind fun x206 => (fn_term_beyond_1_ip0_i x206 qa0).bind fun t217 => cond (t217) (some (.inr ((.inr (i185))))) (some (.inl (IntKind.wrap .i64 (i185 + 1))))) (some (.inr ((.inl ()))))
noncomputable def fn_slices_IndexFunc_int_int_k_term_beyond_1_p0_i (xa : (List Int)) (qa0 : Int) : Option Int :=
  (loop (fn_slices_IndexFunc_int_int_k_term_beyond_1_p0_i_l1 xa qa0) 0 : Option (Unit ⊕ Int)).bind fun o => match o with | .inr r => some r | .inl () => some ((-1))
noncomputable def fn_slices_ContainsFunc_int_int_k_term_beyond_1_p0_i (xa : (List Int)) (qa0 : Int) : Option Bool :=
  (fn_slices_IndexFunc_int_int_k_term_beyond_1_p0_i xa qa0).bind fun i10 => some (decide (0 ≤ i10))
noncomputable def fn_term_within (xa : (Int × Int × Int × (List Int) × (List Int) × (List Int))) (xb : (Int × Int × (List (List (Int × Bool))) × (List (Int × Bool)) × (List (Int × (List (Int × Int)) × (List (List (Int × Bool))) × (List (Int × Bool)))))) : Option Bool :=
  (fn_term_beyond (((xb.2.2.1.length : Nat) : Int))).bind fun _ => (fn_term_beyond xb.1).bind fun _ => (fn_slices_ContainsFunc_int_int_k_term_beyond_1_p0_i xa.2.2.2.1 xb.1).bind fun t277 => cond (t277) (some (false)) ((fn_slices_ContainsFunc_int_int_k_term_beyond_1_p0_i xa.2.2.2.2.1 (((xb.2.2.1.length : Nat) : Int))).bind fun t284 => cond (t284) (some (false)) ((fn_term_beyond xb.2.1).bind fun _ => (fn_slices_ContainsFunc_int_int_k_term_beyond_1_p0_i xa.2.2.2.2.2 xb.2.1).bind fun t297 => cond (t297) (some (false)) (cond (!decide (xa.1 = 4)) (some (true)) ((fn_term_beyond_1_ip0_i xa.2.2.1 (((xb.2.2.1.length : Nat) : Int))).bind fun t347 => cond (!t347) ((fn_term_beyond (((xb.2.2.2.2.length : Nat) : Int))).bind fun _ => (fn_term_beyond_1_ip0_i xa.2.1 (((xb.2.2.2.2.length : Nat) : Int))).bind fun t360 => some (!t360)) (some (false))))))
noncomputable def fn_sig_callable_l1 (xa : (Int × (List (Int × Int)) × (List (List (Int × Bool))) × (List (Int × Bool)))) (xc : (List (List (Int × Bool)))) : Int → Option (Int ⊕ (Unit ⊕ Int)) := fun (i788 : Int) => cond (decide (i788 < (((xa.2.2.1.length : Nat) : Int)))) ((getI xa.2.2.1 i788).bind fun x866 => (getI xc i788).bind fun x919 => (fn_row_Shape x919 x866).bind fun t934 => cond (!t934) (some (.inr ((.inr (8))))) (some (.inl (IntKind.wrap .i64 (i788 + 1))))) (some (.inr ((.inl ()))))
noncomputable def fn_sig_callable (xa : (Int × (List (Int × Int)) × (List (List (Int × Bool))) × (List (Int × Bool)))) (xb : (List Int)) (xc : (List (List (Int × Bool)))) (xd : (List (Int × Bool))) : Option Int :=
  (fn_sig_Check (xa.1, xa.2.1, xa.2.2.1, xa.2.2.2)).bind fun i478 => cond (!decide (i478 = 0)) (some (i478)) (cond ((!decide ((((xb.length : Nat) : Int)) = xa.1)) || (!decide ((((xc.length : Nat) : Int)) = (((xa.2.2.1.length : Nat) : Int))))) (some (2)) ((loop (fn_sig_callable_l1 xa xc) 0 : Option (Unit ⊕ Int)).bind fun o => match o with | .inr r => some r | .inl () => (fn_row_Shape xd xa.2.2.2).bind fun t941 => cond (!t941) (some (8)) (some (0))))
noncomputable def fn_slices_Clone_api_Slot_api_Slot (xa : (List (Int × Bool))) : Option ((List (Int × Bool))) :=
  nilb xa (some ([])) ((app (([] : List (Int × Bool))) xa).bind fun z21 => some (z21))
noncomputable def fn_row_Clone (xa : (List (Int × Bool))) : Option ((List (Int × Bool))) :=
  (fn_slices_Clone_api_Slot_api_Slot xa).bind fun l22 => some (l22)
noncomputable def fn_row_Subst_l1 (xb : (List Int)) (l881 : (List (Int × Bool))) : ((List (Int × Bool)) × Int) → Option (((List (Int × Bool)) × Int) ⊕ (List (Int × Bool))) := fun ((l1232, i1237) : ((List (Int × Bool)) × Int)) => cond (decide (i1237 < (((l881.length : Nat) : Int)))) ((getI l1232 i1237).bind fun x1324 => (getI xb x1324.1).bind fun x1380 => (getI l1232 i1237).bind fun x1389 => (some (l1232.set i1237.toNat (x1380, x1389.2))).bind fun z1396 => some (.inl ((z1396, IntKind.wrap .i64 (i1237 + 1))))) (some (.inr (l1232)))
noncomputable def fn_row_Subst (xa : (List (Int × Bool))) (xb : (List Int)) : Option (((List (Int × Bool)) × Int)) :=
  (fn_row_within xa (((xb.length : Nat) : Int))).bind fun t873 => cond (!t873) (some (([], 7))) ((fn_row_Clone xa).bind fun l881 => (loop (fn_row_Subst_l1 xb l881) (l881, 0) : Option ((List (Int × Bool)))).bind fun l1143 => some ((l1143, 0)))
noncomputable def fn_sig_Call_l1 (xa : (Int × (List (Int × Int)) × (List (List (Int × Bool))) × (List (Int × Bool)))) (xb : (List Int)) : ((List (Int × Int × Int × Int × Bool)) × Int) → Option (((List (Int × Int × Int × Int × Bool)) × Int) ⊕ (List (Int × Int × Int × Int × Bool))) := fun ((l2157, i2162) : ((List (Int × Int × Int × Int × Bool)) × Int)) => cond (decide (i2162 < (((xa.2.1.length : Nat) : Int)))) ((getI xa.2.1 i2162).bind fun x2273 => (getI xb x2273.1).bind fun x2346 => (getI xb x2273.2).bind fun x2355 => (app l2157 (([(x2346, x2355, 4, i2162, false)] : List (Int × Int × Int × Int × Bool)))).bind fun z2367 => some (.inl ((z2367, IntKind.wrap .i64 (i2162 + 1))))) (some (.inr (l2157)))
noncomputable def fn_sig_Call_l2 (xa : (Int × (List (Int × Int)) × (List (List (Int × Bool))) × (List (Int × Bool)))) (xb : (List Int)) (xc : (List (List (Int × Bool)))) : ((List (Int × Int × Int × Int × Bool)) × Int) → Option (((List (Int × Int × Int × Int × Bool)) × Int) ⊕ (List (Int × Int × Int × Int × Bool))) := fun ((l3044, i3049) : ((List (Int × Int × Int × Int × Bool)) × Int)) => cond (decide (i3049 < (((xa.2.2.1.length : Nat) : Int)))) ((getI xa.2.2.1 i3049).bind fun x3219 => (fn_row_Subst x3219 xb).bind fun (l3235, i3236) => (getI xc i3049).bind fun x3347 => (fn_relate_Flow x3347 l3235 5 (IntKind.wrap .i64 (16 * i3049))).bind fun (l3362, i3363) => (app l3044 l3362).bind fun z3371 => some (.inl ((z3371, IntKind.wrap .i64 (i3049 + 1))))) (some (.inr (l3044)))
noncomputable def fn_sig_Call (xa : (Int × (List (Int × Int)) × (List (List (Int × Bool))) × (List (Int × Bool)))) (xb : (List Int)) (xc : (List (List (Int × Bool)))) (xd : (List (Int × Bool))) : Option (((List (Int × Int × Int × Int × Bool)) × Int)) :=
  (fn_sig_callable (xa.1, xa.2.1, xa.2.2.1, xa.2.2.2) xb xc xd).bind fun i1712 => cond (!decide (i1712 = 0)) (some (([], i1712))) ((loop (fn_sig_Call_l1 xa xb) ([], 0) : Option ((List (Int × Int × Int × Int × Bool)))).bind fun l2043 => (loop (fn_sig_Call_l2 xa xb xc) (l2043, 0) : Option ((List (Int × Int × Int × Int × Bool)))).bind fun l2873 => (fn_row_Subst xa.2.2.2 xb).bind fun (l3380, i3381) => (fn_relate_Flow l3380 xd 6 0).bind fun (l3395, i3396) => (app l2873 l3395).bind fun z3404 => some ((z3404, 0)))
noncomputable def fn_term_Needs_l1 (xa : (Int × Int × Int × (List Int) × (List Int) × (List Int))) (xb : (Int × Int × (List (List (Int × Bool))) × (List (Int × Bool)) × (List (Int × (List (Int × Int)) × (List (List (Int × Bool))) × (List (Int × Bool)))))) : ((List (List (Int × Bool))) × Int) → Option (((List (List (Int × Bool))) × Int) ⊕ (List (List (Int × Bool)))) := fun ((l836, i841) : ((List (List (Int × Bool))) × Int)) => cond (decide (i841 < (((xa.2.2.2.2.1.length : Nat) : Int)))) ((getI xa.2.2.2.2.1 i841).bind fun x883 => (getI xb.2.2.1 x883).bind fun x892 => (app l836 (([x892] : List (List (Int × Bool))))).bind fun z908 => some (.inl ((z908, IntKind.wrap .i64 (i841 + 1))))) (some (.inr (l836)))
noncomputable def fn_term_Needs (xa : (Int × Int × Int × (List Int) × (List Int) × (List Int))) (xb : (Int × Int × (List (List (Int × Bool))) × (List (Int × Bool)) × (List (Int × (List (Int × Int)) × (List (List (Int × Bool))) × (List (Int × Bool)))))) : Option (((List (Int × Int × Int × Int × Bool)) × Int)) :=
  (fn_term_form (xa.1, xa.2.1, xa.2.2.1, xa.2.2.2.1, xa.2.2.2.2.1, xa.2.2.2.2.2)).bind fun i559 => cond (!decide (i559 = 0)) (some (([], i559))) ((fn_term_within (xa.1, xa.2.1, xa.2.2.1, xa.2.2.2.1, xa.2.2.2.2.1, xa.2.2.2.2.2) (xb.1, xb.2.1, xb.2.2.1, xb.2.2.2.1, xb.2.2.2.2)).bind fun t567 => cond (!t567) (some (([], 7))) (cond (decide (xa.1 = 3)) (cond (decide ((((xb.2.2.1.length : Nat) : Int)) = 0)) (some (([], 14))) ((getI xb.2.2.1 0).bind fun x648 => (fn_relate_Flow x648 xb.2.2.2.1 7 0).bind fun (l663, i664) => some ((l663, i664)))) (cond (decide (xa.1 = 4)) ((loop (fn_term_Needs_l1 xa xb) ([], 0) : Option ((List (List (Int × Bool))))).bind fun l791 => (getI xb.2.2.2.2 xa.2.1).bind fun x1058 => (getI xb.2.2.1 xa.2.2.1).bind fun x1079 => (fn_sig_Call (x1058.1, x1058.2.1, x1058.2.2.1, x1058.2.2.2) xa.2.2.2.2.2 l791 x1079).bind fun (l1097, i1098) => some ((l1097, i1098))) (some (([], 0))))))
end Go.Proofs.YthoclljhjcfemaaGreat
namespace Go.Proofs.YthoclljhjcfemaaGreat
set_option linter.unusedVariables false
section
variable {σ β : Type} {body : σ → Option (σ ⊕ β)}
theorem loop_nat (st : Nat → σ) (n : Nat) {b : β} (h : ∀ k, k < n → body (st k) = some (.inl (st (k + 1)))) (he : body (st n) = some (.inr b)) : loop body (st 0) = some b := by
  have : ∀ m k, k + m = n → loop body (st k) = some b := by
    intro m
    induction m with
    | zero => intro k hk; have : k = n := by omega
              subst this; exact loop_end he
    | succ m ih => intro k hk; rw [loop_next (h k (by omega))]; exact ih (k + 1) (by omega)
  exact this n 0 (by omega)
theorem least (p : Nat → Prop) : ∀ n, (∃ k, k < n ∧ p k ∧ ∀ j, j < k → ¬ p j) ∨ ∀ j, j < n → ¬ p j
  | 0 => .inr (fun j hj => by omega)
  | n + 1 => by
    rcases least p n with ⟨k, h1, h2, h3⟩ | h
    · exact .inl ⟨k, by omega, h2, h3⟩
    · by_cases hp : p n
      · exact .inl ⟨n, by omega, hp, h⟩
      · exact .inr (fun j hj => if e : j = n then e ▸ hp else h j (by omega))
theorem loop_find (p : Nat → Prop) (st : Nat → σ) (n : Nat) (hit : Nat → β) (e : β) (hgo : ∀ k, k < n → ¬ p k → body (st k) = some (.inl (st (k + 1)))) (hhit : ∀ k, k < n → p k → body (st k) = some (.inr (hit k))) (hend : body (st n) = some (.inr e)) :
    (∃ k, k < n ∧ p k ∧ (∀ j, j < k → ¬ p j) ∧ loop body (st 0) = some (hit k)) ∨ ((∀ j, j < n → ¬ p j) ∧ loop body (st 0) = some e) := by
  rcases least p n with ⟨k, h1, h2, h3⟩ | h
  · exact .inl ⟨k, h1, h2, h3, loop_nat st k (fun j hj => hgo j (by omega) (h3 j hj)) (hhit k h1 h2)⟩
  · exact .inr ⟨h, loop_nat st n (fun k hk => hgo k hk (h k hk)) hend⟩
open Classical in
theorem loop_any (p : Nat → Prop) (st : Nat → σ) (n : Nat) (b e : β) (hgo : ∀ k, k < n → ¬ p k → body (st k) = some (.inl (st (k + 1)))) (hhit : ∀ k, k < n → p k → body (st k) = some (.inr b)) (hend : body (st n) = some (.inr e)) :
    loop body (st 0) = some (if ∃ k, k < n ∧ p k then b else e) := by
  rcases loop_find p st n (fun _ => b) e hgo hhit hend with ⟨k, h1, h2, h3, h4⟩ | ⟨h1, h2⟩
  · rw [if_pos ⟨k, h1, h2⟩]; exact h4
  · rw [if_neg (fun ⟨k, h3, h4⟩ => h1 k h3 h4)]; exact h2
end
theorem w64 {x : Int} (h1 : -9223372036854775808 ≤ x) (h2 : x ≤ 9223372036854775807) : IntKind.wrap .i64 x = x := by
  rw [IntWalk.i64_left, IntWalk.wrap64_in _ ⟨h1, h2⟩]
theorem w64s {k n : Nat} (h : k < n) (hn : n ≤ 9223372036854775807) : IntKind.wrap .i64 ((k : Int) + 1) = ((k + 1 : Nat) : Int) := by
  rw [w64 (by omega) (by omega)]; rfl
theorem getN {α : Type} {l : List α} {k : Nat} (h : k < l.length) : getI l (k : Int) = some l[k] := getI_eq rfl h
/-- A list gone through, with something carried along. -/
theorem loop_fold {α γ : Type} (xa : List α) (f : γ → α → γ) (c0 : γ) (hn : xa.length ≤ 9223372036854775807) {body : γ × Int → Option ((γ × Int) ⊕ γ)}
    (hb : ∀ k x, xa[k]? = some x → body ((xa.take k).foldl f c0, (k : Int)) = some (.inl (f ((xa.take k).foldl f c0) x, IntKind.wrap .i64 ((k : Int) + 1)))) (he : body (xa.foldl f c0, (xa.length : Int)) = some (.inr (xa.foldl f c0))) : loop body (c0, 0) = some (xa.foldl f c0) := by
  have h := loop_nat (body := body) (fun k : Nat => ((xa.take k).foldl f c0, (k : Int))) xa.length (b := xa.foldl f c0) ?_ ?_
  · simpa using h
  · intro k hk
    rw [hb k xa[k] (by simp [hk]), w64s hk hn]
    congr 3
    rw [List.take_succ_eq_append_getElem hk, List.foldl_append]; rfl
  · simpa using he
theorem foldl_snoc {α γ : Type} (g : α → γ) (xa : List α) (c : List γ) : xa.foldl (fun c x => c ++ [g x]) c = c ++ xa.map g := by
  induction xa generalizing c with
  | nil => simp
  | cons x xa ih => simp [ih]
/-- A list built by going through another. -/
theorem loop_map {α γ : Type} (xa : List α) (g : α → γ) (c0 : List γ) (hn : c0.length + xa.length ≤ 1073741824) {body : List γ × Int → Option ((List γ × Int) ⊕ List γ)}
    (hb : ∀ (c : List γ) (i : Int), body (c, i) = cond (decide (i < ((xa.length : Nat) : Int))) ((getI xa i).bind fun x => (app c [g x]).bind fun z => some (.inl (z, IntKind.wrap .i64 (i + 1)))) (some (.inr c))) : loop body (c0, 0) = some (c0 ++ xa.map g) := by
  rw [← foldl_snoc]
  refine loop_fold xa (fun c x => c ++ [g x]) c0 (by omega) (fun k x hx => ?_) ?_
  · have hk := (List.getElem?_eq_some_iff.1 hx).1
    rw [hb, foldl_snoc]
    have hx' : xa[k] = x := by rw [List.getElem?_eq_getElem hk] at hx; exact Option.some.inj hx
    have ha := app_eq (a := c0 ++ (xa.take k).map g) (b := [g x]) (by simp; omega)
    simp only [Option.bind_some, getN hk, hx', ha, Int.ofNat_lt.2 hk, decide_true, cond_true]
  · rw [hb]; simp
end Go.Proofs.YthoclljhjcfemaaGreat
namespace Go.Proofs.YthoclljhjcfemaaGreat
set_option linter.unusedVariables false
theorem getZ {α : Type} {l : List α} {i : Int} (h0 : 0 ≤ i) (h1 : i < (l.length : Nat)) : getI l i = some (l[i.toNat]'(by omega)) := by
  unfold getI; rw [if_pos h0]; simp
theorem getN1 {α : Type} {l : List α} {k : Nat} (h : k + 1 < l.length) : getI l ((k : Int) + 1) = some l[k + 1] := getI_eq rfl h
theorem dlt {k n : Nat} (h : k < n) : decide ((k : Int) < (n : Int)) = true := by simp; omega
theorem dge {k n : Nat} (h : ¬ k < n) : decide ((k : Int) < (n : Int)) = false := by simp; omega
theorem beq_dec {α : Type} [DecidableEq α] (a b : α) : (a == b) = decide (a = b) := Bool.beq_eq_decide_eq a b
section
variable {α β γ σ : Type}
/-- A list searched: where the first hit lies. -/
theorem loop_search {body : Int → Option (Int ⊕ β)} (xa : List α) (t : α → Bool) (hit : Nat → β) (e : β) (hb : ∀ (k : Nat) (h : k < xa.length), body (k : Int) = some (if t xa[k] then .inr (hit k) else .inl ((k + 1 : Nat) : Int))) (he : body (xa.length : Int) = some (.inr e)) :
    loop body 0 = some (match xa.findIdx? t with | some k => hit k | none => e) := by
  rcases loop_find (fun k => ∃ h : k < xa.length, t xa[k] = true) (fun k : Nat => (k : Int)) xa.length hit e (fun k hk hp => by
      rw [hb k hk, if_neg (fun h => hp ⟨hk, h⟩)]) (fun k hk ⟨_, hp⟩ => by rw [hb k hk, if_pos hp]) he with ⟨k, h1, ⟨_, h2⟩, h3, h4⟩ | ⟨h1, h2⟩
  · rw [show ((0 : Int)) = ((0 : Nat) : Int) from rfl, h4]
    have : xa.findIdx? t = some k := by
      rw [List.findIdx?_eq_some_iff_getElem]
      exact ⟨h1, h2, fun j hj => fun hc => h3 j hj ⟨by omega, by simpa using hc⟩⟩
    rw [this]
  · rw [show ((0 : Int)) = ((0 : Nat) : Int) from rfl, h2]
    have : xa.findIdx? t = none := by
      rw [List.findIdx?_eq_none_iff]
      intro x hx
      obtain ⟨k, hk, rfl⟩ := List.getElem_of_mem hx
      cases hc : t xa[k] with
      | false => rfl
      | true => exact absurd ⟨hk, hc⟩ (h1 k hk)
    rw [this]
theorem loop_some {body : Int → Option (Int ⊕ β)} (xa : List α) (t : α → Bool) (hit e : β) (hb : ∀ (k : Nat) (h : k < xa.length), body (k : Int) = some (if t xa[k] then .inr hit else .inl ((k + 1 : Nat) : Int))) (he : body (xa.length : Int) = some (.inr e)) :
    loop body 0 = some (if xa.any t then hit else e) := by
  rw [loop_search xa t (fun _ => hit) e hb he]
  cases h : xa.findIdx? t with
  | none =>
    have : xa.any t = false := by
      rw [List.any_eq_false]; intro x hx; have := List.findIdx?_eq_none_iff.1 h x hx; simp [this]
    rw [this]; rfl
  | some k =>
    obtain ⟨hk, h1, _⟩ := List.findIdx?_eq_some_iff_getElem.1 h
    have : xa.any t = true := List.any_eq_true.2 ⟨_, List.getElem_mem hk, h1⟩
    rw [this]; rfl
/-- A list gone through, with what is carried along. -/
theorem loop_carry {δ : Type} {body : (γ × Int) → Option ((γ × Int) ⊕ δ)} (xa : List α) (acc : Nat → γ) (out : δ) (hb : ∀ (k : Nat) (h : k < xa.length), body (acc k, (k : Int)) = some (.inl (acc (k + 1), ((k + 1 : Nat) : Int)))) (he : body (acc xa.length, (xa.length : Int)) = some (.inr out)) :
    loop body (acc 0, 0) = some out := loop_nat (fun k => (acc k, (k : Int))) xa.length hb he
/-- Two lists held against each other, place by place. -/
theorem loop_alike [DecidableEq α] {body : Int → Option (Int ⊕ β)} (xa xb : List α) (hit e : β) (hl : xa.length = xb.length) (hb : ∀ (k : Nat) (h : k < xa.length), body (k : Int) = some (if xa[k] = (xb[k]'(by omega)) then .inl ((k + 1 : Nat) : Int) else .inr hit)) (he : body (xa.length : Int) = some (.inr e)) :
    loop body 0 = some (if xa = xb then e else hit) := by
  rw [loop_search (List.range xa.length) (fun k => decide (xa[k]? ≠ xb[k]?)) (fun _ => hit) e (fun k h => by
      simp at h
      rw [hb k h]
      have h2 : k < xb.length := by omega
      by_cases hq : xa[k] = xb[k] <;> simp [h, h2, hq]) (by simpa using he)]
  by_cases hq : xa = xb
  · subst hq
    have : (List.range xa.length).findIdx? (fun k => decide (xa[k]? ≠ xa[k]?)) = none := by rw [List.findIdx?_eq_none_iff]; simp
    rw [this]; simp
  · cases h : (List.range xa.length).findIdx? (fun k => decide (xa[k]? ≠ xb[k]?)) with
    | some k => simp [hq]
    | none =>
      exfalso; apply hq
      rw [List.findIdx?_eq_none_iff] at h
      apply List.ext_getElem?
      intro k
      by_cases hk : k < xa.length
      · simpa using h k (List.mem_range.2 hk)
      · rw [List.getElem?_eq_none (by omega), List.getElem?_eq_none (by omega)]
theorem take_snoc {l : List α} {k : Nat} (h : k < l.length) : l.take (k + 1) = l.take k ++ [l[k]] := List.take_succ_eq_append_getElem h
theorem dlen {a b : Nat} (h : a = b) : (!decide ((a : Int) = (b : Int))) = false := by simp [h]
theorem dlen' {a b : Nat} (h : ¬ a = b) : (!decide ((a : Int) = (b : Int))) = true := by simp; omega
end
theorem sub1 {α : Type} {l : List α} (h : 1 ≤ l.length) : subL l 1 ((l.length : Nat) : Int) = some (l.drop 1) := by
  rw [subL_eq (by omega) (by omega) (by omega)]; simp
end Go.Proofs.YthoclljhjcfemaaGreat
namespace Go.Proofs.YthoclljhjcfemaaGreat
set_option linter.unusedVariables false
theorem strict_eq : ∀ {xs ys : List Int}, xs.Pairwise (· < ·) → ys.Pairwise (· < ·) → (∀ a, a ∈ xs ↔ a ∈ ys) → xs = ys
  | [], [], _, _, _ => rfl
  | [], y :: ys, _, _, h => by have := (h y).2 (by simp); simp at this
  | x :: xs, [], _, _, h => by have := (h x).1 (by simp); simp at this
  | x :: xs, y :: ys, hx, hy, h => by
    obtain ⟨hx1, hx2⟩ := List.pairwise_cons.1 hx
    obtain ⟨hy1, hy2⟩ := List.pairwise_cons.1 hy
    have e : x = y := by
      have h1 := (h x).1 (by simp)
      have h2 := (h y).2 (by simp)
      rcases List.mem_cons.1 h1 with h1 | h1
      · exact h1
      · rcases List.mem_cons.1 h2 with h2 | h2
        · exact h2.symm
        · have := hy1 x h1; have := hx1 y h2; omega
    subst e
    rw [strict_eq hx2 hy2 (fun a => ?_)]
    constructor
    · intro ha
      rcases List.mem_cons.1 ((h a).1 (by simp [ha])) with e | e
      · subst e; have := hx1 a ha; omega
      · exact e
    · intro ha
      rcases List.mem_cons.1 ((h a).2 (by simp [ha])) with e | e
      · subst e; have := hy1 a ha; omega
      · exact e
end Go.Proofs.YthoclljhjcfemaaGreat
namespace Go.Proofs.YthoclljhjcfemaaGreat
open Go.RowKit
set_option linter.unusedVariables false
/-! ### Lists over a range. -/
theorem getI_map {α : Type} {m j : Nat} {f : Nat → α} (h : j < m) : getI ((List.range m).map f) (j : Int) = some (f j) := by
  rw [getN (by simpa using h)]; simp
theorem set_map {α : Type} {m j : Nat} {f : Nat → α} {y : α} : ((List.range m).map f).set j y = (List.range m).map (fun v => if v = j then y else f v) := by
  apply List.ext_getElem
  · simp
  · intro i h1 h2
    simp only [List.getElem_set, List.getElem_map, List.getElem_range]
    by_cases h : j = i
    · subst h; simp
    · simp [h, Ne.symm h]
theorem map_congr_range {α : Type} {m : Nat} {f g : Nat → α} (h : ∀ v, v < m → f v = g v) : (List.range m).map f = (List.range m).map g := List.map_congr_left fun v hv => h v (List.mem_range.1 hv)
theorem replicate_map {α : Type} (m : Nat) (z : α) : List.replicate m z = (List.range m).map (fun _ => z) := by
  apply List.ext_getElem <;> simp
/-! ### Numbers sorted by counting. -/
def cnt (ks : List Nat) (v : Nat) : Nat := ks.countP (fun x => decide (x = v))
def ltc (ks : List Nat) (v : Nat) : Nat := ks.countP (fun x => decide (x < v))
theorem ltc_zero (ks : List Nat) : ltc ks 0 = 0 := by simp [ltc]
theorem ltc_succ (ks : List Nat) (v : Nat) : ltc ks (v + 1) = ltc ks v + cnt ks v := by
  unfold ltc cnt
  induction ks with
  | nil => rfl
  | cons x ks ih =>
    rw [List.countP_cons, List.countP_cons, List.countP_cons, ih]
    by_cases h : x < v
    · simp [h, show x < v + 1 by omega, show ¬ x = v by omega]; omega
    · by_cases h2 : x = v
      · simp [h2]; omega
      · simp [h, h2, show ¬ x < v + 1 by omega]
theorem ltc_mono (ks : List Nat) {v w : Nat} (h : v ≤ w) : ltc ks v ≤ ltc ks w := by
  unfold ltc; apply List.countP_mono_left; intro x _; simp; omega
theorem ltc_le (ks : List Nat) (v : Nat) : ltc ks v ≤ ks.length := List.countP_le_length
theorem cnt_le (ks : List Nat) (v : Nat) : cnt ks v ≤ ks.length := List.countP_le_length
theorem cnt_take {ks : List Nat} {k : Nat} (h : k < ks.length) (v : Nat) : cnt (ks.take (k + 1)) v = cnt (ks.take k) v + (if ks[k] = v then 1 else 0) := by
  unfold cnt; rw [take_snoc h, List.countP_append]; simp [List.countP_cons]
theorem cnt_take_le (ks : List Nat) (k v : Nat) : cnt (ks.take k) v ≤ cnt ks v := by
  unfold cnt
  conv => rhs; rw [← List.take_append_drop k ks, List.countP_append]
  omega
theorem cnt_take_lt {ks : List Nat} {k : Nat} (h : k < ks.length) : cnt (ks.take k) ks[k] < cnt ks ks[k] := by
  have := cnt_take_le ks (k + 1) ks[k]
  rw [cnt_take h] at this
  simp at this; omega
def pos (ks : List Nat) (i : Nat) : Nat := ltc ks (ks.getD i 0) + cnt (ks.take i) (ks.getD i 0)
theorem pos_lt {ks : List Nat} {i : Nat} (h : i < ks.length) : pos ks i < ltc ks (ks[i] + 1) := by
  have := cnt_take_lt h
  unfold pos; rw [ltc_succ]
  simp [h]; omega
theorem pos_ge {ks : List Nat} {i : Nat} (h : i < ks.length) : ltc ks ks[i] ≤ pos ks i := by unfold pos; simp [h]
theorem pos_lt_len {ks : List Nat} {i : Nat} (h : i < ks.length) : pos ks i < ks.length := Nat.lt_of_lt_of_le (pos_lt h) (ltc_le _ _)
theorem pos_inj {ks : List Nat} {i j : Nat} (hi : i < j) (hj : j < ks.length) : pos ks i ≠ pos ks j := by
  have hi' : i < ks.length := by omega
  rcases Nat.lt_trichotomy ks[i] ks[j] with h | h | h
  · have := pos_lt hi'; have := pos_ge hj; have := ltc_mono ks (v := ks[i] + 1) (w := ks[j]) (by omega); omega
  · have h1 := cnt_take hi' ks[j]
    have h2 : cnt (ks.take (i + 1)) ks[j] ≤ cnt (ks.take j) ks[j] := by
      have := cnt_take_le (ks.take j) (i + 1) ks[j]
      rw [List.take_take, Nat.min_eq_left (by omega)] at this; exact this
    unfold pos; simp [hi', hj, h] at h1 ⊢; omega
  · have := pos_lt hj; have := pos_ge hi'; have := ltc_mono ks (v := ks[j] + 1) (w := ks[i]) (by omega); omega
/-- Where a number stands. -/
def occ (ks : List Nat) (v : Nat) : List Nat := (List.range ks.length).filter (fun i => decide (ks.getD i 0 = v))
theorem occ_upto (ks : List Nat) (v : Nat) : ∀ k, k ≤ ks.length → ((List.range k).filter (fun i => decide (ks.getD i 0 = v))).length = cnt (ks.take k) v ∧ ∀ (r i : Nat), ((List.range k).filter (fun i => decide (ks.getD i 0 = v)))[r]? = some i → ∃ hi : i < ks.length, ks[i] = v ∧ cnt (ks.take i) v = r
  | 0, _ => by simp [cnt]
  | k + 1, hk => by
    obtain ⟨h1, h2⟩ := occ_upto ks v k (by omega)
    have hkl : k < ks.length := by omega
    have e : (List.range (k + 1)).filter (fun i => decide (ks.getD i 0 = v)) = (List.range k).filter (fun i => decide (ks.getD i 0 = v)) ++ (if ks[k] = v then [k] else []) := by
      rw [List.range_succ, List.filter_append]
      by_cases h : ks[k] = v <;> simp [hkl, h]
    rw [e, cnt_take hkl]
    generalize hF : (List.range k).filter (fun i => decide (ks.getD i 0 = v)) = F at h1 h2
    by_cases h : ks[k] = v
    · simp only [h, if_true]
      refine ⟨by simp [h1], fun r i hr => ?_⟩
      by_cases hr2 : r < F.length
      · rw [List.getElem?_append_left hr2] at hr; exact h2 r i hr
      · rw [List.getElem?_append_right (by omega)] at hr
        have hr3 : r - F.length = 0 := by
          have := (List.getElem?_eq_some_iff.1 hr).1
          simp at this; omega
        rw [hr3] at hr
        simp at hr
        subst hr
        exact ⟨hkl, h, by omega⟩
    · simp only [h, if_false, List.append_nil, Nat.add_zero]
      exact ⟨h1, h2⟩
theorem occ_len (ks : List Nat) (v : Nat) : (occ ks v).length = cnt ks v := by have := (occ_upto ks v ks.length (Nat.le_refl _)).1; rw [List.take_length] at this; exact this
theorem occ_get (ks : List Nat) (v r : Nat) (h : r < (occ ks v).length) : ∃ (hi : (occ ks v)[r] < ks.length), ks[(occ ks v)[r]] = v ∧ cnt (ks.take (occ ks v)[r]) v = r := (occ_upto ks v ks.length (Nat.le_refl _)).2 r _ (List.getElem?_eq_getElem h)
theorem occ_mem {ks : List Nat} {v i : Nat} : i ∈ occ ks v ↔ ∃ h : i < ks.length, ks[i] = v := by
  unfold occ
  simp only [List.mem_filter, List.mem_range, decide_eq_true_eq]
  constructor
  · rintro ⟨h1, h2⟩; exact ⟨h1, by simpa [h1] using h2⟩
  · rintro ⟨h1, h2⟩; exact ⟨h1, by simpa [h1] using h2⟩
/-- The numbers' places, in the order of the numbers. -/
def av (ks : List Nat) (k p : Nat) : Nat := ((List.range k).find? (fun i => decide (pos ks i = p))).getD 0
theorem av_pos {ks : List Nat} {k i : Nat} (hk : k ≤ ks.length) (hi : i < k) : av ks k (pos ks i) = i := by
  unfold av
  cases h : (List.range k).find? (fun j => decide (pos ks j = pos ks i)) with
  | none =>
    rw [List.find?_eq_none] at h
    exact absurd (by simp) (h i (List.mem_range.2 hi))
  | some j =>
    have h1 := List.find?_some h
    have h2 := List.mem_range.1 (List.mem_of_find?_eq_some h)
    simp at h1
    rcases Nat.lt_trichotomy i j with q | q | q
    · exact absurd h1.symm (pos_inj q (by omega))
    · exact q.symm
    · exact absurd h1 (pos_inj q (by omega))
theorem av_succ {ks : List Nat} {k : Nat} (hk : k < ks.length) (p : Nat) : av ks (k + 1) p = if p = pos ks k then k else av ks k p := by
  by_cases h : p = pos ks k
  · rw [if_pos h, h, av_pos (by omega) (by omega)]
  · rw [if_neg h]
    unfold av
    rw [List.range_succ, List.find?_append]
    simp [Ne.symm h]
theorem av_sub (ks : List Nat) (v : Nat) : ((((List.range ks.length).map (fun p => (av ks ks.length p : Int))).take (ltc ks (v + 1))).drop (ltc ks v)) = (occ ks v).map (fun i : Nat => (i : Int)) := by
  apply List.ext_getElem
  · have h1 := ltc_succ ks v
    have h2 := ltc_le ks (v + 1)
    rw [List.length_drop, List.length_take, List.length_map, List.length_map, occ_len, List.length_range]; omega
  · intro r h1 h2
    have hr : r < (occ ks v).length := by simpa using h2
    obtain ⟨hi, h3, h4⟩ := occ_get ks v r hr
    simp only [List.getElem_drop, List.getElem_take, List.getElem_map, List.getElem_range]
    have : pos ks (occ ks v)[r] = ltc ks v + r := by
      have e : ks.getD (occ ks v)[r] 0 = v := by simp [hi, h3]
      unfold pos; rw [e, h4]
    rw [← this, av_pos (Nat.le_refl _) hi]
section
variable {α : Type} (key : α → Int) (n : Int) (xb : List α)
def ix1 : (Int × (List Int)) → Option ((Int × (List Int)) ⊕ (List Int)) := fun ((i, l) : (Int × (List Int))) => cond (decide (i < (((xb.length : Nat) : Int)))) ((getI xb i).bind fun x => (getI l (IntKind.wrap .i64 (key x + 1))).bind fun a => (getI l (IntKind.wrap .i64 (key x + 1))).bind fun b => (some (l.set (IntKind.wrap .i64 (key x + 1)).toNat (IntKind.wrap .i64 (a + 1)))).bind fun z => some (.inl ((IntKind.wrap .i64 (i + 1), z)))) (some (.inr (l)))
def ix2 : (Int × (List Int)) → Option ((Int × (List Int)) ⊕ (List Int)) := fun ((i, l) : (Int × (List Int))) => cond (decide (i < n)) ((getI l (IntKind.wrap .i64 (i + 1))).bind fun a => (getI l i).bind fun b => (getI l (IntKind.wrap .i64 (i + 1))).bind fun c => (some (l.set (IntKind.wrap .i64 (i + 1)).toNat (IntKind.wrap .i64 (a + b)))).bind fun z => some (.inl ((IntKind.wrap .i64 (i + 1), z)))) (some (.inr (l)))
def ix3 : ((List Int) × Int × (List Int)) → Option (((List Int) × Int × (List Int)) ⊕ (List Int)) := fun ((l, i, m) : ((List Int) × Int × (List Int))) => cond (decide (i < (((xb.length : Nat) : Int)))) ((getI xb i).bind fun x => (getI l (key x)).bind fun a => (getI m a).bind fun b => (some (m.set a.toNat i)).bind fun z => (getI l (key x)).bind fun c => (getI l (key x)).bind fun d => (some (l.set (key x).toNat (IntKind.wrap .i64 (c + 1)))).bind fun y => some (.inl ((y, IntKind.wrap .i64 (i + 1), z)))) (some (.inr (m)))
variable {key n xb} {ks : List Nat}
theorem key_at (hk : xb.map key = ks.map (fun k : Nat => (k : Int))) {i : Nat} (h : i < xb.length) : ∃ h2 : i < ks.length, key xb[i] = (ks[i] : Int) := by
  have hl : xb.length = ks.length := by simpa using congrArg List.length hk
  refine ⟨by omega, ?_⟩
  have h1 : (xb.map key)[i]'(by simpa using h) = (ks.map (fun k : Nat => (k : Int)))[i]'(by simp; omega) := by simp only [hk]
  simpa using h1
theorem ix1_eq {N : Nat} (hk : xb.map key = ks.map (fun k : Nat => (k : Int))) (hN : ∀ x ∈ ks, x < N) (hb : ks.length ≤ 1073741824) (hNb : N ≤ 1073741824) : loop (ix1 key xb) (0, List.replicate (N + 1) 0) = some ((List.range (N + 1)).map (fun v => ((if v = 0 then 0 else cnt ks (v - 1) : Nat) : Int))) := by
  have hl : xb.length = ks.length := by simpa using congrArg List.length hk
  have h := loop_nat (body := ix1 key xb) (fun k : Nat => ((k : Int), (List.range (N + 1)).map (fun v => ((if v = 0 then 0 else cnt (ks.take k) (v - 1) : Nat) : Int)))) xb.length (b := (List.range (N + 1)).map (fun v => ((if v = 0 then 0 else cnt ks (v - 1) : Nat) : Int))) ?_ ?_
  · rw [replicate_map]; simpa [cnt] using h
  · intro k hk2
    obtain ⟨hk3, hk4⟩ := key_at hk hk2
    have hlt := hN _ (List.getElem_mem hk3)
    have hw : IntKind.wrap .i64 (key xb[k] + 1) = ((ks[k] + 1 : Nat) : Int) := by rw [hk4, w64 (by omega) (by omega)]; omega
    have hc := cnt_le (ks.take k) ks[k]
    simp only [List.length_take] at hc
    unfold ix1
    simp only [dlt hk2, cond_true, getN hk2, Option.bind_some, hw, getI_map (show ks[k] + 1 < N + 1 by omega), Int.toNat_natCast, set_map, w64s hk2 (by omega : xb.length ≤ 9223372036854775807)]
    congr 3
    refine map_congr_range (fun v hv => ?_)
    rw [cnt_take hk3]
    simp only [Nat.add_one_ne_zero, if_false, Nat.add_sub_cancel]
    by_cases h1 : v = ks[k] + 1
    · subst h1; simp only [if_true, Nat.add_one_ne_zero, if_false, Nat.add_sub_cancel]; rw [w64 (by omega) (by omega)]; omega
    · rw [if_neg h1]
      by_cases h2 : v = 0
      · simp [h2]
      · simp [h2, show ¬ ks[k] = v - 1 by omega]
  · unfold ix1
    simp only [hl, Int.lt_irrefl, decide_false, cond_false, List.take_length]
theorem ix2_eq {N : Nat} (hb : ks.length ≤ 1073741824) (hNb : N ≤ 1073741824) : loop (ix2 (N : Int)) (0, (List.range (N + 1)).map (fun v => ((if v = 0 then 0 else cnt ks (v - 1) : Nat) : Int))) = some ((List.range (N + 1)).map (fun v => (ltc ks v : Int))) := by
  have h := loop_nat (body := ix2 (N : Int)) (fun j : Nat => ((j : Int), (List.range (N + 1)).map (fun v => ((if v ≤ j then ltc ks v else cnt ks (v - 1) : Nat) : Int)))) N (b := (List.range (N + 1)).map (fun v => (ltc ks v : Int))) ?_ ?_
  · have e : (List.range (N + 1)).map (fun v => ((if v ≤ 0 then ltc ks v else cnt ks (v - 1) : Nat) : Int)) = (List.range (N + 1)).map (fun v => ((if v = 0 then 0 else cnt ks (v - 1) : Nat) : Int)) := by
      refine map_congr_range (fun v hv => ?_)
      by_cases h1 : v = 0
      · simp [h1, ltc_zero]
      · simp [h1]
    simp only [e] at h
    exact h
  · intro j hj
    have hs := ltc_succ ks j
    have hle := ltc_le ks (j + 1)
    unfold ix2
    simp only [dlt hj, cond_true, w64s hj (by omega : N ≤ 9223372036854775807), getI_map (show j + 1 < N + 1 by omega), getI_map (show j < N + 1 by omega), Option.bind_some, Int.toNat_natCast, set_map]
    congr 3
    refine map_congr_range (fun v hv => ?_)
    simp only [show ¬ (j + 1 ≤ j) by omega, if_false, Nat.le_refl, if_true, Nat.add_sub_cancel]
    by_cases h1 : v = j + 1
    · subst h1; simp only [if_true, Nat.le_refl]; rw [w64 (by omega) (by omega)]; omega
    · rw [if_neg h1]
      by_cases h2 : v ≤ j
      · simp [h2, show v ≤ j + 1 by omega]
      · simp [h2, show ¬ v ≤ j + 1 by omega]
  · unfold ix2
    simp only [Int.lt_irrefl, decide_false, cond_false]
    congr 2
    refine map_congr_range (fun v hv => ?_)
    simp [show v ≤ N by omega]
theorem ix3_eq {N : Nat} (hk : xb.map key = ks.map (fun k : Nat => (k : Int))) (hN : ∀ x ∈ ks, x < N) (hb : ks.length ≤ 1073741824) (hNb : N ≤ 1073741824) : loop (ix3 key xb) ((List.range (N + 1)).map (fun v => (ltc ks v : Int)), 0, List.replicate xb.length 0) = some ((List.range ks.length).map (fun p => (av ks ks.length p : Int))) := by
  have hl : xb.length = ks.length := by simpa using congrArg List.length hk
  have h := loop_nat (body := ix3 key xb) (fun k : Nat => ((List.range (N + 1)).map (fun v => ((ltc ks v + cnt (ks.take k) v : Nat) : Int)), (k : Int), (List.range ks.length).map (fun p => (av ks k p : Int)))) xb.length (b := (List.range ks.length).map (fun p => (av ks ks.length p : Int))) ?_ ?_
  · rw [hl, replicate_map]; simpa [cnt, av] using h
  · intro k hk2
    obtain ⟨hk3, hk4⟩ := key_at hk hk2
    have hlt := hN _ (List.getElem_mem hk3)
    have hp : ltc ks ks[k] + cnt (ks.take k) ks[k] = pos ks k := by unfold pos; simp [hk3]
    have hpl := pos_lt_len hk3
    unfold ix3
    simp only [dlt hk2, cond_true, getN hk2, Option.bind_some, hk4, getI_map (show ks[k] < N + 1 by omega), hp, getI_map hpl, Int.toNat_natCast, set_map, w64s hk2 (by omega : xb.length ≤ 9223372036854775807)]
    congr 3
    · refine map_congr_range (fun v hv => ?_)
      rw [cnt_take hk3]
      by_cases h1 : v = ks[k]
      · subst h1; simp only [if_true]; rw [w64 (by omega) (by omega)]; omega
      · rw [if_neg h1, if_neg (Ne.symm h1)]; simp
    · congr 1
      refine map_congr_range (fun p hp2 => ?_)
      rw [av_succ hk3]
      split <;> rfl
  · unfold ix3
    simp only [hl, Int.lt_irrefl, decide_false, cond_false]
end
/-! ### Graphs. -/
abbrev Gr := Int × (List (Int × Int)) × ((List Int) × (List Int)) × ((List Int) × (List Int))
abbrev ArG := List (Nat × Nat)
def ai (E : ArG) : List (Int × Int) := E.map (fun e => ((e.1 : Int), (e.2 : Int)))
def ixs (N : Nat) (ks : List Nat) : List Int × List Int := ((List.range (N + 1)).map (fun v => (ltc ks v : Int)), (List.range ks.length).map (fun p => (av ks ks.length p : Int)))
def mkG (N : Nat) (E : ArG) : Gr := ((N : Int), ai E, ixs N (E.map (·.1)), ixs N (E.map (·.2)))
def inN (N : Nat) (E : ArG) : Prop := ∀ e ∈ E, e.1 < N ∧ e.2 < N
theorem ai_len (E : ArG) : (ai E).length = E.length := by simp [ai]
theorem clone_eq {α : Type} (xa : List α) (hn : xa.length ≤ 1073741824) : nilb xa (some ([] : List α)) ((app ([] : List α) xa).bind fun z => some z) = some xa := by
  rw [nilb_eq]
  · rw [app_eq (by simpa using hn)]; simp
  · rintro rfl; rw [app_eq (by simp)]; rfl
theorem indexed1_eq {N : Nat} {E : ArG} (h : inN N E) (hn : N ≤ 1048576) (he : E.length ≤ 67108864) : fn_graph_indexed_ik_graph_New_1 (N : Int) (ai E) = some (ixs N (E.map (·.1))) := by
  have hk : (ai E).map (fun x : Int × Int => x.1) = (E.map (·.1)).map (fun k : Nat => (k : Int)) := by simp [ai]
  have hN : ∀ x ∈ E.map (·.1), x < N := by intro x hx; obtain ⟨e, he, rfl⟩ := List.mem_map.1 hx; exact (h e he).1
  have hw : IntKind.wrap .i64 ((N : Int) + 1) = ((N + 1 : Nat) : Int) := by rw [w64 (by omega) (by omega)]; omega
  have h1 := ix1_eq (key := fun x : Int × Int => x.1) (N := N) hk hN (by simp; omega) (by omega)
  have h2 := ix2_eq (ks := E.map (·.1)) (N := N) (by simp; omega) (by omega)
  have h3 := ix3_eq (key := fun x : Int × Int => x.1) (N := N) hk hN (by simp; omega) (by omega)
  have hl : (ai E).length ≤ 1073741824 := by rw [ai_len]; omega
  unfold fn_graph_indexed_ik_graph_New_1
  have hm1 : (mk ((N + 1 : Nat) : Int) ((N + 1 : Nat) : Int) (0 : Int) : Option (List Int)) = some (List.replicate (N + 1) 0) := mkN (by omega)
  have hm2 : (mk (((ai E).length : Nat) : Int) (((ai E).length : Nat) : Int) (0 : Int) : Option (List Int)) = some (List.replicate (ai E).length 0) := mkN hl
  rw [hw]
  simp only [hm1, hm2, Option.bind_some, agr_self]
  show (loop (ix1 (fun x : Int × Int => x.1) (ai E)) (0, _)).bind _ = _
  rw [h1, Option.bind_some]
  show (loop (ix2 (N : Int)) (0, _)).bind _ = _
  rw [h2, Option.bind_some]
  have hc : ∀ l : List Int, l.length ≤ 1073741824 → fn_slices_Clone_int_int l = some l := fun l hl => clone_eq l hl
  rw [hc _ (by simp; omega), Option.bind_some]
  show (loop (ix3 (fun x : Int × Int => x.1) (ai E)) (_, 0, _)).bind _ = _
  rw [h3]; rfl
theorem indexed2_eq {N : Nat} {E : ArG} (h : inN N E) (hn : N ≤ 1048576) (he : E.length ≤ 67108864) : fn_graph_indexed_ik_graph_New_2 (N : Int) (ai E) = some (ixs N (E.map (·.2))) := by
  have hk : (ai E).map (fun x : Int × Int => x.2) = (E.map (·.2)).map (fun k : Nat => (k : Int)) := by simp [ai]
  have hN : ∀ x ∈ E.map (·.2), x < N := by intro x hx; obtain ⟨e, he, rfl⟩ := List.mem_map.1 hx; exact (h e he).2
  have hw : IntKind.wrap .i64 ((N : Int) + 1) = ((N + 1 : Nat) : Int) := by rw [w64 (by omega) (by omega)]; omega
  have h1 := ix1_eq (key := fun x : Int × Int => x.2) (N := N) hk hN (by simp; omega) (by omega)
  have h2 := ix2_eq (ks := E.map (·.2)) (N := N) (by simp; omega) (by omega)
  have h3 := ix3_eq (key := fun x : Int × Int => x.2) (N := N) hk hN (by simp; omega) (by omega)
  have hl : (ai E).length ≤ 1073741824 := by rw [ai_len]; omega
  unfold fn_graph_indexed_ik_graph_New_2
  have hm1 : (mk ((N + 1 : Nat) : Int) ((N + 1 : Nat) : Int) (0 : Int) : Option (List Int)) = some (List.replicate (N + 1) 0) := mkN (by omega)
  have hm2 : (mk (((ai E).length : Nat) : Int) (((ai E).length : Nat) : Int) (0 : Int) : Option (List Int)) = some (List.replicate (ai E).length 0) := mkN hl
  rw [hw]
  simp only [hm1, hm2, Option.bind_some, agr_self]
  show (loop (ix1 (fun x : Int × Int => x.2) (ai E)) (0, _)).bind _ = _
  rw [h1, Option.bind_some]
  show (loop (ix2 (N : Int)) (0, _)).bind _ = _
  rw [h2, Option.bind_some]
  have hc : ∀ l : List Int, l.length ≤ 1073741824 → fn_slices_Clone_int_int l = some l := fun l hl => clone_eq l hl
  rw [hc _ (by simp; omega), Option.bind_some]
  show (loop (ix3 (fun x : Int × Int => x.2) (ai E)) (_, 0, _)).bind _ = _
  rw [h3]; rfl
/-- An arc that is out of the nodes. -/
def outA (n : Int) (a : Int × Int) : Bool := (((decide (a.1 < 0)) || (decide (n ≤ a.1))) || (decide (a.2 < 0))) || (decide (n ≤ a.2))
theorem newLoop (n : Int) (xb : List (Int × Int)) (hb : xb.length ≤ 1073741824) : loop (fn_graph_New_l1 n xb) 0 = some (if xb.any (outA n) then .inr (none, 7) else .inl ()) := by
  refine loop_some xb (outA n) _ _ (fun k h => ?_) ?_
  · unfold fn_graph_New_l1
    simp only [dlt h, cond_true, getN h, Option.bind_some, w64s h (by omega : xb.length ≤ 9223372036854775807)]
    show cond (outA n xb[k]) _ _ = _
    cases outA n xb[k] <;> rfl
  · simp [fn_graph_New_l1]
theorem arcs_nat {n : Int} {xb : List (Int × Int)} (h0 : 0 ≤ n) (h : xb.any (outA n) = false) : ∃ E : ArG, xb = ai E ∧ inN n.toNat E := by
  refine ⟨xb.map (fun a => (a.1.toNat, a.2.toNat)), ?_, ?_⟩
  · unfold ai
    rw [List.map_map]
    conv => lhs; rw [← List.map_id xb]
    refine List.map_congr_left (fun a ha => ?_)
    have := List.any_eq_false.1 h a ha
    simp [outA] at this
    refine Prod.ext ?_ ?_ <;> simp <;> omega
  · intro e he
    obtain ⟨a, ha, rfl⟩ := List.mem_map.1 he
    have := List.any_eq_false.1 h a ha
    simp [outA] at this
    dsimp only
    omega
theorem New_ok {N : Nat} {E : ArG} (h : inN N E) (hn : N ≤ 1048576) (he : E.length ≤ 67108864) : fn_graph_New (N : Int) (ai E) = some (some (mkG N E), 0) := by
  unfold fn_graph_New
  have h1 : decide ((N : Int) < 0) = false := decide_eq_false (by omega)
  have h2 : (decide ((1048576 : Int) < (N : Int)) || decide ((67108864 : Int) < (((ai E).length : Nat) : Int))) = false := by rw [ai_len]; simp; omega
  have h3 : (ai E).any (outA (N : Int)) = false := by
    rw [List.any_eq_false]
    intro a ha
    obtain ⟨e, he, rfl⟩ := List.mem_map.1 ha
    have := h e he
    simp [outA]; omega
  rw [h1, cond_false, h2, cond_false, newLoop _ _ (by rw [ai_len]; omega), h3]
  simp only [Bool.false_eq_true, if_false, Option.bind_some]
  have hc : fn_slices_Clone_graph_Arc_graph_Arc (ai E) = some (ai E) := clone_eq _ (by rw [ai_len]; omega)
  rw [hc, Option.bind_some, indexed1_eq h hn he, Option.bind_some, indexed2_eq h hn he]
  rfl
theorem New_eq (n : Int) (xb : List (Int × Int)) (he : xb.length ≤ 67108864) : (n < 0 ∧ fn_graph_New n xb = some (none, 2)) ∨ (1048576 < n ∧ fn_graph_New n xb = some (none, 5)) ∨ (0 ≤ n ∧ n ≤ 1048576 ∧ xb.any (outA n) = true ∧ fn_graph_New n xb = some (none, 7)) ∨
    ∃ (N : Nat) (E : ArG), n = (N : Int) ∧ N ≤ 1048576 ∧ xb = ai E ∧ inN N E ∧ xb.any (outA n) = false ∧ fn_graph_New n xb = some (some (mkG N E), 0) := by
  by_cases h0 : n < 0
  · refine .inl ⟨h0, ?_⟩
    unfold fn_graph_New
    rw [show decide (n < 0) = true by simpa using h0]; rfl
  · have h1 : decide (n < 0) = false := by simp; omega
    by_cases h2 : 1048576 < n
    · refine .inr (.inl ⟨h2, ?_⟩)
      unfold fn_graph_New
      rw [h1, show decide ((1048576 : Int) < n) = true by simpa using h2]; rfl
    · cases h3 : xb.any (outA n) with
      | true =>
        refine .inr (.inr (.inl ⟨by omega, by omega, rfl, ?_⟩))
        unfold fn_graph_New
        have h4 : (decide ((1048576 : Int) < n) || decide ((67108864 : Int) < ((xb.length : Nat) : Int))) = false := by simp; omega
        rw [h1, cond_false, h4, cond_false, newLoop _ _ (by omega), h3]; rfl
      | false =>
        obtain ⟨E, rfl, hE⟩ := arcs_nat (by omega) h3
        refine .inr (.inr (.inr ⟨n.toNat, E, by omega, by omega, rfl, hE, rfl, ?_⟩))
        have := New_ok hE (by omega) (by rw [ai_len] at he; omega)
        rw [show ((n.toNat : Nat) : Int) = n by omega] at this
        exact this
theorem occ_bound (ks : List Nat) (v : Nat) : (occ ks v).length ≤ ks.length := by rw [occ_len]; exact cnt_le ks v
theorem index_of_eq {N : Nat} {ks : List Nat} (hn : N ≤ 1048576) (he : ks.length ≤ 67108864) {v : Nat} (hv : v < N) : fn_graph_index_of (ixs N ks) (v : Int) = some ((occ ks v).map (fun i : Nat => (i : Int))) := by
  unfold fn_graph_index_of ixs
  have h1 := ltc_le ks (v + 1)
  have h2 := ltc_mono ks (v := v) (w := v + 1) (by omega)
  simp only [getI_map (show v < N + 1 by omega), Option.bind_some, w64s hv (by omega : N ≤ 9223372036854775807), getI_map (show v + 1 < N + 1 by omega)]
  rw [subL_eq (by omega) (by omega) (by simp; omega)]
  simp only [Int.toNat_natCast, Option.bind_some, av_sub]
theorem Nodes_eq (N : Nat) (E : ArG) : fn_graph_Graph_Nodes (some (mkG N E)) = some (N : Int) := rfl
theorem Arcs_eq (N : Nat) (E : ArG) : fn_graph_Graph_Arcs (some (mkG N E)) = some (E.length : Int) := by
  show some ((((ai E).length : Nat) : Int)) = _
  rw [ai_len]
theorem isNode_eq (N : Nat) (E : ArG) (v : Int) : fn_graph_Graph_isNode (some (mkG N E)) v = some (decide (0 ≤ v) && decide (v < (N : Int))) := by
  unfold fn_graph_Graph_isNode
  rw [Nodes_eq]
  cases decide (0 ≤ v) <;> simp
theorem isNode_of {N : Nat} {E : ArG} {v : Nat} (h : v < N) : fn_graph_Graph_isNode (some (mkG N E)) (v : Int) = some true := by
  rw [isNode_eq]; simp [h]
theorem Out_of {N : Nat} {E : ArG} (hn : N ≤ 1048576) (he : E.length ≤ 67108864) {v : Nat} (h : v < N) : fn_graph_Graph_Out (some (mkG N E)) (v : Int) = some ((occ (E.map (·.1)) v).map (fun i : Nat => (i : Int))) := by
  unfold fn_graph_Graph_Out
  rw [isNode_of h]
  have := index_of_eq (ks := E.map (·.1)) hn (by simp; omega) h
  have hb := occ_bound (E.map (·.1)) v
  simp only [Bool.not_true, cond_false, Option.bind_some, mkG]
  rw [this, Option.bind_some]
  have hc : ∀ l : List Int, l.length ≤ 1073741824 → fn_slices_Clone_int_int l = some l := fun l hl => clone_eq l hl
  rw [hc _ (by simp at hb ⊢; omega)]; rfl
theorem occ_arc {E : ArG} {v i : Nat} (h : i ∈ occ (E.map (·.1)) v) : ∃ h : i < E.length, E[i].1 = v := by
  obtain ⟨h1, h2⟩ := occ_mem.1 h
  exact ⟨by simpa using h1, by simpa using h2⟩
/-! ### What is reached. -/
inductive Rch (E : ArG) : Nat → Nat → Prop
  | refl (v : Nat) : Rch E v v
  | step {v w u : Nat} (h : Rch E v w) (e : (w, u) ∈ E) : Rch E v u
theorem Rch.trans {E : ArG} {a b c : Nat} (h : Rch E a b) (k : Rch E b c) : Rch E a c := by
  induction k with
  | refl => exact h
  | step _ e ih => exact ih.step e
theorem Rch.mono {E F : ArG} (hf : ∀ e ∈ E, e ∈ F) {a b : Nat} (h : Rch E a b) : Rch F a b := by
  induction h with
  | refl => exact .refl _
  | step _ e ih => exact ih.step (hf _ e)
theorem Rch.lt {N : Nat} {E : ArG} (hE : inN N E) {a b : Nat} (h : Rch E a b) (ha : a < N) : b < N := by
  cases h with
  | refl => exact ha
  | step _ e => exact (hE _ e).2
/-- What is closed under the arcs has what is reached. -/
theorem Rch.closed {E : ArG} {p : Nat → Prop} {a : Nat} (ha : p a) (hc : ∀ w u, (w, u) ∈ E → p w → p u) {b : Nat} (h : Rch E a b) : p b := by
  induction h with
  | refl => exact ha
  | step _ e ih => exact hc _ _ e ih
theorem nodup_le {A : List Nat} : ∀ {L : List Nat}, L.Nodup → (∀ x ∈ L, x ∈ A) → L.length ≤ A.length := by
  intro L
  induction L generalizing A with
  | nil => intro _ _; simp
  | cons x L ih =>
    intro hd hs
    have hx := hs x (by simp)
    rw [List.nodup_cons] at hd
    have := ih (A := A.erase x) hd.2 (fun y hy => by
      have hne : y ≠ x := fun e => hd.1 (e ▸ hy)
      exact (List.mem_erase_of_ne hne).2 (hs y (by simp [hy])))
    rw [List.length_erase_of_mem hx] at this
    have : 0 < A.length := List.length_pos_of_mem hx
    simp; omega
theorem nodup_lt {L : List Nat} {N : Nat} (hd : L.Nodup) (h : ∀ x ∈ L, x < N) : L.length ≤ N := by
  have := nodup_le (A := List.range N) hd (fun x hx => List.mem_range.2 (h x hx))
  simpa using this
def li (L : List Nat) : List Int := L.map (fun i : Nat => (i : Int))
theorem li_len (L : List Nat) : (li L).length = L.length := by simp [li]
theorem getI_li {L : List Nat} {k : Nat} (h : k < L.length) : getI (li L) (k : Int) = some ((L[k] : Nat) : Int) := by rw [getN (by rw [li_len]; exact h)]; simp [li]
theorem getI_ai {E : ArG} {k : Nat} (h : k < E.length) : getI (ai E) (k : Int) = some (((E[k].1 : Nat) : Int), ((E[k].2 : Nat) : Int)) := by rw [getN (by rw [ai_len]; exact h)]; simp [ai]
open Classical in
noncomputable def rl (N : Nat) (E : ArG) (v : Nat) : List Nat := (List.range N).filter (fun w => decide (Rch E v w))
theorem rl_mem {N : Nat} {E : ArG} (hE : inN N E) {v w : Nat} (hv : v < N) : w ∈ rl N E v ↔ Rch E v w := by
  unfold rl
  simp only [List.mem_filter, List.mem_range, decide_eq_true_eq]
  exact ⟨fun h => h.2, fun h => ⟨h.lt hE hv, h⟩⟩
theorem range_strict (N : Nat) (p : Nat → Bool) : (li ((List.range N).filter p)).Pairwise (· < ·) := by
  unfold li
  rw [List.pairwise_map]
  refine List.Pairwise.imp (R := fun a b : Nat => a < b) (fun h => by omega) ?_
  exact List.pairwise_lt_range.filter p
theorem srt_set {L : List Nat} (hd : L.Nodup) {M : List Nat} (hM : (li M).Pairwise (· < ·)) (h : ∀ w, w ∈ L ↔ w ∈ M) (hl : L.length ≤ 1073741824) : srt (li L) = some (li M) := by
  unfold srt
  rw [if_pos (by rw [li_len]; exact hl)]
  congr 1
  refine strict_eq ?_ hM (fun a => ?_)
  · have hs := List.pairwise_mergeSort (le := fun x y : Int => decide (x ≤ y)) (fun a b c h1 h2 => by simp at *; omega) (fun a b => by simp; omega) (li L)
    have hnd : ((li L).mergeSort fun x y => decide (x ≤ y)).Nodup := by
      refine (List.mergeSort_perm _ _).nodup_iff.2 ?_
      unfold li
      exact List.Pairwise.map _ (fun a b h1 h2 => h1 (by omega)) hd
    exact (List.Pairwise.and hs hnd).imp (fun ⟨h1, h2⟩ => by simp at h1; omega)
  · rw [List.mem_mergeSort]
    unfold li
    simp only [List.mem_map]
    exact ⟨fun ⟨x, hx, e⟩ => ⟨x, (h x).1 hx, e⟩, fun ⟨x, hx, e⟩ => ⟨x, (h x).2 hx, e⟩⟩
end Go.Proofs.YthoclljhjcfemaaGreat
namespace Go.Proofs.YthoclljhjcfemaaGreat
open Go.RowKit
set_option linter.unusedVariables false
set_option linter.unusedSimpArgs false
set_option linter.unnecessarySimpa false
/-- A walk of k arcs from v to w. -/
inductive Wk (E : ArG) (v : Nat) : Nat → Nat → Prop
  | zero : Wk E v 0 v
  | step {k a b : Nat} (h : Wk E v k a) (e : (a, b) ∈ E) : Wk E v (k + 1) b
/-- How far w is from v. -/
def Far (E : ArG) (v w k : Nat) : Prop := Wk E v k w ∧ ∀ j, Wk E v j w → k ≤ j
theorem Wk.trans {E : ArG} {a b c k j : Nat} (h : Wk E a k b) (g : Wk E b j c) : Wk E a (k + j) c := by
  induction g with
  | zero => exact h
  | step _ e ih => exact ih.step e
theorem Wk.rch {E : ArG} {v w k : Nat} (h : Wk E v k w) : Rch E v w := by
  induction h with
  | zero => exact .refl _
  | step _ e ih => exact ih.step e
theorem Rch.wk {E : ArG} {v w : Nat} (h : Rch E v w) : ∃ k, Wk E v k w := by
  induction h with
  | refl => exact ⟨0, .zero⟩
  | step _ e ih => obtain ⟨k, h⟩ := ih; exact ⟨k + 1, h.step e⟩
/-- What is told of distances is true as soon as it is walked, and closed under arcs. -/
theorem far_of_closed {E : ArG} {v : Nat} {d : Nat → Option Nat} (h0 : d v = some 0) (hw : ∀ w k, d w = some k → Wk E v k w) (hc : ∀ a b k, (a, b) ∈ E → d a = some k → ∃ j, d b = some j ∧ j ≤ k + 1) (w k : Nat) : d w = some k ↔ Far E v w k := by
  have low : ∀ j w, Wk E v j w → ∃ k, d w = some k ∧ k ≤ j := by
    intro j w h
    induction h with
    | zero => exact ⟨0, h0, Nat.le_refl _⟩
    | step _ e ih =>
      obtain ⟨k, h1, h2⟩ := ih
      obtain ⟨j, h3, h4⟩ := hc _ _ _ e h1
      exact ⟨j, h3, by omega⟩
  constructor
  · intro h
    refine ⟨hw _ _ h, fun j g => ?_⟩
    obtain ⟨k', h1, h2⟩ := low _ _ g
    rw [h] at h1
    cases h1; exact h2
  · intro h
    obtain ⟨k', h1, h2⟩ := low _ _ h.1
    rw [h1]
    have := h.2 _ (hw _ _ h1)
    congr 1; omega
theorem far_none {E : ArG} {v : Nat} {d : Nat → Option Nat} (h0 : d v = some 0) (hw : ∀ w k, d w = some k → Wk E v k w) (hc : ∀ a b k, (a, b) ∈ E → d a = some k → ∃ j, d b = some j ∧ j ≤ k + 1) (w : Nat) : d w = none ↔ ¬ Rch E v w := by
  constructor
  · intro h hr
    obtain ⟨k, hk⟩ := hr.wk
    induction hk with
    | zero => rw [h0] at h; cases h
    | step g e ih =>
      rename_i k a b
      cases ha : d a with
      | none => exact ih ha g.rch
      | some j => obtain ⟨i, h1, _⟩ := hc _ _ _ e ha; rw [h] at h1; cases h1
  · intro h
    cases hd : d w with
    | none => rfl
    | some k => exact absurd (hw _ _ hd).rch h
/-- A search under way: L: what is found, in the order of finding; the first p of it are done. -/
structure Bfs (N : Nat) (E : ArG) (v : Nat) (L : List Nat) (p : Nat) (d : Nat → Option Nat) : Prop where
  nd : L.Nodup
  lt : ∀ x ∈ L, x < N
  vL : v ∈ L
  pl : p ≤ L.length
  mem : ∀ w, w ∈ L ↔ (d w).isSome
  d0 : d v = some 0
  wk : ∀ w k, d w = some k → Wk E v k w
  up : ∀ i j a b k l : Nat, i ≤ j → L[i]? = some a → L[j]? = some b → d a = some k → d b = some l → k ≤ l
  near : ∀ a b k l : Nat, L[p]? = some a → b ∈ L → d a = some k → d b = some l → l ≤ k + 1
  done : ∀ i a b k : Nat, i < p → L[i]? = some a → (a, b) ∈ E → d a = some k → ∃ j, d b = some j ∧ j ≤ k + 1
theorem Bfs.start {N : Nat} {E : ArG} {v : Nat} (hv : v < N) : Bfs N E v [v] 0 (fun w => if w = v then some 0 else none) where
  nd := by simp
  lt := by simpa using hv
  vL := by simp
  pl := by simp
  mem := fun w => by by_cases h : w = v <;> simp [h]
  d0 := by simp
  wk := fun w k h => by
    split at h
    · cases h; rename_i e; subst e; exact .zero
    · cases h
  up := fun i j a b k l _ _ _ h1 h2 => by
    split at h1 <;> cases h1
    split at h2 <;> cases h2
    exact Nat.le_refl _
  near := fun a b k l _ _ h1 h2 => by
    split at h1 <;> cases h1
    split at h2 <;> cases h2
    omega
  done := fun i a b k h => by omega
theorem Bfs.far {N : Nat} {E : ArG} {v : Nat} {L : List Nat} {d : Nat → Option Nat} (h : Bfs N E v L L.length d) (w k : Nat) : d w = some k ↔ Far E v w k :=
  far_of_closed h.d0 h.wk (fun a b k e ha => by
    have : a ∈ L := (h.mem a).2 (by rw [ha]; rfl)
    obtain ⟨i, hi, e2⟩ := List.mem_iff_getElem.1 this
    exact h.done i a b k hi (by rw [List.getElem?_eq_getElem hi, e2]) e ha) w k
theorem Bfs.far_not {N : Nat} {E : ArG} {v : Nat} {L : List Nat} {d : Nat → Option Nat} (h : Bfs N E v L L.length d) (w : Nat) : d w = none ↔ ¬ Rch E v w :=
  far_none h.d0 h.wk (fun a b k e ha => by
    have : a ∈ L := (h.mem a).2 (by rw [ha]; rfl)
    obtain ⟨i, hi, e2⟩ := List.mem_iff_getElem.1 this
    exact h.done i a b k hi (by rw [List.getElem?_eq_getElem hi, e2]) e ha) w
/-- A node that was not found yet, over an arc out of the one at hand. -/
theorem Bfs.find {N : Nat} {E : ArG} {v : Nat} {L : List Nat} {p : Nat} {d : Nat → Option Nat} (h : Bfs N E v L p d) (hE : inN N E) {a b k : Nat} (ha : L[p]? = some a) (e : (a, b) ∈ E) (hk : d a = some k) (hb : d b = none) :
    Bfs N E v (L ++ [b]) p (fun w => if w = b then some (k + 1) else d w) := by
  have hbL : b ∉ L := fun hm => by have := (h.mem b).1 hm; rw [hb] at this; cases this
  have hpl : p < L.length := (List.getElem?_eq_some_iff.1 ha).1
  have haL : a ∈ L := List.mem_of_getElem? ha
  have hne : ∀ x ∈ L, x ≠ b := fun x hx e => hbL (e ▸ hx)
  have hd : ∀ w l, (if w = b then some (k + 1) else d w) = some l → (w = b ∧ l = k + 1) ∨ (w ≠ b ∧ d w = some l) := by
    intro w l hw
    split at hw
    · cases hw; exact .inl ⟨by assumption, rfl⟩
    · exact .inr ⟨by assumption, hw⟩
  have hL : ∀ {x l : Nat}, d x = some l → x ∈ L := fun {x l} hx => (h.mem x).2 (by rw [hx]; rfl)
  refine ⟨?_, ?_, ?_, ?_, ?_, ?_, ?_, ?_, ?_, ?_⟩
  · rw [List.nodup_append]
    exact ⟨h.nd, by simp, fun x hx y hy => by simp at hy; subst hy; exact hne x hx⟩
  · intro x hx
    rcases List.mem_append.1 hx with hx | hx
    · exact h.lt x hx
    · simp at hx; subst hx; exact (hE _ e).2
  · exact List.mem_append_left _ h.vL
  · rw [List.length_append]; have := h.pl; omega
  · intro w
    by_cases c : w = b
    · simp [c]
    · simp [c, h.mem w]
  · rw [if_neg (hne v h.vL), h.d0]
  · intro w l hw
    rcases hd w l hw with ⟨rfl, rfl⟩ | ⟨_, hw⟩
    · exact (h.wk a k hk).step e
    · exact h.wk w l hw
  · intro i j x y l m hij hx hy hl hm
    rcases hd y m hm with ⟨rfl, rfl⟩ | ⟨hyb, hm⟩
    · rcases hd x l hl with ⟨rfl, rfl⟩ | ⟨hxb, hl⟩
      · exact Nat.le_refl _
      · exact h.near a x k l ha (hL hl) hk hl
    · have hjL : j < L.length := by
        refine Nat.lt_of_not_le fun hge => hyb ?_
        rw [List.getElem?_append_right hge] at hy
        have := List.mem_of_getElem? hy
        simpa using this
      rw [List.getElem?_append_left hjL] at hy
      rw [List.getElem?_append_left (by omega)] at hx
      rcases hd x l hl with ⟨rfl, rfl⟩ | ⟨hxb, hl⟩
      · exact absurd rfl (hne x (List.mem_of_getElem? hx))
      · exact h.up i j x y l m hij hx hy hl hm
  · intro x y l m hx hy hl hm
    rw [List.getElem?_append_left hpl, ha] at hx
    cases hx
    rcases hd a l hl with ⟨rfl, _⟩ | ⟨_, hl⟩
    · exact absurd rfl (hne a haL)
    rw [hk] at hl
    cases hl
    rcases hd y m hm with ⟨rfl, rfl⟩ | ⟨_, hm⟩
    · exact Nat.le_refl _
    · exact h.near a y k m ha (hL hm) hk hm
  · intro i x y l hi hx hxy hl
    rw [List.getElem?_append_left (by omega)] at hx
    rcases hd x l hl with ⟨rfl, _⟩ | ⟨_, hl⟩
    · exact absurd rfl (hne x (List.mem_of_getElem? hx))
    obtain ⟨j, h1, h2⟩ := h.done i x y l hi hx hxy hl
    refine ⟨j, ?_, h2⟩
    rw [if_neg (hne y (hL h1)), h1]
/-- All arcs out of the one at hand are told. -/
theorem Bfs.next {N : Nat} {E : ArG} {v : Nat} {L : List Nat} {p : Nat} {d : Nat → Option Nat} (h : Bfs N E v L p d) {a k : Nat} (ha : L[p]? = some a) (hk : d a = some k) (ho : ∀ b, (a, b) ∈ E → (d b).isSome) : Bfs N E v L (p + 1) d := by
  have hpl : p < L.length := (List.getElem?_eq_some_iff.1 ha).1
  refine ⟨h.nd, h.lt, h.vL, by omega, h.mem, h.d0, h.wk, h.up, ?_, ?_⟩
  · intro x y l m hx hy hl hm
    have h1 := h.up p (p + 1) a x k l (by omega) ha hx hk hl
    have h2 := h.near a y k m ha hy hk hm
    omega
  · intro i x y l hi hx hxy hl
    by_cases c : i = p
    · subst c
      rw [ha] at hx; cases hx
      obtain ⟨j, hj⟩ := Option.isSome_iff_exists.1 (ho y hxy)
      exact ⟨j, hj, h.near a y l j ha ((h.mem y).2 (by rw [hj]; rfl)) hl hj⟩
    · exact h.done i x y l (by omega) hx hxy hl
end Go.Proofs.YthoclljhjcfemaaGreat
