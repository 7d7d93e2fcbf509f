/- append of a text to bytes that are held. Nothing of the program is here. -/
import Derived.Test.YthmnkgldkjkheaaDoorDt
import Derived.Lib.AppendStr
namespace Go.Proofs.YthmnkgldkjkheaaDoor
open Go.RowKit
set_option linter.unusedVariables false
def ofU8 (s : List UInt8) : List Int := s.map fun x => (x.toNat : Int)
theorem els_of {K : Hp} : ∀ (s : List UInt8), Els K (.int .u8) (Lib.strCells ⟨s.toArray⟩) (ofU8 s)
  | [] => rfl
  | x :: s => ⟨[.int .u8 (x.toNat : Int)], Lib.strCells ⟨s.toArray⟩, by simp [Lib.strCells], rfl, els_of s⟩
section
variable {P : Program} {E : En} {n : Nat} {ρ : Sl0} {K : Hp} {L : List Atom} {d : Nat} {t : TypeId} {pos : String} {af : Array Edge} {g : Option (Nat × Bool)} {x y c : Operand} {u v : Value}
theorem run_appS {w : World} {s e tu ty : TypeId} {v : Value} {N : Nat} {cs : List Value} {z : List UInt8} (hs : P.underlying s = some (.slice e)) (hu : P.underlying tu = some .string) (hi : Inf P e (.int .u8 0) 1 1)
    (ho : w.ownsRow 0 e 1 v N cs) (hlen : N + z.length ≤ 1073741824) :
    ∃ v' w', (Builtin.append_ #[s, tu] ty #[v, .string ⟨z.toArray⟩]).run P w = .ok v' w' ∧ w'.ownsRow 0 e 1 v' (N + z.length) (cs ++ Lib.strCells ⟨z.toArray⟩) ∧ w.grownBy w' v.ownBlock ∧ (v'.ownBlock = v.ownBlock ∨ v'.ownBlock = some w.heap.size) := by
  obtain ⟨i, i1, i2, i3, i4⟩ := hi.open
  have hz : (⟨z.toArray⟩ : ByteArray).size = z.length := by simp [ByteArray.size]
  obtain ⟨v', w', h1, h2, h3, h4⟩ := Lib.run_append_own_string (P := P) w 0 s tu ty e i hs hu i1 i2 i3 i4 v N cs ho ⟨z.toArray⟩ (by rw [hz]; unfold maxLen; omega) (by rw [hz]; omega) (Nat.zero_le _)
  rw [hz] at h2
  refine ⟨v', w', h1, h2, h3, ?_⟩
  have hxl : cs.length = N := by simpa using ho.1
  rcases ho.2 with ⟨rfl, rfl⟩ | ⟨g, cap, cur, rfl, hbg, hg, hnc, hcm, hcs, htake⟩
  · by_cases hm : z.length = 0
    · have := h4.2 ⟨rfl, by rw [hz]; exact hm⟩
      subst this; exact .inl rfl
    · have hr := run_append_nil_string (P := P) w s tu ty e i (.int .u8 0) hs hu i1 i2 ⟨z.toArray⟩ (by rw [hz]; omega) (by rw [hz]; omega) (by rw [i4, hz]; omega)
      rw [hr] at h1
      simp only [Result.ok.injEq] at h1
      rw [← h1.1]; exact .inr rfl
  · by_cases hroom : N + z.length ≤ cap
    · have hcs' : cur.size = cap := by simpa using hcs
      have hr := Lib.run_append_room_string (P := P) w s tu ty e i hs hu i1 i3 g N cap cur hg ⟨z.toArray⟩ (by rw [hz]; exact hroom) (by rw [hz]; omega)
      rw [hr] at h1
      simp only [Result.ok.injEq] at h1
      rw [← h1.1]; exact .inl rfl
    · have holds : ∀ j u, cs[j]? = some u → w.cell? ((⟨g, 0, none⟩ : Addr).add j) = some u := ho.cells (g := g) rfl
      have hr := Lib.run_append_grow_string (P := P) w s tu ty e i (.int .u8 0) hs hu i1 i2 ⟨g, 0, none⟩ N cap cs (by rw [i3]; simpa using hxl) holds ⟨z.toArray⟩ (by rw [hz]; omega) (by rw [hz]; omega) (by rw [i4, hz]; exact growslice_fits (by omega) (by omega))
      rw [hr] at h1
      simp only [Result.ok.injEq] at h1
      rw [← h1.1]; exact .inr rfl
/-- append(s, text...), s held. -/
theorem A.appS {s e tu : TypeId} {K0 : Hp} {xs : List Int} {ys : List UInt8} (hs : P.underlying s = some (.slice e)) (hu : P.underlying tu = some .string) (hi : Inf P e (.int .u8 0) 1 1)
    (hx : ev n ρ x = v) (hy : ev n ρ y = .string ⟨ys.toArray⟩) {zs : List Int} (hz : Go.Proofs.YthmnkgldkjkheaaDoor.app xs (ofU8 ys) = some zs) :
    Ao P E n ⟨some d, .call ⟨.builtin .append, #[x, y], #[s, tu]⟩, t, pos, af, g⟩ ρ K (Row K0 e (.int .u8) v xs :: L) (fun ρ' K' L' => ∃ v', ρ' = upd ρ d v' ∧ K = K' ∧ L' = Row Hp.nil e (.int .u8) v' zs :: L) :=
  Ao.of rfl (fun w hsep => by
    obtain ⟨hlen, rfl⟩ := app_some hz
    have hsep' := hsep
    obtain ⟨h, ⟨cs, h1, h2⟩, h3, h4⟩ := hsep
    have hown := h2.owns (w := w) (fun n o e => h4.sub n o (Hp.join_right e (h3 n o e)))
    have hl : (ofU8 ys).length = ys.length := by simp [ofU8]
    obtain ⟨v', w', r1, r2, r3, r5⟩ := run_appS (P := P) (w := w) (ty := t) hs hu hi hown (by rw [hl] at hlen; exact hlen)
    refine ⟨v', w', K, _, ?_, hsep'.grown (K1 := Hp.nil) (t := .int .u8) (zs := xs ++ ofU8 ys) (by rw [List.length_append, hl]) r2 ((Els.flat rfl h1).app (els_of ys)) r3 r5, v', rfl, rfl, rfl⟩
    simp [execOp, resolve, invoke, builtin, hx, hy, r1])
end
end Go.Proofs.YthmnkgldkjkheaaDoor
