/- A part of the proof: what lies ahead of the law. Nothing is claimed here. -/
import Derived.Test.YtkpdfepjanfmbaaZ3
import Derived.Shelf.Small.Bits
import Derived.Shelf.Small.Wraps
import Derived.Shelf.Strconv.Itoa0
import Derived.Shelf.Sort.Plain
import Derived.Ground.Names2Prog
import Derived.Shelf.Slices.Clone
import Derived.Shelf.Slices.CompactI
import Derived.Shelf.Slices.SearchI
import Derived.Shelf.Slices.Cells
import Derived.Shelf.Slices.In.SortNone
import Derived.Test.YtkpdfepjanfmbaaProg
import Derived.Sort.OwnSortedInts
import Derived.Test.YtkpdfepjanfmbaaRows
namespace Go.Proofs
open Go.Shelf
def Try.lays128_ren : Go.Shelf.Ren := ⟨fun | 128 => 43 | n => n, fun | 51 => 91 | 3 => 3 | 4 => 4 | 46 => 78 | 5 => 5 | 9 => 9 | n => n, fun | n => n⟩
theorem Try.lays128 : Go.Proofs.Lays.n128 Try.prog Try.lays128_ren := {
  mixed := by kernel_rfl
  f128 := Try.func43.trans (congrArg some (by kernel_rfl))
  t3 := Try.underlying3
  a3 := Try.isAgg3
  z3 := Try.sizeOf3
  v3 := Try.zeroValue3
  t4 := Try.underlying4
  a4 := Try.isAgg4
  z4 := Try.sizeOf4
  v4 := Try.zeroValue4
  t5 := Try.underlying5
  a5 := Try.isAgg5
  z5 := Try.sizeOf5
  v5 := Try.zeroValue5
  t9 := Try.underlying9
  a9 := Try.isAgg9
  z9 := Try.sizeOf9
  v9 := Try.zeroValue9
  t46 := Try.underlying78
  a46 := Try.isAgg78
  z46 := Try.sizeOf78
  v46 := Try.zeroValue78
  t51 := Try.underlying91
  a51 := Try.isAgg91
  z51 := Try.sizeOf91
  v51 := Try.zeroValue91 }
/-- bits.Len32: "Len32 returns the minimum number of bits required to represent x; the result is 0 for x == 0.": IT RETURNS 'Lib.bitLen x'; the world is as it was. ('h0', 'h1': x is a uint32.) (LAID: no walk: one application.) -/
theorem Try.bits_Len32 (x : Int) (w : World) (h0 : 0 ≤ x) (h1 : x ≤ 4294967295) :
    Calls Try.prog 43 #[.int .u32 x] w fun e w' => e = .returned (.int .i64 (Lib.bitLen x.toNat)) ∧ w' = w := Any.bits_Len32 Try.lays128 x w h0 h1
def Try.lays125_ren : Go.Shelf.Ren := ⟨fun | 125 => 25 | 128 => 43 | 129 => 44 | n => n, fun | 46 => 78 | 3 => 3 | 51 => 91 | 53 => 93 | 4 => 4 | 5 => 5 | 9 => 9 | n => n, fun | n => n⟩
theorem Try.lays125 : Go.Proofs.Lays.n125 Try.prog Try.lays125_ren := {
  mixed := by kernel_rfl
  f125 := Try.func25.trans (congrArg some (by kernel_rfl))
  f128 := Try.func43.trans (congrArg some (by kernel_rfl))
  f129 := Try.func44.trans (congrArg some (by kernel_rfl))
  t3 := Try.underlying3
  a3 := Try.isAgg3
  z3 := Try.sizeOf3
  v3 := Try.zeroValue3
  t4 := Try.underlying4
  a4 := Try.isAgg4
  z4 := Try.sizeOf4
  v4 := Try.zeroValue4
  t5 := Try.underlying5
  a5 := Try.isAgg5
  z5 := Try.sizeOf5
  v5 := Try.zeroValue5
  t9 := Try.underlying9
  a9 := Try.isAgg9
  z9 := Try.sizeOf9
  v9 := Try.zeroValue9
  t46 := Try.underlying78
  a46 := Try.isAgg78
  z46 := Try.sizeOf78
  v46 := Try.zeroValue78
  t51 := Try.underlying91
  a51 := Try.isAgg91
  z51 := Try.sizeOf91
  v51 := Try.zeroValue91
  t53 := Try.underlying93
  a53 := Try.isAgg93
  z53 := Try.sizeOf93
  v53 := Try.zeroValue93 }
/-- bits.Len: "Len returns the minimum number of bits required to represent x; the result is 0 for x == 0.": IT RETURNS 'Lib.bitLen x'; the world is as it was. (A uint has 64 bits in the model.) ITS CALLEE bits.Len64 IS MET BY ITS OWN CONTRACT OFF THE SHELF (lay that first). (LAID: no walk: one application.) -/
theorem Try.bits_Len (x : Int) (w : World) (h0 : 0 ≤ x) (h1 : x ≤ 18446744073709551615) :
    Calls Try.prog 25 #[.int .u64 x] w fun e w' => e = .returned (.int .i64 (Lib.bitLen x.toNat)) ∧ w' = w := Any.bits_Len Try.lays125 x w h0 h1
def Try.lays215_ren : Go.Shelf.Ren := ⟨fun | 215 => 58 | n => n, fun | 3 => 3 | 4 => 4 | n => n, fun | n => n⟩
theorem Try.lays215 : Go.Proofs.Lays.n215 Try.prog Try.lays215_ren := {
  mixed := by kernel_rfl
  f215 := Try.func58.trans (congrArg some (by kernel_rfl))
  t3 := Try.underlying3
  a3 := Try.isAgg3
  z3 := Try.sizeOf3
  v3 := Try.zeroValue3
  t4 := Try.underlying4
  a4 := Try.isAgg4
  z4 := Try.sizeOf4
  v4 := Try.zeroValue4 }
open Go.RowKit in
/-- cmp.isNaN at int: 'x != x': false. (LAID: no walk: one application.) -/
theorem Try.cmp_isNaN_int (x : Int) (w : World) :
    Calls Try.prog 58 #[.int .i64 x] w fun e w' => e = .returned (.bool false) ∧ w' = w := Any.cmp_isNaN_int Try.lays215 x w
def Try.lays129_ren : Go.Shelf.Ren := ⟨fun | 129 => 44 | n => n, fun | 53 => 93 | 3 => 3 | 4 => 4 | 46 => 78 | 5 => 5 | 9 => 9 | n => n, fun | n => n⟩
theorem Try.lays129 : Go.Proofs.Lays.n129 Try.prog Try.lays129_ren := {
  mixed := by kernel_rfl
  f129 := Try.func44.trans (congrArg some (by kernel_rfl))
  t3 := Try.underlying3
  a3 := Try.isAgg3
  z3 := Try.sizeOf3
  v3 := Try.zeroValue3
  t4 := Try.underlying4
  a4 := Try.isAgg4
  z4 := Try.sizeOf4
  v4 := Try.zeroValue4
  t5 := Try.underlying5
  a5 := Try.isAgg5
  z5 := Try.sizeOf5
  v5 := Try.zeroValue5
  t9 := Try.underlying9
  a9 := Try.isAgg9
  z9 := Try.sizeOf9
  v9 := Try.zeroValue9
  t46 := Try.underlying78
  a46 := Try.isAgg78
  z46 := Try.sizeOf78
  v46 := Try.zeroValue78
  t53 := Try.underlying93
  a53 := Try.isAgg93
  z53 := Try.sizeOf93
  v53 := Try.zeroValue93 }
/-- bits.Len64: "Len64 returns the minimum number of bits required to represent x; the result is 0 for x == 0.": IT RETURNS 'Lib.bitLen x'; the world is as it was. ('h0', 'h1': x is a uint64.) (LAID: no walk: one application.) -/
theorem Try.bits_Len64 (x : Int) (w : World) (h0 : 0 ≤ x) (h1 : x ≤ 18446744073709551615) :
    Calls Try.prog 44 #[.int .u64 x] w fun e w' => e = .returned (.int .i64 (Lib.bitLen x.toNat)) ∧ w' = w := Any.bits_Len64 Try.lays129 x w h0 h1
def Try.lays189_ren : Go.Shelf.Ren := ⟨fun | 189 => 21 | 125 => 25 | 257 => 24 | 128 => 43 | 129 => 44 | 294 => 34 | 295 => 35 | 296 => 36 | 297 => 37 | 298 => 38 | 299 => 39 | 216 => 40 | 300 => 41 | 301 => 42 | 328 => 53 | 329 => 54 | 330 => 55 | 331 => 56 | 332 => 57 | 215 => 58 | 343 => 65 | n => n, fun | 28 => 35 | 3 => 3 | 46 => 78 | 0 => 0 | 51 => 91 | 53 => 93 | 4 => 4 | 183 => 84 | 182 => 83 | 131 => 40 | 5 => 5 | 9 => 9 | 218 => 108 | 222 => 112 | 228 => 122 | 229 => 123 | n => n, fun | n => n⟩
theorem Try.lays189 : Go.Proofs.Lays.n189 Try.prog Try.lays189_ren := {
  mixed := by kernel_rfl
  f125 := Try.func25.trans (congrArg some (by kernel_rfl))
  f128 := Try.func43.trans (congrArg some (by kernel_rfl))
  f129 := Try.func44.trans (congrArg some (by kernel_rfl))
  f189 := Try.func21.trans (congrArg some (by kernel_rfl))
  f215 := Try.func58.trans (congrArg some (by kernel_rfl))
  f216 := Try.func40.trans (congrArg some (by kernel_rfl))
  f257 := Try.func24.trans (congrArg some (by kernel_rfl))
  f294 := Try.func34.trans (congrArg some (by kernel_rfl))
  f295 := Try.func35.trans (congrArg some (by kernel_rfl))
  f296 := Try.func36.trans (congrArg some (by kernel_rfl))
  f297 := Try.func37.trans (congrArg some (by kernel_rfl))
  f298 := Try.func38.trans (congrArg some (by kernel_rfl))
  f299 := Try.func39.trans (congrArg some (by kernel_rfl))
  f300 := Try.func41.trans (congrArg some (by kernel_rfl))
  f301 := Try.func42.trans (congrArg some (by kernel_rfl))
  f328 := Try.func53.trans (congrArg some (by kernel_rfl))
  f329 := Try.func54.trans (congrArg some (by kernel_rfl))
  f330 := Try.func55.trans (congrArg some (by kernel_rfl))
  f331 := Try.func56.trans (congrArg some (by kernel_rfl))
  f332 := Try.func57.trans (congrArg some (by kernel_rfl))
  f343 := Try.func65.trans (congrArg some (by kernel_rfl))
  t0 := Try.underlying0
  a0 := Try.isAgg0
  z0 := Try.sizeOf0
  v0 := Try.zeroValue0
  t3 := Try.underlying3
  a3 := Try.isAgg3
  z3 := Try.sizeOf3
  v3 := Try.zeroValue3
  t4 := Try.underlying4
  a4 := Try.isAgg4
  z4 := Try.sizeOf4
  v4 := Try.zeroValue4
  t5 := Try.underlying5
  a5 := Try.isAgg5
  z5 := Try.sizeOf5
  v5 := Try.zeroValue5
  t9 := Try.underlying9
  a9 := Try.isAgg9
  z9 := Try.sizeOf9
  v9 := Try.zeroValue9
  t28 := Try.underlying35
  a28 := Try.isAgg35
  z28 := Try.sizeOf35
  v28 := Try.zeroValue35
  t46 := Try.underlying78
  a46 := Try.isAgg78
  z46 := Try.sizeOf78
  v46 := Try.zeroValue78
  t51 := Try.underlying91
  a51 := Try.isAgg91
  z51 := Try.sizeOf91
  v51 := Try.zeroValue91
  t53 := Try.underlying93
  a53 := Try.isAgg93
  z53 := Try.sizeOf93
  v53 := Try.zeroValue93
  t131 := Try.underlying40
  a131 := Try.isAgg40
  z131 := Try.sizeOf40
  v131 := Try.zeroValue40
  t182 := Try.underlying83
  a182 := Try.isAgg83
  z182 := Try.sizeOf83
  v182 := Try.zeroValue83
  t183 := Try.underlying84
  a183 := Try.isAgg84
  z183 := Try.sizeOf84
  v183 := Try.zeroValue84
  t218 := Try.underlying108
  a218 := Try.isAgg108
  z218 := Try.sizeOf108
  v218 := Try.zeroValue108
  t222 := Try.underlying112
  a222 := Try.isAgg112
  z222 := Try.sizeOf112
  v222 := Try.zeroValue112
  t228 := Try.underlying122
  a228 := Try.isAgg122
  z228 := Try.sizeOf122
  v228 := Try.zeroValue122
  t229 := Try.underlying123
  a229 := Try.isAgg123
  z229 := Try.sizeOf123
  v229 := Try.zeroValue123 }
open Go.Sort Go.RowKit in
theorem Try.slices_Sort_int (blk off cap : Nat) (zs : List Int) (w : World) (hH : Holds (Value.int .i64) w blk off zs.toArray) (hblk : blk < w.heap.size) (hsz : zs.length < 4611686018427387904) :
    Calls Try.prog 21 #[.slice (some ⟨blk, off, none⟩) zs.length cap] w fun e w' =>
      e = .returned (.tuple #[]) ∧ ∃ n os, w' = grow (putRow (Value.int .i64) (Sort.ahead w n) blk off (zs.mergeSort fun x y => decide (x ≤ y)).toArray) os := Any.slices_Sort_int Try.lays189 blk off cap zs w hH hblk hsz
def Try.laysNm215_ren : Go.Shelf.Ren := ⟨fun | 15 => 19 | n => n, fun | 22 => 35 | 3 => 3 | 4 => 4 | n => n, fun | n => n⟩
theorem Try.laysNm215 : Go.Proofs.Lays2.n15 Try.prog Try.laysNm215_ren := {
  mixed := by kernel_rfl
  f15 := Try.func19.trans (congrArg some (by kernel_rfl))
  t3 := Try.underlying3
  a3 := Try.isAgg3
  z3 := Try.sizeOf3
  v3 := Try.zeroValue3
  t4 := Try.underlying4
  a4 := Try.isAgg4
  z4 := Try.sizeOf4
  v4 := Try.zeroValue4
  t22 := Try.underlying35
  a22 := Try.isAgg35
  z22 := Try.sizeOf35
  v22 := Try.zeroValue35
  i3 := by kernel_rfl }
open Go.RowKit Go.Lib in
/-- slices.Clone at []int: "Clone returns a copy of the slice. The elements are copied using assignment, so this is a shallow clone. The result may have additional unused capacity. The result preserves the nilness of s.": OF A SLICE THAT IS NOT nil IT RETURNS A SLICE THAT IS NOT nil, OF THE SAME ELEMENTS, IN MEMORY OF THE CALL's OWN: in the how-to's words (6f): 'w'.ownsRow B e 1 v' n cells': v' begins at the head of a row among the blocks from B on (B: the heap's size at the call), not frozen, whose first cells are the elements · 'Below B w w'': below B all is as it was. The capacity is whatever the run-time gives. 'zs': what the cells behind the slice's address hold; 'zs.take n': its elements. (LAID: no walk: one application.) -/
theorem Try.slices_Clone_int (b off n c : Nat) (zs : List Int) (w : World) (hz : n ≤ zs.length) (hbig : n * 8 ≤ 140737488355328) (hc : ∀ j, j < zs.length → w.cell? ⟨b, off + j, none⟩ = some (.int .i64 (zs.getD j 0))) :
    Calls Try.prog 19 #[.slice (some ⟨b, off, none⟩) n c] w fun e w' => ∃ v', e = .returned v' ∧ w'.ownsRow w.heap.size 3 1 v' n ((zs.take n).map (Value.int .i64)) ∧ v' ≠ .slice none 0 0 ∧ Below w.heap.size w w' := Any.slices_Clone_int Try.laysNm215 b off n c zs w hz hbig hc
open Go.RowKit Go.Lib in
/-- The same at nil: nil comes back; the world is as it was. (LAID: no walk: one application.) -/
theorem Try.slices_Clone_int_nil (n c : Nat) (w : World) :
    Calls Try.prog 19 #[.slice none n c] w fun e w' => e = .returned (.slice none 0 0) ∧ w' = w := Any.slices_Clone_int_nil Try.laysNm215 n c w
open Go.RowKit Go.Lib in
/-- The same at a slice of length 0 that is not nil, WHATEVER ITS ADDRESS (no cell is asked for): a slice that is not nil and owns nothing comes back. (LAID: no walk: one application.) -/
theorem Try.slices_Clone_int_zero (a : Addr) (c : Nat) (w : World) :
    Calls Try.prog 19 #[.slice (some a) 0 c] w fun e w' => ∃ v', e = .returned v' ∧ w'.ownsRow w.heap.size 3 1 v' 0 [] ∧ v' ≠ .slice none 0 0 ∧ Below w.heap.size w w' := Any.slices_Clone_int_zero Try.laysNm215 a c w
def Try.laysNm220_ren : Go.Shelf.Ren := ⟨fun | 20 => 22 | n => n, fun | 22 => 35 | 3 => 3 | 4 => 4 | 0 => 0 | n => n, fun | n => n⟩
theorem Try.laysNm220 : Go.Proofs.Lays2.n20 Try.prog Try.laysNm220_ren := {
  mixed := by kernel_rfl
  f20 := Try.func22.trans (congrArg some (by kernel_rfl))
  t0 := Try.underlying0
  a0 := Try.isAgg0
  z0 := Try.sizeOf0
  v0 := Try.zeroValue0
  t3 := Try.underlying3
  a3 := Try.isAgg3
  z3 := Try.sizeOf3
  v3 := Try.zeroValue3
  t4 := Try.underlying4
  a4 := Try.isAgg4
  z4 := Try.sizeOf4
  v4 := Try.zeroValue4
  t22 := Try.underlying35
  a22 := Try.isAgg35
  z22 := Try.sizeOf35
  v22 := Try.zeroValue35
  i3 := by kernel_rfl }
open Go.RowKit Go.Lib Go.Sort in
/-- slices.Compact at []int, over an array: the library's two loops are walked. (LAID: no walk: one application.) -/
theorem Try.slices_Compact_int_arr (blk off cap : Nat) (d : Array Int) (w : World) (hH : Holds encI w blk off d) (hsz : d.size ≤ 9223372036854775807) (hcap : d.size ≤ cap) :
    Calls Try.prog 22 #[.slice (some ⟨blk, off, none⟩) d.size cap] w fun e w' => e = .returned (.slice (some ⟨blk, off, none⟩) (compactUpTo d d.size).length cap) ∧ ∃ q, w' = putRow encI (Sort.ahead w q) blk off (compactUpTo d d.size ++ List.replicate (d.size - (compactUpTo d d.size).length) 0).toArray := Any.slices_Compact_int_arr Try.laysNm220 blk off cap d w hH hsz hcap
open Go.RowKit Go.Lib Go.Sort in
/-- slices.Compact at []int: "Compact replaces consecutive runs of equal elements with a single copy. This is like the uniq command found on Unix. Compact modifies the contents of the slice s and returns the modified slice, which may have a smaller length. Compact zeroes the elements between the new length and the original length. The result preserves the nilness of s.": IT RETURNS THE SLICE CUT TO 'Lib.compact zs'; ITS CELLS HOLD 'Lib.compact zs', THEN ZERO VALUES up to the old length; all else is as it was, but for the count of draws. IN THE WORDS OF slices.Sort's CONTRACT ('Holds', 'putRow'): so the everyday 'slices.Sort(xs); xs = slices.Compact(xs)' goes from the one contract to the other. It asks 'zs.length ≤ cap' (every slice's: the reslicing 's[:k]' looks at it). Length 0, nil: '.._empty'. (LAID: no walk: one application.) -/
theorem Try.slices_Compact_int (blk off cap : Nat) (zs : List Int) (w : World) (hH : Holds (Value.int .i64) w blk off zs.toArray) (hsz : zs.length ≤ 9223372036854775807) (hcap : zs.length ≤ cap) :
    Calls Try.prog 22 #[.slice (some ⟨blk, off, none⟩) zs.length cap] w fun e w' => e = .returned (.slice (some ⟨blk, off, none⟩) (Lib.compact zs).length cap) ∧ ∃ q, w' = putRow (Value.int .i64) (Sort.ahead w q) blk off (Lib.compact zs ++ List.replicate (zs.length - (Lib.compact zs).length) 0).toArray := Any.slices_Compact_int Try.laysNm220 blk off cap zs w hH hsz hcap
open Go.RowKit Go.Lib Go.Sort in
/-- The same at a slice of length 0, a nil one too: it comes back as it is. (LAID: no walk: one application.) -/
theorem Try.slices_Compact_int_empty (a : Option Addr) (cap : Nat) (w : World) :
    Calls Try.prog 22 #[.slice a 0 cap] w fun e w' => e = .returned (.slice a 0 cap) ∧ w' = w := Any.slices_Compact_int_empty Try.laysNm220 a cap w
def Try.laysNm237_ren : Go.Shelf.Ren := ⟨fun | 37 => 58 | n => n, fun | 3 => 3 | 4 => 4 | n => n, fun | n => n⟩
theorem Try.laysNm237 : Go.Proofs.Lays2.n37 Try.prog Try.laysNm237_ren := {
  mixed := by kernel_rfl
  f37 := Try.func58.trans (congrArg some (by kernel_rfl))
  t3 := Try.underlying3
  a3 := Try.isAgg3
  z3 := Try.sizeOf3
  v3 := Try.zeroValue3
  t4 := Try.underlying4
  a4 := Try.isAgg4
  z4 := Try.sizeOf4
  v4 := Try.zeroValue4 }
open Go.RowKit Go.Lib in
/-- cmp.isNaN[int]: 'x != x': false. (LAID: no walk: one application.) -/
theorem Try.cmp_isNaN_int2 (x : Int) (w : World) :
    Calls Try.prog 58 #[.int .i64 x] w fun e w' => e = .returned (.bool false) ∧ w' = w := Any.cmp_isNaN_int2 Try.laysNm237 x w
def Try.laysNm231_ren : Go.Shelf.Ren := ⟨fun | 31 => 40 | 37 => 58 | n => n, fun | 3 => 3 | 4 => 4 | n => n, fun | n => n⟩
theorem Try.laysNm231 : Go.Proofs.Lays2.n31 Try.prog Try.laysNm231_ren := {
  mixed := by kernel_rfl
  f31 := Try.func40.trans (congrArg some (by kernel_rfl))
  f37 := Try.func58.trans (congrArg some (by kernel_rfl))
  t3 := Try.underlying3
  a3 := Try.isAgg3
  z3 := Try.sizeOf3
  v3 := Try.zeroValue3
  t4 := Try.underlying4
  a4 := Try.isAgg4
  z4 := Try.sizeOf4
  v4 := Try.zeroValue4 }
open Go.RowKit Go.Lib in
/-- cmp.Less[int]: "Less reports whether x is less than y.": 'x < y'; the world is as it was. (LAID: no walk: one application.) -/
theorem Try.cmp_Less_int2 (x y : Int) (w : World) :
    Calls Try.prog 40 #[.int .i64 x, .int .i64 y] w fun e w' => e = .returned (.bool (decide (x < y))) ∧ w' = w := Any.cmp_Less_int2 Try.laysNm231 x y w
open Go.RowKit Go.Lib Go.Sort in
/-- slices.Compact at []int, of an argument: the slice cut to 'Lib.compact (elements)'; the n cells hold that, then zeros. (LAID: no walk: one application.) -/
theorem Try.slices_Compact_int_cells (b off n c : Nat) (zs : List Int) (w : World) (hz : n ≤ zs.length) (hbig : n ≤ 9223372036854775807) (hcap : n ≤ c) (hc : ∀ j, j < zs.length → w.cell? ⟨b, off + j, none⟩ = some (.int .i64 (zs.getD j 0))) (hf : ∀ j, j < n → w.frozen? ⟨b, off + j, none⟩ = false) :
    Calls Try.prog 22 #[.slice (some ⟨b, off, none⟩) n c] w fun e w' => e = .returned (.slice (some ⟨b, off, none⟩) (Lib.compact (zs.take n)).length c) ∧ ∃ q, w' = (w.drewN q).setCells b off ((Lib.compact (zs.take n) ++ List.replicate (n - (Lib.compact (zs.take n)).length) 0).map (Value.int .i64)) := Any.slices_Compact_int_cells Try.laysNm220 b off n c zs w hz hbig hcap hc hf
open Go.RowKit Go.Sort in
/-- .. and plain. (LAID: no walk: one application.) -/
theorem Try.slices_Sort_int_none (p : Option Addr) (cap : Nat) (w : World) :
    Calls Try.prog 21 #[.slice p 0 cap] w fun e w' => e = .returned (.tuple #[]) ∧ w' = w := Any.slices_Sort_int_none Try.lays189 p cap w
end Go.Proofs
namespace Go.Proofs.Ytkpdfepjanfmbaa
open Go.RowKit
set_option linter.unusedVariables false
def srt (xs : List Int) : Option (List Int) := if xs.length ≤ 1073741824 then some (xs.mergeSort fun x y => decide (x ≤ y)) else none
theorem srt_some {xs r : List Int} (h : srt xs = some r) : xs.length ≤ 1073741824 ∧ xs.mergeSort (fun x y => decide (x ≤ y)) = r := by
  unfold srt at h; split at h
  · rename_i hh; cases h; exact ⟨hh, rfl⟩
  · cases h
theorem els_ints (K : Hp) : ∀ xs : List Int, Els K (.int .i64) (xs.map (Value.int .i64)) xs
  | [] => rfl
  | x :: xs => ⟨[.int .i64 x], _, rfl, rfl, els_ints K xs⟩
theorem els_ints_eq {K : Hp} : ∀ {xs : List Int} {cs : List Value}, Els K (.int .i64) cs xs → cs = xs.map (Value.int .i64)
  | [], cs, h => h
  | x :: xs, cs, h => by
    obtain ⟨es, r, rfl, h1, h2⟩ := h
    obtain rfl : es = [.int .i64 x] := h1
    rw [els_ints_eq h2]; rfl
theorem slices_Sort_ok {K : Hp} {ad : Option Addr} {m cap : Nat} {xs r : List Int} (h : srt xs = some r) :
    Tr Try.prog 21 #[.slice ad m cap] K [Row Hp.nil 3 (.int .i64) (.slice ad m cap) xs] (fun v K' L' => (∃ (l : List Int), l = r ∧ v = .tuple #[] ∧ L' = [Row Hp.nil 3 (.int .i64) (.slice ad m cap) l]) ∧ K = K') := by
  obtain ⟨hl, rfl⟩ := srt_some h
  refine Tr.k (fun E w F hs => ?_)
  have hs' := hs
  obtain ⟨h0, ⟨cs, h1, h2⟩, hd, hs2⟩ := hs
  have hle : h0.le (Hp.of w) := fun n o e => hs2.sub n o (Hp.join_right e (hd n o e))
  obtain rfl := els_ints_eq h1
  have h2' := h2
  obtain ⟨h3, h4⟩ := h2
  rcases h4 with ⟨h5, h6, _⟩ | ⟨g, cp, cur, h5, rfl, h6, h7, h8, h9⟩
  · cases h5
    obtain rfl : xs = [] := List.length_eq_zero_iff.1 h6
    refine (Try.slices_Sort_int_none none 0 w).mono ?_
    rintro e w' ⟨rfl, rfl⟩
    exact ⟨_, K, _, rfl, ⟨_, rfl, rfl, rfl⟩, Hp.le_refl K, by simpa using hs'⟩
  · cases h5
    have hb := hle g _ (one_of g _)
    have ht : cur.toList.take xs.length = xs.map (Value.int .i64) := by simpa [Tp.size] using h9
    refine (Try.slices_Sort_int g 0 cap xs w (holds_of_blockI hb ht) (lt_of_block hb) (by omega)).mono ?_
    rintro e w' ⟨rfl, n, os, rfl⟩
    have hlen : (xs.mergeSort fun x y => decide (x ≤ y)).length = xs.length := List.length_mergeSort xs
    have ho := ownsRow_sortedI (n := n) (os := os) (base := 0) (cap := cap) hlen (Nat.zero_le g) hb h6 h7 (by simpa [Tp.size] using h8)
    refine ⟨_, K, [Row Hp.nil 3 (.int .i64) (.slice (some ⟨g, 0, none⟩) xs.length cap) (xs.mergeSort fun x y => decide (x ≤ y))], rfl, ⟨_, rfl, rfl, rfl⟩, Hp.le_refl K, ?_⟩
    exact hs'.grown hlen.symm (by simpa [hlen, Tp.size] using ho) (els_ints _ _) (grownBy_sortedI _) (.inl rfl)
def cmpt (xs : List Int) : Option (List Int) := some (Lib.compact xs)
theorem slices_Compact_ok {K : Hp} {ad : Option Addr} {m cap : Nat} {xs r : List Int} (h : cmpt xs = some r) :
    Tr Try.prog 22 #[.slice ad m cap] K [Row Hp.nil 3 (.int .i64) (.slice ad m cap) xs] (fun v K' L' => (∃ (l : List Int) (ad1 : Option Addr) (cp1 : Nat), l = r ∧ v = .slice ad1 l.length cp1 ∧ L' = [Row Hp.nil 3 (.int .i64) (.slice ad1 l.length cp1) l]) ∧ K = K') := by
  cases h
  refine Tr.k (fun E w F hs => ?_)
  have hs' := hs
  obtain ⟨h0, ⟨cs, h1, h2⟩, hd, hs2⟩ := hs
  have hle : h0.le (Hp.of w) := fun n o e => hs2.sub n o (Hp.join_right e (hd n o e))
  obtain rfl := els_ints_eq h1
  obtain ⟨h3, h4⟩ := h2
  rcases h4 with ⟨h5, h6, _⟩ | ⟨g, cp, cur, h5, rfl, h6, h7, h8, h9⟩
  · cases h5
    obtain rfl : xs = [] := List.length_eq_zero_iff.1 h6
    refine (Try.slices_Compact_int_empty none 0 w).mono ?_
    rintro e w' ⟨rfl, rfl⟩
    exact ⟨_, K, _, rfl, ⟨_, none, 0, rfl, rfl, rfl⟩, Hp.le_refl K, hs'⟩
  · cases h5
    have hb := hle g _ (one_of g _)
    have ht : cur.toList.take xs.length = xs.map (Value.int .i64) := by simpa [Tp.size] using h9
    have hcl : (Lib.compact xs).length ≤ xs.length := Lib.compact_length_le xs
    refine (Try.slices_Compact_int g 0 cap xs w (holds_of_blockI hb ht) (by unfold maxLen at h7; omega) h6).mono ?_
    rintro e w' ⟨rfl, q, rfl⟩
    have hlen : (Lib.compact xs ++ List.replicate (xs.length - (Lib.compact xs).length) (0 : Int)).length = xs.length := by simp; omega
    have ho := ownsRow_sortedI (n := q) (os := #[]) (base := 0) (cap := cap) hlen (Nat.zero_le g) hb h6 h7 (by simpa [Tp.size] using h8)
    have hg := grownBy_sortedI (w := w) (g := g) (n := q) (os := #[]) (Lib.compact xs ++ List.replicate (xs.length - (Lib.compact xs).length) (0 : Int)).toArray
    rw [show ∀ W : World, Sort.grow W #[] = W from fun W => by simp [Sort.grow]] at ho hg
    refine ⟨_, K, [Row Hp.nil 3 (.int .i64) (.slice (some ⟨g, 0, none⟩) (Lib.compact xs).length cap) (Lib.compact xs)], rfl, ⟨_, _, _, rfl, rfl, rfl⟩, Hp.le_refl K, ?_⟩
    refine hs'.grown rfl ?_ (els_ints _ _) hg (.inl rfl)
    obtain ⟨o1, o2⟩ := ho
    refine ⟨by simp [Tp.size], ?_⟩
    rcases o2 with ⟨o2, _⟩ | ⟨g', cp', cur', o2, o3, o4, o5, o6, o7, o8⟩
    · cases o2
    · simp only [Value.slice.injEq, Option.some.injEq, Addr.mk.injEq, and_true] at o2
      obtain ⟨rfl, _, rfl⟩ := o2
      refine .inr ⟨g, cap, cur', rfl, Nat.zero_le _, o4, by omega, o6, by simpa [Tp.size] using o7, ?_⟩
      have : cur'.toList.take (Lib.compact xs).length = (cur'.toList.take xs.length).take (Lib.compact xs).length := by rw [List.take_take, Nat.min_eq_left hcl]
      simp only [Nat.mul_one] at o8
      have hsz : (Tp.int IntKind.i64).size = 1 := rfl
      rw [hsz, Nat.mul_one, this, o8, List.map_append, List.take_append_of_le_length (by simp), List.take_of_length_le (by simp)]
end Go.Proofs.Ytkpdfepjanfmbaa
namespace Go.Proofs.Ytkpdfepjanfmbaa
open Go.RowKit
set_option linter.unusedVariables false
set_option linter.unnecessarySimpa false
set_option linter.unusedSectionVars false
set_option linter.unusedSimpArgs false
variable [BldA]
/-- What is asked of one row: its value, what it holds. -/
theorem row_pre {m : List M} {K : Hp} {x : List Int} {e : TypeId} {args : List Value} {E : En} {w : World} {F : List Atom} (hm : m.length = 2) (hH : HA.ok m K (.row 0 1 e (.int .i64) x x.length)) (hsl : slR m K [(0, .own 0)] args) (hs : Sep E K ([HA.row 0 1 e (.int .i64) x x.length].map (HA.conc m) ++ F) w) :
    ∃ ad cap, args = [.slice ad x.length cap] ∧ m[0]? = some (.val (.slice ad x.length cap)) ∧ Sep E K (Row Hp.nil e (.int .i64) (.slice ad x.length cap) x :: F) w := by
  obtain ⟨ad, cap, cs, e0, e1, hE, _, h1, h2, h3⟩ := hH
  obtain ⟨u, r, rfl, ⟨e2, e3⟩, rfl⟩ := hsl
  rw [e0] at e2
  cases e2
  refine ⟨ad, cap, rfl, e0, ?_⟩
  have hs' : Sep E K (HA.conc m (.row 0 1 e (.int .i64) x x.length) :: F) w := hs
  simp only [HA.conc, e0, e1] at hs'
  exact hs'.mono (fun h k => ⟨cs, Els.flat rfl hE, k⟩)
/-- What is known of a row behind the call. -/
theorem row_post {K : Hp} {e : TypeId} {ad : Option Addr} {n cap : Nat} {l : List Int} {E : En} {w : World} {F : List Atom} (hs : Sep E K ([Row Hp.nil e (.int .i64) (.slice ad n cap) l] ++ F) w) :
    n = l.length ∧ l.length ≤ cap ∧ cap ≤ maxLen ∧ (l ≠ [] → ∃ g, ad = some ⟨g, 0, none⟩) ∧ ∃ cs, Els K (.int .i64) cs l ∧ Sep E K (Rw e 1 (.slice ad l.length cap) l.length cs :: F) w := by
  have hs : Sep E K (Row Hp.nil e (.int .i64) (.slice ad n cap) l :: F) w := hs
  obtain ⟨ad', cap', h1, h2, h3, h4⟩ := hs.fact (fun h k => Row.form h k)
  cases h1
  obtain ⟨h0, ⟨cs, hE, hR⟩, hd, hs2⟩ := hs
  exact ⟨rfl, h2, h3, h4, cs, Els.flat rfl hE, h0, hR, hd, hs2⟩
noncomputable def sp_Sort : Spec := ⟨21, ⟨[(0, .rp 0)], [⟨none, 0, [], false, false, some (.row 3 (.dat (.int .i64)))⟩]⟩, [⟨[], [⟨some 0, 0, [], false, false, some (.row 3 (.dat (.int .i64)))⟩]⟩], fun x => srt x⟩
theorem Sort_is : SpecOk Try.prog sp_Sort := by
  intro x r hr vs u hu m K args hm hH hsl E w F hs
  have hu' : sp_Sort.inn.un (TL.list _ x) 0 = some ([(0, .own 0)], ⟨[], 2, [.row 0 1 3 (.int .i64) x (List.length (α := Int) x)], []⟩) := rfl
  rw [hu'] at hu
  cases hu
  replace hm : m.length = 2 := hm
  obtain ⟨ad, cap, rfl, e0, hs'⟩ := row_pre hm (hH _ (by simp)) hsl hs
  refine (slices_Sort_ok (K := K) hr E w F hs').mono ?_
  rintro e w' ⟨v, K', L', rfl, ⟨⟨l, rfl, rfl, rfl⟩, rfl⟩, h1, h2⟩
  obtain ⟨g1, g2, g3, g4, cs, g5, g6⟩ := row_post h2
  have hm0 : (m ++ [M.cont (.int .i64) l cs])[0]? = some (.val (.slice ad (List.length (α := Int) l) cap)) := by
    rw [List.getElem?_append_left (by omega), e0, g1]
  have hm1 : (m ++ [M.cont (.int .i64) l cs])[2]? = some (.cont (.int .i64) l cs) := by
    rw [List.getElem?_append_right (by omega), hm]; rfl
  refine ⟨_, K, _, rfl, ⟨[], ⟨[], 3, [.row 0 2 3 (.int .i64) l (List.length (α := Int) l)], []⟩, m ++ [.cont (.int .i64) l cs], rfl, List.prefix_append _ _, by simp [hm], ?_, rfl, rfl⟩, h1, ?_⟩
  · intro a ha
    simp only [List.mem_singleton] at ha
    subst ha
    exact ⟨ad, cap, cs, hm0, hm1, g5, rfl, g2, g3, g4⟩
  · show Sep E K (HA.conc _ (.row 0 2 3 (.int .i64) l (List.length (α := Int) l)) :: F) w'
    simp only [HA.conc, hm0, hm1]
    exact g6
noncomputable def ok_Sort : OkSpec Try.prog := ⟨sp_Sort, Sort_is, Try.call21⟩
noncomputable def sp_Compact : Spec := ⟨22, ⟨[(0, .own 3 (.int .i64))], []⟩, [⟨[(0, .own 3 (.int .i64))], []⟩], fun x => cmpt x⟩
theorem Compact_is : SpecOk Try.prog sp_Compact := by
  intro x r hr vs u hu m K args hm hH hsl E w F hs
  have hu' : sp_Compact.inn.un (TL.list _ x) 0 = some ([(0, .own 0)], ⟨[], 2, [.row 0 1 3 (.int .i64) x (List.length (α := Int) x)], [0]⟩) := rfl
  rw [hu'] at hu
  cases hu
  replace hm : m.length = 2 := hm
  obtain ⟨ad, cap, rfl, e0, hs'⟩ := row_pre hm (hH _ (by simp)) hsl hs
  refine (slices_Compact_ok (K := K) hr E w F hs').mono ?_
  rintro e w' ⟨v, K', L', rfl, ⟨⟨l, ad1, cp1, rfl, rfl, rfl⟩, rfl⟩, h1, h2⟩
  obtain ⟨_, g2, g3, g4, cs, g5, g6⟩ := row_post h2
  have hm0 : (m ++ [M.val (.slice ad1 (List.length (α := Int) l) cp1), M.cont (.int .i64) l cs])[2]? = some (.val (.slice ad1 (List.length (α := Int) l) cp1)) := by
    rw [List.getElem?_append_right (by omega), hm]; rfl
  have hm1 : (m ++ [M.val (.slice ad1 (List.length (α := Int) l) cp1), M.cont (.int .i64) l cs])[3]? = some (.cont (.int .i64) l cs) := by
    rw [List.getElem?_append_right (by omega), hm]; rfl
  refine ⟨_, K, _, rfl, ⟨[(0, .own 2)], ⟨[], 4, [.row 2 3 3 (.int .i64) l (List.length (α := Int) l)], [2]⟩, m ++ [M.val (.slice ad1 (List.length (α := Int) l) cp1), M.cont (.int .i64) l cs], rfl, List.prefix_append _ _, by simp [hm], ?_, ⟨hm0, rfl⟩, rfl⟩, h1, ?_⟩
  · intro a ha
    simp only [List.mem_singleton] at ha
    subst ha
    exact ⟨ad1, cp1, cs, hm0, hm1, g5, rfl, g2, g3, g4⟩
  · show Sep E K (HA.conc _ (.row 2 3 3 (.int .i64) l (List.length (α := Int) l)) :: F) w'
    simp only [HA.conc, hm0, hm1]
    exact g6
noncomputable def ok_Compact : OkSpec Try.prog := ⟨sp_Compact, Compact_is, Try.call22⟩
end Go.Proofs.Ytkpdfepjanfmbaa
namespace Go.Proofs.Ytkpdfepjanfmbaa
open Go.RowKit
set_option linter.unusedVariables false
set_option maxRecDepth 100000
set_option maxHeartbeats 4000000
instance nob : BldA := ⟨1000000000, fun b _ => Cl b 1000000000 [.pointer none, .slice none 0 0], fun h => h⟩

noncomputable def fn_ref15_Few (xa : (List (Int × Bool))) (xb : Int) : Option Bool :=
  some (decide ((((xa.length : Nat) : Int)) ≤ xb))
noncomputable def h_ref15_Few : Hn Try.prog := .nil
noncomputable def sp_ref15_Few : Spec := ⟨12, ⟨[(0, .dat (.one (.sl (.cons (.int .i64) (.one .bool))))), (1, .dat (.int .i64))], []⟩, [⟨[(0, .dat .bool)], []⟩], fun x => fn_ref15_Few x.1 x.2⟩
theorem ref15_Few_is : SpecOk Try.prog sp_ref15_Few := fn_is Try.func12 h_ref15_Few (by kernel_rfl) (by kernel_rfl)
noncomputable def ok_ref15_Few : OkSpec Try.prog := ⟨sp_ref15_Few, ref15_Few_is, Try.call12⟩
noncomputable def fn_ref17_Few_l1 (xa : (Int × (List (Int × Int)) × (List (List (Int × Bool))) × (List (Int × Bool)))) : Int → Option (Int ⊕ (Unit ⊕ Bool)) := fun (i264 : Int) => cond (decide (i264 < (((xa.2.2.1.length : Nat) : Int)))) ((getI xa.2.2.1 i264).bind fun x289 => (fn_ref15_Few x289 20).bind fun t304 => cond (!t304) (some (.inr ((.inr (false))))) (some (.inl (IntKind.wrap .i64 (i264 + 1))))) (some (.inr ((.inl ()))))
noncomputable def fn_ref17_Few (xa : (Int × (List (Int × Int)) × (List (List (Int × Bool))) × (List (Int × Bool)))) : Option Bool :=
  (cond ((decide (20 < (((xa.2.1.length : Nat) : Int)))) || (decide (20 < (((xa.2.2.1.length : Nat) : Int))))) (some (true)) ((fn_ref15_Few xa.2.2.2 20).bind fun t170 => some (!t170))).bind fun t166 => cond (t166) (some (false)) ((loop (fn_ref17_Few_l1 xa) 0 : Option (Unit ⊕ Bool)).bind fun o => match o with | .inr r => some r | .inl () => some (true))
noncomputable def h_ref17_Few : Hn Try.prog := .gp 4 (.gj 4 ⟨[(19, .dat .bool)], []⟩ [] (.two 14 (.nil) (.cl ok_ref15_Few [] (.nil))) (.tw 19 (.nil) (.jx [] ⟨[], []⟩ [] (.lp ⟨[(3, .dat (.int .i64))], []⟩ (.tw 24 (.cl ok_ref15_Few [] (.tw 33 (.nil) (.nil))) (.nil))) (.nil))))
noncomputable def sp_ref17_Few : Spec := ⟨13, ⟨[(0, .dat (.cons (.int .i64) (.cons (.sl (.cons (.int .i64) (.one (.int .i64)))) (.cons (.sl (.one (.sl (.cons (.int .i64) (.one .bool))))) (.one (.one (.sl (.cons (.int .i64) (.one .bool)))))))))], []⟩, [⟨[(0, .dat .bool)], []⟩], fun x => fn_ref17_Few x⟩
theorem ref17_Few_is : SpecOk Try.prog sp_ref17_Few := fn_is Try.func13 h_ref17_Few (by kernel_rfl) (by kernel_rfl)
noncomputable def ok_ref17_Few : OkSpec Try.prog := ⟨sp_ref17_Few, ref17_Few_is, Try.call13⟩
noncomputable def fn_ref20_Small_l1 (xa : (Int × Int × (List (Int × Int)) × (List (List (Int × Bool))) × (List (Int × Bool)) × (List (Int × (List (Int × Int)) × (List (List (Int × Bool))) × (List (Int × Bool)))) × (List ((List (Int × Int × Int × Int × Bool)) × (Int × Int × Int × (List Int) × (List Int) × (List Int)))))) : Int → Option (Int ⊕ (Unit ⊕ Bool)) := fun (i714 : Int) => cond (decide (i714 < (((xa.2.2.2.1.length : Nat) : Int)))) ((getI xa.2.2.2.1 i714).bind fun x739 => (fn_ref15_Few x739 20).bind fun t754 => cond (!t754) (some (.inr ((.inr (false))))) (some (.inl (IntKind.wrap .i64 (i714 + 1))))) (some (.inr ((.inl ()))))
noncomputable def fn_ref20_Small_l2 (xa : (Int × Int × (List (Int × Int)) × (List (List (Int × Bool))) × (List (Int × Bool)) × (List (Int × (List (Int × Int)) × (List (List (Int × Bool))) × (List (Int × Bool)))) × (List ((List (Int × Int × Int × Int × Bool)) × (Int × Int × Int × (List Int) × (List Int) × (List Int)))))) : Int → Option (Int ⊕ (Unit ⊕ Bool)) := fun (i880 : Int) => cond (decide (i880 < (((xa.2.2.2.2.2.1.length : Nat) : Int)))) ((getI xa.2.2.2.2.2.1 i880).bind fun x913 => (fn_ref17_Few (x913.1, x913.2.1, x913.2.2.1, x913.2.2.2)).bind fun t936 => cond (!t936) (some (.inr ((.inr (false))))) (some (.inl (IntKind.wrap .i64 (i880 + 1))))) (some (.inr ((.inl ()))))
noncomputable def fn_ref20_Small_l3 (xa : (Int × Int × (List (Int × Int)) × (List (List (Int × Bool))) × (List (Int × Bool)) × (List (Int × (List (Int × Int)) × (List (List (Int × Bool))) × (List (Int × Bool)))) × (List ((List (Int × Int × Int × Int × Bool)) × (Int × Int × Int × (List Int) × (List Int) × (List Int)))))) : (Int × Int) → Option ((Int × Int) ⊕ (Int ⊕ Bool)) := fun ((i1115, i1116) : (Int × Int)) => cond (decide (i1116 < (((xa.2.2.2.2.2.2.length : Nat) : Int)))) ((getI xa.2.2.2.2.2.2 i1116).bind fun x1162 => (getI xa.2.2.2.2.2.2 i1116).bind fun x1184 => cond (((decide (20 < (((x1162.2.2.2.2.1.length : Nat) : Int)))) || (decide (20 < (((x1162.2.2.2.2.2.1.length : Nat) : Int))))) || (decide (20 < (((x1162.2.2.2.2.2.2.length : Nat) : Int))))) (some (.inr ((.inr (false))))) (some (.inl ((IntKind.wrap .i64 (i1115 + (((x1184.1.length : Nat) : Int))), IntKind.wrap .i64 (i1116 + 1)))))) (some (.inr (.inl i1115)))
noncomputable def fn_ref20_Small (xa : (Int × Int × (List (Int × Int)) × (List (List (Int × Bool))) × (List (Int × Bool)) × (List (Int × (List (Int × Int)) × (List (List (Int × Bool))) × (List (Int × Bool)))) × (List ((List (Int × Int × Int × Int × Bool)) × (Int × Int × Int × (List Int) × (List Int) × (List Int)))))) : Option Bool :=
  (cond ((((decide (20 < (((xa.2.2.1.length : Nat) : Int)))) || (decide (10 < (((xa.2.2.2.1.length : Nat) : Int))))) || (decide (4 < (((xa.2.2.2.2.2.1.length : Nat) : Int))))) || (decide (8 < (((xa.2.2.2.2.2.2.length : Nat) : Int))))) (some (true)) ((fn_ref15_Few xa.2.2.2.2.1 20).bind fun t620 => some (!t620))).bind fun t616 => cond (t616) (some (false)) ((loop (fn_ref20_Small_l1 xa) 0 : Option (Unit ⊕ Bool)).bind fun o => match o with | .inr r => some r | .inl () => (loop (fn_ref20_Small_l2 xa) 0 : Option (Unit ⊕ Bool)).bind fun o => match o with | .inr r => some r | .inl () => (loop (fn_ref20_Small_l3 xa) (0, 0) : Option (Int ⊕ Bool)).bind fun o => match o with | .inr r => some r | .inl i1071 => some (decide (i1071 ≤ 24)))
noncomputable def h_ref20_Small : Hn Try.prog := .gp 4 (.gp 4 (.gp 4 (.gj 4 ⟨[(35, .dat .bool)], []⟩ [] (.two 30 (.nil) (.cl ok_ref15_Few [] (.nil))) (.tw 35 (.nil) (.jx [] ⟨[], []⟩ [] (.lp ⟨[(3, .dat (.int .i64))], []⟩ (.tw 40 (.cl ok_ref15_Few [] (.tw 49 (.nil) (.nil))) (.nil))) (.jx [] ⟨[], []⟩ [] (.lp ⟨[(4, .dat (.int .i64))], []⟩ (.tw 54 (.cl ok_ref17_Few [] (.tw 63 (.nil) (.nil))) (.nil))) (.jx [] ⟨[(5, .dat (.int .i64))], []⟩ [] (.lp ⟨[(5, .dat (.int .i64)), (6, .dat (.int .i64))], []⟩ (.tw 68 (.gp 4 (.gp 4 (.tw 101 (.nil) (.nil)))) (.nil))) (.nil))))))))
noncomputable def sp_ref20_Small : Spec := ⟨4, ⟨[(0, .dat (.cons (.int .i64) (.cons (.int .i64) (.cons (.sl (.cons (.int .i64) (.one (.int .i64)))) (.cons (.sl (.one (.sl (.cons (.int .i64) (.one .bool))))) (.cons (.one (.sl (.cons (.int .i64) (.one .bool)))) (.cons (.sl (.cons (.int .i64) (.cons (.sl (.cons (.int .i64) (.one (.int .i64)))) (.cons (.sl (.one (.sl (.cons (.int .i64) (.one .bool))))) (.one (.one (.sl (.cons (.int .i64) (.one .bool))))))))) (.one (.sl (.cons (.sl (.cons (.int .i64) (.cons (.int .i64) (.cons (.int .i64) (.cons (.int .i64) (.one .bool)))))) (.one (.cons (.int .i64) (.cons (.int .i64) (.cons (.int .i64) (.cons (.sl (.int .i64)) (.cons (.sl (.int .i64)) (.one (.sl (.int .i64)))))))))))))))))))], []⟩, [⟨[(0, .dat .bool)], []⟩], fun x => fn_ref20_Small x⟩
theorem ref20_Small_is : SpecOk Try.prog sp_ref20_Small := fn_is Try.func4 h_ref20_Small (by kernel_rfl) (by kernel_rfl)
noncomputable def ok_ref20_Small : OkSpec Try.prog := ⟨sp_ref20_Small, ref20_Small_is, Try.call4⟩

noncomputable def fn_tick_Counter_Add_zii (xb : Int) (xc : Int) : Option Unit :=
  some (())
noncomputable def h_tick_Counter_Add_zii : Hn Try.prog := .nil
noncomputable def sp_tick_Counter_Add_zii : Spec := ⟨26, ⟨[(0, .nilp), (1, .dat (.int .i64)), (2, .dat (.int .i64))], []⟩, [⟨[], []⟩], fun x => fn_tick_Counter_Add_zii x.1 x.2⟩
theorem tick_Counter_Add_zii_is : SpecOk Try.prog sp_tick_Counter_Add_zii := fn_is Try.func26 h_tick_Counter_Add_zii (by kernel_rfl) (by kernel_rfl)
noncomputable def ok_tick_Counter_Add_zii : OkSpec Try.prog := ⟨sp_tick_Counter_Add_zii, tick_Counter_Add_zii_is, Try.call26⟩

noncomputable def fn_valid_head_az (xa : (Int × Int × (List (Int × Int)) × (List (List (Int × Bool))) × (List (Int × Bool)) × (List (Int × (List (Int × Int)) × (List (List (Int × Bool))) × (List (Int × Bool)))) × (List ((List (Int × Int × Int × Int × Bool)) × (Int × Int × Int × (List Int) × (List Int) × (List Int)))))) : Option (Int × Int × Int × Int) :=
  cond ((decide (xa.1 < 1)) || (decide (xa.2.1 < xa.1))) (some ((7, 0, 0, 0))) (cond (decide (65536 < xa.2.1)) (some ((6, 0, 0, 0))) (some ((0, 0, 0, 0))))
noncomputable def h_valid_head_az : Hn Try.prog := .gp 5 (.tw 7 (.nil) (.tw 19 (.nil) (.nil)))
noncomputable def sp_valid_head_az : Spec := ⟨27, ⟨[(0, .dat (.cons (.int .i64) (.cons (.int .i64) (.cons (.sl (.cons (.int .i64) (.one (.int .i64)))) (.cons (.sl (.one (.sl (.cons (.int .i64) (.one .bool))))) (.cons (.one (.sl (.cons (.int .i64) (.one .bool)))) (.cons (.sl (.cons (.int .i64) (.cons (.sl (.cons (.int .i64) (.one (.int .i64)))) (.cons (.sl (.one (.sl (.cons (.int .i64) (.one .bool))))) (.one (.one (.sl (.cons (.int .i64) (.one .bool))))))))) (.one (.sl (.cons (.sl (.cons (.int .i64) (.cons (.int .i64) (.cons (.int .i64) (.cons (.int .i64) (.one .bool)))))) (.one (.cons (.int .i64) (.cons (.int .i64) (.cons (.int .i64) (.cons (.sl (.int .i64)) (.cons (.sl (.int .i64)) (.one (.sl (.int .i64))))))))))))))))))), (1, .nilp)], []⟩, [⟨[(0, .agg [.dat (.int .i64), .dat (.int .i64), .dat (.int .i64), .dat (.int .i64)])], []⟩], fun x => fn_valid_head_az x⟩
theorem valid_head_az_is : SpecOk Try.prog sp_valid_head_az := fn_is Try.func27 h_valid_head_az (by kernel_rfl) (by kernel_rfl)
noncomputable def ok_valid_head_az : OkSpec Try.prog := ⟨sp_valid_head_az, valid_head_az_is, Try.call27⟩

noncomputable def fn_valid_bounds_1_ip0_iikkkkk (xa : Int) (qa0 : Int) (qa1 : Int) (qa2 : (List (Int × Int))) (qa3 : (List (List (Int × Bool)))) (qa4 : (List (Int × Bool))) (qa5 : (List (Int × (List (Int × Int)) × (List (List (Int × Bool))) × (List (Int × Bool))))) (qa6 : (List ((List (Int × Int × Int × Int × Bool)) × (Int × Int × Int × (List Int) × (List Int) × (List Int))))) : Option Bool :=
  some ((decide (0 ≤ xa)) && (decide (xa < qa0)))
noncomputable def h_valid_bounds_1_ip0_iikkkkk : Hn Try.prog := .gp 4 (.nil)
noncomputable def sp_valid_bounds_1_ip0_iikkkkk : Spec := ⟨47, ⟨[(0, .dat (.int .i64)), (1, .ptr 0 0)], [⟨none, 30, [.is 1 (.dat (.int .i64)), .is 2 (.dat (.int .i64)), .is 3 (.dat (.sl (.cons (.int .i64) (.one (.int .i64))))), .is 4 (.dat (.sl (.one (.sl (.cons (.int .i64) (.one .bool)))))), .is 5 (.dat (.sl (.cons (.int .i64) (.one .bool)))), .is 6 (.dat (.sl (.cons (.int .i64) (.cons (.sl (.cons (.int .i64) (.one (.int .i64)))) (.cons (.sl (.one (.sl (.cons (.int .i64) (.one .bool))))) (.one (.one (.sl (.cons (.int .i64) (.one .bool)))))))))), .is 7 (.dat (.sl (.cons (.sl (.cons (.int .i64) (.cons (.int .i64) (.cons (.int .i64) (.cons (.int .i64) (.one .bool)))))) (.one (.cons (.int .i64) (.cons (.int .i64) (.cons (.int .i64) (.cons (.sl (.int .i64)) (.cons (.sl (.int .i64)) (.one (.sl (.int .i64))))))))))))], false, false, none⟩, ⟨none, 0, [], false, true, none⟩, ⟨none, 0, [], false, true, none⟩, ⟨none, 0, [], false, true, none⟩, ⟨none, 0, [], false, true, none⟩, ⟨none, 0, [], false, true, none⟩, ⟨none, 0, [], false, true, none⟩, ⟨none, 0, [], false, true, none⟩]⟩, [⟨[(0, .dat .bool)], [⟨(some 0), 30, [.is 1 (.any), .is 2 (.any), .is 3 (.any), .is 4 (.any), .is 5 (.any), .is 6 (.any), .is 7 (.any)], false, false, none⟩, ⟨(some 1), 0, [], false, true, none⟩, ⟨(some 2), 0, [], false, true, none⟩, ⟨(some 3), 0, [], false, true, none⟩, ⟨(some 4), 0, [], false, true, none⟩, ⟨(some 5), 0, [], false, true, none⟩, ⟨(some 6), 0, [], false, true, none⟩, ⟨(some 7), 0, [], false, true, none⟩]⟩], fun x => fn_valid_bounds_1_ip0_iikkkkk x.1 x.2.1 x.2.2.1 x.2.2.2.1 x.2.2.2.2.1 x.2.2.2.2.2.1 x.2.2.2.2.2.2.1 x.2.2.2.2.2.2.2⟩
theorem valid_bounds_1_ip0_iikkkkk_is : SpecOk Try.prog sp_valid_bounds_1_ip0_iikkkkk := fn_is Try.func47 h_valid_bounds_1_ip0_iikkkkk (by kernel_rfl) (by kernel_rfl)
noncomputable def ok_valid_bounds_1_ip0_iikkkkk : OkSpec Try.prog := ⟨sp_valid_bounds_1_ip0_iikkkkk, valid_bounds_1_ip0_iikkkkk_is, Try.call47⟩
noncomputable def fn_valid_bounds_az_l1 (xa : (Int × Int × (List (Int × Int)) × (List (List (Int × Bool))) × (List (Int × Bool)) × (List (Int × (List (Int × Int)) × (List (List (Int × Bool))) × (List (Int × Bool)))) × (List ((List (Int × Int × Int × Int × Bool)) × (Int × Int × Int × (List Int) × (List Int) × (List Int)))))) : Int → Option (Int ⊕ (Unit ⊕ (Int × Int × Int × Int))) := fun (i404 : Int) => cond (decide (i404 < (((xa.2.2.1.length : Nat) : Int)))) ((getI xa.2.2.1 i404).bind fun x446 => (fn_tick_Counter_Add_zii 1 1).bind fun _ => (fn_valid_bounds_1_ip0_iikkkkk x446.1 xa.1 xa.2.1 xa.2.2.1 xa.2.2.2.1 xa.2.2.2.2.1 xa.2.2.2.2.2.1 xa.2.2.2.2.2.2).bind fun t463 => (cond (!t463) (some (true)) ((fn_valid_bounds_1_ip0_iikkkkk x446.2 xa.1 xa.2.1 xa.2.2.1 xa.2.2.2.1 xa.2.2.2.2.1 xa.2.2.2.2.2.1 xa.2.2.2.2.2.2).bind fun t478 => some (!t478))).bind fun t474 => cond (t474) (some (.inr ((.inr ((7, 1, i404, 0)))))) (some (.inl (IntKind.wrap .i64 (i404 + 1))))) (some (.inr ((.inl ()))))
noncomputable def fn_valid_bounds_az (xa : (Int × Int × (List (Int × Int)) × (List (List (Int × Bool))) × (List (Int × Bool)) × (List (Int × (List (Int × Int)) × (List (List (Int × Bool))) × (List (Int × Bool)))) × (List ((List (Int × Int × Int × Int × Bool)) × (Int × Int × Int × (List Int) × (List Int) × (List Int)))))) : Option (Int × Int × Int × Int) :=
  cond (decide (65536 < (((xa.2.2.1.length : Nat) : Int)))) (some ((6, 1, 0, 0))) ((loop (fn_valid_bounds_az_l1 xa) 0 : Option (Unit ⊕ (Int × Int × Int × Int))).bind fun o => match o with | .inr r => some r | .inl () => some ((0, 0, 0, 0)))
noncomputable def h_valid_bounds_az : Hn Try.prog := .tw 11 (.nil) (.jx [] ⟨[], [⟨(some 2), 74, [.lit (.int .i64 0), .lit (.int .i64 0), .lit (.int .i64 0), .lit (.int .i64 0)], false, false, none⟩]⟩ [2, 0] (.mc 0 0 1 (.mc 0 1 1 (.mc 0 2 1 (.mc 0 3 1 (.mc 0 4 1 (.mc 0 5 1 (.mc 0 6 1 (.lp ⟨[(17, .dat (.int .i64))], [⟨(some 2), 74, [.lit (.int .i64 0), .lit (.int .i64 0), .lit (.int .i64 0), .lit (.int .i64 0)], false, false, none⟩, ⟨(some 0), 30, [.is 2 (.any), .is 3 (.any), .is 4 (.any), .is 5 (.any), .is 6 (.any), .is 7 (.any), .is 8 (.any)], false, false, none⟩, ⟨(some 4), 0, [], false, true, none⟩, ⟨(some 5), 0, [], false, true, none⟩, ⟨(some 6), 0, [], false, true, none⟩, ⟨(some 7), 0, [], false, true, none⟩, ⟨(some 8), 0, [], false, true, none⟩, ⟨(some 9), 0, [], false, true, none⟩, ⟨(some 10), 0, [], false, true, none⟩]⟩ (.tw 18 (.cl ok_tick_Counter_Add_zii [] (.cl ok_valid_bounds_1_ip0_iikkkkk [] (.gj 5 ⟨[(35, .dat .bool)], [⟨(some 0), 30, [.is 1 (.any), .is 2 (.any), .is 3 (.any), .is 4 (.any), .is 5 (.any), .is 6 (.any), .is 7 (.any)], false, false, none⟩, ⟨(some 4), 0, [], false, true, none⟩, ⟨(some 5), 0, [], false, true, none⟩, ⟨(some 6), 0, [], false, true, none⟩, ⟨(some 7), 0, [], false, true, none⟩, ⟨(some 8), 0, [], false, true, none⟩, ⟨(some 9), 0, [], false, true, none⟩, ⟨(some 10), 0, [], false, true, none⟩]⟩ [0] (.two 29 (.nil) (.cl ok_valid_bounds_1_ip0_iikkkkk [] (.nil))) (.tw 35 (.nil) (.nil))))) (.nil)))))))))) (.nil))
noncomputable def sp_valid_bounds_az : Spec := ⟨28, ⟨[(0, .dat (.cons (.int .i64) (.cons (.int .i64) (.cons (.sl (.cons (.int .i64) (.one (.int .i64)))) (.cons (.sl (.one (.sl (.cons (.int .i64) (.one .bool))))) (.cons (.one (.sl (.cons (.int .i64) (.one .bool)))) (.cons (.sl (.cons (.int .i64) (.cons (.sl (.cons (.int .i64) (.one (.int .i64)))) (.cons (.sl (.one (.sl (.cons (.int .i64) (.one .bool))))) (.one (.one (.sl (.cons (.int .i64) (.one .bool))))))))) (.one (.sl (.cons (.sl (.cons (.int .i64) (.cons (.int .i64) (.cons (.int .i64) (.cons (.int .i64) (.one .bool)))))) (.one (.cons (.int .i64) (.cons (.int .i64) (.cons (.int .i64) (.cons (.sl (.int .i64)) (.cons (.sl (.int .i64)) (.one (.sl (.int .i64))))))))))))))))))), (1, .nilp)], []⟩, [⟨[(0, .agg [.dat (.int .i64), .dat (.int .i64), .dat (.int .i64), .dat (.int .i64)])], []⟩], fun x => fn_valid_bounds_az x⟩
theorem valid_bounds_az_is : SpecOk Try.prog sp_valid_bounds_az := fn_is Try.func28 h_valid_bounds_az (by kernel_rfl) (by kernel_rfl)
noncomputable def ok_valid_bounds_az : OkSpec Try.prog := ⟨sp_valid_bounds_az, valid_bounds_az_is, Try.call28⟩

noncomputable def fn_row_within_1_ap0_i (xa : (Int × Bool)) (qa0 : Int) : Option Bool :=
  some ((decide (xa.1 < 0)) || (decide (qa0 ≤ xa.1)))
noncomputable def h_row_within_1_ap0_i : Hn Try.prog := .gp 4 (.nil)
noncomputable def sp_row_within_1_ap0_i : Spec := ⟨67, ⟨[(0, .dat (.cons (.int .i64) (.one .bool))), (1, .ptr 0 0)], [⟨none, 3, [.is 1 (.dat (.int .i64))], false, false, none⟩, ⟨none, 0, [], false, true, none⟩]⟩, [⟨[(0, .dat .bool)], [⟨(some 0), 3, [.is 1 (.any)], false, false, none⟩, ⟨(some 1), 0, [], false, true, none⟩]⟩], fun x => fn_row_within_1_ap0_i x.1 x.2⟩
theorem row_within_1_ap0_i_is : SpecOk Try.prog sp_row_within_1_ap0_i := fn_is Try.func67 h_row_within_1_ap0_i (by kernel_rfl) (by kernel_rfl)
noncomputable def ok_row_within_1_ap0_i : OkSpec Try.prog := ⟨sp_row_within_1_ap0_i, row_within_1_ap0_i_is, Try.call67⟩
noncomputable def fn_slices_IndexFunc_api_Slot_api_Slot_k_row_within_1_p0_i_l1 (xa : (List (Int × Bool))) (qa0 : Int) : Int → Option (Int ⊕ (Unit ⊕ Int)) := fun (i185 : Int) => cond (decide (i185 < (((xa.length : Nat) : Int)))) ((getI xa i185).bind fun x206 => (fn_row_within_1_ap0_i (x206.1, x206.2) qa0).bind fun t217 => cond (t217) (some (.inr ((.inr (i185))))) (some (.inl (IntKind.wrap .i64 (i185 + 1))))) (some (.inr ((.inl ()))))
noncomputable def fn_slices_IndexFunc_api_Slot_api_Slot_k_row_within_1_p0_i (xa : (List (Int × Bool))) (qa0 : Int) : Option Int :=
  (loop (fn_slices_IndexFunc_api_Slot_api_Slot_k_row_within_1_p0_i_l1 xa qa0) 0 : Option (Unit ⊕ Int)).bind fun o => match o with | .inr r => some r | .inl () => some ((-1))
noncomputable def h_slices_IndexFunc_api_Slot_api_Slot_k_row_within_1_p0_i : Hn Try.prog := .jx [] ⟨[], [⟨(some 0), 3, [.is 1 (.any)], false, false, none⟩, ⟨(some 1), 0, [], false, true, none⟩]⟩ [0] (.lp ⟨[(8, .dat (.int .i64))], [⟨(some 0), 3, [.is 1 (.any)], false, false, none⟩, ⟨(some 1), 0, [], false, true, none⟩]⟩ (.tw 9 (.cl ok_row_within_1_ap0_i [] (.tw 16 (.nil) (.nil))) (.nil))) (.nil)
noncomputable def sp_slices_IndexFunc_api_Slot_api_Slot_k_row_within_1_p0_i : Spec := ⟨76, ⟨[(0, .dat (.sl (.cons (.int .i64) (.one .bool)))), (1, .fn 67 [.ptr 0 0])], [⟨none, 3, [.is 1 (.dat (.int .i64))], false, false, none⟩, ⟨none, 0, [], false, true, none⟩]⟩, [⟨[(0, .dat (.int .i64))], [⟨(some 0), 3, [.is 1 (.any)], false, false, none⟩, ⟨(some 1), 0, [], false, true, none⟩]⟩], fun x => fn_slices_IndexFunc_api_Slot_api_Slot_k_row_within_1_p0_i x.1 x.2⟩
theorem slices_IndexFunc_api_Slot_api_Slot_k_row_within_1_p0_i_is : SpecOk Try.prog sp_slices_IndexFunc_api_Slot_api_Slot_k_row_within_1_p0_i := fn_is Try.func76 h_slices_IndexFunc_api_Slot_api_Slot_k_row_within_1_p0_i (by kernel_rfl) (by kernel_rfl)
noncomputable def ok_slices_IndexFunc_api_Slot_api_Slot_k_row_within_1_p0_i : OkSpec Try.prog := ⟨sp_slices_IndexFunc_api_Slot_api_Slot_k_row_within_1_p0_i, slices_IndexFunc_api_Slot_api_Slot_k_row_within_1_p0_i_is, Try.call76⟩

noncomputable def fn_slices_ContainsFunc_api_Slot_api_Slot_k_row_within_1_p0_i (xa : (List (Int × Bool))) (qa0 : Int) : Option Bool :=
  (fn_slices_IndexFunc_api_Slot_api_Slot_k_row_within_1_p0_i xa qa0).bind fun i10 => some (decide (0 ≤ i10))
noncomputable def h_slices_ContainsFunc_api_Slot_api_Slot_k_row_within_1_p0_i : Hn Try.prog := .cl ok_slices_IndexFunc_api_Slot_api_Slot_k_row_within_1_p0_i [] (.nil)
noncomputable def sp_slices_ContainsFunc_api_Slot_api_Slot_k_row_within_1_p0_i : Spec := ⟨66, ⟨[(0, .dat (.sl (.cons (.int .i64) (.one .bool)))), (1, .fn 67 [.ptr 0 0])], [⟨none, 3, [.is 1 (.dat (.int .i64))], false, false, none⟩, ⟨none, 0, [], false, true, none⟩]⟩, [⟨[(0, .dat .bool)], [⟨(some 0), 3, [.is 1 (.any)], false, false, none⟩, ⟨(some 1), 0, [], false, true, none⟩]⟩], fun x => fn_slices_ContainsFunc_api_Slot_api_Slot_k_row_within_1_p0_i x.1 x.2⟩
theorem slices_ContainsFunc_api_Slot_api_Slot_k_row_within_1_p0_i_is : SpecOk Try.prog sp_slices_ContainsFunc_api_Slot_api_Slot_k_row_within_1_p0_i := fn_is Try.func66 h_slices_ContainsFunc_api_Slot_api_Slot_k_row_within_1_p0_i (by kernel_rfl) (by kernel_rfl)
noncomputable def ok_slices_ContainsFunc_api_Slot_api_Slot_k_row_within_1_p0_i : OkSpec Try.prog := ⟨sp_slices_ContainsFunc_api_Slot_api_Slot_k_row_within_1_p0_i, slices_ContainsFunc_api_Slot_api_Slot_k_row_within_1_p0_i_is, Try.call66⟩

noncomputable def fn_row_within (xa : (List (Int × Bool))) (xb : Int) : Option Bool :=
  (fn_slices_ContainsFunc_api_Slot_api_Slot_k_row_within_1_p0_i xa xb).bind fun t14 => some (!t14)
noncomputable def h_row_within : Hn Try.prog := .mc 2 0 3 (.cl ok_slices_ContainsFunc_api_Slot_api_Slot_k_row_within_1_p0_i [] (.nil))
noncomputable def sp_row_within : Spec := ⟨59, ⟨[(0, .dat (.one (.sl (.cons (.int .i64) (.one .bool))))), (1, .dat (.int .i64))], []⟩, [⟨[(0, .dat .bool)], []⟩], fun x => fn_row_within x.1 x.2⟩
theorem row_within_is : SpecOk Try.prog sp_row_within := fn_is Try.func59 h_row_within (by kernel_rfl) (by kernel_rfl)
noncomputable def ok_row_within : OkSpec Try.prog := ⟨sp_row_within, row_within_is, Try.call59⟩

noncomputable def fn_row_Check (xa : (List (Int × Bool))) (xb : Int) : Option Int :=
  cond (decide (16 < (((xa.length : Nat) : Int)))) (some (6)) ((fn_row_within xa xb).bind fun t15 => cond (!t15) (some (7)) (some (0)))
noncomputable def h_row_Check : Hn Try.prog := .tw 8 (.nil) (.cl ok_row_within [] (.tw 12 (.nil) (.nil)))
noncomputable def sp_row_Check : Spec := ⟨48, ⟨[(0, .dat (.one (.sl (.cons (.int .i64) (.one .bool))))), (1, .dat (.int .i64))], []⟩, [⟨[(0, .dat (.int .i64))], []⟩], fun x => fn_row_Check x.1 x.2⟩
theorem row_Check_is : SpecOk Try.prog sp_row_Check := fn_is Try.func48 h_row_Check (by kernel_rfl) (by kernel_rfl)
noncomputable def ok_row_Check : OkSpec Try.prog := ⟨sp_row_Check, row_Check_is, Try.call48⟩
noncomputable def fn_valid_locals_az_l1 (xa : (Int × Int × (List (Int × Int)) × (List (List (Int × Bool))) × (List (Int × Bool)) × (List (Int × (List (Int × Int)) × (List (List (Int × Bool))) × (List (Int × Bool)))) × (List ((List (Int × Int × Int × Int × Bool)) × (Int × Int × Int × (List Int) × (List Int) × (List Int)))))) : Int → Option (Int ⊕ (Unit ⊕ (Int × Int × Int × Int))) := fun (i297 : Int) => cond (decide (i297 < (((xa.2.2.2.1.length : Nat) : Int)))) ((getI xa.2.2.2.1 i297).bind fun x328 => (fn_tick_Counter_Add_zii 1 1).bind fun _ => (fn_row_Check x328 xa.2.1).bind fun i349 => cond (!decide (i349 = 0)) (some (.inr ((.inr ((i349, 2, i297, 0)))))) (some (.inl (IntKind.wrap .i64 (i297 + 1))))) (some (.inr ((.inl ()))))
noncomputable def fn_valid_locals_az (xa : (Int × Int × (List (Int × Int)) × (List (List (Int × Bool))) × (List (Int × Bool)) × (List (Int × (List (Int × Int)) × (List (List (Int × Bool))) × (List (Int × Bool)))) × (List ((List (Int × Int × Int × Int × Bool)) × (Int × Int × Int × (List Int) × (List Int) × (List Int)))))) : Option (Int × Int × Int × Int) :=
  cond (decide ((((xa.2.2.2.1.length : Nat) : Int)) = 0)) (some ((14, 2, 0, 0))) (cond (decide (65536 < (((xa.2.2.2.1.length : Nat) : Int)))) (some ((6, 2, 0, 0))) ((loop (fn_valid_locals_az_l1 xa) 0 : Option (Unit ⊕ (Int × Int × Int × Int))).bind fun o => match o with | .inr r => some r | .inl () => some ((0, 0, 0, 0))))
noncomputable def h_valid_locals_az : Hn Try.prog := .tw 11 (.nil) (.tw 16 (.nil) (.jx [] ⟨[], [⟨(some 2), 74, [.lit (.int .i64 0), .lit (.int .i64 0), .lit (.int .i64 0), .lit (.int .i64 0)], false, false, none⟩]⟩ [2] (.lp ⟨[(21, .dat (.int .i64))], [⟨(some 2), 74, [.lit (.int .i64 0), .lit (.int .i64 0), .lit (.int .i64 0), .lit (.int .i64 0)], false, false, none⟩]⟩ (.tw 22 (.cl ok_tick_Counter_Add_zii [] (.cl ok_row_Check [] (.tw 33 (.nil) (.nil)))) (.nil))) (.nil)))
noncomputable def sp_valid_locals_az : Spec := ⟨29, ⟨[(0, .dat (.cons (.int .i64) (.cons (.int .i64) (.cons (.sl (.cons (.int .i64) (.one (.int .i64)))) (.cons (.sl (.one (.sl (.cons (.int .i64) (.one .bool))))) (.cons (.one (.sl (.cons (.int .i64) (.one .bool)))) (.cons (.sl (.cons (.int .i64) (.cons (.sl (.cons (.int .i64) (.one (.int .i64)))) (.cons (.sl (.one (.sl (.cons (.int .i64) (.one .bool))))) (.one (.one (.sl (.cons (.int .i64) (.one .bool))))))))) (.one (.sl (.cons (.sl (.cons (.int .i64) (.cons (.int .i64) (.cons (.int .i64) (.cons (.int .i64) (.one .bool)))))) (.one (.cons (.int .i64) (.cons (.int .i64) (.cons (.int .i64) (.cons (.sl (.int .i64)) (.cons (.sl (.int .i64)) (.one (.sl (.int .i64))))))))))))))))))), (1, .nilp)], []⟩, [⟨[(0, .agg [.dat (.int .i64), .dat (.int .i64), .dat (.int .i64), .dat (.int .i64)])], []⟩], fun x => fn_valid_locals_az x⟩
theorem valid_locals_az_is : SpecOk Try.prog sp_valid_locals_az := fn_is Try.func29 h_valid_locals_az (by kernel_rfl) (by kernel_rfl)
noncomputable def ok_valid_locals_az : OkSpec Try.prog := ⟨sp_valid_locals_az, valid_locals_az_is, Try.call29⟩

noncomputable def fn_row_Shape_1 (xa : (Int × Bool)) (xb : (Int × Bool)) : Option Bool :=
  some (xa.2 == xb.2)
noncomputable def h_row_Shape_1 : Hn Try.prog := .nil
noncomputable def sp_row_Shape_1 : Spec := ⟨61, ⟨[(0, .dat (.cons (.int .i64) (.one .bool))), (1, .dat (.cons (.int .i64) (.one .bool)))], []⟩, [⟨[(0, .dat .bool)], []⟩], fun x => fn_row_Shape_1 x.1 x.2⟩
theorem row_Shape_1_is : SpecOk Try.prog sp_row_Shape_1 := fn_is Try.func61 h_row_Shape_1 (by kernel_rfl) (by kernel_rfl)
noncomputable def ok_row_Shape_1 : OkSpec Try.prog := ⟨sp_row_Shape_1, row_Shape_1_is, Try.call61⟩
noncomputable def fn_slices_EqualFunc_api_Slot_api_Slot_api_Slot_api_Slot_kk_row_Shape_1_l1 (xa : (List (Int × Bool))) (xb : (List (Int × Bool))) : Int → Option (Int ⊕ (Unit ⊕ Bool)) := fun (i297 : Int) => cond (decide (i297 < (((xa.length : Nat) : Int)))) ((getI xa i297).bind fun x329 => (getI xb i297).bind fun x339 => (fn_row_Shape_1 (x329.1, x329.2) (x339.1, x339.2)).bind fun t351 => cond (!t351) (some (.inr ((.inr (false))))) (some (.inl (IntKind.wrap .i64 (i297 + 1))))) (some (.inr ((.inl ()))))
noncomputable def fn_slices_EqualFunc_api_Slot_api_Slot_api_Slot_api_Slot_kk_row_Shape_1 (xa : (List (Int × Bool))) (xb : (List (Int × Bool))) : Option Bool :=
  cond (!decide ((((xa.length : Nat) : Int)) = (((xb.length : Nat) : Int)))) (some (false)) ((loop (fn_slices_EqualFunc_api_Slot_api_Slot_api_Slot_api_Slot_kk_row_Shape_1_l1 xa xb) 0 : Option (Unit ⊕ Bool)).bind fun o => match o with | .inr r => some r | .inl () => some (true))
noncomputable def h_slices_EqualFunc_api_Slot_api_Slot_api_Slot_api_Slot_kk_row_Shape_1 : Hn Try.prog := .tw 14 (.nil) (.jx [] ⟨[], []⟩ [] (.lp ⟨[(17, .dat (.int .i64))], []⟩ (.tw 18 (.cl ok_row_Shape_1 [] (.tw 30 (.nil) (.nil))) (.nil))) (.nil))
noncomputable def sp_slices_EqualFunc_api_Slot_api_Slot_api_Slot_api_Slot_kk_row_Shape_1 : Spec := ⟨60, ⟨[(0, .dat (.sl (.cons (.int .i64) (.one .bool)))), (1, .dat (.sl (.cons (.int .i64) (.one .bool)))), (2, .fn 61 [])], []⟩, [⟨[(0, .dat .bool)], []⟩], fun x => fn_slices_EqualFunc_api_Slot_api_Slot_api_Slot_api_Slot_kk_row_Shape_1 x.1 x.2⟩
theorem slices_EqualFunc_api_Slot_api_Slot_api_Slot_api_Slot_kk_row_Shape_1_is : SpecOk Try.prog sp_slices_EqualFunc_api_Slot_api_Slot_api_Slot_api_Slot_kk_row_Shape_1 := fn_is Try.func60 h_slices_EqualFunc_api_Slot_api_Slot_api_Slot_api_Slot_kk_row_Shape_1 (by kernel_rfl) (by kernel_rfl)
noncomputable def ok_slices_EqualFunc_api_Slot_api_Slot_api_Slot_api_Slot_kk_row_Shape_1 : OkSpec Try.prog := ⟨sp_slices_EqualFunc_api_Slot_api_Slot_api_Slot_api_Slot_kk_row_Shape_1, slices_EqualFunc_api_Slot_api_Slot_api_Slot_api_Slot_kk_row_Shape_1_is, Try.call60⟩

noncomputable def fn_row_Shape (xa : (List (Int × Bool))) (xb : (List (Int × Bool))) : Option Bool :=
  (fn_slices_EqualFunc_api_Slot_api_Slot_api_Slot_api_Slot_kk_row_Shape_1 xa xb).bind fun t14 => some (t14)
noncomputable def h_row_Shape : Hn Try.prog := .cl ok_slices_EqualFunc_api_Slot_api_Slot_api_Slot_api_Slot_kk_row_Shape_1 [] (.nil)
noncomputable def sp_row_Shape : Spec := ⟨49, ⟨[(0, .dat (.one (.sl (.cons (.int .i64) (.one .bool))))), (1, .dat (.one (.sl (.cons (.int .i64) (.one .bool)))))], []⟩, [⟨[(0, .dat .bool)], []⟩], fun x => fn_row_Shape x.1 x.2⟩
theorem row_Shape_is : SpecOk Try.prog sp_row_Shape := fn_is Try.func49 h_row_Shape (by kernel_rfl) (by kernel_rfl)
noncomputable def ok_row_Shape : OkSpec Try.prog := ⟨sp_row_Shape, row_Shape_is, Try.call49⟩

noncomputable def fn_valid_ret_az (xa : (Int × Int × (List (Int × Int)) × (List (List (Int × Bool))) × (List (Int × Bool)) × (List (Int × (List (Int × Int)) × (List (List (Int × Bool))) × (List (Int × Bool)))) × (List ((List (Int × Int × Int × Int × Bool)) × (Int × Int × Int × (List Int) × (List Int) × (List Int)))))) : Option (Int × Int × Int × Int) :=
  (fn_row_Check xa.2.2.2.2.1 xa.1).bind fun i99 => cond (decide (i99 = 0)) ((getI xa.2.2.2.1 0).bind fun x165 => (fn_row_Shape xa.2.2.2.2.1 x165).bind fun t180 => cond (!t180) (some ((8, 3, 0, 0))) (some ((i99, 3, 0, 0)))) (some ((i99, 3, 0, 0)))
noncomputable def h_valid_ret_az : Hn Try.prog := .cl ok_row_Check [] (.mix [([0, 1, 2, 3, 4, 5, 6, 7, 8, 9], 10)] [11, 12] [] [] (.two 15 (.cl ok_row_Shape [] (.tw 24 (.nil) (.nil))) (.nil)))
noncomputable def sp_valid_ret_az : Spec := ⟨30, ⟨[(0, .dat (.cons (.int .i64) (.cons (.int .i64) (.cons (.sl (.cons (.int .i64) (.one (.int .i64)))) (.cons (.sl (.one (.sl (.cons (.int .i64) (.one .bool))))) (.cons (.one (.sl (.cons (.int .i64) (.one .bool)))) (.cons (.sl (.cons (.int .i64) (.cons (.sl (.cons (.int .i64) (.one (.int .i64)))) (.cons (.sl (.one (.sl (.cons (.int .i64) (.one .bool))))) (.one (.one (.sl (.cons (.int .i64) (.one .bool))))))))) (.one (.sl (.cons (.sl (.cons (.int .i64) (.cons (.int .i64) (.cons (.int .i64) (.cons (.int .i64) (.one .bool)))))) (.one (.cons (.int .i64) (.cons (.int .i64) (.cons (.int .i64) (.cons (.sl (.int .i64)) (.cons (.sl (.int .i64)) (.one (.sl (.int .i64))))))))))))))))))), (1, .nilp)], []⟩, [⟨[(0, .agg [.dat (.int .i64), .dat (.int .i64), .dat (.int .i64), .dat (.int .i64)])], []⟩], fun x => fn_valid_ret_az x⟩
theorem valid_ret_az_is : SpecOk Try.prog sp_valid_ret_az := fn_is Try.func30 h_valid_ret_az (by kernel_rfl) (by kernel_rfl)
noncomputable def ok_valid_ret_az : OkSpec Try.prog := ⟨sp_valid_ret_az, valid_ret_az_is, Try.call30⟩

noncomputable def fn_sig_Check_1_ip0_ikkk (xa : Int) (qa0 : Int) (qa1 : (List (Int × Int))) (qa2 : (List (List (Int × Bool)))) (qa3 : (List (Int × Bool))) : Option Bool :=
  some ((decide (0 ≤ xa)) && (decide (xa < qa0)))
noncomputable def h_sig_Check_1_ip0_ikkk : Hn Try.prog := .gp 4 (.nil)
noncomputable def sp_sig_Check_1_ip0_ikkk : Spec := ⟨62, ⟨[(0, .dat (.int .i64)), (1, .ptr 0 0)], [⟨none, 47, [.is 1 (.dat (.int .i64)), .is 2 (.dat (.sl (.cons (.int .i64) (.one (.int .i64))))), .is 3 (.dat (.sl (.one (.sl (.cons (.int .i64) (.one .bool)))))), .is 4 (.dat (.sl (.cons (.int .i64) (.one .bool))))], false, false, none⟩, ⟨none, 0, [], false, true, none⟩, ⟨none, 0, [], false, true, none⟩, ⟨none, 0, [], false, true, none⟩, ⟨none, 0, [], false, true, none⟩]⟩, [⟨[(0, .dat .bool)], [⟨(some 0), 47, [.is 1 (.any), .is 2 (.any), .is 3 (.any), .is 4 (.any)], false, false, none⟩, ⟨(some 1), 0, [], false, true, none⟩, ⟨(some 2), 0, [], false, true, none⟩, ⟨(some 3), 0, [], false, true, none⟩, ⟨(some 4), 0, [], false, true, none⟩]⟩], fun x => fn_sig_Check_1_ip0_ikkk x.1 x.2.1 x.2.2.1 x.2.2.2.1 x.2.2.2.2⟩
theorem sig_Check_1_ip0_ikkk_is : SpecOk Try.prog sp_sig_Check_1_ip0_ikkk := fn_is Try.func62 h_sig_Check_1_ip0_ikkk (by kernel_rfl) (by kernel_rfl)
noncomputable def ok_sig_Check_1_ip0_ikkk : OkSpec Try.prog := ⟨sp_sig_Check_1_ip0_ikkk, sig_Check_1_ip0_ikkk_is, Try.call62⟩
noncomputable def fn_sig_Check_l1 (xa : (Int × (List (Int × Int)) × (List (List (Int × Bool))) × (List (Int × Bool)))) : Int → Option (Int ⊕ (Unit ⊕ Int)) := fun (i505 : Int) => cond (decide (i505 < (((xa.2.1.length : Nat) : Int)))) ((getI xa.2.1 i505).bind fun x542 => (fn_sig_Check_1_ip0_ikkk x542.1 xa.1 xa.2.1 xa.2.2.1 xa.2.2.2).bind fun t554 => (cond (!t554) (some (true)) ((fn_sig_Check_1_ip0_ikkk x542.2 xa.1 xa.2.1 xa.2.2.1 xa.2.2.2).bind fun t569 => some (!t569))).bind fun t565 => cond (t565) (some (.inr ((.inr (7))))) (some (.inl (IntKind.wrap .i64 (i505 + 1))))) (some (.inr ((.inl ()))))
noncomputable def fn_sig_Check_l2 (xa : (Int × (List (Int × Int)) × (List (List (Int × Bool))) × (List (Int × Bool)))) : Int → Option (Int ⊕ (Unit ⊕ Int)) := fun (i667 : Int) => cond (decide (i667 < (((xa.2.2.1.length : Nat) : Int)))) ((getI xa.2.2.1 i667).bind fun x693 => (fn_row_Check x693 xa.1).bind fun i709 => cond (!decide (i709 = 0)) (some (.inr ((.inr (i709))))) (some (.inl (IntKind.wrap .i64 (i667 + 1))))) (some (.inr ((.inl ()))))
noncomputable def fn_sig_Check (xa : (Int × (List (Int × Int)) × (List (List (Int × Bool))) × (List (Int × Bool)))) : Option Int :=
  cond (decide (xa.1 < 0)) (some (7)) (cond (((decide (16 < xa.1)) || (decide (16 < (((xa.2.1.length : Nat) : Int))))) || (decide (16 < (((xa.2.2.1.length : Nat) : Int))))) (some (6)) ((loop (fn_sig_Check_l1 xa) 0 : Option (Unit ⊕ Int)).bind fun o => match o with | .inr r => some r | .inl () => (loop (fn_sig_Check_l2 xa) 0 : Option (Unit ⊕ Int)).bind fun o => match o with | .inr r => some r | .inl () => (fn_row_Check xa.2.2.2 xa.1).bind fun i716 => some (i716)))
noncomputable def h_sig_Check : Hn Try.prog := .tw 11 (.nil) (.gp 4 (.gp 4 (.tw 26 (.nil) (.jx [(0, 0), (0, 1), (0, 2), (0, 3)] ⟨[], [⟨(some 0), 47, [.is 1 (.any), .is 2 (.any), .is 3 (.any), .is 4 (.any)], false, false, none⟩, ⟨(some 2), 0, [], false, true, none⟩, ⟨(some 3), 0, [], false, true, none⟩, ⟨(some 4), 0, [], false, true, none⟩, ⟨(some 5), 0, [], false, true, none⟩]⟩ [0] (.lp ⟨[(31, .dat (.int .i64))], [⟨(some 0), 47, [.is 1 (.any), .is 2 (.any), .is 3 (.any), .is 4 (.any)], false, false, none⟩, ⟨(some 2), 0, [], false, true, none⟩, ⟨(some 3), 0, [], false, true, none⟩, ⟨(some 4), 0, [], false, true, none⟩, ⟨(some 5), 0, [], false, true, none⟩]⟩ (.tw 32 (.cl ok_sig_Check_1_ip0_ikkk [] (.gj 5 ⟨[(46, .dat .bool)], [⟨(some 0), 47, [.is 1 (.any), .is 2 (.any), .is 3 (.any), .is 4 (.any)], false, false, none⟩, ⟨(some 2), 0, [], false, true, none⟩, ⟨(some 3), 0, [], false, true, none⟩, ⟨(some 4), 0, [], false, true, none⟩, ⟨(some 5), 0, [], false, true, none⟩]⟩ [0] (.two 40 (.nil) (.cl ok_sig_Check_1_ip0_ikkk [] (.nil))) (.tw 46 (.nil) (.nil)))) (.nil))) (.jx [] ⟨[], []⟩ [] (.lp ⟨[(51, .dat (.int .i64))], []⟩ (.tw 52 (.cl ok_row_Check [] (.tw 60 (.nil) (.nil))) (.nil))) (.cl ok_row_Check [] (.nil)))))))
noncomputable def sp_sig_Check : Spec := ⟨50, ⟨[(0, .dat (.cons (.int .i64) (.cons (.sl (.cons (.int .i64) (.one (.int .i64)))) (.cons (.sl (.one (.sl (.cons (.int .i64) (.one .bool))))) (.one (.one (.sl (.cons (.int .i64) (.one .bool)))))))))], []⟩, [⟨[(0, .dat (.int .i64))], []⟩], fun x => fn_sig_Check x⟩
theorem sig_Check_is : SpecOk Try.prog sp_sig_Check := fn_is Try.func50 h_sig_Check (by kernel_rfl) (by kernel_rfl)
noncomputable def ok_sig_Check : OkSpec Try.prog := ⟨sp_sig_Check, sig_Check_is, Try.call50⟩
noncomputable def fn_valid_sigs_az_l1 (xa : (Int × Int × (List (Int × Int)) × (List (List (Int × Bool))) × (List (Int × Bool)) × (List (Int × (List (Int × Int)) × (List (List (Int × Bool))) × (List (Int × Bool)))) × (List ((List (Int × Int × Int × Int × Bool)) × (Int × Int × Int × (List Int) × (List Int) × (List Int)))))) : Int → Option (Int ⊕ (Unit ⊕ (Int × Int × Int × Int))) := fun (i374 : Int) => cond (decide (i374 < (((xa.2.2.2.2.2.1.length : Nat) : Int)))) ((getI xa.2.2.2.2.2.1 i374).bind fun x413 => (fn_tick_Counter_Add_zii 1 1).bind fun _ => (fn_sig_Check (x413.1, x413.2.1, x413.2.2.1, x413.2.2.2)).bind fun i442 => cond (!decide (i442 = 0)) (some (.inr ((.inr ((i442, 4, i374, 0)))))) (some (.inl (IntKind.wrap .i64 (i374 + 1))))) (some (.inr ((.inl ()))))
noncomputable def fn_valid_sigs_az (xa : (Int × Int × (List (Int × Int)) × (List (List (Int × Bool))) × (List (Int × Bool)) × (List (Int × (List (Int × Int)) × (List (List (Int × Bool))) × (List (Int × Bool)))) × (List ((List (Int × Int × Int × Int × Bool)) × (Int × Int × Int × (List Int) × (List Int) × (List Int)))))) : Option (Int × Int × Int × Int) :=
  cond (decide (65536 < (((xa.2.2.2.2.2.1.length : Nat) : Int)))) (some ((6, 4, 0, 0))) ((loop (fn_valid_sigs_az_l1 xa) 0 : Option (Unit ⊕ (Int × Int × Int × Int))).bind fun o => match o with | .inr r => some r | .inl () => some ((0, 0, 0, 0)))
noncomputable def h_valid_sigs_az : Hn Try.prog := .tw 11 (.nil) (.jx [] ⟨[], [⟨(some 2), 74, [.lit (.int .i64 0), .lit (.int .i64 0), .lit (.int .i64 0), .lit (.int .i64 0)], false, false, none⟩]⟩ [2, 0] (.lp ⟨[(16, .dat (.int .i64))], [⟨(some 2), 74, [.lit (.int .i64 0), .lit (.int .i64 0), .lit (.int .i64 0), .lit (.int .i64 0)], false, false, none⟩]⟩ (.tw 17 (.cl ok_tick_Counter_Add_zii [] (.cl ok_sig_Check [] (.tw 26 (.nil) (.nil)))) (.nil))) (.nil))
noncomputable def sp_valid_sigs_az : Spec := ⟨31, ⟨[(0, .dat (.cons (.int .i64) (.cons (.int .i64) (.cons (.sl (.cons (.int .i64) (.one (.int .i64)))) (.cons (.sl (.one (.sl (.cons (.int .i64) (.one .bool))))) (.cons (.one (.sl (.cons (.int .i64) (.one .bool)))) (.cons (.sl (.cons (.int .i64) (.cons (.sl (.cons (.int .i64) (.one (.int .i64)))) (.cons (.sl (.one (.sl (.cons (.int .i64) (.one .bool))))) (.one (.one (.sl (.cons (.int .i64) (.one .bool))))))))) (.one (.sl (.cons (.sl (.cons (.int .i64) (.cons (.int .i64) (.cons (.int .i64) (.cons (.int .i64) (.one .bool)))))) (.one (.cons (.int .i64) (.cons (.int .i64) (.cons (.int .i64) (.cons (.sl (.int .i64)) (.cons (.sl (.int .i64)) (.one (.sl (.int .i64))))))))))))))))))), (1, .nilp)], []⟩, [⟨[(0, .agg [.dat (.int .i64), .dat (.int .i64), .dat (.int .i64), .dat (.int .i64)])], []⟩], fun x => fn_valid_sigs_az x⟩
theorem valid_sigs_az_is : SpecOk Try.prog sp_valid_sigs_az := fn_is Try.func31 h_valid_sigs_az (by kernel_rfl) (by kernel_rfl)
noncomputable def ok_valid_sigs_az : OkSpec Try.prog := ⟨sp_valid_sigs_az, valid_sigs_az_is, Try.call31⟩
noncomputable def fn_valid_blocks_az_l1 (xa : (Int × Int × (List (Int × Int)) × (List (List (Int × Bool))) × (List (Int × Bool)) × (List (Int × (List (Int × Int)) × (List (List (Int × Bool))) × (List (Int × Bool)))) × (List ((List (Int × Int × Int × Int × Bool)) × (Int × Int × Int × (List Int) × (List Int) × (List Int)))))) : (Int × Int) → Option ((Int × Int) ⊕ (Unit ⊕ (Int × Int × Int × Int))) := fun ((i366, i367) : (Int × Int)) => cond (decide (i367 < (((xa.2.2.2.2.2.2.length : Nat) : Int)))) ((getI xa.2.2.2.2.2.2 i367).bind fun x405 => (fn_tick_Counter_Add_zii 1 1).bind fun _ => cond (decide (65536 < (IntKind.wrap .i64 (i366 + (((x405.1.length : Nat) : Int)))))) (some (.inr ((.inr ((6, 5, i367, 0)))))) (some (.inl ((IntKind.wrap .i64 (i366 + (((x405.1.length : Nat) : Int))), IntKind.wrap .i64 (i367 + 1)))))) (some (.inr ((.inl ()))))
noncomputable def fn_valid_blocks_az (xa : (Int × Int × (List (Int × Int)) × (List (List (Int × Bool))) × (List (Int × Bool)) × (List (Int × (List (Int × Int)) × (List (List (Int × Bool))) × (List (Int × Bool)))) × (List ((List (Int × Int × Int × Int × Bool)) × (Int × Int × Int × (List Int) × (List Int) × (List Int)))))) : Option (Int × Int × Int × Int) :=
  cond (decide ((((xa.2.2.2.2.2.2.length : Nat) : Int)) = 0)) (some ((14, 5, 0, 0))) (cond (decide (65536 < (((xa.2.2.2.2.2.2.length : Nat) : Int)))) (some ((6, 5, 0, 0))) ((loop (fn_valid_blocks_az_l1 xa) (0, 0) : Option (Unit ⊕ (Int × Int × Int × Int))).bind fun o => match o with | .inr r => some r | .inl () => some ((0, 0, 0, 0))))
noncomputable def h_valid_blocks_az : Hn Try.prog := .tw 11 (.nil) (.tw 16 (.nil) (.jx [] ⟨[], [⟨(some 2), 74, [.lit (.int .i64 0), .lit (.int .i64 0), .lit (.int .i64 0), .lit (.int .i64 0)], false, false, none⟩]⟩ [2, 0] (.lp ⟨[(5, .dat (.int .i64)), (21, .dat (.int .i64))], [⟨(some 2), 74, [.lit (.int .i64 0), .lit (.int .i64 0), .lit (.int .i64 0), .lit (.int .i64 0)], false, false, none⟩]⟩ (.tw 22 (.cl ok_tick_Counter_Add_zii [] (.tw 34 (.nil) (.nil))) (.nil))) (.nil)))
noncomputable def sp_valid_blocks_az : Spec := ⟨32, ⟨[(0, .dat (.cons (.int .i64) (.cons (.int .i64) (.cons (.sl (.cons (.int .i64) (.one (.int .i64)))) (.cons (.sl (.one (.sl (.cons (.int .i64) (.one .bool))))) (.cons (.one (.sl (.cons (.int .i64) (.one .bool)))) (.cons (.sl (.cons (.int .i64) (.cons (.sl (.cons (.int .i64) (.one (.int .i64)))) (.cons (.sl (.one (.sl (.cons (.int .i64) (.one .bool))))) (.one (.one (.sl (.cons (.int .i64) (.one .bool))))))))) (.one (.sl (.cons (.sl (.cons (.int .i64) (.cons (.int .i64) (.cons (.int .i64) (.cons (.int .i64) (.one .bool)))))) (.one (.cons (.int .i64) (.cons (.int .i64) (.cons (.int .i64) (.cons (.sl (.int .i64)) (.cons (.sl (.int .i64)) (.one (.sl (.int .i64))))))))))))))))))), (1, .nilp)], []⟩, [⟨[(0, .agg [.dat (.int .i64), .dat (.int .i64), .dat (.int .i64), .dat (.int .i64)])], []⟩], fun x => fn_valid_blocks_az x⟩
theorem valid_blocks_az_is : SpecOk Try.prog sp_valid_blocks_az := fn_is Try.func32 h_valid_blocks_az (by kernel_rfl) (by kernel_rfl)
noncomputable def ok_valid_blocks_az : OkSpec Try.prog := ⟨sp_valid_blocks_az, valid_blocks_az_is, Try.call32⟩

noncomputable def fn_stmt_fieldsOf (xa : Int) : Option (Bool × Bool × Bool × Bool) :=
  cond (decide (xa = 0)) (some ((false, false, false, true))) (cond (decide (xa = 1)) (some ((true, true, false, true))) ((cond (decide (xa = 2)) (some (decide (xa = 2))) (some (decide (xa = 3))) : Option Bool).bind fun t18 => cond (t18) (some ((true, true, true, true))) (cond (decide (xa = 4)) (some ((false, true, false, true))) (cond (decide (xa = 5)) (some ((true, false, false, true))) (some ((false, false, false, false)))))))
noncomputable def h_stmt_fieldsOf : Hn Try.prog := .tw 5 (.nil) (.tw 8 (.nil) (.sq [] ⟨[(11, .dat .bool)], []⟩ [] (.tw 11 (.nil) (.nil)) (.tw 11 (.nil) (.tw 15 (.nil) (.tw 18 (.nil) (.nil))))))
noncomputable def sp_stmt_fieldsOf : Spec := ⟨77, ⟨[(0, .dat (.int .i64))], []⟩, [⟨[(0, .tup [.agg [.dat .bool, .dat .bool, .dat .bool], .dat .bool])], []⟩], fun x => fn_stmt_fieldsOf x⟩
theorem stmt_fieldsOf_is : SpecOk Try.prog sp_stmt_fieldsOf := fn_is Try.func77 h_stmt_fieldsOf (by kernel_rfl) (by kernel_rfl)
noncomputable def ok_stmt_fieldsOf : OkSpec Try.prog := ⟨sp_stmt_fieldsOf, stmt_fieldsOf_is, Try.call77⟩

noncomputable def fn_stmt_own (xa : (Int × Int × Int × Int × Bool)) (xb : (Bool × Bool × Bool)) : Option (Int × Int × Int × Int × Bool) :=
  (cond (xb.1) (some (xa.2.1)) (some (0)) : Option Int).bind fun i22 => (cond (xb.2.1) (some (xa.2.2.1)) (some (0)) : Option Int).bind fun i25 => cond (xb.2.2) (some ((xa.1, i22, i25, xa.2.2.2.1, xa.2.2.2.2))) (some ((xa.1, i22, i25, 0, false)))
noncomputable def h_stmt_own : Hn Try.prog := .pl (.pl (.sq [(6, 0)] ⟨[], [⟨(some 6), 54, [.is 1 (.any), .dat (.int .i64), .lit (.int .i64 0), .lit (.int .i64 0), .lit (.bool false)], false, false, none⟩, ⟨(some 9), 0, [], false, true, none⟩]⟩ [6] (.tw 10 (.nil) (.nil)) (.sq [(6, 1)] ⟨[], [⟨(some 6), 54, [.is 1 (.any), .is 2 (.any), .dat (.int .i64), .lit (.int .i64 0), .lit (.bool false)], false, false, none⟩, ⟨(some 9), 0, [], false, true, none⟩, ⟨(some 11), 0, [], false, true, none⟩]⟩ [6] (.tw 15 (.nil) (.nil)) (.tw 20 (.mix [([0, 1, 2, 3, 4], 5)] [6] [7] [6] (.nil)) (.nil)))))
noncomputable def sp_stmt_own : Spec := ⟨78, ⟨[(0, .dat (.cons (.int .i64) (.cons (.int .i64) (.cons (.int .i64) (.cons (.int .i64) (.one .bool)))))), (1, .dat (.cons .bool (.cons .bool (.one .bool))))], []⟩, [⟨[(0, .agg [.dat (.int .i64), .dat (.int .i64), .dat (.int .i64), .dat (.int .i64), .dat .bool])], []⟩], fun x => fn_stmt_own x.1 x.2⟩
theorem stmt_own_is : SpecOk Try.prog sp_stmt_own := fn_is Try.func78 h_stmt_own (by kernel_rfl) (by kernel_rfl)
noncomputable def ok_stmt_own : OkSpec Try.prog := ⟨sp_stmt_own, stmt_own_is, Try.call78⟩

noncomputable def fn_stmt_form (xa : (Int × Int × Int × Int × Bool)) : Option (Bool × Bool × Bool × Int) :=
  (fn_stmt_fieldsOf xa.1).bind fun (t67, t68, t69, t70) => cond (!t70) (some ((false, false, false, 3))) ((fn_stmt_own (xa.1, xa.2.1, xa.2.2.1, xa.2.2.2.1, xa.2.2.2.2) (t67, t68, t69)).bind fun (i111, i112, i113, i114, t115) => cond (!((decide (xa.1 = i111)) && ((decide (xa.2.1 = i112)) && ((decide (xa.2.2.1 = i113)) && ((decide (xa.2.2.2.1 = i114)) && (xa.2.2.2.2 == t115)))))) (some ((false, false, false, 3))) (some ((t67, t68, t69, 0))))
noncomputable def h_stmt_form : Hn Try.prog := .cl ok_stmt_fieldsOf [] (.mix [([0, 1, 2, 3, 4, 5], 6)] [7, 8] [] [] (.two 14 (.nil) (.cl ok_stmt_own [] (.tw 20 (.nil) (.nil)))))
noncomputable def sp_stmt_form : Spec := ⟨68, ⟨[(0, .dat (.cons (.int .i64) (.cons (.int .i64) (.cons (.int .i64) (.cons (.int .i64) (.one .bool))))))], []⟩, [⟨[(0, .tup [.agg [.dat .bool, .dat .bool, .dat .bool], .dat (.int .i64)])], []⟩], fun x => fn_stmt_form x⟩
theorem stmt_form_is : SpecOk Try.prog sp_stmt_form := fn_is Try.func68 h_stmt_form (by kernel_rfl) (by kernel_rfl)
noncomputable def ok_stmt_form : OkSpec Try.prog := ⟨sp_stmt_form, stmt_form_is, Try.call68⟩

noncomputable def fn_stmt_Needs_1_ip0_k (xa : Int) (qa0 : (List (List (Int × Bool)))) : Option Bool :=
  some ((decide (0 ≤ xa)) && (decide (xa < (((qa0.length : Nat) : Int)))))
noncomputable def h_stmt_Needs_1_ip0_k : Hn Try.prog := .gp 4 (.nil)
noncomputable def sp_stmt_Needs_1_ip0_k : Spec := ⟨69, ⟨[(0, .dat (.int .i64)), (1, .ptr 0 0)], [⟨none, 23, [.is 1 (.dat (.sl (.one (.sl (.cons (.int .i64) (.one .bool))))))], false, false, none⟩, ⟨none, 0, [], false, true, none⟩]⟩, [⟨[(0, .dat .bool)], [⟨(some 0), 23, [.is 1 (.any)], false, false, none⟩, ⟨(some 1), 0, [], false, true, none⟩]⟩], fun x => fn_stmt_Needs_1_ip0_k x.1 x.2⟩
theorem stmt_Needs_1_ip0_k_is : SpecOk Try.prog sp_stmt_Needs_1_ip0_k := fn_is Try.func69 h_stmt_Needs_1_ip0_k (by kernel_rfl) (by kernel_rfl)
noncomputable def ok_stmt_Needs_1_ip0_k : OkSpec Try.prog := ⟨sp_stmt_Needs_1_ip0_k, stmt_Needs_1_ip0_k_is, Try.call69⟩
noncomputable def fn_relate_related_l1 (xa : (List (Int × Bool))) (xb : (List (Int × Bool))) (xc : Int) (xd : Int) : ((List (Int × Int × Int × Int × Bool)) × Int) → Option (((List (Int × Int × Int × Int × Bool)) × Int) ⊕ (List (Int × Int × Int × Int × Bool))) := fun ((l2000, i2005) : ((List (Int × Int × Int × Int × Bool)) × Int)) => cond (decide (i2005 < (((xa.length : Nat) : Int)))) ((getI xa i2005).bind fun x2269 => (getI xb i2005).bind fun x2278 => (app l2000 (([(x2269.1, x2278.1, xc, IntKind.wrap .i64 (xd + i2005), false)] : List (Int × Int × Int × Int × Bool)))).bind fun z2290 => (getI xb i2005).bind fun x2296 => cond (x2296.2) ((getI xb i2005).bind fun x2369 => (getI xa i2005).bind fun x2378 => (app z2290 (([(x2369.1, x2378.1, xc, IntKind.wrap .i64 (xd + i2005), true)] : List (Int × Int × Int × Int × Bool)))).bind fun z2390 => some (.inl ((z2390, IntKind.wrap .i64 (i2005 + 1))))) (some (.inl ((z2290, IntKind.wrap .i64 (i2005 + 1)))))) (some (.inr (l2000)))
noncomputable def fn_relate_related (xa : (List (Int × Bool))) (xb : (List (Int × Bool))) (xc : Int) (xd : Int) : Option ((List (Int × Int × Int × Int × Bool))) :=
  (loop (fn_relate_related_l1 xa xb xc xd) ([], 0) : Option ((List (Int × Int × Int × Int × Bool)))).bind fun l1796 => some (l1796)
noncomputable def h_relate_related : Hn Try.prog := .jn [] ⟨[(9, .own 143 (.cons (.int .i64) (.cons (.int .i64) (.cons (.int .i64) (.cons (.int .i64) (.one .bool))))))], []⟩ [] (.lp ⟨[(9, .own 143 (.cons (.int .i64) (.cons (.int .i64) (.cons (.int .i64) (.cons (.int .i64) (.one .bool)))))), (13, .dat (.int .i64))], []⟩ (.tw 14 (.mix [([0, 1, 2, 3, 4, 5, 6, 7, 8, 9, 10, 11, 12, 13, 14, 15], 16)] [] [17, 18] [] (.tw 38 (.mix [([0, 1, 2, 3, 4, 5, 6, 7, 8, 9, 10, 11, 12, 13, 14, 15], 16)] [] [17, 18] [] (.nil)) (.nil))) (.nil))) (.nil)
noncomputable def sp_relate_related : Spec := ⟨79, ⟨[(0, .dat (.sl (.cons (.int .i64) (.one .bool)))), (1, .dat (.sl (.cons (.int .i64) (.one .bool)))), (2, .dat (.int .i64)), (3, .dat (.int .i64))], []⟩, [⟨[(0, .own 143 (.cons (.int .i64) (.cons (.int .i64) (.cons (.int .i64) (.cons (.int .i64) (.one .bool))))))], []⟩], fun x => fn_relate_related x.1 x.2.1 x.2.2.1 x.2.2.2⟩
theorem relate_related_is : SpecOk Try.prog sp_relate_related := fn_is Try.func79 h_relate_related (by kernel_rfl) (by kernel_rfl)
noncomputable def ok_relate_related : OkSpec Try.prog := ⟨sp_relate_related, relate_related_is, Try.call79⟩

noncomputable def fn_relate_Flow (xa : (List (Int × Bool))) (xb : (List (Int × Bool))) (xc : Int) (xd : Int) : Option (((List (Int × Int × Int × Int × Bool)) × Int)) :=
  (fn_row_Shape xa xb).bind fun t30 => cond (!t30) (some (([], 8))) ((fn_relate_related xa xb xc xd).bind fun l38 => some ((l38, 0)))
noncomputable def h_relate_Flow : Hn Try.prog := .cl ok_row_Shape [] (.tw 13 (.nil) (.cl ok_relate_related [] (.nil)))
noncomputable def sp_relate_Flow : Spec := ⟨70, ⟨[(0, .dat (.one (.sl (.cons (.int .i64) (.one .bool))))), (1, .dat (.one (.sl (.cons (.int .i64) (.one .bool))))), (2, .dat (.int .i64)), (3, .dat (.int .i64))], []⟩, [⟨[(0, .tup [.own 143 (.cons (.int .i64) (.cons (.int .i64) (.cons (.int .i64) (.cons (.int .i64) (.one .bool))))), .dat (.int .i64)])], []⟩], fun x => fn_relate_Flow x.1 x.2.1 x.2.2.1 x.2.2.2⟩
theorem relate_Flow_is : SpecOk Try.prog sp_relate_Flow := fn_is Try.func70 h_relate_Flow (by kernel_rfl) (by kernel_rfl)
noncomputable def ok_relate_Flow : OkSpec Try.prog := ⟨sp_relate_Flow, relate_Flow_is, Try.call70⟩
noncomputable def fn_row_Ref_l1 (xa : (List (Int × Bool))) (xc : Bool) : ((List (Int × Bool)) × Int) → Option (((List (Int × Bool)) × Int) ⊕ (List (Int × Bool))) := fun ((l309, i314) : ((List (Int × Bool)) × Int)) => cond (decide (i314 < (((xa.length : Nat) : Int)))) ((getI xa i314).bind fun x345 => (app l309 (([(x345.1, x345.2 || xc)] : List (Int × Bool)))).bind fun z360 => some (.inl ((z360, IntKind.wrap .i64 (i314 + 1))))) (some (.inr (l309)))
noncomputable def fn_row_Ref (xa : (List (Int × Bool))) (xb : Int) (xc : Bool) : Option ((List (Int × Bool))) :=
  (loop (fn_row_Ref_l1 xa xc) ((([(xb, false)] : List (Int × Bool)), 0)) : Option ((List (Int × Bool)))).bind fun l276 => some (l276)
noncomputable def h_row_Ref : Hn Try.prog := .jn [] ⟨[(7, .own 116 (.cons (.int .i64) (.one .bool))), (12, .any)], []⟩ [4, 0] (.lp ⟨[(7, .own 116 (.cons (.int .i64) (.one .bool))), (16, .dat (.int .i64))], []⟩ (.tw 17 (.gp 1 (.nil)) (.nil))) (.nil)
noncomputable def sp_row_Ref : Spec := ⟨80, ⟨[(0, .dat (.one (.sl (.cons (.int .i64) (.one .bool))))), (1, .dat (.int .i64)), (2, .dat .bool)], []⟩, [⟨[(0, .agg [.own 116 (.cons (.int .i64) (.one .bool))])], []⟩], fun x => fn_row_Ref x.1 x.2.1 x.2.2⟩
theorem row_Ref_is : SpecOk Try.prog sp_row_Ref := fn_is Try.func80 h_row_Ref (by kernel_rfl) (by kernel_rfl)
noncomputable def ok_row_Ref : OkSpec Try.prog := ⟨sp_row_Ref, row_Ref_is, Try.call80⟩

noncomputable def fn_relate_Loan (xa : (List (Int × Bool))) (xb : (List (Int × Bool))) (xc : Int) (xd : Bool) : Option (((List (Int × Int × Int × Int × Bool)) × Int)) :=
  (fn_row_Ref xa xc xd).bind fun l229 => (fn_row_Shape xb l229).bind fun t242 => cond (!t242) (some (([], 8))) ((getI xb 0).bind fun x248 => (subL xb 1 (((xb.length : Nat) : Int))).bind fun y308 => (fn_relate_related xa y308 1 1).bind fun l316 => (app (([(xc, x248.1, 2, 0, false)] : List (Int × Int × Int × Int × Bool))) l316).bind fun z324 => some ((z324, 0)))
noncomputable def h_relate_Loan : Hn Try.prog := .mix [([0, 1, 2, 3], 4), ([], 5)] [6] [] [] (.cl ok_row_Ref [] (.cl ok_row_Shape [4] (.tw 17 (.nil) (.mix [([0, 1, 2, 3, 4, 5], 6)] [] [7, 8, 9] [] (.cl ok_relate_related [] (.nil))))))
noncomputable def sp_relate_Loan : Spec := ⟨71, ⟨[(0, .dat (.one (.sl (.cons (.int .i64) (.one .bool))))), (1, .dat (.one (.sl (.cons (.int .i64) (.one .bool))))), (2, .dat (.int .i64)), (3, .dat .bool)], []⟩, [⟨[(0, .tup [.own 143 (.cons (.int .i64) (.cons (.int .i64) (.cons (.int .i64) (.cons (.int .i64) (.one .bool))))), .dat (.int .i64)])], []⟩], fun x => fn_relate_Loan x.1 x.2.1 x.2.2.1 x.2.2.2⟩
theorem relate_Loan_is : SpecOk Try.prog sp_relate_Loan := fn_is Try.func71 h_relate_Loan (by kernel_rfl) (by kernel_rfl)
noncomputable def ok_relate_Loan : OkSpec Try.prog := ⟨sp_relate_Loan, relate_Loan_is, Try.call71⟩

noncomputable def fn_relate_mayBorrowAgain_1 (xa : (Int × Bool)) : Option Bool :=
  some (!xa.2)
noncomputable def h_relate_mayBorrowAgain_1 : Hn Try.prog := .nil
noncomputable def sp_relate_mayBorrowAgain_1 : Spec := ⟨87, ⟨[(0, .dat (.cons (.int .i64) (.one .bool)))], []⟩, [⟨[(0, .dat .bool)], []⟩], fun x => fn_relate_mayBorrowAgain_1 x⟩
theorem relate_mayBorrowAgain_1_is : SpecOk Try.prog sp_relate_mayBorrowAgain_1 := fn_is Try.func87 h_relate_mayBorrowAgain_1 (by kernel_rfl) (by kernel_rfl)
noncomputable def ok_relate_mayBorrowAgain_1 : OkSpec Try.prog := ⟨sp_relate_mayBorrowAgain_1, relate_mayBorrowAgain_1_is, Try.call87⟩
noncomputable def fn_slices_IndexFunc_api_Slot_api_Slot_k_relate_mayBorrowAgain_1_l1 (xa : (List (Int × Bool))) : Int → Option (Int ⊕ (Unit ⊕ Int)) := fun (i185 : Int) => cond (decide (i185 < (((xa.length : Nat) : Int)))) ((getI xa i185).bind fun x206 => (fn_relate_mayBorrowAgain_1 (x206.1, x206.2)).bind fun t217 => cond (t217) (some (.inr ((.inr (i185))))) (some (.inl (IntKind.wrap .i64 (i185 + 1))))) (some (.inr ((.inl ()))))
noncomputable def fn_slices_IndexFunc_api_Slot_api_Slot_k_relate_mayBorrowAgain_1 (xa : (List (Int × Bool))) : Option Int :=
  (loop (fn_slices_IndexFunc_api_Slot_api_Slot_k_relate_mayBorrowAgain_1_l1 xa) 0 : Option (Unit ⊕ Int)).bind fun o => match o with | .inr r => some r | .inl () => some ((-1))
noncomputable def h_slices_IndexFunc_api_Slot_api_Slot_k_relate_mayBorrowAgain_1 : Hn Try.prog := .jx [] ⟨[], []⟩ [] (.lp ⟨[(8, .dat (.int .i64))], []⟩ (.tw 9 (.cl ok_relate_mayBorrowAgain_1 [] (.tw 16 (.nil) (.nil))) (.nil))) (.nil)
noncomputable def sp_slices_IndexFunc_api_Slot_api_Slot_k_relate_mayBorrowAgain_1 : Spec := ⟨76, ⟨[(0, .dat (.sl (.cons (.int .i64) (.one .bool)))), (1, .fn 87 [])], []⟩, [⟨[(0, .dat (.int .i64))], []⟩], fun x => fn_slices_IndexFunc_api_Slot_api_Slot_k_relate_mayBorrowAgain_1 x⟩
theorem slices_IndexFunc_api_Slot_api_Slot_k_relate_mayBorrowAgain_1_is : SpecOk Try.prog sp_slices_IndexFunc_api_Slot_api_Slot_k_relate_mayBorrowAgain_1 := fn_is Try.func76 h_slices_IndexFunc_api_Slot_api_Slot_k_relate_mayBorrowAgain_1 (by kernel_rfl) (by kernel_rfl)
noncomputable def ok_slices_IndexFunc_api_Slot_api_Slot_k_relate_mayBorrowAgain_1 : OkSpec Try.prog := ⟨sp_slices_IndexFunc_api_Slot_api_Slot_k_relate_mayBorrowAgain_1, slices_IndexFunc_api_Slot_api_Slot_k_relate_mayBorrowAgain_1_is, Try.call76⟩

noncomputable def fn_slices_ContainsFunc_api_Slot_api_Slot_k_relate_mayBorrowAgain_1 (xa : (List (Int × Bool))) : Option Bool :=
  (fn_slices_IndexFunc_api_Slot_api_Slot_k_relate_mayBorrowAgain_1 xa).bind fun i10 => some (decide (0 ≤ i10))
noncomputable def h_slices_ContainsFunc_api_Slot_api_Slot_k_relate_mayBorrowAgain_1 : Hn Try.prog := .cl ok_slices_IndexFunc_api_Slot_api_Slot_k_relate_mayBorrowAgain_1 [] (.nil)
noncomputable def sp_slices_ContainsFunc_api_Slot_api_Slot_k_relate_mayBorrowAgain_1 : Spec := ⟨66, ⟨[(0, .dat (.sl (.cons (.int .i64) (.one .bool)))), (1, .fn 87 [])], []⟩, [⟨[(0, .dat .bool)], []⟩], fun x => fn_slices_ContainsFunc_api_Slot_api_Slot_k_relate_mayBorrowAgain_1 x⟩
theorem slices_ContainsFunc_api_Slot_api_Slot_k_relate_mayBorrowAgain_1_is : SpecOk Try.prog sp_slices_ContainsFunc_api_Slot_api_Slot_k_relate_mayBorrowAgain_1 := fn_is Try.func66 h_slices_ContainsFunc_api_Slot_api_Slot_k_relate_mayBorrowAgain_1 (by kernel_rfl) (by kernel_rfl)
noncomputable def ok_slices_ContainsFunc_api_Slot_api_Slot_k_relate_mayBorrowAgain_1 : OkSpec Try.prog := ⟨sp_slices_ContainsFunc_api_Slot_api_Slot_k_relate_mayBorrowAgain_1, slices_ContainsFunc_api_Slot_api_Slot_k_relate_mayBorrowAgain_1_is, Try.call66⟩

noncomputable def fn_relate_mayBorrowAgain (xa : (List (Int × Bool))) (xb : (List (Int × Bool))) (xc : Bool) : Option Bool :=
  (cond (decide ((((xa.length : Nat) : Int)) = 0)) (some (true)) ((getI xa 0).bind fun x69 => some (x69.2))).bind fun t67 => (cond (t67) (some (true)) ((fn_row_Shape xa xb).bind fun t89 => some (!t89))).bind fun t85 => cond (t85) (some (false)) ((subL xa 1 (((xa.length : Nat) : Int))).bind fun y94 => (fn_slices_ContainsFunc_api_Slot_api_Slot_k_relate_mayBorrowAgain_1 y94).bind fun t102 => some ((!xc) || (!t102)))
noncomputable def h_relate_mayBorrowAgain : Hn Try.prog := .gj 5 ⟨[(18, .dat .bool)], []⟩ [] (.two 12 (.nil) (.nil)) (.gj 4 ⟨[(24, .dat .bool)], []⟩ [] (.two 19 (.nil) (.cl ok_row_Shape [] (.nil))) (.tw 24 (.nil) (.cl ok_slices_ContainsFunc_api_Slot_api_Slot_k_relate_mayBorrowAgain_1 [] (.gp 2 (.nil)))))
noncomputable def sp_relate_mayBorrowAgain : Spec := ⟨81, ⟨[(0, .dat (.one (.sl (.cons (.int .i64) (.one .bool))))), (1, .dat (.one (.sl (.cons (.int .i64) (.one .bool))))), (2, .dat .bool)], []⟩, [⟨[(0, .dat .bool)], []⟩], fun x => fn_relate_mayBorrowAgain x.1 x.2.1 x.2.2⟩
theorem relate_mayBorrowAgain_is : SpecOk Try.prog sp_relate_mayBorrowAgain := fn_is Try.func81 h_relate_mayBorrowAgain (by kernel_rfl) (by kernel_rfl)
noncomputable def ok_relate_mayBorrowAgain : OkSpec Try.prog := ⟨sp_relate_mayBorrowAgain, relate_mayBorrowAgain_is, Try.call81⟩

noncomputable def fn_relate_Again (xa : (List (Int × Bool))) (xb : (List (Int × Bool))) (xc : Int) (xd : Bool) : Option (((List (Int × Int × Int × Int × Bool)) × Int)) :=
  (fn_relate_mayBorrowAgain xa xb xd).bind fun t198 => cond (!t198) (some (([], 8))) ((getI xa 0).bind fun x267 => (getI xb 0).bind fun x276 => (subL xa 1 (((xa.length : Nat) : Int))).bind fun y354 => (subL xb 1 (((xb.length : Nat) : Int))).bind fun y360 => (fn_relate_related y354 y360 1 1).bind fun l368 => (app (([(x267.1, xc, 3, 0, false), (xc, x276.1, 2, 0, false)] : List (Int × Int × Int × Int × Bool))) l368).bind fun z376 => some ((z376, 0)))
noncomputable def h_relate_Again : Hn Try.prog := .cl ok_relate_mayBorrowAgain [] (.tw 15 (.nil) (.mix [([0, 1, 2, 3, 4, 5, 6, 7, 8, 9, 10, 11, 12, 13], 14)] [15] [] [] (.mix [([0, 1, 2, 3, 4, 5, 6], 7)] [] [8, 9, 10] [] (.cl ok_relate_related [] (.nil)))))
noncomputable def sp_relate_Again : Spec := ⟨72, ⟨[(0, .dat (.one (.sl (.cons (.int .i64) (.one .bool))))), (1, .dat (.one (.sl (.cons (.int .i64) (.one .bool))))), (2, .dat (.int .i64)), (3, .dat .bool)], []⟩, [⟨[(0, .tup [.own 143 (.cons (.int .i64) (.cons (.int .i64) (.cons (.int .i64) (.cons (.int .i64) (.one .bool))))), .dat (.int .i64)])], []⟩], fun x => fn_relate_Again x.1 x.2.1 x.2.2.1 x.2.2.2⟩
theorem relate_Again_is : SpecOk Try.prog sp_relate_Again := fn_is Try.func72 h_relate_Again (by kernel_rfl) (by kernel_rfl)
noncomputable def ok_relate_Again : OkSpec Try.prog := ⟨sp_relate_Again, relate_Again_is, Try.call72⟩

noncomputable def fn_stmt_Needs (xa : (Int × Int × Int × Int × Bool)) (xb : (List (List (Int × Bool)))) (xc : Int) : Option (((List (Int × Int × Int × Int × Bool)) × Int)) :=
  (fn_stmt_form (xa.1, xa.2.1, xa.2.2.1, xa.2.2.2.1, xa.2.2.2.2)).bind fun (t527, t528, t529, i530) => cond (!decide (i530 = 0)) (some (([], i530))) ((cond (t527) ((fn_stmt_Needs_1_ip0_k xa.2.1 xb).bind fun t548 => some (!t548)) (some (false))).bind fun t544 => (cond (t544) (some (true)) ((cond (t528) ((fn_stmt_Needs_1_ip0_k xa.2.2.1 xb).bind fun t581 => some (!t581)) (some (false))).bind fun t577 => some (t577))).bind fun t568 => cond (t568 || (t529 && ((decide (xa.2.2.2.1 < 0)) || (decide (xc ≤ xa.2.2.2.1))))) (some (([], 7))) (cond (decide (xa.1 = 1)) ((getI xb xa.2.2.1).bind fun x705 => (getI xb xa.2.1).bind fun x718 => (fn_relate_Flow x705 x718 1 0).bind fun (l733, i734) => some ((l733, i734))) (cond (decide (xa.1 = 2)) ((getI xb xa.2.2.1).bind fun x854 => (getI xb xa.2.1).bind fun x867 => (fn_relate_Loan x854 x867 xa.2.2.2.1 xa.2.2.2.2).bind fun (l882, i883) => some ((l882, i883))) (cond (decide (xa.1 = 3)) ((getI xb xa.2.2.1).bind fun x1003 => (getI xb xa.2.1).bind fun x1016 => (fn_relate_Again x1003 x1016 xa.2.2.2.1 xa.2.2.2.2).bind fun (l1031, i1032) => some ((l1031, i1032))) (some (([], 0)))))))
noncomputable def h_stmt_Needs : Hn Try.prog := .cl ok_stmt_form [] (.tw 17 (.nil) (.mc 2 0 3 (.gj 5 ⟨[(28, .dat .bool)], [⟨(some 2), 23, [.is 1 (.any)], false, false, none⟩, ⟨(some 7), 0, [], false, true, none⟩]⟩ [2] (.two 22 (.cl ok_stmt_Needs_1_ip0_k [] (.nil)) (.nil)) (.gj 9 ⟨[(39, .dat .bool)], [⟨(some 2), 23, [.is 1 (.any)], false, false, none⟩, ⟨(some 7), 0, [], false, true, none⟩]⟩ [2] (.two 29 (.nil) (.gj 5 ⟨[(38, .dat .bool)], [⟨(some 2), 23, [.is 1 (.any)], false, false, none⟩, ⟨(some 7), 0, [], false, true, none⟩]⟩ [2] (.two 32 (.cl ok_stmt_Needs_1_ip0_k [] (.nil)) (.nil)) (.nil))) (.gp 13 (.tw 54 (.nil) (.tw 57 (.mix [([0, 1, 2, 3, 4, 5, 6, 7, 8, 9], 10)] [11, 12, 13, 14] [] [] (.cl ok_relate_Flow [] (.nil))) (.tw 72 (.mix [([0, 1, 2, 3, 4, 5, 6, 7, 8, 9, 10, 11, 12, 13], 14)] [15, 16, 17, 18] [] [] (.cl ok_relate_Loan [] (.nil))) (.tw 91 (.mix [([0, 1, 2, 3, 4, 5, 6, 7, 8, 9, 10, 11, 12, 13], 14)] [15, 16, 17, 18] [] [] (.cl ok_relate_Again [] (.nil))) (.nil))))))))))
noncomputable def sp_stmt_Needs : Spec := ⟨63, ⟨[(0, .dat (.cons (.int .i64) (.cons (.int .i64) (.cons (.int .i64) (.cons (.int .i64) (.one .bool)))))), (1, .dat (.sl (.one (.sl (.cons (.int .i64) (.one .bool)))))), (2, .dat (.int .i64))], []⟩, [⟨[(0, .tup [.own 143 (.cons (.int .i64) (.cons (.int .i64) (.cons (.int .i64) (.cons (.int .i64) (.one .bool))))), .dat (.int .i64)])], []⟩], fun x => fn_stmt_Needs x.1 x.2.1 x.2.2⟩
theorem stmt_Needs_is : SpecOk Try.prog sp_stmt_Needs := fn_is Try.func63 h_stmt_Needs (by kernel_rfl) (by kernel_rfl)
noncomputable def ok_stmt_Needs : OkSpec Try.prog := ⟨sp_stmt_Needs, stmt_Needs_is, Try.call63⟩

noncomputable def fn_stmt_Check (xa : (Int × Int × Int × Int × Bool)) (xb : (List (List (Int × Bool)))) (xc : Int) : Option Int :=
  (fn_stmt_Needs (xa.1, xa.2.1, xa.2.2.1, xa.2.2.2.1, xa.2.2.2.2) xb xc).bind fun (l17, i18) => some (i18)
noncomputable def h_stmt_Check : Hn Try.prog := .cl ok_stmt_Needs [] (.nil)
noncomputable def sp_stmt_Check : Spec := ⟨51, ⟨[(0, .dat (.cons (.int .i64) (.cons (.int .i64) (.cons (.int .i64) (.cons (.int .i64) (.one .bool)))))), (1, .dat (.sl (.one (.sl (.cons (.int .i64) (.one .bool)))))), (2, .dat (.int .i64))], []⟩, [⟨[(0, .dat (.int .i64))], []⟩], fun x => fn_stmt_Check x.1 x.2.1 x.2.2⟩
theorem stmt_Check_is : SpecOk Try.prog sp_stmt_Check := fn_is Try.func51 h_stmt_Check (by kernel_rfl) (by kernel_rfl)
noncomputable def ok_stmt_Check : OkSpec Try.prog := ⟨sp_stmt_Check, stmt_Check_is, Try.call51⟩

noncomputable def fn_term_calls (xa : (Int × Int × Int × (List Int) × (List Int) × (List Int))) : Option Bool :=
  some (((!decide (xa.2.1 = 0)) || (!decide (xa.2.2.1 = 0))) || (decide (0 < (((xa.2.2.2.2.2.length : Nat) : Int)))))
noncomputable def h_term_calls : Hn Try.prog := .gp 3 (.gp 4 (.nil))
noncomputable def sp_term_calls : Spec := ⟨82, ⟨[(0, .dat (.cons (.int .i64) (.cons (.int .i64) (.cons (.int .i64) (.cons (.sl (.int .i64)) (.cons (.sl (.int .i64)) (.one (.sl (.int .i64)))))))))], []⟩, [⟨[(0, .dat .bool)], []⟩], fun x => fn_term_calls x⟩
theorem term_calls_is : SpecOk Try.prog sp_term_calls := fn_is Try.func82 h_term_calls (by kernel_rfl) (by kernel_rfl)
noncomputable def ok_term_calls : OkSpec Try.prog := ⟨sp_term_calls, term_calls_is, Try.call82⟩

noncomputable def fn_term_form (xa : (Int × Int × Int × (List Int) × (List Int) × (List Int))) : Option Int :=
  (cond (decide (xa.1 = 1)) ((cond ((decide ((((xa.2.2.2.1.length : Nat) : Int)) = 1)) && (decide ((((xa.2.2.2.2.1.length : Nat) : Int)) = 0))) ((fn_term_calls (xa.1, xa.2.1, xa.2.2.1, xa.2.2.2.1, xa.2.2.2.2.1, xa.2.2.2.2.2)).bind fun t185 => some (!t185)) (some (false))).bind fun t181 => some (t181)) (cond (decide (xa.1 = 2)) ((cond (decide (0 < (((xa.2.2.2.1.length : Nat) : Int)))) ((fn_term_calls (xa.1, xa.2.1, xa.2.2.1, xa.2.2.2.1, xa.2.2.2.2.1, xa.2.2.2.2.2)).bind fun t201 => some (!t201)) (some (false))).bind fun t197 => some (t197)) (cond (decide (xa.1 = 3)) ((cond ((decide ((((xa.2.2.2.1.length : Nat) : Int)) = 0)) && (decide ((((xa.2.2.2.2.1.length : Nat) : Int)) = 0))) ((fn_term_calls (xa.1, xa.2.1, xa.2.2.1, xa.2.2.2.1, xa.2.2.2.2.1, xa.2.2.2.2.2)).bind fun t219 => some (!t219)) (some (false))).bind fun t215 => some (t215)) (cond (decide (xa.1 = 4)) (some (decide ((((xa.2.2.2.1.length : Nat) : Int)) = 1))) (some (false))))) : Option Bool).bind fun t170 => cond (!t170) (some (3)) (cond (((decide (16 < (((xa.2.2.2.1.length : Nat) : Int)))) || (decide (16 < (((xa.2.2.2.2.1.length : Nat) : Int))))) || (decide (16 < (((xa.2.2.2.2.2.length : Nat) : Int))))) (some (6)) (some (0)))
noncomputable def h_term_form : Hn Try.prog := .pl (.pl (.sq [] ⟨[(3, .dat .bool)], []⟩ [] (.tw 6 (.gp 4 (.gj 3 ⟨[(22, .dat .bool)], []⟩ [] (.two 18 (.cl ok_term_calls [] (.nil)) (.nil)) (.nil))) (.tw 23 (.gj 3 ⟨[(33, .dat .bool)], []⟩ [] (.two 29 (.cl ok_term_calls [] (.nil)) (.nil)) (.nil)) (.tw 34 (.gp 4 (.gj 3 ⟨[(50, .dat .bool)], []⟩ [] (.two 46 (.cl ok_term_calls [] (.nil)) (.nil)) (.nil))) (.tw 51 (.nil) (.nil))))) (.tw 58 (.nil) (.gp 4 (.gp 4 (.tw 74 (.nil) (.nil)))))))
noncomputable def sp_term_form : Spec := ⟨73, ⟨[(0, .dat (.cons (.int .i64) (.cons (.int .i64) (.cons (.int .i64) (.cons (.sl (.int .i64)) (.cons (.sl (.int .i64)) (.one (.sl (.int .i64)))))))))], []⟩, [⟨[(0, .dat (.int .i64))], []⟩], fun x => fn_term_form x⟩
theorem term_form_is : SpecOk Try.prog sp_term_form := fn_is Try.func73 h_term_form (by kernel_rfl) (by kernel_rfl)
noncomputable def ok_term_form : OkSpec Try.prog := ⟨sp_term_form, term_form_is, Try.call73⟩

noncomputable def fn_term_beyond (xa : Int) : Option Unit :=
  some (())
noncomputable def h_term_beyond : Hn Try.prog := .nil
noncomputable def sp_term_beyond : Spec := ⟨83, ⟨[(0, .is 0 (.dat (.int .i64)))], [⟨none, 0, [], false, true, none⟩]⟩, [⟨[(0, .fn 88 [.ptr 0 0])], [⟨none, 3, [.is 1 (.any)], false, false, none⟩, ⟨(some 0), 0, [], false, true, none⟩]⟩], fun x => fn_term_beyond x⟩
theorem term_beyond_is : SpecOk Try.prog sp_term_beyond := fn_is Try.func83 h_term_beyond (by kernel_rfl) (by kernel_rfl)
noncomputable def ok_term_beyond : OkSpec Try.prog := ⟨sp_term_beyond, term_beyond_is, Try.call83⟩

noncomputable def fn_term_beyond_1_ip0_i (xa : Int) (qa0 : Int) : Option Bool :=
  some ((decide (xa < 0)) || (decide (qa0 ≤ xa)))
noncomputable def h_term_beyond_1_ip0_i : Hn Try.prog := .gp 3 (.nil)
noncomputable def sp_term_beyond_1_ip0_i : Spec := ⟨88, ⟨[(0, .dat (.int .i64)), (1, .ptr 0 0)], [⟨none, 3, [.is 1 (.dat (.int .i64))], false, false, none⟩, ⟨none, 0, [], false, true, none⟩]⟩, [⟨[(0, .dat .bool)], [⟨(some 0), 3, [.is 1 (.any)], false, false, none⟩, ⟨(some 1), 0, [], false, true, none⟩]⟩], fun x => fn_term_beyond_1_ip0_i x.1 x.2⟩
theorem term_beyond_1_ip0_i_is : SpecOk Try.prog sp_term_beyond_1_ip0_i := fn_is Try.func88 h_term_beyond_1_ip0_i (by kernel_rfl) (by kernel_rfl)
noncomputable def ok_term_beyond_1_ip0_i : OkSpec Try.prog := ⟨sp_term_beyond_1_ip0_i, term_beyond_1_ip0_i_is, Try.call88⟩
noncomputable def fn_slices_IndexFunc_int_int_k_term_beyond_1_p0_i_l1 (xa : (List Int)) (qa0 : Int) : Int → Option (Int ⊕ (Unit ⊕ Int)) := fun (i185 : Int) => cond (decide (i185 < (((xa.length : Nat) : Int)))) ((getI xa i185).bind fun x206 => (fn_term_beyond_1_ip0_i x206 qa0).bind fun t217 => cond (t217) (some (.inr ((.inr (i185))))) (some (.inl (IntKind.wrap .i64 (i185 + 1))))) (some (.inr ((.inl ()))))
noncomputable def fn_slices_IndexFunc_int_int_k_term_beyond_1_p0_i (xa : (List Int)) (qa0 : Int) : Option Int :=
  (loop (fn_slices_IndexFunc_int_int_k_term_beyond_1_p0_i_l1 xa qa0) 0 : Option (Unit ⊕ Int)).bind fun o => match o with | .inr r => some r | .inl () => some ((-1))
noncomputable def h_slices_IndexFunc_int_int_k_term_beyond_1_p0_i : Hn Try.prog := .jx [] ⟨[], [⟨(some 0), 3, [.is 1 (.any)], false, false, none⟩, ⟨(some 1), 0, [], false, true, none⟩]⟩ [0] (.lp ⟨[(8, .dat (.int .i64))], [⟨(some 0), 3, [.is 1 (.any)], false, false, none⟩, ⟨(some 1), 0, [], false, true, none⟩]⟩ (.tw 9 (.cl ok_term_beyond_1_ip0_i [] (.tw 16 (.nil) (.nil))) (.nil))) (.nil)
noncomputable def sp_slices_IndexFunc_int_int_k_term_beyond_1_p0_i : Spec := ⟨89, ⟨[(0, .dat (.sl (.int .i64))), (1, .fn 88 [.ptr 0 0])], [⟨none, 3, [.is 1 (.dat (.int .i64))], false, false, none⟩, ⟨none, 0, [], false, true, none⟩]⟩, [⟨[(0, .dat (.int .i64))], [⟨(some 0), 3, [.is 1 (.any)], false, false, none⟩, ⟨(some 1), 0, [], false, true, none⟩]⟩], fun x => fn_slices_IndexFunc_int_int_k_term_beyond_1_p0_i x.1 x.2⟩
theorem slices_IndexFunc_int_int_k_term_beyond_1_p0_i_is : SpecOk Try.prog sp_slices_IndexFunc_int_int_k_term_beyond_1_p0_i := fn_is Try.func89 h_slices_IndexFunc_int_int_k_term_beyond_1_p0_i (by kernel_rfl) (by kernel_rfl)
noncomputable def ok_slices_IndexFunc_int_int_k_term_beyond_1_p0_i : OkSpec Try.prog := ⟨sp_slices_IndexFunc_int_int_k_term_beyond_1_p0_i, slices_IndexFunc_int_int_k_term_beyond_1_p0_i_is, Try.call89⟩

noncomputable def fn_slices_ContainsFunc_int_int_k_term_beyond_1_p0_i (xa : (List Int)) (qa0 : Int) : Option Bool :=
  (fn_slices_IndexFunc_int_int_k_term_beyond_1_p0_i xa qa0).bind fun i10 => some (decide (0 ≤ i10))
noncomputable def h_slices_ContainsFunc_int_int_k_term_beyond_1_p0_i : Hn Try.prog := .cl ok_slices_IndexFunc_int_int_k_term_beyond_1_p0_i [] (.nil)
noncomputable def sp_slices_ContainsFunc_int_int_k_term_beyond_1_p0_i : Spec := ⟨84, ⟨[(0, .dat (.sl (.int .i64))), (1, .fn 88 [.ptr 0 0])], [⟨none, 3, [.is 1 (.dat (.int .i64))], false, false, none⟩, ⟨none, 0, [], false, true, none⟩]⟩, [⟨[(0, .dat .bool)], [⟨(some 0), 3, [.is 1 (.any)], false, false, none⟩, ⟨(some 1), 0, [], false, true, none⟩]⟩], fun x => fn_slices_ContainsFunc_int_int_k_term_beyond_1_p0_i x.1 x.2⟩
theorem slices_ContainsFunc_int_int_k_term_beyond_1_p0_i_is : SpecOk Try.prog sp_slices_ContainsFunc_int_int_k_term_beyond_1_p0_i := fn_is Try.func84 h_slices_ContainsFunc_int_int_k_term_beyond_1_p0_i (by kernel_rfl) (by kernel_rfl)
noncomputable def ok_slices_ContainsFunc_int_int_k_term_beyond_1_p0_i : OkSpec Try.prog := ⟨sp_slices_ContainsFunc_int_int_k_term_beyond_1_p0_i, slices_ContainsFunc_int_int_k_term_beyond_1_p0_i_is, Try.call84⟩

noncomputable def fn_term_within (xa : (Int × Int × Int × (List Int) × (List Int) × (List Int))) (xb : (Int × Int × (List (List (Int × Bool))) × (List (Int × Bool)) × (List (Int × (List (Int × Int)) × (List (List (Int × Bool))) × (List (Int × Bool)))))) : Option Bool :=
  (fn_term_beyond (((xb.2.2.1.length : Nat) : Int))).bind fun _ => (fn_term_beyond xb.1).bind fun _ => (fn_slices_ContainsFunc_int_int_k_term_beyond_1_p0_i xa.2.2.2.1 xb.1).bind fun t331 => cond (t331) (some (false)) ((fn_slices_ContainsFunc_int_int_k_term_beyond_1_p0_i xa.2.2.2.2.1 (((xb.2.2.1.length : Nat) : Int))).bind fun t338 => cond (t338) (some (false)) ((fn_term_beyond xb.2.1).bind fun _ => (fn_slices_ContainsFunc_int_int_k_term_beyond_1_p0_i xa.2.2.2.2.2 xb.2.1).bind fun t351 => cond (t351) (some (false)) (cond (!decide (xa.1 = 4)) (some (true)) ((fn_term_beyond_1_ip0_i xa.2.2.1 (((xb.2.2.1.length : Nat) : Int))).bind fun t419 => cond (!t419) ((fn_term_beyond (((xb.2.2.2.2.length : Nat) : Int))).bind fun _ => (fn_term_beyond_1_ip0_i xa.2.1 (((xb.2.2.2.2.length : Nat) : Int))).bind fun t432 => some (!t432)) (some (false))))))
noncomputable def h_term_within : Hn Try.prog := .ms 8 (.cl ok_term_beyond [] (.mix [([0, 1, 2, 3], 4), ([], 5), ([6, 7, 8, 9], 10), ([11, 12, 13, 14, 15, 16], 17), ([], 18)] [19] [] [5] (.ms 13 (.cl ok_term_beyond [] (.cl ok_slices_ContainsFunc_int_int_k_term_beyond_1_p0_i [] (.two 16 (.nil) (.cl ok_slices_ContainsFunc_int_int_k_term_beyond_1_p0_i [] (.two 22 (.nil) (.ms 26 (.cl ok_term_beyond [] (.cl ok_slices_ContainsFunc_int_int_k_term_beyond_1_p0_i [] (.tw 29 (.nil) (.mix [([0, 1, 2, 3, 4, 5, 6], 7), ([8, 9, 10, 11, 12, 14, 15], 13), ([], 16)] [17, 18, 19, 20] [] [5] (.two 33 (.nil) (.cl ok_term_beyond_1_ip0_i [] (.two 39 (.ms 42 (.cl ok_term_beyond [] (.cl ok_term_beyond_1_ip0_i [] (.nil)))) (.nil)))))))))))))))))
noncomputable def sp_term_within : Spec := ⟨74, ⟨[(0, .dat (.cons (.int .i64) (.cons (.int .i64) (.cons (.int .i64) (.cons (.sl (.int .i64)) (.cons (.sl (.int .i64)) (.one (.sl (.int .i64))))))))), (1, .dat (.cons (.int .i64) (.cons (.int .i64) (.cons (.sl (.one (.sl (.cons (.int .i64) (.one .bool))))) (.cons (.one (.sl (.cons (.int .i64) (.one .bool)))) (.one (.sl (.cons (.int .i64) (.cons (.sl (.cons (.int .i64) (.one (.int .i64)))) (.cons (.sl (.one (.sl (.cons (.int .i64) (.one .bool))))) (.one (.one (.sl (.cons (.int .i64) (.one .bool)))))))))))))))], []⟩, [⟨[(0, .dat .bool)], []⟩], fun x => fn_term_within x.1 x.2⟩
theorem term_within_is : SpecOk Try.prog sp_term_within := fn_is Try.func74 h_term_within (by kernel_rfl) (by kernel_rfl)
noncomputable def ok_term_within : OkSpec Try.prog := ⟨sp_term_within, term_within_is, Try.call74⟩
noncomputable def fn_sig_callable_l1 (xa : (Int × (List (Int × Int)) × (List (List (Int × Bool))) × (List (Int × Bool)))) (xc : (List (List (Int × Bool)))) : Int → Option (Int ⊕ (Unit ⊕ Int)) := fun (i966 : Int) => cond (decide (i966 < (((xa.2.2.1.length : Nat) : Int)))) ((getI xa.2.2.1 i966).bind fun x1062 => (getI xc i966).bind fun x1133 => (fn_row_Shape x1133 x1062).bind fun t1148 => cond (!t1148) (some (.inr ((.inr (8))))) (some (.inl (IntKind.wrap .i64 (i966 + 1))))) (some (.inr ((.inl ()))))
noncomputable def fn_sig_callable (xa : (Int × (List (Int × Int)) × (List (List (Int × Bool))) × (List (Int × Bool)))) (xb : (List Int)) (xc : (List (List (Int × Bool)))) (xd : (List (Int × Bool))) : Option Int :=
  (fn_sig_Check (xa.1, xa.2.1, xa.2.2.1, xa.2.2.2)).bind fun i585 => cond (!decide (i585 = 0)) (some (i585)) (cond ((!decide ((((xb.length : Nat) : Int)) = xa.1)) || (!decide ((((xc.length : Nat) : Int)) = (((xa.2.2.1.length : Nat) : Int))))) (some (2)) ((loop (fn_sig_callable_l1 xa xc) 0 : Option (Unit ⊕ Int)).bind fun o => match o with | .inr r => some r | .inl () => (fn_row_Shape xd xa.2.2.2).bind fun t1155 => cond (!t1155) (some (8)) (some (0))))
noncomputable def h_sig_callable : Hn Try.prog := .cl ok_sig_Check [] (.tw 15 (.nil) (.gp 6 (.tw 29 (.nil) (.jx [] ⟨[], []⟩ [] (.lp ⟨[(33, .dat (.int .i64))], []⟩ (.tw 34 (.mix [([0, 1, 2, 3, 4], 5)] [6] [] [] (.cl ok_row_Shape [] (.tw 44 (.nil) (.nil)))) (.nil))) (.cl ok_row_Shape [] (.tw 50 (.nil) (.nil)))))))
noncomputable def sp_sig_callable : Spec := ⟨85, ⟨[(0, .dat (.cons (.int .i64) (.cons (.sl (.cons (.int .i64) (.one (.int .i64)))) (.cons (.sl (.one (.sl (.cons (.int .i64) (.one .bool))))) (.one (.one (.sl (.cons (.int .i64) (.one .bool))))))))), (1, .dat (.sl (.int .i64))), (2, .dat (.sl (.one (.sl (.cons (.int .i64) (.one .bool)))))), (3, .dat (.one (.sl (.cons (.int .i64) (.one .bool)))))], []⟩, [⟨[(0, .dat (.int .i64))], []⟩], fun x => fn_sig_callable x.1 x.2.1 x.2.2.1 x.2.2.2⟩
theorem sig_callable_is : SpecOk Try.prog sp_sig_callable := fn_is Try.func85 h_sig_callable (by kernel_rfl) (by kernel_rfl)
noncomputable def ok_sig_callable : OkSpec Try.prog := ⟨sp_sig_callable, sig_callable_is, Try.call85⟩

noncomputable def fn_slices_Clone_api_Slot_api_Slot (xa : (List (Int × Bool))) : Option ((List (Int × Bool))) :=
  nilb xa (some ([])) ((app (([] : List (Int × Bool))) xa).bind fun z21 => some (z21))
noncomputable def h_slices_Clone_api_Slot_api_Slot : Hn Try.prog := .two 4 (.nil) (.nil)
noncomputable def sp_slices_Clone_api_Slot_api_Slot : Spec := ⟨91, ⟨[(0, .dat (.sl (.cons (.int .i64) (.one .bool))))], []⟩, [⟨[(0, .own 116 (.cons (.int .i64) (.one .bool)))], []⟩], fun x => fn_slices_Clone_api_Slot_api_Slot x⟩
theorem slices_Clone_api_Slot_api_Slot_is : SpecOk Try.prog sp_slices_Clone_api_Slot_api_Slot := fn_is Try.func91 h_slices_Clone_api_Slot_api_Slot (by kernel_rfl) (by kernel_rfl)
noncomputable def ok_slices_Clone_api_Slot_api_Slot : OkSpec Try.prog := ⟨sp_slices_Clone_api_Slot_api_Slot, slices_Clone_api_Slot_api_Slot_is, Try.call91⟩

noncomputable def fn_row_Clone (xa : (List (Int × Bool))) : Option ((List (Int × Bool))) :=
  (fn_slices_Clone_api_Slot_api_Slot xa).bind fun l22 => some (l22)
noncomputable def h_row_Clone : Hn Try.prog := .cl ok_slices_Clone_api_Slot_api_Slot [] (.nil)
noncomputable def sp_row_Clone : Spec := ⟨90, ⟨[(0, .dat (.one (.sl (.cons (.int .i64) (.one .bool)))))], []⟩, [⟨[(0, .agg [.own 116 (.cons (.int .i64) (.one .bool))])], []⟩], fun x => fn_row_Clone x⟩
theorem row_Clone_is : SpecOk Try.prog sp_row_Clone := fn_is Try.func90 h_row_Clone (by kernel_rfl) (by kernel_rfl)
noncomputable def ok_row_Clone : OkSpec Try.prog := ⟨sp_row_Clone, row_Clone_is, Try.call90⟩
noncomputable def fn_row_Subst_l1 (xb : (List Int)) (l550 : (List (Int × Bool))) : ((List (Int × Bool)) × Int) → Option (((List (Int × Bool)) × Int) ⊕ (List (Int × Bool))) := fun ((l901, i906) : ((List (Int × Bool)) × Int)) => cond (decide (i906 < (((l550.length : Nat) : Int)))) ((getI l901 i906).bind fun x993 => (getI xb x993.1).bind fun x1049 => (getI l901 i906).bind fun x1058 => (some (l901.set i906.toNat (x1049, x1058.2))).bind fun z1065 => some (.inl ((z1065, IntKind.wrap .i64 (i906 + 1))))) (some (.inr (l901)))
noncomputable def fn_row_Subst (xa : (List (Int × Bool))) (xb : (List Int)) : Option (((List (Int × Bool)) × Int)) :=
  (fn_row_within xa (((xb.length : Nat) : Int))).bind fun t542 => cond (!t542) (some (([], 7))) ((fn_row_Clone xa).bind fun l550 => (loop (fn_row_Subst_l1 xb l550) (l550, 0) : Option ((List (Int × Bool)))).bind fun l812 => some ((l812, 0)))
noncomputable def h_row_Subst : Hn Try.prog := .cl ok_row_within [] (.tw 13 (.nil) (.cl ok_row_Clone [] (.jn [] ⟨[(16, .any), (18, .any)], [⟨(some 6), 26, [.own 116 (.cons (.int .i64) (.one .bool))], false, false, none⟩]⟩ [6, 4, 0] (.lp ⟨[(18, .own 116 (.cons (.int .i64) (.one .bool))), (20, .dat (.int .i64))], [⟨(some 6), 26, [.al 0], false, false, none⟩]⟩ (.tw 21 (.mix [] [0, 1, 2, 3, 4, 5, 6, 7, 8, 9] [10] [] (.nil)) (.nil))) (.nil))))
noncomputable def sp_row_Subst : Spec := ⟨86, ⟨[(0, .dat (.one (.sl (.cons (.int .i64) (.one .bool))))), (1, .dat (.sl (.int .i64)))], []⟩, [⟨[(0, .tup [.agg [.own 116 (.cons (.int .i64) (.one .bool))], .dat (.int .i64)])], []⟩], fun x => fn_row_Subst x.1 x.2⟩
theorem row_Subst_is : SpecOk Try.prog sp_row_Subst := fn_is Try.func86 h_row_Subst (by kernel_rfl) (by kernel_rfl)
noncomputable def ok_row_Subst : OkSpec Try.prog := ⟨sp_row_Subst, row_Subst_is, Try.call86⟩
noncomputable def fn_sig_Call_l1 (xa : (Int × (List (Int × Int)) × (List (List (Int × Bool))) × (List (Int × Bool)))) (xb : (List Int)) : ((List (Int × Int × Int × Int × Bool)) × Int) → Option (((List (Int × Int × Int × Int × Bool)) × Int) ⊕ (List (Int × Int × Int × Int × Bool))) := fun ((l2157, i2162) : ((List (Int × Int × Int × Int × Bool)) × Int)) => cond (decide (i2162 < (((xa.2.1.length : Nat) : Int)))) ((getI xa.2.1 i2162).bind fun x2273 => (getI xb x2273.1).bind fun x2346 => (getI xb x2273.2).bind fun x2355 => (app l2157 (([(x2346, x2355, 4, i2162, false)] : List (Int × Int × Int × Int × Bool)))).bind fun z2367 => some (.inl ((z2367, IntKind.wrap .i64 (i2162 + 1))))) (some (.inr (l2157)))
noncomputable def fn_sig_Call_l2 (xa : (Int × (List (Int × Int)) × (List (List (Int × Bool))) × (List (Int × Bool)))) (xb : (List Int)) (xc : (List (List (Int × Bool)))) : ((List (Int × Int × Int × Int × Bool)) × Int) → Option (((List (Int × Int × Int × Int × Bool)) × Int) ⊕ (List (Int × Int × Int × Int × Bool))) := fun ((l3044, i3049) : ((List (Int × Int × Int × Int × Bool)) × Int)) => cond (decide (i3049 < (((xa.2.2.1.length : Nat) : Int)))) ((getI xa.2.2.1 i3049).bind fun x3219 => (fn_row_Subst x3219 xb).bind fun (l3235, i3236) => (getI xc i3049).bind fun x3347 => (fn_relate_Flow x3347 l3235 5 (IntKind.wrap .i64 (16 * i3049))).bind fun (l3362, i3363) => (app l3044 l3362).bind fun z3371 => some (.inl ((z3371, IntKind.wrap .i64 (i3049 + 1))))) (some (.inr (l3044)))
noncomputable def fn_sig_Call (xa : (Int × (List (Int × Int)) × (List (List (Int × Bool))) × (List (Int × Bool)))) (xb : (List Int)) (xc : (List (List (Int × Bool)))) (xd : (List (Int × Bool))) : Option (((List (Int × Int × Int × Int × Bool)) × Int)) :=
  (fn_sig_callable (xa.1, xa.2.1, xa.2.2.1, xa.2.2.2) xb xc xd).bind fun i1712 => cond (!decide (i1712 = 0)) (some (([], i1712))) ((loop (fn_sig_Call_l1 xa xb) ([], 0) : Option ((List (Int × Int × Int × Int × Bool)))).bind fun l2043 => (loop (fn_sig_Call_l2 xa xb xc) (l2043, 0) : Option ((List (Int × Int × Int × Int × Bool)))).bind fun l2873 => (fn_row_Subst xa.2.2.2 xb).bind fun (l3380, i3381) => (fn_relate_Flow l3380 xd 6 0).bind fun (l3395, i3396) => (app l2873 l3395).bind fun z3404 => some ((z3404, 0)))
noncomputable def h_sig_Call : Hn Try.prog := .cl ok_sig_callable [] (.tw 30 (.nil) (.jn [] ⟨[(11, .own 143 (.cons (.int .i64) (.cons (.int .i64) (.cons (.int .i64) (.cons (.int .i64) (.one .bool))))))], []⟩ [] (.lp ⟨[(11, .own 143 (.cons (.int .i64) (.cons (.int .i64) (.cons (.int .i64) (.cons (.int .i64) (.one .bool)))))), (35, .dat (.int .i64))], []⟩ (.tw 36 (.mix [([0, 1, 2, 3, 4, 5, 6, 7, 8, 9, 10, 11, 12], 13)] [] [14, 15] [] (.nil)) (.nil))) (.jn [] ⟨[(11, .own 143 (.cons (.int .i64) (.cons (.int .i64) (.cons (.int .i64) (.cons (.int .i64) (.one .bool))))))], []⟩ [4] (.lp ⟨[(11, .own 143 (.cons (.int .i64) (.cons (.int .i64) (.cons (.int .i64) (.cons (.int .i64) (.one .bool)))))), (59, .dat (.int .i64))], []⟩ (.tw 60 (.cl ok_row_Subst [] (.per 11 12 (.mix [([0, 1, 2, 3, 4, 5, 6], 7)] [8, 9, 10, 11, 12] [] [] (.cl ok_relate_Flow [] (.nil))))) (.nil))) (.cl ok_row_Subst [] (.per 8 9 (.cl ok_relate_Flow [] (.nil)))))))
noncomputable def sp_sig_Call : Spec := ⟨75, ⟨[(0, .dat (.cons (.int .i64) (.cons (.sl (.cons (.int .i64) (.one (.int .i64)))) (.cons (.sl (.one (.sl (.cons (.int .i64) (.one .bool))))) (.one (.one (.sl (.cons (.int .i64) (.one .bool))))))))), (1, .dat (.sl (.int .i64))), (2, .dat (.sl (.one (.sl (.cons (.int .i64) (.one .bool)))))), (3, .dat (.one (.sl (.cons (.int .i64) (.one .bool)))))], []⟩, [⟨[(0, .tup [.own 143 (.cons (.int .i64) (.cons (.int .i64) (.cons (.int .i64) (.cons (.int .i64) (.one .bool))))), .dat (.int .i64)])], []⟩], fun x => fn_sig_Call x.1 x.2.1 x.2.2.1 x.2.2.2⟩
theorem sig_Call_is : SpecOk Try.prog sp_sig_Call := fn_is Try.func75 h_sig_Call (by kernel_rfl) (by kernel_rfl)
noncomputable def ok_sig_Call : OkSpec Try.prog := ⟨sp_sig_Call, sig_Call_is, Try.call75⟩
noncomputable def fn_term_Needs_l1 (xa : (Int × Int × Int × (List Int) × (List Int) × (List Int))) (xb : (Int × Int × (List (List (Int × Bool))) × (List (Int × Bool)) × (List (Int × (List (Int × Int)) × (List (List (Int × Bool))) × (List (Int × Bool)))))) : ((List (List (Int × Bool))) × Int) → Option (((List (List (Int × Bool))) × Int) ⊕ (List (List (Int × Bool)))) := fun ((l836, i841) : ((List (List (Int × Bool))) × Int)) => cond (decide (i841 < (((xa.2.2.2.2.1.length : Nat) : Int)))) ((getI xa.2.2.2.2.1 i841).bind fun x883 => (getI xb.2.2.1 x883).bind fun x892 => (app l836 (([x892] : List (List (Int × Bool))))).bind fun z908 => some (.inl ((z908, IntKind.wrap .i64 (i841 + 1))))) (some (.inr (l836)))
noncomputable def fn_term_Needs (xa : (Int × Int × Int × (List Int) × (List Int) × (List Int))) (xb : (Int × Int × (List (List (Int × Bool))) × (List (Int × Bool)) × (List (Int × (List (Int × Int)) × (List (List (Int × Bool))) × (List (Int × Bool)))))) : Option (((List (Int × Int × Int × Int × Bool)) × Int)) :=
  (fn_term_form (xa.1, xa.2.1, xa.2.2.1, xa.2.2.2.1, xa.2.2.2.2.1, xa.2.2.2.2.2)).bind fun i559 => cond (!decide (i559 = 0)) (some (([], i559))) ((fn_term_within (xa.1, xa.2.1, xa.2.2.1, xa.2.2.2.1, xa.2.2.2.2.1, xa.2.2.2.2.2) (xb.1, xb.2.1, xb.2.2.1, xb.2.2.2.1, xb.2.2.2.2)).bind fun t567 => cond (!t567) (some (([], 7))) (cond (decide (xa.1 = 3)) (cond (decide ((((xb.2.2.1.length : Nat) : Int)) = 0)) (some (([], 14))) ((getI xb.2.2.1 0).bind fun x648 => (fn_relate_Flow x648 xb.2.2.2.1 7 0).bind fun (l663, i664) => some ((l663, i664)))) (cond (decide (xa.1 = 4)) ((loop (fn_term_Needs_l1 xa xb) ([], 0) : Option ((List (List (Int × Bool))))).bind fun l791 => (getI xb.2.2.2.2 xa.2.1).bind fun x1058 => (getI xb.2.2.1 xa.2.2.1).bind fun x1079 => (fn_sig_Call (x1058.1, x1058.2.1, x1058.2.2.1, x1058.2.2.2) xa.2.2.2.2.2 l791 x1079).bind fun (l1097, i1098) => some ((l1097, i1098))) (some (([], 0))))))
noncomputable def h_term_Needs : Hn Try.prog := .cl ok_term_form [] (.tw 13 (.nil) (.cl ok_term_within [] (.tw 18 (.nil) (.tw 21 (.tw 26 (.nil) (.mix [([0, 1, 2, 3, 4, 5], 6)] [7, 8, 9, 10] [] [] (.cl ok_relate_Flow [] (.nil)))) (.tw 36 (.jn [] ⟨[(7, .own 26 (.one (.sl (.cons (.int .i64) (.one .bool)))))], []⟩ [] (.lp ⟨[(7, .own 26 (.one (.sl (.cons (.int .i64) (.one .bool))))), (41, .dat (.int .i64))], []⟩ (.tw 42 (.nil) (.nil))) (.mix [([0, 1, 2, 3, 4, 5, 6, 7, 8, 9, 10, 11, 12, 13, 14], 15)] [16, 17, 18, 19] [] [4] (.per 4 5 (.cl ok_sig_Call [] (.nil))))) (.nil))))))
noncomputable def sp_term_Needs : Spec := ⟨64, ⟨[(0, .dat (.cons (.int .i64) (.cons (.int .i64) (.cons (.int .i64) (.cons (.sl (.int .i64)) (.cons (.sl (.int .i64)) (.one (.sl (.int .i64))))))))), (1, .dat (.cons (.int .i64) (.cons (.int .i64) (.cons (.sl (.one (.sl (.cons (.int .i64) (.one .bool))))) (.cons (.one (.sl (.cons (.int .i64) (.one .bool)))) (.one (.sl (.cons (.int .i64) (.cons (.sl (.cons (.int .i64) (.one (.int .i64)))) (.cons (.sl (.one (.sl (.cons (.int .i64) (.one .bool))))) (.one (.one (.sl (.cons (.int .i64) (.one .bool)))))))))))))))], []⟩, [⟨[(0, .tup [.own 143 (.cons (.int .i64) (.cons (.int .i64) (.cons (.int .i64) (.cons (.int .i64) (.one .bool))))), .dat (.int .i64)])], []⟩], fun x => fn_term_Needs x.1 x.2⟩
theorem term_Needs_is : SpecOk Try.prog sp_term_Needs := fn_is Try.func64 h_term_Needs (by kernel_rfl) (by kernel_rfl)
noncomputable def ok_term_Needs : OkSpec Try.prog := ⟨sp_term_Needs, term_Needs_is, Try.call64⟩

noncomputable def fn_term_Check (xa : (Int × Int × Int × (List Int) × (List Int) × (List Int))) (xb : (Int × Int × (List (List (Int × Bool))) × (List (Int × Bool)) × (List (Int × (List (Int × Int)) × (List (List (Int × Bool))) × (List (Int × Bool)))))) : Option Int :=
  (fn_term_Needs (xa.1, xa.2.1, xa.2.2.1, xa.2.2.2.1, xa.2.2.2.2.1, xa.2.2.2.2.2) (xb.1, xb.2.1, xb.2.2.1, xb.2.2.2.1, xb.2.2.2.2)).bind fun (l19, i20) => some (i20)
noncomputable def h_term_Check : Hn Try.prog := .cl ok_term_Needs [] (.nil)
noncomputable def sp_term_Check : Spec := ⟨52, ⟨[(0, .dat (.cons (.int .i64) (.cons (.int .i64) (.cons (.int .i64) (.cons (.sl (.int .i64)) (.cons (.sl (.int .i64)) (.one (.sl (.int .i64))))))))), (1, .dat (.cons (.int .i64) (.cons (.int .i64) (.cons (.sl (.one (.sl (.cons (.int .i64) (.one .bool))))) (.cons (.one (.sl (.cons (.int .i64) (.one .bool)))) (.one (.sl (.cons (.int .i64) (.cons (.sl (.cons (.int .i64) (.one (.int .i64)))) (.cons (.sl (.one (.sl (.cons (.int .i64) (.one .bool))))) (.one (.one (.sl (.cons (.int .i64) (.one .bool)))))))))))))))], []⟩, [⟨[(0, .dat (.int .i64))], []⟩], fun x => fn_term_Check x.1 x.2⟩
theorem term_Check_is : SpecOk Try.prog sp_term_Check := fn_is Try.func52 h_term_Check (by kernel_rfl) (by kernel_rfl)
noncomputable def ok_term_Check : OkSpec Try.prog := ⟨sp_term_Check, term_Check_is, Try.call52⟩
noncomputable def fn_valid_code_az_l1 (xa : (Int × Int × (List (Int × Int)) × (List (List (Int × Bool))) × (List (Int × Bool)) × (List (Int × (List (Int × Int)) × (List (List (Int × Bool))) × (List (Int × Bool)))) × (List ((List (Int × Int × Int × Int × Bool)) × (Int × Int × Int × (List Int) × (List Int) × (List Int)))))) (i1874 : Int) (x2063 : ((List (Int × Int × Int × Int × Bool)) × (Int × Int × Int × (List Int) × (List Int) × (List Int)))) : Int → Option (Int ⊕ (Unit ⊕ (Int ⊕ (Unit ⊕ (Int × Int × Int × Int))))) := fun (i2186 : Int) => cond (decide (i2186 < (((x2063.1.length : Nat) : Int)))) ((getI x2063.1 i2186).bind fun x2213 => (fn_tick_Counter_Add_zii 1 1).bind fun _ => (fn_stmt_Check (x2213.1, x2213.2.1, x2213.2.2.1, x2213.2.2.2.1, x2213.2.2.2.2) xa.2.2.2.1 xa.2.1).bind fun i2230 => cond (!decide (i2230 = 0)) (some (.inr ((.inr (.inr ((.inr ((i2230, 6, i1874, i2186))))))))) (some (.inl (IntKind.wrap .i64 (i2186 + 1))))) (some (.inr ((.inl ()))))
noncomputable def fn_valid_code_az_l2 (xa : (Int × Int × (List (Int × Int)) × (List (List (Int × Bool))) × (List (Int × Bool)) × (List (Int × (List (Int × Int)) × (List (List (Int × Bool))) × (List (Int × Bool)))) × (List ((List (Int × Int × Int × Int × Bool)) × (Int × Int × Int × (List Int) × (List Int) × (List Int)))))) : Int → Option (Int ⊕ (Unit ⊕ (Int × Int × Int × Int))) := fun (i1874 : Int) => cond (decide (i1874 < (((xa.2.2.2.2.2.2.length : Nat) : Int)))) ((getI xa.2.2.2.2.2.2 i1874).bind fun x2063 => (loop (fn_valid_code_az_l1 xa i1874 x2063) 0 : Option (Unit ⊕ (Int ⊕ (Unit ⊕ (Int × Int × Int × Int))))).bind fun o => match o with | .inr r => some r | .inl () => (fn_tick_Counter_Add_zii 1 1).bind fun _ => (fn_term_Check (x2063.2.1, x2063.2.2.1, x2063.2.2.2.1, x2063.2.2.2.2.1, x2063.2.2.2.2.2.1, x2063.2.2.2.2.2.2) ((((xa.2.2.2.2.2.2.length : Nat) : Int), xa.2.1, xa.2.2.2.1, xa.2.2.2.2.1, xa.2.2.2.2.2.1))).bind fun i2242 => cond (!decide (i2242 = 0)) (some (.inr ((.inr ((i2242, 7, i1874, 0)))))) (some (.inl (IntKind.wrap .i64 (i1874 + 1))))) (some (.inr ((.inl ()))))
noncomputable def fn_valid_code_az (xa : (Int × Int × (List (Int × Int)) × (List (List (Int × Bool))) × (List (Int × Bool)) × (List (Int × (List (Int × Int)) × (List (List (Int × Bool))) × (List (Int × Bool)))) × (List ((List (Int × Int × Int × Int × Bool)) × (Int × Int × Int × (List Int) × (List Int) × (List Int)))))) : Option (Int × Int × Int × Int) :=
  (loop (fn_valid_code_az_l2 xa) 0 : Option (Unit ⊕ (Int × Int × Int × Int))).bind fun o => match o with | .inr r => some r | .inl () => some ((0, 0, 0, 0))
noncomputable def h_valid_code_az : Hn Try.prog := .jx [] ⟨[], [⟨(some 2), 74, [.lit (.int .i64 0), .lit (.int .i64 0), .lit (.int .i64 0), .lit (.int .i64 0)], false, false, none⟩]⟩ [2] (.lp ⟨[(27, .dat (.int .i64))], [⟨(some 2), 74, [.lit (.int .i64 0), .lit (.int .i64 0), .lit (.int .i64 0), .lit (.int .i64 0)], false, false, none⟩]⟩ (.tw 28 (.pl (.pl (.jx [] ⟨[], [⟨(some 2), 74, [.lit (.int .i64 0), .lit (.int .i64 0), .lit (.int .i64 0), .lit (.int .i64 0)], false, false, none⟩]⟩ [2] (.lp ⟨[(35, .dat (.int .i64))], [⟨(some 2), 74, [.lit (.int .i64 0), .lit (.int .i64 0), .lit (.int .i64 0), .lit (.int .i64 0)], false, false, none⟩]⟩ (.tw 36 (.cl ok_tick_Counter_Add_zii [] (.cl ok_stmt_Check [] (.tw 49 (.nil) (.nil)))) (.nil))) (.cl ok_tick_Counter_Add_zii [] (.cl ok_term_Check [] (.tw 62 (.nil) (.nil))))))) (.nil))) (.nil)
noncomputable def sp_valid_code_az : Spec := ⟨33, ⟨[(0, .dat (.cons (.int .i64) (.cons (.int .i64) (.cons (.sl (.cons (.int .i64) (.one (.int .i64)))) (.cons (.sl (.one (.sl (.cons (.int .i64) (.one .bool))))) (.cons (.one (.sl (.cons (.int .i64) (.one .bool)))) (.cons (.sl (.cons (.int .i64) (.cons (.sl (.cons (.int .i64) (.one (.int .i64)))) (.cons (.sl (.one (.sl (.cons (.int .i64) (.one .bool))))) (.one (.one (.sl (.cons (.int .i64) (.one .bool))))))))) (.one (.sl (.cons (.sl (.cons (.int .i64) (.cons (.int .i64) (.cons (.int .i64) (.cons (.int .i64) (.one .bool)))))) (.one (.cons (.int .i64) (.cons (.int .i64) (.cons (.int .i64) (.cons (.sl (.int .i64)) (.cons (.sl (.int .i64)) (.one (.sl (.int .i64))))))))))))))))))), (1, .nilp)], []⟩, [⟨[(0, .agg [.dat (.int .i64), .dat (.int .i64), .dat (.int .i64), .dat (.int .i64)])], []⟩], fun x => fn_valid_code_az x⟩
theorem valid_code_az_is : SpecOk Try.prog sp_valid_code_az := fn_is Try.func33 h_valid_code_az (by kernel_rfl) (by kernel_rfl)
noncomputable def ok_valid_code_az : OkSpec Try.prog := ⟨sp_valid_code_az, valid_code_az_is, Try.call33⟩

noncomputable def fn_valid_Check_az (xa : (Int × Int × (List (Int × Int)) × (List (List (Int × Bool))) × (List (Int × Bool)) × (List (Int × (List (Int × Int)) × (List (List (Int × Bool))) × (List (Int × Bool)))) × (List ((List (Int × Int × Int × Int × Bool)) × (Int × Int × Int × (List Int) × (List Int) × (List Int)))))) : Option (Int × Int × Int × Int) :=
  (fn_tick_Counter_Add_zii 1 1).bind fun _ => (fn_valid_head_az (xa.1, xa.2.1, xa.2.2.1, xa.2.2.2.1, xa.2.2.2.2.1, xa.2.2.2.2.2.1, xa.2.2.2.2.2.2)).bind fun (i100, i101, i102, i103) => cond (!decide (i100 = 0)) (some ((i100, i101, i102, i103))) ((fn_valid_bounds_az (xa.1, xa.2.1, xa.2.2.1, xa.2.2.2.1, xa.2.2.2.2.1, xa.2.2.2.2.2.1, xa.2.2.2.2.2.2)).bind fun (i111, i112, i113, i114) => cond (!decide (i111 = 0)) (some ((i111, i112, i113, i114))) ((fn_valid_locals_az (xa.1, xa.2.1, xa.2.2.1, xa.2.2.2.1, xa.2.2.2.2.1, xa.2.2.2.2.2.1, xa.2.2.2.2.2.2)).bind fun (i122, i123, i124, i125) => cond (!decide (i122 = 0)) (some ((i122, i123, i124, i125))) ((fn_valid_ret_az (xa.1, xa.2.1, xa.2.2.1, xa.2.2.2.1, xa.2.2.2.2.1, xa.2.2.2.2.2.1, xa.2.2.2.2.2.2)).bind fun (i133, i134, i135, i136) => cond (!decide (i133 = 0)) (some ((i133, i134, i135, i136))) ((fn_valid_sigs_az (xa.1, xa.2.1, xa.2.2.1, xa.2.2.2.1, xa.2.2.2.2.1, xa.2.2.2.2.2.1, xa.2.2.2.2.2.2)).bind fun (i144, i145, i146, i147) => cond (!decide (i144 = 0)) (some ((i144, i145, i146, i147))) ((fn_valid_blocks_az (xa.1, xa.2.1, xa.2.2.1, xa.2.2.2.1, xa.2.2.2.2.1, xa.2.2.2.2.2.1, xa.2.2.2.2.2.2)).bind fun (i155, i156, i157, i158) => cond (!decide (i155 = 0)) (some ((i155, i156, i157, i158))) ((fn_valid_code_az (xa.1, xa.2.1, xa.2.2.1, xa.2.2.2.1, xa.2.2.2.2.1, xa.2.2.2.2.2.1, xa.2.2.2.2.2.2)).bind fun (i166, i167, i168, i169) => cond (!decide (i166 = 0)) (some ((i166, i167, i168, i169))) (some ((0, 0, 0, 0)))))))))
noncomputable def h_valid_Check_az : Hn Try.prog := .cl ok_tick_Counter_Add_zii [] (.un 64 (.cl ok_valid_head_az [] (.tw 24 (.nil) (.cl ok_valid_bounds_az [] (.tw 24 (.nil) (.cl ok_valid_locals_az [] (.tw 24 (.nil) (.cl ok_valid_ret_az [] (.tw 24 (.nil) (.cl ok_valid_sigs_az [] (.tw 24 (.nil) (.cl ok_valid_blocks_az [] (.tw 24 (.nil) (.cl ok_valid_code_az [] (.tw 24 (.nil) (.nil))))))))))))))))
noncomputable def sp_valid_Check_az : Spec := ⟨23, ⟨[(0, .dat (.cons (.int .i64) (.cons (.int .i64) (.cons (.sl (.cons (.int .i64) (.one (.int .i64)))) (.cons (.sl (.one (.sl (.cons (.int .i64) (.one .bool))))) (.cons (.one (.sl (.cons (.int .i64) (.one .bool)))) (.cons (.sl (.cons (.int .i64) (.cons (.sl (.cons (.int .i64) (.one (.int .i64)))) (.cons (.sl (.one (.sl (.cons (.int .i64) (.one .bool))))) (.one (.one (.sl (.cons (.int .i64) (.one .bool))))))))) (.one (.sl (.cons (.sl (.cons (.int .i64) (.cons (.int .i64) (.cons (.int .i64) (.cons (.int .i64) (.one .bool)))))) (.one (.cons (.int .i64) (.cons (.int .i64) (.cons (.int .i64) (.cons (.sl (.int .i64)) (.cons (.sl (.int .i64)) (.one (.sl (.int .i64))))))))))))))))))), (1, .nilp)], []⟩, [⟨[(0, .agg [.dat (.int .i64), .dat (.int .i64), .dat (.int .i64), .dat (.int .i64)])], []⟩], fun x => fn_valid_Check_az x⟩
theorem valid_Check_az_is : SpecOk Try.prog sp_valid_Check_az := fn_is Try.func23 h_valid_Check_az (by kernel_rfl) (by kernel_rfl)
noncomputable def ok_valid_Check_az : OkSpec Try.prog := ⟨sp_valid_Check_az, valid_Check_az_is, Try.call23⟩

noncomputable def fn_valid_OK (xa : (Int × Int × (List (Int × Int)) × (List (List (Int × Bool))) × (List (Int × Bool)) × (List (Int × (List (Int × Int)) × (List (List (Int × Bool))) × (List (Int × Bool)))) × (List ((List (Int × Int × Int × Int × Bool)) × (Int × Int × Int × (List Int) × (List Int) × (List Int)))))) : Option Bool :=
  (fn_valid_Check_az (xa.1, xa.2.1, xa.2.2.1, xa.2.2.2.1, xa.2.2.2.2.1, xa.2.2.2.2.2.1, xa.2.2.2.2.2.2)).bind fun (i15, i17, i18, i19) => some (decide (i15 = 0))
noncomputable def h_valid_OK : Hn Try.prog := .cl ok_valid_Check_az [] (.nil)
noncomputable def sp_valid_OK : Spec := ⟨20, ⟨[(0, .dat (.cons (.int .i64) (.cons (.int .i64) (.cons (.sl (.cons (.int .i64) (.one (.int .i64)))) (.cons (.sl (.one (.sl (.cons (.int .i64) (.one .bool))))) (.cons (.one (.sl (.cons (.int .i64) (.one .bool)))) (.cons (.sl (.cons (.int .i64) (.cons (.sl (.cons (.int .i64) (.one (.int .i64)))) (.cons (.sl (.one (.sl (.cons (.int .i64) (.one .bool))))) (.one (.one (.sl (.cons (.int .i64) (.one .bool))))))))) (.one (.sl (.cons (.sl (.cons (.int .i64) (.cons (.int .i64) (.cons (.int .i64) (.cons (.int .i64) (.one .bool)))))) (.one (.cons (.int .i64) (.cons (.int .i64) (.cons (.int .i64) (.cons (.sl (.int .i64)) (.cons (.sl (.int .i64)) (.one (.sl (.int .i64)))))))))))))))))))], []⟩, [⟨[(0, .dat .bool)], []⟩], fun x => fn_valid_OK x⟩
theorem valid_OK_is : SpecOk Try.prog sp_valid_OK := fn_is Try.func20 h_valid_OK (by kernel_rfl) (by kernel_rfl)
noncomputable def ok_valid_OK : OkSpec Try.prog := ⟨sp_valid_OK, valid_OK_is, Try.call20⟩
noncomputable def fn_point_New_l1 (xa : (Int × Int × (List (Int × Int)) × (List (List (Int × Bool))) × (List (Int × Bool)) × (List (Int × (List (Int × Int)) × (List (List (Int × Bool))) × (List (Int × Bool)))) × (List ((List (Int × Int × Int × Int × Bool)) × (Int × Int × Int × (List Int) × (List Int) × (List Int)))))) : (Int × (List Int) × Int) → Option ((Int × (List Int) × Int) ⊕ ((List Int) × Int)) := fun ((i784, l785, i790) : (Int × (List Int) × Int)) => cond (decide (i784 < (((xa.2.2.2.2.2.2.length : Nat) : Int)))) ((getI xa.2.2.2.2.2.2 i784).bind fun x864 => (app l785 ([i790] : List Int)).bind fun z920 => some (.inl ((IntKind.wrap .i64 (i784 + 1), z920, IntKind.wrap .i64 (i790 + (IntKind.wrap .i64 ((((x864.1.length : Nat) : Int)) + 1))))))) (some (.inr (((l785, i790)))))
noncomputable def fn_point_New (xa : (Int × Int × (List (Int × Int)) × (List (List (Int × Bool))) × (List (Int × Bool)) × (List (Int × (List (Int × Int)) × (List (List (Int × Bool))) × (List (Int × Bool)))) × (List ((List (Int × Int × Int × Int × Bool)) × (Int × Int × Int × (List Int) × (List Int) × (List Int)))))) : Option ((Option ((List Int) × Int))) :=
  (fn_valid_OK (xa.1, xa.2.1, xa.2.2.1, xa.2.2.2.1, xa.2.2.2.2.1, xa.2.2.2.2.2.1, xa.2.2.2.2.2.2)).bind fun t472 => cond (!t472) (some ((some ([], 0)))) ((loop (fn_point_New_l1 xa) (0, [], 0) : Option (((List Int) × Int))).bind fun (l700, i705) => some ((some (l700, i705))))
noncomputable def h_point_New : Hn Try.prog := .cl ok_valid_OK [] (.tw 10 (.perb 2 3 (.cons (.sl (.int .i64)) (.one (.int .i64))) (.nil)) (.jn [] ⟨[], [⟨(some 2), 70, [.own 3 (.int .i64), .dat (.int .i64)], false, false, none⟩]⟩ [2, 0] (.lp ⟨[(15, .dat (.int .i64))], [⟨(some 2), 70, [.own 3 (.int .i64), .dat (.int .i64)], false, false, none⟩]⟩ (.tw 16 (.mix [([0, 1, 2, 3, 4, 5, 6, 7, 8], 9), ([], 10)] [11, 12] [13] [4] (.mix [] [0, 1, 2, 3, 4, 5, 6, 7, 8, 9, 10] [11] [] (.nil))) (.nil))) (.per 4 5 (.perb 2 6 (.cons (.sl (.int .i64)) (.one (.int .i64))) (.nil)))))
noncomputable def sp_point_New : Spec := ⟨14, ⟨[(0, .dat (.cons (.int .i64) (.cons (.int .i64) (.cons (.sl (.cons (.int .i64) (.one (.int .i64)))) (.cons (.sl (.one (.sl (.cons (.int .i64) (.one .bool))))) (.cons (.one (.sl (.cons (.int .i64) (.one .bool)))) (.cons (.sl (.cons (.int .i64) (.cons (.sl (.cons (.int .i64) (.one (.int .i64)))) (.cons (.sl (.one (.sl (.cons (.int .i64) (.one .bool))))) (.one (.one (.sl (.cons (.int .i64) (.one .bool))))))))) (.one (.sl (.cons (.sl (.cons (.int .i64) (.cons (.int .i64) (.cons (.int .i64) (.cons (.int .i64) (.one .bool)))))) (.one (.cons (.int .i64) (.cons (.int .i64) (.cons (.int .i64) (.cons (.sl (.int .i64)) (.cons (.sl (.int .i64)) (.one (.sl (.int .i64)))))))))))))))))))], []⟩, [⟨[(0, .dat (.ptr (.cons (.sl (.int .i64)) (.one (.int .i64)))))], []⟩], fun x => fn_point_New x⟩
theorem point_New_is : SpecOk Try.prog sp_point_New := fn_is Try.func14 h_point_New (by kernel_rfl) (by kernel_rfl)
noncomputable def ok_point_New : OkSpec Try.prog := ⟨sp_point_New, point_New_is, Try.call14⟩

noncomputable def fn_point_Points_Len (xa : (Option ((List Int) × Int))) : Option Int :=
  cond (xa.isNone) (some (0)) ((xa : Option ((List Int) × Int)).bind fun y11 => some (y11.2))
noncomputable def h_point_Points_Len : Hn Try.prog := .tw 4 (.nil) (.nil)
noncomputable def sp_point_Points_Len : Spec := ⟨15, ⟨[(0, .dat (.ptr (.cons (.sl (.int .i64)) (.one (.int .i64)))))], []⟩, [⟨[(0, .dat (.int .i64))], []⟩], fun x => fn_point_Points_Len x⟩
theorem point_Points_Len_is : SpecOk Try.prog sp_point_Points_Len := fn_is Try.func15 h_point_Points_Len (by kernel_rfl) (by kernel_rfl)
noncomputable def ok_point_Points_Len : OkSpec Try.prog := ⟨sp_point_Points_Len, point_Points_Len_is, Try.call15⟩

noncomputable def fn_touch_byStmt (xa : (Int × Int × Int × Int × Bool)) : Option (((List Int) × (List Int))) :=
  (cond (decide (xa.1 = 1)) (some (decide (xa.1 = 1))) (cond (decide (xa.1 = 2)) (some (decide (xa.1 = 2))) (some (decide (xa.1 = 3)))) : Option Bool).bind fun t37 => cond (t37) (some ((([xa.2.2.1] : List Int), ([xa.2.1] : List Int)))) (cond (decide (xa.1 = 4)) (some ((([xa.2.2.1] : List Int), []))) (cond (decide (xa.1 = 5)) (some (([], ([xa.2.1] : List Int)))) (some (([], [])))))
noncomputable def h_touch_byStmt : Hn Try.prog := .pl (.pl (.pl (.sq [] ⟨[(5, .dat .bool)], []⟩ [] (.tw 5 (.nil) (.tw 5 (.nil) (.nil))) (.tw 5 (.nil) (.tw 16 (.nil) (.tw 22 (.nil) (.nil)))))))
noncomputable def sp_touch_byStmt : Spec := ⟨17, ⟨[(0, .dat (.cons (.int .i64) (.cons (.int .i64) (.cons (.int .i64) (.cons (.int .i64) (.one .bool))))))], []⟩, [⟨[(0, .agg [.own 3 (.int .i64), .own 3 (.int .i64)])], []⟩], fun x => fn_touch_byStmt x⟩
theorem touch_byStmt_is : SpecOk Try.prog sp_touch_byStmt := fn_is Try.func17 h_touch_byStmt (by kernel_rfl) (by kernel_rfl)
noncomputable def ok_touch_byStmt : OkSpec Try.prog := ⟨sp_touch_byStmt, touch_byStmt_is, Try.call17⟩
noncomputable def fn_touch_Touches_add_p0arr_nod_l1 (l1009 : List Int) : (Int × (List ((List Int) × (List Int)))) → Option ((Int × (List ((List Int) × (List Int)))) ⊕ (List ((List Int) × (List Int)))) := fun ((i1405, l1406) : (Int × (List ((List Int) × (List Int))))) => cond (decide (i1405 < (((l1009.length : Nat) : Int)))) ((getI l1009 i1405).bind fun x1491 => (getI l1406 x1491).bind fun x1500 => (getI l1406 x1491).bind fun _ => (chkI x1491 x1491).bind fun _ => (app x1500.1 ([0] : List Int)).bind fun z1546 => (getI l1406 x1491).bind fun _ => (chkI x1491 x1491).bind fun _ => some (.inl ((IntKind.wrap .i64 (i1405 + 1), l1406.set x1491.toNat (z1546, x1500.2))))) (some (.inr (l1406)))
noncomputable def fn_touch_Touches_add_p0arr_nod_l2 (qxb_1 : (List Int)) : (Int × (List ((List Int) × (List Int)))) → Option ((Int × (List ((List Int) × (List Int)))) ⊕ (List ((List Int) × (List Int)))) := fun ((i1846, l1847) : (Int × (List ((List Int) × (List Int))))) => cond (decide (i1846 < (((qxb_1.length : Nat) : Int)))) ((getI qxb_1 i1846).bind fun x1932 => (getI l1847 x1932).bind fun x1941 => (getI l1847 x1932).bind fun _ => (chkI x1932 x1932).bind fun _ => (app x1941.2 ([0] : List Int)).bind fun z1987 => (getI l1847 x1932).bind fun _ => (chkI x1932 x1932).bind fun _ => some (.inl ((IntKind.wrap .i64 (i1846 + 1), l1847.set x1932.toNat (x1941.1, z1987))))) (some (.inr (l1847)))
noncomputable def fn_touch_Touches_add_p0arr_nod (qxb_0 : (List Int)) (qxb_1 : (List Int)) (qa1 : (List ((List Int) × (List Int)))) : Option (((List ((List Int) × (List Int))) × (List ((List Int) × (List Int))))) :=
  (srt qxb_0).bind fun l1004 => (cmpt l1004).bind fun l1009 => (app (([] : List ((List Int) × (List Int)))) (([(l1009, qxb_1)] : List ((List Int) × (List Int))))).bind fun z1105 => (loop (fn_touch_Touches_add_p0arr_nod_l1 l1009) (0, qa1) : Option ((List ((List Int) × (List Int))))).bind fun l1331 => (loop (fn_touch_Touches_add_p0arr_nod_l2 qxb_1) (0, l1331) : Option ((List ((List Int) × (List Int))))).bind fun l1772 => some ((z1105, l1772))
noncomputable def h_touch_Touches_add_p0arr_nod : Hn Try.prog := .cl ok_Sort [] (.cl ok_Compact [] (.per 14 15 (.per 3 4 (.mix [([0, 1, 2, 3, 4, 5], 6), ([], 7)] [8, 9] [10] [] (.jn [] ⟨[], [⟨(some 5), 0, [], false, false, some (.row 67 (.cons (.row 3 (.dat (.int .i64))) (.one (.row 3 (.dat (.int .i64))))))⟩]⟩ [5] (.lp ⟨[(34, .dat (.int .i64))], [⟨(some 5), 0, [], false, false, some (.row 67 (.cons (.row 3 (.dat (.int .i64))) (.one (.row 3 (.dat (.int .i64))))))⟩]⟩ (.tw 35 (.opp [9] 5 47 (.mix [([0, 1, 2, 3, 4, 5, 6, 7, 8, 9, 10, 11, 12, 13], 14), ([], 15)] [16, 17] [18] [24] (.cls 5 32 (.nil)))) (.nil))) (.jn [] ⟨[], [⟨(some 5), 0, [], false, false, some (.row 67 (.cons (.row 3 (.dat (.int .i64))) (.one (.row 3 (.dat (.int .i64))))))⟩]⟩ [8, 5] (.lp ⟨[(60, .dat (.int .i64))], [⟨(some 5), 0, [], false, false, some (.row 67 (.cons (.row 3 (.dat (.int .i64))) (.one (.row 3 (.dat (.int .i64))))))⟩]⟩ (.tw 61 (.opp [9] 5 73 (.mix [([0, 1, 2, 3, 4, 5, 6, 7, 8, 9, 10, 11, 12, 13], 14), ([], 15)] [16, 17] [18] [27] (.cls 5 33 (.nil)))) (.nil))) (.nil)))))))
noncomputable def sp_touch_Touches_add_p0arr_nod : Spec := ⟨16, ⟨[(0, .ptr 0 0), (1, .agg [.own 3 (.int .i64), .own 3 (.int .i64)])], [⟨none, 58, [.nils, .od (.row 67 (.cons (.row 3 (.dat (.int .i64))) (.one (.row 3 (.dat (.int .i64))))))], false, false, none⟩]⟩, [⟨[], [⟨(some 0), 58, [.own 63 (.cons (.sl (.int .i64)) (.one (.sl (.int .i64)))), .od (.row 67 (.cons (.row 3 (.dat (.int .i64))) (.one (.row 3 (.dat (.int .i64))))))], false, false, none⟩]⟩], fun x => fn_touch_Touches_add_p0arr_nod x.1 x.2.1 x.2.2⟩
theorem touch_Touches_add_p0arr_nod_is : SpecOk Try.prog sp_touch_Touches_add_p0arr_nod := fn_is Try.func16 h_touch_Touches_add_p0arr_nod (by kernel_rfl) (by kernel_rfl)
noncomputable def ok_touch_Touches_add_p0arr_nod : OkSpec Try.prog := ⟨sp_touch_Touches_add_p0arr_nod, touch_Touches_add_p0arr_nod_is, Try.call16⟩
noncomputable def fn_touch_Touches_add_p0arr_rod_l1 (qa0 : (List ((List Int) × (List Int)))) (l994 : List Int) : (Int × (List ((List Int) × (List Int)))) → Option ((Int × (List ((List Int) × (List Int)))) ⊕ (List ((List Int) × (List Int)))) := fun ((i1376, l1377) : (Int × (List ((List Int) × (List Int))))) => cond (decide (i1376 < (((l994.length : Nat) : Int)))) ((getI l994 i1376).bind fun x1462 => (getI l1377 x1462).bind fun x1471 => (getI l1377 x1462).bind fun _ => (chkI x1462 x1462).bind fun _ => (app x1471.1 (([((qa0.length : Nat) : Int)] : List Int))).bind fun z1517 => (getI l1377 x1462).bind fun _ => (chkI x1462 x1462).bind fun _ => some (.inl ((IntKind.wrap .i64 (i1376 + 1), l1377.set x1462.toNat (z1517, x1471.2))))) (some (.inr (l1377)))
noncomputable def fn_touch_Touches_add_p0arr_rod_l2 (qxb_1 : (List Int)) (qa0 : (List ((List Int) × (List Int)))) : (Int × (List ((List Int) × (List Int)))) → Option ((Int × (List ((List Int) × (List Int)))) ⊕ (List ((List Int) × (List Int)))) := fun ((i1817, l1818) : (Int × (List ((List Int) × (List Int))))) => cond (decide (i1817 < (((qxb_1.length : Nat) : Int)))) ((getI qxb_1 i1817).bind fun x1903 => (getI l1818 x1903).bind fun x1912 => (getI l1818 x1903).bind fun _ => (chkI x1903 x1903).bind fun _ => (app x1912.2 (([((qa0.length : Nat) : Int)] : List Int))).bind fun z1958 => (getI l1818 x1903).bind fun _ => (chkI x1903 x1903).bind fun _ => some (.inl ((IntKind.wrap .i64 (i1817 + 1), l1818.set x1903.toNat (x1912.1, z1958))))) (some (.inr (l1818)))
noncomputable def fn_touch_Touches_add_p0arr_rod (qxb_0 : (List Int)) (qxb_1 : (List Int)) (qa0 : (List ((List Int) × (List Int)))) (qa1 : (List ((List Int) × (List Int)))) : Option (((List ((List Int) × (List Int))) × (List ((List Int) × (List Int))))) :=
  (srt qxb_0).bind fun l989 => (cmpt l989).bind fun l994 => (app qa0 (([(l994, qxb_1)] : List ((List Int) × (List Int))))).bind fun z1076 => (loop (fn_touch_Touches_add_p0arr_rod_l1 qa0 l994) (0, qa1) : Option ((List ((List Int) × (List Int))))).bind fun l1302 => (loop (fn_touch_Touches_add_p0arr_rod_l2 qxb_1 qa0) (0, l1302) : Option ((List ((List Int) × (List Int))))).bind fun l1743 => some ((z1076, l1743))
noncomputable def h_touch_Touches_add_p0arr_rod : Hn Try.prog := .cl ok_Sort [] (.cl ok_Compact [] (.per 16 17 (.per 3 4 (.mix [([0, 1, 2, 3, 4, 5], 6), ([], 7)] [8, 9] [10] [5] (.jn [] ⟨[], [⟨(some 7), 0, [], false, false, some (.row 67 (.cons (.row 3 (.dat (.int .i64))) (.one (.row 3 (.dat (.int .i64))))))⟩]⟩ [7] (.lp ⟨[(34, .dat (.int .i64))], [⟨(some 7), 0, [], false, false, some (.row 67 (.cons (.row 3 (.dat (.int .i64))) (.one (.row 3 (.dat (.int .i64))))))⟩]⟩ (.tw 35 (.opp [9] 7 47 (.mix [([0, 1, 2, 3, 4, 5, 6, 7, 8, 9, 10, 11, 12, 13], 14), ([], 15)] [16, 17] [18] [26] (.cls 7 34 (.nil)))) (.nil))) (.jn [] ⟨[], [⟨(some 7), 0, [], false, false, some (.row 67 (.cons (.row 3 (.dat (.int .i64))) (.one (.row 3 (.dat (.int .i64))))))⟩]⟩ [10, 7] (.lp ⟨[(60, .dat (.int .i64))], [⟨(some 7), 0, [], false, false, some (.row 67 (.cons (.row 3 (.dat (.int .i64))) (.one (.row 3 (.dat (.int .i64))))))⟩]⟩ (.tw 61 (.opp [9] 7 73 (.mix [([0, 1, 2, 3, 4, 5, 6, 7, 8, 9, 10, 11, 12, 13], 14), ([], 15)] [16, 17] [18] [29] (.cls 7 35 (.nil)))) (.nil))) (.nil)))))))
noncomputable def sp_touch_Touches_add_p0arr_rod : Spec := ⟨16, ⟨[(0, .ptr 0 0), (1, .agg [.own 3 (.int .i64), .own 3 (.int .i64)])], [⟨none, 58, [.own 63 (.cons (.sl (.int .i64)) (.one (.sl (.int .i64)))), .od (.row 67 (.cons (.row 3 (.dat (.int .i64))) (.one (.row 3 (.dat (.int .i64))))))], false, false, none⟩]⟩, [⟨[], [⟨(some 0), 58, [.own 63 (.cons (.sl (.int .i64)) (.one (.sl (.int .i64)))), .od (.row 67 (.cons (.row 3 (.dat (.int .i64))) (.one (.row 3 (.dat (.int .i64))))))], false, false, none⟩]⟩], fun x => fn_touch_Touches_add_p0arr_rod x.1 x.2.1 x.2.2.1 x.2.2.2⟩
theorem touch_Touches_add_p0arr_rod_is : SpecOk Try.prog sp_touch_Touches_add_p0arr_rod := fn_is Try.func16 h_touch_Touches_add_p0arr_rod (by kernel_rfl) (by kernel_rfl)
noncomputable def ok_touch_Touches_add_p0arr_rod : OkSpec Try.prog := ⟨sp_touch_Touches_add_p0arr_rod, touch_Touches_add_p0arr_rod_is, Try.call16⟩

noncomputable def fn_slices_Clone_int_int (xa : (List Int)) : Option (List Int) :=
  nilb xa (some ([])) ((app ([] : List Int) xa).bind fun z21 => some (z21))
noncomputable def h_slices_Clone_int_int : Hn Try.prog := .two 4 (.nil) (.nil)
noncomputable def sp_slices_Clone_int_int : Spec := ⟨19, ⟨[(0, .dat (.sl (.int .i64)))], []⟩, [⟨[(0, .own 3 (.int .i64))], []⟩], fun x => fn_slices_Clone_int_int x⟩
theorem slices_Clone_int_int_is : SpecOk Try.prog sp_slices_Clone_int_int := fn_is Try.func19 h_slices_Clone_int_int (by kernel_rfl) (by kernel_rfl)
noncomputable def ok_slices_Clone_int_int : OkSpec Try.prog := ⟨sp_slices_Clone_int_int, slices_Clone_int_int_is, Try.call19⟩

noncomputable def fn_touch_byTerm (xa : (Int × Int × Int × (List Int) × (List Int) × (List Int))) : Option (((List Int) × (List Int))) :=
  cond (decide (xa.1 = 2)) ((fn_slices_Clone_int_int xa.2.2.2.2.1).bind fun l156 => some ((l156, []))) (cond (decide (xa.1 = 4)) ((((fn_slices_Clone_int_int xa.2.2.2.2.1).bind fun l262 => some ((l262, ([xa.2.2.1] : List Int)))).bind fun x286 => ((fn_slices_Clone_int_int xa.2.2.2.2.1).bind fun l278 => some ((l278, ([xa.2.2.1] : List Int)))).bind fun y287 => agr x286 y287 (some x286) : Option (((List Int) × (List Int)))).bind fun (l222, l227) => some ((l222, l227))) (cond (decide (xa.1 = 3)) (some ((([0] : List Int), []))) (some (([], [])))))
noncomputable def h_touch_byTerm : Hn Try.prog := .tw 5 (.cl ok_slices_Clone_int_int [] (.nil)) (.tw 11 (.tr (.still [0, 1, 3, 4] (.alt 2 (.alt 5 (.still [6] (.alt 7 (.leaf []) .done)) .done) (.alt 5 (.alt 2 (.still [6] (.alt 7 (.leaf []) .done)) .done) .done))) ⟨[], [⟨(some 2), 63, [.own 3 (.int .i64), .own 3 (.int .i64)], false, false, none⟩]⟩ [2] (.two 0 (.cl ok_slices_Clone_int_int [] (.nil)) (.cl ok_slices_Clone_int_int [] (.nil))) (.nil)) (.tw 20 (.nil) (.nil)))
noncomputable def sp_touch_byTerm : Spec := ⟨18, ⟨[(0, .dat (.cons (.int .i64) (.cons (.int .i64) (.cons (.int .i64) (.cons (.sl (.int .i64)) (.cons (.sl (.int .i64)) (.one (.sl (.int .i64)))))))))], []⟩, [⟨[(0, .agg [.own 3 (.int .i64), .own 3 (.int .i64)])], []⟩], fun x => fn_touch_byTerm x⟩
theorem touch_byTerm_is : SpecOk Try.prog sp_touch_byTerm := fn_is Try.func18 h_touch_byTerm (by kernel_rfl) (by kernel_rfl)
noncomputable def ok_touch_byTerm : OkSpec Try.prog := ⟨sp_touch_byTerm, touch_byTerm_is, Try.call18⟩
noncomputable def fn_touch_New_l1 (x7516 : ((List (Int × Int × Int × Int × Bool)) × (Int × Int × Int × (List Int) × (List Int) × (List Int)))) : (Int × (List ((List Int) × (List Int))) × (List ((List Int) × (List Int)))) → Option ((Int × (List ((List Int) × (List Int))) × (List ((List Int) × (List Int)))) ⊕ ((List ((List Int) × (List Int))) × (List ((List Int) × (List Int))))) := fun ((i7911, l7912, l7917) : (Int × (List ((List Int) × (List Int))) × (List ((List Int) × (List Int))))) => cond (decide (i7911 < (((x7516.1.length : Nat) : Int)))) ((getI x7516.1 i7911).bind fun x8022 => (fn_touch_byStmt (x8022.1, x8022.2.1, x8022.2.2.1, x8022.2.2.2.1, x8022.2.2.2.2)).bind fun (l8064, l8065) => (fn_touch_Touches_add_p0arr_rod l8064 l8065 l7912 l7917).bind fun (l8079, l8080) => some (.inl ((IntKind.wrap .i64 (i7911 + 1), l8079, l8080)))) (some (.inr (((l7912, l7917)))))
noncomputable def fn_touch_New_l2 (xa : (Int × Int × (List (Int × Int)) × (List (List (Int × Bool))) × (List (Int × Bool)) × (List (Int × (List (Int × Int)) × (List (List (Int × Bool))) × (List (Int × Bool)))) × (List ((List (Int × Int × Int × Int × Bool)) × (Int × Int × Int × (List Int) × (List Int) × (List Int)))))) : (Int × (List ((List Int) × (List Int))) × (List ((List Int) × (List Int)))) → Option ((Int × (List ((List Int) × (List Int))) × (List ((List Int) × (List Int)))) ⊕ ((List ((List Int) × (List Int))) × (List ((List Int) × (List Int))))) := fun ((i6805, l6806, l6811) : (Int × (List ((List Int) × (List Int))) × (List ((List Int) × (List Int))))) => cond (decide (i6805 < (((xa.2.2.2.2.2.2.length : Nat) : Int)))) ((getI xa.2.2.2.2.2.2 i6805).bind fun x7516 => (loop (fn_touch_New_l1 x7516) (0, l6806, l6811) : Option (((List ((List Int) × (List Int))) × (List ((List Int) × (List Int)))))).bind fun (l7814, l7819) => (fn_touch_byTerm (x7516.2.1, x7516.2.2.1, x7516.2.2.2.1, x7516.2.2.2.2.1, x7516.2.2.2.2.2.1, x7516.2.2.2.2.2.2)).bind fun (l8125, l8126) => (fn_touch_Touches_add_p0arr_rod l8125 l8126 l7814 l7819).bind fun (l8140, l8141) => some (.inl ((IntKind.wrap .i64 (i6805 + 1), l8140, l8141)))) (some (.inr (((l6806, l6811)))))
noncomputable def fn_touch_New (xa : (Int × Int × (List (Int × Int)) × (List (List (Int × Bool))) × (List (Int × Bool)) × (List (Int × (List (Int × Int)) × (List (List (Int × Bool))) × (List (Int × Bool)))) × (List ((List (Int × Int × Int × Int × Bool)) × (Int × Int × Int × (List Int) × (List Int) × (List Int)))))) : Option ((Option ((List ((List Int) × (List Int))) × (List ((List Int) × (List Int)))))) :=
  (fn_point_New (xa.1, xa.2.1, xa.2.2.1, xa.2.2.2.1, xa.2.2.2.2.1, xa.2.2.2.2.2.1, xa.2.2.2.2.2.2)).bind fun p4088 => (fn_point_Points_Len p4088).bind fun i4096 => cond (decide (i4096 = 0)) (some ((some ([], [])))) ((mk (((xa.2.2.2.1.length : Nat) : Int)) (((xa.2.2.2.1.length : Nat) : Int)) ([], []) : Option (List ((List Int) × (List Int)))).bind fun z4104 => (loop (fn_touch_New_l2 xa) (0, [], z4104) : Option (((List ((List Int) × (List Int))) × (List ((List Int) × (List Int)))))).bind fun (l6127, l6132) => some ((some (l6127, l6132))))
noncomputable def h_touch_New : Hn Try.prog := .cl ok_point_New [] (.cl ok_point_Points_Len [] (.tw 13 (.perb 2 3 (.cons (.sl (.cons (.sl (.int .i64)) (.one (.sl (.int .i64))))) (.one (.sl (.cons (.sl (.int .i64)) (.one (.sl (.int .i64))))))) (.nil)) (.ot (.cons (.row 3 (.dat (.int .i64))) (.one (.row 3 (.dat (.int .i64))))) (.jn [] ⟨[], [⟨(some 2), 58, [.own 63 (.cons (.sl (.int .i64)) (.one (.sl (.int .i64)))), .od (.row 67 (.cons (.row 3 (.dat (.int .i64))) (.one (.row 3 (.dat (.int .i64))))))], false, false, none⟩]⟩ [2, 4, 0] (.lp ⟨[(25, .dat (.int .i64))], [⟨(some 2), 58, [.own 63 (.cons (.sl (.int .i64)) (.one (.sl (.int .i64)))), .od (.row 67 (.cons (.row 3 (.dat (.int .i64))) (.one (.row 3 (.dat (.int .i64))))))], false, false, none⟩]⟩ (.tw 26 (.pl (.pl (.jn [] ⟨[], [⟨(some 2), 58, [.own 63 (.cons (.sl (.int .i64)) (.one (.sl (.int .i64)))), .od (.row 67 (.cons (.row 3 (.dat (.int .i64))) (.one (.row 3 (.dat (.int .i64))))))], false, false, none⟩]⟩ [2, 7, 9] (.lp ⟨[(32, .dat (.int .i64))], [⟨(some 2), 58, [.own 63 (.cons (.sl (.int .i64)) (.one (.sl (.int .i64)))), .od (.row 67 (.cons (.row 3 (.dat (.int .i64))) (.one (.row 3 (.dat (.int .i64))))))], false, false, none⟩]⟩ (.tw 33 (.cl ok_touch_byStmt [] (.cl ok_touch_Touches_add_p0arr_rod [] (.nil))) (.nil))) (.cl ok_touch_byTerm [] (.cl ok_touch_Touches_add_p0arr_rod [] (.nil)))))) (.nil))) (.per 7 8 (.per 9 10 (.perb 2 11 (.cons (.sl (.cons (.sl (.int .i64)) (.one (.sl (.int .i64))))) (.one (.sl (.cons (.sl (.int .i64)) (.one (.sl (.int .i64))))))) (.nil))))))))
noncomputable def sp_touch_New : Spec := ⟨6, ⟨[(0, .dat (.cons (.int .i64) (.cons (.int .i64) (.cons (.sl (.cons (.int .i64) (.one (.int .i64)))) (.cons (.sl (.one (.sl (.cons (.int .i64) (.one .bool))))) (.cons (.one (.sl (.cons (.int .i64) (.one .bool)))) (.cons (.sl (.cons (.int .i64) (.cons (.sl (.cons (.int .i64) (.one (.int .i64)))) (.cons (.sl (.one (.sl (.cons (.int .i64) (.one .bool))))) (.one (.one (.sl (.cons (.int .i64) (.one .bool))))))))) (.one (.sl (.cons (.sl (.cons (.int .i64) (.cons (.int .i64) (.cons (.int .i64) (.cons (.int .i64) (.one .bool)))))) (.one (.cons (.int .i64) (.cons (.int .i64) (.cons (.int .i64) (.cons (.sl (.int .i64)) (.cons (.sl (.int .i64)) (.one (.sl (.int .i64)))))))))))))))))))], []⟩, [⟨[(0, .dat (.ptr (.cons (.sl (.cons (.sl (.int .i64)) (.one (.sl (.int .i64))))) (.one (.sl (.cons (.sl (.int .i64)) (.one (.sl (.int .i64)))))))))], []⟩], fun x => fn_touch_New x⟩
theorem touch_New_is : SpecOk Try.prog sp_touch_New := fn_is Try.func6 h_touch_New (by kernel_rfl) (by kernel_rfl)
noncomputable def ok_touch_New : OkSpec Try.prog := ⟨sp_touch_New, touch_New_is, Try.call6⟩

noncomputable def fn_touch_Touches_Len (xa : (Option ((List ((List Int) × (List Int))) × (List ((List Int) × (List Int)))))) : Option Int :=
  cond (xa.isNone) (some (0)) ((xa : Option ((List ((List Int) × (List Int))) × (List ((List Int) × (List Int))))).bind fun y14 => some (((y14.1.length : Nat) : Int)))
noncomputable def h_touch_Touches_Len : Hn Try.prog := .tw 4 (.nil) (.nil)
noncomputable def sp_touch_Touches_Len : Spec := ⟨8, ⟨[(0, .dat (.ptr (.cons (.sl (.cons (.sl (.int .i64)) (.one (.sl (.int .i64))))) (.one (.sl (.cons (.sl (.int .i64)) (.one (.sl (.int .i64)))))))))], []⟩, [⟨[(0, .dat (.int .i64))], []⟩], fun x => fn_touch_Touches_Len x⟩
theorem touch_Touches_Len_is : SpecOk Try.prog sp_touch_Touches_Len := fn_is Try.func8 h_touch_Touches_Len (by kernel_rfl) (by kernel_rfl)
noncomputable def ok_touch_Touches_Len : OkSpec Try.prog := ⟨sp_touch_Touches_Len, touch_Touches_Len_is, Try.call8⟩

noncomputable def fn_touch_Touches_Write (xa : (Option ((List ((List Int) × (List Int))) × (List ((List Int) × (List Int)))))) (xb : Int) : Option (Int × Bool) :=
  (cond (decide (xb < 0)) (some (true)) ((fn_touch_Touches_Len xa).bind fun i112 => some (decide (i112 ≤ xb)))).bind fun t108 => (cond (t108) (some (true)) ((xa : Option ((List ((List Int) × (List Int))) × (List ((List Int) × (List Int))))).bind fun y142 => (getI y142.1 xb).bind fun x152 => some (decide ((((x152.2.length : Nat) : Int)) = 0)))).bind fun t140 => cond (t140) (some ((0, false))) ((xa : Option ((List ((List Int) × (List Int))) × (List ((List Int) × (List Int))))).bind fun y166 => (getI y166.1 xb).bind fun x176 => (getI x176.2 0).bind fun x189 => some ((x189, true)))
noncomputable def h_touch_Touches_Write : Hn Try.prog := .gj 4 ⟨[(13, .dat .bool)], []⟩ [] (.two 8 (.nil) (.cl ok_touch_Touches_Len [] (.nil))) (.gj 10 ⟨[(25, .dat .bool)], []⟩ [] (.two 14 (.nil) (.nil)) (.tw 25 (.nil) (.nil)))
noncomputable def sp_touch_Touches_Write : Spec := ⟨10, ⟨[(0, .dat (.ptr (.cons (.sl (.cons (.sl (.int .i64)) (.one (.sl (.int .i64))))) (.one (.sl (.cons (.sl (.int .i64)) (.one (.sl (.int .i64))))))))), (1, .dat (.int .i64))], []⟩, [⟨[(0, .tup [.dat (.int .i64), .dat .bool])], []⟩], fun x => fn_touch_Touches_Write x.1 x.2⟩
theorem touch_Touches_Write_is : SpecOk Try.prog sp_touch_Touches_Write := fn_is Try.func10 h_touch_Touches_Write (by kernel_rfl) (by kernel_rfl)
noncomputable def ok_touch_Touches_Write : OkSpec Try.prog := ⟨sp_touch_Touches_Write, touch_Touches_Write_is, Try.call10⟩

noncomputable def fn_touch_Touches_Reads (xa : (Option ((List ((List Int) × (List Int))) × (List ((List Int) × (List Int)))))) (xb : Int) : Option (List Int) :=
  (cond (decide (xb < 0)) (some (true)) ((fn_touch_Touches_Len xa).bind fun i66 => some (decide (i66 ≤ xb)))).bind fun t62 => cond (t62) (some ([])) ((xa : Option ((List ((List Int) × (List Int))) × (List ((List Int) × (List Int))))).bind fun y72 => (getI y72.1 xb).bind fun x82 => (fn_slices_Clone_int_int x82.1).bind fun l97 => some (l97))
noncomputable def h_touch_Touches_Reads : Hn Try.prog := .gj 4 ⟨[(12, .dat .bool)], []⟩ [] (.two 7 (.nil) (.cl ok_touch_Touches_Len [] (.nil))) (.tw 12 (.nil) (.cl ok_slices_Clone_int_int [] (.nil)))
noncomputable def sp_touch_Touches_Reads : Spec := ⟨9, ⟨[(0, .dat (.ptr (.cons (.sl (.cons (.sl (.int .i64)) (.one (.sl (.int .i64))))) (.one (.sl (.cons (.sl (.int .i64)) (.one (.sl (.int .i64))))))))), (1, .dat (.int .i64))], []⟩, [⟨[(0, .own 3 (.int .i64))], []⟩], fun x => fn_touch_Touches_Reads x.1 x.2⟩
theorem touch_Touches_Reads_is : SpecOk Try.prog sp_touch_Touches_Reads := fn_is Try.func9 h_touch_Touches_Reads (by kernel_rfl) (by kernel_rfl)
noncomputable def ok_touch_Touches_Reads : OkSpec Try.prog := ⟨sp_touch_Touches_Reads, touch_Touches_Reads_is, Try.call9⟩
noncomputable def fn_ref01_Same_l1 (xa : (List Int)) (xb : (List Int)) : Int → Option (Int ⊕ (Unit ⊕ Bool)) := fun (i757 : Int) => cond (decide (i757 < (((xa.length : Nat) : Int)))) ((getI xa i757).bind fun x889 => (getI xb i757).bind fun x898 => cond (!decide (x889 = x898)) (some (.inr ((.inr (false))))) (some (.inl (IntKind.wrap .i64 (i757 + 1))))) (some (.inr ((.inl ()))))
noncomputable def fn_ref01_Same (xa : (List Int)) (xb : (List Int)) : Option Bool :=
  cond (!decide ((((xa.length : Nat) : Int)) = (((xb.length : Nat) : Int)))) (some (false)) ((loop (fn_ref01_Same_l1 xa xb) 0 : Option (Unit ⊕ Bool)).bind fun o => match o with | .inr r => some r | .inl () => some (true))
noncomputable def h_ref01_Same : Hn Try.prog := .tw 10 (.nil) (.jx [] ⟨[], []⟩ [] (.lp ⟨[(5, .dat (.int .i64))], []⟩ (.tw 14 (.mix [] [0, 1, 2, 3, 4, 5, 6, 7, 8] [] [] (.tw 25 (.nil) (.nil))) (.nil))) (.nil))
noncomputable def sp_ref01_Same : Spec := ⟨11, ⟨[(0, .dat (.sl (.int .i64))), (1, .dat (.sl (.int .i64)))], []⟩, [⟨[(0, .dat .bool)], []⟩], fun x => fn_ref01_Same x.1 x.2⟩
theorem ref01_Same_is : SpecOk Try.prog sp_ref01_Same := fn_is Try.func11 h_ref01_Same (by kernel_rfl) (by kernel_rfl)
noncomputable def ok_ref01_Same : OkSpec Try.prog := ⟨sp_ref01_Same, ref01_Same_is, Try.call11⟩

noncomputable def fn_law24_awake  : Option Bool :=
  (mk 3 3 ([]) : Option (List (List (Int × Bool)))).bind fun z134 => (fn_touch_New ((1, 1, [], z134, [], [], ([(([(1, 1, 2, 0, false)] : List (Int × Int × Int × Int × Bool)), (3, 0, 0, [], [], []))] : List ((List (Int × Int × Int × Int × Bool)) × (Int × Int × Int × (List Int) × (List Int) × (List Int))))))).bind fun p156 => (fn_touch_Touches_Write p156 0).bind fun (i164, t165) => (fn_touch_Touches_Reads p156 0).bind fun l171 => (fn_ref01_Same l171 ([2] : List Int)).bind fun t190 => (cond ((t190 && (decide (i164 = 1))) && t165) ((fn_touch_Touches_Reads p156 1).bind fun l228 => (fn_ref01_Same l228 ([0] : List Int)).bind fun t247 => some (t247)) (some (false))).bind fun t224 => (cond (t224) ((fn_touch_Touches_Len p156).bind fun i262 => some (decide (i262 = 2))) (some (false))).bind fun t258 => some (t258)
noncomputable def h_law24_awake : Hn Try.prog := .per 2 3 (.per 0 1 (.per 4 5 (.cl ok_touch_New [] (.cl ok_touch_Touches_Write [] (.cl ok_touch_Touches_Reads [] (.cl ok_ref01_Same [6, 8] (.gp 2 (.gp 1 (.gj 4 ⟨[(33, .dat .bool)], []⟩ [] (.two 28 (.cl ok_touch_Touches_Reads [] (.cl ok_ref01_Same [10, 12] (.nil))) (.nil)) (.gj 3 ⟨[(38, .dat .bool)], []⟩ [] (.two 34 (.cl ok_touch_Touches_Len [] (.nil)) (.nil)) (.nil)))))))))))
noncomputable def sp_law24_awake : Spec := ⟨5, ⟨[], []⟩, [⟨[(0, .dat .bool)], []⟩], fun x => fn_law24_awake⟩
theorem law24_awake_is : SpecOk Try.prog sp_law24_awake := fn_is Try.func5 h_law24_awake (by kernel_rfl) (by kernel_rfl)
noncomputable def ok_law24_awake : OkSpec Try.prog := ⟨sp_law24_awake, law24_awake_is, Try.call5⟩

noncomputable def fn_touch_Touches_Of (xa : (Option ((List ((List Int) × (List Int))) × (List ((List Int) × (List Int)))))) (xb : Int) : Option (((List Int) × (List Int))) :=
  (cond (xa.isNone || (decide (xb < 0))) (some (true)) ((xa : Option ((List ((List Int) × (List Int))) × (List ((List Int) × (List Int))))).bind fun y160 => some (decide ((((y160.2.length : Nat) : Int)) ≤ xb)))).bind fun t158 => cond (t158) (some (([], []))) ((xa : Option ((List ((List Int) × (List Int))) × (List ((List Int) × (List Int))))).bind fun y173 => (getI y173.2 xb).bind fun x183 => (fn_slices_Clone_int_int x183.1).bind fun l263 => (fn_slices_Clone_int_int x183.2).bind fun l273 => some ((l263, l273)))
noncomputable def h_touch_Touches_Of : Hn Try.prog := .gp 2 (.gj 7 ⟨[(21, .dat .bool)], []⟩ [] (.two 13 (.nil) (.nil)) (.tw 21 (.nil) (.mix [([0, 1, 3, 4], 2), ([], 5)] [6, 7] [] [] (.cl ok_slices_Clone_int_int [] (.cl ok_slices_Clone_int_int [] (.nil))))))
noncomputable def sp_touch_Touches_Of : Spec := ⟨7, ⟨[(0, .dat (.ptr (.cons (.sl (.cons (.sl (.int .i64)) (.one (.sl (.int .i64))))) (.one (.sl (.cons (.sl (.int .i64)) (.one (.sl (.int .i64))))))))), (1, .dat (.int .i64))], []⟩, [⟨[(0, .tup [.own 3 (.int .i64), .own 3 (.int .i64)])], []⟩], fun x => fn_touch_Touches_Of x.1 x.2⟩
theorem touch_Touches_Of_is : SpecOk Try.prog sp_touch_Touches_Of := fn_is Try.func7 h_touch_Touches_Of (by kernel_rfl) (by kernel_rfl)
noncomputable def ok_touch_Touches_Of : OkSpec Try.prog := ⟨sp_touch_Touches_Of, touch_Touches_Of_is, Try.call7⟩
noncomputable def fn_law24_TouchAgrees_l1 (xb : Int) (i2221 : Int) (l2430 : (List Int)) : ((List Int) × Int) → Option (((List Int) × Int) ⊕ (List Int)) := fun ((l2540, i2545) : ((List Int) × Int)) => cond (decide (i2545 < (((l2430.length : Nat) : Int)))) ((getI l2430 i2545).bind fun x2572 => cond (decide (x2572 = xb)) ((app l2540 ([i2221] : List Int)).bind fun z2583 => some (.inl ((z2583, IntKind.wrap .i64 (i2545 + 1))))) (some (.inl ((l2540, IntKind.wrap .i64 (i2545 + 1)))))) (some (.inr (l2540)))
noncomputable def fn_law24_TouchAgrees_l2 (xb : Int) (p1381 : (Option ((List ((List Int) × (List Int))) × (List ((List Int) × (List Int)))))) : ((List Int) × (List Int) × Int) → Option (((List Int) × (List Int) × Int) ⊕ ((List Int) × (List Int))) := fun ((l2211, l2216, i2221) : ((List Int) × (List Int) × Int)) => (fn_touch_Touches_Len p1381).bind fun i2423 => cond (decide (i2221 < i2423)) ((fn_touch_Touches_Reads p1381 i2221).bind fun l2430 => (loop (fn_law24_TouchAgrees_l1 xb i2221 l2430) (l2211, 0) : Option (List Int)).bind fun l2511 => (fn_touch_Touches_Write p1381 i2221).bind fun (i2591, t2592) => cond (t2592 && (decide (i2591 = xb))) ((app l2216 ([i2221] : List Int)).bind fun z2602 => some (.inl ((l2511, z2602, IntKind.wrap .i64 (i2221 + 1))))) (some (.inl ((l2511, l2216, IntKind.wrap .i64 (i2221 + 1)))))) (some (.inr (((l2211, l2216)))))
noncomputable def fn_law24_TouchAgrees (xa : (Int × Int × (List (Int × Int)) × (List (List (Int × Bool))) × (List (Int × Bool)) × (List (Int × (List (Int × Int)) × (List (List (Int × Bool))) × (List (Int × Bool)))) × (List ((List (Int × Int × Int × Int × Bool)) × (Int × Int × Int × (List Int) × (List Int) × (List Int)))))) (xb : Int) : Option Bool :=
  (fn_ref20_Small (xa.1, xa.2.1, xa.2.2.1, xa.2.2.2.1, xa.2.2.2.2.1, xa.2.2.2.2.2.1, xa.2.2.2.2.2.2)).bind fun t1368 => cond (!t1368) ((fn_law24_awake).bind fun t1375 => some (t1375)) ((fn_touch_New (xa.1, xa.2.1, xa.2.2.1, xa.2.2.2.1, xa.2.2.2.2.1, xa.2.2.2.2.2.1, xa.2.2.2.2.2.2)).bind fun p1381 => (fn_touch_Touches_Of p1381 xb).bind fun (l1389, l1390) => (loop (fn_law24_TouchAgrees_l2 xb p1381) ((([] : List Int), ([] : List Int), 0)) : Option (((List Int) × (List Int)))).bind fun (l2003, l2008) => (fn_touch_Touches_Of none 0).bind fun (l2610, l2611) => (fn_touch_Touches_Write none 0).bind fun (i2625, t2626) => (fn_ref01_Same l1389 l2003).bind fun t2638 => (cond (t2638) ((fn_ref01_Same l1390 l2008).bind fun t2665 => some (t2665)) (some (false))).bind fun t2655 => (cond (t2655) ((fn_touch_Touches_Len none).bind fun i2680 => some (decide (i2680 = 0))) (some (false))).bind fun t2676 => (cond (t2676) ((fn_touch_Touches_Reads none 0).bind fun l2699 => some (decide ((((l2699.length : Nat) : Int)) = 0))) (some (false))).bind fun t2695 => (cond (((t2695 && (!t2626)) && (decide ((((l2610.length : Nat) : Int)) = 0))) && (decide ((((l2611.length : Nat) : Int)) = 0))) ((fn_law24_awake).bind fun t2724 => some (t2724)) (some (false))).bind fun t2720 => some (t2720))
noncomputable def h_law24_TouchAgrees : Hn Try.prog := .cl ok_ref20_Small [] (.tw 22 (.cl ok_law24_awake [] (.nil)) (.cl ok_touch_New [] (.cl ok_touch_Touches_Of [] (.jn [] ⟨[(8, .own 3 (.int .i64)), (9, .own 3 (.int .i64)), (32, .any), (33, .any)], []⟩ [8, 6, 0] (.lp ⟨[(8, .own 3 (.int .i64)), (9, .own 3 (.int .i64)), (10, .dat (.int .i64))], []⟩ (.cl ok_touch_Touches_Len [] (.tw 37 (.cl ok_touch_Touches_Reads [] (.jn [] ⟨[(8, .own 3 (.int .i64))], []⟩ [10] (.lp ⟨[(8, .own 3 (.int .i64)), (12, .dat (.int .i64))], []⟩ (.tw 46 (.tw 54 (.nil) (.nil)) (.nil))) (.cl ok_touch_Touches_Write [] (.gp 3 (.tw 70 (.nil) (.nil)))))) (.nil)))) (.cl ok_touch_Touches_Of [] (.cl ok_touch_Touches_Write [] (.cl ok_ref01_Same [2, 10] (.gj 3 ⟨[(92, .dat .bool)], []⟩ [] (.two 88 (.cl ok_ref01_Same [4, 12] (.nil)) (.nil)) (.gj 3 ⟨[(97, .dat .bool)], []⟩ [] (.two 93 (.cl ok_touch_Touches_Len [] (.nil)) (.nil)) (.gj 4 ⟨[(103, .dat .bool)], []⟩ [] (.two 98 (.cl ok_touch_Touches_Reads [] (.nil)) (.nil)) (.gp 2 (.gp 3 (.gp 3 (.gj 1 ⟨[(120, .dat .bool)], []⟩ [] (.two 118 (.cl ok_law24_awake [] (.nil)) (.nil)) (.nil)))))))))))))))
noncomputable def sp_law24_TouchAgrees : Spec := ⟨3, ⟨[(0, .dat (.cons (.int .i64) (.cons (.int .i64) (.cons (.sl (.cons (.int .i64) (.one (.int .i64)))) (.cons (.sl (.one (.sl (.cons (.int .i64) (.one .bool))))) (.cons (.one (.sl (.cons (.int .i64) (.one .bool)))) (.cons (.sl (.cons (.int .i64) (.cons (.sl (.cons (.int .i64) (.one (.int .i64)))) (.cons (.sl (.one (.sl (.cons (.int .i64) (.one .bool))))) (.one (.one (.sl (.cons (.int .i64) (.one .bool))))))))) (.one (.sl (.cons (.sl (.cons (.int .i64) (.cons (.int .i64) (.cons (.int .i64) (.cons (.int .i64) (.one .bool)))))) (.one (.cons (.int .i64) (.cons (.int .i64) (.cons (.int .i64) (.cons (.sl (.int .i64)) (.cons (.sl (.int .i64)) (.one (.sl (.int .i64))))))))))))))))))), (1, .dat (.int .i64))], []⟩, [⟨[(0, .dat .bool)], []⟩], fun x => fn_law24_TouchAgrees x.1 x.2⟩
theorem law24_TouchAgrees_is : SpecOk Try.prog sp_law24_TouchAgrees := fn_is Try.func3 h_law24_TouchAgrees (by kernel_rfl) (by kernel_rfl)
noncomputable def ok_law24_TouchAgrees : OkSpec Try.prog := ⟨sp_law24_TouchAgrees, law24_TouchAgrees_is, Try.call3⟩
end Go.Proofs.Ytkpdfepjanfmbaa
namespace Go.Proofs.Ytkpdfepjanfmbaa
open Go.RowKit
set_option linter.unusedVariables false
set_option maxRecDepth 100000
set_option maxHeartbeats 4000000
noncomputable def fn_ref21_head_l1 (xa : (Int × Int × (List (Int × Int)) × (List (List (Int × Bool))) × (List (Int × Bool)) × (List (Int × (List (Int × Int)) × (List (List (Int × Bool))) × (List (Int × Bool)))) × (List ((List (Int × Int × Int × Int × Bool)) × (Int × Int × Int × (List Int) × (List Int) × (List Int)))))) : Int → Option (Int ⊕ (Unit ⊕ (Int × Int × Int × Int))) := fun (i212 : Int) => cond (decide (i212 < (((xa.2.2.1.length : Nat) : Int)))) ((getI xa.2.2.1 i212).bind fun x234 => cond ((((decide (x234.1 < 0)) || (decide (xa.1 ≤ x234.1))) || (decide (x234.2 < 0))) || (decide (xa.1 ≤ x234.2))) (some (.inr ((.inr ((7, 1, i212, 0)))))) (some (.inl (IntKind.wrap .i64 (i212 + 1))))) (some (.inr ((.inl ()))))
noncomputable def fn_ref21_head (xa : (Int × Int × (List (Int × Int)) × (List (List (Int × Bool))) × (List (Int × Bool)) × (List (Int × (List (Int × Int)) × (List (List (Int × Bool))) × (List (Int × Bool)))) × (List ((List (Int × Int × Int × Int × Bool)) × (Int × Int × Int × (List Int) × (List Int) × (List Int)))))) : Option (Int × Int × Int × Int) :=
  cond ((decide (xa.1 < 1)) || (decide (xa.2.1 < xa.1))) (some ((7, 0, 0, 0))) (cond (decide (65536 < xa.2.1)) (some ((6, 0, 0, 0))) (cond (decide (65536 < (((xa.2.2.1.length : Nat) : Int)))) (some ((6, 1, 0, 0))) ((loop (fn_ref21_head_l1 xa) 0 : Option (Unit ⊕ (Int × Int × Int × Int))).bind fun o => match o with | .inr r => some r | .inl () => some ((0, 0, 0, 0)))))
noncomputable def fn_ref15_Check_l1 (xa : (List (Int × Bool))) (xb : Int) : Int → Option (Int ⊕ (Unit ⊕ Int)) := fun (i339 : Int) => cond (decide (i339 < (((xa.length : Nat) : Int)))) ((getI xa i339).bind fun x375 => (cond (decide (x375.1 < 0)) (some (true)) ((getI xa i339).bind fun x396 => some (decide (xb ≤ x396.1)))).bind fun t394 => cond (t394) (some (.inr ((.inr (7))))) (some (.inl (IntKind.wrap .i64 (i339 + 1))))) (some (.inr ((.inl ()))))
noncomputable def fn_ref15_Check (xa : (List (Int × Bool))) (xb : Int) : Option Int :=
  cond (decide (16 < (((xa.length : Nat) : Int)))) (some (6)) ((loop (fn_ref15_Check_l1 xa xb) 0 : Option (Unit ⊕ Int)).bind fun o => match o with | .inr r => some r | .inl () => some (0))
noncomputable def fn_ref15_Shape_l1 (xa : (List (Int × Bool))) (xb : (List (Int × Bool))) : Int → Option (Int ⊕ (Unit ⊕ Bool)) := fun (i761 : Int) => cond (decide (i761 < (((xa.length : Nat) : Int)))) ((getI xa i761).bind fun x893 => (getI xb i761).bind fun x902 => cond (!(x893.2 == x902.2)) (some (.inr ((.inr (false))))) (some (.inl (IntKind.wrap .i64 (i761 + 1))))) (some (.inr ((.inl ()))))
noncomputable def fn_ref15_Shape (xa : (List (Int × Bool))) (xb : (List (Int × Bool))) : Option Bool :=
  cond (!decide ((((xa.length : Nat) : Int)) = (((xb.length : Nat) : Int)))) (some (false)) ((loop (fn_ref15_Shape_l1 xa xb) 0 : Option (Unit ⊕ Bool)).bind fun o => match o with | .inr r => some r | .inl () => some (true))
noncomputable def fn_ref17_Check_l1 (xa : (Int × (List (Int × Int)) × (List (List (Int × Bool))) × (List (Int × Bool)))) : Int → Option (Int ⊕ (Unit ⊕ Int)) := fun (i691 : Int) => cond (decide (i691 < (((xa.2.1.length : Nat) : Int)))) ((getI xa.2.1 i691).bind fun x713 => cond ((((decide (x713.1 < 0)) || (decide (xa.1 ≤ x713.1))) || (decide (x713.2 < 0))) || (decide (xa.1 ≤ x713.2))) (some (.inr ((.inr (7))))) (some (.inl (IntKind.wrap .i64 (i691 + 1))))) (some (.inr ((.inl ()))))
noncomputable def fn_ref17_Check_l2 (xa : (Int × (List (Int × Int)) × (List (List (Int × Bool))) × (List (Int × Bool)))) : Int → Option (Int ⊕ (Unit ⊕ Int)) := fun (i1047 : Int) => cond (decide (i1047 < (((xa.2.2.1.length : Nat) : Int)))) ((getI xa.2.2.1 i1047).bind fun x1186 => (fn_ref15_Check x1186 xa.1).bind fun i1201 => cond (!decide (i1201 = 0)) (some (.inr ((.inr (i1201))))) (some (.inl (IntKind.wrap .i64 (i1047 + 1))))) (some (.inr ((.inl ()))))
noncomputable def fn_ref17_Check (xa : (Int × (List (Int × Int)) × (List (List (Int × Bool))) × (List (Int × Bool)))) : Option Int :=
  cond (decide (xa.1 < 0)) (some (7)) (cond (((decide (16 < xa.1)) || (decide (16 < (((xa.2.1.length : Nat) : Int))))) || (decide (16 < (((xa.2.2.1.length : Nat) : Int))))) (some (6)) ((loop (fn_ref17_Check_l1 xa) 0 : Option (Unit ⊕ Int)).bind fun o => match o with | .inr r => some r | .inl () => (loop (fn_ref17_Check_l2 xa) 0 : Option (Unit ⊕ Int)).bind fun o => match o with | .inr r => some r | .inl () => (fn_ref15_Check xa.2.2.2 xa.1).bind fun i1208 => some (i1208)))
noncomputable def fn_ref21_types_l1 (xa : (Int × Int × (List (Int × Int)) × (List (List (Int × Bool))) × (List (Int × Bool)) × (List (Int × (List (Int × Int)) × (List (List (Int × Bool))) × (List (Int × Bool)))) × (List ((List (Int × Int × Int × Int × Bool)) × (Int × Int × Int × (List Int) × (List Int) × (List Int)))))) : Int → Option (Int ⊕ (Unit ⊕ (Int × Int × Int × Int))) := fun (i1073 : Int) => cond (decide (i1073 < (((xa.2.2.2.1.length : Nat) : Int)))) ((getI xa.2.2.2.1 i1073).bind fun x1212 => (fn_ref15_Check x1212 xa.2.1).bind fun i1227 => cond (!decide (i1227 = 0)) (some (.inr ((.inr ((i1227, 2, i1073, 0)))))) (some (.inl (IntKind.wrap .i64 (i1073 + 1))))) (some (.inr ((.inl ()))))
noncomputable def fn_ref21_types_l2 (xa : (Int × Int × (List (Int × Int)) × (List (List (Int × Bool))) × (List (Int × Bool)) × (List (Int × (List (Int × Int)) × (List (List (Int × Bool))) × (List (Int × Bool)))) × (List ((List (Int × Int × Int × Int × Bool)) × (Int × Int × Int × (List Int) × (List Int) × (List Int)))))) : Int → Option (Int ⊕ (Unit ⊕ (Int × Int × Int × Int))) := fun (i1438 : Int) => cond (decide (i1438 < (((xa.2.2.2.2.2.1.length : Nat) : Int)))) ((getI xa.2.2.2.2.2.1 i1438).bind fun x1471 => (fn_ref17_Check (x1471.1, x1471.2.1, x1471.2.2.1, x1471.2.2.2)).bind fun i1494 => cond (!decide (i1494 = 0)) (some (.inr ((.inr ((i1494, 4, i1438, 0)))))) (some (.inl (IntKind.wrap .i64 (i1438 + 1))))) (some (.inr ((.inl ()))))
noncomputable def fn_ref21_types (xa : (Int × Int × (List (Int × Int)) × (List (List (Int × Bool))) × (List (Int × Bool)) × (List (Int × (List (Int × Int)) × (List (List (Int × Bool))) × (List (Int × Bool)))) × (List ((List (Int × Int × Int × Int × Bool)) × (Int × Int × Int × (List Int) × (List Int) × (List Int)))))) : Option (Int × Int × Int × Int) :=
  cond (decide ((((xa.2.2.2.1.length : Nat) : Int)) = 0)) (some ((14, 2, 0, 0))) (cond (decide (65536 < (((xa.2.2.2.1.length : Nat) : Int)))) (some ((6, 2, 0, 0))) ((loop (fn_ref21_types_l1 xa) 0 : Option (Unit ⊕ (Int × Int × Int × Int))).bind fun o => match o with | .inr r => some r | .inl () => (fn_ref15_Check xa.2.2.2.2.1 xa.1).bind fun i1234 => cond (!decide (i1234 = 0)) (some ((i1234, 3, 0, 0))) ((getI xa.2.2.2.1 0).bind fun x1296 => (fn_ref15_Shape x1296 xa.2.2.2.2.1).bind fun t1311 => cond (!t1311) (some ((8, 3, 0, 0))) (cond (decide (65536 < (((xa.2.2.2.2.2.1.length : Nat) : Int)))) (some ((6, 4, 0, 0))) ((loop (fn_ref21_types_l2 xa) 0 : Option (Unit ⊕ (Int × Int × Int × Int))).bind fun o => match o with | .inr r => some r | .inl () => some ((0, 0, 0, 0)))))))
noncomputable def fn_ref18_Dst (xa : Int) : Option Bool :=
  some ((((decide (xa = 1)) || (decide (xa = 2))) || (decide (xa = 3))) || (decide (xa = 5)))
noncomputable def fn_ref18_Src (xa : Int) : Option Bool :=
  some ((decide (1 ≤ xa)) && (decide (xa ≤ 4)))
noncomputable def fn_ref18_Region (xa : Int) : Option Bool :=
  some ((decide (xa = 2)) || (decide (xa = 3)))
noncomputable def fn_ref18_Form (xa : (Int × Int × Int × Int × Bool)) : Option Bool :=
  (cond ((decide (0 ≤ xa.1)) && (decide (xa.1 ≤ 5))) ((fn_ref18_Dst xa.1).bind fun t82 => some (t82 || (decide (xa.2.1 = 0)))) (some (false))).bind fun t78 => (cond (t78) ((fn_ref18_Src xa.1).bind fun t101 => some (t101 || (decide (xa.2.2.1 = 0)))) (some (false))).bind fun t97 => (cond (t97) ((fn_ref18_Region xa.1).bind fun t122 => some (t122 || ((decide (xa.2.2.2.1 = 0)) && (!xa.2.2.2.2)))) (some (false))).bind fun t118 => some (t118)
noncomputable def fn_ref16_slots_rkkii_l1 (xb : (List (Int × Bool))) (xc : (List (Int × Bool))) (xd : Int) (xe : Int) : ((List (Int × Int × Int × Int × Bool)) × Int) → Option (((List (Int × Int × Int × Int × Bool)) × Int) ⊕ (List (Int × Int × Int × Int × Bool))) := fun ((l1989, i1994) : ((List (Int × Int × Int × Int × Bool)) × Int)) => cond (decide (i1994 < (((xb.length : Nat) : Int)))) ((getI xb i1994).bind fun x2257 => (getI xc i1994).bind fun x2266 => (app l1989 (([(x2257.1, x2266.1, xd, IntKind.wrap .i64 (xe + i1994), false)] : List (Int × Int × Int × Int × Bool)))).bind fun z2278 => (getI xc i1994).bind fun x2284 => cond (x2284.2) ((getI xc i1994).bind fun x2357 => (getI xb i1994).bind fun x2366 => (app z2278 (([(x2357.1, x2366.1, xd, IntKind.wrap .i64 (xe + i1994), true)] : List (Int × Int × Int × Int × Bool)))).bind fun z2378 => some (.inl ((z2378, IntKind.wrap .i64 (i1994 + 1))))) (some (.inl ((z2278, IntKind.wrap .i64 (i1994 + 1)))))) (some (.inr (l1989)))
noncomputable def fn_ref16_slots_rkkii (xb : (List (Int × Bool))) (xc : (List (Int × Bool))) (xd : Int) (xe : Int) (qxa : (List (Int × Int × Int × Int × Bool))) : Option ((List (Int × Int × Int × Int × Bool))) :=
  (loop (fn_ref16_slots_rkkii_l1 xb xc xd xe) (qxa, 0) : Option ((List (Int × Int × Int × Int × Bool)))).bind fun l1787 => some (l1787)
noncomputable def fn_ref16_Flow (xa : (List (Int × Bool))) (xb : (List (Int × Bool))) (xc : Int) (xd : Int) : Option (((List (Int × Int × Int × Int × Bool)) × Int)) :=
  (fn_ref15_Shape xa xb).bind fun t34 => cond (!t34) (some (([], 8))) ((fn_ref16_slots_rkkii xa xb xc xd (([] : List (Int × Int × Int × Int × Bool)))).bind fun l45 => some ((l45, 0)))
noncomputable def fn_ref15_Ref_l1 (xa : (List (Int × Bool))) (xc : Bool) : ((List (Int × Bool)) × Int) → Option (((List (Int × Bool)) × Int) ⊕ (List (Int × Bool))) := fun ((l1219, i1224) : ((List (Int × Bool)) × Int)) => cond (decide (i1224 < (((xa.length : Nat) : Int)))) ((getI xa i1224).bind fun x1421 => (getI xa i1224).bind fun x1430 => cond (x1430.2) ((app l1219 (([(x1421.1, true)] : List (Int × Bool)))).bind fun z1443 => some (.inl ((z1443, IntKind.wrap .i64 (i1224 + 1))))) ((app l1219 (([(x1421.1, xc)] : List (Int × Bool)))).bind fun z1452 => some (.inl ((z1452, IntKind.wrap .i64 (i1224 + 1)))))) (some (.inr (l1219)))
noncomputable def fn_ref15_Ref (xa : (List (Int × Bool))) (xb : Int) (xc : Bool) : Option ((List (Int × Bool))) :=
  (loop (fn_ref15_Ref_l1 xa xc) ((([(xb, false)] : List (Int × Bool)), 0)) : Option ((List (Int × Bool)))).bind fun l1095 => some (l1095)
noncomputable def fn_ref16_Loan (xa : (List (Int × Bool))) (xb : (List (Int × Bool))) (xc : Int) (xd : Bool) : Option (((List (Int × Int × Int × Int × Bool)) × Int)) :=
  (fn_ref15_Ref xa xc xd).bind fun l227 => (fn_ref15_Shape l227 xb).bind fun t240 => cond (!t240) (some (([], 8))) ((getI xb 0).bind fun x246 => (subL xb 1 (((xb.length : Nat) : Int))).bind fun y309 => (fn_ref16_slots_rkkii xa y309 1 1 (([(xc, x246.1, 2, 0, false)] : List (Int × Int × Int × Int × Bool)))).bind fun l317 => some ((l317, 0)))
noncomputable def fn_ref16_Again_l1 (xa : (List (Int × Bool))) (xd : Bool) : Int → Option (Int ⊕ (Unit ⊕ ((List (Int × Int × Int × Int × Bool)) × Int))) := fun (i506 : Int) => cond (decide (i506 < (((xa.length : Nat) : Int)))) ((cond (xd) ((getI xa i506).bind fun x545 => some (!x545.2)) (some (false))).bind fun t543 => cond (t543) (some (.inr ((.inr (([], 8)))))) (some (.inl (IntKind.wrap .i64 (i506 + 1))))) (some (.inr ((.inl ()))))
noncomputable def fn_ref16_Again (xa : (List (Int × Bool))) (xb : (List (Int × Bool))) (xc : Int) (xd : Bool) : Option (((List (Int × Int × Int × Int × Bool)) × Int)) :=
  (cond (decide ((((xa.length : Nat) : Int)) = 0)) (some (true)) ((fn_ref15_Shape xa xb).bind fun t382 => some (!t382))).bind fun t378 => (cond (t378) (some (true)) ((getI xa 0).bind fun x398 => some (x398.2))).bind fun t396 => cond (t396) (some (([], 8))) ((loop (fn_ref16_Again_l1 xa xd) 1 : Option (Unit ⊕ ((List (Int × Int × Int × Int × Bool)) × Int))).bind fun o => match o with | .inr r => some r | .inl () => (getI xa 0).bind fun x619 => (getI xb 0).bind fun x628 => (subL xa 1 (((xa.length : Nat) : Int))).bind fun y709 => (subL xb 1 (((xb.length : Nat) : Int))).bind fun y715 => (fn_ref16_slots_rkkii y709 y715 1 1 (([(x619.1, xc, 3, 0, false), (xc, x628.1, 2, 0, false)] : List (Int × Int × Int × Int × Bool)))).bind fun l723 => some ((l723, 0)))
noncomputable def fn_ref18_Needs (xa : (Int × Int × Int × Int × Bool)) (xb : (List (List (Int × Bool)))) (xc : Int) : Option (((List (Int × Int × Int × Int × Bool)) × Int)) :=
  (fn_ref18_Form (xa.1, xa.2.1, xa.2.2.1, xa.2.2.2.1, xa.2.2.2.2)).bind fun t522 => cond (!t522) (some (([], 3))) ((fn_ref18_Dst xa.1).bind fun t530 => (cond (t530 && ((decide (xa.2.1 < 0)) || (decide ((((xb.length : Nat) : Int)) ≤ xa.2.1)))) (some (true)) ((fn_ref18_Src xa.1).bind fun t553 => some (t553 && ((decide (xa.2.2.1 < 0)) || (decide ((((xb.length : Nat) : Int)) ≤ xa.2.2.1)))))).bind fun t549 => (cond (t549) (some (true)) ((fn_ref18_Region xa.1).bind fun t576 => some (t576 && ((decide (xa.2.2.2.1 < 0)) || (decide (xc ≤ xa.2.2.2.1)))))).bind fun t572 => cond (t572) (some (([], 7))) (cond (decide (xa.1 = 1)) ((getI xb xa.2.2.1).bind fun x698 => (getI xb xa.2.1).bind fun x711 => (fn_ref16_Flow x698 x711 1 0).bind fun (l726, i727) => some ((l726, i727))) (cond (decide (xa.1 = 2)) ((getI xb xa.2.2.1).bind fun x847 => (getI xb xa.2.1).bind fun x860 => (fn_ref16_Loan x847 x860 xa.2.2.2.1 xa.2.2.2.2).bind fun (l875, i876) => some ((l875, i876))) (cond (decide (xa.1 = 3)) ((getI xb xa.2.2.1).bind fun x996 => (getI xb xa.2.1).bind fun x1009 => (fn_ref16_Again x996 x1009 xa.2.2.2.1 xa.2.2.2.2).bind fun (l1024, i1025) => some ((l1024, i1025))) (some (([], 0)))))))
noncomputable def fn_ref19_Form (xa : (Int × Int × Int × (List Int) × (List Int) × (List Int))) : Option Int :=
  cond ((decide (xa.1 < 1)) || (decide (4 < xa.1))) (some (3)) (cond (((((decide (xa.1 = 1)) || (decide (xa.1 = 4))) && (!decide ((((xa.2.2.2.1.length : Nat) : Int)) = 1))) || ((decide (xa.1 = 2)) && (decide ((((xa.2.2.2.1.length : Nat) : Int)) = 0)))) || ((decide (xa.1 = 3)) && (!decide ((((xa.2.2.2.1.length : Nat) : Int)) = 0)))) (some (3)) (cond ((!decide (xa.1 = 4)) && (((!decide (xa.2.1 = 0)) || (!decide (xa.2.2.1 = 0))) || (!decide ((((xa.2.2.2.2.2.length : Nat) : Int)) = 0)))) (some (3)) (cond (((decide (xa.1 = 1)) || (decide (xa.1 = 3))) && (!decide ((((xa.2.2.2.2.1.length : Nat) : Int)) = 0))) (some (3)) (cond (((decide (16 < (((xa.2.2.2.1.length : Nat) : Int)))) || (decide (16 < (((xa.2.2.2.2.1.length : Nat) : Int))))) || (decide (16 < (((xa.2.2.2.2.2.length : Nat) : Int))))) (some (6)) (some (0))))))
noncomputable def fn_ref19_within_l1 (xa : (List Int)) (xb : Int) : Int → Option (Int ⊕ (Unit ⊕ Bool)) := fun (i335 : Int) => cond (decide (i335 < (((xa.length : Nat) : Int)))) ((getI xa i335).bind fun x371 => (cond (decide (x371 < 0)) (some (true)) ((getI xa i335).bind fun x392 => some (decide (xb ≤ x392)))).bind fun t390 => cond (t390) (some (.inr ((.inr (false))))) (some (.inl (IntKind.wrap .i64 (i335 + 1))))) (some (.inr ((.inl ()))))
noncomputable def fn_ref19_within (xa : (List Int)) (xb : Int) : Option Bool :=
  (loop (fn_ref19_within_l1 xa xb) 0 : Option (Unit ⊕ Bool)).bind fun o => match o with | .inr r => some r | .inl () => some (true)
noncomputable def fn_ref15_Subst_l1 (xa : (List (Int × Bool))) (xb : (List Int)) : ((List (Int × Bool)) × Int) → Option (((List (Int × Bool)) × Int) ⊕ ((List (Int × Bool)) ⊕ ((List (Int × Bool)) × Int))) := fun ((l1120, i1125) : ((List (Int × Bool)) × Int)) => cond (decide (i1125 < (((xa.length : Nat) : Int)))) ((getI xa i1125).bind fun x1237 => cond ((decide (x1237.1 < 0)) || (decide ((((xb.length : Nat) : Int)) ≤ x1237.1))) (some (.inr ((.inr (([], 7)))))) ((getI xb x1237.1).bind fun x1313 => (getI xa i1125).bind fun x1322 => (app l1120 (([(x1313, x1322.2)] : List (Int × Bool)))).bind fun z1334 => some (.inl ((z1334, IntKind.wrap .i64 (i1125 + 1)))))) (some (.inr (.inl l1120)))
noncomputable def fn_ref15_Subst (xa : (List (Int × Bool))) (xb : (List Int)) : Option (((List (Int × Bool)) × Int)) :=
  (loop (fn_ref15_Subst_l1 xa xb) ((([] : List (Int × Bool)), 0)) : Option ((List (Int × Bool)) ⊕ ((List (Int × Bool)) × Int))).bind fun o => match o with | .inr r => some r | .inl l1006 => some ((l1006, 0))
noncomputable def fn_ref17_Call_l1 (xa : (Int × (List (Int × Int)) × (List (List (Int × Bool))) × (List (Int × Bool)))) (xb : (List Int)) : ((List (Int × Int × Int × Int × Bool)) × Int) → Option (((List (Int × Int × Int × Int × Bool)) × Int) ⊕ (List (Int × Int × Int × Int × Bool))) := fun ((l2780, i2785) : ((List (Int × Int × Int × Int × Bool)) × Int)) => cond (decide (i2785 < (((xa.2.1.length : Nat) : Int)))) ((getI xa.2.1 i2785).bind fun x3074 => (getI xb x3074.1).bind fun x3083 => (getI xa.2.1 i2785).bind fun x3092 => (getI xb x3092.2).bind fun x3101 => (app l2780 (([(x3083, x3101, 4, i2785, false)] : List (Int × Int × Int × Int × Bool)))).bind fun z3113 => some (.inl ((z3113, IntKind.wrap .i64 (i2785 + 1))))) (some (.inr (l2780)))
noncomputable def fn_ref17_Call_l2 (xa : (Int × (List (Int × Int)) × (List (List (Int × Bool))) × (List (Int × Bool)))) (xb : (List Int)) (xc : (List (List (Int × Bool)))) : ((List (Int × Int × Int × Int × Bool)) × Int) → Option (((List (Int × Int × Int × Int × Bool)) × Int) ⊕ ((List (Int × Int × Int × Int × Bool)) ⊕ ((List (Int × Int × Int × Int × Bool)) × Int))) := fun ((l3790, i3795) : ((List (Int × Int × Int × Int × Bool)) × Int)) => cond (decide (i3795 < (((xa.2.2.1.length : Nat) : Int)))) ((getI xa.2.2.1 i3795).bind fun x3965 => (fn_ref15_Subst x3965 xb).bind fun (l3980, i3981) => (getI xc i3795).bind fun x4092 => (fn_ref16_Flow x4092 l3980 5 (IntKind.wrap .i64 (16 * i3795))).bind fun (l4107, i4108) => cond (!decide (i4108 = 0)) (some (.inr ((.inr (([], i4108)))))) ((app l3790 l4107).bind fun z4118 => some (.inl ((z4118, IntKind.wrap .i64 (i3795 + 1)))))) (some (.inr (.inl l3790)))
noncomputable def fn_ref17_Call (xa : (Int × (List (Int × Int)) × (List (List (Int × Bool))) × (List (Int × Bool)))) (xb : (List Int)) (xc : (List (List (Int × Bool)))) (xd : (List (Int × Bool))) : Option (((List (Int × Int × Int × Int × Bool)) × Int)) :=
  (fn_ref17_Check (xa.1, xa.2.1, xa.2.2.1, xa.2.2.2)).bind fun i2085 => cond (!decide (i2085 = 0)) (some (([], i2085))) (cond ((!decide ((((xb.length : Nat) : Int)) = xa.1)) || (!decide ((((xc.length : Nat) : Int)) = (((xa.2.2.1.length : Nat) : Int))))) (some (([], 2))) ((loop (fn_ref17_Call_l1 xa xb) ((([] : List (Int × Int × Int × Int × Bool)), 0)) : Option ((List (Int × Int × Int × Int × Bool)))).bind fun l2606 => (loop (fn_ref17_Call_l2 xa xb xc) (l2606, 0) : Option ((List (Int × Int × Int × Int × Bool)) ⊕ ((List (Int × Int × Int × Int × Bool)) × Int))).bind fun o => match o with | .inr r => some r | .inl l3619 => (fn_ref15_Subst xa.2.2.2 xb).bind fun (l4127, i4128) => (fn_ref16_Flow l4127 xd 6 0).bind fun (l4142, i4143) => cond (!decide (i4143 = 0)) (some (([], i4143))) ((app l3619 l4142).bind fun z4153 => some ((z4153, 0)))))
noncomputable def fn_ref19_Needs_l1 (xa : (Int × Int × Int × (List Int) × (List Int) × (List Int))) (xb : (Int × Int × (List (List (Int × Bool))) × (List (Int × Bool)) × (List (Int × (List (Int × Int)) × (List (List (Int × Bool))) × (List (Int × Bool)))))) : ((List (List (Int × Bool))) × Int) → Option (((List (List (Int × Bool))) × Int) ⊕ (List (List (Int × Bool)))) := fun ((l1810, i1815) : ((List (List (Int × Bool))) × Int)) => cond (decide (i1815 < (((xa.2.2.2.2.1.length : Nat) : Int)))) ((getI xa.2.2.2.2.1 i1815).bind fun x2006 => (getI xb.2.2.1 x2006).bind fun x2015 => (app l1810 (([x2015] : List (List (Int × Bool))))).bind fun z2031 => some (.inl ((z2031, IntKind.wrap .i64 (i1815 + 1))))) (some (.inr (l1810)))
noncomputable def fn_ref19_Needs (xa : (Int × Int × Int × (List Int) × (List Int) × (List Int))) (xb : (Int × Int × (List (List (Int × Bool))) × (List (Int × Bool)) × (List (Int × (List (Int × Int)) × (List (List (Int × Bool))) × (List (Int × Bool)))))) : Option (((List (Int × Int × Int × Int × Bool)) × Int)) :=
  (fn_ref19_Form (xa.1, xa.2.1, xa.2.2.1, xa.2.2.2.1, xa.2.2.2.2.1, xa.2.2.2.2.2)).bind fun i1120 => cond (!decide (i1120 = 0)) (some (([], i1120))) ((fn_ref19_within xa.2.2.2.1 xb.1).bind fun t1128 => (cond (!t1128) (some (true)) ((fn_ref19_within xa.2.2.2.2.1 (((xb.2.2.1.length : Nat) : Int))).bind fun t1143 => some (!t1143))).bind fun t1139 => (cond (t1139) (some (true)) ((fn_ref19_within xa.2.2.2.2.2 xb.2.1).bind fun t1158 => some (!t1158))).bind fun t1154 => cond (t1154) (some (([], 7))) ((cond (decide (xa.1 = 4)) ((fn_ref19_within ([xa.2.2.1] : List Int) (((xb.2.2.1.length : Nat) : Int))).bind fun t1214 => (cond (!t1214) (some (true)) ((fn_ref19_within ([xa.2.1] : List Int) (((xb.2.2.2.2.length : Nat) : Int))).bind fun t1241 => some (!t1241))).bind fun t1231 => some (t1231)) (some (false))).bind fun t1204 => cond (t1204) (some (([], 7))) (cond ((decide (xa.1 = 3)) && (decide ((((xb.2.2.1.length : Nat) : Int)) = 0))) (some (([], 14))) (cond (decide (xa.1 = 3)) ((getI xb.2.2.1 0).bind fun x1324 => (fn_ref16_Flow x1324 xb.2.2.2.1 7 0).bind fun (l1339, i1340) => some ((l1339, i1340))) (cond (decide (xa.1 = 4)) ((loop (fn_ref19_Needs_l1 xa xb) ((([] : List (List (Int × Bool))), 0)) : Option ((List (List (Int × Bool))))).bind fun l1692 => (getI xb.2.2.2.2 xa.2.1).bind fun x2181 => (getI xb.2.2.1 xa.2.2.1).bind fun x2202 => (fn_ref17_Call (x2181.1, x2181.2.1, x2181.2.2.1, x2181.2.2.2) xa.2.2.2.2.2 l1692 x2202).bind fun (l2220, i2221) => some ((l2220, i2221))) (some (([], 0))))))))
noncomputable def fn_ref21_blocks_l1 (xa : (Int × Int × (List (Int × Int)) × (List (List (Int × Bool))) × (List (Int × Bool)) × (List (Int × (List (Int × Int)) × (List (List (Int × Bool))) × (List (Int × Bool)))) × (List ((List (Int × Int × Int × Int × Bool)) × (Int × Int × Int × (List Int) × (List Int) × (List Int)))))) : (Int × Int) → Option ((Int × Int) ⊕ (Unit ⊕ (Int × Int × Int × Int))) := fun ((i4053, i4054) : (Int × Int)) => cond (decide (i4054 < (((xa.2.2.2.2.2.2.length : Nat) : Int)))) ((getI xa.2.2.2.2.2.2 i4054).bind fun x4074 => cond (decide (65536 < (IntKind.wrap .i64 (i4053 + (((x4074.1.length : Nat) : Int)))))) (some (.inr ((.inr ((6, 5, i4054, 0)))))) (some (.inl ((IntKind.wrap .i64 (i4053 + (((x4074.1.length : Nat) : Int))), IntKind.wrap .i64 (i4054 + 1)))))) (some (.inr ((.inl ()))))
noncomputable def fn_ref21_blocks_l2 (xa : (Int × Int × (List (Int × Int)) × (List (List (Int × Bool))) × (List (Int × Bool)) × (List (Int × (List (Int × Int)) × (List (List (Int × Bool))) × (List (Int × Bool)))) × (List ((List (Int × Int × Int × Int × Bool)) × (Int × Int × Int × (List Int) × (List Int) × (List Int)))))) (i6666 : Int) (x7313 : ((List (Int × Int × Int × Int × Bool)) × (Int × Int × Int × (List Int) × (List Int) × (List Int)))) : Int → Option (Int ⊕ (Unit ⊕ (Int ⊕ (Unit ⊕ (Int × Int × Int × Int))))) := fun (i7659 : Int) => cond (decide (i7659 < (((x7313.1.length : Nat) : Int)))) ((getI x7313.1 i7659).bind fun x7805 => (fn_ref18_Needs (x7805.1, x7805.2.1, x7805.2.2.1, x7805.2.2.2.1, x7805.2.2.2.2) xa.2.2.2.1 xa.2.1).bind fun (l7816, i7817) => cond (!decide (i7817 = 0)) (some (.inr ((.inr (.inr ((.inr ((i7817, 6, i6666, i7659))))))))) (some (.inl (IntKind.wrap .i64 (i7659 + 1))))) (some (.inr ((.inl ()))))
noncomputable def fn_ref21_blocks_l3 (xa : (Int × Int × (List (Int × Int)) × (List (List (Int × Bool))) × (List (Int × Bool)) × (List (Int × (List (Int × Int)) × (List (List (Int × Bool))) × (List (Int × Bool)))) × (List ((List (Int × Int × Int × Int × Bool)) × (Int × Int × Int × (List Int) × (List Int) × (List Int)))))) : Int → Option (Int ⊕ (Unit ⊕ (Int × Int × Int × Int))) := fun (i6666 : Int) => cond (decide (i6666 < (((xa.2.2.2.2.2.2.length : Nat) : Int)))) ((getI xa.2.2.2.2.2.2 i6666).bind fun x7313 => (loop (fn_ref21_blocks_l2 xa i6666 x7313) 0 : Option (Unit ⊕ (Int ⊕ (Unit ⊕ (Int × Int × Int × Int))))).bind fun o => match o with | .inr r => some r | .inl () => (getI xa.2.2.2.2.2.2 i6666).bind fun x7922 => (fn_ref19_Needs (x7922.2.1, x7922.2.2.1, x7922.2.2.2.1, x7922.2.2.2.2.1, x7922.2.2.2.2.2.1, x7922.2.2.2.2.2.2) ((((xa.2.2.2.2.2.2.length : Nat) : Int), xa.2.1, xa.2.2.2.1, xa.2.2.2.2.1, xa.2.2.2.2.2.1))).bind fun (l7945, i7946) => cond (!decide (i7946 = 0)) (some (.inr ((.inr ((i7946, 7, i6666, 0)))))) (some (.inl (IntKind.wrap .i64 (i6666 + 1))))) (some (.inr ((.inl ()))))
noncomputable def fn_ref21_blocks (xa : (Int × Int × (List (Int × Int)) × (List (List (Int × Bool))) × (List (Int × Bool)) × (List (Int × (List (Int × Int)) × (List (List (Int × Bool))) × (List (Int × Bool)))) × (List ((List (Int × Int × Int × Int × Bool)) × (Int × Int × Int × (List Int) × (List Int) × (List Int)))))) : Option (Int × Int × Int × Int) :=
  cond (decide ((((xa.2.2.2.2.2.2.length : Nat) : Int)) = 0)) (some ((14, 5, 0, 0))) (cond (decide (65536 < (((xa.2.2.2.2.2.2.length : Nat) : Int)))) (some ((6, 5, 0, 0))) ((loop (fn_ref21_blocks_l1 xa) (0, 0) : Option (Unit ⊕ (Int × Int × Int × Int))).bind fun o => match o with | .inr r => some r | .inl () => (loop (fn_ref21_blocks_l3 xa) 0 : Option (Unit ⊕ (Int × Int × Int × Int))).bind fun o => match o with | .inr r => some r | .inl () => some ((0, 0, 0, 0))))
noncomputable def fn_ref21_Check (xa : (Int × Int × (List (Int × Int)) × (List (List (Int × Bool))) × (List (Int × Bool)) × (List (Int × (List (Int × Int)) × (List (List (Int × Bool))) × (List (Int × Bool)))) × (List ((List (Int × Int × Int × Int × Bool)) × (Int × Int × Int × (List Int) × (List Int) × (List Int)))))) : Option (Int × Int × Int × Int) :=
  (fn_ref21_head (xa.1, xa.2.1, xa.2.2.1, xa.2.2.2.1, xa.2.2.2.2.1, xa.2.2.2.2.2.1, xa.2.2.2.2.2.2)).bind fun (i42, i43, i44, i45) => cond (!decide (i42 = 0)) (some ((i42, i43, i44, i45))) ((fn_ref21_types (xa.1, xa.2.1, xa.2.2.1, xa.2.2.2.1, xa.2.2.2.2.1, xa.2.2.2.2.2.1, xa.2.2.2.2.2.2)).bind fun (i53, i54, i55, i56) => cond (!decide (i53 = 0)) (some ((i53, i54, i55, i56))) ((fn_ref21_blocks (xa.1, xa.2.1, xa.2.2.1, xa.2.2.2.1, xa.2.2.2.2.1, xa.2.2.2.2.2.1, xa.2.2.2.2.2.2)).bind fun (i63, i65, i66, i67) => some ((i63, i65, i66, i67))))
noncomputable def fn_ref21_OK (xa : (Int × Int × (List (Int × Int)) × (List (List (Int × Bool))) × (List (Int × Bool)) × (List (Int × (List (Int × Int)) × (List (List (Int × Bool))) × (List (Int × Bool)))) × (List ((List (Int × Int × Int × Int × Bool)) × (Int × Int × Int × (List Int) × (List Int) × (List Int)))))) : Option Bool :=
  (fn_ref21_Check (xa.1, xa.2.1, xa.2.2.1, xa.2.2.2.1, xa.2.2.2.2.1, xa.2.2.2.2.2.1, xa.2.2.2.2.2.2)).bind fun (i15, i17, i18, i19) => some (decide (i15 = 0))
noncomputable def fn_ref22_All_l1 (i1276 : Int) (x1402 : ((List (Int × Int × Int × Int × Bool)) × (Int × Int × Int × (List Int) × (List Int) × (List Int)))) : ((List (Int × Int × Bool)) × Int) → Option (((List (Int × Int × Bool)) × Int) ⊕ (List (Int × Int × Bool))) := fun ((l1485, i1490) : ((List (Int × Int × Bool)) × Int)) => cond (decide (i1490 ≤ (((x1402.1.length : Nat) : Int)))) ((app l1485 (([(i1276, i1490, decide (i1490 = (((x1402.1.length : Nat) : Int))))] : List (Int × Int × Bool)))).bind fun z1512 => some (.inl ((z1512, IntKind.wrap .i64 (i1490 + 1))))) (some (.inr (l1485)))
noncomputable def fn_ref22_All_l2 (xa : (Int × Int × (List (Int × Int)) × (List (List (Int × Bool))) × (List (Int × Bool)) × (List (Int × (List (Int × Int)) × (List (List (Int × Bool))) × (List (Int × Bool)))) × (List ((List (Int × Int × Int × Int × Bool)) × (Int × Int × Int × (List Int) × (List Int) × (List Int)))))) : ((List (Int × Int × Bool)) × Int) → Option (((List (Int × Int × Bool)) × Int) ⊕ (List (Int × Int × Bool))) := fun ((l1271, i1276) : ((List (Int × Int × Bool)) × Int)) => cond (decide (i1276 < (((xa.2.2.2.2.2.2.length : Nat) : Int)))) ((getI xa.2.2.2.2.2.2 i1276).bind fun x1402 => (loop (fn_ref22_All_l1 i1276 x1402) (l1271, 0) : Option ((List (Int × Int × Bool)))).bind fun l1464 => some (.inl ((l1464, IntKind.wrap .i64 (i1276 + 1))))) (some (.inr (l1271)))
noncomputable def fn_ref22_All (xa : (Int × Int × (List (Int × Int)) × (List (List (Int × Bool))) × (List (Int × Bool)) × (List (Int × (List (Int × Int)) × (List (List (Int × Bool))) × (List (Int × Bool)))) × (List ((List (Int × Int × Int × Int × Bool)) × (Int × Int × Int × (List Int) × (List Int) × (List Int)))))) : Option ((List (Int × Int × Bool))) :=
  (fn_ref21_OK (xa.1, xa.2.1, xa.2.2.1, xa.2.2.2.1, xa.2.2.2.2.1, xa.2.2.2.2.2.1, xa.2.2.2.2.2.2)).bind fun t768 => cond (!t768) (some (([] : List (Int × Int × Bool)))) ((loop (fn_ref22_All_l2 xa) ((([] : List (Int × Int × Bool)), 0)) : Option ((List (Int × Int × Bool)))).bind fun l1143 => some (l1143))
noncomputable def fn_ref24_Reads_l1 (xc : Int) (x122 : ((List (Int × Int × Int × Int × Bool)) × (Int × Int × Int × (List Int) × (List Int) × (List Int)))) : Int → Option (Int ⊕ (Unit ⊕ Bool)) := fun (i213 : Int) => cond (decide (i213 < (((x122.2.2.2.2.2.1.length : Nat) : Int)))) ((getI x122.2.2.2.2.2.1 i213).bind fun x228 => cond (decide (x228 = xc)) (some (.inr ((.inr (true))))) (some (.inl (IntKind.wrap .i64 (i213 + 1))))) (some (.inr ((.inl ()))))
noncomputable def fn_ref24_Reads (xa : (Int × Int × (List (Int × Int)) × (List (List (Int × Bool))) × (List (Int × Bool)) × (List (Int × (List (Int × Int)) × (List (List (Int × Bool))) × (List (Int × Bool)))) × (List ((List (Int × Int × Int × Int × Bool)) × (Int × Int × Int × (List Int) × (List Int) × (List Int)))))) (xb : (Int × Int × Bool)) (xc : Int) : Option Bool :=
  (getI xa.2.2.2.2.2.2 xb.1).bind fun x122 => cond (!xb.2.2) ((getI x122.1 xb.2.1).bind fun x149 => some (((decide (1 ≤ x149.1)) && (decide (x149.1 ≤ 4))) && (decide (x149.2.2.1 = xc)))) (cond (decide (x122.2.1 = 3)) (some (decide (xc = 0))) ((loop (fn_ref24_Reads_l1 xc x122) 0 : Option (Unit ⊕ Bool)).bind fun o => match o with | .inr r => some r | .inl () => some (false)))
noncomputable def fn_ref24_Writes (xa : (Int × Int × (List (Int × Int)) × (List (List (Int × Bool))) × (List (Int × Bool)) × (List (Int × (List (Int × Int)) × (List (List (Int × Bool))) × (List (Int × Bool)))) × (List ((List (Int × Int × Int × Int × Bool)) × (Int × Int × Int × (List Int) × (List Int) × (List Int)))))) (xb : (Int × Int × Bool)) (xc : Int) : Option Bool :=
  (getI xa.2.2.2.2.2.2 xb.1).bind fun x53 => cond (!xb.2.2) ((getI x53.1 xb.2.1).bind fun x80 => some (((((decide (x80.1 = 1)) || (decide (x80.1 = 2))) || (decide (x80.1 = 3))) || (decide (x80.1 = 5))) && (decide (x80.2.1 = xc)))) (some ((decide (x53.2.1 = 4)) && (decide (x53.2.2.2.1 = xc))))
end Go.Proofs.Ytkpdfepjanfmbaa
namespace Go.Proofs.Ytkpdfepjanfmbaa
set_option linter.unusedVariables false
section
variable {σ β : Type} {body : σ → Option (σ ⊕ β)}
theorem loop_nat (st : Nat → σ) (n : Nat) {b : β} (h : ∀ k, k < n → body (st k) = some (.inl (st (k + 1)))) (he : body (st n) = some (.inr b)) : loop body (st 0) = some b := by
  have : ∀ m k, k + m = n → loop body (st k) = some b := by
    intro m
    induction m with
    | zero => intro k hk; have : k = n := by omega
              subst this; exact loop_end he
    | succ m ih => intro k hk; rw [loop_next (h k (by omega))]; exact ih (k + 1) (by omega)
  exact this n 0 (by omega)
theorem least (p : Nat → Prop) : ∀ n, (∃ k, k < n ∧ p k ∧ ∀ j, j < k → ¬ p j) ∨ ∀ j, j < n → ¬ p j
  | 0 => .inr (fun j hj => by omega)
  | n + 1 => by
    rcases least p n with ⟨k, h1, h2, h3⟩ | h
    · exact .inl ⟨k, by omega, h2, h3⟩
    · by_cases hp : p n
      · exact .inl ⟨n, by omega, hp, h⟩
      · exact .inr (fun j hj => if e : j = n then e ▸ hp else h j (by omega))
theorem loop_find (p : Nat → Prop) (st : Nat → σ) (n : Nat) (hit : Nat → β) (e : β) (hgo : ∀ k, k < n → ¬ p k → body (st k) = some (.inl (st (k + 1)))) (hhit : ∀ k, k < n → p k → body (st k) = some (.inr (hit k))) (hend : body (st n) = some (.inr e)) :
    (∃ k, k < n ∧ p k ∧ (∀ j, j < k → ¬ p j) ∧ loop body (st 0) = some (hit k)) ∨ ((∀ j, j < n → ¬ p j) ∧ loop body (st 0) = some e) := by
  rcases least p n with ⟨k, h1, h2, h3⟩ | h
  · exact .inl ⟨k, h1, h2, h3, loop_nat st k (fun j hj => hgo j (by omega) (h3 j hj)) (hhit k h1 h2)⟩
  · exact .inr ⟨h, loop_nat st n (fun k hk => hgo k hk (h k hk)) hend⟩
open Classical in
theorem loop_any (p : Nat → Prop) (st : Nat → σ) (n : Nat) (b e : β) (hgo : ∀ k, k < n → ¬ p k → body (st k) = some (.inl (st (k + 1)))) (hhit : ∀ k, k < n → p k → body (st k) = some (.inr b)) (hend : body (st n) = some (.inr e)) :
    loop body (st 0) = some (if ∃ k, k < n ∧ p k then b else e) := by
  rcases loop_find p st n (fun _ => b) e hgo hhit hend with ⟨k, h1, h2, h3, h4⟩ | ⟨h1, h2⟩
  · rw [if_pos ⟨k, h1, h2⟩]; exact h4
  · rw [if_neg (fun ⟨k, h3, h4⟩ => h1 k h3 h4)]; exact h2
end
theorem w64 {x : Int} (h1 : -9223372036854775808 ≤ x) (h2 : x ≤ 9223372036854775807) : IntKind.wrap .i64 x = x := by
  rw [IntWalk.i64_left, IntWalk.wrap64_in _ ⟨h1, h2⟩]
theorem w64s {k n : Nat} (h : k < n) (hn : n ≤ 9223372036854775807) : IntKind.wrap .i64 ((k : Int) + 1) = ((k + 1 : Nat) : Int) := by
  rw [w64 (by omega) (by omega)]; rfl
theorem ne_list {α : Type} {xs ys : List α} (h : xs.length = ys.length) : (∃ k, k < xs.length ∧ xs[k]? ≠ ys[k]?) ↔ xs ≠ ys := by
  constructor
  · rintro ⟨k, _, h2⟩ rfl; exact h2 rfl
  · intro hne
    rcases least (fun k => xs[k]? ≠ ys[k]?) xs.length with ⟨k, h1, h2, _⟩ | h'
    · exact ⟨k, h1, h2⟩
    · exfalso; apply hne
      apply List.ext_getElem? 
      intro k
      by_cases hk : k < xs.length
      · exact Classical.byContradiction (fun hc => h' k hk hc)
      · rw [List.getElem?_eq_none (by omega), List.getElem?_eq_none (by omega)]
theorem getN {α : Type} {l : List α} {k : Nat} (h : k < l.length) : getI l (k : Int) = some l[k] := getI_eq rfl h
theorem any_ex {α : Type} {t : α → Bool} {l : List α} : l.any t = true ↔ ∃ k, k < l.length ∧ (l[k]?.map t) = some true := by
  rw [List.any_eq_true]
  constructor
  · rintro ⟨x, hx, h⟩
    obtain ⟨k, hk, rfl⟩ := List.getElem_of_mem hx
    exact ⟨k, hk, by simp [hk, h]⟩
  · rintro ⟨k, hk, h⟩
    exact ⟨l[k], List.getElem_mem hk, by simpa [hk] using h⟩
/-- A list searched. -/
theorem loop_one {α β : Type} (xa : List α) (t : α → Bool) (hit e : β) (hn : xa.length ≤ 9223372036854775807) :
    loop (fun (i : Int) => (cond (decide (i < ((xa.length : Nat) : Int))) ((getI xa i).bind fun x => cond (t x) (some (.inr hit)) (some (.inl (IntKind.wrap .i64 (i + 1))))) (some (.inr e)) : Option (Int ⊕ β))) 0 = some (if xa.any t then hit else e) := by
  classical
  have h := loop_any (body := fun (i : Int) => (cond (decide (i < ((xa.length : Nat) : Int))) ((getI xa i).bind fun x => cond (t x) (some (.inr hit)) (some (.inl (IntKind.wrap .i64 (i + 1))))) (some (.inr e)) : Option (Int ⊕ β)))
    (fun k => (xa[k]?.map t) = some true) (fun k : Nat => (k : Int)) xa.length hit e ?_ ?_ ?_
  · refine h.trans ?_
    by_cases hh : xa.any t = true
    · rw [if_pos (any_ex.1 hh), if_pos hh]
    · rw [if_neg (fun h => hh (any_ex.2 h)), if_neg hh]
  · intro k hk hp
    simp [hk] at hp
    simp [hk, getN hk, hp, w64s hk hn]
  · intro k hk hp
    simp [hk] at hp
    simp [hk, getN hk, hp]
  · simp
/-- Two lists searched, hand in hand. -/
theorem loop_two {α γ β : Type} (xa : List α) (xb : List γ) (t : α → γ → Bool) (hit e : β) (hl : xa.length = xb.length) (hn : xa.length ≤ 9223372036854775807) :
    loop (fun (i : Int) => (cond (decide (i < ((xa.length : Nat) : Int))) ((getI xa i).bind fun x => (getI xb i).bind fun y => cond (t x y) (some (.inr hit)) (some (.inl (IntKind.wrap .i64 (i + 1))))) (some (.inr e)) : Option (Int ⊕ β))) 0 = some (if (xa.zip xb).any (fun p => t p.1 p.2) then hit else e) := by
  classical
  have hz : (xa.zip xb).length = xa.length := by simp [hl]
  have h := loop_any (body := fun (i : Int) => (cond (decide (i < ((xa.length : Nat) : Int))) ((getI xa i).bind fun x => (getI xb i).bind fun y => cond (t x y) (some (.inr hit)) (some (.inl (IntKind.wrap .i64 (i + 1))))) (some (.inr e)) : Option (Int ⊕ β)))
    (fun k => ((xa.zip xb)[k]?.map fun p => t p.1 p.2) = some true) (fun k : Nat => (k : Int)) xa.length hit e ?_ ?_ ?_
  · refine h.trans ?_
    have ha := any_ex (t := fun p : α × γ => t p.1 p.2) (l := xa.zip xb)
    rw [hz] at ha
    by_cases hh : (xa.zip xb).any (fun p => t p.1 p.2) = true
    · rw [if_pos (ha.1 hh), if_pos hh]
    · rw [if_neg (fun h => hh (ha.2 h)), if_neg hh]
  · intro k hk hp
    have hk2 : k < xb.length := by omega
    have hk3 : k < (xa.zip xb).length := by omega
    have hz3 : (xa.zip xb)[k]? = some (xa[k], xb[k]) := by rw [List.getElem?_eq_getElem hk3, List.getElem_zip]
    rw [hz3] at hp
    simp at hp
    simp [hk, getN hk, getN hk2, hp, w64s hk hn]
  · intro k hk hp
    have hk2 : k < xb.length := by omega
    have hk3 : k < (xa.zip xb).length := by omega
    have hz3 : (xa.zip xb)[k]? = some (xa[k], xb[k]) := by rw [List.getElem?_eq_getElem hk3, List.getElem_zip]
    rw [hz3] at hp
    simp at hp
    simp [hk, getN hk, getN hk2, hp]
  · simp
theorem zip_any_ne {α : Type} [DecidableEq α] {xs ys : List α} (h : xs.length = ys.length) : (xs.zip ys).any (fun p => !decide (p.1 = p.2)) = !decide (xs = ys) := by
  induction xs generalizing ys with
  | nil => cases ys with
    | nil => rfl
    | cons => cases h
  | cons x xs ih => cases ys with
    | nil => cases h
    | cons y ys =>
      simp only [List.zip_cons_cons, List.any_cons, ih (by simpa using h), List.cons.injEq]
      by_cases h1 : x = y <;> simp [h1]
/-- A list searched for a place. -/
theorem loop_idx {α γ : Type} (xa : List α) (t : α → γ → Bool) (q : γ) (hn : xa.length ≤ 9223372036854775807) :
    ∃ r, loop (fun ((i, c) : Int × γ) => (cond (decide (i < ((xa.length : Nat) : Int))) ((getI xa i).bind fun x => cond (t x c) (some (.inr (.inr (i, c)))) (some (.inl (IntKind.wrap .i64 (i + 1), c)))) (some (.inr (.inl c))) : Option ((Int × γ) ⊕ (γ ⊕ (Int × γ))))) (0, q) = some r ∧ ((r = .inl q ∧ xa.any (t · q) = false) ∨ ∃ k : Nat, r = .inr ((k : Int), q) ∧ xa.any (t · q) = true) := by
  have h := loop_find (body := fun ((i, c) : Int × γ) => (cond (decide (i < ((xa.length : Nat) : Int))) ((getI xa i).bind fun x => cond (t x c) (some (.inr (.inr (i, c)))) (some (.inl (IntKind.wrap .i64 (i + 1), c)))) (some (.inr (.inl c))) : Option ((Int × γ) ⊕ (γ ⊕ (Int × γ)))))
    (fun k => (xa[k]?.map (t · q)) = some true) (fun k : Nat => ((k : Int), q)) xa.length (fun k => .inr ((k : Int), q)) (.inl q) ?_ ?_ ?_
  · rcases h with ⟨k, h1, h2, _, h3⟩ | ⟨h1, h2⟩
    · exact ⟨_, h3, .inr ⟨k, rfl, any_ex.2 ⟨k, h1, h2⟩⟩⟩
    · refine ⟨_, h2, .inl ⟨rfl, ?_⟩⟩
      cases hh : xa.any (t · q) with
      | false => rfl
      | true => obtain ⟨k, h3, h4⟩ := any_ex.1 hh; exact absurd h4 (h1 k h3)
  · intro k hk hp
    simp [hk] at hp
    simp [hk, getN hk, hp, w64s hk hn]
  · intro k hk hp
    simp [hk] at hp
    simp [hk, getN hk, hp]
  · simp
/-- A list gone through, with something carried along. -/
theorem loop_fold {α γ : Type} (xa : List α) (f : γ → α → γ) (c0 : γ) (hn : xa.length ≤ 9223372036854775807) {body : γ × Int → Option ((γ × Int) ⊕ γ)}
    (hb : ∀ k x, xa[k]? = some x → body ((xa.take k).foldl f c0, (k : Int)) = some (.inl (f ((xa.take k).foldl f c0) x, IntKind.wrap .i64 ((k : Int) + 1)))) (he : body (xa.foldl f c0, (xa.length : Int)) = some (.inr (xa.foldl f c0))) : loop body (c0, 0) = some (xa.foldl f c0) := by
  have h := loop_nat (body := body) (fun k : Nat => ((xa.take k).foldl f c0, (k : Int))) xa.length (b := xa.foldl f c0) ?_ ?_
  · simpa using h
  · intro k hk
    rw [hb k xa[k] (by simp [hk]), w64s hk hn]
    congr 3
    rw [List.take_succ_eq_append_getElem hk, List.foldl_append]; rfl
  · simpa using he
theorem foldl_snoc {α γ : Type} (g : α → γ) (xa : List α) (c : List γ) : xa.foldl (fun c x => c ++ [g x]) c = c ++ xa.map g := by
  induction xa generalizing c with
  | nil => simp
  | cons x xa ih => simp [ih]
/-- A list built by going through another. -/
theorem loop_map {α γ : Type} (xa : List α) (g : α → γ) (c0 : List γ) (hn : c0.length + xa.length ≤ 1073741824) {body : List γ × Int → Option ((List γ × Int) ⊕ List γ)}
    (hb : ∀ (c : List γ) (i : Int), body (c, i) = cond (decide (i < ((xa.length : Nat) : Int))) ((getI xa i).bind fun x => (app c [g x]).bind fun z => some (.inl (z, IntKind.wrap .i64 (i + 1)))) (some (.inr c))) : loop body (c0, 0) = some (c0 ++ xa.map g) := by
  rw [← foldl_snoc]
  refine loop_fold xa (fun c x => c ++ [g x]) c0 (by omega) (fun k x hx => ?_) ?_
  · have hk := (List.getElem?_eq_some_iff.1 hx).1
    rw [hb, foldl_snoc]
    have hx' : xa[k] = x := by rw [List.getElem?_eq_getElem hk] at hx; exact Option.some.inj hx
    have ha := app_eq (a := c0 ++ (xa.take k).map g) (b := [g x]) (by simp; omega)
    simp only [Option.bind_some, getN hk, hx', ha, Int.ofNat_lt.2 hk, decide_true, cond_true]
  · rw [hb]; simp
end Go.Proofs.Ytkpdfepjanfmbaa
namespace Go.Proofs.Ytkpdfepjanfmbaa
set_option linter.unusedVariables false
theorem bind_of {α β : Type} {m : Option α} {f : α → Option β} {y : β} {Q : α → Prop} (h : ∃ r, m = some r ∧ Q r) (k : ∀ r, Q r → f r = some y) : m.bind f = some y := by
  obtain ⟨r, rfl, h2⟩ := h; exact k r h2
theorem bind_ex {α β : Type} {m : Option α} {f : α → Option β} {Q : α → Prop} {R : β → Prop} (h : ∃ r, m = some r ∧ Q r) (k : ∀ r, Q r → ∃ y, f r = some y ∧ R y) : ∃ y, m.bind f = some y ∧ R y := by
  obtain ⟨r, rfl, h2⟩ := h; exact k r h2
theorem getZ {α : Type} {l : List α} {i : Int} (h0 : 0 ≤ i) (h1 : i < (l.length : Nat)) : getI l i = some (l[i.toNat]'(by omega)) := by
  unfold getI; rw [if_pos h0]; simp
theorem getN1 {α : Type} {l : List α} {k : Nat} (h : k + 1 < l.length) : getI l ((k : Int) + 1) = some l[k + 1] := getI_eq rfl h
theorem dlt {k n : Nat} (h : k < n) : decide ((k : Int) < (n : Int)) = true := by simp; omega
theorem dge {k n : Nat} (h : ¬ k < n) : decide ((k : Int) < (n : Int)) = false := by simp; omega
theorem beq_dec {α : Type} [DecidableEq α] (a b : α) : (a == b) = decide (a = b) := Bool.beq_eq_decide_eq a b
section
variable {α β γ σ : Type}
/-- Counted from 0 to n, with a way out. -/
theorem loop_stop {body : σ → Option (σ ⊕ β)} (n : Nat) (st : Nat → σ) (stop : Nat → Option β) (e : β) (h : ∀ k, k < n → body (st k) = some (match stop k with | none => .inl (st (k + 1)) | some b => .inr b)) (he : body (st n) = some (.inr e)) :
    loop body (st 0) = some (((List.range n).findSome? stop).getD e) := by
  rcases loop_find (fun k => (stop k).isSome = true) st n (fun k => (stop k).getD e) e (fun k hk hp => by
      rw [h k hk]; cases hs : stop k with
      | none => rfl
      | some b => simp [hs] at hp) (fun k hk hp => by
      rw [h k hk]; cases hs : stop k with
      | none => simp [hs] at hp
      | some b => rfl) he with ⟨k, h1, h2, h3, h4⟩ | ⟨h1, h2⟩
  · rw [h4]
    obtain ⟨b, hb⟩ := Option.isSome_iff_exists.1 h2
    have : (List.range n).findSome? stop = some b := by
      rw [List.findSome?_eq_some_iff]
      refine ⟨List.range k, k, (List.range' (k + 1) (n - k - 1)), ?_, hb, fun a ha => ?_⟩
      · rw [List.range_eq_range', List.range_eq_range', ← List.range'_succ (s := k) (n := n - k - 1)]
        rw [show n - k - 1 + 1 = n - k by omega]
        have := List.range'_append_1 (s := 0) (m := k) (n := n - k)
        rw [Nat.zero_add, show k + (n - k) = n by omega] at this
        exact this.symm
      · have := h3 a (List.mem_range.1 ha)
        cases hs : stop a with
        | none => rfl
        | some b => simp [hs] at this
    rw [this, hb]
  · rw [h2]
    have : (List.range n).findSome? stop = none := by
      rw [List.findSome?_eq_none_iff]
      intro a ha
      have := h1 a (List.mem_range.1 ha)
      cases hs : stop a with
      | none => rfl
      | some b => simp [hs] at this
    rw [this]; rfl
/-- A list searched: where the first hit lies. -/
theorem loop_search {body : Int → Option (Int ⊕ β)} (xa : List α) (t : α → Bool) (hit : Nat → β) (e : β) (hb : ∀ (k : Nat) (h : k < xa.length), body (k : Int) = some (if t xa[k] then .inr (hit k) else .inl ((k + 1 : Nat) : Int))) (he : body (xa.length : Int) = some (.inr e)) :
    loop body 0 = some (match xa.findIdx? t with | some k => hit k | none => e) := by
  rcases loop_find (fun k => ∃ h : k < xa.length, t xa[k] = true) (fun k : Nat => (k : Int)) xa.length hit e (fun k hk hp => by
      rw [hb k hk, if_neg (fun h => hp ⟨hk, h⟩)]) (fun k hk ⟨_, hp⟩ => by rw [hb k hk, if_pos hp]) he with ⟨k, h1, ⟨_, h2⟩, h3, h4⟩ | ⟨h1, h2⟩
  · rw [show ((0 : Int)) = ((0 : Nat) : Int) from rfl, h4]
    have : xa.findIdx? t = some k := by
      rw [List.findIdx?_eq_some_iff_getElem]
      exact ⟨h1, h2, fun j hj => fun hc => h3 j hj ⟨by omega, by simpa using hc⟩⟩
    rw [this]
  · rw [show ((0 : Int)) = ((0 : Nat) : Int) from rfl, h2]
    have : xa.findIdx? t = none := by
      rw [List.findIdx?_eq_none_iff]
      intro x hx
      obtain ⟨k, hk, rfl⟩ := List.getElem_of_mem hx
      cases hc : t xa[k] with
      | false => rfl
      | true => exact absurd ⟨hk, hc⟩ (h1 k hk)
    rw [this]
theorem loop_some {body : Int → Option (Int ⊕ β)} (xa : List α) (t : α → Bool) (hit e : β) (hb : ∀ (k : Nat) (h : k < xa.length), body (k : Int) = some (if t xa[k] then .inr hit else .inl ((k + 1 : Nat) : Int))) (he : body (xa.length : Int) = some (.inr e)) :
    loop body 0 = some (if xa.any t then hit else e) := by
  rw [loop_search xa t (fun _ => hit) e hb he]
  cases h : xa.findIdx? t with
  | none =>
    have : xa.any t = false := by
      rw [List.any_eq_false]; intro x hx; have := List.findIdx?_eq_none_iff.1 h x hx; simp [this]
    rw [this]; rfl
  | some k =>
    obtain ⟨hk, h1, _⟩ := List.findIdx?_eq_some_iff_getElem.1 h
    have : xa.any t = true := List.any_eq_true.2 ⟨_, List.getElem_mem hk, h1⟩
    rw [this]; rfl
/-- A list gone through, with what is carried along. -/
theorem loop_carry {δ : Type} {body : (γ × Int) → Option ((γ × Int) ⊕ δ)} (xa : List α) (acc : Nat → γ) (out : δ) (hb : ∀ (k : Nat) (h : k < xa.length), body (acc k, (k : Int)) = some (.inl (acc (k + 1), ((k + 1 : Nat) : Int)))) (he : body (acc xa.length, (xa.length : Int)) = some (.inr out)) :
    loop body (acc 0, 0) = some out := loop_nat (fun k => (acc k, (k : Int))) xa.length hb he
/-- Two lists held against each other, place by place. -/
theorem loop_alike [DecidableEq α] {body : Int → Option (Int ⊕ β)} (xa xb : List α) (hit e : β) (hl : xa.length = xb.length) (hb : ∀ (k : Nat) (h : k < xa.length), body (k : Int) = some (if xa[k] = (xb[k]'(by omega)) then .inl ((k + 1 : Nat) : Int) else .inr hit)) (he : body (xa.length : Int) = some (.inr e)) :
    loop body 0 = some (if xa = xb then e else hit) := by
  rw [loop_search (List.range xa.length) (fun k => decide (xa[k]? ≠ xb[k]?)) (fun _ => hit) e (fun k h => by
      simp at h
      rw [hb k h]
      have h2 : k < xb.length := by omega
      by_cases hq : xa[k] = xb[k] <;> simp [h, h2, hq]) (by simpa using he)]
  by_cases hq : xa = xb
  · subst hq
    have : (List.range xa.length).findIdx? (fun k => decide (xa[k]? ≠ xa[k]?)) = none := by rw [List.findIdx?_eq_none_iff]; simp
    rw [this]; simp
  · cases h : (List.range xa.length).findIdx? (fun k => decide (xa[k]? ≠ xb[k]?)) with
    | some k => simp [hq]
    | none =>
      exfalso; apply hq
      rw [List.findIdx?_eq_none_iff] at h
      apply List.ext_getElem?
      intro k
      by_cases hk : k < xa.length
      · simpa using h k (List.mem_range.2 hk)
      · rw [List.getElem?_eq_none (by omega), List.getElem?_eq_none (by omega)]
theorem take_snoc {l : List α} {k : Nat} (h : k < l.length) : l.take (k + 1) = l.take k ++ [l[k]] := List.take_succ_eq_append_getElem h
theorem dlen {a b : Nat} (h : a = b) : (!decide ((a : Int) = (b : Int))) = false := by simp [h]
theorem dlen' {a b : Nat} (h : ¬ a = b) : (!decide ((a : Int) = (b : Int))) = true := by simp; omega
end
theorem ok64 {x : Int} (h : Tp.Ok (.int .i64) x) : -9223372036854775808 ≤ x ∧ x ≤ 9223372036854775807 := by
  have h' : (Lit.int .i64 x).wf = true := h
  simp only [Lit.wf, IntKind.min, IntKind.max, IntKind.signed, IntKind.bits, Bool.and_eq_true, decide_eq_true_eq] at h'
  simp at h'; omega
theorem sub1 {α : Type} {l : List α} (h : 1 ≤ l.length) : subL l 1 ((l.length : Nat) : Int) = some (l.drop 1) := by
  rw [subL_eq (by omega) (by omega) (by omega)]; simp
end Go.Proofs.Ytkpdfepjanfmbaa
namespace Go.Proofs.Ytkpdfepjanfmbaa
open Go.RowKit
set_option linter.unusedVariables false
set_option linter.unnecessarySimpa false
set_option linter.unusedSimpArgs false
abbrev St := Int × Bool
def shp (xa xb : List St) : Bool := decide (xa.map (·.2) = xb.map (·.2))
theorem shp_of_loop (xa xb : List St) {body : Int → Option (Int ⊕ (Unit ⊕ Bool))} (hl : xa.length = xb.length) (hb : ∀ (k : Nat) (h : k < xa.length), body (k : Int) = some (if xa[k].2 = (xb[k]'(by omega)).2 then .inl ((k + 1 : Nat) : Int) else .inr (.inr false))) (he : body (xa.length : Int) = some (.inr (.inl ()))) :
    loop body 0 = some (if shp xa xb then .inl () else .inr false) := by
  have := loop_alike (body := body) (xa.map (·.2)) (xb.map (·.2)) (.inr false) (.inl ()) (by simp [hl]) (fun k h => by simpa using hb k (by simpa using h)) (by simpa using he)
  rw [this]; unfold shp
  by_cases h : xa.map (·.2) = xb.map (·.2) <;> simp [h]
theorem shp_len {xa xb : List St} (h : ¬ xa.length = xb.length) : shp xa xb = false := by
  unfold shp; simp only [decide_eq_false_iff_not]
  intro e; exact h (by simpa using congrArg List.length e)
theorem shp_len' {xa xb : List St} (h : shp xa xb = true) : xa.length = xb.length := by
  unfold shp at h; simpa using congrArg List.length (of_decide_eq_true h)
theorem shp_comm (xa xb : List St) : shp xa xb = shp xb xa := by unfold shp; simp only [eq_comm]
theorem Few_eq (xa : List St) (n : Int) : fn_ref15_Few xa n = some (decide ((xa.length : Int) ≤ n)) := rfl
theorem refShape_eq (xa xb : List St) (hn : xa.length ≤ 1073741824) : fn_ref15_Shape xa xb = some (shp xa xb) := by
  unfold fn_ref15_Shape
  by_cases hl : xa.length = xb.length
  · rw [dlen hl, cond_false, shp_of_loop xa xb hl ?_ ?_]
    · cases shp xa xb <;> rfl
    · intro k h; unfold fn_ref15_Shape_l1
      have h2 : k < xb.length := by omega
      by_cases q : xa[k].2 = xb[k].2 <;> simp [getN h, getN h2, h, q, w64s h (by omega), beq_dec]
    · simp [fn_ref15_Shape_l1]
  · rw [dlen' hl, cond_true, shp_len hl]
theorem rowShape_eq (xa xb : List St) (hn : xa.length ≤ 1073741824) : fn_row_Shape xa xb = some (shp xa xb) := by
  unfold fn_row_Shape fn_slices_EqualFunc_api_Slot_api_Slot_api_Slot_api_Slot_kk_row_Shape_1
  by_cases hl : xa.length = xb.length
  · rw [dlen hl, cond_false, shp_of_loop xa xb hl ?_ ?_]
    · cases shp xa xb <;> rfl
    · intro k h; unfold fn_slices_EqualFunc_api_Slot_api_Slot_api_Slot_api_Slot_kk_row_Shape_1_l1 fn_row_Shape_1
      have h2 : k < xb.length := by omega
      by_cases q : xa[k].2 = xb[k].2 <;> simp [getN h, getN h2, h, q, w64s h (by omega), beq_dec]
    · simp [fn_slices_EqualFunc_api_Slot_api_Slot_api_Slot_api_Slot_kk_row_Shape_1_l1]
  · rw [dlen' hl, cond_true, shp_len hl]; rfl
theorem rowRef_eq (xa : List St) (n : Int) (m : Bool) (hn : xa.length ≤ 1000000000) : fn_row_Ref xa n m = some ((n, false) :: xa.map fun x => (x.1, x.2 || m)) := by
  unfold fn_row_Ref
  have := loop_map xa (fun x : St => (x.1, x.2 || m)) [(n, false)] (by simp; omega) (body := fn_row_Ref_l1 xa m) (fun c i => rfl)
  rw [this]; rfl
theorem refRef_eq (xa : List St) (n : Int) (m : Bool) (hn : xa.length ≤ 1000000000) : fn_ref15_Ref xa n m = some ((n, false) :: xa.map fun x => (x.1, x.2 || m)) := by
  unfold fn_ref15_Ref
  have := loop_map xa (fun x : St => (x.1, x.2 || m)) [(n, false)] (by simp; omega) (body := fn_ref15_Ref_l1 xa m) (fun c i => by
    unfold fn_ref15_Ref_l1
    cases hg : getI xa i with
    | none => simp [hg]
    | some x => cases h2 : x.2 <;> simp [hg, h2])
  rw [this]; rfl
theorem find_cases {α : Type} (xa : List α) (t : α → Bool) : (∃ k, xa.findIdx? t = some k ∧ xa.any t = true) ∨ (xa.findIdx? t = none ∧ xa.any t = false) := by
  cases h : xa.findIdx? t with
  | none =>
    refine .inr ⟨rfl, ?_⟩
    rw [List.any_eq_false]; intro x hx; have := List.findIdx?_eq_none_iff.1 h x hx; simp [this]
  | some k =>
    obtain ⟨hk, h1, _⟩ := List.findIdx?_eq_some_iff_getElem.1 h
    exact .inl ⟨k, rfl, List.any_eq_true.2 ⟨_, List.getElem_mem hk, h1⟩⟩
def rin (n : Int) (xa : List St) : Bool := xa.any fun x => decide (x.1 < 0) || decide (n ≤ x.1)
def rck (n : Int) (xa : List St) : Int := if 16 < xa.length then 6 else if rin n xa then 7 else 0
def sbs (xb : List Int) (x : St) : St := (xb.getD x.1.toNat 0, x.2)
theorem rin_false {n : Int} {xa : List St} (h : rin n xa = false) {k : Nat} {x : St} (hx : xa[k]? = some x) : 0 ≤ x.1 ∧ x.1 < n := by
  unfold rin at h
  have := List.any_eq_false.1 h x (List.mem_of_getElem? hx)
  simp at this; omega
theorem getI_in {xb : List Int} {i : Int} (h : 0 ≤ i) (h2 : i < (xb.length : Nat)) : getI xb i = some (xb.getD i.toNat 0) := by
  unfold getI; rw [if_pos h]
  have : i.toNat < xb.length := by omega
  simp [this]
theorem rowWithin_eq (xa : List St) (n : Int) (hn : xa.length ≤ 1073741824) : fn_row_within xa n = some (!rin n xa) := by
  unfold fn_row_within fn_slices_ContainsFunc_api_Slot_api_Slot_k_row_within_1_p0_i fn_slices_IndexFunc_api_Slot_api_Slot_k_row_within_1_p0_i
  rw [loop_search (body := fn_slices_IndexFunc_api_Slot_api_Slot_k_row_within_1_p0_i_l1 xa n) xa (fun x => decide (x.1 < 0) || decide (n ≤ x.1)) (fun k => .inr (k : Int)) (.inl ()) ?_ ?_]
  · rcases find_cases xa (fun x => decide (x.1 < 0) || decide (n ≤ x.1)) with ⟨k, h1, h2⟩ | ⟨h1, h2⟩
    · rw [h1]; unfold rin; simp [h2]
    · rw [h1]; unfold rin; simp [h2]
  · intro k hk
    unfold fn_slices_IndexFunc_api_Slot_api_Slot_k_row_within_1_p0_i_l1 fn_row_within_1_ap0_i
    simp only [dlt hk, cond_true, getN hk, Option.bind_some, w64s hk (by omega : xa.length ≤ 9223372036854775807)]
    cases (decide (xa[k].1 < 0) || decide (n ≤ xa[k].1)) <;> rfl
  · simp [fn_slices_IndexFunc_api_Slot_api_Slot_k_row_within_1_p0_i_l1]
theorem rowCheck_eq (xa : List St) (n : Int) (hn : xa.length ≤ 1073741824) : fn_row_Check xa n = some (rck n xa) := by
  unfold fn_row_Check rck
  rw [rowWithin_eq xa n hn]
  by_cases h : 16 < xa.length
  · rw [decide_eq_true (by omega), if_pos h]; rfl
  · rw [decide_eq_false (by omega), if_neg h, cond_false]
    cases rin n xa <;> rfl
theorem refCheck_eq (xa : List St) (n : Int) : fn_ref15_Check xa n = some (rck n xa) := by
  unfold fn_ref15_Check rck
  by_cases h : 16 < xa.length
  · rw [decide_eq_true (by omega), if_pos h]; rfl
  · rw [decide_eq_false (by omega), if_neg h, cond_false]
    rw [loop_some (body := fn_ref15_Check_l1 xa n) xa (fun x => decide (x.1 < 0) || decide (n ≤ x.1)) (.inr 7) (.inl ()) ?_ ?_]
    · unfold rin; cases (xa.any fun x => decide (x.1 < 0) || decide (n ≤ x.1)) <;> rfl
    · intro k hk
      unfold fn_ref15_Check_l1
      by_cases q : xa[k].1 < 0 <;> by_cases q2 : n ≤ xa[k].1 <;> simp [hk, getN hk, w64s hk (by omega : xa.length ≤ 9223372036854775807), q, q2]
    · simp [fn_ref15_Check_l1]
theorem rowClone_eq (xa : List St) (hn : xa.length ≤ 1073741824) : fn_row_Clone xa = some xa := by
  unfold fn_row_Clone fn_slices_Clone_api_Slot_api_Slot
  rw [nilb_eq]
  · rw [app_eq (by simpa using hn)]; simp
  · rintro rfl; rw [app_eq (by simp)]; rfl
theorem rowSubst_eq (xa : List St) (xb : List Int) (hn : xa.length ≤ 1073741824) : fn_row_Subst xa xb = some (if rin xb.length xa then ([], 7) else (xa.map (sbs xb), 0)) := by
  unfold fn_row_Subst
  rw [rowWithin_eq xa _ hn, Option.bind_some, rowClone_eq xa hn]
  cases h : rin xb.length xa with
  | true => simp
  | false =>
    simp only [Bool.not_false, Bool.not_true, cond_false, Option.bind_some, Bool.false_eq_true, if_false]
    have hl := loop_nat (body := fn_row_Subst_l1 xb xa) (fun k : Nat => ((xa.take k).map (sbs xb) ++ xa.drop k, (k : Int))) xa.length (b := xa.map (sbs xb)) ?_ ?_
    · simp only [List.take_zero, List.map_nil, List.nil_append, List.drop_zero] at hl
      have hl' : loop (fn_row_Subst_l1 xb xa) (xa, 0) = some (xa.map (sbs xb)) := hl
      rw [hl']; rfl
    · intro k hk
      have hg : getI ((xa.take k).map (sbs xb) ++ xa.drop k) (k : Int) = some xa[k] := by
        rw [getN (by simp; omega)]
        rw [List.getElem_append_right (by simp; omega)]
        simp [List.getElem_drop, Nat.min_eq_left (Nat.le_of_lt hk)]
      have hr := rin_false h (k := k) (x := xa[k]) (by simp [hk])
      unfold fn_row_Subst_l1
      dsimp only
      rw [hg]
      simp only [Option.bind_some, getI_in hr.1 hr.2, Int.ofNat_lt.2 hk, decide_true, cond_true, w64s hk (by omega : xa.length ≤ 9223372036854775807), Int.toNat_natCast]
      congr 3
      rw [List.take_succ_eq_append_getElem hk, List.drop_eq_getElem_cons hk, List.set_append_right _ _ (by simp; omega)]
      rw [List.length_map, List.length_take, Nat.min_eq_left (Nat.le_of_lt hk), Nat.sub_self, List.set_cons_zero, List.map_append, List.append_assoc]
      rfl
    · simp [fn_row_Subst_l1]
theorem refSubst_eq (xa : List St) (xb : List Int) (hn : xa.length ≤ 1073741824) : fn_ref15_Subst xa xb = some (if rin xb.length xa then ([], 7) else (xa.map (sbs xb), 0)) := by
  unfold fn_ref15_Subst
  have hl := loop_find (body := fn_ref15_Subst_l1 xa xb)
    (fun k => ∃ x, xa[k]? = some x ∧ (x.1 < 0 ∨ (xb.length : Int) ≤ x.1)) (fun k : Nat => ((xa.take k).map (sbs xb), (k : Int))) xa.length (fun _ => .inr ([], 7)) (.inl (xa.map (sbs xb))) ?_ ?_ ?_
  · simp only [List.take_zero, List.map_nil] at hl
    rcases hl with ⟨k, h1, ⟨x, h2, h2'⟩, _, h3⟩ | ⟨h1, h3⟩
    · have : rin xb.length xa = true := List.any_eq_true.2 ⟨x, List.mem_of_getElem? h2, by simpa using h2'⟩
      rw [this]; erw [h3]; rfl
    · have : rin xb.length xa = false := by
        cases hh : rin xb.length xa with
        | false => rfl
        | true =>
          obtain ⟨x, h4, h5⟩ := List.any_eq_true.1 hh
          obtain ⟨k, h6, rfl⟩ := List.getElem_of_mem h4
          exact absurd ⟨xa[k], by simp [h6], by simpa using h5⟩ (h1 k h6)
      rw [this]; erw [h3]; rfl
  · intro k hk hp
    have hx : ¬ (xa[k].1 < 0 ∨ (xb.length : Int) ≤ xa[k].1) := fun h => hp ⟨_, by simp [hk], h⟩
    have h1 : ((decide (xa[k].1 < 0)) || (decide (((xb.length : Nat) : Int) ≤ xa[k].1))) = false := by simp; omega
    have ha := app_eq (a := (xa.take k).map (sbs xb)) (b := [sbs xb xa[k]]) (by simp; omega)
    have h5 : getI xb xa[k].1 = some (xb.getD xa[k].1.toNat 0) := getI_in (by omega) (by omega)
    unfold fn_ref15_Subst_l1
    dsimp only
    simp only [Option.bind_some, getN hk, h1, cond_false, h5, Int.ofNat_lt.2 hk, decide_true, cond_true, w64s hk (by omega : xa.length ≤ 9223372036854775807)]
    rw [show app ((xa.take k).map (sbs xb)) [(xb.getD xa[k].1.toNat 0, xa[k].2)] = _ from ha, List.take_succ_eq_append_getElem hk, List.map_append]
    rfl
  · rintro k hk ⟨x, h1, h2⟩
    have hx : xa[k] = x := by rw [List.getElem?_eq_getElem hk] at h1; exact Option.some.inj h1
    have h1 : ((decide (xa[k].1 < 0)) || (decide (((xb.length : Nat) : Int) ≤ xa[k].1))) = true := by rw [hx]; simpa using h2
    unfold fn_ref15_Subst_l1
    dsimp only
    simp only [Option.bind_some, getN hk, h1, cond_true, Int.ofNat_lt.2 hk, decide_true]
  · simp [fn_ref15_Subst_l1]
end Go.Proofs.Ytkpdfepjanfmbaa
namespace Go.Proofs.Ytkpdfepjanfmbaa
open Go.RowKit
set_option linter.unusedVariables false
set_option linter.unnecessarySimpa false
set_option linter.unusedSimpArgs false
abbrev Nd := Int × Int × Int × Int × Bool
/-- What slots need, place by place. -/
def rel1 (kind f : Int) (x y : St) : List Nd := (x.1, y.1, kind, f, false) :: if y.2 then [(y.1, x.1, kind, f, true)] else []
def rel (kind f : Int) : List St → List St → List Nd
  | x :: xs, y :: ys => rel1 kind f x y ++ rel kind (f + 1) xs ys
  | _, _ => []
theorem rel_snoc (kind : Int) (x y : St) : ∀ (xs ys : List St) (f : Int), xs.length = ys.length → rel kind f (xs ++ [x]) (ys ++ [y]) = rel kind f xs ys ++ rel1 kind (f + xs.length) x y
  | [], [], f, _ => by simp [rel]
  | [], _ :: _, f, h => by simp at h
  | _ :: _, [], f, h => by simp at h
  | a :: xs, b :: ys, f, h => by
    simp only [List.cons_append, rel, rel_snoc kind x y xs ys (f + 1) (by simpa using h), List.append_assoc, List.length_cons]
    rw [show f + 1 + (xs.length : Int) = f + ((xs.length + 1 : Nat) : Int) by omega]
theorem rel_len (kind : Int) (xs ys : List St) (f : Int) : (rel kind f xs ys).length ≤ 2 * xs.length := by
  induction xs generalizing ys f with
  | nil => simp [rel]
  | cons a xs ih => cases ys with
    | nil => simp [rel]
    | cons b ys =>
      have := ih ys (f + 1)
      cases hb : b.2 <;> simp [rel, rel1, hb] <;> omega
theorem related_eq (xa xb : List St) (kind f : Int) (hl : xa.length = xb.length) (hn : xa.length ≤ 30) (hf : -9223372036854775808 ≤ f) (hf2 : f ≤ 1099511627776) (c : List Nd) (hc : c.length ≤ 10) :
    fn_ref16_slots_rkkii xa xb kind f c = some (c ++ rel kind f xa xb) := by
  unfold fn_ref16_slots_rkkii
  have h := loop_carry (body := fn_ref16_slots_rkkii_l1 xa xb kind f) xa (fun k => c ++ rel kind f (xa.take k) (xb.take k)) (c ++ rel kind f xa xb) ?_ ?_
  · simp only [List.take_zero, rel, List.append_nil] at h
    rw [h]; rfl
  · intro k h
    have h2 : k < xb.length := by omega
    have hlen := rel_len kind (xa.take k) (xb.take k) f
    simp only [List.length_take] at hlen
    have hw : IntKind.wrap .i64 (f + (k : Int)) = f + k := w64 (by omega) (by omega)
    unfold fn_ref16_slots_rkkii_l1
    rw [take_snoc h, take_snoc h2, rel_snoc _ _ _ _ _ _ (by simp; omega)]
    have e : (xa.take k).length = k := by simp; omega
    rw [e]
    cases hb : xb[k].2 with
    | true =>
      simp [getN h, getN h2, h, hb, w64s h (by omega), hw, rel1]
      rw [app_eq (by simp; omega)]
      simp
      rw [app_eq (by simp; omega)]
      simp
    | false =>
      simp [getN h, getN h2, h, hb, w64s h (by omega), hw, rel1]
      rw [app_eq (by simp; omega)]
      simp
  · have e : xb.take xa.length = xb := by rw [hl, List.take_length]
    simp [fn_ref16_slots_rkkii_l1, e]
theorem related_slots (xa xb : List St) (kind f : Int) : fn_relate_related xa xb kind f = fn_ref16_slots_rkkii xa xb kind f [] := rfl
theorem relFlow_eq (xa xb : List St) (kind f : Int) (hn : xa.length ≤ 30) (hf : -9223372036854775808 ≤ f) (hf2 : f ≤ 1099511627776) : fn_relate_Flow xa xb kind f = some (if shp xa xb then (rel kind f xa xb, 0) else ([], 8)) := by
  unfold fn_relate_Flow
  rw [rowShape_eq _ _ (by omega), Option.bind_some]
  cases hs : shp xa xb with
  | false => rfl
  | true => rw [Bool.not_true, cond_false, related_slots, related_eq xa xb kind f (shp_len' hs) hn hf hf2 [] (by simp)]; simp
theorem refFlow_eq (xa xb : List St) (kind f : Int) (hn : xa.length ≤ 30) (hf : -9223372036854775808 ≤ f) (hf2 : f ≤ 1099511627776) : fn_ref16_Flow xa xb kind f = some (if shp xa xb then (rel kind f xa xb, 0) else ([], 8)) := by
  unfold fn_ref16_Flow
  rw [refShape_eq _ _ (by omega), Option.bind_some]
  cases hs : shp xa xb with
  | false => rfl
  | true => rw [Bool.not_true, cond_false, related_eq xa xb kind f (shp_len' hs) hn hf hf2 [] (by simp)]; simp
def lo (n : Int) (m : Bool) (xa xb : List St) : List Nd × Int :=
  if shp ((n, false) :: xa.map fun x => (x.1, x.2 || m)) xb then ((n, (xb.head?.getD (0, false)).1, 2, 0, false) :: rel 1 1 xa (xb.drop 1), 0) else ([], 8)
theorem lo_len {n : Int} {m : Bool} {xa xb : List St} (h : shp ((n, false) :: xa.map fun x => (x.1, x.2 || m)) xb = true) : xb.length = xa.length + 1 := by
  have := shp_len' h; simp at this; omega
theorem relLoan_eq (xa xb : List St) (n : Int) (m : Bool) (hn : xa.length ≤ 30) : fn_relate_Loan xa xb n m = some (lo n m xa xb) := by
  unfold fn_relate_Loan lo
  rw [rowRef_eq _ _ _ (by omega), Option.bind_some, shp_comm]
  by_cases hb : xb.length ≤ 1000
  · rw [rowShape_eq _ _ (by omega), Option.bind_some]
    cases hs : shp xb ((n, false) :: xa.map fun x => (x.1, x.2 || m)) with
    | false => rfl
    | true =>
      have hl := lo_len (by rw [shp_comm]; exact hs)
      cases xb with
      | nil => simp at hl
      | cons y ys =>
        have hl2 : xa.length = ys.length := by simpa using hl.symm
        rw [Bool.not_true, cond_false, show getI (y :: ys) 0 = some y from rfl, Option.bind_some, sub1 (by simp), Option.bind_some, related_slots, related_eq _ _ _ _ (by simpa using hl2) hn (by omega) (by omega) _ (by simp)]
        have := rel_len 1 xa ys 1
        simp only [List.nil_append, Option.bind_some, List.drop_succ_cons, List.drop_zero]
        rw [app_eq (by simp; omega)]
        simp
  · have hs : shp xb ((n, false) :: xa.map fun x => (x.1, x.2 || m)) = false := shp_len (by simp; omega)
    unfold fn_row_Shape fn_slices_EqualFunc_api_Slot_api_Slot_api_Slot_api_Slot_kk_row_Shape_1
    rw [dlen' (by simp; omega), cond_true, hs]; rfl
theorem refLoan_eq (xa xb : List St) (n : Int) (m : Bool) (hn : xa.length ≤ 30) : fn_ref16_Loan xa xb n m = some (lo n m xa xb) := by
  unfold fn_ref16_Loan lo
  rw [refRef_eq _ _ _ (by omega), Option.bind_some, refShape_eq _ _ (by simp; omega), Option.bind_some]
  cases hs : shp ((n, false) :: xa.map fun x => (x.1, x.2 || m)) xb with
  | false => rfl
  | true =>
    have hl := lo_len hs
    cases xb with
    | nil => simp at hl
    | cons y ys =>
      have hl2 : xa.length = ys.length := by simpa using hl.symm
      rw [Bool.not_true, cond_false, show getI (y :: ys) 0 = some y from rfl, Option.bind_some, sub1 (by simp), Option.bind_some, related_eq _ _ _ _ (by simpa using hl2) hn (by omega) (by omega) _ (by simp)]
      simp
def ag (n : Int) (m : Bool) (xa xb : List St) : List Nd × Int :=
  match xa, xb with
  | x :: xs, y :: ys => if x.2 || !shp (x :: xs) (y :: ys) || (m && xs.any (fun z => !z.2)) then ([], 8) else ((x.1, n, 3, 0, false) :: (n, y.1, 2, 0, false) :: rel 1 1 xs ys, 0)
  | _, _ => ([], 8)
theorem may_eq (xa xb : List St) (m : Bool) (hn : xa.length ≤ 30) : fn_relate_mayBorrowAgain xa xb m = some (match xa with | [] => false | x :: xs => !(x.2 || !shp xa xb || (m && xs.any (fun z => !z.2)))) := by
  unfold fn_relate_mayBorrowAgain
  cases xa with
  | nil => rfl
  | cons x xs =>
    have e0 : decide ((((x :: xs).length : Nat) : Int) = 0) = false := by simp; omega
    rw [e0, cond_false, show getI (x :: xs) 0 = some x from rfl, Option.bind_some, Option.bind_some]
    cases hx : x.2 with
    | true => simp [hx]
    | false =>
      rw [cond_false, rowShape_eq _ _ (by omega), Option.bind_some, Option.bind_some]
      cases hs : shp (x :: xs) xb with
      | false => simp
      | true =>
        rw [Bool.not_true, cond_false, sub1 (by simp), Option.bind_some]
        unfold fn_slices_ContainsFunc_api_Slot_api_Slot_k_relate_mayBorrowAgain_1 fn_slices_IndexFunc_api_Slot_api_Slot_k_relate_mayBorrowAgain_1
        rw [loop_search (List.drop 1 (x :: xs)) (fun z : St => !z.2) (fun k => .inr (k : Int)) (.inl ()) ?_ ?_]
        · simp only [List.drop_succ_cons, List.drop_zero]
          cases h : xs.findIdx? (fun z : St => !z.2) with
          | none =>
            have : xs.any (fun z : St => !z.2) = false := by
              rw [List.any_eq_false]; intro z hz; have := List.findIdx?_eq_none_iff.1 h z hz; simpa using this
            simp [this, hx]
          | some k =>
            obtain ⟨hk, h1, _⟩ := List.findIdx?_eq_some_iff_getElem.1 h
            have : xs.any (fun z : St => !z.2) = true := List.any_eq_true.2 ⟨_, List.getElem_mem hk, h1⟩
            simp [this, hx]
        · intro k h
          unfold fn_slices_IndexFunc_api_Slot_api_Slot_k_relate_mayBorrowAgain_1_l1 fn_relate_mayBorrowAgain_1
          simp only [List.drop_succ_cons, List.drop_zero] at h ⊢
          have hn' : xs.length ≤ 30 := by simp at hn; omega
          cases hz : xs[k].2 <;> simp [getN h, h, w64s h (by omega), hz]
        · simp [fn_slices_IndexFunc_api_Slot_api_Slot_k_relate_mayBorrowAgain_1_l1]
theorem relAgain_eq (xa xb : List St) (n : Int) (m : Bool) (hn : xa.length ≤ 30) : fn_relate_Again xa xb n m = some (ag n m xa xb) := by
  unfold fn_relate_Again
  rw [may_eq _ _ _ hn, Option.bind_some]
  cases xa with
  | nil => rfl
  | cons x xs =>
    simp only [ag, Bool.not_not]
    by_cases hc : (x.2 || !shp (x :: xs) xb || (m && xs.any (fun z => !z.2))) = true
    · rw [hc]; cases xb <;> simp_all
    · have hc' : (x.2 || !shp (x :: xs) xb || (m && xs.any (fun z => !z.2))) = false := by simpa using hc
      have hs : shp (x :: xs) xb = true := by
        cases q : shp (x :: xs) xb with
        | true => rfl
        | false => rw [q] at hc'; simp at hc'
      have hl := shp_len' hs
      cases xb with
      | nil => simp at hl
      | cons y ys =>
        simp only [hc', cond_false, if_false, show getI (x :: xs) 0 = some x from rfl, show getI (y :: ys) 0 = some y from rfl, Option.bind_some, sub1 (show 1 ≤ (x :: xs).length by simp), sub1 (show 1 ≤ (y :: ys).length by simp), List.drop_succ_cons, List.drop_zero, Bool.false_eq_true]
        have hl2 : xs.length = ys.length := by simpa using hl
        rw [related_slots, related_eq _ _ _ _ hl2 (by simp at hn; omega) (by omega) (by omega) _ (by simp), Option.bind_some]
        have := rel_len 1 xs ys 1
        simp at hn
        rw [app_eq (by simp; omega)]
        simp
theorem refAgain_eq (xa xb : List St) (n : Int) (m : Bool) (hn : xa.length ≤ 30) : fn_ref16_Again xa xb n m = some (ag n m xa xb) := by
  unfold fn_ref16_Again
  cases xa with
  | nil => rfl
  | cons x xs =>
    have e0 : decide ((((x :: xs).length : Nat) : Int) = 0) = false := by simp; omega
    rw [e0, cond_false, refShape_eq _ _ (by omega), Option.bind_some, Option.bind_some]
    cases hs : shp (x :: xs) xb with
    | false => cases xb <;> simp [ag, hs]
    | true =>
      have hl := shp_len' hs
      cases xb with
      | nil => simp at hl
      | cons y ys =>
        have hl2 : xs.length = ys.length := by simpa using hl
        simp only [Bool.not_true, cond_false, show getI (x :: xs) 0 = some x from rfl, show getI (y :: ys) 0 = some y from rfl, Option.bind_some]
        cases hx : x.2 with
        | true => simp [ag, hx]
        | false =>
          have hn' : xs.length ≤ 29 := by simp at hn; omega
          have hloop : loop (fn_ref16_Again_l1 (x :: xs) m) 1 = some (if (m && xs.any (fun z => !z.2)) then .inr ([], 8) else .inl ()) := by
            have := loop_any (body := fn_ref16_Again_l1 (x :: xs) m) (fun k => (m && (xs[k]?.any (fun z => !z.2))) = true) (fun k => ((k + 1 : Nat) : Int)) xs.length (.inr ([], 8)) (.inl ()) ?_ ?_ ?_
            · rw [show ((1 : Int)) = ((0 + 1 : Nat) : Int) from rfl, this]
              congr 1
              by_cases hq : (m && xs.any (fun z => !z.2)) = true
              · rw [if_pos hq, if_pos]
                simp only [Bool.and_eq_true] at hq
                obtain ⟨z, hz, hz2⟩ := List.any_eq_true.1 hq.2
                obtain ⟨k, hk, rfl⟩ := List.getElem_of_mem hz
                exact ⟨k, hk, by simp [hq.1, hk]; simpa using hz2⟩
              · rw [if_neg hq, if_neg]
                rintro ⟨k, hk, hk2⟩
                apply hq
                simp [hk] at hk2
                rw [hk2.1, Bool.true_and]
                exact List.any_eq_true.2 ⟨_, List.getElem_mem hk, by simpa using hk2.2⟩
            · intro k hk hp
              have h2 : k + 1 < (x :: xs).length := by simp; omega
              simp [hk] at hp
              unfold fn_ref16_Again_l1
              rw [dlt h2, cond_true, w64s h2 (by simp; omega)]
              cases m with
              | false => simp
              | true => simp [getN1 h2, hp rfl]
            · intro k hk hp
              have h2 : k + 1 < (x :: xs).length := by simp; omega
              simp [hk] at hp
              unfold fn_ref16_Again_l1
              rw [dlt h2, cond_true]
              simp [getN1 h2, hp.1, hp.2]
            · simp [fn_ref16_Again_l1]
          rw [hloop]
          by_cases hq : (m && xs.any (fun z => !z.2)) = true
          · simp [ag, hx, hs, hq]
          · have hq' : (m && xs.any (fun z => !z.2)) = false := by simpa using hq
            rw [hq']
            simp only [cond_false, Option.bind_some, if_false, sub1 (show 1 ≤ (x :: xs).length by simp), sub1 (show 1 ≤ (y :: ys).length by simp), List.drop_succ_cons, List.drop_zero, Bool.false_eq_true]
            rw [related_eq _ _ _ _ hl2 (by omega) (by omega) (by omega) _ (by simp)]
            simp [ag, hx, hs, hq']
theorem lo_bound (n : Int) (m : Bool) (xa xb : List St) (h : xa.length ≤ 30) : (lo n m xa xb).1.length ≤ 100 := by
  unfold lo
  have := rel_len 1 xa (xb.drop 1) 1
  simp at this
  split <;> simp; omega
theorem ag_bound (n : Int) (m : Bool) (xa xb : List St) (h : xa.length ≤ 30) : (ag n m xa xb).1.length ≤ 100 := by
  unfold ag
  split
  · rename_i x xs y ys
    have := rel_len 1 xs ys 1
    simp at h
    split <;> simp; omega
  · simp
end Go.Proofs.Ytkpdfepjanfmbaa
namespace Go.Proofs.Ytkpdfepjanfmbaa
open Go.RowKit
set_option linter.unusedVariables false
set_option linter.unnecessarySimpa false
set_option linter.unusedSimpArgs false
abbrev Sg := Int × List (Int × Int) × List (List St) × List St
theorem loop_some_st {α σ β : Type} {body : σ → Option (σ ⊕ β)} (xa : List α) (t : α → Bool) (st : Nat → σ) (hit e : β) (hb : ∀ (k : Nat) (h : k < xa.length), body (st k) = some (if t xa[k] then .inr hit else .inl (st (k + 1)))) (he : body (st xa.length) = some (.inr e)) :
    loop body (st 0) = some (if xa.any t then hit else e) := by
  have hl := loop_find (body := body) (fun k => ∃ h : k < xa.length, t xa[k] = true) st xa.length (fun _ => hit) e (fun k hk hp => by rw [hb k hk, if_neg (fun h => hp ⟨hk, h⟩)]) (fun k hk ⟨_, hp⟩ => by rw [hb k hk, if_pos hp]) he
  rcases hl with ⟨k, h1, ⟨h2, h3⟩, _, h4⟩ | ⟨h1, h2⟩
  · have : xa.any t = true := List.any_eq_true.2 ⟨_, List.getElem_mem h1, h3⟩
    rw [h4, this]; rfl
  · have : xa.any t = false := by
      rw [List.any_eq_false]
      intro x hx hc
      obtain ⟨k, hk, rfl⟩ := List.getElem_of_mem hx
      exact h1 k hk ⟨hk, hc⟩
    rw [h2, this]; rfl
def bad1 (n : Int) (b : Int × Int) : Bool := (((decide (b.1 < 0)) || (decide (n ≤ b.1))) || (decide (b.2 < 0))) || (decide (n ≤ b.2))
def lc (n : Int) (A : List (List St)) : Unit ⊕ Int := match A.findIdx? (fun t => !decide (rck n t = 0)) with | some k => .inr (rck n (A.getD k [])) | none => .inl ()
def chk (s : Sg) : Int :=
  if s.1 < 0 then 7 else if 16 < s.1 ∨ 16 < s.2.1.length ∨ 16 < s.2.2.1.length then 6 else if s.2.1.any (bad1 s.1) then 7
  else match lc s.1 s.2.2.1 with | .inr e => e | .inl () => rck s.1 s.2.2.2
theorem three16 (a : Int) (b c : Nat) : (((decide (16 < a)) || (decide (16 < ((b : Nat) : Int)))) || (decide (16 < ((c : Nat) : Int)))) = decide (16 < a ∨ 16 < b ∨ 16 < c) := by
  by_cases h1 : 16 < a <;> by_cases h2 : 16 < b <;> by_cases h3 : 16 < c <;> simp [h1, h2, h3] <;> omega
theorem argsl {n : Int} {A : List (List St)} {body : Int → Option (Int ⊕ (Unit ⊕ Int))} (hn : A.length ≤ 1000) (hb : ∀ (k : Nat) (h : k < A.length), body (k : Int) = cond (!decide (rck n A[k] = 0)) (some (.inr (.inr (rck n A[k])))) (some (.inl (IntKind.wrap .i64 ((k : Int) + 1))))) (he : body (A.length : Int) = some (.inr (.inl ()))) : loop body 0 = some (lc n A) := by
  rw [loop_search A (fun t => !decide (rck n t = 0)) (fun k => .inr (rck n (A.getD k []))) (.inl ()) ?_ he]
  · rfl
  · intro k hk
    rw [hb k hk, w64s hk (by omega : A.length ≤ 9223372036854775807)]
    have : A.getD k [] = A[k] := by simp [List.getD, hk]
    rw [this]
    cases (!decide (rck n A[k] = 0)) <;> rfl
theorem sigCheck_eq (s : Sg) (hr : s.2.2.2.length ≤ 1000) (ha : ∀ t ∈ s.2.2.1, t.length ≤ 1000) : fn_sig_Check s = some (chk s) := by
  obtain ⟨n, B, A, R⟩ := s
  unfold fn_sig_Check chk
  dsimp only at *
  by_cases h0 : n < 0
  · rw [decide_eq_true h0, if_pos h0]; rfl
  · rw [decide_eq_false h0, if_neg h0, cond_false, three16]
    by_cases h1 : 16 < n ∨ 16 < B.length ∨ 16 < A.length
    · rw [decide_eq_true h1, if_pos h1]; rfl
    · rw [decide_eq_false h1, if_neg h1, cond_false]
      rw [loop_some (body := fn_sig_Check_l1 (n, B, A, R)) B (bad1 n) (.inr 7) (.inl ()) ?_ ?_]
      · cases hb : B.any (bad1 n) with
        | true => rfl
        | false =>
          simp only [Bool.false_eq_true, if_false, Option.bind_some]
          rw [argsl (body := fn_sig_Check_l2 (n, B, A, R)) (n := n) (A := A) (by omega) ?_ ?_]
          · rw [rowCheck_eq R n (by omega)]
            simp only [Option.bind_some]
            cases lc n A <;> rfl
          · intro k hk
            unfold fn_sig_Check_l2
            have := ha A[k] (List.getElem_mem hk)
            simp only [dlt hk, cond_true, getN hk, Option.bind_some]
            rw [rowCheck_eq _ _ (by omega), Option.bind_some]
          · simp [fn_sig_Check_l2]
      · intro k hk
        unfold fn_sig_Check_l1 fn_sig_Check_1_ip0_ikkk
        simp only [dlt hk, cond_true, getN hk, Option.bind_some, w64s hk (by omega : B.length ≤ 9223372036854775807)]
        generalize B[k] = b
        obtain ⟨b1, b2⟩ := b
        have e (x : Int) : (!((decide (0 ≤ x)) && (decide (x < n)))) = (decide (x < 0) || decide (n ≤ x)) := by
          by_cases p : x < 0 <;> by_cases q : n ≤ x <;> simp [p, q] <;> omega
        simp only [e, bad1]
        by_cases p1 : b1 < 0 <;> by_cases p2 : n ≤ b1 <;> by_cases p3 : b2 < 0 <;> by_cases p4 : n ≤ b2 <;> simp [p1, p2, p3, p4]
      · simp [fn_sig_Check_l1]
theorem refSCheck_eq (s : Sg) : fn_ref17_Check s = some (chk s) := by
  obtain ⟨n, B, A, R⟩ := s
  unfold fn_ref17_Check chk
  dsimp only at *
  by_cases h0 : n < 0
  · rw [decide_eq_true h0, if_pos h0]; rfl
  · rw [decide_eq_false h0, if_neg h0, cond_false, three16]
    by_cases h1 : 16 < n ∨ 16 < B.length ∨ 16 < A.length
    · rw [decide_eq_true h1, if_pos h1]; rfl
    · rw [decide_eq_false h1, if_neg h1, cond_false]
      rw [loop_some (body := fn_ref17_Check_l1 (n, B, A, R)) B (bad1 n) (.inr 7) (.inl ()) ?_ ?_]
      · cases hb : B.any (bad1 n) with
        | true => rfl
        | false =>
          simp only [Bool.false_eq_true, if_false, Option.bind_some]
          rw [argsl (body := fn_ref17_Check_l2 (n, B, A, R)) (n := n) (A := A) (by omega) ?_ ?_]
          · rw [refCheck_eq R n]
            simp only [Option.bind_some]
            cases lc n A <;> rfl
          · intro k hk
            unfold fn_ref17_Check_l2
            simp only [dlt hk, cond_true, getN hk, Option.bind_some]
            rw [refCheck_eq _ _, Option.bind_some]
          · simp [fn_ref17_Check_l2]
      · intro k hk
        unfold fn_ref17_Check_l1
        simp only [dlt hk, cond_true, getN hk, Option.bind_some, w64s hk (by omega : B.length ≤ 9223372036854775807)]
        generalize B[k] = b
        show cond (bad1 n b) _ _ = _
        cases bad1 n b <;> rfl
      · simp [fn_ref17_Check_l1]
theorem rck_zero {n : Int} {t : List St} (h : rck n t = 0) : t.length ≤ 16 ∧ rin n t = false := by
  unfold rck at h
  by_cases q : 16 < t.length
  · rw [if_pos q] at h; cases h
  · rw [if_neg q] at h
    cases hr : rin n t with
    | true => rw [hr] at h; cases h
    | false => exact ⟨by omega, rfl⟩
theorem chk_zero {s : Sg} (h : chk s = 0) : 0 ≤ s.1 ∧ s.1 ≤ 16 ∧ s.2.1.length ≤ 16 ∧ s.2.2.1.length ≤ 16 ∧ (∀ b ∈ s.2.1, bad1 s.1 b = false) ∧ (∀ t ∈ s.2.2.1, t.length ≤ 16 ∧ rin s.1 t = false) ∧ s.2.2.2.length ≤ 16 ∧ rin s.1 s.2.2.2 = false := by
  unfold chk at h
  by_cases h0 : s.1 < 0
  · rw [if_pos h0] at h; cases h
  · rw [if_neg h0] at h
    by_cases h1 : 16 < s.1 ∨ 16 < s.2.1.length ∨ 16 < s.2.2.1.length
    · rw [if_pos h1] at h; cases h
    · rw [if_neg h1] at h
      cases hb : s.2.1.any (bad1 s.1) with
      | true => rw [hb] at h; cases h
      | false =>
        rw [hb] at h
        simp only [Bool.false_eq_true, if_false] at h
        unfold lc at h
        cases hf : s.2.2.1.findIdx? (fun t => !decide (rck s.1 t = 0)) with
        | some k =>
          rw [hf] at h
          obtain ⟨hk, h2, _⟩ := List.findIdx?_eq_some_iff_getElem.1 hf
          have : s.2.2.1.getD k [] = s.2.2.1[k] := by simp [List.getD, hk]
          simp only [this] at h
          simp [h] at h2
        | none =>
          rw [hf] at h
          have hz := List.findIdx?_eq_none_iff.1 hf
          refine ⟨by omega, by omega, by omega, by omega, fun b hb2 => ?_, fun t ht => rck_zero (by simpa using hz t ht), (rck_zero h).1, (rck_zero h).2⟩
          have := List.any_eq_false.1 hb b hb2
          simpa using this
theorem shp_sbs (names : List Int) (xs ys : List St) : shp xs (ys.map (sbs names)) = shp xs ys := by
  unfold shp; rw [List.map_map]; rfl
theorem shp_sbs2 (names : List Int) (xs ys : List St) : shp (xs.map (sbs names)) ys = shp xs ys := by
  rw [shp_comm, shp_sbs, shp_comm]
def mis (A C : List (List St)) (k : Nat) : Bool := !shp (C.getD k []) (A.getD k [])
def fl (names : List Int) (A C : List (List St)) (j : Nat) : List Nd := rel 5 (16 * (j : Int)) (C.getD j []) ((A.getD j []).map (sbs names))
def fls (names : List Int) (A C : List (List St)) : Nat → List Nd
  | 0 => []
  | k + 1 => fls names A C k ++ fl names A C k
theorem fls_len (names : List Int) (A C : List (List St)) (hc : ∀ t ∈ C, t.length ≤ 20) : ∀ k, (fls names A C k).length ≤ 40 * k
  | 0 => by simp [fls]
  | k + 1 => by
    have ih := fls_len names A C hc k
    have h1 := rel_len 5 (C.getD k []) ((A.getD k []).map (sbs names)) (16 * (k : Int))
    have h2 : (C.getD k []).length ≤ 20 := by
      by_cases h : k < C.length
      · have : C.getD k [] = C[k] := by simp [List.getD, h]
        rw [this]; exact hc _ (List.getElem_mem h)
      · have : C.getD k [] = [] := by simp [List.getD, List.getElem?_eq_none (Nat.not_lt.1 h)]
        rw [this]; simp
    simp only [fls, List.length_append, fl]
    omega
def bds (names : List Int) (B : List (Int × Int)) : Nat → List Nd
  | 0 => []
  | k + 1 => bds names B k ++ [(names.getD (B.getD k (0, 0)).1.toNat 0, names.getD (B.getD k (0, 0)).2.toNat 0, 4, (k : Int), false)]
theorem bds_len (names : List Int) (B : List (Int × Int)) : ∀ k, (bds names B k).length = k
  | 0 => rfl
  | k + 1 => by simp [bds, bds_len names B k]
def csp (s : Sg) (names : List Int) (C : List (List St)) (D : List St) : List Nd × Int :=
  if chk s ≠ 0 then ([], chk s)
  else if ¬ (names.length : Int) = s.1 ∨ ¬ C.length = s.2.2.1.length then ([], 2)
  else if (List.range s.2.2.1.length).any (mis s.2.2.1 C) then ([], 8)
  else if shp D s.2.2.2 then (bds names s.2.1 s.2.1.length ++ fls names s.2.2.1 C s.2.2.1.length ++ rel 6 0 (s.2.2.2.map (sbs names)) D, 0) else ([], 8)
theorem bounds_loop {names : List Int} {n : Int} {B : List (Int × Int)} {body : (List Nd × Int) → Option ((List Nd × Int) ⊕ List Nd)} (hB : B.length ≤ 16) (hn : (names.length : Int) = n) (hb : ∀ b ∈ B, bad1 n b = false)
    (hgo : ∀ (l : List Nd) (k : Nat) (h : k < B.length), body (l, (k : Int)) = ((getI names B[k].1).bind fun x => (getI names B[k].2).bind fun y => (app l [(x, y, 4, (k : Int), false)]).bind fun z => some (.inl (z, IntKind.wrap .i64 ((k : Int) + 1))))) (he : ∀ l, body (l, (B.length : Int)) = some (.inr l)) :
    loop body ([], 0) = some (bds names B B.length) := by
  refine loop_nat (body := body) (fun k => (bds names B k, (k : Int))) B.length ?_ (he _)
  intro k hk
  have h1 := hb B[k] (List.getElem_mem hk)
  have e : B.getD k (0, 0) = B[k] := by simp [List.getD, hk]
  unfold bad1 at h1
  simp at h1
  rw [hgo _ k hk, getI_in (by omega) (by omega), Option.bind_some, getI_in (by omega) (by omega), Option.bind_some, app_eq (by simp [bds_len]; omega), Option.bind_some, w64s hk (by omega)]
  simp only [bds, e]
theorem rin_len {names : List Int} {n : Int} {t : List St} (hn : (names.length : Int) = n) (h : rin n t = false) : rin names.length t = false := by rw [hn]; exact h
theorem sigCall_eq (s : Sg) (names : List Int) (C : List (List St)) (D : List St) (hr : s.2.2.2.length ≤ 20) (ha : ∀ t ∈ s.2.2.1, t.length ≤ 20) (hC : ∀ t ∈ C, t.length ≤ 20) (hD : D.length ≤ 20) :
    fn_sig_Call s names C D = some (csp s names C D) := by
  have hck := sigCheck_eq s (by omega) (fun t ht => by have := ha t ht; omega)
  unfold fn_sig_Call fn_sig_callable csp
  rw [show fn_sig_Check (s.1, s.2.1, s.2.2.1, s.2.2.2) = some (chk s) from hck]
  obtain ⟨n, B, A, R⟩ := s
  dsimp only at *
  by_cases h0 : chk (n, B, A, R) = 0
  · obtain ⟨n0, n1, hB, hA, hb, hat, hR, hrin⟩ := chk_zero h0
    dsimp only at n0 n1 hB hA hb hat hR hrin
    simp only [h0, Option.bind_some, decide_true, Bool.not_true, cond_false, ne_eq, not_true_eq_false, if_false]
    by_cases h1 : ¬ (names.length : Int) = n ∨ ¬ C.length = A.length
    · have : ((!decide ((((names.length : Nat) : Int)) = n)) || (!decide ((((C.length : Nat) : Int)) = (((A.length : Nat) : Int))))) = true := by simp; omega
      rw [this, if_pos h1]; rfl
    · have : ((!decide ((((names.length : Nat) : Int)) = n)) || (!decide ((((C.length : Nat) : Int)) = (((A.length : Nat) : Int))))) = false := by simp; omega
      rw [this, if_neg h1, cond_false]
      have hn : (names.length : Int) = n := by omega
      have hl : C.length = A.length := by omega
      rw [loop_some (body := fn_sig_callable_l1 (n, B, A, R) C) (List.range A.length) (mis A C) (.inr 8) (.inl ()) ?_ ?_]
      · cases hm : (List.range A.length).any (mis A C) with
        | true => rfl
        | false =>
          simp only [Bool.false_eq_true, if_false, Option.bind_some]
          rw [rowShape_eq D R (by omega)]
          cases hs : shp D R with
          | false => rfl
          | true =>
            simp only [Option.bind_some, Bool.not_true, cond_false, decide_true, if_true]
            rw [bounds_loop (body := fn_sig_Call_l1 (n, B, A, R) names) hB hn hb ?_ ?_]
            · simp only [Option.bind_some]
              have hfl := loop_nat (body := fn_sig_Call_l2 (n, B, A, R) names C) (fun k => (bds names B B.length ++ fls names A C k, (k : Int))) A.length (b := bds names B B.length ++ fls names A C A.length) ?_ ?_
              · have hfl' : loop (fn_sig_Call_l2 (n, B, A, R) names C) (bds names B B.length, 0) = some (bds names B B.length ++ fls names A C A.length) := by
                  have e0 : (bds names B B.length, (0 : Int)) = (bds names B B.length ++ fls names A C 0, ((0 : Nat) : Int)) := by simp [fls]
                  rw [e0]; exact hfl
                have q1 := fls_len names A C hC A.length
                have q2 := bds_len names B B.length
                have q3 := rel_len 6 (R.map (sbs names)) D 0
                rw [List.length_map] at q3
                rw [hfl', Option.bind_some, rowSubst_eq R names (by omega), rin_len hn hrin]
                simp only [Bool.false_eq_true, if_false, Option.bind_some]
                rw [relFlow_eq _ _ _ _ (by simp; omega) (by omega) (by omega), shp_sbs2, shp_comm, hs]
                simp only [if_true, Option.bind_some]
                rw [app_eq (by simp only [List.length_append]; omega)]
                rfl
              · intro k hk
                have hkC : k < C.length := by omega
                have ht := hat A[k] (List.getElem_mem hk)
                have hc := hC C[k] (List.getElem_mem hkC)
                have e1 : A.getD k [] = A[k] := by simp [List.getD, hk]
                have e2 : C.getD k [] = C[k] := by simp [List.getD, hkC]
                have hsh : shp C[k] A[k] = true := by
                  have := List.any_eq_false.1 hm k (List.mem_range.2 hk)
                  unfold mis at this
                  rw [e1, e2] at this
                  simpa using this
                have q1 := fls_len names A C hC k
                have q2 := bds_len names B B.length
                have q3 := rel_len 5 C[k] (A[k].map (sbs names)) (16 * (k : Int))
                unfold fn_sig_Call_l2
                simp only [dlt hk, cond_true, getN hk, Option.bind_some]
                rw [rowSubst_eq _ names (by omega), rin_len hn ht.2]
                simp only [Bool.false_eq_true, if_false, Option.bind_some, getN hkC]
                rw [w64 (x := 16 * (k : Int)) (by omega) (by omega), relFlow_eq _ _ _ _ (by omega) (by omega) (by omega), shp_sbs, hsh]
                simp only [if_true, Option.bind_some]
                rw [app_eq (by simp only [List.length_append]; omega), Option.bind_some, w64s hk (by omega)]
                simp only [fls, fl, e1, e2, List.append_assoc]
              · simp [fn_sig_Call_l2]
            · intro l k hk
              unfold fn_sig_Call_l1
              simp only [dlt hk, cond_true, getN hk, Option.bind_some]
            · intro l; simp [fn_sig_Call_l1]
      · intro k hk
        simp only [List.length_range] at hk
        have hkC : k < C.length := by omega
        have e1 : A.getD k [] = A[k] := by simp [List.getD, hk]
        have e2 : C.getD k [] = C[k] := by simp [List.getD, hkC]
        have hc := hC C[k] (List.getElem_mem hkC)
        unfold fn_sig_callable_l1
        simp only [dlt hk, cond_true, getN hk, getN hkC, Option.bind_some, List.getElem_range, mis, e1, e2, w64s hk (by omega : A.length ≤ 9223372036854775807)]
        rw [rowShape_eq _ _ (by omega), Option.bind_some]
        cases shp C[k] A[k] <;> rfl
      · simp [fn_sig_callable_l1]
  · simp [h0]
theorem refCall_eq (s : Sg) (names : List Int) (C : List (List St)) (D : List St) (hr : s.2.2.2.length ≤ 20) (ha : ∀ t ∈ s.2.2.1, t.length ≤ 20) (hC : ∀ t ∈ C, t.length ≤ 20) (hD : D.length ≤ 20) :
    fn_ref17_Call s names C D = some (csp s names C D) := by
  unfold fn_ref17_Call csp
  rw [show fn_ref17_Check (s.1, s.2.1, s.2.2.1, s.2.2.2) = some (chk s) from refSCheck_eq s]
  obtain ⟨n, B, A, R⟩ := s
  dsimp only at *
  by_cases h0 : chk (n, B, A, R) = 0
  · obtain ⟨n0, n1, hB, hA, hb, hat, hR, hrin⟩ := chk_zero h0
    dsimp only at n0 n1 hB hA hb hat hR hrin
    simp only [h0, Option.bind_some, decide_true, Bool.not_true, cond_false, ne_eq, not_true_eq_false, if_false]
    by_cases h1 : ¬ (names.length : Int) = n ∨ ¬ C.length = A.length
    · have : ((!decide ((((names.length : Nat) : Int)) = n)) || (!decide ((((C.length : Nat) : Int)) = (((A.length : Nat) : Int))))) = true := by simp; omega
      rw [this, if_pos h1]; rfl
    · have : ((!decide ((((names.length : Nat) : Int)) = n)) || (!decide ((((C.length : Nat) : Int)) = (((A.length : Nat) : Int))))) = false := by simp; omega
      rw [this, if_neg h1, cond_false]
      have hn : (names.length : Int) = n := by omega
      have hl : C.length = A.length := by omega
      rw [bounds_loop (body := fn_ref17_Call_l1 (n, B, A, R) names) hB hn hb ?_ ?_]
      · simp only [Option.bind_some]
        have q2 := bds_len names B B.length
        have hfl := loop_find (body := fn_ref17_Call_l2 (n, B, A, R) names C) (fun k => mis A C k = true) (fun k => (bds names B B.length ++ fls names A C k, (k : Int))) A.length (fun _ => .inr ([], 8)) (.inl (bds names B B.length ++ fls names A C A.length)) ?_ ?_ ?_
        · have e0 : (bds names B B.length, (0 : Int)) = (bds names B B.length ++ fls names A C 0, ((0 : Nat) : Int)) := by simp [fls]
          rw [e0]
          rcases hfl with ⟨k, k1, k2, _, k3⟩ | ⟨k1, k3⟩
          · have : (List.range A.length).any (mis A C) = true := List.any_eq_true.2 ⟨k, List.mem_range.2 k1, k2⟩
            rw [k3, this]; rfl
          · have : (List.range A.length).any (mis A C) = false := by
              rw [List.any_eq_false]; intro k hk; exact k1 k (List.mem_range.1 hk)
            rw [k3, this]
            have q1 := fls_len names A C hC A.length
            have q3 := rel_len 6 (R.map (sbs names)) D 0
            rw [List.length_map] at q3
            simp only [Option.bind_some, Bool.false_eq_true, if_false]
            rw [refSubst_eq R names (by omega), rin_len hn hrin]
            simp only [Bool.false_eq_true, if_false, Option.bind_some]
            rw [refFlow_eq _ _ _ _ (by simp; omega) (by omega) (by omega), shp_sbs2, shp_comm]
            cases hs : shp D R with
            | false => rfl
            | true =>
              simp only [if_true, Option.bind_some, decide_true, Bool.not_true, cond_false]
              rw [app_eq (by simp only [List.length_append]; omega)]
              rfl
        · intro k hk hp
          have hkC : k < C.length := by omega
          have ht := hat A[k] (List.getElem_mem hk)
          have hc := hC C[k] (List.getElem_mem hkC)
          have e1 : A.getD k [] = A[k] := by simp [List.getD, hk]
          have e2 : C.getD k [] = C[k] := by simp [List.getD, hkC]
          have hsh : shp C[k] A[k] = true := by
            unfold mis at hp
            rw [e1, e2] at hp
            simpa using hp
          have q1 := fls_len names A C hC k
          have q3 := rel_len 5 C[k] (A[k].map (sbs names)) (16 * (k : Int))
          unfold fn_ref17_Call_l2
          simp only [dlt hk, cond_true, getN hk, Option.bind_some]
          rw [refSubst_eq _ names (by omega), rin_len hn ht.2]
          simp only [Bool.false_eq_true, if_false, Option.bind_some, getN hkC]
          rw [w64 (x := 16 * (k : Int)) (by omega) (by omega), refFlow_eq _ _ _ _ (by omega) (by omega) (by omega), shp_sbs, hsh]
          simp only [if_true, Option.bind_some, decide_true, Bool.not_true, cond_false]
          rw [app_eq (by simp only [List.length_append]; omega), Option.bind_some, w64s hk (by omega)]
          simp only [fls, fl, e1, e2, List.append_assoc]
        · intro k hk hp
          have hkC : k < C.length := by omega
          have ht := hat A[k] (List.getElem_mem hk)
          have hc := hC C[k] (List.getElem_mem hkC)
          have e1 : A.getD k [] = A[k] := by simp [List.getD, hk]
          have e2 : C.getD k [] = C[k] := by simp [List.getD, hkC]
          have hsh : shp C[k] A[k] = false := by
            unfold mis at hp
            rw [e1, e2] at hp
            simpa using hp
          unfold fn_ref17_Call_l2
          simp only [dlt hk, cond_true, getN hk, Option.bind_some]
          rw [refSubst_eq _ names (by omega), rin_len hn ht.2]
          simp only [Bool.false_eq_true, if_false, Option.bind_some, getN hkC]
          rw [w64 (x := 16 * (k : Int)) (by omega) (by omega), refFlow_eq _ _ _ _ (by omega) (by omega) (by omega), shp_sbs, hsh]
          rfl
        · simp [fn_ref17_Call_l2]
      · intro l k hk
        unfold fn_ref17_Call_l1
        simp only [dlt hk, cond_true, getN hk, Option.bind_some]
      · intro l; simp [fn_ref17_Call_l1]
  · simp [h0]
theorem csp_len (s : Sg) (names : List Int) (C : List (List St)) (D : List St) (hs : s.2.1.length ≤ 20 ∧ s.2.2.1.length ≤ 20 ∧ s.2.2.2.length ≤ 20) (hC : ∀ t ∈ C, t.length ≤ 20) : (csp s names C D).1.length ≤ 1000000 := by
  have q1 := fls_len names s.2.2.1 C hC s.2.2.1.length
  have q2 := bds_len names s.2.1 s.2.1.length
  have q3 := rel_len 6 (s.2.2.2.map (sbs names)) D 0
  rw [List.length_map] at q3
  unfold csp
  split
  · simp
  · split
    · simp
    · split
      · simp
      · split
        · simp only [List.length_append]; omega
        · simp
end Go.Proofs.Ytkpdfepjanfmbaa
namespace Go.Proofs.Ytkpdfepjanfmbaa
open Go.RowKit
set_option linter.unusedVariables false
set_option linter.unnecessarySimpa false
set_option linter.unusedSimpArgs false
abbrev Stm := Int × Int × Int × Int × Bool
def sDst (k : Int) : Bool := (((decide (k = 1)) || (decide (k = 2))) || (decide (k = 3))) || (decide (k = 5))
def sSrc (k : Int) : Bool := (decide (1 ≤ k)) && (decide (k ≤ 4))
def sReg (k : Int) : Bool := (decide (k = 2)) || (decide (k = 3))
def fOk (x : Stm) : Bool := decide (0 ≤ x.1) && decide (x.1 ≤ 5) && (sDst x.1 || decide (x.2.1 = 0)) && (sSrc x.1 || decide (x.2.2.1 = 0)) && (sReg x.1 || (decide (x.2.2.2.1 = 0) && !x.2.2.2.2))
theorem six {k : Int} (h : decide (0 ≤ k) && decide (k ≤ 5)) : k = 0 ∨ k = 1 ∨ k = 2 ∨ k = 3 ∨ k = 4 ∨ k = 5 := by simp at h; omega
theorem fieldsOf_eq (k : Int) : fn_stmt_fieldsOf k = some (if decide (0 ≤ k) && decide (k ≤ 5) then (sDst k, sSrc k, sReg k, true) else (false, false, false, false)) := by
  by_cases h : (decide (0 ≤ k) && decide (k ≤ 5)) = true
  · rcases six h with rfl | rfl | rfl | rfl | rfl | rfl <;> rfl
  · rw [if_neg h]
    have h' : k < 0 ∨ 5 < k := by simp at h; omega
    have e (j : Int) (h0 : 0 ≤ j) (h5 : j ≤ 5) : decide (k = j) = false := by simp; omega
    unfold fn_stmt_fieldsOf
    simp only [e 0 (by omega) (by omega), e 1 (by omega) (by omega), e 2 (by omega) (by omega), e 3 (by omega) (by omega), e 4 (by omega) (by omega), e 5 (by omega) (by omega), cond_false, Option.bind_some]
theorem refForm_eq (x : Stm) : fn_ref18_Form x = some (fOk x) := by
  obtain ⟨k, d, s, r, m⟩ := x
  have h1 : fn_ref18_Dst k = some (sDst k) := rfl
  have h2 : fn_ref18_Src k = some (sSrc k) := rfl
  have h3 : fn_ref18_Region k = some (sReg k) := rfl
  unfold fn_ref18_Form fOk
  simp only [h1, h2, h3, Option.bind_some]
  cases (decide (0 ≤ k) && decide (k ≤ 5)) <;> simp
  cases (sDst k || decide (d = 0)) <;> simp
  cases (sSrc k || decide (s = 0)) <;> simp
theorem form_eq (x : Stm) : fn_stmt_form x = some (if fOk x then (sDst x.1, sSrc x.1, sReg x.1, 0) else (false, false, false, 3)) := by
  obtain ⟨k, d, s, r, m⟩ := x
  unfold fn_stmt_form
  rw [fieldsOf_eq]
  by_cases h : (decide (0 ≤ k) && decide (k ≤ 5)) = true
  · simp only [h, if_true, Option.bind_some, Bool.not_true, cond_false]
    have ho : fn_stmt_own (k, d, s, r, m) (sDst k, sSrc k, sReg k) = some (k, if sDst k then d else 0, if sSrc k then s else 0, if sReg k then r else 0, if sReg k then m else false) := by
      unfold fn_stmt_own
      cases sDst k <;> cases sSrc k <;> cases sReg k <;> rfl
    rw [ho, Option.bind_some]
    unfold fOk
    simp only [h, Bool.true_and]
    cases sDst k <;> cases sSrc k <;> cases sReg k <;> simp
    all_goals (by_cases q1 : d = 0 <;> by_cases q2 : s = 0 <;> by_cases q3 : r = 0 <;> cases m <;> simp [q1, q2, q3])
  · have h' : (decide (0 ≤ k) && decide (k ≤ 5)) = false := by simpa using h
    unfold fOk
    simp [h']
def loc (xb : List (List St)) (d : Int) : Bool := decide (0 ≤ d) && decide (d < ((xb.length : Nat) : Int))
theorem loc_ref (xb : List (List St)) (d : Int) : (decide (d < 0) || decide (((xb.length : Nat) : Int) ≤ d)) = !loc xb d := by
  unfold loc
  by_cases h1 : d < 0 <;> by_cases h2 : ((xb.length : Nat) : Int) ≤ d <;> simp [h1, h2] <;> omega
theorem getLoc {xb : List (List St)} {d : Int} (h : loc xb d = true) (hb : ∀ t ∈ xb, t.length ≤ 20) : ∃ t : List St, getI xb d = some t ∧ t.length ≤ 20 := by
  unfold loc at h
  simp at h
  exact ⟨_, getZ h.1 h.2, hb _ (List.getElem_mem _)⟩
/-- A need between regions that there are. -/
def Gd (R : Int) (n : Nd) : Prop := (0 ≤ n.1 ∧ n.1 < R) ∧ (0 ≤ n.2.1 ∧ n.2.1 < R) ∧ (1 ≤ n.2.2.1 ∧ n.2.2.1 ≤ 7) ∧ (0 ≤ n.2.2.2.1 ∧ n.2.2.2.1 ≤ 1000000)
theorem rin_mem {R : Int} {t : List St} (h : rin R t = false) {x : St} (hx : x ∈ t) : 0 ≤ x.1 ∧ x.1 < R := by
  have := List.any_eq_false.1 h x hx
  simp at this; omega
theorem rin_of {R : Int} {t : List St} (h : ∀ x ∈ t, 0 ≤ x.1 ∧ x.1 < R) : rin R t = false := by
  unfold rin
  rw [List.any_eq_false]
  intro x hx
  have := h x hx
  simp; omega
theorem rel_good {R kind : Int} (hk : 1 ≤ kind ∧ kind ≤ 7) : ∀ (xs ys : List St) (f : Int), 0 ≤ f → f + (xs.length : Int) ≤ 1000000 → rin R xs = false → rin R ys = false → ∀ n ∈ rel kind f xs ys, Gd R n
  | x :: xs, y :: ys, f, h0, h1, hx, hy, n, hn => by
    have a1 := rin_mem hx (x := x) (by simp)
    have a2 := rin_mem hy (x := y) (by simp)
    simp only [List.length_cons] at h1
    simp only [rel, List.mem_append] at hn
    rcases hn with hn | hn
    · unfold rel1 at hn
      rcases List.mem_cons.1 hn with rfl | hn
      · exact ⟨a1, a2, hk, h0, by show f ≤ _; omega⟩
      · split at hn
        · rcases List.mem_cons.1 hn with rfl | hn
          · exact ⟨a2, a1, hk, h0, by show f ≤ _; omega⟩
          · simp at hn
        · simp at hn
    · exact rel_good hk xs ys (f + 1) (by omega) (by omega) (rin_of fun z hz => rin_mem hx (by simp [hz])) (rin_of fun z hz => rin_mem hy (by simp [hz])) n hn
  | [], _, _, _, _, _, _, n, hn => by simp [rel] at hn
  | _ :: _, [], _, _, _, _, _, n, hn => by simp [rel] at hn
theorem lo_good {R r : Int} {m : Bool} {xa xb : List St} (hr : 0 ≤ r ∧ r < R) (hl : xa.length ≤ 30) (hx : rin R xa = false) (hy : rin R xb = false) : ∀ n ∈ (lo r m xa xb).1, Gd R n := by
  intro n hn
  unfold lo at hn
  split at hn
  · rename_i hs
    have := lo_len hs
    cases xb with
    | nil => simp at this
    | cons y ys =>
      rcases List.mem_cons.1 hn with rfl | hn
      · exact ⟨hr, rin_mem hy (x := y) (by simp), by simp, by simp⟩
      · exact rel_good (by decide) xa _ 1 (by omega) (by omega) hx (rin_of fun z hz => rin_mem hy (List.mem_of_mem_drop hz)) n hn
  · simp at hn
theorem ag_good {R r : Int} {m : Bool} {xa xb : List St} (hr : 0 ≤ r ∧ r < R) (hl : xa.length ≤ 30) (hx : rin R xa = false) (hy : rin R xb = false) : ∀ n ∈ (ag r m xa xb).1, Gd R n := by
  intro n hn
  unfold ag at hn
  split at hn
  · split at hn
    · simp at hn
    · rename_i x xs y ys _
      simp only [List.length_cons] at hl
      rcases List.mem_cons.1 hn with rfl | hn
      · exact ⟨rin_mem hx (by simp), hr, by simp, by simp⟩
      · rcases List.mem_cons.1 hn with rfl | hn
        · exact ⟨hr, rin_mem hy (by simp), by simp, by simp⟩
        · exact rel_good (by decide) xs ys 1 (by omega) (by omega) (rin_of fun z hz => rin_mem hx (by simp [hz])) (rin_of fun z hz => rin_mem hy (by simp [hz])) n hn
  · simp at hn
theorem getI_mem {α : Type} {l : List α} {i : Int} {x : α} (h : getI l i = some x) : x ∈ l := List.mem_of_getElem? (getI_some h).2.1
theorem stmtNeeds_eq (x : Stm) (xb : List (List St)) (xc : Int) (hb : ∀ t ∈ xb, t.length ≤ 20) : ∃ l e, fn_stmt_Needs x xb xc = some (l, e) ∧ fn_ref18_Needs x xb xc = some (l, e) ∧ l.length ≤ 1000 ∧ ((∀ t ∈ xb, rin xc t = false) → ∀ n ∈ l, Gd xc n) := by
  obtain ⟨k, d, s, r, m⟩ := x
  unfold fn_stmt_Needs fn_ref18_Needs
  have g1 : fn_ref18_Dst k = some (sDst k) := rfl
  have g2 : fn_ref18_Src k = some (sSrc k) := rfl
  have g3 : fn_ref18_Region k = some (sReg k) := rfl
  have g4 (d : Int) : fn_stmt_Needs_1_ip0_k d xb = some (loc xb d) := rfl
  simp only [form_eq, refForm_eq, Option.bind_some, g1, g2, g3, g4, loc_ref]
  cases hf : fOk (k, d, s, r, m) with
  | false => exact ⟨[], 3, rfl, rfl, by simp, by simp⟩
  | true =>
    have hk : k = 0 ∨ k = 1 ∨ k = 2 ∨ k = 3 ∨ k = 4 ∨ k = 5 := by
      unfold fOk at hf
      simp only [Bool.and_eq_true] at hf
      exact six (by simpa using hf.1.1.1)
    have bad : ∃ l e, (some (([] : List Nd), (7 : Int)) : Option (List Nd × Int)) = some (l, e) ∧ (some (([] : List Nd), (7 : Int)) : Option (List Nd × Int)) = some (l, e) ∧ l.length ≤ 1000 ∧ ((∀ t ∈ xb, rin xc t = false) → ∀ n ∈ l, Gd xc n) := ⟨[], 7, rfl, rfl, by simp, by simp⟩
    have good : ∃ l e, (some (([] : List Nd), (0 : Int)) : Option (List Nd × Int)) = some (l, e) ∧ (some (([] : List Nd), (0 : Int)) : Option (List Nd × Int)) = some (l, e) ∧ l.length ≤ 1000 ∧ ((∀ t ∈ xb, rin xc t = false) → ∀ n ∈ l, Gd xc n) := ⟨[], 0, rfl, rfl, by simp, by simp⟩
    rcases hk with rfl | rfl | rfl | rfl | rfl | rfl
    · simpa [sDst, sSrc, sReg] using good
    · have e1 : sDst 1 = true := rfl
      have e2 : sSrc 1 = true := rfl
      have e3 : sReg 1 = false := rfl
      cases h1 : loc xb d with
      | false => simpa [e1, e2, e3, h1] using bad
      | true =>
        cases h2 : loc xb s with
        | false => simpa [e1, e2, e3, h1, h2] using bad
        | true =>
          obtain ⟨t1, a1, b1⟩ := getLoc h1 hb
          obtain ⟨t2, a2, b2⟩ := getLoc h2 hb
          simp [e1, e2, e3, h1, h2, a1, a2]
          rw [relFlow_eq _ _ _ _ (by omega) (by omega) (by omega), refFlow_eq _ _ _ _ (by omega) (by omega) (by omega)]
          have hr := rel_len 1 t2 t1 0
          by_cases q : shp t2 t1 = true
          · exact ⟨rel 1 0 t2 t1, 0, by simp [q], by simp [q], by omega, fun hg => by simpa using rel_good (kind := 1) (by decide) t2 t1 0 (by omega) (by omega) (hg _ (getI_mem a2)) (hg _ (getI_mem a1))⟩
          · exact ⟨[], 8, by simp [q], by simp [q], by simp, by simp⟩
    all_goals try
      (have e1 : sDst 4 = false := rfl
       have e2 : sSrc 4 = true := rfl
       have e3 : sReg 4 = false := rfl
       cases h2 : loc xb s with
       | false => simpa [e1, e2, e3, h2] using bad
       | true => simpa [e1, e2, e3, h2] using good)
    all_goals try
      (have e1 : sDst 5 = true := rfl
       have e2 : sSrc 5 = false := rfl
       have e3 : sReg 5 = false := rfl
       cases h2 : loc xb d with
       | false => simpa [e1, e2, e3, h2] using bad
       | true => simpa [e1, e2, e3, h2] using good)
    · have e1 : sDst 2 = true := rfl
      have e2 : sSrc 2 = true := rfl
      have e3 : sReg 2 = true := rfl
      cases h1 : loc xb d with
      | false => simpa [e1, e2, e3, h1] using bad
      | true =>
        cases h2 : loc xb s with
        | false => simpa [e1, e2, e3, h1, h2] using bad
        | true =>
          cases h3 : (decide (r < 0) || decide (xc ≤ r)) with
          | true => simpa [e1, e2, e3, h1, h2, h3] using bad
          | false =>
            obtain ⟨t1, a1, b1⟩ := getLoc h1 hb
            obtain ⟨t2, a2, b2⟩ := getLoc h2 hb
            have hq := lo_bound r m t2 t1 (by omega)
            refine ⟨(lo r m t2 t1).1, (lo r m t2 t1).2, ?_, ?_, by omega, fun hg => lo_good (by simp at h3; omega) (by omega) (hg _ (getI_mem a2)) (hg _ (getI_mem a1))⟩
            · simp [e1, e2, e3, h1, h2, h3, a1, a2, relLoan_eq t2 t1 r m (by omega)]
            · simp [e1, e2, e3, h1, h2, h3, a1, a2, refLoan_eq t2 t1 r m (by omega)]
    · have e1 : sDst 3 = true := rfl
      have e2 : sSrc 3 = true := rfl
      have e3 : sReg 3 = true := rfl
      cases h1 : loc xb d with
      | false => simpa [e1, e2, e3, h1] using bad
      | true =>
        cases h2 : loc xb s with
        | false => simpa [e1, e2, e3, h1, h2] using bad
        | true =>
          cases h3 : (decide (r < 0) || decide (xc ≤ r)) with
          | true => simpa [e1, e2, e3, h1, h2, h3] using bad
          | false =>
            obtain ⟨t1, a1, b1⟩ := getLoc h1 hb
            obtain ⟨t2, a2, b2⟩ := getLoc h2 hb
            have hq := ag_bound r m t2 t1 (by omega)
            refine ⟨(ag r m t2 t1).1, (ag r m t2 t1).2, ?_, ?_, by omega, fun hg => ag_good (by simp at h3; omega) (by omega) (hg _ (getI_mem a2)) (hg _ (getI_mem a1))⟩
            · simp [e1, e2, e3, h1, h2, h3, a1, a2, relAgain_eq t2 t1 r m (by omega)]
            · simp [e1, e2, e3, h1, h2, h3, a1, a2, refAgain_eq t2 t1 r m (by omega)]
end Go.Proofs.Ytkpdfepjanfmbaa
