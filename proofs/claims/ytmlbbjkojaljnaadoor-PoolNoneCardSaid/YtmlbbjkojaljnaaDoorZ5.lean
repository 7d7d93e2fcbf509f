/- 'easement/easementlaw39.PoolNone' returns true for every input, and each argument reads afterwards as it read before: the row's frame round the walk. -/
import Derived.Test.YtmlbbjkojaljnaaDoorZ4
import Derived.Test.YtmlbbjkojaljnaaDoorRows
import Derived.Test.YtmlbbjkojaljnaaDoorCards
import Derived.Test.YtmlbbjkojaljnaaDoorTie
import Derived.Lay
import Derived.SevenTiedAt
namespace Go.Proofs.YtmlbbjkojaljnaaDoor
open Go.RowKit
set_option linter.unusedVariables false
set_option maxRecDepth 100000
set_option maxHeartbeats 4000000
instance nob : BldA := ⟨1000000000, fun b _ => Cl b 1000000000 [.pointer none, .slice none 0 0], fun h => h, fun _ => True, fun _ _ => trivial⟩

noncomputable def fn_pool_New_int (xa : Int) : Option ((Int ⊕ (Int × (Option (Int × (List Int)))))) :=
  cond (decide (xa < 1)) (some (.inl 2)) (cond (decide (65536 < xa)) (some (.inl 5)) ((mk xa xa () : Option (List Unit)).bind fun _ => some (.inr ((0, (some (xa, []) : (Option (Int × (List Int)))))))))
noncomputable def h_pool_New_int : Hn Tryd.prog := .tw 5 (.nil) (.tw 7 (.nil) (.ot (.obj 1 (.cons (.int .i64) (.one (.sl (.int .i64))))) (.pl (.nil))))
noncomputable def sp_pool_New_int : Spec := ⟨13, ⟨[(0, .dat (.int .i64))], []⟩, [⟨[(0, .tup [.nilp, .dat (.int .i64)])], []⟩, ⟨[(0, .tup [.ptr 0 0, .dat (.int .i64)])], [⟨none, 65, [.od (.obj 1 (.cons (.int .i64) (.one (.sl (.int .i64)))))], false, false, none, false⟩]⟩], fun x => fn_pool_New_int x⟩
theorem pool_New_int_is : SpecOk Tryd.prog sp_pool_New_int := fn_is Tryd.func13 h_pool_New_int (by kernel_rfl) (by kernel_rfl)
noncomputable def ok_pool_New_int : OkSpec Tryd.prog := ⟨sp_pool_New_int, pool_New_int_is, Tryd.call13⟩

noncomputable def fn_pool_Pool_int_Get_z  : Option (Int × Bool) :=
  some ((0, false))
noncomputable def h_pool_Pool_int_Get_z : Hn Tryd.prog := .nil
noncomputable def sp_pool_Pool_int_Get_z : Spec := ⟨14, ⟨[(0, .nilp)], []⟩, [⟨[(0, .tup [.dat (.int .i64), .dat .bool])], []⟩], fun x => fn_pool_Pool_int_Get_z⟩
theorem pool_Pool_int_Get_z_is : SpecOk Tryd.prog sp_pool_Pool_int_Get_z := fn_is Tryd.func14 h_pool_Pool_int_Get_z (by kernel_rfl) (by kernel_rfl)
noncomputable def ok_pool_Pool_int_Get_z : OkSpec Tryd.prog := ⟨sp_pool_Pool_int_Get_z, pool_Pool_int_Get_z_is, Tryd.call14⟩

noncomputable def fn_pool_Pool_int_Put_zi (xb : Int) : Option Bool :=
  some (false)
noncomputable def h_pool_Pool_int_Put_zi : Hn Tryd.prog := .nil
noncomputable def sp_pool_Pool_int_Put_zi : Spec := ⟨15, ⟨[(0, .nilp), (1, .dat (.int .i64))], []⟩, [⟨[(0, .dat .bool)], []⟩], fun x => fn_pool_Pool_int_Put_zi x⟩
theorem pool_Pool_int_Put_zi_is : SpecOk Tryd.prog sp_pool_Pool_int_Put_zi := fn_is Tryd.func15 h_pool_Pool_int_Put_zi (by kernel_rfl) (by kernel_rfl)
noncomputable def ok_pool_Pool_int_Put_zi : OkSpec Tryd.prog := ⟨sp_pool_Pool_int_Put_zi, pool_Pool_int_Put_zi_is, Tryd.call15⟩

noncomputable def fn_pool_Pool_int_Len_z  : Option Int :=
  some (0)
noncomputable def h_pool_Pool_int_Len_z : Hn Tryd.prog := .nil
noncomputable def sp_pool_Pool_int_Len_z : Spec := ⟨16, ⟨[(0, .nilp)], []⟩, [⟨[(0, .dat (.int .i64))], []⟩], fun x => fn_pool_Pool_int_Len_z⟩
theorem pool_Pool_int_Len_z_is : SpecOk Tryd.prog sp_pool_Pool_int_Len_z := fn_is Tryd.func16 h_pool_Pool_int_Len_z (by kernel_rfl) (by kernel_rfl)
noncomputable def ok_pool_Pool_int_Len_z : OkSpec Tryd.prog := ⟨sp_pool_Pool_int_Len_z, pool_Pool_int_Len_z_is, Tryd.call16⟩

noncomputable def fn_pool_Pool_int_Room_z  : Option Int :=
  some (0)
noncomputable def h_pool_Pool_int_Room_z : Hn Tryd.prog := .nil
noncomputable def sp_pool_Pool_int_Room_z : Spec := ⟨17, ⟨[(0, .nilp)], []⟩, [⟨[(0, .dat (.int .i64))], []⟩], fun x => fn_pool_Pool_int_Room_z⟩
theorem pool_Pool_int_Room_z_is : SpecOk Tryd.prog sp_pool_Pool_int_Room_z := fn_is Tryd.func17 h_pool_Pool_int_Room_z (by kernel_rfl) (by kernel_rfl)
noncomputable def ok_pool_Pool_int_Room_z : OkSpec Tryd.prog := ⟨sp_pool_Pool_int_Room_z, pool_Pool_int_Room_z_is, Tryd.call17⟩

noncomputable def fn_pool_Move_int_zz  : Option Int :=
  some (0)
noncomputable def h_pool_Move_int_zz : Hn Tryd.prog := .nil
noncomputable def sp_pool_Move_int_zz : Spec := ⟨18, ⟨[(0, .nilp), (1, .nilp)], []⟩, [⟨[(0, .dat (.int .i64))], []⟩], fun x => fn_pool_Move_int_zz⟩
theorem pool_Move_int_zz_is : SpecOk Tryd.prog sp_pool_Move_int_zz := fn_is Tryd.func18 h_pool_Move_int_zz (by kernel_rfl) (by kernel_rfl)
noncomputable def ok_pool_Move_int_zz : OkSpec Tryd.prog := ⟨sp_pool_Move_int_zz, pool_Move_int_zz_is, Tryd.call18⟩

noncomputable def fn_pool_Sets_Take_z  : Option Unit :=
  some (())
noncomputable def h_pool_Sets_Take_z : Hn Tryd.prog := .nil
noncomputable def sp_pool_Sets_Take_z : Spec := ⟨7, ⟨[(0, .nilp)], []⟩, [⟨[(0, .nilp)], []⟩], fun x => fn_pool_Sets_Take_z⟩
theorem pool_Sets_Take_z_is : SpecOk Tryd.prog sp_pool_Sets_Take_z := fn_is Tryd.func7 h_pool_Sets_Take_z (by kernel_rfl) (by kernel_rfl)
noncomputable def ok_pool_Sets_Take_z : OkSpec Tryd.prog := ⟨sp_pool_Sets_Take_z, pool_Sets_Take_z_is, Tryd.call7⟩

noncomputable def fn_pool_Sets_Give_zz  : Option Bool :=
  some (false)
noncomputable def h_pool_Sets_Give_zz : Hn Tryd.prog := .mix [([0, 1, 2, 3, 4, 5, 6, 7, 9, 10, 11, 12], 8)] [13, 14] [] [] (.nil)
noncomputable def sp_pool_Sets_Give_zz : Spec := ⟨12, ⟨[(0, .nilp), (1, .nilp)], []⟩, [⟨[(0, .dat .bool)], []⟩], fun x => fn_pool_Sets_Give_zz⟩
theorem pool_Sets_Give_zz_is : SpecOk Tryd.prog sp_pool_Sets_Give_zz := fn_is Tryd.func12 h_pool_Sets_Give_zz (by kernel_rfl) (by kernel_rfl)
noncomputable def ok_pool_Sets_Give_zz : OkSpec Tryd.prog := ⟨sp_pool_Sets_Give_zz, pool_Sets_Give_zz_is, Tryd.call12⟩

noncomputable def fn_pool_Sets_Made_z  : Option Int :=
  some (0)
noncomputable def h_pool_Sets_Made_z : Hn Tryd.prog := .nil
noncomputable def sp_pool_Sets_Made_z : Spec := ⟨10, ⟨[(0, .nilp)], []⟩, [⟨[(0, .dat (.int .i64))], []⟩], fun x => fn_pool_Sets_Made_z⟩
theorem pool_Sets_Made_z_is : SpecOk Tryd.prog sp_pool_Sets_Made_z := fn_is Tryd.func10 h_pool_Sets_Made_z (by kernel_rfl) (by kernel_rfl)
noncomputable def ok_pool_Sets_Made_z : OkSpec Tryd.prog := ⟨sp_pool_Sets_Made_z, pool_Sets_Made_z_is, Tryd.call10⟩

noncomputable def fn_dense_New (xa : Int) : Option ((Int ⊕ (Int × Int × (List Int)))) :=
  cond (decide (xa < 0)) (some (.inl 2)) (cond (decide (1048576 < xa)) (some (.inl 5)) ((mk (IntKind.wrap .i64 (Int.tdiv (IntKind.wrap .i64 ((IntKind.wrap .i64 (xa + 64)) - 1)) 64)) (IntKind.wrap .i64 (Int.tdiv (IntKind.wrap .i64 ((IntKind.wrap .i64 (xa + 64)) - 1)) 64)) 0 : Option (List Int)).bind fun z20 => some (.inr (0, xa, z20))))
noncomputable def h_dense_New : Hn Tryd.prog := .tw 5 (.nil) (.tw 7 (.nil) (.pl (.pl (.nil))))
noncomputable def sp_dense_New : Spec := ⟨20, ⟨[(0, .dat (.int .i64))], []⟩, [⟨[(0, .tup [.nilp, .dat (.int .i64)])], []⟩, ⟨[(0, .tup [.ptr 0 0, .dat (.int .i64)])], [⟨none, 57, [.dat (.int .i64), .own 58 (.int .u64)], false, false, none, false⟩]⟩], fun x => fn_dense_New x⟩
theorem dense_New_is : SpecOk Tryd.prog sp_dense_New := fn_is Tryd.func20 h_dense_New (by kernel_rfl) (by kernel_rfl)
noncomputable def ok_dense_New : OkSpec Tryd.prog := ⟨sp_dense_New, dense_New_is, Tryd.call20⟩

noncomputable def fn_pool_New_dense_Set (xa : Int) : Option ((Int ⊕ (Int × (Option (Int × (List Bool)))))) :=
  cond (decide (xa < 1)) (some (.inl 2)) (cond (decide (65536 < xa)) (some (.inl 5)) ((mk xa xa () : Option (List Unit)).bind fun _ => some (.inr ((0, (some (xa, []) : (Option (Int × (List Bool)))))))))
noncomputable def h_pool_New_dense_Set : Hn Tryd.prog := .tw 5 (.nil) (.tw 7 (.nil) (.ot (.obj 1 (.cons (.int .i64) (.one (.sl .bool)))) (.pl (.nil))))
noncomputable def sp_pool_New_dense_Set : Spec := ⟨21, ⟨[(0, .dat (.int .i64))], []⟩, [⟨[(0, .tup [.nilp, .dat (.int .i64)])], []⟩, ⟨[(0, .tup [.ptr 0 0, .dat (.int .i64)])], [⟨none, 68, [.od (.obj 1 (.cons (.int .i64) (.one (.sl .bool))))], false, false, none, false⟩]⟩], fun x => fn_pool_New_dense_Set x⟩
theorem pool_New_dense_Set_is : SpecOk Tryd.prog sp_pool_New_dense_Set := fn_is Tryd.func21 h_pool_New_dense_Set (by kernel_rfl) (by kernel_rfl)
noncomputable def ok_pool_New_dense_Set : OkSpec Tryd.prog := ⟨sp_pool_New_dense_Set, pool_New_dense_Set_is, Tryd.call21⟩

noncomputable def fn_pool_NewSets (xa : Int) (xb : Int) : Option ((Int ⊕ (Int × Int × (Option (Option (Int × (List Bool))))))) :=
  (fn_dense_New xa).bind fun o => match o with | .inl i65 => (cond (!decide (i65 = 0)) (some (.inl i65)) ((fn_pool_New_dense_Set xb).bind fun o => match o with | .inl i72 => cond (!decide (i72 = 0)) (some (.inl i72)) (some (.inr (0, xa, none))) | .inr (i78, l79) => cond (!decide (i78 = 0)) (some (.inl i78)) (some (.inr (0, xa, some l79))))) | .inr (i88, i89, l90) => cond (!decide (i88 = 0)) (some (.inl i88)) ((fn_pool_New_dense_Set xb).bind fun o => match o with | .inl i102 => cond (!decide (i102 = 0)) (some (.inl i102)) (some (.inr (0, xa, none))) | .inr (i108, l109) => cond (!decide (i108 = 0)) (some (.inl i108)) (some (.inr (0, xa, some l109))))
noncomputable def h_pool_NewSets : Hn Tryd.prog := .c2 ok_dense_New [] (.tw 16 (.nil) (.c2 ok_pool_New_dense_Set [] (.tw 24 (.nil) (.pl (.pl (.nil)))) (.tw 24 (.nil) (.pl (.pl (.nil)))))) (.tw 16 (.nil) (.c2 ok_pool_New_dense_Set [] (.tw 24 (.nil) (.pl (.pl (.nil)))) (.tw 24 (.nil) (.pl (.pl (.nil))))))
noncomputable def sp_pool_NewSets : Spec := ⟨5, ⟨[(0, .dat (.int .i64)), (1, .dat (.int .i64))], []⟩, [⟨[(0, .tup [.nilp, .dat (.int .i64)])], []⟩, ⟨[(0, .tup [.ptr 0 0, .dat (.int .i64)])], [⟨none, 46, [.dat (.int .i64), .lit (.int .i64 0), .od (.box 68 (.one (.obj 1 (.cons (.int .i64) (.one (.sl .bool))))))], false, false, none, false⟩]⟩], fun x => fn_pool_NewSets x.1 x.2⟩
theorem pool_NewSets_is : SpecOk Tryd.prog sp_pool_NewSets := fn_is Tryd.func5 h_pool_NewSets (by kernel_rfl) (by kernel_rfl)
noncomputable def ok_pool_NewSets : OkSpec Tryd.prog := ⟨sp_pool_NewSets, pool_NewSets_is, Tryd.call5⟩

noncomputable def fn_dense_Set_Size (xa : (Option (Int × (List Int)))) : Option Int :=
  cond (xa.isNone) (some (0)) ((xa : Option (Int × (List Int))).bind fun y11 => some (y11.1))
noncomputable def h_dense_Set_Size : Hn Tryd.prog := .tw 4 (.nil) (.nil)
noncomputable def sp_dense_Set_Size : Spec := ⟨8, ⟨[(0, .dat (.ptr (.cons (.int .i64) (.one (.sl (.int .u64))))))], []⟩, [⟨[(0, .dat (.int .i64))], []⟩], fun x => fn_dense_Set_Size x⟩
theorem dense_Set_Size_is : SpecOk Tryd.prog sp_dense_Set_Size := fn_is Tryd.func8 h_dense_Set_Size (by kernel_rfl) (by kernel_rfl)
noncomputable def ok_dense_Set_Size : OkSpec Tryd.prog := ⟨sp_dense_Set_Size, dense_Set_Size_is, Tryd.call8⟩

noncomputable def fn_dense_Set_mayHave (xa : (Option (Int × (List Int)))) (xb : Int) : Option Bool :=
  (cond (decide (0 ≤ xb)) ((fn_dense_Set_Size xa).bind fun i28 => some (decide (xb < i28))) (some (false))).bind fun t24 => some (t24)
noncomputable def h_dense_Set_mayHave : Hn Tryd.prog := .gj 4 ⟨[(12, .dat .bool)], []⟩ [] (.two 7 (.cl ok_dense_Set_Size [] (.nil)) (.nil)) (.nil)
noncomputable def sp_dense_Set_mayHave : Spec := ⟨29, ⟨[(0, .dat (.ptr (.cons (.int .i64) (.one (.sl (.int .u64)))))), (1, .dat (.int .i64))], []⟩, [⟨[(0, .dat .bool)], []⟩], fun x => fn_dense_Set_mayHave x.1 x.2⟩
theorem dense_Set_mayHave_is : SpecOk Tryd.prog sp_dense_Set_mayHave := fn_is Tryd.func29 h_dense_Set_mayHave (by kernel_rfl) (by kernel_rfl)
noncomputable def ok_dense_Set_mayHave : OkSpec Tryd.prog := ⟨sp_dense_Set_mayHave, dense_Set_mayHave_is, Tryd.call29⟩

noncomputable def fn_dense_Set_Has (xa : (Option (Int × (List Int)))) (xb : Int) : Option Bool :=
  (fn_dense_Set_mayHave xa xb).bind fun t200 => cond (t200) ((xa : Option (Int × (List Int))).bind fun y205 => (getI y205.2 (IntKind.wrap .i64 (Int.tdiv xb 64))).bind fun x215 => (ge0 (Int.tmod xb 64)).bind fun u224 => some (!decide ((IntKind.wrap .u64 ((BitVec.ofInt (IntKind.bits .u64) x215 &&& BitVec.ofInt (IntKind.bits .u64) (IntKind.wrap .u64 (1 * 2 ^ (min (Int.toNat (Int.tmod xb 64)) (IntKind.bits .u64))))).toNat : Int)) = 0))) (some (false))
noncomputable def h_dense_Set_Has : Hn Tryd.prog := .mix [([0, 1], 2)] [3, 4, 5, 6, 7, 8, 9, 10, 11, 12, 13, 14, 15, 16, 17, 18] [] [] (.cl ok_dense_Set_mayHave [] (.two 8 (.nil) (.nil)))
noncomputable def sp_dense_Set_Has : Spec := ⟨19, ⟨[(0, .dat (.ptr (.cons (.int .i64) (.one (.sl (.int .u64)))))), (1, .dat (.int .i64))], []⟩, [⟨[(0, .dat .bool)], []⟩], fun x => fn_dense_Set_Has x.1 x.2⟩
theorem dense_Set_Has_is : SpecOk Tryd.prog sp_dense_Set_Has := fn_is Tryd.func19 h_dense_Set_Has (by kernel_rfl) (by kernel_rfl)
noncomputable def ok_dense_Set_Has : OkSpec Tryd.prog := ⟨sp_dense_Set_Has, dense_Set_Has_is, Tryd.call19⟩

noncomputable def fn_dense_Set_Add_zi (xb : Int) : Option Bool :=
  (fn_dense_Set_mayHave ((none : (Option (Int × (List Int))))) xb).bind fun t26 => (cond (!t26) (some (true)) ((fn_dense_Set_Has ((none : (Option (Int × (List Int))))) xb).bind fun t41 => some (t41))).bind fun t37 => cond (t37) (some (false)) (none)
noncomputable def h_dense_Set_Add_zi : Hn Tryd.prog := .cl ok_dense_Set_mayHave [] (.gj 3 ⟨[(13, .dat .bool)], []⟩ [] (.two 9 (.nil) (.cl ok_dense_Set_Has [] (.nil))) (.tw 13 (.nil) (.mix [] [0, 1, 2, 3, 4, 5, 6, 7, 8, 9, 10, 11, 12] [13] [] (.nil))))
noncomputable def sp_dense_Set_Add_zi : Spec := ⟨11, ⟨[(0, .nilp), (1, .dat (.int .i64))], []⟩, [⟨[(0, .dat .bool)], []⟩], fun x => fn_dense_Set_Add_zi x⟩
theorem dense_Set_Add_zi_is : SpecOk Tryd.prog sp_dense_Set_Add_zi := fn_is Tryd.func11 h_dense_Set_Add_zi (by kernel_rfl) (by kernel_rfl)
noncomputable def ok_dense_Set_Add_zi : OkSpec Tryd.prog := ⟨sp_dense_Set_Add_zi, dense_Set_Add_zi_is, Tryd.call11⟩

noncomputable def fn_pool_New_string (xa : Int) : Option ((Int ⊕ (Int × (Option (Int × (List (List UInt8))))))) :=
  cond (decide (xa < 1)) (some (.inl 2)) (cond (decide (65536 < xa)) (some (.inl 5)) ((mk xa xa () : Option (List Unit)).bind fun _ => some (.inr ((0, (some (xa, []) : (Option (Int × (List (List UInt8))))))))))
noncomputable def h_pool_New_string : Hn Tryd.prog := .tw 5 (.nil) (.tw 7 (.nil) (.ot (.obj 1 (.cons (.int .i64) (.one (.sl .str)))) (.pl (.nil))))
noncomputable def sp_pool_New_string : Spec := ⟨22, ⟨[(0, .dat (.int .i64))], []⟩, [⟨[(0, .tup [.nilp, .dat (.int .i64)])], []⟩, ⟨[(0, .tup [.ptr 0 0, .dat (.int .i64)])], [⟨none, 71, [.od (.obj 1 (.cons (.int .i64) (.one (.sl .str))))], false, false, none, false⟩]⟩], fun x => fn_pool_New_string x⟩
theorem pool_New_string_is : SpecOk Tryd.prog sp_pool_New_string := fn_is Tryd.func22 h_pool_New_string (by kernel_rfl) (by kernel_rfl)
noncomputable def ok_pool_New_string : OkSpec Tryd.prog := ⟨sp_pool_New_string, pool_New_string_is, Tryd.call22⟩

noncomputable def fn_pool_Pool_string_Put_zs (xb : (List UInt8)) : Option Bool :=
  some (false)
noncomputable def h_pool_Pool_string_Put_zs : Hn Tryd.prog := .nil
noncomputable def sp_pool_Pool_string_Put_zs : Spec := ⟨23, ⟨[(0, .nilp), (1, .dat .str)], []⟩, [⟨[(0, .dat .bool)], []⟩], fun x => fn_pool_Pool_string_Put_zs x⟩
theorem pool_Pool_string_Put_zs_is : SpecOk Tryd.prog sp_pool_Pool_string_Put_zs := fn_is Tryd.func23 h_pool_Pool_string_Put_zs (by kernel_rfl) (by kernel_rfl)
noncomputable def ok_pool_Pool_string_Put_zs : OkSpec Tryd.prog := ⟨sp_pool_Pool_string_Put_zs, pool_Pool_string_Put_zs_is, Tryd.call23⟩

noncomputable def fn_pool_Pool_string_Get_z  : Option (List UInt8 × Bool) :=
  some ((([] : List UInt8), false))
noncomputable def h_pool_Pool_string_Get_z : Hn Tryd.prog := .nil
noncomputable def sp_pool_Pool_string_Get_z : Spec := ⟨24, ⟨[(0, .nilp)], []⟩, [⟨[(0, .tup [.dat .str, .dat .bool])], []⟩], fun x => fn_pool_Pool_string_Get_z⟩
theorem pool_Pool_string_Get_z_is : SpecOk Tryd.prog sp_pool_Pool_string_Get_z := fn_is Tryd.func24 h_pool_Pool_string_Get_z (by kernel_rfl) (by kernel_rfl)
noncomputable def ok_pool_Pool_string_Get_z : OkSpec Tryd.prog := ⟨sp_pool_Pool_string_Get_z, pool_Pool_string_Get_z_is, Tryd.call24⟩

noncomputable def fn_pool_Pool_string_Len_z  : Option Int :=
  some (0)
noncomputable def h_pool_Pool_string_Len_z : Hn Tryd.prog := .nil
noncomputable def sp_pool_Pool_string_Len_z : Spec := ⟨25, ⟨[(0, .nilp)], []⟩, [⟨[(0, .dat (.int .i64))], []⟩], fun x => fn_pool_Pool_string_Len_z⟩
theorem pool_Pool_string_Len_z_is : SpecOk Tryd.prog sp_pool_Pool_string_Len_z := fn_is Tryd.func25 h_pool_Pool_string_Len_z (by kernel_rfl) (by kernel_rfl)
noncomputable def ok_pool_Pool_string_Len_z : OkSpec Tryd.prog := ⟨sp_pool_Pool_string_Len_z, pool_Pool_string_Len_z_is, Tryd.call25⟩

noncomputable def fn_pool_Pool_string_Room_z  : Option Int :=
  some (0)
noncomputable def h_pool_Pool_string_Room_z : Hn Tryd.prog := .nil
noncomputable def sp_pool_Pool_string_Room_z : Spec := ⟨26, ⟨[(0, .nilp)], []⟩, [⟨[(0, .dat (.int .i64))], []⟩], fun x => fn_pool_Pool_string_Room_z⟩
theorem pool_Pool_string_Room_z_is : SpecOk Tryd.prog sp_pool_Pool_string_Room_z := fn_is Tryd.func26 h_pool_Pool_string_Room_z (by kernel_rfl) (by kernel_rfl)
noncomputable def ok_pool_Pool_string_Room_z : OkSpec Tryd.prog := ⟨sp_pool_Pool_string_Room_z, pool_Pool_string_Room_z_is, Tryd.call26⟩

noncomputable def fn_pool_Pool_string_Len_p0_od (qa0 : (Option (Int × (List (List UInt8))))) : Option ((Int × (Option (Int × (List (List UInt8)))))) :=
  (qa0 : (Option (Int × (List (List UInt8))))).bind fun y7 => some ((((y7.2.length : Nat) : Int), qa0))
noncomputable def h_pool_Pool_string_Len_p0_od : Hn Tryd.prog := .nil
noncomputable def sp_pool_Pool_string_Len_p0_od : Spec := ⟨25, ⟨[(0, .ptr 0 0)], [⟨none, 71, [.od (.obj 1 (.cons (.int .i64) (.one (.sl .str))))], false, false, none, false⟩]⟩, [⟨[(0, .dat (.int .i64))], [⟨(some 0), 71, [.od (.obj 1 (.cons (.int .i64) (.one (.sl .str))))], false, false, none, false⟩]⟩], fun x => fn_pool_Pool_string_Len_p0_od x⟩
theorem pool_Pool_string_Len_p0_od_is : SpecOk Tryd.prog sp_pool_Pool_string_Len_p0_od := fn_is Tryd.func25 h_pool_Pool_string_Len_p0_od (by kernel_rfl) (by kernel_rfl)
noncomputable def ok_pool_Pool_string_Len_p0_od : OkSpec Tryd.prog := ⟨sp_pool_Pool_string_Len_p0_od, pool_Pool_string_Len_p0_od_is, Tryd.call25⟩

noncomputable def fn_pool_Pool_string_Room_p0_od (qa0 : (Option (Int × (List (List UInt8))))) : Option ((Int × (Option (Int × (List (List UInt8)))))) :=
  (qa0 : (Option (Int × (List (List UInt8))))).bind fun y22 => (qa0 : (Option (Int × (List (List UInt8))))).bind fun y23 => some ((IntKind.wrap .i64 (y22.1 - (((y23.2.length : Nat) : Int))), qa0))
noncomputable def h_pool_Pool_string_Room_p0_od : Hn Tryd.prog := .mix [] [0, 1, 2, 3, 4, 5, 6, 7, 8, 9, 10, 11] [] [] (.nil)
noncomputable def sp_pool_Pool_string_Room_p0_od : Spec := ⟨26, ⟨[(0, .ptr 0 0)], [⟨none, 71, [.od (.obj 1 (.cons (.int .i64) (.one (.sl .str))))], false, false, none, false⟩]⟩, [⟨[(0, .dat (.int .i64))], [⟨(some 0), 71, [.od (.obj 1 (.cons (.int .i64) (.one (.sl .str))))], false, false, none, false⟩]⟩], fun x => fn_pool_Pool_string_Room_p0_od x⟩
theorem pool_Pool_string_Room_p0_od_is : SpecOk Tryd.prog sp_pool_Pool_string_Room_p0_od := fn_is Tryd.func26 h_pool_Pool_string_Room_p0_od (by kernel_rfl) (by kernel_rfl)
noncomputable def ok_pool_Pool_string_Room_p0_od : OkSpec Tryd.prog := ⟨sp_pool_Pool_string_Room_p0_od, pool_Pool_string_Room_p0_od_is, Tryd.call26⟩

noncomputable def fn_law39_awake  : Option Bool :=
  (fn_pool_New_string 2).bind fun o => match o with | .inl i190 => (fn_pool_Pool_string_Put_zs ([97] : List UInt8)).bind fun t196 => (fn_pool_Pool_string_Put_zs ([98] : List UInt8)).bind fun t202 => (fn_pool_Pool_string_Put_zs ([99] : List UInt8)).bind fun t208 => (fn_pool_Pool_string_Get_z).bind fun (s214, t215) => (cond ((((((decide (i190 = 0)) && t196) && t202) && (!t208)) && (decide (s214 = ([97] : List UInt8)))) && t215) ((fn_pool_Pool_string_Len_z).bind fun i240 => some (decide (i240 = 1))) (some (false))).bind fun t236 => (cond (t236) ((fn_pool_Pool_string_Room_z).bind fun i255 => some (decide (i255 = 1))) (some (false))).bind fun t251 => some (t251) | .inr (i259, l260) => (putF ([97] : List UInt8) l260).bind fun r272 => (putF ([98] : List UInt8) r272.2).bind fun r274 => (putF ([99] : List UInt8) r274.2).bind fun r276 => (getF ([] : List UInt8) r276.2).bind fun r280 => cond ((((((decide (i259 = 0)) && r272.1) && r274.1) && (!r276.1)) && (decide (r280.1 = ([97] : List UInt8)))) && r280.2.1) ((fn_pool_Pool_string_Len_p0_od r280.2.2).bind fun (i350, l351) => cond (decide (i350 = 1)) ((fn_pool_Pool_string_Room_p0_od l351).bind fun (i368, l369) => some (decide (i368 = 1))) (some (false))) (some (false))
noncomputable def h_law39_awake : Hn Tryd.prog := .c2 ok_pool_New_string [] (.cl ok_pool_Pool_string_Put_zs [] (.cl ok_pool_Pool_string_Put_zs [] (.cl ok_pool_Pool_string_Put_zs [] (.cl ok_pool_Pool_string_Get_z [] (.gp 1 (.wt 28 (.gp 1 (.wt 31 (.gp 2 (.wt 35 (.gp 2 (.wt 39 (.gp 1 (.wt 42 (.gj 3 ⟨[(46, .dat .bool)], []⟩ [] (.two 42 (.cl ok_pool_Pool_string_Len_z [] (.nil)) (.nil)) (.wt 47 (.gj 3 ⟨[(51, .dat .bool)], []⟩ [] (.two 47 (.cl ok_pool_Pool_string_Room_z [] (.nil)) (.nil)) (.nil)))))))))))))))))) (.cl ok_put_str [] (.cl ok_put_str [] (.cl ok_put_str [] (.cl ok_get_str [] (.gp 1 (.wt 28 (.gp 1 (.wt 31 (.gp 2 (.wt 35 (.gp 2 (.wt 39 (.gp 1 (.two 42 (.cl ok_pool_Pool_string_Len_p0_od [] (.two 47 (.cl ok_pool_Pool_string_Room_p0_od [] (.nil)) (.nil))) (.nil)))))))))))))))
noncomputable def sp_law39_awake : Spec := ⟨6, ⟨[], []⟩, [⟨[(0, .dat .bool)], []⟩], fun x => fn_law39_awake⟩
theorem law39_awake_is : SpecOk Tryd.prog sp_law39_awake := fn_is Tryd.func6 h_law39_awake (by kernel_rfl) (by kernel_rfl)
noncomputable def ok_law39_awake : OkSpec Tryd.prog := ⟨sp_law39_awake, law39_awake_is, Tryd.call6⟩

noncomputable def fn_pool_Sets_Take_p0_iiod (qa0 : Int) (qa1 : Int) (qa2 : (Option (Option (Int × (List Bool))))) : Option (((Int × (Option (Option (Int × (List Bool))))) ⊕ (Int × (Option (Option (Int × (List Bool)))) × Int × (List Int)))) :=
  (qa2).bind fun y63 => (getNo y63).bind fun r66 => (fn_dense_New qa0).bind fun o => match o with | .inl i87 => some (.inl ((IntKind.wrap .i64 (qa1 + 1), some r66))) | .inr (i91, i92, l93) => some (.inr ((IntKind.wrap .i64 (qa1 + 1), some r66, i92, l93)))
noncomputable def h_pool_Sets_Take_p0_iiod : Hn Tryd.prog := .wt 13 (.opb 2 3 (.cl ok_get_set [] (.c2 ok_dense_New [] (.nil) (.pl (.pl (.nil))))))
noncomputable def sp_pool_Sets_Take_p0_iiod : Spec := ⟨7, ⟨[(0, .ptr 0 0)], [⟨none, 46, [.is 1 (.dat (.int .i64)), .dat (.int .i64), .od (.box 68 (.one (.obj 1 (.cons (.int .i64) (.one (.sl .bool))))))], false, false, none, false⟩, ⟨none, 0, [], false, true, none, false⟩]⟩, [⟨[(0, .nilp)], [⟨(some 0), 46, [.is 1 (.any), .dat (.int .i64), .od (.box 68 (.one (.obj 1 (.cons (.int .i64) (.one (.sl .bool))))))], false, false, none, false⟩, ⟨(some 1), 0, [], false, true, none, false⟩]⟩, ⟨[(0, .ptr 1 0)], [⟨(some 0), 46, [.is 2 (.any), .dat (.int .i64), .od (.box 68 (.one (.obj 1 (.cons (.int .i64) (.one (.sl .bool))))))], false, false, none, false⟩, ⟨none, 57, [.dat (.int .i64), .own 58 (.int .u64)], false, false, none, false⟩, ⟨(some 1), 0, [], false, true, none, false⟩]⟩], fun x => fn_pool_Sets_Take_p0_iiod x.1 x.2.1 x.2.2⟩
theorem pool_Sets_Take_p0_iiod_is : SpecOk Tryd.prog sp_pool_Sets_Take_p0_iiod := fn_is Tryd.func7 h_pool_Sets_Take_p0_iiod (by kernel_rfl) (by kernel_rfl)
noncomputable def ok_pool_Sets_Take_p0_iiod : OkSpec Tryd.prog := ⟨sp_pool_Sets_Take_p0_iiod, pool_Sets_Take_p0_iiod_is, Tryd.call7⟩

noncomputable def fn_dense_Set_Add_p0i_ir (xb : Int) (qa0 : Int) (qa1 : (List Int)) : Option ((Bool × (List Int))) :=
  (fn_dense_Set_mayHave (some (qa0, qa1)) xb).bind fun t100 => (cond (!t100) (some (true)) ((fn_dense_Set_Has (some (qa0, qa1)) xb).bind fun t115 => some (t115))).bind fun t111 => cond (t111) (some ((false, qa1))) ((getI qa1 (IntKind.wrap .i64 (Int.tdiv xb 64))).bind fun x168 => (ge0 (Int.tmod xb 64)).bind fun u175 => (getI qa1 (IntKind.wrap .i64 (Int.tdiv xb 64))).bind fun x177 => (some (qa1.set (IntKind.wrap .i64 (Int.tdiv xb 64)).toNat (IntKind.wrap .u64 ((BitVec.ofInt (IntKind.bits .u64) x168 ||| BitVec.ofInt (IntKind.bits .u64) (IntKind.wrap .u64 (1 * 2 ^ (min (Int.toNat (Int.tmod xb 64)) (IntKind.bits .u64))))).toNat : Int)))).bind fun z184 => some ((true, z184)))
noncomputable def h_dense_Set_Add_p0i_ir : Hn Tryd.prog := .cl ok_dense_Set_mayHave [2, 0] (.gj 3 ⟨[(13, .dat .bool)], []⟩ [] (.two 9 (.nil) (.cl ok_dense_Set_Has [2, 0] (.nil))) (.tw 13 (.nil) (.mix [] [0, 1, 2, 3, 4, 5, 6, 7, 8, 9, 10, 11, 12] [13] [] (.nil))))
noncomputable def sp_dense_Set_Add_p0i_ir : Spec := ⟨11, ⟨[(0, .ptr 0 0), (1, .dat (.int .i64))], [⟨none, 57, [.is 1 (.dat (.int .i64)), .own 58 (.int .u64)], false, false, none, false⟩, ⟨none, 0, [], false, true, none, false⟩]⟩, [⟨[(0, .dat .bool)], [⟨(some 0), 57, [.is 1 (.any), .own 58 (.int .u64)], false, false, none, false⟩, ⟨(some 1), 0, [], false, true, none, false⟩]⟩], fun x => fn_dense_Set_Add_p0i_ir x.1 x.2.1 x.2.2⟩
theorem dense_Set_Add_p0i_ir_is : SpecOk Tryd.prog sp_dense_Set_Add_p0i_ir := fn_is Tryd.func11 h_dense_Set_Add_p0i_ir (by kernel_rfl) (by kernel_rfl)
noncomputable def ok_dense_Set_Add_p0i_ir : OkSpec Tryd.prog := ⟨sp_dense_Set_Add_p0i_ir, dense_Set_Add_p0i_ir_is, Tryd.call11⟩

noncomputable def fn_pool_Sets_Give_zp0_ir (qa0 : Int) (qa1 : (List Int)) : Option ((Bool × (List Int))) :=
  some ((false, qa1))
noncomputable def h_pool_Sets_Give_zp0_ir : Hn Tryd.prog := .mix [([0, 1, 2, 3, 4, 5, 6, 7, 9, 10, 11, 12], 8)] [13, 14] [] [] (.nil)
noncomputable def sp_pool_Sets_Give_zp0_ir : Spec := ⟨12, ⟨[(0, .nilp), (1, .ptr 0 0)], [⟨none, 57, [.is 1 (.dat (.int .i64)), .own 58 (.int .u64)], false, false, none, false⟩, ⟨none, 0, [], false, true, none, false⟩]⟩, [⟨[(0, .dat .bool)], [⟨(some 0), 57, [.is 1 (.any), .own 58 (.int .u64)], false, false, none, false⟩, ⟨(some 1), 0, [], false, true, none, false⟩]⟩], fun x => fn_pool_Sets_Give_zp0_ir x.1 x.2⟩
theorem pool_Sets_Give_zp0_ir_is : SpecOk Tryd.prog sp_pool_Sets_Give_zp0_ir := fn_is Tryd.func12 h_pool_Sets_Give_zp0_ir (by kernel_rfl) (by kernel_rfl)
noncomputable def ok_pool_Sets_Give_zp0_ir : OkSpec Tryd.prog := ⟨sp_pool_Sets_Give_zp0_ir, pool_Sets_Give_zp0_ir_is, Tryd.call12⟩

noncomputable def fn_pool_Sets_Give_p0z_iiod (qa0 : Int) (qa1 : Int) (qa2 : (Option (Option (Int × (List Bool))))) : Option ((Bool × (Option (Option (Int × (List Bool)))))) :=
  some ((false, qa2))
noncomputable def h_pool_Sets_Give_p0z_iiod : Hn Tryd.prog := .mix [([0, 1, 2, 3, 4, 5, 6, 7, 9, 10, 11, 12], 8)] [13, 14] [] [] (.nil)
noncomputable def sp_pool_Sets_Give_p0z_iiod : Spec := ⟨12, ⟨[(0, .ptr 0 0), (1, .nilp)], [⟨none, 46, [.is 1 (.dat (.int .i64)), .is 2 (.dat (.int .i64)), .od (.box 68 (.one (.obj 1 (.cons (.int .i64) (.one (.sl .bool))))))], false, false, none, false⟩, ⟨none, 0, [], false, true, none, false⟩, ⟨none, 0, [], false, true, none, false⟩]⟩, [⟨[(0, .dat .bool)], [⟨(some 0), 46, [.is 1 (.any), .is 2 (.any), .od (.box 68 (.one (.obj 1 (.cons (.int .i64) (.one (.sl .bool))))))], false, false, none, false⟩, ⟨(some 1), 0, [], false, true, none, false⟩, ⟨(some 2), 0, [], false, true, none, false⟩]⟩], fun x => fn_pool_Sets_Give_p0z_iiod x.1 x.2.1 x.2.2⟩
theorem pool_Sets_Give_p0z_iiod_is : SpecOk Tryd.prog sp_pool_Sets_Give_p0z_iiod := fn_is Tryd.func12 h_pool_Sets_Give_p0z_iiod (by kernel_rfl) (by kernel_rfl)
noncomputable def ok_pool_Sets_Give_p0z_iiod : OkSpec Tryd.prog := ⟨sp_pool_Sets_Give_p0z_iiod, pool_Sets_Give_p0z_iiod_is, Tryd.call12⟩

noncomputable def fn_pool_Sets_Give_p0p1_iiod_ir (qa0 : Int) (qa1 : Int) (qa2 : (Option (Option (Int × (List Bool))))) (qb0 : Int) (qb1 : (List Int)) : Option ((Bool × (Option (Option (Int × (List Bool)))) × (List Int))) :=
  (fn_dense_Set_Size (some (qb0, qb1))).bind fun i71 => cond (!decide (i71 = qa0)) (some ((false, qa2, qb1))) (none)
noncomputable def h_pool_Sets_Give_p0p1_iiod_ir : Hn Tryd.prog := .mix [([0, 1, 2, 3, 4, 5, 6, 7, 9, 10, 11, 12], 8)] [13, 14] [] [] (.cl ok_dense_Set_Size [8, 1] (.tw 20 (.nil) (.nil)))
noncomputable def sp_pool_Sets_Give_p0p1_iiod_ir : Spec := ⟨12, ⟨[(0, .ptr 0 0), (1, .ptr 1 0)], [⟨none, 46, [.is 2 (.dat (.int .i64)), .is 3 (.dat (.int .i64)), .od (.box 68 (.one (.obj 1 (.cons (.int .i64) (.one (.sl .bool))))))], false, false, none, false⟩, ⟨none, 57, [.is 4 (.dat (.int .i64)), .own 58 (.int .u64)], false, false, none, false⟩, ⟨none, 0, [], false, true, none, false⟩, ⟨none, 0, [], false, true, none, false⟩, ⟨none, 0, [], false, true, none, false⟩]⟩, [⟨[(0, .dat .bool)], [⟨(some 0), 46, [.is 2 (.any), .is 3 (.any), .od (.box 68 (.one (.obj 1 (.cons (.int .i64) (.one (.sl .bool))))))], false, false, none, false⟩, ⟨(some 1), 57, [.is 4 (.any), .own 58 (.int .u64)], false, false, none, false⟩, ⟨(some 2), 0, [], false, true, none, false⟩, ⟨(some 3), 0, [], false, true, none, false⟩, ⟨(some 4), 0, [], false, true, none, false⟩]⟩], fun x => fn_pool_Sets_Give_p0p1_iiod_ir x.1 x.2.1 x.2.2.1 x.2.2.2.1 x.2.2.2.2⟩
theorem pool_Sets_Give_p0p1_iiod_ir_is : SpecOk Tryd.prog sp_pool_Sets_Give_p0p1_iiod_ir := fn_is Tryd.func12 h_pool_Sets_Give_p0p1_iiod_ir (by kernel_rfl) (by kernel_rfl)
noncomputable def ok_pool_Sets_Give_p0p1_iiod_ir : OkSpec Tryd.prog := ⟨sp_pool_Sets_Give_p0p1_iiod_ir, pool_Sets_Give_p0p1_iiod_ir_is, Tryd.call12⟩

noncomputable def fn_pool_Pool_int_Room_p0_od (qa0 : (Option (Int × (List Int)))) : Option ((Int × (Option (Int × (List Int))))) :=
  (qa0 : (Option (Int × (List Int)))).bind fun y22 => (qa0 : (Option (Int × (List Int)))).bind fun y23 => some ((IntKind.wrap .i64 (y22.1 - (((y23.2.length : Nat) : Int))), qa0))
noncomputable def h_pool_Pool_int_Room_p0_od : Hn Tryd.prog := .mix [] [0, 1, 2, 3, 4, 5, 6, 7, 8, 9, 10, 11] [] [] (.nil)
noncomputable def sp_pool_Pool_int_Room_p0_od : Spec := ⟨17, ⟨[(0, .ptr 0 0)], [⟨none, 65, [.od (.obj 1 (.cons (.int .i64) (.one (.sl (.int .i64)))))], false, false, none, false⟩]⟩, [⟨[(0, .dat (.int .i64))], [⟨(some 0), 65, [.od (.obj 1 (.cons (.int .i64) (.one (.sl (.int .i64)))))], false, false, none, false⟩]⟩], fun x => fn_pool_Pool_int_Room_p0_od x⟩
theorem pool_Pool_int_Room_p0_od_is : SpecOk Tryd.prog sp_pool_Pool_int_Room_p0_od := fn_is Tryd.func17 h_pool_Pool_int_Room_p0_od (by kernel_rfl) (by kernel_rfl)
noncomputable def ok_pool_Pool_int_Room_p0_od : OkSpec Tryd.prog := ⟨sp_pool_Pool_int_Room_p0_od, pool_Pool_int_Room_p0_od_is, Tryd.call17⟩
noncomputable def fn_pool_Move_int_zp0_od_l1  : (Int × (Option (Int × (List Int)))) → Option ((Int × (Option (Int × (List Int)))) ⊕ (Int × (Option (Int × (List Int))))) := fun ((i403, l404) : (Int × (Option (Int × (List Int))))) => (fn_pool_Pool_int_Room_p0_od l404).bind fun (i456, l457) => cond (decide (0 < i456)) ((fn_pool_Pool_int_Get_z).bind fun (i472, t473) => cond (!t473) (some (.inr (((i403, l457))))) ((putF i472 l457).bind fun r480 => some (.inl ((IntKind.wrap .i64 (i403 + 1), r480.2))))) (some (.inr (((i403, l457)))))
noncomputable def fn_pool_Move_int_zp0_od (qa0 : (Option (Int × (List Int)))) : Option ((Int × (Option (Int × (List Int))))) :=
  (loop (fn_pool_Move_int_zp0_od_l1) (0, qa0) : Option ((Int × (Option (Int × (List Int)))))).bind fun (i361, l362) => some ((i361, l362))
noncomputable def h_pool_Move_int_zp0_od : Hn Tryd.prog := .jn [] ⟨[(5, .dat (.int .i64))], [⟨(some 0), 65, [.od (.obj 1 (.cons (.int .i64) (.one (.sl (.int .i64)))))], false, false, none, false⟩]⟩ [0, 1] (.lp ⟨[(5, .dat (.int .i64))], [⟨(some 0), 65, [.od (.obj 1 (.cons (.int .i64) (.one (.sl (.int .i64)))))], false, false, none, false⟩]⟩ (.cl ok_pool_Pool_int_Room_p0_od [] (.tw 13 (.cl ok_pool_Pool_int_Get_z [] (.tw 20 (.nil) (.cl ok_put_int [] (.nil)))) (.nil)))) (.nil)
noncomputable def sp_pool_Move_int_zp0_od : Spec := ⟨18, ⟨[(0, .nilp), (1, .ptr 0 0)], [⟨none, 65, [.od (.obj 1 (.cons (.int .i64) (.one (.sl (.int .i64)))))], false, false, none, false⟩]⟩, [⟨[(0, .dat (.int .i64))], [⟨(some 0), 65, [.od (.obj 1 (.cons (.int .i64) (.one (.sl (.int .i64)))))], false, false, none, false⟩]⟩], fun x => fn_pool_Move_int_zp0_od x⟩
theorem pool_Move_int_zp0_od_is : SpecOk Tryd.prog sp_pool_Move_int_zp0_od := fn_is Tryd.func18 h_pool_Move_int_zp0_od (by kernel_rfl) (by kernel_rfl)
noncomputable def ok_pool_Move_int_zp0_od : OkSpec Tryd.prog := ⟨sp_pool_Move_int_zp0_od, pool_Move_int_zp0_od_is, Tryd.call18⟩
noncomputable def fn_pool_Move_int_p0z_od_l1  : (Int × (Option (Int × (List Int)))) → Option ((Int × (Option (Int × (List Int)))) ⊕ (Int × (Option (Int × (List Int))))) := fun ((i343, l344) : (Int × (Option (Int × (List Int))))) => (fn_pool_Pool_int_Room_z).bind fun i388 => cond (decide (0 < i388)) ((getF (0 : Int) l344).bind fun r395 => cond (!r395.2.1) (some (.inr (((i343, r395.2.2))))) ((fn_pool_Pool_int_Put_zi r395.1).bind fun t406 => some (.inl ((IntKind.wrap .i64 (i343 + 1), r395.2.2))))) (some (.inr (((i343, l344)))))
noncomputable def fn_pool_Move_int_p0z_od (qa0 : (Option (Int × (List Int)))) : Option ((Int × (Option (Int × (List Int))))) :=
  (loop (fn_pool_Move_int_p0z_od_l1) (0, qa0) : Option ((Int × (Option (Int × (List Int)))))).bind fun (i307, l308) => some ((i307, l308))
noncomputable def h_pool_Move_int_p0z_od : Hn Tryd.prog := .jn [] ⟨[(5, .dat (.int .i64))], [⟨(some 0), 65, [.od (.obj 1 (.cons (.int .i64) (.one (.sl (.int .i64)))))], false, false, none, false⟩]⟩ [0, 1] (.lp ⟨[(5, .dat (.int .i64))], [⟨(some 0), 65, [.od (.obj 1 (.cons (.int .i64) (.one (.sl (.int .i64)))))], false, false, none, false⟩]⟩ (.cl ok_pool_Pool_int_Room_z [] (.tw 13 (.cl ok_get_int [] (.tw 20 (.nil) (.cl ok_pool_Pool_int_Put_zi [] (.nil)))) (.nil)))) (.nil)
noncomputable def sp_pool_Move_int_p0z_od : Spec := ⟨18, ⟨[(0, .ptr 0 0), (1, .nilp)], [⟨none, 65, [.od (.obj 1 (.cons (.int .i64) (.one (.sl (.int .i64)))))], false, false, none, false⟩]⟩, [⟨[(0, .dat (.int .i64))], [⟨(some 0), 65, [.od (.obj 1 (.cons (.int .i64) (.one (.sl (.int .i64)))))], false, false, none, false⟩]⟩], fun x => fn_pool_Move_int_p0z_od x⟩
theorem pool_Move_int_p0z_od_is : SpecOk Tryd.prog sp_pool_Move_int_p0z_od := fn_is Tryd.func18 h_pool_Move_int_p0z_od (by kernel_rfl) (by kernel_rfl)
noncomputable def ok_pool_Move_int_p0z_od : OkSpec Tryd.prog := ⟨sp_pool_Move_int_p0z_od, pool_Move_int_p0z_od_is, Tryd.call18⟩

noncomputable def fn_law39_PoolNone (xa : Int) : Option Bool :=
  (fn_pool_New_int 3).bind fun o => match o with | .inl i2634 => ((fn_pool_Pool_int_Get_z).bind fun (i2640, t2641) => (fn_pool_Pool_int_Put_zi xa).bind fun t2647 => (cond ((t2647 || (!decide (i2640 = 0))) || t2641) (some (true)) ((fn_pool_Pool_int_Len_z).bind fun i2666 => some (!decide (i2666 = 0)))).bind fun t2662 => (cond (t2662) (some (true)) ((fn_pool_Pool_int_Room_z).bind fun i2681 => some (!decide (i2681 = 0)))).bind fun t2677 => (cond (t2677) (some (true)) ((fn_pool_Move_int_zz).bind fun i2696 => some (!decide (i2696 = 0)))).bind fun t2692 => (cond (t2692) (some (true)) ((fn_pool_Move_int_zz).bind fun i2711 => some (!decide (i2711 = 0)))).bind fun t2707 => (cond (t2707) (some (true)) ((fn_pool_Sets_Take_z).bind fun _ => some (false))).bind fun t2721 => (cond (t2721) (some (true)) ((fn_pool_Sets_Give_zz).bind fun t2739 => some (t2739))).bind fun t2735 => (cond (t2735) (some (true)) ((fn_pool_Sets_Made_z).bind fun i2754 => some (!decide (i2754 = 0)))).bind fun t2750 => cond (t2750) (some (false)) ((fn_pool_NewSets 5 1).bind fun o => match o with | .inl i2761 => ((fn_pool_NewSets 6 1).bind fun o => match o with | .inl i2767 => (fn_pool_Sets_Take_z).bind fun _ => (fn_dense_Set_Add_zi 5).bind fun t2778 => (fn_pool_Sets_Give_zz).bind fun t2784 => (cond (!t2784) ((fn_pool_Sets_Give_zz).bind fun t2799 => some (!t2799)) (some (false))).bind fun t2795 => (cond (t2795) ((fn_dense_Set_Has ((none : (Option (Int × (List Int))))) 5).bind fun t2814 => some (t2814)) (some (false))).bind fun t2810 => (cond (t2810) ((fn_pool_Sets_Give_zz).bind fun t2829 => some (!t2829)) (some (false))).bind fun t2825 => (cond (t2825) ((fn_law39_awake).bind fun t2844 => some (t2844)) (some (false))).bind fun t2840 => some (t2840) | .inr (i2848, i2849, l2850) => (fn_pool_Sets_Take_p0_iiod i2849 0 l2850).bind fun o => match o with | .inl (i2879, l2880) => (fn_dense_Set_Add_zi 5).bind fun t2893 => (fn_pool_Sets_Give_zz).bind fun t2965 => (cond (!t2965) ((fn_pool_Sets_Give_zz).bind fun t2980 => some (!t2980)) (some (false))).bind fun t2976 => (cond (t2976) ((fn_dense_Set_Has ((none : (Option (Int × (List Int))))) 5).bind fun t2995 => some (t2995)) (some (false))).bind fun t2991 => (cond (t2991) ((fn_pool_Sets_Give_zz).bind fun t3010 => some (!t3010)) (some (false))).bind fun t3006 => (cond (t3006) ((fn_law39_awake).bind fun t3025 => some (t3025)) (some (false))).bind fun t3021 => some (t3021) | .inr (i3029, l3030, i3031, l3032) => (fn_dense_Set_Add_p0i_ir 5 i3031 l3032).bind fun (t3056, l3057) => (fn_pool_Sets_Give_zp0_ir i3031 l3057).bind fun (t3151, l3152) => (cond (!t3151) ((fn_pool_Sets_Give_zz).bind fun t3172 => some (!t3172)) (some (false))).bind fun t3168 => (cond (t3168) ((fn_dense_Set_Has (some (i3031, l3152)) 5).bind fun t3187 => some (t3187)) (some (false))).bind fun t3183 => cond (t3183) ((fn_pool_Sets_Give_zp0_ir i3031 l3152).bind fun (t3207, l3208) => (cond (!t3207) ((fn_law39_awake).bind fun t3228 => some (t3228)) (some (false))).bind fun t3224 => some (t3224)) (some (false))) | .inr (i3232, i3233, l3234) => (fn_pool_NewSets 6 1).bind fun o => match o with | .inl i3256 => (fn_pool_Sets_Take_z).bind fun _ => (fn_dense_Set_Add_zi 5).bind fun t3278 => (fn_pool_Sets_Give_p0z_iiod i3233 0 l3234).bind fun (t3355, l3356) => cond (!t3355) ((fn_pool_Sets_Give_p0z_iiod i3233 0 l3356).bind fun (t3373, l3374) => (cond (!t3373) ((fn_dense_Set_Has ((none : (Option (Int × (List Int))))) 5).bind fun t3390 => some (t3390)) (some (false))).bind fun t3386 => (cond (t3386) ((fn_pool_Sets_Give_zz).bind fun t3405 => some (!t3405)) (some (false))).bind fun t3401 => (cond (t3401) ((fn_law39_awake).bind fun t3420 => some (t3420)) (some (false))).bind fun t3416 => some (t3416)) (some (false)) | .inr (i3424, i3425, l3426) => (fn_pool_Sets_Take_p0_iiod i3425 0 l3426).bind fun o => match o with | .inl (i3455, l3456) => (fn_dense_Set_Add_zi 5).bind fun t3469 => (fn_pool_Sets_Give_p0z_iiod i3233 0 l3234).bind fun (t3546, l3547) => cond (!t3546) ((fn_pool_Sets_Give_p0z_iiod i3233 0 l3547).bind fun (t3564, l3565) => (cond (!t3564) ((fn_dense_Set_Has ((none : (Option (Int × (List Int))))) 5).bind fun t3581 => some (t3581)) (some (false))).bind fun t3577 => (cond (t3577) ((fn_pool_Sets_Give_zz).bind fun t3596 => some (!t3596)) (some (false))).bind fun t3592 => (cond (t3592) ((fn_law39_awake).bind fun t3611 => some (t3611)) (some (false))).bind fun t3607 => some (t3607)) (some (false)) | .inr (i3615, l3616, i3617, l3618) => (fn_dense_Set_Add_p0i_ir 5 i3617 l3618).bind fun (t3642, l3643) => (fn_pool_Sets_Give_p0p1_iiod_ir i3233 0 l3234 i3617 l3643).bind fun (t3742, l3743, l3744) => cond (!t3742) ((fn_pool_Sets_Give_p0z_iiod i3233 0 l3743).bind fun (t3766, l3767) => (cond (!t3766) ((fn_dense_Set_Has (some (i3617, l3744)) 5).bind fun t3783 => some (t3783)) (some (false))).bind fun t3779 => cond (t3779) ((fn_pool_Sets_Give_zp0_ir i3617 l3744).bind fun (t3803, l3804) => (cond (!t3803) ((fn_law39_awake).bind fun t3824 => some (t3824)) (some (false))).bind fun t3820 => some (t3820)) (some (false))) (some (false)))) | .inr (i3828, l3829) => (fn_pool_Pool_int_Get_z).bind fun (i3844, t3845) => (fn_pool_Pool_int_Put_zi xa).bind fun t3970 => (cond ((t3970 || (!decide (i3844 = 0))) || t3845) (some (true)) ((fn_pool_Pool_int_Len_z).bind fun i3989 => some (!decide (i3989 = 0)))).bind fun t3985 => (cond (t3985) (some (true)) ((fn_pool_Pool_int_Room_z).bind fun i4004 => some (!decide (i4004 = 0)))).bind fun t4000 => cond (t4000) (some (false)) ((fn_pool_Move_int_zp0_od l3829).bind fun (i4020, l4021) => cond (!decide (i4020 = 0)) (some (false)) ((fn_pool_Move_int_p0z_od l4021).bind fun (i4038, l4039) => (cond (!decide (i4038 = 0)) (some (true)) ((fn_pool_Sets_Take_z).bind fun _ => some (false))).bind fun t4050 => (cond (t4050) (some (true)) ((fn_pool_Sets_Give_zz).bind fun t4068 => some (t4068))).bind fun t4064 => (cond (t4064) (some (true)) ((fn_pool_Sets_Made_z).bind fun i4083 => some (!decide (i4083 = 0)))).bind fun t4079 => cond (t4079) (some (false)) ((fn_pool_NewSets 5 1).bind fun o => match o with | .inl i4104 => ((fn_pool_NewSets 6 1).bind fun o => match o with | .inl i4124 => (fn_pool_Sets_Take_z).bind fun _ => (fn_dense_Set_Add_zi 5).bind fun t4146 => (fn_pool_Sets_Give_zz).bind fun t4218 => (cond (!t4218) ((fn_pool_Sets_Give_zz).bind fun t4233 => some (!t4233)) (some (false))).bind fun t4229 => (cond (t4229) ((fn_dense_Set_Has ((none : (Option (Int × (List Int))))) 5).bind fun t4248 => some (t4248)) (some (false))).bind fun t4244 => (cond (t4244) ((fn_pool_Sets_Give_zz).bind fun t4263 => some (!t4263)) (some (false))).bind fun t4259 => (cond (t4259) ((fn_law39_awake).bind fun t4278 => some (t4278)) (some (false))).bind fun t4274 => some (t4274) | .inr (i4282, i4283, l4284) => (fn_pool_Sets_Take_p0_iiod i4283 0 l4284).bind fun o => match o with | .inl (i4313, l4314) => (fn_dense_Set_Add_zi 5).bind fun t4327 => (fn_pool_Sets_Give_zz).bind fun t4399 => (cond (!t4399) ((fn_pool_Sets_Give_zz).bind fun t4414 => some (!t4414)) (some (false))).bind fun t4410 => (cond (t4410) ((fn_dense_Set_Has ((none : (Option (Int × (List Int))))) 5).bind fun t4429 => some (t4429)) (some (false))).bind fun t4425 => (cond (t4425) ((fn_pool_Sets_Give_zz).bind fun t4444 => some (!t4444)) (some (false))).bind fun t4440 => (cond (t4440) ((fn_law39_awake).bind fun t4459 => some (t4459)) (some (false))).bind fun t4455 => some (t4455) | .inr (i4463, l4464, i4465, l4466) => (fn_dense_Set_Add_p0i_ir 5 i4465 l4466).bind fun (t4490, l4491) => (fn_pool_Sets_Give_zp0_ir i4465 l4491).bind fun (t4585, l4586) => (cond (!t4585) ((fn_pool_Sets_Give_zz).bind fun t4606 => some (!t4606)) (some (false))).bind fun t4602 => (cond (t4602) ((fn_dense_Set_Has (some (i4465, l4586)) 5).bind fun t4621 => some (t4621)) (some (false))).bind fun t4617 => cond (t4617) ((fn_pool_Sets_Give_zp0_ir i4465 l4586).bind fun (t4641, l4642) => (cond (!t4641) ((fn_law39_awake).bind fun t4662 => some (t4662)) (some (false))).bind fun t4658 => some (t4658)) (some (false))) | .inr (i4666, i4667, l4668) => (fn_pool_NewSets 6 1).bind fun o => match o with | .inl i4690 => (fn_pool_Sets_Take_z).bind fun _ => (fn_dense_Set_Add_zi 5).bind fun t4712 => (fn_pool_Sets_Give_p0z_iiod i4667 0 l4668).bind fun (t4789, l4790) => cond (!t4789) ((fn_pool_Sets_Give_p0z_iiod i4667 0 l4790).bind fun (t4807, l4808) => (cond (!t4807) ((fn_dense_Set_Has ((none : (Option (Int × (List Int))))) 5).bind fun t4824 => some (t4824)) (some (false))).bind fun t4820 => (cond (t4820) ((fn_pool_Sets_Give_zz).bind fun t4839 => some (!t4839)) (some (false))).bind fun t4835 => (cond (t4835) ((fn_law39_awake).bind fun t4854 => some (t4854)) (some (false))).bind fun t4850 => some (t4850)) (some (false)) | .inr (i4858, i4859, l4860) => (fn_pool_Sets_Take_p0_iiod i4859 0 l4860).bind fun o => match o with | .inl (i4889, l4890) => (fn_dense_Set_Add_zi 5).bind fun t4903 => (fn_pool_Sets_Give_p0z_iiod i4667 0 l4668).bind fun (t4980, l4981) => cond (!t4980) ((fn_pool_Sets_Give_p0z_iiod i4667 0 l4981).bind fun (t4998, l4999) => (cond (!t4998) ((fn_dense_Set_Has ((none : (Option (Int × (List Int))))) 5).bind fun t5015 => some (t5015)) (some (false))).bind fun t5011 => (cond (t5011) ((fn_pool_Sets_Give_zz).bind fun t5030 => some (!t5030)) (some (false))).bind fun t5026 => (cond (t5026) ((fn_law39_awake).bind fun t5045 => some (t5045)) (some (false))).bind fun t5041 => some (t5041)) (some (false)) | .inr (i5049, l5050, i5051, l5052) => (fn_dense_Set_Add_p0i_ir 5 i5051 l5052).bind fun (t5076, l5077) => (fn_pool_Sets_Give_p0p1_iiod_ir i4667 0 l4668 i5051 l5077).bind fun (t5176, l5177, l5178) => cond (!t5176) ((fn_pool_Sets_Give_p0z_iiod i4667 0 l5177).bind fun (t5200, l5201) => (cond (!t5200) ((fn_dense_Set_Has (some (i5051, l5178)) 5).bind fun t5217 => some (t5217)) (some (false))).bind fun t5213 => cond (t5213) ((fn_pool_Sets_Give_zp0_ir i5051 l5178).bind fun (t5237, l5238) => (cond (!t5237) ((fn_law39_awake).bind fun t5258 => some (t5258)) (some (false))).bind fun t5254 => some (t5254)) (some (false))) (some (false)))))
noncomputable def h_law39_PoolNone : Hn Tryd.prog := .c2 ok_pool_New_int [] (.cl ok_pool_Pool_int_Get_z [] (.cl ok_pool_Pool_int_Put_zi [] (.gp 2 (.wt 30 (.gp 1 (.wt 33 (.gj 3 ⟨[(37, .dat .bool)], []⟩ [] (.two 33 (.nil) (.cl ok_pool_Pool_int_Len_z [] (.nil))) (.wt 38 (.gj 3 ⟨[(42, .dat .bool)], []⟩ [] (.two 38 (.nil) (.cl ok_pool_Pool_int_Room_z [] (.nil))) (.wt 43 (.gj 4 ⟨[(48, .dat .bool)], []⟩ [] (.two 43 (.nil) (.cl ok_pool_Move_int_zz [] (.nil))) (.wt 49 (.gj 4 ⟨[(54, .dat .bool)], []⟩ [] (.two 49 (.nil) (.cl ok_pool_Move_int_zz [] (.nil))) (.wt 55 (.gj 3 ⟨[(59, .dat .bool)], []⟩ [] (.two 55 (.nil) (.cl ok_pool_Sets_Take_z [] (.nil))) (.wt 60 (.gj 2 ⟨[(63, .dat .bool)], []⟩ [] (.two 60 (.nil) (.cl ok_pool_Sets_Give_zz [] (.nil))) (.wt 64 (.gj 3 ⟨[(68, .dat .bool)], []⟩ [] (.two 64 (.nil) (.cl ok_pool_Sets_Made_z [] (.nil))) (.tw 68 (.nil) (.c2 ok_pool_NewSets [] (.c2 ok_pool_NewSets [] (.cl ok_pool_Sets_Take_z [] (.cl ok_dense_Set_Add_zi [] (.cl ok_pool_Sets_Give_zz [] (.gj 3 ⟨[(89, .dat .bool)], []⟩ [] (.two 85 (.cl ok_pool_Sets_Give_zz [] (.nil)) (.nil)) (.wt 90 (.gj 2 ⟨[(93, .dat .bool)], []⟩ [] (.two 90 (.cl ok_dense_Set_Has [] (.nil)) (.nil)) (.wt 94 (.gj 4 ⟨[(99, .dat .bool)], []⟩ [] (.two 94 (.cl ok_pool_Sets_Give_zz [] (.nil)) (.nil)) (.wt 100 (.gj 1 ⟨[(102, .dat .bool)], []⟩ [] (.two 100 (.cl ok_law39_awake [] (.nil)) (.nil)) (.nil))))))))))) (.mc 0 0 3 (.c2 ok_pool_Sets_Take_p0_iiod [] (.cl ok_dense_Set_Add_zi [] (.cl ok_pool_Sets_Give_zz [] (.gj 3 ⟨[(89, .dat .bool)], []⟩ [] (.two 85 (.cl ok_pool_Sets_Give_zz [] (.nil)) (.nil)) (.wt 90 (.gj 2 ⟨[(93, .dat .bool)], []⟩ [] (.two 90 (.cl ok_dense_Set_Has [] (.nil)) (.nil)) (.wt 94 (.gj 4 ⟨[(99, .dat .bool)], []⟩ [] (.two 94 (.cl ok_pool_Sets_Give_zz [] (.nil)) (.nil)) (.wt 100 (.gj 1 ⟨[(102, .dat .bool)], []⟩ [] (.two 100 (.cl ok_law39_awake [] (.nil)) (.nil)) (.nil)))))))))) (.mc 8 0 14 (.cl ok_dense_Set_Add_p0i_ir [] (.cl ok_pool_Sets_Give_zp0_ir [] (.gj 3 ⟨[(89, .dat .bool)], []⟩ [] (.two 85 (.cl ok_pool_Sets_Give_zz [] (.nil)) (.nil)) (.wt 90 (.gj 2 ⟨[(93, .dat .bool)], []⟩ [] (.two 90 (.cl ok_dense_Set_Has [25, 8] (.nil)) (.nil)) (.two 94 (.cl ok_pool_Sets_Give_zp0_ir [] (.wt 100 (.gj 1 ⟨[(102, .dat .bool)], []⟩ [] (.two 100 (.cl ok_law39_awake [] (.nil)) (.nil)) (.nil)))) (.nil))))))))))) (.c2 ok_pool_NewSets [] (.cl ok_pool_Sets_Take_z [] (.cl ok_dense_Set_Add_zi [] (.mc 0 0 3 (.mc 0 1 3 (.cl ok_pool_Sets_Give_p0z_iiod [] (.two 85 (.cl ok_pool_Sets_Give_p0z_iiod [] (.wt 90 (.gj 2 ⟨[(93, .dat .bool)], []⟩ [] (.two 90 (.cl ok_dense_Set_Has [] (.nil)) (.nil)) (.wt 94 (.gj 4 ⟨[(99, .dat .bool)], []⟩ [] (.two 94 (.cl ok_pool_Sets_Give_zz [] (.nil)) (.nil)) (.wt 100 (.gj 1 ⟨[(102, .dat .bool)], []⟩ [] (.two 100 (.cl ok_law39_awake [] (.nil)) (.nil)) (.nil)))))))) (.nil))))))) (.mc 4 0 7 (.c2 ok_pool_Sets_Take_p0_iiod [] (.cl ok_dense_Set_Add_zi [] (.wt 1000015 (.mc 0 0 3 (.mc 0 1 3 (.cl ok_pool_Sets_Give_p0z_iiod [] (.two 85 (.cl ok_pool_Sets_Give_p0z_iiod [] (.wt 90 (.gj 2 ⟨[(93, .dat .bool)], []⟩ [] (.two 90 (.cl ok_dense_Set_Has [] (.nil)) (.nil)) (.wt 94 (.gj 4 ⟨[(99, .dat .bool)], []⟩ [] (.two 94 (.cl ok_pool_Sets_Give_zz [] (.nil)) (.nil)) (.wt 100 (.gj 1 ⟨[(102, .dat .bool)], []⟩ [] (.two 100 (.cl ok_law39_awake [] (.nil)) (.nil)) (.nil)))))))) (.nil))))))) (.mc 12 0 18 (.cl ok_dense_Set_Add_p0i_ir [] (.wt 1000026 (.mc 0 0 3 (.mc 0 1 3 (.cl ok_pool_Sets_Give_p0p1_iiod_ir [] (.two 85 (.cl ok_pool_Sets_Give_p0z_iiod [] (.wt 90 (.gj 2 ⟨[(93, .dat .bool)], []⟩ [] (.two 90 (.cl ok_dense_Set_Has [37, 12] (.nil)) (.nil)) (.two 94 (.cl ok_pool_Sets_Give_zp0_ir [] (.wt 100 (.gj 1 ⟨[(102, .dat .bool)], []⟩ [] (.two 100 (.cl ok_law39_awake [] (.nil)) (.nil)) (.nil)))) (.nil))))) (.nil)))))))))))))))))))))))))))))))) (.cl ok_pool_Pool_int_Get_z [] (.cl ok_pool_Pool_int_Put_zi [] (.gp 2 (.wt 30 (.gp 1 (.wt 33 (.gj 3 ⟨[(37, .dat .bool)], []⟩ [] (.two 33 (.nil) (.cl ok_pool_Pool_int_Len_z [] (.nil))) (.wt 38 (.gj 3 ⟨[(42, .dat .bool)], []⟩ [] (.two 38 (.nil) (.cl ok_pool_Pool_int_Room_z [] (.nil))) (.two 43 (.nil) (.cl ok_pool_Move_int_zp0_od [] (.two 49 (.nil) (.cl ok_pool_Move_int_p0z_od [] (.wt 55 (.gj 3 ⟨[(59, .dat .bool)], []⟩ [] (.two 55 (.nil) (.cl ok_pool_Sets_Take_z [] (.nil))) (.wt 60 (.gj 2 ⟨[(63, .dat .bool)], []⟩ [] (.two 60 (.nil) (.cl ok_pool_Sets_Give_zz [] (.nil))) (.wt 64 (.gj 3 ⟨[(68, .dat .bool)], []⟩ [] (.two 64 (.nil) (.cl ok_pool_Sets_Made_z [] (.nil))) (.tw 68 (.nil) (.c2 ok_pool_NewSets [] (.c2 ok_pool_NewSets [] (.cl ok_pool_Sets_Take_z [] (.cl ok_dense_Set_Add_zi [] (.cl ok_pool_Sets_Give_zz [] (.gj 3 ⟨[(89, .dat .bool)], []⟩ [] (.two 85 (.cl ok_pool_Sets_Give_zz [] (.nil)) (.nil)) (.wt 90 (.gj 2 ⟨[(93, .dat .bool)], []⟩ [] (.two 90 (.cl ok_dense_Set_Has [] (.nil)) (.nil)) (.wt 94 (.gj 4 ⟨[(99, .dat .bool)], []⟩ [] (.two 94 (.cl ok_pool_Sets_Give_zz [] (.nil)) (.nil)) (.wt 100 (.gj 1 ⟨[(102, .dat .bool)], []⟩ [] (.two 100 (.cl ok_law39_awake [] (.nil)) (.nil)) (.nil))))))))))) (.mc 16 0 19 (.c2 ok_pool_Sets_Take_p0_iiod [] (.cl ok_dense_Set_Add_zi [] (.cl ok_pool_Sets_Give_zz [] (.gj 3 ⟨[(89, .dat .bool)], []⟩ [] (.two 85 (.cl ok_pool_Sets_Give_zz [] (.nil)) (.nil)) (.wt 90 (.gj 2 ⟨[(93, .dat .bool)], []⟩ [] (.two 90 (.cl ok_dense_Set_Has [] (.nil)) (.nil)) (.wt 94 (.gj 4 ⟨[(99, .dat .bool)], []⟩ [] (.two 94 (.cl ok_pool_Sets_Give_zz [] (.nil)) (.nil)) (.wt 100 (.gj 1 ⟨[(102, .dat .bool)], []⟩ [] (.two 100 (.cl ok_law39_awake [] (.nil)) (.nil)) (.nil)))))))))) (.mc 24 0 30 (.cl ok_dense_Set_Add_p0i_ir [] (.cl ok_pool_Sets_Give_zp0_ir [] (.gj 3 ⟨[(89, .dat .bool)], []⟩ [] (.two 85 (.cl ok_pool_Sets_Give_zz [] (.nil)) (.nil)) (.wt 90 (.gj 2 ⟨[(93, .dat .bool)], []⟩ [] (.two 90 (.cl ok_dense_Set_Has [41, 24] (.nil)) (.nil)) (.two 94 (.cl ok_pool_Sets_Give_zp0_ir [] (.wt 100 (.gj 1 ⟨[(102, .dat .bool)], []⟩ [] (.two 100 (.cl ok_law39_awake [] (.nil)) (.nil)) (.nil)))) (.nil))))))))))) (.c2 ok_pool_NewSets [] (.cl ok_pool_Sets_Take_z [] (.cl ok_dense_Set_Add_zi [] (.mc 16 0 19 (.mc 16 1 19 (.cl ok_pool_Sets_Give_p0z_iiod [] (.two 85 (.cl ok_pool_Sets_Give_p0z_iiod [] (.wt 90 (.gj 2 ⟨[(93, .dat .bool)], []⟩ [] (.two 90 (.cl ok_dense_Set_Has [] (.nil)) (.nil)) (.wt 94 (.gj 4 ⟨[(99, .dat .bool)], []⟩ [] (.two 94 (.cl ok_pool_Sets_Give_zz [] (.nil)) (.nil)) (.wt 100 (.gj 1 ⟨[(102, .dat .bool)], []⟩ [] (.two 100 (.cl ok_law39_awake [] (.nil)) (.nil)) (.nil)))))))) (.nil))))))) (.mc 20 0 23 (.c2 ok_pool_Sets_Take_p0_iiod [] (.cl ok_dense_Set_Add_zi [] (.wt 1000031 (.mc 16 0 19 (.mc 16 1 19 (.cl ok_pool_Sets_Give_p0z_iiod [] (.two 85 (.cl ok_pool_Sets_Give_p0z_iiod [] (.wt 90 (.gj 2 ⟨[(93, .dat .bool)], []⟩ [] (.two 90 (.cl ok_dense_Set_Has [] (.nil)) (.nil)) (.wt 94 (.gj 4 ⟨[(99, .dat .bool)], []⟩ [] (.two 94 (.cl ok_pool_Sets_Give_zz [] (.nil)) (.nil)) (.wt 100 (.gj 1 ⟨[(102, .dat .bool)], []⟩ [] (.two 100 (.cl ok_law39_awake [] (.nil)) (.nil)) (.nil)))))))) (.nil))))))) (.mc 28 0 34 (.cl ok_dense_Set_Add_p0i_ir [] (.wt 1000042 (.mc 16 0 19 (.mc 16 1 19 (.cl ok_pool_Sets_Give_p0p1_iiod_ir [] (.two 85 (.cl ok_pool_Sets_Give_p0z_iiod [] (.wt 90 (.gj 2 ⟨[(93, .dat .bool)], []⟩ [] (.two 90 (.cl ok_dense_Set_Has [53, 28] (.nil)) (.nil)) (.two 94 (.cl ok_pool_Sets_Give_zp0_ir [] (.wt 100 (.gj 1 ⟨[(102, .dat .bool)], []⟩ [] (.two 100 (.cl ok_law39_awake [] (.nil)) (.nil)) (.nil)))) (.nil))))) (.nil))))))))))))))))))))))))))))))))
noncomputable def sp_law39_PoolNone : Spec := ⟨4, ⟨[(0, .dat (.int .i64))], []⟩, [⟨[(0, .dat .bool)], []⟩], fun x => fn_law39_PoolNone x⟩
theorem law39_PoolNone_is : SpecOk Tryd.prog sp_law39_PoolNone := fn_is Tryd.func4 h_law39_PoolNone (by kernel_rfl) (by kernel_rfl)
noncomputable def ok_law39_PoolNone : OkSpec Tryd.prog := ⟨sp_law39_PoolNone, law39_PoolNone_is, Tryd.call4⟩
end Go.Proofs.YtmlbbjkojaljnaaDoor
namespace Go.Proofs.YtmlbbjkojaljnaaDoor
set_option linter.unusedVariables false
section
variable {σ β : Type} {body : σ → Option (σ ⊕ β)}
theorem loop_nat (st : Nat → σ) (n : Nat) {b : β} (h : ∀ k, k < n → body (st k) = some (.inl (st (k + 1)))) (he : body (st n) = some (.inr b)) : loop body (st 0) = some b := by
  have : ∀ m k, k + m = n → loop body (st k) = some b := by
    intro m
    induction m with
    | zero => intro k hk; have : k = n := by omega
              subst this; exact loop_end he
    | succ m ih => intro k hk; rw [loop_next (h k (by omega))]; exact ih (k + 1) (by omega)
  exact this n 0 (by omega)
theorem least (p : Nat → Prop) : ∀ n, (∃ k, k < n ∧ p k ∧ ∀ j, j < k → ¬ p j) ∨ ∀ j, j < n → ¬ p j
  | 0 => .inr (fun j hj => by omega)
  | n + 1 => by
    rcases least p n with ⟨k, h1, h2, h3⟩ | h
    · exact .inl ⟨k, by omega, h2, h3⟩
    · by_cases hp : p n
      · exact .inl ⟨n, by omega, hp, h⟩
      · exact .inr (fun j hj => if e : j = n then e ▸ hp else h j (by omega))
theorem loop_find (p : Nat → Prop) (st : Nat → σ) (n : Nat) (hit : Nat → β) (e : β) (hgo : ∀ k, k < n → ¬ p k → body (st k) = some (.inl (st (k + 1)))) (hhit : ∀ k, k < n → p k → body (st k) = some (.inr (hit k))) (hend : body (st n) = some (.inr e)) :
    (∃ k, k < n ∧ p k ∧ (∀ j, j < k → ¬ p j) ∧ loop body (st 0) = some (hit k)) ∨ ((∀ j, j < n → ¬ p j) ∧ loop body (st 0) = some e) := by
  rcases least p n with ⟨k, h1, h2, h3⟩ | h
  · exact .inl ⟨k, h1, h2, h3, loop_nat st k (fun j hj => hgo j (by omega) (h3 j hj)) (hhit k h1 h2)⟩
  · exact .inr ⟨h, loop_nat st n (fun k hk => hgo k hk (h k hk)) hend⟩
open Classical in
theorem loop_any (p : Nat → Prop) (st : Nat → σ) (n : Nat) (b e : β) (hgo : ∀ k, k < n → ¬ p k → body (st k) = some (.inl (st (k + 1)))) (hhit : ∀ k, k < n → p k → body (st k) = some (.inr b)) (hend : body (st n) = some (.inr e)) :
    loop body (st 0) = some (if ∃ k, k < n ∧ p k then b else e) := by
  rcases loop_find p st n (fun _ => b) e hgo hhit hend with ⟨k, h1, h2, h3, h4⟩ | ⟨h1, h2⟩
  · rw [if_pos ⟨k, h1, h2⟩]; exact h4
  · rw [if_neg (fun ⟨k, h3, h4⟩ => h1 k h3 h4)]; exact h2
end
theorem w64 {x : Int} (h1 : -9223372036854775808 ≤ x) (h2 : x ≤ 9223372036854775807) : IntKind.wrap .i64 x = x := by
  rw [IntWalk.i64_left, IntWalk.wrap64_in _ ⟨h1, h2⟩]
theorem w64s {k n : Nat} (h : k < n) (hn : n ≤ 9223372036854775807) : IntKind.wrap .i64 ((k : Int) + 1) = ((k + 1 : Nat) : Int) := by
  rw [w64 (by omega) (by omega)]; rfl
theorem ne_list {α : Type} {xs ys : List α} (h : xs.length = ys.length) : (∃ k, k < xs.length ∧ xs[k]? ≠ ys[k]?) ↔ xs ≠ ys := by
  constructor
  · rintro ⟨k, _, h2⟩ rfl; exact h2 rfl
  · intro hne
    rcases least (fun k => xs[k]? ≠ ys[k]?) xs.length with ⟨k, h1, h2, _⟩ | h'
    · exact ⟨k, h1, h2⟩
    · exfalso; apply hne
      apply List.ext_getElem? 
      intro k
      by_cases hk : k < xs.length
      · exact Classical.byContradiction (fun hc => h' k hk hc)
      · rw [List.getElem?_eq_none (by omega), List.getElem?_eq_none (by omega)]
theorem getN {α : Type} {l : List α} {k : Nat} (h : k < l.length) : getI l (k : Int) = some l[k] := getI_eq rfl h
theorem any_ex {α : Type} {t : α → Bool} {l : List α} : l.any t = true ↔ ∃ k, k < l.length ∧ (l[k]?.map t) = some true := by
  rw [List.any_eq_true]
  constructor
  · rintro ⟨x, hx, h⟩
    obtain ⟨k, hk, rfl⟩ := List.getElem_of_mem hx
    exact ⟨k, hk, by simp [hk, h]⟩
  · rintro ⟨k, hk, h⟩
    exact ⟨l[k], List.getElem_mem hk, by simpa [hk] using h⟩
/-- A list searched. -/
theorem loop_one {α β : Type} (xa : List α) (t : α → Bool) (hit e : β) (hn : xa.length ≤ 9223372036854775807) :
    loop (fun (i : Int) => (cond (decide (i < ((xa.length : Nat) : Int))) ((getI xa i).bind fun x => cond (t x) (some (.inr hit)) (some (.inl (IntKind.wrap .i64 (i + 1))))) (some (.inr e)) : Option (Int ⊕ β))) 0 = some (if xa.any t then hit else e) := by
  classical
  have h := loop_any (body := fun (i : Int) => (cond (decide (i < ((xa.length : Nat) : Int))) ((getI xa i).bind fun x => cond (t x) (some (.inr hit)) (some (.inl (IntKind.wrap .i64 (i + 1))))) (some (.inr e)) : Option (Int ⊕ β)))
    (fun k => (xa[k]?.map t) = some true) (fun k : Nat => (k : Int)) xa.length hit e ?_ ?_ ?_
  · refine h.trans ?_
    by_cases hh : xa.any t = true
    · rw [if_pos (any_ex.1 hh), if_pos hh]
    · rw [if_neg (fun h => hh (any_ex.2 h)), if_neg hh]
  · intro k hk hp
    simp [hk] at hp
    simp [hk, getN hk, hp, w64s hk hn]
  · intro k hk hp
    simp [hk] at hp
    simp [hk, getN hk, hp]
  · simp
/-- Two lists searched, hand in hand. -/
theorem loop_two {α γ β : Type} (xa : List α) (xb : List γ) (t : α → γ → Bool) (hit e : β) (hl : xa.length = xb.length) (hn : xa.length ≤ 9223372036854775807) :
    loop (fun (i : Int) => (cond (decide (i < ((xa.length : Nat) : Int))) ((getI xa i).bind fun x => (getI xb i).bind fun y => cond (t x y) (some (.inr hit)) (some (.inl (IntKind.wrap .i64 (i + 1))))) (some (.inr e)) : Option (Int ⊕ β))) 0 = some (if (xa.zip xb).any (fun p => t p.1 p.2) then hit else e) := by
  classical
  have hz : (xa.zip xb).length = xa.length := by simp [hl]
  have h := loop_any (body := fun (i : Int) => (cond (decide (i < ((xa.length : Nat) : Int))) ((getI xa i).bind fun x => (getI xb i).bind fun y => cond (t x y) (some (.inr hit)) (some (.inl (IntKind.wrap .i64 (i + 1))))) (some (.inr e)) : Option (Int ⊕ β)))
    (fun k => ((xa.zip xb)[k]?.map fun p => t p.1 p.2) = some true) (fun k : Nat => (k : Int)) xa.length hit e ?_ ?_ ?_
  · refine h.trans ?_
    have ha := any_ex (t := fun p : α × γ => t p.1 p.2) (l := xa.zip xb)
    rw [hz] at ha
    by_cases hh : (xa.zip xb).any (fun p => t p.1 p.2) = true
    · rw [if_pos (ha.1 hh), if_pos hh]
    · rw [if_neg (fun h => hh (ha.2 h)), if_neg hh]
  · intro k hk hp
    have hk2 : k < xb.length := by omega
    have hk3 : k < (xa.zip xb).length := by omega
    have hz3 : (xa.zip xb)[k]? = some (xa[k], xb[k]) := by rw [List.getElem?_eq_getElem hk3, List.getElem_zip]
    rw [hz3] at hp
    simp at hp
    simp [hk, getN hk, getN hk2, hp, w64s hk hn]
  · intro k hk hp
    have hk2 : k < xb.length := by omega
    have hk3 : k < (xa.zip xb).length := by omega
    have hz3 : (xa.zip xb)[k]? = some (xa[k], xb[k]) := by rw [List.getElem?_eq_getElem hk3, List.getElem_zip]
    rw [hz3] at hp
    simp at hp
    simp [hk, getN hk, getN hk2, hp]
  · simp
theorem zip_any_ne {α : Type} [DecidableEq α] {xs ys : List α} (h : xs.length = ys.length) : (xs.zip ys).any (fun p => !decide (p.1 = p.2)) = !decide (xs = ys) := by
  induction xs generalizing ys with
  | nil => cases ys with
    | nil => rfl
    | cons => cases h
  | cons x xs ih => cases ys with
    | nil => cases h
    | cons y ys =>
      simp only [List.zip_cons_cons, List.any_cons, ih (by simpa using h), List.cons.injEq]
      by_cases h1 : x = y <;> simp [h1]
/-- A list searched for a place. -/
theorem loop_idx {α γ : Type} (xa : List α) (t : α → γ → Bool) (q : γ) (hn : xa.length ≤ 9223372036854775807) :
    ∃ r, loop (fun ((i, c) : Int × γ) => (cond (decide (i < ((xa.length : Nat) : Int))) ((getI xa i).bind fun x => cond (t x c) (some (.inr (.inr (i, c)))) (some (.inl (IntKind.wrap .i64 (i + 1), c)))) (some (.inr (.inl c))) : Option ((Int × γ) ⊕ (γ ⊕ (Int × γ))))) (0, q) = some r ∧ ((r = .inl q ∧ xa.any (t · q) = false) ∨ ∃ k : Nat, r = .inr ((k : Int), q) ∧ xa.any (t · q) = true) := by
  have h := loop_find (body := fun ((i, c) : Int × γ) => (cond (decide (i < ((xa.length : Nat) : Int))) ((getI xa i).bind fun x => cond (t x c) (some (.inr (.inr (i, c)))) (some (.inl (IntKind.wrap .i64 (i + 1), c)))) (some (.inr (.inl c))) : Option ((Int × γ) ⊕ (γ ⊕ (Int × γ)))))
    (fun k => (xa[k]?.map (t · q)) = some true) (fun k : Nat => ((k : Int), q)) xa.length (fun k => .inr ((k : Int), q)) (.inl q) ?_ ?_ ?_
  · rcases h with ⟨k, h1, h2, _, h3⟩ | ⟨h1, h2⟩
    · exact ⟨_, h3, .inr ⟨k, rfl, any_ex.2 ⟨k, h1, h2⟩⟩⟩
    · refine ⟨_, h2, .inl ⟨rfl, ?_⟩⟩
      cases hh : xa.any (t · q) with
      | false => rfl
      | true => obtain ⟨k, h3, h4⟩ := any_ex.1 hh; exact absurd h4 (h1 k h3)
  · intro k hk hp
    simp [hk] at hp
    simp [hk, getN hk, hp, w64s hk hn]
  · intro k hk hp
    simp [hk] at hp
    simp [hk, getN hk, hp]
  · simp
/-- A list gone through, with something carried along. -/
theorem loop_fold {α γ : Type} (xa : List α) (f : γ → α → γ) (c0 : γ) (hn : xa.length ≤ 9223372036854775807) {body : γ × Int → Option ((γ × Int) ⊕ γ)}
    (hb : ∀ k x, xa[k]? = some x → body ((xa.take k).foldl f c0, (k : Int)) = some (.inl (f ((xa.take k).foldl f c0) x, IntKind.wrap .i64 ((k : Int) + 1)))) (he : body (xa.foldl f c0, (xa.length : Int)) = some (.inr (xa.foldl f c0))) : loop body (c0, 0) = some (xa.foldl f c0) := by
  have h := loop_nat (body := body) (fun k : Nat => ((xa.take k).foldl f c0, (k : Int))) xa.length (b := xa.foldl f c0) ?_ ?_
  · simpa using h
  · intro k hk
    rw [hb k xa[k] (by simp [hk]), w64s hk hn]
    congr 3
    rw [List.take_succ_eq_append_getElem hk, List.foldl_append]; rfl
  · simpa using he
theorem foldl_snoc {α γ : Type} (g : α → γ) (xa : List α) (c : List γ) : xa.foldl (fun c x => c ++ [g x]) c = c ++ xa.map g := by
  induction xa generalizing c with
  | nil => simp
  | cons x xa ih => simp [ih]
/-- A list built by going through another. -/
theorem loop_map {α γ : Type} (xa : List α) (g : α → γ) (c0 : List γ) (hn : c0.length + xa.length ≤ 1073741824) {body : List γ × Int → Option ((List γ × Int) ⊕ List γ)}
    (hb : ∀ (c : List γ) (i : Int), body (c, i) = cond (decide (i < ((xa.length : Nat) : Int))) ((getI xa i).bind fun x => (app c [g x]).bind fun z => some (.inl (z, IntKind.wrap .i64 (i + 1)))) (some (.inr c))) : loop body (c0, 0) = some (c0 ++ xa.map g) := by
  rw [← foldl_snoc]
  refine loop_fold xa (fun c x => c ++ [g x]) c0 (by omega) (fun k x hx => ?_) ?_
  · have hk := (List.getElem?_eq_some_iff.1 hx).1
    rw [hb, foldl_snoc]
    have hx' : xa[k] = x := by rw [List.getElem?_eq_getElem hk] at hx; exact Option.some.inj hx
    have ha := app_eq (a := c0 ++ (xa.take k).map g) (b := [g x]) (by simp; omega)
    simp only [Option.bind_some, getN hk, hx', ha, Int.ofNat_lt.2 hk, decide_true, cond_true]
  · rw [hb]; simp
end Go.Proofs.YtmlbbjkojaljnaaDoor
namespace Go.Proofs.YtmlbbjkojaljnaaDoor
set_option linter.unusedVariables false
theorem bind_of {α β : Type} {m : Option α} {f : α → Option β} {y : β} {Q : α → Prop} (h : ∃ r, m = some r ∧ Q r) (k : ∀ r, Q r → f r = some y) : m.bind f = some y := by
  obtain ⟨r, rfl, h2⟩ := h; exact k r h2
theorem bind_ex {α β : Type} {m : Option α} {f : α → Option β} {Q : α → Prop} {R : β → Prop} (h : ∃ r, m = some r ∧ Q r) (k : ∀ r, Q r → ∃ y, f r = some y ∧ R y) : ∃ y, m.bind f = some y ∧ R y := by
  obtain ⟨r, rfl, h2⟩ := h; exact k r h2
theorem getZ {α : Type} {l : List α} {i : Int} (h0 : 0 ≤ i) (h1 : i < (l.length : Nat)) : getI l i = some (l[i.toNat]'(by omega)) := by
  unfold getI; rw [if_pos h0]; simp
theorem getN1 {α : Type} {l : List α} {k : Nat} (h : k + 1 < l.length) : getI l ((k : Int) + 1) = some l[k + 1] := getI_eq rfl h
theorem dlt {k n : Nat} (h : k < n) : decide ((k : Int) < (n : Int)) = true := by simp; omega
theorem dge {k n : Nat} (h : ¬ k < n) : decide ((k : Int) < (n : Int)) = false := by simp; omega
theorem beq_dec {α : Type} [DecidableEq α] (a b : α) : (a == b) = decide (a = b) := Bool.beq_eq_decide_eq a b
section
variable {α β γ σ : Type}
/-- Counted from 0 to n, with a way out. -/
theorem loop_stop {body : σ → Option (σ ⊕ β)} (n : Nat) (st : Nat → σ) (stop : Nat → Option β) (e : β) (h : ∀ k, k < n → body (st k) = some (match stop k with | none => .inl (st (k + 1)) | some b => .inr b)) (he : body (st n) = some (.inr e)) :
    loop body (st 0) = some (((List.range n).findSome? stop).getD e) := by
  rcases loop_find (fun k => (stop k).isSome = true) st n (fun k => (stop k).getD e) e (fun k hk hp => by
      rw [h k hk]; cases hs : stop k with
      | none => rfl
      | some b => simp [hs] at hp) (fun k hk hp => by
      rw [h k hk]; cases hs : stop k with
      | none => simp [hs] at hp
      | some b => rfl) he with ⟨k, h1, h2, h3, h4⟩ | ⟨h1, h2⟩
  · rw [h4]
    obtain ⟨b, hb⟩ := Option.isSome_iff_exists.1 h2
    have : (List.range n).findSome? stop = some b := by
      rw [List.findSome?_eq_some_iff]
      refine ⟨List.range k, k, (List.range' (k + 1) (n - k - 1)), ?_, hb, fun a ha => ?_⟩
      · rw [List.range_eq_range', List.range_eq_range', ← List.range'_succ (s := k) (n := n - k - 1)]
        rw [show n - k - 1 + 1 = n - k by omega]
        have := List.range'_append_1 (s := 0) (m := k) (n := n - k)
        rw [Nat.zero_add, show k + (n - k) = n by omega] at this
        exact this.symm
      · have := h3 a (List.mem_range.1 ha)
        cases hs : stop a with
        | none => rfl
        | some b => simp [hs] at this
    rw [this, hb]
  · rw [h2]
    have : (List.range n).findSome? stop = none := by
      rw [List.findSome?_eq_none_iff]
      intro a ha
      have := h1 a (List.mem_range.1 ha)
      cases hs : stop a with
      | none => rfl
      | some b => simp [hs] at this
    rw [this]; rfl
/-- A list searched: where the first hit lies. -/
theorem loop_search {body : Int → Option (Int ⊕ β)} (xa : List α) (t : α → Bool) (hit : Nat → β) (e : β) (hb : ∀ (k : Nat) (h : k < xa.length), body (k : Int) = some (if t xa[k] then .inr (hit k) else .inl ((k + 1 : Nat) : Int))) (he : body (xa.length : Int) = some (.inr e)) :
    loop body 0 = some (match xa.findIdx? t with | some k => hit k | none => e) := by
  rcases loop_find (fun k => ∃ h : k < xa.length, t xa[k] = true) (fun k : Nat => (k : Int)) xa.length hit e (fun k hk hp => by
      rw [hb k hk, if_neg (fun h => hp ⟨hk, h⟩)]) (fun k hk ⟨_, hp⟩ => by rw [hb k hk, if_pos hp]) he with ⟨k, h1, ⟨_, h2⟩, h3, h4⟩ | ⟨h1, h2⟩
  · rw [show ((0 : Int)) = ((0 : Nat) : Int) from rfl, h4]
    have : xa.findIdx? t = some k := by
      rw [List.findIdx?_eq_some_iff_getElem]
      exact ⟨h1, h2, fun j hj => fun hc => h3 j hj ⟨by omega, by simpa using hc⟩⟩
    rw [this]
  · rw [show ((0 : Int)) = ((0 : Nat) : Int) from rfl, h2]
    have : xa.findIdx? t = none := by
      rw [List.findIdx?_eq_none_iff]
      intro x hx
      obtain ⟨k, hk, rfl⟩ := List.getElem_of_mem hx
      cases hc : t xa[k] with
      | false => rfl
      | true => exact absurd ⟨hk, hc⟩ (h1 k hk)
    rw [this]
theorem loop_some {body : Int → Option (Int ⊕ β)} (xa : List α) (t : α → Bool) (hit e : β) (hb : ∀ (k : Nat) (h : k < xa.length), body (k : Int) = some (if t xa[k] then .inr hit else .inl ((k + 1 : Nat) : Int))) (he : body (xa.length : Int) = some (.inr e)) :
    loop body 0 = some (if xa.any t then hit else e) := by
  rw [loop_search xa t (fun _ => hit) e hb he]
  cases h : xa.findIdx? t with
  | none =>
    have : xa.any t = false := by
      rw [List.any_eq_false]; intro x hx; have := List.findIdx?_eq_none_iff.1 h x hx; simp [this]
    rw [this]; rfl
  | some k =>
    obtain ⟨hk, h1, _⟩ := List.findIdx?_eq_some_iff_getElem.1 h
    have : xa.any t = true := List.any_eq_true.2 ⟨_, List.getElem_mem hk, h1⟩
    rw [this]; rfl
/-- A list gone through, with what is carried along. -/
theorem loop_carry {δ : Type} {body : (γ × Int) → Option ((γ × Int) ⊕ δ)} (xa : List α) (acc : Nat → γ) (out : δ) (hb : ∀ (k : Nat) (h : k < xa.length), body (acc k, (k : Int)) = some (.inl (acc (k + 1), ((k + 1 : Nat) : Int)))) (he : body (acc xa.length, (xa.length : Int)) = some (.inr out)) :
    loop body (acc 0, 0) = some out := loop_nat (fun k => (acc k, (k : Int))) xa.length hb he
/-- Two lists held against each other, place by place. -/
theorem loop_alike [DecidableEq α] {body : Int → Option (Int ⊕ β)} (xa xb : List α) (hit e : β) (hl : xa.length = xb.length) (hb : ∀ (k : Nat) (h : k < xa.length), body (k : Int) = some (if xa[k] = (xb[k]'(by omega)) then .inl ((k + 1 : Nat) : Int) else .inr hit)) (he : body (xa.length : Int) = some (.inr e)) :
    loop body 0 = some (if xa = xb then e else hit) := by
  rw [loop_search (List.range xa.length) (fun k => decide (xa[k]? ≠ xb[k]?)) (fun _ => hit) e (fun k h => by
      simp at h
      rw [hb k h]
      have h2 : k < xb.length := by omega
      by_cases hq : xa[k] = xb[k] <;> simp [h, h2, hq]) (by simpa using he)]
  by_cases hq : xa = xb
  · subst hq
    have : (List.range xa.length).findIdx? (fun k => decide (xa[k]? ≠ xa[k]?)) = none := by rw [List.findIdx?_eq_none_iff]; simp
    rw [this]; simp
  · cases h : (List.range xa.length).findIdx? (fun k => decide (xa[k]? ≠ xb[k]?)) with
    | some k => simp [hq]
    | none =>
      exfalso; apply hq
      rw [List.findIdx?_eq_none_iff] at h
      apply List.ext_getElem?
      intro k
      by_cases hk : k < xa.length
      · simpa using h k (List.mem_range.2 hk)
      · rw [List.getElem?_eq_none (by omega), List.getElem?_eq_none (by omega)]
theorem take_snoc {l : List α} {k : Nat} (h : k < l.length) : l.take (k + 1) = l.take k ++ [l[k]] := List.take_succ_eq_append_getElem h
theorem dlen {a b : Nat} (h : a = b) : (!decide ((a : Int) = (b : Int))) = false := by simp [h]
theorem dlen' {a b : Nat} (h : ¬ a = b) : (!decide ((a : Int) = (b : Int))) = true := by simp; omega
end
theorem ok64 {x : Int} (h : Tp.Ok (.int .i64) x) : -9223372036854775808 ≤ x ∧ x ≤ 9223372036854775807 := by
  have h' : (Lit.int .i64 x).wf = true := h
  simp only [Lit.wf, IntKind.min, IntKind.max, IntKind.signed, IntKind.bits, Bool.and_eq_true, decide_eq_true_eq] at h'
  simp at h'; omega
theorem sub1 {α : Type} {l : List α} (h : 1 ≤ l.length) : subL l 1 ((l.length : Nat) : Int) = some (l.drop 1) := by
  rw [subL_eq (by omega) (by omega) (by omega)]; simp
end Go.Proofs.YtmlbbjkojaljnaaDoor
namespace Go.Proofs.YtmlbbjkojaljnaaDoor
open Go.RowKit
set_option linter.unusedVariables false
set_option linter.unusedSimpArgs false
set_option linter.unnecessarySimpa false
set_option maxRecDepth 20000
theorem awake39 : fn_law39_awake = some true := by
  unfold fn_law39_awake
  have h : fn_pool_New_string 2 = some (.inr (0, some (2, []))) := by
    unfold fn_pool_New_string
    rw [show (mk 2 2 () : Option (List Unit)) = some (List.replicate 2 ()) from mkN (k := 2) (by decide)]
    rfl
  rw [h]
  simp only [Option.bind_some, putF, getF]
  unfold fn_pool_Pool_string_Len_p0_od fn_pool_Pool_string_Room_p0_od
  rfl
theorem newI3 : fn_pool_New_int 3 = some (.inr (0, some (3, []))) := by
  unfold fn_pool_New_int
  rw [show (mk 3 3 () : Option (List Unit)) = some (List.replicate 3 ()) from mkN (k := 3) (by decide)]
  rfl
theorem moveTo3 : fn_pool_Move_int_zp0_od (some (3, [])) = some (0, some (3, [])) := by
  unfold fn_pool_Move_int_zp0_od
  rw [loop_end (b := ((0 : Int), (some (3, []) : Option (Int × List Int)))) (by
    unfold fn_pool_Move_int_zp0_od_l1 fn_pool_Pool_int_Room_p0_od fn_pool_Pool_int_Get_z
    rfl)]
  rfl
theorem moveFrom3 : fn_pool_Move_int_p0z_od (some (3, [])) = some (0, some (3, [])) := by
  unfold fn_pool_Move_int_p0z_od
  rw [loop_end (b := ((0 : Int), (some (3, []) : Option (Int × List Int)))) (by
    unfold fn_pool_Move_int_p0z_od_l1 fn_pool_Pool_int_Room_z
    rfl)]
  rfl
theorem dNew (n : Nat) (h1 : 0 < n) (h2 : n ≤ 64) : fn_dense_New (n : Int) = some (.inr (0, (n : Int), [0])) := by
  unfold fn_dense_New
  have e1 : decide ((n : Int) < 0) = false := by simp
  have e2 : decide (1048576 < (n : Int)) = false := by simp; omega
  have e3 : IntKind.wrap .i64 (Int.tdiv (IntKind.wrap .i64 ((IntKind.wrap .i64 ((n : Int) + 64)) - 1)) 64) = ((1 : Nat) : Int) := by
    rw [w64 (x := (n : Int) + 64) (by omega) (by omega), w64 (x := (n : Int) + 64 - 1) (by omega) (by omega)]
    have : Int.tdiv ((n : Int) + 64 - 1) 64 = 1 := by rw [Int.tdiv_eq_ediv_of_nonneg (by omega)]; omega
    rw [this]; rfl
  rw [e1, cond_false, e2, cond_false, e3, mkN (by decide)]
  rfl
theorem newSets (n : Nat) (h1 : 0 < n) (h2 : n ≤ 64) : fn_pool_NewSets (n : Int) 1 = some (.inr (0, (n : Int), some (some (1, [])))) := by
  unfold fn_pool_NewSets
  rw [dNew n h1 h2]
  have e : fn_pool_New_dense_Set 1 = some (.inr (0, some (1, []))) := by
    unfold fn_pool_New_dense_Set
    rw [show (mk 1 1 () : Option (List Unit)) = some (List.replicate 1 ()) from mkN (k := 1) (by decide)]
    rfl
  simp [e]
theorem take6 : fn_pool_Sets_Take_p0_iiod 6 0 (some (some (1, []))) = some (.inr (1, some (some (1, [])), 6, [0])) := by
  unfold fn_pool_Sets_Take_p0_iiod
  have := dNew 6 (by decide) (by decide)
  simp only [Option.bind_some, getNo]
  rw [show (6 : Int) = ((6 : Nat) : Int) from rfl, this]
  rfl
theorem add5 : fn_dense_Set_Add_p0i_ir 5 6 [0] = some (true, [32]) := by
  have h1 : fn_dense_Set_mayHave (some (6, [0])) 5 = some true := by unfold fn_dense_Set_mayHave fn_dense_Set_Size; rfl
  have h2 : fn_dense_Set_Has (some (6, [0])) 5 = some false := by
    unfold fn_dense_Set_Has
    rw [h1]
    decide
  unfold fn_dense_Set_Add_p0i_ir
  rw [h1, h2]
  decide
theorem has5 : fn_dense_Set_Has (some (6, [32])) 5 = some true := by
  have h1 : fn_dense_Set_mayHave (some (6, [32])) 5 = some true := by unfold fn_dense_Set_mayHave fn_dense_Set_Size; rfl
  unfold fn_dense_Set_Has
  rw [h1]
  decide
theorem give5 : fn_pool_Sets_Give_p0p1_iiod_ir 5 0 (some (some (1, []))) 6 [32] = some (false, some (some (1, [])), [32]) := by
  unfold fn_pool_Sets_Give_p0p1_iiod_ir fn_dense_Set_Size
  rfl
theorem PoolNone_true (xa : Int) (k0 : Tp.Ok (.int .i64) xa) : fn_law39_PoolNone xa = some true := by
  unfold fn_law39_PoolNone
  rw [newI3]
  have n5 := newSets 5 (by decide) (by decide)
  have n6 := newSets 6 (by decide) (by decide)
  have e5 : (((5 : Nat)) : Int) = 5 := rfl
  have e6 : (((6 : Nat)) : Int) = 6 := rfl
  rw [e5] at n5
  rw [e6] at n6
  simp only [Option.bind_some, fn_pool_Pool_int_Get_z, fn_pool_Pool_int_Put_zi, fn_pool_Pool_int_Len_z, fn_pool_Pool_int_Room_z, decide_true, Bool.not_true, Bool.or_self, cond_false, moveTo3, moveFrom3, fn_pool_Sets_Take_z, fn_pool_Sets_Give_zz, fn_pool_Sets_Made_z, n5, n6, take6, add5, give5, fn_pool_Sets_Give_p0z_iiod, Bool.not_false, cond_true, has5, fn_pool_Sets_Give_zp0_ir, awake39]
end Go.Proofs.YtmlbbjkojaljnaaDoor
namespace Go.Proofs.YtmlbbjkojaljnaaDoor
open Go.RowKit
set_option linter.unusedVariables false
set_option linter.unnecessarySimpa false
set_option linter.unusedSimpArgs false
set_option maxRecDepth 20000
theorem PoolNone_walk {H : Type} (enc : TypeId × Value → H) (W : World) (base : Nat) {v0 : Value} {d0 : DataW H} {p0 : List MemPlace}
    (h0 : DataW.Trod enc Tryd.prog W 0 (fun _ => true) true 3 v0 d0 p0)
    (o0 : Value.okWide Tryd.prog W .any base 3 v0) :
    Calls Tryd.prog 4 #[v0] W fun e W' => e = .returned (.bool true) ∧ Below W.heap.size W W' := by
  obtain ⟨xa, i0, k0⟩ := Tp.arg (.int .i64) (by kernel_rfl) o0 h0
  exact walkX (s := sp_law39_PoolNone) (x := xa) (args := [v0]) law39_PoolNone_is (PoolNone_true xa k0) trivial rfl rfl ⟨_, _, rfl, of_rel _ i0, rfl⟩
end Go.Proofs.YtmlbbjkojaljnaaDoor
namespace Go.Proofs.YtmlbbjkojaljnaaDoor.poolNoneFrame
set_option maxRecDepth 40000
open Go.ChangeShapes Go.WideShapes Go.ChangeAt Go.RowKit
theorem own : ownKnob Tryd.prog.godebug = none := by kernel_rfl
theorem contract (H : Type) (enc : TypeId × Value → H) (W : World) (base : Nat) (args : Array Value) (ds gs : List (DataW H)) (before : List MemPlace)
    (hval : ∀ (j : Nat) t v, Tryd.f4.params[j]? = some t → args[j]? = some v → Value.okWide Tryd.prog W .any base t v)
    (hW : DataW.Whole enc Tryd.prog Tryd.f4.params.toList Rows.poolNoneSpec.vars false W args.toList ds gs before) :
    Calls Tryd.prog 4 args W fun e W' => ∃ v, e = .returned v ∧ Rows.poolNoneSpec.post enc Tryd.prog Tryd.f4 false true false false W args v W' := by
  have hW' := hW
  obtain ⟨p, q, hA0, hV, rfl, hfz, hnd⟩ := hW
  have hA : DataW.TrodAll enc Tryd.prog W 0 (fun _ => true) true Tryd.f4.params.toList args.toList ds p := hA0
  rw [Tryd.params4] at hA hval
  obtain ⟨v0, vs0, d0, ds0, p0, q0, hargs, rfl, rfl, h0, r0⟩ := trodAll_cons hA
  obtain ⟨rfl, rfl, rfl⟩ := trodAll_nil r0
  obtain rfl : args = #[v0] := by cases args; simp_all
  refine (PoolNone_walk enc W base h0 (hval 0 _ v0 rfl rfl)).mono fun e W' ⟨he, hb⟩ => ?_
  subst he
  exact ⟨_, rfl, law_post (tb := _) rfl hW' rfl rfl (by kernel_rfl) (by kernel_rfl) (of_decide_eq_true (by kernel_rfl)) hb⟩
noncomputable def world (os : Os) : World := World.laidAll Tryd.prog os Rows.poolNoneRow.laid
theorem reads (os : Os) {H : Type} (enc : TypeId × Value → H) : ∃ x, DataW.whole enc Tryd.prog ((world os).forCall (fun _ _ => 0) ⟨#[], #[.int .i64 0], []⟩).memory Tryd.f4.params.toList Rows.poolNoneSpec.vars false (#[.int .i64 0] : Array Value).toList 8 = some x :=
  Option.isSome_iff_exists.1 (by kernel_rfl)
set_option maxRecDepth 100000 in
theorem lifted (os : Os) (started : os.Started) (H : Type) (enc : TypeId × Value → H) (F : Stop.Interp) :
    ReturnsInHanded {} Tryd.checked os 4 .any ((OpenSpec.ofChange Rows.poolNoneSpec).preRow enc Tryd.prog Tryd.f4 Rows.poolNoneRow.domain false Rows.poolNoneRow.laid) (((OpenSpec.ofChange Rows.poolNoneSpec).at F).post enc Tryd.prog Tryd.f4 false true false false) := by
  obtain ⟨x, hx⟩ := reads os enc
  refine returnsInHanded_of_row (C := Tryd.checked) (s := OpenSpec.ofChange Rows.poolNoneSpec) own started (by kernel_rfl) Tryd.func4
    ⟨world os, fun _ _ => 0, ⟨#[], #[.int .i64 0], []⟩, World.laidAll_os _ _ _, World.shaped_of_ZipB (by kernel_rfl) (by kernel_rfl), rfl, (Input.okWide_of_okWideB (by kernel_rfl)).2,
      OpenSpec.preRow_of_cond 8 hx (by kernel_rfl) (fun k hk => by cases hk) (by kernel_rfl) (by rw [MakeChecks.laidMetH_plain _ _ _ (by kernel_rfl)]; exact laidMet_laidAll _ (by kernel_rfl) (by kernel_rfl)),
      by simp only [Assume.holds]; exact ⟨by simp, by simp, by simp, by simp, by simp⟩⟩ ?_
  intro W base args ds gs before hval hW _ _ _ hL _ _
  exact contract H enc W base args ds gs before hval hW
theorem proved : Rows.PoolNoneSaid :=
  OpenClaim.holds_of_cond 4 Tryd.f4 rfl rfl rfl rfl rfl rfl rfl ⟨rfl, rfl, rfl, rfl, rfl⟩ rfl rfl rfl rfl rfl (by kernel_rfl) Tryd.func4 (by kernel_rfl)
    (of_decide_eq_true (by kernel_rfl)) (by unfold Func.isWrapper; first | (rw [if_pos (by decide +kernel)]; kernel_rfl) | (rw [if_neg (by decide +kernel)]; exact ⟨rfl, rfl⟩))
    (fun os started H enc _ F => by rw [OpenClaim.pre_eq_preRow]; exact lifted os started H enc F)
theorem card : Rows.PoolNoneCardSaid :=
  Claim7.holds_tied_plain_at .later [] [.data] true (true, "f4e9763ac16a8ca2ade756a676b4130c2ddf149700c301966da13f33e7b866e7") false proved (fun _ h => by cases h) (by kernel_rfl) (fun _ h => by cases h) poolNone_row_tie rfl ⟨rfl, rfl⟩ (by kernel_rfl) rfl
    (fun f fn hf hfn => by
      obtain rfl : f = 4 := Option.some.inj ((show Tryd.prog.funcNamed "easement/easementlaw39.PoolNone" = some 4 by kernel_rfl).symm.trans hf) |>.symm
      obtain rfl : fn = Tryd.f4 := (Option.some.inj (Tryd.func4.symm.trans hfn)).symm
      exact ⟨by kernel_rfl, fun j t ht => by
        rw [Tryd.params4] at ht
        have hm : t ∈ [3] := by simpa using Array.mem_of_getElem? ht
        have hall : ([3].all fun u => !Tryd.prog.wantsStandIn u) = true := by kernel_rfl
        exact (show Tryd.prog.wantsStandIn t = false by simpa using List.all_eq_true.1 hall t hm)⟩)
    (by kernel_rfl)
end Go.Proofs.YtmlbbjkojaljnaaDoor.poolNoneFrame
