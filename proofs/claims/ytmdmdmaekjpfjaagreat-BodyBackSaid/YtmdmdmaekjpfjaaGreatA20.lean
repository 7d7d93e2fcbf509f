import Derived.Test.YtmdmdmaekjpfjaaGreatH20
namespace Go.Proofs.YtmdmdmaekjpfjaaGreat
open Go.RowKit Lb
set_option linter.unusedVariables false
set_option linter.unnecessarySimpa false
set_option linter.unusedSimpArgs false
abbrev b20 : Bod := (1, 1, [], [[]], [], [], [([], (3, 0, 0, [], [], []))])
theorem put20 : fn_body_Put b20 = some ([109, 105, 114, 1, 1, 1, 0, 1, 0, 0, 0, 1, 0, 3], 0) := by
  have a1 : fn_leb_All [1, 1] = some [1, 1] := by rw [lebAll_eq [1, 1] (by simp)]; rfl
  have a2 : fn_sig_PutBounds [] = some [0] := by rw [sigPutBounds_eq [] (by simp)]; rfl
  have a4 : fn_sig_PutType [] = some [0] := by rw [sigPutType_eq [] (by simp) (by simp)]; rfl
  have a5 : fn_term_Put (3, 0, 0, [], [], []) = some ([3], 0) := by rw [tPut_eq]; rfl
  have l1 (s : List UInt8) (h : s.length ≤ 100) : loop (fn_body_Put_l1 b20) (0, s) = some (s ++ [0]) := by
    have e1 : fn_body_Put_l1 b20 (0, s) = some (.inl (1, s ++ [0])) := by
      unfold fn_body_Put_l1
      show ((fn_sig_PutType []).bind _ : Option _) = _
      rw [a4, Option.bind_some, wrS_eq _ _ (by simp; omega)]; rfl
    have e2 : fn_body_Put_l1 b20 (1, s ++ [0]) = some (.inr (s ++ [0])) := rfl
    rw [loop_next e1, loop_end e2]
  have l2 (s : List UInt8) : loop (fn_body_Put_l2 b20) (0, s) = some s := loop_end rfl
  have l3 (s : List UInt8) (h : s.length ≤ 100) : loop (fn_body_Put_l3 b20) (0, s) = some (.inl (s ++ [0, 3])) := by
    have e0 : fn_body_putBlock_p0a_s ([], (3, 0, 0, [], [], [])) s = some (0, s ++ [0, 3]) := by
      unfold fn_body_putBlock_p0a_s
      rw [lebPut_eq]
      show ((wrS s [0]).bind _ : Option _) = _
      rw [wrS_eq _ _ (by simp; omega), Option.bind_some, loop_end (body := fn_body_putBlock_p0a_s_l1 ([], (3, 0, 0, [], [], []))) (b := .inl (s ++ [0])) rfl]
      show ((fn_term_Put (3, 0, 0, [], [], [])).bind _ : Option _) = _
      rw [a5]
      show ((wrS (s ++ [0]) [3]).bind _ : Option _) = _
      rw [wrS_eq _ _ (by simp; omega)]
      simp
    have e1 : fn_body_Put_l3 b20 (0, s) = some (.inl (1, s ++ [0, 3])) := by
      unfold fn_body_Put_l3
      show ((fn_body_putBlock_p0a_s ([], (3, 0, 0, [], [], [])) s).bind _ : Option _) = _
      rw [e0]; rfl
    have e2 : fn_body_Put_l3 b20 (1, s ++ [0, 3]) = some (.inr (.inl (s ++ [0, 3]))) := rfl
    rw [loop_next e1, loop_end e2]
  unfold fn_body_Put
  rw [wrS_eq _ _ (by simp), Option.bind_some, show fn_leb_All [b20.1, b20.2.1] = _ from a1, Option.bind_some, wrS_eq _ _ (by simp), Option.bind_some, show fn_sig_PutBounds b20.2.2.1 = _ from a2, Option.bind_some, wrS_eq _ _ (by simp), Option.bind_some, lebPut_eq, Option.bind_some,
    show put ((b20.2.2.2.1.length : Nat) : Int) = [1] from rfl, wrS_eq _ _ (by simp), Option.bind_some, l1 _ (by simp), Option.bind_some, show fn_sig_PutType b20.2.2.2.2.1 = _ from a4, Option.bind_some, wrS_eq _ _ (by simp), Option.bind_some, lebPut_eq, Option.bind_some, show put ((b20.2.2.2.2.2.1.length : Nat) : Int) = [0] from rfl,
    wrS_eq _ _ (by simp), Option.bind_some, l2, Option.bind_some, lebPut_eq, Option.bind_some, show put ((b20.2.2.2.2.2.2.length : Nat) : Int) = [1] from rfl, wrS_eq _ _ (by simp), Option.bind_some, l3 _ (by simp)]
  rfl
theorem body20 (T : List UInt8) (hT : T.length ≤ 100) : pbody (1 :: 1 :: 0 :: 1 :: 0 :: 0 :: 0 :: 1 :: 0 :: 3 :: T) = .inr (b20, 10) := by
  have ht : pterm (3 :: T) = .inr ((3, 0, 0, [], [], []), 1) := by
    have h := (takeB (3, 0, 0, [], [], []) T (by decide) (by omega) (by simp) (by simp) (by simp [Small]) (by simp [Small]) (by simp [Small])).1
    unfold pterm
    rw [if_pos (by simp; omega), show (3 :: T : List UInt8) = tPut (3, 0, 0, [], [], []) ++ T from rfl, h]
    rfl
  have hb : pblk (0 :: 3 :: T) = .inr (([], (3, 0, 0, [], [], [])), 2) := by
    unfold pblk
    rw [pb_of (show plist 65536 pstmt (0 :: 3 :: T) = .inr ([], 1) from rfl)]
    show padd 1 (pb pterm _ (3 :: T)) = _
    rw [pb_of ht]; rfl
  have hx : plist 65536 pblk (1 :: 0 :: 3 :: T) = .inr ([([], (3, 0, 0, [], [], []))], 3) := by
    unfold plist
    rw [pb_of (show pcount 65536 (1 :: 0 :: 3 :: T) = .inr (1, 1) from rfl)]
    show padd 1 (pb pblk _ (0 :: 3 :: T)) = _
    rw [pb_of hb]; rfl
  unfold pbody
  rw [pb_of (show pcount 65536 (1 :: 1 :: 0 :: 1 :: 0 :: 0 :: 0 :: 1 :: 0 :: 3 :: T) = .inr (1, 1) from rfl)]
  show padd 1 (pb (pcount 65536) _ (1 :: 0 :: 1 :: 0 :: 0 :: 0 :: 1 :: 0 :: 3 :: T)) = _
  rw [pb_of (show pcount 65536 (1 :: 0 :: 1 :: 0 :: 0 :: 0 :: 1 :: 0 :: 3 :: T) = .inr (1, 1) from rfl)]
  show padd 1 (padd 1 (pb (pbounds 65536) _ (0 :: 1 :: 0 :: 0 :: 0 :: 1 :: 0 :: 3 :: T))) = _
  rw [pb_of (show pbounds 65536 (0 :: 1 :: 0 :: 0 :: 0 :: 1 :: 0 :: 3 :: T) = .inr ([], 1) from rfl)]
  show padd 1 (padd 1 (padd 1 (pb (plist 65536 ptype) _ (1 :: 0 :: 0 :: 0 :: 1 :: 0 :: 3 :: T)))) = _
  rw [pb_of (show plist 65536 ptype (1 :: 0 :: 0 :: 0 :: 1 :: 0 :: 3 :: T) = .inr ([[]], 2) from rfl)]
  show padd 1 (padd 1 (padd 1 (padd 2 (pb ptype _ (0 :: 0 :: 1 :: 0 :: 3 :: T))))) = _
  rw [pb_of (show ptype (0 :: 0 :: 1 :: 0 :: 3 :: T) = .inr ([], 1) from rfl)]
  show padd 1 (padd 1 (padd 1 (padd 2 (padd 1 (pb (plist 65536 psig) _ (0 :: 1 :: 0 :: 3 :: T)))))) = _
  rw [pb_of (show plist 65536 psig (0 :: 1 :: 0 :: 3 :: T) = .inr ([], 1) from rfl)]
  show padd 1 (padd 1 (padd 1 (padd 2 (padd 1 (padd 1 (pb (plist 65536 pblk) _ (1 :: 0 :: 3 :: T))))))) = _
  rw [pb_of hx]; rfl
theorem tk20 (T : List UInt8) (hT : T.length ≤ 100) : tk (109 :: 105 :: 114 :: 1 :: 1 :: 1 :: 0 :: 1 :: 0 :: 0 :: 0 :: 1 :: 0 :: 3 :: T) = if T = [] then (b20, 0) else (zB, 13) := by
  unfold tk
  rw [show headed (109 :: 105 :: 114 :: 1 :: 1 :: 1 :: 0 :: 1 :: 0 :: 0 :: 0 :: 1 :: 0 :: 3 :: T) = true from by unfold headed; simp, if_pos rfl]
  rw [show List.drop 4 (109 :: 105 :: 114 :: 1 :: 1 :: 1 :: 0 :: 1 :: 0 :: 0 :: 0 :: 1 :: 0 :: 3 :: T) = 1 :: 1 :: 0 :: 1 :: 0 :: 0 :: 0 :: 1 :: 0 :: 3 :: T from rfl, body20 T hT]
  rfl
theorem awake20 : fn_law20_awake = some true := by
  unfold fn_law20_awake fn_law20_one
  simp only [Option.bind_some]
  rw [show fn_body_Put (1, 1, [], [[]], [], [], [([], (3, 0, 0, [], [], []))]) = _ from put20, Option.bind_some, takeZ_eq _ (by simp), tk20 [] (by simp), if_pos rfl, Option.bind_some]
  dsimp only
  rw [app_eq (by simp), Option.bind_some]
  show ((fn_body_Take_sz (109 :: 105 :: 114 :: 1 :: 1 :: 1 :: 0 :: 1 :: 0 :: 0 :: 0 :: 1 :: 0 :: 3 :: [120])).bind _ : Option _) = _
  rw [takeZ_eq _ (by simp), tk20 [120] (by simp), if_neg (by simp), Option.bind_some]
  dsimp only
  rw [show fn_ref20_Same (1, 1, [], [[]], [], [], [([], (3, 0, 0, [], [], []))]) (1, 1, [], [[]], [], [], [([], (3, 0, 0, [], [], []))]) = _ from refSame20_eq b20 b20 ⟨by simp, by simp, by simp, by simp, by simp⟩]
  rfl
end Go.Proofs.YtmdmdmaekjpfjaaGreat
