/-
  What name, quotedName, quotedText, param and systemVar of package scan return for any text. Conditions: at most 2,000,000 bytes; the library's variables read as they were laid.
-/
import Derived.Test.YtddfbaaghjcbnaaGreatDoorScQuo
namespace Go.Proofs.YtddfbaaghjcbnaaGreatDoor
open Go.RowKit
set_option linter.unusedVariables false
set_option linter.unusedSimpArgs false

set_option maxHeartbeats 1000000 in
set_option maxRecDepth 20000 in
theorem name_any (s : ByteArray) (w : World) (hV : Vr w) (hs : s.size ≤ 2000000) : Calls Tryz.prog 24 #[.string s] w fun e w' => e = .returned (.agg (fdC (naF (bl s)))) ∧ Below w.heap.size w w' := by
  have HV := hide hV
  have c0 := fun wx (h : Vr wx) => aheadN s wx h
  have c1 := fun wx (h : Vr wx) => aheadD s wx h
  have hle := ah_le isN (bl s)
  rw [bl_len] at hle
  unfold naF
  generalize ah isN (bl s) = N at *
  generalize ah isD (bl s) = D at *
  have c2 := fun wx => lower_any (s.extract 0 N) wx (by rw [sz_pre _ _ hle]; omega)
  rw [bl_pre] at c2
  generalize ba (low ((bl s).take N)) = X at *
  have HC0 := hide c0
  have HC1 := hide c1
  have HC2 := hide c2
  clear c0 c1 c2
  by_cases h : N = D
  · have hb : ((N : Int) == (D : Int)) = true := by rw [beq_iff_eq]; omega
    rw [if_pos h]
    go_enter Tryz.func24, Tryz.ntmps24
    go_wp2_with (first | (with_reducible show wpList Tryz.prog _ _ (Oper.mk _ (Op.alloc 43) _ _ _ none :: _) _ _; refine wpList_alF rfl rfl ?_; intro wz rz bz sz) | (go_at_call 67; (with_reducible refine (unhide HC0 _ ((unhide HV).later bz)).mono ?_); rintro e wz ⟨rfl, qz⟩; have rz := rz.later qz; have bz := bt bz qz) | (go_at_call 67; (with_reducible refine (unhide HC1 _ ((unhide HV).later bz)).mono ?_); rintro e wz ⟨rfl, qz⟩; have rz := rz.later qz; have bz := bt bz qz) | (with_reducible show wpList Tryz.prog _ _ (Oper.mk _ (Op.store 43 _ _) _ _ _ none :: _) _ _; refine wpList_stF rfl (.tmp 2) (.tmp 10) rfl w.heap.size nil0 nil0 (by simp [Act.eval, Act.put]) (by simp [Act.eval, Act.put, fdC, nil0, ba]) rz ?_; intro wy ry gy sy))
    exact fd_end rfl w.heap.size _ _ rfl rfl ry rfl (below_gb bz gy (Nat.le_refl _))
  · have hb : ((N : Int) == (D : Int)) = false := by rw [beq_eq_false_iff_ne]; omega
    rw [if_neg h]
    go_enter Tryz.func24, Tryz.ntmps24
    go_wp2_with (first | (with_reducible show wpList Tryz.prog _ _ (Oper.mk _ (Op.alloc 43) _ _ _ none :: _) _ _; refine wpList_alF rfl rfl ?_; intro wz rz bz sz) | (go_at_call 67; (with_reducible refine (unhide HC0 _ ((unhide HV).later bz)).mono ?_); rintro e wz ⟨rfl, qz⟩; have rz := rz.later qz; have bz := bt bz qz) | (go_at_call 67; (with_reducible refine (unhide HC1 _ ((unhide HV).later bz)).mono ?_); rintro e wz ⟨rfl, qz⟩; have rz := rz.later qz; have bz := bt bz qz) | (go_at_call 70; (with_reducible refine (unhide HC2 _).mono ?_); rintro e wz ⟨rfl, qz⟩; have rz := rz.later qz; have bz := bt bz qz) | (with_reducible show wpList Tryz.prog _ _ (Oper.mk _ (Op.store 43 _ _) _ _ _ none :: _) _ _; refine wpList_stF rfl (.tmp 2) (.tmp 17) rfl w.heap.size ⟨1, X, N, 0⟩ nil0 (by simp [Act.eval, Act.put]) (by simp [Act.eval, Act.put, fdC, nil0, er]) rz ?_; intro wy ry gy sy))
    exact fd_end rfl w.heap.size _ _ rfl rfl ry rfl (below_gb bz gy (Nat.le_refl _))

set_option maxHeartbeats 1000000 in
set_option maxRecDepth 20000 in
theorem quotedName_any (s : ByteArray) (w : World) (hs : s.size ≤ 2000000) : Calls Tryz.prog 25 #[.string s] w fun e w' => e = .returned (.agg (fdC (qnF (bl s)))) ∧ Below w.heap.size w w' := by
  have c0 := fun wx => hasOneOf_any s ⟨#[96]⟩ wx
  rw [show bl ⟨#[96]⟩ = [96] from rfl] at c0
  unfold qnF
  cases hp : has1 (bl s) [96] with
  | false =>
    rw [hp] at c0
    have HC0 := hide c0
    clear c0 hp
    rw [if_neg (by simp)]
    go_enter Tryz.func25, Tryz.ntmps25
    go_wp2_with (first | (with_reducible show wpList Tryz.prog _ _ (Oper.mk _ (Op.alloc 43) _ _ _ none :: _) _ _; refine wpList_alF rfl rfl ?_; intro wz rz bz sz) | (go_at_call 71; (with_reducible refine same_world (unhide HC0 _) ?_)) | (with_reducible show wpList Tryz.prog _ _ (Oper.mk _ (Op.store 43 _ _) _ _ _ none :: _) _ _; refine wpList_stF rfl (.tmp 2) (.tmp 6) rfl w.heap.size nil0 nil0 (by simp [Act.eval, Act.put]) (by simp [Act.eval, Act.put, fdC, nil0, ba]) rz ?_; intro wy ry gy sy))
    exact fd_end rfl w.heap.size _ _ rfl rfl ry rfl (below_gb bz gy (Nat.le_refl _))
  | true =>
    have hne : 1 ≤ s.size := by
      rw [← bl_len]
      cases hq : bl s with
      | nil => rw [hq] at hp; cases hp
      | cons a r => simp
    rw [hp] at c0
    have c1 := fun wx => quoted_any s 2 false wx hs hne
    rw [if_pos rfl]
    generalize quF (bl s) 2 false = F at *
    have HC0 := hide c0
    have HC1 := hide c1
    clear c0 c1 hp
    go_enter Tryz.func25, Tryz.ntmps25
    go_wp2_with (first | (with_reducible show wpList Tryz.prog _ _ (Oper.mk _ (Op.alloc 43) _ _ _ none :: _) _ _; refine wpList_alF rfl rfl ?_; intro wz rz bz sz) | (go_at_call 71; (with_reducible refine same_world (unhide HC0 _) ?_)) | (go_at_call 72; (with_reducible refine (unhide HC1 _).mono ?_); rintro e wz ⟨rfl, qz⟩; have rz := rz.later qz; have bz := bt bz qz) | (with_reducible show wpList Tryz.prog _ _ (Oper.mk _ (Op.store 43 _ _) _ _ _ none :: _) _ _; refine wpList_stF rfl (.tmp 2) (.tmp 8) rfl w.heap.size F nil0 (by simp [Act.eval, Act.put]) (by simp [Act.eval, Act.put, fdC, nil0, er]) rz ?_; intro wy ry gy sy))
    exact fd_end rfl w.heap.size _ _ rfl rfl ry rfl (below_gb bz gy (Nat.le_refl _))

set_option maxHeartbeats 1000000 in
set_option maxRecDepth 20000 in
theorem quotedText_any (s : ByteArray) (w : World) (hs : s.size ≤ 2000000) : Calls Tryz.prog 26 #[.string s] w fun e w' => e = .returned (.agg (fdC (qtF (bl s)))) ∧ Below w.heap.size w w' := by
  have c0 := fun wx => hasOneOf_any s ⟨#[39, 34]⟩ wx
  rw [show bl ⟨#[39, 34]⟩ = [39, 34] from rfl] at c0
  unfold qtF
  cases hp : has1 (bl s) [39, 34] with
  | false =>
    rw [hp] at c0
    have HC0 := hide c0
    clear c0 hp
    rw [if_neg (by simp)]
    go_enter Tryz.func26, Tryz.ntmps26
    go_wp2_with (first | (with_reducible show wpList Tryz.prog _ _ (Oper.mk _ (Op.alloc 43) _ _ _ none :: _) _ _; refine wpList_alF rfl rfl ?_; intro wz rz bz sz) | (go_at_call 71; (with_reducible refine same_world (unhide HC0 _) ?_)) | (with_reducible show wpList Tryz.prog _ _ (Oper.mk _ (Op.store 43 _ _) _ _ _ none :: _) _ _; refine wpList_stF rfl (.tmp 2) (.tmp 6) rfl w.heap.size nil0 nil0 (by simp [Act.eval, Act.put]) (by simp [Act.eval, Act.put, fdC, nil0, ba]) rz ?_; intro wy ry gy sy))
    exact fd_end rfl w.heap.size _ _ rfl rfl ry rfl (below_gb bz gy (Nat.le_refl _))
  | true =>
    have hne : 1 ≤ s.size := by
      rw [← bl_len]
      cases hq : bl s with
      | nil => rw [hq] at hp; cases hp
      | cons a r => simp
    rw [hp] at c0
    have c1 := fun wx => quoted_any s 3 true wx hs hne
    rw [if_pos rfl]
    generalize quF (bl s) 3 true = F at *
    have HC0 := hide c0
    have HC1 := hide c1
    clear c0 c1 hp
    go_enter Tryz.func26, Tryz.ntmps26
    go_wp2_with (first | (with_reducible show wpList Tryz.prog _ _ (Oper.mk _ (Op.alloc 43) _ _ _ none :: _) _ _; refine wpList_alF rfl rfl ?_; intro wz rz bz sz) | (go_at_call 71; (with_reducible refine same_world (unhide HC0 _) ?_)) | (go_at_call 72; (with_reducible refine (unhide HC1 _).mono ?_); rintro e wz ⟨rfl, qz⟩; have rz := rz.later qz; have bz := bt bz qz) | (with_reducible show wpList Tryz.prog _ _ (Oper.mk _ (Op.store 43 _ _) _ _ _ none :: _) _ _; refine wpList_stF rfl (.tmp 2) (.tmp 8) rfl w.heap.size F nil0 (by simp [Act.eval, Act.put]) (by simp [Act.eval, Act.put, fdC, nil0, er]) rz ?_; intro wy ry gy sy))
    exact fd_end rfl w.heap.size _ _ rfl rfl ry rfl (below_gb bz gy (Nat.le_refl _))

set_option maxHeartbeats 1000000 in
set_option maxRecDepth 20000 in
theorem param_any (s : ByteArray) (w : World) : Calls Tryz.prog 29 #[.string s] w fun e w' => e = .returned (.agg (fdC (paF (bl s)))) ∧ Below w.heap.size w w' := by
  have c0 := fun wx => hasOneOf_any s ⟨#[63]⟩ wx
  rw [show bl ⟨#[63]⟩ = [63] from rfl] at c0
  unfold paF
  cases hp : has1 (bl s) [63] with
  | false =>
    rw [hp] at c0
    have HC0 := hide c0
    clear c0 hp
    rw [if_neg (by simp)]
    go_enter Tryz.func29, Tryz.ntmps29
    go_wp2_with (first | (with_reducible show wpList Tryz.prog _ _ (Oper.mk _ (Op.alloc 43) _ _ _ none :: _) _ _; refine wpList_alF rfl rfl ?_; intro wz rz bz sz) | (go_at_call 71; (with_reducible refine same_world (unhide HC0 _) ?_)) | (with_reducible show wpList Tryz.prog _ _ (Oper.mk _ (Op.store 43 _ _) _ _ _ none :: _) _ _; refine wpList_stF rfl (.tmp 2) (.tmp 6) rfl w.heap.size nil0 nil0 (by simp [Act.eval, Act.put]) (by simp [Act.eval, Act.put, fdC, nil0, ba]) rz ?_; intro wy ry gy sy))
    exact fd_end rfl w.heap.size _ _ rfl rfl ry rfl (below_gb bz gy (Nat.le_refl _))
  | true =>
    rw [hp] at c0
    have HC0 := hide c0
    clear c0 hp
    rw [if_pos rfl]
    go_enter Tryz.func29, Tryz.ntmps29
    go_wp2_with (first | (with_reducible show wpList Tryz.prog _ _ (Oper.mk _ (Op.alloc 43) _ _ _ none :: _) _ _; refine wpList_alF rfl rfl ?_; intro wz rz bz sz) | (go_at_call 71; (with_reducible refine same_world (unhide HC0 _) ?_)) | (with_reducible show wpList Tryz.prog _ _ (Oper.mk _ (Op.store 43 _ _) _ _ _ none :: _) _ _; refine wpList_stF rfl (.tmp 2) (.tmp 8) rfl w.heap.size ⟨8, ba [], 1, 0⟩ nil0 (by simp [Act.eval, Act.put]) (by simp [Act.eval, Act.put, fdC, ba]) rz ?_; intro wy ry gy sy))
    exact fd_end rfl w.heap.size _ _ rfl rfl ry rfl (below_gb bz gy (Nat.le_refl _))

set_option maxHeartbeats 1000000 in
set_option maxRecDepth 20000 in
theorem systemVar_any (s : ByteArray) (w : World) (hV : Vr w) (hs : s.size ≤ 2000000) : Calls Tryz.prog 28 #[.string s] w fun e w' => e = .returned (.agg (fdC (syF (bl s)))) ∧ Below w.heap.size w w' := by
  have HV := hide hV
  have c0 := fun wx => cut_any s ⟨#[64, 64]⟩ wx
  rw [show bl ⟨#[64, 64]⟩ = [64, 64] from rfl, show (⟨#[64, 64]⟩ : ByteArray).size = 2 from rfl] at c0
  unfold syF
  cases hp : pre [64, 64] (bl s) with
  | false =>
    rw [hp] at c0
    simp only [Bool.false_eq_true, if_false] at c0
    have HC0 := hide c0
    clear c0 hp
    rw [if_neg (by simp)]
    go_enter Tryz.func28, Tryz.ntmps28
    go_wp2_with (first | (with_reducible show wpList Tryz.prog _ _ (Oper.mk _ (Op.alloc 43) _ _ _ none :: _) _ _; refine wpList_alF rfl rfl ?_; intro wz rz bz sz) | (go_at_call 73; (with_reducible refine same_world (unhide HC0 _) ?_)) | (with_reducible show wpList Tryz.prog _ _ (Oper.mk _ (Op.store 43 _ _) _ _ _ none :: _) _ _; refine wpList_stF rfl (.tmp 2) (.tmp 13) rfl w.heap.size nil0 nil0 (by simp [Act.eval, Act.put]) (by simp [Act.eval, Act.put, fdC, nil0, ba]) rz ?_; intro wy ry gy sy))
    exact fd_end rfl w.heap.size _ _ rfl rfl ry rfl (below_gb bz gy (Nat.le_refl _))
  | true =>
    rw [hp] at c0
    simp only [if_true] at c0
    rw [if_pos rfl]
    obtain ⟨X, hX⟩ : ∃ X, X = ba ((bl s).drop 2) := ⟨_, rfl⟩
    have hXb : bl X = (bl s).drop 2 := by rw [hX, bl_ba]
    have hXs : X.size = s.size - 2 := by rw [← bl_len, hXb, List.length_drop, bl_len]
    rw [← hX] at c0
    rw [← hXb]
    have c1 := fun wx (h : Vr wx) => aheadS X wx h
    have hle := ah_le isS (bl X)
    rw [bl_len] at hle
    generalize ah isS (bl X) = Z at *
    have c2 := fun wx => lower_any (X.extract 0 Z) wx (by rw [sz_pre _ _ hle]; omega)
    rw [bl_pre] at c2
    generalize ba (low ((bl X).take Z)) = Y at *
    have HC0 := hide c0
    have HC1 := hide c1
    have HC2 := hide c2
    clear c0 c1 c2 hX hXb hp
    by_cases hZ : Z = 0
    · subst hZ
      rw [if_pos rfl]
      go_enter Tryz.func28, Tryz.ntmps28
      go_wp2_with (first | (with_reducible show wpList Tryz.prog _ _ (Oper.mk _ (Op.alloc 43) _ _ _ none :: _) _ _; refine wpList_alF rfl rfl ?_; intro wz rz bz sz) | (go_at_call 73; (with_reducible refine same_world (unhide HC0 _) ?_)) | (go_at_call 67; (with_reducible refine (unhide HC1 _ ((unhide HV).later bz)).mono ?_); rintro e wz ⟨rfl, qz⟩; have rz := rz.later qz; have bz := bt bz qz) | (with_reducible show wpList Tryz.prog _ _ (Oper.mk _ (Op.store 43 _ _) _ _ _ none :: _) _ _; refine wpList_stF rfl (.tmp 2) (.tmp 18) rfl w.heap.size nil0 nil0 (by simp [Act.eval, Act.put]) (by simp [Act.eval, Act.put, fdC, nil0, ba]) rz ?_; intro wy ry gy sy))
      exact fd_end rfl w.heap.size _ _ rfl rfl ry rfl (below_gb bz gy (Nat.le_refl _))
    · have hz : ((Z : Int) == 0) = false := by rw [beq_eq_false_iff_ne]; omega
      rw [if_neg hZ]
      go_enter Tryz.func28, Tryz.ntmps28
      go_wp2_with (first | (with_reducible show wpList Tryz.prog _ _ (Oper.mk _ (Op.alloc 43) _ _ _ none :: _) _ _; refine wpList_alF rfl rfl ?_; intro wz rz bz sz) | (go_at_call 73; (with_reducible refine same_world (unhide HC0 _) ?_)) | (go_at_call 67; (with_reducible refine (unhide HC1 _ ((unhide HV).later bz)).mono ?_); rintro e wz ⟨rfl, qz⟩; have rz := rz.later qz; have bz := bt bz qz) | (go_at_call 70; (with_reducible refine (unhide HC2 _).mono ?_); rintro e wz ⟨rfl, qz⟩; have rz := rz.later qz; have bz := bt bz qz) | (with_reducible show wpList Tryz.prog _ _ (Oper.mk _ (Op.store 43 _ _) _ _ _ none :: _) _ _; refine wpList_stF rfl (.tmp 2) (.tmp 26) rfl w.heap.size ⟨7, Y, Z + 2, 0⟩ nil0 (by simp [Act.eval, Act.put]) (by simp [Act.eval, Act.put, fdC, nil0, er]) rz ?_; intro wy ry gy sy))
      exact fd_end rfl w.heap.size _ _ rfl rfl ry rfl (below_gb bz gy (Nat.le_refl _))

end Go.Proofs.YtddfbaaghjcbnaaGreatDoor
