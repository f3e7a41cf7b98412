/-
  What package scan's functions on numbers return for any text: with a point, with an exponent, a number as a word. Conditions: at most 2,000,000 bytes; the library's variables read as they were laid.
-/
import Derived.Test.YtjbgkgkgpigikaaDoorScNum
namespace Go.Proofs.YtjbgkgkgpigikaaDoor
open Go.RowKit
set_option linter.unusedVariables false
set_option linter.unusedSimpArgs false

theorem bl_pre (s : ByteArray) (n : Nat) : bl (s.extract 0 n) = (bl s).take n := by rw [bl_sub, List.drop_zero, Nat.sub_zero]
theorem sz_cut (s : ByteArray) (a : Nat) : (s.extract a s.size).size = s.size - a := by rw [← bl_len, bl_cut, List.length_drop, bl_len]
theorem sz_pre (s : ByteArray) (n : Nat) (h : n ≤ s.size) : (s.extract 0 n).size = n := by rw [← bl_len, bl_pre, List.length_take, bl_len]; omega

set_option maxHeartbeats 1000000 in
set_option maxRecDepth 20000 in
theorem pointedSize_any (s : ByteArray) (w : World) (hV : Vr w) (hs : s.size ≤ 2000000) : Calls Tryd.prog 45 #[.string s] w fun e w' => e = .returned (.int .i64 (ptZ (bl s))) ∧ Below w.heap.size w w' := by
  have HV := hide hV
  have c0 := fun wx (h : Vr wx) => aheadD s wx h
  have hle := ah_le isD (bl s)
  rw [bl_len] at hle
  unfold ptZ
  generalize ah isD (bl s) = A at *
  have c1 := fun wx => cut_any (s.extract A s.size) ⟨#[46]⟩ wx
  rw [bl_cut, show bl ⟨#[46]⟩ = [46] from rfl, show (⟨#[46]⟩ : ByteArray).size = 1 from rfl] at c1
  have c2 := fun wx (h : Vr wx) => aheadD (ba (((bl s).drop A).drop 1)) wx h
  rw [bl_ba] at c2
  generalize ba (((bl s).drop A).drop 1) = X at *
  have hle2 := ah_le isD (((bl s).drop A).drop 1)
  rw [List.length_drop, List.length_drop, bl_len] at hle2
  generalize ah isD (((bl s).drop A).drop 1) = B at *
  have HC0 := hide c0
  have HC2 := hide c2
  have bz := Below.refl w.heap.size w
  clear c0 c2
  cases hp : pre [46] ((bl s).drop A) with
  | false =>
    rw [hp] at c1
    simp only [if_true, Bool.false_eq_true, if_false] at c1
    have HC1 := hide c1
    clear c1 hp
    go_enter Tryd.func45, Tryd.ntmps45
    go_wp2_with (first | (go_at_call 32; (with_reducible refine (unhide HC0 _ ((unhide HV).later bz)).mono ?_); rintro e wz ⟨rfl, qz⟩; have bz := bt bz qz) | (go_at_call 32; (with_reducible refine (unhide HC2 _ ((unhide HV).later bz)).mono ?_); rintro e wz ⟨rfl, qz⟩; have bz := bt bz qz) | (go_at_call 38; (with_reducible refine same_world (unhide HC1 _) ?_)))
    go_ret
    exact ⟨rfl, bz⟩
  | true =>
    rw [hp] at c1
    simp only [if_true, Bool.false_eq_true, if_false] at c1
    have HC1 := hide c1
    clear c1 hp
    simp only [if_true]
    by_cases hZ : A + B = 0
    · have hz : ((A : Int) + (B : Int) == 0) = true := by rw [beq_iff_eq]; omega
      rw [if_pos hZ]
      go_enter Tryd.func45, Tryd.ntmps45
      go_wp2_with (first | (go_at_call 32; (with_reducible refine (unhide HC0 _ ((unhide HV).later bz)).mono ?_); rintro e wz ⟨rfl, qz⟩; have bz := bt bz qz) | (go_at_call 32; (with_reducible refine (unhide HC2 _ ((unhide HV).later bz)).mono ?_); rintro e wz ⟨rfl, qz⟩; have bz := bt bz qz) | (go_at_call 38; (with_reducible refine same_world (unhide HC1 _) ?_)))
      go_ret
      exact ⟨rfl, bz⟩
    · have hz : ((A : Int) + (B : Int) == 0) = false := by rw [beq_eq_false_iff_ne]; omega
      rw [if_neg hZ]
      go_enter Tryd.func45, Tryd.ntmps45
      go_wp2_with (first | (go_at_call 32; (with_reducible refine (unhide HC0 _ ((unhide HV).later bz)).mono ?_); rintro e wz ⟨rfl, qz⟩; have bz := bt bz qz) | (go_at_call 32; (with_reducible refine (unhide HC2 _ ((unhide HV).later bz)).mono ?_); rintro e wz ⟨rfl, qz⟩; have bz := bt bz qz) | (go_at_call 38; (with_reducible refine same_world (unhide HC1 _) ?_)))
      go_ret
      exact ⟨by simp, bz⟩

set_option maxHeartbeats 1000000 in
set_option maxRecDepth 20000 in
theorem exponentSize_any (s : ByteArray) (w : World) (hV : Vr w) (hs : s.size ≤ 2000000) : Calls Tryd.prog 46 #[.string s] w fun e w' => e = .returned (.int .i64 (exZ (bl s))) ∧ Below w.heap.size w w' := by
  have HV := hide hV
  have bz := Below.refl w.heap.size w
  have c0 := fun wx => hasOneOf_any s ⟨#[101, 69]⟩ wx
  rw [show bl ⟨#[101, 69]⟩ = [101, 69] from rfl] at c0
  unfold exZ
  cases hp : has1 (bl s) [101, 69] with
  | false =>
    rw [hp] at c0
    have HC0 := hide c0
    clear c0 hp
    go_enter Tryd.func46, Tryd.ntmps46
    go_wp2_with (go_at_call 36; (with_reducible refine same_world (unhide HC0 _) ?_))
    go_ret
    exact ⟨rfl, bz⟩
  | true =>
    have hne : 1 ≤ s.size := by
      rw [← bl_len]
      cases hq : bl s with
      | nil => rw [hq] at hp; cases hp
      | cons a r => simp
    rw [hp] at c0
    have HC0 := hide c0
    have c1 := fun wx => hasOneOf_any (s.extract 1 s.size) ⟨#[43, 45]⟩ wx
    rw [bl_cut, show bl ⟨#[43, 45]⟩ = [43, 45] from rfl] at c1
    have hA : exA (bl s) = if has1 ((bl s).drop 1) [43, 45] then 2 else 1 := rfl
    clear c0 hp
    simp only [if_true]
    cases hq : has1 ((bl s).drop 1) [43, 45] with
    | false =>
      rw [hq] at c1 hA
      simp only [Bool.false_eq_true, if_false] at hA
      rw [hA]
      have HC1 := hide c1
      have c2 := fun wx (h : Vr wx) => aheadD (s.extract 1 s.size) wx h
      rw [bl_cut] at c2
      have hle := ah_le isD ((bl s).drop 1)
      rw [List.length_drop, bl_len] at hle
      generalize ah isD ((bl s).drop 1) = B at *
      have HC2 := hide c2
      clear c1 c2 hq hA
      by_cases hZ : B = 0
      · subst hZ
        go_enter Tryd.func46, Tryd.ntmps46
        go_wp2_with (first | (go_at_call 36; (with_reducible refine same_world (unhide HC0 _) ?_)) | (go_at_call 36; (with_reducible refine same_world (unhide HC1 _) ?_)) | (go_at_call 32; (with_reducible refine (unhide HC2 _ ((unhide HV).later bz)).mono ?_); rintro e wz ⟨rfl, qz⟩; have bz := bt bz qz))
        go_ret
        exact ⟨rfl, bz⟩
      · have hz : ((B : Int) == 0) = false := by rw [beq_eq_false_iff_ne]; omega
        rw [if_neg hZ]
        go_enter Tryd.func46, Tryd.ntmps46
        go_wp2_with (first | (go_at_call 36; (with_reducible refine same_world (unhide HC0 _) ?_)) | (go_at_call 36; (with_reducible refine same_world (unhide HC1 _) ?_)) | (go_at_call 32; (with_reducible refine (unhide HC2 _ ((unhide HV).later bz)).mono ?_); rintro e wz ⟨rfl, qz⟩; have bz := bt bz qz))
        go_ret
        exact ⟨by simp, bz⟩
    | true =>
      have hn2 : 2 ≤ s.size := by
        rw [← bl_len]
        cases hx : bl s with
        | nil => rw [hx] at hq; cases hq
        | cons a r =>
          cases r with
          | nil => rw [hx] at hq; cases hq
          | cons d t => simp
      rw [hq] at c1 hA
      simp only [if_true] at hA
      rw [hA]
      have HC1 := hide c1
      have c2 := fun wx (h : Vr wx) => aheadD (s.extract 2 s.size) wx h
      rw [bl_cut] at c2
      have hle := ah_le isD ((bl s).drop 2)
      rw [List.length_drop, bl_len] at hle
      generalize ah isD ((bl s).drop 2) = B at *
      have HC2 := hide c2
      clear c1 c2 hq hA
      by_cases hZ : B = 0
      · subst hZ
        go_enter Tryd.func46, Tryd.ntmps46
        go_wp2_with (first | (go_at_call 36; (with_reducible refine same_world (unhide HC0 _) ?_)) | (go_at_call 36; (with_reducible refine same_world (unhide HC1 _) ?_)) | (go_at_call 32; (with_reducible refine (unhide HC2 _ ((unhide HV).later bz)).mono ?_); rintro e wz ⟨rfl, qz⟩; have bz := bt bz qz))
        go_ret
        exact ⟨rfl, bz⟩
      · have hz : ((B : Int) == 0) = false := by rw [beq_eq_false_iff_ne]; omega
        rw [if_neg hZ]
        go_enter Tryd.func46, Tryd.ntmps46
        go_wp2_with (first | (go_at_call 36; (with_reducible refine same_world (unhide HC0 _) ?_)) | (go_at_call 36; (with_reducible refine same_world (unhide HC1 _) ?_)) | (go_at_call 32; (with_reducible refine (unhide HC2 _ ((unhide HV).later bz)).mono ?_); rintro e wz ⟨rfl, qz⟩; have bz := bt bz qz))
        go_ret
        exact ⟨by simp, bz⟩

set_option maxHeartbeats 1000000 in
set_option maxRecDepth 20000 in
theorem decimalSize_any (s : ByteArray) (w : World) (hV : Vr w) (hs : s.size ≤ 2000000) : Calls Tryd.prog 31 #[.string s] w fun e w' => e = .returned (.int .i64 (deZ (bl s))) ∧ Below w.heap.size w w' := by
  have HV := hide hV
  have bz := Below.refl w.heap.size w
  have c0 := fun wx (h : Vr wx) => pointedSize_any s wx h hs
  have hle := ptZ_le (bl s)
  rw [bl_len] at hle
  unfold deZ
  generalize ptZ (bl s) = A at *
  have c1 := fun wx (h : Vr wx) => exponentSize_any (s.extract A s.size) wx h (by rw [sz_cut]; omega)
  rw [bl_cut] at c1
  have hl2 := exZ_le ((bl s).drop A)
  rw [List.length_drop, bl_len] at hl2
  generalize exZ ((bl s).drop A) = B at *
  have HC0 := hide c0
  have HC1 := hide c1
  clear c0 c1
  by_cases hZ : A = 0
  · subst hZ
    go_enter Tryd.func31, Tryd.ntmps31
    go_wp2_with (first | (go_at_call 45; (with_reducible refine (unhide HC0 _ ((unhide HV).later bz)).mono ?_); rintro e wz ⟨rfl, qz⟩; have bz := bt bz qz) | (go_at_call 46; (with_reducible refine (unhide HC1 _ ((unhide HV).later bz)).mono ?_); rintro e wz ⟨rfl, qz⟩; have bz := bt bz qz))
    go_ret
    exact ⟨rfl, bz⟩
  · have hz : ((A : Int) == 0) = false := by rw [beq_eq_false_iff_ne]; omega
    rw [if_neg hZ]
    go_enter Tryd.func31, Tryd.ntmps31
    go_wp2_with (first | (go_at_call 45; (with_reducible refine (unhide HC0 _ ((unhide HV).later bz)).mono ?_); rintro e wz ⟨rfl, qz⟩; have bz := bt bz qz) | (go_at_call 46; (with_reducible refine (unhide HC1 _ ((unhide HV).later bz)).mono ?_); rintro e wz ⟨rfl, qz⟩; have bz := bt bz qz))
    go_ret
    exact ⟨by simp, bz⟩

theorem nuZ_le (l : Bl) : nuZ l ≤ l.length := by
  unfold nuZ
  split
  · exact deZ_le l
  · exact hexZ_le l

set_option maxHeartbeats 1000000 in
set_option maxRecDepth 20000 in
theorem number_any (s : ByteArray) (w : World) (hV : Vr w) (hs : s.size ≤ 2000000) : Calls Tryd.prog 14 #[.string s] w fun e w' => e = .returned (.agg (fdC (numF (bl s)))) ∧ Below w.heap.size w w' := by
  have HV := hide hV
  have c0 := fun wx (h : Vr wx) => hexSize_any s wx h hs
  have c1 := fun wx (h : Vr wx) => decimalSize_any s wx h hs
  have hle := nuZ_le (bl s)
  rw [bl_len] at hle
  have hN : nuZ (bl s) = if hexZ (bl s) = 0 then deZ (bl s) else hexZ (bl s) := rfl
  unfold numF
  generalize nuZ (bl s) = N at *
  generalize hexZ (bl s) = A at *
  generalize deZ (bl s) = B at *
  have c2 := fun wx => itself_any 4 (s.extract 0 N) wx (by rw [sz_pre _ _ hle]; omega)
  rw [bl_pre] at c2
  obtain ⟨F, hF⟩ : ∃ F, F = its 4 ((bl s).take N) := ⟨_, rfl⟩
  rw [← hF] at c2 ⊢
  clear hF
  have HC0 := hide c0
  have HC1 := hide c1
  have HC2 := hide c2
  clear c0 c1 c2
  by_cases hA : A = 0
  · subst hA
    simp only [if_true] at hN
    subst hN
    by_cases hZ : N = 0
    · subst hZ
      rw [if_pos rfl]
      go_enter Tryd.func14, Tryd.ntmps14
      go_wp2_with (first | (with_reducible show wpList Tryd.prog _ _ (Oper.mk _ (Op.alloc 37) _ _ _ none :: _) _ _; refine wpList_alF rfl rfl ?_; intro wz rz bz sz) | (go_at_call 30; (with_reducible refine (unhide HC0 _ ((unhide HV).later bz)).mono ?_); rintro e wz ⟨rfl, qz⟩; have rz := rz.later qz; have bz := bt bz qz) | (go_at_call 31; (with_reducible refine (unhide HC1 _ ((unhide HV).later bz)).mono ?_); rintro e wz ⟨rfl, qz⟩; have rz := rz.later qz; have bz := bt bz qz) | (go_at_call 29; (with_reducible refine (unhide HC2 _).mono ?_); rintro e wz ⟨rfl, qz⟩; have rz := rz.later qz; have bz := bt bz qz) | (with_reducible show wpList Tryd.prog _ _ (Oper.mk _ (Op.store 37 _ _) _ _ _ none :: _) _ _; refine wpList_stF rfl (.tmp 2) (.tmp 12) rfl w.heap.size nil0 nil0 (by simp [Act.eval, Act.put]) (by simp [Act.eval, Act.put, fdC, nil0, ba]) rz ?_; intro wy ry gy sy) | (with_reducible show wpList Tryd.prog _ _ (Oper.mk _ (Op.store 37 _ _) _ _ _ none :: _) _ _; refine wpList_stF rfl (.tmp 2) (.tmp 16) rfl w.heap.size F nil0 (by simp [Act.eval, Act.put]) (by simp [Act.eval, Act.put, fdC, nil0, er]) rz ?_; intro wy ry gy sy))
      exact fd_end rfl w.heap.size _ _ rfl rfl ry rfl (below_gb bz gy (Nat.le_refl _))
    · have hz : ((N : Int) == 0) = false := by rw [beq_eq_false_iff_ne]; omega
      rw [if_neg hZ]
      go_enter Tryd.func14, Tryd.ntmps14
      go_wp2_with (first | (with_reducible show wpList Tryd.prog _ _ (Oper.mk _ (Op.alloc 37) _ _ _ none :: _) _ _; refine wpList_alF rfl rfl ?_; intro wz rz bz sz) | (go_at_call 30; (with_reducible refine (unhide HC0 _ ((unhide HV).later bz)).mono ?_); rintro e wz ⟨rfl, qz⟩; have rz := rz.later qz; have bz := bt bz qz) | (go_at_call 31; (with_reducible refine (unhide HC1 _ ((unhide HV).later bz)).mono ?_); rintro e wz ⟨rfl, qz⟩; have rz := rz.later qz; have bz := bt bz qz) | (go_at_call 29; (with_reducible refine (unhide HC2 _).mono ?_); rintro e wz ⟨rfl, qz⟩; have rz := rz.later qz; have bz := bt bz qz) | (with_reducible show wpList Tryd.prog _ _ (Oper.mk _ (Op.store 37 _ _) _ _ _ none :: _) _ _; refine wpList_stF rfl (.tmp 2) (.tmp 12) rfl w.heap.size nil0 nil0 (by simp [Act.eval, Act.put]) (by simp [Act.eval, Act.put, fdC, nil0, ba]) rz ?_; intro wy ry gy sy) | (with_reducible show wpList Tryd.prog _ _ (Oper.mk _ (Op.store 37 _ _) _ _ _ none :: _) _ _; refine wpList_stF rfl (.tmp 2) (.tmp 16) rfl w.heap.size F nil0 (by simp [Act.eval, Act.put]) (by simp [Act.eval, Act.put, fdC, nil0, er]) rz ?_; intro wy ry gy sy))
      exact fd_end rfl w.heap.size _ _ rfl rfl ry rfl (below_gb bz gy (Nat.le_refl _))
  · have hz : ((A : Int) == 0) = false := by rw [beq_eq_false_iff_ne]; omega
    rw [if_neg hA] at hN
    subst hN
    rw [if_neg hA]
    go_enter Tryd.func14, Tryd.ntmps14
    go_wp2_with (first | (with_reducible show wpList Tryd.prog _ _ (Oper.mk _ (Op.alloc 37) _ _ _ none :: _) _ _; refine wpList_alF rfl rfl ?_; intro wz rz bz sz) | (go_at_call 30; (with_reducible refine (unhide HC0 _ ((unhide HV).later bz)).mono ?_); rintro e wz ⟨rfl, qz⟩; have rz := rz.later qz; have bz := bt bz qz) | (go_at_call 31; (with_reducible refine (unhide HC1 _ ((unhide HV).later bz)).mono ?_); rintro e wz ⟨rfl, qz⟩; have rz := rz.later qz; have bz := bt bz qz) | (go_at_call 29; (with_reducible refine (unhide HC2 _).mono ?_); rintro e wz ⟨rfl, qz⟩; have rz := rz.later qz; have bz := bt bz qz) | (with_reducible show wpList Tryd.prog _ _ (Oper.mk _ (Op.store 37 _ _) _ _ _ none :: _) _ _; refine wpList_stF rfl (.tmp 2) (.tmp 12) rfl w.heap.size nil0 nil0 (by simp [Act.eval, Act.put]) (by simp [Act.eval, Act.put, fdC, nil0, ba]) rz ?_; intro wy ry gy sy) | (with_reducible show wpList Tryd.prog _ _ (Oper.mk _ (Op.store 37 _ _) _ _ _ none :: _) _ _; refine wpList_stF rfl (.tmp 2) (.tmp 16) rfl w.heap.size F nil0 (by simp [Act.eval, Act.put]) (by simp [Act.eval, Act.put, fdC, nil0, er]) rz ?_; intro wy ry gy sy))
    exact fd_end rfl w.heap.size _ _ rfl rfl ry rfl (below_gb bz gy (Nat.le_refl _))

end Go.Proofs.YtjbgkgkgpigikaaDoor
