/-
  What package scan's functions on blanks and remarks return for any text. Conditions: at most 2,000,000 bytes; the library's variables read as they were laid.
-/
import Derived.Test.YtjbgkgkgpigikaaDoorScNum2
namespace Go.Proofs.YtjbgkgkgpigikaaDoor
open Go.RowKit
set_option linter.unusedVariables false
set_option linter.unusedSimpArgs false

theorem hp_any (s p : ByteArray) (w : World) : Calls Tryd.prog 26 #[.string s, .string p] w fun e w' => e = .returned (.bool (pre (bl p) (bl s))) ∧ w' = w := Tryd.strings_HasPrefix s p w
theorem opensOdd_any (s : ByteArray) (w : World) : Calls Tryd.prog 27 #[.string s] w fun e w' => e = .returned (.bool (opO (bl s))) ∧ w' = w := by
  have c0 := fun wx => hp_any s ⟨#[47, 42, 33]⟩ wx
  have c1 := fun wx => hp_any s ⟨#[47, 42, 43]⟩ wx
  rw [show bl ⟨#[47, 42, 33]⟩ = [47, 42, 33] from rfl] at c0
  rw [show bl ⟨#[47, 42, 43]⟩ = [47, 42, 43] from rfl] at c1
  unfold opO
  generalize pre [47, 42, 33] (bl s) = A at *
  generalize pre [47, 42, 43] (bl s) = B at *
  have HC0 := hide c0
  have HC1 := hide c1
  clear c0 c1
  cases A
  all_goals
    go_enter Tryd.func27, Tryd.ntmps27
    go_wp2_with (first | (go_at_call 26; (with_reducible refine same_world (unhide HC0 _) ?_)) | (go_at_call 26; (with_reducible refine same_world (unhide HC1 _) ?_)))
    go_ret
    exact ⟨rfl, rfl⟩

set_option maxRecDepth 20000 in
theorem lineSize_any (s : ByteArray) (w : World) (hs : s.size ≤ 2000000) : Calls Tryd.prog 25 #[.string s] w fun e w' => e = .returned (.int .i64 (liZ (bl s))) ∧ w' = w := by
  have c0 := fun wx => Tryd.strings_IndexByte s 10 wx
  rw [show (10 : Int).toNat.toUInt8 = 10 from rfl] at c0
  unfold liZ
  rw [bl_len]
  rw [show s.data.toList = bl s from rfl] at c0
  generalize Lib.indexByte (bl s) 10 = X at *
  have HC0 := hide c0
  clear c0
  by_cases h : 0 ≤ X
  · have hx := hide (show ((X.toNat : Nat) : Int) = X by omega)
    rw [if_pos h]
    go_enter Tryd.func25, Tryd.ntmps25
    go_wp2_with (go_at_call 41; (with_reducible refine same_world (unhide HC0 _) ?_))
    go_ret
    exact ⟨by rw [unhide hx]; rfl, rfl⟩
  · rw [if_neg h]
    go_enter Tryd.func25, Tryd.ntmps25
    go_wp2_with (go_at_call 41; (with_reducible refine same_world (unhide HC0 _) ?_))
    go_ret
    exact ⟨rfl, rfl⟩

set_option maxRecDepth 20000 in
theorem opensLine_any (s : ByteArray) (w : World) (hs : s.size ≤ 2000000) (h1 : 1 ≤ s.size) : Calls Tryd.prog 24 #[.string s] w fun e w' => e = .returned (.bool (opL (bl s))) ∧ w' = w := by
  have hz : 0 < s.size := h1
  have hg := bl_at s 0 hz
  obtain ⟨c, r, hl⟩ : ∃ c r, bl s = c :: r := by
    cases h : bl s with
    | nil => have := bl_len s; rw [h] at this; simp at this; omega
    | cons a r => exact ⟨a, r, rfl⟩
  rw [hl, List.getD_cons_zero] at hg
  have hO : opL (bl s) = (decide (c = 35) || (pre [45, 45] (bl s) && decide (2 < (bl s).length) && isB (((bl s).getD 2 0).toNat : Int))) := by
    rw [hl]
    rfl
  rw [hO, bl_len]
  have hc : (decide (c = 35)) = ((c.toNat : Int) == 35) := by
    rw [Bool.eq_iff_iff]
    simp only [decide_eq_true_eq, beq_iff_eq]
    constructor
    · intro h; rw [h]; rfl
    · intro h
      apply UInt8.toNat_inj.1
      have : c.toNat = 35 := by omega
      rw [this]
      rfl
  rw [hc]
  have b0 : (0 : Int) ≤ (c.toNat : Int) := by omega
  have b1 : ((c.toNat : Nat) : Int) < 256 := by have := c.toNat_lt; omega
  generalize hC : (c.toNat : Int) = C at *
  clear hO hc
  by_cases h35 : C = 35
  · subst h35
    go_enter Tryd.func24, Tryd.ntmps24
    go_wp2_with fail
    go_ret
    exact ⟨rfl, rfl⟩
  · have hb35 : (C == 35) = false := by rw [beq_eq_false_iff_ne]; exact h35
    rw [hb35]
    simp only [Bool.false_or]
    by_cases h2 : 2 < s.size
    · have hg2 := bl_at s 2 h2
      have c0 := fun wx => isBlank_any ((((bl s).getD 2 0).toNat : Int)) wx
      have b2 : (0 : Int) ≤ (((bl s).getD 2 0).toNat : Int) := by omega
      have b3 : ((((bl s).getD 2 0).toNat : Nat) : Int) < 256 := by have := ((bl s).getD 2 0).toNat_lt; omega
      have hd : decide (2 < s.size) = true := by simpa using h2
      rw [hd, Bool.and_true]
      have hq : ((s.extract 0 2).toList == [45, 45]) = pre [45, 45] (bl s) := by
        rw [Lib.toList_data, Lib.extract_data, List.drop_zero]
        show ((bl s).take 2 == [45, 45]) = pre [45, 45] (bl s)
        unfold pre
        rw [hl]
        have : 2 < (bl s).length := by rw [bl_len]; exact h2
        rw [hl] at this
        cases r with
        | nil => simp at this
        | cons d t =>
          rw [Bool.eq_iff_iff]
          simp [List.isPrefixOf]
          constructor
          · rintro ⟨h1, h2⟩; exact ⟨h1.symm, h2.symm⟩
          · rintro ⟨h1, h2⟩; exact ⟨h1.symm, h2.symm⟩
      generalize pre [45, 45] (bl s) = P at *
      generalize (bl s).getD 2 0 = G at *
      generalize isB (G.toNat : Int) = Z at *
      have HC0 := hide c0
      clear c0 hl hd
      go_enter Tryd.func24, Tryd.ntmps24
      go_wp2_with (go_at_call 23; (with_reducible refine same_world (unhide HC0 _) ?_))
      · go_ret
        rename_i hx
        have : P = true := by first | exact hx | (rw [hx] at hq; exact hq.symm)
        rw [this]
        exact ⟨rfl, rfl⟩
      · go_ret
        rename_i hx
        have : P = false := by simpa using hx
        rw [this]
        exact ⟨rfl, rfl⟩
    · have hd : decide (2 < s.size) = false := by simpa using h2
      rw [hd, Bool.and_false, Bool.false_and]
      go_enter Tryd.func24, Tryd.ntmps24
      go_wp2_with fail
      go_ret
      exact ⟨rfl, rfl⟩

theorem reF_le (l : Bl) (h : 2 ≤ l.length) : (reF l).n ≤ l.length := by
  unfold reF
  split
  · exact Nat.zero_le _
  · rename_i h0
    have := Lib.index_room (l.drop 2) [42, 47] (by have := Lib.index_ge (l.drop 2) [42, 47]; omega)
    simp only [List.length_drop, List.length_cons, List.length_nil] at this ⊢
    omega

set_option maxHeartbeats 1000000 in
set_option maxRecDepth 20000 in
theorem remark_any (s : ByteArray) (w : World) (hV : Vr w) (hs : s.size ≤ 2000000) (h2 : 2 ≤ s.size) : Calls Tryd.prog 28 #[.string s] w fun e w' => e = .returned (.agg (fdC (reF (bl s)))) ∧ Below w.heap.size w w' := by
  have HV := hide hV
  have c0 : ∀ wx, Vr wx → Calls Tryd.prog 43 #[.string (s.extract 2 s.size), .string ⟨#[42, 47]⟩] wx fun e w' => e = .returned (.int .i64 (Lib.index ((bl s).drop 2) [42, 47])) ∧ w' = wx := fun wx hx => by
    obtain ⟨m, hm⟩ := hx.mx
    have := Tryd.strings_Index (s.extract 2 s.size) ⟨#[42, 47]⟩ m wx (by rw [sz_cut]; omega) hm
    rw [show (s.extract 2 s.size).data.toList = (bl s).drop 2 from bl_cut s 2] at this
    exact this
  have hro : 0 ≤ Lib.index ((bl s).drop 2) [42, 47] → Lib.index ((bl s).drop 2) [42, 47] ≤ 2000000 := fun h => by
    have := Lib.index_room ((bl s).drop 2) [42, 47] (by omega)
    simp only [List.length_drop, List.length_cons, List.length_nil, bl_len] at this
    omega
  unfold reF
  generalize Lib.index ((bl s).drop 2) [42, 47] = X at *
  have HC0 := hide c0
  clear c0
  have h2' : (2 : Int) ≤ (s.size : Int) := by omega
  by_cases h : X < 0
  · rw [if_pos h]
    go_enter Tryd.func28, Tryd.ntmps28
    go_wp2_with (first | (with_reducible show wpList Tryd.prog _ _ (Oper.mk _ (Op.alloc 37) _ _ _ none :: _) _ _; refine wpList_alF rfl rfl ?_; intro wz rz bz sz) | (go_at_call 43; (with_reducible refine same_world (unhide HC0 _ ((unhide HV).later bz)) ?_)) | (with_reducible show wpList Tryd.prog _ _ (Oper.mk _ (Op.store 37 _ _) _ _ _ none :: _) _ _; refine wpList_stF rfl (.tmp 2) (.tmp 9) rfl w.heap.size (er 190) nil0 (by simp [Act.eval, Act.put]) (by simp [Act.eval, Act.put, fdC, er, ba]) rz ?_; intro wy ry gy sy))
    exact fd_end rfl w.heap.size _ _ rfl rfl ry rfl (below_gb bz gy (Nat.le_refl _))
  · rw [if_neg h]
    have hX := hro (by omega)
    obtain ⟨F, hF⟩ : ∃ F : Fd, F = ⟨0, ba [], 2 + X.toNat + 2, 0⟩ := ⟨_, rfl⟩
    rw [← hF]
    have hFC : fdC F = #[.int .i64 0, .string (ba []), .int .i64 0, .int .i64 (2 + X + 2), .int .i64 0] := by
      rw [hF]
      have e : ((2 + X.toNat + 2 : Nat) : Int) = 2 + X + 2 := by omega
      simp only [fdC, e]
    have HFC := hide hFC
    clear hF hFC
    go_enter Tryd.func28, Tryd.ntmps28
    go_wp2_with (first | (with_reducible show wpList Tryd.prog _ _ (Oper.mk _ (Op.alloc 37) _ _ _ none :: _) _ _; refine wpList_alF rfl rfl ?_; intro wz rz bz sz) | (go_at_call 43; (with_reducible refine same_world (unhide HC0 _ ((unhide HV).later bz)) ?_)) | (with_reducible show wpList Tryd.prog _ _ (Oper.mk _ (Op.store 37 _ _) _ _ _ none :: _) _ _; refine wpList_stF rfl (.tmp 2) (.tmp 13) rfl w.heap.size F nil0 (by simp [Act.eval, Act.put]) (by simp [Act.eval, Act.put, unhide HFC, ba]) rz ?_; intro wy ry gy sy))
    exact fd_end rfl w.heap.size _ _ rfl rfl ry rfl (below_gb bz gy (Nat.le_refl _))

set_option maxHeartbeats 1000000 in
set_option maxRecDepth 20000 in
theorem oddRemark_any (s : ByteArray) (w : World) (hV : Vr w) (hs : s.size ≤ 2000000) : Calls Tryd.prog 13 #[.string s] w fun e w' => e = .returned (.agg (fdC (odF (bl s)))) ∧ Below w.heap.size w w' := by
  have HV := hide hV
  have c0 := fun wx => opensOdd_any s wx
  unfold odF
  cases hp : opO (bl s) with
  | false =>
    rw [hp] at c0
    have HC0 := hide c0
    clear c0 hp
    rw [if_neg (by simp)]
    go_enter Tryd.func13, Tryd.ntmps13
    go_wp2_with (first | (with_reducible show wpList Tryd.prog _ _ (Oper.mk _ (Op.alloc 37) _ _ _ none :: _) _ _; refine wpList_alF rfl rfl ?_; intro wz rz bz sz) | (go_at_call 27; (with_reducible refine same_world (unhide HC0 _) ?_)) | (with_reducible show wpList Tryd.prog _ _ (Oper.mk _ (Op.store 37 _ _) _ _ _ none :: _) _ _; refine wpList_stF rfl (.tmp 2) (.tmp 7) rfl w.heap.size nil0 nil0 (by simp [Act.eval, Act.put]) (by simp [Act.eval, Act.put, fdC, nil0, ba]) rz ?_; intro wy ry gy sy))
    exact fd_end rfl w.heap.size _ _ rfl rfl ry rfl (below_gb bz gy (Nat.le_refl _))
  | true =>
    have h2 : 2 ≤ s.size := by
      rw [← bl_len]
      unfold opO at hp
      simp only [Bool.or_eq_true] at hp
      rcases hp with hp | hp
      · have := pre_len hp; simp at this; omega
      · have := pre_len hp; simp at this; omega
    rw [hp] at c0
    have c1 := fun wx (h : Vr wx) => remark_any s wx h hs h2
    have hle := reF_le (bl s) (by rw [bl_len]; exact h2)
    rw [bl_len] at hle
    rw [if_pos rfl]
    generalize reF (bl s) = R at *
    have c2 := fun wx => itself_any 9 (s.extract 0 R.n) wx (by rw [sz_pre _ _ hle]; omega)
    rw [bl_pre] at c2
    obtain ⟨F, hF⟩ : ∃ F, F = its 9 ((bl s).take R.n) := ⟨_, rfl⟩
    rw [← hF] at c2 ⊢
    have HC0 := hide c0
    have HC1 := hide c1
    have HC2 := hide c2
    clear c0 c1 c2 hp hF
    obtain ⟨k, tx, n, E⟩ := R
    simp only at *
    by_cases hE : E = 0
    · subst hE
      rw [if_neg (by simp)]
      go_enter Tryd.func13, Tryd.ntmps13
      go_wp2_with (first | (with_reducible show wpList Tryd.prog _ _ (Oper.mk _ (Op.alloc 37) _ _ _ none :: _) _ _; refine wpList_alF rfl rfl ?_; intro wz fz qz tz; have ne := rz.lt; have rz := rz.later qz; have bz := bt bz qz) | (with_reducible show wpList Tryd.prog _ _ (Oper.mk _ (Op.alloc 37) _ _ _ none :: _) _ _; refine wpList_alF rfl rfl ?_; intro wz rz bz sz) | (go_at_call 27; (with_reducible refine same_world (unhide HC0 _) ?_)) | (go_at_call 28; (with_reducible refine (unhide HC1 _ ((unhide HV).later bz)).mono ?_); rintro e wz ⟨rfl, qz⟩; have rz := rz.later qz; have bz := bt bz qz) | (go_at_call 29; (with_reducible refine (unhide HC2 _).mono ?_); rintro e wz ⟨rfl, qz⟩; have rz := rz.later qz; have bz := bt bz qz) | (with_reducible show wpList Tryd.prog _ _ (Oper.mk _ (Op.store 37 _ _) _ _ _ none :: _) _ _; refine wpList_stF rfl (.tmp 3) (.tmp 9) rfl _ ⟨k, tx, n, 0⟩ nil0 (by simp [Act.eval, Act.put]) (by simp [Act.eval, Act.put, fdC]) fz ?_; intro wz fz gz tz; have rz := rz.gb gz (Nat.ne_of_lt ne); have bz := below_gb bz gz (Nat.le_of_lt ne); have k0 := fb_k fz; have k1 := fb_t fz; have k3 := fb_n fz; have k4 := fb_e fz) | (with_reducible show wpList Tryd.prog _ _ (Oper.mk _ (Op.store 37 _ _) _ _ _ none :: _) _ _; refine wpList_stF rfl (.tmp 2) (.tmp 18) rfl w.heap.size F nil0 (by simp [Act.eval, Act.put]) (by simp [Act.eval, Act.put, fdC, nil0, er]) rz ?_; intro wy ry gy sy))
      exact fd_end rfl w.heap.size _ _ rfl rfl ry rfl (below_gb bz gy (Nat.le_refl _))
    · rw [if_pos hE]
      have hE2 : (E != 0) = true := by simpa using hE
      go_enter Tryd.func13, Tryd.ntmps13
      go_wp2_with (first | (with_reducible show wpList Tryd.prog _ _ (Oper.mk _ (Op.alloc 37) _ _ _ none :: _) _ _; refine wpList_alF rfl rfl ?_; intro wz fz qz tz; have ne := rz.lt; have rz := rz.later qz; have bz := bt bz qz) | (with_reducible show wpList Tryd.prog _ _ (Oper.mk _ (Op.alloc 37) _ _ _ none :: _) _ _; refine wpList_alF rfl rfl ?_; intro wz rz bz sz) | (go_at_call 27; (with_reducible refine same_world (unhide HC0 _) ?_)) | (go_at_call 28; (with_reducible refine (unhide HC1 _ ((unhide HV).later bz)).mono ?_); rintro e wz ⟨rfl, qz⟩; have rz := rz.later qz; have bz := bt bz qz) | (with_reducible show wpList Tryd.prog _ _ (Oper.mk _ (Op.store 37 _ _) _ _ _ none :: _) _ _; refine wpList_stF rfl (.tmp 3) (.tmp 9) rfl _ ⟨k, tx, n, E⟩ nil0 (by simp [Act.eval, Act.put]) (by simp [Act.eval, Act.put, fdC]) fz ?_; intro wz fz gz tz; have rz := rz.gb gz (Nat.ne_of_lt ne); have bz := below_gb bz gz (Nat.le_of_lt ne); have k0 := fb_k fz; have k1 := fb_t fz; have k3 := fb_n fz; have k4 := fb_e fz) | (with_reducible show wpList Tryd.prog _ _ (Oper.mk _ (Op.load 37 _) _ _ _ none :: _) _ _; refine wpList_ldF rfl (.tmp 3) rfl _ ⟨k, tx, n, E⟩ (by simp [Act.eval, Act.put]) fz ?_) | (with_reducible show wpList Tryd.prog _ _ (Oper.mk _ (Op.store 37 _ _) _ _ _ none :: _) _ _; refine wpList_stF rfl (.tmp 2) (.tmp 13) rfl w.heap.size ⟨k, tx, n, E⟩ nil0 (by simp [Act.eval, Act.put]) (by simp [Act.eval, Act.put, fdC, nil0, er]) rz ?_; intro wy ry gy sy))
      exact fd_end rfl w.heap.size _ _ rfl rfl ry rfl (below_gb bz gy (Nat.le_refl _))

set_option maxHeartbeats 2000000 in
set_option maxRecDepth 20000 in
theorem blankOrRemark_any (s : ByteArray) (w : World) (hV : Vr w) (hs : s.size ≤ 2000000) (h1 : 1 ≤ s.size) : Calls Tryd.prog 11 #[.string s] w fun e w' => e = .returned (.agg (fdC (gaF (bl s)))) ∧ Below w.heap.size w w' := by
  have HV := hide hV
  have hz : 0 < s.size := h1
  have hg := bl_at s 0 hz
  obtain ⟨c, r, hl⟩ : ∃ c r, bl s = c :: r := by
    cases h : bl s with
    | nil => have := bl_len s; rw [h] at this; simp at this; omega
    | cons a r => exact ⟨a, r, rfl⟩
  have hh : (bl s).headD 0 = c := by rw [hl]; rfl
  rw [hl, List.getD_cons_zero] at hg
  have c0 := fun wx => isBlank_any (c.toNat : Int) wx
  have c1 := fun wx => opensLine_any s wx hs h1
  have c2 := fun wx => lineSize_any s wx hs
  have c3 := fun wx => hp_any s ⟨#[47, 42]⟩ wx
  rw [show bl ⟨#[47, 42]⟩ = [47, 42] from rfl] at c3
  have c4 := fun wx => opensOdd_any s wx
  have h2 : pre [47, 42] (bl s) = true → 2 ≤ s.size := fun h => by have := pre_len h; rw [bl_len] at this; simpa using this
  have c5 := fun hp wx (h : Vr wx) => remark_any s wx h hs (h2 hp)
  have b0 : (0 : Int) ≤ (c.toNat : Int) := by omega
  have b1 : ((c.toNat : Nat) : Int) < 256 := by have := c.toNat_lt; omega
  unfold gaF
  rw [hh]
  clear hh hl h2
  generalize isB (c.toNat : Int) = A at *
  generalize opL (bl s) = B at *
  generalize liZ (bl s) = Z at *
  generalize pre [47, 42] (bl s) = P at *
  generalize opO (bl s) = O at *
  generalize reF (bl s) = R at *
  have HC0 := hide c0
  have HC1 := hide c1
  have HC2 := hide c2
  have HC3 := hide c3
  have HC4 := hide c4
  clear c0 c1 c2 c3 c4
  cases A with
  | true =>
    rw [if_pos rfl]
    go_enter Tryd.func11, Tryd.ntmps11
    go_wp2_with (first | (with_reducible show wpList Tryd.prog _ _ (Oper.mk _ (Op.alloc 37) _ _ _ none :: _) _ _; refine wpList_alF rfl rfl ?_; intro wz rz bz sz) | (go_at_call 23; (with_reducible refine same_world (unhide HC0 _) ?_)) | (go_at_call 24; (with_reducible refine same_world (unhide HC1 _) ?_)) | (go_at_call 25; (with_reducible refine same_world (unhide HC2 _) ?_)) | (go_at_call 26; (with_reducible refine same_world (unhide HC3 _) ?_)) | (go_at_call 27; (with_reducible refine same_world (unhide HC4 _) ?_)) | (with_reducible show wpList Tryd.prog _ _ (Oper.mk _ (Op.store 37 _ _) _ _ _ none :: _) _ _; refine wpList_stF rfl (.tmp 2) (.tmp 7) rfl w.heap.size ⟨0, ba [], 1, 0⟩ nil0 (by simp [Act.eval, Act.put]) (by simp [Act.eval, Act.put, fdC, ba]) rz ?_; intro wy ry gy sy))
    exact fd_end rfl w.heap.size _ _ rfl rfl ry rfl (below_gb bz gy (Nat.le_refl _))
  | false =>
    rw [if_neg (by simp)]
    cases B with
    | true =>
      rw [if_pos rfl]
      go_enter Tryd.func11, Tryd.ntmps11
      go_wp2_with (first | (with_reducible show wpList Tryd.prog _ _ (Oper.mk _ (Op.alloc 37) _ _ _ none :: _) _ _; refine wpList_alF rfl rfl ?_; intro wz rz bz sz) | (go_at_call 23; (with_reducible refine same_world (unhide HC0 _) ?_)) | (go_at_call 24; (with_reducible refine same_world (unhide HC1 _) ?_)) | (go_at_call 25; (with_reducible refine same_world (unhide HC2 _) ?_)) | (go_at_call 26; (with_reducible refine same_world (unhide HC3 _) ?_)) | (go_at_call 27; (with_reducible refine same_world (unhide HC4 _) ?_)) | (with_reducible show wpList Tryd.prog _ _ (Oper.mk _ (Op.store 37 _ _) _ _ _ none :: _) _ _; refine wpList_stF rfl (.tmp 2) (.tmp 13) rfl w.heap.size ⟨0, ba [], Z, 0⟩ nil0 (by simp [Act.eval, Act.put]) (by simp [Act.eval, Act.put, fdC, ba]) rz ?_; intro wy ry gy sy))
      exact fd_end rfl w.heap.size _ _ rfl rfl ry rfl (below_gb bz gy (Nat.le_refl _))
    | false =>
      rw [if_neg (by simp)]
      cases P with
      | true =>
        have c5 := c5 rfl
        have HC5 := hide c5
        clear c5
        cases O with
        | true =>
          rw [if_neg (by simp)]
          go_enter Tryd.func11, Tryd.ntmps11
          go_wp2_with (first | (with_reducible show wpList Tryd.prog _ _ (Oper.mk _ (Op.alloc 37) _ _ _ none :: _) _ _; refine wpList_alF rfl rfl ?_; intro wz rz bz sz) | (go_at_call 23; (with_reducible refine same_world (unhide HC0 _) ?_)) | (go_at_call 24; (with_reducible refine same_world (unhide HC1 _) ?_)) | (go_at_call 25; (with_reducible refine same_world (unhide HC2 _) ?_)) | (go_at_call 26; (with_reducible refine same_world (unhide HC3 _) ?_)) | (go_at_call 27; (with_reducible refine same_world (unhide HC4 _) ?_)) | (with_reducible show wpList Tryd.prog _ _ (Oper.mk _ (Op.store 37 _ _) _ _ _ none :: _) _ _; refine wpList_stF rfl (.tmp 2) (.tmp 24) rfl w.heap.size nil0 nil0 (by simp [Act.eval, Act.put]) (by simp [Act.eval, Act.put, fdC, nil0, ba]) rz ?_; intro wy ry gy sy))
          exact fd_end rfl w.heap.size _ _ rfl rfl ry rfl (below_gb bz gy (Nat.le_refl _))
        | false =>
          rw [if_pos (by simp)]
          go_enter Tryd.func11, Tryd.ntmps11
          go_wp2_with (first | (with_reducible show wpList Tryd.prog _ _ (Oper.mk _ (Op.alloc 37) _ _ _ none :: _) _ _; refine wpList_alF rfl rfl ?_; intro wz rz bz sz) | (go_at_call 23; (with_reducible refine same_world (unhide HC0 _) ?_)) | (go_at_call 24; (with_reducible refine same_world (unhide HC1 _) ?_)) | (go_at_call 25; (with_reducible refine same_world (unhide HC2 _) ?_)) | (go_at_call 26; (with_reducible refine same_world (unhide HC3 _) ?_)) | (go_at_call 27; (with_reducible refine same_world (unhide HC4 _) ?_)) | (go_at_call 28; (with_reducible refine (unhide HC5 _ ((unhide HV).later bz)).mono ?_); rintro e wz ⟨rfl, qz⟩; have rz := rz.later qz; have bz := bt bz qz) | (with_reducible show wpList Tryd.prog _ _ (Oper.mk _ (Op.store 37 _ _) _ _ _ none :: _) _ _; refine wpList_stF rfl (.tmp 2) (.tmp 23) rfl w.heap.size R nil0 (by simp [Act.eval, Act.put]) (by simp [Act.eval, Act.put, fdC, nil0, er]) rz ?_; intro wy ry gy sy))
          exact fd_end rfl w.heap.size _ _ rfl rfl ry rfl (below_gb bz gy (Nat.le_refl _))
      | false =>
        rw [if_neg (by simp)]
        clear c5
        go_enter Tryd.func11, Tryd.ntmps11
        go_wp2_with (first | (with_reducible show wpList Tryd.prog _ _ (Oper.mk _ (Op.alloc 37) _ _ _ none :: _) _ _; refine wpList_alF rfl rfl ?_; intro wz rz bz sz) | (go_at_call 23; (with_reducible refine same_world (unhide HC0 _) ?_)) | (go_at_call 24; (with_reducible refine same_world (unhide HC1 _) ?_)) | (go_at_call 25; (with_reducible refine same_world (unhide HC2 _) ?_)) | (go_at_call 26; (with_reducible refine same_world (unhide HC3 _) ?_)) | (go_at_call 27; (with_reducible refine same_world (unhide HC4 _) ?_)) | (with_reducible show wpList Tryd.prog _ _ (Oper.mk _ (Op.store 37 _ _) _ _ _ none :: _) _ _; refine wpList_stF rfl (.tmp 2) (.tmp 24) rfl w.heap.size nil0 nil0 (by simp [Act.eval, Act.put]) (by simp [Act.eval, Act.put, fdC, nil0, ba]) rz ?_; intro wy ry gy sy))
        exact fd_end rfl w.heap.size _ _ rfl rfl ry rfl (below_gb bz gy (Nat.le_refl _))

end Go.Proofs.YtjbgkgkgpigikaaDoor
