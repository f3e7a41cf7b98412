/-
  What isSign of package scan returns for any text. Conditions: none.
-/
import Derived.Test.YtddfbaaghjcbnaaGreatDoorMNum
namespace Go.Proofs.YtddfbaaghjcbnaaGreatDoor
open Go.RowKit
set_option linter.unusedVariables false
set_option linter.unusedSimpArgs false

theorem ls_of (x : ByteArray) (l : Bl) : (x.toList == l) = decide (bl x = l) := by
  rw [Lib.toList_data, Bool.eq_iff_iff, beq_iff_eq, decide_eq_true_eq]
  exact Iff.rfl
set_option maxHeartbeats 4000000 in
set_option maxRecDepth 20000 in
theorem isSign_any (s : ByteArray) (w : World) : Calls Tryz.prog 75 #[.string s] w fun e w' => e = .returned (.bool (sgB (bl s))) ∧ w' = w := by
  by_cases h : bl s ∈ sgs
  · have e : sgB (bl s) = true := by unfold sgB; simpa using h
    rw [e]
    have hs : s = ba (bl s) := rfl
    generalize bl s = L at *
    subst hs
    clear e
    unfold sgs at h
    simp only [List.mem_cons, List.not_mem_nil, or_false] at h
    unfold ba
    rcases h with rfl | rfl | rfl | rfl | rfl | rfl | rfl | rfl | rfl | rfl | rfl | rfl | rfl | rfl | rfl | rfl | rfl | rfl | rfl | rfl | rfl | rfl | rfl | rfl | rfl | rfl | rfl | rfl | rfl | rfl | rfl | rfl | rfl | rfl | rfl
    all_goals
      go_enter Tryz.func75, Tryz.ntmps75
      go_wp2_with fail
      go_ret
      exact ⟨rfl, rfl⟩
  · have e : sgB (bl s) = false := by unfold sgB; simpa using h
    rw [e]
    unfold sgs at h
    simp only [List.mem_cons, List.not_mem_nil, or_false, not_or] at h
    obtain ⟨h0, h1, h2, h3, h4, h5, h6, h7, h8, h9, h10, h11, h12, h13, h14, h15, h16, h17, h18, h19, h20, h21, h22, h23, h24, h25, h26, h27, h28, h29, h30, h31, h32, h33, h34⟩ := h
    clear e
    have k0 : (s.toList == [60, 61, 62]) = false := by rw [ls_of]; simpa using h0
    have k1 : (s.toList == [60, 62]) = false := by rw [ls_of]; simpa using h1
    have k2 : (s.toList == [33, 61]) = false := by rw [ls_of]; simpa using h2
    have k3 : (s.toList == [60, 61]) = false := by rw [ls_of]; simpa using h3
    have k4 : (s.toList == [62, 61]) = false := by rw [ls_of]; simpa using h4
    have k5 : (s.toList == [58, 61]) = false := by rw [ls_of]; simpa using h5
    have k6 : (s.toList == [60, 60]) = false := by rw [ls_of]; simpa using h6
    have k7 : (s.toList == [62, 62]) = false := by rw [ls_of]; simpa using h7
    have k8 : (s.toList == [38, 38]) = false := by rw [ls_of]; simpa using h8
    have k9 : (s.toList == [124, 124]) = false := by rw [ls_of]; simpa using h9
    have k10 : (s.toList == [45, 62]) = false := by rw [ls_of]; simpa using h10
    have k11 : (s.toList == [45, 62, 62]) = false := by rw [ls_of]; simpa using h11
    have k12 : (s.toList == [40]) = false := by rw [ls_of]; simpa using h12
    have k13 : (s.toList == [41]) = false := by rw [ls_of]; simpa using h13
    have k14 : (s.toList == [44]) = false := by rw [ls_of]; simpa using h14
    have k15 : (s.toList == [59]) = false := by rw [ls_of]; simpa using h15
    have k16 : (s.toList == [46]) = false := by rw [ls_of]; simpa using h16
    have k17 : (s.toList == [43]) = false := by rw [ls_of]; simpa using h17
    have k18 : (s.toList == [45]) = false := by rw [ls_of]; simpa using h18
    have k19 : (s.toList == [42]) = false := by rw [ls_of]; simpa using h19
    have k20 : (s.toList == [47]) = false := by rw [ls_of]; simpa using h20
    have k21 : (s.toList == [37]) = false := by rw [ls_of]; simpa using h21
    have k22 : (s.toList == [61]) = false := by rw [ls_of]; simpa using h22
    have k23 : (s.toList == [60]) = false := by rw [ls_of]; simpa using h23
    have k24 : (s.toList == [62]) = false := by rw [ls_of]; simpa using h24
    have k25 : (s.toList == [38]) = false := by rw [ls_of]; simpa using h25
    have k26 : (s.toList == [124]) = false := by rw [ls_of]; simpa using h26
    have k27 : (s.toList == [94]) = false := by rw [ls_of]; simpa using h27
    have k28 : (s.toList == [126]) = false := by rw [ls_of]; simpa using h28
    have k29 : (s.toList == [33]) = false := by rw [ls_of]; simpa using h29
    have k30 : (s.toList == [123]) = false := by rw [ls_of]; simpa using h30
    have k31 : (s.toList == [125]) = false := by rw [ls_of]; simpa using h31
    have k32 : (s.toList == [91]) = false := by rw [ls_of]; simpa using h32
    have k33 : (s.toList == [93]) = false := by rw [ls_of]; simpa using h33
    have k34 : (s.toList == [58]) = false := by rw [ls_of]; simpa using h34
    clear h0 h1 h2 h3 h4 h5 h6 h7 h8 h9 h10 h11 h12 h13 h14 h15 h16 h17 h18 h19 h20 h21 h22 h23 h24 h25 h26 h27 h28 h29 h30 h31 h32 h33 h34
    go_enter Tryz.func75, Tryz.ntmps75
    go_wp2_with fail
    go_ret
    exact ⟨rfl, rfl⟩

end Go.Proofs.YtddfbaaghjcbnaaGreatDoor
