/-
  The pieces of a text, plain: how long they are, how many, what words each has. No program and no memory is named here.
-/
import Derived.Test.YtjbgkgkgpigikaaDoorScLx
namespace Go.Proofs.YtjbgkgkgpigikaaDoor
set_option linter.unusedVariables false
set_option linter.unusedSimpArgs false

theorem spF_mem (s : Bl) : ∀ (ws : List Wd) (f n : Nat) (ps : List ByteArray), (∀ p ∈ ps, p.size ≤ s.length) → ∀ p ∈ spF s ws f n ps, p.size ≤ s.length
  | [], f, n, ps, h, p, hp => by
    unfold spF at hp
    split at hp
    · rcases List.mem_append.1 hp with q | q
      · exact h p q
      · rw [List.mem_singleton.1 q, ba_size, List.length_take, List.length_drop]
        omega
    · exact h p hp
  | x :: r, f, n, ps, h, p, hp => by
    unfold spF at hp
    split at hp
    · refine spF_mem s r _ _ _ ?_ p hp
      intro q hq
      split at hq
      · rcases List.mem_append.1 hq with z | z
        · exact h q z
        · rw [List.mem_singleton.1 z, ba_size, List.length_take, List.length_drop]
          omega
      · exact h q hq
    · exact spF_mem s r _ _ _ h p hp
theorem spW_mem (s : Bl) : ∀ p ∈ (spW s).1, p.size ≤ s.length := by
  unfold spW
  split
  · exact spF_mem s _ _ _ _ (fun p h => by cases h)
  · intro p h; cases h
theorem pcs_len {ps : List ByteArray} {gs : List (List Ky)} (h : Pcs ps gs) : ps.length = gs.length := by
  induction h with
  | nil => rfl
  | cons p g ps gs _ _ _ ih => simp [ih]
theorem pcs_at {ps : List ByteArray} {gs : List (List Ky)} (h : Pcs ps gs) : ∀ (j : Nat) (p : ByteArray), ps[j]? = some p → ∃ g, gs[j]? = some g ∧ Lx (bl p) g ∧ g ≠ [] := by
  induction h with
  | nil => intro j p hp; simp at hp
  | cons q g ps gs h1 h2 _ ih =>
    intro j p hp
    cases j with
    | zero =>
      simp at hp
      subst hp
      exact ⟨g, rfl, h1, h2⟩
    | succ j => exact ih j p (by simpa using hp)
theorem swsF_few : ∀ (m : Nat) (l : Bl) (i : Nat), (wsF m l i).1.length ≤ m
  | 0, l, i => by simp [wsF]
  | m + 1, l, i => by
    have ih := swsF_few m (l.drop (nxF l).n) (i + (nxF l).n)
    simp only [wsF]
    split
    · simp
    · split
      · simp
      · split
        · split
          · simp only [List.nil_append]; omega
          · simp only [List.cons_append, List.nil_append, List.length_cons]; omega
        · simp
theorem salW_cnt (l : Bl) (h : l.length ≤ 1048576) : (alW l).1.length ≤ l.length := by
  have := swsF_few l.length l 0
  rw [alW_ws l h]
  split
  · exact this
  · simp
theorem salW_bad (l : Bl) (h : (alW l).2 ≠ ok0) : (alW l).1 = [] := by
  by_cases hl : l.length ≤ 1048576
  · rw [alW_ws l hl] at h ⊢
    split
    · rename_i h2
      rw [if_pos h2] at h
      exact absurd rfl h
    · rfl
  · unfold alW
    rw [if_pos (by omega)]
theorem flat_take (gs : List (List Ky)) (j : Nat) : (gs.take j).flatten.length ≤ gs.flatten.length := by
  have e : gs.flatten = (gs.take j).flatten ++ (gs.drop j).flatten := by rw [← List.flatten_append, List.take_append_drop]
  rw [e, List.length_append]
  omega
/-- The pieces of a text: each with its words, all together the text's, but the signs ;. -/
theorem spW_all (s : Bl) : ∃ gs, Pcs (spW s).1 gs ∧ gs.flatten = noSm (alW s).1 ∧ (spW s).2 = (alW s).2 := by
  by_cases h : (alW s).2 = ok0
  · obtain ⟨h1, gs, h2, h3⟩ := spW_pcs s h
    exact ⟨gs, h2, h3, by rw [h1, h]⟩
  · rw [spW_bad s h, salW_bad s h]
    exact ⟨[], Pcs.nil, rfl, rfl⟩

end Go.Proofs.YtjbgkgkgpigikaaDoor
