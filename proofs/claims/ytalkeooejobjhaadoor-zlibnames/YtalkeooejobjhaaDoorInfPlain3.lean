/-
  The lengths of a dynamic block's codes: bounds of what is read. No program and no memory is named here.
-/
import Derived.Test.YtalkeooejobjhaaDoorMInfP
namespace Go.Proofs.YtalkeooejobjhaaDoor
set_option linter.unusedVariables false
set_option linter.unusedSimpArgs false

def Rng (a : List Int) : Prop := ∀ x ∈ a, 0 ≤ x ∧ x ≤ 15
theorem Rng.rep {a : List Int} (h : Rng a) (k : Nat) {v : Int} (h0 : 0 ≤ v) (h1 : v ≤ 15) : Rng (a ++ List.replicate k v) := by
  intro x hx
  rcases List.mem_append.1 hx with q | q
  · exact h x q
  · have := List.eq_of_mem_replicate q
    omega
theorem Rng.one {a : List Int} (h : Rng a) {v : Int} (h0 : 0 ≤ v) (h1 : v ≤ 15) : Rng (a ++ [v]) := h.rep 1 h0 h1
theorem Rng.getD {a : List Int} (h : Rng a) (i : Nat) : 0 ≤ a[i]?.getD 0 ∧ a[i]?.getD 0 ≤ 15 := by
  rcases Nat.lt_or_ge i a.length with hi | hi
  · simp only [List.getElem?_eq_getElem hi, Option.getD_some]
    exact h _ (List.getElem_mem hi)
  · simp [List.getElem?_eq_none hi]

theorem lexS_rng {b a : List Int} {x : Int} {s : PS} (h : Rng a) (h0 : 0 ≤ x) (h1 : x < 19) : Rng (lexS b a x s).1 := by
  unfold lexS
  split
  · unfold agnS
    split
    · intro y hy; cases hy
    · exact h.rep _ (h.getD _).1 (h.getD _).2
  · split
    · exact h.rep _ (by omega) (by omega)
    · split
      · exact h.rep _ (by omega) (by omega)
      · exact h.one h0 (by omega)
theorem lexS_len {b a : List Int} {x : Int} {s : PS} : (lexS b a x s).1.length ≤ a.length + 140 ∧ ((lexS b a x s).2.e = 0 → a.length + 1 ≤ (lexS b a x s).1.length) := by
  have b2 := fldN_bd b 2 s
  have b3 := fldN_bd b 3 s
  have b7 := fldN_bd b 7 s
  unfold lexS
  split
  · unfold agnS
    split
    · refine ⟨by simp, fun h => absurd h (stopS_e 5 s (by omega))⟩
    · simp only [List.length_append, List.length_replicate]
      omega
  · split
    · simp only [nneS, List.length_append, List.length_replicate]
      omega
    · split
      · simp only [nneS, List.length_append, List.length_replicate]
        omega
      · simp
theorem lenL_rng {C b : List Int} {N : Nat} (hC : C.length ≤ 19) : ∀ (f : Nat) (a : List Int) (s : PS), Rng a → Rng (lenL C b N f a s).1
  | 0, a, s, h => h
  | f + 1, a, s, h => by
    simp only [lenL]
    split
    · have hb := symS_bd C b s
      exact lenL_rng hC f _ _ (lexS_rng h hb.1 (by omega))
    · exact h
theorem lenL_ok {C b : List Int} {N : Nat} : ∀ (f : Nat) (a : List Int) (s : PS), N + 1 ≤ f + a.length → (lenL C b N f a s).2.e = 0 → N ≤ (lenL C b N f a s).1.length
  | 0, a, s, hf, h => by simp only [lenL]; omega
  | f + 1, a, s, hf, h => by
    simp only [lenL] at h ⊢
    by_cases hc : a.length < N ∧ s.e = 0
    · rw [if_pos hc] at h ⊢
      have hl := lexS_len (b := b) (a := a) (x := (symS C b s).1) (s := (symS C b s).2)
      by_cases he : (lexS b a (symS C b s).1 (symS C b s).2).2.e = 0
      · exact lenL_ok f _ _ (by have := hl.2 he; omega) h
      · rw [lenL_dead he] at h
        exact absurd h he
    · rw [if_neg hc] at h ⊢
      simp only at h ⊢
      omega
theorem lenL_end {C b : List Int} {N : Nat} {a : List Int} {s : PS} (h : ¬ (a.length < N ∧ s.e = 0)) : ∀ f, lenL C b N f a s = (a, s)
  | 0 => rfl
  | f + 1 => by simp only [lenL]; exact if_neg h
theorem lenS_rng {C b : List Int} {N : Nat} (hC : C.length ≤ 19) (s : PS) : Rng (lenS C b N s).1 := by
  unfold lenS lenC
  exact lenL_rng hC _ _ _ (fun x hx => by cases hx)
theorem lenS_ok {C b : List Int} {N : Nat} {s : PS} (h : (lenS C b N s).2.e = 0) : (lenS C b N s).1.length = N := by
  unfold lenS lenC at h ⊢
  simp only at h ⊢
  by_cases hl : (lenL C b N (N + 1) [] s).1.length ≤ N
  · rw [if_pos hl] at h
    have := lenL_ok (C := C) (b := b) (N := N) (N + 1) [] s (by simp) h
    omega
  · rw [if_neg hl] at h
    exact absurd h (stopS_e 5 _ (by omega))

end Go.Proofs.YtalkeooejobjhaaDoor
