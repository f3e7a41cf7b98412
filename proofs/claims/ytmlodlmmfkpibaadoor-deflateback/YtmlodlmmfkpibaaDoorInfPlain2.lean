/-
  The reading of a compressed stream: bounds of what is read. No program and no memory is named here.
-/
import Derived.Test.YtmlodlmmfkpibaaDoorInfPlain
namespace Go.Proofs.YtmlodlmmfkpibaaDoor
set_option linter.unusedVariables false
set_option linter.unusedSimpArgs false

theorem dec_e (L b : List Int) (at_ : Nat) : ∀ f n x, (dec L b at_ f n x).2.2 = 0 ∨ (dec L b at_ f n x).2.2 = 4 ∨ (dec L b at_ f n x).2.2 = 5
  | 0, n, x => by simp [dec]
  | f + 1, n, x => by
    simp only [dec]
    split
    · simp
    · split
      · simp
      · exact dec_e L b at_ f (n + 1) _
theorem cer_e (L : List Int) : 0 ≤ cer L ∧ cer L ≤ 7 := by
  unfold cer
  split
  · omega
  · split
    · omega
    · split <;> omega
theorem rdq_ok (L b : List Int) (p : Nat) (h : (rdq L b p).2.2 = 0) : ∃ i k : Nat, rdq L b p = ((i : Int), (k : Int), 0) ∧ i < L.length ∧ 1 ≤ k ∧ p + k ≤ 8 * b.length ∧ cer L = 0 := by
  unfold rdq at h ⊢
  by_cases hc : cer L = 0
  · rw [if_pos hc] at h ⊢
    rw [if_neg (by omega)] at h ⊢
    obtain ⟨i, k, h1, h2, h3, h4, h5, h6⟩ := dec_ok L b ((p : Int).toNat) (lng L 16) 0 0 h
    exact ⟨i, k, h1, h2, by omega, by omega, hc⟩
  · rw [if_neg hc] at h
    exact absurd h hc
theorem rdq_no (L b : List Int) (p : Nat) (h : ¬ (rdq L b p).2.2 = 0) : (rdq L b p).1 = 0 ∧ (rdq L b p).2.1 = 0 ∧ 0 ≤ (rdq L b p).2.2 ∧ (rdq L b p).2.2 ≤ 7 := by
  have hce := cer_e L
  unfold rdq at h ⊢
  by_cases hc : cer L = 0
  · rw [if_pos hc] at h ⊢
    rw [if_neg (by omega)] at h ⊢
    have h1 := dec_err L b ((p : Int).toNat) (lng L 16) 0 0
    have h2 := dec_e L b ((p : Int).toNat) (lng L 16) 0 0
    unfold rd at h ⊢
    rcases h1 with h1 | h1
    · exact absurd h1 h
    · exact ⟨h1.1, h1.2, by omega, by omega⟩
  · rw [if_neg hc]
    exact ⟨rfl, rfl, hce.1, hce.2⟩
theorem symS_live {L b : List Int} {s : PS} (h : s.e = 0) : symS L b s = ((rdq L b s.p).1, { s with p := s.p + (rdq L b s.p).2.1.toNat, e := (rdq L b s.p).2.2 }) := if_pos h
theorem symS_dead {L b : List Int} {s : PS} (h : s.e ≠ 0) : symS L b s = (0, s) := if_neg h
theorem rdq_fit (L b : List Int) (p : Nat) (hp : p ≤ 8 * b.length) : 0 ≤ (rdq L b p).1 ∧ 0 ≤ (rdq L b p).2.1 ∧ p + (rdq L b p).2.1.toNat ≤ 8 * b.length ∧ 0 ≤ (rdq L b p).2.2 ∧ (rdq L b p).2.2 ≤ 7 := by
  by_cases h : (rdq L b p).2.2 = 0
  · obtain ⟨i, k, h1, h2, h3, h4, _⟩ := rdq_ok L b p h
    rw [h1]
    refine ⟨?_, ?_, ?_, ?_, ?_⟩ <;> simp <;> omega
  · obtain ⟨h1, h2, h3, h4⟩ := rdq_no L b p h
    rw [h1, h2]
    exact ⟨by omega, by omega, by simpa using hp, h3, h4⟩
theorem symS_320 (L b : List Int) (s : PS) : (symS L b s).1 < 320 := by
  by_cases he : s.e = 0
  · rw [symS_live he]
    by_cases h : (rdq L b s.p).2.2 = 0
    · obtain ⟨i, k, h1, h2, h3, h4, hc⟩ := rdq_ok L b s.p h
      rw [h1]
      have := (good_of hc).len
      simp
      omega
    · rw [(rdq_no L b s.p h).1]
      simp
  · rw [symS_dead he]
    simp
theorem fldN_dead {b : List Int} {s : PS} (h : s.e ≠ 0) : ∀ n, fldN b n s = (0, s)
  | 0 => rfl
  | n + 1 => by simp only [fldN, fldN_dead h n, bitS_dead h]; simp
theorem romS_dead {m : Int} {s : PS} (h : s.e ≠ 0) : romS m s = s := by unfold romS; split; rfl; exact stopS_dead h
theorem romS_o (m : Int) (s : PS) : (romS m s).o = s.o := by unfold romS; split; rfl; exact stopS_o _ _
theorem telS_dead {m c : Int} {s : PS} (h : s.e ≠ 0) : telS m c s = s := by unfold telS; rw [romS_dead h, if_neg h]
theorem telS_live {m c : Int} {s : PS} (h : s.e = 0) (hm : (s.o.length : Int) < m) : telS m c s = { s with o := s.o ++ [c] } := by unfold telS romS; rw [if_pos hm, if_pos h]
theorem telS_full {m c : Int} {s : PS} (h : s.e = 0) (hm : ¬ (s.o.length : Int) < m) : telS m c s = { s with e := 3 } := by unfold telS romS; rw [if_neg hm, stopS_live h, if_neg (by simp)]
theorem bckS_dead {m : Int} {d : Nat} {s : PS} (h : s.e ≠ 0) : bckS m d s = s := telS_dead h
theorem cpyL_dead {m : Int} {d : Nat} {s : PS} (h : s.e ≠ 0) : ∀ n, cpyL m d n s = s
  | 0 => rfl
  | n + 1 => by simp only [cpyL, bckS_dead h]; exact cpyL_dead h n
theorem stoL_dead {b : List Int} {m : Int} {s : PS} (h : s.e ≠ 0) : ∀ n, stoL b m n s = s
  | 0 => rfl
  | n + 1 => by simp only [stoL, fldN_dead h, telS_dead h]; exact stoL_dead h n
theorem cdS_dead {L D b : List Int} {m : Int} {s : PS} (h : s.e ≠ 0) : ∀ n, cdS L D b m n s = s
  | 0 => rfl
  | n + 1 => by simp only [cdS]; exact if_neg h
theorem lenL_dead {C b : List Int} {N : Nat} {a : List Int} {s : PS} (h : s.e ≠ 0) : ∀ n, lenL C b N n a s = (a, s)
  | 0 => rfl
  | n + 1 => by simp only [lenL]; exact if_neg (fun q => h q.2)

end Go.Proofs.YtmlodlmmfkpibaaDoor
