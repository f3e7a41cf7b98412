/-
  The document's own answer for values: Check. It writes nothing that was there. Conditions: numbers within their kinds.
-/
import Derived.Test.YtlicnhlgmnlaoaaVrLeaf
import Derived.Deep.CutRange
import Derived.Deep.DeepCutAuto
namespace Go.Proofs.Ytlicnhlgmnlaoaa
open Go.RowKit
set_option linter.unusedVariables false
set_option linter.unusedSimpArgs false

/-- What else than its kind's own is not nothing? -/
def oth (v : Va) : Bool := ((v.k != 1) && (v.i != 0)) || ((((v.k != 2) && ((v.k != 3) && (v.k != 4))) && (v.b != 0)) || (((v.k != 7) && !decide (v.t = ⟨#[]⟩)) || (((v.k != 5) && (v.k != 6)) && !decide (v.w = wh0))))
theorem vok_b0 {v : Va} {t : Int} {un : Bool} (h : (decide (kdV t un < 0) || ((v.k != 0) && (v.k != kdV t un))) = true) : vOk v t un = false := by
  simp only [Bool.or_eq_true, Bool.and_eq_true, decide_eq_true_eq, bne_iff_ne] at h
  rcases h with h | ⟨h1, h2⟩
  · have : kdV t un = -1 := by rcases kd_cases t un with q | q | q | q | q | q | q | q | q <;> omega
    unfold vOk; simp [this]
  · have : v ≠ va0 := fun e => h1 (by rw [e]; rfl)
    unfold vOk mb
    simp [this, h2]
theorem vok_oth {v : Va} {t : Int} {un : Bool} (h : oth v = true) : vOk v t un = false := by
  obtain ⟨k, i, b, tx, W⟩ := v
  have h0 : (⟨k, i, b, tx, W⟩ : Va) ≠ va0 := by
    intro e
    unfold va0 at e
    injection e with e1 e2 e3 e4 e5
    subst e1 e2 e3 e4 e5
    revert h
    decide
  have hf : fit ⟨k, i, b, tx, W⟩ t = false := by
    unfold oth at h
    unfold fit
    simp only at h ⊢
    split
    · rename_i q; subst q
      by_cases g : (⟨1, i, b, tx, W⟩ : Va) = ⟨1, i, 0, ⟨#[]⟩, wh0⟩
      · injection g with g1 g2 g3 g4 g5; subst g3 g4 g5; simp at h
      · simp [g]
    split
    · rename_i q
      by_cases g : (⟨k, i, b, tx, W⟩ : Va) = ⟨k, 0, b, ⟨#[]⟩, wh0⟩
      · injection g with g1 g2 g3 g4 g5; subst g2 g4 g5; rcases q with q | q | q <;> subst q <;> simp at h
      · simp [g]
    split
    · rename_i q; subst q
      by_cases g : (⟨5, i, b, tx, W⟩ : Va) = ⟨5, 0, 0, ⟨#[]⟩, W⟩
      · injection g with g1 g2 g3 g4 g5; subst g2 g3 g4; simp at h
      · simp [g]
    split
    · rename_i q; subst q
      by_cases g : (⟨6, i, b, tx, W⟩ : Va) = ⟨6, 0, 0, ⟨#[]⟩, W⟩
      · injection g with g1 g2 g3 g4 g5; subst g2 g3 g4; simp at h
      · simp [g]
    split
    · rename_i q; subst q
      by_cases g : (⟨7, i, b, tx, W⟩ : Va) = ⟨7, 0, 0, tx, wh0⟩
      · injection g with g1 g2 g3 g4 g5; subst g2 g3 g5; simp at h
      · simp [g]
    rfl
  unfold vOk mb
  simp [h0, hf]
theorem kd_sz {t : Int} {un : Bool} (h : kdV t un = 1 ∨ kdV t un = 2 ∨ kdV t un = 3 ∨ kdV t un = 4) : szP t = szV t := by
  unfold szP szV
  by_cases h1 : t = 1
  · simp [h1]
  by_cases h2 : t = 2 ∨ t = 13
  · rw [if_neg h1, if_pos h2, if_neg h1, if_pos h2]
  by_cases h3 : t = 3 ∨ t = 9 ∨ t = 4
  · rw [if_neg h1, if_neg h2, if_pos h3, if_neg h1, if_neg h2, if_pos h3]
  by_cases h4 : t = 8 ∨ t = 5
  · rw [if_neg h1, if_neg h2, if_neg h3, if_pos h4, if_neg h1, if_neg h2, if_neg h3]
  exfalso
  revert h
  unfold kdV
  have : isN t = false := by unfold isN; simp; omega
  rw [this]
  repeat' split
  all_goals first | omega | simp_all
theorem kd_t6 {t : Int} {un : Bool} (h : kdV t un = 6) : t = 11 := by
  unfold kdV at h
  repeat' split at h
  all_goals first | omega | simp_all
theorem kd_t5 {t : Int} {un : Bool} (h : kdV t un = 5) : t ≠ 11 := by
  intro e
  subst e
  revert h
  cases un <;> decide
theorem vok0 {v : Va} {t : Int} {un : Bool} (hk : v.k = 0) (h : kdV t un ≠ -1) (ho : oth v = false) : vOk v t un = true := by
  obtain ⟨k, i, b, tx, W⟩ := v
  simp only at hk
  subst hk
  unfold oth at ho
  simp at ho
  obtain ⟨h1, h2, h3, h4⟩ := ho
  subst h1 h2 h3 h4
  unfold vOk mb va0
  simp [h]
theorem vok1 {v : Va} {t : Int} {un : Bool} (hk : v.k = 1) (h : kdV t un = 1) (ho : oth v = false) : vOk v t un = (v.i == sgn (v.i % 18446744073709551616) (szV t)) := by
  obtain ⟨k, i, b, tx, W⟩ := v
  simp only at hk
  subst hk
  unfold oth at ho
  simp at ho
  obtain ⟨h2, h3, h4⟩ := ho
  subst h2 h3 h4
  unfold vOk mb fit va0
  rw [kd_sz (.inl h)]
  simp [h]
theorem vok2 {v : Va} {t : Int} {un : Bool} (hk : v.k = 2 ∨ v.k = 3 ∨ v.k = 4) (h : kdV t un = v.k) (ho : oth v = false) : vOk v t un = (v.b == uns v.b (szV t)) := by
  obtain ⟨k, i, b, tx, W⟩ := v
  simp only at hk h
  have hs : szP t = szV t := kd_sz (un := un) (by omega)
  unfold oth at ho
  rcases hk with q | q | q <;> subst q <;> simp at ho <;> obtain ⟨h2, h3, h4⟩ := ho <;> subst h2 h3 h4 <;> unfold vOk mb fit va0 <;> rw [hs] <;> simp [h]
theorem vok5 {v : Va} {t : Int} {un : Bool} (hk : v.k = 5) (h : kdV t un = 5) (ho : oth v = false) : vOk v t un = if t = 11 then tmOk v.w else dtOk v.w t := by
  obtain ⟨k, i, b, tx, W⟩ := v
  simp only at hk
  subst hk
  unfold oth at ho
  simp at ho
  obtain ⟨h2, h3, h4⟩ := ho
  subst h2 h3 h4
  rw [if_neg (kd_t5 h)]
  unfold vOk mb fit va0
  simp [h]
theorem vok6 {v : Va} {t : Int} {un : Bool} (hk : v.k = 6) (h : kdV t un = 6) (ho : oth v = false) : vOk v t un = if t = 11 then tmOk v.w else dtOk v.w t := by
  obtain ⟨k, i, b, tx, W⟩ := v
  simp only at hk
  subst hk
  unfold oth at ho
  simp at ho
  obtain ⟨h2, h3, h4⟩ := ho
  subst h2 h3 h4
  rw [if_pos (kd_t6 h)]
  unfold vOk mb fit va0
  simp [h]
theorem vok7 {v : Va} {t : Int} {un : Bool} (hk : v.k = 7) (h : kdV t un = 7) (ho : oth v = false) : vOk v t un = decide (v.t.size ≤ 16777216) := by
  obtain ⟨k, i, b, tx, W⟩ := v
  simp only at hk
  subst hk
  unfold oth at ho
  simp at ho
  obtain ⟨h2, h3, h4⟩ := ho
  subst h2 h3 h4
  unfold vOk mb fit va0
  simp [h]
theorem sg_in {i n : Int} (hi : i64 i) (h : n = 1 ∨ n = 2 ∨ n = 4 ∨ n = 8) : (i == sgn (i % 18446744073709551616) n) = if n = 8 then true else (!decide (i < -(2 ^ (8 * n - 1).toNat : Int)) && !decide (2 ^ (8 * n - 1).toNat ≤ i)) := by
  obtain ⟨h0, h1⟩ := hi
  rcases h with h | h | h | h <;> subst h <;> unfold sgn <;> rw [Bool.eq_iff_iff] <;> simp <;> omega
theorem us_in {b n : Int} (hb : 0 ≤ b ∧ b < 18446744073709551616) (h : n = 1 ∨ n = 2 ∨ n = 4 ∨ n = 8) : (b == uns b n) = if n = 8 then true else !decide (b / 2 ^ (8 * n).toNat ≠ 0) := by
  obtain ⟨h0, h1⟩ := hb
  rcases h with h | h | h | h <;> subst h <;> unfold uns <;> rw [Bool.eq_iff_iff] <;> simp <;> omega

theorem vba_nil {t : ByteArray} (h : t.toList = []) : t = ⟨#[]⟩ := vba_inj (by rw [h, ByteArray.toList_eq])


end Go.Proofs.Ytlicnhlgmnlaoaa
