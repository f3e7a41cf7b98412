/-
  Bits of a row of bytes: one that is set, one that is asked for; two rows with the same bits are the same. No program is named here.
-/
import Derived.Test.YtfgghgoonfamkaaBitK
namespace Go.Proofs.Ytfgghgoonfamkaa
open Go
set_option linter.unusedVariables false
set_option linter.unusedSimpArgs false

/-- Bit i of a row of bytes. -/
def bit (l : List Int) (i : Nat) : Bool := (l[i / 8]?.getD 0).toNat.testBit (i % 8)
theorem pow2_nat (k : Nat) : (2 : Int) ^ k = ((2 ^ k : Nat) : Int) := by rw [Int.natCast_pow]; rfl
theorem pow2_lt8 {k : Nat} (h : k < 8) : 2 ^ k < 256 := by
  have := Nat.pow_lt_pow_right (show 1 < 2 by omega) h
  omega
theorem bit_or {l : List Int} (h : Byt l) {i : Nat} (hi : i / 8 < l.length) : ∃ y, bits .or .u8 (l[i / 8]?.getD 0) (2 ^ (i % 8)) = y ∧ 0 ≤ y ∧ y ≤ 255 ∧ ∀ j, bit (l.set (i / 8) y) j = (bit l j || decide (j = i)) := by
  have hb := h.at (i / 8)
  obtain ⟨A, hA⟩ := Int.eq_ofNat_of_zero_le hb.1
  have hk : i % 8 < 8 := Nat.mod_lt _ (by decide)
  have hK := pow2_lt8 hk
  have hA2 : A < 256 := by omega
  refine ⟨_, rfl, ?_⟩
  have e : bits .or .u8 (l[i / 8]?.getD 0) (2 ^ (i % 8)) = ((A ||| 2 ^ (i % 8) : Nat) : Int) := by
    rw [hA, pow2_nat, u8_or_nat A (2 ^ (i % 8)) (by omega) (by omega)]
  have hlt : A ||| 2 ^ (i % 8) < 2 ^ 8 := Nat.or_lt_two_pow hA2 hK
  rw [e]
  refine ⟨by omega, by omega, fun j => ?_⟩
  unfold bit
  by_cases hj : j / 8 = i / 8
  · rw [hj, List.getElem?_set_self hi, Option.getD_some, Int.toNat_natCast, Nat.testBit_or, Nat.testBit_two_pow, hA]
    have q : (i % 8 = j % 8) ↔ (j = i) := by omega
    simp only [q]
    rfl
  · rw [List.getElem?_set_ne (by omega)]
    have q : ¬ j = i := by intro z; exact hj (by rw [z])
    simp [q]
theorem bit_get {l : List Int} (h : Byt l) (i : Nat) : bits .and .u8 (l[i / 8]?.getD 0 / 2 ^ (i % 8)) 1 = if bit l i = true then 1 else 0 := by
  have hb := h.at (i / 8)
  obtain ⟨A, hA⟩ := Int.eq_ofNat_of_zero_le hb.1
  have hA2 : A ≤ 255 := by omega
  unfold bit
  rw [hA, pow2_nat, Int.toNat_natCast, ← Int.natCast_ediv]
  have hd : A / 2 ^ (i % 8) ≤ 255 := Nat.le_trans (Nat.div_le_self _ _) hA2
  rw [Nat.testBit_eq_decide_div_mod_eq]
  generalize A / 2 ^ (i % 8) = D at hd ⊢
  rw [and1_u8 _ (by omega) (by omega)]
  by_cases hq : D % 2 = 1
  · rw [if_pos (by simpa using hq)]; omega
  · rw [if_neg (by simpa using hq)]; omega
theorem bit_ext {a b : List Int} (ha : Byt a) (hb : Byt b) (hl : a.length = b.length) (h : ∀ j, j < 8 * a.length → bit a j = bit b j) : a = b := by
  apply List.ext_getElem? 
  intro i
  by_cases hi : i < a.length
  · have h1 := ha.at i
    have h2 := hb.at i
    rw [List.getElem?_eq_getElem hi, List.getElem?_eq_getElem (by omega)] at *
    simp only [Option.getD_some] at h1 h2
    congr 1
    obtain ⟨A, hA⟩ := Int.eq_ofNat_of_zero_le h1.1
    obtain ⟨B, hB⟩ := Int.eq_ofNat_of_zero_le h2.1
    rw [hA, hB]
    congr 1
    apply Nat.eq_of_testBit_eq
    intro k
    by_cases hk : k < 8
    · have q := h (8 * i + k) (by omega)
      unfold bit at q
      rw [show (8 * i + k) / 8 = i by omega, show (8 * i + k) % 8 = k by omega, List.getElem?_eq_getElem hi, List.getElem?_eq_getElem (by omega), Option.getD_some, Option.getD_some, hA, hB] at q
      exact q
    · have p8 : (256 : Nat) ≤ 2 ^ k := by
        have := Nat.pow_le_pow_right (show 0 < 2 by omega) (show 8 ≤ k by omega)
        omega
      rw [Nat.testBit_lt_two_pow (by omega), Nat.testBit_lt_two_pow (by omega)]
  · rw [List.getElem?_eq_none (by omega), List.getElem?_eq_none (by omega)]
theorem bit_zero (n j : Nat) : bit (List.replicate n 0) j = false := by
  unfold bit
  rw [List.getElem?_replicate]
  split <;> simp
theorem bit_out {l : List Int} {j : Nat} (h : 8 * l.length ≤ j) : bit l j = false := by
  unfold bit
  rw [List.getElem?_eq_none (by omega)]
  simp
theorem byt_rep (n : Nat) : Byt (List.replicate n 0) := by
  intro x hx
  rw [(List.mem_replicate.1 hx).2]
  omega

end Go.Proofs.Ytfgghgoonfamkaa
