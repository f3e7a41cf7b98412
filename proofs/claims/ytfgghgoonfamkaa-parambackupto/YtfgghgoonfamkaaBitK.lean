/-
  Bits of small numbers: the last bit, a bit set behind others, a number's next bit. No program is named here.
-/
import Derived.Test.YtfgghgoonfamkaaMA
import Derived.Laws.Bits128
namespace Go.Proofs.Ytfgghgoonfamkaa
open Go
set_option linter.unusedVariables false

theorem and1_u8 (y : Int) (h0 : 0 ≤ y) (h1 : y ≤ 255) : bits .and .u8 y 1 = y % 2 := by
  rw [u8_and y 1 h0 (by omega) (by omega) (by omega), show (1 : Int).toNat = 1 from rfl, nat_mask1]
  omega
theorem and1_i64 (n : Int) : bits .and .i64 n 1 = n % 2 := by
  have h1 : (BitVec.ofInt 64 1).toNat = 2 ^ 1 - 1 := by decide
  have key : (BitVec.ofInt 64 n &&& BitVec.ofInt 64 1).toNat = (n % ((2 ^ 64 : Nat) : Int)).toNat % 2 ^ 1 := by
    rw [BitVec.toNat_and, BitVec.toNat_ofInt, h1, Nat.and_two_pow_sub_one_eq_mod]
  show IntKind.i64.wrap ((BitVec.ofInt 64 n &&& BitVec.ofInt 64 1).toNat : Nat) = n % 2
  rw [key, IntKind.wrap_i64]
  omega
theorem or1_i64 (x b : Int) (h0 : 0 ≤ x) (h1 : x ≤ 1000000000) (b0 : 0 ≤ b) (b1 : b ≤ 1) : bits .or .i64 (x * 2) b = x * 2 + b := by
  obtain ⟨X, rfl⟩ := Int.eq_ofNat_of_zero_le h0
  obtain ⟨B, rfl⟩ := Int.eq_ofNat_of_zero_le b0
  have hX : X ≤ 1000000000 := by omega
  have e1 : BitVec.ofInt 64 ((X : Int) * 2) = BitVec.ofNat 64 (X * 2) := by rw [show (X : Int) * 2 = ((X * 2 : Nat) : Int) by omega, BitVec.ofInt_natCast]
  show IntKind.i64.wrap ((BitVec.ofInt 64 ((X : Int) * 2) ||| BitVec.ofInt 64 (B : Int)).toNat : Int) = _
  rw [e1, BitVec.ofInt_natCast, BitVec.toNat_or, BitVec.toNat_ofNat, BitVec.toNat_ofNat, Nat.mod_eq_of_lt (show X * 2 < 2 ^ 64 by omega), Nat.mod_eq_of_lt (show B < 2 ^ 64 by omega), nat_join 1 (X * 2) B (by omega) (by omega), IntKind.wrap_i64]
  omega
theorem or_u8 (a b : Int) (k : Nat) (hk : k < 8) (a0 : 0 ≤ a) (a1 : a < 2 ^ k) (b0 : 0 ≤ b) (b1 : b ≤ 1) : bits .or .u8 a (b * 2 ^ k) = a + b * 2 ^ k := by
  have hp : (2 : Int) ^ k ≤ 128 := by
    have := Nat.pow_le_pow_right (show 0 < 2 by omega) (show k ≤ 7 by omega)
    have h2 : (2 : Int) ^ k ≤ 2 ^ 7 := by exact_mod_cast this
    omega
  have hb : b = 0 ∨ b = 1 := by omega
  have hm : 0 ≤ b * 2 ^ k ∧ b * 2 ^ k ≤ 128 := by rcases hb with h | h <;> subst h <;> omega
  obtain ⟨A, rfl⟩ := Int.eq_ofNat_of_zero_le a0
  obtain ⟨B, rfl⟩ := Int.eq_ofNat_of_zero_le b0
  have e : (B : Int) * 2 ^ k = ((B * 2 ^ k : Nat) : Int) := by rw [Int.natCast_mul, Int.natCast_pow]; rfl
  have hA : A < 2 ^ k := by exact_mod_cast a1
  rw [e] at hm ⊢
  rw [u8_or_nat A (B * 2 ^ k) (by omega) (by omega), Nat.or_comm, nat_join k (B * 2 ^ k) A (by simp) hA]
  omega

end Go.Proofs.Ytfgghgoonfamkaa
