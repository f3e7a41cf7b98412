/-
  Bits of whole numbers: a bit set behind others, sixteen bits turned. No program is named here.
-/
import Derived.Test.YtalkeooejobjhaaDoorMMem
namespace Go.Proofs.YtalkeooejobjhaaDoor
open Go
set_option linter.unusedVariables false

theorem or_i64 (a b : Int) (k : Nat) (hk : k < 20) (a0 : 0 ≤ a) (a1 : a < 2 ^ k) (b0 : 0 ≤ b) (b1 : b ≤ 1) : bits .or .i64 a (b * 2 ^ k) = a + b * 2 ^ k := by
  have hp : (2 : Int) ^ k ≤ 1048576 := by
    have := Nat.pow_le_pow_right (show 0 < 2 by omega) (show k ≤ 20 by omega)
    have h2 : (2 : Int) ^ k ≤ 2 ^ 20 := by exact_mod_cast this
    omega
  have hb : b = 0 ∨ b = 1 := by omega
  have hm : 0 ≤ b * 2 ^ k ∧ b * 2 ^ k ≤ 1048576 := by rcases hb with h | h <;> subst h <;> omega
  obtain ⟨A, rfl⟩ := Int.eq_ofNat_of_zero_le a0
  obtain ⟨B, rfl⟩ := Int.eq_ofNat_of_zero_le b0
  have e : (B : Int) * 2 ^ k = ((B * 2 ^ k : Nat) : Int) := by rw [Int.natCast_mul, Int.natCast_pow]; rfl
  have hA : A < 2 ^ k := by exact_mod_cast a1
  have hA2 : A < 1048576 := by have : ((2 ^ k : Nat) : Int) ≤ 1048576 := by rw [Int.natCast_pow]; exact hp
                               omega
  rw [e] at hm ⊢
  show IntKind.i64.wrap ((BitVec.ofInt 64 (A : Int) ||| BitVec.ofInt 64 ((B * 2 ^ k : Nat) : Int)).toNat : Int) = _
  rw [BitVec.ofInt_natCast, BitVec.ofInt_natCast, BitVec.toNat_or, BitVec.toNat_ofNat, BitVec.toNat_ofNat, Nat.mod_eq_of_lt (show A < 2 ^ 64 by omega), Nat.mod_eq_of_lt (show B * 2 ^ k < 2 ^ 64 by omega), Nat.or_comm, nat_join k (B * 2 ^ k) A (by simp) hA, IntKind.wrap_i64]
  omega

theorem xor16 (c : Int) (h0 : 0 ≤ c) (h1 : c < 65536) : bits .xor .i64 c 65535 = 65535 - c := by
  obtain ⟨C, rfl⟩ := Int.eq_ofNat_of_zero_le h0
  have hC : C < 2 ^ 16 := by omega
  have key : C ^^^ 65535 = 65535 - C := by
    have h : (BitVec.ofNat 16 C ^^^ BitVec.allOnes 16).toNat = (~~~ BitVec.ofNat 16 C).toNat := by rw [BitVec.xor_allOnes]
    rw [BitVec.toNat_xor, BitVec.toNat_not, BitVec.toNat_ofNat, BitVec.toNat_allOnes, Nat.mod_eq_of_lt hC] at h
    omega
  show IntKind.i64.wrap ((BitVec.ofInt 64 (C : Int) ^^^ BitVec.ofInt 64 65535).toNat : Int) = _
  rw [BitVec.ofInt_natCast, BitVec.toNat_xor, BitVec.toNat_ofNat, Nat.mod_eq_of_lt (show C < 2 ^ 64 by omega), show (BitVec.ofInt 64 65535).toNat = 65535 by decide, key, IntKind.wrap_i64]
  omega

end Go.Proofs.YtalkeooejobjhaaDoor
