/-
  Bits of bytes and of sums: the parts of a head, bytes put behind others; and what a head and a sum are, as plain numbers. No program is named here.
-/
import Derived.Test.YtalkeooejobjhaaDoorMMem
namespace Go.Proofs.YtalkeooejobjhaaDoor
open Go
set_option linter.unusedVariables false

theorem and15_u8 (x : Int) (h0 : 0 ≤ x) (h1 : x ≤ 255) : bits .and .u8 x 15 = x % 16 := by
  rw [u8_and x 15 h0 (by omega) (by omega) (by omega)]
  have : x.toNat &&& (15 : Int).toNat = x.toNat % 16 := Nat.and_two_pow_sub_one_eq_mod x.toNat 4
  rw [this]
  omega
set_option maxRecDepth 20000 in
theorem and32_all : ∀ a : Fin 256, a.val &&& 32 = a.val / 32 % 2 * 32 := by decide
theorem and32_u8 (x : Int) (h0 : 0 ≤ x) (h1 : x ≤ 255) : bits .and .u8 x 32 = x / 32 % 2 * 32 := by
  rw [u8_and x 32 h0 (by omega) (by omega) (by omega)]
  have : x.toNat &&& (32 : Int).toNat = x.toNat / 32 % 2 * 32 := and32_all ⟨x.toNat, by omega⟩
  rw [this]
  omega
theorem or8_i64 (x y : Int) (h0 : 0 ≤ x) (h1 : x ≤ 255) (h2 : 0 ≤ y) (h3 : y ≤ 255) : bits .or .i64 (x * 256) y = x * 256 + y := by
  obtain ⟨X, rfl⟩ := Int.eq_ofNat_of_zero_le h0
  obtain ⟨Y, rfl⟩ := Int.eq_ofNat_of_zero_le h2
  have e1 : (X : Int) * 256 = ((X * 256 : Nat) : Int) := by omega
  show IntKind.i64.wrap ((BitVec.ofInt 64 ((X : Int) * 256) ||| BitVec.ofInt 64 (Y : Int)).toNat : Int) = _
  rw [e1, BitVec.ofInt_natCast, BitVec.ofInt_natCast, BitVec.toNat_or, BitVec.toNat_ofNat, BitVec.toNat_ofNat, Nat.mod_eq_of_lt (show X * 256 < 2 ^ 64 by omega), Nat.mod_eq_of_lt (show Y < 2 ^ 64 by omega), nat_join 8 (X * 256) Y (by omega) (by omega), IntKind.wrap_i64]
  omega
theorem or8_u32 (v x : Int) (h0 : 0 ≤ v) (h1 : v < 16777216) (h2 : 0 ≤ x) (h3 : x ≤ 255) : bits .or .u32 (v * 256) x = v * 256 + x := by
  rw [u32_or _ _ (by omega) (by omega) h2 (by omega), nat_join 8 _ _ (by omega) (by omega)]
  omega
/-- A byte with bits turned is the same only where none is. -/
theorem xor_u8 (x y : Int) (h0 : 0 ≤ x) (h1 : x ≤ 255) (h2 : 0 ≤ y) (h3 : y ≤ 255) : 0 ≤ bits .xor .u8 x y ∧ bits .xor .u8 x y ≤ 255 ∧ (bits .xor .u8 x y = x ↔ y = 0) := by
  rw [u8_xor x y h0 (by omega) h2 (by omega)]
  have hlt : x.toNat ^^^ y.toNat < 2 ^ 8 := Nat.xor_lt_two_pow (by omega) (by omega)
  refine ⟨by omega, by omega, fun h => ?_, fun h => ?_⟩
  · have e : x.toNat ^^^ y.toNat = x.toNat := by omega
    have e2 : x.toNat ^^^ (x.toNat ^^^ y.toNat) = x.toNat ^^^ x.toNat := by rw [e]
    rw [← Nat.xor_assoc, Nat.xor_self, Nat.zero_xor] at e2
    omega
  · subst h
    simp
    omega
/-- A sum as four bytes, the highest first. -/
def sm4 (s : Int) : List Int := [s / 16777216, s / 65536 % 256, s / 256 % 256, s % 256]
/-- A head that is fine. -/
def Fine (x y : Int) : Prop := x % 16 = 8 ∧ x / 16 ≤ 7 ∧ y / 32 % 2 = 0 ∧ (x * 256 + y) % 31 = 0
instance (x y : Int) : Decidable (Fine x y) := inferInstanceAs (Decidable (_ ∧ _ ∧ _ ∧ _))
/-- What Head answers. -/
def hdE (b : List Int) : Int := if b.length < 2 then 4 else if Fine (b[0]?.getD 0) (b[1]?.getD 0) then 0 else 5
/-- What is read of a sum, and what stands behind the stream. -/
def rdS (b : List Int) : Int := b[0]?.getD 0 * 16777216 + b[1]?.getD 0 * 65536 + b[2]?.getD 0 * 256 + b[3]?.getD 0
def ckE (b : List Int) (s : Int) : Int := if b.length < 4 then 4 else if rdS b ≠ s then 8 else if 4 < b.length then 5 else 0
theorem sm4_len (s : Int) : (sm4 s).length = 4 := rfl
theorem sm4_byt {s : Int} (h0 : 0 ≤ s) (h1 : s < 4294967296) : Byt (sm4 s) := by
  intro x hx
  simp [sm4] at hx
  omega
end Go.Proofs.YtalkeooejobjhaaDoor
