/-
  A sum's four bytes with bits turned are another sum, wherever a bit is turned. No program is named here.
-/
import Derived.Test.YtalkeooejobjhaaDoorZlbPlain
namespace Go.Proofs.YtalkeooejobjhaaDoor
open Go
set_option linter.unusedVariables false
set_option linter.unusedSimpArgs false

/-- The byte k of a number, the lowest first; and the sum behind k bytes that were turned. -/
def yb (y : Int) : Nat → Int
  | 0 => y % 256
  | 1 => y / 256 % 256
  | 2 => y / 65536 % 256
  | _ => y / 16777216
def tq (s y : Int) : Nat → List Int
  | 0 => sm4 s
  | k + 1 => (tq s y k).set (3 - k) (bits .xor .u8 ((tq s y k)[3 - k]?.getD 0) (yb y k))
theorem tq_len (s y : Int) : ∀ k, (tq s y k).length = 4
  | 0 => rfl
  | k + 1 => by simp [tq, tq_len s y k]
theorem tq_four (s y : Int) : tq s y 4 = [bits .xor .u8 (s / 16777216) (y / 16777216), bits .xor .u8 (s / 65536 % 256) (y / 65536 % 256), bits .xor .u8 (s / 256 % 256) (y / 256 % 256), bits .xor .u8 (s % 256) (y % 256)] := rfl
theorem tq_at (s y : Int) {k : Nat} (hk : k < 4) : (tq s y k)[3 - k]?.getD 0 = yb s k := by
  have hc : k = 0 ∨ k = 1 ∨ k = 2 ∨ k = 3 := by omega
  rcases hc with rfl | rfl | rfl | rfl <;> rfl
theorem yb_bd {y : Int} (h0 : 0 ≤ y) (h1 : y < 4294967296) (k : Nat) : 0 ≤ yb y k ∧ yb y k ≤ 255 := by
  unfold yb
  split <;> omega
theorem tq_other {s y : Int} (h0 : 0 ≤ s) (h1 : s < 4294967296) (y0 : 0 ≤ y) (y1 : y < 4294967296) (hy : y ≠ 0) : rdS (tq s y 4) ≠ s := by
  obtain ⟨a0, a1, a2⟩ := xor_u8 (s / 16777216) (y / 16777216) (by omega) (by omega) (by omega) (by omega)
  obtain ⟨b0, b1, b2⟩ := xor_u8 (s / 65536 % 256) (y / 65536 % 256) (by omega) (by omega) (by omega) (by omega)
  obtain ⟨c0, c1, c2⟩ := xor_u8 (s / 256 % 256) (y / 256 % 256) (by omega) (by omega) (by omega) (by omega)
  obtain ⟨d0, d1, d2⟩ := xor_u8 (s % 256) (y % 256) (by omega) (by omega) (by omega) (by omega)
  rw [tq_four]
  intro hr
  have hr' : bits .xor .u8 (s / 16777216) (y / 16777216) * 16777216 + bits .xor .u8 (s / 65536 % 256) (y / 65536 % 256) * 65536 + bits .xor .u8 (s / 256 % 256) (y / 256 % 256) * 256 + bits .xor .u8 (s % 256) (y % 256) = s := hr
  generalize bits .xor .u8 (s / 16777216) (y / 16777216) = A at *
  generalize bits .xor .u8 (s / 65536 % 256) (y / 65536 % 256) = B at *
  generalize bits .xor .u8 (s / 256 % 256) (y / 256 % 256) = C at *
  generalize bits .xor .u8 (s % 256) (y % 256) = D at *
  have q1 := a2.1 (by omega)
  have q2 := b2.1 (by omega)
  have q3 := c2.1 (by omega)
  have q4 := d2.1 (by omega)
  omega
/-- Where the bytes stand. -/
theorem behind_at (p t : List Int) {n k : Nat} (hn : n = p.length + 4) (hk : k < 4) : (p ++ t)[n - 1 - k]?.getD 0 = t[3 - k]?.getD 0 := by
  rw [List.getElem?_append_right (by omega), show n - 1 - k - p.length = 3 - k by omega]
theorem behind_set (p t : List Int) {n k : Nat} (hn : n = p.length + 4) (hk : k < 4) (v : Int) : (p ++ t).set (n - 1 - k) v = p ++ t.set (3 - k) v := by
  rw [List.set_append_right _ _ (by omega), show n - 1 - k - p.length = 3 - k by omega]
end Go.Proofs.YtalkeooejobjhaaDoor
