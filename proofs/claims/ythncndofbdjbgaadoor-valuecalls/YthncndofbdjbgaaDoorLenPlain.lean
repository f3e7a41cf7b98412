/-
  Plain facts on numbers written as bytes, lowest first, and read back: what is written in n bytes is read as the number, if it fits. No program and no memory is named here.
-/
import Derived.Test.YthncndofbdjbgaaDoorByt
namespace Go.Proofs.YthncndofbdjbgaaDoor
set_option linter.unusedSimpArgs false

/-- The number of the first n bytes, the lowest first. -/
def val (bs : List Int) : Nat → Int
  | 0 => 0
  | n + 1 => val bs n + bs.getD n 0 * 2 ^ (8 * n)

theorem pow_pos8 (n : Nat) : (0 : Int) < 2 ^ (8 * n) := Int.pow_pos (by omega)
theorem pow_succ8 (n : Nat) : (2 : Int) ^ (8 * (n + 1)) = 256 * 2 ^ (8 * n) := by
  have : (2 : Int) ^ (8 * (n + 1)) = 2 ^ (8 * n) * 2 ^ 8 := by rw [← Int.pow_add]; rfl
  rw [this]; omega

theorem val_bounds {bs : List Int} (h : Byt bs) : ∀ n, 0 ≤ val bs n ∧ val bs n < 2 ^ (8 * n)
  | 0 => by simp [val]
  | n + 1 => by
    have ih := val_bounds h n
    have hb := h.at n
    have hp := pow_pos8 n
    have hg : bs.getD n 0 = bs[n]?.getD 0 := by simp
    rw [pow_succ8]
    simp only [val, hg]
    generalize bs[n]?.getD 0 = d at *
    generalize (2 : Int) ^ (8 * n) = p at *
    have h1 : 0 ≤ d * p := Int.mul_nonneg hb.1 (by omega)
    have h2 : d * p ≤ 255 * p := Int.mul_le_mul_of_nonneg_right hb.2 (by omega)
    omega

theorem val_append (a r : List Int) : ∀ n, n ≤ a.length → val (a ++ r) n = val a n
  | 0, _ => rfl
  | n + 1, h => by
    simp only [val]
    rw [val_append a r n (by omega)]
    have : (a ++ r).getD n 0 = a.getD n 0 := by
      simp only [List.getD_eq_getElem?_getD, List.getElem?_append_left (show n < a.length by omega)]
    rw [this]

theorem pow_le64 (m : Nat) (h : m ≤ 8) : (2 : Int) ^ (8 * m) ≤ 18446744073709551616 := by
  match m, h with
  | 0, _ | 1, _ | 2, _ | 3, _ | 4, _ | 5, _ | 6, _ | 7, _ | 8, _ => decide

/-- One step of reading: what is there, and the next byte above it. -/
theorem or_step {bs : List Int} (h : Byt bs) (m : Nat) (hm : m < 8) :
    bits BinOp.or IntKind.u64 (val bs m) (IntKind.u64.wrap (bs[m]?.getD 0 * 2 ^ (8 * m))) = val bs (m + 1) := by
  have hv := val_bounds h m
  have hv1 := val_bounds h (m + 1)
  have hb := h.at m
  have hp := pow_pos8 m
  have hp8 := pow_le64 (m + 1) (by omega)
  rw [pow_succ8] at hp8
  have hg : bs.getD m 0 = bs[m]?.getD 0 := by simp
  have hval : val bs (m + 1) = val bs m + bs[m]?.getD 0 * 2 ^ (8 * m) := by simp only [val, hg]
  generalize bs[m]?.getD 0 = d at *
  have h1 : 0 ≤ d * 2 ^ (8 * m) := Int.mul_nonneg hb.1 (by omega)
  have h2 : d * 2 ^ (8 * m) ≤ 255 * 2 ^ (8 * m) := Int.mul_le_mul_of_nonneg_right hb.2 (by omega)
  rw [IntKind.wrap_u64, Int.emod_eq_of_lt h1 (by omega), u64_or _ _ hv.1 (by omega) h1 (by omega), hval]
  obtain ⟨D, rfl⟩ := Int.eq_ofNat_of_zero_le hb.1
  generalize val bs m = v at *
  obtain ⟨V, rfl⟩ := Int.eq_ofNat_of_zero_le hv.1
  have e2 : ((D : Int) * 2 ^ (8 * m)) = ((D * 2 ^ (8 * m) : Nat) : Int) := by simp
  have e3 : (2 : Int) ^ (8 * m) = ((2 ^ (8 * m) : Nat) : Int) := by simp
  rw [e2]
  rw [e3] at hv
  have hV : V < 2 ^ (8 * m) := by omega
  rw [Int.toNat_natCast, Int.toNat_natCast, Nat.or_comm, nat_join (8 * m) (D * 2 ^ (8 * m)) V (by simp) hV]
  omega

/-- x in n bytes, the lowest first. -/
def le (x : Int) : Nat → List Int
  | 0 => []
  | n + 1 => le x n ++ [x / 2 ^ (8 * n) % 256]

theorem le_length (x : Int) : ∀ n, (le x n).length = n
  | 0 => rfl
  | n + 1 => by simp [le, le_length x n]

theorem le_byt (x : Int) : ∀ n, Byt (le x n)
  | 0 => Byt.nil
  | n + 1 => (le_byt x n).app (Byt.one (by omega) (by omega))

theorem emod_mul_step (x p : Int) (h0 : 0 ≤ x) (hp : 0 < p) : x % (256 * p) = x % p + x / p % 256 * p := by
  obtain ⟨X, rfl⟩ := Int.eq_ofNat_of_zero_le h0
  obtain ⟨P, rfl⟩ := Int.eq_ofNat_of_zero_le (Int.le_of_lt hp)
  have := Nat.mod_mul (a := P) (b := 256) (x := X)
  have e : ((X % (P * 256) : Nat) : Int) = ((X % P + P * (X / P % 256) : Nat) : Int) := by rw [this]
  have e2 : (X : Int) % (256 * (P : Int)) = ((X % (P * 256) : Nat) : Int) := by
    rw [Nat.mul_comm]; simp
  rw [e2, e]
  simp [Int.mul_comm]

theorem val_le (x : Int) (h0 : 0 ≤ x) (r : List Int) : ∀ n, val (le x n ++ r) n = x % 2 ^ (8 * n)
  | 0 => by simp [val]
  | n + 1 => by
    rw [val_append _ _ _ (by rw [le_length]; omega)]
    simp only [val, le]
    have h1 := val_le x h0 [x / 2 ^ (8 * n) % 256] n
    have h2 : (le x n ++ [x / 2 ^ (8 * n) % 256]).getD n 0 = x / 2 ^ (8 * n) % 256 := by
      simp [List.getD_eq_getElem?_getD, le_length]
    rw [h1, h2, pow_succ8, emod_mul_step x _ h0 (pow_pos8 n)]

theorem val_le_fits (x : Int) (h0 : 0 ≤ x) (r : List Int) (n : Nat) (h : x < 2 ^ (8 * n)) : val (le x n ++ r) n = x := by
  rw [val_le x h0 r n, Int.emod_eq_of_lt h0 h]

/-- One step of writing: the byte number m of x. -/
theorem shr_step (x : Int) (m : Nat) : IntKind.u8.wrap (x / 2 ^ (8 * m)) = x / 2 ^ (8 * m) % 256 := by rw [IntKind.wrap_u8']

/-- The result of ReadFixed: the number, the error. -/
def readFixed (bs : List Int) (k : Int) : Int × Int :=
  if ¬ (1 ≤ k ∧ k ≤ 8) then (0, 2) else if (bs.length : Int) < k then (0, 4) else (val bs k.toNat, 0)

end Go.Proofs.YthncndofbdjbgaaDoor
