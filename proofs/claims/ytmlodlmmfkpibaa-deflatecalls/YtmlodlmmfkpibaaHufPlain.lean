/-
  Prefix codes told by their lengths, as plain lists of numbers: counts, first codes, codes, ranks. No program and no memory is named here.
-/
import Derived.Test.YtmlodlmmfkpibaaByt
namespace Go.Proofs.Ytmlodlmmfkpibaa
set_option linter.unusedVariables false
set_option linter.unusedSimpArgs false

/-- The length of symbol i. -/
def ln (L : List Int) (i : Nat) : Int := L[i]?.getD 0
/-- How many symbols have a code of k bits. -/
def cz (L : List Int) (k : Nat) : Int := if k = 0 then 0 else (L.count (k : Int) : Int)
/-- The code behind the last one of k bits. -/
def Fl (L : List Int) : Nat → Int
  | 0 => 0
  | k + 1 => 2 * Fl L k + cz L (k + 1)
/-- The first code of k bits. -/
def fc (L : List Int) (k : Nat) : Int := Fl L k - cz L k
/-- How many symbols have a code of less than k bits. -/
def pl (L : List Int) : Nat → Int
  | 0 => 0
  | k + 1 => pl L k + cz L k
/-- How many symbols ahead of i have as many bits. -/
def rk (L : List Int) (i : Nat) : Int := ((L.take i).count (ln L i) : Int)
def code (L : List Int) (i : Nat) : Int := if ln L i = 0 then -1 else fc L (ln L i).toNat + rk L i
/-- The greatest length below m that has a code. -/
def lng (L : List Int) : Nat → Nat
  | 0 => 0
  | m + 1 => if 0 < cz L m then m else lng L m

/-- Lengths that are a code. -/
structure Good (L : List Int) : Prop where
  len : L.length ≤ 320
  fit : ∀ x ∈ L, 0 ≤ x ∧ x ≤ 15
  full : Fl L 15 ≤ 32768

theorem cz_nonneg (L : List Int) (k : Nat) : 0 ≤ cz L k := by unfold cz; split <;> omega
theorem cz_le (L : List Int) (k : Nat) : cz L k ≤ L.length := by
  unfold cz
  have := List.count_le_length (a := (k : Int)) (l := L)
  split <;> omega
theorem cz_zero (L : List Int) : cz L 0 = 0 := rfl
theorem Fl_nonneg (L : List Int) : ∀ k, 0 ≤ Fl L k
  | 0 => by simp [Fl]
  | k + 1 => by have := Fl_nonneg L k; have := cz_nonneg L (k + 1); simp only [Fl]; omega
theorem fc_succ (L : List Int) (k : Nat) : fc L (k + 1) = 2 * Fl L k := by simp [fc, Fl]
theorem fc_zero (L : List Int) : fc L 0 = 0 := rfl
theorem fc_nonneg (L : List Int) (k : Nat) : 0 ≤ fc L k := by
  cases k with
  | zero => simp [fc_zero]
  | succ k => rw [fc_succ]; have := Fl_nonneg L k; omega
theorem Fl_eq (L : List Int) (k : Nat) : Fl L k = fc L k + cz L k := by simp [fc]
theorem fc_step (L : List Int) (k : Nat) : fc L (k + 1) = (fc L k + cz L k) * 2 := by rw [fc_succ, Fl_eq]; omega

theorem Fl_up (L : List Int) (k : Nat) : ∀ d, 2 ^ d * Fl L k ≤ Fl L (k + d)
  | 0 => by simp
  | d + 1 => by
    have ih := Fl_up L k d
    have hc := cz_nonneg L (k + d + 1)
    rw [show k + (d + 1) = k + d + 1 by omega]
    simp only [Fl]
    rw [show (2 : Int) ^ (d + 1) * Fl L k = 2 * (2 ^ d * Fl L k) by rw [Int.pow_succ, Int.mul_comm ((2 : Int) ^ d) 2, Int.mul_assoc]]
    omega
theorem fc_up (L : List Int) (k d : Nat) : 2 ^ (d + 1) * Fl L k ≤ fc L (k + d + 1) := by
  have := Fl_up L k d
  rw [fc_succ, show (2 : Int) ^ (d + 1) * Fl L k = 2 * (2 ^ d * Fl L k) by rw [Int.pow_succ, Int.mul_comm ((2 : Int) ^ d) 2, Int.mul_assoc]]
  omega

theorem Fl_big (L : List Int) (h : L.length ≤ 320) (k : Nat) (hk : k ≤ 15) : Fl L k ≤ 32768 * 640 := by
  have h1 : ∀ k, Fl L k + 320 ≤ 320 * 2 ^ (k + 1) := by
    intro k
    induction k with
    | zero => simp [Fl]
    | succ k ih =>
      have := cz_le L (k + 1)
      simp only [Fl]
      rw [Int.pow_succ]
      omega
  have h2 := h1 k
  have h3 : (2 : Int) ^ (k + 1) ≤ 2 ^ 16 := by
    have := Nat.pow_le_pow_right (show 0 < 2 by omega) (show k + 1 ≤ 16 by omega)
    exact_mod_cast this
  omega

theorem Good.le {L : List Int} (h : Good L) {k : Nat} (hk : k ≤ 15) : Fl L k ≤ 2 ^ k := by
  have h1 := Fl_up L k (15 - k)
  rw [show k + (15 - k) = 15 by omega] at h1
  have h2 := h.full
  have h3 : (2 : Int) ^ (15 - k) * 2 ^ k = 32768 := by rw [← Int.pow_add, show 15 - k + k = 15 by omega]; decide
  have h4 : (2 : Int) ^ (15 - k) * Fl L k ≤ 2 ^ (15 - k) * 2 ^ k := by omega
  exact Int.le_of_mul_le_mul_left h4 (Int.pow_pos (by omega))

theorem Good.small {L : List Int} (h : Good L) {k : Nat} (hk : k ≤ 15) : Fl L k ≤ 32768 := by
  have h1 := Fl_up L k (15 - k)
  rw [show k + (15 - k) = 15 by omega] at h1
  have h2 := h.full
  have h3 : (1 : Int) ≤ 2 ^ (15 - k) := Int.pow_pos (by omega)
  have h4 := Int.mul_le_mul_of_nonneg_right h3 (Fl_nonneg L k)
  omega

/-! The counts as symbols come in one by one. -/
theorem cz_snoc (L : List Int) (x : Int) (k : Nat) : cz (L ++ [x]) k = cz L k + (if x = (k : Int) ∧ k ≠ 0 then 1 else 0) := by
  unfold cz
  by_cases h0 : k = 0
  · simp [h0]
  · rw [if_neg h0, if_neg h0, List.count_append, List.count_singleton]
    by_cases hx : x = (k : Int)
    · simp [hx, h0]
    · simp [hx, h0]
def pw (x : Int) : Int := if x = 0 then 0 else 2 ^ (15 - x).toNat
theorem Fl_snoc (L : List Int) (x : Int) (hx0 : 0 ≤ x) : ∀ k : Nat, Fl (L ++ [x]) k = Fl L k + (if 1 ≤ x ∧ x ≤ (k : Int) then 2 ^ ((k : Int) - x).toNat else 0)
  | 0 => by rw [if_neg (by omega)]; simp [Fl]
  | k + 1 => by
    have ih := Fl_snoc L x hx0 k
    simp only [Fl, ih, cz_snoc]
    by_cases h1 : 1 ≤ x ∧ x ≤ (k : Int)
    · rw [if_pos h1, if_neg (by omega), if_pos (by omega), show (((k + 1 : Nat) : Int) - x).toNat = ((k : Int) - x).toNat + 1 by omega, Int.pow_succ]
      omega
    · rw [if_neg h1]
      by_cases h2 : x = ((k + 1 : Nat) : Int)
      · rw [if_pos ⟨h2, by omega⟩, if_pos (by omega), h2]
        simp
        omega
      · rw [if_neg (by omega), if_neg (by omega)]
        omega
theorem Fl_pw (L : List Int) (x : Int) (hx0 : 0 ≤ x) (hx : x ≤ 15) : Fl (L ++ [x]) 15 = Fl L 15 + pw x := by
  rw [Fl_snoc L x hx0]
  unfold pw
  by_cases h : x = 0
  · rw [if_neg (by omega), if_pos h]
  · rw [if_pos (by constructor <;> omega), if_neg h]
    rfl
theorem Fl_nil : ∀ k, Fl [] k = 0
  | 0 => rfl
  | k + 1 => by simp [Fl, Fl_nil k, cz]

theorem take_snoc {L : List Int} {m : Nat} (h : m < L.length) : L.take (m + 1) = L.take m ++ [ln L m] := by
  rw [List.take_add_one, List.getElem?_eq_getElem h]
  simp [ln, List.getElem?_eq_getElem h]
theorem ln_mem {L : List Int} {m : Nat} (h : m < L.length) : ln L m ∈ L := by
  simp [ln, List.getElem?_eq_getElem h]

/-! Ranks: the codes of one length follow one another. -/
theorem count_take_mono (L : List Int) (v : Int) {i j : Nat} (h : i ≤ j) : (L.take i).count v ≤ (L.take j).count v :=
  List.Sublist.count_le v (by
    have : L.take i = (L.take j).take i := by rw [List.take_take]; congr 1; omega
    rw [this]
    exact List.take_sublist _ _)
theorem count_take_succ (L : List Int) {i : Nat} (h : i < L.length) (v : Int) : (L.take (i + 1)).count v = (L.take i).count v + (if ln L i = v then 1 else 0) := by
  rw [take_snoc h, List.count_append, List.count_singleton]
  congr 1
  by_cases hv : ln L i = v <;> simp [hv]
theorem rk_lt (L : List Int) {i j : Nat} (hij : i < j) (hj : j ≤ L.length) (v : Int) (hv : ln L i = v) : (L.take i).count v < (L.take j).count v := by
  have h1 := count_take_succ L (show i < L.length by omega) v
  rw [if_pos hv] at h1
  have := count_take_mono L v (show i + 1 ≤ j by omega)
  omega
theorem rk_nonneg (L : List Int) (i : Nat) : 0 ≤ rk L i := by unfold rk; omega
theorem rk_bound (L : List Int) {i : Nat} (h : i < L.length) (k : Nat) (hk : ln L i = (k : Int)) (h0 : k ≠ 0) : rk L i < cz L k := by
  have := rk_lt L h (Nat.le_refl _) (k : Int) hk
  rw [List.take_length] at this
  unfold rk cz
  rw [if_neg h0, hk]
  omega
theorem rk_inj (L : List Int) {i j : Nat} (hi : i < L.length) (hj : j < L.length) (hl : ln L i = ln L j) (h : rk L i = rk L j) : i = j := by
  unfold rk at h
  rcases Nat.lt_trichotomy i j with h1 | h1 | h1
  · have := rk_lt L h1 (by omega) (ln L i) rfl
    rw [← hl] at h
    omega
  · exact h1
  · have := rk_lt L h1 (by omega) (ln L j) rfl
    rw [hl] at h
    omega
/-- Every rank below the count is some symbol's. -/
theorem rk_hit (L : List Int) (v : Int) : ∀ (n r : Nat), n ≤ L.length → r < (L.take n).count v → ∃ i, i < n ∧ ln L i = v ∧ (L.take i).count v = r
  | 0, r, _, h => by simp at h
  | n + 1, r, hn, h => by
    rw [count_take_succ L (by omega)] at h
    by_cases hlt : r < (L.take n).count v
    · obtain ⟨i, hi, h1, h2⟩ := rk_hit L v n r (by omega) hlt
      exact ⟨i, by omega, h1, h2⟩
    · by_cases hv : ln L n = v
      · rw [if_pos hv] at h
        exact ⟨n, by omega, hv, by omega⟩
      · rw [if_neg hv] at h
        omega

theorem code_eq (L : List Int) (i k : Nat) (hk : ln L i = (k : Int)) (h0 : k ≠ 0) : code L i = fc L k + rk L i := by
  unfold code
  rw [if_neg (by omega), hk]
  simp
theorem code_lt (L : List Int) {i : Nat} (hi : i < L.length) (k : Nat) (hk : ln L i = (k : Int)) (h0 : k ≠ 0) : fc L k ≤ code L i ∧ code L i < Fl L k := by
  rw [code_eq L i k hk h0, Fl_eq]
  have := rk_nonneg L i
  have := rk_bound L hi k hk h0
  omega
theorem code_hit (L : List Int) (k : Nat) (h0 : k ≠ 0) (x : Int) (h1 : fc L k ≤ x) (h2 : x < Fl L k) : ∃ i, i < L.length ∧ ln L i = (k : Int) ∧ code L i = x := by
  rw [Fl_eq] at h2
  unfold cz at h2
  rw [if_neg h0] at h2
  obtain ⟨i, hi, hv, hr⟩ := rk_hit L (k : Int) L.length (x - fc L k).toNat (Nat.le_refl _) (by rw [List.take_length]; omega)
  refine ⟨i, hi, hv, ?_⟩
  rw [code_eq L i k hv h0]
  unfold rk
  rw [hv, hr]
  omega
theorem code_inj (L : List Int) {i j : Nat} (hi : i < L.length) (hj : j < L.length) (k : Nat) (h0 : k ≠ 0) (hik : ln L i = (k : Int)) (hjk : ln L j = (k : Int)) (h : code L i = code L j) : i = j := by
  rw [code_eq L i k hik h0, code_eq L j k hjk h0] at h
  exact rk_inj L hi hj (by rw [hik, hjk]) (by omega)

/-- The places of the symbols when they are ordered by their codes. -/
theorem pl_snoc (L : List Int) (x : Int) (hx0 : 0 ≤ x) : ∀ k : Nat, pl (L ++ [x]) k = pl L k + (if 1 ≤ x ∧ x < (k : Int) then 1 else 0)
  | 0 => by rw [if_neg (by omega)]; simp [pl]
  | k + 1 => by
    simp only [pl, pl_snoc L x hx0 k, cz_snoc]
    by_cases h1 : 1 ≤ x ∧ x < (k : Int)
    · rw [if_pos h1, if_neg (by omega), if_pos (by omega)]; omega
    · rw [if_neg h1]
      by_cases h2 : x = (k : Int) ∧ k ≠ 0
      · rw [if_pos h2, if_pos (by omega)]; omega
      · rw [if_neg h2, if_neg (by omega)]; omega
theorem pl_nil : ∀ k, pl [] k = 0
  | 0 => rfl
  | k + 1 => by simp [pl, pl_nil k, cz]
theorem pl_le_take (L : List Int) (hf : ∀ x ∈ L, 0 ≤ x ∧ x ≤ 15) (k : Nat) : ∀ m, m ≤ L.length → pl (L.take m) k ≤ m
  | 0, _ => by simp [pl_nil]
  | m + 1, h => by
    have ih := pl_le_take L hf k m (by omega)
    have := hf _ (ln_mem (L := L) (m := m) (by omega))
    rw [take_snoc (by omega), pl_snoc _ _ this.1]
    split <;> omega
theorem pl_le (L : List Int) (hf : ∀ x ∈ L, 0 ≤ x ∧ x ≤ 15) (k : Nat) : pl L k ≤ L.length := by
  have := pl_le_take L hf k L.length (Nat.le_refl _)
  rwa [List.take_length] at this
theorem pl_nonneg (L : List Int) : ∀ k, 0 ≤ pl L k
  | 0 => by simp [pl]
  | k + 1 => by have := pl_nonneg L k; have := cz_nonneg L k; simp only [pl]; omega
theorem pl_mono (L : List Int) {k n : Nat} (h : k ≤ n) : pl L k ≤ pl L n := by
  induction n with
  | zero => rw [show k = 0 by omega]; exact Int.le_refl _
  | succ n ih =>
    by_cases h1 : k = n + 1
    · rw [h1]; exact Int.le_refl _
    · have := ih (by omega)
      have := cz_nonneg L n
      simp only [pl]; omega
def pos (L : List Int) (i : Nat) : Int := pl L (ln L i).toNat + rk L i
theorem pos_in (L : List Int) {i : Nat} (hi : i < L.length) (k : Nat) (hk : ln L i = (k : Int)) (h0 : k ≠ 0) : pl L k ≤ pos L i ∧ pos L i < pl L (k + 1) := by
  have h1 := rk_bound L hi k hk h0
  have h2 := rk_nonneg L i
  unfold pos
  rw [hk]
  simp only [pl, Int.toNat_natCast]
  omega
theorem pos_inj (L : List Int) {i j : Nat} (hi : i < L.length) (hj : j < L.length) (h0 : 0 < ln L i) (h1 : 0 < ln L j) (h : pos L i = pos L j) : i = j := by
  obtain ⟨a, ha⟩ : ∃ a : Nat, ln L i = (a : Int) := ⟨(ln L i).toNat, by omega⟩
  obtain ⟨b, hb⟩ : ∃ b : Nat, ln L j = (b : Int) := ⟨(ln L j).toNat, by omega⟩
  have p1 := pos_in L hi a ha (by omega)
  have p2 := pos_in L hj b hb (by omega)
  have hab : a = b := by
    rcases Nat.lt_trichotomy a b with q | q | q
    · have := pl_mono L (show a + 1 ≤ b by omega); omega
    · exact q
    · have := pl_mono L (show b + 1 ≤ a by omega); omega
  subst hab
  unfold pos at h
  rw [ha, hb] at h
  exact rk_inj L hi hj (by rw [ha, hb]) (by omega)

/-! The longest code. -/
theorem lng_le (L : List Int) : ∀ m, lng L m ≤ m - 1
  | 0 => by simp [lng]
  | m + 1 => by have := lng_le L m; simp only [lng]; split <;> omega
theorem lng_cz (L : List Int) : ∀ m, ∀ k, lng L m < k → k < m → cz L k = 0
  | 0, k, _, h => by omega
  | m + 1, k, h1, h2 => by
    simp only [lng] at h1
    split at h1
    · omega
    · rename_i hm
      by_cases hk : k = m
      · subst hk; have := cz_nonneg L k; omega
      · exact lng_cz L m k h1 (by omega)
theorem lng_ge (L : List Int) : ∀ m, ∀ k, 0 < cz L k → k < m → k ≤ lng L m := by
  intro m k h1 h2
  by_cases h : k ≤ lng L m
  · exact h
  · have := lng_cz L m k (by omega) h2
    omega

end Go.Proofs.Ytmlodlmmfkpibaa
