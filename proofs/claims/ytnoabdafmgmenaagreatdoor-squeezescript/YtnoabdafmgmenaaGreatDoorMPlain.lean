/-
  Lists of numbers that are bytes. No program and no memory is named here.
  Plain facts on numbers written as bytes, lowest first, and read back: what is written in n bytes is read as the number, if it fits. No program and no memory is named here.
  Prefix codes told by their lengths, as plain lists of numbers: counts, first codes, codes, ranks. No program and no memory is named here.
  Reading by a code, as plain lists of numbers: which symbol's code bits are, the symbols in the order of their codes, what is read at a place. No program and no memory is named here.
  The lengths of the fixed codes, and the spans of lengths and distances. No program and no memory is named here.
  Bytes cut into pieces, and pieces put together, as plain lists of numbers: the longest copy at a place, the nearest of those; what pieces make. No program and no memory is named here.
  Plain facts on the checksum of streams: its two halves in closed form, how the sums of two pieces make the sum of both, what a window that moves by one byte does to it, and that one byte that changes, changes it. No program and no memory is named here.
-/
import Derived.Laws.BitsAllLaws
import Derived.Laws.BytesArg
import Derived.IntWalk
namespace Go.Proofs.YtnoabdafmgmenaaGreatDoor

/-- Every number of the list is a byte's. -/
def Byt (bs : List Int) : Prop := ∀ x ∈ bs, 0 ≤ x ∧ x ≤ 255

theorem Byt.nil : Byt [] := by intro x hx; cases hx
theorem Byt.app {a b : List Int} (h : Byt a) (k : Byt b) : Byt (a ++ b) := by
  intro x hx
  rcases List.mem_append.1 hx with h1 | h1
  · exact h x h1
  · exact k x h1
theorem Byt.one {x : Int} (h0 : 0 ≤ x) (h1 : x ≤ 255) : Byt [x] := by
  intro y hy
  simp at hy
  omega
theorem Byt.cons {x : Int} {r : List Int} (h0 : 0 ≤ x) (h1 : x ≤ 255) (h : Byt r) : Byt (x :: r) := Byt.app (Byt.one h0 h1) h
theorem Byt.left {a b : List Int} (h : Byt (a ++ b)) : Byt a := fun x hx => h x (List.mem_append.2 (.inl hx))
theorem Byt.right {a b : List Int} (h : Byt (a ++ b)) : Byt b := fun x hx => h x (List.mem_append.2 (.inr hx))
theorem Byt.at {bs : List Int} (h : Byt bs) (i : Nat) : 0 ≤ bs[i]?.getD 0 ∧ bs[i]?.getD 0 ≤ 255 := by
  rcases Nat.lt_or_ge i bs.length with hi | hi
  · simp only [List.getElem?_eq_getElem hi, Option.getD_some]
    exact h _ (List.getElem_mem hi)
  · simp [List.getElem?_eq_none hi]
theorem Byt.drop {bs : List Int} (h : Byt bs) (n : Nat) : Byt (bs.drop n) := fun x hx => h x (List.mem_of_mem_drop hx)
theorem Byt.take {bs : List Int} (h : Byt bs) (n : Nat) : Byt (bs.take n) := fun x hx => h x (List.mem_of_mem_take hx)

end Go.Proofs.YtnoabdafmgmenaaGreatDoor

namespace Go.Proofs.YtnoabdafmgmenaaGreatDoor
set_option linter.unusedSimpArgs false

/-- The number of the first n bytes, the lowest first. -/
def val (bs : List Int) : Nat → Int
  | 0 => 0
  | n + 1 => val bs n + bs.getD n 0 * 2 ^ (8 * n)

theorem pow_pos8 (n : Nat) : (0 : Int) < 2 ^ (8 * n) := Int.pow_pos (by omega)
theorem pow_succ8 (n : Nat) : (2 : Int) ^ (8 * (n + 1)) = 256 * 2 ^ (8 * n) := by
  have : (2 : Int) ^ (8 * (n + 1)) = 2 ^ (8 * n) * 2 ^ 8 := by rw [← Int.pow_add]; rfl
  rw [this]; omega

theorem val_bounds {bs : List Int} (h : Byt bs) : ∀ n, 0 ≤ val bs n ∧ val bs n < 2 ^ (8 * n)
  | 0 => by simp [val]
  | n + 1 => by
    have ih := val_bounds h n
    have hb := h.at n
    have hp := pow_pos8 n
    have hg : bs.getD n 0 = bs[n]?.getD 0 := by simp
    rw [pow_succ8]
    simp only [val, hg]
    generalize bs[n]?.getD 0 = d at *
    generalize (2 : Int) ^ (8 * n) = p at *
    have h1 : 0 ≤ d * p := Int.mul_nonneg hb.1 (by omega)
    have h2 : d * p ≤ 255 * p := Int.mul_le_mul_of_nonneg_right hb.2 (by omega)
    omega

theorem val_append (a r : List Int) : ∀ n, n ≤ a.length → val (a ++ r) n = val a n
  | 0, _ => rfl
  | n + 1, h => by
    simp only [val]
    rw [val_append a r n (by omega)]
    have : (a ++ r).getD n 0 = a.getD n 0 := by
      simp only [List.getD_eq_getElem?_getD, List.getElem?_append_left (show n < a.length by omega)]
    rw [this]

theorem pow_le64 (m : Nat) (h : m ≤ 8) : (2 : Int) ^ (8 * m) ≤ 18446744073709551616 := by
  match m, h with
  | 0, _ | 1, _ | 2, _ | 3, _ | 4, _ | 5, _ | 6, _ | 7, _ | 8, _ => decide

/-- One step of reading: what is there, and the next byte above it. -/
theorem or_step {bs : List Int} (h : Byt bs) (m : Nat) (hm : m < 8) :
    bits BinOp.or IntKind.u64 (val bs m) (IntKind.u64.wrap (bs[m]?.getD 0 * 2 ^ (8 * m))) = val bs (m + 1) := by
  have hv := val_bounds h m
  have hv1 := val_bounds h (m + 1)
  have hb := h.at m
  have hp := pow_pos8 m
  have hp8 := pow_le64 (m + 1) (by omega)
  rw [pow_succ8] at hp8
  have hg : bs.getD m 0 = bs[m]?.getD 0 := by simp
  have hval : val bs (m + 1) = val bs m + bs[m]?.getD 0 * 2 ^ (8 * m) := by simp only [val, hg]
  generalize bs[m]?.getD 0 = d at *
  have h1 : 0 ≤ d * 2 ^ (8 * m) := Int.mul_nonneg hb.1 (by omega)
  have h2 : d * 2 ^ (8 * m) ≤ 255 * 2 ^ (8 * m) := Int.mul_le_mul_of_nonneg_right hb.2 (by omega)
  rw [IntKind.wrap_u64, Int.emod_eq_of_lt h1 (by omega), u64_or _ _ hv.1 (by omega) h1 (by omega), hval]
  obtain ⟨D, rfl⟩ := Int.eq_ofNat_of_zero_le hb.1
  generalize val bs m = v at *
  obtain ⟨V, rfl⟩ := Int.eq_ofNat_of_zero_le hv.1
  have e2 : ((D : Int) * 2 ^ (8 * m)) = ((D * 2 ^ (8 * m) : Nat) : Int) := by simp
  have e3 : (2 : Int) ^ (8 * m) = ((2 ^ (8 * m) : Nat) : Int) := by simp
  rw [e2]
  rw [e3] at hv
  have hV : V < 2 ^ (8 * m) := by omega
  rw [Int.toNat_natCast, Int.toNat_natCast, Nat.or_comm, nat_join (8 * m) (D * 2 ^ (8 * m)) V (by simp) hV]
  omega

/-- x in n bytes, the lowest first. -/
def le (x : Int) : Nat → List Int
  | 0 => []
  | n + 1 => le x n ++ [x / 2 ^ (8 * n) % 256]

theorem le_length (x : Int) : ∀ n, (le x n).length = n
  | 0 => rfl
  | n + 1 => by simp [le, le_length x n]

theorem le_byt (x : Int) : ∀ n, Byt (le x n)
  | 0 => Byt.nil
  | n + 1 => (le_byt x n).app (Byt.one (by omega) (by omega))

theorem emod_mul_step (x p : Int) (h0 : 0 ≤ x) (hp : 0 < p) : x % (256 * p) = x % p + x / p % 256 * p := by
  obtain ⟨X, rfl⟩ := Int.eq_ofNat_of_zero_le h0
  obtain ⟨P, rfl⟩ := Int.eq_ofNat_of_zero_le (Int.le_of_lt hp)
  have := Nat.mod_mul (a := P) (b := 256) (x := X)
  have e : ((X % (P * 256) : Nat) : Int) = ((X % P + P * (X / P % 256) : Nat) : Int) := by rw [this]
  have e2 : (X : Int) % (256 * (P : Int)) = ((X % (P * 256) : Nat) : Int) := by
    rw [Nat.mul_comm]; simp
  rw [e2, e]
  simp [Int.mul_comm]

theorem val_le (x : Int) (h0 : 0 ≤ x) (r : List Int) : ∀ n, val (le x n ++ r) n = x % 2 ^ (8 * n)
  | 0 => by simp [val]
  | n + 1 => by
    rw [val_append _ _ _ (by rw [le_length]; omega)]
    simp only [val, le]
    have h1 := val_le x h0 [x / 2 ^ (8 * n) % 256] n
    have h2 : (le x n ++ [x / 2 ^ (8 * n) % 256]).getD n 0 = x / 2 ^ (8 * n) % 256 := by
      simp [List.getD_eq_getElem?_getD, le_length]
    rw [h1, h2, pow_succ8, emod_mul_step x _ h0 (pow_pos8 n)]

theorem val_le_fits (x : Int) (h0 : 0 ≤ x) (r : List Int) (n : Nat) (h : x < 2 ^ (8 * n)) : val (le x n ++ r) n = x := by
  rw [val_le x h0 r n, Int.emod_eq_of_lt h0 h]

/-- One step of writing: the byte number m of x. -/
theorem shr_step (x : Int) (m : Nat) : IntKind.u8.wrap (x / 2 ^ (8 * m)) = x / 2 ^ (8 * m) % 256 := by rw [IntKind.wrap_u8']

/-- The result of ReadFixed: the number, the error. -/
def readFixed (bs : List Int) (k : Int) : Int × Int :=
  if ¬ (1 ≤ k ∧ k ≤ 8) then (0, 2) else if (bs.length : Int) < k then (0, 4) else (val bs k.toNat, 0)

end Go.Proofs.YtnoabdafmgmenaaGreatDoor

namespace Go.Proofs.YtnoabdafmgmenaaGreatDoor
set_option linter.unusedVariables false
set_option linter.unusedSimpArgs false

/-- The length of symbol i. -/
def ln (L : List Int) (i : Nat) : Int := L[i]?.getD 0
/-- How many symbols have a code of k bits. -/
def cz (L : List Int) (k : Nat) : Int := if k = 0 then 0 else (L.count (k : Int) : Int)
/-- The code behind the last one of k bits. -/
def Fl (L : List Int) : Nat → Int
  | 0 => 0
  | k + 1 => 2 * Fl L k + cz L (k + 1)
/-- The first code of k bits. -/
def fc (L : List Int) (k : Nat) : Int := Fl L k - cz L k
/-- How many symbols have a code of less than k bits. -/
def pl (L : List Int) : Nat → Int
  | 0 => 0
  | k + 1 => pl L k + cz L k
/-- How many symbols ahead of i have as many bits. -/
def rk (L : List Int) (i : Nat) : Int := ((L.take i).count (ln L i) : Int)
def code (L : List Int) (i : Nat) : Int := if ln L i = 0 then -1 else fc L (ln L i).toNat + rk L i
/-- The greatest length below m that has a code. -/
def lng (L : List Int) : Nat → Nat
  | 0 => 0
  | m + 1 => if 0 < cz L m then m else lng L m

/-- Lengths that are a code. -/
structure Good (L : List Int) : Prop where
  len : L.length ≤ 320
  fit : ∀ x ∈ L, 0 ≤ x ∧ x ≤ 15
  full : Fl L 15 ≤ 32768

theorem cz_nonneg (L : List Int) (k : Nat) : 0 ≤ cz L k := by unfold cz; split <;> omega
theorem cz_le (L : List Int) (k : Nat) : cz L k ≤ L.length := by
  unfold cz
  have := List.count_le_length (a := (k : Int)) (l := L)
  split <;> omega
theorem cz_zero (L : List Int) : cz L 0 = 0 := rfl
theorem Fl_nonneg (L : List Int) : ∀ k, 0 ≤ Fl L k
  | 0 => by simp [Fl]
  | k + 1 => by have := Fl_nonneg L k; have := cz_nonneg L (k + 1); simp only [Fl]; omega
theorem fc_succ (L : List Int) (k : Nat) : fc L (k + 1) = 2 * Fl L k := by simp [fc, Fl]
theorem fc_zero (L : List Int) : fc L 0 = 0 := rfl
theorem fc_nonneg (L : List Int) (k : Nat) : 0 ≤ fc L k := by
  cases k with
  | zero => simp [fc_zero]
  | succ k => rw [fc_succ]; have := Fl_nonneg L k; omega
theorem Fl_eq (L : List Int) (k : Nat) : Fl L k = fc L k + cz L k := by simp [fc]
theorem fc_step (L : List Int) (k : Nat) : fc L (k + 1) = (fc L k + cz L k) * 2 := by rw [fc_succ, Fl_eq]; omega

theorem Fl_up (L : List Int) (k : Nat) : ∀ d, 2 ^ d * Fl L k ≤ Fl L (k + d)
  | 0 => by simp
  | d + 1 => by
    have ih := Fl_up L k d
    have hc := cz_nonneg L (k + d + 1)
    rw [show k + (d + 1) = k + d + 1 by omega]
    simp only [Fl]
    rw [show (2 : Int) ^ (d + 1) * Fl L k = 2 * (2 ^ d * Fl L k) by rw [Int.pow_succ, Int.mul_comm ((2 : Int) ^ d) 2, Int.mul_assoc]]
    omega
theorem fc_up (L : List Int) (k d : Nat) : 2 ^ (d + 1) * Fl L k ≤ fc L (k + d + 1) := by
  have := Fl_up L k d
  rw [fc_succ, show (2 : Int) ^ (d + 1) * Fl L k = 2 * (2 ^ d * Fl L k) by rw [Int.pow_succ, Int.mul_comm ((2 : Int) ^ d) 2, Int.mul_assoc]]
  omega

theorem Fl_big (L : List Int) (h : L.length ≤ 320) (k : Nat) (hk : k ≤ 15) : Fl L k ≤ 32768 * 640 := by
  have h1 : ∀ k, Fl L k + 320 ≤ 320 * 2 ^ (k + 1) := by
    intro k
    induction k with
    | zero => simp [Fl]
    | succ k ih =>
      have := cz_le L (k + 1)
      simp only [Fl]
      rw [Int.pow_succ]
      omega
  have h2 := h1 k
  have h3 : (2 : Int) ^ (k + 1) ≤ 2 ^ 16 := by
    have := Nat.pow_le_pow_right (show 0 < 2 by omega) (show k + 1 ≤ 16 by omega)
    exact_mod_cast this
  omega

theorem Good.le {L : List Int} (h : Good L) {k : Nat} (hk : k ≤ 15) : Fl L k ≤ 2 ^ k := by
  have h1 := Fl_up L k (15 - k)
  rw [show k + (15 - k) = 15 by omega] at h1
  have h2 := h.full
  have h3 : (2 : Int) ^ (15 - k) * 2 ^ k = 32768 := by rw [← Int.pow_add, show 15 - k + k = 15 by omega]; decide
  have h4 : (2 : Int) ^ (15 - k) * Fl L k ≤ 2 ^ (15 - k) * 2 ^ k := by omega
  exact Int.le_of_mul_le_mul_left h4 (Int.pow_pos (by omega))

theorem Good.small {L : List Int} (h : Good L) {k : Nat} (hk : k ≤ 15) : Fl L k ≤ 32768 := by
  have h1 := Fl_up L k (15 - k)
  rw [show k + (15 - k) = 15 by omega] at h1
  have h2 := h.full
  have h3 : (1 : Int) ≤ 2 ^ (15 - k) := Int.pow_pos (by omega)
  have h4 := Int.mul_le_mul_of_nonneg_right h3 (Fl_nonneg L k)
  omega

/-! The counts as symbols come in one by one. -/
theorem cz_snoc (L : List Int) (x : Int) (k : Nat) : cz (L ++ [x]) k = cz L k + (if x = (k : Int) ∧ k ≠ 0 then 1 else 0) := by
  unfold cz
  by_cases h0 : k = 0
  · simp [h0]
  · rw [if_neg h0, if_neg h0, List.count_append, List.count_singleton]
    by_cases hx : x = (k : Int)
    · simp [hx, h0]
    · simp [hx, h0]
def pw (x : Int) : Int := if x = 0 then 0 else 2 ^ (15 - x).toNat
theorem Fl_snoc (L : List Int) (x : Int) (hx0 : 0 ≤ x) : ∀ k : Nat, Fl (L ++ [x]) k = Fl L k + (if 1 ≤ x ∧ x ≤ (k : Int) then 2 ^ ((k : Int) - x).toNat else 0)
  | 0 => by rw [if_neg (by omega)]; simp [Fl]
  | k + 1 => by
    have ih := Fl_snoc L x hx0 k
    simp only [Fl, ih, cz_snoc]
    by_cases h1 : 1 ≤ x ∧ x ≤ (k : Int)
    · rw [if_pos h1, if_neg (by omega), if_pos (by omega), show (((k + 1 : Nat) : Int) - x).toNat = ((k : Int) - x).toNat + 1 by omega, Int.pow_succ]
      omega
    · rw [if_neg h1]
      by_cases h2 : x = ((k + 1 : Nat) : Int)
      · rw [if_pos ⟨h2, by omega⟩, if_pos (by omega), h2]
        simp
        omega
      · rw [if_neg (by omega), if_neg (by omega)]
        omega
theorem Fl_pw (L : List Int) (x : Int) (hx0 : 0 ≤ x) (hx : x ≤ 15) : Fl (L ++ [x]) 15 = Fl L 15 + pw x := by
  rw [Fl_snoc L x hx0]
  unfold pw
  by_cases h : x = 0
  · rw [if_neg (by omega), if_pos h]
  · rw [if_pos (by constructor <;> omega), if_neg h]
    rfl
theorem Fl_nil : ∀ k, Fl [] k = 0
  | 0 => rfl
  | k + 1 => by simp [Fl, Fl_nil k, cz]

theorem take_snoc {L : List Int} {m : Nat} (h : m < L.length) : L.take (m + 1) = L.take m ++ [ln L m] := by
  rw [List.take_add_one, List.getElem?_eq_getElem h]
  simp [ln, List.getElem?_eq_getElem h]
theorem ln_mem {L : List Int} {m : Nat} (h : m < L.length) : ln L m ∈ L := by
  simp [ln, List.getElem?_eq_getElem h]

/-! Ranks: the codes of one length follow one another. -/
theorem count_take_mono (L : List Int) (v : Int) {i j : Nat} (h : i ≤ j) : (L.take i).count v ≤ (L.take j).count v :=
  List.Sublist.count_le v (by
    have : L.take i = (L.take j).take i := by rw [List.take_take]; congr 1; omega
    rw [this]
    exact List.take_sublist _ _)
theorem count_take_succ (L : List Int) {i : Nat} (h : i < L.length) (v : Int) : (L.take (i + 1)).count v = (L.take i).count v + (if ln L i = v then 1 else 0) := by
  rw [take_snoc h, List.count_append, List.count_singleton]
  congr 1
  by_cases hv : ln L i = v <;> simp [hv]
theorem rk_lt (L : List Int) {i j : Nat} (hij : i < j) (hj : j ≤ L.length) (v : Int) (hv : ln L i = v) : (L.take i).count v < (L.take j).count v := by
  have h1 := count_take_succ L (show i < L.length by omega) v
  rw [if_pos hv] at h1
  have := count_take_mono L v (show i + 1 ≤ j by omega)
  omega
theorem rk_nonneg (L : List Int) (i : Nat) : 0 ≤ rk L i := by unfold rk; omega
theorem rk_bound (L : List Int) {i : Nat} (h : i < L.length) (k : Nat) (hk : ln L i = (k : Int)) (h0 : k ≠ 0) : rk L i < cz L k := by
  have := rk_lt L h (Nat.le_refl _) (k : Int) hk
  rw [List.take_length] at this
  unfold rk cz
  rw [if_neg h0, hk]
  omega
theorem rk_inj (L : List Int) {i j : Nat} (hi : i < L.length) (hj : j < L.length) (hl : ln L i = ln L j) (h : rk L i = rk L j) : i = j := by
  unfold rk at h
  rcases Nat.lt_trichotomy i j with h1 | h1 | h1
  · have := rk_lt L h1 (by omega) (ln L i) rfl
    rw [← hl] at h
    omega
  · exact h1
  · have := rk_lt L h1 (by omega) (ln L j) rfl
    rw [hl] at h
    omega
/-- Every rank below the count is some symbol's. -/
theorem rk_hit (L : List Int) (v : Int) : ∀ (n r : Nat), n ≤ L.length → r < (L.take n).count v → ∃ i, i < n ∧ ln L i = v ∧ (L.take i).count v = r
  | 0, r, _, h => by simp at h
  | n + 1, r, hn, h => by
    rw [count_take_succ L (by omega)] at h
    by_cases hlt : r < (L.take n).count v
    · obtain ⟨i, hi, h1, h2⟩ := rk_hit L v n r (by omega) hlt
      exact ⟨i, by omega, h1, h2⟩
    · by_cases hv : ln L n = v
      · rw [if_pos hv] at h
        exact ⟨n, by omega, hv, by omega⟩
      · rw [if_neg hv] at h
        omega

theorem code_eq (L : List Int) (i k : Nat) (hk : ln L i = (k : Int)) (h0 : k ≠ 0) : code L i = fc L k + rk L i := by
  unfold code
  rw [if_neg (by omega), hk]
  simp
theorem code_lt (L : List Int) {i : Nat} (hi : i < L.length) (k : Nat) (hk : ln L i = (k : Int)) (h0 : k ≠ 0) : fc L k ≤ code L i ∧ code L i < Fl L k := by
  rw [code_eq L i k hk h0, Fl_eq]
  have := rk_nonneg L i
  have := rk_bound L hi k hk h0
  omega
theorem code_hit (L : List Int) (k : Nat) (h0 : k ≠ 0) (x : Int) (h1 : fc L k ≤ x) (h2 : x < Fl L k) : ∃ i, i < L.length ∧ ln L i = (k : Int) ∧ code L i = x := by
  rw [Fl_eq] at h2
  unfold cz at h2
  rw [if_neg h0] at h2
  obtain ⟨i, hi, hv, hr⟩ := rk_hit L (k : Int) L.length (x - fc L k).toNat (Nat.le_refl _) (by rw [List.take_length]; omega)
  refine ⟨i, hi, hv, ?_⟩
  rw [code_eq L i k hv h0]
  unfold rk
  rw [hv, hr]
  omega
theorem code_inj (L : List Int) {i j : Nat} (hi : i < L.length) (hj : j < L.length) (k : Nat) (h0 : k ≠ 0) (hik : ln L i = (k : Int)) (hjk : ln L j = (k : Int)) (h : code L i = code L j) : i = j := by
  rw [code_eq L i k hik h0, code_eq L j k hjk h0] at h
  exact rk_inj L hi hj (by rw [hik, hjk]) (by omega)

/-- The places of the symbols when they are ordered by their codes. -/
theorem pl_snoc (L : List Int) (x : Int) (hx0 : 0 ≤ x) : ∀ k : Nat, pl (L ++ [x]) k = pl L k + (if 1 ≤ x ∧ x < (k : Int) then 1 else 0)
  | 0 => by rw [if_neg (by omega)]; simp [pl]
  | k + 1 => by
    simp only [pl, pl_snoc L x hx0 k, cz_snoc]
    by_cases h1 : 1 ≤ x ∧ x < (k : Int)
    · rw [if_pos h1, if_neg (by omega), if_pos (by omega)]; omega
    · rw [if_neg h1]
      by_cases h2 : x = (k : Int) ∧ k ≠ 0
      · rw [if_pos h2, if_pos (by omega)]; omega
      · rw [if_neg h2, if_neg (by omega)]; omega
theorem pl_nil : ∀ k, pl [] k = 0
  | 0 => rfl
  | k + 1 => by simp [pl, pl_nil k, cz]
theorem pl_le_take (L : List Int) (hf : ∀ x ∈ L, 0 ≤ x ∧ x ≤ 15) (k : Nat) : ∀ m, m ≤ L.length → pl (L.take m) k ≤ m
  | 0, _ => by simp [pl_nil]
  | m + 1, h => by
    have ih := pl_le_take L hf k m (by omega)
    have := hf _ (ln_mem (L := L) (m := m) (by omega))
    rw [take_snoc (by omega), pl_snoc _ _ this.1]
    split <;> omega
theorem pl_le (L : List Int) (hf : ∀ x ∈ L, 0 ≤ x ∧ x ≤ 15) (k : Nat) : pl L k ≤ L.length := by
  have := pl_le_take L hf k L.length (Nat.le_refl _)
  rwa [List.take_length] at this
theorem pl_nonneg (L : List Int) : ∀ k, 0 ≤ pl L k
  | 0 => by simp [pl]
  | k + 1 => by have := pl_nonneg L k; have := cz_nonneg L k; simp only [pl]; omega
theorem pl_mono (L : List Int) {k n : Nat} (h : k ≤ n) : pl L k ≤ pl L n := by
  induction n with
  | zero => rw [show k = 0 by omega]; exact Int.le_refl _
  | succ n ih =>
    by_cases h1 : k = n + 1
    · rw [h1]; exact Int.le_refl _
    · have := ih (by omega)
      have := cz_nonneg L n
      simp only [pl]; omega
def pos (L : List Int) (i : Nat) : Int := pl L (ln L i).toNat + rk L i
theorem pos_in (L : List Int) {i : Nat} (hi : i < L.length) (k : Nat) (hk : ln L i = (k : Int)) (h0 : k ≠ 0) : pl L k ≤ pos L i ∧ pos L i < pl L (k + 1) := by
  have h1 := rk_bound L hi k hk h0
  have h2 := rk_nonneg L i
  unfold pos
  rw [hk]
  simp only [pl, Int.toNat_natCast]
  omega
theorem pos_inj (L : List Int) {i j : Nat} (hi : i < L.length) (hj : j < L.length) (h0 : 0 < ln L i) (h1 : 0 < ln L j) (h : pos L i = pos L j) : i = j := by
  obtain ⟨a, ha⟩ : ∃ a : Nat, ln L i = (a : Int) := ⟨(ln L i).toNat, by omega⟩
  obtain ⟨b, hb⟩ : ∃ b : Nat, ln L j = (b : Int) := ⟨(ln L j).toNat, by omega⟩
  have p1 := pos_in L hi a ha (by omega)
  have p2 := pos_in L hj b hb (by omega)
  have hab : a = b := by
    rcases Nat.lt_trichotomy a b with q | q | q
    · have := pl_mono L (show a + 1 ≤ b by omega); omega
    · exact q
    · have := pl_mono L (show b + 1 ≤ a by omega); omega
  subst hab
  unfold pos at h
  rw [ha, hb] at h
  exact rk_inj L hi hj (by rw [ha, hb]) (by omega)

/-! The longest code. -/
theorem lng_le (L : List Int) : ∀ m, lng L m ≤ m - 1
  | 0 => by simp [lng]
  | m + 1 => by have := lng_le L m; simp only [lng]; split <;> omega
theorem lng_cz (L : List Int) : ∀ m, ∀ k, lng L m < k → k < m → cz L k = 0
  | 0, k, _, h => by omega
  | m + 1, k, h1, h2 => by
    simp only [lng] at h1
    split at h1
    · omega
    · rename_i hm
      by_cases hk : k = m
      · subst hk; have := cz_nonneg L k; omega
      · exact lng_cz L m k h1 (by omega)
theorem lng_ge (L : List Int) : ∀ m, ∀ k, 0 < cz L k → k < m → k ≤ lng L m := by
  intro m k h1 h2
  by_cases h : k ≤ lng L m
  · exact h
  · have := lng_cz L m k (by omega) h2
    omega

end Go.Proofs.YtnoabdafmgmenaaGreatDoor

namespace Go.Proofs.YtnoabdafmgmenaaGreatDoor
set_option linter.unusedVariables false
set_option linter.unusedSimpArgs false

/-- The bit i of bytes. -/
def bitAt (b : List Int) (i : Nat) : Int := b[i / 8]?.getD 0 / 2 ^ (i % 8) % 2
theorem bitAt_bd (b : List Int) (i : Nat) : 0 ≤ bitAt b i ∧ bitAt b i ≤ 1 := by unfold bitAt; omega

def hit (L : List Int) (k : Nat) (x : Int) (i : Nat) : Bool := decide (ln L i = (k : Int)) && decide (code L i = x)
/-- The symbol whose code of k bits is x. -/
def fnd (L : List Int) (k : Nat) (x : Int) : Option Nat := (List.range L.length).find? (hit L k x)

theorem fnd_some (L : List Int) {k : Nat} (h0 : k ≠ 0) {x : Int} {i : Nat} (hi : i < L.length) (hk : ln L i = (k : Int)) (hx : code L i = x) : fnd L k x = some i := by
  cases hf : fnd L k x with
  | none =>
    have := List.find?_eq_none.1 hf i (by simpa using hi)
    simp [hit, hk, hx] at this
  | some j =>
    have h1 := List.find?_some hf
    have h2 := List.mem_of_find?_eq_some hf
    simp [hit] at h1
    have := code_inj L (by simpa using h2) hi k h0 h1.1 hk (by rw [h1.2, hx])
    rw [this]
theorem fnd_none (L : List Int) {k : Nat} (h0 : k ≠ 0) {x : Int} (h : Fl L k ≤ x) : fnd L k x = none := by
  unfold fnd
  rw [List.find?_eq_none]
  intro i hi
  have hi' : i < L.length := by simpa using hi
  simp only [hit, Bool.and_eq_true, decide_eq_true_eq, not_and]
  intro h1 h2
  have := code_lt L hi' k h1 h0
  omega
theorem fnd_is (L : List Int) {k i : Nat} {x : Int} (h : fnd L k x = some i) : i < L.length ∧ ln L i = (k : Int) ∧ code L i = x := by
  have h1 := List.find?_some h
  have h2 := List.mem_of_find?_eq_some h
  simp [hit] at h1
  exact ⟨by simpa using h2, h1.1, h1.2⟩

/-- What is read: the symbol, its bits, an error. f: how many bits more may be asked for; n, x: the bits so far. -/
def dec (L b : List Int) (at_ : Nat) : Nat → Nat → Int → Int × Int × Int
  | 0, n, x => (0, 0, 5)
  | f + 1, n, x =>
    if 8 * b.length < at_ + n + 1 then (0, 0, 4)
    else match fnd L (n + 1) (2 * x + bitAt b (at_ + n)) with
      | some i => ((i : Int), ((n + 1 : Nat) : Int), 0)
      | none => dec L b at_ f (n + 1) (2 * x + bitAt b (at_ + n))
def rd (L b : List Int) (at_ : Nat) : Int × Int × Int := dec L b at_ (lng L 16) 0 0

theorem dec_short (L b : List Int) (at_ f n : Nat) (x : Int) (hs : 8 * b.length < at_ + n + 1) : dec L b at_ (f + 1) n x = (0, 0, 4) := by
  simp only [dec]
  rw [if_pos hs]
theorem dec_hit (L b : List Int) (at_ f n : Nat) (x : Int) (hs : ¬ 8 * b.length < at_ + n + 1) (i : Nat) (h : fnd L (n + 1) (2 * x + bitAt b (at_ + n)) = some i) : dec L b at_ (f + 1) n x = ((i : Int), ((n + 1 : Nat) : Int), 0) := by
  simp only [dec]
  rw [if_neg hs, h]
theorem dec_miss (L b : List Int) (at_ f n : Nat) (x : Int) (hs : ¬ 8 * b.length < at_ + n + 1) (h : fnd L (n + 1) (2 * x + bitAt b (at_ + n)) = none) : dec L b at_ (f + 1) n x = dec L b at_ f (n + 1) (2 * x + bitAt b (at_ + n)) := by
  simp only [dec]
  rw [if_neg hs, h]
theorem pow_15 {m : Nat} (h : m ≤ 15) : (2 : Int) ^ m ≤ 32768 := by
  have := Nat.pow_le_pow_right (show 0 < 2 by omega) h
  have h2 : (2 : Int) ^ m ≤ 2 ^ 15 := by exact_mod_cast this
  omega

/-- The symbols in the order of their codes, those below m laid. -/
structure Ord (L o : List Int) (m : Nat) : Prop where
  len : o.length = 320
  at_ : ∀ j, j < m → 0 < ln L j → o[(pos L j).toNat]?.getD 0 = (j : Int)

theorem Good.pos {L : List Int} (h : Good L) {i : Nat} (hi : i < L.length) (h0 : 0 < ln L i) : 0 ≤ pos L i ∧ pos L i < 320 := by
  have hf := h.fit _ (ln_mem hi)
  obtain ⟨k, hk⟩ : ∃ k : Nat, ln L i = (k : Int) := ⟨(ln L i).toNat, by omega⟩
  have h1 := pos_in L hi k hk (by omega)
  have h2 := pl_nonneg L k
  have h3 := pl_le L h.fit (k + 1)
  have h4 := h.len
  omega
theorem Ord.step {L o : List Int} {m : Nat} (hG : Good L) (h : Ord L o m) (hm : m < L.length) (h0 : 0 < ln L m) : Ord L (o.set (pos L m).toNat (m : Int)) (m + 1) := by
  refine ⟨by simp [h.len], fun j hj hj0 => ?_⟩
  have hp := hG.pos hm h0
  rw [List.getElem?_set]
  by_cases hjm : j = m
  · subst hjm
    rw [if_pos rfl, if_pos (by rw [h.len]; omega)]
    rfl
  · have hq := hG.pos (show j < L.length by omega) hj0
    have hne : ¬ (pos L m).toNat = (pos L j).toNat := by
      intro e
      exact hjm (pos_inj L (by omega) hm hj0 h0 (by omega))
    rw [if_neg hne]
    exact h.at_ j (by omega) hj0
theorem Ord.skip {L o : List Int} {m : Nat} (h : Ord L o m) (h0 : ln L m = 0) : Ord L o (m + 1) := by
  refine ⟨h.len, fun j hj hj0 => ?_⟩
  by_cases hjm : j = m
  · subst hjm; omega
  · exact h.at_ j (by omega) hj0

/-- The step of the reader: where the bits are below the codes' end the symbol lies at its place. -/
theorem read_hit {L o : List Int} (h : Ord L o L.length) {k : Nat} (h0 : k ≠ 0) {x : Int} (h1 : fc L k ≤ x) (h2 : x - fc L k < cz L k) :
    ∃ i : Nat, fnd L k x = some i ∧ i < L.length ∧ 0 ≤ pl L k + x - fc L k ∧ o[(pl L k + x - fc L k).toNat]?.getD 0 = (i : Int) := by
  obtain ⟨i, hi, hk, hx⟩ := code_hit L k h0 x h1 (by rw [Fl_eq]; omega)
  have hp : pos L i = pl L k + x - fc L k := by
    rw [code_eq L i k hk h0] at hx
    unfold pos
    rw [hk]
    simp
    omega
  have h3 := h.at_ i hi (by omega)
  have h4 := pos_in L hi k hk h0
  have h5 := pl_nonneg L k
  rw [hp] at h3 h4
  exact ⟨i, fnd_some L h0 hi hk hx, hi, by omega, h3⟩

theorem pl_top {L : List Int} (hG : Good L) {k : Nat} (hk : k ≤ 16) : 0 ≤ pl L k ∧ pl L k ≤ 320 := by
  have h1 := pl_nonneg L k
  have h2 := pl_le L hG.fit k
  have h3 := hG.len
  omega

/-- n symbols, one behind the other. -/
def alls (L b : List Int) : Nat → Nat → List Int → List Int × Int × Int
  | 0, at_, acc => (acc, (at_ : Int), 0)
  | n + 1, at_, acc =>
    if (rd L b at_).2.2 = 0 then alls L b n (at_ + (rd L b at_).2.1.toNat) (acc ++ [(rd L b at_).1])
    else ([], 0, (rd L b at_).2.2)

theorem dec_err (L b : List Int) (at_ : Nat) : ∀ f n x, (dec L b at_ f n x).2.2 = 0 ∨ ((dec L b at_ f n x).1 = 0 ∧ (dec L b at_ f n x).2.1 = 0)
  | 0, n, x => by simp [dec]
  | f + 1, n, x => by
    simp only [dec]
    split
    · simp
    · split
      · simp
      · exact dec_err L b at_ f _ _
theorem dec_ok (L b : List Int) (at_ : Nat) : ∀ f n x, (dec L b at_ f n x).2.2 = 0 → ∃ i k : Nat, dec L b at_ f n x = ((i : Int), (k : Int), 0) ∧ i < L.length ∧ ln L i = (k : Int) ∧ n < k ∧ k ≤ n + f ∧ at_ + k ≤ 8 * b.length
  | 0, n, x => by simp [dec]
  | f + 1, n, x => by
    intro h
    simp only [dec] at h ⊢
    split at h
    · simp at h
    · rename_i hs
      split at h
      · rename_i i hf
        rw [if_neg hs]
        have := fnd_is L hf
        exact ⟨i, n + 1, rfl, this.1, this.2.1, by omega, by omega, by omega⟩
      · rename_i hf
        rw [if_neg hs]
        obtain ⟨i, k, h1, h2, h3, h4, h5, h6⟩ := dec_ok L b at_ f _ _ h
        exact ⟨i, k, h1, h2, h3, by omega, by omega, h6⟩
theorem dec_bd (L b : List Int) (at_ f n : Nat) (x : Int) : 0 ≤ (dec L b at_ f n x).1 ∧ 0 ≤ (dec L b at_ f n x).2.1 ∧ ((dec L b at_ f n x).1 = 0 ∨ (dec L b at_ f n x).1 < L.length) ∧ (dec L b at_ f n x).2.1 ≤ n + f := by
  by_cases h : (dec L b at_ f n x).2.2 = 0
  · obtain ⟨i, k, e, h1, h2, h3, h4, h5⟩ := dec_ok L b at_ f n x h
    rw [e]
    simp
    omega
  · rcases dec_err L b at_ f n x with h1 | ⟨h1, h2⟩
    · exact absurd h1 h
    · rw [h1, h2]
      omega

end Go.Proofs.YtnoabdafmgmenaaGreatDoor

namespace Go.Proofs.YtnoabdafmgmenaaGreatDoor

def lenB : List Nat := [3, 4, 5, 6, 7, 8, 9, 10, 11, 13, 15, 17, 19, 23, 27, 31, 35, 43, 51, 59, 67, 83, 99, 115, 131, 163, 195, 227, 258]
def lenX : List Nat := [0, 0, 0, 0, 0, 0, 0, 0, 1, 1, 1, 1, 2, 2, 2, 2, 3, 3, 3, 3, 4, 4, 4, 4, 5, 5, 5, 5, 0]
def dstB : List Nat := [1, 2, 3, 4, 5, 7, 9, 13, 17, 25, 33, 49, 65, 97, 129, 193, 257, 385, 513, 769, 1025, 1537, 2049, 3073, 4097, 6145, 8193, 12289, 16385, 24577]
def dstX : List Nat := [0, 0, 0, 0, 1, 1, 2, 2, 3, 3, 4, 4, 5, 5, 6, 6, 7, 7, 8, 8, 9, 9, 10, 10, 11, 11, 12, 12, 13, 13]
def fixL : List Int := List.replicate 144 8 ++ List.replicate 112 9 ++ List.replicate 24 7 ++ List.replicate 8 8
def fixD : List Int := List.replicate 32 5

end Go.Proofs.YtnoabdafmgmenaaGreatDoor

namespace Go.Proofs.YtnoabdafmgmenaaGreatDoor
set_option linter.unusedVariables false
set_option linter.unusedSimpArgs false

/-- A piece: a byte b, or a copy of l bytes from d back. -/
structure Pc where
  l : Int
  d : Int
  b : Int

/-- Are two bytes the same, n behind two places? -/
def eqb (bs : List Int) (q A n : Nat) : Bool := decide (bs[q + n]?.getD 0 = bs[A + n]?.getD 0)
def mtU (e : Nat → Bool) : Nat → Nat → Nat
  | 0, n => n
  | f + 1, n => if e n = true then mtU e f (n + 1) else n
/-- How long a copy may be. -/
def mst (bs : List Int) (A : Nat) : Nat := min 258 (bs.length - A)
/-- How many bytes are the same at the places q and A. -/
def mt (bs : List Int) (A q : Nat) : Nat := mtU (eqb bs q A) (mst bs A) 0

theorem mtU_spec (e : Nat → Bool) : ∀ f n, n ≤ mtU e f n ∧ mtU e f n ≤ n + f ∧ (∀ j, n ≤ j → j < mtU e f n → e j = true) ∧ (mtU e f n < n + f → e (mtU e f n) = false)
  | 0, n => by simp [mtU]; intro j h1 h2; omega
  | f + 1, n => by
    obtain ⟨h1, h2, h3, h4⟩ := mtU_spec e f (n + 1)
    simp only [mtU]
    by_cases he : e n = true
    · rw [if_pos he]
      refine ⟨by omega, by omega, fun j hj hl => ?_, fun hl => h4 (by omega)⟩
      by_cases hn : j = n
      · rw [hn]; exact he
      · exact h3 j (by omega) hl
    · rw [if_neg he]
      refine ⟨by omega, by omega, fun j hj hl => by omega, fun _ => by simpa using he⟩
theorem mt_le (bs : List Int) (A q : Nat) : mt bs A q ≤ mst bs A := by
  have := (mtU_spec (eqb bs q A) (mst bs A) 0).2.1
  unfold mt
  omega
theorem mt_same (bs : List Int) (A q : Nat) {j : Nat} (h : j < mt bs A q) : bs[q + j]?.getD 0 = bs[A + j]?.getD 0 := by
  have := (mtU_spec (eqb bs q A) (mst bs A) 0).2.2.1 j (by omega) h
  simpa [eqb] using this
theorem mt_else (bs : List Int) (A q : Nat) (h : mt bs A q < mst bs A) : ¬ bs[q + mt bs A q]?.getD 0 = bs[A + mt bs A q]?.getD 0 := by
  have := (mtU_spec (eqb bs q A) (mst bs A) 0).2.2.2 (by unfold mt at h; omega)
  unfold mt
  simpa [eqb] using this
/-- .. it is told by these. -/
theorem mt_is (bs : List Int) (A q n : Nat) (h1 : n ≤ mst bs A) (h2 : ∀ j, j < n → bs[q + j]?.getD 0 = bs[A + j]?.getD 0) (h3 : n < mst bs A → ¬ bs[q + n]?.getD 0 = bs[A + n]?.getD 0) : mt bs A q = n := by
  have hle := mt_le bs A q
  rcases Nat.lt_trichotomy (mt bs A q) n with h | h | h
  · exact absurd (h2 _ h) (mt_else bs A q (by omega))
  · exact h
  · exact absurd (mt_same bs A q h) (h3 (by omega))
theorem mt_more (bs : List Int) (A q n : Nat) (h : n ≤ mst bs A) (h2 : ∀ j, j < n → bs[q + j]?.getD 0 = bs[A + j]?.getD 0) : n ≤ mt bs A q := by
  rcases Nat.lt_or_ge (mt bs A q) n with h1 | h1
  · exact absurd (h2 _ h1) (mt_else bs A q (by omega))
  · exact h1

/-- The longer one; of two that are equally long the one that came first. -/
def g1 (f : Nat → Nat) (q : Nat) (b : Nat × Nat) : Nat × Nat := if b.1 < f q then (f q, q) else b
/-- The best of places, from the last one on. -/
def pick (f : Nat → Nat) (L : List Nat) (b : Nat × Nat) : Nat × Nat := L.foldr (g1 f) b
theorem pick_nil (f : Nat → Nat) (b : Nat × Nat) : pick f [] b = b := rfl
theorem pick_snoc (f : Nat → Nat) (L : List Nat) (q : Nat) (b : Nat × Nat) : pick f (L ++ [q]) b = pick f L (g1 f q b) := by simp [pick]
theorem pick_succ (f : Nat → Nat) (n : Nat) (b : Nat × Nat) : pick f (List.range (n + 1)) b = pick f (List.range n) (g1 f n b) := by rw [List.range_succ, pick_snoc]
theorem g1_full {f : Nat → Nat} {q m : Nat} {b : Nat × Nat} (hf : f q ≤ m) (hb : m ≤ b.1) : g1 f q b = b := by unfold g1; rw [if_neg (by omega)]
theorem pick_full {f : Nat → Nat} {m : Nat} {b : Nat × Nat} (hb : m ≤ b.1) : ∀ (L : List Nat), (∀ q ∈ L, f q ≤ m) → pick f L b = b
  | [], _ => rfl
  | q :: L, h => by
    have ih := pick_full hb L (fun x hx => h x (by simp [hx]))
    unfold pick at ih ⊢
    rw [List.foldr_cons, ih]
    exact g1_full (h q (by simp)) hb

theorem pick_best (f : Nat → Nat) : ∀ n b, b.1 ≤ (pick f (List.range n) b).1 ∧ (∀ q, q < n → f q ≤ (pick f (List.range n) b).1) ∧
    (pick f (List.range n) b = b ∨ ((pick f (List.range n) b).2 < n ∧ f (pick f (List.range n) b).2 = (pick f (List.range n) b).1 ∧ b.1 < (pick f (List.range n) b).1 ∧ ∀ q, (pick f (List.range n) b).2 < q → q < n → f q < (pick f (List.range n) b).1))
  | 0, b => by simp [pick]
  | n + 1, b => by
    obtain ⟨h1, h2, h3⟩ := pick_best f n (g1 f n b)
    rw [pick_succ]
    generalize pick f (List.range n) (g1 f n b) = r at *
    by_cases hb : b.1 < f n
    · have e : g1 f n b = (f n, n) := if_pos hb
      rw [e] at h1 h3
      refine ⟨by simp at h1; omega, fun q hq => ?_, .inr ?_⟩
      · by_cases hqn : q = n
        · subst hqn; exact h1
        · exact h2 q (by omega)
      · rcases h3 with rfl | ⟨a1, a2, a3, a4⟩
        · exact ⟨by simp, rfl, hb, fun q h1 h2 => by simp at h1; omega⟩
        · refine ⟨by omega, a2, by simp at a3; omega, fun q q1 q2 => ?_⟩
          by_cases hqn : q = n
          · subst hqn; exact a3
          · exact a4 q q1 (by omega)
    · have e : g1 f n b = b := if_neg hb
      rw [e] at h1 h3
      refine ⟨h1, fun q hq => ?_, ?_⟩
      · by_cases hqn : q = n
        · subst hqn; omega
        · exact h2 q (by omega)
      · rcases h3 with h3 | ⟨a1, a2, a3, a4⟩
        · exact .inl h3
        · refine .inr ⟨by omega, a2, a3, fun q q1 q2 => ?_⟩
          by_cases hqn : q = n
          · subst hqn; omega
          · exact a4 q q1 (by omega)

/-- Where only the places are asked that are good for 3. -/
theorem pick_filter (f : Nat → Nat) (P : Nat → Bool) : ∀ n (b b' : Nat × Nat), (∀ q, q < n → (P q = true ↔ 3 ≤ f q)) → ((b' = b ∧ 3 ≤ b.1) ∨ (b' = (0, 0) ∧ b.1 < 3)) →
    ((pick f ((List.range n).filter P) b' = pick f (List.range n) b ∧ 3 ≤ (pick f (List.range n) b).1) ∨ (pick f ((List.range n).filter P) b' = (0, 0) ∧ (pick f (List.range n) b).1 < 3))
  | 0, b, b', hP, h => by simpa [pick] using h
  | n + 1, b, b', hP, h => by
    have hn := hP n (by omega)
    rw [pick_succ, List.range_succ, List.filter_append]
    cases hp : P n with
    | true =>
      have h3 := hn.1 hp
      have : [n].filter P = [n] := by simp [hp]
      rw [this, pick_snoc]
      refine pick_filter f P n _ _ (fun q hq => hP q (by omega)) ?_
      rcases h with ⟨rfl, h⟩ | ⟨rfl, h⟩
      · refine .inl ⟨rfl, ?_⟩
        unfold g1; split
        · exact h3
        · exact h
      · have e1 : g1 f n (0, 0) = (f n, n) := if_pos (by simp; omega)
        have e2 : g1 f n b = (f n, n) := if_pos (by omega)
        rw [e1, e2]
        exact .inl ⟨rfl, h3⟩
    | false =>
      have h3 : ¬ 3 ≤ f n := fun q => by rw [hn.2 q] at hp; cases hp
      have : [n].filter P = [] := by simp [hp]
      rw [this, List.append_nil]
      refine pick_filter f P n _ _ (fun q hq => hP q (by omega)) ?_
      rcases h with ⟨rfl, h⟩ | ⟨rfl, h⟩
      · refine .inl ⟨?_, ?_⟩
        · unfold g1; rw [if_neg (by omega)]
        · unfold g1; rw [if_neg (by omega)]; exact h
      · refine .inr ⟨rfl, ?_⟩
        unfold g1; split
        · simp; omega
        · exact h

/-- The best copy at a place: how long, and where it begins. -/
def bst (bs : List Int) (A : Nat) : Nat × Nat := pick (mt bs A) (List.range A) (0, 0)
/-- The piece that a copy is told as. -/
def pcOf (bs : List Int) (A : Nat) (r : Nat × Nat) : Pc := if r.1 = 0 then ⟨0, 0, bs[A]?.getD 0⟩ else ⟨(r.1 : Int), (A : Int) - (r.2 : Int), 0⟩
def pce (bs : List Int) (A : Nat) : Pc := if 3 ≤ (bst bs A).1 then pcOf bs A (bst bs A) else pcOf bs A (0, 0)
/-- How many bytes a piece makes. -/
def sz (p : Pc) : Nat := if p.l < 1 then 1 else p.l.toNat
def pcs (bs : List Int) : Nat → Nat → List Pc
  | 0, A => []
  | f + 1, A => if A < bs.length then pce bs A :: pcs bs f (A + sz (pce bs A)) else []
/-- The pieces of bytes. -/
def pieces (bs : List Int) : List Pc := pcs bs (bs.length + 1) 0

/-- What the piece at a place is. -/
theorem pce_copy (bs : List Int) (A : Nat) (h : 3 ≤ (bst bs A).1) : ∃ n q, bst bs A = (n, q) ∧ pce bs A = ⟨(n : Int), (A : Int) - (q : Int), 0⟩ ∧ 3 ≤ n ∧ n ≤ 258 ∧ A + n ≤ bs.length ∧ q < A ∧ mt bs A q = n ∧ (∀ x, x < A → mt bs A x ≤ n) ∧ ∀ x, q < x → x < A → mt bs A x < n := by
  obtain ⟨h1, h2, h3⟩ := pick_best (mt bs A) A (0, 0)
  have hp : pce bs A = pcOf bs A (bst bs A) := if_pos h
  unfold bst at h hp ⊢
  generalize pick (mt bs A) (List.range A) (0, 0) = r at *
  obtain ⟨n, q⟩ := r
  simp only at h h1 h2 h3
  rcases h3 with h3 | ⟨a1, a2, a3, a4⟩
  · simp at h3; omega
  · have hm := mt_le bs A q
    unfold mst at hm
    refine ⟨n, q, rfl, ?_, h, by omega, by omega, a1, a2, h2, a4⟩
    rw [hp]
    unfold pcOf
    rw [if_neg (by simp; omega)]
theorem pce_byte (bs : List Int) (A : Nat) (h : ¬ 3 ≤ (bst bs A).1) : pce bs A = ⟨0, 0, bs[A]?.getD 0⟩ ∧ ∀ x, x < A → mt bs A x < 3 := by
  obtain ⟨h1, h2, h3⟩ := pick_best (mt bs A) A (0, 0)
  refine ⟨?_, fun x hx => ?_⟩
  · unfold pce; rw [if_neg h]; rfl
  · have := h2 x hx
    unfold bst at h
    omega
theorem sz_copy {n : Nat} (h : 3 ≤ n) (d b : Int) : sz ⟨(n : Int), d, b⟩ = n := by unfold sz; simp only; rw [if_neg (by omega)]; simp
theorem sz_byte (d b : Int) : sz ⟨0, d, b⟩ = 1 := by unfold sz; simp
theorem sz_pos (p : Pc) : 1 ≤ sz p := by unfold sz; split <;> omega
theorem pce_sz (bs : List Int) (A : Nat) (hA : A < bs.length) : 1 ≤ sz (pce bs A) ∧ A + sz (pce bs A) ≤ bs.length := by
  by_cases h : 3 ≤ (bst bs A).1
  · obtain ⟨n, q, _, e, h3, _, hl, _⟩ := pce_copy bs A h
    rw [e, sz_copy h3]
    omega
  · rw [(pce_byte bs A h).1, sz_byte]
    omega
theorem pcs_end {bs : List Int} {A : Nat} (h : ¬ A < bs.length) : ∀ f, pcs bs f A = []
  | 0 => rfl
  | f + 1 => by simp only [pcs]; exact if_neg h
theorem pcs_on {bs : List Int} {A : Nat} (h : A < bs.length) (f : Nat) : pcs bs (f + 1) A = pce bs A :: pcs bs f (A + sz (pce bs A)) := by simp only [pcs]; exact if_pos h

/-- May a piece be? -/
def may (p : Pc) : Bool := if p.l = 0 then decide (p.d = 0) else decide (3 ≤ p.l) && (decide (p.l ≤ 258) && (decide (1 ≤ p.d) && (decide (p.d ≤ 32768) && decide (p.b = 0))))
def chk : Int → List Pc → Int
  | _, [] => 0
  | m, p :: r => if may p = true then (if m < p.d then 5 else chk (m + (sz p : Int)) r) else 2
/-- n bytes more, each from d back. -/
def cpn (d : Nat) : Nat → List Int → List Int
  | 0, o => o
  | n + 1, o => cpn d n (o ++ [o[o.length - d]?.getD 0])
def xp1 (o : List Int) (p : Pc) : List Int := if p.l = 0 then o ++ [p.b] else cpn p.d.toNat p.l.toNat o
def xpd (o : List Int) (l : List Pc) : List Int := l.foldl xp1 o
/-- What Expand answers. -/
def exq (l : List Pc) : List Int × Int := if chk 0 l = 0 then (xpd [] l, 0) else ([], chk 0 l)

theorem may_byte {p : Pc} (h : may p = true) (h0 : p.l = 0) : p.d = 0 := by
  unfold may at h
  rw [if_pos h0] at h
  simpa using h
theorem may_copy {p : Pc} (h : may p = true) (h0 : p.l ≠ 0) : 3 ≤ p.l ∧ p.l ≤ 258 ∧ 1 ≤ p.d ∧ p.d ≤ 32768 ∧ p.b = 0 := by
  unfold may at h
  rw [if_neg h0] at h
  simp at h
  omega
theorem may_sz {p : Pc} (h : may p = true) : sz p ≤ 258 := by
  by_cases h0 : p.l = 0
  · unfold sz; rw [h0]; simp
  · have := may_copy h h0
    unfold sz; split <;> omega
theorem cpn_len (d : Nat) : ∀ n o, (cpn d n o).length = o.length + n
  | 0, o => rfl
  | n + 1, o => by simp only [cpn]; rw [cpn_len d n]; simp; omega
theorem xp1_len {p : Pc} (h : may p = true) (o : List Int) : (xp1 o p).length = o.length + sz p := by
  unfold xp1 sz
  by_cases h0 : p.l = 0
  · rw [if_pos h0, h0]; simp
  · have := may_copy h h0
    rw [if_neg h0, cpn_len, if_neg (by omega)]
theorem cpn_byt {d : Nat} : ∀ {n : Nat} {o : List Int}, Byt o → Byt (cpn d n o)
  | 0, o, h => h
  | n + 1, o, h => by simp only [cpn]; exact cpn_byt (h.app (Byt.one (h.at _).1 (h.at _).2))
theorem chk_e : ∀ (l : List Pc) (m : Int), chk m l = 0 ∨ chk m l = 2 ∨ chk m l = 5
  | [], m => .inl rfl
  | p :: r, m => by
    simp only [chk]
    split
    · split
      · exact .inr (.inr rfl)
      · exact chk_e r _
    · exact .inr (.inl rfl)

theorem cpn_take (bs : List Int) (A q : Nat) (hq : q < A) : ∀ n k, (∀ j, j < k + n → bs[q + j]?.getD 0 = bs[A + j]?.getD 0) → A + k + n ≤ bs.length → cpn (A - q) n (bs.take (A + k)) = bs.take (A + k + n)
  | 0, k, _, _ => rfl
  | n + 1, k, h, hl => by
    have e : bs.take (A + k) ++ [(bs.take (A + k))[(bs.take (A + k)).length - (A - q)]?.getD 0] = bs.take (A + k + 1) := by
      rw [List.take_add_one, List.getElem?_eq_getElem (show A + k < bs.length by omega)]
      congr 1
      have h1 := h k (by omega)
      rw [List.getElem?_eq_getElem (show A + k < bs.length by omega), Option.getD_some] at h1
      rw [← Option.toList_some, ← h1]
      simp only [Option.toList_some, List.length_take, List.cons.injEq, and_true]
      rw [show min (A + k) bs.length - (A - q) = q + k by omega, List.getElem?_take_of_lt (by omega)]
    simp only [cpn]
    rw [e]
    have ih := cpn_take bs A q hq n (k + 1) (fun j hj => h j (by omega)) (by omega)
    rw [show A + k + 1 = A + (k + 1) by omega, ih]
    congr 1
    omega

/-- Pieces of bytes make these bytes. -/
theorem xpd_pcs (bs : List Int) (hn : bs.length ≤ 32768) : ∀ f A, A ≤ bs.length → bs.length < f + A → chk (A : Int) (pcs bs f A) = 0 ∧ xpd (bs.take A) (pcs bs f A) = bs
  | 0, A, hA, hf => by omega
  | f + 1, A, hA, hf => by
    by_cases hlt : A < bs.length
    · rw [pcs_on hlt]
      obtain ⟨h1, h2⟩ := pce_sz bs A hlt
      obtain ⟨i1, i2⟩ := xpd_pcs bs hn f (A + sz (pce bs A)) h2 (by omega)
      have key : may (pce bs A) = true ∧ ¬ (A : Int) < (pce bs A).d ∧ xp1 (bs.take A) (pce bs A) = bs.take (A + sz (pce bs A)) := by
        by_cases h : 3 ≤ (bst bs A).1
        · obtain ⟨n, q, _, e, a1, a2, a3, a4, a5, _, _⟩ := pce_copy bs A h
          rw [e, sz_copy a1]
          refine ⟨?_, ?_, ?_⟩
          · unfold may
            simp only
            rw [if_neg (by omega)]
            simp
            omega
          · simp; omega
          · unfold xp1
            simp only
            rw [if_neg (by omega), show ((A : Int) - (q : Int)).toNat = A - q by omega, Int.toNat_natCast]
            have := cpn_take bs A q a4 n 0 (fun j hj => mt_same bs A q (by omega)) (by omega)
            simpa using this
        · rw [(pce_byte bs A h).1, sz_byte]
          refine ⟨by simp [may], by simp, ?_⟩
          unfold xp1
          simp only [if_true]
          rw [List.take_add_one, List.getElem?_eq_getElem hlt]
          rfl
      obtain ⟨k1, k2, k3⟩ := key
      refine ⟨?_, ?_⟩
      · simp only [chk]
        rw [if_pos k1, if_neg k2]
        rw [← i1]
        congr 1
      · show xpd (xp1 (bs.take A) (pce bs A)) _ = bs
        rw [k3]
        exact i2
    · rw [pcs_end hlt]
      refine ⟨rfl, ?_⟩
      exact List.take_of_length_le (by omega)
theorem exq_pieces (bs : List Int) (hn : bs.length ≤ 32768) : exq (pieces bs) = (bs, 0) := by
  obtain ⟨h1, h2⟩ := xpd_pcs bs hn (bs.length + 1) 0 (Nat.zero_le _) (by omega)
  unfold exq pieces
  rw [show chk 0 (pcs bs (bs.length + 1) 0) = 0 from h1, if_pos rfl]
  rw [List.take_zero] at h2
  rw [h2]
end Go.Proofs.YtnoabdafmgmenaaGreatDoor

namespace Go.Proofs.YtnoabdafmgmenaaGreatDoor

/-- The two halves behind one byte more. -/
def step (p : Int × Int) (b : Int) : Int × Int := ((p.1 + b) % 65521, (p.2 + (p.1 + b) % 65521) % 65521)
/-- The halves behind all of the bytes. -/
def run (p : Int × Int) (bs : List Int) : Int × Int := bs.foldl step p
/-- The halves as one number. -/
def pack (p : Int × Int) : Int := p.2 * 65536 + p.1
def more (s : Int) (bs : List Int) : Int := pack (run (s % 65536 % 65521, s / 65536 % 65521) bs)
def sumOf (bs : List Int) : Int := more 1 bs

/-- All bytes together; and each as often as it is part of a low. -/
def tot : List Int → Int
  | [] => 0
  | b :: r => b + tot r
def wei : List Int → Int
  | [] => 0
  | b :: r => ((r.length : Int) + 1) * b + wei r

theorem tot_append (a b : List Int) : tot (a ++ b) = tot a + tot b := by
  induction a with
  | nil => simp [tot]
  | cons x r ih => simp only [List.cons_append, tot, ih]; omega

theorem wei_append (a b : List Int) : wei (a ++ b) = wei a + (b.length : Int) * tot a + wei b := by
  induction a with
  | nil => simp [tot, wei]
  | cons x r ih =>
    simp only [List.cons_append, tot, wei, ih, List.length_append, Int.natCast_add]
    have e1 : ((r.length : Int) + (b.length : Int) + 1) * x = ((r.length : Int) + 1) * x + (b.length : Int) * x := by rw [← Int.add_mul]; congr 1; omega
    have e2 : (b.length : Int) * (x + tot r) = (b.length : Int) * x + (b.length : Int) * tot r := Int.mul_add _ _ _
    rw [e1, e2]
    omega

theorem run_closed : ∀ (bs : List Int) (l h : Int), 0 ≤ l → l < 65521 → 0 ≤ h → h < 65521 →
    run (l, h) bs = ((l + tot bs) % 65521, (h + (bs.length : Int) * l + wei bs) % 65521)
  | [], l, h, h1, h2, h3, h4 => by
    simp only [run, List.foldl_nil, tot, wei, List.length_nil]
    rw [Prod.mk.injEq]
    constructor
    · omega
    · rw [show ((0 : Nat) : Int) = 0 from rfl, Int.zero_mul]; omega
  | b :: r, l, h, h1, h2, h3, h4 => by
    have ih := run_closed r ((l + b) % 65521) ((h + (l + b) % 65521) % 65521) (by omega) (by omega) (by omega) (by omega)
    show run ((l + b) % 65521, (h + (l + b) % 65521) % 65521) r = _
    rw [ih, Prod.mk.injEq]
    simp only [tot, wei, List.length_cons]
    obtain ⟨q, hq⟩ : ∃ q, (l + b) % 65521 = l + b - 65521 * q := ⟨(l + b) / 65521, by omega⟩
    obtain ⟨t, ht⟩ : ∃ t, (h + (l + b) % 65521) % 65521 = h + (l + b) % 65521 - 65521 * t := ⟨(h + (l + b) % 65521) / 65521, by omega⟩
    rw [ht, hq]
    constructor
    · omega
    · have e1 : (r.length : Int) * (l + b - 65521 * q) = (r.length : Int) * l + (r.length : Int) * b - 65521 * ((r.length : Int) * q) := by
        rw [Int.mul_sub, Int.mul_add, Int.mul_left_comm]
      have e2 : (((r.length + 1 : Nat) : Int)) * l = (r.length : Int) * l + l := by
        rw [Int.natCast_add, Int.add_mul]; simp
      have e3 : ((r.length : Int) + 1) * b = (r.length : Int) * b + b := by rw [Int.add_mul]; simp
      rw [e1, e2, e3]
      generalize (r.length : Int) * l = A
      generalize (r.length : Int) * b = B
      generalize (r.length : Int) * q = C
      omega

theorem run_bounds (bs : List Int) (l h : Int) (h1 : 0 ≤ l) (h2 : l < 65521) (h3 : 0 ≤ h) (h4 : h < 65521) :
    0 ≤ (run (l, h) bs).1 ∧ (run (l, h) bs).1 < 65521 ∧ 0 ≤ (run (l, h) bs).2 ∧ (run (l, h) bs).2 < 65521 := by
  rw [run_closed bs l h h1 h2 h3 h4]
  refine ⟨?_, ?_, ?_, ?_⟩ <;> simp only <;> omega

theorem run_append (p : Int × Int) (a b : List Int) : run p (a ++ b) = run (run p a) b := by simp [run]

theorem run_snoc (p : Int × Int) (a : List Int) (x : Int) : run p (a ++ [x]) = step (run p a) x := by simp [run]

/-- The halves of a sum. -/
theorem sumOf_eq (bs : List Int) : sumOf bs = pack ((1 + tot bs) % 65521, ((bs.length : Int) + wei bs) % 65521) := by
  unfold sumOf more
  rw [show (1 : Int) % 65536 % 65521 = 1 by decide, show (1 : Int) / 65536 % 65521 = 0 by decide, run_closed bs 1 0 (by omega) (by omega) (by omega) (by omega)]
  simp

theorem pack_low {l h : Int} (h1 : 0 ≤ l) (h2 : l < 65536) : pack (l, h) % 65536 = l := by unfold pack; simp only; omega
theorem pack_high {l h : Int} (h1 : 0 ≤ l) (h2 : l < 65536) : pack (l, h) / 65536 = h := by unfold pack; simp only; omega

theorem sumOf_low (bs : List Int) : sumOf bs % 65536 = (1 + tot bs) % 65521 := by rw [sumOf_eq, pack_low (by omega) (by omega)]
theorem sumOf_high (bs : List Int) : sumOf bs / 65536 = ((bs.length : Int) + wei bs) % 65521 := by rw [sumOf_eq, pack_high (by omega) (by omega)]

theorem more_bounds (s : Int) (bs : List Int) : 0 ≤ more s bs ∧ more s bs < 4294967296 := by
  have := run_bounds bs (s % 65536 % 65521) (s / 65536 % 65521) (by omega) (by omega) (by omega) (by omega)
  unfold more pack
  omega

/-- Are both halves remainders? -/
def isSum (s : Int) : Prop := s % 65536 < 65521 ∧ s / 65536 < 65521
instance (s : Int) : Decidable (isSum s) := inferInstanceAs (Decidable (_ ∧ _))

theorem more_isSum (s : Int) (bs : List Int) : isSum (more s bs) := by
  have := run_bounds bs (s % 65536 % 65521) (s / 65536 % 65521) (by omega) (by omega) (by omega) (by omega)
  unfold more isSum pack
  omega

theorem more_more (s : Int) (a b : List Int) : more (more s a) b = more s (a ++ b) := by
  have := run_bounds a (s % 65536 % 65521) (s / 65536 % 65521) (by omega) (by omega) (by omega) (by omega)
  rw [more, more, more, run_append]
  congr 2
  unfold pack
  generalize run (s % 65536 % 65521, s / 65536 % 65521) a = r at *
  obtain ⟨x, y⟩ := r
  simp only at this ⊢
  rw [Prod.mk.injEq]
  omega

/-- What Joined returns. -/
def joined (a b n : Int) : Int × Int :=
  if n < 0 ∨ ¬ isSum a ∨ ¬ isSum b then (0, 2)
  else (pack ((a % 65536 + b % 65536 - 1) % 65521, (a / 65536 + b / 65536 + n * (a % 65536 - 1)) % 65521), 0)

/-- What Rolled returns. -/
def rolled (s o i n : Int) : Int × Int :=
  if n < 1 ∨ ¬ isSum s then (0, 2)
  else (pack ((s % 65536 - o + i) % 65521, (s / 65536 - n * o + (s % 65536 - o + i) - 1) % 65521), 0)

theorem mul_mod (n x q : Int) : ∃ k, n * (x - 65521 * q) = n * x - 65521 * k := ⟨n * q, by rw [Int.mul_sub, Int.mul_left_comm]⟩

/-- The sum of two pieces, one behind the other. -/
theorem joined_sum (a b : List Int) : joined (sumOf a) (sumOf b) (b.length : Int) = (sumOf (a ++ b), 0) := by
  have ha : isSum (sumOf a) := more_isSum 1 a
  have hb : isSum (sumOf b) := more_isSum 1 b
  unfold joined
  rw [if_neg (by rintro (h | h | h); omega; exact h ha; exact h hb), sumOf_low, sumOf_low, sumOf_high, sumOf_high, sumOf_eq (a ++ b), tot_append, wei_append, List.length_append]
  congr 2
  rw [Prod.mk.injEq]
  constructor
  · omega
  · obtain ⟨q, hq⟩ : ∃ q, (1 + tot a) % 65521 = 1 + tot a - 65521 * q := ⟨(1 + tot a) / 65521, by omega⟩
    rw [hq, show 1 + tot a - 65521 * q - 1 = tot a - 65521 * q by omega]
    obtain ⟨k, hk⟩ := mul_mod (b.length : Int) (tot a) q
    rw [hk]
    generalize (b.length : Int) * tot a = M
    omega

/-- A window that moves by one byte. -/
theorem rolled_sum (x y : Int) (r : List Int) : rolled (sumOf (x :: r)) x y ((r.length : Int) + 1) = (sumOf (r ++ [y]), 0) := by
  have ha : isSum (sumOf (x :: r)) := more_isSum 1 _
  unfold rolled
  rw [if_neg (by rintro (h | h); omega; exact h ha), sumOf_low, sumOf_high, sumOf_eq (r ++ [y]), tot_append, wei_append, List.length_append]
  congr 2
  simp only [tot, wei, List.length_cons, List.length_nil, Int.natCast_add]
  rw [Prod.mk.injEq]
  constructor
  · omega
  · generalize ((r.length : Int) + 1) * x = M
    simp only [Int.natCast_one, Int.natCast_zero]
    omega

/-- One byte that changes, changes the sum. -/
theorem sum_changed (a r : List Int) (x y : Int) (hx : 0 ≤ x ∧ x ≤ 255) (hy : 0 ≤ y ∧ y ≤ 255) (hne : y ≠ x) : sumOf (a ++ y :: r) ≠ sumOf (a ++ x :: r) := by
  intro h
  have := congrArg (· % 65536) h
  simp only [sumOf_low, tot_append, tot] at this
  omega

theorem tot_rep (n : Nat) (b : Int) : tot (List.replicate n b) = (n : Int) * b := by
  induction n with
  | zero => simp [tot]
  | succ n ih => simp only [List.replicate_succ, tot, ih, Int.natCast_add, Int.add_mul]; omega
theorem wei_rep (n : Nat) : 2 * wei (List.replicate n 255) = 255 * ((n : Int) * (n : Int) + n) := by
  induction n with
  | zero => simp [wei]
  | succ n ih =>
    simp only [List.replicate_succ, wei, List.length_replicate, Int.mul_add, ih, Int.natCast_add, Int.add_mul]
    generalize (n : Int) * (n : Int) = M
    omega

theorem sum_full : sumOf (List.replicate 6000 255) = 2761382378 := by
  have h1 := tot_rep 6000 255
  have h2 := wei_rep 6000
  rw [sumOf_eq, h1, List.length_replicate]
  unfold pack
  simp only
  omega

/-- The code's remainders. -/
theorem joined_high (h k n x : Int) : (h + k + n % 65521 * (x % 65521)) % 65521 = (h + k + n * x) % 65521 := by
  rw [Int.add_emod, Int.add_emod (h + k) (n * x), Int.mul_emod n x]

theorem mul_rem (n x : Int) : n % 65521 * x % 65521 = n * x % 65521 := by
  rw [Int.mul_emod, Int.emod_emod_of_dvd _ (Int.dvd_refl _), ← Int.mul_emod]

end Go.Proofs.YtnoabdafmgmenaaGreatDoor
