/-
  Plain facts on numbers written as bytes, lowest first, and read back: what is written in n bytes is read as the number, if it fits. No program and no memory is named here.
-/
import Derived.Laws.BitsAllLaws
import Derived.Laws.BytesArg
import Derived.IntWalk
namespace Go.Proofs.Ytenindnahhebcaa

/-- Every number of the list is a byte's. -/
def Byt (bs : List Int) : Prop := ∀ x ∈ bs, 0 ≤ x ∧ x ≤ 255

theorem Byt.nil : Byt [] := by intro x hx; cases hx
theorem Byt.app {a b : List Int} (h : Byt a) (k : Byt b) : Byt (a ++ b) := by
  intro x hx
  rcases List.mem_append.1 hx with h1 | h1
  · exact h x h1
  · exact k x h1
theorem Byt.one {x : Int} (h0 : 0 ≤ x) (h1 : x ≤ 255) : Byt [x] := by
  intro y hy
  simp at hy
  omega
theorem Byt.cons {x : Int} {r : List Int} (h0 : 0 ≤ x) (h1 : x ≤ 255) (h : Byt r) : Byt (x :: r) := Byt.app (Byt.one h0 h1) h
theorem Byt.left {a b : List Int} (h : Byt (a ++ b)) : Byt a := fun x hx => h x (List.mem_append.2 (.inl hx))
theorem Byt.right {a b : List Int} (h : Byt (a ++ b)) : Byt b := fun x hx => h x (List.mem_append.2 (.inr hx))
theorem Byt.at {bs : List Int} (h : Byt bs) (i : Nat) : 0 ≤ bs[i]?.getD 0 ∧ bs[i]?.getD 0 ≤ 255 := by
  rcases Nat.lt_or_ge i bs.length with hi | hi
  · simp only [List.getElem?_eq_getElem hi, Option.getD_some]
    exact h _ (List.getElem_mem hi)
  · simp [List.getElem?_eq_none hi]
theorem Byt.drop {bs : List Int} (h : Byt bs) (n : Nat) : Byt (bs.drop n) := fun x hx => h x (List.mem_of_mem_drop hx)
theorem Byt.take {bs : List Int} (h : Byt bs) (n : Nat) : Byt (bs.take n) := fun x hx => h x (List.mem_of_mem_take hx)

/-- The number of the first n bytes, the lowest first. -/
def val (bs : List Int) : Nat → Int
  | 0 => 0
  | n + 1 => val bs n + bs.getD n 0 * 2 ^ (8 * n)

theorem pow_pos8 (n : Nat) : (0 : Int) < 2 ^ (8 * n) := Int.pow_pos (by omega)
theorem pow_succ8 (n : Nat) : (2 : Int) ^ (8 * (n + 1)) = 256 * 2 ^ (8 * n) := by
  have : (2 : Int) ^ (8 * (n + 1)) = 2 ^ (8 * n) * 2 ^ 8 := by rw [← Int.pow_add]; rfl
  rw [this]; omega

theorem val_bounds {bs : List Int} (h : Byt bs) : ∀ n, 0 ≤ val bs n ∧ val bs n < 2 ^ (8 * n)
  | 0 => by simp [val]
  | n + 1 => by
    have ih := val_bounds h n
    have hb := h.at n
    have hp := pow_pos8 n
    have hg : bs.getD n 0 = bs[n]?.getD 0 := by simp
    rw [pow_succ8]
    simp only [val, hg]
    generalize bs[n]?.getD 0 = d at *
    generalize (2 : Int) ^ (8 * n) = p at *
    have h1 : 0 ≤ d * p := Int.mul_nonneg hb.1 (by omega)
    have h2 : d * p ≤ 255 * p := Int.mul_le_mul_of_nonneg_right hb.2 (by omega)
    omega

theorem val_append (a r : List Int) : ∀ n, n ≤ a.length → val (a ++ r) n = val a n
  | 0, _ => rfl
  | n + 1, h => by
    simp only [val]
    rw [val_append a r n (by omega)]
    have : (a ++ r).getD n 0 = a.getD n 0 := by
      simp only [List.getD_eq_getElem?_getD, List.getElem?_append_left (show n < a.length by omega)]
    rw [this]

theorem pow_le64 (m : Nat) (h : m ≤ 8) : (2 : Int) ^ (8 * m) ≤ 18446744073709551616 := by
  match m, h with
  | 0, _ | 1, _ | 2, _ | 3, _ | 4, _ | 5, _ | 6, _ | 7, _ | 8, _ => decide

/-- One step of reading: what is there, and the next byte above it. -/
theorem or_step {bs : List Int} (h : Byt bs) (m : Nat) (hm : m < 8) :
    bits BinOp.or IntKind.u64 (val bs m) (IntKind.u64.wrap (bs[m]?.getD 0 * 2 ^ (8 * m))) = val bs (m + 1) := by
  have hv := val_bounds h m
  have hv1 := val_bounds h (m + 1)
  have hb := h.at m
  have hp := pow_pos8 m
  have hp8 := pow_le64 (m + 1) (by omega)
  rw [pow_succ8] at hp8
  have hg : bs.getD m 0 = bs[m]?.getD 0 := by simp
  have hval : val bs (m + 1) = val bs m + bs[m]?.getD 0 * 2 ^ (8 * m) := by simp only [val, hg]
  generalize bs[m]?.getD 0 = d at *
  have h1 : 0 ≤ d * 2 ^ (8 * m) := Int.mul_nonneg hb.1 (by omega)
  have h2 : d * 2 ^ (8 * m) ≤ 255 * 2 ^ (8 * m) := Int.mul_le_mul_of_nonneg_right hb.2 (by omega)
  rw [IntKind.wrap_u64, Int.emod_eq_of_lt h1 (by omega), u64_or _ _ hv.1 (by omega) h1 (by omega), hval]
  obtain ⟨D, rfl⟩ := Int.eq_ofNat_of_zero_le hb.1
  generalize val bs m = v at *
  obtain ⟨V, rfl⟩ := Int.eq_ofNat_of_zero_le hv.1
  have e2 : ((D : Int) * 2 ^ (8 * m)) = ((D * 2 ^ (8 * m) : Nat) : Int) := by simp
  have e3 : (2 : Int) ^ (8 * m) = ((2 ^ (8 * m) : Nat) : Int) := by simp
  rw [e2]
  rw [e3] at hv
  have hV : V < 2 ^ (8 * m) := by omega
  rw [Int.toNat_natCast, Int.toNat_natCast, Nat.or_comm, nat_join (8 * m) (D * 2 ^ (8 * m)) V (by simp) hV]
  omega

/-- x in n bytes, the lowest first. -/
def le (x : Int) : Nat → List Int
  | 0 => []
  | n + 1 => le x n ++ [x / 2 ^ (8 * n) % 256]

theorem le_length (x : Int) : ∀ n, (le x n).length = n
  | 0 => rfl
  | n + 1 => by simp [le, le_length x n]

theorem le_byt (x : Int) : ∀ n, Byt (le x n)
  | 0 => Byt.nil
  | n + 1 => (le_byt x n).app (Byt.one (by omega) (by omega))

theorem emod_mul_step (x p : Int) (h0 : 0 ≤ x) (hp : 0 < p) : x % (256 * p) = x % p + x / p % 256 * p := by
  obtain ⟨X, rfl⟩ := Int.eq_ofNat_of_zero_le h0
  obtain ⟨P, rfl⟩ := Int.eq_ofNat_of_zero_le (Int.le_of_lt hp)
  have := Nat.mod_mul (a := P) (b := 256) (x := X)
  have e : ((X % (P * 256) : Nat) : Int) = ((X % P + P * (X / P % 256) : Nat) : Int) := by rw [this]
  have e2 : (X : Int) % (256 * (P : Int)) = ((X % (P * 256) : Nat) : Int) := by
    rw [Nat.mul_comm]; simp
  rw [e2, e]
  simp [Int.mul_comm]

theorem val_le (x : Int) (h0 : 0 ≤ x) (r : List Int) : ∀ n, val (le x n ++ r) n = x % 2 ^ (8 * n)
  | 0 => by simp [val]
  | n + 1 => by
    rw [val_append _ _ _ (by rw [le_length]; omega)]
    simp only [val, le]
    have h1 := val_le x h0 [x / 2 ^ (8 * n) % 256] n
    have h2 : (le x n ++ [x / 2 ^ (8 * n) % 256]).getD n 0 = x / 2 ^ (8 * n) % 256 := by
      simp [List.getD_eq_getElem?_getD, le_length]
    rw [h1, h2, pow_succ8, emod_mul_step x _ h0 (pow_pos8 n)]

theorem val_le_fits (x : Int) (h0 : 0 ≤ x) (r : List Int) (n : Nat) (h : x < 2 ^ (8 * n)) : val (le x n ++ r) n = x := by
  rw [val_le x h0 r n, Int.emod_eq_of_lt h0 h]

/-- One step of writing: the byte number m of x. -/
theorem shr_step (x : Int) (m : Nat) : IntKind.u8.wrap (x / 2 ^ (8 * m)) = x / 2 ^ (8 * m) % 256 := by rw [IntKind.wrap_u8']

/-- How many bytes stand behind the first byte of a counted number. -/
def widthOf (c : Int) : Int := if c = 252 then 2 else if c = 253 then 3 else if c = 254 then 8 else 0
/-- The first byte of the shortest counted form. -/
def firstOf (x : Int) : Int := if x ≤ 250 then x else if x < 65536 then 252 else if x < 16777216 then 253 else 254
/-- The shortest counted form. -/
def form (x : Int) : List Int := firstOf x :: le x (widthOf (firstOf x)).toNat

theorem widthOf_cases (c : Int) : widthOf c = 0 ∨ widthOf c = 2 ∨ widthOf c = 3 ∨ widthOf c = 8 := by
  unfold widthOf; split <;> (try split) <;> (try split) <;> simp
theorem widthOf_small {c : Int} (h : c ≤ 250) : widthOf c = 0 := by
  unfold widthOf; rw [if_neg (by omega), if_neg (by omega), if_neg (by omega)]

theorem form_length (x : Int) : ((form x).length : Int) = 1 + widthOf (firstOf x) := by
  simp only [form, List.length_cons, le_length]
  have := widthOf_cases (firstOf x)
  omega

theorem firstOf_byt {x : Int} (h : 0 ≤ x) : 0 ≤ firstOf x ∧ firstOf x ≤ 255 := by
  unfold firstOf; split <;> (try split) <;> (try split) <;> omega

theorem form_byt {x : Int} (h : 0 ≤ x) : Byt (form x) := Byt.cons (firstOf_byt h).1 (firstOf_byt h).2 (le_byt _ _)

theorem form_length_le (x : Int) : (form x).length ≤ 9 := by
  have := form_length x
  have := widthOf_cases (firstOf x)
  omega

/-- The result of ReadFixed: the number, the error. -/
def readFixed (bs : List Int) (k : Int) : Int × Int :=
  if ¬ (1 ≤ k ∧ k ≤ 8) then (0, 2) else if (bs.length : Int) < k then (0, 4) else (val bs k.toNat, 0)

/-- The result of ReadInt: the number, how many bytes, the error. -/
def readInt : List Int → Int × Int × Int
  | [] => (0, 0, 4)
  | c :: r => if c ≤ 250 then (c, 1, 0) else if widthOf c = 0 then (0, 0, 5) else if (r.length : Int) < widthOf c then (0, 0, 4) else (val r (widthOf c).toNat, 1 + widthOf c, 0)

/-- What AppendFixed puts behind b. -/
def fixed (x k : Int) : Option (List Int) := if 1 ≤ k ∧ k ≤ 8 ∧ x < 2 ^ (8 * k.toNat) then some (le x k.toNat) else none

theorem readInt_small {c : Int} {r : List Int} (h : c ≤ 250) : readInt (c :: r) = (c, 1, 0) := by simp [readInt, h]
theorem readInt_bad {c : Int} {r : List Int} (h : ¬ c ≤ 250) (h2 : widthOf c = 0) : readInt (c :: r) = (0, 0, 5) := by simp [readInt, h, h2]
theorem readInt_short {c : Int} {r : List Int} (h : ¬ c ≤ 250) (h2 : widthOf c ≠ 0) (h3 : (r.length : Int) < widthOf c) : readInt (c :: r) = (0, 0, 4) := by simp [readInt, h, h2, h3]
theorem readInt_long {c : Int} {r : List Int} (h : ¬ c ≤ 250) (h2 : widthOf c ≠ 0) (h3 : ¬ (r.length : Int) < widthOf c) : readInt (c :: r) = (val r (widthOf c).toNat, 1 + widthOf c, 0) := by simp [readInt, h, h2, h3]

/-- What was written is read back, whatever stands behind it. -/
theorem readInt_form (x : Int) (h0 : 0 ≤ x) (h1 : x < 18446744073709551616) (r : List Int) : readInt (form x ++ r) = (x, ((form x).length : Int), 0) := by
  rw [form_length]
  unfold form
  rw [List.cons_append]
  by_cases a : x ≤ 250
  · have e : firstOf x = x := by simp [firstOf, a]
    rw [e, readInt_small a, widthOf_small a]; rfl
  · have key : ∀ c k : Int, firstOf x = c → widthOf c = k → 250 < c → 0 < k → x < 2 ^ (8 * k.toNat) → readInt (firstOf x :: (le x (widthOf (firstOf x)).toNat ++ r)) = (x, 1 + widthOf (firstOf x), 0) := by
      intro c k e1 e2 h3 h4 h5
      rw [e1, e2, readInt_long (by omega) (by omega) (by simp [le_length, e2]; omega), e2, val_le_fits x h0 r _ h5]
    by_cases b : x < 65536
    · exact key 252 2 (by simp [firstOf, a, b]) (by decide) (by omega) (by omega) (by simpa using b)
    · by_cases c : x < 16777216
      · exact key 253 3 (by simp [firstOf, a, b, c]) (by decide) (by omega) (by omega) (by simpa using c)
      · exact key 254 8 (by simp [firstOf, a, b, c]) (by decide) (by omega) (by omega) (by simpa using h1)

/-- Each first part of a form, ahead of its end, is too short. -/
theorem readInt_part (x : Int) (i : Nat) (h : i < (form x).length) : (readInt ((form x).take i)).2.2 = 4 := by
  have hl := form_length x
  cases i with
  | zero => simp [readInt]
  | succ i =>
    have hw := widthOf_cases (firstOf x)
    have h0 : widthOf (firstOf x) ≠ 0 := by omega
    have hb : ¬ firstOf x ≤ 250 := fun hh => h0 (widthOf_small hh)
    unfold form
    rw [List.take_succ_cons, readInt_short hb h0 (by simp [le_length]; omega)]

/-- What is read has its shortest form, which is no longer than what was read. -/
theorem readInt_shortest {bs : List Int} (h : Byt bs) {x n : Int} (e : readInt bs = (x, n, 0)) : 0 ≤ x ∧ x < 18446744073709551616 ∧ ((form x).length : Int) ≤ n ∧ n ≤ bs.length := by
  cases bs with
  | nil => simp [readInt] at e
  | cons c r =>
    have hc := h c (by simp)
    by_cases a : c ≤ 250
    · rw [readInt_small a] at e
      simp only [Prod.mk.injEq] at e
      obtain ⟨rfl, rfl, _⟩ := e
      have e1 : firstOf c = c := by simp [firstOf, a]
      rw [form_length, e1, widthOf_small a, List.length_cons]
      omega
    · by_cases b : widthOf c = 0
      · rw [readInt_bad a b] at e; simp at e
      · by_cases d : (r.length : Int) < widthOf c
        · rw [readInt_short a b d] at e; simp at e
        · rw [readInt_long a b d] at e
          simp only [Prod.mk.injEq] at e
          obtain ⟨e1, e2, _⟩ := e
          have hr : Byt r := fun y hy => h y (List.mem_cons_of_mem _ hy)
          have hv := val_bounds hr (widthOf c).toNat
          rw [e1] at hv
          rw [form_length, List.length_cons]
          have hw := widthOf_cases c
          have hf : widthOf (firstOf x) ≤ widthOf c ∧ x < 18446744073709551616 := by
            rcases hw with hw | hw | hw | hw
            · omega
            · rw [hw] at hv ⊢
              have hx : x < 65536 := by simpa using hv.2
              refine ⟨?_, by omega⟩
              by_cases hq : x ≤ 250
              · have : firstOf x = x := by simp [firstOf, hq]
                rw [this, widthOf_small hq]; omega
              · have : firstOf x = 252 := by simp [firstOf, hq, hx]
                rw [this]; decide
            · rw [hw] at hv ⊢
              have hx : x < 16777216 := by simpa using hv.2
              refine ⟨?_, by omega⟩
              by_cases hq : x ≤ 250
              · have : firstOf x = x := by simp [firstOf, hq]
                rw [this, widthOf_small hq]; omega
              · by_cases hq2 : x < 65536
                · have : firstOf x = 252 := by simp [firstOf, hq, hq2]
                  rw [this]; decide
                · have : firstOf x = 253 := by simp [firstOf, hq, hq2, hx]
                  rw [this]; decide
            · rw [hw] at hv ⊢
              have hx : x < 18446744073709551616 := by simpa using hv.2
              have := widthOf_cases (firstOf x)
              exact ⟨by omega, hx⟩
          omega

theorem readInt_err {bs : List Int} {x n e : Int} (h : readInt bs = (x, n, e)) (he : e ≠ 0) : x = 0 ∧ n = 0 := by
  cases bs with
  | nil => simp [readInt] at h; omega
  | cons c r =>
    by_cases a : c ≤ 250
    · rw [readInt_small a] at h; simp at h; omega
    · by_cases b : widthOf c = 0
      · rw [readInt_bad a b] at h; simp at h; omega
      · by_cases d : (r.length : Int) < widthOf c
        · rw [readInt_short a b d] at h; simp at h; omega
        · rw [readInt_long a b d] at h; simp at h; omega

end Go.Proofs.Ytenindnahhebcaa
