/-
  Numbers that were written in digits are read back: plain facts of the text's bytes, of no program.
  Texts of numbers in so many digits stand in the order of the numbers; texts of dates in the order of the dates. No program and no memory is named here.
  A value's text tells the value: what guess makes of the text of a value that may be is that value. Plain facts, of no program.
-/
import Derived.Test.YtgldbainhncneaaGreatDoorMPl
import Derived.Lib.ParseIntBTie
import Derived.Lib.ItoaMem
import Derived.Test.YtgldbainhncneaaGreatDoorVaTx
import Derived.Lib.ItoaLen
namespace Go.Proofs.YtgldbainhncneaaGreatDoor
open Go.RowKit
set_option linter.unusedVariables false
set_option linter.unusedSimpArgs false

theorem ob_app (r : List UInt8) : ∀ (l : List UInt8) (a v : Nat), Lib.parseUint10 a l = .ok v → Lib.parseUint10 a (l ++ r) = Lib.parseUint10 v r
  | [], a, v, h => by
    simp only [Lib.parseUint10] at h
    injection h with h
    rw [h]; rfl
  | c :: l, a, v, h => by
    simp only [Lib.parseUint10, List.cons_append] at h ⊢
    split at h
    · split at h
      · cases h
      · split at h
        · cases h
        · rename_i h1 h2 h3
          rw [if_pos h1, if_neg h2, if_neg h3]
          exact ob_app r l _ v h
    · cases h
theorem ob_dg {d : Nat} (h : d < 10) : (UInt8.ofNat (48 + d)).toNat = 48 + d := by
  rw [UInt8.toNat_ofNat']
  omega
theorem ob_one {a d : Nat} (h : d < 10) (ha : a * 10 + d < 18446744073709551616) : Lib.parseUint10 a [UInt8.ofNat (48 + d)] = .ok (a * 10 + d) := by
  simp only [Lib.parseUint10, ob_dg h]
  rw [if_pos (by omega), if_neg (by omega), if_neg (by omega)]
  congr 1
  omega
theorem ob_dec (u : Nat) (h : u < 18446744073709551616) : Lib.parseUint10 0 (Lib.decDigits u) = .ok u := by
  induction u using Nat.strongRecOn with
  | _ u ih =>
    rw [Lib.decDigits]
    split
    · rename_i h1
      have := ob_one (a := 0) h1 (by omega)
      simpa using this
    · rename_i h1
      rw [ob_app _ _ _ _ (ih (u / 10) (by omega) (by omega)), ob_one (by omega) (by omega)]
      congr 1
      omega
theorem ob_zero (l : List UInt8) : ∀ n : Nat, Lib.parseUint10 0 (List.replicate n 48 ++ l) = Lib.parseUint10 0 l
  | 0 => rfl
  | n + 1 => by
    rw [List.replicate_succ, List.cons_append]
    have := ob_zero l n
    simpa [Lib.parseUint10] using this
theorem ob_dig (u : Nat) : ∀ c ∈ Lib.decDigits u, 48 ≤ c.toNat ∧ c.toNat ≤ 57 := by
  induction u using Nat.strongRecOn with
  | _ u ih =>
    intro c hc
    rw [Lib.decDigits] at hc
    split at hc
    · rename_i h1
      simp only [List.mem_singleton] at hc
      rw [hc, ob_dg h1]
      omega
    · rename_i h1
      rcases List.mem_append.1 hc with hc | hc
      · exact ih (u / 10) (by omega) c hc
      · simp only [List.mem_singleton] at hc
        rw [hc, ob_dg (Nat.mod_lt _ (by omega))]
        omega
theorem ob_ne (u : Nat) : Lib.decDigits u ≠ [] := by
  rw [Lib.decDigits]
  split <;> simp
theorem ob_nat {x : Int} (h : 0 ≤ x) : Lib.itoa x = Lib.decDigits x.toNat := by
  unfold Lib.itoa
  rw [if_neg (by omega)]
theorem pad_dig {x : Int} (h : 0 ≤ x) (n : Nat) : ∀ c ∈ pad x n, 48 ≤ c.toNat ∧ c.toNat ≤ 57 := by
  intro c hc
  unfold pad at hc
  rw [ob_nat h] at hc
  rcases List.mem_append.1 hc with hc | hc
  · rw [(List.mem_replicate.1 hc).2]; decide
  · exact ob_dig _ c hc
theorem pad_ne {x : Int} (h : 0 ≤ x) (n : Nat) : pad x n ≠ [] := by
  unfold pad
  rw [ob_nat h]
  have := ob_ne x.toNat
  simp [this]
theorem pad_mag {x : Int} (h : 0 ≤ x) (hx : x < 18446744073709551616) (n : Nat) : Lib.parseMag (pad x n) = .ok x.toNat := by
  unfold Lib.parseMag
  rw [if_neg (pad_ne h n)]
  unfold pad
  rw [ob_zero, ob_nat h, ob_dec _ (by omega)]
theorem at_digits {l : List UInt8} {u : Nat} (hd : ∀ c ∈ l, 48 ≤ c.toNat ∧ c.toNat ≤ 57) (hm : Lib.parseMag l = .ok u) (hu : u < 9223372036854775808) : Lib.atoiAll l = .ok (u : Int) := by
  cases l with
  | nil => simp [Lib.parseMag] at hm
  | cons c r =>
    have hc := hd c (by simp)
    rw [Lib.atoiAll_plain c r (by omega) (by omega), hm]
    unfold Lib.signless
    simp only
    rw [if_neg (by omega)]
theorem at_pad {x : Int} (h : 0 ≤ x) (hx : x < 9223372036854775808) (n : Nat) : atV (pad x n) = x := by
  unfold atV
  rw [at_digits (pad_dig h n) (pad_mag h (by omega) n) (by omega)]
  simp only
  omega
theorem pi_itoa {i : Int} (h : i64 i) : piV (Lib.itoa i) = i := by
  obtain ⟨h0, h1⟩ := h
  unfold piV
  rw [Lib.parseIntB_64]
  rcases Int.lt_or_le i 0 with q | q
  · have e : Lib.itoa i = 45 :: Lib.decDigits i.natAbs := by unfold Lib.itoa; rw [if_pos q]
    rw [e, Lib.atoiAll_minus]
    have hm : Lib.parseMag (Lib.decDigits i.natAbs) = .ok i.natAbs := by
      unfold Lib.parseMag
      rw [if_neg (ob_ne _), ob_dec _ (by omega)]
    rw [hm]
    unfold Lib.signed
    simp only
    rw [if_neg (by omega)]
    simp only
    omega
  · have hm : Lib.parseMag (Lib.decDigits i.toNat) = .ok i.toNat := by
      unfold Lib.parseMag
      rw [if_neg (ob_ne _), ob_dec _ (by omega)]
    rw [ob_nat q, at_digits (ob_dig _) hm (by omega)]
    simp only
    omega
theorem pu_itoa {b : Int} (h0 : 0 ≤ b) (h1 : b < 18446744073709551616) : puV (Lib.itoa b) = b := by
  unfold puV
  rw [Lib.parseUintB_64, ob_nat h0]
  have hm : Lib.parseMag (Lib.decDigits b.toNat) = .ok b.toNat := by
    unfold Lib.parseMag
    rw [if_neg (ob_ne _), ob_dec _ (by omega)]
  rw [hm]
  simp only
  omega

/-! One number behind the other. -/
theorem nxA_pad {x : Int} {n : Nat} {N : Int} (hN : N = n) (h : 0 ≤ x) (hx : x < 9223372036854775808) (hl : (pad x n).length = n) (r : List UInt8) : nxA (pad x n ++ r) N = x := by
  subst hN
  unfold nxA
  rw [if_neg (by simp [hl]; omega)]
  rw [Int.toNat_natCast, List.take_append_of_le_length (by omega), List.take_of_length_le (by omega)]
  exact at_pad h hx n
theorem nxS_pad {x : Int} {n : Nat} {N : Int} (hN : N = n) (hl : (pad x n).length = n) (c : UInt8) (r : List UInt8) : nxS (pad x n ++ c :: r) N = r := by
  subst hN
  unfold nxS
  rw [if_neg (by simp [hl]; omega)]
  rw [Int.toNat_natCast, List.drop_append]
  simp [hl]
theorem nxS_end {x : Int} {n : Nat} {N : Int} (hN : N = n) (hl : (pad x n).length = n) : nxS (pad x n) N = [] := by
  subst hN
  unfold nxS
  rw [if_neg (by simp [hl])]
  rw [Int.toNat_natCast]
  apply List.drop_eq_nil_of_le
  omega
theorem nxA_end {x : Int} {n : Nat} {N : Int} (hN : N = n) (h : 0 ≤ x) (hx : x < 9223372036854775808) (hl : (pad x n).length = n) : nxA (pad x n) N = x := by
  have := nxA_pad hN h hx hl []
  rwa [List.append_nil] at this
theorem nxA_nil {N : Int} (h : 0 < N) : nxA [] N = 0 := by
  unfold nxA
  rw [if_pos (Or.inr (by simpa using h))]
theorem nxS_nil {N : Int} (h : 0 < N) : nxS [] N = [] := by
  unfold nxS
  rw [if_pos (Or.inr (by simpa using h))]

end Go.Proofs.YtgldbainhncneaaGreatDoor

namespace Go.Proofs.YtgldbainhncneaaGreatDoor
open Go.RowKit
set_option linter.unusedVariables false
set_option linter.unusedSimpArgs false

/-- A number in n digits. -/
def fw : Nat → Nat → List UInt8
  | 0, _ => []
  | n + 1, x => fw n (x / 10) ++ [UInt8.ofNat (48 + x % 10)]
theorem fw_len : ∀ n x, (fw n x).length = n
  | 0, _ => rfl
  | n + 1, x => by simp [fw, fw_len n]
theorem fw_zero : ∀ n, fw n 0 = List.replicate n 48
  | 0 => rfl
  | n + 1 => by
    rw [fw, Nat.zero_div, fw_zero n, List.replicate_succ']
    rfl
theorem dec_len (x : Nat) : (Lib.decDigits x).length = Lib.nDigits x := Lib.decDigits_length x
theorem dec_fw : ∀ (n x : Nat), 1 ≤ n → x < 10 ^ n → List.replicate (n - (Lib.decDigits x).length) 48 ++ Lib.decDigits x = fw n x
  | 0, _, h, _ => by omega
  | n + 1, x, _, hx => by
    by_cases h : x < 10
    · rw [Lib.decDigits, dif_pos h, fw, show x / 10 = 0 by omega, fw_zero, show x % 10 = x by omega]
      simp
    · rw [Lib.decDigits, dif_neg h, fw]
      by_cases hn : n = 0
      · subst hn; simp at hx; omega
      · rw [← dec_fw n (x / 10) (by omega) (by rw [Nat.pow_succ] at hx; omega)]
        simp only [List.length_append, List.length_singleton, ← List.append_assoc]
        rw [show n + 1 - ((Lib.decDigits (x / 10)).length + 1) = n - (Lib.decDigits (x / 10)).length by omega]
theorem pad_fw (x : Int) (n : Nat) (h1 : 1 ≤ n) (h0 : 0 ≤ x) (hx : x < 10 ^ n) : pad x n = fw n x.toNat := by
  obtain ⟨X, rfl⟩ := Int.eq_ofNat_of_zero_le h0
  have hx2 : X < 10 ^ n := by
    have : ((X : Int)) < ((10 ^ n : Nat) : Int) := by simpa using hx
    omega
  unfold pad
  rw [Lib.itoa_nonneg]
  exact dec_fw n X h1 hx2
theorem less_pre : ∀ (p x y : List UInt8), Op.bytesLess (p ++ x) (p ++ y) = Op.bytesLess x y
  | [], _, _ => rfl
  | a :: p, x, y => by
    show ((decide (a < a)) || (a == a && Op.bytesLess (p ++ x) (p ++ y))) = _
    rw [less_pre p x y]
    simp
theorem less_ne : ∀ (p q x y : List UInt8), p.length = q.length → p ≠ q → Op.bytesLess (p ++ x) (q ++ y) = Op.bytesLess p q
  | [], [], _, _, _, h => absurd rfl h
  | [], _ :: _, _, _, h, _ => by simp at h
  | _ :: _, [], _, _, h, _ => by simp at h
  | a :: p, b :: q, x, y, hl, hne => by
    show ((decide (a < b)) || (a == b && Op.bytesLess (p ++ x) (q ++ y))) = ((decide (a < b)) || (a == b && Op.bytesLess p q))
    by_cases hab : a = b
    · subst hab
      rw [less_ne p q x y (by simpa using hl) (fun z => hne (by rw [z]))]
    · have : (a == b) = false := by simpa using hab
      rw [this]
      simp
theorem dig_toNat (x : Nat) : (UInt8.ofNat (48 + x % 10)).toNat = 48 + x % 10 := by
  simp only [UInt8.toNat_ofNat']
  omega
theorem dig_inj {a b : Nat} (h : UInt8.ofNat (48 + a % 10) = UInt8.ofNat (48 + b % 10)) : a % 10 = b % 10 := by
  have := congrArg UInt8.toNat h
  rw [dig_toNat, dig_toNat] at this
  omega
theorem fw_inj : ∀ (n a b : Nat), a < 10 ^ n → b < 10 ^ n → fw n a = fw n b → a = b
  | 0, a, b, ha, hb, _ => by simp at ha hb; omega
  | n + 1, a, b, ha, hb, h => by
    rw [Nat.pow_succ] at ha hb
    unfold fw at h
    obtain ⟨h1, h2⟩ := List.append_inj' h rfl
    have e1 := fw_inj n (a / 10) (b / 10) (by omega) (by omega) h1
    have e2 := dig_inj (List.cons.inj h2).1
    omega
theorem fw_less : ∀ (n a b : Nat), a < 10 ^ n → b < 10 ^ n → Op.bytesLess (fw n a) (fw n b) = decide (a < b)
  | 0, a, b, ha, hb => by
    have : ¬ a < b := by simp at ha hb; omega
    rw [decide_eq_false this]
    rfl
  | n + 1, a, b, ha, hb => by
    rw [Nat.pow_succ] at ha hb
    unfold fw
    by_cases h : a / 10 = b / 10
    · rw [h, less_pre]
      show ((decide (UInt8.ofNat (48 + a % 10) < UInt8.ofNat (48 + b % 10))) || ((UInt8.ofNat (48 + a % 10) == UInt8.ofNat (48 + b % 10)) && false)) = _
      rw [Bool.and_false, Bool.or_false]
      apply decide_eq_decide.2
      rw [UInt8.lt_iff_toNat_lt, dig_toNat, dig_toNat]
      omega
    · rw [less_ne _ _ _ _ (by rw [fw_len, fw_len]) (fun z => h (fw_inj n _ _ (by omega) (by omega) z)), fw_less n (a / 10) (b / 10) (by omega) (by omega)]
      apply decide_eq_decide.2
      omega

/-- Numbers in so many digits each, a sign behind each. -/
def ctx : List (Nat × List UInt8) → List Int → List UInt8
  | (n, sp) :: ss, x :: xs => pad x n ++ (sp ++ ctx ss xs)
  | _, _ => []
def lex : List Int → List Int → Bool
  | x :: xs, y :: ys => if x = y then lex xs ys else decide (x < y)
  | _, _ => false
def fits : List (Nat × List UInt8) → List Int → Prop
  | (n, sp) :: ss, x :: xs => 1 ≤ n ∧ 0 ≤ x ∧ x < 10 ^ n ∧ fits ss xs
  | [], [] => True
  | _, _ => False
theorem pad_len {x : Int} {n : Nat} (h1 : 1 ≤ n) (h0 : 0 ≤ x) (hx : x < 10 ^ n) : (pad x n).length = n := by rw [pad_fw x n h1 h0 hx, fw_len]
theorem toNat_lt {x : Int} {n : Nat} (h0 : 0 ≤ x) (hx : x < 10 ^ n) : x.toNat < 10 ^ n := by
  obtain ⟨X, rfl⟩ := Int.eq_ofNat_of_zero_le h0
  have : ((X : Int)) < ((10 ^ n : Nat) : Int) := by simpa using hx
  rw [Int.toNat_natCast]
  omega
theorem pad_inj {x y : Int} {n : Nat} (h1 : 1 ≤ n) (h0 : 0 ≤ x) (hx : x < 10 ^ n) (k0 : 0 ≤ y) (ky : y < 10 ^ n) (h : pad x n = pad y n) : x = y := by
  rw [pad_fw x n h1 h0 hx, pad_fw y n h1 k0 ky] at h
  have := fw_inj n _ _ (toNat_lt h0 hx) (toNat_lt k0 ky) h
  omega
theorem ctx_less : ∀ (ss : List (Nat × List UInt8)) (xs ys : List Int), fits ss xs → fits ss ys → Op.bytesLess (ctx ss xs) (ctx ss ys) = lex xs ys ∧ (ctx ss xs = ctx ss ys → xs = ys)
  | [], [], [], _, _ => ⟨rfl, fun _ => rfl⟩
  | [], [], _ :: _, _, h => h.elim
  | [], _ :: _, _, h, _ => h.elim
  | (_, _) :: _, [], _, h, _ => h.elim
  | (_, _) :: _, _ :: _, [], _, h => h.elim
  | (n, sp) :: ss, x :: xs, y :: ys, ⟨h1, h0, hx, hs⟩, ⟨_, k0, ky, ks⟩ => by
    have ih := ctx_less ss xs ys hs ks
    unfold ctx lex
    by_cases e : x = y
    · subst e
      rw [if_pos rfl, less_pre, less_pre]
      refine ⟨ih.1, fun h => ?_⟩
      rw [ih.2 (List.append_cancel_left (List.append_cancel_left h))]
    · have hne : pad x n ≠ pad y n := fun z => e (pad_inj h1 h0 hx k0 ky z)
      rw [if_neg e, less_ne _ _ _ _ (by rw [pad_len h1 h0 hx, pad_len h1 k0 ky]) hne]
      refine ⟨?_, fun h => absurd (List.append_inj h (by rw [pad_len h1 h0 hx, pad_len h1 k0 ky])).1 hne⟩
      rw [pad_fw x n h1 h0 hx, pad_fw y n h1 k0 ky, fw_less n _ _ (toNat_lt h0 hx) (toNat_lt k0 ky)]
      apply decide_eq_decide.2
      omega
/-- The shape of a date's text. -/
def dsh : List (Nat × List UInt8) := [(4, [45]), (2, [45]), (2, [32]), (2, [58]), (2, [58]), (2, [])]
def six (w : Wh) : List Int := [w.y, w.mo, w.d, w.h, w.mi, w.s]
theorem dat_ctx (w : Wh) (h : w.mc = 0) : datT w 12 = ctx dsh (six w) := by
  unfold datT dayT minT dsh six
  rw [if_neg (by decide), if_pos h]
  simp [ctx]

end Go.Proofs.YtgldbainhncneaaGreatDoor

namespace Go.Proofs.YtgldbainhncneaaGreatDoor
open Go.RowKit
set_option linter.unusedVariables false
set_option linter.unusedSimpArgs false

theorem in_b {x m : Int} (h : inr x m = true) : 0 ≤ x ∧ x ≤ m := by
  unfold inr at h
  exact of_decide_eq_true h
theorem l2 {x : Int} (h : inr x 99 = true) : (pad x 2).length = 2 := pad_len (by decide) (in_b h).1 (by have := (in_b h).2; omega)
theorem in_up {x m n : Int} (h : inr x m = true) (hm : m ≤ n) : inr x n = true := by
  have := in_b h
  unfold inr
  exact decide_eq_true ⟨this.1, by omega⟩
theorem a2 {x : Int} (h : inr x 99 = true) (r : List UInt8) : nxA (pad x 2 ++ r) 2 = x := nxA_pad (n := 2) rfl (in_b h).1 (by have := (in_b h).2; omega) (l2 h) r
theorem a2e {x : Int} (h : inr x 99 = true) : nxA (pad x 2) 2 = x := nxA_end (n := 2) rfl (in_b h).1 (by have := (in_b h).2; omega) (l2 h)
theorem s2 {x : Int} (h : inr x 99 = true) (c : UInt8) (r : List UInt8) : nxS (pad x 2 ++ c :: r) 2 = r := nxS_pad (n := 2) rfl (l2 h) c r
theorem s2e {x : Int} (h : inr x 99 = true) : nxS (pad x 2) 2 = [] := nxS_end (n := 2) rfl (l2 h)
theorem min_back {w : Wh} (h1 : inr w.mi 59 = true) (h2 : inr w.s 59 = true) (h3 : inr w.mc 999999 = true) : nxA (minT w) 2 = w.mi ∧ nxA (nxS (minT w) 2) 2 = w.s ∧ nxA (nxS (nxS (minT w) 2) 2) 6 = w.mc := by
  have q1 := in_up h1 (show (59 : Int) ≤ 99 by decide)
  have q2 := in_up h2 (show (59 : Int) ≤ 99 by decide)
  have q3 := in_b h3
  unfold minT
  rw [List.singleton_append, a2 q1, s2 q1]
  refine ⟨rfl, ?_⟩
  by_cases hm : w.mc = 0
  · rw [if_pos hm, List.append_nil, a2e q2, s2e q2]
    exact ⟨rfl, by rw [nxA_nil (by decide), hm]⟩
  · rw [if_neg hm, List.singleton_append, a2 q2, s2 q2]
    exact ⟨rfl, nxA_end (n := 6) rfl q3.1 (by omega) (pad_len (by decide) q3.1 (by omega))⟩
theorem gsD_back {w : Wh} {t : Int} (h : dtOk w t = true) : gsD (datT w t) = w := by
  unfold dtOk clk at h
  simp only [Bool.and_eq_true] at h
  obtain ⟨h0, h1, h2, h3, h4, h5, h6, h7, h8⟩ := h
  have q3 := in_up h3 (show (12 : Int) ≤ 99 by decide)
  have q4 := in_up h4 (show (31 : Int) ≤ 99 by decide)
  have q5 := in_up h5 (show (23 : Int) ≤ 99 by decide)
  have q2 := in_b h2
  have ly : (pad w.y 4).length = 4 := pad_len (by decide) q2.1 (by omega)
  have ay : ∀ r, nxA (pad w.y 4 ++ r) 4 = w.y := fun r => nxA_pad (n := 4) rfl q2.1 (by omega) ly r
  have sy : ∀ c r, nxS (pad w.y 4 ++ c :: r) 4 = r := fun c r => nxS_pad (n := 4) rfl ly c r
  obtain ⟨m1, m2, m3⟩ := min_back h6 h7 h8
  unfold gsD datT dayT
  simp only [List.append_assoc, List.singleton_append, List.cons_append, List.nil_append]
  rw [ay, sy, a2 q3, s2 q3]
  by_cases ht : t = 10
  · rw [if_pos ht, List.append_nil, a2e q4, s2e q4, nxA_nil (by decide), nxS_nil (by decide), nxA_nil (by decide), nxS_nil (by decide), nxA_nil (by decide), nxS_nil (by decide), nxA_nil (by decide)]
    have hm : mid w = true := by
      rw [ht] at h0
      simpa using h0
    unfold mid at hm
    simp only [Bool.and_eq_true, beq_iff_eq] at hm
    obtain ⟨ng, y, mo, d, hh, mi, s, mc⟩ := w
    simp only at hm h1 ⊢
    obtain ⟨e1, e2, e3, e4⟩ := hm
    rw [e1, e2, e3, e4, show ng = false by simpa using h1]
  · rw [if_neg ht, a2 q4, s2 q4, a2 q5, s2 q5, m1, m2, m3]
    obtain ⟨ng, y, mo, d, hh, mi, s, mc⟩ := w
    simp only at h1 ⊢
    rw [show ng = false by simpa using h1]
theorem ix_58 (r : List UInt8) : ∀ l : List UInt8, (∀ c ∈ l, 48 ≤ c.toNat ∧ c.toNat ≤ 57) → Lib.indexByte (l ++ 58 :: r) 58 = (l.length : Int)
  | [], _ => by simp [Lib.indexByte]
  | c :: l, h => by
    have hc := h c (by simp)
    have ih := ix_58 r l (fun x hx => h x (by simp [hx]))
    rw [List.cons_append, Lib.indexByte, ih]
    have e : (c == 58) = false := by
      rw [beq_eq_false_iff_ne]
      intro he
      rw [he] at hc
      exact absurd hc.2 (by decide)
    rw [e, if_neg (by decide), if_neg (by first | (simp; done) | (simp; omega))]
    simp
theorem nxA_ln (l r : List UInt8) : nxA (l ++ r) (l.length : Int) = atV l := by
  unfold nxA
  rw [if_neg (by first | (simp; done) | (simp; omega)), Int.toNat_natCast, List.take_append_of_le_length (Nat.le_refl _), List.take_of_length_le (Nat.le_refl _)]
theorem nxS_ln (l : List UInt8) (c : UInt8) (r : List UInt8) : nxS (l ++ c :: r) (l.length : Int) = r := by
  unfold nxS
  rw [if_neg (by first | (simp; done) | (simp; omega)), Int.toNat_natCast, List.drop_append]
  simp
theorem gsT_back {w : Wh} (h : tmOk w = true) : gsT (timT w) = w := by
  unfold tmOk clk at h
  simp only [Bool.and_eq_true, beq_iff_eq] at h
  obtain ⟨h0, h1, h2, h3, h5, h6, h7, h8⟩ := h
  have q3 := in_b h3
  have q5 := in_b h5
  obtain ⟨m1, m2, m3⟩ := min_back h6 h7 h8
  have x0 : 0 ≤ 24 * w.d + w.h := by omega
  have dg := pad_dig x0 2
  have core : ∀ ng : Bool, (⟨ng, 0, 0, Int.tdiv (nxA (pad (24 * w.d + w.h) 2 ++ 58 :: minT w) (Lib.indexByte (pad (24 * w.d + w.h) 2 ++ 58 :: minT w) 58)) 24, Int.tmod (nxA (pad (24 * w.d + w.h) 2 ++ 58 :: minT w) (Lib.indexByte (pad (24 * w.d + w.h) 2 ++ 58 :: minT w) 58)) 24, nxA (nxS (pad (24 * w.d + w.h) 2 ++ 58 :: minT w) (Lib.indexByte (pad (24 * w.d + w.h) 2 ++ 58 :: minT w) 58)) 2, nxA (nxS (nxS (pad (24 * w.d + w.h) 2 ++ 58 :: minT w) (Lib.indexByte (pad (24 * w.d + w.h) 2 ++ 58 :: minT w) 58)) 2) 2, nxA (nxS (nxS (nxS (pad (24 * w.d + w.h) 2 ++ 58 :: minT w) (Lib.indexByte (pad (24 * w.d + w.h) 2 ++ 58 :: minT w) 58)) 2) 2) 6⟩ : Wh) = ⟨ng, 0, 0, w.d, w.h, w.mi, w.s, w.mc⟩ := by
    intro ng
    rw [ix_58 _ _ dg, nxA_ln, nxS_ln, m1, m2, m3, at_pad x0 (by omega), Int.tdiv_eq_ediv_of_nonneg x0, Int.tmod_eq_emod_of_nonneg x0, show (24 * w.d + w.h) / 24 = w.d by omega, show (24 * w.d + w.h) % 24 = w.h by omega]
  have hp : ∀ r, Lib.hasPrefix (pad (24 * w.d + w.h) 2 ++ r) [45] = false := by
    intro r
    have hn := pad_ne x0 2
    cases hl : pad (24 * w.d + w.h) 2 with
    | nil => exact absurd hl hn
    | cons c l =>
      have hc := dg c (by rw [hl]; simp)
      unfold Lib.hasPrefix
      rw [List.cons_append]
      simp only [List.isPrefixOf, Bool.and_true]
      rw [beq_eq_false_iff_ne]
      intro he
      rw [← he] at hc
      exact absurd hc.1 (by decide)
  unfold gsT timT
  obtain ⟨ng, y, mo, d, hh, mi, s, mc⟩ := w
  simp only at h1 h2
  subst h1
  subst h2
  cases ng
  · rw [if_neg (by simp), List.nil_append, List.singleton_append]
    have e : Lib.trimPrefix (pad (24 * d + hh) 2 ++ 58 :: minT ⟨false, 0, 0, d, hh, mi, s, mc⟩) [45] = pad (24 * d + hh) 2 ++ 58 :: minT ⟨false, 0, 0, d, hh, mi, s, mc⟩ := by
      unfold Lib.trimPrefix
      rw [hp, if_neg (by decide)]
    simp only [e, hp]
    exact core false
  · rw [if_pos rfl, List.singleton_append, List.singleton_append]
    have p : ∀ r : List UInt8, Lib.hasPrefix (45 :: r) [45] = true := fun r => by simp [Lib.hasPrefix, List.isPrefixOf]
    have e : ∀ r : List UInt8, Lib.trimPrefix (45 :: r) [45] = r := fun r => by
      unfold Lib.trimPrefix
      rw [p, if_pos rfl]
      rfl
    simp only [e, p]
    exact core true
theorem tb_dt (l : List UInt8) : (tb l).data.toList = l := by simp [tb]
theorem tb_back (s : ByteArray) : tb s.data.toList = s := rfl
theorem gs_back {v : Va} {t : Int} {un : Bool} (hv : VaK v) (h : tOk v t un = true) : gsV (tb (vaT v t)) t un = v := by
  unfold tOk vOk mb at h
  simp only [Bool.and_eq_true, Bool.or_eq_true, decide_eq_true_eq] at h
  obtain ⟨⟨hn, hm⟩, hh⟩ := h
  rcases hm with hm | ⟨hk, hf⟩
  · rw [hm] at hh; exact absurd hh (by decide)
  unfold gsV
  simp only [tb_dt, ← hk]
  unfold fit at hf
  by_cases k1 : v.k = 1
  · rw [if_pos k1] at hf ⊢
    simp only [Bool.and_eq_true, decide_eq_true_eq] at hf
    have e : vaT v t = Lib.itoa v.i := by unfold vaT; rw [if_pos k1]
    rw [e, pi_itoa hv.i]
    exact hf.1.symm
  rw [if_neg k1] at hf ⊢
  by_cases k2 : v.k = 2
  · rw [if_pos (Or.inl k2)] at hf
    rw [if_pos k2]
    simp only [Bool.and_eq_true, decide_eq_true_eq] at hf
    have e : vaT v t = Lib.itoa v.b := by unfold vaT; rw [if_neg k1, if_pos k2]
    rw [e, pu_itoa hv.b.1 hv.b.2]
    exact hf.1.symm
  rw [if_neg k2]
  by_cases k34 : v.k = 3 ∨ v.k = 4
  · rcases k34 with q | q <;> rw [q] at hh <;> exact absurd hh (by decide)
  rw [if_neg (by omega)] at hf
  by_cases k5 : v.k = 5
  · rw [if_pos k5] at hf ⊢
    simp only [Bool.and_eq_true, decide_eq_true_eq] at hf
    have e : vaT v t = datT v.w t := by unfold vaT; rw [if_neg k1, if_neg k2, if_pos k5]
    rw [e, gsD_back hf.2]
    exact hf.1.symm
  rw [if_neg k5] at hf ⊢
  by_cases k6 : v.k = 6
  · rw [if_pos k6] at hf ⊢
    simp only [Bool.and_eq_true, decide_eq_true_eq] at hf
    have e : vaT v t = timT v.w := by unfold vaT; rw [if_neg k1, if_neg k2, if_neg k5, if_pos k6]
    rw [e, gsT_back hf.2]
    exact hf.1.symm
  rw [if_neg k6] at hf ⊢
  by_cases k7 : v.k = 7
  · rw [if_pos k7] at hf ⊢
    simp only [Bool.and_eq_true, decide_eq_true_eq] at hf
    have e : vaT v t = v.t.data.toList := by unfold vaT; rw [if_neg k1, if_neg k2, if_neg k5, if_neg k6]
    rw [e, tb_back]
    exact hf.1.symm
  · rw [if_neg k7] at hf
    exact absurd hf (by decide)
theorem of_back {v : Va} {t : Int} {un : Bool} (hv : VaK v) (h : tOk v t un = true) : ofV (tb (vaT v t)) t un = (v, 0) := by
  have hg := gs_back hv h
  unfold tOk vOk mb at h
  simp only [Bool.and_eq_true, Bool.or_eq_true, decide_eq_true_eq] at h
  obtain ⟨⟨hn, hm⟩, hh⟩ := h
  rcases hm with hm | ⟨hk, hf⟩
  · rw [hm] at hh; exact absurd hh (by decide)
  unfold ofV
  rw [hg, ← hk, hh, if_neg (by decide), if_neg]
  intro hc
  rcases hc with hc | hc
  · unfold mb at hc
    simp [hk, hf] at hc
  · exact hc (tb_dt _).symm

end Go.Proofs.YtgldbainhncneaaGreatDoor
