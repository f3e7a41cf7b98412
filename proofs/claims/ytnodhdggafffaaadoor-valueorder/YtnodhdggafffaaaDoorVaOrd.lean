/-
  Texts of numbers in so many digits stand in the order of the numbers; texts of dates in the order of the dates. No program and no memory is named here.
-/
import Derived.Test.YtnodhdggafffaaaDoorVaTx
import Derived.Lib.ItoaLen
namespace Go.Proofs.YtnodhdggafffaaaDoor
open Go.RowKit
set_option linter.unusedVariables false
set_option linter.unusedSimpArgs false

/-- A number in n digits. -/
def fw : Nat → Nat → List UInt8
  | 0, _ => []
  | n + 1, x => fw n (x / 10) ++ [UInt8.ofNat (48 + x % 10)]
theorem fw_len : ∀ n x, (fw n x).length = n
  | 0, _ => rfl
  | n + 1, x => by simp [fw, fw_len n]
theorem fw_zero : ∀ n, fw n 0 = List.replicate n 48
  | 0 => rfl
  | n + 1 => by
    rw [fw, Nat.zero_div, fw_zero n, List.replicate_succ']
    rfl
theorem dec_len (x : Nat) : (Lib.decDigits x).length = Lib.nDigits x := Lib.decDigits_length x
theorem dec_fw : ∀ (n x : Nat), 1 ≤ n → x < 10 ^ n → List.replicate (n - (Lib.decDigits x).length) 48 ++ Lib.decDigits x = fw n x
  | 0, _, h, _ => by omega
  | n + 1, x, _, hx => by
    by_cases h : x < 10
    · rw [Lib.decDigits, dif_pos h, fw, show x / 10 = 0 by omega, fw_zero, show x % 10 = x by omega]
      simp
    · rw [Lib.decDigits, dif_neg h, fw]
      by_cases hn : n = 0
      · subst hn; simp at hx; omega
      · rw [← dec_fw n (x / 10) (by omega) (by rw [Nat.pow_succ] at hx; omega)]
        simp only [List.length_append, List.length_singleton, ← List.append_assoc]
        rw [show n + 1 - ((Lib.decDigits (x / 10)).length + 1) = n - (Lib.decDigits (x / 10)).length by omega]
theorem pad_fw (x : Int) (n : Nat) (h1 : 1 ≤ n) (h0 : 0 ≤ x) (hx : x < 10 ^ n) : pad x n = fw n x.toNat := by
  obtain ⟨X, rfl⟩ := Int.eq_ofNat_of_zero_le h0
  have hx2 : X < 10 ^ n := by
    have : ((X : Int)) < ((10 ^ n : Nat) : Int) := by simpa using hx
    omega
  unfold pad
  rw [Lib.itoa_nonneg]
  exact dec_fw n X h1 hx2
theorem less_pre : ∀ (p x y : List UInt8), Op.bytesLess (p ++ x) (p ++ y) = Op.bytesLess x y
  | [], _, _ => rfl
  | a :: p, x, y => by
    show ((decide (a < a)) || (a == a && Op.bytesLess (p ++ x) (p ++ y))) = _
    rw [less_pre p x y]
    simp
theorem less_ne : ∀ (p q x y : List UInt8), p.length = q.length → p ≠ q → Op.bytesLess (p ++ x) (q ++ y) = Op.bytesLess p q
  | [], [], _, _, _, h => absurd rfl h
  | [], _ :: _, _, _, h, _ => by simp at h
  | _ :: _, [], _, _, h, _ => by simp at h
  | a :: p, b :: q, x, y, hl, hne => by
    show ((decide (a < b)) || (a == b && Op.bytesLess (p ++ x) (q ++ y))) = ((decide (a < b)) || (a == b && Op.bytesLess p q))
    by_cases hab : a = b
    · subst hab
      rw [less_ne p q x y (by simpa using hl) (fun z => hne (by rw [z]))]
    · have : (a == b) = false := by simpa using hab
      rw [this]
      simp
theorem dig_toNat (x : Nat) : (UInt8.ofNat (48 + x % 10)).toNat = 48 + x % 10 := by
  simp only [UInt8.toNat_ofNat']
  omega
theorem dig_inj {a b : Nat} (h : UInt8.ofNat (48 + a % 10) = UInt8.ofNat (48 + b % 10)) : a % 10 = b % 10 := by
  have := congrArg UInt8.toNat h
  rw [dig_toNat, dig_toNat] at this
  omega
theorem fw_inj : ∀ (n a b : Nat), a < 10 ^ n → b < 10 ^ n → fw n a = fw n b → a = b
  | 0, a, b, ha, hb, _ => by simp at ha hb; omega
  | n + 1, a, b, ha, hb, h => by
    rw [Nat.pow_succ] at ha hb
    unfold fw at h
    obtain ⟨h1, h2⟩ := List.append_inj' h rfl
    have e1 := fw_inj n (a / 10) (b / 10) (by omega) (by omega) h1
    have e2 := dig_inj (List.cons.inj h2).1
    omega
theorem fw_less : ∀ (n a b : Nat), a < 10 ^ n → b < 10 ^ n → Op.bytesLess (fw n a) (fw n b) = decide (a < b)
  | 0, a, b, ha, hb => by
    have : ¬ a < b := by simp at ha hb; omega
    rw [decide_eq_false this]
    rfl
  | n + 1, a, b, ha, hb => by
    rw [Nat.pow_succ] at ha hb
    unfold fw
    by_cases h : a / 10 = b / 10
    · rw [h, less_pre]
      show ((decide (UInt8.ofNat (48 + a % 10) < UInt8.ofNat (48 + b % 10))) || ((UInt8.ofNat (48 + a % 10) == UInt8.ofNat (48 + b % 10)) && false)) = _
      rw [Bool.and_false, Bool.or_false]
      apply decide_eq_decide.2
      rw [UInt8.lt_iff_toNat_lt, dig_toNat, dig_toNat]
      omega
    · rw [less_ne _ _ _ _ (by rw [fw_len, fw_len]) (fun z => h (fw_inj n _ _ (by omega) (by omega) z)), fw_less n (a / 10) (b / 10) (by omega) (by omega)]
      apply decide_eq_decide.2
      omega

/-- Numbers in so many digits each, a sign behind each. -/
def ctx : List (Nat × List UInt8) → List Int → List UInt8
  | (n, sp) :: ss, x :: xs => pad x n ++ (sp ++ ctx ss xs)
  | _, _ => []
def lex : List Int → List Int → Bool
  | x :: xs, y :: ys => if x = y then lex xs ys else decide (x < y)
  | _, _ => false
def fits : List (Nat × List UInt8) → List Int → Prop
  | (n, sp) :: ss, x :: xs => 1 ≤ n ∧ 0 ≤ x ∧ x < 10 ^ n ∧ fits ss xs
  | [], [] => True
  | _, _ => False
theorem pad_len {x : Int} {n : Nat} (h1 : 1 ≤ n) (h0 : 0 ≤ x) (hx : x < 10 ^ n) : (pad x n).length = n := by rw [pad_fw x n h1 h0 hx, fw_len]
theorem toNat_lt {x : Int} {n : Nat} (h0 : 0 ≤ x) (hx : x < 10 ^ n) : x.toNat < 10 ^ n := by
  obtain ⟨X, rfl⟩ := Int.eq_ofNat_of_zero_le h0
  have : ((X : Int)) < ((10 ^ n : Nat) : Int) := by simpa using hx
  rw [Int.toNat_natCast]
  omega
theorem pad_inj {x y : Int} {n : Nat} (h1 : 1 ≤ n) (h0 : 0 ≤ x) (hx : x < 10 ^ n) (k0 : 0 ≤ y) (ky : y < 10 ^ n) (h : pad x n = pad y n) : x = y := by
  rw [pad_fw x n h1 h0 hx, pad_fw y n h1 k0 ky] at h
  have := fw_inj n _ _ (toNat_lt h0 hx) (toNat_lt k0 ky) h
  omega
theorem ctx_less : ∀ (ss : List (Nat × List UInt8)) (xs ys : List Int), fits ss xs → fits ss ys → Op.bytesLess (ctx ss xs) (ctx ss ys) = lex xs ys ∧ (ctx ss xs = ctx ss ys → xs = ys)
  | [], [], [], _, _ => ⟨rfl, fun _ => rfl⟩
  | [], [], _ :: _, _, h => h.elim
  | [], _ :: _, _, h, _ => h.elim
  | (_, _) :: _, [], _, h, _ => h.elim
  | (_, _) :: _, _ :: _, [], _, h => h.elim
  | (n, sp) :: ss, x :: xs, y :: ys, ⟨h1, h0, hx, hs⟩, ⟨_, k0, ky, ks⟩ => by
    have ih := ctx_less ss xs ys hs ks
    unfold ctx lex
    by_cases e : x = y
    · subst e
      rw [if_pos rfl, less_pre, less_pre]
      refine ⟨ih.1, fun h => ?_⟩
      rw [ih.2 (List.append_cancel_left (List.append_cancel_left h))]
    · have hne : pad x n ≠ pad y n := fun z => e (pad_inj h1 h0 hx k0 ky z)
      rw [if_neg e, less_ne _ _ _ _ (by rw [pad_len h1 h0 hx, pad_len h1 k0 ky]) hne]
      refine ⟨?_, fun h => absurd (List.append_inj h (by rw [pad_len h1 h0 hx, pad_len h1 k0 ky])).1 hne⟩
      rw [pad_fw x n h1 h0 hx, pad_fw y n h1 k0 ky, fw_less n _ _ (toNat_lt h0 hx) (toNat_lt k0 ky)]
      apply decide_eq_decide.2
      omega
/-- The shape of a date's text. -/
def dsh : List (Nat × List UInt8) := [(4, [45]), (2, [45]), (2, [32]), (2, [58]), (2, [58]), (2, [])]
def six (w : Wh) : List Int := [w.y, w.mo, w.d, w.h, w.mi, w.s]
theorem dat_ctx (w : Wh) (h : w.mc = 0) : datT w 12 = ctx dsh (six w) := by
  unfold datT dayT minT dsh six
  rw [if_neg (by decide), if_pos h]
  simp [ctx]

end Go.Proofs.YtnodhdggafffaaaDoor
