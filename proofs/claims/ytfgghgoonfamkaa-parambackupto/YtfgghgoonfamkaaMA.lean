/-
  Lists of numbers that are bytes. No program and no memory is named here.
  Plain facts on numbers written as bytes, lowest first, and read back: what is written in n bytes is read as the number, if it fits. No program and no memory is named here.
  Plain facts on numbers written as bytes, lowest first, and read back: what is written in n bytes is read as the number, if it fits. No program and no memory is named here.
  What a slice of bytes is in memory, for the walks: where its bytes lie, that it stays there while new memory is made, and what 'append' to a slice of the call's own leaves. Conditions: lengths below a bound that is far above every length the statements allow.
  What a walk asks of slices of bytes and of strings besides: making, appending where there is room, literals, conversions, slices that came in. Conditions: lengths below a bound that is far above every length the statements allow.
  What SameBytes of the statements' helpers returns for any bytes: whether they are the same. It writes nothing. Conditions: none but that the slices can be read.
  'b[i]' of bytes, and which blocks of memory a call may have changed. Conditions: none but that the slices can be read.
  Which blocks a call may have changed: those of a set; and what stays where its blocks stay; 'append' to a row of the call's own. Conditions: lengths below a bound that is far above every length the statements allow.
-/
import Derived.Laws.BitsAllLaws
import Derived.Laws.BytesArg
import Derived.IntWalk
import Derived.Test.YtfgghgoonfamkaaRows
import Derived.WalkKit
import Derived.WalkSpells
import Derived.WalkLawsBesides
import Derived.Laws.AppendOwnNone
import Derived.Lib.ConvBytes
import Derived.Lib.SlBytesConst
import Derived.OpenShut
import Derived.Lib.BytesEntry
import Derived.Maps.AppendAt
import Derived.Deep.WholeRow
import Derived.Laws.Rows
namespace Go.Proofs.Ytfgghgoonfamkaa

/-- Every number of the list is a byte's. -/
def Byt (bs : List Int) : Prop := ∀ x ∈ bs, 0 ≤ x ∧ x ≤ 255

theorem Byt.nil : Byt [] := by intro x hx; cases hx
theorem Byt.app {a b : List Int} (h : Byt a) (k : Byt b) : Byt (a ++ b) := by
  intro x hx
  rcases List.mem_append.1 hx with h1 | h1
  · exact h x h1
  · exact k x h1
theorem Byt.one {x : Int} (h0 : 0 ≤ x) (h1 : x ≤ 255) : Byt [x] := by
  intro y hy
  simp at hy
  omega
theorem Byt.cons {x : Int} {r : List Int} (h0 : 0 ≤ x) (h1 : x ≤ 255) (h : Byt r) : Byt (x :: r) := Byt.app (Byt.one h0 h1) h
theorem Byt.left {a b : List Int} (h : Byt (a ++ b)) : Byt a := fun x hx => h x (List.mem_append.2 (.inl hx))
theorem Byt.right {a b : List Int} (h : Byt (a ++ b)) : Byt b := fun x hx => h x (List.mem_append.2 (.inr hx))
theorem Byt.at {bs : List Int} (h : Byt bs) (i : Nat) : 0 ≤ bs[i]?.getD 0 ∧ bs[i]?.getD 0 ≤ 255 := by
  rcases Nat.lt_or_ge i bs.length with hi | hi
  · simp only [List.getElem?_eq_getElem hi, Option.getD_some]
    exact h _ (List.getElem_mem hi)
  · simp [List.getElem?_eq_none hi]
theorem Byt.drop {bs : List Int} (h : Byt bs) (n : Nat) : Byt (bs.drop n) := fun x hx => h x (List.mem_of_mem_drop hx)
theorem Byt.take {bs : List Int} (h : Byt bs) (n : Nat) : Byt (bs.take n) := fun x hx => h x (List.mem_of_mem_take hx)

end Go.Proofs.Ytfgghgoonfamkaa

namespace Go.Proofs.Ytfgghgoonfamkaa
set_option linter.unusedSimpArgs false

/-- The number of the first n bytes, the lowest first. -/
def val (bs : List Int) : Nat → Int
  | 0 => 0
  | n + 1 => val bs n + bs.getD n 0 * 2 ^ (8 * n)

theorem pow_pos8 (n : Nat) : (0 : Int) < 2 ^ (8 * n) := Int.pow_pos (by omega)
theorem pow_succ8 (n : Nat) : (2 : Int) ^ (8 * (n + 1)) = 256 * 2 ^ (8 * n) := by
  have : (2 : Int) ^ (8 * (n + 1)) = 2 ^ (8 * n) * 2 ^ 8 := by rw [← Int.pow_add]; rfl
  rw [this]; omega

theorem val_bounds {bs : List Int} (h : Byt bs) : ∀ n, 0 ≤ val bs n ∧ val bs n < 2 ^ (8 * n)
  | 0 => by simp [val]
  | n + 1 => by
    have ih := val_bounds h n
    have hb := h.at n
    have hp := pow_pos8 n
    have hg : bs.getD n 0 = bs[n]?.getD 0 := by simp
    rw [pow_succ8]
    simp only [val, hg]
    generalize bs[n]?.getD 0 = d at *
    generalize (2 : Int) ^ (8 * n) = p at *
    have h1 : 0 ≤ d * p := Int.mul_nonneg hb.1 (by omega)
    have h2 : d * p ≤ 255 * p := Int.mul_le_mul_of_nonneg_right hb.2 (by omega)
    omega

theorem val_append (a r : List Int) : ∀ n, n ≤ a.length → val (a ++ r) n = val a n
  | 0, _ => rfl
  | n + 1, h => by
    simp only [val]
    rw [val_append a r n (by omega)]
    have : (a ++ r).getD n 0 = a.getD n 0 := by
      simp only [List.getD_eq_getElem?_getD, List.getElem?_append_left (show n < a.length by omega)]
    rw [this]

theorem pow_le64 (m : Nat) (h : m ≤ 8) : (2 : Int) ^ (8 * m) ≤ 18446744073709551616 := by
  match m, h with
  | 0, _ | 1, _ | 2, _ | 3, _ | 4, _ | 5, _ | 6, _ | 7, _ | 8, _ => decide

/-- One step of reading: what is there, and the next byte above it. -/
theorem or_step {bs : List Int} (h : Byt bs) (m : Nat) (hm : m < 8) :
    bits BinOp.or IntKind.u64 (val bs m) (IntKind.u64.wrap (bs[m]?.getD 0 * 2 ^ (8 * m))) = val bs (m + 1) := by
  have hv := val_bounds h m
  have hv1 := val_bounds h (m + 1)
  have hb := h.at m
  have hp := pow_pos8 m
  have hp8 := pow_le64 (m + 1) (by omega)
  rw [pow_succ8] at hp8
  have hg : bs.getD m 0 = bs[m]?.getD 0 := by simp
  have hval : val bs (m + 1) = val bs m + bs[m]?.getD 0 * 2 ^ (8 * m) := by simp only [val, hg]
  generalize bs[m]?.getD 0 = d at *
  have h1 : 0 ≤ d * 2 ^ (8 * m) := Int.mul_nonneg hb.1 (by omega)
  have h2 : d * 2 ^ (8 * m) ≤ 255 * 2 ^ (8 * m) := Int.mul_le_mul_of_nonneg_right hb.2 (by omega)
  rw [IntKind.wrap_u64, Int.emod_eq_of_lt h1 (by omega), u64_or _ _ hv.1 (by omega) h1 (by omega), hval]
  obtain ⟨D, rfl⟩ := Int.eq_ofNat_of_zero_le hb.1
  generalize val bs m = v at *
  obtain ⟨V, rfl⟩ := Int.eq_ofNat_of_zero_le hv.1
  have e2 : ((D : Int) * 2 ^ (8 * m)) = ((D * 2 ^ (8 * m) : Nat) : Int) := by simp
  have e3 : (2 : Int) ^ (8 * m) = ((2 ^ (8 * m) : Nat) : Int) := by simp
  rw [e2]
  rw [e3] at hv
  have hV : V < 2 ^ (8 * m) := by omega
  rw [Int.toNat_natCast, Int.toNat_natCast, Nat.or_comm, nat_join (8 * m) (D * 2 ^ (8 * m)) V (by simp) hV]
  omega

/-- x in n bytes, the lowest first. -/
def le (x : Int) : Nat → List Int
  | 0 => []
  | n + 1 => le x n ++ [x / 2 ^ (8 * n) % 256]

theorem le_length (x : Int) : ∀ n, (le x n).length = n
  | 0 => rfl
  | n + 1 => by simp [le, le_length x n]

theorem le_byt (x : Int) : ∀ n, Byt (le x n)
  | 0 => Byt.nil
  | n + 1 => (le_byt x n).app (Byt.one (by omega) (by omega))

theorem emod_mul_step (x p : Int) (h0 : 0 ≤ x) (hp : 0 < p) : x % (256 * p) = x % p + x / p % 256 * p := by
  obtain ⟨X, rfl⟩ := Int.eq_ofNat_of_zero_le h0
  obtain ⟨P, rfl⟩ := Int.eq_ofNat_of_zero_le (Int.le_of_lt hp)
  have := Nat.mod_mul (a := P) (b := 256) (x := X)
  have e : ((X % (P * 256) : Nat) : Int) = ((X % P + P * (X / P % 256) : Nat) : Int) := by rw [this]
  have e2 : (X : Int) % (256 * (P : Int)) = ((X % (P * 256) : Nat) : Int) := by
    rw [Nat.mul_comm]; simp
  rw [e2, e]
  simp [Int.mul_comm]

theorem val_le (x : Int) (h0 : 0 ≤ x) (r : List Int) : ∀ n, val (le x n ++ r) n = x % 2 ^ (8 * n)
  | 0 => by simp [val]
  | n + 1 => by
    rw [val_append _ _ _ (by rw [le_length]; omega)]
    simp only [val, le]
    have h1 := val_le x h0 [x / 2 ^ (8 * n) % 256] n
    have h2 : (le x n ++ [x / 2 ^ (8 * n) % 256]).getD n 0 = x / 2 ^ (8 * n) % 256 := by
      simp [List.getD_eq_getElem?_getD, le_length]
    rw [h1, h2, pow_succ8, emod_mul_step x _ h0 (pow_pos8 n)]

theorem val_le_fits (x : Int) (h0 : 0 ≤ x) (r : List Int) (n : Nat) (h : x < 2 ^ (8 * n)) : val (le x n ++ r) n = x := by
  rw [val_le x h0 r n, Int.emod_eq_of_lt h0 h]

/-- One step of writing: the byte number m of x. -/
theorem shr_step (x : Int) (m : Nat) : IntKind.u8.wrap (x / 2 ^ (8 * m)) = x / 2 ^ (8 * m) % 256 := by rw [IntKind.wrap_u8']

/-- The result of ReadFixed: the number, the error. -/
def readFixed (bs : List Int) (k : Int) : Int × Int :=
  if ¬ (1 ≤ k ∧ k ≤ 8) then (0, 2) else if (bs.length : Int) < k then (0, 4) else (val bs k.toNat, 0)

end Go.Proofs.Ytfgghgoonfamkaa

namespace Go.Proofs.Ytfgghgoonfamkaa
set_option linter.unusedSimpArgs false

/-- How many bytes stand behind the first byte of a counted number. -/
def widthOf (c : Int) : Int := if c = 252 then 2 else if c = 253 then 3 else if c = 254 then 8 else 0

/-- The first byte of the shortest counted form. -/
def firstOf (x : Int) : Int := if x ≤ 250 then x else if x < 65536 then 252 else if x < 16777216 then 253 else 254

/-- The shortest counted form. -/
def form (x : Int) : List Int := firstOf x :: le x (widthOf (firstOf x)).toNat

theorem widthOf_cases (c : Int) : widthOf c = 0 ∨ widthOf c = 2 ∨ widthOf c = 3 ∨ widthOf c = 8 := by
  unfold widthOf; split <;> (try split) <;> (try split) <;> simp

theorem widthOf_small {c : Int} (h : c ≤ 250) : widthOf c = 0 := by
  unfold widthOf; rw [if_neg (by omega), if_neg (by omega), if_neg (by omega)]

theorem form_length (x : Int) : ((form x).length : Int) = 1 + widthOf (firstOf x) := by
  simp only [form, List.length_cons, le_length]
  have := widthOf_cases (firstOf x)
  omega

theorem firstOf_byt {x : Int} (h : 0 ≤ x) : 0 ≤ firstOf x ∧ firstOf x ≤ 255 := by
  unfold firstOf; split <;> (try split) <;> (try split) <;> omega

theorem form_byt {x : Int} (h : 0 ≤ x) : Byt (form x) := Byt.cons (firstOf_byt h).1 (firstOf_byt h).2 (le_byt _ _)

theorem form_length_le (x : Int) : (form x).length ≤ 9 := by
  have := form_length x
  have := widthOf_cases (firstOf x)
  omega

/-- The result of ReadInt: the number, how many bytes, the error. -/
def readInt : List Int → Int × Int × Int
  | [] => (0, 0, 4)
  | c :: r => if c ≤ 250 then (c, 1, 0) else if widthOf c = 0 then (0, 0, 5) else if (r.length : Int) < widthOf c then (0, 0, 4) else (val r (widthOf c).toNat, 1 + widthOf c, 0)

/-- What AppendFixed puts behind b. -/
def fixed (x k : Int) : Option (List Int) := if 1 ≤ k ∧ k ≤ 8 ∧ x < 2 ^ (8 * k.toNat) then some (le x k.toNat) else none

theorem readInt_small {c : Int} {r : List Int} (h : c ≤ 250) : readInt (c :: r) = (c, 1, 0) := by simp [readInt, h]

theorem readInt_bad {c : Int} {r : List Int} (h : ¬ c ≤ 250) (h2 : widthOf c = 0) : readInt (c :: r) = (0, 0, 5) := by simp [readInt, h, h2]

theorem readInt_short {c : Int} {r : List Int} (h : ¬ c ≤ 250) (h2 : widthOf c ≠ 0) (h3 : (r.length : Int) < widthOf c) : readInt (c :: r) = (0, 0, 4) := by simp [readInt, h, h2, h3]

theorem readInt_long {c : Int} {r : List Int} (h : ¬ c ≤ 250) (h2 : widthOf c ≠ 0) (h3 : ¬ (r.length : Int) < widthOf c) : readInt (c :: r) = (val r (widthOf c).toNat, 1 + widthOf c, 0) := by simp [readInt, h, h2, h3]

/-- What was written is read back, whatever stands behind it. -/
theorem readInt_form (x : Int) (h0 : 0 ≤ x) (h1 : x < 18446744073709551616) (r : List Int) : readInt (form x ++ r) = (x, ((form x).length : Int), 0) := by
  rw [form_length]
  unfold form
  rw [List.cons_append]
  by_cases a : x ≤ 250
  · have e : firstOf x = x := by simp [firstOf, a]
    rw [e, readInt_small a, widthOf_small a]; rfl
  · have key : ∀ c k : Int, firstOf x = c → widthOf c = k → 250 < c → 0 < k → x < 2 ^ (8 * k.toNat) → readInt (firstOf x :: (le x (widthOf (firstOf x)).toNat ++ r)) = (x, 1 + widthOf (firstOf x), 0) := by
      intro c k e1 e2 h3 h4 h5
      rw [e1, e2, readInt_long (by omega) (by omega) (by simp [le_length, e2]; omega), e2, val_le_fits x h0 r _ h5]
    by_cases b : x < 65536
    · exact key 252 2 (by simp [firstOf, a, b]) (by decide) (by omega) (by omega) (by simpa using b)
    · by_cases c : x < 16777216
      · exact key 253 3 (by simp [firstOf, a, b, c]) (by decide) (by omega) (by omega) (by simpa using c)
      · exact key 254 8 (by simp [firstOf, a, b, c]) (by decide) (by omega) (by omega) (by simpa using h1)

/-- Each first part of a form, ahead of its end, is too short. -/
theorem readInt_part (x : Int) (i : Nat) (h : i < (form x).length) : (readInt ((form x).take i)).2.2 = 4 := by
  have hl := form_length x
  cases i with
  | zero => simp [readInt]
  | succ i =>
    have hw := widthOf_cases (firstOf x)
    have h0 : widthOf (firstOf x) ≠ 0 := by omega
    have hb : ¬ firstOf x ≤ 250 := fun hh => h0 (widthOf_small hh)
    unfold form
    rw [List.take_succ_cons, readInt_short hb h0 (by simp [le_length]; omega)]

/-- What is read has its shortest form, which is no longer than what was read. -/
theorem readInt_shortest {bs : List Int} (h : Byt bs) {x n : Int} (e : readInt bs = (x, n, 0)) : 0 ≤ x ∧ x < 18446744073709551616 ∧ ((form x).length : Int) ≤ n ∧ n ≤ bs.length := by
  cases bs with
  | nil => simp [readInt] at e
  | cons c r =>
    have hc := h c (by simp)
    by_cases a : c ≤ 250
    · rw [readInt_small a] at e
      simp only [Prod.mk.injEq] at e
      obtain ⟨rfl, rfl, _⟩ := e
      have e1 : firstOf c = c := by simp [firstOf, a]
      rw [form_length, e1, widthOf_small a, List.length_cons]
      omega
    · by_cases b : widthOf c = 0
      · rw [readInt_bad a b] at e; simp at e
      · by_cases d : (r.length : Int) < widthOf c
        · rw [readInt_short a b d] at e; simp at e
        · rw [readInt_long a b d] at e
          simp only [Prod.mk.injEq] at e
          obtain ⟨e1, e2, _⟩ := e
          have hr : Byt r := fun y hy => h y (List.mem_cons_of_mem _ hy)
          have hv := val_bounds hr (widthOf c).toNat
          rw [e1] at hv
          rw [form_length, List.length_cons]
          have hw := widthOf_cases c
          have hf : widthOf (firstOf x) ≤ widthOf c ∧ x < 18446744073709551616 := by
            rcases hw with hw | hw | hw | hw
            · omega
            · rw [hw] at hv ⊢
              have hx : x < 65536 := by simpa using hv.2
              refine ⟨?_, by omega⟩
              by_cases hq : x ≤ 250
              · have : firstOf x = x := by simp [firstOf, hq]
                rw [this, widthOf_small hq]; omega
              · have : firstOf x = 252 := by simp [firstOf, hq, hx]
                rw [this]; decide
            · rw [hw] at hv ⊢
              have hx : x < 16777216 := by simpa using hv.2
              refine ⟨?_, by omega⟩
              by_cases hq : x ≤ 250
              · have : firstOf x = x := by simp [firstOf, hq]
                rw [this, widthOf_small hq]; omega
              · by_cases hq2 : x < 65536
                · have : firstOf x = 252 := by simp [firstOf, hq, hq2]
                  rw [this]; decide
                · have : firstOf x = 253 := by simp [firstOf, hq, hq2, hx]
                  rw [this]; decide
            · rw [hw] at hv ⊢
              have hx : x < 18446744073709551616 := by simpa using hv.2
              have := widthOf_cases (firstOf x)
              exact ⟨by omega, hx⟩
          omega

theorem readInt_err {bs : List Int} {x n e : Int} (h : readInt bs = (x, n, e)) (he : e ≠ 0) : x = 0 ∧ n = 0 := by
  cases bs with
  | nil => simp [readInt] at h; omega
  | cons c r =>
    by_cases a : c ≤ 250
    · rw [readInt_small a] at h; simp at h; omega
    · by_cases b : widthOf c = 0
      · rw [readInt_bad a b] at h; simp at h; omega
      · by_cases d : (r.length : Int) < widthOf c
        · rw [readInt_short a b d] at h; simp at h; omega
        · rw [readInt_long a b d] at h; simp at h; omega

end Go.Proofs.Ytfgghgoonfamkaa

namespace Go.Proofs.Ytfgghgoonfamkaa
open Go.RowKit
set_option linter.unusedVariables false

theorem hide {p : Prop} (h : p) : Hid p := h
theorem unhide {p : Prop} (h : Hid p) : p := h

theorem Try.infoByte : (Try.prog.info? 5).map (fun i => (i.zero, i.size, i.bytes)) = some (some (.int .u8 0), 1, 1) := by kernel_rfl

/-- The slice 'ao, n, c' holds the bytes bs. -/
structure Bs (w : World) (ao : Option Addr) (n c : Nat) (bs : List Int) : Prop where
  len : bs.length = n
  le : n ≤ c
  max : c ≤ 9223372036854775807
  nil : ao = none → c = 0
  byt : Byt bs
  at' : n = 0 ∨ ∃ b off, ao = some ⟨b, off, none⟩ ∧ ∀ i, i < n → w.cell? ⟨b, off + i, none⟩ = some (.int .u8 (bs.getD i 0))

theorem Bs.nought (w : World) : Bs w .none 0 0 [] := ⟨rfl, Nat.le_refl _, by omega, fun _ => rfl, Byt.nil, .inl rfl⟩

/-- It stays while only new memory is written. -/
theorem Bs.later {w w' : World} {ao : Option Addr} {n c : Nat} {bs : List Int} (h : Bs w ao n c bs) (hb : Below w.heap.size w w') : Bs w' ao n c bs := by
  refine ⟨h.len, h.le, h.max, h.nil, h.byt, ?_⟩
  rcases h.at' with h0 | ⟨b, off, e, hc⟩
  · exact .inl h0
  · exact .inr ⟨b, off, e, fun i hi => cell_later hb (hc i hi)⟩

/-- The bytes bs in a row of the call's own, from block B on. -/
structure Mine (B : Nat) (w : World) (ao : Option Addr) (n c : Nat) (bs : List Int) : Prop where
  len : bs.length = n
  own : w.ownsRow B 5 1 (.slice ao n c) n (bs.map (Value.int .u8))
  byt : Byt bs

theorem Mine.nought (B : Nat) (w : World) : Mine B w .none 0 0 [] := ⟨rfl, World.ownsRow_nil _ _ _ _, Byt.nil⟩

theorem Mine.bs {B : Nat} {w : World} {ao : Option Addr} {n c : Nat} {bs : List Int} (h : Mine B w ao n c bs) : Bs w ao n c bs := by
  have hl := h.len
  rcases h.own.2 with ⟨hv, h0⟩ | ⟨g, cap, cur, hv, hg, hh, hle, hmax, hsz, htake⟩
  · simp only [Value.slice.injEq] at hv
    obtain ⟨rfl, rfl, rfl⟩ := hv
    exact ⟨h.len, Nat.le_refl _, by omega, fun _ => rfl, h.byt, .inl rfl⟩
  · simp only [Value.slice.injEq] at hv
    obtain ⟨rfl, _, rfl⟩ := hv
    refine ⟨h.len, hle, by unfold maxLen at hmax; omega, (fun hq => by cases hq), h.byt, .inr ⟨g, 0, rfl, fun i hi => ?_⟩⟩
    have := h.own.cells (g := g) rfl i (.int .u8 (bs.getD i 0)) (by simp [List.getElem?_eq_getElem (show i < bs.length by omega)])
    rw [Addr.add_lit] at this
    exact this

theorem Mine.mono {B B' : Nat} {w : World} {ao : Option Addr} {n c : Nat} {bs : List Int} (h : Mine B w ao n c bs) (hB : B' ≤ B) : Mine B' w ao n c bs := by
  refine ⟨h.len, ⟨h.own.1, ?_⟩, h.byt⟩
  rcases h.own.2 with hv | ⟨g, cap, cur, hv, hg, r⟩
  · exact .inl hv
  · exact .inr ⟨g, cap, cur, hv, by omega, r⟩

theorem Mine.later {B : Nat} {w w' : World} {ao : Option Addr} {n c : Nat} {bs : List Int} (h : Mine B w ao n c bs) (hb : Below w.heap.size w w') : Mine B w' ao n c bs := by
  refine ⟨h.len, ⟨h.own.1, ?_⟩, h.byt⟩
  rcases h.own.2 with hv | ⟨g, cap, cur, hv, hg, hh, r⟩
  · exact .inl hv
  · exact .inr ⟨g, cap, cur, hv, hg, by rw [hb.block g (Array.getElem?_eq_some_iff.1 hh).1]; exact hh, r⟩

/-- The cells of a slice, as 'append' asks for them. -/
theorem Bs.news {w : World} {ad : Addr} {n c : Nat} {bs : List Int} (h : Bs w (some ad) n c bs) : ∀ j u, (bs.map (Value.int .u8))[j]? = some u → w.cell? (ad.add j) = some u := by
  intro j u hu
  have hj : j < bs.length := by
    have := (List.getElem?_eq_some_iff.1 hu).1
    simpa using this
  rcases h.at' with h0 | ⟨b, off, e, hc⟩
  · have := h.len; omega
  · obtain rfl := Option.some.inj e
    have := hc j (by have := h.len; omega)
    rw [Addr.add_lit, this]
    simp [List.getElem?_eq_getElem hj] at hu
    simp [hu, List.getElem?_eq_getElem hj]

/-- 'append(out, xs...)', out of the call's own. -/
theorem wpList_app {ops : Array Oper} {rest : List Oper} {o : Oper} {a : Act} {w : World} {Q : Exit → Act → World → Prop} (hgd : o.guard = none) (s x : Operand)
    (ho : o.op = .call { callee := .builtin .append, args := #[s, x], argTypes := #[22, 22] })
    (B : Nat) (ao : Option Addr) (n c : Nat) (bs : List Int) (hs : a.eval s = .slice ao n c) (hm : Mine B w ao n c bs)
    (ao' : Option Addr) (m c' : Nat) (cs : List Int) (hx : a.eval x = .slice ao' m c') (hb : Bs w ao' m c' cs) (hbound : n + m ≤ 140737488355328) (hB : B ≤ w.heap.size)
    (h : ∀ ao1 c1 w1, Mine B w1 ao1 (n + m) c1 (bs ++ cs) → Below B w w1 → wpList Try.prog ops Q rest (a.put o.dst (.slice ao1 (n + m) c1)) w1) :
    wpList Try.prog ops Q (o :: rest) a w := by
  obtain ⟨i0, hi, hz0, hz1, hz2⟩ := info_parts Try.infoByte
  have hlen := hm.len
  have hlen' := hb.len
  cases ao' with
  | none =>
    have hc' := hb.nil rfl
    have hm0 : m = 0 := by have := hb.le; omega
    subst hm0
    subst hc'
    have hcs : cs = [] := List.eq_nil_of_length_eq_zero hlen'
    subst hcs
    refine wpList_append_own_none hgd s x 22 ho B 5 i0 1 Try.underlying22 hi _ _ _ hs hm.own hx ?_
    exact h ao c w (by simpa using hm) (Below.refl _ _)
  | some ad =>
    refine wpList_append_own w hgd s x 22 ho B 5 i0 (.int .u8 0) 1 1 Try.underlying22 hi hz0 hz1 hz2 rfl (by decide) _ _ _ hs hm.own ad m c' (cs.map (Value.int .u8)) hx (by simp [hlen']) hb.news (ints_oneCell _ _) (by unfold maxLen; omega) (by omega) hB ?_
    intro v' w' hown hgrow _
    rw [← List.map_append] at hown
    have hbel : Below B w w' := (Below.refl B w).grown hgrow hB (fun k hk => (hm.own.lt k hk).1)
    have hex : ∃ ao1 c1, v' = .slice ao1 (n + m) c1 := by
      rcases hown.2 with ⟨hv, h0⟩ | ⟨g, cap, cur, hv, _⟩
      · exact ⟨.none, 0, by rw [hv, h0]⟩
      · exact ⟨_, _, hv⟩
    obtain ⟨ao1, c1, hv⟩ := hex
    subst hv
    exact h ao1 c1 w' ⟨by simp [hlen, hlen'], hown, hm.byt.app hb.byt⟩ hbel

/-- The address of 's[lo:..]'. -/
def cutAt (ao : Option Addr) (c lo : Nat) : Option Addr := if c = lo then ao else ao.map (·.add (lo * 1))

/-- A piece of a slice is a slice. -/
theorem Bs.cut {w : World} {ao : Option Addr} {n c : Nat} {bs : List Int} (h : Bs w ao n c bs) {lo hi : Nat} (h1 : lo ≤ hi) (h2 : hi ≤ n) : Bs w (cutAt ao c lo) (hi - lo) (c - lo) ((bs.drop lo).take (hi - lo)) := by
  have hl := h.len
  have hle := h.le
  refine ⟨by simp [hl]; omega, by omega, by have := h.max; omega, fun e => ?_, (h.byt.drop lo).take _, ?_⟩
  · have : ao = none := by
      unfold cutAt at e
      split at e
      · exact e
      · simpa using e
    have := h.nil this
    omega
  · by_cases hz : hi - lo = 0
    · exact .inl hz
    · right
      rcases h.at' with h0 | ⟨b, off, rfl, hc⟩
      · omega
      · refine ⟨b, off + lo, by unfold cutAt; rw [if_neg (by omega)]; simp [Addr.add_lit], fun i hi => ?_⟩
        have := hc (lo + i) (by omega)
        rw [Nat.add_assoc, this]
        simp [hi]

theorem Try.sizeByte (w : World) : (sizeOf (Try.prog.elem 22)).run Try.prog w = .ok 1 w := by kernel_rfl
theorem Try.elemBytes : Try.prog.underlying 22 = some (.slice (Try.prog.elem 22)) := by kernel_rfl

theorem run_cut_lh (ao : Option Addr) (n c lo hi : Nat) (h1 : lo ≤ hi) (h2 : hi ≤ c) (L H : Int) (hL : L = lo) (hH : H = hi) (w : World) :
    (Instr.slice 22 (.slice ao n c) (some (.int .i64 L)) (some (.int .i64 H)) none).run Try.prog w = .ok (.slice (cutAt ao c lo) (hi - lo) (c - lo)) w := by
  subst hL hH
  rw [run_slice_lh w 22 ao n c Try.elemBytes .i64 .i64 lo hi (by omega) (by omega) (by omega), Try.sizeByte]
  rfl
theorem run_cut_h (ao : Option Addr) (n c hi : Nat) (h2 : hi ≤ c) (H : Int) (hH : H = hi) (w : World) :
    (Instr.slice 22 (.slice ao n c) none (some (.int .i64 H)) none).run Try.prog w = .ok (.slice (cutAt ao c 0) (hi - 0) (c - 0)) w := by
  subst hH
  rw [run_slice_h w 22 ao n c Try.elemBytes .i64 hi (by omega) (by omega), Try.sizeByte]
  rfl
theorem run_cut_l (ao : Option Addr) (n c lo : Nat) (h1 : lo ≤ n) (L : Int) (hL : L = lo) (w : World) :
    (Instr.slice 22 (.slice ao n c) (some (.int .i64 L)) none none).run Try.prog w = .ok (.slice (cutAt ao c lo) (n - lo) (c - lo)) w := by
  subst hL
  rw [run_slice_l w 22 ao n c Try.elemBytes .i64 lo (by omega) (by omega), Try.sizeByte]
  rfl

/-- 's[lo:hi]' for the walk: a new value of which its bytes are known. -/
theorem Bs.cut_lh {w : World} {ao : Option Addr} {n c : Nat} {bs : List Int} (h : Bs w ao n c bs) {lo hi : Nat} (h1 : lo ≤ hi) (h2 : hi ≤ n) (L H : Int) (hL : L = lo) (hH : H = hi) :
    ∃ ao' c', (∀ wx, (Instr.slice 22 (.slice ao n c) (some (.int .i64 L)) (some (.int .i64 H)) none).run Try.prog wx = .ok (.slice ao' (hi - lo) c') wx) ∧ Bs w ao' (hi - lo) c' ((bs.drop lo).take (hi - lo)) :=
  ⟨_, _, run_cut_lh ao n c lo hi h1 (by have := h.le; omega) L H hL hH, h.cut h1 h2⟩
theorem Bs.cut_h {w : World} {ao : Option Addr} {n c : Nat} {bs : List Int} (h : Bs w ao n c bs) {hi : Nat} (h2 : hi ≤ n) (H : Int) (hH : H = hi) :
    ∃ ao' c', (∀ wx, (Instr.slice 22 (.slice ao n c) none (some (.int .i64 H)) none).run Try.prog wx = .ok (.slice ao' hi c') wx) ∧ Bs w ao' hi c' (bs.take hi) :=
  ⟨_, _, run_cut_h ao n c hi (by have := h.le; omega) H hH, by simpa using h.cut (Nat.zero_le hi) h2⟩
theorem Bs.cut_l {w : World} {ao : Option Addr} {n c : Nat} {bs : List Int} (h : Bs w ao n c bs) {lo : Nat} (h1 : lo ≤ n) (L : Int) (hL : L = lo) :
    ∃ ao' c', (∀ wx, (Instr.slice 22 (.slice ao n c) (some (.int .i64 L)) none none).run Try.prog wx = .ok (.slice ao' (n - lo) c') wx) ∧ Bs w ao' (n - lo) c' (bs.drop lo) :=
  ⟨_, _, run_cut_l ao n c lo h1 L hL, by have := h.cut h1 (Nat.le_refl n); rwa [List.take_of_length_le (by simp [h.len])] at this⟩

end Go.Proofs.Ytfgghgoonfamkaa

namespace Go.Proofs.Ytfgghgoonfamkaa
open Go.RowKit
set_option linter.unusedVariables false
set_option linter.unusedSimpArgs false

/-- 'make([]byte, 0, n)'. -/
theorem wpList_mk {ops : Array Oper} {rest : List Oper} {o : Oper} {a : Act} {w : World} {Q : Exit → Act → World → Prop} (hgd : o.guard = none) (l c : Operand)
    (ho : o.op = Op.makeSlice 22 l c) (kl kc : IntKind) (C : Int) (n : Nat) (hl : a.eval l = .int kl 0) (hc : a.eval c = .int kc C) (hC : C = (n : Int)) (hbound : n ≤ 140737488355328)
    (h : ∀ w1, Mine w.heap.size w1 (some ⟨w.heap.size, 0, none⟩) 0 n [] → Below w.heap.size w w1 → w.heap.size < w1.heap.size → wpList Try.prog ops Q rest (a.put o.dst (.slice (some ⟨w.heap.size, 0, none⟩) 0 n)) w1) :
    wpList Try.prog ops Q (o :: rest) a w := by
  obtain ⟨i0, hi, hz0, hz1, hz2⟩ := info_parts Try.infoByte
  refine wpList_make_own w hgd l c 22 ho w.heap.size 5 i0 (.int .u8 0) 1 Try.underlying22 hi hz0 hz1 kl kc C n hl hc hC (by rw [hz2]; omega) (by unfold maxLen; omega) (Nat.le_refl _) ?_
  intro w1 hown hgrow
  have hm : Mine w.heap.size w1 (some ⟨w.heap.size, 0, none⟩) 0 n [] := ⟨rfl, hown, Byt.nil⟩
  have hlt : w.heap.size < w1.heap.size := (hown.lt w.heap.size rfl).2
  exact h w1 hm ((Below.refl _ w).grown hgrow (Nat.le_refl _) (fun k hk => by cases hk)) hlt

/-- 'make([]byte, n)'. -/
theorem wpList_mkFull {ops : Array Oper} {rest : List Oper} {o : Oper} {a : Act} {w : World} {Q : Exit → Act → World → Prop} (hgd : o.guard = none) (l c : Operand)
    (ho : o.op = Op.makeSlice 22 l c) (kl kc : IntKind) (L C : Int) (n : Nat) (hl : a.eval l = .int kl L) (hc : a.eval c = .int kc C) (hL : L = (n : Int)) (hC : C = (n : Int)) (hbound : n ≤ 140737488355328)
    (h : ∀ w1, Mine w.heap.size w1 (some ⟨w.heap.size, 0, none⟩) n n (List.replicate n 0) → Below w.heap.size w w1 → w.heap.size < w1.heap.size → wpList Try.prog ops Q rest (a.put o.dst (.slice (some ⟨w.heap.size, 0, none⟩) n n)) w1) :
    wpList Try.prog ops Q (o :: rest) a w := by
  obtain ⟨i0, hi, hz0, hz1, hz2⟩ := info_parts Try.infoByte
  refine wpList_make_full w hgd l c 22 ho w.heap.size 5 i0 (.int .u8 0) 1 Try.underlying22 hi hz0 hz1 kl kc L C n hl hc hL hC (by rw [hz2]; omega) (by unfold maxLen; omega) (Nat.le_refl _) ?_
  intro w1 hown hgrow
  rw [show (Value.int IntKind.u8 0).cells = #[Value.int IntKind.u8 0] from rfl, toList_madeCells_one, Nat.mul_one, ← List.map_replicate] at hown
  have hm : Mine w.heap.size w1 (some ⟨w.heap.size, 0, none⟩) n n (List.replicate n 0) := ⟨by simp, hown, fun x hx => by have := List.eq_of_mem_replicate hx; omega⟩
  have hlt : w.heap.size < w1.heap.size := (hown.lt w.heap.size rfl).2
  exact h w1 hm ((Below.refl _ w).grown hgrow (Nat.le_refl _) (fun k hk => by cases hk)) hlt

/-- A new block is above all that was there. -/
theorem below_alloc (w : World) (o : Obj) : Below w.heap.size w (w.alloc o) := (Below.refl _ _).alloc (Nat.le_refl _) o

/-- The slice of one byte that 'append(out, b)' lays first. -/
theorem Bs.one (w : World) (v : Int) (h0 : 0 ≤ v) (h1 : v ≤ 255) : Bs (w.alloc (.cells #[.int .u8 v] 5)) (some ⟨w.heap.size, 0, none⟩) 1 1 [v] := by
  refine ⟨rfl, Nat.le_refl _, by omega, (fun e => by cases e), Byt.one h0 h1, .inr ⟨w.heap.size, 0, rfl, fun i hi => ?_⟩⟩
  have : i = 0 := by omega
  subst this
  simp

def nums (s : ByteArray) : List Int := s.data.toList.map fun b => (b.toNat : Int)

theorem nums_length (s : ByteArray) : (nums s).length = s.size := by simp [nums]
theorem nums_byt (s : ByteArray) : Byt (nums s) := by
  intro x hx
  obtain ⟨b, _, rfl⟩ := List.mem_map.1 hx
  have := b.toNat_lt
  omega

theorem below_bytesWorld (w : World) (e : TypeId) (s : ByteArray) : Below w.heap.size w (Lib.bytesWorld w e s) :=
  ⟨rfl, rfl, rfl, by rw [Lib.bytesWorld_size]; omega, fun k hk => Lib.bytesWorld_at_old w e s k hk⟩

theorem bs_bytesWorld (w : World) (s : ByteArray) (hs : s.size ≤ 140737488355328) : Bs (Lib.bytesWorld w 5 s) (some ⟨w.heap.size, 0, none⟩) s.size (grownCap w s.size 0 5) (nums s) := by
  have hm := grownCap_le_maxLen w s.size 0 5 (by unfold maxLen; omega)
  unfold maxLen at hm
  refine ⟨nums_length s, grownCap_ge _ _ _ _, hm, (fun e => by cases e), nums_byt s, .inr ⟨w.heap.size, 0, rfl, fun i hi => ?_⟩⟩
  rw [Nat.zero_add, Lib.bytesWorld_cell w 5 s i hi]
  congr 2
  simp [nums, hi]

/-- '[]byte(s)', for the walk. -/
theorem run_toBytes (s : ByteArray) (w : World) : (convert 9 22 (.string s)).run Try.prog w = .ok (.slice (some ⟨w.heap.size, 0, none⟩) s.size (grownCap w s.size 0 5)) (Lib.bytesWorld w 5 s) :=
  Lib.run_convert_string_bytes (P := Try.prog) w 9 22 5 s Try.underlying9 Try.underlying22 Try.underlying5

/-- 'append' where there is room: the value is known. -/
theorem wpList_appFits {ops : Array Oper} {rest : List Oper} {o : Oper} {a : Act} {w : World} {Q : Exit → Act → World → Prop} (hgd : o.guard = none) (s x : Operand)
    (ho : o.op = .call { callee := .builtin .append, args := #[s, x], argTypes := #[22, 22] })
    (B g n c : Nat) (bs : List Int) (hs : a.eval s = .slice (some ⟨g, 0, none⟩) n c) (hm : Mine B w (some ⟨g, 0, none⟩) n c bs)
    (ao' : Option Addr) (m c' : Nat) (cs : List Int) (hx : a.eval x = .slice ao' m c') (hb : Bs w ao' m c' cs) (hroom : n + m ≤ c) (hB : B ≤ w.heap.size)
    (h : ∀ w1, Mine B w1 (some ⟨g, 0, none⟩) (n + m) c (bs ++ cs) → Below B w w1 → wpList Try.prog ops Q rest (a.put o.dst (.slice (some ⟨g, 0, none⟩) (n + m) c)) w1) :
    wpList Try.prog ops Q (o :: rest) a w := by
  obtain ⟨i0, hi, hz0, hz1, hz2⟩ := info_parts Try.infoByte
  have hlen := hm.len
  have hlen' := hb.len
  refine wpList_append_fits_any w hgd s x 22 ho B 5 i0 1 Try.underlying22 hi hz1 g n c _ hs hm.own ao' m c' (cs.map (Value.int .u8)) hx (by simp [hlen'])
    (fun e => by have := hb.nil e; have := hb.le; omega) (fun ad e => by subst e; exact hb.news) (ints_oneCell _ _) hroom ?_
  intro w1 hown hgrow
  rw [← List.map_append] at hown
  exact h w1 ⟨by simp [hlen, hlen'], hown, hm.byt.app hb.byt⟩ ((Below.refl B w).grown hgrow hB (fun k hk => (hm.own.lt k hk).1))

/-- A first part of a slice, its room kept. -/
theorem Bs.pre {w : World} {ao : Option Addr} {n m c : Nat} {bs cs : List Int} (h : Bs w ao (n + m) c (bs ++ cs)) (hn : bs.length = n) : Bs w ao n c bs := by
  refine ⟨hn, by have := h.le; omega, h.max, h.nil, h.byt.left, ?_⟩
  by_cases h0 : n = 0
  · exact .inl h0
  · rcases h.at' with hz | ⟨b, off, e, hc⟩
    · omega
    · refine .inr ⟨b, off, e, fun i hi => ?_⟩
      rw [hc i (by omega)]
      simp [List.getElem?_append_left (show i < bs.length by omega)]

/-- A slice that is written out in the program's text. -/
theorem Bs.lit (w : World) (l : List Int) (h : Byt l) (hl : l.length ≤ 1000) : Bs (w.alloc (.cells (l.map (Value.int .u8)).toArray 5)) (some ⟨w.heap.size, 0, none⟩) l.length l.length l := by
  refine ⟨rfl, Nat.le_refl _, by omega, (fun e => by cases e), h, .inr ⟨w.heap.size, 0, rfl, fun i hi => ?_⟩⟩
  rw [Nat.zero_add]
  simp [hi]

/-- A slice of bytes that came in. -/
theorem bs_of_row {w : World} {a : Option Addr} {len cap : Nat} {zs : List Int} (h : (a = none ∧ len = 0 ∧ cap = 0 ∧ zs = []) ∨
  ∃ x, a = some x ∧ len ≤ cap ∧ cap ≤ maxLen ∧ zs.length = cap ∧ (∀ i, i < zs.length → w.cell? (x.add i) = some (.int .u8 (zs.getD i 0))) ∧ ∀ n ∈ zs, (Lit.int .u8 n).wf = true) : Bs w a len cap (zs.take len) := by
  rcases h with ⟨rfl, rfl, rfl, rfl⟩ | ⟨x, rfl, hl, hm, hz, hc, hw⟩
  · exact Bs.nought w
  · unfold maxLen at hm
    refine ⟨by simp; omega, hl, by omega, (fun e => by cases e), fun y hy => ?_, ?_⟩
    · have := bounds_u8 (hw y (List.mem_of_mem_take hy))
      omega
    · by_cases h0 : len = 0
      · exact .inl h0
      · right
        obtain ⟨b, off, spot⟩ := x
        have h1 := hc 0 (by omega)
        have hspot : spot = none := by simpa [Addr.add] using World.cell?_spot h1
        subst hspot
        refine ⟨b, off, rfl, fun i hi => ?_⟩
        have := hc i (by omega)
        rw [Addr.add_lit] at this
        rw [this]
        simp [hi]

/-- A call that leaves the world as it was. -/
theorem same_world {P : Program} {f : Nat} {args : Array Value} {w : World} {e0 : Ending} {Q : Ending → World → Prop} (h : Calls P f args w fun e w' => e = e0 ∧ w' = w) (hq : Q e0 w) : Calls P f args w Q := by
  refine h.mono ?_
  rintro e w' ⟨rfl, rfl⟩
  exact hq

theorem cell_top (w : World) (C : Array Value) (t : TypeId) (j b : Nat) (hb : b = w.heap.size) : (w.alloc (.cells C t)).cell? ⟨b, j, none⟩ = C[j]? := by
  subst hb
  exact World.cell?_alloc_mark w C t (0, 0) j
theorem cell_under (w : World) (o : Obj) (b j : Nat) (h : b < w.heap.size) : (w.alloc o).cell? ⟨b, j, none⟩ = w.cell? ⟨b, j, none⟩ := (below_alloc w o).cell (p := ⟨b, j, none⟩) h

theorem tup2 {k l : IntKind} {a b a' b' : Int} (h : a = a') (h2 : b = b') : Ending.returned (.tuple #[.int k a, .int l b]) = .returned (.tuple #[.int k a', .int l b']) := by rw [h, h2]

/-- '[]byte{}'. -/
theorem Mine.empty (w : World) : Mine w.heap.size (w.alloc (.cells #[] 5)) (some ⟨w.heap.size, 0, none⟩) 0 0 [] :=
  ⟨rfl, World.ownsRow_made w #[] 0 (Nat.le_refl _) (by unfold maxLen; omega) rfl, Byt.nil⟩

/-- 'out[i] = v', out of the call's own. -/
theorem Mine.stored {B : Nat} {w : World} {g n c : Nat} {bs : List Int} (h : Mine B w (some ⟨g, 0, none⟩) n c bs) (i : Nat) (v : Int) (h0 : 0 ≤ v) (h1 : v ≤ 255) : Mine B (w.setCell ⟨g, i, none⟩ (.int .u8 v)) (some ⟨g, 0, none⟩) n c (bs.set i v) := by
  refine ⟨by simp [h.len], ?_, fun x hx => ?_⟩
  · rw [List.map_set]
    exact (h.own.stored i _).1
  · rcases List.mem_or_eq_of_mem_set hx with hh | hh
    · exact h.byt x hh
    · omega

theorem Mine.free {B : Nat} {w : World} {g n c : Nat} {bs : List Int} (h : Mine B w (some ⟨g, 0, none⟩) n c bs) (i : Nat) : w.frozen? ⟨g, i, none⟩ = false := h.own.frozenAt i
theorem Mine.block {B : Nat} {w : World} {g n c : Nat} {bs : List Int} (h : Mine B w (some ⟨g, 0, none⟩) n c bs) : B ≤ g ∧ g < w.heap.size := h.own.lt g rfl
/-- A row of the call's own with something in it is a block. -/
theorem Mine.some {B : Nat} {w : World} {ao : Option Addr} {n c : Nat} {bs : List Int} (h : Mine B w ao n c bs) (h0 : 0 < n) : ∃ g, ao = .some ⟨g, 0, none⟩ := by
  rcases h.own.2 with ⟨hv, hz⟩ | ⟨g, cap, cur, hv, _⟩
  · omega
  · simp only [Value.slice.injEq] at hv
    exact ⟨g, hv.1⟩

/-- '[]byte("text")' of a constant: the literal's row gets a mark behind its last cell. -/
theorem run_const (w : World) (C : Array Value) (n c : Nat) : (convert 22 22 (.slice (some ⟨w.heap.size, 0, none⟩) n c)).run Try.prog (w.alloc (.cells C 5)) = .ok (.slice (some ⟨w.heap.size, 0, none⟩) n c) (w.alloc (.cells C 5 (C.size, C.size + 1))) :=
  Lib.run_convert_bytes_const (P := Try.prog) w 22 5 C n c Try.underlying22 Try.underlying5

theorem Bs.const (w : World) (m : Nat × Nat) (l : List Int) (h : Byt l) (hl : l.length ≤ 1000) : Bs (w.alloc (.cells (l.map (Value.int .u8)).toArray 5 m)) (some ⟨w.heap.size, 0, none⟩) l.length l.length l := by
  refine ⟨rfl, Nat.le_refl _, by omega, (fun e => by cases e), h, .inr ⟨w.heap.size, 0, rfl, fun i hi => ?_⟩⟩
  rw [Nat.zero_add, World.cell?_alloc_mark]
  simp [hi]

end Go.Proofs.Ytfgghgoonfamkaa

namespace Go.Proofs.Ytfgghgoonfamkaa
open Go.RowKit
set_option linter.unusedVariables false
set_option linter.unusedSimpArgs false

theorem Bs.str {w : World} {ao : Option Addr} {n c : Nat} {bs : List Int} (h : Bs w ao n c bs) : (convert 22 9 (.slice ao n c)).run Try.prog w = .ok (.string (strOfNums bs)) w := by
  have hl := h.len
  rcases h.at' with h0 | ⟨b, off, rfl, hc⟩
  · subst h0
    have hb : bs = [] := List.eq_nil_of_length_eq_zero hl
    subst hb
    cases ao with
    | none => exact run_convert_bytes_nil w 22 5 Try.underlying22 Try.underlying5 0 c 9 Try.underlying9
    | some a =>
      rw [run_convert_bytes_string w 22 9 5 _ 0 c Try.underlying22 Try.underlying5 Try.underlying9, run_bytesToString w a 0 c [] (by simp [loadCells, loadCellsFrom])]
      rfl
  · exact run_convert_bytes_arg w 22 5 Try.underlying22 Try.underlying5 b off n c bs hl hc 9 Try.underlying9

/-- Bytes are known by the string that they make. -/
theorem nums_inj : ∀ {a b : List Int}, Byt a → Byt b → a.map (fun n => UInt8.ofNat n.toNat) = b.map (fun n => UInt8.ofNat n.toNat) → a = b
  | [], [], _, _, _ => rfl
  | [], _ :: _, _, _, h => by simp at h
  | _ :: _, [], _, _, h => by simp at h
  | x :: r, y :: s, ha, hb, h => by
    simp only [List.map_cons, List.cons.injEq] at h
    obtain ⟨h1, h2⟩ := h
    have hx := ha x (by simp)
    have hy := hb y (by simp)
    have e : x = y := by
      have := congrArg UInt8.toNat h1
      simp only [UInt8.toNat_ofNat'] at this
      omega
    rw [e, nums_inj (fun z hz => ha z (List.mem_cons_of_mem _ hz)) (fun z hz => hb z (List.mem_cons_of_mem _ hz)) h2]

theorem str_eq {a b : List Int} (ha : Byt a) (hb : Byt b) : ((strOfNums a).toList == (strOfNums b).toList) = decide (a = b) := by
  rw [Bool.eq_iff_iff]
  simp only [beq_iff_eq, decide_eq_true_eq]
  constructor
  · intro h
    apply nums_inj ha hb
    have e : ∀ l : List Int, (strOfNums l).toList = l.map (fun n => UInt8.ofNat n.toNat) := fun l => by
      rw [ByteArray.toList_eq, strOfNums_data]
    rw [e, e] at h
    exact h
  · intro h; rw [h]

set_option maxHeartbeats 400000 in
theorem sameBytes_any (ao : Option Addr) (n c : Nat) (cs : List Int) (bo : Option Addr) (m d : Nat) (bs : List Int) (w : World) (h : Bs w ao n c cs) (k : Bs w bo m d bs) :
    Calls Try.prog 11 #[.slice ao n c, .slice bo m d] w fun e w' => e = .returned (.bool (decide (cs = bs))) ∧ w' = w := by
  have h1 := h.str
  have h2 := k.str
  have he := hide (str_eq h.byt k.byt)
  clear h k
  go_enter Try.func11, Try.ntmps11
  go_wp2
  go_ret
  refine ⟨?_, rfl⟩
  rw [← unhide he]
  rfl

end Go.Proofs.Ytfgghgoonfamkaa

namespace Go.Proofs.Ytfgghgoonfamkaa
open Go.RowKit
set_option linter.unusedVariables false
set_option linter.unusedSimpArgs false

/-- 'b[i]' of bytes for the walk. -/
theorem Bs.idx {w : World} {ao : Option Addr} {n c : Nat} {bs : List Int} (h : Bs w ao n c bs) {i : Nat} (hi : i < n) (I : Int) (hI : I = i) :
    ∃ b o, (∀ wx, (Instr.indexAt 22 (.slice ao n c) (.int .i64 I)).run Try.prog wx = .ok (.pointer (some ⟨b, o, none⟩)) wx) ∧ w.cell? ⟨b, o, none⟩ = some (.int .u8 (bs[i]?.getD 0)) := by
  subst hI
  rcases h.at' with h0 | ⟨b, off, rfl, hc⟩
  · omega
  · refine ⟨b, off + i, fun wx => ?_, by rw [hc i hi]; simp⟩
    rw [run_indexAt_slice wx 22 _ n c .i64 (i : Int) Try.elemBytes]
    simp [Try.sizeByte, hi, Addr.add_lit, Result.andThen]


/-- Block k is the one that a slice lies in. -/
def ob (ao : Option Addr) (k : Nat) : Prop := ∃ a, ao = some a ∧ a.block = k

/-- Only block g has changed; there may be new ones. -/
structure Gb (g : Nat) (w w' : World) : Prop where
  os : w'.os = w.os
  tape : w'.tape = w.tape
  output : w'.output = w.output
  size : w.heap.size ≤ w'.heap.size
  block : ∀ k, k < w.heap.size → k ≠ g → w'.heap[k]? = w.heap[k]?

theorem Gb.refl (g : Nat) (w : World) : Gb g w w := ⟨rfl, rfl, rfl, Nat.le_refl _, fun _ _ _ => rfl⟩

theorem Gb.trans {g : Nat} {a b c : World} (h : Gb g a b) (k : Gb g b c) : Gb g a c :=
  ⟨k.os.trans h.os, k.tape.trans h.tape, k.output.trans h.output, Nat.le_trans h.size k.size, fun i hi hn => (k.block i (Nat.lt_of_lt_of_le hi h.size) hn).trans (h.block i hi hn)⟩

theorem Gb.of {g : Nat} {w w' : World} (h : Below w.heap.size w w') : Gb g w w' := ⟨h.os, h.tape, h.output, h.size, fun k hk _ => h.block k hk⟩

theorem Gb.drew {g : Nat} {w w' : World} (h : Gb g w w') : Gb g w w'.drew := ⟨h.os, h.tape, h.output, h.size, h.block⟩

theorem Gb.drewN {g : Nat} {w w' : World} (h : Gb g w w') (n : Nat) : Gb g w (w'.drewN n) := ⟨h.os, h.tape, h.output, h.size, h.block⟩

theorem Gb.set {g : Nat} {w w' : World} (h : Gb g w w') (i : Nat) (u : Value) : Gb g w (w'.setCell ⟨g, i, none⟩ u) :=
  h.trans ⟨rfl, rfl, rfl, by simp, fun k _ hk => heap_setCell_other w' ⟨g, i, none⟩ k u hk⟩

theorem Gb.cell {g : Nat} {w w' : World} (h : Gb g w w') {a : Addr} (hk : a.block < w.heap.size) (hn : a.block ≠ g) : w'.cell? a = w.cell? a := World.cell?_of_block (w := w) (h.block a.block hk hn)

theorem Mine.ob {B : Nat} {w : World} {ao : Option Addr} {n c : Nat} {bs : List Int} (h : Mine B w ao n c bs) {k : Nat} (hk : ob ao k) : B ≤ k ∧ k < w.heap.size := by
  obtain ⟨a, rfl, rfl⟩ := hk
  rcases h.own.2 with ⟨hv, _⟩ | ⟨g, cap, cur, hv, hg, hh, _⟩
  · simp at hv
  · simp only [Value.slice.injEq, Option.some.injEq] at hv
    obtain ⟨rfl, _⟩ := hv
    exact ⟨hg, (Array.getElem?_eq_some_iff.1 hh).1⟩

theorem Mine.keep {B : Nat} {w w' : World} {ao : Option Addr} {n c : Nat} {bs : List Int} (h : Mine B w ao n c bs) (hk : ∀ k, B ≤ k → k < w.heap.size → w'.heap[k]? = w.heap[k]?) : Mine B w' ao n c bs := by
  refine ⟨h.len, ⟨h.own.1, ?_⟩, h.byt⟩
  rcases h.own.2 with hv | ⟨g, cap, cur, hv, hg, hh, r⟩
  · exact .inl hv
  · exact .inr ⟨g, cap, cur, hv, hg, by rw [hk g hg (Array.getElem?_eq_some_iff.1 hh).1]; exact hh, r⟩

theorem below_drew (w : World) : Below w.heap.size w w.drew := ⟨rfl, rfl, rfl, Nat.le_refl _, fun _ _ => rfl⟩

theorem Gb.below {g : Nat} {w w' : World} (h : Gb g w w') (hg : g ≤ w.heap.size) : Below g w w' := ⟨h.os, h.tape, h.output, h.size, fun k hk => h.block k (by omega) (by omega)⟩

theorem Bs.gb {g : Nat} {w w' : World} {ao : Option Addr} {n c : Nat} {bs : List Int} (h : Bs w ao n c bs) (hb : Gb g w w') (hg : ∀ a, ao = some a → a.block ≠ g) : Bs w' ao n c bs := by
  refine ⟨h.len, h.le, h.max, h.nil, h.byt, ?_⟩
  rcases h.at' with h0 | ⟨b, off, e, hc⟩
  · exact .inl h0
  · refine .inr ⟨b, off, e, fun i hi => ?_⟩
    rw [hb.cell (a := ⟨b, off + i, none⟩) (World.block_lt_of_cell? w _ (hc i hi)) (show (⟨b, off + i, none⟩ : Addr).block ≠ g from hg ⟨b, off, none⟩ e)]
    exact hc i hi

end Go.Proofs.Ytfgghgoonfamkaa

namespace Go.Proofs.Ytfgghgoonfamkaa
open Go.RowKit
set_option linter.unusedVariables false
set_option linter.unusedSimpArgs false

/-- 'append(out, xs...)', out of the call's own: which block has changed. -/
theorem wpList_appF {ops : Array Oper} {rest : List Oper} {o : Oper} {a : Act} {w : World} {Q : Exit → Act → World → Prop} (hgd : o.guard = none) (s x : Operand)
    (ho : o.op = .call { callee := .builtin .append, args := #[s, x], argTypes := #[22, 22] })
    (B : Nat) (ao : Option Addr) (n c : Nat) (bs : List Int) (hs : a.eval s = .slice ao n c) (hm : Mine B w ao n c bs)
    (ad : Addr) (m c' : Nat) (cs : List Int) (hx : a.eval x = .slice (some ad) m c') (hb : Bs w (some ad) m c' cs) (hbound : n + m ≤ 140737488355328) (hB : B ≤ w.heap.size)
    (h : ∀ ao1 c1 w1, Mine B w1 ao1 (n + m) c1 (bs ++ cs) → w.grownBy w1 (Value.slice ao n c).ownBlock → (∀ k, ob ao1 k → ob ao k ∨ w.heap.size ≤ k) → wpList Try.prog ops Q rest (a.put o.dst (.slice ao1 (n + m) c1)) w1) :
    wpList Try.prog ops Q (o :: rest) a w := by
  obtain ⟨i0, hi, hz0, hz1, hz2⟩ := info_parts Try.infoByte
  have hlen := hm.len
  have hlen' := hb.len
  refine wpList_append_own_at w hgd s x 22 ho B 5 i0 (.int .u8 0) 1 1 Try.underlying22 hi hz0 hz1 hz2 rfl (by decide) _ _ _ hs hm.own ad m c' (cs.map (Value.int .u8)) hx (by simp [hlen']) hb.news (ints_oneCell _ _) (by unfold maxLen; omega) (by omega) hB ?_
  intro v' w' hown hgrow _ hsrc
  rw [← List.map_append] at hown
  have hex : ∃ ao1 c1, v' = .slice ao1 (n + m) c1 := by
    rcases hown.2 with ⟨hv, h0⟩ | ⟨g, cap, cur, hv, _⟩
    · exact ⟨.none, 0, by rw [hv, h0]⟩
    · exact ⟨_, _, hv⟩
  obtain ⟨ao1, c1, hv⟩ := hex
  subst hv
  refine h ao1 c1 w' ⟨by simp [hlen, hlen'], hown, hm.byt.app hb.byt⟩ hgrow fun k hk => ?_
  obtain ⟨q, rfl, rfl⟩ := hk
  rcases hsrc with hq | hq
  · left
    cases ao with
    | none => simp [Value.ownBlock] at hq
    | some z => exact ⟨z, rfl, by simpa [Value.ownBlock] using hq.symm⟩
  · right
    simp [Value.ownBlock] at hq
    omega
theorem grown_at {w w1 : World} {ao : Option Addr} {n c k : Nat} (hgr : w.grownBy w1 (Value.slice ao n c).ownBlock) (hk : k < w.heap.size) (ho : ¬ ob ao k) : w1.heap[k]? = w.heap[k]? :=
  hgr.block k hk fun e => by
    cases ao with
    | none => simp [Value.ownBlock] at e
    | some z => exact ho ⟨z, rfl, by simpa [Value.ownBlock] using e.symm⟩

/-- Only the blocks of S have changed; there may be new ones. What is of S' behind it was of S, or is new. -/
structure Fs (S : Nat → Prop) (w : World) (S' : Nat → Prop) (w' : World) : Prop where
  os : w'.os = w.os
  tape : w'.tape = w.tape
  output : w'.output = w.output
  size : w.heap.size ≤ w'.heap.size
  block : ∀ k, k < w.heap.size → ¬ S k → w'.heap[k]? = w.heap[k]?
  src : ∀ k, S' k → S k ∨ w.heap.size ≤ k
theorem Fs.refl (S : Nat → Prop) (w : World) : Fs S w S w := ⟨rfl, rfl, rfl, Nat.le_refl _, fun _ _ _ => rfl, fun k h => .inl h⟩
theorem Fs.trans {S T U : Nat → Prop} {a b c : World} (h : Fs S a T b) (k : Fs T b U c) : Fs S a U c := by
  refine ⟨k.os.trans h.os, k.tape.trans h.tape, k.output.trans h.output, Nat.le_trans h.size k.size, fun i hi hn => ?_, fun i hi => ?_⟩
  · rw [k.block i (Nat.lt_of_lt_of_le hi h.size), h.block i hi hn]
    intro hy
    rcases h.src i hy with h1 | h1
    · exact hn h1
    · omega
  · rcases k.src i hi with h1 | h1
    · exact h.src i h1
    · exact .inr (Nat.le_trans h.size h1)
theorem Fs.weak {S S' T T' : Nat → Prop} {w w' : World} (h : Fs S w S' w') (hl : ∀ k, S k → T k) (hr : ∀ k, T' k → T k ∨ S' k) : Fs T w T' w' := by
  refine ⟨h.os, h.tape, h.output, h.size, fun k hk hn => h.block k hk (fun hs => hn (hl k hs)), fun k hk => ?_⟩
  rcases hr k hk with h1 | h1
  · exact .inl h1
  · rcases h.src k h1 with h2 | h2
    · exact .inl (hl k h2)
    · exact .inr h2
theorem Fs.of {S S' : Nat → Prop} {w w' : World} (h : Below w.heap.size w w') (hr : ∀ k, S' k → S k ∨ w.heap.size ≤ k) : Fs S w S' w' := ⟨h.os, h.tape, h.output, h.size, fun k hk _ => h.block k hk, hr⟩
theorem Fs.gb {S : Nat → Prop} {g : Nat} {w w' : World} (h : Gb g w w') (hg : S g) : Fs S w S w' :=
  ⟨h.os, h.tape, h.output, h.size, fun k hk hn => h.block k hk (fun e => hn (e ▸ hg)), fun k h => .inl h⟩
theorem Fs.drew {S S' : Nat → Prop} {w w' : World} (h : Fs S w S' w') : Fs S w S' w'.drew := ⟨h.os, h.tape, h.output, h.size, h.block, h.src⟩
theorem Fs.drewN {S S' : Nat → Prop} {w w' : World} (h : Fs S w S' w') (n : Nat) : Fs S w S' (w'.drewN n) := ⟨h.os, h.tape, h.output, h.size, h.block, h.src⟩
theorem Fs.undrew {S S' : Nat → Prop} {w w' : World} (h : Fs S w.drew S' w') : Fs S w S' w' := ⟨h.os, h.tape, h.output, h.size, h.block, h.src⟩
theorem Fs.undrewN {S S' : Nat → Prop} {w w' : World} {n : Nat} (h : Fs S (w.drewN n) S' w') : Fs S w S' w' := ⟨h.os, h.tape, h.output, h.size, h.block, h.src⟩
theorem drN_below (w : World) (n : Nat) : Below w.heap.size w (w.drewN n) := ⟨rfl, rfl, rfl, Nat.le_refl _, fun _ _ => rfl⟩
theorem Fs.below {S S' : Nat → Prop} {w w' : World} {B : Nat} (h : Fs S w S' w') (hB : B ≤ w.heap.size) (hS : ∀ k, S k → B ≤ k) : Below B w w' :=
  ⟨h.os, h.tape, h.output, h.size, fun k hk => h.block k (by omega) (fun hs => by have := hS k hs; omega)⟩
theorem Fs.set {S S' : Nat → Prop} {g : Nat} {w w' : World} (h : Fs S w S' w') (hg : S' g) (i : Nat) (u : Value) : Fs S w S' (w'.setCell ⟨g, i, none⟩ u) :=
  h.trans (Fs.gb ((Gb.refl g w').set i u) hg)

/-- A slice stays where its block stays. -/
theorem Bs.keepB {w w' : World} {ao : Option Addr} {n c : Nat} {bs : List Int} (h : Bs w ao n c bs) (hk : ∀ k, ob ao k → k < w.heap.size → w'.heap[k]? = w.heap[k]?) : Bs w' ao n c bs := by
  refine ⟨h.len, h.le, h.max, h.nil, h.byt, ?_⟩
  rcases h.at' with h0 | ⟨b, off, e, hc⟩
  · exact .inl h0
  · refine .inr ⟨b, off, e, fun i hi => ?_⟩
    have hb := hk b ⟨_, e, rfl⟩ (World.block_lt_of_cell? w _ (hc i hi))
    rw [World.cell?_of_block (w := w) (a := ⟨b, off + i, none⟩) hb]
    exact hc i hi
theorem Bs.fs {S S' : Nat → Prop} {w w' : World} {ao : Option Addr} {n c : Nat} {bs : List Int} (h : Bs w ao n c bs) (f : Fs S w S' w') (hd : ∀ k, ob ao k → ¬ S k) : Bs w' ao n c bs :=
  h.keepB fun k hk hl => f.block k hl (hd k hk)
theorem Mine.keepB {B : Nat} {w w' : World} {ao : Option Addr} {n c : Nat} {bs : List Int} (h : Mine B w ao n c bs) (hk : ∀ k, Proofs.Ytfgghgoonfamkaa.ob ao k → w'.heap[k]? = w.heap[k]?) : Mine B w' ao n c bs := by
  refine ⟨h.len, ⟨h.own.1, ?_⟩, h.byt⟩
  rcases h.own.2 with hv | ⟨g, cap, cur, hv, hg, hh, r⟩
  · exact .inl hv
  · simp only [Value.slice.injEq] at hv
    obtain ⟨rfl, _, rfl⟩ := hv
    exact .inr ⟨g, _, cur, rfl, hg, by rw [hk g ⟨_, rfl, rfl⟩]; exact hh, r⟩
theorem Mine.fs {B : Nat} {S S' : Nat → Prop} {w w' : World} {ao : Option Addr} {n c : Nat} {bs : List Int} (h : Mine B w ao n c bs) (f : Fs S w S' w') (hd : ∀ k, Proofs.Ytfgghgoonfamkaa.ob ao k → ¬ S k) : Mine B w' ao n c bs :=
  h.keepB fun k hk => f.block k (h.ob hk).2 (hd k hk)
theorem ob_none {k : Nat} : ¬ ob none k := by rintro ⟨a, h, _⟩; cases h
theorem ob_some {a : Addr} {k : Nat} : ob (some a) k ↔ a.block = k := ⟨fun ⟨b, h, e⟩ => by cases h; exact e, fun e => ⟨a, rfl, e⟩⟩
theorem ob_cut {ao : Option Addr} {c lo k : Nat} (h : ob (cutAt ao c lo) k) : ob ao k := by
  unfold cutAt at h
  split at h
  · exact h
  · cases ao with
    | none => exact absurd h ob_none
    | some z =>
      obtain ⟨a, e, rfl⟩ := h
      simp at e
      subst e
      refine ⟨z, rfl, ?_⟩
      unfold Addr.add
      split <;> rfl

/-- 'append(out, xs...)', out of the call's own, xs whatever it is: which block has changed. -/
theorem wpList_appS {ops : Array Oper} {rest : List Oper} {o : Oper} {a : Act} {w : World} {Q : Exit → Act → World → Prop} (hgd : o.guard = none) (s x : Operand)
    (ho : o.op = .call { callee := .builtin .append, args := #[s, x], argTypes := #[22, 22] })
    (B : Nat) (ao : Option Addr) (n c : Nat) (bs : List Int) (hs : a.eval s = .slice ao n c) (hm : Mine B w ao n c bs)
    (ao' : Option Addr) (m c' : Nat) (cs : List Int) (hx : a.eval x = .slice ao' m c') (hb : Bs w ao' m c' cs) (hbound : n + m ≤ 140737488355328) (hB : B ≤ w.heap.size)
    (h : ∀ ao1 c1 w1, Mine B w1 ao1 (n + m) c1 (bs ++ cs) → Fs (ob ao) w (ob ao1) w1 → wpList Try.prog ops Q rest (a.put o.dst (.slice ao1 (n + m) c1)) w1) :
    wpList Try.prog ops Q (o :: rest) a w := by
  obtain ⟨i0, hi, hz0, hz1, hz2⟩ := info_parts Try.infoByte
  cases ao' with
  | none =>
    have hc' := hb.nil rfl
    have hlen' := hb.len
    have hm0 : m = 0 := by have := hb.le; omega
    subst hm0
    subst hc'
    have hcs : cs = [] := List.eq_nil_of_length_eq_zero hlen'
    subst hcs
    refine wpList_append_own_none hgd s x 22 ho B 5 i0 1 Try.underlying22 hi _ _ _ hs hm.own hx ?_
    exact h ao c w (by simpa using hm) (Fs.refl _ _)
  | some ad =>
    refine wpList_appF hgd s x ho B ao n c bs hs hm ad m c' cs hx hb hbound hB ?_
    intro ao1 c1 w1 hm1 hgr hsrc
    refine h ao1 c1 w1 hm1 ⟨hgr.os, hgr.tape, hgr.output, hgr.size, fun k hk hn => grown_at hgr hk hn, hsrc⟩

end Go.Proofs.Ytfgghgoonfamkaa
