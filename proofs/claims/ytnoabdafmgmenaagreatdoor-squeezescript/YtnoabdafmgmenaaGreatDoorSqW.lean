/-
  Bytes squeezed, as lists: pieces, each as a frame that is raw or holds its wrapped stream. No program and no memory is named here.
-/
import Derived.Test.YtnoabdafmgmenaaGreatDoorMPlain
import Derived.Test.YtnoabdafmgmenaaGreatDoorMZlb
namespace Go.Proofs.YtnoabdafmgmenaaGreatDoor
open Go
set_option linter.unusedVariables false
set_option linter.unusedSimpArgs false

/-- What stands behind the head of a piece's frame, and how many bytes the head says that it tells. -/
def shr (T : Int) (p : List Int) : List Int × Nat := if (p.length : Int) < T then (p, 0) else if p.length ≤ (pkd p).length then (p, 0) else (pkd p, p.length)
/-- A piece's frame. -/
def sqF (T q : Int) (p : List Int) : List Int := le ((shr T p).1.length : Int) 3 ++ [q] ++ le ((shr T p).2 : Int) 3 ++ (shr T p).1
theorem shr_le (T : Int) (p : List Int) : (shr T p).1.length ≤ p.length ∧ (shr T p).2 ≤ p.length := by
  unfold shr
  split
  · simp
  · split
    · simp
    · simp only; omega
theorem sqF_len (T q : Int) (p : List Int) : (sqF T q p).length = 7 + (shr T p).1.length := by
  simp only [sqF, List.length_append, le_length, List.length_cons, List.length_nil]
/-- The piece number k. -/
def pc (M : Nat) (bs : List Int) (k : Nat) : List Int := (bs.drop (k * M)).take M
theorem pc_len (M : Nat) (bs : List Int) (k : Nat) : (pc M bs k).length = min M (bs.length - k * M) := by simp [pc]
/-- Pieces of these numbers as frames; the number behind. -/
def sqz (T : Int) (M : Nat) (bs : List Int) (q : Int) (l : List Nat) : List Int × Int := l.foldl (fun r k => (r.1 ++ sqF T r.2 (pc M bs k), (r.2 + 1) % 256)) ([], q)
theorem sqz_nil (T : Int) (M : Nat) (bs : List Int) (q : Int) : sqz T M bs q [] = ([], q) := rfl
theorem sqz_snoc (T : Int) (M : Nat) (bs : List Int) (q : Int) (l : List Nat) (k : Nat) : sqz T M bs q (l ++ [k]) = ((sqz T M bs q l).1 ++ sqF T (sqz T M bs q l).2 (pc M bs k), ((sqz T M bs q l).2 + 1) % 256) := by simp [sqz]
/-- How many pieces there are. -/
def pcn (M : Nat) (bs : List Int) : Nat := (bs.length + M - 1) / M
def sqA (T : Int) (M : Nat) (bs : List Int) (q : Int) : List Int × Int := sqz T M bs q (List.range (pcn M bs))
/-- What Squeeze answers. -/
def sqR (M T : Int) (bs : List Int) (q : Int) : List Int × Int × Int :=
  if M < 1 ∨ 16777215 < M ∨ T < 0 ∨ 16777215 < T then ([], 0, 2) else ((sqA T M.toNat bs q).1, (sqA T M.toNat bs q).2, 0)
theorem pcn_lt {M : Nat} (hM : 1 ≤ M) {bs : List Int} {k : Nat} : k < pcn M bs ↔ k * M < bs.length := by
  unfold pcn
  rw [Nat.lt_iff_add_one_le, Nat.le_div_iff_mul_le (by omega), Nat.add_mul]
  omega
theorem sqz_gen (T : Int) (M : Nat) (bs : List Int) : ∀ (l : List Nat) (r : List Int × Int), (0 ≤ r.2 → r.2 ≤ 255 → 0 ≤ (l.foldl (fun r k => (r.1 ++ sqF T r.2 (pc M bs k), (r.2 + 1) % 256)) r).2 ∧ (l.foldl (fun r k => (r.1 ++ sqF T r.2 (pc M bs k), (r.2 + 1) % 256)) r).2 ≤ 255) ∧ (l.foldl (fun r k => (r.1 ++ sqF T r.2 (pc M bs k), (r.2 + 1) % 256)) r).1.length ≤ r.1.length + l.length * (7 + bs.length)
  | [], r => ⟨fun h0 h1 => ⟨h0, h1⟩, by simp⟩
  | k :: l, r => by
    have ih := sqz_gen T M bs l (r.1 ++ sqF T r.2 (pc M bs k), (r.2 + 1) % 256)
    rw [List.foldl_cons]
    refine ⟨fun h0 h1 => ih.1 (by simp only; omega) (by simp only; omega), ?_⟩
    have h1 := (shr_le T (pc M bs k)).1
    have h2 := pc_len M bs k
    have h3 := ih.2
    simp only [List.length_append, sqF_len] at h3
    rw [List.length_cons, Nat.add_mul]
    omega
theorem sqz_q (T : Int) (M : Nat) (bs : List Int) (q : Int) (h0 : 0 ≤ q) (h1 : q ≤ 255) (l : List Nat) : 0 ≤ (sqz T M bs q l).2 ∧ (sqz T M bs q l).2 ≤ 255 := (sqz_gen T M bs l ([], q)).1 h0 h1
theorem sqz_len (T : Int) (M : Nat) (bs : List Int) (q : Int) (l : List Nat) : (sqz T M bs q l).1.length ≤ l.length * (7 + bs.length) := by
  have := (sqz_gen T M bs l ([], q)).2
  simpa [sqz] using this
theorem pcn_le {M : Nat} (hM : 1 ≤ M) (bs : List Int) : pcn M bs ≤ bs.length := by
  rcases Nat.lt_or_ge bs.length (pcn M bs) with h | h
  · have := (pcn_lt hM).1 h
    have : bs.length * 1 ≤ bs.length * M := Nat.mul_le_mul_left _ hM
    omega
  · exact h
/-- The pieces one behind the other are the bytes; their frames are little longer. -/
theorem sqz_bound (T : Int) (M : Nat) (hM : 1 ≤ M) (bs : List Int) (q : Int) : ∀ k, (sqz T M bs q (List.range k)).1.length ≤ min (k * M) bs.length + 7 * k
  | 0 => by simp [sqz_nil]
  | k + 1 => by
    have ih := sqz_bound T M hM bs q k
    rw [List.range_succ, sqz_snoc]
    simp only [List.length_append, sqF_len]
    have h1 := (shr_le T (pc M bs k)).1
    have h2 := pc_len M bs k
    rw [Nat.add_mul]
    omega
theorem le3_byt (x : Int) : Byt (le x 3) := le_byt x 3
end Go.Proofs.YtnoabdafmgmenaaGreatDoor
