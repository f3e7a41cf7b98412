/-
  What ReadText and SameBytes return for any bytes. They write nothing. Conditions: none but that the slices can be read.
-/
import Derived.Test.YtnodhdggafffaaaDoorLeIntsRef
import Derived.Test.YtnodhdggafffaaaDoorSameB
import Derived.Lib.BytesEntry
namespace Go.Proofs.YtnodhdggafffaaaDoor
open Go.RowKit
set_option linter.unusedVariables false
set_option linter.unusedSimpArgs false

/-- The result of ReadText: the text, how many bytes, the error. -/
def readText (bs : List Int) : ByteArray × Int × Int :=
  if (readInt bs).2.2 ≠ 0 then (⟨#[]⟩, 0, (readInt bs).2.2) else if (bs.length : Int) - (readInt bs).2.1 < (readInt bs).1 then (⟨#[]⟩, 0, 4)
  else (strOfNums ((bs.drop (readInt bs).2.1.toNat).take (readInt bs).1.toNat), (readInt bs).2.1 + (readInt bs).1, 0)

theorem readText_err {bs : List Int} {x n e : Int} (h : readInt bs = (x, n, e)) (he : e ≠ 0) : readText bs = (⟨#[]⟩, 0, e) := by
  unfold readText; rw [h]; simp [he]

theorem readText_short {bs : List Int} {x n : Int} (h : readInt bs = (x, n, 0)) (hs : (bs.length : Int) - n < x) : readText bs = (⟨#[]⟩, 0, 4) := by
  unfold readText; rw [h]; simp [hs]

theorem readText_long {bs : List Int} {x n : Int} (h : readInt bs = (x, n, 0)) (hs : ¬ (bs.length : Int) - n < x) : readText bs = (strOfNums ((bs.drop n.toNat).take x.toNat), n + x, 0) := by
  unfold readText; rw [h]; simp [hs]

theorem tup3s {k l : IntKind} {s s' : ByteArray} {a b a' b' : Int} (hs : s = s') (h : a = a') (h2 : b = b') : Ending.returned (.tuple #[.string s, .int k a, .int l b]) = .returned (.tuple #[.string s', .int k a', .int l b']) := by rw [hs, h, h2]

set_option maxHeartbeats 400000 in
set_option maxRecDepth 100000 in
theorem readText_any (ao : Option Addr) (n c : Nat) (bs : List Int) (w : World) (h : Bs w ao n c bs) :
    Calls Tryd.prog 59 #[.slice ao n c] w fun e w' => e = .returned (.tuple #[.string (readText bs).1, .int .i64 (readText bs).2.1, .int .i64 (readText bs).2.2]) ∧ w' = w := by
  have cR := readInt_any ao n c bs w h
  have hlen := h.len
  have hmax := h.max
  have hle := h.le
  obtain ⟨x, q, er, hr⟩ : ∃ x q er, readInt bs = (x, q, er) := ⟨_, _, _, rfl⟩
  rw [hr] at cR
  by_cases he : er = 0
  · subst he
    have hb := readInt_shortest h.byt hr
    obtain ⟨hx0, hx1, hq1, hq2⟩ := hb
    have hq0 : 0 ≤ q := by omega
    rw [hlen] at hq2
    clear hq1
    by_cases hs : (n : Int) - q < x
    · rw [readText_short hr (by rw [hlen]; exact hs)]
      clear hr hlen
      have CR := hide cR
      clear cR
      go_enter Tryd.func59, Tryd.ntmps59
      go_wp2_with (go_at_call 77; refine (unhide CR).mono ?_; rintro e w' ⟨rfl, rfl⟩)
      go_ret3
      exact ⟨rfl, rfl⟩
    · rw [readText_long hr (by rw [hlen]; exact hs)]
      obtain ⟨Q, rfl⟩ := Int.eq_ofNat_of_zero_le hq0
      obtain ⟨X, rfl⟩ := Int.eq_ofNat_of_zero_le hx0
      obtain ⟨ao', c', hsl, hbs⟩ := h.cut_lh (lo := Q) (hi := Q + X) (by omega) (by omega) Q ((Q : Int) + (X : Int)) rfl (by omega)
      have hst := hbs.str
      rw [Nat.add_sub_cancel_left] at hsl hbs hst
      have hXn : (Q : Int) + (X : Int) ≤ (n : Int) := by omega
      clear hr hlen hbs h hx1 hx0 hq0 hq2
      have CR := hide cR
      clear cR
      rw [Int.toNat_natCast, Int.toNat_natCast]
      go_enter Tryd.func59, Tryd.ntmps59
      go_wp2_with (go_at_call 77; refine (unhide CR).mono ?_; rintro e w' ⟨rfl, rfl⟩)
      go_ret3
      exact ⟨rfl, rfl⟩
  · rw [readText_err hr he]
    clear hr hlen
    have CR := hide cR
    clear cR
    have hne : (er != 0) = true := by simpa using he
    go_enter Tryd.func59, Tryd.ntmps59
    go_wp2_with (go_at_call 77; refine (unhide CR).mono ?_; rintro e w' ⟨rfl, rfl⟩)
    go_ret3
    exact ⟨rfl, rfl⟩


end Go.Proofs.YtnodhdggafffaaaDoor
