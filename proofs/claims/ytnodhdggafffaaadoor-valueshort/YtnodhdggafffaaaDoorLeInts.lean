/-
  What ReadInt of package lenenc, and the one that gives the document's answer, return for any bytes: the plain function readInt. They write nothing. Conditions: none but that the slice can be read.
-/
import Derived.Test.YtnodhdggafffaaaDoorLeReads
namespace Go.Proofs.YtnodhdggafffaaaDoor
open Go.RowKit
set_option linter.unusedVariables false
set_option linter.unusedSimpArgs false


set_option maxHeartbeats 400000 in
set_option maxRecDepth 100000 in
theorem readInt_any (ao : Option Addr) (n c : Nat) (bs : List Int) (w : World) (h : Bs w ao n c bs) :
    Calls Tryd.prog 77 #[.slice ao n c] w fun e w' => e = .returned (.tuple #[.int .u64 (readInt bs).1, .int .i64 (readInt bs).2.1, .int .i64 (readInt bs).2.2]) ∧ w' = w := by
  have hlen := h.len
  have hmax := h.max
  have hle := h.le
  cases bs with
  | nil =>
    have hn : n = 0 := by simpa using hlen.symm
    subst hn
    go_enter Tryd.func77, Tryd.ntmps77
    go_wp2_with fail
    go_ret3
    exact ⟨rfl, rfl⟩
  | cons x r =>
    have hn : n = r.length + 1 := by simpa using hlen.symm
    rcases h.at' with h0 | ⟨b, off, rfl, hcell⟩
    · omega
    have hx := h.byt x (by simp)
    have hc0 : w.cell? ⟨b, off, none⟩ = some (.int .u8 x) := by simpa using hcell 0 (by omega)
    have hpos : (0 : Int) < (n : Int) := by omega
    have hne : ((n : Int) == 0) = false := by simp; omega
    obtain ⟨hx0, hx1⟩ := hx
    by_cases a : x ≤ 250
    · rw [readInt_small a]
      clear hn hlen
      go_enter Tryd.func77, Tryd.ntmps77
      go_wp2_with fail
      go_ret3
      exact ⟨rfl, rfl⟩
    · by_cases bd : widthOf x = 0
      · rw [readInt_bad a bd]
        clear hn hlen
        go_enter Tryd.func77, Tryd.ntmps77
        go_wp2_with (go_at_call 82; refine (widthBehind_any _ _).mono ?_; rw [bd]; rintro e w' ⟨rfl, rfl⟩)
        go_ret3
        exact ⟨rfl, rfl⟩
      · have hw := widthOf_cases x
        obtain ⟨k, hk⟩ : ∃ k, k = widthOf x := ⟨_, rfl⟩
        rw [← hk] at bd hw
        have hk1 : 1 ≤ k := by omega
        have hk8 : k ≤ 8 := by omega
        have hkb : (k == 0) = false := by simp; omega
        have HK := hide hk
        clear hw bd hk
        obtain ⟨ao', c', hsl, hbs⟩ := h.cut_l (lo := 1) (by omega) 1 rfl
        rw [List.drop_one, List.tail_cons] at hbs
        clear h hlen
        have hn1 := hide hn
        clear hn
        by_cases hs : (r.length : Int) < k
        · rw [readInt_short a (by rw [← unhide HK]; omega) (by rw [← unhide HK]; exact hs)]
          have hrf := hide (show readFixed r k = (0, 4) by simp [readFixed, hk1, hk8, hs])
          clear hs
          go_enter Tryd.func77, Tryd.ntmps77
          go_wp2_with (first | (go_at_call 82; refine (widthBehind_any _ _).mono ?_; rw [← unhide HK]; rintro e w' ⟨rfl, rfl⟩) | (go_at_call 73; refine (readFixed_any _ _ _ _ _ _ hbs).mono ?_; rw [unhide hrf]; rintro e w' ⟨rfl, rfl⟩))
          go_ret3
          exact ⟨rfl, rfl⟩
        · rw [readInt_long a (by rw [← unhide HK]; omega) (by rw [← unhide HK]; exact hs), ← unhide HK]
          have hrf := hide (show readFixed r k = (val r k.toNat, 0) by simp [readFixed, hk1, hk8, hs])
          clear hs
          go_enter Tryd.func77, Tryd.ntmps77
          go_wp2_with (first | (go_at_call 82; refine (widthBehind_any _ _).mono ?_; rw [← unhide HK]; rintro e w' ⟨rfl, rfl⟩) | (go_at_call 73; refine (readFixed_any _ _ _ _ _ _ hbs).mono ?_; rw [unhide hrf]; rintro e w' ⟨rfl, rfl⟩))
          go_ret3
          exact ⟨rfl, rfl⟩

end Go.Proofs.YtnodhdggafffaaaDoor
