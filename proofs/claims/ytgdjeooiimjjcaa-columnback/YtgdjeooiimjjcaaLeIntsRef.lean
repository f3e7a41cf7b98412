/-
  What the ReadInt that gives the document's answer returns for any bytes: the plain function readInt, as the program's own. It writes nothing. Conditions: none but that the slice can be read.
-/
import Derived.Test.YtgdjeooiimjjcaaLeInts
namespace Go.Proofs.Ytgdjeooiimjjcaa
open Go.RowKit
set_option linter.unusedVariables false
set_option linter.unusedSimpArgs false


theorem widthOf_ref {x : Int} (a : ¬ x ≤ 250) (h1 : x ≠ 251) (h2 : x ≠ 255) (h3 : x ≤ 255) : (x = 254 ∧ widthOf x = 8) ∨ (x ≠ 254 ∧ widthOf x = x - 250 ∧ 2 ≤ x - 250 ∧ x - 250 ≤ 3) := by
  have : x = 252 ∨ x = 253 ∨ x = 254 := by omega
  rcases this with rfl | rfl | rfl
  · right; decide
  · right; decide
  · left; decide

set_option maxHeartbeats 400000 in
set_option maxRecDepth 100000 in
theorem readInt_ref (ao : Option Addr) (n c : Nat) (bs : List Int) (w : World) (h : Bs w ao n c bs) :
    Calls Try.prog 34 #[.slice ao n c] w fun e w' => e = .returned (.tuple #[.int .u64 (readInt bs).1, .int .i64 (readInt bs).2.1, .int .i64 (readInt bs).2.2]) ∧ w' = w := by
  have hlen := h.len
  have hmax := h.max
  have hle := h.le
  cases bs with
  | nil =>
    have hn : n = 0 := by simpa using hlen.symm
    subst hn
    go_enter Try.func34, Try.ntmps34
    go_wp2_with fail
    go_ret3
    exact ⟨rfl, rfl⟩
  | cons x r =>
    have hn : n = r.length + 1 := by simpa using hlen.symm
    rcases h.at' with h0 | ⟨b, off, rfl, hcell⟩
    · omega
    have hx := h.byt x (by simp)
    have hc0 : w.cell? ⟨b, off, none⟩ = some (.int .u8 x) := by simpa using hcell 0 (by omega)
    have hpos : (0 : Int) < (n : Int) := by omega
    have hne : ((n : Int) == 0) = false := by simp; omega
    obtain ⟨hx0, hx1⟩ := hx
    by_cases a : x ≤ 250
    · rw [readInt_small a]
      clear hn hlen
      go_enter Try.func34, Try.ntmps34
      go_wp2_with fail
      go_ret3
      exact ⟨rfl, rfl⟩
    · by_cases b1 : x = 251
      · subst b1
        rw [readInt_bad a (by decide)]
        clear hn hlen
        go_enter Try.func34, Try.ntmps34
        go_wp2_with fail
        go_ret3
        exact ⟨rfl, rfl⟩
      · by_cases b2 : x = 255
        · subst b2
          rw [readInt_bad a (by decide)]
          clear hn hlen
          go_enter Try.func34, Try.ntmps34
          go_wp2_with fail
          go_ret3
          exact ⟨rfl, rfl⟩
        · obtain ⟨ao', c', hsl, hbs⟩ := h.cut_l (lo := 1) (by omega) 1 rfl
          rw [List.drop_one, List.tail_cons] at hbs
          clear h hlen
          have hn1 := hide hn
          clear hn
          have g1 : (x == 251) = false := by simpa using b1
          have g2 : (x == 255) = false := by simpa using b2
          rcases widthOf_ref a b1 b2 hx1 with ⟨rfl, hw⟩ | ⟨h4, hw, hlo, hhi⟩
          · by_cases hs : (r.length : Int) < 8
            · rw [readInt_short a (by rw [hw]; omega) (by rw [hw]; exact hs)]
              have hrf := hide (show readFixed r 8 = (0, 4) by simp [readFixed, hs])
              clear hs hw
              go_enter Try.func34, Try.ntmps34
              go_wp2_with (go_at_call 45; refine (readFixed_ref _ _ _ _ _ _ hbs).mono ?_; rw [unhide hrf]; rintro e w' ⟨rfl, rfl⟩)
              go_ret3
              exact ⟨rfl, rfl⟩
            · rw [readInt_long a (by rw [hw]; omega) (by rw [hw]; exact hs), hw]
              have hrf := hide (show readFixed r 8 = (val r (8 : Int).toNat, 0) by simp [readFixed, hs])
              clear hs hw
              go_enter Try.func34, Try.ntmps34
              go_wp2_with (go_at_call 45; refine (readFixed_ref _ _ _ _ _ _ hbs).mono ?_; rw [unhide hrf]; rintro e w' ⟨rfl, rfl⟩)
              go_ret3
              exact ⟨rfl, rfl⟩
          · have g4 : (x == 254) = false := by simpa using h4
            by_cases hs : (r.length : Int) < x - 250
            · rw [readInt_short a (by rw [hw]; omega) (by rw [hw]; exact hs)]
              have hrf := hide (show readFixed r (x - 250) = (0, 4) by simp only [readFixed]; rw [if_neg (by omega), if_pos hs])
              clear hs hw
              go_enter Try.func34, Try.ntmps34
              go_wp2_with (go_at_call 45; refine (readFixed_ref _ _ _ _ _ _ hbs).mono ?_; rw [unhide hrf]; rintro e w' ⟨rfl, rfl⟩)
              go_ret3
              exact ⟨rfl, rfl⟩
            · rw [readInt_long a (by rw [hw]; omega) (by rw [hw]; exact hs), hw]
              have hrf := hide (show readFixed r (x - 250) = (val r (x - 250).toNat, 0) by simp only [readFixed]; rw [if_neg (by omega), if_neg hs])
              clear hs hw
              have hcm := hide (Int.add_comm 1 (x - 250))
              go_enter Try.func34, Try.ntmps34
              go_wp2_with (go_at_call 45; refine (readFixed_ref _ _ _ _ _ _ hbs).mono ?_; rw [unhide hrf]; rintro e w' ⟨rfl, rfl⟩)
              go_ret3
              exact ⟨by rw [unhide hcm]; rfl, rfl⟩

end Go.Proofs.Ytgdjeooiimjjcaa
