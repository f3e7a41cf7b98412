/-
  The statement on shortest forms returns true for any bytes, and writes nothing that was there. Conditions: none but that the slice can be read.
-/
import Derived.Test.YtenindnahhebcaaLives
import Derived.OpenShut
namespace Go.Proofs.Ytenindnahhebcaa
open Go.RowKit
set_option linter.unusedVariables false
set_option linter.unusedSimpArgs false

/-- A slice of bytes that came in. -/
theorem bs_of_row {w : World} {a : Option Addr} {len cap : Nat} {zs : List Int} (h : (a = none ∧ len = 0 ∧ cap = 0 ∧ zs = []) ∨
  ∃ x, a = some x ∧ len ≤ cap ∧ cap ≤ maxLen ∧ zs.length = cap ∧ (∀ i, i < zs.length → w.cell? (x.add i) = some (.int .u8 (zs.getD i 0))) ∧ ∀ n ∈ zs, (Lit.int .u8 n).wf = true) : Bs w a len cap (zs.take len) := by
  rcases h with ⟨rfl, rfl, rfl, rfl⟩ | ⟨x, rfl, hl, hm, hz, hc, hw⟩
  · exact Bs.nought w
  · unfold maxLen at hm
    refine ⟨by simp; omega, hl, by omega, (fun e => by cases e), fun y hy => ?_, ?_⟩
    · have := bounds_u8 (hw y (List.mem_of_mem_take hy))
      omega
    · by_cases h0 : len = 0
      · exact .inl h0
      · right
        obtain ⟨b, off, spot⟩ := x
        have h1 := hc 0 (by omega)
        have hspot : spot = none := by simpa [Addr.add] using World.cell?_spot h1
        subst hspot
        refine ⟨b, off, rfl, fun i hi => ?_⟩
        have := hc i (by omega)
        rw [Addr.add_lit] at this
        rw [this]
        simp [hi]

set_option maxHeartbeats 1000000 in
theorem lawShort (ao : Option Addr) (n c : Nat) (bs : List Int) (w : World) (h : Bs w ao n c bs) :
    Calls Try.prog 7 #[.slice ao n c] w fun e w' => e = .returned (.bool true) ∧ Below w.heap.size w w' := by
  have hlen := h.len
  have hmax := h.max
  have hle := h.le
  by_cases hbig : (5000 : Int) < (n : Int)
  · clear hlen
    go_enter Try.func7, Try.ntmps7
    go_wp2_with (go_at_call 16; refine (lives_any _).mono ?_; rintro e w1 ⟨rfl, hb1⟩)
    go_ret
    exact ⟨rfl, hb1⟩
  · obtain ⟨x, q, er, hr⟩ : ∃ x q er, readInt bs = (x, q, er) := ⟨_, _, _, rfl⟩
    by_cases he : er = 0
    · subst he
      obtain ⟨hx0, hx1, hq1, hq2⟩ := readInt_shortest h.byt hr
      rw [hlen] at hq2
      have hf := hide (readInt_form x hx0 hx1 [])
      rw [List.append_nil] at hf
      have HX := hide hx1
      have HR := hide hr
      obtain ⟨L, hL⟩ : ∃ L, L = (form x).length := ⟨_, rfl⟩
      rw [← hL] at hq1 hf
      have HL := hide hL
      clear hx1 hr hlen hL
      go_enter Try.func7, Try.ntmps7
      go_wp2_with fail
      refine (lives_any _).mono ?_
      rintro e w1 ⟨rfl, hb1⟩
      go_wp2_with fail
      refine (readInt_any _ _ _ _ _ (h.later hb1)).mono ?_
      rw [unhide HR]
      rintro e w2 ⟨rfl, hw2⟩
      subst hw2
      go_wp2_with fail
      refine (appendInt_any _ _ _ _ _ _ (Bs.nought _) hx0 (unhide HX) (by omega)).mono ?_
      rw [List.nil_append, ← unhide HL, Nat.zero_add]
      rintro e w3 ⟨ao3, c3, rfl, hm3, hb3⟩
      go_wp2_with fail
      refine (readInt_any _ _ _ _ _ hm3.bs).mono ?_
      rw [unhide hf]
      rintro e w4 ⟨rfl, hw4⟩
      subst hw4
      go_wp2_with fail
      go_ret
      exact ⟨rfl, hb1.trans (hb3.mono hb1.size)⟩
    · obtain ⟨hx, hq⟩ := readInt_err hr he
      subst hx hq
      have hne : (er != 0) = true := by simpa using he
      have HR := hide hr
      clear hr hlen he
      go_enter Try.func7, Try.ntmps7
      go_wp2_with fail
      refine (lives_any _).mono ?_
      rintro e w1 ⟨rfl, hb1⟩
      go_wp2_with fail
      refine (readInt_any _ _ _ _ _ (h.later hb1)).mono ?_
      rw [unhide HR]
      rintro e w2 ⟨rfl, hw2⟩
      subst hw2
      go_wp2_with fail
      go_ret
      exact ⟨rfl, hb1⟩

end Go.Proofs.Ytenindnahhebcaa
