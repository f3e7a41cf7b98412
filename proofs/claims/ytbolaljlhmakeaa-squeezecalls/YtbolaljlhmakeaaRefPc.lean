/-
  What may, longest and Pieces of the document's own answer return for any piece, any bytes: the same plain functions. They write nothing that was there. Conditions: at most 32,768 bytes.
-/
import Derived.Test.YtbolaljlhmakeaaMDef2
namespace Go.Proofs.Ytbolaljlhmakeaa
open Go.RowKit
set_option linter.unusedVariables false
set_option linter.unusedSimpArgs false

set_option maxHeartbeats 1000000 in
theorem may_ref (w : World) (l d b : Int) :
    Calls Try.prog 46 #[.agg #[.int .i64 l, .int .i64 d, .int .u8 b]] w fun e w' => e = .returned (.bool (may ⟨l, d, b⟩)) ∧ Below w.heap.size w w' := by
  by_cases hl : l = 0
  · subst hl
    have hs := hide (show may ⟨0, d, b⟩ = decide (d = 0) by unfold may; simp)
    go_enter Try.func46, Try.ntmps46
    go_wp2_with fail
    go_ret
    rw [unhide hs]
    exact ⟨by rfl, below_alloc w _⟩
  · have hl' : (l == 0) = false := by simpa using hl
    have hs : may ⟨l, d, b⟩ = (decide (3 ≤ l) && (decide (l ≤ 258) && (decide (1 ≤ d) && (decide (d ≤ 32768) && decide (b = 0))))) := by unfold may; simp only; rw [if_neg hl]
    by_cases h1 : 3 ≤ l
    · by_cases h2 : l ≤ 258
      · by_cases h3 : 1 ≤ d
        · by_cases h4 : d ≤ 32768
          · have hr := hide (show may ⟨l, d, b⟩ = decide (b = 0) by rw [hs]; simp [h1, h2, h3, h4])
            clear hs hl
            go_enter Try.func46, Try.ntmps46
            go_wp2_with fail
            go_ret
            rw [unhide hr]
            exact ⟨by rfl, below_alloc w _⟩
          · have hr := hide (show may ⟨l, d, b⟩ = false by rw [hs]; simp [h1, h2, h3, h4])
            clear hs hl
            go_enter Try.func46, Try.ntmps46
            go_wp2_with fail
            go_ret
            rw [unhide hr]
            exact ⟨by rfl, below_alloc w _⟩
        · have hr := hide (show may ⟨l, d, b⟩ = false by rw [hs]; simp [h1, h2, h3])
          clear hs hl
          go_enter Try.func46, Try.ntmps46
          go_wp2_with fail
          go_ret
          rw [unhide hr]
          exact ⟨by rfl, below_alloc w _⟩
      · have hr := hide (show may ⟨l, d, b⟩ = false by rw [hs]; simp [h1, h2])
        clear hs hl
        go_enter Try.func46, Try.ntmps46
        go_wp2_with fail
        go_ret
        rw [unhide hr]
        exact ⟨by rfl, below_alloc w _⟩
    · have hr := hide (show may ⟨l, d, b⟩ = false by rw [hs]; simp [h1])
      clear hs hl
      go_enter Try.func46, Try.ntmps46
      go_wp2_with fail
      go_ret
      rw [unhide hr]
      exact ⟨by rfl, below_alloc w _⟩

theorem beq_sw (a b : Int) : (a == b) = (b == a) := by
  cases h : (b == a)
  · simp at h ⊢; exact fun e => h e.symm
  · simp at h ⊢; exact h.symm

set_option maxHeartbeats 4000000 in
set_option maxRecDepth 20000 in
theorem longest_ref (w : World) (bo : Option Addr) (bn bc : Nat) (bs : List Int) (hb : Bs w bo bn bc bs) (hn : bn ≤ 32768) (A back q : Nat) (hA : A < bn) (h1 : 1 ≤ back) (hqb : q + back = A) :
    Calls Try.prog 41 #[.slice bo bn bc, .int .i64 (A : Int), .int .i64 (back : Int)] w fun e w' => e = .returned (.int .i64 (mt bs A q : Int)) ∧ ∃ j, w' = w.drewN j := by
  have hlen := hide hb.len
  have hle := hb.le
  have hmx := hb.max
  have hbs1 := hide hb
  obtain ⟨m, hm⟩ : ∃ m, m = mst bs A := ⟨_, rfl⟩
  obtain ⟨R, hR⟩ : ∃ R, R = mt bs A q := ⟨_, rfl⟩
  rw [← hR]
  have hmb : m ≤ 258 ∧ A + m ≤ bn ∧ (m = 258 ∨ A + m = bn) := by rw [hm]; unfold mst; have := unhide hlen; omega
  have hRm : R = mtU (eqb bs q A) (m - 0) 0 := by rw [hR, hm, Nat.sub_zero]; rfl
  have HR := hide hRm
  have HQ := hide hqb
  clear hm hR hRm hb hqb
  go_enter Try.func41, Try.ntmps41
  go_wp2_with fail
  go_loopw [7] (fun kk wr => ∃ (t j : Nat), t ≤ m ∧ kk = .int .i64 (t : Int) ∧ R = mtU (eqb bs q A) (m - t) t ∧ wr = w.drewN j) (fun kk _ => m - (intOf kk).toNat)
  case atStart => exact ⟨0, 0, by omega, rfl, unhide HR, rfl⟩
  case round =>
    clear HR
    obtain ⟨t, j3, ht, rfl, hRt, rfl⟩ := hrel
    have hcase : (t < m ∧ eqb bs q A t = true) ∨ (t < m ∧ eqb bs q A t = false) ∨ t = m := by
      rcases Nat.lt_or_ge t m with z | z
      · cases he : eqb bs q A t
        · exact .inr (.inl ⟨z, rfl⟩)
        · exact .inl ⟨z, rfl⟩
      · exact .inr (.inr (by omega))
    rcases hcase with ⟨htm, he⟩ | hcase
    · have hnx := hide (show R = mtU (eqb bs q A) (m - (t + 1)) (t + 1) by
        obtain ⟨f2, hf2⟩ : ∃ f2, m - t = f2 + 1 := ⟨m - t - 1, by omega⟩
        rw [hRt, hf2, show m - (t + 1) = f2 by omega]
        simp only [mtU]
        rw [if_pos he])
      obtain ⟨b0, o0, i0, k0⟩ := (unhide hbs1).idx (show A + t < bn by omega) ((A : Int) + (t : Int)) (by omega)
      obtain ⟨b1, o1, i1, k1⟩ := (unhide hbs1).idx (show q + t < bn by have := unhide HQ; omega) ((A : Int) + (t : Int) - (back : Int)) (by have := unhide HQ; omega)
      have heq : (bs[A + t]?.getD 0 == bs[q + t]?.getD 0) = true := by rw [beq_sw]; rw [eqb_is] at he; exact he
      have g1 : (t : Int) < 258 := by omega
      have g2 : (A : Int) + (t : Int) < (bn : Int) := by omega
      have g3 : back ≤ bn := by have := unhide HQ; omega
      generalize bs[A + t]?.getD 0 = y0 at *
      generalize bs[q + t]?.getD 0 = y1 at *
      clear hRt he
      go_wp2_with fail
      go_quiet (fail)
      go_wp2_with fail
      go_roundw
      case rel => exact ⟨t + 1, _, by omega, by go_num, unhide hnx, (by first | rfl | exact World.drewN_drewN _ _ _)⟩
      case measure => simp [intOf]; omega
    · have hRe : R = t := by
        rcases hcase with ⟨z, he⟩ | z
        · obtain ⟨f2, hf2⟩ : ∃ f2, m - t = f2 + 1 := ⟨m - t - 1, by omega⟩
          rw [hRt, hf2]
          simp only [mtU]
          rw [if_neg (by simp [he])]
        · rw [hRt, z, Nat.sub_self]; rfl
      have hex : (t < m ∧ eqb bs q A t = false) ∨ ¬ t < 258 ∨ (t < 258 ∧ A + t = bn) := by
        rcases hcase with z | z
        · exact .inl z
        · rcases hmb.2.2 with z2 | z2
          · right; left; omega
          · rcases Nat.lt_or_ge t 258 with z3 | z3
            · right; right; omega
            · right; left; omega
      subst hRe
      clear hcase hRt
      have HEX := hide hex
      have g3 : back ≤ bn := by have := unhide HQ; omega
      clear hex
      go_wp2_with fail
      rcases unhide HEX with ⟨htm, he⟩ | g1 | ⟨g1, g2⟩
      focus
        obtain ⟨b0, o0, i0, k0⟩ := (unhide hbs1).idx (show A + R < bn by omega) ((A : Int) + (R : Int)) (by omega)
        obtain ⟨b1, o1, i1, k1⟩ := (unhide hbs1).idx (show q + R < bn by have := unhide HQ; omega) ((A : Int) + (R : Int) - (back : Int)) (by have := unhide HQ; omega)
        have heq : (bs[A + R]?.getD 0 == bs[q + R]?.getD 0) = false := by rw [beq_sw]; rw [eqb_is] at he; exact he
        have g1 : (R : Int) < 258 := by omega
        have g2 : (A : Int) + (R : Int) < (bn : Int) := by omega
        generalize bs[A + R]?.getD 0 = y0 at *
        generalize bs[q + R]?.getD 0 = y1 at *
        go_quiet (fail)
      rotate_left
      focus
        have g1' : ¬ (R : Int) < 258 := by omega
        go_quiet (fail)
      rotate_left
      focus
        have g1' : (R : Int) < 258 := by omega
        have g2' : ¬ (A : Int) + (R : Int) < (bn : Int) := by omega
        go_quiet (fail)
      all_goals go_wp2_with fail
      all_goals go_ret
      all_goals exact ⟨rfl, _, (by first | rfl | exact World.drewN_drewN _ _ _)⟩
end Go.Proofs.Ytbolaljlhmakeaa
