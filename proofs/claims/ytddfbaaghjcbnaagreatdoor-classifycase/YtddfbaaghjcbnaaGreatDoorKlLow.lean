/-
  What lower of package classify returns for any text. Conditions: at most 2 to the 47 bytes.
-/
import Derived.Test.YtddfbaaghjcbnaaGreatDoorScLow
namespace Go.Proofs.YtddfbaaghjcbnaaGreatDoor
open Go.RowKit
set_option linter.unusedVariables false
set_option linter.unusedSimpArgs false

set_option maxHeartbeats 1000000 in
set_option maxRecDepth 20000 in
theorem clower_any (s : ByteArray) (w : World) (hs : s.size ≤ 140737488355328) :
    Calls Tryz.prog 90 #[.string s] w fun e w' => e = .returned (.string (ba (low (bl s)))) ∧ Below w.heap.size w w' := by
  have hcv := run_toBytes s w
  have hc1 := grownCap_ge w s.size 0 5
  have hc2 := grownCap_le_maxLen w s.size 0 5 (by unfold maxLen; omega)
  unfold maxLen at hc2
  have H0 := hide (Lws.first s w hs)
  have HB := hide (below_bytesWorld w 5 s)
  generalize grownCap w s.size 0 5 = c at *
  generalize Lib.bytesWorld w 5 s = w1 at *
  obtain ⟨g, hg⟩ : ∃ g, g = w.heap.size := ⟨_, rfl⟩
  rw [← hg] at hcv H0 HB ⊢
  have HG := hide hg
  clear hg
  rw [← low_str]
  go_enter Tryz.func90, Tryz.ntmps90
  go_wp2_with fail
  go_loopw [10] (fun i wr => ∃ j : Nat, j ≤ s.size ∧ i = .int .i64 j ∧ Lws s g j wr ∧ Below g w wr) (fun i _ => s.size - (intOf i).toNat)
  case atStart => exact ⟨0, by omega, rfl, unhide H0, unhide HB⟩
  case round =>
    obtain ⟨j, hj, rfl, hL, hbel⟩ := hrel
    have HL := hide hL
    have HB2 := hide hbel
    clear hL hbel
    by_cases hlt : j < s.size
    · have hix := fun wx => run_idxOwn1 g s.size c hlt (j : Int) rfl wx
      have cc := (unhide HL j hlt).1
      rw [if_neg (Nat.lt_irrefl j)] at cc
      have fr := (unhide HL j hlt).2
      have HX := hide (lwAt_b s j)
      have b0 := (lwAt_b s j).1
      have b1 := (lwAt_b s j).2
      have HS := hide (fun v => (unhide HL).stored hlt v)
      have HK := hide ((unhide HL).kept)
      generalize hx : lwAt s j = x at *
      by_cases h1 : 65 ≤ x ∧ x ≤ 90
      · have hv := hide (show x - 65 + 97 = lwI x by unfold lwI; rw [if_pos h1]; omega)
        obtain ⟨h1, h2⟩ := h1
        clear hx HK
        go_wp2_with fail
        go_roundw
        case rel => exact ⟨j + 1, by omega, by go_num, unhide HS _ (unhide hv), (unhide HB2).setCell (Nat.le_refl _) _⟩
        case measure => simp [intOf]; omega
      · have hv := hide (show lwI x = x by unfold lwI; rw [if_neg h1])
        clear hx HS
        have h3 : x < 65 ∨ (65 ≤ x ∧ 90 < x) := by omega
        rcases h3 with h3 | ⟨h3, h4⟩
        all_goals
          go_wp2_with fail
          go_roundw
          case rel => exact ⟨j + 1, by omega, by go_num, unhide HK (unhide hv), unhide HB2⟩
          case measure => simp [intOf]; omega
    · have hst := ((unhide HL).bs (by omega) hc1 hc2).str
      go_wp2_with fail
      go_ret
      exact ⟨rfl, unhide HB2⟩
end Go.Proofs.YtddfbaaghjcbnaaGreatDoor
