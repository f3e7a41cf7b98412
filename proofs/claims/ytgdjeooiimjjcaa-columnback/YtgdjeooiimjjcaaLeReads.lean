/-
  What the reading functions of package lenenc, and those that give the document's answer, return for any bytes: the plain functions readFixed, readInt of the text Plain. They write nothing. Conditions: none but that the slice can be read.
-/
import Derived.Test.YtgdjeooiimjjcaaLeLeaf
namespace Go.Proofs.Ytgdjeooiimjjcaa
open Go.RowKit
set_option linter.unusedVariables false
set_option linter.unusedSimpArgs false

set_option maxHeartbeats 400000 in
set_option maxRecDepth 100000 in
theorem readFixed_ref (ao : Option Addr) (n c : Nat) (bs : List Int) (k : Int) (w : World) (h : Bs w ao n c bs) :
    Calls Try.prog 45 #[.slice ao n c, .int .i64 k] w fun e w' => e = .returned (.tuple #[.int .u64 (readFixed bs k).1, .int .i64 (readFixed bs k).2]) ∧ w' = w := by
  have hlen := h.len
  have hmax := h.max
  have hle := h.le
  by_cases h1 : 1 ≤ k
  · have hd1 : decide (k < 1) = false := by simp; omega
    by_cases h8 : k ≤ 8
    · by_cases h2 : (n : Int) < k
      · have e : readFixed bs k = (0, 4) := by simp [readFixed, h1, h8, hlen, h2]
        rw [e]
        clear e
        go_enter Try.func45, Try.ntmps45
        go_wp2
        go_ret2
        exact ⟨rfl, rfl⟩
      · have e : readFixed bs k = (val bs k.toNat, 0) := by simp [readFixed, h1, h8, hlen, h2]
        rw [e]
        clear e
        rcases h.at' with h0 | ⟨b, off, rfl, hcell⟩
        · omega
        have hby := h.byt
        clear h hlen
        go_enter Try.func45, Try.ntmps45
        go_wp2
        go_loop [6, 7] (fun x i => ∃ m : Nat, (m : Int) ≤ k ∧ i = .int .i64 m ∧ x = .int .u64 (val bs m)) (fun _ i => (k - intOf i).toNat)
        case atStart => exact ⟨0, by omega, rfl, rfl⟩
        case round =>
          obtain ⟨m, hm, rfl, rfl⟩ := hrel
          by_cases hlt : (m : Int) < k
          · have hcc := hcell m (by omega)
            have hb2 := hby.at m
            have hst := hide (or_step hby m (by omega))
            go_wp2
            go_round
            case rel => exact ⟨m + 1, by omega, by go_num, by rw [unhide hst]⟩
            case measure => simp [intOf]; omega
          · have he := hide (show m = k.toNat by omega)
            go_wp2
            go_ret2
            exact ⟨tup2 (by rw [unhide he]) rfl, rfl⟩
    · have hd : decide (8 < k) = true := by simp; omega
      have e : readFixed bs k = (0, 2) := by simp only [readFixed]; rw [if_pos (by omega)]
      rw [e]
      clear e
      go_enter Try.func45, Try.ntmps45
      go_wp2
      go_ret2
      exact ⟨rfl, rfl⟩
  · have hd : decide (k < 1) = true := by simp; omega
    have e : readFixed bs k = (0, 2) := by simp only [readFixed]; rw [if_pos (by omega)]
    rw [e]
    clear e
    go_enter Try.func45, Try.ntmps45
    go_wp2
    go_ret2
    exact ⟨rfl, rfl⟩

end Go.Proofs.Ytgdjeooiimjjcaa
