/-
  What the helpers of the statements return: a copy with room behind it that is not nothing, and whether such a copy is still what it was. Conditions: lengths below 2 to the 46.
-/
import Derived.Test.YtlicnhlgmnlaoaaMA
import Derived.Lib.AppendStr

namespace Go.Proofs.Ytlicnhlgmnlaoaa
open Go.RowKit
set_option linter.unusedVariables false
set_option linter.unusedSimpArgs false

/-- What lies behind a copy. -/
def kpad : List Int := [165, 165, 165, 165, 165, 165, 165, 165]

/-- The eight bytes that are laid behind a copy. -/
theorem Bs.kpad (w : World) : Bs (w.alloc (.cells #[.int .u8 165, .int .u8 165, .int .u8 165, .int .u8 165, .int .u8 165, .int .u8 165, .int .u8 165, .int .u8 165] 5)) (some ⟨w.heap.size, 0, none⟩) 8 8 kpad := by
  refine ⟨rfl, Nat.le_refl _, by omega, (fun e => by cases e), fun x hx => by simp [Go.Proofs.Ytlicnhlgmnlaoaa.kpad] at hx; omega, .inr ⟨w.heap.size, 0, rfl, fun i hi => ?_⟩⟩
  match i, hi with
  | 0, _ | 1, _ | 2, _ | 3, _ | 4, _ | 5, _ | 6, _ | 7, _ => simp [Go.Proofs.Ytlicnhlgmnlaoaa.kpad]

set_option maxHeartbeats 400000 in
theorem own_any (ao : Option Addr) (n c : Nat) (bs : List Int) (w : World) (h : Bs w ao n c bs) (hbound : (n : Int) + 8 ≤ 140737488355328) :
    Calls Try.prog 8 #[.slice ao n c] w fun e w' => ∃ g, e = .returned (.slice (some ⟨g, 0, none⟩) n (n + 8)) ∧ Bs w' (some ⟨g, 0, none⟩) (n + 8) (n + 8) (bs ++ kpad) ∧ Below w.heap.size w w' := by
  have hlen := hide h.len
  have hmax := h.max
  have hle := h.le
  go_enter Try.func8, Try.ntmps8
  go_wp2_with (first
    | (at_make; refine wpList_mk rfl _ _ rfl _ _ _ (n + 8) rfl rfl (by omega) (by omega) ?_; intro w1 hm1 hb1 hz1)
    | (at_builtin; refine wpList_appFits rfl (.tmp 6) (.tmp 7) rfl w.heap.size _ _ _ _ rfl hm1 _ _ _ _ rfl (h.later hb1) (by omega) (by omega) ?_; intro w2 hm2 hb2; rw [Nat.zero_add, List.nil_append] at hm2; have hz2 := hb2.size)
    | (at_builtin; refine wpList_appFits rfl (.tmp 8) (.tmp 9) rfl w.heap.size _ _ _ _ rfl (hm2.later (below_alloc w2 _)) _ _ _ _ rfl (Bs.kpad w2) (by omega) (by simp; omega) ?_; intro w3 hm3 hb3))
  go_ret
  exact ⟨w.heap.size, rfl, hm3.bs, ((hb1.trans hb2).trans ((below_alloc w2 _).mono (by omega))).trans hb3⟩


end Go.Proofs.Ytlicnhlgmnlaoaa
