/-
  What Put and Write of the document's own answer return for any lengths and symbols: the same plain functions. They write nothing that was there. Conditions: the slices can be read, at most a thousand symbols.
-/
import Derived.Test.YtbolaljlhmakeaaMBit
import Derived.Test.YtbolaljlhmakeaaHufRefCodes2
namespace Go.Proofs.Ytbolaljlhmakeaa
open Go.RowKit
set_option linter.unusedVariables false
set_option linter.unusedSimpArgs false

set_option maxHeartbeats 4000000 in
set_option maxRecDepth 20000 in
theorem put_ref (B : Nat) (ao : Option Addr) (n c : Nat) (bs : List Int) (A : Nat) (X : Int) (w : World) (hm : Mine B w ao n c bs) (hW : Wst bs A) (hA : A ≤ 1000000) (hX0 : 0 ≤ X) (hX1 : X ≤ 1) (hB : B ≤ w.heap.size) :
    Calls Try.prog 48 #[.slice ao n c, .int .i64 (A : Int), .int .i64 X] w fun e w' => (∃ ao1 n1 c1, e = .returned (.slice ao1 n1 c1) ∧ Mine B w' ao1 n1 c1 (putB bs A X)) ∧ Below B w w' := by
  have hxl := hm.len
  have hwl := hW.len
  have hv := put_val hW hX0 hX1
  have hra := room8_at hW
  have hor := or_u8 _ _ (A % 8) (by omega) hra.1 hra.2 hX0 hX1
  obtain ⟨V, hV⟩ : ∃ V, V = (room8 bs A)[A / 8]?.getD 0 := ⟨_, rfl⟩
  have hst := hide (show ∀ (w : World) (g n c : Nat), Mine B w (some ⟨g, 0, none⟩) n c (room8 bs A) → Mine B (w.setCell ⟨g, A / 8, none⟩ (.int .u8 (V + X * 2 ^ (A % 8)))) (some ⟨g, 0, none⟩) n c (putB bs A X) from fun w g n c q => by rw [hV]; exact put_stored hW q hX0 hX1)
  rw [← hV] at hra hor hv
  have HV := hide hV
  have HM := hide hm
  by_cases h8 : A % 8 = 0
  · have hroom := hide (show room8 bs A = bs ++ [0] by unfold room8; rw [if_pos h8])
    have h8' : (A : Int) % 8 = 0 := by omega
    have hp1 : X * 2 ^ (A % 8) = X := by rw [h8]; simp
    rw [hp1] at hor hst hv
    clear hm hW hV hp1
    go_enter Try.func48, Try.ntmps48
    go_wp2_with (at_builtin; refine wpList_app rfl (.tmp 10) (.tmp 11) rfl B _ _ _ _ rfl ((unhide HM).later (below_alloc w _)) _ _ _ _ rfl (Bs.one w 0 (by omega) (by omega)) (by omega) (by simp <;> omega) ?_; intro ao2 c2 w2 m2 b2; rw [← unhide hroom] at m2; obtain ⟨g, rfl⟩ := m2.some (by omega); have hix := run_idxOwn g (n + 1) c2 (show A / 8 < n + 1 by omega) ((A : Int) / 8) (by omega); have cc := mine_cell m2 (show A / 8 < n + 1 by omega); rw [← unhide HV] at cc; have fr := m2.free (A / 8); have M2 := hide m2; have gB := m2.block; clear m2)
    go_ret
    exact ⟨⟨_, _, _, rfl, unhide hst _ _ _ _ (unhide M2)⟩, (((below_alloc w _).mono hB).trans b2).setCell gB.1 _⟩
  · have h8' : ((A : Int) % 8 == 0) = false := by simp; omega
    have m2 : Mine B w ao n c (room8 bs A) := by unfold room8; rw [if_neg h8]; exact hm
    clear hm hW hV
    generalize hP : X * 2 ^ (A % 8) = PP at *
    obtain ⟨g, rfl⟩ := m2.some (by omega)
    have hlt : A / 8 < n := by omega
    have hix := run_idxOwn g n c hlt ((A : Int) / 8) (by omega)
    have cc := mine_cell m2 hlt
    rw [← unhide HV] at cc
    have fr := m2.free (A / 8)
    have M2 := hide m2
    have gB := m2.block
    clear m2
    go_enter Try.func48, Try.ntmps48
    go_wp2_with fail
    go_ret
    exact ⟨⟨_, _, _, rfl, unhide hst _ _ _ _ (unhide M2)⟩, (Below.refl _ _).setCell gB.1 _⟩

end Go.Proofs.Ytbolaljlhmakeaa
