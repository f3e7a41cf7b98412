/-
  The closed statement on the chapter's examples returns true, and writes nothing that was there. Conditions: none.
-/
import Derived.Test.YtmndgdclcompjaaAdlLives
namespace Go.Proofs.Ytmndgdclcompjaa
open Go.RowKit
set_option linter.unusedVariables false
set_option linter.unusedSimpArgs false

/-- How far the row is filled. -/
def filled (Z m : Nat) : List Int := List.replicate m 255 ++ List.replicate (Z - m) 0

theorem filled_step (Z m : Nat) (h : m < Z) : (filled Z m).set m 255 = filled Z (m + 1) := by
  unfold filled
  obtain ⟨k, hk⟩ : ∃ k, Z - m = k + 1 := ⟨Z - m - 1, by omega⟩
  rw [show Z - (m + 1) = k by omega, hk, List.set_append_right _ _ (by simp), List.length_replicate, Nat.sub_self, List.replicate_succ, List.set_cons_zero, List.replicate_succ', List.append_assoc]
  rfl

set_option maxHeartbeats 2000000 in
theorem lawNames (w : World) : Calls Try.prog 3 #[] w fun e w' => e = .returned (.bool true) ∧ Below w.heap.size w w' := by
  have kc := run_const
  have s1 := hide (show sumOf [97] = 6422626 by decide +kernel)
  have s2 := hide (show joined 65521 1 0 = (0, 2) by decide +kernel)
  have s3 := hide (show rolled 1 0 0 0 = (0, 2) by decide +kernel)
  obtain ⟨Z, hZ⟩ : ∃ Z : Nat, Z = 6000 := ⟨_, rfl⟩
  have s4 := hide (show sumOf (filled Z Z) = 2761382378 by rw [filled, Nat.sub_self, List.replicate_zero, List.append_nil, hZ]; exact sum_full)
  have hZi : (6000 : Int) = (Z : Int) := by omega
  have hZ0 : Z ≤ 140737488355328 := by omega
  clear hZ
  have HZ := hide hZi
  clear hZi
  go_enter Try.func3, Try.ntmps3
  go_wp2_with (at_make; refine wpList_mkFull rfl _ _ rfl _ _ _ _ Z rfl rfl (unhide HZ) (unhide HZ) hZ0 ?_; intro w1 hm1 hb1 hz1)
  have M1 : Mine w.heap.size w1 (some ⟨w.heap.size, 0, none⟩) Z Z (filled Z 0) := by simpa [filled] using hm1
  clear hm1
  have HM1 := hide M1
  clear M1
  go_loopw [2] (fun i wr => ∃ m : Nat, m ≤ Z ∧ i = .int .i64 m ∧ Mine w.heap.size wr (some ⟨w.heap.size, 0, none⟩) Z Z (filled Z m) ∧ Below w.heap.size w wr) (fun i _ => Z - (intOf i).toNat)
  case atStart => exact ⟨0, by omega, rfl, unhide HM1, hb1⟩
  case round =>
    obtain ⟨m, hm, rfl, hmine, hbel⟩ := hrel
    by_cases hlt : m < Z
    · have hfz := hmine.free m
      have hcc : wr.cell? ⟨w.heap.size, m, none⟩ = some (.int .u8 ((filled Z m).getD m 0)) := by
        have hl := hmine.len
        rw [hmine.own.cellAt m (by omega), List.getElem?_map, List.getElem?_eq_getElem (by omega)]
        simp [List.getElem?_eq_getElem (show m < (filled Z m).length by omega)]
      have hst := hmine.stored m 255 (by omega) (by omega)
      rw [filled_step Z m hlt] at hst
      have hblk := hmine.block
      have HS := hide hst
      have hb2 : Below w.heap.size w (wr.setCell ⟨w.heap.size, m, none⟩ (.int .u8 255)) := hbel.setCell (Nat.le_refl _) _
      generalize (filled Z m).getD m 0 = v at hcc
      clear hst hmine
      go_wp2
      go_roundw
      case rel => exact ⟨m + 1, by omega, by go_num, unhide HS, hb2⟩
      case measure => simp [intOf]; omega
    · have e : m = Z := by omega
      subst e
      have HM := hide hmine.bs
      have hzr := hbel.size
      clear hmine
      go_wp2_with fail
      have cc := joined_any 65521 1 0 wr (by omega) (by omega) (by omega) (by omega) (by omega)
      rw [unhide s2] at cc
      refine same_world cc ?_
      clear cc
      go_wp2_with fail
      have cc := rolled_any 1 0 0 0 wr (by omega) (by omega) (by omega) (by omega) (by omega) (by omega) (by omega)
      rw [unhide s3] at cc
      refine same_world cc ?_
      clear cc
      go_wp2_with fail
      refine (lives_any _).mono ?_
      rintro e w2 ⟨rfl, hb2⟩
      have hz2 := hb2.size
      go_wp2_with fail
      refine (sum_any _ _ _ _ _ (show Bs (w2.alloc (.cells #[.int .u8 97] 5 (1, 2))) (some ⟨w2.heap.size, 0, none⟩) 1 1 [97] from Bs.const w2 (1, 2) [97] (by intro x hx; simp at hx; omega) (by decide))).mono ?_
      rw [unhide s1]
      rintro e w3 ⟨rfl, hw3⟩
      have hb3 : Below w2.heap.size w2 w3 := by rw [hw3]; exact below_alloc w2 _
      clear hw3
      go_wp2_with fail
      have cc := sum_any _ _ _ _ _ (((unhide HM).later hb2).later hb3)
      rw [unhide s4] at cc
      refine same_world cc ?_
      clear cc
      go_wp2_with fail
      go_ret
      exact ⟨rfl, (hbel.trans (hb2.mono hzr)).trans (hb3.mono (by omega))⟩

end Go.Proofs.Ytmndgdclcompjaa
