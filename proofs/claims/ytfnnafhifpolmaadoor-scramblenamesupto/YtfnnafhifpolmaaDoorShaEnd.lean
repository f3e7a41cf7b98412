/-
  What the words behind a block are, and that they are words. No condition.
-/
import Derived.Test.YtfnnafhifpolmaaDoorShaHash
namespace Go.Proofs.YtfnnafhifpolmaaDoor
open Go.RowKit
set_option linter.unusedVariables false
set_option linter.unusedSimpArgs false

theorem be4_wd {a b c d : Int} (ha : 0 ≤ a ∧ a ≤ 255) (hb : 0 ≤ b ∧ b ≤ 255) (hc : 0 ≤ c ∧ c ≤ 255) (hd : 0 ≤ d ∧ d ≤ 255) : Wd (be4 a b c d) := by unfold Wd be4; omega
theorem wds_wds {B : List Int} (hB : Byt B) : Wds (wds B) := by
  refine wds_mem fun x hx => ?_
  simp only [wds, List.mem_map] at hx
  obtain ⟨i, _, rfl⟩ := hx
  exact be4_wd (hB.at _) (hB.at _) (hB.at _) (hB.at _)
theorem zs_byt (n : Nat) : Byt (zs n) := fun x hx => by have := List.eq_of_mem_replicate hx; omega
theorem rBuilt0 : Tryd.prog.built 50 [] = some (vk .u8 (zs 64)) := by kernel_rfl
theorem mix1_wds (W b : List Int) (h : Wds W) : Wds (mix1 W b) := by
  refine wds_mem fun x hx => ?_
  simp only [mix1, List.mem_cons, List.not_mem_nil, or_false] at hx
  rcases hx with rfl | rfl | rfl | rfl | rfl | rfl | rfl | rfl
  · exact mod_wd _
  · exact mod_wd _
  · exact mod_wd _
  · exact mod_wd _
  · exact mod_wd _
  · exact h 5
  · exact h 6
  · exact h 7
theorem mix2_wds (W b : List Int) : Wds (mix2 W b) := by
  refine wds_mem fun x hx => ?_
  simp only [mix2, List.mem_cons, List.not_mem_nil, or_false] at hx
  rcases hx with rfl | rfl | rfl | rfl | rfl | rfl | rfl | rfl <;> exact mod_wd _
theorem mixk_wds (k : Int) (W b : List Int) (h : Wds W) : Wds (mixk k W b) := by
  unfold mixk
  split
  · exact mix1_wds W b h
  · exact mix2_wds W b
theorem list16 {l : List Int} (h : l.length = 16) : ∃ a0 a1 a2 a3 a4 a5 a6 a7 a8 a9 a10 a11 a12 a13 a14 a15, l = [a0, a1, a2, a3, a4, a5, a6, a7, a8, a9, a10, a11, a12, a13, a14, a15] := by
  match l, h with
  | [a0, a1, a2, a3, a4, a5, a6, a7, a8, a9, a10, a11, a12, a13, a14, a15], _ => exact ⟨a0, a1, a2, a3, a4, a5, a6, a7, a8, a9, a10, a11, a12, a13, a14, a15, rfl⟩
theorem mixk_len (k : Int) (W b : List Int) : (mixk k W b).length = 8 := by unfold mixk; split <;> rfl

end Go.Proofs.YtfnnafhifpolmaaDoor
