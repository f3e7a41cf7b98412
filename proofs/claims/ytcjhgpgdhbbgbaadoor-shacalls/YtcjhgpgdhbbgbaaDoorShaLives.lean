/-
  The chapter's examples that every statement of layer 7 asks first come out as they are written. Conditions: the table of constants holds what the program's text says.
-/
import Derived.Test.YtcjhgpgdhbbgbaaDoorShaHex
namespace Go.Proofs.YtcjhgpgdhbbgbaaDoor
open Go.RowKit
set_option linter.unusedVariables false
set_option linter.unusedSimpArgs false

theorem byt8 {l : List Int} (h : l.all (fun x => decide (0 ≤ x) && decide (x ≤ 255)) = true) : Byt l := by
  intro x hx
  have := List.all_eq_true.1 h x hx
  simpa using this
theorem sx1 : strOfNums (hexl (sumk 1 [97, 98, 99])) = { data := #[97, 57, 57, 57, 51, 101, 51, 54, 52, 55, 48, 54, 56, 49, 54, 97, 98, 97, 51, 101, 50, 53, 55, 49, 55, 56, 53, 48, 99, 50, 54, 99, 57, 99, 100, 48, 100, 56, 57, 100] } := by kernel_rfl
theorem sx2 : strOfNums (hexl (sumk 2 [97, 98, 99])) = { data := #[98, 97, 55, 56, 49, 54, 98, 102, 56, 102, 48, 49, 99, 102, 101, 97, 52, 49, 52, 49, 52, 48, 100, 101, 53, 100, 97, 101, 50, 50, 50, 51, 98, 48, 48, 51, 54, 49, 97, 51, 57, 54, 49, 55, 55, 97, 57, 99, 98, 52, 49, 48, 102, 102, 54, 49, 102, 50, 48, 48, 49, 53, 97, 100] } := by kernel_rfl

/-- The hash of a text that is written out, in hexadecimal digits. -/
theorem sum1_const (w : World) (hv : Vars w) (C : Array Value) (k : Nat × Nat) (l : List Int) (hC : C = (l.map (Value.int .u8)).toArray) (h : Byt l) (hl : l.length ≤ 1000) (n : Nat) (hn : n = l.length) :
    Calls Tryd.prog 10 #[.slice (some ⟨w.heap.size, 0, none⟩) n n] (w.alloc (.cells C 5 k)) fun e w' => ∃ ao n c, e = .returned (.slice ao n c) ∧ Bs w' ao n c (sumk 1 l) ∧ Below w.heap.size w w' := by
  subst hC hn
  refine (sum1_any _ _ _ l _ (Bs.const w k l h hl) (hv.low (below_alloc w _)) (by omega)).mono ?_
  rintro e w' ⟨ao, n, c, rfl, hm, hb⟩
  exact ⟨ao, n, c, rfl, hm.bs, (below_alloc w _).trans (hb.mono (by simp))⟩
theorem sum256_const (w : World) (hv : Vars w) (C : Array Value) (k : Nat × Nat) (l : List Int) (hC : C = (l.map (Value.int .u8)).toArray) (h : Byt l) (hl : l.length ≤ 1000) (n : Nat) (hn : n = l.length) :
    Calls Tryd.prog 11 #[.slice (some ⟨w.heap.size, 0, none⟩) n n] (w.alloc (.cells C 5 k)) fun e w' => ∃ ao n c, e = .returned (.slice ao n c) ∧ Bs w' ao n c (sumk 2 l) ∧ Below w.heap.size w w' := by
  subst hC hn
  refine (sum256_any _ _ _ l _ (Bs.const w k l h hl) (hv.low (below_alloc w _)) (by omega)).mono ?_
  rintro e w' ⟨ao, n, c, rfl, hm, hb⟩
  exact ⟨ao, n, c, rfl, hm.bs, (below_alloc w _).trans (hb.mono (by simp))⟩
theorem told_le (n : Nat) (W : List Int) (h : W.length = 8) : (told n W).length ≤ 32 := by
  unfold told
  rw [List.length_flatMap]
  have e : (List.map (fun a => (sm4 a).length) (List.take n W)) = List.replicate (List.take n W).length 4 := by
    rw [List.eq_replicate_iff]
    refine ⟨by simp, fun b hb => ?_⟩
    simp only [List.mem_map] at hb
    obtain ⟨a, _, rfl⟩ := hb
    rfl
  rw [e]
  simp
  omega
theorem sumk_le (k : Int) (xs : List Int) : (sumk k xs).length ≤ 32 := told_le _ _ (wf_len _ _ _)

set_option maxHeartbeats 2000000 in
set_option maxRecDepth 20000 in
theorem shalives_any (w : World) (hv : Vars w) : Calls Tryd.prog 8 #[] w fun e w' => e = .returned (.bool true) ∧ Below w.heap.size w w' := by
  have kc := run_const
  have HV := hide hv
  have uc := hide (sum1_const w hv _ (3, 4) [97, 98, 99] rfl (byt8 (by decide)) (by decide) 3 rfl)
  clear hv
  go_enter Tryd.func8, Tryd.ntmps8
  go_wp2_with fail
  refine (unhide uc).mono ?_
  rintro e w1 ⟨a1, n1, c1, rfl, i1, b1⟩
  have hx := hide (hex_any a1 n1 c1 _ w1 i1 (by have := i1.len; have := sumk_le 1 [97, 98, 99]; omega))
  rw [sx1] at hx
  have B1 := hide b1
  clear i1 b1 uc
  go_wp2_with fail
  refine (unhide hx).mono ?_
  rintro e w2 ⟨rfl, b2⟩
  have B2 := hide ((unhide B1).trans (b2.mono (unhide B1).size))
  have u2 := hide (sum256_const w2 ((unhide HV).low (unhide B2)) _ (3, 4) [97, 98, 99] rfl (byt8 (by decide)) (by decide) 3 rfl)
  clear b2 B1 hx
  go_wp2_with fail
  refine (unhide u2).mono ?_
  rintro e w3 ⟨a3, n3, c3, rfl, i3, b3⟩
  have hx := hide (hex_any a3 n3 c3 _ w3 i3 (by have := i3.len; have := sumk_le 2 [97, 98, 99]; omega))
  rw [sx2] at hx
  have B3 := hide ((unhide B2).trans (b3.mono (unhide B2).size))
  clear i3 b3 u2 B2
  go_wp2_with fail
  refine (unhide hx).mono ?_
  rintro e w4 ⟨rfl, b4⟩
  have B4 := hide ((unhide B3).trans (b4.mono (unhide B3).size))
  clear b4 hx B3
  go_wp2_with fail
  go_ret
  exact ⟨rfl, unhide B4⟩
end Go.Proofs.YtcjhgpgdhbbgbaaDoor
