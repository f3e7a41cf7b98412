/-
  The chapter's examples that every statement of layer 9 asks first come out as they are written. Conditions: none.
-/
import Derived.Test.YtoblnmbbdhagbaaPktJoin
import Derived.Test.YtoblnmbbdhagbaaSameP
namespace Go.Proofs.Ytoblnmbbdhagbaa
open Go.RowKit
set_option linter.unusedVariables false
set_option linter.unusedSimpArgs false

/-- A list of one packet, written out. -/
theorem Pks.lit1 (w : World) (p : Pm) (hp : Pok p) (hb : Bs w p.ao p.bs.length p.cap p.bs) : Pks (w.alloc (.cells (pv p) 35)) (some ⟨w.heap.size, 0, none⟩) 1 1 [p] := by
  have h : Px (w.alloc (.cells (pv p) 35)) w.heap.size p := heap_alloc_new w _
  refine ⟨rfl, Nat.le_refl _, by omega, (fun e => by cases e), fun q hq => ?_, fun q hq => ?_, .inr ⟨w.heap.size, 0, rfl, fun i q hi => ?_⟩⟩
  · simp at hq; subst hq; exact hp
  · simp at hq; subst hq; exact hb.later (below_alloc w _)
  · have hi0 : i = 0 := by
      have := (List.getElem?_eq_some_iff.1 hi).1
      simp at this
      exact this
    subst hi0
    simp at hi
    subst hi
    exact ⟨h.c0, h.c1, h.c2⟩

def abcdef : List Int := [97, 98, 99, 100, 101, 102]
def exA : List Int := [4, 0, 0, 254, 97, 98, 99, 100, 2, 0, 0, 255, 101, 102]
def exB : List Int := [1, 0, 0, 7, 97, 1, 0]
theorem split_A : splitR 4 abcdef 254 = (exA, 0, 0) := by kernel_rfl
theorem join_B : joinR 4 9 exB = ([(7, 8, [97])], 5, 4) := by kernel_rfl
theorem byt_lit {l : List Int} (h : (l.all fun x => decide (0 ≤ x ∧ x ≤ 255)) = true) : Byt l := fun x hx => of_decide_eq_true (List.all_eq_true.1 h x hx)

set_option maxHeartbeats 1000000 in
set_option maxRecDepth 20000 in
theorem lives_any (w : World) : Calls Try.prog 16 #[] w fun e w' => e = .returned (.bool true) ∧ Below w.heap.size w w' := by
  have hcv := run_const w #[.int .u8 97, .int .u8 98, .int .u8 99, .int .u8 100, .int .u8 101, .int .u8 102] 6 6
  have b0 : Below w.heap.size w (w.alloc (.cells #[.int .u8 97, .int .u8 98, .int .u8 99, .int .u8 100, .int .u8 101, .int .u8 102] 5 (6, 7))) := below_alloc w _
  have c0 := hide (split_any (some ⟨w.heap.size, 0, none⟩) 6 6 abcdef 254 4 _ (Bs.const w (6, 7) abcdef (byt_lit rfl) (by decide)) (by decide) (by decide) (by decide))
  rw [split_A] at c0
  have B0 := hide b0
  clear b0
  go_enter Try.func16, Try.ntmps16
  go_wp2_with fail
  refine (unhide c0).mono ?_
  rintro e w1 ⟨a1, c1, rfl, m1, b1⟩
  have B1 := hide ((unhide B0).trans (b1.mono (by simp)))
  have M1 := hide m1.bs
  have bb1 := below_alloc w1 (.cells #[.int .u8 1, .int .u8 0, .int .u8 0, .int .u8 7, .int .u8 97, .int .u8 1, .int .u8 0] 5)
  have cj := hide (join_any (some ⟨w1.heap.size, 0, none⟩) 7 7 exB 4 9 _ (Bs.lit w1 exB (byt_lit rfl) (by decide)) (by decide))
  rw [join_B] at cj
  have BB1 := hide bb1
  clear m1 b1 c0 hcv bb1
  go_wp2_with fail
  refine (unhide cj).mono ?_
  rintro e w2 ⟨to, tn, tc, l, rfl, p2, hl2, b2⟩
  have z1 := (unhide B1).size
  have B2 := hide ((unhide B1).trans (((unhide BB1).mono z1).trans (b2.mono (by simp; omega))))
  have M2 := hide (((unhide M1).later (unhide BB1)).later b2)
  have P2 := hide p2
  have HL2 := hide hl2
  have bb2 := below_alloc w2 (.cells (exA.map (Value.int .u8)).toArray 5)
  have cs := hide (sameBytes_any a1 exA.length c1 exA (some ⟨w2.heap.size, 0, none⟩) 14 14 exA _ ((unhide M2).later bb2) (Bs.lit w2 exA (byt_lit rfl) (by decide)))
  rw [show decide (exA = exA) = true by simp] at cs
  obtain ⟨w3, hw3⟩ : ∃ wx, wx = w2.alloc (.cells (exA.map (Value.int .u8)).toArray 5) := ⟨_, rfl⟩
  rw [← hw3] at cs bb2
  have P3 := hide ((unhide P2).later bb2)
  have B3 := hide ((unhide B2).trans (bb2.mono (unhide B2).size))
  have hw3' := hw3.symm
  simp only [exA, List.map_cons, List.map_nil] at hw3'
  clear p2 hl2 b2 bb2 cj BB1 B1 B2 M1 M2 P2 hw3
  have hcv := run_const w3 #[.int .u8 97] 1 1
  have q3 : Bs (w3.alloc (.cells #[.int .u8 97] 5 (1, 2))) (some ⟨w3.heap.size, 0, none⟩) 1 1 [97] := Bs.const w3 (1, 2) [97] (byt_lit rfl) (by decide)
  have q4 : Pks ((w3.alloc (.cells #[.int .u8 97] 5 (1, 2))).alloc (.cells #[.int .u8 7, .int .u8 8, .slice (some ⟨w3.heap.size, 0, none⟩) 1 1] 35)) (some ⟨w3.heap.size + 1, 0, none⟩) 1 1 [⟨7, 8, some ⟨w3.heap.size, 0, none⟩, 1, [97]⟩] := by
    have := Pks.lit1 _ ⟨7, 8, some ⟨w3.heap.size, 0, none⟩, 1, [97]⟩ ⟨by simp, by simp, by simp, by simp⟩ q3
    rw [show (w3.alloc (.cells #[.int .u8 97] 5 (1, 2))).heap.size = w3.heap.size + 1 by simp] at this
    exact this
  have b3 := below_alloc w3 (.cells #[.int .u8 97] 5 (1, 2))
  have b4 := below_alloc (w3.alloc (.cells #[.int .u8 97] 5 (1, 2))) (.cells #[.int .u8 7, .int .u8 8, .slice (some ⟨w3.heap.size, 0, none⟩) 1 1] 35)
  have P4 := ((unhide P3).later b3).later b4
  have cp := hide (samePackets_any _ to tn tc _ 1 1 l _ P4 q4 (by rw [unhide HL2]; rfl))
  have B4 := hide ((unhide B3).trans ((b3.mono (unhide B3).size).trans (b4.mono (by have := (unhide B3).size; simp; omega))))
  clear q3 q4 b3 b4 P4
  go_wp2_with (first
    | (go_at_call 10; refine same_world (unhide cs) ?_)
    | (go_at_call 13; refine (unhide cp).mono ?_; rintro e w5 ⟨rfl, j, rfl⟩))
  go_ret
  exact ⟨rfl, (unhide B4).trans ⟨rfl, rfl, rfl, Nat.le_refl _, fun _ _ => rfl⟩⟩

end Go.Proofs.Ytoblnmbbdhagbaa
