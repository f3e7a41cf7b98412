/-
  The chapter's examples that every statement of layer 3 asks first come out as they are written. Conditions: none.
-/
import Derived.Test.YtgphglghjpeojaaHufWrite
import Derived.Test.YtgphglghjpeojaaSameB
import Derived.Test.YtgphglghjpeojaaSameI
namespace Go.Proofs.Ytgphglghjpeojaa
open Go.RowKit
set_option linter.unusedVariables false
set_option linter.unusedSimpArgs false

theorem l64 {l : List Int} (h : l.all (fun x => decide (0 ≤ x) && decide (x ≤ 1000)) = true) : I64 l := by
  intro x hx
  have := List.all_eq_true.1 h x hx
  simp at this
  omega
theorem l8 {l : List Int} (h : l.all (fun x => decide (0 ≤ x) && decide (x ≤ 255)) = true) : Byt l := by
  intro x hx
  have := List.all_eq_true.1 h x hx
  simpa using this

/-- A slice of ints written out, at any later world. -/
theorem lit_is {w w' : World} {C : Array Value} (l : List Int) (hC : C = (l.map (Value.int .i64)).toArray) (h : I64 l) (hl : l.length ≤ 1000) (n : Nat) (hn : n = l.length) (hb : Below (w.heap.size + 1) (w.alloc (.cells C 3)) w') : Is w' (some ⟨w.heap.size, 0, none⟩) n n l := by
  subst hC hn
  exact (Is.lit w l h hl).later (by simpa using hb)
theorem lit_bs {w w' : World} {C : Array Value} (l : List Int) (hC : C = (l.map (Value.int .u8)).toArray) (h : Byt l) (hl : l.length ≤ 1000) (n : Nat) (hn : n = l.length) (hb : Below (w.heap.size + 1) (w.alloc (.cells C 5)) w') : Bs w' (some ⟨w.heap.size, 0, none⟩) n n l := by
  subst hC hn
  exact (Bs.lit w l h hl).later (by simpa using hb)

theorem b_alloc {B : Nat} {w0 w : World} (h : Below B w0 w) (hB : B ≤ w.heap.size) (o : Obj) : Below B w0 (w.alloc o) := h.alloc hB o
theorem here (w : World) : Below w.heap.size w w := Below.refl _ _

set_option maxHeartbeats 4000000 in
set_option maxRecDepth 20000 in
theorem lives_any (w : World) : Calls Try.prog 10 #[] w fun e w' => e = .returned (.bool true) ∧ Below w.heap.size w w' := by
  have e1 := hide (show cer [3, 3, 3, 3, 3, 2, 4, 4] = 0 by decide +kernel)
  have e2 := hide (show cdd [3, 3, 3, 3, 3, 2, 4, 4] = [2, 3, 4, 5, 6, 0, 14, 15] by decide +kernel)
  have e3 := hide (show wrq [1, 2, 2] [0, 1, 2] = ([26], 5, 0) by decide +kernel)
  have e4 := hide (show rdq [1, 2, 2] [26] 1 = (1, 2, 0) by decide +kernel)
  go_enter Try.func10, Try.ntmps10
  go_wp2_with fail
  have c1 := codes_any _ _ _ _ _ (lit_is (w := w) (w' := w.alloc (.cells #[.int .i64 3, .int .i64 3, .int .i64 3, .int .i64 3, .int .i64 3, .int .i64 2, .int .i64 4, .int .i64 4] 3)) [3, 3, 3, 3, 3, 2, 4, 4] rfl (l64 (by decide)) (by decide) 8 rfl (Below.refl _ _))
  rw [unhide e1, unhide e2] at c1
  refine c1.mono ?_
  clear c1
  rintro e w1 ⟨⟨ao1, n1, k1, rfl, i1⟩, b1⟩
  have bb1 : Below w.heap.size w w1 := (below_alloc w _).trans (b1.mono (by simp))
  have z1 := bb1.size
  have I1 := hide i1
  clear i1 b1
  go_wp2_with fail
  have c2 := write_any _ _ _ _ _ _ _ _ _ (lit_is (w := w1) (w' := (w1.alloc (.cells #[.int .i64 1, .int .i64 2, .int .i64 2] 3)).alloc (.cells #[.int .i64 0, .int .i64 1, .int .i64 2] 3)) [1, 2, 2] rfl (l64 (by decide)) (by decide) 3 rfl ((Below.refl _ _).alloc (by simp) _))
    (lit_is (w := w1.alloc (.cells #[.int .i64 1, .int .i64 2, .int .i64 2] 3)) (w' := (w1.alloc (.cells #[.int .i64 1, .int .i64 2, .int .i64 2] 3)).alloc (.cells #[.int .i64 0, .int .i64 1, .int .i64 2] 3)) [0, 1, 2] rfl (l64 (by decide)) (by decide) 3 rfl (Below.refl _ _)) (by decide)
  rw [unhide e3] at c2
  simp only [World.size_alloc] at c2
  refine c2.mono ?_
  clear c2
  rintro e w2 ⟨⟨ao2, n2, k2, rfl, i2⟩, b2⟩
  have bb2 : Below w1.heap.size w1 w2 := ((below_alloc w1 _).alloc (by simp) _).trans (b2.mono (by omega))
  have z2 := bb2.size
  have I2 := hide i2
  clear i2 b2
  go_wp2_with fail
  have c3 := readq_any _ _ _ _ _ _ _ _ 1 _ (lit_is (w := w2) (w' := (w2.alloc (.cells #[.int .i64 1, .int .i64 2, .int .i64 2] 3)).alloc (.cells #[.int .u8 26] 5)) [1, 2, 2] rfl (l64 (by decide)) (by decide) 3 rfl ((Below.refl _ _).alloc (by simp) _))
    (lit_bs (w := w2.alloc (.cells #[.int .i64 1, .int .i64 2, .int .i64 2] 3)) (w' := (w2.alloc (.cells #[.int .i64 1, .int .i64 2, .int .i64 2] 3)).alloc (.cells #[.int .u8 26] 5)) [26] rfl (l8 (by decide)) (by decide) 1 rfl (Below.refl _ _)) (by decide) (by decide)
  rw [unhide e4] at c3
  simp only [World.size_alloc] at c3
  refine c3.mono ?_
  clear c3
  rintro e w3 ⟨rfl, b3⟩
  have bb3 : Below w2.heap.size w2 w3 := ((below_alloc w2 _).alloc (by simp) _).trans (b3.mono (by omega))
  have z3 := bb3.size
  clear b3
  go_wp2_with fail
  have c4 := sameInts_any _ _ _ _ _ _ _ _ _ ((((unhide I1).later bb2).later bb3).later (below_alloc w3 _)) (lit_is (w := w3) (w' := w3.alloc (.cells #[.int .i64 2, .int .i64 3, .int .i64 4, .int .i64 5, .int .i64 6, .int .i64 0, .int .i64 14, .int .i64 15] 3)) [2, 3, 4, 5, 6, 0, 14, 15] rfl (l64 (by decide)) (by decide) 8 rfl (Below.refl _ _))
  rw [show decide (([2, 3, 4, 5, 6, 0, 14, 15] : List Int) = [2, 3, 4, 5, 6, 0, 14, 15]) = true by decide] at c4
  refine c4.mono ?_
  clear c4
  rintro e w4 ⟨rfl, b4⟩
  have bb4 : Below w3.heap.size w3 w4 := (below_alloc w3 _).trans (b4.mono (by simp))
  have z4 := bb4.size
  clear b4
  go_wp2_with fail
  have c5 := sameBytes_any _ _ _ _ _ _ _ _ _ ((((unhide I2).later bb3).later bb4).later (below_alloc w4 _)) (lit_bs (w := w4) (w' := w4.alloc (.cells #[.int .u8 26] 5)) [26] rfl (l8 (by decide)) (by decide) 1 rfl (Below.refl _ _))
  rw [show decide (([26] : List Int) = [26]) = true by decide] at c5
  refine same_world c5 ?_
  clear c5
  go_wp2_with fail
  go_ret
  exact ⟨rfl, (((bb1.trans (bb2.mono z1)).trans (bb3.mono (by omega))).trans (bb4.mono (by omega))).trans ((below_alloc w4 _).mono (by omega))⟩

end Go.Proofs.Ytgphglghjpeojaa
