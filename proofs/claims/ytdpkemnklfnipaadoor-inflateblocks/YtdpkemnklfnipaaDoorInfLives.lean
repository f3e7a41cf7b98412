/-
  The chapter's examples that every statement of layer 4 asks first come out as they are written. Conditions: the tables hold what the program's text says.
-/
import Derived.Test.YtdpkemnklfnipaaDoorInfEnds
import Derived.Test.YtdpkemnklfnipaaDoorSameB
namespace Go.Proofs.YtdpkemnklfnipaaDoor
open Go.RowKit
set_option linter.unusedVariables false
set_option linter.unusedSimpArgs false

theorem l8 {l : List Int} (h : l.all (fun x => decide (0 ≤ x) && decide (x ≤ 255)) = true) : Byt l := by
  intro x hx
  have := List.all_eq_true.1 h x hx
  simpa using this

/-- Inflate of bytes that are written out. -/
def OutB (w : World) (r : List Int × Int × Int) (e : Ending) (w' : World) : Prop :=
  ∃ ao n c, e = .returned (.tuple #[.slice ao n c, .int .i64 r.2.1, .int .i64 r.2.2]) ∧ Bs w' ao n c r.1 ∧ Below w.heap.size w w'
theorem inf_lit (w : World) (hv : Vars w) (C : Array Value) (l : List Int) (hC : C = (l.map (Value.int .u8)).toArray) (h : Byt l) (hl : l.length ≤ 1000) (n : Nat) (hn : n = l.length) (m : Int) (m0 : 0 ≤ m) (m1 : m ≤ 1000000) (r : List Int × Int × Int) (hr : infR (infS 100000 l m) = r) :
    Calls Tryd.prog 6 #[.slice (some ⟨w.heap.size, 0, none⟩) n n, .int .i64 m] (w.alloc (.cells C 5)) fun e w' => OutB w r e w' := by
  subst hC hn
  have c := inflate_any 100000 _ _ _ _ l m (Bs.lit w l h hl) (hv.later (Nat.le_refl 3) ((below_alloc w _).mono hv.size)) (by omega) m0 m1 (by omega)
  rw [hr] at c
  refine c.mono ?_
  rintro e w' ⟨ao, n, c, rfl, hm, hb⟩
  exact ⟨ao, n, c, rfl, hm.bs, (below_alloc w _).trans (hb.mono (by simp))⟩

theorem ex1 : infR (infS 100000 [75, 132, 0, 0] 100) = ([97, 97, 97, 97, 97, 97, 97], 4, 0) := by kernel_rfl
theorem ex2 : infR (infS 100000 [1, 2, 0, 253, 255, 97, 98] 100) = ([97, 98], 7, 0) := by kernel_rfl

set_option maxHeartbeats 2000000 in
set_option maxRecDepth 20000 in
theorem lives_any (w : World) (hv : Vars w) : Calls Tryd.prog 8 #[] w fun e w' => e = .returned (.bool true) ∧ Below w.heap.size w w' := by
  have HV := hide hv
  have h3 := hv.size
  clear hv
  have st1 := hide (show strOfNums [97, 97, 97, 97, 97, 97, 97] = { data := #[97, 97, 97, 97, 97, 97, 97] } by kernel_rfl)
  have st2 := hide (show strOfNums [97, 98] = { data := #[97, 98] } by kernel_rfl)
  go_enter Tryd.func8, Tryd.ntmps8
  go_wp2_with fail
  refine (inf_lit w (unhide HV) _ [75, 132, 0, 0] rfl (l8 (by decide)) (by decide) 4 rfl 100 (by decide) (by decide) _ ex1).mono ?_
  rintro e w1 ⟨a1, n1, k1, rfl, i1, b1⟩
  have I1 := hide i1
  clear i1
  have z1 := b1.size
  go_wp2_with fail
  refine (inf_lit w1 ((unhide HV).later (Nat.le_refl 3) (b1.mono h3)) _ [1, 2, 0, 253, 255, 97, 98] rfl (l8 (by decide)) (by decide) 7 rfl 100 (by decide) (by decide) _ ex2).mono ?_
  rintro e w2 ⟨a2, n2, k2, rfl, i2, b2⟩
  have h1 := ((unhide I1).later b2).str
  have h2 := i2.str
  simp only [unhide st1, unhide st2] at h1 h2
  clear i2
  go_wp2_with fail
  go_ret
  exact ⟨rfl, b1.trans (b2.mono z1)⟩

end Go.Proofs.YtdpkemnklfnipaaDoor
