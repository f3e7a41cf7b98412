/-
  What the statements' helper SameValues returns of two slices that hold the same values: true. It changes no memory. Conditions: none.
-/
import Derived.Test.YtkcblnojgonblaaGreatDoorMTm
import Derived.Test.YtkcblnojgonblaaGreatDoorVaEq
import Derived.Test.YtkcblnojgonblaaGreatDoorMA
import Derived.BigQuiet
namespace Go.Proofs.YtkcblnojgonblaaGreatDoor
open Go.RowKit
set_option linter.unusedVariables false
set_option linter.unusedSimpArgs false

theorem below_sv (w : World) (n : Nat) : Below w.heap.size w (w.drewN n) := ⟨rfl, rfl, rfl, Nat.le_refl _, fun _ _ => rfl⟩
theorem neqv_self (p : Va) (w : World) : (binOp .neq 38 (.agg (vaC p)) (.agg (vaC p))).run Tryz.prog w = .ok (.bool false) w := by
  have h := eqv p p w
  rw [run_eql_struct] at h
  rw [run_neq_struct]
  cases hq : (Op.equalIn 10000 38 (.agg (vaC p)) (.agg (vaC p))).run Tryz.prog w with
  | ok b w' =>
    rw [hq] at h
    simp [Result.andThen] at h ⊢
    obtain ⟨h1, h2⟩ := h
    subst h1 h2
    simp
  | _ => rw [hq] at h; simp [Result.andThen] at h

set_option maxHeartbeats 1000000 in
set_option maxRecDepth 100000 in
theorem sameValues_self (ao : Option Addr) (n c : Nat) (bo : Option Addr) (m d : Nat) (l : List Va) (w : World) (h : Vs w ao n c l) (k : Vs w bo m d l) :
    Calls Tryz.prog 9 #[.slice ao n c, .slice bo m d] w fun e w' => e = .returned (.bool true) ∧ Below w.heap.size w w' := by
  have hl := h.len
  have kl := k.len
  have hle := h.le
  have kle := k.le
  have hmx := h.max
  have kmx := k.max
  have H := hide h
  have K := hide k
  have hnm : m = n := by omega
  subst hnm
  have HL := hide hl
  clear h k hl kl
  go_enter Tryz.func9, Tryz.ntmps9
  go_wp2_with fail
  go_loopw [5] (fun i wr => ∃ (j q : Nat), j ≤ m ∧ i = .int .i64 (j : Int) ∧ wr = w.drewN q) (fun i _ => m - (intOf i).toNat)
  case atStart => exact ⟨0, 0, by omega, rfl, rfl⟩
  case round =>
    obtain ⟨j, q, hj, rfl, rfl⟩ := hrel
    by_cases hlt : j < m
    · obtain ⟨p, hp⟩ : ∃ p, l[j]? = some p := ⟨l[j]'(by rw [unhide HL]; exact hlt), List.getElem?_eq_getElem _⟩
      obtain ⟨b0, o0, i0, A0⟩ := (unhide H).idx hp (j : Int) rfl
      obtain ⟨b1, o1, i1, A1⟩ := (unhide K).idx hp (j : Int) rfl
      have g1 : ((j : Nat) : Int) < (m : Int) := by omega
      have NE := fun wx => neqv_self p wx
      have L0 : (loadVar 38 ⟨b0, o0, none⟩).run Tryz.prog w = .ok (.agg (vaC p)) w := A0.run
      have L1 : (loadVar 38 ⟨b1, o1, none⟩).run Tryz.prog w = .ok (.agg (vaC p)) w := A1.run
      obtain ⟨kk, ii, bb, tx, ⟨ng, yy, mo, dd, hh, mi, ss, mc⟩⟩ := p
      unfold vaC at NE
      simp only at NE
      have c0 : w.cell? ⟨b0, o0, none⟩ = some (.int .i64 kk) := A0 0 (by decide)
      have c0_1 : w.cell? ⟨b0, o0 + 1, none⟩ = some (.int .i64 ii) := A0 1 (by decide)
      have c0_2 : w.cell? ⟨b0, o0 + 2, none⟩ = some (.int .u64 bb) := A0 2 (by decide)
      have c0_3 : w.cell? ⟨b0, o0 + 3, none⟩ = some (.string tx) := A0 3 (by decide)
      have c0_4 : w.cell? ⟨b0, o0 + 4, none⟩ = some (.bool ng) := A0 4 (by decide)
      have c0_5 : w.cell? ⟨b0, o0 + 5, none⟩ = some (.int .i64 yy) := A0 5 (by decide)
      have c0_6 : w.cell? ⟨b0, o0 + 6, none⟩ = some (.int .i64 mo) := A0 6 (by decide)
      have c0_7 : w.cell? ⟨b0, o0 + 7, none⟩ = some (.int .i64 dd) := A0 7 (by decide)
      have c0_8 : w.cell? ⟨b0, o0 + 8, none⟩ = some (.int .i64 hh) := A0 8 (by decide)
      have c0_9 : w.cell? ⟨b0, o0 + 9, none⟩ = some (.int .i64 mi) := A0 9 (by decide)
      have c0_10 : w.cell? ⟨b0, o0 + 10, none⟩ = some (.int .i64 ss) := A0 10 (by decide)
      have c0_11 : w.cell? ⟨b0, o0 + 11, none⟩ = some (.int .i64 mc) := A0 11 (by decide)
      have c1_0 : w.cell? ⟨b1, o1, none⟩ = some (.int .i64 kk) := A1 0 (by decide)
      have c1_1 : w.cell? ⟨b1, o1 + 1, none⟩ = some (.int .i64 ii) := A1 1 (by decide)
      have c1_2 : w.cell? ⟨b1, o1 + 2, none⟩ = some (.int .u64 bb) := A1 2 (by decide)
      have c1_3 : w.cell? ⟨b1, o1 + 3, none⟩ = some (.string tx) := A1 3 (by decide)
      have c1_4 : w.cell? ⟨b1, o1 + 4, none⟩ = some (.bool ng) := A1 4 (by decide)
      have c1_5 : w.cell? ⟨b1, o1 + 5, none⟩ = some (.int .i64 yy) := A1 5 (by decide)
      have c1_6 : w.cell? ⟨b1, o1 + 6, none⟩ = some (.int .i64 mo) := A1 6 (by decide)
      have c1_7 : w.cell? ⟨b1, o1 + 7, none⟩ = some (.int .i64 dd) := A1 7 (by decide)
      have c1_8 : w.cell? ⟨b1, o1 + 8, none⟩ = some (.int .i64 hh) := A1 8 (by decide)
      have c1_9 : w.cell? ⟨b1, o1 + 9, none⟩ = some (.int .i64 mi) := A1 9 (by decide)
      have c1_10 : w.cell? ⟨b1, o1 + 10, none⟩ = some (.int .i64 ss) := A1 10 (by decide)
      have c1_11 : w.cell? ⟨b1, o1 + 11, none⟩ = some (.int .i64 mc) := A1 11 (by decide)
      clear hp A0 A1 L0 L1
      go_wp2_with fail
      go_quiet (fail)
      go_wp2_with fail
      go_roundw
      case rel => exact ⟨j + 1, _, by omega, by go_num, (by first | rfl | exact World.drewN_drewN _ _ _)⟩
      case measure => simp [intOf]; omega
    · have hjn : j = m := by omega
      subst hjn
      have g1 : ¬ ((j : Nat) : Int) < (j : Int) := by omega
      go_wp2_with fail
      go_ret
      exact ⟨rfl, below_sv _ _⟩

end Go.Proofs.YtkcblnojgonblaaGreatDoor
