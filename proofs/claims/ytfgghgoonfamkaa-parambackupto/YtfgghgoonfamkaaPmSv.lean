/-
  What the statements' helper SameParams returns of two slices that hold the same parameters: true. It changes no memory. Conditions: none.
-/
import Derived.Test.YtfgghgoonfamkaaPmMem
import Derived.Test.YtfgghgoonfamkaaVaEq
import Derived.Test.YtfgghgoonfamkaaMA
import Derived.BigQuiet
namespace Go.Proofs.Ytfgghgoonfamkaa
open Go.RowKit
set_option linter.unusedVariables false
set_option linter.unusedSimpArgs false

theorem below_sp (w : World) (n : Nat) : Below w.heap.size w (w.drewN n) := ⟨rfl, rfl, rfl, Nat.le_refl _, fun _ _ => rfl⟩
set_option maxHeartbeats 1000000 in
theorem eqp_self (p : Pa) (w : World) : (binOp .eql 34 (.agg (paC p)) (.agg (paC p))).run Try.prog w = .ok (.bool true) w := by
  obtain ⟨⟨t, un⟩, lo, x0, x1, x2, x3, a0, a1, a2, a3, a4, a5, a6, a7⟩ := p
  unfold paC
  rw [run_eql_struct, run_equalIn_agg w 9999 _ _ _ (by kernel_rfl) (by kernel_rfl)]
  simp [go_sem, Try.underlying34, Try.underlying27, Try.underlying32, Try.underlying30, ba_list]
theorem neqp_self (p : Pa) (w : World) : (binOp .neq 34 (.agg (paC p)) (.agg (paC p))).run Try.prog w = .ok (.bool false) w := by
  have h := eqp_self p w
  rw [run_eql_struct] at h
  rw [run_neq_struct]
  cases hq : (Op.equalIn 10000 34 (.agg (paC p)) (.agg (paC p))).run Try.prog w with
  | ok b w' =>
    rw [hq] at h
    simp [Result.andThen] at h ⊢
    obtain ⟨h1, h2⟩ := h
    subst h1 h2
    simp
  | _ => rw [hq] at h; simp [Result.andThen] at h

set_option maxHeartbeats 1000000 in
set_option maxRecDepth 100000 in
theorem sameParams_self (ao : Option Addr) (n c : Nat) (bo : Option Addr) (m d : Nat) (l : List Pa) (w : World) (h : Pas w ao n c l) (k : Pas w bo m d l) :
    Calls Try.prog 16 #[.slice ao n c, .slice bo m d] w fun e w' => e = .returned (.bool true) ∧ Below w.heap.size w w' := by
  have hl := h.len
  have kl := k.len
  have hle := h.le
  have kle := k.le
  have hmx := h.max
  have kmx := k.max
  have H := hide h
  have K := hide k
  have hnm : m = n := by omega
  subst hnm
  have HL := hide hl
  clear h k hl kl
  go_enter Try.func16, Try.ntmps16
  go_wp2_with fail
  go_loopw [5] (fun i wr => ∃ (j q : Nat), j ≤ m ∧ i = .int .i64 (j : Int) ∧ wr = w.drewN q) (fun i _ => m - (intOf i).toNat)
  case atStart => exact ⟨0, 0, by omega, rfl, rfl⟩
  case round =>
    obtain ⟨j, q, hj, rfl, rfl⟩ := hrel
    by_cases hlt : j < m
    · obtain ⟨p, hp⟩ : ∃ p, l[j]? = some p := ⟨l[j]'(by rw [unhide HL]; exact hlt), List.getElem?_eq_getElem _⟩
      obtain ⟨b0, o0, i0, A0⟩ := (unhide H).idx hp (j : Int) rfl
      obtain ⟨b1, o1, i1, A1⟩ := (unhide K).idx hp (j : Int) rfl
      have g1 : ((j : Nat) : Int) < (m : Int) := by omega
      have NE := fun wx => neqp_self p wx
      have L0 : (loadVar 34 ⟨b0, o0, none⟩).run Try.prog w = .ok (.agg (paC p)) w := A0.run
      have L1 : (loadVar 34 ⟨b1, o1, none⟩).run Try.prog w = .ok (.agg (paC p)) w := A1.run
      obtain ⟨⟨t, un⟩, lo, kk, ii, bb, tx, ⟨ng, yy, mo, dd, hh, mi, ss, mc⟩⟩ := p
      unfold paC at NE
      simp only at NE
      have c0_0 : w.cell? ⟨b0, o0, none⟩ = some (.int .u8 t) := A0 0 (by decide)
      have c0_1 : w.cell? ⟨b0, o0 + 1, none⟩ = some (.bool un) := A0 1 (by decide)
      have c0_2 : w.cell? ⟨b0, o0 + 2, none⟩ = some (.bool lo) := A0 2 (by decide)
      have c0_3 : w.cell? ⟨b0, o0 + 3, none⟩ = some (.int .i64 kk) := A0 3 (by decide)
      have c0_4 : w.cell? ⟨b0, o0 + 4, none⟩ = some (.int .i64 ii) := A0 4 (by decide)
      have c0_5 : w.cell? ⟨b0, o0 + 5, none⟩ = some (.int .u64 bb) := A0 5 (by decide)
      have c0_6 : w.cell? ⟨b0, o0 + 6, none⟩ = some (.string tx) := A0 6 (by decide)
      have c0_7 : w.cell? ⟨b0, o0 + 7, none⟩ = some (.bool ng) := A0 7 (by decide)
      have c0_8 : w.cell? ⟨b0, o0 + 8, none⟩ = some (.int .i64 yy) := A0 8 (by decide)
      have c0_9 : w.cell? ⟨b0, o0 + 9, none⟩ = some (.int .i64 mo) := A0 9 (by decide)
      have c0_10 : w.cell? ⟨b0, o0 + 10, none⟩ = some (.int .i64 dd) := A0 10 (by decide)
      have c0_11 : w.cell? ⟨b0, o0 + 11, none⟩ = some (.int .i64 hh) := A0 11 (by decide)
      have c0_12 : w.cell? ⟨b0, o0 + 12, none⟩ = some (.int .i64 mi) := A0 12 (by decide)
      have c0_13 : w.cell? ⟨b0, o0 + 13, none⟩ = some (.int .i64 ss) := A0 13 (by decide)
      have c0_14 : w.cell? ⟨b0, o0 + 14, none⟩ = some (.int .i64 mc) := A0 14 (by decide)
      have c1_0 : w.cell? ⟨b1, o1, none⟩ = some (.int .u8 t) := A1 0 (by decide)
      have c1_1 : w.cell? ⟨b1, o1 + 1, none⟩ = some (.bool un) := A1 1 (by decide)
      have c1_2 : w.cell? ⟨b1, o1 + 2, none⟩ = some (.bool lo) := A1 2 (by decide)
      have c1_3 : w.cell? ⟨b1, o1 + 3, none⟩ = some (.int .i64 kk) := A1 3 (by decide)
      have c1_4 : w.cell? ⟨b1, o1 + 4, none⟩ = some (.int .i64 ii) := A1 4 (by decide)
      have c1_5 : w.cell? ⟨b1, o1 + 5, none⟩ = some (.int .u64 bb) := A1 5 (by decide)
      have c1_6 : w.cell? ⟨b1, o1 + 6, none⟩ = some (.string tx) := A1 6 (by decide)
      have c1_7 : w.cell? ⟨b1, o1 + 7, none⟩ = some (.bool ng) := A1 7 (by decide)
      have c1_8 : w.cell? ⟨b1, o1 + 8, none⟩ = some (.int .i64 yy) := A1 8 (by decide)
      have c1_9 : w.cell? ⟨b1, o1 + 9, none⟩ = some (.int .i64 mo) := A1 9 (by decide)
      have c1_10 : w.cell? ⟨b1, o1 + 10, none⟩ = some (.int .i64 dd) := A1 10 (by decide)
      have c1_11 : w.cell? ⟨b1, o1 + 11, none⟩ = some (.int .i64 hh) := A1 11 (by decide)
      have c1_12 : w.cell? ⟨b1, o1 + 12, none⟩ = some (.int .i64 mi) := A1 12 (by decide)
      have c1_13 : w.cell? ⟨b1, o1 + 13, none⟩ = some (.int .i64 ss) := A1 13 (by decide)
      have c1_14 : w.cell? ⟨b1, o1 + 14, none⟩ = some (.int .i64 mc) := A1 14 (by decide)
      clear hp A0 A1 L0 L1
      go_wp2_with fail
      go_quiet (fail)
      go_wp2_with fail
      go_roundw
      case rel => exact ⟨j + 1, _, by omega, by go_num, (by first | rfl | exact World.drewN_drewN _ _ _)⟩
      case measure => simp [intOf]; omega
    · have hjn : j = m := by omega
      subst hjn
      have g1 : ¬ ((j : Nat) : Int) < (j : Int) := by omega
      go_wp2_with fail
      go_ret
      exact ⟨rfl, below_sp _ _⟩

end Go.Proofs.Ytfgghgoonfamkaa
