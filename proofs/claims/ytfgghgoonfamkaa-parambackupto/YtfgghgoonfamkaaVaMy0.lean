/-
  What mayBe of package value returns where the value is all zero, and where it is of another kind than the type. It writes nothing that was there. Conditions: the type is a byte.
-/
import Derived.Test.YtfgghgoonfamkaaVaDate
import Derived.Test.YtfgghgoonfamkaaVaKind
import Derived.Deep.DeepCutAuto
import Derived.BigQuiet
import Derived.Deep.RegionHeld3
import Derived.Deep.RegionWith
namespace Go.Proofs.Ytfgghgoonfamkaa
open Go.RowKit
set_option linter.unusedVariables false
set_option linter.unusedSimpArgs false

theorem kind_pv {w0 : World} {v : Va} {t : Int} {un : Bool} (q0 : 0 ≤ t) (q1 : t < 256) (w : World) (h : Pv w0 v t un w) : Calls Try.prog 56 #[.agg #[.int .u8 t, .bool un]] w fun e w' => e = .returned (.int .i64 (kdV t un)) ∧ Pv w0 v t un w' :=
  (kind_any t un w q0 q1).mono fun _ _ ⟨e, b⟩ => ⟨e, h.later b⟩

set_option maxHeartbeats 8000000 in
set_option maxRecDepth 100000 in
theorem mayBe_0 (v : Va) (t : Int) (un : Bool) (w : World) (q0 : 0 ≤ t) (q1 : t < 256) (hv : VaK v) (h0 : v = va0) : Calls Try.prog 57 #[.agg (vaC v), .agg #[.int .u8 t, .bool un]] w fun e w' => e = .returned (.bool (mb v t un)) ∧ Below w.heap.size w w' := by
  have P0 := Pv.box w v t un
  obtain ⟨w2, hw2⟩ : ∃ z, z = (w.alloc (.cells (vaC v) 32)).alloc (.cells #[.int .u8 t, .bool un] 27) := ⟨_, rfl⟩
  rw [← hw2] at P0
  have E0 := eqv v va0
  have cK := hide (fun wx (hq : Pv w v t un wx) => kind_pv q0 q1 wx hq)
  have hM := hide (show mb v t un = true by unfold mb; rw [decide_eq_true h0]; rfl)
  rw [decide_eq_true h0] at E0
  rw [unhide hM]
  clear hM h0
  generalize decide (v = va0) = D0 at *
  generalize kdV t un = K at *
  obtain ⟨k, i, b, tx, ⟨ng, y, mo, d, h, mi, s, mc⟩⟩ := v
  unfold vaC va0 wh0 at E0
  simp only at *
  unfold vaC
  have PP := hide P0
  obtain ⟨k0, k1, k2, k3, k4, k5, k6, k7, k8, k9, k10, k11, t0, t1⟩ := P0.cells
  have HW := hide (show (w.alloc (.cells #[.int .i64 k, .int .i64 i, .int .u64 b, .string tx, .bool ng, .int .i64 y, .int .i64 mo, .int .i64 d, .int .i64 h, .int .i64 mi, .int .i64 s, .int .i64 mc] 32)).alloc (.cells #[.int .u8 t, .bool un] 27) = w2 from hw2.symm)
  clear hw2 P0 hv q0 q1
  go_enter Try.func57, Try.ntmps57
  go_wp2_with fail
  go_ret
  rw [unhide HW]
  exact ⟨rfl, (unhide PP).bl⟩

set_option maxHeartbeats 8000000 in
set_option maxRecDepth 100000 in
theorem mayBe_n (v : Va) (t : Int) (un : Bool) (w : World) (q0 : 0 ≤ t) (q1 : t < 256) (hv : VaK v) (h0 : v ≠ va0) (h1 : v.k ≠ kdV t un) : Calls Try.prog 57 #[.agg (vaC v), .agg #[.int .u8 t, .bool un]] w fun e w' => e = .returned (.bool (mb v t un)) ∧ Below w.heap.size w w' := by
  have P0 := Pv.box w v t un
  obtain ⟨w2, hw2⟩ : ∃ z, z = (w.alloc (.cells (vaC v) 32)).alloc (.cells #[.int .u8 t, .bool un] 27) := ⟨_, rfl⟩
  rw [← hw2] at P0
  have E0 := eqv v va0
  have cK := hide (fun wx (hq : Pv w v t un wx) => kind_pv q0 q1 wx hq)
  have hM := hide (show mb v t un = false by unfold mb; rw [decide_eq_false h0, decide_eq_false h1]; rfl)
  rw [decide_eq_false h0] at E0
  rw [unhide hM]
  clear hM h0
  generalize decide (v = va0) = D0 at *
  generalize kdV t un = K at *
  obtain ⟨k, i, b, tx, ⟨ng, y, mo, d, h, mi, s, mc⟩⟩ := v
  unfold vaC va0 wh0 at E0
  simp only at *
  unfold vaC
  have PP := hide P0
  obtain ⟨k0, k1, k2, k3, k4, k5, k6, k7, k8, k9, k10, k11, t0, t1⟩ := P0.cells
  have HW := hide (show (w.alloc (.cells #[.int .i64 k, .int .i64 i, .int .u64 b, .string tx, .bool ng, .int .i64 y, .int .i64 mo, .int .i64 d, .int .i64 h, .int .i64 mi, .int .i64 s, .int .i64 mc] 32)).alloc (.cells #[.int .u8 t, .bool un] 27) = w2 from hw2.symm)
  clear hw2 P0 hv q0 q1
  have hkk : (k != K) = true := by simpa using h1
  clear h1
  go_enter Try.func57, Try.ntmps57
  go_upto_region 3 with fail
  rw [unhide HW]
  go_region_held3 (fun w' => w'.cell? ⟨w.heap.size, 0, none⟩ = some (.int .i64 k) ∧ w'.cell? ⟨w.heap.size, 1, none⟩ = some (.int .i64 i) ∧ w'.cell? ⟨w.heap.size, 2, none⟩ = some (.int .u64 b) ∧ w'.cell? ⟨w.heap.size, 3, none⟩ = some (.string tx) ∧ w'.cell? ⟨w.heap.size, 4, none⟩ = some (.bool ng) ∧ w'.cell? ⟨w.heap.size, 5, none⟩ = some (.int .i64 y) ∧ w'.cell? ⟨w.heap.size, 6, none⟩ = some (.int .i64 mo) ∧ w'.cell? ⟨w.heap.size, 7, none⟩ = some (.int .i64 d) ∧ w'.cell? ⟨w.heap.size, 8, none⟩ = some (.int .i64 h) ∧ w'.cell? ⟨w.heap.size, 9, none⟩ = some (.int .i64 mi) ∧ w'.cell? ⟨w.heap.size, 10, none⟩ = some (.int .i64 s) ∧ w'.cell? ⟨w.heap.size, 11, none⟩ = some (.int .i64 mc) ∧ w'.cell? ⟨w.heap.size + 1, 0, none⟩ = some (.int .u8 t) ∧ w'.cell? ⟨w.heap.size + 1, 1, none⟩ = some (.bool un)) (first | exact (unhide PP).cells | exact (unhide PP).drew.cells | go_keep) (first | (go_at_call 56; (with_reducible show Calls _ _ #[_] _ _); (with_reducible refine (unhide cK _ (unhide PP)).mono ?_); rintro e wq ⟨rfl, P2⟩; clear k0 k1 k2 k3 k4 k5 k6 k7 k8 k9 k10 k11 t0 t1; obtain ⟨k0, k1, k2, k3, k4, k5, k6, k7, k8, k9, k10, k11, t0, t1⟩ := P2.cells; have PP := hide P2; clear P2) | (go_at_call 56; (with_reducible show Calls _ _ #[_] _ _); (with_reducible refine (unhide cK _ (unhide PP).drew).mono ?_); rintro e wq ⟨rfl, P2⟩; clear k0 k1 k2 k3 k4 k5 k6 k7 k8 k9 k10 k11 t0 t1; obtain ⟨k0, k1, k2, k3, k4, k5, k6, k7, k8, k9, k10, k11, t0, t1⟩ := P2.cells; have PP := hide P2; clear P2))
  all_goals
    go_wp2_with fail
    go_ret
    first | exact ⟨rfl, (unhide PP).bl⟩ | exact ⟨rfl, vbup (unhide PP).bl (drN_below _ _)⟩

end Go.Proofs.Ytfgghgoonfamkaa
