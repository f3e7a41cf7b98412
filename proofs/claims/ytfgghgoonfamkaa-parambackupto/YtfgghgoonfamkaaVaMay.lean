/-
  What mayBe and Check of package value return. They write nothing that was there. Conditions: the type is a byte, numbers within their kinds.
-/
import Derived.Test.YtfgghgoonfamkaaVaMy1
import Derived.Test.YtfgghgoonfamkaaVaMy2
import Derived.Test.YtfgghgoonfamkaaVaMy5
import Derived.Test.YtfgghgoonfamkaaVaMy7
namespace Go.Proofs.Ytfgghgoonfamkaa
open Go.RowKit
set_option linter.unusedVariables false
set_option linter.unusedSimpArgs false

theorem mayBe_any (v : Va) (t : Int) (un : Bool) (w : World) (q0 : 0 ≤ t) (q1 : t < 256) (hv : VaK v) : Calls Try.prog 57 #[.agg (vaC v), .agg #[.int .u8 t, .bool un]] w fun e w' => e = .returned (.bool (mb v t un)) ∧ Below w.heap.size w w' := by
  by_cases h0 : v = va0
  · exact mayBe_0 v t un w q0 q1 hv h0
  by_cases h1 : v.k = kdV t un
  · have hc := kd_cases t un
    rw [← h1] at hc
    rcases hc with h | h | h | h | h | h | h | h | h
    · exact mayBe_o v t un w q0 q1 hv h0 h1 (.inr h)
    · exact mayBe_o v t un w q0 q1 hv h0 h1 (.inl h)
    · exact mayBe_1 v t un w q0 q1 hv h0 h1 h
    · exact mayBe_2 v t un w q0 q1 hv h0 h1 h
    · exact mayBe_3 v t un w q0 q1 hv h0 h1 h
    · exact mayBe_4 v t un w q0 q1 hv h0 h1 h
    · exact mayBe_5 v t un w q0 q1 hv h0 h1 h
    · exact mayBe_6 v t un w q0 q1 hv h0 h1 h
    · exact mayBe_7 v t un w q0 q1 hv h0 h1 h
  · exact mayBe_n v t un w q0 q1 hv h0 h1
theorem mayBe_pv {w0 : World} {v : Va} {t : Int} {un : Bool} (q0 : 0 ≤ t) (q1 : t < 256) (hv : VaK v) (w : World) (h : Pv w0 v t un w) : Calls Try.prog 57 #[.agg (vaC v), .agg #[.int .u8 t, .bool un]] w fun e w' => e = .returned (.bool (mb v t un)) ∧ Pv w0 v t un w' :=
  (mayBe_any v t un w q0 q1 hv).mono fun _ _ ⟨e, b⟩ => ⟨e, h.later b⟩

set_option maxHeartbeats 8000000 in
set_option maxRecDepth 100000 in
theorem check_any (v : Va) (t : Int) (un : Bool) (w : World) (q0 : 0 ≤ t) (q1 : t < 256) (hv : VaK v) : Calls Try.prog 37 #[.agg (vaC v), .agg #[.int .u8 t, .bool un]] w fun e w' => e = .returned (.int .i64 (if vOk v t un = true then 0 else 2)) ∧ Below w.heap.size w w' := by
  have P0 := Pv.box w v t un
  obtain ⟨w2, hw2⟩ : ∃ z, z = (w.alloc (.cells (vaC v) 32)).alloc (.cells #[.int .u8 t, .bool un] 27) := ⟨_, rfl⟩
  rw [← hw2] at P0
  have cK := hide (fun wx (hq : Pv w v t un wx) => kind_pv q0 q1 wx hq)
  have cM := hide (fun wx (hq : Pv w v t un wx) => mayBe_pv q0 q1 hv wx hq)
  unfold vOk
  generalize mb v t un = M at *
  generalize kdV t un = K at *
  obtain ⟨k, i, b, tx, ⟨ng, y, mo, d, h, mi, s, mc⟩⟩ := v
  unfold vaC at cM ⊢
  simp only at cM
  have PP := hide P0
  obtain ⟨k0, k1, k2, k3, k4, k5, k6, k7, k8, k9, k10, k11, t0, t1⟩ := P0.cells
  have HW := hide (show (w.alloc (.cells #[.int .i64 k, .int .i64 i, .int .u64 b, .string tx, .bool ng, .int .i64 y, .int .i64 mo, .int .i64 d, .int .i64 h, .int .i64 mi, .int .i64 s, .int .i64 mc] 32)).alloc (.cells #[.int .u8 t, .bool un] 27) = w2 from hw2.symm)
  clear hw2 P0 hv q0 q1
  by_cases hk : K = -1
  · subst hk
    rw [if_neg (by simp)]
    go_enter Try.func37, Try.ntmps37
    go_wp2_with (first | (go_at_call 56; rw [unhide HW]; (with_reducible refine (unhide cK _ (unhide PP)).mono ?_); rintro e wq ⟨rfl, P2⟩; clear k0 k1 k2 k3 k4 k5 k6 k7 k8 k9 k10 k11 t0 t1; obtain ⟨k0, k1, k2, k3, k4, k5, k6, k7, k8, k9, k10, k11, t0, t1⟩ := P2.cells; have PP := hide P2; clear P2) | (go_at_call 57; (with_reducible show Calls _ _ #[_, _] _ _); (with_reducible refine (unhide cM _ (unhide PP)).mono ?_); rintro e wq ⟨rfl, P2⟩; clear k0 k1 k2 k3 k4 k5 k6 k7 k8 k9 k10 k11 t0 t1; obtain ⟨k0, k1, k2, k3, k4, k5, k6, k7, k8, k9, k10, k11, t0, t1⟩ := P2.cells; have PP := hide P2; clear P2) | (go_at_call 57; (with_reducible show Calls _ _ #[_, _] _ _); (with_reducible refine (unhide cM _ (unhide PP).drew).mono ?_); rintro e wq ⟨rfl, P2⟩; clear k0 k1 k2 k3 k4 k5 k6 k7 k8 k9 k10 k11 t0 t1; obtain ⟨k0, k1, k2, k3, k4, k5, k6, k7, k8, k9, k10, k11, t0, t1⟩ := P2.cells; have PP := hide P2; clear P2))
    go_ret
    exact ⟨rfl, (unhide PP).bl⟩
  have hk2 : (K == -1) = false := by simpa using hk
  have hk3 : decide (K ≠ -1) = true := by simpa using hk
  rw [hk3, Bool.true_and]
  clear hk hk3
  cases M
  · rw [if_neg (by decide)]
    go_enter Try.func37, Try.ntmps37
    go_wp2_with (first | (go_at_call 56; rw [unhide HW]; (with_reducible refine (unhide cK _ (unhide PP)).mono ?_); rintro e wq ⟨rfl, P2⟩; clear k0 k1 k2 k3 k4 k5 k6 k7 k8 k9 k10 k11 t0 t1; obtain ⟨k0, k1, k2, k3, k4, k5, k6, k7, k8, k9, k10, k11, t0, t1⟩ := P2.cells; have PP := hide P2; clear P2) | (go_at_call 57; (with_reducible show Calls _ _ #[_, _] _ _); (with_reducible refine (unhide cM _ (unhide PP)).mono ?_); rintro e wq ⟨rfl, P2⟩; clear k0 k1 k2 k3 k4 k5 k6 k7 k8 k9 k10 k11 t0 t1; obtain ⟨k0, k1, k2, k3, k4, k5, k6, k7, k8, k9, k10, k11, t0, t1⟩ := P2.cells; have PP := hide P2; clear P2) | (go_at_call 57; (with_reducible show Calls _ _ #[_, _] _ _); (with_reducible refine (unhide cM _ (unhide PP).drew).mono ?_); rintro e wq ⟨rfl, P2⟩; clear k0 k1 k2 k3 k4 k5 k6 k7 k8 k9 k10 k11 t0 t1; obtain ⟨k0, k1, k2, k3, k4, k5, k6, k7, k8, k9, k10, k11, t0, t1⟩ := P2.cells; have PP := hide P2; clear P2))
    go_ret
    exact ⟨rfl, (unhide PP).bl⟩
  · rw [if_pos rfl]
    go_enter Try.func37, Try.ntmps37
    go_wp2_with (first | (go_at_call 56; rw [unhide HW]; (with_reducible refine (unhide cK _ (unhide PP)).mono ?_); rintro e wq ⟨rfl, P2⟩; clear k0 k1 k2 k3 k4 k5 k6 k7 k8 k9 k10 k11 t0 t1; obtain ⟨k0, k1, k2, k3, k4, k5, k6, k7, k8, k9, k10, k11, t0, t1⟩ := P2.cells; have PP := hide P2; clear P2) | (go_at_call 57; (with_reducible show Calls _ _ #[_, _] _ _); (with_reducible refine (unhide cM _ (unhide PP)).mono ?_); rintro e wq ⟨rfl, P2⟩; clear k0 k1 k2 k3 k4 k5 k6 k7 k8 k9 k10 k11 t0 t1; obtain ⟨k0, k1, k2, k3, k4, k5, k6, k7, k8, k9, k10, k11, t0, t1⟩ := P2.cells; have PP := hide P2; clear P2) | (go_at_call 57; (with_reducible show Calls _ _ #[_, _] _ _); (with_reducible refine (unhide cM _ (unhide PP).drew).mono ?_); rintro e wq ⟨rfl, P2⟩; clear k0 k1 k2 k3 k4 k5 k6 k7 k8 k9 k10 k11 t0 t1; obtain ⟨k0, k1, k2, k3, k4, k5, k6, k7, k8, k9, k10, k11, t0, t1⟩ := P2.cells; have PP := hide P2; clear P2))
    go_ret
    exact ⟨rfl, (unhide PP).bl⟩


end Go.Proofs.Ytfgghgoonfamkaa
