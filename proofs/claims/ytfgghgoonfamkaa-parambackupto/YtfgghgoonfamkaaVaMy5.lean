/-
  What mayBe of package value returns for a date and a time. It writes nothing that was there. Conditions: the type is a byte.
-/
import Derived.Test.YtfgghgoonfamkaaVaMy0
namespace Go.Proofs.Ytfgghgoonfamkaa
open Go.RowKit
set_option linter.unusedVariables false
set_option linter.unusedSimpArgs false

set_option maxHeartbeats 8000000 in
set_option maxRecDepth 100000 in
theorem mayBe_5 (v : Va) (t : Int) (un : Bool) (w : World) (q0 : 0 ≤ t) (q1 : t < 256) (hv : VaK v) (h0 : v ≠ va0) (h1 : v.k = kdV t un) (h2 : v.k = 5) : Calls Try.prog 57 #[.agg (vaC v), .agg #[.int .u8 t, .bool un]] w fun e w' => e = .returned (.bool (mb v t un)) ∧ Below w.heap.size w w' := by
  have P0 := Pv.box w v t un
  obtain ⟨w2, hw2⟩ : ∃ z, z = (w.alloc (.cells (vaC v) 32)).alloc (.cells #[.int .u8 t, .bool un] 27) := ⟨_, rfl⟩
  rw [← hw2] at P0
  have E0 := eqv v va0
  have cK := hide (fun wx (hq : Pv w v t un wx) => kind_pv q0 q1 wx hq)
  have hM := hide (show mb v t un = (decide (v = ⟨v.k, 0, 0, ⟨#[]⟩, v.w⟩) && dtOk v.w t) by unfold mb fit; rw [decide_eq_false h0, decide_eq_true h1, Bool.false_or, Bool.true_and]; rw [if_neg (by omega), if_neg (by omega), if_pos h2])
  rw [decide_eq_false h0] at E0
  have E1 := eqv v ⟨v.k, 0, 0, ⟨#[]⟩, v.w⟩
  have cS := hide (fun wx => vsize_any t wx)
  have cG := hide (fun wx => isDate_any v.w t wx)
  rw [unhide hM]
  rw [← h1, h2] at cK
  clear hM h0 h1
  generalize decide (v = (⟨v.k, 0, 0, ⟨#[]⟩, v.w⟩ : Va)) = D1 at *
  generalize dtOk v.w t = G at *
  generalize szP t = S at *
  generalize decide (v = va0) = D0 at *
  generalize kdV t un = K at *
  obtain ⟨k, i, b, tx, ⟨ng, y, mo, d, h, mi, s, mc⟩⟩ := v
  unfold vaC va0 wh0 at E0
  unfold vaC at E1
  unfold whC at cG
  simp only at *
  unfold vaC
  have PP := hide P0
  obtain ⟨k0, k1, k2, k3, k4, k5, k6, k7, k8, k9, k10, k11, t0, t1⟩ := P0.cells
  have HW := hide (show (w.alloc (.cells #[.int .i64 k, .int .i64 i, .int .u64 b, .string tx, .bool ng, .int .i64 y, .int .i64 mo, .int .i64 d, .int .i64 h, .int .i64 mi, .int .i64 s, .int .i64 mc] 32)).alloc (.cells #[.int .u8 t, .bool un] 27) = w2 from hw2.symm)
  clear hw2 P0 hv q0 q1
  subst h2
  have hkk : ((5 : Int) != 5) = false := by decide
  cases D1
  · rw [Bool.false_and]
    go_enter Try.func57, Try.ntmps57
    go_upto_region 3 with fail
    rw [unhide HW]
    go_region_held3 (fun w' => w'.cell? ⟨w.heap.size, 0, none⟩ = some (.int .i64 5) ∧ w'.cell? ⟨w.heap.size, 1, none⟩ = some (.int .i64 i) ∧ w'.cell? ⟨w.heap.size, 2, none⟩ = some (.int .u64 b) ∧ w'.cell? ⟨w.heap.size, 3, none⟩ = some (.string tx) ∧ w'.cell? ⟨w.heap.size, 4, none⟩ = some (.bool ng) ∧ w'.cell? ⟨w.heap.size, 5, none⟩ = some (.int .i64 y) ∧ w'.cell? ⟨w.heap.size, 6, none⟩ = some (.int .i64 mo) ∧ w'.cell? ⟨w.heap.size, 7, none⟩ = some (.int .i64 d) ∧ w'.cell? ⟨w.heap.size, 8, none⟩ = some (.int .i64 h) ∧ w'.cell? ⟨w.heap.size, 9, none⟩ = some (.int .i64 mi) ∧ w'.cell? ⟨w.heap.size, 10, none⟩ = some (.int .i64 s) ∧ w'.cell? ⟨w.heap.size, 11, none⟩ = some (.int .i64 mc) ∧ w'.cell? ⟨w.heap.size + 1, 0, none⟩ = some (.int .u8 t) ∧ w'.cell? ⟨w.heap.size + 1, 1, none⟩ = some (.bool un)) (first | exact (unhide PP).cells | exact (unhide PP).drew.cells | go_keep) (first | (go_at_call 56; (with_reducible show Calls _ _ #[_] _ _); (with_reducible refine (unhide cK _ (unhide PP)).mono ?_); rintro e wq ⟨rfl, P2⟩; clear k0 k1 k2 k3 k4 k5 k6 k7 k8 k9 k10 k11 t0 t1; obtain ⟨k0, k1, k2, k3, k4, k5, k6, k7, k8, k9, k10, k11, t0, t1⟩ := P2.cells; have PP := hide P2; clear P2) | (go_at_call 56; (with_reducible show Calls _ _ #[_] _ _); (with_reducible refine (unhide cK _ (unhide PP).drew).mono ?_); rintro e wq ⟨rfl, P2⟩; clear k0 k1 k2 k3 k4 k5 k6 k7 k8 k9 k10 k11 t0 t1; obtain ⟨k0, k1, k2, k3, k4, k5, k6, k7, k8, k9, k10, k11, t0, t1⟩ := P2.cells; have PP := hide P2; clear P2))
    all_goals
      go_wp2_with (first | (go_at_call 71; (with_reducible refine same_world (unhide cS _) ?_)) | (go_at_call 74; (with_reducible refine (unhide cG _).mono ?_); rintro e w4 ⟨rfl, b4⟩; have P4 := (unhide PP).later b4; clear b4; have PP := hide P4; clear P4))
      go_ret
      first | exact ⟨rfl, (unhide PP).bl⟩ | exact ⟨rfl, vbup (unhide PP).bl (drN_below _ _)⟩
  · rw [Bool.true_and]
    go_enter Try.func57, Try.ntmps57
    go_upto_region 3 with fail
    rw [unhide HW]
    go_region_held3 (fun w' => w'.cell? ⟨w.heap.size, 0, none⟩ = some (.int .i64 5) ∧ w'.cell? ⟨w.heap.size, 1, none⟩ = some (.int .i64 i) ∧ w'.cell? ⟨w.heap.size, 2, none⟩ = some (.int .u64 b) ∧ w'.cell? ⟨w.heap.size, 3, none⟩ = some (.string tx) ∧ w'.cell? ⟨w.heap.size, 4, none⟩ = some (.bool ng) ∧ w'.cell? ⟨w.heap.size, 5, none⟩ = some (.int .i64 y) ∧ w'.cell? ⟨w.heap.size, 6, none⟩ = some (.int .i64 mo) ∧ w'.cell? ⟨w.heap.size, 7, none⟩ = some (.int .i64 d) ∧ w'.cell? ⟨w.heap.size, 8, none⟩ = some (.int .i64 h) ∧ w'.cell? ⟨w.heap.size, 9, none⟩ = some (.int .i64 mi) ∧ w'.cell? ⟨w.heap.size, 10, none⟩ = some (.int .i64 s) ∧ w'.cell? ⟨w.heap.size, 11, none⟩ = some (.int .i64 mc) ∧ w'.cell? ⟨w.heap.size + 1, 0, none⟩ = some (.int .u8 t) ∧ w'.cell? ⟨w.heap.size + 1, 1, none⟩ = some (.bool un)) (first | exact (unhide PP).cells | exact (unhide PP).drew.cells | go_keep) (first | (go_at_call 56; (with_reducible show Calls _ _ #[_] _ _); (with_reducible refine (unhide cK _ (unhide PP)).mono ?_); rintro e wq ⟨rfl, P2⟩; clear k0 k1 k2 k3 k4 k5 k6 k7 k8 k9 k10 k11 t0 t1; obtain ⟨k0, k1, k2, k3, k4, k5, k6, k7, k8, k9, k10, k11, t0, t1⟩ := P2.cells; have PP := hide P2; clear P2) | (go_at_call 56; (with_reducible show Calls _ _ #[_] _ _); (with_reducible refine (unhide cK _ (unhide PP).drew).mono ?_); rintro e wq ⟨rfl, P2⟩; clear k0 k1 k2 k3 k4 k5 k6 k7 k8 k9 k10 k11 t0 t1; obtain ⟨k0, k1, k2, k3, k4, k5, k6, k7, k8, k9, k10, k11, t0, t1⟩ := P2.cells; have PP := hide P2; clear P2))
    all_goals
      go_wp2_with (first | (go_at_call 71; (with_reducible refine same_world (unhide cS _) ?_)) | (go_at_call 74; (with_reducible refine (unhide cG _).mono ?_); rintro e w4 ⟨rfl, b4⟩; have P4 := (unhide PP).later b4; clear b4; have PP := hide P4; clear P4))
      go_ret
      first | exact ⟨rfl, (unhide PP).bl⟩ | exact ⟨rfl, vbup (unhide PP).bl (drN_below _ _)⟩
set_option maxHeartbeats 8000000 in
set_option maxRecDepth 100000 in
theorem mayBe_6 (v : Va) (t : Int) (un : Bool) (w : World) (q0 : 0 ≤ t) (q1 : t < 256) (hv : VaK v) (h0 : v ≠ va0) (h1 : v.k = kdV t un) (h2 : v.k = 6) : Calls Try.prog 57 #[.agg (vaC v), .agg #[.int .u8 t, .bool un]] w fun e w' => e = .returned (.bool (mb v t un)) ∧ Below w.heap.size w w' := by
  have P0 := Pv.box w v t un
  obtain ⟨w2, hw2⟩ : ∃ z, z = (w.alloc (.cells (vaC v) 32)).alloc (.cells #[.int .u8 t, .bool un] 27) := ⟨_, rfl⟩
  rw [← hw2] at P0
  have E0 := eqv v va0
  have cK := hide (fun wx (hq : Pv w v t un wx) => kind_pv q0 q1 wx hq)
  have hM := hide (show mb v t un = (decide (v = ⟨v.k, 0, 0, ⟨#[]⟩, v.w⟩) && tmOk v.w) by unfold mb fit; rw [decide_eq_false h0, decide_eq_true h1, Bool.false_or, Bool.true_and]; rw [if_neg (by omega), if_neg (by omega), if_neg (by omega), if_pos h2])
  rw [decide_eq_false h0] at E0
  have E1 := eqv v ⟨v.k, 0, 0, ⟨#[]⟩, v.w⟩
  have cS := hide (fun wx => vsize_any t wx)
  have cG := hide (fun wx => isTime_any v.w wx)
  rw [unhide hM]
  rw [← h1, h2] at cK
  clear hM h0 h1
  generalize decide (v = (⟨v.k, 0, 0, ⟨#[]⟩, v.w⟩ : Va)) = D1 at *
  generalize tmOk v.w = G at *
  generalize szP t = S at *
  generalize decide (v = va0) = D0 at *
  generalize kdV t un = K at *
  obtain ⟨k, i, b, tx, ⟨ng, y, mo, d, h, mi, s, mc⟩⟩ := v
  unfold vaC va0 wh0 at E0
  unfold vaC at E1
  unfold whC at cG
  simp only at *
  unfold vaC
  have PP := hide P0
  obtain ⟨k0, k1, k2, k3, k4, k5, k6, k7, k8, k9, k10, k11, t0, t1⟩ := P0.cells
  have HW := hide (show (w.alloc (.cells #[.int .i64 k, .int .i64 i, .int .u64 b, .string tx, .bool ng, .int .i64 y, .int .i64 mo, .int .i64 d, .int .i64 h, .int .i64 mi, .int .i64 s, .int .i64 mc] 32)).alloc (.cells #[.int .u8 t, .bool un] 27) = w2 from hw2.symm)
  clear hw2 P0 hv q0 q1
  subst h2
  have hkk : ((6 : Int) != 6) = false := by decide
  cases D1
  · rw [Bool.false_and]
    go_enter Try.func57, Try.ntmps57
    go_upto_region 3 with fail
    rw [unhide HW]
    go_region_held3 (fun w' => w'.cell? ⟨w.heap.size, 0, none⟩ = some (.int .i64 6) ∧ w'.cell? ⟨w.heap.size, 1, none⟩ = some (.int .i64 i) ∧ w'.cell? ⟨w.heap.size, 2, none⟩ = some (.int .u64 b) ∧ w'.cell? ⟨w.heap.size, 3, none⟩ = some (.string tx) ∧ w'.cell? ⟨w.heap.size, 4, none⟩ = some (.bool ng) ∧ w'.cell? ⟨w.heap.size, 5, none⟩ = some (.int .i64 y) ∧ w'.cell? ⟨w.heap.size, 6, none⟩ = some (.int .i64 mo) ∧ w'.cell? ⟨w.heap.size, 7, none⟩ = some (.int .i64 d) ∧ w'.cell? ⟨w.heap.size, 8, none⟩ = some (.int .i64 h) ∧ w'.cell? ⟨w.heap.size, 9, none⟩ = some (.int .i64 mi) ∧ w'.cell? ⟨w.heap.size, 10, none⟩ = some (.int .i64 s) ∧ w'.cell? ⟨w.heap.size, 11, none⟩ = some (.int .i64 mc) ∧ w'.cell? ⟨w.heap.size + 1, 0, none⟩ = some (.int .u8 t) ∧ w'.cell? ⟨w.heap.size + 1, 1, none⟩ = some (.bool un)) (first | exact (unhide PP).cells | exact (unhide PP).drew.cells | go_keep) (first | (go_at_call 56; (with_reducible show Calls _ _ #[_] _ _); (with_reducible refine (unhide cK _ (unhide PP)).mono ?_); rintro e wq ⟨rfl, P2⟩; clear k0 k1 k2 k3 k4 k5 k6 k7 k8 k9 k10 k11 t0 t1; obtain ⟨k0, k1, k2, k3, k4, k5, k6, k7, k8, k9, k10, k11, t0, t1⟩ := P2.cells; have PP := hide P2; clear P2) | (go_at_call 56; (with_reducible show Calls _ _ #[_] _ _); (with_reducible refine (unhide cK _ (unhide PP).drew).mono ?_); rintro e wq ⟨rfl, P2⟩; clear k0 k1 k2 k3 k4 k5 k6 k7 k8 k9 k10 k11 t0 t1; obtain ⟨k0, k1, k2, k3, k4, k5, k6, k7, k8, k9, k10, k11, t0, t1⟩ := P2.cells; have PP := hide P2; clear P2))
    all_goals
      go_wp2_with (first | (go_at_call 71; (with_reducible refine same_world (unhide cS _) ?_)) | (go_at_call 75; (with_reducible refine (unhide cG _).mono ?_); rintro e w4 ⟨rfl, b4⟩; have P4 := (unhide PP).later b4; clear b4; have PP := hide P4; clear P4))
      go_ret
      first | exact ⟨rfl, (unhide PP).bl⟩ | exact ⟨rfl, vbup (unhide PP).bl (drN_below _ _)⟩
  · rw [Bool.true_and]
    go_enter Try.func57, Try.ntmps57
    go_upto_region 3 with fail
    rw [unhide HW]
    go_region_held3 (fun w' => w'.cell? ⟨w.heap.size, 0, none⟩ = some (.int .i64 6) ∧ w'.cell? ⟨w.heap.size, 1, none⟩ = some (.int .i64 i) ∧ w'.cell? ⟨w.heap.size, 2, none⟩ = some (.int .u64 b) ∧ w'.cell? ⟨w.heap.size, 3, none⟩ = some (.string tx) ∧ w'.cell? ⟨w.heap.size, 4, none⟩ = some (.bool ng) ∧ w'.cell? ⟨w.heap.size, 5, none⟩ = some (.int .i64 y) ∧ w'.cell? ⟨w.heap.size, 6, none⟩ = some (.int .i64 mo) ∧ w'.cell? ⟨w.heap.size, 7, none⟩ = some (.int .i64 d) ∧ w'.cell? ⟨w.heap.size, 8, none⟩ = some (.int .i64 h) ∧ w'.cell? ⟨w.heap.size, 9, none⟩ = some (.int .i64 mi) ∧ w'.cell? ⟨w.heap.size, 10, none⟩ = some (.int .i64 s) ∧ w'.cell? ⟨w.heap.size, 11, none⟩ = some (.int .i64 mc) ∧ w'.cell? ⟨w.heap.size + 1, 0, none⟩ = some (.int .u8 t) ∧ w'.cell? ⟨w.heap.size + 1, 1, none⟩ = some (.bool un)) (first | exact (unhide PP).cells | exact (unhide PP).drew.cells | go_keep) (first | (go_at_call 56; (with_reducible show Calls _ _ #[_] _ _); (with_reducible refine (unhide cK _ (unhide PP)).mono ?_); rintro e wq ⟨rfl, P2⟩; clear k0 k1 k2 k3 k4 k5 k6 k7 k8 k9 k10 k11 t0 t1; obtain ⟨k0, k1, k2, k3, k4, k5, k6, k7, k8, k9, k10, k11, t0, t1⟩ := P2.cells; have PP := hide P2; clear P2) | (go_at_call 56; (with_reducible show Calls _ _ #[_] _ _); (with_reducible refine (unhide cK _ (unhide PP).drew).mono ?_); rintro e wq ⟨rfl, P2⟩; clear k0 k1 k2 k3 k4 k5 k6 k7 k8 k9 k10 k11 t0 t1; obtain ⟨k0, k1, k2, k3, k4, k5, k6, k7, k8, k9, k10, k11, t0, t1⟩ := P2.cells; have PP := hide P2; clear P2))
    all_goals
      go_wp2_with (first | (go_at_call 71; (with_reducible refine same_world (unhide cS _) ?_)) | (go_at_call 75; (with_reducible refine (unhide cG _).mono ?_); rintro e w4 ⟨rfl, b4⟩; have P4 := (unhide PP).later b4; clear b4; have PP := hide P4; clear P4))
      go_ret
      first | exact ⟨rfl, (unhide PP).bl⟩ | exact ⟨rfl, vbup (unhide PP).bl (drN_below _ _)⟩

end Go.Proofs.Ytfgghgoonfamkaa
