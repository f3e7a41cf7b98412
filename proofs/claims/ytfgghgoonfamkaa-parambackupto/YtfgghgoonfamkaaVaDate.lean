/-
  What isDate of package value returns. It writes nothing that was there. Conditions: none.
-/
import Derived.Test.YtfgghgoonfamkaaVaLeaf2
import Derived.Test.YtfgghgoonfamkaaVaPv
namespace Go.Proofs.Ytfgghgoonfamkaa
open Go.RowKit
set_option linter.unusedVariables false
set_option linter.unusedSimpArgs false

set_option maxHeartbeats 8000000 in
set_option maxRecDepth 100000 in
theorem isDate_any (v : Wh) (t : Int) (w : World) : Calls Try.prog 74 #[.agg (whC v), .int .u8 t] w fun e w' => e = .returned (.bool (dtOk v t)) ∧ Below w.heap.size w w' := by
  unfold dtOk
  have cC := hide (fun wx => isClock_any v wx)
  have cM := hide (fun wx => isMidnight_any v wx)
  have c0 := hide (fun wx => within_any v.y 9999 wx)
  have c1 := hide (fun wx => within_any v.mo 12 wx)
  have c2 := hide (fun wx => within_any v.d 31 wx)
  have P0 := Pw.box w v
  generalize clk v = BC at *
  generalize mid v = BM at *
  generalize inr v.y 9999 = B0 at *
  generalize inr v.mo 12 = B1 at *
  generalize inr v.d 31 = B2 at *
  obtain ⟨ng, y, mo, d, h, mi, s, mc⟩ := v
  unfold whC at cC cM ⊢
  simp only at *
  obtain ⟨w1, hw1⟩ : ∃ z, z = w.alloc (.cells #[.bool ng, .int .i64 y, .int .i64 mo, .int .i64 d, .int .i64 h, .int .i64 mi, .int .i64 s, .int .i64 mc] 30) := ⟨_, rfl⟩
  rw [show w.alloc (.cells (whC ⟨ng, y, mo, d, h, mi, s, mc⟩) 30) = w1 from hw1.symm] at P0
  have HW := hide hw1
  have PP := hide P0
  obtain ⟨k0, k1, k2, k3, k4, k5, k6, k7⟩ := P0.cells
  clear hw1 P0
  by_cases ht : t = 10
  · subst ht
    rw [show ((10 : Int) != 10) = false by decide]
    cases BM
    · simp only [Bool.and_false, Bool.and_true, Bool.false_and, Bool.true_and, Bool.and_self, Bool.not_true, Bool.not_false, Bool.true_or, Bool.false_or]
      go_enter Try.func74, Try.ntmps74
      go_wp2_with (first | (go_at_call 84; rw [← unhide HW]; refine (unhide cM _).mono ?_; rintro e w2 ⟨rfl, b2⟩; have P2 := (unhide PP).later b2; clear b2 k0 k1 k2 k3 k4 k5 k6 k7; obtain ⟨k0, k1, k2, k3, k4, k5, k6, k7⟩ := P2.cells; have PQ := hide P2; clear P2) | (go_at_call 85; with_reducible show Calls _ _ #[.int .i64 y, .int .i64 9999] _ _; refine same_world (unhide c0 _) ?_) | (go_at_call 85; with_reducible show Calls _ _ #[.int .i64 mo, .int .i64 12] _ _; refine same_world (unhide c1 _) ?_) | (go_at_call 85; with_reducible show Calls _ _ #[.int .i64 d, .int .i64 31] _ _; refine same_world (unhide c2 _) ?_) | (go_at_call 86; refine (unhide cC _).mono ?_; rintro e w3 ⟨rfl, b3⟩; have P3 := hide ((unhide PQ).later b3).bl; clear b3))
      go_ret
      first | exact ⟨rfl, unhide P3⟩ | exact ⟨rfl, (unhide PQ).bl⟩
    · cases ng
      · cases B0
        · simp only [Bool.and_false, Bool.and_true, Bool.false_and, Bool.true_and, Bool.and_self, Bool.not_true, Bool.not_false, Bool.true_or, Bool.false_or]
          go_enter Try.func74, Try.ntmps74
          go_wp2_with (first | (go_at_call 84; rw [← unhide HW]; refine (unhide cM _).mono ?_; rintro e w2 ⟨rfl, b2⟩; have P2 := (unhide PP).later b2; clear b2 k0 k1 k2 k3 k4 k5 k6 k7; obtain ⟨k0, k1, k2, k3, k4, k5, k6, k7⟩ := P2.cells; have PQ := hide P2; clear P2) | (go_at_call 85; with_reducible show Calls _ _ #[.int .i64 y, .int .i64 9999] _ _; refine same_world (unhide c0 _) ?_) | (go_at_call 85; with_reducible show Calls _ _ #[.int .i64 mo, .int .i64 12] _ _; refine same_world (unhide c1 _) ?_) | (go_at_call 85; with_reducible show Calls _ _ #[.int .i64 d, .int .i64 31] _ _; refine same_world (unhide c2 _) ?_) | (go_at_call 86; refine (unhide cC _).mono ?_; rintro e w3 ⟨rfl, b3⟩; have P3 := hide ((unhide PQ).later b3).bl; clear b3))
          go_ret
          first | exact ⟨rfl, unhide P3⟩ | exact ⟨rfl, (unhide PQ).bl⟩
        · cases B1
          · simp only [Bool.and_false, Bool.and_true, Bool.false_and, Bool.true_and, Bool.and_self, Bool.not_true, Bool.not_false, Bool.true_or, Bool.false_or]
            go_enter Try.func74, Try.ntmps74
            go_wp2_with (first | (go_at_call 84; rw [← unhide HW]; refine (unhide cM _).mono ?_; rintro e w2 ⟨rfl, b2⟩; have P2 := (unhide PP).later b2; clear b2 k0 k1 k2 k3 k4 k5 k6 k7; obtain ⟨k0, k1, k2, k3, k4, k5, k6, k7⟩ := P2.cells; have PQ := hide P2; clear P2) | (go_at_call 85; with_reducible show Calls _ _ #[.int .i64 y, .int .i64 9999] _ _; refine same_world (unhide c0 _) ?_) | (go_at_call 85; with_reducible show Calls _ _ #[.int .i64 mo, .int .i64 12] _ _; refine same_world (unhide c1 _) ?_) | (go_at_call 85; with_reducible show Calls _ _ #[.int .i64 d, .int .i64 31] _ _; refine same_world (unhide c2 _) ?_) | (go_at_call 86; refine (unhide cC _).mono ?_; rintro e w3 ⟨rfl, b3⟩; have P3 := hide ((unhide PQ).later b3).bl; clear b3))
            go_ret
            first | exact ⟨rfl, unhide P3⟩ | exact ⟨rfl, (unhide PQ).bl⟩
          · cases B2
            · simp only [Bool.and_false, Bool.and_true, Bool.false_and, Bool.true_and, Bool.and_self, Bool.not_true, Bool.not_false, Bool.true_or, Bool.false_or]
              go_enter Try.func74, Try.ntmps74
              go_wp2_with (first | (go_at_call 84; rw [← unhide HW]; refine (unhide cM _).mono ?_; rintro e w2 ⟨rfl, b2⟩; have P2 := (unhide PP).later b2; clear b2 k0 k1 k2 k3 k4 k5 k6 k7; obtain ⟨k0, k1, k2, k3, k4, k5, k6, k7⟩ := P2.cells; have PQ := hide P2; clear P2) | (go_at_call 85; with_reducible show Calls _ _ #[.int .i64 y, .int .i64 9999] _ _; refine same_world (unhide c0 _) ?_) | (go_at_call 85; with_reducible show Calls _ _ #[.int .i64 mo, .int .i64 12] _ _; refine same_world (unhide c1 _) ?_) | (go_at_call 85; with_reducible show Calls _ _ #[.int .i64 d, .int .i64 31] _ _; refine same_world (unhide c2 _) ?_) | (go_at_call 86; refine (unhide cC _).mono ?_; rintro e w3 ⟨rfl, b3⟩; have P3 := hide ((unhide PQ).later b3).bl; clear b3))
              go_ret
              first | exact ⟨rfl, unhide P3⟩ | exact ⟨rfl, (unhide PQ).bl⟩
            · cases BC
              · simp only [Bool.and_false, Bool.and_true, Bool.false_and, Bool.true_and, Bool.and_self, Bool.not_true, Bool.not_false, Bool.true_or, Bool.false_or]
                go_enter Try.func74, Try.ntmps74
                go_wp2_with (first | (go_at_call 84; rw [← unhide HW]; refine (unhide cM _).mono ?_; rintro e w2 ⟨rfl, b2⟩; have P2 := (unhide PP).later b2; clear b2 k0 k1 k2 k3 k4 k5 k6 k7; obtain ⟨k0, k1, k2, k3, k4, k5, k6, k7⟩ := P2.cells; have PQ := hide P2; clear P2) | (go_at_call 85; with_reducible show Calls _ _ #[.int .i64 y, .int .i64 9999] _ _; refine same_world (unhide c0 _) ?_) | (go_at_call 85; with_reducible show Calls _ _ #[.int .i64 mo, .int .i64 12] _ _; refine same_world (unhide c1 _) ?_) | (go_at_call 85; with_reducible show Calls _ _ #[.int .i64 d, .int .i64 31] _ _; refine same_world (unhide c2 _) ?_) | (go_at_call 86; refine (unhide cC _).mono ?_; rintro e w3 ⟨rfl, b3⟩; have P3 := hide ((unhide PQ).later b3).bl; clear b3))
                go_ret
                first | exact ⟨rfl, unhide P3⟩ | exact ⟨rfl, (unhide PQ).bl⟩
              · simp only [Bool.and_false, Bool.and_true, Bool.false_and, Bool.true_and, Bool.and_self, Bool.not_true, Bool.not_false, Bool.true_or, Bool.false_or]
                go_enter Try.func74, Try.ntmps74
                go_wp2_with (first | (go_at_call 84; rw [← unhide HW]; refine (unhide cM _).mono ?_; rintro e w2 ⟨rfl, b2⟩; have P2 := (unhide PP).later b2; clear b2 k0 k1 k2 k3 k4 k5 k6 k7; obtain ⟨k0, k1, k2, k3, k4, k5, k6, k7⟩ := P2.cells; have PQ := hide P2; clear P2) | (go_at_call 85; with_reducible show Calls _ _ #[.int .i64 y, .int .i64 9999] _ _; refine same_world (unhide c0 _) ?_) | (go_at_call 85; with_reducible show Calls _ _ #[.int .i64 mo, .int .i64 12] _ _; refine same_world (unhide c1 _) ?_) | (go_at_call 85; with_reducible show Calls _ _ #[.int .i64 d, .int .i64 31] _ _; refine same_world (unhide c2 _) ?_) | (go_at_call 86; refine (unhide cC _).mono ?_; rintro e w3 ⟨rfl, b3⟩; have P3 := hide ((unhide PQ).later b3).bl; clear b3))
                go_ret
                first | exact ⟨rfl, unhide P3⟩ | exact ⟨rfl, (unhide PQ).bl⟩
      · simp only [Bool.and_false, Bool.and_true, Bool.false_and, Bool.true_and, Bool.and_self, Bool.not_true, Bool.not_false, Bool.true_or, Bool.false_or]
        go_enter Try.func74, Try.ntmps74
        go_wp2_with (first | (go_at_call 84; rw [← unhide HW]; refine (unhide cM _).mono ?_; rintro e w2 ⟨rfl, b2⟩; have P2 := (unhide PP).later b2; clear b2 k0 k1 k2 k3 k4 k5 k6 k7; obtain ⟨k0, k1, k2, k3, k4, k5, k6, k7⟩ := P2.cells; have PQ := hide P2; clear P2) | (go_at_call 85; with_reducible show Calls _ _ #[.int .i64 y, .int .i64 9999] _ _; refine same_world (unhide c0 _) ?_) | (go_at_call 85; with_reducible show Calls _ _ #[.int .i64 mo, .int .i64 12] _ _; refine same_world (unhide c1 _) ?_) | (go_at_call 85; with_reducible show Calls _ _ #[.int .i64 d, .int .i64 31] _ _; refine same_world (unhide c2 _) ?_) | (go_at_call 86; refine (unhide cC _).mono ?_; rintro e w3 ⟨rfl, b3⟩; have P3 := hide ((unhide PQ).later b3).bl; clear b3))
        go_ret
        first | exact ⟨rfl, unhide P3⟩ | exact ⟨rfl, (unhide PQ).bl⟩
  · have ht1 : (t != 10) = true := by simpa using ht
    have ht2 : (t == 10) = false := by simpa using ht
    rw [ht1]
    clear ht ht1
    cases ng
    · cases B0
      · simp only [Bool.and_false, Bool.and_true, Bool.false_and, Bool.true_and, Bool.and_self, Bool.not_true, Bool.not_false, Bool.true_or, Bool.false_or]
        go_enter Try.func74, Try.ntmps74
        go_wp2_with (first | (go_at_call 85; with_reducible show Calls _ _ #[.int .i64 y, .int .i64 9999] _ _; refine same_world (unhide c0 _) ?_) | (go_at_call 85; with_reducible show Calls _ _ #[.int .i64 mo, .int .i64 12] _ _; refine same_world (unhide c1 _) ?_) | (go_at_call 85; with_reducible show Calls _ _ #[.int .i64 d, .int .i64 31] _ _; refine same_world (unhide c2 _) ?_) | (go_at_call 86; rw [← unhide HW]; refine (unhide cC _).mono ?_; rintro e w3 ⟨rfl, b3⟩; have P3 := hide ((unhide PP).later b3).bl; clear b3))
        go_ret
        first | exact ⟨rfl, unhide P3⟩ | exact ⟨rfl, unhide HW ▸ (unhide PP).bl⟩
      · cases B1
        · simp only [Bool.and_false, Bool.and_true, Bool.false_and, Bool.true_and, Bool.and_self, Bool.not_true, Bool.not_false, Bool.true_or, Bool.false_or]
          go_enter Try.func74, Try.ntmps74
          go_wp2_with (first | (go_at_call 85; with_reducible show Calls _ _ #[.int .i64 y, .int .i64 9999] _ _; refine same_world (unhide c0 _) ?_) | (go_at_call 85; with_reducible show Calls _ _ #[.int .i64 mo, .int .i64 12] _ _; refine same_world (unhide c1 _) ?_) | (go_at_call 85; with_reducible show Calls _ _ #[.int .i64 d, .int .i64 31] _ _; refine same_world (unhide c2 _) ?_) | (go_at_call 86; rw [← unhide HW]; refine (unhide cC _).mono ?_; rintro e w3 ⟨rfl, b3⟩; have P3 := hide ((unhide PP).later b3).bl; clear b3))
          go_ret
          first | exact ⟨rfl, unhide P3⟩ | exact ⟨rfl, unhide HW ▸ (unhide PP).bl⟩
        · cases B2
          · simp only [Bool.and_false, Bool.and_true, Bool.false_and, Bool.true_and, Bool.and_self, Bool.not_true, Bool.not_false, Bool.true_or, Bool.false_or]
            go_enter Try.func74, Try.ntmps74
            go_wp2_with (first | (go_at_call 85; with_reducible show Calls _ _ #[.int .i64 y, .int .i64 9999] _ _; refine same_world (unhide c0 _) ?_) | (go_at_call 85; with_reducible show Calls _ _ #[.int .i64 mo, .int .i64 12] _ _; refine same_world (unhide c1 _) ?_) | (go_at_call 85; with_reducible show Calls _ _ #[.int .i64 d, .int .i64 31] _ _; refine same_world (unhide c2 _) ?_) | (go_at_call 86; rw [← unhide HW]; refine (unhide cC _).mono ?_; rintro e w3 ⟨rfl, b3⟩; have P3 := hide ((unhide PP).later b3).bl; clear b3))
            go_ret
            first | exact ⟨rfl, unhide P3⟩ | exact ⟨rfl, unhide HW ▸ (unhide PP).bl⟩
          · cases BC
            · simp only [Bool.and_false, Bool.and_true, Bool.false_and, Bool.true_and, Bool.and_self, Bool.not_true, Bool.not_false, Bool.true_or, Bool.false_or]
              go_enter Try.func74, Try.ntmps74
              go_wp2_with (first | (go_at_call 85; with_reducible show Calls _ _ #[.int .i64 y, .int .i64 9999] _ _; refine same_world (unhide c0 _) ?_) | (go_at_call 85; with_reducible show Calls _ _ #[.int .i64 mo, .int .i64 12] _ _; refine same_world (unhide c1 _) ?_) | (go_at_call 85; with_reducible show Calls _ _ #[.int .i64 d, .int .i64 31] _ _; refine same_world (unhide c2 _) ?_) | (go_at_call 86; rw [← unhide HW]; refine (unhide cC _).mono ?_; rintro e w3 ⟨rfl, b3⟩; have P3 := hide ((unhide PP).later b3).bl; clear b3))
              go_ret
              first | exact ⟨rfl, unhide P3⟩ | exact ⟨rfl, unhide HW ▸ (unhide PP).bl⟩
            · simp only [Bool.and_false, Bool.and_true, Bool.false_and, Bool.true_and, Bool.and_self, Bool.not_true, Bool.not_false, Bool.true_or, Bool.false_or]
              go_enter Try.func74, Try.ntmps74
              go_wp2_with (first | (go_at_call 85; with_reducible show Calls _ _ #[.int .i64 y, .int .i64 9999] _ _; refine same_world (unhide c0 _) ?_) | (go_at_call 85; with_reducible show Calls _ _ #[.int .i64 mo, .int .i64 12] _ _; refine same_world (unhide c1 _) ?_) | (go_at_call 85; with_reducible show Calls _ _ #[.int .i64 d, .int .i64 31] _ _; refine same_world (unhide c2 _) ?_) | (go_at_call 86; rw [← unhide HW]; refine (unhide cC _).mono ?_; rintro e w3 ⟨rfl, b3⟩; have P3 := hide ((unhide PP).later b3).bl; clear b3))
              go_ret
              first | exact ⟨rfl, unhide P3⟩ | exact ⟨rfl, unhide HW ▸ (unhide PP).bl⟩
    · simp only [Bool.and_false, Bool.and_true, Bool.false_and, Bool.true_and, Bool.and_self, Bool.not_true, Bool.not_false, Bool.true_or, Bool.false_or]
      go_enter Try.func74, Try.ntmps74
      go_wp2_with (first | (go_at_call 85; with_reducible show Calls _ _ #[.int .i64 y, .int .i64 9999] _ _; refine same_world (unhide c0 _) ?_) | (go_at_call 85; with_reducible show Calls _ _ #[.int .i64 mo, .int .i64 12] _ _; refine same_world (unhide c1 _) ?_) | (go_at_call 85; with_reducible show Calls _ _ #[.int .i64 d, .int .i64 31] _ _; refine same_world (unhide c2 _) ?_) | (go_at_call 86; rw [← unhide HW]; refine (unhide cC _).mono ?_; rintro e w3 ⟨rfl, b3⟩; have P3 := hide ((unhide PP).later b3).bl; clear b3))
      go_ret
      first | exact ⟨rfl, unhide P3⟩ | exact ⟨rfl, unhide HW ▸ (unhide PP).bl⟩

end Go.Proofs.Ytfgghgoonfamkaa
