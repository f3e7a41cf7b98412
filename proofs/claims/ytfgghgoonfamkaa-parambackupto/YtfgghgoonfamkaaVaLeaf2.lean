/-
  What size, signed, unsigned, isClock, isDate, isTime of package value return. They write nothing that was there. Conditions: numbers within their kinds.
-/
import Derived.Test.YtfgghgoonfamkaaVaLeaf
import Derived.Test.YtfgghgoonfamkaaVaEq
namespace Go.Proofs.Ytfgghgoonfamkaa
open Go.RowKit
set_option linter.unusedVariables false
set_option linter.unusedSimpArgs false

theorem sg1 (x : Int) : wrap64 (IntKind.i8.wrap x) = sgn x 1 := by
  have e : IntKind.i8.wrap x = (x + 128) % 256 - 128 := by simp [IntKind.wrap, IntKind.bits, IntKind.signed]; split <;> omega
  rw [e]; unfold wrap64 sgn; rw [if_pos rfl]; omega
theorem sg2 (x : Int) : wrap64 (IntKind.i16.wrap x) = sgn x 2 := by
  have e : IntKind.i16.wrap x = (x + 32768) % 65536 - 32768 := by simp [IntKind.wrap, IntKind.bits, IntKind.signed]; split <;> omega
  rw [e]; unfold wrap64 sgn; rw [if_neg (by decide), if_pos rfl]; omega
theorem sg4 (x : Int) : wrap64 (wrap32 x) = sgn x 4 := by
  unfold wrap64 wrap32 sgn; rw [if_neg (by decide), if_neg (by decide), if_pos rfl]; omega
theorem us1 (x : Int) : IntKind.u64.wrap (IntKind.u8.wrap x) = uns x 1 := by
  rw [IntKind.wrap_u64, IntKind.wrap_u8]; unfold uns; rw [if_pos rfl]; omega
theorem us2 (x : Int) : IntKind.u64.wrap (IntKind.u16.wrap x) = uns x 2 := by
  rw [IntKind.wrap_u64, IntKind.wrap_u16]; unfold uns; rw [if_neg (by decide), if_pos rfl]; omega
theorem us4 (x : Int) : IntKind.u64.wrap (IntKind.u32.wrap x) = uns x 4 := by
  rw [IntKind.wrap_u64, IntKind.wrap_u32]; unfold uns; rw [if_neg (by decide), if_neg (by decide), if_pos rfl]; omega

set_option maxHeartbeats 4000000 in
set_option maxRecDepth 100000 in
theorem vsize_any (t : Int) (w : World) : Calls Try.prog 71 #[.int .u8 t] w fun e w' => e = .returned (.int .i64 (szP t)) ∧ w' = w := by
  by_cases h1 : t = 1
  · subst h1
    go_enter Try.func71, Try.ntmps71
    go_wp2_with fail
    go_ret
    exact ⟨rfl, rfl⟩
  by_cases h2 : t = 2
  · subst h2
    go_enter Try.func71, Try.ntmps71
    go_wp2_with fail
    go_ret
    exact ⟨rfl, rfl⟩
  by_cases h13 : t = 13
  · subst h13
    go_enter Try.func71, Try.ntmps71
    go_wp2_with fail
    go_ret
    exact ⟨rfl, rfl⟩
  by_cases h3 : t = 3
  · subst h3
    go_enter Try.func71, Try.ntmps71
    go_wp2_with fail
    go_ret
    exact ⟨rfl, rfl⟩
  by_cases h9 : t = 9
  · subst h9
    go_enter Try.func71, Try.ntmps71
    go_wp2_with fail
    go_ret
    exact ⟨rfl, rfl⟩
  by_cases h4 : t = 4
  · subst h4
    go_enter Try.func71, Try.ntmps71
    go_wp2_with fail
    go_ret
    exact ⟨rfl, rfl⟩
  by_cases h8 : t = 8
  · subst h8
    go_enter Try.func71, Try.ntmps71
    go_wp2_with fail
    go_ret
    exact ⟨rfl, rfl⟩
  by_cases h5 : t = 5
  · subst h5
    go_enter Try.func71, Try.ntmps71
    go_wp2_with fail
    go_ret
    exact ⟨rfl, rfl⟩
  have e : szP t = 0 := by unfold szP; rw [if_neg h1, if_neg (by omega), if_neg (by omega), if_neg (by omega)]
  rw [e]
  have g1 : (t == 1) = false := by simpa using h1
  have g2 : (t == 2) = false := by simpa using h2
  have g13 : (t == 13) = false := by simpa using h13
  have g3 : (t == 3) = false := by simpa using h3
  have g9 : (t == 9) = false := by simpa using h9
  have g4 : (t == 4) = false := by simpa using h4
  have g8 : (t == 8) = false := by simpa using h8
  have g5 : (t == 5) = false := by simpa using h5
  clear e h1 h2 h13 h3 h9 h4 h8 h5
  go_enter Try.func71, Try.ntmps71
  go_wp2_with fail
  go_ret
  exact ⟨rfl, rfl⟩

set_option maxHeartbeats 4000000 in
set_option maxRecDepth 100000 in
theorem signed_any (x n : Int) (w : World) (h0 : 0 ≤ x) (h1 : x < 18446744073709551616) : Calls Try.prog 72 #[.int .u64 x, .int .i64 n] w fun e w' => e = .returned (.int .i64 (sgn x n)) ∧ w' = w := by
  by_cases g1 : n = 1
  · subst g1
    go_enter Try.func72, Try.ntmps72
    go_wp2_with fail
    go_ret
    refine ⟨?_, rfl⟩
    first | exact congrArg (fun z => Ending.returned (.int .i64 z)) (sg1 x) | exact congrArg (fun z => Ending.returned (.int .i64 z)) (show x % 256 = uns x 1 by unfold uns; simp)
  by_cases g2 : n = 2
  · subst g2
    go_enter Try.func72, Try.ntmps72
    go_wp2_with fail
    go_ret
    refine ⟨?_, rfl⟩
    first | exact congrArg (fun z => Ending.returned (.int .i64 z)) (sg2 x) | exact congrArg (fun z => Ending.returned (.int .i64 z)) (show x % 65536 = uns x 2 by unfold uns; simp)
  by_cases g4 : n = 4
  · subst g4
    go_enter Try.func72, Try.ntmps72
    go_wp2_with fail
    go_ret
    refine ⟨?_, rfl⟩
    first | exact congrArg (fun z => Ending.returned (.int .i64 z)) (sg4 x) | exact congrArg (fun z => Ending.returned (.int .i64 z)) (show x % 4294967296 = uns x 4 by unfold uns; simp)
  have e1 : (n == 1) = false := by simpa using g1
  have e2 : (n == 2) = false := by simpa using g2
  have e4 : (n == 4) = false := by simpa using g4
  have e : sgn x n = wrap64 x := by unfold sgn; rw [if_neg g1, if_neg g2, if_neg g4]; simp only [wrap64]
  rw [e]
  clear e g1 g2 g4
  go_enter Try.func72, Try.ntmps72
  go_wp2_with fail
  go_ret
  exact ⟨rfl, rfl⟩

set_option maxHeartbeats 4000000 in
set_option maxRecDepth 100000 in
theorem unsigned_any (x n : Int) (w : World) (h0 : 0 ≤ x) (h1 : x < 18446744073709551616) : Calls Try.prog 73 #[.int .u64 x, .int .i64 n] w fun e w' => e = .returned (.int .u64 (uns x n)) ∧ w' = w := by
  by_cases g1 : n = 1
  · subst g1
    go_enter Try.func73, Try.ntmps73
    go_wp2_with fail
    go_ret
    refine ⟨?_, rfl⟩
    first | exact congrArg (fun z => Ending.returned (.int .u64 z)) (us1 x) | exact congrArg (fun z => Ending.returned (.int .u64 z)) (show x % 256 = uns x 1 by unfold uns; simp)
  by_cases g2 : n = 2
  · subst g2
    go_enter Try.func73, Try.ntmps73
    go_wp2_with fail
    go_ret
    refine ⟨?_, rfl⟩
    first | exact congrArg (fun z => Ending.returned (.int .u64 z)) (us2 x) | exact congrArg (fun z => Ending.returned (.int .u64 z)) (show x % 65536 = uns x 2 by unfold uns; simp)
  by_cases g4 : n = 4
  · subst g4
    go_enter Try.func73, Try.ntmps73
    go_wp2_with fail
    go_ret
    refine ⟨?_, rfl⟩
    first | exact congrArg (fun z => Ending.returned (.int .u64 z)) (us4 x) | exact congrArg (fun z => Ending.returned (.int .u64 z)) (show x % 4294967296 = uns x 4 by unfold uns; simp)
  have e1 : (n == 1) = false := by simpa using g1
  have e2 : (n == 2) = false := by simpa using g2
  have e4 : (n == 4) = false := by simpa using g4
  have e : uns x n = x := by unfold uns; rw [if_neg g1, if_neg g2, if_neg g4]
  rw [e]
  clear e g1 g2 g4
  go_enter Try.func73, Try.ntmps73
  go_wp2_with fail
  go_ret
  exact ⟨rfl, rfl⟩

set_option maxHeartbeats 4000000 in
set_option maxRecDepth 100000 in
theorem isClock_any (v : Wh) (w : World) : Calls Try.prog 86 #[.agg (whC v)] w fun e w' => e = .returned (.bool (clk v)) ∧ Below w.heap.size w w' := by
  obtain ⟨ng, y, mo, d, h, mi, s, mc⟩ := v
  unfold whC clk
  simp only
  have b1 := hide (below_alloc w (.cells #[.bool ng, .int .i64 y, .int .i64 mo, .int .i64 d, .int .i64 h, .int .i64 mi, .int .i64 s, .int .i64 mc] 30))
  have c0 := hide (fun wx => within_any h 23 wx)
  obtain ⟨B0, hB0⟩ : ∃ z, inr h 23 = z := ⟨_, rfl⟩
  rw [hB0] at c0 ⊢
  clear hB0
  have c1 := hide (fun wx => within_any mi 59 wx)
  obtain ⟨B1, hB1⟩ : ∃ z, inr mi 59 = z := ⟨_, rfl⟩
  rw [hB1] at c1 ⊢
  clear hB1
  have c2 := hide (fun wx => within_any s 59 wx)
  obtain ⟨B2, hB2⟩ : ∃ z, inr s 59 = z := ⟨_, rfl⟩
  rw [hB2] at c2 ⊢
  clear hB2
  have c3 := hide (fun wx => within_any mc 999999 wx)
  obtain ⟨B3, hB3⟩ : ∃ z, inr mc 999999 = z := ⟨_, rfl⟩
  rw [hB3] at c3 ⊢
  clear hB3
  cases B0 <;> cases B1 <;> cases B2 <;> cases B3 <;> simp only [Bool.and_false, Bool.and_true, Bool.false_and, Bool.true_and, Bool.and_self]
  all_goals
    go_enter Try.func86, Try.ntmps86
    go_wp2_with (first | (go_at_call 85; with_reducible show Calls _ _ #[.int .i64 h, .int .i64 23] _ _; refine same_world (unhide c0 _) ?_) | (go_at_call 85; with_reducible show Calls _ _ #[.int .i64 mi, .int .i64 59] _ _; refine same_world (unhide c1 _) ?_) | (go_at_call 85; with_reducible show Calls _ _ #[.int .i64 s, .int .i64 59] _ _; refine same_world (unhide c2 _) ?_) | (go_at_call 85; with_reducible show Calls _ _ #[.int .i64 mc, .int .i64 999999] _ _; refine same_world (unhide c3 _) ?_))
    go_ret
    exact ⟨rfl, unhide b1⟩

set_option maxHeartbeats 4000000 in
set_option maxRecDepth 100000 in
theorem isTime_any (v : Wh) (w : World) : Calls Try.prog 75 #[.agg (whC v)] w fun e w' => e = .returned (.bool (tmOk v)) ∧ Below w.heap.size w w' := by
  have e0 := eqw v neg0
  have hT : tmOk v = (!decide (v = neg0) && ((v.y == 0) && ((v.mo == 0) && (inr v.d 34 && clk v)))) := by unfold tmOk; simp
  rw [hT]
  have c1 := hide (fun wx => isClock_any v wx)
  have c0 := hide (fun wx => within_any v.d 34 wx)
  generalize clk v = B1 at *
  generalize inr v.d 34 = B0 at *
  generalize decide (v = neg0) = D at *
  clear hT
  obtain ⟨ng, y, mo, d, h, mi, s, mc⟩ := v
  unfold whC at c1 e0 ⊢
  unfold neg0 at e0
  simp only at *
  obtain ⟨w1, hw1⟩ : ∃ z, z = w.alloc (.cells #[.bool ng, .int .i64 y, .int .i64 mo, .int .i64 d, .int .i64 h, .int .i64 mi, .int .i64 s, .int .i64 mc] 30) := ⟨_, rfl⟩
  have b1 := below_alloc w (.cells #[.bool ng, .int .i64 y, .int .i64 mo, .int .i64 d, .int .i64 h, .int .i64 mi, .int .i64 s, .int .i64 mc] 30)
  have r1 := heap_alloc_new w (.cells #[.bool ng, .int .i64 y, .int .i64 mo, .int .i64 d, .int .i64 h, .int .i64 mi, .int .i64 s, .int .i64 mc] 30)
  rw [← hw1] at b1 r1
  have HW := hide hw1
  have B1' := hide b1
  clear hw1 b1
  have k0 := vrow_cell r1 (j := 0) (v := .bool ng) rfl
  have k1 := vrow_cell r1 (j := 1) (v := .int .i64 y) rfl
  have k2 := vrow_cell r1 (j := 2) (v := .int .i64 mo) rfl
  have k3 := vrow_cell r1 (j := 3) (v := .int .i64 d) rfl
  have k4 := vrow_cell r1 (j := 4) (v := .int .i64 h) rfl
  have k5 := vrow_cell r1 (j := 5) (v := .int .i64 mi) rfl
  have k6 := vrow_cell r1 (j := 6) (v := .int .i64 s) rfl
  have k7 := vrow_cell r1 (j := 7) (v := .int .i64 mc) rfl
  clear r1
  cases D
  · cases g1 : (y == 0) <;> cases g2 : (mo == 0) <;> cases B0 <;> cases B1 <;> simp only [Bool.and_false, Bool.and_true, Bool.false_and, Bool.true_and, Bool.and_self, Bool.not_false]
    all_goals
      go_enter Try.func75, Try.ntmps75
      go_wp2_with (first | (go_at_call 85; with_reducible show Calls _ _ #[.int .i64 d, .int .i64 34] _ _; refine same_world (unhide c0 _) ?_) | (go_at_call 86; rw [← unhide HW]; refine (unhide c1 _).mono ?_; rintro e w2 ⟨rfl, b2⟩; have B2 := hide (vbup (unhide B1') b2); clear b2))
      go_ret
      first | exact ⟨rfl, unhide B2⟩ | exact ⟨rfl, unhide HW ▸ unhide B1'⟩
  · simp only [Bool.not_true, Bool.false_and]
    go_enter Try.func75, Try.ntmps75
    go_wp2_with fail
    go_ret
    exact ⟨rfl, unhide HW ▸ unhide B1'⟩


end Go.Proofs.Ytfgghgoonfamkaa
