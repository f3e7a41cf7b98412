/-
  The document's own answer for values, its leaves: Kind, size, clock, midnight, when. They write nothing that was there. Conditions: none but where they are told.
-/
import Derived.Test.YtlicnhlgmnlaoaaVaPv
import Derived.Test.YtlicnhlgmnlaoaaVaLeaf2
import Derived.Test.YtlicnhlgmnlaoaaClRn
import Derived.BigQuiet
namespace Go.Proofs.Ytlicnhlgmnlaoaa
open Go.RowKit
set_option linter.unusedVariables false
set_option linter.unusedSimpArgs false

theorem neq_of {P : Program} {w : World} {T : TypeId} {xs ys : Array Value} {b : Bool} (h : (binOp .eql T (.agg xs) (.agg ys)).run P w = .ok (.bool b) w) : (binOp .neq T (.agg xs) (.agg ys)).run P w = .ok (.bool (!b)) w := by
  rw [run_eql_struct] at h
  rw [run_neq_struct]
  generalize (Op.equalIn 10000 T (.agg xs) (.agg ys)).run P w = X at h ⊢
  cases X <;> simp_all [Result.andThen]
theorem nqw (p q : Wh) (w : World) : (binOp .neq 42 (.agg (whC p)) (.agg (whC q))).run Try.prog w = .ok (.bool (!decide (p = q))) w := neq_of (eqw p q w)
theorem nqv (p q : Va) (w : World) : (binOp .neq 44 (.agg (vaC p)) (.agg (vaC q))).run Try.prog w = .ok (.bool (!decide (p = q))) w := neq_of (eqv p q w)
theorem inr_two (x m : Int) : inr x m = (decide (0 ≤ x) && decide (x ≤ m)) := by
  unfold inr
  by_cases h : 0 ≤ x <;> by_cases k : x ≤ m <;> simp [h, k]

set_option maxHeartbeats 1000000 in
set_option maxRecDepth 100000 in
theorem vsize_ref (t : Int) (w : World) : Calls Try.prog 43 #[.int .u8 t] w fun e w' => e = .returned (.int .i64 (szV t)) ∧ w' = w := by
  by_cases h1 : t = 1
  · subst h1
    go_enter Try.func43, Try.ntmps43
    go_wp2_with fail
    go_ret
    exact ⟨rfl, rfl⟩
  by_cases h2 : t = 2
  · subst h2
    go_enter Try.func43, Try.ntmps43
    go_wp2_with fail
    go_ret
    exact ⟨rfl, rfl⟩
  by_cases h13 : t = 13
  · subst h13
    go_enter Try.func43, Try.ntmps43
    go_wp2_with fail
    go_ret
    exact ⟨rfl, rfl⟩
  by_cases h3 : t = 3
  · subst h3
    go_enter Try.func43, Try.ntmps43
    go_wp2_with fail
    go_ret
    exact ⟨rfl, rfl⟩
  by_cases h9 : t = 9
  · subst h9
    go_enter Try.func43, Try.ntmps43
    go_wp2_with fail
    go_ret
    exact ⟨rfl, rfl⟩
  by_cases h4 : t = 4
  · subst h4
    go_enter Try.func43, Try.ntmps43
    go_wp2_with fail
    go_ret
    exact ⟨rfl, rfl⟩
  have e : szV t = 8 := by unfold szV; rw [if_neg h1, if_neg (by omega), if_neg (by omega)]
  rw [e]
  have g1 : (t == 1) = false := by simpa using h1
  have g2 : (t == 2) = false := by simpa using h2
  have g13 : (t == 13) = false := by simpa using h13
  have g3 : (t == 3) = false := by simpa using h3
  have g9 : (t == 9) = false := by simpa using h9
  have g4 : (t == 4) = false := by simpa using h4
  clear e h1 h2 h13 h3 h9 h4
  go_enter Try.func43, Try.ntmps43
  go_wp2_with fail
  go_ret
  exact ⟨rfl, rfl⟩

set_option maxHeartbeats 1000000 in
set_option maxRecDepth 100000 in
theorem kind_ref (t : Int) (un : Bool) (w : World) (q0 : 0 ≤ t) (q1 : t < 256) : Calls Try.prog 42 #[.agg #[.int .u8 t, .bool un]] w fun e w' => e = .returned (.int .i64 (kdV t un)) ∧ Below w.heap.size w w' := by
  obtain ⟨w1, hw1⟩ : ∃ z, z = w.alloc (.cells #[.int .u8 t, .bool un] 46) := ⟨_, rfl⟩
  have b1 := below_alloc w (.cells #[.int .u8 t, .bool un] 46)
  have r1 := heap_alloc_new w (.cells #[.int .u8 t, .bool un] 46)
  rw [← hw1] at b1 r1
  have cK := hide (known_ref t w1 q0 q1)
  have HW := hide hw1
  have R1 := hide r1
  have B1 := hide b1
  clear hw1 b1 r1
  by_cases h1 : t = 1
  · subst h1
    rw [show kn 1 = true by kernel_rfl] at cK
    cases un
    · go_enter Try.func42, Try.ntmps42
      go_wp2_with fail
      rw [← unhide HW]
      refine (unhide cK).mono ?_
      rintro e w2 ⟨rfl, b2⟩
      have B2 := hide (vbup (unhide B1) b2)
      have R2 := vrow_later (unhide R1) b2
      have k0 := vrow_cell R2 (j := 0) (v := .int .u8 1) rfl
      have k1 := vrow_cell R2 (j := 1) (v := .bool false) rfl
      clear b2 cK R1 B1 HW R2
      go_wp2_with fail
      go_ret
      exact ⟨rfl, unhide B2⟩
    · go_enter Try.func42, Try.ntmps42
      go_wp2_with fail
      rw [← unhide HW]
      refine (unhide cK).mono ?_
      rintro e w2 ⟨rfl, b2⟩
      have B2 := hide (vbup (unhide B1) b2)
      have R2 := vrow_later (unhide R1) b2
      have k0 := vrow_cell R2 (j := 0) (v := .int .u8 1) rfl
      have k1 := vrow_cell R2 (j := 1) (v := .bool true) rfl
      clear b2 cK R1 B1 HW R2
      go_wp2_with fail
      go_ret
      exact ⟨rfl, unhide B2⟩
  by_cases h2 : t = 2
  · subst h2
    rw [show kn 2 = true by kernel_rfl] at cK
    cases un
    · go_enter Try.func42, Try.ntmps42
      go_wp2_with fail
      rw [← unhide HW]
      refine (unhide cK).mono ?_
      rintro e w2 ⟨rfl, b2⟩
      have B2 := hide (vbup (unhide B1) b2)
      have R2 := vrow_later (unhide R1) b2
      have k0 := vrow_cell R2 (j := 0) (v := .int .u8 2) rfl
      have k1 := vrow_cell R2 (j := 1) (v := .bool false) rfl
      clear b2 cK R1 B1 HW R2
      go_wp2_with fail
      go_ret
      exact ⟨rfl, unhide B2⟩
    · go_enter Try.func42, Try.ntmps42
      go_wp2_with fail
      rw [← unhide HW]
      refine (unhide cK).mono ?_
      rintro e w2 ⟨rfl, b2⟩
      have B2 := hide (vbup (unhide B1) b2)
      have R2 := vrow_later (unhide R1) b2
      have k0 := vrow_cell R2 (j := 0) (v := .int .u8 2) rfl
      have k1 := vrow_cell R2 (j := 1) (v := .bool true) rfl
      clear b2 cK R1 B1 HW R2
      go_wp2_with fail
      go_ret
      exact ⟨rfl, unhide B2⟩
  by_cases h13 : t = 13
  · subst h13
    rw [show kn 13 = true by kernel_rfl] at cK
    cases un
    · go_enter Try.func42, Try.ntmps42
      go_wp2_with fail
      rw [← unhide HW]
      refine (unhide cK).mono ?_
      rintro e w2 ⟨rfl, b2⟩
      have B2 := hide (vbup (unhide B1) b2)
      have R2 := vrow_later (unhide R1) b2
      have k0 := vrow_cell R2 (j := 0) (v := .int .u8 13) rfl
      have k1 := vrow_cell R2 (j := 1) (v := .bool false) rfl
      clear b2 cK R1 B1 HW R2
      go_wp2_with fail
      go_ret
      exact ⟨rfl, unhide B2⟩
    · go_enter Try.func42, Try.ntmps42
      go_wp2_with fail
      rw [← unhide HW]
      refine (unhide cK).mono ?_
      rintro e w2 ⟨rfl, b2⟩
      have B2 := hide (vbup (unhide B1) b2)
      have R2 := vrow_later (unhide R1) b2
      have k0 := vrow_cell R2 (j := 0) (v := .int .u8 13) rfl
      have k1 := vrow_cell R2 (j := 1) (v := .bool true) rfl
      clear b2 cK R1 B1 HW R2
      go_wp2_with fail
      go_ret
      exact ⟨rfl, unhide B2⟩
  by_cases h3 : t = 3
  · subst h3
    rw [show kn 3 = true by kernel_rfl] at cK
    cases un
    · go_enter Try.func42, Try.ntmps42
      go_wp2_with fail
      rw [← unhide HW]
      refine (unhide cK).mono ?_
      rintro e w2 ⟨rfl, b2⟩
      have B2 := hide (vbup (unhide B1) b2)
      have R2 := vrow_later (unhide R1) b2
      have k0 := vrow_cell R2 (j := 0) (v := .int .u8 3) rfl
      have k1 := vrow_cell R2 (j := 1) (v := .bool false) rfl
      clear b2 cK R1 B1 HW R2
      go_wp2_with fail
      go_ret
      exact ⟨rfl, unhide B2⟩
    · go_enter Try.func42, Try.ntmps42
      go_wp2_with fail
      rw [← unhide HW]
      refine (unhide cK).mono ?_
      rintro e w2 ⟨rfl, b2⟩
      have B2 := hide (vbup (unhide B1) b2)
      have R2 := vrow_later (unhide R1) b2
      have k0 := vrow_cell R2 (j := 0) (v := .int .u8 3) rfl
      have k1 := vrow_cell R2 (j := 1) (v := .bool true) rfl
      clear b2 cK R1 B1 HW R2
      go_wp2_with fail
      go_ret
      exact ⟨rfl, unhide B2⟩
  by_cases h9 : t = 9
  · subst h9
    rw [show kn 9 = true by kernel_rfl] at cK
    cases un
    · go_enter Try.func42, Try.ntmps42
      go_wp2_with fail
      rw [← unhide HW]
      refine (unhide cK).mono ?_
      rintro e w2 ⟨rfl, b2⟩
      have B2 := hide (vbup (unhide B1) b2)
      have R2 := vrow_later (unhide R1) b2
      have k0 := vrow_cell R2 (j := 0) (v := .int .u8 9) rfl
      have k1 := vrow_cell R2 (j := 1) (v := .bool false) rfl
      clear b2 cK R1 B1 HW R2
      go_wp2_with fail
      go_ret
      exact ⟨rfl, unhide B2⟩
    · go_enter Try.func42, Try.ntmps42
      go_wp2_with fail
      rw [← unhide HW]
      refine (unhide cK).mono ?_
      rintro e w2 ⟨rfl, b2⟩
      have B2 := hide (vbup (unhide B1) b2)
      have R2 := vrow_later (unhide R1) b2
      have k0 := vrow_cell R2 (j := 0) (v := .int .u8 9) rfl
      have k1 := vrow_cell R2 (j := 1) (v := .bool true) rfl
      clear b2 cK R1 B1 HW R2
      go_wp2_with fail
      go_ret
      exact ⟨rfl, unhide B2⟩
  by_cases h8 : t = 8
  · subst h8
    rw [show kn 8 = true by kernel_rfl] at cK
    cases un
    · go_enter Try.func42, Try.ntmps42
      go_wp2_with fail
      rw [← unhide HW]
      refine (unhide cK).mono ?_
      rintro e w2 ⟨rfl, b2⟩
      have B2 := hide (vbup (unhide B1) b2)
      have R2 := vrow_later (unhide R1) b2
      have k0 := vrow_cell R2 (j := 0) (v := .int .u8 8) rfl
      have k1 := vrow_cell R2 (j := 1) (v := .bool false) rfl
      clear b2 cK R1 B1 HW R2
      go_wp2_with fail
      go_ret
      exact ⟨rfl, unhide B2⟩
    · go_enter Try.func42, Try.ntmps42
      go_wp2_with fail
      rw [← unhide HW]
      refine (unhide cK).mono ?_
      rintro e w2 ⟨rfl, b2⟩
      have B2 := hide (vbup (unhide B1) b2)
      have R2 := vrow_later (unhide R1) b2
      have k0 := vrow_cell R2 (j := 0) (v := .int .u8 8) rfl
      have k1 := vrow_cell R2 (j := 1) (v := .bool true) rfl
      clear b2 cK R1 B1 HW R2
      go_wp2_with fail
      go_ret
      exact ⟨rfl, unhide B2⟩
  by_cases h4 : t = 4
  · subst h4
    rw [show kn 4 = true by kernel_rfl] at cK
    go_enter Try.func42, Try.ntmps42
    go_wp2_with fail
    rw [← unhide HW]
    refine (unhide cK).mono ?_
    rintro e w2 ⟨rfl, b2⟩
    have B2 := hide (vbup (unhide B1) b2)
    have R2 := vrow_later (unhide R1) b2
    have k0 := vrow_cell R2 (j := 0) (v := .int .u8 4) rfl
    have k1 := vrow_cell R2 (j := 1) (v := .bool un) rfl
    clear b2 cK R1 B1 HW R2
    go_wp2_with fail
    go_ret
    exact ⟨by cases un <;> rfl, unhide B2⟩
  by_cases h5 : t = 5
  · subst h5
    rw [show kn 5 = true by kernel_rfl] at cK
    go_enter Try.func42, Try.ntmps42
    go_wp2_with fail
    rw [← unhide HW]
    refine (unhide cK).mono ?_
    rintro e w2 ⟨rfl, b2⟩
    have B2 := hide (vbup (unhide B1) b2)
    have R2 := vrow_later (unhide R1) b2
    have k0 := vrow_cell R2 (j := 0) (v := .int .u8 5) rfl
    have k1 := vrow_cell R2 (j := 1) (v := .bool un) rfl
    clear b2 cK R1 B1 HW R2
    go_wp2_with fail
    go_ret
    exact ⟨by cases un <;> rfl, unhide B2⟩
  by_cases h7 : t = 7
  · subst h7
    rw [show kn 7 = true by kernel_rfl] at cK
    go_enter Try.func42, Try.ntmps42
    go_wp2_with fail
    rw [← unhide HW]
    refine (unhide cK).mono ?_
    rintro e w2 ⟨rfl, b2⟩
    have B2 := hide (vbup (unhide B1) b2)
    have R2 := vrow_later (unhide R1) b2
    have k0 := vrow_cell R2 (j := 0) (v := .int .u8 7) rfl
    have k1 := vrow_cell R2 (j := 1) (v := .bool un) rfl
    clear b2 cK R1 B1 HW R2
    go_wp2_with fail
    go_ret
    exact ⟨by cases un <;> rfl, unhide B2⟩
  by_cases h10 : t = 10
  · subst h10
    rw [show kn 10 = true by kernel_rfl] at cK
    go_enter Try.func42, Try.ntmps42
    go_wp2_with fail
    rw [← unhide HW]
    refine (unhide cK).mono ?_
    rintro e w2 ⟨rfl, b2⟩
    have B2 := hide (vbup (unhide B1) b2)
    have R2 := vrow_later (unhide R1) b2
    have k0 := vrow_cell R2 (j := 0) (v := .int .u8 10) rfl
    have k1 := vrow_cell R2 (j := 1) (v := .bool un) rfl
    clear b2 cK R1 B1 HW R2
    go_wp2_with fail
    go_ret
    exact ⟨by cases un <;> rfl, unhide B2⟩
  by_cases h12 : t = 12
  · subst h12
    rw [show kn 12 = true by kernel_rfl] at cK
    go_enter Try.func42, Try.ntmps42
    go_wp2_with fail
    rw [← unhide HW]
    refine (unhide cK).mono ?_
    rintro e w2 ⟨rfl, b2⟩
    have B2 := hide (vbup (unhide B1) b2)
    have R2 := vrow_later (unhide R1) b2
    have k0 := vrow_cell R2 (j := 0) (v := .int .u8 12) rfl
    have k1 := vrow_cell R2 (j := 1) (v := .bool un) rfl
    clear b2 cK R1 B1 HW R2
    go_wp2_with fail
    go_ret
    exact ⟨by cases un <;> rfl, unhide B2⟩
  by_cases h11 : t = 11
  · subst h11
    rw [show kn 11 = true by kernel_rfl] at cK
    go_enter Try.func42, Try.ntmps42
    go_wp2_with fail
    rw [← unhide HW]
    refine (unhide cK).mono ?_
    rintro e w2 ⟨rfl, b2⟩
    have B2 := hide (vbup (unhide B1) b2)
    have R2 := vrow_later (unhide R1) b2
    have k0 := vrow_cell R2 (j := 0) (v := .int .u8 11) rfl
    have k1 := vrow_cell R2 (j := 1) (v := .bool un) rfl
    clear b2 cK R1 B1 HW R2
    go_wp2_with fail
    go_ret
    exact ⟨by cases un <;> rfl, unhide B2⟩
  by_cases h6 : t = 6
  · subst h6
    rw [show kn 6 = true by kernel_rfl] at cK
    go_enter Try.func42, Try.ntmps42
    go_wp2_with fail
    rw [← unhide HW]
    refine (unhide cK).mono ?_
    rintro e w2 ⟨rfl, b2⟩
    have B2 := hide (vbup (unhide B1) b2)
    have R2 := vrow_later (unhide R1) b2
    have k0 := vrow_cell R2 (j := 0) (v := .int .u8 6) rfl
    have k1 := vrow_cell R2 (j := 1) (v := .bool un) rfl
    clear b2 cK R1 B1 HW R2
    go_wp2_with fail
    go_ret
    exact ⟨by cases un <;> rfl, unhide B2⟩
  have hK := hide (show kdV t un = if kn t = false then -1 else 7 by
    unfold kdV
    by_cases z : kn t = false
    · rw [if_pos z, if_pos z]
    · rw [if_neg z, if_neg z, if_neg (by unfold isN; simp [h1, h2, h13, h3, h9, h8]), if_neg h4, if_neg h5, if_neg (by omega), if_neg h11, if_neg h6])
  have g1 : (t == 1) = false := by simpa using h1
  have g2 : (t == 2) = false := by simpa using h2
  have g13 : (t == 13) = false := by simpa using h13
  have g3 : (t == 3) = false := by simpa using h3
  have g9 : (t == 9) = false := by simpa using h9
  have g8 : (t == 8) = false := by simpa using h8
  have g4 : (t == 4) = false := by simpa using h4
  have g5 : (t == 5) = false := by simpa using h5
  have g7 : (t == 7) = false := by simpa using h7
  have g10 : (t == 10) = false := by simpa using h10
  have g12 : (t == 12) = false := by simpa using h12
  have g11 : (t == 11) = false := by simpa using h11
  have g6 : (t == 6) = false := by simpa using h6
  generalize kdV t un = KD at *
  generalize kn t = KN at *
  clear q0 q1 h1 h2 h13 h3 h9 h8 h4 h5 h7 h10 h12 h11 h6
  cases KN
  · have hE := hide (show KD = -1 by rw [unhide hK]; rfl)
    clear hK
    go_enter Try.func42, Try.ntmps42
    go_wp2_with fail
    rw [← unhide HW]
    refine (unhide cK).mono ?_
    rintro e w2 ⟨rfl, b2⟩
    have B2 := hide (vbup (unhide B1) b2)
    have R2 := vrow_later (unhide R1) b2
    have k0 := vrow_cell R2 (j := 0) (v := .int .u8 t) rfl
    have k1 := vrow_cell R2 (j := 1) (v := .bool un) rfl
    clear b2 cK R1 B1 HW R2
    go_wp2_with fail
    go_ret
    exact ⟨by rw [unhide hE]; rfl, unhide B2⟩
  · have hE := hide (show KD = 7 by rw [unhide hK]; rfl)
    clear hK
    go_enter Try.func42, Try.ntmps42
    go_wp2_with fail
    rw [← unhide HW]
    refine (unhide cK).mono ?_
    rintro e w2 ⟨rfl, b2⟩
    have B2 := hide (vbup (unhide B1) b2)
    have R2 := vrow_later (unhide R1) b2
    have k0 := vrow_cell R2 (j := 0) (v := .int .u8 t) rfl
    have k1 := vrow_cell R2 (j := 1) (v := .bool un) rfl
    clear b2 cK R1 B1 HW R2
    go_wp2_with fail
    go_ret
    exact ⟨by rw [unhide hE]; rfl, unhide B2⟩

set_option maxHeartbeats 1000000 in
set_option maxRecDepth 100000 in
theorem clock_ref (v : Wh) (w : World) : Calls Try.prog 65 #[.agg (whC v)] w fun e w' => e = .returned (.bool (clk v)) ∧ Below w.heap.size w w' := by
  obtain ⟨ng, y, mo, d, h, mi, s, mc⟩ := v
  unfold whC clk
  simp only [inr_two]
  have b1 := hide (below_alloc w (.cells #[.bool ng, .int .i64 y, .int .i64 mo, .int .i64 d, .int .i64 h, .int .i64 mi, .int .i64 s, .int .i64 mc] 42))
  obtain ⟨D0, hD0⟩ : ∃ z, decide (0 ≤ h) = z := ⟨_, rfl⟩
  obtain ⟨D1, hD1⟩ : ∃ z, decide (h ≤ 23) = z := ⟨_, rfl⟩
  obtain ⟨D2, hD2⟩ : ∃ z, decide (0 ≤ mi) = z := ⟨_, rfl⟩
  obtain ⟨D3, hD3⟩ : ∃ z, decide (mi ≤ 59) = z := ⟨_, rfl⟩
  obtain ⟨D4, hD4⟩ : ∃ z, decide (0 ≤ s) = z := ⟨_, rfl⟩
  obtain ⟨D5, hD5⟩ : ∃ z, decide (s ≤ 59) = z := ⟨_, rfl⟩
  obtain ⟨D6, hD6⟩ : ∃ z, decide (0 ≤ mc) = z := ⟨_, rfl⟩
  obtain ⟨D7, hD7⟩ : ∃ z, decide (mc ≤ 999999) = z := ⟨_, rfl⟩
  rw [hD0, hD1, hD2, hD3, hD4, hD5, hD6, hD7]
  cases D0
  · simp only [Bool.and_false, Bool.and_true, Bool.false_and, Bool.true_and, Bool.and_self, Bool.not_true, Bool.not_false, Bool.true_or, Bool.false_or, Bool.or_true, Bool.or_false]
    go_enter Try.func65, Try.ntmps65
    go_wp2_with fail
    go_ret
    exact ⟨rfl, unhide b1⟩
  · cases D1
    · simp only [Bool.and_false, Bool.and_true, Bool.false_and, Bool.true_and, Bool.and_self, Bool.not_true, Bool.not_false, Bool.true_or, Bool.false_or, Bool.or_true, Bool.or_false]
      go_enter Try.func65, Try.ntmps65
      go_wp2_with fail
      go_ret
      exact ⟨rfl, unhide b1⟩
    · cases D2
      · simp only [Bool.and_false, Bool.and_true, Bool.false_and, Bool.true_and, Bool.and_self, Bool.not_true, Bool.not_false, Bool.true_or, Bool.false_or, Bool.or_true, Bool.or_false]
        go_enter Try.func65, Try.ntmps65
        go_wp2_with fail
        go_ret
        exact ⟨rfl, unhide b1⟩
      · cases D3
        · simp only [Bool.and_false, Bool.and_true, Bool.false_and, Bool.true_and, Bool.and_self, Bool.not_true, Bool.not_false, Bool.true_or, Bool.false_or, Bool.or_true, Bool.or_false]
          go_enter Try.func65, Try.ntmps65
          go_wp2_with fail
          go_ret
          exact ⟨rfl, unhide b1⟩
        · cases D4
          · simp only [Bool.and_false, Bool.and_true, Bool.false_and, Bool.true_and, Bool.and_self, Bool.not_true, Bool.not_false, Bool.true_or, Bool.false_or, Bool.or_true, Bool.or_false]
            go_enter Try.func65, Try.ntmps65
            go_wp2_with fail
            go_ret
            exact ⟨rfl, unhide b1⟩
          · cases D5
            · simp only [Bool.and_false, Bool.and_true, Bool.false_and, Bool.true_and, Bool.and_self, Bool.not_true, Bool.not_false, Bool.true_or, Bool.false_or, Bool.or_true, Bool.or_false]
              go_enter Try.func65, Try.ntmps65
              go_wp2_with fail
              go_ret
              exact ⟨rfl, unhide b1⟩
            · cases D6
              · simp only [Bool.and_false, Bool.and_true, Bool.false_and, Bool.true_and, Bool.and_self, Bool.not_true, Bool.not_false, Bool.true_or, Bool.false_or, Bool.or_true, Bool.or_false]
                go_enter Try.func65, Try.ntmps65
                go_wp2_with fail
                go_ret
                exact ⟨rfl, unhide b1⟩
              · cases D7
                · simp only [Bool.and_false, Bool.and_true, Bool.false_and, Bool.true_and, Bool.and_self, Bool.not_true, Bool.not_false, Bool.true_or, Bool.false_or, Bool.or_true, Bool.or_false]
                  go_enter Try.func65, Try.ntmps65
                  go_wp2_with fail
                  go_ret
                  exact ⟨rfl, unhide b1⟩
                · simp only [Bool.and_false, Bool.and_true, Bool.false_and, Bool.true_and, Bool.and_self, Bool.not_true, Bool.not_false, Bool.true_or, Bool.false_or, Bool.or_true, Bool.or_false]
                  go_enter Try.func65, Try.ntmps65
                  go_wp2_with fail
                  go_ret
                  exact ⟨rfl, unhide b1⟩

set_option maxHeartbeats 1000000 in
set_option maxRecDepth 100000 in
theorem mid_ref (v : Wh) (w : World) (hc : clk v = true) : Calls Try.prog 66 #[.agg (whC v)] w fun e w' => e = .returned (.bool (mid v)) ∧ Below w.heap.size w w' := by
  obtain ⟨ng, y, mo, d, h, mi, s, mc⟩ := v
  unfold whC
  unfold clk inr at hc
  simp only [Bool.and_eq_true, decide_eq_true_eq] at hc
  have E : (h + mi + s + mc == 0) = mid ⟨ng, y, mo, d, h, mi, s, mc⟩ := by
    unfold mid
    rw [Bool.eq_iff_iff]
    simp only [Bool.and_eq_true, beq_iff_eq]
    omega
  have b1 := hide (below_alloc w (.cells #[.bool ng, .int .i64 y, .int .i64 mo, .int .i64 d, .int .i64 h, .int .i64 mi, .int .i64 s, .int .i64 mc] 42))
  rw [← E]
  clear E
  obtain ⟨⟨a0, a1⟩, ⟨a2, a3⟩, ⟨a4, a5⟩, a6, a7⟩ := hc
  go_enter Try.func66, Try.ntmps66
  go_wp2_with fail
  go_ret
  exact ⟨rfl, unhide b1⟩

set_option maxHeartbeats 1000000 in
set_option maxRecDepth 100000 in
theorem tm_two {v : Wh} (hc : clk v = true) : tmOk v = ((v.y == 0) && ((v.mo == 0) && (decide (0 ≤ v.d) && (decide (v.d ≤ 34) && !(v.ng && ((v.d == 0) && mid v)))))) := by
  obtain ⟨ng, y, mo, d, h, mi, s, mc⟩ := v
  unfold tmOk
  rw [hc, inr_two]
  simp only [Bool.and_true]
  have e : decide ((⟨ng, y, mo, d, h, mi, s, mc⟩ : Wh) ≠ neg0) = !(ng && ((y == 0) && ((mo == 0) && ((d == 0) && mid ⟨ng, y, mo, d, h, mi, s, mc⟩)))) := by
    unfold neg0 mid
    rw [Bool.eq_iff_iff]
    simp
  rw [e]
  generalize mid ⟨ng, y, mo, d, h, mi, s, mc⟩ = M
  cases (y == 0) <;> cases (mo == 0) <;> cases decide (0 ≤ d) <;> cases decide (d ≤ 34) <;> cases ng <;> cases (d == 0) <;> cases M <;> rfl
theorem dt_two {v : Wh} {t : Int} (hc : clk v = true) : dtOk v t = (!v.ng && (decide (0 ≤ v.y) && (decide (v.y ≤ 9999) && (decide (0 ≤ v.mo) && (decide (v.mo ≤ 12) && (decide (0 ≤ v.d) && (decide (v.d ≤ 31) && ((t != 10) || mid v)))))))) := by
  unfold dtOk
  rw [hc]
  simp only [inr_two, Bool.and_true]
  cases (t != 10) <;> cases mid v <;> cases v.ng <;> simp [Bool.and_assoc]

set_option maxHeartbeats 1000000 in
set_option maxRecDepth 100000 in
theorem when_ref (v : Wh) (t : Int) (w : World) : Calls Try.prog 44 #[.agg (whC v), .int .u8 t] w fun e w' => e = .returned (.bool (if t = 11 then tmOk v else dtOk v t)) ∧ Below w.heap.size w w' := by
  have cC := hide (fun wx => clock_ref v wx)
  have P0 := Pw.box w v
  obtain ⟨R, hR⟩ : ∃ z, z = if t = 11 then tmOk v else dtOk v t := ⟨_, rfl⟩
  rw [← hR]
  cases hc : clk v
  · have E := hide (show R = false by
      rw [hR]
      split
      · unfold tmOk; rw [hc]; simp
      · unfold dtOk; rw [hc]; simp)
    rw [hc] at cC
    clear hR hc
    obtain ⟨ng, y, mo, d, h, mi, s, mc⟩ := v
    unfold whC at cC ⊢
    simp only at *
    obtain ⟨w1, hw1⟩ : ∃ z, z = w.alloc (.cells #[.bool ng, .int .i64 y, .int .i64 mo, .int .i64 d, .int .i64 h, .int .i64 mi, .int .i64 s, .int .i64 mc] 42) := ⟨_, rfl⟩
    rw [show w.alloc (.cells (whC ⟨ng, y, mo, d, h, mi, s, mc⟩) 42) = w1 from hw1.symm] at P0
    have HW := hide hw1
    have PP := hide P0
    obtain ⟨k0, k1, k2, k3, k4, k5, k6, k7⟩ := P0.cells
    clear hw1 P0
    go_enter Try.func44, Try.ntmps44
    go_wp2_with (go_at_call 65; rw [← unhide HW]; refine (unhide cC _).mono ?_; rintro e w2 ⟨rfl, b2⟩; have PQ := hide ((unhide PP).bl |> fun z => vbup z b2); clear b2)
    go_ret
    exact ⟨by rw [unhide E]; rfl, unhide PQ⟩
  have cM := hide (fun wx => mid_ref v wx hc)
  rw [hc] at cC
  by_cases ht : t = 11
  · subst ht
    rw [if_pos rfl, tm_two hc] at hR
    generalize mid v = M at *
    clear hc
    obtain ⟨ng, y, mo, d, h, mi, s, mc⟩ := v
    unfold whC at cC cM ⊢
    simp only at *
    obtain ⟨w1, hw1⟩ : ∃ z, z = w.alloc (.cells #[.bool ng, .int .i64 y, .int .i64 mo, .int .i64 d, .int .i64 h, .int .i64 mi, .int .i64 s, .int .i64 mc] 42) := ⟨_, rfl⟩
    rw [show w.alloc (.cells (whC ⟨ng, y, mo, d, h, mi, s, mc⟩) 42) = w1 from hw1.symm] at P0
    have HW := hide hw1
    have PP := hide P0
    obtain ⟨k0, k1, k2, k3, k4, k5, k6, k7⟩ := P0.cells
    clear hw1 P0
    obtain ⟨D0, hD0⟩ : ∃ z, (y == 0) = z := ⟨_, rfl⟩
    rw [hD0] at hR
    obtain ⟨D1, hD1⟩ : ∃ z, (mo == 0) = z := ⟨_, rfl⟩
    rw [hD1] at hR
    obtain ⟨D2, hD2⟩ : ∃ z, decide (0 ≤ d) = z := ⟨_, rfl⟩
    rw [hD2] at hR
    obtain ⟨D3, hD3⟩ : ∃ z, decide (d ≤ 34) = z := ⟨_, rfl⟩
    rw [hD3] at hR
    obtain ⟨D4, hD4⟩ : ∃ z, (d == 0) = z := ⟨_, rfl⟩
    rw [hD4] at hR
    cases D0
    · have E := hide (show R = (false) by rw [hR] <;> rfl)
      clear hR
      go_enter Try.func44, Try.ntmps44
      go_wp2_with (first | (go_at_call 65; rw [← unhide HW]; refine (unhide cC _).mono ?_; rintro e w2 ⟨rfl, b2⟩; have P2 := (unhide PP).later b2; clear b2 k0 k1 k2 k3 k4 k5 k6 k7; obtain ⟨k0, k1, k2, k3, k4, k5, k6, k7⟩ := P2.cells; have PQ := hide P2; clear P2) | (go_at_call 66; (with_reducible refine (unhide cM _).mono ?_); rintro e w3 ⟨rfl, b3⟩; have P3 := hide ((unhide PQ).later b3).bl; clear b3))
      go_ret
      first | exact ⟨by rw [unhide E] <;> rfl, unhide P3⟩ | exact ⟨by rw [unhide E] <;> rfl, (unhide PQ).bl⟩
    · cases D1
      · have E := hide (show R = (false) by rw [hR] <;> rfl)
        clear hR
        go_enter Try.func44, Try.ntmps44
        go_wp2_with (first | (go_at_call 65; rw [← unhide HW]; refine (unhide cC _).mono ?_; rintro e w2 ⟨rfl, b2⟩; have P2 := (unhide PP).later b2; clear b2 k0 k1 k2 k3 k4 k5 k6 k7; obtain ⟨k0, k1, k2, k3, k4, k5, k6, k7⟩ := P2.cells; have PQ := hide P2; clear P2) | (go_at_call 66; (with_reducible refine (unhide cM _).mono ?_); rintro e w3 ⟨rfl, b3⟩; have P3 := hide ((unhide PQ).later b3).bl; clear b3))
        go_ret
        first | exact ⟨by rw [unhide E] <;> rfl, unhide P3⟩ | exact ⟨by rw [unhide E] <;> rfl, (unhide PQ).bl⟩
      · cases D2
        · have E := hide (show R = (false) by rw [hR] <;> rfl)
          clear hR
          go_enter Try.func44, Try.ntmps44
          go_wp2_with (first | (go_at_call 65; rw [← unhide HW]; refine (unhide cC _).mono ?_; rintro e w2 ⟨rfl, b2⟩; have P2 := (unhide PP).later b2; clear b2 k0 k1 k2 k3 k4 k5 k6 k7; obtain ⟨k0, k1, k2, k3, k4, k5, k6, k7⟩ := P2.cells; have PQ := hide P2; clear P2) | (go_at_call 66; (with_reducible refine (unhide cM _).mono ?_); rintro e w3 ⟨rfl, b3⟩; have P3 := hide ((unhide PQ).later b3).bl; clear b3))
          go_ret
          first | exact ⟨by rw [unhide E] <;> rfl, unhide P3⟩ | exact ⟨by rw [unhide E] <;> rfl, (unhide PQ).bl⟩
        · cases D3
          · have E := hide (show R = (false) by rw [hR] <;> rfl)
            clear hR
            go_enter Try.func44, Try.ntmps44
            go_wp2_with (first | (go_at_call 65; rw [← unhide HW]; refine (unhide cC _).mono ?_; rintro e w2 ⟨rfl, b2⟩; have P2 := (unhide PP).later b2; clear b2 k0 k1 k2 k3 k4 k5 k6 k7; obtain ⟨k0, k1, k2, k3, k4, k5, k6, k7⟩ := P2.cells; have PQ := hide P2; clear P2) | (go_at_call 66; (with_reducible refine (unhide cM _).mono ?_); rintro e w3 ⟨rfl, b3⟩; have P3 := hide ((unhide PQ).later b3).bl; clear b3))
            go_ret
            first | exact ⟨by rw [unhide E] <;> rfl, unhide P3⟩ | exact ⟨by rw [unhide E] <;> rfl, (unhide PQ).bl⟩
          · cases ng
            · have E := hide (show R = (true) by rw [hR] <;> rfl)
              clear hR
              go_enter Try.func44, Try.ntmps44
              go_wp2_with (first | (go_at_call 65; rw [← unhide HW]; refine (unhide cC _).mono ?_; rintro e w2 ⟨rfl, b2⟩; have P2 := (unhide PP).later b2; clear b2 k0 k1 k2 k3 k4 k5 k6 k7; obtain ⟨k0, k1, k2, k3, k4, k5, k6, k7⟩ := P2.cells; have PQ := hide P2; clear P2) | (go_at_call 66; (with_reducible refine (unhide cM _).mono ?_); rintro e w3 ⟨rfl, b3⟩; have P3 := hide ((unhide PQ).later b3).bl; clear b3))
              go_ret
              first | exact ⟨by rw [unhide E] <;> rfl, unhide P3⟩ | exact ⟨by rw [unhide E] <;> rfl, (unhide PQ).bl⟩
            · cases D4
              · have E := hide (show R = (true) by rw [hR] <;> rfl)
                clear hR
                go_enter Try.func44, Try.ntmps44
                go_wp2_with (first | (go_at_call 65; rw [← unhide HW]; refine (unhide cC _).mono ?_; rintro e w2 ⟨rfl, b2⟩; have P2 := (unhide PP).later b2; clear b2 k0 k1 k2 k3 k4 k5 k6 k7; obtain ⟨k0, k1, k2, k3, k4, k5, k6, k7⟩ := P2.cells; have PQ := hide P2; clear P2) | (go_at_call 66; (with_reducible refine (unhide cM _).mono ?_); rintro e w3 ⟨rfl, b3⟩; have P3 := hide ((unhide PQ).later b3).bl; clear b3))
                go_ret
                first | exact ⟨by rw [unhide E] <;> rfl, unhide P3⟩ | exact ⟨by rw [unhide E] <;> rfl, (unhide PQ).bl⟩
              · have E := hide (show R = (!M) by rw [hR] <;> rfl)
                clear hR
                go_enter Try.func44, Try.ntmps44
                go_wp2_with (first | (go_at_call 65; rw [← unhide HW]; refine (unhide cC _).mono ?_; rintro e w2 ⟨rfl, b2⟩; have P2 := (unhide PP).later b2; clear b2 k0 k1 k2 k3 k4 k5 k6 k7; obtain ⟨k0, k1, k2, k3, k4, k5, k6, k7⟩ := P2.cells; have PQ := hide P2; clear P2) | (go_at_call 66; (with_reducible refine (unhide cM _).mono ?_); rintro e w3 ⟨rfl, b3⟩; have P3 := hide ((unhide PQ).later b3).bl; clear b3))
                go_ret
                first | exact ⟨by rw [unhide E] <;> rfl, unhide P3⟩ | exact ⟨by rw [unhide E] <;> rfl, (unhide PQ).bl⟩
  rw [if_neg ht, dt_two hc] at hR
  have gt : (t == 11) = false := by simpa using ht
  clear ht
  generalize mid v = M at *
  clear hc
  obtain ⟨ng, y, mo, d, h, mi, s, mc⟩ := v
  unfold whC at cC cM ⊢
  simp only at *
  obtain ⟨w1, hw1⟩ : ∃ z, z = w.alloc (.cells #[.bool ng, .int .i64 y, .int .i64 mo, .int .i64 d, .int .i64 h, .int .i64 mi, .int .i64 s, .int .i64 mc] 42) := ⟨_, rfl⟩
  rw [show w.alloc (.cells (whC ⟨ng, y, mo, d, h, mi, s, mc⟩) 42) = w1 from hw1.symm] at P0
  have HW := hide hw1
  have PP := hide P0
  obtain ⟨k0, k1, k2, k3, k4, k5, k6, k7⟩ := P0.cells
  clear hw1 P0
  obtain ⟨D0, hD0⟩ : ∃ z, decide (0 ≤ y) = z := ⟨_, rfl⟩
  rw [hD0] at hR
  obtain ⟨D1, hD1⟩ : ∃ z, decide (y ≤ 9999) = z := ⟨_, rfl⟩
  rw [hD1] at hR
  obtain ⟨D2, hD2⟩ : ∃ z, decide (0 ≤ mo) = z := ⟨_, rfl⟩
  rw [hD2] at hR
  obtain ⟨D3, hD3⟩ : ∃ z, decide (mo ≤ 12) = z := ⟨_, rfl⟩
  rw [hD3] at hR
  obtain ⟨D4, hD4⟩ : ∃ z, decide (0 ≤ d) = z := ⟨_, rfl⟩
  rw [hD4] at hR
  obtain ⟨D5, hD5⟩ : ∃ z, decide (d ≤ 31) = z := ⟨_, rfl⟩
  rw [hD5] at hR
  obtain ⟨D6, hD6⟩ : ∃ z, (t != 10) = z := ⟨_, rfl⟩
  rw [hD6] at hR
  cases ng
  · cases D0
    · have E := hide (show R = (false) by rw [hR] <;> rfl)
      clear hR
      go_enter Try.func44, Try.ntmps44
      go_wp2_with (first | (go_at_call 65; rw [← unhide HW]; refine (unhide cC _).mono ?_; rintro e w2 ⟨rfl, b2⟩; have P2 := (unhide PP).later b2; clear b2 k0 k1 k2 k3 k4 k5 k6 k7; obtain ⟨k0, k1, k2, k3, k4, k5, k6, k7⟩ := P2.cells; have PQ := hide P2; clear P2) | (go_at_call 66; (with_reducible refine (unhide cM _).mono ?_); rintro e w3 ⟨rfl, b3⟩; have P3 := hide ((unhide PQ).later b3).bl; clear b3))
      go_ret
      first | exact ⟨by rw [unhide E] <;> rfl, unhide P3⟩ | exact ⟨by rw [unhide E] <;> rfl, (unhide PQ).bl⟩
    · cases D1
      · have E := hide (show R = (false) by rw [hR] <;> rfl)
        clear hR
        go_enter Try.func44, Try.ntmps44
        go_wp2_with (first | (go_at_call 65; rw [← unhide HW]; refine (unhide cC _).mono ?_; rintro e w2 ⟨rfl, b2⟩; have P2 := (unhide PP).later b2; clear b2 k0 k1 k2 k3 k4 k5 k6 k7; obtain ⟨k0, k1, k2, k3, k4, k5, k6, k7⟩ := P2.cells; have PQ := hide P2; clear P2) | (go_at_call 66; (with_reducible refine (unhide cM _).mono ?_); rintro e w3 ⟨rfl, b3⟩; have P3 := hide ((unhide PQ).later b3).bl; clear b3))
        go_ret
        first | exact ⟨by rw [unhide E] <;> rfl, unhide P3⟩ | exact ⟨by rw [unhide E] <;> rfl, (unhide PQ).bl⟩
      · cases D2
        · have E := hide (show R = (false) by rw [hR] <;> rfl)
          clear hR
          go_enter Try.func44, Try.ntmps44
          go_wp2_with (first | (go_at_call 65; rw [← unhide HW]; refine (unhide cC _).mono ?_; rintro e w2 ⟨rfl, b2⟩; have P2 := (unhide PP).later b2; clear b2 k0 k1 k2 k3 k4 k5 k6 k7; obtain ⟨k0, k1, k2, k3, k4, k5, k6, k7⟩ := P2.cells; have PQ := hide P2; clear P2) | (go_at_call 66; (with_reducible refine (unhide cM _).mono ?_); rintro e w3 ⟨rfl, b3⟩; have P3 := hide ((unhide PQ).later b3).bl; clear b3))
          go_ret
          first | exact ⟨by rw [unhide E] <;> rfl, unhide P3⟩ | exact ⟨by rw [unhide E] <;> rfl, (unhide PQ).bl⟩
        · cases D3
          · have E := hide (show R = (false) by rw [hR] <;> rfl)
            clear hR
            go_enter Try.func44, Try.ntmps44
            go_wp2_with (first | (go_at_call 65; rw [← unhide HW]; refine (unhide cC _).mono ?_; rintro e w2 ⟨rfl, b2⟩; have P2 := (unhide PP).later b2; clear b2 k0 k1 k2 k3 k4 k5 k6 k7; obtain ⟨k0, k1, k2, k3, k4, k5, k6, k7⟩ := P2.cells; have PQ := hide P2; clear P2) | (go_at_call 66; (with_reducible refine (unhide cM _).mono ?_); rintro e w3 ⟨rfl, b3⟩; have P3 := hide ((unhide PQ).later b3).bl; clear b3))
            go_ret
            first | exact ⟨by rw [unhide E] <;> rfl, unhide P3⟩ | exact ⟨by rw [unhide E] <;> rfl, (unhide PQ).bl⟩
          · cases D4
            · have E := hide (show R = (false) by rw [hR] <;> rfl)
              clear hR
              go_enter Try.func44, Try.ntmps44
              go_wp2_with (first | (go_at_call 65; rw [← unhide HW]; refine (unhide cC _).mono ?_; rintro e w2 ⟨rfl, b2⟩; have P2 := (unhide PP).later b2; clear b2 k0 k1 k2 k3 k4 k5 k6 k7; obtain ⟨k0, k1, k2, k3, k4, k5, k6, k7⟩ := P2.cells; have PQ := hide P2; clear P2) | (go_at_call 66; (with_reducible refine (unhide cM _).mono ?_); rintro e w3 ⟨rfl, b3⟩; have P3 := hide ((unhide PQ).later b3).bl; clear b3))
              go_ret
              first | exact ⟨by rw [unhide E] <;> rfl, unhide P3⟩ | exact ⟨by rw [unhide E] <;> rfl, (unhide PQ).bl⟩
            · cases D5
              · have E := hide (show R = (false) by rw [hR] <;> rfl)
                clear hR
                go_enter Try.func44, Try.ntmps44
                go_wp2_with (first | (go_at_call 65; rw [← unhide HW]; refine (unhide cC _).mono ?_; rintro e w2 ⟨rfl, b2⟩; have P2 := (unhide PP).later b2; clear b2 k0 k1 k2 k3 k4 k5 k6 k7; obtain ⟨k0, k1, k2, k3, k4, k5, k6, k7⟩ := P2.cells; have PQ := hide P2; clear P2) | (go_at_call 66; (with_reducible refine (unhide cM _).mono ?_); rintro e w3 ⟨rfl, b3⟩; have P3 := hide ((unhide PQ).later b3).bl; clear b3))
                go_ret
                first | exact ⟨by rw [unhide E] <;> rfl, unhide P3⟩ | exact ⟨by rw [unhide E] <;> rfl, (unhide PQ).bl⟩
              · cases D6
                · have E := hide (show R = (M) by rw [hR] <;> rfl)
                  clear hR
                  go_enter Try.func44, Try.ntmps44
                  go_wp2_with (first | (go_at_call 65; rw [← unhide HW]; refine (unhide cC _).mono ?_; rintro e w2 ⟨rfl, b2⟩; have P2 := (unhide PP).later b2; clear b2 k0 k1 k2 k3 k4 k5 k6 k7; obtain ⟨k0, k1, k2, k3, k4, k5, k6, k7⟩ := P2.cells; have PQ := hide P2; clear P2) | (go_at_call 66; (with_reducible refine (unhide cM _).mono ?_); rintro e w3 ⟨rfl, b3⟩; have P3 := hide ((unhide PQ).later b3).bl; clear b3))
                  go_ret
                  first | exact ⟨by rw [unhide E] <;> rfl, unhide P3⟩ | exact ⟨by rw [unhide E] <;> rfl, (unhide PQ).bl⟩
                · have E := hide (show R = (true) by rw [hR] <;> rfl)
                  clear hR
                  go_enter Try.func44, Try.ntmps44
                  go_wp2_with (first | (go_at_call 65; rw [← unhide HW]; refine (unhide cC _).mono ?_; rintro e w2 ⟨rfl, b2⟩; have P2 := (unhide PP).later b2; clear b2 k0 k1 k2 k3 k4 k5 k6 k7; obtain ⟨k0, k1, k2, k3, k4, k5, k6, k7⟩ := P2.cells; have PQ := hide P2; clear P2) | (go_at_call 66; (with_reducible refine (unhide cM _).mono ?_); rintro e w3 ⟨rfl, b3⟩; have P3 := hide ((unhide PQ).later b3).bl; clear b3))
                  go_ret
                  first | exact ⟨by rw [unhide E] <;> rfl, unhide P3⟩ | exact ⟨by rw [unhide E] <;> rfl, (unhide PQ).bl⟩
  · have E := hide (show R = (false) by rw [hR] <;> rfl)
    clear hR
    go_enter Try.func44, Try.ntmps44
    go_wp2_with (first | (go_at_call 65; rw [← unhide HW]; refine (unhide cC _).mono ?_; rintro e w2 ⟨rfl, b2⟩; have P2 := (unhide PP).later b2; clear b2 k0 k1 k2 k3 k4 k5 k6 k7; obtain ⟨k0, k1, k2, k3, k4, k5, k6, k7⟩ := P2.cells; have PQ := hide P2; clear P2) | (go_at_call 66; (with_reducible refine (unhide cM _).mono ?_); rintro e w3 ⟨rfl, b3⟩; have P3 := hide ((unhide PQ).later b3).bl; clear b3))
    go_ret
    first | exact ⟨by rw [unhide E] <;> rfl, unhide P3⟩ | exact ⟨by rw [unhide E] <;> rfl, (unhide PQ).bl⟩


end Go.Proofs.Ytlicnhlgmnlaoaa
