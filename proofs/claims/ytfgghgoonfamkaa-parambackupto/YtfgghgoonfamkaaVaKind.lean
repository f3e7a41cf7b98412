/-
  What Kind of package value returns. It writes nothing that was there. Conditions: the type is a byte.
-/
import Derived.Test.YtfgghgoonfamkaaVaLeaf
import Derived.Test.YtfgghgoonfamkaaClNm
namespace Go.Proofs.Ytfgghgoonfamkaa
open Go.RowKit
set_option linter.unusedVariables false
set_option linter.unusedSimpArgs false

set_option maxHeartbeats 8000000 in
set_option maxRecDepth 100000 in
theorem kind_any (t : Int) (un : Bool) (w : World) (q0 : 0 ≤ t) (q1 : t < 256) : Calls Try.prog 56 #[.agg #[.int .u8 t, .bool un]] w fun e w' => e = .returned (.int .i64 (kdV t un)) ∧ Below w.heap.size w w' := by
  obtain ⟨w1, hw1⟩ : ∃ z, z = w.alloc (.cells #[.int .u8 t, .bool un] 27) := ⟨_, rfl⟩
  have b1 := below_alloc w (.cells #[.int .u8 t, .bool un] 27)
  have r1 := heap_alloc_new w (.cells #[.int .u8 t, .bool un] 27)
  rw [← hw1] at b1 r1
  have cK := hide (known_any t w1 q0 q1)
  have HW := hide hw1
  have R1 := hide r1
  have B1 := hide b1
  clear hw1 b1 r1
  by_cases h1 : t = 1
  · subst h1
    rw [show kn 1 = true by kernel_rfl] at cK
    cases un
    · go_enter Try.func56, Try.ntmps56
      go_wp2_with fail
      rw [← unhide HW]
      refine (unhide cK).mono ?_
      rintro e w2 ⟨rfl, b2⟩
      have B2 := hide (vbup (unhide B1) b2)
      have R2 := vrow_later (unhide R1) b2
      have k0 := vrow_cell R2 (j := 0) (v := .int .u8 1) rfl
      have k1 := vrow_cell R2 (j := 1) (v := .bool false) rfl
      clear b2 cK R1 B1 HW R2
      go_wp2_with fail
      go_ret
      exact ⟨rfl, unhide B2⟩
    · go_enter Try.func56, Try.ntmps56
      go_wp2_with fail
      rw [← unhide HW]
      refine (unhide cK).mono ?_
      rintro e w2 ⟨rfl, b2⟩
      have B2 := hide (vbup (unhide B1) b2)
      have R2 := vrow_later (unhide R1) b2
      have k0 := vrow_cell R2 (j := 0) (v := .int .u8 1) rfl
      have k1 := vrow_cell R2 (j := 1) (v := .bool true) rfl
      clear b2 cK R1 B1 HW R2
      go_wp2_with fail
      go_ret
      exact ⟨rfl, unhide B2⟩
  by_cases h2 : t = 2
  · subst h2
    rw [show kn 2 = true by kernel_rfl] at cK
    cases un
    · go_enter Try.func56, Try.ntmps56
      go_wp2_with fail
      rw [← unhide HW]
      refine (unhide cK).mono ?_
      rintro e w2 ⟨rfl, b2⟩
      have B2 := hide (vbup (unhide B1) b2)
      have R2 := vrow_later (unhide R1) b2
      have k0 := vrow_cell R2 (j := 0) (v := .int .u8 2) rfl
      have k1 := vrow_cell R2 (j := 1) (v := .bool false) rfl
      clear b2 cK R1 B1 HW R2
      go_wp2_with fail
      go_ret
      exact ⟨rfl, unhide B2⟩
    · go_enter Try.func56, Try.ntmps56
      go_wp2_with fail
      rw [← unhide HW]
      refine (unhide cK).mono ?_
      rintro e w2 ⟨rfl, b2⟩
      have B2 := hide (vbup (unhide B1) b2)
      have R2 := vrow_later (unhide R1) b2
      have k0 := vrow_cell R2 (j := 0) (v := .int .u8 2) rfl
      have k1 := vrow_cell R2 (j := 1) (v := .bool true) rfl
      clear b2 cK R1 B1 HW R2
      go_wp2_with fail
      go_ret
      exact ⟨rfl, unhide B2⟩
  by_cases h13 : t = 13
  · subst h13
    rw [show kn 13 = true by kernel_rfl] at cK
    cases un
    · go_enter Try.func56, Try.ntmps56
      go_wp2_with fail
      rw [← unhide HW]
      refine (unhide cK).mono ?_
      rintro e w2 ⟨rfl, b2⟩
      have B2 := hide (vbup (unhide B1) b2)
      have R2 := vrow_later (unhide R1) b2
      have k0 := vrow_cell R2 (j := 0) (v := .int .u8 13) rfl
      have k1 := vrow_cell R2 (j := 1) (v := .bool false) rfl
      clear b2 cK R1 B1 HW R2
      go_wp2_with fail
      go_ret
      exact ⟨rfl, unhide B2⟩
    · go_enter Try.func56, Try.ntmps56
      go_wp2_with fail
      rw [← unhide HW]
      refine (unhide cK).mono ?_
      rintro e w2 ⟨rfl, b2⟩
      have B2 := hide (vbup (unhide B1) b2)
      have R2 := vrow_later (unhide R1) b2
      have k0 := vrow_cell R2 (j := 0) (v := .int .u8 13) rfl
      have k1 := vrow_cell R2 (j := 1) (v := .bool true) rfl
      clear b2 cK R1 B1 HW R2
      go_wp2_with fail
      go_ret
      exact ⟨rfl, unhide B2⟩
  by_cases h3 : t = 3
  · subst h3
    rw [show kn 3 = true by kernel_rfl] at cK
    cases un
    · go_enter Try.func56, Try.ntmps56
      go_wp2_with fail
      rw [← unhide HW]
      refine (unhide cK).mono ?_
      rintro e w2 ⟨rfl, b2⟩
      have B2 := hide (vbup (unhide B1) b2)
      have R2 := vrow_later (unhide R1) b2
      have k0 := vrow_cell R2 (j := 0) (v := .int .u8 3) rfl
      have k1 := vrow_cell R2 (j := 1) (v := .bool false) rfl
      clear b2 cK R1 B1 HW R2
      go_wp2_with fail
      go_ret
      exact ⟨rfl, unhide B2⟩
    · go_enter Try.func56, Try.ntmps56
      go_wp2_with fail
      rw [← unhide HW]
      refine (unhide cK).mono ?_
      rintro e w2 ⟨rfl, b2⟩
      have B2 := hide (vbup (unhide B1) b2)
      have R2 := vrow_later (unhide R1) b2
      have k0 := vrow_cell R2 (j := 0) (v := .int .u8 3) rfl
      have k1 := vrow_cell R2 (j := 1) (v := .bool true) rfl
      clear b2 cK R1 B1 HW R2
      go_wp2_with fail
      go_ret
      exact ⟨rfl, unhide B2⟩
  by_cases h9 : t = 9
  · subst h9
    rw [show kn 9 = true by kernel_rfl] at cK
    cases un
    · go_enter Try.func56, Try.ntmps56
      go_wp2_with fail
      rw [← unhide HW]
      refine (unhide cK).mono ?_
      rintro e w2 ⟨rfl, b2⟩
      have B2 := hide (vbup (unhide B1) b2)
      have R2 := vrow_later (unhide R1) b2
      have k0 := vrow_cell R2 (j := 0) (v := .int .u8 9) rfl
      have k1 := vrow_cell R2 (j := 1) (v := .bool false) rfl
      clear b2 cK R1 B1 HW R2
      go_wp2_with fail
      go_ret
      exact ⟨rfl, unhide B2⟩
    · go_enter Try.func56, Try.ntmps56
      go_wp2_with fail
      rw [← unhide HW]
      refine (unhide cK).mono ?_
      rintro e w2 ⟨rfl, b2⟩
      have B2 := hide (vbup (unhide B1) b2)
      have R2 := vrow_later (unhide R1) b2
      have k0 := vrow_cell R2 (j := 0) (v := .int .u8 9) rfl
      have k1 := vrow_cell R2 (j := 1) (v := .bool true) rfl
      clear b2 cK R1 B1 HW R2
      go_wp2_with fail
      go_ret
      exact ⟨rfl, unhide B2⟩
  by_cases h8 : t = 8
  · subst h8
    rw [show kn 8 = true by kernel_rfl] at cK
    cases un
    · go_enter Try.func56, Try.ntmps56
      go_wp2_with fail
      rw [← unhide HW]
      refine (unhide cK).mono ?_
      rintro e w2 ⟨rfl, b2⟩
      have B2 := hide (vbup (unhide B1) b2)
      have R2 := vrow_later (unhide R1) b2
      have k0 := vrow_cell R2 (j := 0) (v := .int .u8 8) rfl
      have k1 := vrow_cell R2 (j := 1) (v := .bool false) rfl
      clear b2 cK R1 B1 HW R2
      go_wp2_with fail
      go_ret
      exact ⟨rfl, unhide B2⟩
    · go_enter Try.func56, Try.ntmps56
      go_wp2_with fail
      rw [← unhide HW]
      refine (unhide cK).mono ?_
      rintro e w2 ⟨rfl, b2⟩
      have B2 := hide (vbup (unhide B1) b2)
      have R2 := vrow_later (unhide R1) b2
      have k0 := vrow_cell R2 (j := 0) (v := .int .u8 8) rfl
      have k1 := vrow_cell R2 (j := 1) (v := .bool true) rfl
      clear b2 cK R1 B1 HW R2
      go_wp2_with fail
      go_ret
      exact ⟨rfl, unhide B2⟩
  by_cases h4 : t = 4
  · subst h4
    rw [show kn 4 = true by kernel_rfl] at cK
    go_enter Try.func56, Try.ntmps56
    go_wp2_with fail
    rw [← unhide HW]
    refine (unhide cK).mono ?_
    rintro e w2 ⟨rfl, b2⟩
    have B2 := hide (vbup (unhide B1) b2)
    have R2 := vrow_later (unhide R1) b2
    have k0 := vrow_cell R2 (j := 0) (v := .int .u8 4) rfl
    have k1 := vrow_cell R2 (j := 1) (v := .bool un) rfl
    clear b2 cK R1 B1 HW R2
    go_wp2_with fail
    go_ret
    exact ⟨rfl, unhide B2⟩
  by_cases h5 : t = 5
  · subst h5
    rw [show kn 5 = true by kernel_rfl] at cK
    go_enter Try.func56, Try.ntmps56
    go_wp2_with fail
    rw [← unhide HW]
    refine (unhide cK).mono ?_
    rintro e w2 ⟨rfl, b2⟩
    have B2 := hide (vbup (unhide B1) b2)
    have R2 := vrow_later (unhide R1) b2
    have k0 := vrow_cell R2 (j := 0) (v := .int .u8 5) rfl
    have k1 := vrow_cell R2 (j := 1) (v := .bool un) rfl
    clear b2 cK R1 B1 HW R2
    go_wp2_with fail
    go_ret
    exact ⟨rfl, unhide B2⟩
  by_cases h7 : t = 7
  · subst h7
    rw [show kn 7 = true by kernel_rfl] at cK
    go_enter Try.func56, Try.ntmps56
    go_wp2_with fail
    rw [← unhide HW]
    refine (unhide cK).mono ?_
    rintro e w2 ⟨rfl, b2⟩
    have B2 := hide (vbup (unhide B1) b2)
    have R2 := vrow_later (unhide R1) b2
    have k0 := vrow_cell R2 (j := 0) (v := .int .u8 7) rfl
    have k1 := vrow_cell R2 (j := 1) (v := .bool un) rfl
    clear b2 cK R1 B1 HW R2
    go_wp2_with fail
    go_ret
    exact ⟨rfl, unhide B2⟩
  by_cases h10 : t = 10
  · subst h10
    rw [show kn 10 = true by kernel_rfl] at cK
    go_enter Try.func56, Try.ntmps56
    go_wp2_with fail
    rw [← unhide HW]
    refine (unhide cK).mono ?_
    rintro e w2 ⟨rfl, b2⟩
    have B2 := hide (vbup (unhide B1) b2)
    have R2 := vrow_later (unhide R1) b2
    have k0 := vrow_cell R2 (j := 0) (v := .int .u8 10) rfl
    have k1 := vrow_cell R2 (j := 1) (v := .bool un) rfl
    clear b2 cK R1 B1 HW R2
    go_wp2_with fail
    go_ret
    exact ⟨rfl, unhide B2⟩
  by_cases h12 : t = 12
  · subst h12
    rw [show kn 12 = true by kernel_rfl] at cK
    go_enter Try.func56, Try.ntmps56
    go_wp2_with fail
    rw [← unhide HW]
    refine (unhide cK).mono ?_
    rintro e w2 ⟨rfl, b2⟩
    have B2 := hide (vbup (unhide B1) b2)
    have R2 := vrow_later (unhide R1) b2
    have k0 := vrow_cell R2 (j := 0) (v := .int .u8 12) rfl
    have k1 := vrow_cell R2 (j := 1) (v := .bool un) rfl
    clear b2 cK R1 B1 HW R2
    go_wp2_with fail
    go_ret
    exact ⟨rfl, unhide B2⟩
  by_cases h11 : t = 11
  · subst h11
    rw [show kn 11 = true by kernel_rfl] at cK
    go_enter Try.func56, Try.ntmps56
    go_wp2_with fail
    rw [← unhide HW]
    refine (unhide cK).mono ?_
    rintro e w2 ⟨rfl, b2⟩
    have B2 := hide (vbup (unhide B1) b2)
    have R2 := vrow_later (unhide R1) b2
    have k0 := vrow_cell R2 (j := 0) (v := .int .u8 11) rfl
    have k1 := vrow_cell R2 (j := 1) (v := .bool un) rfl
    clear b2 cK R1 B1 HW R2
    go_wp2_with fail
    go_ret
    exact ⟨rfl, unhide B2⟩
  by_cases h6 : t = 6
  · subst h6
    rw [show kn 6 = true by kernel_rfl] at cK
    go_enter Try.func56, Try.ntmps56
    go_wp2_with fail
    rw [← unhide HW]
    refine (unhide cK).mono ?_
    rintro e w2 ⟨rfl, b2⟩
    have B2 := hide (vbup (unhide B1) b2)
    have R2 := vrow_later (unhide R1) b2
    have k0 := vrow_cell R2 (j := 0) (v := .int .u8 6) rfl
    have k1 := vrow_cell R2 (j := 1) (v := .bool un) rfl
    clear b2 cK R1 B1 HW R2
    go_wp2_with fail
    go_ret
    exact ⟨rfl, unhide B2⟩
  cases q : kn t
  · have e : kdV t un = -1 := by unfold kdV; rw [if_pos q]
    rw [e]
    rw [q] at cK
    clear e q h1 h2 h13 h3 h9 h8 h4 h5 h7 h10 h12 h11 h6
    go_enter Try.func56, Try.ntmps56
    go_wp2_with fail
    rw [← unhide HW]
    refine (unhide cK).mono ?_
    rintro e w2 ⟨rfl, b2⟩
    have B2 := hide (vbup (unhide B1) b2)
    have R2 := vrow_later (unhide R1) b2
    have k0 := vrow_cell R2 (j := 0) (v := .int .u8 t) rfl
    have k1 := vrow_cell R2 (j := 1) (v := .bool un) rfl
    clear b2 cK R1 B1 HW R2
    go_wp2_with fail
    go_ret
    exact ⟨rfl, unhide B2⟩
  · have e : kdV t un = 7 := by
      unfold kdV isN
      rw [if_neg (by rw [q]; decide), if_neg (by simp [h1, h2, h13, h3, h9, h8]), if_neg h4, if_neg h5, if_neg (by omega), if_neg h11, if_neg h6]
    rw [e]
    rw [q] at cK
    have g1 : (t == 1) = false := by simpa using h1
    have g2 : (t == 2) = false := by simpa using h2
    have g13 : (t == 13) = false := by simpa using h13
    have g3 : (t == 3) = false := by simpa using h3
    have g9 : (t == 9) = false := by simpa using h9
    have g8 : (t == 8) = false := by simpa using h8
    have g4 : (t == 4) = false := by simpa using h4
    have g5 : (t == 5) = false := by simpa using h5
    have g7 : (t == 7) = false := by simpa using h7
    have g10 : (t == 10) = false := by simpa using h10
    have g12 : (t == 12) = false := by simpa using h12
    have g11 : (t == 11) = false := by simpa using h11
    have g6 : (t == 6) = false := by simpa using h6
    clear e q h1 h2 h13 h3 h9 h8 h4 h5 h7 h10 h12 h11 h6
    go_enter Try.func56, Try.ntmps56
    go_wp2_with fail
    rw [← unhide HW]
    refine (unhide cK).mono ?_
    rintro e w2 ⟨rfl, b2⟩
    have B2 := hide (vbup (unhide B1) b2)
    have R2 := vrow_later (unhide R1) b2
    have k0 := vrow_cell R2 (j := 0) (v := .int .u8 t) rfl
    have k1 := vrow_cell R2 (j := 1) (v := .bool un) rfl
    clear b2 cK R1 B1 HW R2
    go_wp2_with fail
    go_ret
    exact ⟨rfl, unhide B2⟩

end Go.Proofs.Ytfgghgoonfamkaa
