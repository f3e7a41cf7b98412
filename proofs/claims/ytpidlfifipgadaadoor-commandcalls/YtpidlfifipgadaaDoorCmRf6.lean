/-
  The document's own answer for commands: Check and Append of a command that may not be. Conditions: the numbers fit.
-/
import Derived.Test.YtpidlfifipgadaaDoorCmRf1
namespace Go.Proofs.YtpidlfifipgadaaDoor
open Go.RowKit
set_option linter.unusedVariables false
set_option linter.unusedSimpArgs false

set_option maxHeartbeats 16000000 in
set_option maxRecDepth 100000 in
theorem check_ref_bad (c : Cm) (xo : Option Addr) (xn xc : Nat) (w : World) (hl : c.d.length = xn) (hbad : ¬ Nf c) (hf0 : 0 ≤ c.f) :
    Calls Tryd.prog 16 #[.agg (c.cd xo xn xc).row] w fun e w' => e = .returned (.int .i64 2) ∧ Below w.heap.size w w' := by
  have cS := hide (shape_ref c.k (w.alloc (.cells (c.cd xo xn xc).row 26)))
  have hok : (c.f ≤ 1 ∧ (0 ∈ fl c.k ∨ c.t = ⟨#[]⟩) ∧ (1 ∈ fl c.k ∨ c.s = 0) ∧ (2 ∈ fl c.k ∨ c.p = 0) ∧ (3 ∈ fl c.k ∨ c.f = 0) ∧ (5 ∈ fl c.k ∨ c.n = 0) ∧ (6 ∈ fl c.k ∨ c.o = 0) ∧ (7 ∈ fl c.k ∨ xn = 0)) → Nf c :=
    fun ⟨a, b, c', d, e, f, g, h⟩ => ⟨a, b, c', d, e, f, g, h.imp id (fun q => List.eq_nil_of_length_eq_zero (hl.trans q))⟩
  generalize Nf c = NN at *
  obtain ⟨K, T, S, P, F, N, O, D⟩ := c
  simp only [Cm.cd, Cd.row] at *
  have hw := shp_fl K
  generalize shp K = s at *
  generalize fl K = l at *
  clear hl
  rcases hw with ⟨rfl, rfl⟩ | ⟨rfl, rfl⟩ | ⟨rfl, rfl⟩ | ⟨rfl, rfl⟩ | ⟨rfl, rfl⟩ | ⟨rfl, rfl⟩ | ⟨rfl, rfl⟩ | ⟨rfl, rfl⟩ | ⟨rfl, rfl⟩
  · by_cases q0 : T.toList = []
    · obtain rfl := ba_nil q0
      clear q0
      by_cases q1 : S = 0
      · subst q1
        by_cases q2 : P = 0
        · subst q2
          by_cases q3 : F = 0
          · subst q3
            by_cases q5 : N = 0
            · subst q5
              by_cases q6 : O = 0
              · subst q6
                by_cases q7 : xn = 0
                · subst q7
                  exact absurd (hok ⟨by omega, .inr rfl, .inr rfl, .inr rfl, .inr rfl, .inr rfl, .inr rfl, .inr rfl⟩) hbad
                · have q8 : (xn : Int) > 0 := by omega
                  clear hok hbad
                  go_enter Tryd.func16, Tryd.ntmps16
                  go_wp2_with (go_at_call 30; refine same_world (unhide cS) ?_)
                  go_ret
                  exact ⟨rfl, below_alloc w _⟩
              · have p6 : (O != 0) = true := by simpa using q6
                clear hok hbad
                go_enter Tryd.func16, Tryd.ntmps16
                go_wp2_with (go_at_call 30; refine same_world (unhide cS) ?_)
                go_ret
                exact ⟨rfl, below_alloc w _⟩
            · have p5 : (N != 0) = true := by simpa using q5
              clear hok hbad
              go_enter Tryd.func16, Tryd.ntmps16
              go_wp2_with (go_at_call 30; refine same_world (unhide cS) ?_)
              go_ret
              exact ⟨rfl, below_alloc w _⟩
          · have p3 : (F != 0) = true := by simpa using q3
            clear hok hbad
            go_enter Tryd.func16, Tryd.ntmps16
            go_wp2_with (go_at_call 30; refine same_world (unhide cS) ?_)
            go_ret
            exact ⟨rfl, below_alloc w _⟩
        · have p2 : (P != 0) = true := by simpa using q2
          clear hok hbad
          go_enter Tryd.func16, Tryd.ntmps16
          go_wp2_with (go_at_call 30; refine same_world (unhide cS) ?_)
          go_ret
          exact ⟨rfl, below_alloc w _⟩
      · have p1 : (S != 0) = true := by simpa using q1
        clear hok hbad
        go_enter Tryd.func16, Tryd.ntmps16
        go_wp2_with (go_at_call 30; refine same_world (unhide cS) ?_)
        go_ret
        exact ⟨rfl, below_alloc w _⟩
    · clear hok hbad
      go_enter Tryd.func16, Tryd.ntmps16
      go_wp2_with (go_at_call 30; refine same_world (unhide cS) ?_)
      go_ret
      exact ⟨rfl, below_alloc w _⟩
  · by_cases q0 : T.toList = []
    · obtain rfl := ba_nil q0
      clear q0
      by_cases q1 : S = 0
      · subst q1
        by_cases q2 : P = 0
        · subst q2
          by_cases q3 : F = 0
          · subst q3
            by_cases q5 : N = 0
            · subst q5
              by_cases q6 : O = 0
              · subst q6
                by_cases q7 : xn = 0
                · subst q7
                  exact absurd (hok ⟨by omega, .inl (by decide), .inr rfl, .inr rfl, .inr rfl, .inr rfl, .inr rfl, .inr rfl⟩) hbad
                · have q8 : (xn : Int) > 0 := by omega
                  clear hok hbad
                  go_enter Tryd.func16, Tryd.ntmps16
                  go_wp2_with (go_at_call 30; refine same_world (unhide cS) ?_)
                  go_ret
                  exact ⟨rfl, below_alloc w _⟩
              · have p6 : (O != 0) = true := by simpa using q6
                clear hok hbad
                go_enter Tryd.func16, Tryd.ntmps16
                go_wp2_with (go_at_call 30; refine same_world (unhide cS) ?_)
                go_ret
                exact ⟨rfl, below_alloc w _⟩
            · have p5 : (N != 0) = true := by simpa using q5
              clear hok hbad
              go_enter Tryd.func16, Tryd.ntmps16
              go_wp2_with (go_at_call 30; refine same_world (unhide cS) ?_)
              go_ret
              exact ⟨rfl, below_alloc w _⟩
          · have p3 : (F != 0) = true := by simpa using q3
            clear hok hbad
            go_enter Tryd.func16, Tryd.ntmps16
            go_wp2_with (go_at_call 30; refine same_world (unhide cS) ?_)
            go_ret
            exact ⟨rfl, below_alloc w _⟩
        · have p2 : (P != 0) = true := by simpa using q2
          clear hok hbad
          go_enter Tryd.func16, Tryd.ntmps16
          go_wp2_with (go_at_call 30; refine same_world (unhide cS) ?_)
          go_ret
          exact ⟨rfl, below_alloc w _⟩
      · have p1 : (S != 0) = true := by simpa using q1
        clear hok hbad
        go_enter Tryd.func16, Tryd.ntmps16
        go_wp2_with (go_at_call 30; refine same_world (unhide cS) ?_)
        go_ret
        exact ⟨rfl, below_alloc w _⟩
    · by_cases q1 : S = 0
      · subst q1
        by_cases q2 : P = 0
        · subst q2
          by_cases q3 : F = 0
          · subst q3
            by_cases q5 : N = 0
            · subst q5
              by_cases q6 : O = 0
              · subst q6
                by_cases q7 : xn = 0
                · subst q7
                  exact absurd (hok ⟨by omega, .inl (by decide), .inr rfl, .inr rfl, .inr rfl, .inr rfl, .inr rfl, .inr rfl⟩) hbad
                · have q8 : (xn : Int) > 0 := by omega
                  clear hok hbad
                  go_enter Tryd.func16, Tryd.ntmps16
                  go_wp2_with (go_at_call 30; refine same_world (unhide cS) ?_)
                  go_ret
                  exact ⟨rfl, below_alloc w _⟩
              · have p6 : (O != 0) = true := by simpa using q6
                clear hok hbad
                go_enter Tryd.func16, Tryd.ntmps16
                go_wp2_with (go_at_call 30; refine same_world (unhide cS) ?_)
                go_ret
                exact ⟨rfl, below_alloc w _⟩
            · have p5 : (N != 0) = true := by simpa using q5
              clear hok hbad
              go_enter Tryd.func16, Tryd.ntmps16
              go_wp2_with (go_at_call 30; refine same_world (unhide cS) ?_)
              go_ret
              exact ⟨rfl, below_alloc w _⟩
          · have p3 : (F != 0) = true := by simpa using q3
            clear hok hbad
            go_enter Tryd.func16, Tryd.ntmps16
            go_wp2_with (go_at_call 30; refine same_world (unhide cS) ?_)
            go_ret
            exact ⟨rfl, below_alloc w _⟩
        · have p2 : (P != 0) = true := by simpa using q2
          clear hok hbad
          go_enter Tryd.func16, Tryd.ntmps16
          go_wp2_with (go_at_call 30; refine same_world (unhide cS) ?_)
          go_ret
          exact ⟨rfl, below_alloc w _⟩
      · have p1 : (S != 0) = true := by simpa using q1
        clear hok hbad
        go_enter Tryd.func16, Tryd.ntmps16
        go_wp2_with (go_at_call 30; refine same_world (unhide cS) ?_)
        go_ret
        exact ⟨rfl, below_alloc w _⟩
  · by_cases q0 : T.toList = []
    · obtain rfl := ba_nil q0
      clear q0
      by_cases q1 : S = 0
      · subst q1
        by_cases q2 : P = 0
        · subst q2
          by_cases q3 : F = 0
          · subst q3
            by_cases q5 : N = 0
            · subst q5
              by_cases q6 : O = 0
              · subst q6
                by_cases q7 : xn = 0
                · subst q7
                  exact absurd (hok ⟨by omega, .inr rfl, .inr rfl, .inr rfl, .inr rfl, .inl (by decide), .inr rfl, .inr rfl⟩) hbad
                · have q8 : (xn : Int) > 0 := by omega
                  clear hok hbad
                  go_enter Tryd.func16, Tryd.ntmps16
                  go_wp2_with (go_at_call 30; refine same_world (unhide cS) ?_)
                  go_ret
                  exact ⟨rfl, below_alloc w _⟩
              · have p6 : (O != 0) = true := by simpa using q6
                clear hok hbad
                go_enter Tryd.func16, Tryd.ntmps16
                go_wp2_with (go_at_call 30; refine same_world (unhide cS) ?_)
                go_ret
                exact ⟨rfl, below_alloc w _⟩
            · have p5 : (N != 0) = true := by simpa using q5
              by_cases q6 : O = 0
              · subst q6
                by_cases q7 : xn = 0
                · subst q7
                  exact absurd (hok ⟨by omega, .inr rfl, .inr rfl, .inr rfl, .inr rfl, .inl (by decide), .inr rfl, .inr rfl⟩) hbad
                · have q8 : (xn : Int) > 0 := by omega
                  clear hok hbad
                  go_enter Tryd.func16, Tryd.ntmps16
                  go_wp2_with (go_at_call 30; refine same_world (unhide cS) ?_)
                  go_ret
                  exact ⟨rfl, below_alloc w _⟩
              · have p6 : (O != 0) = true := by simpa using q6
                clear hok hbad
                go_enter Tryd.func16, Tryd.ntmps16
                go_wp2_with (go_at_call 30; refine same_world (unhide cS) ?_)
                go_ret
                exact ⟨rfl, below_alloc w _⟩
          · have p3 : (F != 0) = true := by simpa using q3
            clear hok hbad
            go_enter Tryd.func16, Tryd.ntmps16
            go_wp2_with (go_at_call 30; refine same_world (unhide cS) ?_)
            go_ret
            exact ⟨rfl, below_alloc w _⟩
        · have p2 : (P != 0) = true := by simpa using q2
          clear hok hbad
          go_enter Tryd.func16, Tryd.ntmps16
          go_wp2_with (go_at_call 30; refine same_world (unhide cS) ?_)
          go_ret
          exact ⟨rfl, below_alloc w _⟩
      · have p1 : (S != 0) = true := by simpa using q1
        clear hok hbad
        go_enter Tryd.func16, Tryd.ntmps16
        go_wp2_with (go_at_call 30; refine same_world (unhide cS) ?_)
        go_ret
        exact ⟨rfl, below_alloc w _⟩
    · clear hok hbad
      go_enter Tryd.func16, Tryd.ntmps16
      go_wp2_with (go_at_call 30; refine same_world (unhide cS) ?_)
      go_ret
      exact ⟨rfl, below_alloc w _⟩
  · by_cases q0 : T.toList = []
    · obtain rfl := ba_nil q0
      clear q0
      by_cases q1 : S = 0
      · subst q1
        by_cases q2 : P = 0
        · subst q2
          by_cases q3 : F = 0
          · subst q3
            by_cases q5 : N = 0
            · subst q5
              by_cases q6 : O = 0
              · subst q6
                by_cases q7 : xn = 0
                · subst q7
                  exact absurd (hok ⟨by omega, .inr rfl, .inl (by decide), .inr rfl, .inl (by decide), .inr rfl, .inr rfl, .inl (by decide)⟩) hbad
                · have q8 : (xn : Int) > 0 := by omega
                  exact absurd (hok ⟨by omega, .inr rfl, .inl (by decide), .inr rfl, .inl (by decide), .inr rfl, .inr rfl, .inl (by decide)⟩) hbad
              · have p6 : (O != 0) = true := by simpa using q6
                clear hok hbad
                go_enter Tryd.func16, Tryd.ntmps16
                go_wp2_with (go_at_call 30; refine same_world (unhide cS) ?_)
                go_ret
                exact ⟨rfl, below_alloc w _⟩
            · have p5 : (N != 0) = true := by simpa using q5
              clear hok hbad
              go_enter Tryd.func16, Tryd.ntmps16
              go_wp2_with (go_at_call 30; refine same_world (unhide cS) ?_)
              go_ret
              exact ⟨rfl, below_alloc w _⟩
          · have p3 : (F != 0) = true := by simpa using q3
            by_cases q9 : F > 1
            · clear hok hbad
              go_enter Tryd.func16, Tryd.ntmps16
              go_wp2_with (go_at_call 30; refine same_world (unhide cS) ?_)
              go_ret
              exact ⟨rfl, below_alloc w _⟩
            · by_cases q5 : N = 0
              · subst q5
                by_cases q6 : O = 0
                · subst q6
                  by_cases q7 : xn = 0
                  · subst q7
                    exact absurd (hok ⟨by omega, .inr rfl, .inl (by decide), .inr rfl, .inl (by decide), .inr rfl, .inr rfl, .inl (by decide)⟩) hbad
                  · have q8 : (xn : Int) > 0 := by omega
                    exact absurd (hok ⟨by omega, .inr rfl, .inl (by decide), .inr rfl, .inl (by decide), .inr rfl, .inr rfl, .inl (by decide)⟩) hbad
                · have p6 : (O != 0) = true := by simpa using q6
                  clear hok hbad
                  go_enter Tryd.func16, Tryd.ntmps16
                  go_wp2_with (go_at_call 30; refine same_world (unhide cS) ?_)
                  go_ret
                  exact ⟨rfl, below_alloc w _⟩
              · have p5 : (N != 0) = true := by simpa using q5
                clear hok hbad
                go_enter Tryd.func16, Tryd.ntmps16
                go_wp2_with (go_at_call 30; refine same_world (unhide cS) ?_)
                go_ret
                exact ⟨rfl, below_alloc w _⟩
        · have p2 : (P != 0) = true := by simpa using q2
          clear hok hbad
          go_enter Tryd.func16, Tryd.ntmps16
          go_wp2_with (go_at_call 30; refine same_world (unhide cS) ?_)
          go_ret
          exact ⟨rfl, below_alloc w _⟩
      · have p1 : (S != 0) = true := by simpa using q1
        by_cases q2 : P = 0
        · subst q2
          by_cases q3 : F = 0
          · subst q3
            by_cases q5 : N = 0
            · subst q5
              by_cases q6 : O = 0
              · subst q6
                by_cases q7 : xn = 0
                · subst q7
                  exact absurd (hok ⟨by omega, .inr rfl, .inl (by decide), .inr rfl, .inl (by decide), .inr rfl, .inr rfl, .inl (by decide)⟩) hbad
                · have q8 : (xn : Int) > 0 := by omega
                  exact absurd (hok ⟨by omega, .inr rfl, .inl (by decide), .inr rfl, .inl (by decide), .inr rfl, .inr rfl, .inl (by decide)⟩) hbad
              · have p6 : (O != 0) = true := by simpa using q6
                clear hok hbad
                go_enter Tryd.func16, Tryd.ntmps16
                go_wp2_with (go_at_call 30; refine same_world (unhide cS) ?_)
                go_ret
                exact ⟨rfl, below_alloc w _⟩
            · have p5 : (N != 0) = true := by simpa using q5
              clear hok hbad
              go_enter Tryd.func16, Tryd.ntmps16
              go_wp2_with (go_at_call 30; refine same_world (unhide cS) ?_)
              go_ret
              exact ⟨rfl, below_alloc w _⟩
          · have p3 : (F != 0) = true := by simpa using q3
            by_cases q9 : F > 1
            · clear hok hbad
              go_enter Tryd.func16, Tryd.ntmps16
              go_wp2_with (go_at_call 30; refine same_world (unhide cS) ?_)
              go_ret
              exact ⟨rfl, below_alloc w _⟩
            · by_cases q5 : N = 0
              · subst q5
                by_cases q6 : O = 0
                · subst q6
                  by_cases q7 : xn = 0
                  · subst q7
                    exact absurd (hok ⟨by omega, .inr rfl, .inl (by decide), .inr rfl, .inl (by decide), .inr rfl, .inr rfl, .inl (by decide)⟩) hbad
                  · have q8 : (xn : Int) > 0 := by omega
                    exact absurd (hok ⟨by omega, .inr rfl, .inl (by decide), .inr rfl, .inl (by decide), .inr rfl, .inr rfl, .inl (by decide)⟩) hbad
                · have p6 : (O != 0) = true := by simpa using q6
                  clear hok hbad
                  go_enter Tryd.func16, Tryd.ntmps16
                  go_wp2_with (go_at_call 30; refine same_world (unhide cS) ?_)
                  go_ret
                  exact ⟨rfl, below_alloc w _⟩
              · have p5 : (N != 0) = true := by simpa using q5
                clear hok hbad
                go_enter Tryd.func16, Tryd.ntmps16
                go_wp2_with (go_at_call 30; refine same_world (unhide cS) ?_)
                go_ret
                exact ⟨rfl, below_alloc w _⟩
        · have p2 : (P != 0) = true := by simpa using q2
          clear hok hbad
          go_enter Tryd.func16, Tryd.ntmps16
          go_wp2_with (go_at_call 30; refine same_world (unhide cS) ?_)
          go_ret
          exact ⟨rfl, below_alloc w _⟩
    · clear hok hbad
      go_enter Tryd.func16, Tryd.ntmps16
      go_wp2_with (go_at_call 30; refine same_world (unhide cS) ?_)
      go_ret
      exact ⟨rfl, below_alloc w _⟩
  · by_cases q0 : T.toList = []
    · obtain rfl := ba_nil q0
      clear q0
      by_cases q1 : S = 0
      · subst q1
        by_cases q2 : P = 0
        · subst q2
          by_cases q3 : F = 0
          · subst q3
            by_cases q5 : N = 0
            · subst q5
              by_cases q6 : O = 0
              · subst q6
                by_cases q7 : xn = 0
                · subst q7
                  exact absurd (hok ⟨by omega, .inr rfl, .inl (by decide), .inl (by decide), .inr rfl, .inr rfl, .inr rfl, .inl (by decide)⟩) hbad
                · have q8 : (xn : Int) > 0 := by omega
                  exact absurd (hok ⟨by omega, .inr rfl, .inl (by decide), .inl (by decide), .inr rfl, .inr rfl, .inr rfl, .inl (by decide)⟩) hbad
              · have p6 : (O != 0) = true := by simpa using q6
                clear hok hbad
                go_enter Tryd.func16, Tryd.ntmps16
                go_wp2_with (go_at_call 30; refine same_world (unhide cS) ?_)
                go_ret
                exact ⟨rfl, below_alloc w _⟩
            · have p5 : (N != 0) = true := by simpa using q5
              clear hok hbad
              go_enter Tryd.func16, Tryd.ntmps16
              go_wp2_with (go_at_call 30; refine same_world (unhide cS) ?_)
              go_ret
              exact ⟨rfl, below_alloc w _⟩
          · have p3 : (F != 0) = true := by simpa using q3
            clear hok hbad
            go_enter Tryd.func16, Tryd.ntmps16
            go_wp2_with (go_at_call 30; refine same_world (unhide cS) ?_)
            go_ret
            exact ⟨rfl, below_alloc w _⟩
        · have p2 : (P != 0) = true := by simpa using q2
          by_cases q3 : F = 0
          · subst q3
            by_cases q5 : N = 0
            · subst q5
              by_cases q6 : O = 0
              · subst q6
                by_cases q7 : xn = 0
                · subst q7
                  exact absurd (hok ⟨by omega, .inr rfl, .inl (by decide), .inl (by decide), .inr rfl, .inr rfl, .inr rfl, .inl (by decide)⟩) hbad
                · have q8 : (xn : Int) > 0 := by omega
                  exact absurd (hok ⟨by omega, .inr rfl, .inl (by decide), .inl (by decide), .inr rfl, .inr rfl, .inr rfl, .inl (by decide)⟩) hbad
              · have p6 : (O != 0) = true := by simpa using q6
                clear hok hbad
                go_enter Tryd.func16, Tryd.ntmps16
                go_wp2_with (go_at_call 30; refine same_world (unhide cS) ?_)
                go_ret
                exact ⟨rfl, below_alloc w _⟩
            · have p5 : (N != 0) = true := by simpa using q5
              clear hok hbad
              go_enter Tryd.func16, Tryd.ntmps16
              go_wp2_with (go_at_call 30; refine same_world (unhide cS) ?_)
              go_ret
              exact ⟨rfl, below_alloc w _⟩
          · have p3 : (F != 0) = true := by simpa using q3
            clear hok hbad
            go_enter Tryd.func16, Tryd.ntmps16
            go_wp2_with (go_at_call 30; refine same_world (unhide cS) ?_)
            go_ret
            exact ⟨rfl, below_alloc w _⟩
      · have p1 : (S != 0) = true := by simpa using q1
        by_cases q2 : P = 0
        · subst q2
          by_cases q3 : F = 0
          · subst q3
            by_cases q5 : N = 0
            · subst q5
              by_cases q6 : O = 0
              · subst q6
                by_cases q7 : xn = 0
                · subst q7
                  exact absurd (hok ⟨by omega, .inr rfl, .inl (by decide), .inl (by decide), .inr rfl, .inr rfl, .inr rfl, .inl (by decide)⟩) hbad
                · have q8 : (xn : Int) > 0 := by omega
                  exact absurd (hok ⟨by omega, .inr rfl, .inl (by decide), .inl (by decide), .inr rfl, .inr rfl, .inr rfl, .inl (by decide)⟩) hbad
              · have p6 : (O != 0) = true := by simpa using q6
                clear hok hbad
                go_enter Tryd.func16, Tryd.ntmps16
                go_wp2_with (go_at_call 30; refine same_world (unhide cS) ?_)
                go_ret
                exact ⟨rfl, below_alloc w _⟩
            · have p5 : (N != 0) = true := by simpa using q5
              clear hok hbad
              go_enter Tryd.func16, Tryd.ntmps16
              go_wp2_with (go_at_call 30; refine same_world (unhide cS) ?_)
              go_ret
              exact ⟨rfl, below_alloc w _⟩
          · have p3 : (F != 0) = true := by simpa using q3
            clear hok hbad
            go_enter Tryd.func16, Tryd.ntmps16
            go_wp2_with (go_at_call 30; refine same_world (unhide cS) ?_)
            go_ret
            exact ⟨rfl, below_alloc w _⟩
        · have p2 : (P != 0) = true := by simpa using q2
          by_cases q3 : F = 0
          · subst q3
            by_cases q5 : N = 0
            · subst q5
              by_cases q6 : O = 0
              · subst q6
                by_cases q7 : xn = 0
                · subst q7
                  exact absurd (hok ⟨by omega, .inr rfl, .inl (by decide), .inl (by decide), .inr rfl, .inr rfl, .inr rfl, .inl (by decide)⟩) hbad
                · have q8 : (xn : Int) > 0 := by omega
                  exact absurd (hok ⟨by omega, .inr rfl, .inl (by decide), .inl (by decide), .inr rfl, .inr rfl, .inr rfl, .inl (by decide)⟩) hbad
              · have p6 : (O != 0) = true := by simpa using q6
                clear hok hbad
                go_enter Tryd.func16, Tryd.ntmps16
                go_wp2_with (go_at_call 30; refine same_world (unhide cS) ?_)
                go_ret
                exact ⟨rfl, below_alloc w _⟩
            · have p5 : (N != 0) = true := by simpa using q5
              clear hok hbad
              go_enter Tryd.func16, Tryd.ntmps16
              go_wp2_with (go_at_call 30; refine same_world (unhide cS) ?_)
              go_ret
              exact ⟨rfl, below_alloc w _⟩
          · have p3 : (F != 0) = true := by simpa using q3
            clear hok hbad
            go_enter Tryd.func16, Tryd.ntmps16
            go_wp2_with (go_at_call 30; refine same_world (unhide cS) ?_)
            go_ret
            exact ⟨rfl, below_alloc w _⟩
    · clear hok hbad
      go_enter Tryd.func16, Tryd.ntmps16
      go_wp2_with (go_at_call 30; refine same_world (unhide cS) ?_)
      go_ret
      exact ⟨rfl, below_alloc w _⟩
  · by_cases q0 : T.toList = []
    · obtain rfl := ba_nil q0
      clear q0
      by_cases q1 : S = 0
      · subst q1
        by_cases q2 : P = 0
        · subst q2
          by_cases q3 : F = 0
          · subst q3
            by_cases q5 : N = 0
            · subst q5
              by_cases q6 : O = 0
              · subst q6
                by_cases q7 : xn = 0
                · subst q7
                  exact absurd (hok ⟨by omega, .inr rfl, .inl (by decide), .inr rfl, .inr rfl, .inr rfl, .inr rfl, .inr rfl⟩) hbad
                · have q8 : (xn : Int) > 0 := by omega
                  clear hok hbad
                  go_enter Tryd.func16, Tryd.ntmps16
                  go_wp2_with (go_at_call 30; refine same_world (unhide cS) ?_)
                  go_ret
                  exact ⟨rfl, below_alloc w _⟩
              · have p6 : (O != 0) = true := by simpa using q6
                clear hok hbad
                go_enter Tryd.func16, Tryd.ntmps16
                go_wp2_with (go_at_call 30; refine same_world (unhide cS) ?_)
                go_ret
                exact ⟨rfl, below_alloc w _⟩
            · have p5 : (N != 0) = true := by simpa using q5
              clear hok hbad
              go_enter Tryd.func16, Tryd.ntmps16
              go_wp2_with (go_at_call 30; refine same_world (unhide cS) ?_)
              go_ret
              exact ⟨rfl, below_alloc w _⟩
          · have p3 : (F != 0) = true := by simpa using q3
            clear hok hbad
            go_enter Tryd.func16, Tryd.ntmps16
            go_wp2_with (go_at_call 30; refine same_world (unhide cS) ?_)
            go_ret
            exact ⟨rfl, below_alloc w _⟩
        · have p2 : (P != 0) = true := by simpa using q2
          clear hok hbad
          go_enter Tryd.func16, Tryd.ntmps16
          go_wp2_with (go_at_call 30; refine same_world (unhide cS) ?_)
          go_ret
          exact ⟨rfl, below_alloc w _⟩
      · have p1 : (S != 0) = true := by simpa using q1
        by_cases q2 : P = 0
        · subst q2
          by_cases q3 : F = 0
          · subst q3
            by_cases q5 : N = 0
            · subst q5
              by_cases q6 : O = 0
              · subst q6
                by_cases q7 : xn = 0
                · subst q7
                  exact absurd (hok ⟨by omega, .inr rfl, .inl (by decide), .inr rfl, .inr rfl, .inr rfl, .inr rfl, .inr rfl⟩) hbad
                · have q8 : (xn : Int) > 0 := by omega
                  clear hok hbad
                  go_enter Tryd.func16, Tryd.ntmps16
                  go_wp2_with (go_at_call 30; refine same_world (unhide cS) ?_)
                  go_ret
                  exact ⟨rfl, below_alloc w _⟩
              · have p6 : (O != 0) = true := by simpa using q6
                clear hok hbad
                go_enter Tryd.func16, Tryd.ntmps16
                go_wp2_with (go_at_call 30; refine same_world (unhide cS) ?_)
                go_ret
                exact ⟨rfl, below_alloc w _⟩
            · have p5 : (N != 0) = true := by simpa using q5
              clear hok hbad
              go_enter Tryd.func16, Tryd.ntmps16
              go_wp2_with (go_at_call 30; refine same_world (unhide cS) ?_)
              go_ret
              exact ⟨rfl, below_alloc w _⟩
          · have p3 : (F != 0) = true := by simpa using q3
            clear hok hbad
            go_enter Tryd.func16, Tryd.ntmps16
            go_wp2_with (go_at_call 30; refine same_world (unhide cS) ?_)
            go_ret
            exact ⟨rfl, below_alloc w _⟩
        · have p2 : (P != 0) = true := by simpa using q2
          clear hok hbad
          go_enter Tryd.func16, Tryd.ntmps16
          go_wp2_with (go_at_call 30; refine same_world (unhide cS) ?_)
          go_ret
          exact ⟨rfl, below_alloc w _⟩
    · clear hok hbad
      go_enter Tryd.func16, Tryd.ntmps16
      go_wp2_with (go_at_call 30; refine same_world (unhide cS) ?_)
      go_ret
      exact ⟨rfl, below_alloc w _⟩
  · by_cases q0 : T.toList = []
    · obtain rfl := ba_nil q0
      clear q0
      by_cases q1 : S = 0
      · subst q1
        by_cases q2 : P = 0
        · subst q2
          by_cases q3 : F = 0
          · subst q3
            by_cases q5 : N = 0
            · subst q5
              by_cases q6 : O = 0
              · subst q6
                by_cases q7 : xn = 0
                · subst q7
                  exact absurd (hok ⟨by omega, .inr rfl, .inr rfl, .inr rfl, .inr rfl, .inr rfl, .inl (by decide), .inr rfl⟩) hbad
                · have q8 : (xn : Int) > 0 := by omega
                  clear hok hbad
                  go_enter Tryd.func16, Tryd.ntmps16
                  go_wp2_with (go_at_call 30; refine same_world (unhide cS) ?_)
                  go_ret
                  exact ⟨rfl, below_alloc w _⟩
              · have p6 : (O != 0) = true := by simpa using q6
                by_cases q7 : xn = 0
                · subst q7
                  exact absurd (hok ⟨by omega, .inr rfl, .inr rfl, .inr rfl, .inr rfl, .inr rfl, .inl (by decide), .inr rfl⟩) hbad
                · have q8 : (xn : Int) > 0 := by omega
                  clear hok hbad
                  go_enter Tryd.func16, Tryd.ntmps16
                  go_wp2_with (go_at_call 30; refine same_world (unhide cS) ?_)
                  go_ret
                  exact ⟨rfl, below_alloc w _⟩
            · have p5 : (N != 0) = true := by simpa using q5
              clear hok hbad
              go_enter Tryd.func16, Tryd.ntmps16
              go_wp2_with (go_at_call 30; refine same_world (unhide cS) ?_)
              go_ret
              exact ⟨rfl, below_alloc w _⟩
          · have p3 : (F != 0) = true := by simpa using q3
            clear hok hbad
            go_enter Tryd.func16, Tryd.ntmps16
            go_wp2_with (go_at_call 30; refine same_world (unhide cS) ?_)
            go_ret
            exact ⟨rfl, below_alloc w _⟩
        · have p2 : (P != 0) = true := by simpa using q2
          clear hok hbad
          go_enter Tryd.func16, Tryd.ntmps16
          go_wp2_with (go_at_call 30; refine same_world (unhide cS) ?_)
          go_ret
          exact ⟨rfl, below_alloc w _⟩
      · have p1 : (S != 0) = true := by simpa using q1
        clear hok hbad
        go_enter Tryd.func16, Tryd.ntmps16
        go_wp2_with (go_at_call 30; refine same_world (unhide cS) ?_)
        go_ret
        exact ⟨rfl, below_alloc w _⟩
    · clear hok hbad
      go_enter Tryd.func16, Tryd.ntmps16
      go_wp2_with (go_at_call 30; refine same_world (unhide cS) ?_)
      go_ret
      exact ⟨rfl, below_alloc w _⟩
  · by_cases q0 : T.toList = []
    · obtain rfl := ba_nil q0
      clear q0
      by_cases q1 : S = 0
      · subst q1
        by_cases q2 : P = 0
        · subst q2
          by_cases q3 : F = 0
          · subst q3
            by_cases q5 : N = 0
            · subst q5
              by_cases q6 : O = 0
              · subst q6
                by_cases q7 : xn = 0
                · subst q7
                  exact absurd (hok ⟨by omega, .inr rfl, .inl (by decide), .inr rfl, .inr rfl, .inl (by decide), .inr rfl, .inr rfl⟩) hbad
                · have q8 : (xn : Int) > 0 := by omega
                  clear hok hbad
                  go_enter Tryd.func16, Tryd.ntmps16
                  go_wp2_with (go_at_call 30; refine same_world (unhide cS) ?_)
                  go_ret
                  exact ⟨rfl, below_alloc w _⟩
              · have p6 : (O != 0) = true := by simpa using q6
                clear hok hbad
                go_enter Tryd.func16, Tryd.ntmps16
                go_wp2_with (go_at_call 30; refine same_world (unhide cS) ?_)
                go_ret
                exact ⟨rfl, below_alloc w _⟩
            · have p5 : (N != 0) = true := by simpa using q5
              by_cases q6 : O = 0
              · subst q6
                by_cases q7 : xn = 0
                · subst q7
                  exact absurd (hok ⟨by omega, .inr rfl, .inl (by decide), .inr rfl, .inr rfl, .inl (by decide), .inr rfl, .inr rfl⟩) hbad
                · have q8 : (xn : Int) > 0 := by omega
                  clear hok hbad
                  go_enter Tryd.func16, Tryd.ntmps16
                  go_wp2_with (go_at_call 30; refine same_world (unhide cS) ?_)
                  go_ret
                  exact ⟨rfl, below_alloc w _⟩
              · have p6 : (O != 0) = true := by simpa using q6
                clear hok hbad
                go_enter Tryd.func16, Tryd.ntmps16
                go_wp2_with (go_at_call 30; refine same_world (unhide cS) ?_)
                go_ret
                exact ⟨rfl, below_alloc w _⟩
          · have p3 : (F != 0) = true := by simpa using q3
            clear hok hbad
            go_enter Tryd.func16, Tryd.ntmps16
            go_wp2_with (go_at_call 30; refine same_world (unhide cS) ?_)
            go_ret
            exact ⟨rfl, below_alloc w _⟩
        · have p2 : (P != 0) = true := by simpa using q2
          clear hok hbad
          go_enter Tryd.func16, Tryd.ntmps16
          go_wp2_with (go_at_call 30; refine same_world (unhide cS) ?_)
          go_ret
          exact ⟨rfl, below_alloc w _⟩
      · have p1 : (S != 0) = true := by simpa using q1
        by_cases q2 : P = 0
        · subst q2
          by_cases q3 : F = 0
          · subst q3
            by_cases q5 : N = 0
            · subst q5
              by_cases q6 : O = 0
              · subst q6
                by_cases q7 : xn = 0
                · subst q7
                  exact absurd (hok ⟨by omega, .inr rfl, .inl (by decide), .inr rfl, .inr rfl, .inl (by decide), .inr rfl, .inr rfl⟩) hbad
                · have q8 : (xn : Int) > 0 := by omega
                  clear hok hbad
                  go_enter Tryd.func16, Tryd.ntmps16
                  go_wp2_with (go_at_call 30; refine same_world (unhide cS) ?_)
                  go_ret
                  exact ⟨rfl, below_alloc w _⟩
              · have p6 : (O != 0) = true := by simpa using q6
                clear hok hbad
                go_enter Tryd.func16, Tryd.ntmps16
                go_wp2_with (go_at_call 30; refine same_world (unhide cS) ?_)
                go_ret
                exact ⟨rfl, below_alloc w _⟩
            · have p5 : (N != 0) = true := by simpa using q5
              by_cases q6 : O = 0
              · subst q6
                by_cases q7 : xn = 0
                · subst q7
                  exact absurd (hok ⟨by omega, .inr rfl, .inl (by decide), .inr rfl, .inr rfl, .inl (by decide), .inr rfl, .inr rfl⟩) hbad
                · have q8 : (xn : Int) > 0 := by omega
                  clear hok hbad
                  go_enter Tryd.func16, Tryd.ntmps16
                  go_wp2_with (go_at_call 30; refine same_world (unhide cS) ?_)
                  go_ret
                  exact ⟨rfl, below_alloc w _⟩
              · have p6 : (O != 0) = true := by simpa using q6
                clear hok hbad
                go_enter Tryd.func16, Tryd.ntmps16
                go_wp2_with (go_at_call 30; refine same_world (unhide cS) ?_)
                go_ret
                exact ⟨rfl, below_alloc w _⟩
          · have p3 : (F != 0) = true := by simpa using q3
            clear hok hbad
            go_enter Tryd.func16, Tryd.ntmps16
            go_wp2_with (go_at_call 30; refine same_world (unhide cS) ?_)
            go_ret
            exact ⟨rfl, below_alloc w _⟩
        · have p2 : (P != 0) = true := by simpa using q2
          clear hok hbad
          go_enter Tryd.func16, Tryd.ntmps16
          go_wp2_with (go_at_call 30; refine same_world (unhide cS) ?_)
          go_ret
          exact ⟨rfl, below_alloc w _⟩
    · clear hok hbad
      go_enter Tryd.func16, Tryd.ntmps16
      go_wp2_with (go_at_call 30; refine same_world (unhide cS) ?_)
      go_ret
      exact ⟨rfl, below_alloc w _⟩
  · by_cases q0 : T.toList = []
    · obtain rfl := ba_nil q0
      clear q0
      by_cases q1 : S = 0
      · subst q1
        by_cases q2 : P = 0
        · subst q2
          by_cases q3 : F = 0
          · subst q3
            by_cases q5 : N = 0
            · subst q5
              by_cases q6 : O = 0
              · subst q6
                by_cases q7 : xn = 0
                · subst q7
                  exact absurd (hok ⟨by omega, .inr rfl, .inr rfl, .inr rfl, .inr rfl, .inr rfl, .inr rfl, .inl (by decide)⟩) hbad
                · have q8 : (xn : Int) > 0 := by omega
                  exact absurd (hok ⟨by omega, .inr rfl, .inr rfl, .inr rfl, .inr rfl, .inr rfl, .inr rfl, .inl (by decide)⟩) hbad
              · have p6 : (O != 0) = true := by simpa using q6
                clear hok hbad
                go_enter Tryd.func16, Tryd.ntmps16
                go_wp2_with (go_at_call 30; refine same_world (unhide cS) ?_)
                go_ret
                exact ⟨rfl, below_alloc w _⟩
            · have p5 : (N != 0) = true := by simpa using q5
              clear hok hbad
              go_enter Tryd.func16, Tryd.ntmps16
              go_wp2_with (go_at_call 30; refine same_world (unhide cS) ?_)
              go_ret
              exact ⟨rfl, below_alloc w _⟩
          · have p3 : (F != 0) = true := by simpa using q3
            clear hok hbad
            go_enter Tryd.func16, Tryd.ntmps16
            go_wp2_with (go_at_call 30; refine same_world (unhide cS) ?_)
            go_ret
            exact ⟨rfl, below_alloc w _⟩
        · have p2 : (P != 0) = true := by simpa using q2
          clear hok hbad
          go_enter Tryd.func16, Tryd.ntmps16
          go_wp2_with (go_at_call 30; refine same_world (unhide cS) ?_)
          go_ret
          exact ⟨rfl, below_alloc w _⟩
      · have p1 : (S != 0) = true := by simpa using q1
        clear hok hbad
        go_enter Tryd.func16, Tryd.ntmps16
        go_wp2_with (go_at_call 30; refine same_world (unhide cS) ?_)
        go_ret
        exact ⟨rfl, below_alloc w _⟩
    · clear hok hbad
      go_enter Tryd.func16, Tryd.ntmps16
      go_wp2_with (go_at_call 30; refine same_world (unhide cS) ?_)
      go_ret
      exact ⟨rfl, below_alloc w _⟩

set_option maxHeartbeats 2000000 in
set_option maxRecDepth 100000 in
theorem append_ref_bad (bo : Option Addr) (bn bc : Nat) (c : Cm) (xo : Option Addr) (xn xc : Nat) (w : World) (hl : c.d.length = xn) (hbad : ¬ Nf c) (hf0 : 0 ≤ c.f) :
    Calls Tryd.prog 14 #[.slice bo bn bc, .agg (c.cd xo xn xc).row] w fun e w' => OutP w none 2 e w' := by
  have cK := hide (check_ref_bad c xo xn xc (w.alloc (.cells (c.cd xo xn xc).row 26)) hl hbad hf0)
  have b0 := below_alloc w (.cells (c.cd xo xn xc).row 26)
  have h0 := heap_alloc_new w (.cells (c.cd xo xn xc).row 26)
  have hbx : ∀ wx : World, (Instr.box 26 (.agg (c.cd xo xn xc).row)).run Tryd.prog wx = .ok (.pointer (some ⟨wx.heap.size, 0, none⟩)) (wx.alloc (.cells (c.cd xo xn xc).row 26)) := by intro wx; rfl
  have H0 := hide h0
  have B0 := hide b0
  clear h0 b0 hbad
  go_enter Tryd.func14, Tryd.ntmps14
  go_wp2_with (with_reducible show wpList Tryd.prog _ _ (Oper.mk _ (Op.load 26 _) _ _ _ none :: _) _ _; refine wpList_loadC rfl (.tmp 3) rfl w.heap.size (c.cd xo xn xc) (by simp [Act.eval, Act.put]) (unhide H0) ?_)
  refine (unhide cK).mono ?_
  rintro e w1 ⟨rfl, b1⟩
  have B1 := hide ((unhide B0).trans (b1.mono (unhide B0).size))
  clear b1 cK
  go_wp2_with fail
  go_ret2
  exact ⟨rfl, unhide B1⟩

end Go.Proofs.YtpidlfifipgadaaDoor
