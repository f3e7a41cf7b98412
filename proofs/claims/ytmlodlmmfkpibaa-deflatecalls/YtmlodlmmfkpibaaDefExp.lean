/-
  What mayBe, check and Expand, of package deflate, answer for any pieces. They write nothing that was there. Conditions: at most a thousand pieces.
-/
import Derived.Test.YtmlodlmmfkpibaaDefPieces
namespace Go.Proofs.Ytmlodlmmfkpibaa
open Go.RowKit
set_option linter.unusedVariables false
set_option linter.unusedSimpArgs false

set_option maxHeartbeats 1000000 in
theorem mayBe_any (w : World) (l d b : Int) :
    Calls Try.prog 48 #[.agg #[.int .i64 l, .int .i64 d, .int .u8 b]] w fun e w' => e = .returned (.bool (may ⟨l, d, b⟩)) ∧ Below w.heap.size w w' := by
  by_cases hl : l = 0
  · subst hl
    have hs := hide (show may ⟨0, d, b⟩ = decide (d = 0) by unfold may; simp)
    go_enter Try.func48, Try.ntmps48
    go_wp2_with fail
    go_ret
    rw [unhide hs]
    exact ⟨by rfl, below_alloc w _⟩
  · have hl' : (l == 0) = false := by simpa using hl
    have hs : may ⟨l, d, b⟩ = (decide (3 ≤ l) && (decide (l ≤ 258) && (decide (1 ≤ d) && (decide (d ≤ 32768) && decide (b = 0))))) := by unfold may; simp only; rw [if_neg hl]
    by_cases h1 : 3 ≤ l
    · by_cases h2 : l ≤ 258
      · by_cases h3 : 1 ≤ d
        · by_cases h4 : d ≤ 32768
          · have hr := hide (show may ⟨l, d, b⟩ = decide (b = 0) by rw [hs]; simp [h1, h2, h3, h4])
            clear hs hl
            go_enter Try.func48, Try.ntmps48
            go_wp2_with fail
            go_ret
            rw [unhide hr]
            exact ⟨by rfl, below_alloc w _⟩
          · have hr := hide (show may ⟨l, d, b⟩ = false by rw [hs]; simp [h1, h2, h3, h4])
            clear hs hl
            go_enter Try.func48, Try.ntmps48
            go_wp2_with fail
            go_ret
            rw [unhide hr]
            exact ⟨by rfl, below_alloc w _⟩
        · have hr := hide (show may ⟨l, d, b⟩ = false by rw [hs]; simp [h1, h2, h3])
          clear hs hl
          go_enter Try.func48, Try.ntmps48
          go_wp2_with fail
          go_ret
          rw [unhide hr]
          exact ⟨by rfl, below_alloc w _⟩
      · have hr := hide (show may ⟨l, d, b⟩ = false by rw [hs]; simp [h1, h2])
        clear hs hl
        go_enter Try.func48, Try.ntmps48
        go_wp2_with fail
        go_ret
        rw [unhide hr]
        exact ⟨by rfl, below_alloc w _⟩
    · have hr := hide (show may ⟨l, d, b⟩ = false by rw [hs]; simp [h1])
      clear hs hl
      go_enter Try.func48, Try.ntmps48
      go_wp2_with fail
      go_ret
      rw [unhide hr]
      exact ⟨by rfl, below_alloc w _⟩

theorem drop_pc {l : List Pc} {k : Nat} {p : Pc} (h : l[k]? = some p) : l.drop k = p :: l.drop (k + 1) := by
  have hk := (List.getElem?_eq_some_iff.1 h).1
  rw [List.drop_eq_getElem_cons hk]
  congr 1
  rw [List.getElem?_eq_getElem hk] at h
  exact Option.some.inj h

set_option maxHeartbeats 2000000 in
set_option maxRecDepth 20000 in
theorem check_pc (w : World) (ao : Option Addr) (n c : Nat) (l : List Pc) (h : Ps w ao n c l) (hn : n ≤ 1000000) :
    Calls Try.prog 28 #[.slice ao n c] w fun e w' => e = .returned (.int .i64 (chk 0 l)) ∧ Below w.heap.size w w' := by
  have hlen := h.len
  have hle := h.le
  have hmx := h.max
  have H := hide h
  obtain ⟨R, hR⟩ : ∃ R, R = chk 0 l := ⟨_, rfl⟩
  rw [← hR]
  have HR := hide hR
  clear h hR
  go_enter Try.func28, Try.ntmps28
  go_wp2_with fail
  go_loopw [3, 8] (fun m i wr => ∃ k M : Nat, k ≤ n ∧ i = .int .i64 (k : Int) ∧ m = .int .i64 (M : Int) ∧ R = chk (M : Int) (l.drop k) ∧ M ≤ 258 * k ∧ Below w.heap.size w wr) (fun _ i _ => n - (intOf i).toNat)
  case atStart => exact ⟨0, 0, by omega, rfl, rfl, unhide HR, by omega, Below.refl _ _⟩
  case round =>
    clear HR
    obtain ⟨k, M, hk, rfl, rfl, hR, hM, bw⟩ := hrel
    by_cases hlt : k < n
    · have hlt' : (k : Int) < (n : Int) := by omega
      obtain ⟨⟨pl, pd, pb⟩, hp⟩ : ∃ p, l[k]? = some p := ⟨_, List.getElem?_eq_getElem (show k < l.length by omega)⟩
      obtain ⟨ib, io, hix, x0, x1, x2⟩ := ((unhide H).later bw).idx hp (k : Int) rfl
      simp only at x0 x1 x2
      rw [drop_pc hp] at hR
      have mb := hide (fun W => mayBe_any W pl pd pb)
      have bb := below_alloc wr (.cells #[.int .i64 pl, .int .i64 pd, .int .u8 pb] 25)
      have y := px_new wr ⟨pl, pd, pb⟩
      have Y := hide y
      have BW := hide bw
      have zb := bw.size
      by_cases hmay : may ⟨pl, pd, pb⟩ = true
      · rw [hmay] at mb
        have hszb := may_sz hmay
        by_cases hd : (M : Int) < pd
        · have hfin := hide (show R = 5 by rw [hR]; simp only [chk]; rw [if_pos hmay, if_pos hd])
          clear hR y bw
          go_wp2_with fail
          refine (unhide mb _).mono ?_
          rintro e w1 ⟨rfl, b1⟩
          have y1 := (unhide Y).later b1
          have d1 := y1.c1
          simp only at d1
          go_wp2_with fail
          go_ret
          rw [unhide hfin]
          exact ⟨rfl, (unhide BW).trans ((bb.trans (b1.mono bb.size)).mono zb)⟩
        · obtain ⟨S, hS⟩ : ∃ S, S = sz ⟨pl, pd, pb⟩ := ⟨_, rfl⟩
          have sc := hide (fun W => size_any W pl pd pb)
          rw [← hS] at sc hszb
          have hnx := hide (show R = chk ((M + S : Nat) : Int) (l.drop (k + 1)) by rw [hR, hS]; simp only [chk]; rw [if_pos hmay, if_neg hd]; rfl)
          have HS := hide hS
          clear hR y bw hS
          go_wp2_with fail
          refine (unhide mb _).mono ?_
          rintro e w1 ⟨rfl, b1⟩
          have y1 := (unhide Y).later b1
          have d0 := y1.c0
          have d1 := y1.c1
          have d2 := y1.c2
          simp only at d0 d1 d2
          go_wp2_with fail
          refine (unhide sc _).mono ?_
          rintro e w2 ⟨rfl, b2⟩
          have bw2 := hide ((unhide BW).trans (((bb.trans (b1.mono bb.size)).trans (b2.mono (by have := b1.size; have := bb.size; omega))).mono zb))
          clear y1 d0 d1 d2 b1 b2 bb
          go_wp2_with fail
          go_roundw
          case rel => exact ⟨k + 1, M + S, by omega, by go_num, by go_num, unhide hnx, by omega, unhide bw2⟩
          case measure => simp [intOf]; omega
      · have hm' : may ⟨pl, pd, pb⟩ = false := by simpa using hmay
        rw [hm'] at mb
        have hfin := hide (show R = 2 by rw [hR]; simp only [chk]; rw [if_neg hmay])
        clear hR y bw hm' hmay
        go_wp2_with fail
        refine (unhide mb _).mono ?_
        rintro e w1 ⟨rfl, b1⟩
        go_wp2_with fail
        go_ret
        rw [unhide hfin]
        exact ⟨rfl, (unhide BW).trans ((bb.trans (b1.mono bb.size)).mono zb)⟩
    · have hlt' : ¬ (k : Int) < (n : Int) := by omega
      have hfin := hide (show R = 0 by rw [hR, List.drop_of_length_le (by omega)]; rfl)
      clear hR
      go_wp2_with fail
      go_ret
      rw [unhide hfin]
      exact ⟨rfl, bw⟩
end Go.Proofs.Ytmlodlmmfkpibaa
