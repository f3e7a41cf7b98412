/-
  InflateBlocks: the blocks of a stream lie one behind the other, the last one alone says so, and together they tell all. Conditions: the tables hold what the program's text says.
-/
import Derived.Test.YtdpkemnklfnipaaDoorInfLives
import Derived.Test.YtdpkemnklfnipaaDoorInfBlocks
namespace Go.Proofs.YtdpkemnklfnipaaDoor
open Go.RowKit
set_option linter.unusedVariables false
set_option linter.unusedSimpArgs false

theorem Tryd.elemBlk : Tryd.prog.underlying 31 = some (.slice (Tryd.prog.elem 31)) := by kernel_rfl
/-- 'l[i]' of blocks for the walk. -/
theorem BMine.idx {B : Nat} {w : World} {ao : Option Addr} {n c : Nat} {l : List Blk} (h : BMine B w ao n c l) {i : Nat} {x : Blk} (hx : l[i]? = some x) (I : Int) (hI : I = (i : Int)) :
    ∃ q o, (∀ wx, (Instr.indexAt 31 (.slice ao n c) (.int .i64 I)).run Tryd.prog wx = .ok (.pointer (some ⟨q, o, none⟩)) wx) ∧ w.cell? ⟨q, o, none⟩ = some (.int .i64 x.kind) ∧ w.cell? ⟨q, o + 1, none⟩ = some (.bool x.last) ∧ w.cell? ⟨q, o + 2, none⟩ = some (.int .i64 (x.at_ : Int)) ∧ w.cell? ⟨q, o + 3, none⟩ = some (.int .i64 x.out) := by
  subst hI
  have hs : ∀ w : World, (sizeOf (Tryd.prog.elem 31)).run Tryd.prog w = .ok 4 w := by intro w; kernel_rfl
  have hi : i < l.length := (List.getElem?_eq_some_iff.1 hx).1
  have hl := h.len
  rcases h.own.2 with ⟨hv, h0⟩ | ⟨g, cap, cur, hv, hg, hh, _⟩
  · omega
  · simp only [Value.slice.injEq] at hv
    obtain ⟨rfl, _, rfl⟩ := hv
    have cell : ∀ j u, j < 4 → (bv x)[j]? = some u → w.cell? ⟨g, i * 4 + j, none⟩ = some u := by
      intro j u hj hu
      have := h.own.cells (g := g) rfl (i * 4 + j) u (by rw [flat_at l i j x hx hj]; exact hu)
      rw [Addr.add_lit, Nat.zero_add] at this
      exact this
    refine ⟨g, i * 4, fun wx => ?_, cell 0 _ (by omega) rfl, cell 1 _ (by omega) rfl, cell 2 _ (by omega) rfl, cell 3 _ (by omega) rfl⟩
    rw [run_indexAt_slice wx 31 _ n c .i64 (i : Int) Tryd.elemBlk, if_pos (by omega), hs]
    simp [Result.andThen, Addr.add_lit]

set_option maxHeartbeats 4000000 in
set_option maxRecDepth 20000 in
theorem lawInfBlocks (ao : Option Addr) (n c : Nat) (bs : List Int) (w : World) (hv : Vars w) (h : Bs w ao n c bs) :
    Calls Tryd.prog 5 #[.slice ao n c] w fun e w' => e = .returned (.bool true) ∧ Below w.heap.size w w' := by
  have HV := hide hv
  have h3 := hv.size
  have hmax := h.max
  have hle := h.le
  have hbl := hide h.len
  have H := hide h
  clear h hv
  go_enter Tryd.func5, Tryd.ntmps5
  go_wp2_with fail
  refine (lives_any w (unhide HV)).mono ?_
  rintro e w1 ⟨rfl, b1⟩
  have z1 := b1.size
  by_cases hn : 3000 < n
  · have hn' : (3000 : Int) < (n : Int) := by omega
    go_wp2_with fail
    go_ret
    exact ⟨rfl, b1⟩
  have hn' : ¬ (3000 : Int) < (n : Int) := by omega
  have V1 := hide ((unhide HV).later (Nat.le_refl 3) (b1.mono h3))
  have ic := hide (inflate_any 100000 w1 ao n c bs 20000 ((unhide H).later b1) (unhide V1) (by omega) (by omega) (by omega) (by omega))
  have bc := hide (fun w2 (b2 : Below w.heap.size w w2) => blocks_any 100000 w2 ao n c bs 20000 ((unhide H).later b2) ((unhide HV).later (Nat.le_refl 3) (b2.mono h3)) (by omega) (by omega) (by omega) (by omega) (by omega))
  by_cases he : (infS 100000 bs 20000).2.e = 0
  · have ch := inf_ch (F := 100000) (b := bs) (m := 20000) (by rw [unhide hbl]; omega) he
    obtain ⟨u1, u2, u3⟩ := inf_up (F := 100000) (b := bs) (m := 20000) (by omega) (by omega) he
    rw [unhide hbl] at u2
    rw [infR_ok he] at ic
    rw [blkR_ok he] at bc
    clear he
    generalize (infS 100000 bs 20000).2 = t at *
    generalize (infS 100000 bs 20000).1 = l at *
    obtain ⟨N, hN⟩ : ∃ N : Nat, N = (t.p + 7) / 8 := ⟨_, rfl⟩
    have hNi : ((t.p : Int) + 7) / 8 = (N : Int) := by omega
    have hN8 : t.p ≤ 8 * N := by omega
    have hN3 : N ≤ 3000 := by omega
    simp only [hNi] at ic
    have CH := hide ch
    clear ch hN hNi
    go_wp2_with fail
    refine (unhide ic).mono ?_
    rintro e w2 ⟨a2, n2, k2, rfl, m2, b2⟩
    have e2 : n2 = t.o.length := m2.len.symm
    subst e2
    have bb2 := b1.trans (b2.mono z1)
    have z2 := bb2.size
    clear m2
    go_wp2_with fail
    refine (unhide bc w2 bb2).mono ?_
    rintro e w3 ⟨a3, n3, k3, rfl, m3, b3⟩
    have e3 : n3 = l.length := m3.len.symm
    subst e3
    have bb3 := bb2.trans (b3.mono z2)
    have M3 := hide m3
    clear m3
    have hl4 := hide (show (l.length : Int) ≤ 9223372036854775807 by
      rcases (unhide M3).own.2 with ⟨_, h0⟩ | ⟨_, cap, _, _, _, _, h1, h2, _⟩
      · omega
      · unfold maxLen at h2; omega)
    have ll := unhide hl4
    have sb := hide (sumO_bd (l := l) (fun i x hx => ((unhide CH).each i x hx).2.2.1))
    have st := hide (show sumO l l.length = (t.o.length : Int) by rw [sumO_all]; exact (unhide CH).sum)
    go_wp2_with fail
    go_loopw [8, 9] (fun s i wr => ∃ k : Nat, k ≤ l.length ∧ i = .int .i64 (k : Int) ∧ s = .int .i64 (sumO l k) ∧ BMine w2.heap.size wr a3 l.length k3 l ∧ Below w.heap.size w wr) (fun _ i _ => l.length - (intOf i).toNat)
    case atStart => exact ⟨0, by omega, rfl, by simp [sumO], unhide M3, bb3⟩
    case round =>
      obtain ⟨k, hk, rfl, rfl, mr, br⟩ := hrel
      have MR := hide mr
      have BR := hide br
      clear mr br
      have bd := unhide sb k hk
      rw [unhide st] at bd
      by_cases hlt : k < l.length
      · have hlt' : (k : Int) < (l.length : Int) := by omega
        obtain ⟨x, hx⟩ : ∃ x, l[k]? = some x := ⟨l[k], List.getElem?_eq_getElem hlt⟩
        have ea := (unhide CH).each k x hx
        have la := (unhide CH).last k x hx
        have ss := hide (sumO_step l hx)
        have bd2 := unhide sb (k + 1) (by omega)
        rw [unhide st, unhide ss] at bd2
        have fi := (unhide CH).first x
        have at1 : ¬ 8 * (N : Int) ≤ (x.at_ : Int) := by omega
        have at2 : (x.at_ : Int) ≤ 100000000 := by omega
        generalize hS : sumO l k = S1 at *
        by_cases hk0 : k = 0
        · skip
          obtain ⟨q, o, hix, y0, y1, y2, y3⟩ := (unhide MR).idx hx (k : Int) rfl
          have hq1 : ((k : Int) == (l.length : Int) - 1) = x.last := by rw [la, Bool.eq_iff_iff]; simp; omega
          have ha0 : x.at_ = 0 := fi (by rw [← hk0]; exact hx)
          rw [show ((x.at_ : Nat) : Int) = 0 by omega] at y2
          have hk1 : ((k : Int) == 0) = true := by simp; omega
          have V6 := hide (show decide ((0 : Int) < (k : Int)) = false by simp; omega)
          have V9 := hide (show decide (0 < k) = false by simp; omega)
          have V4 := hide (show decide (8 * (N : Int) ≤ 0) = false by simp; omega)
          have V1 := hide (show decide (x.kind < 0) = false by simp; omega)
          have V2 := hide (show decide (2 < x.kind) = false by simp; omega)
          have V3 := hide (show decide (x.out < 0) = false by simp; omega)
          have HQ := hide hq1
          have HK := hide hk1
          have HK0 := hide hk0
          generalize x.kind = K at *
          generalize x.out = O at *
          generalize x.last = LB at *
          clear ea fi la hx hq1 hk1 at1 at2 hk0 ha0
          go_wp2_with fail
          simp only [List.append]
          have v1 := unhide V1
          have v2 := unhide V2
          have v3 := unhide V3
          have v4 := unhide V4
          have v6 := unhide V6
          have v7 := unhide HQ
          have v8 := unhide HK
          have v9 := unhide V9
          go_quiet (fail)
          clear v1 v2 v3 v4 v6 v7 v8 v9
          go_wp2_with fail
          go_roundw
          case rel => exact ⟨k + 1, by omega, by go_num, by rw [unhide ss], (unhide MR).later ⟨rfl, rfl, rfl, Nat.le_refl _, fun _ _ => rfl⟩, (unhide BR).trans ⟨rfl, rfl, rfl, Nat.le_refl _, fun _ _ => rfl⟩⟩
          case measure => simp [intOf]; omega
        · skip
          obtain ⟨q, o, hix, y0, y1, y2, y3⟩ := (unhide MR).idx hx (k : Int) rfl
          have hq1 : ((k : Int) == (l.length : Int) - 1) = x.last := by rw [la, Bool.eq_iff_iff]; simp; omega
          obtain ⟨z, hz⟩ : ∃ z, l[k - 1]? = some z := ⟨l[k - 1], List.getElem?_eq_getElem (by omega)⟩
          have inc := (unhide CH).inc (k - 1) z x hz (by rw [show k - 1 + 1 = k by omega]; exact hx)
          obtain ⟨q', o', hix1, _, _, y5, _⟩ := (unhide MR).idx hz ((k : Int) - 1) (by omega)
          have hk1 : ((k : Int) == 0) = false := by simp; omega
          have V5 := hide (show decide ((x.at_ : Int) ≤ (z.at_ : Int)) = false by simp; omega)
          have V4 := hide (show decide (8 * (N : Int) ≤ (x.at_ : Int)) = false by simp; omega)
          have V6 := hide (show decide ((0 : Int) < (k : Int)) = true by simp; omega)
          have V9 := hide (show decide (0 < k) = true by simp; omega)
          have V1 := hide (show decide (x.kind < 0) = false by simp; omega)
          have V2 := hide (show decide (2 < x.kind) = false by simp; omega)
          have V3 := hide (show decide (x.out < 0) = false by simp; omega)
          have HQ := hide hq1
          have HK := hide hk1
          have HK0 := hide hk0
          generalize (z.at_ : Int) = AZ at *
          generalize (x.at_ : Int) = AX at *
          generalize x.kind = K at *
          generalize x.out = O at *
          generalize x.last = LB at *
          clear ea fi la hx hq1 hk1 at1 at2 hk0 hz inc
          go_wp2_with fail
          simp only [List.append]
          have v1 := unhide V1
          have v2 := unhide V2
          have v3 := unhide V3
          have v4 := unhide V4
          have v6 := unhide V6
          have v7 := unhide HQ
          have v8 := unhide HK
          have v9 := unhide V9
          have v5 := unhide V5
          go_quiet (fail)
          clear v1 v2 v3 v4 v6 v7 v8 v9 v5
          go_wp2_with fail
          go_roundw
          case rel => exact ⟨k + 1, by omega, by go_num, by rw [unhide ss], (unhide MR).later ⟨rfl, rfl, rfl, Nat.le_refl _, fun _ _ => rfl⟩, (unhide BR).trans ⟨rfl, rfl, rfl, Nat.le_refl _, fun _ _ => rfl⟩⟩
          case measure => simp [intOf]; omega
      · have hkn : k = l.length := by omega
        have hfin := hide (show sumO l k = (t.o.length : Int) by rw [hkn]; exact unhide st)
        have hlt' : ¬ (k : Int) < (l.length : Int) := by omega
        have hpos : 0 < (l.length : Int) := by
          rcases Nat.eq_zero_or_pos l.length with q | q
          · have := (unhide CH).nil (List.eq_nil_of_length_eq_zero q)
            omega
          · omega
        rw [unhide hfin]
        clear hkn
        go_wp2_with fail
        go_ret
        exact ⟨by simp, unhide BR⟩
  · rw [infR_no he] at ic
    rw [blkR_no he] at bc
    have he' : ((infS 100000 bs 20000).2.e != 0) = true := by simpa using he
    have hq : ((infS 100000 bs 20000).2.e != (infS 100000 bs 20000).2.e) = false := by simp
    clear he
    generalize (infS 100000 bs 20000).2.e = X at *
    go_wp2_with fail
    refine (unhide ic).mono ?_
    rintro e w2 ⟨a2, n2, k2, rfl, m2, b2⟩
    have bb2 := b1.trans (b2.mono z1)
    have z2 := bb2.size
    clear m2
    go_wp2_with fail
    refine (unhide bc w2 bb2).mono ?_
    rintro e w3 ⟨a3, n3, k3, rfl, m3, b3⟩
    have e3 : n3 = 0 := m3.len.symm
    subst e3
    clear m3
    go_wp2_with fail
    go_ret
    exact ⟨rfl, bb2.trans (b3.mono z2)⟩

end Go.Proofs.YtdpkemnklfnipaaDoor
