/-
  The law DeflateGreedy returns true for any bytes: no piece that was taken could have been longer, and none as long lies nearer.
-/
import Derived.Test.YtmlodlmmfkpibaaDefLives
namespace Go.Proofs.Ytmlodlmmfkpibaa
open Go.RowKit
set_option linter.unusedVariables false
set_option linter.unusedSimpArgs false

theorem beq_sym (a b : Int) : (a == b) = (b == a) := by
  cases h : (b == a)
  · simp at h ⊢; exact fun e => h e.symm
  · simp at h ⊢; exact h.symm

/-- No copy from back is better than the piece at A. -/
theorem greedy_no (bs : List Int) (A back : Nat) (h1 : 1 ≤ back) (h2 : back ≤ A) (hA : A < bs.length) :
    mt bs A (A - back) < 3 ∨ ∃ N q : Nat, pce bs A = ⟨(N : Int), (A : Int) - (q : Int), 0⟩ ∧ 3 ≤ N ∧ q < A ∧ (mt bs A (A - back) < N ∨ (mt bs A (A - back) = N ∧ A - q ≤ back)) := by
  by_cases h : 3 ≤ (bst bs A).1
  · obtain ⟨N, q, _, e, a1, a2, a3, a4, a5, a6, a7⟩ := pce_copy bs A h
    right
    refine ⟨N, q, e, a1, a4, ?_⟩
    have h6 := a6 (A - back) (by omega)
    rcases Nat.lt_or_ge (mt bs A (A - back)) N with h | h
    · exact .inl h
    · right
      refine ⟨by omega, ?_⟩
      rcases Nat.lt_or_ge q (A - back) with hq | hq
      · have := a7 (A - back) hq (by omega)
        omega
      · omega
  · exact .inl ((pce_byte bs A h).2 (A - back) (by omega))

set_option maxHeartbeats 8000000 in
set_option maxRecDepth 20000 in
theorem lawGreedy (bo : Option Addr) (bn bc : Nat) (bs : List Int) (w : World) (h : Bs w bo bn bc bs) :
    Calls Try.prog 6 #[.slice bo bn bc] w fun e w' => e = .returned (.bool true) ∧ Below w.heap.size w w' := by
  have hle := h.le
  have hmx := h.max
  have hlen := hide h.len
  have H := hide h
  clear h
  go_enter Try.func6, Try.ntmps6
  go_wp2_with fail
  refine (dlives_any w).mono ?_
  rintro e w0 ⟨rfl, b0⟩
  by_cases hbig : 300 < bn
  · have hbig' : (300 : Int) < (bn : Int) := by omega
    go_wp2_with fail
    go_ret
    exact ⟨rfl, b0⟩
  · have hbig' : ¬ (300 : Int) < (bn : Int) := by omega
    have hb300 : bn ≤ 300 := by omega
    have pc := hide (pieces_any w0 bo bn bc bs ((unhide H).later b0) (by omega))
    clear hbig
    go_wp2_with fail
    refine (unhide pc).mono ?_
    rintro e w1 ⟨ao, n, c, rfl, m1, b1⟩
    have ps := m1.ps
    have hbs1 := hide (((unhide H).later b0).later b1)
    have BW1 := hide (b0.trans (b1.mono b0.size))
    have hpl := pieces_le bs
    have hn : n ≤ bn := by rw [← m1.len, ← unhide hlen]; exact hpl
    have hnl := hide m1.len
    have ple := ps.le
    have pmx := ps.max
    have PS := hide ps
    clear pc m1 ps b0 b1 hpl
    go_wp2_with fail
    go_loopw [4, 5] (fun a i wr => ∃ (k A f j : Nat), i = .int .i64 (k : Int) ∧ a = .int .i64 (A : Int) ∧ (pieces bs).drop k = pcs bs f A ∧ A ≤ bn ∧ bn < f + A ∧ k ≤ n ∧ wr = w1.drewN j) (fun _ i _ => n - (intOf i).toNat)
    case atStart => exact ⟨0, 0, bs.length + 1, 0, rfl, rfl, rfl, by omega, by have := unhide hlen; omega, by omega, rfl⟩
    case round =>
      obtain ⟨k, A, f, jj, rfl, rfl, hdr, hA, hf, hk, rfl⟩ := hrel
      by_cases hlt : k < n
      · have hlt' : (k : Int) < (n : Int) := by omega
        have hAl : A < bs.length := by
          rcases Nat.lt_or_ge A bs.length with q | q
          · exact q
          · rw [pcs_end (by omega)] at hdr
            have := congrArg List.length hdr
            simp at this
            have := unhide hnl
            omega
        obtain ⟨f', rfl⟩ : ∃ f', f = f' + 1 := ⟨f - 1, by have := unhide hlen; omega⟩
        rw [pcs_on hAl] at hdr
        obtain ⟨P, hP⟩ : ∃ P, P = pce bs A := ⟨_, rfl⟩
        rw [← hP] at hdr
        have hpk : (pieces bs)[k]? = some P := by
          have := congrArg (fun l => l[0]?) hdr
          simpa using this
        have hdr2 := hide (show (pieces bs).drop (k + 1) = pcs bs f' (A + sz P) by rw [← List.drop_drop, hdr]; rfl)
        obtain ⟨ib, io, hix, x0, x1, x2⟩ := (unhide PS).idx hpk (k : Int) rfl
        have hszp := pce_sz bs A hAl
        rw [← hP, unhide hlen] at hszp
        have hno := hide (fun back (q1 : 1 ≤ back) (q2 : back ≤ A) => greedy_no bs A back q1 q2 hAl)
        rw [← hP] at hno
        obtain ⟨ab, ag, hax, hcx⟩ := (unhide hbs1).idx (show A < bn by rw [← unhide hlen]; exact hAl) (A : Int) rfl
        have hAl' : A < bn := by rw [← unhide hlen]; exact hAl
        have hbyte := hide (show P.l = 0 → P.b = bs[A]?.getD 0 by
          rw [hP]
          intro h0
          by_cases hh : 3 ≤ (bst bs A).1
          · obtain ⟨N, q, _, e, a1, _⟩ := pce_copy bs A hh
            rw [e] at h0
            simp at h0
            omega
          · rw [(pce_byte bs A hh).1])
        have hPl := hide (show P.l = 0 ∨ 3 ≤ P.l by
          rw [hP]
          by_cases hh : 3 ≤ (bst bs A).1
          · obtain ⟨N, q, _, e, a1, _⟩ := pce_copy bs A hh
            rw [e]; right; simp; omega
          · rw [(pce_byte bs A hh).1]; left; rfl)
        obtain ⟨pl, pd, pb⟩ := P
        simp only at x0 x1 x2 hbyte hPl
        obtain ⟨S, hS⟩ : ∃ S, S = sz ⟨pl, pd, pb⟩ := ⟨_, rfl⟩
        rw [← hS] at hszp hdr2
        obtain ⟨V, hV⟩ : ∃ V, V = bs[A]?.getD 0 := ⟨_, rfl⟩
        rw [← hV] at hcx hbyte
        -- the rest of the round, whatever the piece is
        have hSl : (if pl < 1 then 1 else pl) = (S : Int) := by rw [hS]; unfold sz; simp only; split <;> omega
        have HS := hide hS
        have HP := hide hP
        have HV := hide hV
        clear hdr hpk hS hP hV hAl
        have hg : ((pl == 0) = true ∧ (pb != V) = false) ∨ (pl == 0) = false := by
          rcases unhide hPl with q | q
          · left; refine ⟨by simp [q], by simp [unhide hbyte q]⟩
          · right; simp; omega
        have G0 := hide (show decide ((bn : Int) < (A : Int) + (S : Int)) = false by simp; omega)
        have HG := hide hg
        clear hg
        go_wp2_with fail
        have g0 := unhide G0
        rcases unhide HG with ⟨e1, e2⟩ | e1
        all_goals go_quiet (fail)
        all_goals clear g0 e1 hax hcx hSl
        all_goals go_wp2_with fail
        all_goals
          go_loopw [7, 8] (fun bk kk wr => ∃ (back j : Nat), 1 ≤ back ∧ back ≤ A + 1 ∧ bk = .int .i64 (back : Int) ∧ wr = w1.drewN j) (fun bk _ _ => A + 1 - (intOf bk).toNat)
          case atStart => exact ⟨1, _, by omega, by omega, rfl, (by first | rfl | exact World.drewN_drewN _ _ _)⟩
          case round =>
            obtain ⟨back, j2, hk1, hk2, rfl, rfl⟩ := hrel
            by_cases hbk : back ≤ A
            · have hbk' : (back : Int) ≤ (A : Int) := by omega
              obtain ⟨q, hq⟩ : ∃ q, q = A - back := ⟨_, rfl⟩
              obtain ⟨m, hm⟩ : ∃ m, m = mst bs A := ⟨_, rfl⟩
              obtain ⟨R, hR⟩ : ∃ R, R = mt bs A q := ⟨_, rfl⟩
              have hmb : m ≤ 258 ∧ A + m ≤ bn ∧ (m = 258 ∨ A + m = bn) := by rw [hm]; unfold mst; have := unhide hlen; omega
              have hRm : R = mtU (eqb bs q A) (m - 0) 0 := by rw [hR, hm, Nat.sub_zero]; rfl
              have hrel3 : (R : Int) < 3 ∨ ((3 : Int) ≤ (R : Int) ∧ ¬ pl < (R : Int) ∧ ((R : Int) == pl) = false) ∨ ((3 : Int) ≤ (R : Int) ∧ ¬ pl < (R : Int) ∧ ((R : Int) == pl) = true ∧ ¬ (back : Int) < pd) := by
                rcases unhide hno back hk1 hbk with z | ⟨N, q', e, z1, z2, z3⟩
                · left; rw [hR, hq]; omega
                · rw [← hq, ← hR] at z3
                  simp only [Pc.mk.injEq] at e
                  obtain ⟨rfl, rfl, _⟩ := e
                  rcases Nat.lt_or_ge R 3 with z4 | z4
                  · left; omega
                  · right
                    rcases z3 with z3 | ⟨z3, z5⟩
                    · left; refine ⟨by omega, by omega, by simp; omega⟩
                    · right; refine ⟨by omega, by omega, by simp; omega, by omega⟩
              have HR := hide hRm
              have HREL := hide hrel3
              have hqb : q + back = A := by omega
              have HQ := hide hqb
              clear hm hR hRm hrel3 hq hqb
              go_wp2_with fail
              go_loopw [8] (fun kk wr => ∃ (t j : Nat), t ≤ m ∧ kk = .int .i64 (t : Int) ∧ R = mtU (eqb bs q A) (m - t) t ∧ wr = w1.drewN j) (fun kk _ => m - (intOf kk).toNat)
              case atStart => exact ⟨0, j2, by omega, rfl, unhide HR, rfl⟩
              case round =>
                clear HR
                obtain ⟨t, j3, ht, rfl, hRt, rfl⟩ := hrel
                have hcase : (t < m ∧ eqb bs q A t = true) ∨ (t < m ∧ eqb bs q A t = false) ∨ t = m := by
                  rcases Nat.lt_or_ge t m with z | z
                  · cases he : eqb bs q A t
                    · exact .inr (.inl ⟨z, rfl⟩)
                    · exact .inl ⟨z, rfl⟩
                  · exact .inr (.inr (by omega))
                rcases hcase with ⟨htm, he⟩ | hcase
                · have hnx := hide (show R = mtU (eqb bs q A) (m - (t + 1)) (t + 1) by
                    obtain ⟨f2, hf2⟩ : ∃ f2, m - t = f2 + 1 := ⟨m - t - 1, by omega⟩
                    rw [hRt, hf2, show m - (t + 1) = f2 by omega]
                    simp only [mtU]
                    rw [if_pos he])
                  obtain ⟨b0, o0, i0, k0⟩ := (unhide hbs1).idx (show A + t < bn by omega) ((A : Int) + (t : Int)) (by omega)
                  obtain ⟨b1, o1, i1, k1⟩ := (unhide hbs1).idx (show q + t < bn by have := unhide HQ; omega) ((A : Int) + (t : Int) - (back : Int)) (by have := unhide HQ; omega)
                  have heq : (bs[A + t]?.getD 0 == bs[q + t]?.getD 0) = true := by rw [beq_sym]; rw [eqb_is] at he; exact he
                  have g1 : (t : Int) < 258 := by omega
                  have g2 : (A : Int) + (t : Int) < (bn : Int) := by omega
                  generalize bs[A + t]?.getD 0 = y0 at *
                  generalize bs[q + t]?.getD 0 = y1 at *
                  clear hRt he
                  go_wp2_with fail
                  go_quiet (fail)
                  go_wp2_with fail
                  go_roundw
                  case rel => exact ⟨t + 1, _, by omega, by go_num, unhide hnx, (by first | rfl | exact World.drewN_drewN _ _ _)⟩
                  case measure => simp [intOf]; omega
                · have hRe : R = t := by
                    rcases hcase with ⟨z, he⟩ | z
                    · obtain ⟨f2, hf2⟩ : ∃ f2, m - t = f2 + 1 := ⟨m - t - 1, by omega⟩
                      rw [hRt, hf2]
                      simp only [mtU]
                      rw [if_neg (by simp [he])]
                    · rw [hRt, z, Nat.sub_self]; rfl
                  have hex : (t < m ∧ eqb bs q A t = false) ∨ ¬ t < 258 ∨ (t < 258 ∧ A + t = bn) := by
                    rcases hcase with z | z
                    · exact .inl z
                    · rcases hmb.2.2 with z2 | z2
                      · right; left; omega
                      · rcases Nat.lt_or_ge t 258 with z3 | z3
                        · right; right; omega
                        · right; left; omega
                  subst hRe
                  clear hcase hRt
                  have HEX := hide hex
                  clear hex
                  go_wp2_with fail
                  rcases unhide HEX with ⟨htm, he⟩ | g1 | ⟨g1, g2⟩
                  focus
                    obtain ⟨b0, o0, i0, k0⟩ := (unhide hbs1).idx (show A + R < bn by omega) ((A : Int) + (R : Int)) (by omega)
                    obtain ⟨b1, o1, i1, k1⟩ := (unhide hbs1).idx (show q + R < bn by have := unhide HQ; omega) ((A : Int) + (R : Int) - (back : Int)) (by have := unhide HQ; omega)
                    have heq : (bs[A + R]?.getD 0 == bs[q + R]?.getD 0) = false := by rw [beq_sym]; rw [eqb_is] at he; exact he
                    have g1 : (R : Int) < 258 := by omega
                    have g2 : (A : Int) + (R : Int) < (bn : Int) := by omega
                    generalize bs[A + R]?.getD 0 = y0 at *
                    generalize bs[q + R]?.getD 0 = y1 at *
                    go_quiet (fail)
                  rotate_left
                  focus
                    have d1 : decide ((R : Int) < 258) = false := by simp; omega
                    go_quiet (fail)
                  rotate_left
                  focus
                    have d1 : (R : Int) < 258 := by omega
                    have d2 : decide ((A : Int) + (R : Int) < (bn : Int)) = false := by simp; omega
                    go_quiet (fail)
                  rotate_left
                  all_goals rcases unhide HREL with z | ⟨z1, z2, z3⟩ | ⟨z1, z2, z3, z4⟩
                  all_goals go_wp2_with fail
                  all_goals go_roundw
                  all_goals first
                    | exact ⟨back + 1, _, by omega, by omega, by go_num, (by first | rfl | exact World.drewN_drewN _ _ _)⟩
                    | (simp [intOf]; omega)
            · have hbk' : ¬ (back : Int) ≤ (A : Int) := by omega
              go_wp2_with fail
              go_roundw
              case rel => exact ⟨k + 1, A + S, f', _, by go_num, by go_num, unhide hdr2, by omega, by omega, by omega, (by first | rfl | exact World.drewN_drewN _ _ _)⟩
              case measure => simp [intOf]; omega
      · have hlt' : ¬ (k : Int) < (n : Int) := by omega
        have hAe : A = bn := by
          rcases Nat.lt_or_ge A bs.length with q | q
          · obtain ⟨f', rfl⟩ : ∃ f', f = f' + 1 := ⟨f - 1, by have := unhide hlen; omega⟩
            rw [pcs_on q, List.drop_of_length_le (by rw [unhide hnl]; omega)] at hdr
            cases hdr
          · have := unhide hlen; omega
        subst hAe
        clear hdr
        go_wp2_with fail
        go_ret
        exact ⟨by simp, (unhide BW1).trans ⟨rfl, rfl, rfl, Nat.le_refl _, fun _ _ => rfl⟩⟩
end Go.Proofs.Ytmlodlmmfkpibaa
