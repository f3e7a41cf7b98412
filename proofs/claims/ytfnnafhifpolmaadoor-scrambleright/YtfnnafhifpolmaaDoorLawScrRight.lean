/-
  The law ScrambleRight returns true for any two passwords, draws and number: the response of a password is right for what is stored of it, with a byte more it is not, and any other response is right just where the document's own answer says so. Conditions: the table of constants holds what the program's text says.
-/
import Derived.Test.YtfnnafhifpolmaaDoorScrPick
import Derived.Test.YtfnnafhifpolmaaDoorScrLives
import Derived.Test.YtfnnafhifpolmaaDoorSameB
namespace Go.Proofs.YtfnnafhifpolmaaDoor
open Go.RowKit
set_option linter.unusedVariables false
set_option linter.unusedSimpArgs false

theorem non_len {d : List Int} (h : d.length = 20) : (nonA d).length = 20 := by unfold nonA; rw [if_pos h]; simp [h]
theorem non_E {d : List Int} (h : d.length = 20) : nonE d = 0 := by unfold nonE; rw [if_pos h]
theorem len_le_32 (k : Int) (p : List Int) : (if p.length = 0 then 0 else hsz k) ≤ 32 := by
  have := hsz_le k
  split <;> omega
/-- Of one text the same is stored, or of the two texts other bytes are. -/
theorem same_or (k : Int) (p q n : List Int) : (decide (sto k p = sto k q) = true ∧ rgt k (sto k p) n (rsp k q n) = true) ∨ decide (sto k p = sto k q) = false := by
  by_cases h : sto k p = sto k q
  · exact .inl ⟨decide_eq_true h, rgt_same k p q n h⟩
  · exact .inr (decide_eq_false h)

set_option maxHeartbeats 8000000 in
set_option maxRecDepth 20000 in
theorem lawScrRight (p q : ByteArray) (bo : Option Addr) (bn bc : Nat) (ds : List Int) (A : Int) (w : World) (hv : Vars w) (hb : Bs w bo bn bc ds) :
    Calls Tryd.prog 5 #[.string p, .string q, .slice bo bn bc, .int .i64 A] w fun e w' => e = .returned (.bool true) ∧ Below w.heap.size w w' := by
  have ble := hb.le
  have bmx := hb.max
  have lv := hide (lives_any w hv)
  have HV := hide hv
  have HB := hide hb
  clear hv hb
  by_cases g1 : 500 < p.size
  · have g1' : (500 : Int) < (p.size : Int) := by omega
    go_enter Tryd.func5, Tryd.ntmps5
    go_wp2_with fail
    refine (unhide lv).mono ?_
    rintro e w0 ⟨rfl, b0⟩
    go_wp2_with fail
    go_ret
    exact ⟨rfl, b0⟩
  by_cases g2 : 500 < q.size
  · have g1' : ¬ (500 : Int) < (p.size : Int) := by omega
    have g2' : (500 : Int) < (q.size : Int) := by omega
    go_enter Tryd.func5, Tryd.ntmps5
    go_wp2_with fail
    refine (unhide lv).mono ?_
    rintro e w0 ⟨rfl, b0⟩
    go_wp2_with fail
    go_ret
    exact ⟨rfl, b0⟩
  by_cases g3 : ¬ bn = 20
  · have g1' : ¬ (500 : Int) < (p.size : Int) := by omega
    have g2' : ¬ (500 : Int) < (q.size : Int) := by omega
    have g3' : ((bn : Int) != 20) = true := by simp; omega
    go_enter Tryd.func5, Tryd.ntmps5
    go_wp2_with fail
    refine (unhide lv).mono ?_
    rintro e w0 ⟨rfl, b0⟩
    go_wp2_with fail
    go_ret
    exact ⟨rfl, b0⟩
  have g3' : bn = 20 := by omega
  subst g3'
  have g1' : ¬ (500 : Int) < (p.size : Int) := by omega
  have g2' : ¬ (500 : Int) < (q.size : Int) := by omega
  have hp : p.size ≤ 500 := by omega
  have hq : q.size ≤ 500 := by omega
  have nE := hide (non_E (unhide HB).len)
  have nK := hide (non_ok (unhide HB).byt (unhide HB).len)
  have nL := hide (non_len (unhide HB).len)
  clear g1 g2 g3
  go_enter Tryd.func5, Tryd.ntmps5
  go_wp2_with fail
  refine (unhide lv).mono ?_
  rintro e w0 ⟨rfl, b0⟩
  have B0 := hide b0
  have cN := hide (nonce_any bo 20 bc ds w0 ((unhide HB).later b0))
  rw [unhide nE] at cN
  clear b0 lv
  go_wp2_with fail
  refine (unhide cN).mono ?_
  rintro e w1 ⟨a1, n1, c1, rfl, m1, b1⟩
  clear cN
  obtain rfl : n1 = 20 := by have := m1.len; rw [unhide nL] at this; omega
  have B1 := hide ((unhide B0).trans (b1.mono (unhide B0).size))
  have PN := hide m1.bs
  have k1 := hide (check_any a1 20 c1 _ w1 m1.bs)
  rw [unhide nK] at k1
  clear m1 b1 B0 HB
  generalize nonA ds = N at *
  go_wp2_with fail
  refine same_world (unhide k1) ?_
  clear k1
  go_wp2_with fail
  go_loopw [11] (fun i ws => ∃ K : Int, (K = 1 ∨ K = 2 ∨ K = 3) ∧ i = .int .i64 K ∧ Below w1.heap.size w1 ws) (fun i _ => (3 - intOf i).toNat)
  case atStart => exact ⟨1, .inl rfl, rfl, Below.refl _ _⟩
  case round =>
    obtain ⟨K, hK, rfl, hBr⟩ := hrel
    by_cases hK3 : K = 3
    · subst hK3
      go_wp2_with fail
      go_ret
      exact ⟨rfl, (unhide B1).trans (hBr.mono (unhide B1).size)⟩
    have hk : K = 1 ∨ K = 2 := by omega
    have HK := hide hk
    have kb : K ≤ 2 := by omega
    have kb0 : 1 ≤ K := by omega
    have BR := hide ((unhide B1).trans (hBr.mono (unhide B1).size))
    have BQ := hide hBr
    have PNr := hide ((unhide PN).later hBr)
    have s2 := hide (stored_any K p wr ((unhide HV).low (unhide BR)) (by omega))
    rw [stoA_is hk, stoE_is hk] at s2
    have h12 : ((K == 2) = false ∧ K = 1) ∨ ((K == 2) = true ∧ K = 2) := by
      rcases hk with rfl | rfl
      · exact .inl ⟨rfl, rfl⟩
      · exact .inr ⟨rfl, rfl⟩
    have H12 := hide h12
    have lS := hide (sto_len K (nums p))
    have lR := hide (rsp_len K (nums p) N)
    have lO := hide (rsp_len K (nums q) N)
    have z1 := hide (len_le_32 K (nums p))
    have z2 := hide (len_le_32 K (nums q))
    clear hBr hk hK hK3 h12
    go_wp2_with fail
    refine (unhide s2).mono ?_
    rintro e w2 ⟨a2, n2, c2, rfl, m2, b2⟩
    have l2 := m2.len
    have n2b : n2 ≤ 32 := by rw [unhide lS] at l2; have := unhide z1; omega
    have PS := hide m2.bs
    have PNr := hide ((unhide PNr).later b2)
    have B2 := hide ((unhide BR).trans (b2.mono (unhide BR).size))
    have Q2 := hide ((unhide BQ).trans (b2.mono (unhide BQ).size))
    have r3 := hide (native_any p a1 20 c1 N w2 (unhide PNr) ((unhide HV).low (unhide B2)) (by omega))
    rw [rspA_is (unhide nK), unhide nK] at r3
    clear m2 b2 l2 BR BQ s2
    rcases unhide H12 with ⟨k2, kE⟩ | ⟨k2, kE⟩
    focus
      have KE := hide kE
      clear kE
      go_wp2_with fail
      refine (unhide r3).mono ?_
      rintro e w3 ⟨a3, n3, c3, rfl, m3, b3⟩
      rw [← unhide KE] at m3
      have PR := hide m3.bs
      have PS := hide ((unhide PS).later b3)
      have PNr := hide ((unhide PNr).later b3)
      have B3 := hide ((unhide B2).trans (b3.mono (unhide B2).size))
      have Q3 := hide ((unhide Q2).trans (b3.mono (unhide Q2).size))
      have r4 := hide (native_any q a1 20 c1 N w3 (unhide PNr) ((unhide HV).low (unhide B3)) (by omega))
      rw [rspA_is (unhide nK), unhide nK] at r4
      clear m3 b3 B2 Q2 r3
      go_wp2_with fail
      refine (unhide r4).mono ?_
      rintro e w4 ⟨a4, n4, c4, rfl, m4, b4⟩
      rw [← unhide KE] at m4
      have PO := hide m4.bs
      have PR := hide ((unhide PR).later b4)
      have PS := hide ((unhide PS).later b4)
      have PNr := hide ((unhide PNr).later b4)
      have B4 := hide ((unhide B3).trans (b4.mono (unhide B3).size))
      have Q4 := hide ((unhide Q3).trans (b4.mono (unhide Q3).size))
      clear m4 b4 B3 Q3 r4
      go_wp2_with fail
    rotate_left
    focus
      have KE := hide kE
      clear kE
      go_wp2_with fail
      refine (unhide r3).mono ?_
      rintro e v3 ⟨x3, xn3, xc3, rfl, m3, b3⟩
      have PS := hide ((unhide PS).later b3)
      have PNr := hide ((unhide PNr).later b3)
      have B3 := hide ((unhide B2).trans (b3.mono (unhide B2).size))
      have Q3 := hide ((unhide Q2).trans (b3.mono (unhide Q2).size))
      have r4 := hide (native_any q a1 20 c1 N v3 (unhide PNr) ((unhide HV).low (unhide B3)) (by omega))
      rw [rspA_is (unhide nK), unhide nK] at r4
      clear m3 b3 B2 Q2 r3
      go_wp2_with fail
      refine (unhide r4).mono ?_
      rintro e v4 ⟨x4, xn4, xc4, rfl, m4, b4⟩
      have PS := hide ((unhide PS).later b4)
      have PNr := hide ((unhide PNr).later b4)
      have B2 := hide ((unhide B3).trans (b4.mono (unhide B3).size))
      have Q2 := hide ((unhide Q3).trans (b4.mono (unhide Q3).size))
      have r3 := hide (fast_any p a1 20 c1 N v4 (unhide PNr) ((unhide HV).low (unhide B2)) (by omega))
      rw [rspA_is (unhide nK), unhide nK] at r3
      clear m4 b4 B3 Q3 r4
      go_wp2_with fail
      refine (unhide r3).mono ?_
      rintro e w3 ⟨a3, n3, c3, rfl, m3, b3⟩
      rw [← unhide KE] at m3
      have PR := hide m3.bs
      have PS := hide ((unhide PS).later b3)
      have PNr := hide ((unhide PNr).later b3)
      have B3 := hide ((unhide B2).trans (b3.mono (unhide B2).size))
      have Q3 := hide ((unhide Q2).trans (b3.mono (unhide Q2).size))
      have r4 := hide (fast_any q a1 20 c1 N w3 (unhide PNr) ((unhide HV).low (unhide B3)) (by omega))
      rw [rspA_is (unhide nK), unhide nK] at r4
      clear m3 b3 B2 Q2 r3
      go_wp2_with fail
      refine (unhide r4).mono ?_
      rintro e w4 ⟨a4, n4, c4, rfl, m4, b4⟩
      rw [← unhide KE] at m4
      have PO := hide m4.bs
      have PR := hide ((unhide PR).later b4)
      have PS := hide ((unhide PS).later b4)
      have PNr := hide ((unhide PNr).later b4)
      have B4 := hide ((unhide B3).trans (b4.mono (unhide B3).size))
      have Q4 := hide ((unhide Q3).trans (b4.mono (unhide Q3).size))
      clear m4 b4 B3 Q3 r4
      go_wp2_with fail
    all_goals
      (have n3b : n3 ≤ 32 := by
         have := (unhide PR).len
         rw [unhide lR] at this
         have := unhide z1
         omega
       have n4b : n4 ≤ 32 := by
         have := (unhide PO).len
         rw [unhide lO] at this
         have := unhide z2
         omega
       have q5 := hide (right_any K a2 n2 c2 _ a1 20 c1 N a3 n3 c3 _ w4 (unhide PS) (unhide PNr) (unhide PR) ((unhide HV).low (unhide B4)) (by omega) (by omega))
       rw [rgA_sto K _ _ _ (unhide HK) (unhide nK), rgE_sto K _ _ (unhide HK) (unhide nK), rgt_same K _ _ _ rfl] at q5
       refine (unhide q5).mono ?_
       rintro e w5 ⟨rfl, b5⟩
       have PO := hide ((unhide PO).later b5)
       have PR := hide ((unhide PR).later b5)
       have PS := hide ((unhide PS).later b5)
       have PNr := hide ((unhide PNr).later b5)
       have B5 := hide ((unhide B4).trans (b5.mono (unhide B4).size))
       have Q5 := hide ((unhide Q4).trans (b5.mono (unhide Q4).size))
       have ME := hide (Mine.empty w5)
       have BE := hide ((unhide PR).later (below_alloc w5 (.cells #[] 5)))
       have zE : w5.heap.size ≤ (w5.alloc (.cells #[] 5)).heap.size := by simp
       clear b5 B4 Q4 q5
       go_wp2_with (first
         | (at_builtin; refine wpList_app rfl (.tmp 120) (.tmp 121) rfl w5.heap.size _ 0 0 _ rfl (unhide ME) _ n3 c3 _ rfl (unhide BE) (by omega) zE ?_; intro a6 c6 w6 m6 b6; simp only [Nat.zero_add, List.nil_append] at m6 ⊢; have M6 := hide (m6.later (below_alloc w6 (.cells #[.int .u8 7] 5))); have O6 := hide (Bs.one w6 7 (by omega) (by omega)); have b6' := (below_alloc w5 (.cells #[] 5)).trans b6; have s6 := b6'.size; have B6 := hide (b6'.trans ((below_alloc w6 (.cells #[.int .u8 7] 5)).mono s6)); have z6 : w5.heap.size ≤ (w6.alloc (.cells #[.int .u8 7] 5)).heap.size := (by simp; omega); clear m6 b6 b6')
         | (at_builtin; refine wpList_app rfl (.tmp 122) (.tmp 123) rfl w5.heap.size _ n3 c6 _ rfl (unhide M6) _ 1 1 _ rfl (unhide O6) (by omega) z6 ?_; intro a7 c7 w7 m7 b7; have M7 := hide m7; have B7 := hide ((unhide B6).trans b7); clear m7 b7))
       have PO := hide ((unhide PO).later (unhide B7))
       have PR := hide ((unhide PR).later (unhide B7))
       have PS := hide ((unhide PS).later (unhide B7))
       have PNr := hide ((unhide PNr).later (unhide B7))
       have D7 := hide ((unhide B5).trans ((unhide B7).mono (unhide B5).size))
       have Q7 := hide ((unhide Q5).trans ((unhide B7).mono (unhide Q5).size))
       have q8 := hide (right_any K a2 n2 c2 _ a1 20 c1 N a7 (n3 + 1) c7 _ w7 (unhide PS) (unhide PNr) (unhide M7).bs ((unhide HV).low (unhide D7)) (by omega) (by omega))
       rw [rgA_sto K _ _ _ (unhide HK) (unhide nK), rgE_sto K _ _ (unhide HK) (unhide nK), rgt_more] at q8
       clear ME BE zE M6 O6 B6 z6 s6 M7 B7 B5 Q5
       refine (unhide q8).mono ?_
       rintro e w8 ⟨rfl, b8⟩
       have PO := hide ((unhide PO).later b8)
       have PR := hide ((unhide PR).later b8)
       have PS := hide ((unhide PS).later b8)
       have PNr := hide ((unhide PNr).later b8)
       have B8 := hide ((unhide D7).trans (b8.mono (unhide D7).size))
       have Q8 := hide ((unhide Q7).trans (b8.mono (unhide Q7).size))
       have q9 := hide (right_any K a2 n2 c2 _ a1 20 c1 N a4 n4 c4 _ w8 (unhide PS) (unhide PNr) (unhide PO) ((unhide HV).low (unhide B8)) (by omega) (by omega))
       rw [rgA_sto K _ _ _ (unhide HK) (unhide nK), rgE_sto K _ _ (unhide HK) (unhide nK)] at q9
       have hsm := hide (same_or K (nums p) (nums q) N)
       obtain ⟨X, hX⟩ : ∃ X, X = rgt K (sto K (nums p)) N (rsp K (nums q) N) := ⟨_, rfl⟩
       obtain ⟨D, hD⟩ : ∃ D, D = decide (sto K (nums p) = sto K (nums q)) := ⟨_, rfl⟩
       rw [← hX] at q9 hsm
       rw [← hD] at hsm
       have HX := hide hX
       have HD := hide hD
       clear b8 D7 Q7 q8 hX hD
       go_wp2_with fail
       refine (unhide q9).mono ?_
       rintro e w9 ⟨rfl, b9⟩
       have PO := hide ((unhide PO).later b9)
       have PR := hide ((unhide PR).later b9)
       have PS := hide ((unhide PS).later b9)
       have PNr := hide ((unhide PNr).later b9)
       have B9 := hide ((unhide B8).trans (b9.mono (unhide B8).size))
       have Q9 := hide ((unhide Q8).trans (b9.mono (unhide Q8).size))
       have s10 := hide (stored_any K q w9 ((unhide HV).low (unhide B9)) (by omega))
       rw [stoA_is (unhide HK), stoE_is (unhide HK)] at s10
       clear b9 B8 Q8 q9
       go_wp2_with fail
       refine (unhide s10).mono ?_
       rintro e w10 ⟨a10, n10, c10, rfl, m10, b10⟩
       have PT := hide m10.bs
       have PO := hide ((unhide PO).later b10)
       have PR := hide ((unhide PR).later b10)
       have PS := hide ((unhide PS).later b10)
       have PNr := hide ((unhide PNr).later b10)
       have B10 := hide ((unhide B9).trans (b10.mono (unhide B9).size))
       have Q10 := hide ((unhide Q9).trans (b10.mono (unhide Q9).size))
       have q11 := hide (asked_any K a2 n2 c2 _ a1 20 c1 N a4 n4 c4 _ w10 (unhide PS) (unhide PNr) (unhide PO) (by omega) (by omega))
       rw [rgA_sto K _ _ _ (unhide HK) (unhide nK), ← unhide HX] at q11
       clear m10 b10 B9 Q9 s10
       go_wp2_with fail
       refine (unhide q11).mono ?_
       rintro e w11 ⟨rfl, b11⟩
       have PT := hide ((unhide PT).later b11)
       have PR := hide ((unhide PR).later b11)
       have PS := hide ((unhide PS).later b11)
       have PNr := hide ((unhide PNr).later b11)
       have B11 := hide ((unhide B10).trans (b11.mono (unhide B10).size))
       have Q11 := hide ((unhide Q10).trans (b11.mono (unhide Q10).size))
       have sm := hide (sameBytes_any a2 n2 c2 _ a10 n10 c10 _ w11 (unhide PS) (unhide PT))
       rw [← unhide HD] at sm
       clear b11 B10 Q10 q11 PO HX HD
       go_wp2_with fail
       refine same_world (unhide sm) ?_
       clear sm PT
       rcases unhide hsm with ⟨rfl, rfl⟩ | rfl
       all_goals clear hsm
       all_goals rcases Nat.eq_zero_or_pos n3 with hz | hz
       all_goals first
         | (subst hz
            go_wp2_with fail
            go_roundw
            case rel => exact ⟨K + 1, by omega, by go_num, unhide Q11⟩
            case measure => simp [intOf]; omega)
         | skip
       all_goals
         (have hz' : ((n3 : Int) == 0) = false := by simp; omega
          have ME := hide (Mine.empty w11)
          have BE := hide ((unhide PR).later (below_alloc w11 (.cells #[] 5)))
          have zE : w11.heap.size ≤ (w11.alloc (.cells #[] 5)).heap.size := by simp
          go_wp2_with (first
            | (at_builtin; refine wpList_app rfl (.tmp 172) (.tmp 173) rfl w11.heap.size _ 0 0 _ rfl (unhide ME) _ n3 c3 _ rfl (unhide BE) (by omega) zE ?_; intro a12 c12 w12 m12 b12; simp only [Nat.zero_add, List.nil_append] at m12 ⊢; have M12 := hide m12; have B12 := hide ((below_alloc w11 (.cells #[] 5)).trans b12); clear m12 b12))
          refine (pick_any A (8 * (n3 : Int)) w12 (by omega) (by omega)).mono ?_
          rintro e w13 ⟨⟨r, rfl, r0, r1⟩, hw⟩
          have hw := hw.symm
          subst hw
          obtain ⟨g, rfl⟩ := (unhide M12).some hz
          obtain ⟨j, hj⟩ : ∃ j : Nat, r / 8 = (j : Int) := ⟨(r / 8).toNat, by omega⟩
          have hj3 : j < n3 := by omega
          have hix := run_idxOwn g n3 c12 hj3 (j : Int) rfl
          have cc := mine_cell (unhide M12) hj3
          have fr := (unhide M12).free j
          generalize (rsp K (nums p) N)[j]?.getD 0 = V at cc
          clear ME BE zE
          go_wp2_with fail
          have hu := xr_byt V (2 ^ (r % 8).toNat % 256)
          unfold xr at hu
          generalize bits BinOp.xor IntKind.u8 V (2 ^ (r % 8).toNat % 256) = U at hu ⊢
          have M13 := hide ((unhide M12).stored j U hu.1 hu.2)
          have B13 : Hid (Below w11.heap.size w11 (w12.setCell ⟨g, j, none⟩ (.int .u8 U))) := hide ((unhide B12).setCell (unhide M12).block.1 _)
          have PS := hide ((unhide PS).later (unhide B13))
          have PNr := hide ((unhide PNr).later (unhide B13))
          have D13 := hide ((unhide B11).trans ((unhide B13).mono (unhide B11).size))
          have Q13 := hide ((unhide Q11).trans ((unhide B13).mono (unhide Q11).size))
          have q14 := hide (right_any K a2 n2 c2 _ a1 20 c1 N (some ⟨g, 0, none⟩) n3 c12 _ _ (unhide PS) (unhide PNr) (unhide M13).bs ((unhide HV).low (unhide D13)) (by omega) (by omega))
          rw [rgA_sto K _ _ _ (unhide HK) (unhide nK), rgE_sto K _ _ (unhide HK) (unhide nK)] at q14
          obtain ⟨Y, hY⟩ : ∃ Y, Y = rgt K (sto K (nums p)) N ((rsp K (nums p) N).set j U) := ⟨_, rfl⟩
          rw [← hY] at q14
          have HY := hide hY
          clear M12 B12 B11 Q11 hY cc fr hix hj hj3 r0 r1 hu
          refine (unhide q14).mono ?_
          rintro e w14 ⟨rfl, b14⟩
          have PB := hide ((unhide M13).bs.later b14)
          have PS := hide ((unhide PS).later b14)
          have PNr := hide ((unhide PNr).later b14)
          have Q14 := hide ((unhide Q13).trans (b14.mono (unhide Q13).size))
          have q15 := hide (asked_any K a2 n2 c2 _ a1 20 c1 N (some ⟨g, 0, none⟩) n3 c12 _ w14 (unhide PS) (unhide PNr) (unhide PB) (by omega) (by omega))
          rw [rgA_sto K _ _ _ (unhide HK) (unhide nK), ← unhide HY] at q15
          clear b14 M13 B13 D13 Q13 q14
          go_wp2_with fail
          refine (unhide q15).mono ?_
          rintro e w15 ⟨rfl, b15⟩
          have Q15 := hide ((unhide Q14).trans (b15.mono (unhide Q14).size))
          clear b15 q15 PB PS PNr Q14 HY
          go_wp2_with fail
          go_roundw
          case rel => exact ⟨K + 1, by omega, by go_num, unhide Q15⟩
          case measure => simp [intOf]; omega))
end Go.Proofs.YtfnnafhifpolmaaDoor
