/-
  The law ScrambleKnows returns true for any password and any two draws: the native response to the second nonce is told by that to the first one and what is stored. Conditions: the table of constants holds what the program's text says.
-/
import Derived.Test.YtfnnafhifpolmaaDoorScrLives
import Derived.BigQuiet
namespace Go.Proofs.YtfnnafhifpolmaaDoor
open Go.RowKit
set_option linter.unusedVariables false
set_option linter.unusedSimpArgs false

theorem nonE_is {d : List Int} (h : d.length = 20) : nonE d = 0 := by unfold nonE; rw [if_pos h]
theorem nonE_no {d : List Int} (h : ¬ d.length = 20) : nonE d = 2 := by unfold nonE; rw [if_neg h]
theorem nonA_len {d : List Int} (h : d.length = 20) : (nonA d).length = 20 := by unfold nonA; rw [if_pos h]; simp [h]

set_option maxHeartbeats 4000000 in
set_option maxRecDepth 20000 in
theorem knows_early (p : ByteArray) (ao : Option Addr) (an ac : Nat) (ax : List Int) (bo : Option Addr) (bn bc : Nat) (bs : List Int) (w : World) (hv : Vars w)
    (ha : Bs w ao an ac ax) (hb : Bs w bo bn bc bs) (h : 500 < p.size ∨ p.size = 0 ∨ ¬ an = 20 ∨ ¬ bn = 20) :
    Calls Tryd.prog 6 #[.string p, .slice ao an ac, .slice bo bn bc] w fun e w' => e = .returned (.bool true) ∧ Below w.heap.size w w' := by
  have lv := hide (lives_any w hv)
  have HA := hide ha
  have HB := hide hb
  have al := ha.len
  have bl := hb.len
  have ale := ha.le
  have amx := ha.max
  have ble := hb.le
  have bmx := hb.max
  obtain ⟨E, hE⟩ : ∃ E, E = nonE ax := ⟨_, rfl⟩
  obtain ⟨F, hF⟩ : ∃ F, F = nonE bs := ⟨_, rfl⟩
  have h' : (500 : Int) < (p.size : Int) ∨ (¬ (500 : Int) < (p.size : Int) ∧ (p.size : Int) = 0) ∨ (¬ (500 : Int) < (p.size : Int) ∧ ((p.size : Int) == 0) = false ∧ (E != 0) = true) ∨ (¬ (500 : Int) < (p.size : Int) ∧ ((p.size : Int) == 0) = false ∧ (E != 0) = false ∧ (F != 0) = true) := by
    rcases Nat.lt_or_ge 500 p.size with q | q
    · exact .inl (by omega)
    · right
      by_cases q0 : p.size = 0
      · exact .inl ⟨by omega, by omega⟩
      · right
        by_cases qa : an = 20
        · refine .inr ⟨by omega, (by rw [beq_eq_false_iff_ne]; omega), by rw [hE, nonE_is (by omega)]; rfl, ?_⟩
          rw [hF, nonE_no (by omega)]
          rfl
        · refine .inl ⟨by omega, (by rw [beq_eq_false_iff_ne]; omega), ?_⟩
          rw [hE, nonE_no (by omega)]
          rfl
  have HE := hide hE
  have HF := hide hF
  clear hE hF ha hb hv al bl h
  rcases h' with g | ⟨g1, g2⟩ | ⟨g1, g2, g3⟩ | ⟨g1, g2, g3, g4⟩
  all_goals go_enter Tryd.func6, Tryd.ntmps6
  all_goals go_wp2_with fail
  all_goals refine (unhide lv).mono ?_
  all_goals rintro e w0 ⟨rfl, b0⟩
  all_goals have B0 := hide b0
  all_goals have c1 := hide (nonce_any ao an ac ax w0 ((unhide HA).later b0))
  all_goals rw [← unhide HE] at c1
  all_goals clear b0 lv
  all_goals go_wp2_with fail
  all_goals refine (unhide c1).mono ?_
  all_goals rintro e w1 ⟨a1, n1, c1, rfl, m1, b1⟩
  all_goals have B1 := hide ((unhide B0).trans (b1.mono (unhide B0).size))
  all_goals have c2 := hide (nonce_any bo bn bc bs w1 ((unhide HB).later (unhide B1)))
  all_goals rw [← unhide HF] at c2
  all_goals clear m1 b1 B0
  all_goals go_wp2_with fail
  all_goals refine (unhide c2).mono ?_
  all_goals rintro e w2 ⟨a2, n2, c2, rfl, m2, b2⟩
  all_goals have B2 := hide ((unhide B1).trans (b2.mono (unhide B1).size))
  all_goals clear m2 b2 B1
  all_goals go_wp2_with fail
  all_goals go_ret
  all_goals exact ⟨rfl, unhide B2⟩

set_option maxHeartbeats 4000000 in
set_option maxRecDepth 20000 in
theorem lawScrKnows (p : ByteArray) (ao : Option Addr) (an ac : Nat) (ax : List Int) (bo : Option Addr) (bn bc : Nat) (bs : List Int) (w : World) (hv : Vars w)
    (ha : Bs w ao an ac ax) (hb : Bs w bo bn bc bs) :
    Calls Tryd.prog 6 #[.string p, .slice ao an ac, .slice bo bn bc] w fun e w' => e = .returned (.bool true) ∧ Below w.heap.size w w' := by
  by_cases h : 500 < p.size ∨ p.size = 0 ∨ ¬ an = 20 ∨ ¬ bn = 20
  · exact knows_early p ao an ac ax bo bn bc bs w hv ha hb h
  have hp : p.size ≤ 500 := by omega
  have h0 : ¬ p.size = 0 := by omega
  obtain ⟨rfl, rfl⟩ : an = 20 ∧ bn = 20 := by omega
  have lv := hide (lives_any w hv)
  have HV := hide hv
  have HA := hide ha
  have HB := hide hb
  have hE := hide (nonE_is ha.len)
  have hF := hide (nonE_is hb.len)
  have nA := hide (non_ok ha.byt ha.len)
  have nB := hide (non_ok hb.byt hb.len)
  have lA := hide (nonA_len ha.len)
  have lB := hide (nonA_len hb.len)
  have hnp : ¬ (nums p).length = 0 := by rw [nums_length]; exact h0
  have HNP := hide hnp
  have hkn := hide (rsp_knows (nums p) (nonA ax) (nonA bs) hnp)
  have g1 : ¬ (500 : Int) < (p.size : Int) := by omega
  have g2 : ((p.size : Int) == 0) = false := by rw [beq_eq_false_iff_ne]; omega
  have ls := hide (show (sto 1 (nums p)).length = 20 by rw [sto_len, if_neg hnp]; rfl)
  have lr := hide (fun n => show (rsp 1 (nums p) n).length = 20 by rw [rsp_len, if_neg hnp]; rfl)
  have ale := ha.le
  have amx := ha.max
  have ble := hb.le
  have bmx := hb.max
  clear ha hb hv h hnp h0
  go_enter Tryd.func6, Tryd.ntmps6
  go_wp2_with fail
  refine (unhide lv).mono ?_
  rintro e w0 ⟨rfl, b0⟩
  have B0 := hide b0
  have c1 := hide (nonce_any ao 20 ac ax w0 ((unhide HA).later b0))
  rw [unhide hE] at c1
  clear b0 lv
  go_wp2_with fail
  refine (unhide c1).mono ?_
  rintro e w1 ⟨a1, n1, c1, rfl, m1, b1⟩
  obtain rfl : n1 = 20 := by have := m1.len; rw [unhide lA] at this; omega
  have B1 := hide ((unhide B0).trans (b1.mono (unhide B0).size))
  have PN := hide m1.bs
  have c2 := hide (nonce_any bo 20 bc bs w1 ((unhide HB).later (unhide B1)))
  rw [unhide hF] at c2
  clear m1 b1 B0
  go_wp2_with fail
  refine (unhide c2).mono ?_
  rintro e w2 ⟨a2, n2, c2, rfl, m2, b2⟩
  obtain rfl : n2 = 20 := by have := m2.len; rw [unhide lB] at this; omega
  have B2 := hide ((unhide B1).trans (b2.mono (unhide B1).size))
  have PN := hide ((unhide PN).later b2)
  have PM := hide m2.bs
  have c3 := hide (stored_any 1 p w2 ((unhide HV).low (unhide B2)) (by omega))
  rw [stoA_is (.inl rfl), stoE_is (.inl rfl)] at c3
  clear m2 b2 B1
  go_wp2_with fail
  refine (unhide c3).mono ?_
  rintro e w3 ⟨a3, n3, c3, rfl, m3, b3⟩
  obtain rfl : n3 = 20 := by have := m3.len; rw [unhide ls] at this; omega
  have B3 := hide ((unhide B2).trans (b3.mono (unhide B2).size))
  have PN := hide ((unhide PN).later b3)
  have PM := hide ((unhide PM).later b3)
  have PS := hide m3.bs
  have c4 := hide (native_any p a1 20 c1 _ w3 (unhide PN) ((unhide HV).low (unhide B3)) (by omega))
  rw [rspA_is (unhide nA), unhide nA] at c4
  clear m3 b3 B2
  go_wp2_with fail
  refine (unhide c4).mono ?_
  rintro e w4 ⟨a4, n4, c4, rfl, m4, b4⟩
  obtain rfl : n4 = 20 := by have := m4.len; rw [unhide lr] at this; omega
  have B4 := hide ((unhide B3).trans (b4.mono (unhide B3).size))
  have PN := hide ((unhide PN).later b4)
  have PM := hide ((unhide PM).later b4)
  have PS := hide ((unhide PS).later b4)
  have PR := hide m4.bs
  have c5 := hide (native_any p a2 20 c2 _ w4 (unhide PM) ((unhide HV).low (unhide B4)) (by omega))
  rw [rspA_is (unhide nB), unhide nB] at c5
  clear m4 b4 B3
  go_wp2_with fail
  refine (unhide c5).mono ?_
  rintro e w5 ⟨a5, n5, c5, rfl, m5, b5⟩
  obtain rfl : n5 = 20 := by have := m5.len; rw [unhide lr] at this; omega
  have B5 := hide ((unhide B4).trans (b5.mono (unhide B4).size))
  have PN := hide ((unhide PN).later b5)
  have PM := hide ((unhide PM).later b5)
  have PS := hide ((unhide PS).later b5)
  have PR := hide ((unhide PR).later b5)
  have PT := hide m5.bs
  have ME := hide (Mine.empty w5)
  have BE := hide ((unhide PN).later (below_alloc w5 (.cells #[] 5)))
  have zE : w5.heap.size ≤ (w5.alloc (.cells #[] 5)).heap.size := by simp
  clear m5 b5 B4
  go_wp2_with (first
    | (at_builtin; refine wpList_app rfl (.tmp 88) (.tmp 89) rfl w5.heap.size _ 0 0 _ rfl (unhide ME) _ 20 c1 _ rfl (unhide BE) (by omega) zE ?_; intro a6 c6 w6 m6 b6; simp only [Nat.zero_add, List.nil_append] at m6 ⊢; have M6 := hide m6; have b6' := (below_alloc w5 (.cells #[] 5)).trans b6; have B6 := hide b6'; have s6 := b6'.size; clear m6 b6 b6')
    | (at_builtin; refine wpList_app rfl (.tmp 90) (.tmp 91) rfl w5.heap.size _ 20 c6 _ rfl (unhide M6) _ 20 c3 _ rfl ((unhide PS).later (unhide B6)) (by omega) s6 ?_; intro a7 c7 w7 m7 b7; have M7 := hide m7; have B7 := hide ((unhide B6).trans b7); clear m7 b7))
  have D7 := hide ((unhide B5).trans ((unhide B7).mono (unhide B5).size))
  have PM := hide ((unhide PM).later (unhide B7))
  have PS := hide ((unhide PS).later (unhide B7))
  have PR := hide ((unhide PR).later (unhide B7))
  have PT := hide ((unhide PT).later (unhide B7))
  have c8 := hide (sum1_any a7 (20 + 20) c7 _ w7 (unhide M7).bs ((unhide HV).low (unhide D7)) (by omega))
  rw [show sumk 1 (nonA ax ++ sto 1 (nums p)) = cov 1 (sto 1 (nums p)) (nonA ax) from rfl] at c8
  clear ME BE zE M6 B6 s6 M7 B7 B5 PN
  go_wp2_with fail
  refine (unhide c8).mono ?_
  rintro e w8 ⟨a8, n8, c8, rfl, m8, b8⟩
  obtain rfl : n8 = 20 := by have := m8.len; rw [cov_len, show hsz 1 = 20 from rfl] at this; omega
  have B8 := hide ((unhide D7).trans (b8.mono (unhide D7).size))
  have PM := hide ((unhide PM).later b8)
  have PS := hide ((unhide PS).later b8)
  have PR := hide ((unhide PR).later b8)
  have PT := hide ((unhide PT).later b8)
  have PX := hide m8.bs
  have ME := hide (Mine.empty w8)
  have BE := hide ((unhide PM).later (below_alloc w8 (.cells #[] 5)))
  have zE : w8.heap.size ≤ (w8.alloc (.cells #[] 5)).heap.size := by simp
  clear m8 b8 D7
  go_wp2_with (first
    | (at_builtin; refine wpList_app rfl (.tmp 94) (.tmp 95) rfl w8.heap.size _ 0 0 _ rfl (unhide ME) _ 20 c2 _ rfl (unhide BE) (by omega) zE ?_; intro a6 c6 w6 m6 b6; simp only [Nat.zero_add, List.nil_append] at m6 ⊢; have M6 := hide m6; have b6' := (below_alloc w8 (.cells #[] 5)).trans b6; have B6 := hide b6'; have s6 := b6'.size; clear m6 b6 b6')
    | (at_builtin; refine wpList_app rfl (.tmp 96) (.tmp 97) rfl w8.heap.size _ 20 c6 _ rfl (unhide M6) _ 20 c3 _ rfl ((unhide PS).later (unhide B6)) (by omega) s6 ?_; intro a9 c9 w9 m9 b9; have M9 := hide m9; have B9 := hide ((unhide B6).trans b9); clear m9 b9))
  have D9 := hide ((unhide B8).trans ((unhide B9).mono (unhide B8).size))
  have PR := hide ((unhide PR).later (unhide B9))
  have PT := hide ((unhide PT).later (unhide B9))
  have PX := hide ((unhide PX).later (unhide B9))
  have c10 := hide (sum1_any a9 (20 + 20) c9 _ w9 (unhide M9).bs ((unhide HV).low (unhide D9)) (by omega))
  rw [show sumk 1 (nonA bs ++ sto 1 (nums p)) = cov 1 (sto 1 (nums p)) (nonA bs) from rfl] at c10
  clear ME BE zE M6 B6 s6 M9 B9 B8 PM PS
  go_wp2_with fail
  refine (unhide c10).mono ?_
  rintro e w10 ⟨a10, n10, c10, rfl, m10, b10⟩
  obtain rfl : n10 = 20 := by have := m10.len; rw [cov_len, show hsz 1 = 20 from rfl] at this; omega
  have B10 := hide ((unhide D9).trans (b10.mono (unhide D9).size))
  have PR := hide ((unhide PR).later b10)
  have PT := hide ((unhide PT).later b10)
  have PX := hide ((unhide PX).later b10)
  have PY := hide m10.bs
  clear m10 b10 D9
  go_wp2_with fail
  go_loopw [17] (fun i wr => ∃ (j q : Nat), j ≤ 20 ∧ i = .int .i64 (j : Int) ∧ wr = w10.drewN q) (fun i _ => 20 - (intOf i).toNat)
  case atStart => exact ⟨0, 0, by omega, rfl, rfl⟩
  case round =>
    obtain ⟨j, q, hj, rfl, rfl⟩ := hrel
    by_cases hlt : j < 20
    · obtain ⟨rb, ro, ri, rk⟩ := (unhide PR).idx hlt (j : Int) rfl
      obtain ⟨xb, xo, xi, xk⟩ := (unhide PX).idx hlt (j : Int) rfl
      obtain ⟨yb, yo, yi, yk⟩ := (unhide PY).idx hlt (j : Int) rfl
      obtain ⟨tb, to, ti, tk⟩ := (unhide PT).idx hlt (j : Int) rfl
      have hh := unhide hkn j hlt
      have he : (bits .xor .u8 (bits .xor .u8 ((rsp 1 (nums p) (nonA ax))[j]?.getD 0) ((cov 1 (sto 1 (nums p)) (nonA ax))[j]?.getD 0)) ((cov 1 (sto 1 (nums p)) (nonA bs))[j]?.getD 0) != (rsp 1 (nums p) (nonA bs))[j]?.getD 0) = false := by
        unfold xr at hh
        rw [hh]
        simp
      generalize (rsp 1 (nums p) (nonA ax))[j]?.getD 0 = y0 at *
      generalize (cov 1 (sto 1 (nums p)) (nonA ax))[j]?.getD 0 = y1 at *
      generalize (cov 1 (sto 1 (nums p)) (nonA bs))[j]?.getD 0 = y2 at *
      generalize (rsp 1 (nums p) (nonA bs))[j]?.getD 0 = y3 at *
      clear hh
      go_wp2_with fail
      go_quiet (fail)
      go_wp2_with fail
      go_roundw
      case rel => exact ⟨j + 1, _, by omega, by go_num, (by first | rfl | exact World.drewN_drewN _ _ _)⟩
      case measure => simp [intOf]; omega
    · have hjn : j = 20 := by omega
      subst hjn
      go_wp2_with fail
      go_ret
      exact ⟨rfl, (unhide B10).trans (Below.mono (⟨rfl, rfl, rfl, Nat.le_refl _, fun _ _ => rfl⟩ : Below w10.heap.size w10 (w10.drewN q)) (unhide B10).size)⟩
end Go.Proofs.YtfnnafhifpolmaaDoor
