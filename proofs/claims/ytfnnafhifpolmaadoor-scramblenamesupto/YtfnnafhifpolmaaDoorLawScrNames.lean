/-
  The law ScrambleNames returns true: the chapter's worked examples come out as they are written. Conditions: the table of constants holds what the program's text says.
-/
import Derived.Test.YtfnnafhifpolmaaDoorScrLives
import Derived.BigQuiet
import Derived.Deep.OwnRows
import Derived.Deep.DeepCutAuto
namespace Go.Proofs.YtfnnafhifpolmaaDoor
open Go.RowKit
set_option linter.unusedVariables false
set_option linter.unusedSimpArgs false

/-- The draws of the example, the first j times four of them. -/
def rep4 : Nat → List Int
  | 0 => []
  | j + 1 => rep4 j ++ [0, 35, 253, 254]
theorem rep4_len : ∀ j, (rep4 j).length = 4 * j
  | 0 => rfl
  | j + 1 => by rw [rep4, List.length_append, rep4_len j]; simp; omega
def r20 : List Int := [1, 37, 255, 1, 1, 37, 255, 1, 1, 37, 255, 1, 1, 37, 255, 1, 1, 37, 255, 1]
theorem r20_is : nonA (rep4 5) = r20 := by decide
theorem r20_E : nonE (rep4 5) = 0 := by decide
theorem r20_len : r20.length = 20 := rfl
theorem r20_at (i : Nat) (h : i < 20) : (r20[i]?.getD 0 == ([1, 37, 255, 1] : List Int)[i % 4]?.getD 0) = true := by
  have h2 : (List.range 20).all (fun i => (r20[i]?.getD 0 == ([1, 37, 255, 1] : List Int)[i % 4]?.getD 0)) = true := by decide
  exact List.all_eq_true.1 h2 i (by simpa using h)
theorem bad_ck : nck (n20.set 3 36) = 2 := by decide
theorem short_ck : nck (n20.take 19) = 2 := by decide
theorem byt_n20 : Byt n20 := by
  intro x hx
  have h2 : n20.all (fun x => decide (0 ≤ x) && decide (x ≤ 255)) = true := by decide
  simpa using List.all_eq_true.1 h2 x hx

theorem made19 (w : World) : Bs (w.alloc (.cells (madeCells #[Value.int .u8 0] 19) 5)) (some ⟨w.heap.size, 0, none⟩) 19 19 (List.replicate 19 0) := by
  refine Mine.bs (B := w.heap.size) ⟨by simp, ⟨by simp, .inr ⟨w.heap.size, 19, madeCells #[Value.int .u8 0] 19, rfl, Nat.le_refl _, heap_alloc_new w _, Nat.le_refl _, by unfold maxLen; omega, by simp [size_madeCells], ?_⟩⟩, fun x hx => by have := List.eq_of_mem_replicate hx; omega⟩
  rw [toList_madeCells_one]
  simp
theorem below_drew1 (w : World) : Below w.heap.size w w.drew := ⟨rfl, rfl, rfl, Nat.le_refl _, fun _ _ => rfl⟩

set_option maxHeartbeats 8000000 in
set_option maxRecDepth 20000 in
theorem lawScrNames (w : World) (hv : Vars w) : Calls Tryd.prog 3 #[] w fun e w' => e = .returned (.bool true) ∧ Below w.heap.size w w' := by
  have HV := hide hv
  have c1 := hide (lawNonce_any w)
  clear hv
  go_enter Tryd.func3, Tryd.ntmps3
  go_wp2_with fail
  refine (unhide c1).mono ?_
  rintro e w1 ⟨a1, n1, d1, rfl, m1, b1⟩
  have B1 := hide b1
  have c2 := hide (native_any { data := #[] } a1 n1 d1 n20 w1 m1.bs ((unhide HV).low b1) (by decide))
  rw [rspA_is n20_ok, n20_ok, show rsp 1 (nums { data := #[] }) n20 = [] from rfl] at c2
  clear m1 b1 c1
  go_wp2_with fail
  refine (unhide c2).mono ?_
  rintro e w2 ⟨a2, n2, d2, rfl, m2, b2⟩
  obtain rfl : n2 = 0 := by have := m2.len; simp at this; omega
  have B2 := hide ((unhide B1).trans (b2.mono (unhide B1).size))
  have c3 := hide (stored_any 1 { data := #[] } w2 ((unhide HV).low (unhide B2)) (by decide))
  rw [stoA_is (.inl rfl), stoE_is (.inl rfl), show sto 1 (nums { data := #[] }) = [] from rfl] at c3
  clear m2 b2 c2 B1
  go_wp2_with fail
  refine (unhide c3).mono ?_
  rintro e w3 ⟨a3, n3, d3, rfl, m3, b3⟩
  obtain rfl : n3 = 0 := by have := m3.len; simp at this; omega
  have B3 := hide ((unhide B2).trans (b3.mono (unhide B2).size))
  have c4 := hide (lawNonce_any w3)
  clear m3 b3 c3 B2
  go_wp2_with fail
  refine (unhide c4).mono ?_
  rintro e w4 ⟨a4, n4, d4, rfl, m4, b4⟩
  have B4 := hide ((unhide B3).trans (b4.mono (unhide B3).size))
  have c5 := hide (right_any 2 none 0 0 [] a4 n4 d4 n20 none 0 0 [] w4 (Bs.nought _) m4.bs (Bs.nought _) ((unhide HV).low (unhide B4)) (by omega) (by omega))
  rw [show rgA 2 [] n20 [] = true from rfl, show rgE 2 [] n20 = 0 from rfl] at c5
  clear m4 b4 c4 B3
  go_wp2_with fail
  refine (unhide c5).mono ?_
  rintro e w5 ⟨rfl, b5⟩
  have B5 := hide ((unhide B4).trans (b5.mono (unhide B4).size))
  have c6 := hide (lawNonce_any w5)
  clear b5 c5 B4
  go_wp2_with fail
  refine (unhide c6).mono ?_
  rintro e w6 ⟨a6, n6, d6, rfl, m6, b6⟩
  have B6 := hide (((unhide B5).trans (b6.mono (unhide B5).size)).trans ((below_alloc w6 (.cells #[.int .u8 7] 5)).mono ((unhide B5).trans (b6.mono (unhide B5).size)).size))
  have c7 := hide (right_any 1 none 0 0 [] a6 n6 d6 n20 (some ⟨w6.heap.size, 0, none⟩) 1 1 [7] (w6.alloc (.cells #[.int .u8 7] 5)) (Bs.nought _) (m6.bs.later (below_alloc w6 _)) (Bs.one w6 7 (by omega) (by omega)) ((unhide HV).low (unhide B6)) (by omega) (by omega))
  rw [show rgA 1 [] n20 [7] = false from rfl, show rgE 1 [] n20 = 0 from rfl] at c7
  clear m6 b6 c6 B5
  go_wp2_with fail
  refine (unhide c7).mono ?_
  rintro e w7 ⟨rfl, b7⟩
  have B7 := hide ((unhide B6).trans (b7.mono (unhide B6).size))
  have c8 := hide (lawNonce_any w7)
  clear b7 c7 B6
  go_wp2_with fail
  refine (unhide c8).mono ?_
  rintro e w8 ⟨a8, n8, d8, rfl, m8, b8⟩
  obtain rfl : n8 = 20 := by have := m8.len; rw [n20_len] at this; omega
  obtain ⟨g8, rfl⟩ := m8.some (by omega)
  have B8 := hide ((unhide B7).trans (b8.mono (unhide B7).size))
  have cc := mine_cell m8 (show 3 < 20 by omega)
  rw [show n20[3]?.getD 0 = 4 from rfl] at cc
  have fr := m8.free 3
  have PB := hide (m8.stored 3 36 (by omega) (by omega)).bs
  have D8 : Hid (Below w.heap.size w (w8.setCell ⟨g8, 3, none⟩ (.int .u8 36))) := hide ((unhide B8).setCell (Nat.le_trans (unhide B7).size m8.block.1) _)
  have c9 := hide (lawNonce_any (w8.setCell ⟨g8, 3, none⟩ (.int .u8 36)))
  clear m8 b8 c8 B7
  go_wp2_with fail
  refine (unhide c9).mono ?_
  rintro e w9 ⟨a9, n9, d9, rfl, m9, b9⟩
  have PB := hide ((unhide PB).later b9)
  have B9 := hide ((unhide D8).trans (b9.mono (unhide D8).size))
  have c10 := hide (right_any 3 none 0 0 [] a9 n9 d9 n20 none 0 0 [] w9 (Bs.nought _) m9.bs (Bs.nought _) ((unhide HV).low (unhide B9)) (by omega) (by omega))
  rw [show rgA 3 [] n20 [] = false from rfl, show rgE 3 [] n20 = 2 from rfl] at c10
  clear m9 b9 c9 D8 B8 cc fr
  go_wp2_with fail
  refine (unhide c10).mono ?_
  rintro e w10 ⟨rfl, b10⟩
  have PB := hide ((unhide PB).later b10)
  have B10 := hide ((unhide B9).trans (b10.mono (unhide B9).size))
  clear b10 c10 B9
  have mk : ∀ wx : World, (Instr.makeSlice 22 (.int .i64 19) (.int .i64 19)).run Tryd.prog wx = .ok (.slice (some ⟨wx.heap.size, 0, none⟩) 19 19) (wx.alloc (.cells (madeCells #[Value.int .u8 0] 19) 5)) :=
    fun wx => run_make_row' (P := Tryd.prog) 22 5 (.int .u8 0) 1 Tryd.underlying22 Tryd.infoByte rfl .i64 .i64 19 (by omega) (by omega) wx
  have I19 := hide made19
  generalize madeCells #[Value.int .u8 0] 19 = M19 at *
  go_wp2_with fail
  have z1 : w10.heap.size ≤ (w10.alloc (.cells M19 5)).drew.heap.size := by show w10.heap.size ≤ (w10.alloc (.cells M19 5)).heap.size; simp
  have Z1 := hide z1
  have E5 := hide (show rgE 1 (List.replicate 19 0) n20 = 5 from rfl)
  have E6 := hide (show rgA 1 (List.replicate 19 0) n20 [] = false from rfl)
  clear z1
  go_cut [4] (fun f wx => f = .int .i64 5 ∧ Below w10.heap.size w10 wx)
  case first =>
    go_region_with (first
      | (go_at_call 8; refine (lawNonce_any _).mono ?_; rintro e wn ⟨an, nn, cn, rfl, mn, bn⟩)
      | (go_at_call 10; have bw : Below w10.heap.size w10 wn := ((below_alloc w10 (.cells M19 5)).drew).trans (bn.mono (unhide Z1)); have rq := hide (right_any 1 (some ⟨w10.heap.size, 0, none⟩) 19 19 (List.replicate 19 0) an nn cn n20 none 0 0 [] wn (((unhide I19 w10).later (below_drew1 _)).later bn) mn.bs (Bs.nought _) ((unhide HV).low ((unhide B10).trans (bw.mono (unhide B10).size))) (by omega) (by omega)); rw [unhide E5, unhide E6] at rq; refine (unhide rq).mono ?_; rintro e wq ⟨rfl, bq⟩; have BQ := hide (bw.trans (bq.mono bw.size)); clear rq bq bw)
      | (go_at_call 10; have bw : Below w10.heap.size w10 (wn.alloc (.cells M19 5)) := ((below_drew1 w10).trans bn).trans ((below_alloc wn _).mono ((below_drew1 w10).trans bn).size); have rq := hide (right_any 1 (some ⟨wn.heap.size, 0, none⟩) 19 19 (List.replicate 19 0) an nn cn n20 none 0 0 [] (wn.alloc (.cells M19 5)) (unhide I19 wn) (mn.bs.later (below_alloc wn _)) (Bs.nought _) ((unhide HV).low ((unhide B10).trans (bw.mono (unhide B10).size))) (by omega) (by omega)); rw [unhide E5, unhide E6] at rq; refine (unhide rq).mono ?_; rintro e wq ⟨rfl, bq⟩; have BQ := hide (bw.trans (bq.mono bw.size)); clear rq bq bw))
    all_goals go_wp2_with fail
    all_goals go_meet
    all_goals exact ⟨rfl, unhide BQ⟩
  case rest =>
    clear mk I19 Z1 E5 E6
    obtain ⟨rfl, hcb⟩ := hcut
    have B11 := hide ((unhide B10).trans (hcb.mono (unhide B10).size))
    have PB := hide ((unhide PB).later hcb)
    clear hcb B10
    go_wp2_with fail
    go_loopw [12, 11] (fun i v ws => ∃ (j : Nat) (ao : Option Addr) (c : Nat), j ≤ 5 ∧ i = .int .i64 (j : Int) ∧ v = .slice ao (4 * j) c ∧ Mine wc.heap.size ws ao (4 * j) c (rep4 j) ∧ Below wc.heap.size wc ws) (fun i _ _ => 5 - (intOf i).toNat)
    case atStart => exact ⟨0, none, 0, by omega, rfl, rfl, Mine.nought _ _, Below.refl _ _⟩
    case round =>
      obtain ⟨j, ao, c, hj, rfl, rfl, hM, hB⟩ := hrel
      by_cases hlt : j < 5
      · have HM := hide hM
        have HB := hide hB
        have hBs := hB.size
        have L4 := hide (Bs.lit wr [0, 35, 253, 254] (by intro x hx; simp at hx; omega) (by simp))
        have hst := hide (show rep4 (j + 1) = rep4 j ++ [0, 35, 253, 254] from rfl)
        have h4j : 4 * j ≤ 20 := by omega
        clear hM hB
        go_wp2_with (first
          | (at_builtin; refine wpList_app rfl (.tmp 85) (.tmp 86) rfl wc.heap.size ao (4 * j) c _ rfl ((unhide HM).later (below_alloc wr _)) _ 4 4 _ rfl (unhide L4) (by omega) (by simp <;> omega) ?_; intro a3 c3 w3' m3 b3; have M3 := hide m3; have B3 := hide (((unhide HB).trans ((below_alloc wr _).mono hBs)).trans b3); clear m3 b3))
        go_roundw
        case rel =>
          refine ⟨j + 1, a3, c3, by omega, by go_num, by rw [show 4 * (j + 1) = 4 * j + 4 by omega], ?_, unhide B3⟩
          rw [unhide hst]
          exact unhide M3
        case measure => simp [intOf]; omega
      · have hjn : j = 5 := by omega
        subst hjn
        have B12 := hide ((unhide B11).trans (hB.mono (unhide B11).size))
        have PB := hide ((unhide PB).later hB)
        have c13 := hide (nonce_any ao (4 * 5) c (rep4 5) wr hM.bs)
        rw [r20_is, r20_E] at c13
        clear hM hB B11
        go_wp2_with fail
        refine (unhide c13).mono ?_
        rintro e w13 ⟨a13, n13, d13, rfl, m13, b13⟩
        obtain rfl : n13 = 20 := by have := m13.len; rw [r20_len] at this; omega
        have B13 := hide (((unhide B12).trans (b13.mono (unhide B12).size)).trans ((below_alloc w13 (.cells #[.int .u8 1, .int .u8 37, .int .u8 255, .int .u8 1] 5)).mono ((unhide B12).trans (b13.mono (unhide B12).size)).size))
        have PB := hide (((unhide PB).later b13).later (below_alloc w13 (.cells #[.int .u8 1, .int .u8 37, .int .u8 255, .int .u8 1] 5)))
        have PN := hide (m13.bs.later (below_alloc w13 (.cells #[.int .u8 1, .int .u8 37, .int .u8 255, .int .u8 1] 5)))
        have PW : Hid (Bs (w13.alloc (.cells #[.int .u8 1, .int .u8 37, .int .u8 255, .int .u8 1] 5)) (some ⟨w13.heap.size, 0, none⟩) 4 4 [1, 37, 255, 1]) := hide (Bs.lit w13 [1, 37, 255, 1] (by intro x hx; simp at hx; omega) (by simp))
        clear m13 b13 c13 B12
        go_wp2_with fail
        generalize w13.alloc (.cells #[.int .u8 1, .int .u8 37, .int .u8 255, .int .u8 1] 5) = wl at *
        go_loopw [15, 9] (fun i f ws => ∃ (j q : Nat), j ≤ 20 ∧ i = .int .i64 (j : Int) ∧ f = .bool true ∧ ws = wl.drewN q) (fun i _ _ => 20 - (intOf i).toNat)
        case atStart => exact ⟨0, 0, by omega, rfl, rfl, rfl⟩
        case round =>
          obtain ⟨j, q, hj, rfl, rfl, rfl⟩ := hrel
          by_cases hlt : j < 20
          · obtain ⟨m, hm⟩ : ∃ m, j % 4 = m := ⟨_, rfl⟩
            have hm4 : m < 4 := by omega
            have hmI : (j : Int) % 4 = (m : Int) := by omega
            have hmT : (j : Int).tmod 4 = (m : Int) := by rw [Int.tmod_eq_emod_of_nonneg (by omega)]; exact hmI
            obtain ⟨rb, ro, ri, rk⟩ := (unhide PN).idx hlt (j : Int) rfl
            obtain ⟨xb, xo, xi, xk⟩ := (unhide PW).idx hm4 (m : Int) rfl
            have he := r20_at j hlt
            rw [hm] at he
            generalize r20[j]?.getD 0 = y0 at *
            generalize ([1, 37, 255, 1] : List Int)[m]?.getD 0 = y1 at *
            have HM := hide hm
            clear hm
            go_wp2_with fail
            go_quiet (fail)
            go_wp2_with fail
            go_roundw
            case rel => exact ⟨j + 1, _, by omega, by go_num, rfl, (by first | rfl | exact World.drewN_drewN _ _ _)⟩
            case measure => simp [intOf]; omega
          · have hjn : j = 20 := by omega
            subst hjn
            have bq : Below wl.heap.size wl (wl.drewN q) := ⟨rfl, rfl, rfl, Nat.le_refl _, fun _ _ => rfl⟩
            have B14 := hide ((unhide B13).trans (bq.mono (unhide B13).size))
            have PB := hide ((unhide PB).later bq)
            have lv := hide (lives_any (wl.drewN q) ((unhide HV).low (unhide B14)))
            clear bq B13 PN PW
            generalize wl.drewN q = w14 at *
            go_wp2_with fail
            refine (unhide lv).mono ?_
            rintro e w15 ⟨rfl, b15⟩
            have PB := hide ((unhide PB).later b15)
            have B15 := hide ((unhide B14).trans (b15.mono (unhide B14).size))
            have c16 := hide (lawNonce_any w15)
            clear b15 B14 lv
            go_wp2_with fail
            refine (unhide c16).mono ?_
            rintro e w16 ⟨a16, n16, d16, rfl, m16, b16⟩
            obtain rfl : n16 = 20 := by have := m16.len; rw [n20_len] at this; omega
            have PB := hide ((unhide PB).later b16)
            have B16 := hide ((unhide B15).trans (b16.mono (unhide B15).size))
            obtain ⟨a17, d17, hcut17, P17⟩ := m16.bs.cut_h (hi := 19) (by omega) 19 rfl
            have k1 := hide (check_any a17 19 d17 _ w16 P17)
            rw [short_ck] at k1
            have k2 := hide (check_any (some ⟨g8, 0, none⟩) 20 d8 _ w16 (unhide PB))
            rw [bad_ck] at k2
            have l16 := m16.bs.le
            have x16 := m16.bs.max
            clear m16 b16 B15 P17 c16
            go_wp2_with fail
            refine same_world (unhide k1) ?_
            go_wp2_with fail
            refine same_world (unhide k2) ?_
            go_wp2_with fail
            go_ret
            exact ⟨rfl, unhide B16⟩
end Go.Proofs.YtfnnafhifpolmaaDoor
