/-
  What Sum1 of the document's answer returns. Conditions: fewer than 10 to the 5 bytes.
-/
import Derived.Test.YtfnnafhifpolmaaDoorShaRefP
namespace Go.Proofs.YtfnnafhifpolmaaDoor
open Go.RowKit
set_option linter.unusedVariables false
set_option linter.unusedSimpArgs false

set_option maxHeartbeats 8000000 in
set_option maxRecDepth 20000 in
theorem sum1_ref (bo : Option Addr) (bn bc : Nat) (bs : List Int) (w : World) (h : Bs w bo bn bc bs) (hbd : bn ≤ 100000) :
    Calls Tryd.prog 39 #[.slice bo bn bc] w fun e w' => OutB w (sumk 1 bs) e w' := by
  have hpb := hide (pd_byt h.byt)
  have hbl := hide h.len
  have hU0 := hide (umine_lit w [1732584193, 4023233417, 2562383102, 271733878, 3285377520] (by intro x hx; simp only [List.mem_cons, List.not_mem_nil, or_false] at hx; omega) (by simp))
  have pc := hide (padded_ref bo bn bc bs _ (h.later (below_alloc w (.cells #[.int .u32 1732584193, .int .u32 4023233417, .int .u32 2562383102, .int .u32 271733878, .int .u32 3285377520] 47))) (by omega))
  clear h
  go_enter Tryd.func39, Tryd.ntmps39
  go_wp2_with fail
  refine (unhide pc).mono ?_
  rintro e w1 ⟨po, pn, pcap, rfl, m1, b1⟩
  have hsz : w.heap.size < w1.heap.size := by have := b1.size; simp at this; omega
  have U1 := hide ((unhide hU0).later b1)
  have P1 := hide m1.bs
  have O1 := hide (show Off po pn w.heap.size from fun hn a ha => by
    have hob := m1.own.2
    rcases hob with ⟨hv, h0⟩ | ⟨g, cap, cur, hv, hg, hh, _⟩
    · omega
    · simp only [Value.slice.injEq] at hv
      rw [hv.1] at ha
      obtain rfl := Option.some.inj ha
      simp at hg ⊢
      omega)
  have B1 := hide ((below_alloc w (.cells #[.int .u32 1732584193, .int .u32 4023233417, .int .u32 2562383102, .int .u32 271733878, .int .u32 3285377520] 47)).trans (b1.mono (by simp)))
  have hpl := m1.len
  have hpn : pn = 64 * (pn / 64) := by
    have h1 := pd_len bs
    have h2 := pdz_end bs.length (pdz bs.length) (Nat.le_refl _)
    have := h2.2 rfl
    omega
  have hpb2 : pn ≤ 200000 := by
    have h1 := pd_len bs
    have h2 := pdz_lt bs.length
    have := unhide hbl
    omega
  have HPL := hide hpl
  have HPN := hide hpn
  clear m1 b1 pc hU0 hpl hpn
  go_wp2_with fail
  go_loopw [5] (fun i ws => ∃ m : Nat, 64 * m ≤ pn ∧ i = .int .i64 ((64 * m : Nat) : Int) ∧ UMine w.heap.size ws (some ⟨w.heap.size, 0, none⟩) 5 5 ((wf 1 (pd bs) m).take 5) ∧ Bs ws po pn pcap (pd bs) ∧ Below w.heap.size w ws ∧ w.heap.size < ws.heap.size) (fun i _ => pn - (intOf i).toNat)
  case atStart => exact ⟨0, by omega, rfl, unhide U1, unhide P1, unhide B1, hsz⟩
  case round =>
    clear U1 P1 B1
    obtain ⟨m, hm, rfl, hU, hP, hB, hws⟩ := hrel
    obtain ⟨A, hA⟩ : ∃ A, 64 * m = A := ⟨_, rfl⟩
    rw [hA]
    by_cases hlt : A < pn
    · have hA64 : A + 64 ≤ pn := by have := unhide HPN; omega
      have hbk := hide (wds_len (blk (pd bs) m))
      have hbw := hide (wds_wds (blk_byt (unhide hpb) m))
      obtain ⟨ac, cc, hct, hcb⟩ := hP.cut_l (lo := A) (by omega) (A : Int) rfl
      have hwb := hide (fun t ht => word_blk (pd bs) m t ht)
      rw [hA] at hwb
      have hnx := hide (show wf 1 (pd bs) (m + 1) = mix1 (wf 1 (pd bs) m) (wds (blk (pd bs) m)) from rfl)
      have hWl := hide (wf_len 1 (pd bs) m)
      have hWw := hide (wf_wds 1 (pd bs) m)
      have HU := hide hU
      have HP := hide hP
      have HB := hide hB
      have HCB := hide hcb
      have HA := hide hA
      generalize wf 1 (pd bs) m = W at *
      generalize wds (blk (pd bs) m) = b at *
      obtain ⟨Z, hZ⟩ : ∃ Z, wr.heap.size = Z := ⟨_, rfl⟩
      have KU := hide (fun (ws : World) (hb : Below Z wr ws) => (show UMine w.heap.size ws (some ⟨w.heap.size, 0, none⟩) 5 5 (W.take 5) from (unhide HU).later (by rw [hZ]; exact hb)))
      have KP := hide (fun (ws : World) (hb : Below Z wr ws) => (show Bs ws po pn pcap (pd bs) from (unhide HP).later (by rw [hZ]; exact hb)))
      have KB := hide (fun (ws : World) (hb : Below Z wr ws) => (show Below w.heap.size w ws from (unhide HB).trans (hb.mono (by omega))))
      have KC := hide (fun (ws : World) (hb : Below Z wr ws) => (show Bs ws ac (pn - A) cc ((pd bs).drop A) from (unhide HCB).later (by rw [hZ]; exact hb)))
      have hwZ : w.heap.size < Z := by omega
      clear hU hP hB hcb
      go_wp2_with (first
        | (at_make; refine wpList_umkFull rfl _ _ rfl _ _ _ _ 80 rfl rfl rfl rfl (by omega) ?_; intro w2 m2 b2 z2; rw [hZ] at m2 b2 z2; have M2 := hide m2; have B2 := hide b2; have z2' := z2; clear m2 b2 z2))
      go_loopw [7] (fun i ws => ∃ t : Nat, t ≤ 80 ∧ i = .int .i64 t ∧ UMine Z ws (some ⟨Z, 0, none⟩) 80 80 (rowt nx1 b 80 t) ∧ Below Z wr ws ∧ Z < ws.heap.size) (fun i _ => 80 - (intOf i).toNat)
      case atStart => exact ⟨0, by omega, rfl, by rw [rowt_zero]; exact unhide M2, unhide B2, z2'⟩
      case round =>
        clear M2 B2 HU HP HB HCB
        obtain ⟨t, ht, rfl, hM, hB, hz⟩ := hrel
        by_cases hlt2 : t < 80
        · by_cases h16 : t < 16
          · have wc := hide (word_ref ac (pn - A) cc _ (t : Int) t rfl wr (unhide KC wr hB) (by omega) (by omega))
            rw [unhide hwb t h16] at wc
            have hst := hide (rowt_low nx1 b (unhide hbk) 80 t h16 (by omega))
            have ct := umine_at hM hlt2
            have fr := hM.free t
            have hbt := (unhide hbw) t
            obtain ⟨b0, b1⟩ := hbt
            have it : 0 ≤ (t : Int) ∧ (t : Int) < 80 := by omega
            have HM := hide hM
            have HBl := hide hB
            generalize ix (rowt nx1 b 80 t) t = X0 at *
            generalize ix b t = X at *
            clear hM hB
            go_wp2_with fail
            refine (unhide wc).mono ?_
            rintro e w5 ⟨rfl, kd, rfl⟩
            go_wp2_with fail
            go_roundw
            case rel =>
              refine ⟨t + 1, by omega, by go_num, ?_, (Below.trans (unhide HBl) (c := wr.drewN _) ⟨rfl, rfl, rfl, Nat.le_refl _, fun _ _ => rfl⟩).setCell (by simp <;> omega) _, by simpa using hz⟩
              rw [← unhide hst]
              exact UMine.stored (w := wr.drewN _) ((unhide HM).later (below_drewN wr _)) t _ b0 b1
            case measure => simp [intOf]; omega
          · obtain ⟨n, hn⟩ : ∃ n, t = 16 + n := ⟨t - 16, by omega⟩
            have hlen := unhide hbk
            obtain ⟨m', hm'⟩ : ∃ m', 80 - (16 + n) = m' + 1 := ⟨63 - n, by omega⟩
            have hrow := rowt_high nx1 b hlen 80 n
            have hrow2 := rowt_high nx1 b hlen 80 (n + 1)
            rw [hm'] at hrow
            rw [show 80 - (16 + (n + 1)) = m' by omega] at hrow2
            have hst := hide (rw_step nx1 b hlen n m')
            rw [← hrow, ← hrow2, show 16 + (n + 1) = t + 1 by omega, ← hn] at hst
            have hll := rw_len nx1 b hlen n (m' + 1)
            have c3 := umine_at hM (i := t - 3) (by omega)
            have c8 := umine_at hM (i := t - 8) (by omega)
            have c14 := umine_at hM (i := t - 14) (by omega)
            have c16 := umine_at hM (i := t - 16) (by omega)
            have ct := umine_at hM (i := t) (by omega)
            have fr := hM.free t
            rw [hn, hrow, ← hn, rw_at nx1 b hlen n (m' + 1) 2 (t - 3) (by omega)] at c3
            rw [hn, hrow, ← hn, rw_at nx1 b hlen n (m' + 1) 7 (t - 8) (by omega)] at c8
            rw [hn, hrow, ← hn, rw_at nx1 b hlen n (m' + 1) 13 (t - 14) (by omega)] at c14
            rw [hn, hrow, ← hn, rw_at nx1 b hlen n (m' + 1) 15 (t - 16) (by omega)] at c16
            have hnx2 := hide (show nx1 (rs nx1 b n) = rot (bits .xor .u32 (bits .xor .u32 (bits .xor .u32 (ix (rs nx1 b n) 2) (ix (rs nx1 b n) 7)) (ix (rs nx1 b n) 13)) (ix (rs nx1 b n) 15)) 1 from rfl)
            obtain ⟨p3, hp3⟩ : ∃ p : Nat, t - 3 = p := ⟨_, rfl⟩
            obtain ⟨p8, hp8⟩ : ∃ p : Nat, t - 8 = p := ⟨_, rfl⟩
            obtain ⟨p14, hp14⟩ : ∃ p : Nat, t - 14 = p := ⟨_, rfl⟩
            obtain ⟨p16, hp16⟩ : ∃ p : Nat, t - 16 = p := ⟨_, rfl⟩
            have n3 : ¬ t = p3 := by omega
            have n8 : ¬ t = p8 := by omega
            have n14 : ¬ t = p14 := by omega
            have n16 : ¬ t = p16 := by omega
            have e3 : (t : Int) - 3 = (p3 : Int) := by omega
            have e8 : (t : Int) - 8 = (p8 : Int) := by omega
            have e14 : (t : Int) - 14 = (p14 : Int) := by omega
            have e16 : (t : Int) - 16 = (p16 : Int) := by omega
            have v3 : IntKind.i64.wrap (p3 : Int) = (p3 : Int) := by rw [IntKind.wrap_i64]; omega
            have v8 : IntKind.i64.wrap (p8 : Int) = (p8 : Int) := by rw [IntKind.wrap_i64]; omega
            have v14 : IntKind.i64.wrap (p14 : Int) = (p14 : Int) := by rw [IntKind.wrap_i64]; omega
            have v16 : IntKind.i64.wrap (p16 : Int) = (p16 : Int) := by rw [IntKind.wrap_i64]; omega
            rw [hp3] at c3
            rw [hp8] at c8
            rw [hp14] at c14
            rw [hp16] at c16
            generalize ix (rs nx1 b n) 2 = X3 at *
            generalize ix (rs nx1 b n) 7 = X8 at *
            generalize ix (rs nx1 b n) 13 = X14 at *
            generalize ix (rs nx1 b n) 15 = X16 at *
            generalize ix (rowt nx1 b 80 t) t = X at *
            have rc := hide (fun wx => rol_ref (bits .xor .u32 (bits .xor .u32 (bits .xor .u32 X3 X8) X14) X16) 1 1 rfl wx (xor_wd _ _) (by omega) (by omega))
            obtain ⟨q0, q1⟩ := rot_wd (bits .xor .u32 (bits .xor .u32 (bits .xor .u32 X3 X8) X14) X16) 1
            have HM := hide hM
            have HBl := hide hB
            have i3 : 0 ≤ (p3 : Int) ∧ (p3 : Int) < 80 := by omega
            have i8 : 0 ≤ (p8 : Int) ∧ (p8 : Int) < 80 := by omega
            have i14 : 0 ≤ (p14 : Int) ∧ (p14 : Int) < 80 := by omega
            have i16 : 0 ≤ (p16 : Int) ∧ (p16 : Int) < 80 := by omega
            have it : 0 ≤ (t : Int) ∧ (t : Int) < 80 := by omega
            have t16 : ¬ (t : Int) < 16 := by omega
            clear hM hB hp3 hp8 hp14 hp16 hll hm' hlen hn hrow hrow2
            go_wp2_with fail
            go_region_held3 (fun w' => w'.cell? ⟨Z, p3, none⟩ = some (.int .u32 X3) ∧ w'.cell? ⟨Z, p8, none⟩ = some (.int .u32 X8) ∧ w'.cell? ⟨Z, p14, none⟩ = some (.int .u32 X14) ∧ w'.cell? ⟨Z, p16, none⟩ = some (.int .u32 X16)) (first | exact ⟨cell_off c3 n3, cell_off c8 n8, cell_off c14 n14, cell_off c16 n16⟩ | go_keep) (first | (go_at_call 49; refine same_world (unhide rc _) ?_))
            go_wp2_with fail
            go_roundw
            case rel =>
              refine ⟨t + 1, by omega, by go_num, ?_, ((unhide HBl).setCell (by simp <;> omega) _).drew, by simpa using hz⟩
              rw [← unhide hst, unhide hnx2]
              exact ((unhide HM).stored t _ q0 q1).later (below_drew _)
            case measure => simp [intOf]; omega
        · have ht80 : t = 80 := by omega
          have M3 := hide (show UMine Z wr (some ⟨Z, 0, none⟩) 80 80 (sch1 b) by
            have := rowt_high nx1 b (unhide hbk) 80 64
            rw [ht80, show (80 : Nat) = 16 + 64 from rfl, this, show 80 - (16 + 64) = 0 from rfl, rw_all] at hM
            exact hM)
          have U3 := hide (unhide KU wr hB)
          have P3 := hide (unhide KP wr hB)
          have B3 := hide (unhide KB wr hB)
          have hgt : ¬ (t : Int) < 80 := by omega
          clear hM hB KU KP KB KC hlt2
          obtain ⟨Y, hY⟩ : ∃ Y, wr.heap.size = Y := ⟨_, rfl⟩
          have hZY : Z < Y := by omega
          have UE := hide (UMine.empty wr)
          rw [hY] at UE
          have HE := hide ((unhide U3).is.later (below_alloc wr (.cells #[] 47)))
          have zE : Y ≤ (wr.alloc (.cells #[] 47)).heap.size := by simp; omega
          go_wp2_with (first
            | (at_builtin; refine wpList_uapp rfl (.tmp 65) (.tmp 66) rfl Y _ 0 0 _ rfl (unhide UE) _ 5 5 _ rfl (unhide HE) (by omega) zE ?_; intro av cv w4 m4 b4; simp only [Nat.zero_add, List.nil_append] at m4 ⊢; have M4 := hide m4; have b4' := (below_alloc wr (.cells #[] 47)).trans (by rw [hY]; exact b4); have SC4 := hide ((unhide M3).later b4'); have U4 := hide ((unhide U3).later b4'); have P4 := hide ((unhide P3).later b4'); have B4 := hide ((unhide B3).trans (b4'.mono (by omega))); have s4 := b4'.size; clear m4 b4 b4'))
          obtain ⟨gv, rfl, hgv⟩ := umine_some (unhide M4) (by omega)
          have V4 := hide (unhide M4).is
          have HQ := hide (s5_wd (unhide hWw))
          have hl5 := hide (show W.take 5 = l5 (s5 W) by obtain ⟨a0, a1, a2, a3, a4, a5, a6, a7, rfl⟩ := list8 (unhide hWl); rfl)
          have hsw := hide (sch1_wds b (unhide hbw))
          clear UE HE zE M3 U3 P3 B3 M4
          go_wp2_with fail
          go_loopw [9, 8] (fun i v ws => ∃ (n gx cx : Nat), n ≤ 80 ∧ i = .int .i64 n ∧ v = .slice (some ⟨gx, 0, none⟩) 5 cx ∧ Us ws (some ⟨gx, 0, none⟩) 5 cx (l5 (run1 (sch1 b) (s5 W) n)) ∧ w.heap.size < gx ∧ Below w4.heap.size w4 ws) (fun i _ _ => 80 - (intOf i).toNat)
          case atStart => exact ⟨0, gv, cv, by omega, rfl, rfl, by rw [show run1 (sch1 b) (s5 W) 0 = s5 W from rfl, ← unhide hl5]; exact unhide V4, by omega, Below.refl _ _⟩
          case round =>
            clear V4
            obtain ⟨n, gx, cx, hn, rfl, rfl, hV, hgx, hB⟩ := hrel
            have hq := run1_wd (sch1 b) (unhide HQ) n
            have hnx3 : run1 (sch1 b) (s5 W) (n + 1) = rd1 n (ix (sch1 b) n) (run1 (sch1 b) (s5 W) n) := rfl
            have hcx := hV.le
            have hcm := hV.max
            by_cases hlt3 : n < 80
            · have cw := umine_at ((unhide SC4).later hB) hlt3
              have d0 := us_at hV (i := 0) (by omega)
              have d1 := us_at hV (i := 1) (by omega)
              have d2 := us_at hV (i := 2) (by omega)
              have d3 := us_at hV (i := 3) (by omega)
              have d4 := us_at hV (i := 4) (by omega)
              have hgl := us_lt hV (by omega)
              have hxw := (unhide hsw) n
              have HN := hide hnx3
              generalize run1 (sch1 b) (s5 W) n = s at *
              obtain ⟨a, b', c, d, e⟩ := s
              obtain ⟨⟨a0, a1⟩, ⟨b0, b1⟩, ⟨c0, c1⟩, ⟨e0, e1⟩, ⟨f0, f1'⟩⟩ := hq
              obtain ⟨x0, x1⟩ := hxw
              replace d0 : wr.cell? ⟨gx, 0, none⟩ = some (.int .u32 a) := d0
              replace d1 : wr.cell? ⟨gx, 1, none⟩ = some (.int .u32 b') := d1
              replace d2 : wr.cell? ⟨gx, 2, none⟩ = some (.int .u32 c) := d2
              replace d3 : wr.cell? ⟨gx, 3, none⟩ = some (.int .u32 d) := d3
              replace d4 : wr.cell? ⟨gx, 4, none⟩ = some (.int .u32 e) := d4
              simp only at a0 a1 b0 b1 c0 c1 e0 e1 f0 f1'
              have r1 := hide (fun wx => rol_ref a 5 5 rfl wx ⟨a0, a1⟩ (by omega) (by omega))
              have r2 := hide (fun wx => rol_ref b' 30 30 rfl wx ⟨b0, b1⟩ (by omega) (by omega))
              have rr := hide (fun wx => round_ref (n : Int) n rfl b' c d wx)
              have hrd := hide (show ∀ X : Int, rd1 n X ⟨a, b', c, d, e⟩ = ⟨(rot a 5 + f1 n b' c d + e + k1 n + X) % 4294967296, a, rot b' 30, c, d⟩ from fun _ => rfl)
              obtain ⟨F0, F1⟩ := f1_wd n b' c d
              obtain ⟨K0, K1⟩ := k1_wd n
              generalize ix (sch1 b) n = X at *
              have it : 0 ≤ (n : Int) ∧ (n : Int) < 80 := by omega
              have HVv := hide hV
              have HBl := hide hB
              have hsB := hB.size
              clear hV hB hnx3
              go_wp2_with fail
              go_quiet (first | (go_at_call 50; refine Calls.quiet_of_same (unhide rr _)))
              obtain ⟨wa, hwa⟩ : ∃ wx, wx = wr.drewN nq := ⟨_, rfl⟩
              rw [← hwa]
              replace d0 : wa.cell? ⟨gx, 0, none⟩ = some (.int .u32 a) := by rw [hwa]; exact d0
              replace d1 : wa.cell? ⟨gx, 1, none⟩ = some (.int .u32 b') := by rw [hwa]; exact d1
              replace d2 : wa.cell? ⟨gx, 2, none⟩ = some (.int .u32 c) := by rw [hwa]; exact d2
              replace d3 : wa.cell? ⟨gx, 3, none⟩ = some (.int .u32 d) := by rw [hwa]; exact d3
              replace d4 : wa.cell? ⟨gx, 4, none⟩ = some (.int .u32 e) := by rw [hwa]; exact d4
              replace cw : wa.cell? ⟨Z, n, none⟩ = some (.int .u32 X) := by rw [hwa]; exact cw
              replace hgl : gx < wa.heap.size := by rw [hwa]; exact hgl
              replace hsB : w4.heap.size ≤ wa.heap.size := by rw [hwa]; exact hsB
              replace HBl := hide (show Below w4.heap.size w4 wa by rw [hwa]; exact (unhide HBl).trans ⟨rfl, rfl, rfl, Nat.le_refl _, fun _ _ => rfl⟩)
              clear hwa nq
              clear HVv rr
              go_wp2_with fail
              go_quiet (first | (go_at_call 49; refine Calls.quiet_of_same (unhide r1 _)))
              obtain ⟨xv, hxv⟩ : ∃ xv, (rot a 5 + f1 n b' c d + e + k1 n + X) % 4294967296 = xv := ⟨_, rfl⟩
              have hx1 : ((rot a 5 + f1 n b' c d + e + k1 n) % 4294967296 + X) % 4294967296 = xv := by rw [← hxv]; omega
              have xv0 : 0 ≤ xv := by rw [← hxv]; omega
              have xv1 : xv ≤ 4294967295 := by rw [← hxv]; omega
              rw [hx1]
              have HRD := hide (unhide hrd X)
              rw [hxv] at HRD
              obtain ⟨wb, hwb⟩ : ∃ wx, wx = wa.drewN nq := ⟨_, rfl⟩
              rw [← hwb]
              replace d0 : wb.cell? ⟨gx, 0, none⟩ = some (.int .u32 a) := by rw [hwb]; exact d0
              replace d1 : wb.cell? ⟨gx, 1, none⟩ = some (.int .u32 b') := by rw [hwb]; exact d1
              replace d2 : wb.cell? ⟨gx, 2, none⟩ = some (.int .u32 c) := by rw [hwb]; exact d2
              replace d3 : wb.cell? ⟨gx, 3, none⟩ = some (.int .u32 d) := by rw [hwb]; exact d3
              replace hgl : gx < wb.heap.size := by rw [hwb]; exact hgl
              replace hsB : w4.heap.size ≤ wb.heap.size := by rw [hwb]; exact hsB
              replace HBl := hide (show Below w4.heap.size w4 wb by rw [hwb]; exact (unhide HBl).trans ⟨rfl, rfl, rfl, Nat.le_refl _, fun _ _ => rfl⟩)
              clear hwb nq
              obtain ⟨R0, R1⟩ := rot_wd b' 30
              have NV := hide (show Us (wb.alloc (.cells #[.int .u32 xv, .int .u32 a, .int .u32 (rot b' 30), .int .u32 c, .int .u32 d] 47)).drew (some ⟨wb.heap.size, 0, none⟩) 5 5 [xv, a, rot b' 30, c, d] from
                (Us.lit wb [xv, a, rot b' 30, c, d] (by intro x hx; simp only [List.mem_cons, List.not_mem_nil, or_false] at hx; omega) (by simp)).later (below_drew _))
              have NB := hide (show Below w4.heap.size w4 (wb.alloc (.cells #[.int .u32 xv, .int .u32 a, .int .u32 (rot b' 30), .int .u32 c, .int .u32 d] 47)).drew from ((unhide HBl).trans ((below_alloc wb _).mono hsB)).trans ⟨rfl, rfl, rfl, Nat.le_refl _, fun _ _ => rfl⟩)
              have KS := hide (fun (o : Obj) => (show (wb.alloc o).drew.cell? ⟨gx, 0, none⟩ = some (.int .u32 a) ∧ (wb.alloc o).drew.cell? ⟨gx, 1, none⟩ = some (.int .u32 b') ∧ (wb.alloc o).drew.cell? ⟨gx, 2, none⟩ = some (.int .u32 c) ∧ (wb.alloc o).drew.cell? ⟨gx, 3, none⟩ = some (.int .u32 d) from ⟨(cell_under wb o gx 0 hgl).trans d0, (cell_under wb o gx 1 hgl).trans d1, (cell_under wb o gx 2 hgl).trans d2, (cell_under wb o gx 3 hgl).trans d3⟩))
              clear hx1 hxv hrd r1 cw d4
              go_wp2_with fail
              go_region_held3 (fun w' => w'.cell? ⟨gx, 0, none⟩ = some (.int .u32 a) ∧ w'.cell? ⟨gx, 1, none⟩ = some (.int .u32 b') ∧ w'.cell? ⟨gx, 2, none⟩ = some (.int .u32 c) ∧ w'.cell? ⟨gx, 3, none⟩ = some (.int .u32 d)) (first | exact unhide KS _ | go_keep) (first | (go_at_call 49; refine same_world (unhide r2 _) ?_))
              go_wp2_with fail
              go_roundw
              case rel => exact ⟨n + 1, wb.heap.size, 5, by omega, by go_num, rfl, by rw [unhide HN, unhide HRD]; exact unhide NV, by omega, unhide NB⟩
              case measure => simp [intOf]; omega
            · have hn80 : n = 80 := by omega
              obtain ⟨s, hs⟩ : ∃ s, run1 (sch1 b) (s5 W) n = s := ⟨_, rfl⟩
              have hmx := hide (mix1_take W b (unhide hWl) s (by rw [← hn80]; exact hs))
              rw [hs] at hV hq
              have hgt3 : ¬ (n : Int) < 80 := by omega
              have hl5w := hide (u32_wds (l5_u32 hq))
              have hWtw := hide (fun q => (show Wd (ix (W.take 5) q) from u32_wds (fun x hx => (unhide hWw).mem x (List.mem_of_mem_take hx)) q))
              have hT5 := hide (show (W.take 5).length = 5 by rw [List.length_take, unhide hWl]; rfl)
              have U5 := hide ((unhide U4).later hB)
              have P5 := hide ((unhide P4).later hB)
              have B5 := hide ((unhide B4).trans (hB.mono (by omega)))
              have V5 := hide hV
              have hs5 := hB.size
              clear hV hB hq hnx3 hs hn80 hlt3 hn U4 P4 B4 SC4
              go_wp2_with fail
              go_loopw [13] (fun i ws => ∃ q : Nat, q ≤ 5 ∧ i = .int .i64 q ∧ UMine w.heap.size ws (some ⟨w.heap.size, 0, none⟩) 5 5 (addw (W.take 5) (l5 s) q) ∧ Us ws (some ⟨gx, 0, none⟩) 5 cx (l5 s) ∧ Bs ws po pn pcap (pd bs) ∧ Below w.heap.size w ws ∧ w.heap.size < ws.heap.size) (fun i _ => 5 - (intOf i).toNat)
              case atStart => exact ⟨0, by omega, rfl, by rw [addw_zero]; exact unhide U5, unhide V5, unhide P5, unhide B5, by omega⟩
              case round =>
                clear U5 V5 P5 B5
                obtain ⟨q, hq5, rfl, hU, hV, hP, hB, hz6⟩ := hrel
                by_cases hlt4 : q < 5
                · have ch := umine_at hU hlt4
                  have fh := hU.free q
                  have cv2 := us_at hV hlt4
                  rw [addw_at _ _ _ _ (by rw [unhide hT5]; exact hlt4), if_neg (by omega)] at ch
                  have hst := hide (addw_step (W.take 5) (l5 s) q (by rw [unhide hT5]; exact hlt4))
                  obtain ⟨y0, y1⟩ := (unhide hl5w) q
                  obtain ⟨z0, z1⟩ := (unhide hWtw) q
                  generalize ix (W.take 5) q = Hq at *
                  generalize ix (l5 s) q = Vq at *
                  have iq : 0 ≤ (q : Int) ∧ (q : Int) < 5 := by omega
                  have HU := hide hU
                  have HVx := hide hV
                  have HPx := hide hP
                  have HBx := hide hB
                  clear hU hV hP hB
                  go_wp2_with fail
                  go_region
                  go_wp2_with fail
                  go_roundw
                  case rel =>
                    have GG : Gb w.heap.size wr (wr.setCell ⟨w.heap.size, q, none⟩ (.int .u32 ((Hq + Vq) % 4294967296))).drew := ((Gb.refl _ _).set q _).drew
                    refine ⟨q + 1, by omega, by go_num, ?_, us_gb (unhide HVx) GG (fun _ a ha => by obtain rfl := Option.some.inj ha; simp; omega), (unhide HPx).gbo GG (unhide O1), ((unhide HBx).setCell (by simp) _).drew, by simpa using hz6⟩
                    rw [← unhide hst]
                    exact ((unhide HU).stored q _ (by omega) (by omega)).later (below_drew _)
                  case measure => simp [intOf]; omega
                · have hq5' : q = 5 := by omega
                  subst hq5'
                  rw [unhide hmx, ← unhide hnx] at hU
                  have HU := hide hU
                  have HPx := hide hP
                  have HBx := hide hB
                  clear hU hV hP hB
                  go_wp2_with fail
                  go_roundw
                  case rel => exact ⟨m + 1, by omega, by have := unhide HA; congr 1; omega, unhide HU, unhide HPx, unhide HBx, hz6⟩
                  case measure => simp [intOf]; omega
    · have hmp : m = pn / 64 := by have := unhide HPN; omega
      have hpn2 : ¬ (A : Int) < (pn : Int) := by omega
      have hfin := hide (show told 5 ((wf 1 (pd bs) m).take 5) = sumk 1 bs by
        unfold sumk told
        rw [unhide HPL, hmp, show nk 1 = 5 from rfl, List.take_take, Nat.min_self])
      have bc' := hide (bytes_ref (some ⟨w.heap.size, 0, none⟩) 5 5 _ wr hU.is (by omega))
      rw [unhide hfin] at bc'
      have HBx := hide hB
      have hsB := hB.size
      clear hU hP hB
      go_wp2_with fail
      refine (unhide bc').mono ?_
      rintro e w9 ⟨ao, n, c, rfl, m9, b9⟩
      have M9 := hide (m9.mono hsB)
      have B9 := hide ((unhide HBx).trans (b9.mono hsB))
      clear m9 b9
      go_wp2_with fail
      go_ret
      exact ⟨ao, n, c, rfl, unhide M9, unhide B9⟩

end Go.Proofs.YtfnnafhifpolmaaDoor
