/-
  What Sum256 of the document's answer returns. Conditions: fewer than 10 to the 5 bytes.
-/
import Derived.Test.YtfnnafhifpolmaaDoorShaRefP
import Derived.Test.YtfnnafhifpolmaaDoorShaRef2a
namespace Go.Proofs.YtfnnafhifpolmaaDoor
open Go.RowKit
set_option linter.unusedVariables false
set_option linter.unusedSimpArgs false

set_option maxHeartbeats 8000000 in
set_option maxRecDepth 20000 in
theorem sum256_ref (bo : Option Addr) (bn bc : Nat) (bs : List Int) (w : World) (h : Bs w bo bn bc bs) (hbd : bn ≤ 100000) :
    Calls Tryd.prog 40 #[.slice bo bn bc] w fun e w' => OutB w (sumk 2 bs) e w' := by
  have hpb := hide (pd_byt h.byt)
  have hbl := hide h.len
  have hU0 := hide (umine_lit w [1779033703, 3144134277, 1013904242, 2773480762, 1359893119, 2600822924, 528734635, 1541459225] (by intro x hx; simp only [List.mem_cons, List.not_mem_nil, or_false] at hx; omega) (by simp))
  have kc := hide (constants_ref (w.alloc (.cells #[.int .u32 1779033703, .int .u32 3144134277, .int .u32 1013904242, .int .u32 2773480762, .int .u32 1359893119, .int .u32 2600822924, .int .u32 528734635, .int .u32 1541459225] 47)))
  have hb0 := hide (h.later (below_alloc w (.cells #[.int .u32 1779033703, .int .u32 3144134277, .int .u32 1013904242, .int .u32 2773480762, .int .u32 1359893119, .int .u32 2600822924, .int .u32 528734635, .int .u32 1541459225] 47)))
  clear h
  go_enter Tryd.func40, Tryd.ntmps40
  go_wp2_with fail
  refine (unhide kc).mono ?_
  rintro e w1 ⟨rfl, k1', b1⟩
  have hk0 : (w.alloc (.cells #[.int .u32 1779033703, .int .u32 3144134277, .int .u32 1013904242, .int .u32 2773480762, .int .u32 1359893119, .int .u32 2600822924, .int .u32 528734635, .int .u32 1541459225] 47)).heap.size = w.heap.size + 1 := by simp
  rw [hk0] at k1' ⊢
  have hs1 := b1.size
  rw [hk0] at hs1
  have U0 := hide ((unhide hU0).later b1)
  have pc := hide (padded_ref bo bn bc bs w1 ((unhide hb0).later b1) (by omega))
  have B0 := hide ((below_alloc w (.cells #[.int .u32 1779033703, .int .u32 3144134277, .int .u32 1013904242, .int .u32 2773480762, .int .u32 1359893119, .int .u32 2600822924, .int .u32 528734635, .int .u32 1541459225] 47)).trans (b1.mono (by simp)))
  have KK := hide k1'
  clear b1 kc hb0 hU0 hk0 k1'
  go_wp2_with fail
  refine (unhide pc).mono ?_
  rintro e w2 ⟨po, pn, pcap, rfl, m1, b1⟩
  have hsz : w.heap.size + 1 < w2.heap.size := by have := b1.size; have := us_lt (unhide KK) (by omega); omega
  have U1 := hide ((unhide U0).later b1)
  have K1 := hide ((unhide KK).later b1)
  have P1 := hide m1.bs
  have O1 := hide (show Off po pn w.heap.size from fun hn a ha => by
    have hob := m1.own.2
    rcases hob with ⟨hv, h0⟩ | ⟨g, cap, cur, hv, hg, hh, _⟩
    · omega
    · simp only [Value.slice.injEq] at hv
      rw [hv.1] at ha
      obtain rfl := Option.some.inj ha
      simp at hg ⊢
      omega)
  have B1 := hide ((unhide B0).trans (b1.mono (unhide B0).size))
  have hpl := m1.len
  have hpn : pn = 64 * (pn / 64) := by
    have h1 := pd_len bs
    have h2 := pdz_end bs.length (pdz bs.length) (Nat.le_refl _)
    have := h2.2 rfl
    omega
  have hpb2 : pn ≤ 200000 := by
    have h1 := pd_len bs
    have h2 := pdz_lt bs.length
    have := unhide hbl
    omega
  have HPL := hide hpl
  have HPN := hide hpn
  clear m1 b1 pc U0 KK B0 hpl hpn
  go_wp2_with fail
  go_loopw [6] (fun i ws => ∃ m : Nat, 64 * m ≤ pn ∧ i = .int .i64 ((64 * m : Nat) : Int) ∧ UMine w.heap.size ws (some ⟨w.heap.size, 0, none⟩) 8 8 (wf 2 (pd bs) m) ∧ Us ws (some ⟨w.heap.size + 1, 0, none⟩) 64 64 kk ∧ Bs ws po pn pcap (pd bs) ∧ Below w.heap.size w ws ∧ w.heap.size + 1 < ws.heap.size) (fun i _ => pn - (intOf i).toNat)
  case atStart => exact ⟨0, by omega, rfl, unhide U1, unhide K1, unhide P1, unhide B1, by omega⟩
  case round =>
    clear U1 K1 P1 B1
    obtain ⟨m, hm, rfl, hU, hK, hP, hB, hws⟩ := hrel
    obtain ⟨A, hA⟩ : ∃ A, 64 * m = A := ⟨_, rfl⟩
    rw [hA]
    by_cases hlt : A < pn
    · have hA64 : A + 64 ≤ pn := by have := unhide HPN; omega
      have hbk := hide (wds_len (blk (pd bs) m))
      have hbw := hide (wds_wds (blk_byt (unhide hpb) m))
      have hwb := hide (fun t ht => word_blk (pd bs) m t ht)
      rw [hA] at hwb
      have hnx := hide (show wf 2 (pd bs) (m + 1) = mix2 (wf 2 (pd bs) m) (wds (blk (pd bs) m)) from rfl)
      have hWl := hide (wf_len 2 (pd bs) m)
      have hWw := hide (wf_wds 2 (pd bs) m)
      have HU := hide hU
      have HK := hide hK
      have HP := hide hP
      have HB := hide hB
      have HA := hide hA
      generalize wf 2 (pd bs) m = W at *
      generalize wds (blk (pd bs) m) = b at *
      obtain ⟨Z, hZ⟩ : ∃ Z, wr.heap.size = Z := ⟨_, rfl⟩
      have KU := hide (fun (ws : World) (hb : Below Z wr ws) => (show UMine w.heap.size ws (some ⟨w.heap.size, 0, none⟩) 8 8 W from (unhide HU).later (by rw [hZ]; exact hb)))
      have KK := hide (fun (ws : World) (hb : Below Z wr ws) => (show Us ws (some ⟨w.heap.size + 1, 0, none⟩) 64 64 kk from (unhide HK).later (by rw [hZ]; exact hb)))
      have KP := hide (fun (ws : World) (hb : Below Z wr ws) => (show Bs ws po pn pcap (pd bs) from (unhide HP).later (by rw [hZ]; exact hb)))
      have KB := hide (fun (ws : World) (hb : Below Z wr ws) => (show Below w.heap.size w ws from (unhide HB).trans (hb.mono (by omega))))
      have hwZ : w.heap.size + 1 < Z := by omega
      clear hU hK hP hB
      go_wp2_with (first
        | (at_make; refine wpList_umkFull rfl _ _ rfl _ _ _ _ 64 rfl rfl rfl rfl (by omega) ?_; intro w2 m2 b2 z2; rw [hZ] at m2 b2 z2; have M2 := hide m2; have B2 := hide b2; have z2' := z2; clear m2 b2 z2))
      have hws0 := hide (show Bs wr po pn pcap (pd bs) from unhide HP)
      refine sched_ref _ (by kernel_rfl) _ _ _ _ _ _ _ _ _ _ _ _ _ _ _ _ _ _ _ _ _ _ _ _ _ _ _ _ _ _ _ _ _ _ _ _ _ _ _ _ _ _ _ _ _ _ _ _ _ _ _ _ _ _ _ _ _ _ _ _ _ _ _ _ _ _ _ _ _ _ _ _ _ _ _ _ _ _ _ _ _ _ _ _ _ _ _ _ _ _ _ _ _ _ _ _ _ _ _ _ _ _ _ _ _ _ _ _ _ _ _ _ _ _ _ _ _ _ _ _ _ _ _ _ _ _ _ _ _ _ _ _ _ _ _ _ _ _ _ _ _ _ _ _ _ _ _ _ _ _ _ _ _ _ _ _ _ _ _ _ _ _ _ _ _ _ _ _ _ _ _ _ _ _ _ _ _ _ _ _ _ _ _ _ _ _ _ _ _ _ _ _ _ _ _ _ _ _ _ _ _ _ _ _ _ _ _ _ _ _ _ _ _ _ _ po pn pcap A Z (pd bs) b wr w2 hZ (unhide hws0) hA64 hpb2 (unhide hbk) (unhide hbw) (unhide hwb) (by rw [rowt_zero]; exact unhide M2) (unhide B2) z2' ?_
      clear M2 B2 HU HK HP HB hws0
      intro u8 u9 u10 u27 u28 u29 u30 u31 u32 u33 u34 u35 u36 u37 u38 u39 u40 u41 u42 u43 u44 u45 u46 u47 u48 u49 u50 u51 u52 u53 u54 u55 u56 u57 u58 u59 u60 u61 u62 u63 u64 u65 u66 u67 u68 u69 u70 u71 u72 u73 u74 u75 u76 u77 u78 u79 u80 u81 u82 wS m3 hB hz
      have M3 := hide m3
      clear m3
      have U3 := hide (unhide KU wS hB)
      have Q3 := hide (unhide KK wS hB)
      have P3 := hide (unhide KP wS hB)
      have B3 := hide (unhide KB wS hB)
      clear hB KU KK KP KB
      obtain ⟨Y, hY⟩ : ∃ Y, wS.heap.size = Y := ⟨_, rfl⟩
      have hZY : Z < Y := by omega
      have UE := hide (UMine.empty wS)
      rw [hY] at UE
      have HE := hide ((unhide U3).is.later (below_alloc wS (.cells #[] 47)))
      have zE : Y ≤ (wS.alloc (.cells #[] 47)).heap.size := by simp; omega
      go_wp2_with (first
        | (at_builtin; refine wpList_uapp rfl (.tmp 83) (.tmp 84) rfl Y _ 0 0 _ rfl (unhide UE) _ 8 8 _ rfl (unhide HE) (by omega) zE ?_; intro av cv w4 m4 b4; simp only [Nat.zero_add, List.nil_append] at m4 ⊢; have M4 := hide m4; have b4' := (below_alloc wS (.cells #[] 47)).trans (by rw [hY]; exact b4); have SC4 := hide ((unhide M3).later b4'); have U4 := hide ((unhide U3).later b4'); have Q4 := hide ((unhide Q3).later b4'); have P4 := hide ((unhide P3).later b4'); have B4 := hide ((unhide B3).trans (b4'.mono (by omega))); have s4 := b4'.size; clear m4 b4 b4'))
      obtain ⟨gv, rfl, hgv⟩ := umine_some (unhide M4) (by omega)
      have V4 := hide (unhide M4).is
      have HQ := hide (s8_wd (unhide hWw))
      have hl5 := hide (show W = l8 (s8 W) by obtain ⟨a0, a1, a2, a3, a4, a5, a6, a7, rfl⟩ := list8 (unhide hWl); rfl)
      have hsw := hide (sch2_wds b (unhide hbw))
      clear UE HE zE M3 U3 Q3 P3 B3 M4
      go_wp2_with fail
      go_loopw [12, 11] (fun i v ws => ∃ (n gx cx : Nat), n ≤ 64 ∧ i = .int .i64 n ∧ v = .slice (some ⟨gx, 0, none⟩) 8 cx ∧ Us ws (some ⟨gx, 0, none⟩) 8 cx (l8 (run2 (sch2 b) (s8 W) n)) ∧ w.heap.size < gx ∧ Below w4.heap.size w4 ws) (fun i _ _ => 64 - (intOf i).toNat)
      case atStart => exact ⟨0, gv, cv, by omega, rfl, rfl, by rw [show run2 (sch2 b) (s8 W) 0 = s8 W from rfl, ← unhide hl5]; exact unhide V4, by omega, Below.refl _ _⟩
      case round =>
        clear V4
        obtain ⟨n, gx, cx, hn, rfl, rfl, hV, hgx, hB⟩ := hrel
        have hq := run2_wd (sch2 b) (unhide HQ) n
        have hnx3 : run2 (sch2 b) (s8 W) (n + 1) = rd2 n (ix (sch2 b) n) (run2 (sch2 b) (s8 W) n) := rfl
        have hcx := hV.le
        have hcm := hV.max
        by_cases hlt3 : n < 64
        · have cw := umine_at ((unhide SC4).later hB) hlt3
          have ck := us_at ((unhide Q4).later hB) hlt3
          have hkw := kk_wd n
          have d0 := us_at hV (i := 0) (by omega)
          have d1 := us_at hV (i := 1) (by omega)
          have d2 := us_at hV (i := 2) (by omega)
          have d3 := us_at hV (i := 3) (by omega)
          have d4 := us_at hV (i := 4) (by omega)
          have d5 := us_at hV (i := 5) (by omega)
          have d6 := us_at hV (i := 6) (by omega)
          have d7 := us_at hV (i := 7) (by omega)
          have hgl := us_lt hV (by omega)
          have hxw := (unhide hsw) n
          have HN := hide hnx3
          generalize run2 (sch2 b) (s8 W) n = s at *
          obtain ⟨a, b', c, d, e, f, g, h⟩ := s
          obtain ⟨⟨a0, a1⟩, ⟨b0, b1⟩, ⟨c0, c1⟩, ⟨dd0, dd1⟩, ⟨e0, e1⟩, ⟨f0, f1⟩, ⟨g0, g1⟩, ⟨h0, h1⟩⟩ := hq
          obtain ⟨x0, x1⟩ := hxw
          obtain ⟨k0, k1⟩ := hkw
          replace d0 : wr.cell? ⟨gx, 0, none⟩ = some (.int .u32 a) := d0
          replace d1 : wr.cell? ⟨gx, 1, none⟩ = some (.int .u32 b') := d1
          replace d2 : wr.cell? ⟨gx, 2, none⟩ = some (.int .u32 c) := d2
          replace d3 : wr.cell? ⟨gx, 3, none⟩ = some (.int .u32 d) := d3
          replace d4 : wr.cell? ⟨gx, 4, none⟩ = some (.int .u32 e) := d4
          replace d5 : wr.cell? ⟨gx, 5, none⟩ = some (.int .u32 f) := d5
          replace d6 : wr.cell? ⟨gx, 6, none⟩ = some (.int .u32 g) := d6
          replace d7 : wr.cell? ⟨gx, 7, none⟩ = some (.int .u32 h) := d7
          simp only at a0 a1 b0 b1 c0 c1 dd0 dd1 e0 e1 f0 f1 g0 g1 h0 h1
          have r1 := hide (fun wx => rol_ref e 26 26 rfl wx ⟨e0, e1⟩ (by omega) (by omega))
          have r2 := hide (fun wx => rol_ref e 21 21 rfl wx ⟨e0, e1⟩ (by omega) (by omega))
          have r3 := hide (fun wx => rol_ref e 7 7 rfl wx ⟨e0, e1⟩ (by omega) (by omega))
          have r4 := hide (fun wx => rol_ref a 30 30 rfl wx ⟨a0, a1⟩ (by omega) (by omega))
          have r5 := hide (fun wx => rol_ref a 19 19 rfl wx ⟨a0, a1⟩ (by omega) (by omega))
          have r6 := hide (fun wx => rol_ref a 10 10 rfl wx ⟨a0, a1⟩ (by omega) (by omega))
          have hrd := hide (show ∀ X : Int, rd2 n X ⟨a, b', c, d, e, f, g, h⟩ = ⟨(xx n X ⟨a, b', c, d, e, f, g, h⟩ + yy ⟨a, b', c, d, e, f, g, h⟩) % 4294967296, a, b', c, (d + xx n X ⟨a, b', c, d, e, f, g, h⟩) % 4294967296, e, f, g⟩ from fun _ => rfl)
          have hxx := hide (show ∀ X : Int, xx n X ⟨a, b', c, d, e, f, g, h⟩ = (((((h + bits .xor .u32 (bits .xor .u32 (rot e 26) (rot e 21)) (rot e 7)) % 4294967296 + bits .xor .u32 (bits .and .u32 e f) (bits .and .u32 (bits .xor .u32 4294967295 e) g)) % 4294967296) + ix kk n) % 4294967296 + X) % 4294967296 from fun _ => rfl)
          have hyy := hide (show yy ⟨a, b', c, d, e, f, g, h⟩ = (bits .xor .u32 (bits .xor .u32 (rot a 30) (rot a 19)) (rot a 10) + bits .xor .u32 (bits .xor .u32 (bits .and .u32 a b') (bits .and .u32 a c)) (bits .and .u32 b' c)) % 4294967296 from rfl)
          generalize ix (sch2 b) n = X at *
          generalize ix kk n = Kn at *
          have it : 0 ≤ (n : Int) ∧ (n : Int) < 64 := by omega
          have hs32 : IntKind.u32.signed = false := rfl
          have hm32 : IntKind.u32.max = 4294967295 := rfl
          have HBl := hide hB
          have hsB := hB.size
          clear hV hB hnx3
          go_wp2_with fail
          go_quiet (first | (go_at_call 49; first | (with_reducible show Calls Tryd.prog 49 #[.int .u32 e, .int .u64 26] _ _; refine Calls.quiet_of_same (unhide r1 _)) | (with_reducible show Calls Tryd.prog 49 #[.int .u32 e, .int .u64 21] _ _; refine Calls.quiet_of_same (unhide r2 _)) | (with_reducible show Calls Tryd.prog 49 #[.int .u32 e, .int .u64 7] _ _; refine Calls.quiet_of_same (unhide r3 _))))
          obtain ⟨xv, hxv⟩ : ∃ xv, xx n X ⟨a, b', c, d, e, f, g, h⟩ = xv := ⟨_, rfl⟩
          have hx1 : ((h + bits .xor .u32 (bits .xor .u32 (rot e 26) (rot e 21)) (rot e 7) + bits .xor .u32 (bits .and .u32 e f) (bits .and .u32 (bits .xor .u32 4294967295 e) g) + Kn) % 4294967296 + X) % 4294967296 = xv := by rw [← hxv, unhide hxx]; omega
          have xv0 : 0 ≤ xv := by rw [← hx1]; omega
          have xv1 : xv ≤ 4294967295 := by rw [← hx1]; omega
          rw [hx1]
          have HRD := hide (unhide hrd X)
          rw [hxv] at HRD
          obtain ⟨wa, hwa⟩ : ∃ wx, wx = wr.drewN nq := ⟨_, rfl⟩
          rw [← hwa]
          replace d0 : wa.cell? ⟨gx, 0, none⟩ = some (.int .u32 a) := by rw [hwa]; exact d0
          replace d1 : wa.cell? ⟨gx, 1, none⟩ = some (.int .u32 b') := by rw [hwa]; exact d1
          replace d2 : wa.cell? ⟨gx, 2, none⟩ = some (.int .u32 c) := by rw [hwa]; exact d2
          replace d3 : wa.cell? ⟨gx, 3, none⟩ = some (.int .u32 d) := by rw [hwa]; exact d3
          replace d4 : wa.cell? ⟨gx, 4, none⟩ = some (.int .u32 e) := by rw [hwa]; exact d4
          replace d5 : wa.cell? ⟨gx, 5, none⟩ = some (.int .u32 f) := by rw [hwa]; exact d5
          replace d6 : wa.cell? ⟨gx, 6, none⟩ = some (.int .u32 g) := by rw [hwa]; exact d6
          replace d7 : wa.cell? ⟨gx, 7, none⟩ = some (.int .u32 h) := by rw [hwa]; exact d7
          replace hgl : gx < wa.heap.size := by rw [hwa]; exact hgl
          replace hsB : w4.heap.size ≤ wa.heap.size := by rw [hwa]; exact hsB
          replace HBl := hide (show Below w4.heap.size w4 wa by rw [hwa]; exact (unhide HBl).trans ⟨rfl, rfl, rfl, Nat.le_refl _, fun _ _ => rfl⟩)
          clear hwa nq
          clear hx1 hxv hxx hrd r1 r2 r3 cw ck
          go_wp2_with fail
          go_quiet (first | (go_at_call 49; first | (with_reducible show Calls Tryd.prog 49 #[.int .u32 a, .int .u64 30] _ _; refine Calls.quiet_of_same (unhide r4 _)) | (with_reducible show Calls Tryd.prog 49 #[.int .u32 a, .int .u64 19] _ _; refine Calls.quiet_of_same (unhide r5 _)) | (with_reducible show Calls Tryd.prog 49 #[.int .u32 a, .int .u64 10] _ _; refine Calls.quiet_of_same (unhide r6 _))))
          obtain ⟨yv, hyv⟩ : ∃ yv, yy ⟨a, b', c, d, e, f, g, h⟩ = yv := ⟨_, rfl⟩
          have hy1 : (bits .xor .u32 (bits .xor .u32 (rot a 30) (rot a 19)) (rot a 10) + bits .xor .u32 (bits .xor .u32 (bits .and .u32 a b') (bits .and .u32 a c)) (bits .and .u32 b' c)) % 4294967296 = yv := by rw [← hyv, unhide hyy]
          have yv0 : 0 ≤ yv := by rw [← hy1]; omega
          have yv1 : yv ≤ 4294967295 := by rw [← hy1]; omega
          rw [hy1]
          rw [hyv] at HRD
          obtain ⟨wb, hwb⟩ : ∃ wx, wx = wa.drewN nq := ⟨_, rfl⟩
          rw [← hwb]
          replace d0 : wb.cell? ⟨gx, 0, none⟩ = some (.int .u32 a) := by rw [hwb]; exact d0
          replace d1 : wb.cell? ⟨gx, 1, none⟩ = some (.int .u32 b') := by rw [hwb]; exact d1
          replace d2 : wb.cell? ⟨gx, 2, none⟩ = some (.int .u32 c) := by rw [hwb]; exact d2
          replace d3 : wb.cell? ⟨gx, 3, none⟩ = some (.int .u32 d) := by rw [hwb]; exact d3
          replace d4 : wb.cell? ⟨gx, 4, none⟩ = some (.int .u32 e) := by rw [hwb]; exact d4
          replace d5 : wb.cell? ⟨gx, 5, none⟩ = some (.int .u32 f) := by rw [hwb]; exact d5
          replace d6 : wb.cell? ⟨gx, 6, none⟩ = some (.int .u32 g) := by rw [hwb]; exact d6
          replace d7 : wb.cell? ⟨gx, 7, none⟩ = some (.int .u32 h) := by rw [hwb]; exact d7
          replace hgl : gx < wb.heap.size := by rw [hwb]; exact hgl
          replace hsB : w4.heap.size ≤ wb.heap.size := by rw [hwb]; exact hsB
          replace HBl := hide (show Below w4.heap.size w4 wb by rw [hwb]; exact (unhide HBl).trans ⟨rfl, rfl, rfl, Nat.le_refl _, fun _ _ => rfl⟩)
          clear hwb nq
          have hNb : U32 [(xv + yv) % 4294967296, a, b', c, (d + xv) % 4294967296, e, f, g] := by
            intro x hx
            simp only [List.mem_cons, List.not_mem_nil, or_false] at hx
            omega
          obtain ⟨e1', he1⟩ : ∃ q, (xv + yv) % 4294967296 = q := ⟨_, rfl⟩
          obtain ⟨e2', he2⟩ : ∃ q, (d + xv) % 4294967296 = q := ⟨_, rfl⟩
          rw [he1, he2] at HRD hNb
          have NV := hide (show Us (wb.alloc (.cells #[.int .u32 e1', .int .u32 a, .int .u32 b', .int .u32 c, .int .u32 e2', .int .u32 e, .int .u32 f, .int .u32 g] 47)).drew (some ⟨wb.heap.size, 0, none⟩) 8 8 [e1', a, b', c, e2', e, f, g] from
            (Us.lit wb [e1', a, b', c, e2', e, f, g] hNb (by simp)).later (below_drew _))
          have NB := hide (show Below w4.heap.size w4 (wb.alloc (.cells #[.int .u32 e1', .int .u32 a, .int .u32 b', .int .u32 c, .int .u32 e2', .int .u32 e, .int .u32 f, .int .u32 g] 47)).drew from ((unhide HBl).trans ((below_alloc wb _).mono hsB)).trans ⟨rfl, rfl, rfl, Nat.le_refl _, fun _ _ => rfl⟩)
          have KS := hide (fun (o : Obj) => (show (wb.alloc o).drew.cell? ⟨gx, 0, none⟩ = some (.int .u32 a) ∧ (wb.alloc o).drew.cell? ⟨gx, 1, none⟩ = some (.int .u32 b') ∧ (wb.alloc o).drew.cell? ⟨gx, 2, none⟩ = some (.int .u32 c) ∧ (wb.alloc o).drew.cell? ⟨gx, 3, none⟩ = some (.int .u32 d) ∧ (wb.alloc o).drew.cell? ⟨gx, 4, none⟩ = some (.int .u32 e) ∧ (wb.alloc o).drew.cell? ⟨gx, 5, none⟩ = some (.int .u32 f) ∧ (wb.alloc o).drew.cell? ⟨gx, 6, none⟩ = some (.int .u32 g) from ⟨(cell_under wb o gx 0 hgl).trans d0, (cell_under wb o gx 1 hgl).trans d1, (cell_under wb o gx 2 hgl).trans d2, (cell_under wb o gx 3 hgl).trans d3, (cell_under wb o gx 4 hgl).trans d4, (cell_under wb o gx 5 hgl).trans d5, (cell_under wb o gx 6 hgl).trans d6⟩))
          have ww1 : IntKind.u32.wrap (xv + yv) = e1' := by rw [IntKind.wrap_u32]; exact he1
          have ww2 : IntKind.u32.wrap (d + xv) = e2' := by rw [IntKind.wrap_u32]; exact he2
          clear hy1 hyv hyy r4 r5 r6 d7 hNb
          go_wp2_with fail
          go_region_held3 (fun w' => w'.cell? ⟨gx, 0, none⟩ = some (.int .u32 a) ∧ w'.cell? ⟨gx, 1, none⟩ = some (.int .u32 b') ∧ w'.cell? ⟨gx, 2, none⟩ = some (.int .u32 c) ∧ w'.cell? ⟨gx, 3, none⟩ = some (.int .u32 d) ∧ w'.cell? ⟨gx, 4, none⟩ = some (.int .u32 e) ∧ w'.cell? ⟨gx, 5, none⟩ = some (.int .u32 f) ∧ w'.cell? ⟨gx, 6, none⟩ = some (.int .u32 g)) (first | exact unhide KS _ | go_keep) (fail)
          go_wp2_with fail
          go_roundw
          case rel => exact ⟨n + 1, wb.heap.size, 8, by omega, by go_num, rfl, by rw [unhide HN, unhide HRD]; exact unhide NV, by omega, unhide NB⟩
          case measure => simp [intOf]; omega
        · have hn80 : n = 64 := by omega
          obtain ⟨s, hs⟩ : ∃ s, run2 (sch2 b) (s8 W) n = s := ⟨_, rfl⟩
          have hmx := hide (mix2_addw W b (unhide hWl) s (by rw [← hn80]; exact hs))
          rw [hs] at hV hq
          have hgt3 : ¬ (n : Int) < 64 := by omega
          have hl5w := hide (l8_wds hq)
          have U5 := hide ((unhide U4).later hB)
          have Q5' := hide ((unhide Q4).later hB)
          have P5 := hide ((unhide P4).later hB)
          have B5 := hide ((unhide B4).trans (hB.mono (by omega)))
          have V5 := hide hV
          have hs5 := hB.size
          clear hV hB hq hnx3 hs hn80 hlt3 hn U4 Q4 P4 B4 SC4
          go_wp2_with fail
          go_loopw [15] (fun i ws => ∃ q : Nat, q ≤ 8 ∧ i = .int .i64 q ∧ UMine w.heap.size ws (some ⟨w.heap.size, 0, none⟩) 8 8 (addw W (l8 s) q) ∧ Us ws (some ⟨w.heap.size + 1, 0, none⟩) 64 64 kk ∧ Us ws (some ⟨gx, 0, none⟩) 8 cx (l8 s) ∧ Bs ws po pn pcap (pd bs) ∧ Below w.heap.size w ws ∧ w.heap.size + 1 < ws.heap.size) (fun i _ => 8 - (intOf i).toNat)
          case atStart => exact ⟨0, by omega, rfl, by rw [addw_zero]; exact unhide U5, unhide Q5', unhide V5, unhide P5, unhide B5, by omega⟩
          case round =>
            clear U5 Q5' V5 P5 B5
            obtain ⟨q, hq5, rfl, hU, hK, hV, hP, hB, hz6⟩ := hrel
            by_cases hlt4 : q < 8
            · have ch := umine_at hU hlt4
              have fh := hU.free q
              have cv2 := us_at hV hlt4
              rw [addw_at _ _ _ _ (by rw [unhide hWl]; exact hlt4), if_neg (by omega)] at ch
              have hst := hide (addw_step W (l8 s) q (by rw [unhide hWl]; exact hlt4))
              obtain ⟨y0, y1⟩ := (unhide hl5w) q
              obtain ⟨z0, z1⟩ := (unhide hWw) q
              generalize ix W q = Hq at *
              generalize ix (l8 s) q = Vq at *
              have iq : 0 ≤ (q : Int) ∧ (q : Int) < 8 := by omega
              have HU := hide hU
              have HKx := hide hK
              have HVx := hide hV
              have HPx := hide hP
              have HBx := hide hB
              clear hU hK hV hP hB
              go_wp2_with fail
              go_region
              go_wp2_with fail
              go_roundw
              case rel =>
                have GG : Gb w.heap.size wr (wr.setCell ⟨w.heap.size, q, none⟩ (.int .u32 ((Hq + Vq) % 4294967296))).drew := ((Gb.refl _ _).set q _).drew
                refine ⟨q + 1, by omega, by go_num, ?_, us_gb (unhide HKx) GG (fun _ a ha => by obtain rfl := Option.some.inj ha; simp), us_gb (unhide HVx) GG (fun _ a ha => by obtain rfl := Option.some.inj ha; simp; omega), (unhide HPx).gbo GG (unhide O1), ((unhide HBx).setCell (by simp) _).drew, by simpa using hz6⟩
                rw [← unhide hst]
                exact ((unhide HU).stored q _ (by omega) (by omega)).later (below_drew _)
              case measure => simp [intOf]; omega
            · have hq5' : q = 8 := by omega
              subst hq5'
              rw [unhide hmx, ← unhide hnx] at hU
              have HU := hide hU
              have HKx := hide hK
              have HPx := hide hP
              have HBx := hide hB
              clear hU hK hV hP hB
              go_wp2_with fail
              go_roundw
              case rel => exact ⟨m + 1, by omega, by have := unhide HA; congr 1; omega, unhide HU, unhide HKx, unhide HPx, unhide HBx, hz6⟩
              case measure => simp [intOf]; omega
    · have hmp : m = pn / 64 := by have := unhide HPN; omega
      have hpn2 : ¬ (A : Int) < (pn : Int) := by omega
      have hfin := hide (show told 8 (wf 2 (pd bs) m) = sumk 2 bs by
        unfold sumk
        rw [unhide HPL, hmp, show nk 2 = 8 from rfl])
      have bc' := hide (bytes_ref (some ⟨w.heap.size, 0, none⟩) 8 8 _ wr hU.is (by omega))
      rw [unhide hfin] at bc'
      have HBx := hide hB
      have hsB := hB.size
      clear hU hK hP hB
      go_wp2_with fail
      refine (unhide bc').mono ?_
      rintro e w9 ⟨ao, n, c, rfl, m9, b9⟩
      have M9 := hide (m9.mono hsB)
      have B9 := hide ((unhide HBx).trans (b9.mono hsB))
      clear m9 b9
      go_wp2_with fail
      go_ret
      exact ⟨ao, n, c, rfl, unhide M9, unhide B9⟩

end Go.Proofs.YtfnnafhifpolmaaDoor
