/-
  The document's own answer for values: Check, for values of the kinds 0, 1, 2. It writes nothing that was there. Conditions: numbers within their kinds.
-/
import Derived.Test.YtlicnhlgmnlaoaaVrChkP
namespace Go.Proofs.Ytlicnhlgmnlaoaa
open Go.RowKit
set_option linter.unusedVariables false
set_option linter.unusedSimpArgs false

set_option maxHeartbeats 4000000 in
set_option maxRecDepth 100000 in
theorem check_r1 (v : Va) (t : Int) (un : Bool) (w : World) (q0 : 0 ≤ t) (q1 : t < 256) (hv : VaK v) (hk : v.k = 0 ∨ v.k = 1 ∨ v.k = 2) : Calls Try.prog 22 #[.agg (vaC v), .agg #[.int .u8 t, .bool un]] w fun e w' => e = .returned (.int .i64 (if vOk v t un = true then 0 else 2)) ∧ Below w.heap.size w w' := by
  have cK := hide (fun wx => kind_ref t un wx q0 q1)
  have cS := hide (fun wx => vsize_ref t wx)
  have cW := hide (fun wx => when_ref v.w t wx)
  have P0 := Pv.box w v t un
  have hsz : szV t = 1 ∨ szV t = 2 ∨ szV t = 4 ∨ szV t = 8 := by
    unfold szV
    repeat' split
    all_goals simp
  have hNW := nqw v.w wh0
  obtain ⟨RES, hRES⟩ : ∃ z : Int, z = if vOk v t un = true then 0 else 2 := ⟨_, rfl⟩
  rw [← hRES]
  obtain ⟨OTH, hOTH⟩ : ∃ z, z = oth v := ⟨_, rfl⟩
  obtain ⟨B0, hB0⟩ : ∃ z, z = (decide (kdV t un < 0) || ((v.k != 0) && (v.k != kdV t un))) := ⟨_, rfl⟩
  have HR1 := hide (fun (h : B0 = true) => show RES = 2 by rw [hRES, vok_b0 (hB0 ▸ h)]; rfl)
  have HR2 := hide (fun (h : OTH = true) => show RES = 2 by rw [hRES, vok_oth (hOTH ▸ h)]; rfl)
  have HRK := hide (fun (h : B0 = false) => show kdV t un ≠ -1 ∧ (v.k = 0 ∨ v.k = kdV t un) by
    rw [hB0] at h
    simp only [Bool.or_eq_false_iff, Bool.and_eq_false_iff, decide_eq_false_iff_not, bne_eq_false_iff_eq] at h
    exact ⟨by omega, h.2⟩)
  have HR3 := hide (fun (h : OTH = false) (B : Bool) (hB : vOk v t un = B) => show RES = if B = true then 0 else 2 by rw [hRES, hB])
  have HS := hide hsz
  have HO := hide hOTH
  have HB := hide hB0
  have HO2 := hide hOTH
  unfold oth at HO
  have hV := hide hv
  have HKD := hide (kd_cases t un)
  clear hRES hsz hOTH hB0 hv
  obtain ⟨SZ, hSZ⟩ : ∃ z, z = szV t := ⟨_, rfl⟩
  obtain ⟨KD, hKD⟩ : ∃ z, z = kdV t un := ⟨_, rfl⟩
  obtain ⟨DW, hDW⟩ : ∃ z, z = decide (v.w = wh0) := ⟨_, rfl⟩
  obtain ⟨WN, hWN⟩ : ∃ z, z = if t = 11 then tmOk v.w else dtOk v.w t := ⟨_, rfl⟩
  rw [← hSZ] at cS HS
  rw [← hKD] at cK HB HRK HKD
  rw [← hDW] at hNW HO
  rw [← hWN] at cW
  have HZ := hide hSZ
  have HK := hide hKD
  have HN := hide hWN
  clear hSZ hKD hDW hWN
  obtain ⟨k, i, b, tx, ⟨ng, y, mo, d, h, mi, s, mc⟩⟩ := v
  unfold vaC at ⊢
  unfold whC wh0 at hNW
  unfold whC at cW
  simp only at *
  obtain ⟨w1, hw1⟩ : ∃ z, z = (w.alloc (.cells #[.int .i64 k, .int .i64 i, .int .u64 b, .string tx, .bool ng, .int .i64 y, .int .i64 mo, .int .i64 d, .int .i64 h, .int .i64 mi, .int .i64 s, .int .i64 mc] 44)).alloc (.cells #[.int .u8 t, .bool un] 46) := ⟨_, rfl⟩
  rw [show (w.alloc (.cells (vaC ⟨k, i, b, tx, ⟨ng, y, mo, d, h, mi, s, mc⟩⟩) 44)).alloc (.cells #[.int .u8 t, .bool un] 46) = w1 from hw1.symm] at P0
  have HW := hide hw1.symm
  have PP := hide P0
  obtain ⟨k0, k1, k2, k3, k4, k5, k6, k7, k8, k9, k10, k11, t0, t1⟩ := P0.cells
  clear hw1 P0
  go_enter Try.func22, Try.ntmps22
  go_upto_region 2 with (go_at_call 42; rw [unhide HW]; refine (unhide cK _).mono ?_; rintro e w2 ⟨rfl, b2⟩; have P2 := (unhide PP).later b2; clear b2 k0 k1 k2 k3 k4 k5 k6 k7 k8 k9 k10 k11 t0 t1; obtain ⟨k0, k1, k2, k3, k4, k5, k6, k7, k8, k9, k10, k11, t0, t1⟩ := P2.cells; have PQ := hide P2; clear P2)
  go_cut [6] (fun s wx => s = .bool B0 ∧ wx = w2)
  case first =>
    obtain ⟨A0, hA0⟩ : ∃ z, decide (KD < 0) = z := ⟨_, rfl⟩
    obtain ⟨A1, hA1⟩ : ∃ z, (k != 0) = z := ⟨_, rfl⟩
    obtain ⟨A2, hA2⟩ : ∃ z, (k != KD) = z := ⟨_, rfl⟩
    rw [hA0, hA1, hA2] at HB
    cases A0
    · cases A1
      · go_wp2_with fail
        go_meet
        exact ⟨by rw [unhide HB] <;> rfl, rfl⟩
      · cases A2
        · go_wp2_with fail
          go_meet
          exact ⟨by rw [unhide HB] <;> rfl, rfl⟩
        · go_wp2_with fail
          go_meet
          exact ⟨by rw [unhide HB] <;> rfl, rfl⟩
    · go_wp2_with fail
      go_meet
      exact ⟨by rw [unhide HB] <;> rfl, rfl⟩
  obtain ⟨rfl, hcw⟩ := hcut
  have hcw := hcw.symm
  subst hcw
  go_upto_region 4 with (go_at_call 43; (with_reducible refine same_world (unhide cS _) ?_))
  go_cut [81] (fun s wx => s = .bool OTH ∧ wx = w2)
  case first =>
    obtain ⟨DI, hDI⟩ : ∃ z, (i != 0) = z := ⟨_, rfl⟩
    obtain ⟨DB, hDB⟩ : ∃ z, (b != 0) = z := ⟨_, rfl⟩
    obtain ⟨DT, hDT⟩ : ∃ z, decide (tx = ⟨#[]⟩) = z := ⟨_, rfl⟩
    rw [hDI, hDB, hDT] at HO
    rcases hk with h0 | h1 | h2
    · subst h0
      cases DI
      · cases DB
        · cases DT
          · have hT : ¬ tx.toList = [] := fun z => of_decide_eq_false hDT (vba_nil z)
            clear hDT
            clear HR1 HR2 HRK HR3 HS HB HO2 hV HKD HZ HK HN cS cW cK
            go_wp2_with fail
            go_meet
            exact ⟨by rw [unhide HO] <;> rfl, rfl⟩
          · obtain rfl := of_decide_eq_true hDT
            clear hDT
            cases DW
            · clear HR1 HR2 HRK HR3 HS HB HO2 hV HKD HZ HK HN cS cW cK
              go_wp2_with fail
              go_meet
              exact ⟨by rw [unhide HO] <;> rfl, rfl⟩
            · clear HR1 HR2 HRK HR3 HS HB HO2 hV HKD HZ HK HN cS cW cK
              go_wp2_with fail
              go_meet
              exact ⟨by rw [unhide HO] <;> rfl, rfl⟩
        · clear HR1 HR2 HRK HR3 HS HB HO2 hV HKD HZ HK HN cS cW cK
          go_wp2_with fail
          go_meet
          exact ⟨by rw [unhide HO] <;> rfl, rfl⟩
      · clear HR1 HR2 HRK HR3 HS HB HO2 hV HKD HZ HK HN cS cW cK
        go_wp2_with fail
        go_meet
        exact ⟨by rw [unhide HO] <;> rfl, rfl⟩
    · subst h1
      cases DB
      · cases DT
        · have hT : ¬ tx.toList = [] := fun z => of_decide_eq_false hDT (vba_nil z)
          clear hDT
          clear HR1 HR2 HRK HR3 HS HB HO2 hV HKD HZ HK HN cS cW cK
          go_wp2_with fail
          go_meet
          exact ⟨by rw [unhide HO] <;> rfl, rfl⟩
        · obtain rfl := of_decide_eq_true hDT
          clear hDT
          cases DW
          · clear HR1 HR2 HRK HR3 HS HB HO2 hV HKD HZ HK HN cS cW cK
            go_wp2_with fail
            go_meet
            exact ⟨by rw [unhide HO] <;> rfl, rfl⟩
          · clear HR1 HR2 HRK HR3 HS HB HO2 hV HKD HZ HK HN cS cW cK
            go_wp2_with fail
            go_meet
            exact ⟨by rw [unhide HO] <;> rfl, rfl⟩
      · clear HR1 HR2 HRK HR3 HS HB HO2 hV HKD HZ HK HN cS cW cK
        go_wp2_with fail
        go_meet
        exact ⟨by rw [unhide HO] <;> rfl, rfl⟩
    · subst h2
      cases DI
      · cases DT
        · have hT : ¬ tx.toList = [] := fun z => of_decide_eq_false hDT (vba_nil z)
          clear hDT
          clear HR1 HR2 HRK HR3 HS HB HO2 hV HKD HZ HK HN cS cW cK
          go_wp2_with fail
          go_meet
          exact ⟨by rw [unhide HO] <;> rfl, rfl⟩
        · obtain rfl := of_decide_eq_true hDT
          clear hDT
          cases DW
          · clear HR1 HR2 HRK HR3 HS HB HO2 hV HKD HZ HK HN cS cW cK
            go_wp2_with fail
            go_meet
            exact ⟨by rw [unhide HO] <;> rfl, rfl⟩
          · clear HR1 HR2 HRK HR3 HS HB HO2 hV HKD HZ HK HN cS cW cK
            go_wp2_with fail
            go_meet
            exact ⟨by rw [unhide HO] <;> rfl, rfl⟩
      · clear HR1 HR2 HRK HR3 HS HB HO2 hV HKD HZ HK HN cS cW cK
        go_wp2_with fail
        go_meet
        exact ⟨by rw [unhide HO] <;> rfl, rfl⟩
  obtain ⟨rfl, hcw⟩ := hcut
  have hcw := hcw.symm
  subst hcw
  clear HO HB
  cases OTH
  rotate_left
  · have E := hide (unhide HR2 rfl)
    clear HR1 HR2 HRK HR3 HS HO2 hV HKD HZ HK HN cS cW cK
    go_wp2_with fail
    go_ret
    exact ⟨by rw [unhide E] <;> rfl, (unhide PQ).bl⟩
  cases B0
  rotate_left
  · have E := hide (unhide HR1 rfl)
    clear HR1 HR2 HRK HR3 HS HO2 hV HKD HZ HK HN cS cW cK
    go_wp2_with fail
    go_ret
    exact ⟨by rw [unhide E] <;> rfl, (unhide PQ).bl⟩
  obtain ⟨hk1, hk2⟩ := unhide HRK rfl
  clear HR1 HR2 HRK cS cK
  have HR4 := hide (unhide HR3 rfl)
  clear HR3
  rcases hk with h0 | h1 | h2
  · subst h0
    have E := hide (unhide HR4 true (vok0 rfl (unhide HK ▸ hk1) (unhide HO2).symm))
    rw [if_pos rfl] at E
    clear hk1 hk2 HO2 hV HKD HZ HK HN HS HR4 cW
    go_wp2_with fail
    go_ret
    exact ⟨by rw [unhide E] <;> rfl, (unhide PQ).bl⟩
  · subst h1
    have hk3 := hk2.resolve_left (by decide)
    have hv1 := vok1 (v := ⟨1, i, b, tx, ⟨ng, y, mo, d, h, mi, s, mc⟩⟩) (t := t) (un := un) rfl ((unhide HK).symm.trans hk3.symm) (unhide HO2).symm
    rw [sg_in (unhide hV).i (unhide HZ ▸ unhide HS), ← unhide HZ] at hv1
    simp only at hv1
    have HH := hide (unhide HR4 _ hv1)
    have hb0 := (unhide hV).b
    simp only at hb0
    obtain ⟨hb0, hb1⟩ := hb0
    have HSZ := unhide HS
    clear hv1 hk3 hk1 hk2 HO2 hV HKD HZ HK HN HS HR4 cW
    rcases HSZ with q | q | q | q
    · subst q
      have z1 : IntKind.u64.wrap (wrap64 8) = 8 := by kernel_rfl
      have z2 : IntKind.u64.wrap 7 = 7 := by kernel_rfl
      have z3 : wrap64 (-128) = -128 := by kernel_rfl
      have z4 : wrap64 128 = 128 := by kernel_rfl
      obtain ⟨C0, hC0⟩ : ∃ z, decide (i < -128) = z := ⟨_, rfl⟩
      obtain ⟨C1, hC1⟩ : ∃ z, decide (128 ≤ i) = z := ⟨_, rfl⟩
      have E0 := hide (show RES = if (!C0 && !C1) = true then 0 else 2 by rw [unhide HH, ← hC0, ← hC1]; rfl)
      clear HH
      cases C0
      · cases C1
        · have E := hide (show RES = 0 from unhide E0)
          clear E0
          go_wp2_with fail
          go_ret
          exact ⟨by rw [unhide E] <;> rfl, (unhide PQ).bl⟩
        · have E := hide (show RES = 2 from unhide E0)
          clear E0
          go_wp2_with fail
          go_ret
          exact ⟨by rw [unhide E] <;> rfl, (unhide PQ).bl⟩
      · have E := hide (show RES = 2 from unhide E0)
        clear E0
        go_wp2_with fail
        go_ret
        exact ⟨by rw [unhide E] <;> rfl, (unhide PQ).bl⟩
    · subst q
      have z1 : IntKind.u64.wrap (wrap64 16) = 16 := by kernel_rfl
      have z2 : IntKind.u64.wrap 15 = 15 := by kernel_rfl
      have z3 : wrap64 (-32768) = -32768 := by kernel_rfl
      have z4 : wrap64 32768 = 32768 := by kernel_rfl
      obtain ⟨C0, hC0⟩ : ∃ z, decide (i < -32768) = z := ⟨_, rfl⟩
      obtain ⟨C1, hC1⟩ : ∃ z, decide (32768 ≤ i) = z := ⟨_, rfl⟩
      have E0 := hide (show RES = if (!C0 && !C1) = true then 0 else 2 by rw [unhide HH, ← hC0, ← hC1]; rfl)
      clear HH
      cases C0
      · cases C1
        · have E := hide (show RES = 0 from unhide E0)
          clear E0
          go_wp2_with fail
          go_ret
          exact ⟨by rw [unhide E] <;> rfl, (unhide PQ).bl⟩
        · have E := hide (show RES = 2 from unhide E0)
          clear E0
          go_wp2_with fail
          go_ret
          exact ⟨by rw [unhide E] <;> rfl, (unhide PQ).bl⟩
      · have E := hide (show RES = 2 from unhide E0)
        clear E0
        go_wp2_with fail
        go_ret
        exact ⟨by rw [unhide E] <;> rfl, (unhide PQ).bl⟩
    · subst q
      have z1 : IntKind.u64.wrap (wrap64 32) = 32 := by kernel_rfl
      have z2 : IntKind.u64.wrap 31 = 31 := by kernel_rfl
      have z3 : wrap64 (-2147483648) = -2147483648 := by kernel_rfl
      have z4 : wrap64 2147483648 = 2147483648 := by kernel_rfl
      obtain ⟨C0, hC0⟩ : ∃ z, decide (i < -2147483648) = z := ⟨_, rfl⟩
      obtain ⟨C1, hC1⟩ : ∃ z, decide (2147483648 ≤ i) = z := ⟨_, rfl⟩
      have E0 := hide (show RES = if (!C0 && !C1) = true then 0 else 2 by rw [unhide HH, ← hC0, ← hC1]; rfl)
      clear HH
      cases C0
      · cases C1
        · have E := hide (show RES = 0 from unhide E0)
          clear E0
          go_wp2_with fail
          go_ret
          exact ⟨by rw [unhide E] <;> rfl, (unhide PQ).bl⟩
        · have E := hide (show RES = 2 from unhide E0)
          clear E0
          go_wp2_with fail
          go_ret
          exact ⟨by rw [unhide E] <;> rfl, (unhide PQ).bl⟩
      · have E := hide (show RES = 2 from unhide E0)
        clear E0
        go_wp2_with fail
        go_ret
        exact ⟨by rw [unhide E] <;> rfl, (unhide PQ).bl⟩
    · subst q
      have z1 : IntKind.u64.wrap (wrap64 64) = 64 := by kernel_rfl
      have E := hide (show RES = 0 from unhide HH)
      clear HH
      go_wp2_with fail
      go_ret
      exact ⟨by rw [unhide E] <;> rfl, (unhide PQ).bl⟩
  · subst h2
    have hk3 := hk2.resolve_left (by decide)
    have hv1 := vok2 (v := ⟨2, i, b, tx, ⟨ng, y, mo, d, h, mi, s, mc⟩⟩) (t := t) (un := un) (.inl rfl) ((unhide HK).symm.trans hk3.symm) (unhide HO2).symm
    rw [us_in (unhide hV).b (unhide HZ ▸ unhide HS), ← unhide HZ] at hv1
    simp only at hv1
    have HH := hide (unhide HR4 _ hv1)
    have hb0 := (unhide hV).b
    simp only at hb0
    obtain ⟨hb0, hb1⟩ := hb0
    have HSZ := unhide HS
    clear hv1 hk3 hk1 hk2 HO2 hV HKD HZ HK HN HS HR4 cW
    rcases HSZ with q | q | q | q
    · subst q
      have z1 : IntKind.u64.wrap (wrap64 8) = 8 := by kernel_rfl
      have z2 : IntKind.u64.wrap 7 = 7 := by kernel_rfl
      have z3 : wrap64 (-128) = -128 := by kernel_rfl
      have z4 : wrap64 128 = 128 := by kernel_rfl
      obtain ⟨C0, hC0⟩ : ∃ z, decide (b / 256 ≠ 0) = z := ⟨_, rfl⟩
      have E0 := hide (show RES = if (!C0) = true then 0 else 2 by rw [unhide HH, ← hC0]; rfl)
      clear HH
      cases C0
      · have hC1 : b / 256 = 0 := by simpa using hC0
        have E := hide (show RES = 0 from unhide E0)
        clear E0 hC0
        go_wp2_with fail
        go_ret
        exact ⟨by rw [unhide E] <;> rfl, (unhide PQ).bl⟩
      · have hC1 : ¬ b / 256 = 0 := by simpa using hC0
        have E := hide (show RES = 2 from unhide E0)
        clear E0 hC0
        go_wp2_with fail
        go_ret
        exact ⟨by rw [unhide E] <;> rfl, (unhide PQ).bl⟩
    · subst q
      have z1 : IntKind.u64.wrap (wrap64 16) = 16 := by kernel_rfl
      have z2 : IntKind.u64.wrap 15 = 15 := by kernel_rfl
      have z3 : wrap64 (-32768) = -32768 := by kernel_rfl
      have z4 : wrap64 32768 = 32768 := by kernel_rfl
      obtain ⟨C0, hC0⟩ : ∃ z, decide (b / 65536 ≠ 0) = z := ⟨_, rfl⟩
      have E0 := hide (show RES = if (!C0) = true then 0 else 2 by rw [unhide HH, ← hC0]; rfl)
      clear HH
      cases C0
      · have hC1 : b / 65536 = 0 := by simpa using hC0
        have E := hide (show RES = 0 from unhide E0)
        clear E0 hC0
        go_wp2_with fail
        go_ret
        exact ⟨by rw [unhide E] <;> rfl, (unhide PQ).bl⟩
      · have hC1 : ¬ b / 65536 = 0 := by simpa using hC0
        have E := hide (show RES = 2 from unhide E0)
        clear E0 hC0
        go_wp2_with fail
        go_ret
        exact ⟨by rw [unhide E] <;> rfl, (unhide PQ).bl⟩
    · subst q
      have z1 : IntKind.u64.wrap (wrap64 32) = 32 := by kernel_rfl
      have z2 : IntKind.u64.wrap 31 = 31 := by kernel_rfl
      have z3 : wrap64 (-2147483648) = -2147483648 := by kernel_rfl
      have z4 : wrap64 2147483648 = 2147483648 := by kernel_rfl
      obtain ⟨C0, hC0⟩ : ∃ z, decide (b / 4294967296 ≠ 0) = z := ⟨_, rfl⟩
      have E0 := hide (show RES = if (!C0) = true then 0 else 2 by rw [unhide HH, ← hC0]; rfl)
      clear HH
      cases C0
      · have hC1 : b / 4294967296 = 0 := by simpa using hC0
        have E := hide (show RES = 0 from unhide E0)
        clear E0 hC0
        go_wp2_with fail
        go_ret
        exact ⟨by rw [unhide E] <;> rfl, (unhide PQ).bl⟩
      · have hC1 : ¬ b / 4294967296 = 0 := by simpa using hC0
        have E := hide (show RES = 2 from unhide E0)
        clear E0 hC0
        go_wp2_with fail
        go_ret
        exact ⟨by rw [unhide E] <;> rfl, (unhide PQ).bl⟩
    · subst q
      have z1 : IntKind.u64.wrap (wrap64 64) = 64 := by kernel_rfl
      have E := hide (show RES = 0 from unhide HH)
      clear HH
      go_wp2_with fail
      go_ret
      exact ⟨by rw [unhide E] <;> rfl, (unhide PQ).bl⟩


end Go.Proofs.Ytlicnhlgmnlaoaa
