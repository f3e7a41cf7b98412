/-
  The document's own answer for values: Check. It writes nothing that was there. Conditions: numbers within their kinds.
  The document's own answer for values: Check, for values of the kinds 0, 1, 2. It writes nothing that was there. Conditions: numbers within their kinds.
  The document's own answer for values: Check, for values of the kinds 3, 4, 5. It writes nothing that was there. Conditions: numbers within their kinds.
  The document's own answer for values: Check, for values of the kinds 6, 7, that no type has. It writes nothing that was there. Conditions: numbers within their kinds.
  The document's own answer for values: Check. It writes nothing that was there. Conditions: numbers within their kinds.
-/
import Derived.Test.YtgldbainhncneaaGreatDoorVrLeaf
import Derived.Deep.CutRange
import Derived.Deep.DeepCutAuto
namespace Go.Proofs.YtgldbainhncneaaGreatDoor
open Go.RowKit
set_option linter.unusedVariables false
set_option linter.unusedSimpArgs false

/-- What else than its kind's own is not nothing? -/
def oth (v : Va) : Bool := ((v.k != 1) && (v.i != 0)) || ((((v.k != 2) && ((v.k != 3) && (v.k != 4))) && (v.b != 0)) || (((v.k != 7) && !decide (v.t = ⟨#[]⟩)) || (((v.k != 5) && (v.k != 6)) && !decide (v.w = wh0))))
theorem vok_b0 {v : Va} {t : Int} {un : Bool} (h : (decide (kdV t un < 0) || ((v.k != 0) && (v.k != kdV t un))) = true) : vOk v t un = false := by
  simp only [Bool.or_eq_true, Bool.and_eq_true, decide_eq_true_eq, bne_iff_ne] at h
  rcases h with h | ⟨h1, h2⟩
  · have : kdV t un = -1 := by rcases kd_cases t un with q | q | q | q | q | q | q | q | q <;> omega
    unfold vOk; simp [this]
  · have : v ≠ va0 := fun e => h1 (by rw [e]; rfl)
    unfold vOk mb
    simp [this, h2]
theorem vok_oth {v : Va} {t : Int} {un : Bool} (h : oth v = true) : vOk v t un = false := by
  obtain ⟨k, i, b, tx, W⟩ := v
  have h0 : (⟨k, i, b, tx, W⟩ : Va) ≠ va0 := by
    intro e
    unfold va0 at e
    injection e with e1 e2 e3 e4 e5
    subst e1 e2 e3 e4 e5
    revert h
    decide
  have hf : fit ⟨k, i, b, tx, W⟩ t = false := by
    unfold oth at h
    unfold fit
    simp only at h ⊢
    split
    · rename_i q; subst q
      by_cases g : (⟨1, i, b, tx, W⟩ : Va) = ⟨1, i, 0, ⟨#[]⟩, wh0⟩
      · injection g with g1 g2 g3 g4 g5; subst g3 g4 g5; simp at h
      · simp [g]
    split
    · rename_i q
      by_cases g : (⟨k, i, b, tx, W⟩ : Va) = ⟨k, 0, b, ⟨#[]⟩, wh0⟩
      · injection g with g1 g2 g3 g4 g5; subst g2 g4 g5; rcases q with q | q | q <;> subst q <;> simp at h
      · simp [g]
    split
    · rename_i q; subst q
      by_cases g : (⟨5, i, b, tx, W⟩ : Va) = ⟨5, 0, 0, ⟨#[]⟩, W⟩
      · injection g with g1 g2 g3 g4 g5; subst g2 g3 g4; simp at h
      · simp [g]
    split
    · rename_i q; subst q
      by_cases g : (⟨6, i, b, tx, W⟩ : Va) = ⟨6, 0, 0, ⟨#[]⟩, W⟩
      · injection g with g1 g2 g3 g4 g5; subst g2 g3 g4; simp at h
      · simp [g]
    split
    · rename_i q; subst q
      by_cases g : (⟨7, i, b, tx, W⟩ : Va) = ⟨7, 0, 0, tx, wh0⟩
      · injection g with g1 g2 g3 g4 g5; subst g2 g3 g5; simp at h
      · simp [g]
    rfl
  unfold vOk mb
  simp [h0, hf]
theorem kd_sz {t : Int} {un : Bool} (h : kdV t un = 1 ∨ kdV t un = 2 ∨ kdV t un = 3 ∨ kdV t un = 4) : szP t = szV t := by
  unfold szP szV
  by_cases h1 : t = 1
  · simp [h1]
  by_cases h2 : t = 2 ∨ t = 13
  · rw [if_neg h1, if_pos h2, if_neg h1, if_pos h2]
  by_cases h3 : t = 3 ∨ t = 9 ∨ t = 4
  · rw [if_neg h1, if_neg h2, if_pos h3, if_neg h1, if_neg h2, if_pos h3]
  by_cases h4 : t = 8 ∨ t = 5
  · rw [if_neg h1, if_neg h2, if_neg h3, if_pos h4, if_neg h1, if_neg h2, if_neg h3]
  exfalso
  revert h
  unfold kdV
  have : isN t = false := by unfold isN; simp; omega
  rw [this]
  repeat' split
  all_goals first | omega | simp_all
theorem kd_t6 {t : Int} {un : Bool} (h : kdV t un = 6) : t = 11 := by
  unfold kdV at h
  repeat' split at h
  all_goals first | omega | simp_all
theorem kd_t5 {t : Int} {un : Bool} (h : kdV t un = 5) : t ≠ 11 := by
  intro e
  subst e
  revert h
  cases un <;> decide
theorem vok0 {v : Va} {t : Int} {un : Bool} (hk : v.k = 0) (h : kdV t un ≠ -1) (ho : oth v = false) : vOk v t un = true := by
  obtain ⟨k, i, b, tx, W⟩ := v
  simp only at hk
  subst hk
  unfold oth at ho
  simp at ho
  obtain ⟨h1, h2, h3, h4⟩ := ho
  subst h1 h2 h3 h4
  unfold vOk mb va0
  simp [h]
theorem vok1 {v : Va} {t : Int} {un : Bool} (hk : v.k = 1) (h : kdV t un = 1) (ho : oth v = false) : vOk v t un = (v.i == sgn (v.i % 18446744073709551616) (szV t)) := by
  obtain ⟨k, i, b, tx, W⟩ := v
  simp only at hk
  subst hk
  unfold oth at ho
  simp at ho
  obtain ⟨h2, h3, h4⟩ := ho
  subst h2 h3 h4
  unfold vOk mb fit va0
  rw [kd_sz (.inl h)]
  simp [h]
theorem vok2 {v : Va} {t : Int} {un : Bool} (hk : v.k = 2 ∨ v.k = 3 ∨ v.k = 4) (h : kdV t un = v.k) (ho : oth v = false) : vOk v t un = (v.b == uns v.b (szV t)) := by
  obtain ⟨k, i, b, tx, W⟩ := v
  simp only at hk h
  have hs : szP t = szV t := kd_sz (un := un) (by omega)
  unfold oth at ho
  rcases hk with q | q | q <;> subst q <;> simp at ho <;> obtain ⟨h2, h3, h4⟩ := ho <;> subst h2 h3 h4 <;> unfold vOk mb fit va0 <;> rw [hs] <;> simp [h]
theorem vok5 {v : Va} {t : Int} {un : Bool} (hk : v.k = 5) (h : kdV t un = 5) (ho : oth v = false) : vOk v t un = if t = 11 then tmOk v.w else dtOk v.w t := by
  obtain ⟨k, i, b, tx, W⟩ := v
  simp only at hk
  subst hk
  unfold oth at ho
  simp at ho
  obtain ⟨h2, h3, h4⟩ := ho
  subst h2 h3 h4
  rw [if_neg (kd_t5 h)]
  unfold vOk mb fit va0
  simp [h]
theorem vok6 {v : Va} {t : Int} {un : Bool} (hk : v.k = 6) (h : kdV t un = 6) (ho : oth v = false) : vOk v t un = if t = 11 then tmOk v.w else dtOk v.w t := by
  obtain ⟨k, i, b, tx, W⟩ := v
  simp only at hk
  subst hk
  unfold oth at ho
  simp at ho
  obtain ⟨h2, h3, h4⟩ := ho
  subst h2 h3 h4
  rw [if_pos (kd_t6 h)]
  unfold vOk mb fit va0
  simp [h]
theorem vok7 {v : Va} {t : Int} {un : Bool} (hk : v.k = 7) (h : kdV t un = 7) (ho : oth v = false) : vOk v t un = decide (v.t.size ≤ 16777216) := by
  obtain ⟨k, i, b, tx, W⟩ := v
  simp only at hk
  subst hk
  unfold oth at ho
  simp at ho
  obtain ⟨h2, h3, h4⟩ := ho
  subst h2 h3 h4
  unfold vOk mb fit va0
  simp [h]
theorem sg_in {i n : Int} (hi : i64 i) (h : n = 1 ∨ n = 2 ∨ n = 4 ∨ n = 8) : (i == sgn (i % 18446744073709551616) n) = if n = 8 then true else (!decide (i < -(2 ^ (8 * n - 1).toNat : Int)) && !decide (2 ^ (8 * n - 1).toNat ≤ i)) := by
  obtain ⟨h0, h1⟩ := hi
  rcases h with h | h | h | h <;> subst h <;> unfold sgn <;> rw [Bool.eq_iff_iff] <;> simp <;> omega
theorem us_in {b n : Int} (hb : 0 ≤ b ∧ b < 18446744073709551616) (h : n = 1 ∨ n = 2 ∨ n = 4 ∨ n = 8) : (b == uns b n) = if n = 8 then true else !decide (b / 2 ^ (8 * n).toNat ≠ 0) := by
  obtain ⟨h0, h1⟩ := hb
  rcases h with h | h | h | h <;> subst h <;> unfold uns <;> rw [Bool.eq_iff_iff] <;> simp <;> omega

theorem vba_nil {t : ByteArray} (h : t.toList = []) : t = ⟨#[]⟩ := vba_inj (by rw [h, ByteArray.toList_eq])


end Go.Proofs.YtgldbainhncneaaGreatDoor

namespace Go.Proofs.YtgldbainhncneaaGreatDoor
open Go.RowKit
set_option linter.unusedVariables false
set_option linter.unusedSimpArgs false

set_option maxHeartbeats 4000000 in
set_option maxRecDepth 100000 in
theorem check_r1 (v : Va) (t : Int) (un : Bool) (w : World) (q0 : 0 ≤ t) (q1 : t < 256) (hv : VaK v) (hk : v.k = 0 ∨ v.k = 1 ∨ v.k = 2) : Calls Tryz.prog 71 #[.agg (vaC v), .agg #[.int .u8 t, .bool un]] w fun e w' => e = .returned (.int .i64 (if vOk v t un = true then 0 else 2)) ∧ Below w.heap.size w w' := by
  have cK := hide (fun wx => kind_ref t un wx q0 q1)
  have cS := hide (fun wx => vsize_ref t wx)
  have cW := hide (fun wx => when_ref v.w t wx)
  have P0 := Pv.box w v t un
  have hsz : szV t = 1 ∨ szV t = 2 ∨ szV t = 4 ∨ szV t = 8 := by
    unfold szV
    repeat' split
    all_goals simp
  have hNW := nqw v.w wh0
  obtain ⟨RES, hRES⟩ : ∃ z : Int, z = if vOk v t un = true then 0 else 2 := ⟨_, rfl⟩
  rw [← hRES]
  obtain ⟨OTH, hOTH⟩ : ∃ z, z = oth v := ⟨_, rfl⟩
  obtain ⟨B0, hB0⟩ : ∃ z, z = (decide (kdV t un < 0) || ((v.k != 0) && (v.k != kdV t un))) := ⟨_, rfl⟩
  have HR1 := hide (fun (h : B0 = true) => show RES = 2 by rw [hRES, vok_b0 (hB0 ▸ h)]; rfl)
  have HR2 := hide (fun (h : OTH = true) => show RES = 2 by rw [hRES, vok_oth (hOTH ▸ h)]; rfl)
  have HRK := hide (fun (h : B0 = false) => show kdV t un ≠ -1 ∧ (v.k = 0 ∨ v.k = kdV t un) by
    rw [hB0] at h
    simp only [Bool.or_eq_false_iff, Bool.and_eq_false_iff, decide_eq_false_iff_not, bne_eq_false_iff_eq] at h
    exact ⟨by omega, h.2⟩)
  have HR3 := hide (fun (h : OTH = false) (B : Bool) (hB : vOk v t un = B) => show RES = if B = true then 0 else 2 by rw [hRES, hB])
  have HS := hide hsz
  have HO := hide hOTH
  have HB := hide hB0
  have HO2 := hide hOTH
  unfold oth at HO
  have hV := hide hv
  have HKD := hide (kd_cases t un)
  clear hRES hsz hOTH hB0 hv
  obtain ⟨SZ, hSZ⟩ : ∃ z, z = szV t := ⟨_, rfl⟩
  obtain ⟨KD, hKD⟩ : ∃ z, z = kdV t un := ⟨_, rfl⟩
  obtain ⟨DW, hDW⟩ : ∃ z, z = decide (v.w = wh0) := ⟨_, rfl⟩
  obtain ⟨WN, hWN⟩ : ∃ z, z = if t = 11 then tmOk v.w else dtOk v.w t := ⟨_, rfl⟩
  rw [← hSZ] at cS HS
  rw [← hKD] at cK HB HRK HKD
  rw [← hDW] at hNW HO
  rw [← hWN] at cW
  have HZ := hide hSZ
  have HK := hide hKD
  have HN := hide hWN
  clear hSZ hKD hDW hWN
  obtain ⟨k, i, b, tx, ⟨ng, y, mo, d, h, mi, s, mc⟩⟩ := v
  unfold vaC at ⊢
  unfold whC wh0 at hNW
  unfold whC at cW
  simp only at *
  obtain ⟨w1, hw1⟩ : ∃ z, z = (w.alloc (.cells #[.int .i64 k, .int .i64 i, .int .u64 b, .string tx, .bool ng, .int .i64 y, .int .i64 mo, .int .i64 d, .int .i64 h, .int .i64 mi, .int .i64 s, .int .i64 mc] 32)).alloc (.cells #[.int .u8 t, .bool un] 23) := ⟨_, rfl⟩
  rw [show (w.alloc (.cells (vaC ⟨k, i, b, tx, ⟨ng, y, mo, d, h, mi, s, mc⟩⟩) 32)).alloc (.cells #[.int .u8 t, .bool un] 23) = w1 from hw1.symm] at P0
  have HW := hide hw1.symm
  have PP := hide P0
  obtain ⟨k0, k1, k2, k3, k4, k5, k6, k7, k8, k9, k10, k11, t0, t1⟩ := P0.cells
  clear hw1 P0
  go_enter Tryz.func71, Tryz.ntmps71
  go_upto_region 2 with (go_at_call 26; rw [unhide HW]; refine (unhide cK _).mono ?_; rintro e w2 ⟨rfl, b2⟩; have P2 := (unhide PP).later b2; clear b2 k0 k1 k2 k3 k4 k5 k6 k7 k8 k9 k10 k11 t0 t1; obtain ⟨k0, k1, k2, k3, k4, k5, k6, k7, k8, k9, k10, k11, t0, t1⟩ := P2.cells; have PQ := hide P2; clear P2)
  go_cut [6] (fun s wx => s = .bool B0 ∧ wx = w2)
  case first =>
    obtain ⟨A0, hA0⟩ : ∃ z, decide (KD < 0) = z := ⟨_, rfl⟩
    obtain ⟨A1, hA1⟩ : ∃ z, (k != 0) = z := ⟨_, rfl⟩
    obtain ⟨A2, hA2⟩ : ∃ z, (k != KD) = z := ⟨_, rfl⟩
    rw [hA0, hA1, hA2] at HB
    cases A0
    · cases A1
      · go_wp2_with fail
        go_meet
        exact ⟨by rw [unhide HB] <;> rfl, rfl⟩
      · cases A2
        · go_wp2_with fail
          go_meet
          exact ⟨by rw [unhide HB] <;> rfl, rfl⟩
        · go_wp2_with fail
          go_meet
          exact ⟨by rw [unhide HB] <;> rfl, rfl⟩
    · go_wp2_with fail
      go_meet
      exact ⟨by rw [unhide HB] <;> rfl, rfl⟩
  obtain ⟨rfl, hcw⟩ := hcut
  have hcw := hcw.symm
  subst hcw
  go_upto_region 4 with (go_at_call 27; (with_reducible refine same_world (unhide cS _) ?_))
  go_cut [81] (fun s wx => s = .bool OTH ∧ wx = w2)
  case first =>
    obtain ⟨DI, hDI⟩ : ∃ z, (i != 0) = z := ⟨_, rfl⟩
    obtain ⟨DB, hDB⟩ : ∃ z, (b != 0) = z := ⟨_, rfl⟩
    obtain ⟨DT, hDT⟩ : ∃ z, decide (tx = ⟨#[]⟩) = z := ⟨_, rfl⟩
    rw [hDI, hDB, hDT] at HO
    rcases hk with h0 | h1 | h2
    · subst h0
      cases DI
      · cases DB
        · cases DT
          · have hT : ¬ tx.toList = [] := fun z => of_decide_eq_false hDT (vba_nil z)
            clear hDT
            clear HR1 HR2 HRK HR3 HS HB HO2 hV HKD HZ HK HN cS cW cK
            go_wp2_with fail
            go_meet
            exact ⟨by rw [unhide HO] <;> rfl, rfl⟩
          · obtain rfl := of_decide_eq_true hDT
            clear hDT
            cases DW
            · clear HR1 HR2 HRK HR3 HS HB HO2 hV HKD HZ HK HN cS cW cK
              go_wp2_with fail
              go_meet
              exact ⟨by rw [unhide HO] <;> rfl, rfl⟩
            · clear HR1 HR2 HRK HR3 HS HB HO2 hV HKD HZ HK HN cS cW cK
              go_wp2_with fail
              go_meet
              exact ⟨by rw [unhide HO] <;> rfl, rfl⟩
        · clear HR1 HR2 HRK HR3 HS HB HO2 hV HKD HZ HK HN cS cW cK
          go_wp2_with fail
          go_meet
          exact ⟨by rw [unhide HO] <;> rfl, rfl⟩
      · clear HR1 HR2 HRK HR3 HS HB HO2 hV HKD HZ HK HN cS cW cK
        go_wp2_with fail
        go_meet
        exact ⟨by rw [unhide HO] <;> rfl, rfl⟩
    · subst h1
      cases DB
      · cases DT
        · have hT : ¬ tx.toList = [] := fun z => of_decide_eq_false hDT (vba_nil z)
          clear hDT
          clear HR1 HR2 HRK HR3 HS HB HO2 hV HKD HZ HK HN cS cW cK
          go_wp2_with fail
          go_meet
          exact ⟨by rw [unhide HO] <;> rfl, rfl⟩
        · obtain rfl := of_decide_eq_true hDT
          clear hDT
          cases DW
          · clear HR1 HR2 HRK HR3 HS HB HO2 hV HKD HZ HK HN cS cW cK
            go_wp2_with fail
            go_meet
            exact ⟨by rw [unhide HO] <;> rfl, rfl⟩
          · clear HR1 HR2 HRK HR3 HS HB HO2 hV HKD HZ HK HN cS cW cK
            go_wp2_with fail
            go_meet
            exact ⟨by rw [unhide HO] <;> rfl, rfl⟩
      · clear HR1 HR2 HRK HR3 HS HB HO2 hV HKD HZ HK HN cS cW cK
        go_wp2_with fail
        go_meet
        exact ⟨by rw [unhide HO] <;> rfl, rfl⟩
    · subst h2
      cases DI
      · cases DT
        · have hT : ¬ tx.toList = [] := fun z => of_decide_eq_false hDT (vba_nil z)
          clear hDT
          clear HR1 HR2 HRK HR3 HS HB HO2 hV HKD HZ HK HN cS cW cK
          go_wp2_with fail
          go_meet
          exact ⟨by rw [unhide HO] <;> rfl, rfl⟩
        · obtain rfl := of_decide_eq_true hDT
          clear hDT
          cases DW
          · clear HR1 HR2 HRK HR3 HS HB HO2 hV HKD HZ HK HN cS cW cK
            go_wp2_with fail
            go_meet
            exact ⟨by rw [unhide HO] <;> rfl, rfl⟩
          · clear HR1 HR2 HRK HR3 HS HB HO2 hV HKD HZ HK HN cS cW cK
            go_wp2_with fail
            go_meet
            exact ⟨by rw [unhide HO] <;> rfl, rfl⟩
      · clear HR1 HR2 HRK HR3 HS HB HO2 hV HKD HZ HK HN cS cW cK
        go_wp2_with fail
        go_meet
        exact ⟨by rw [unhide HO] <;> rfl, rfl⟩
  obtain ⟨rfl, hcw⟩ := hcut
  have hcw := hcw.symm
  subst hcw
  clear HO HB
  cases OTH
  rotate_left
  · have E := hide (unhide HR2 rfl)
    clear HR1 HR2 HRK HR3 HS HO2 hV HKD HZ HK HN cS cW cK
    go_wp2_with fail
    go_ret
    exact ⟨by rw [unhide E] <;> rfl, (unhide PQ).bl⟩
  cases B0
  rotate_left
  · have E := hide (unhide HR1 rfl)
    clear HR1 HR2 HRK HR3 HS HO2 hV HKD HZ HK HN cS cW cK
    go_wp2_with fail
    go_ret
    exact ⟨by rw [unhide E] <;> rfl, (unhide PQ).bl⟩
  obtain ⟨hk1, hk2⟩ := unhide HRK rfl
  clear HR1 HR2 HRK cS cK
  have HR4 := hide (unhide HR3 rfl)
  clear HR3
  rcases hk with h0 | h1 | h2
  · subst h0
    have E := hide (unhide HR4 true (vok0 rfl (unhide HK ▸ hk1) (unhide HO2).symm))
    rw [if_pos rfl] at E
    clear hk1 hk2 HO2 hV HKD HZ HK HN HS HR4 cW
    go_wp2_with fail
    go_ret
    exact ⟨by rw [unhide E] <;> rfl, (unhide PQ).bl⟩
  · subst h1
    have hk3 := hk2.resolve_left (by decide)
    have hv1 := vok1 (v := ⟨1, i, b, tx, ⟨ng, y, mo, d, h, mi, s, mc⟩⟩) (t := t) (un := un) rfl ((unhide HK).symm.trans hk3.symm) (unhide HO2).symm
    rw [sg_in (unhide hV).i (unhide HZ ▸ unhide HS), ← unhide HZ] at hv1
    simp only at hv1
    have HH := hide (unhide HR4 _ hv1)
    have hb0 := (unhide hV).b
    simp only at hb0
    obtain ⟨hb0, hb1⟩ := hb0
    have HSZ := unhide HS
    clear hv1 hk3 hk1 hk2 HO2 hV HKD HZ HK HN HS HR4 cW
    rcases HSZ with q | q | q | q
    · subst q
      have z1 : IntKind.u64.wrap (wrap64 8) = 8 := by kernel_rfl
      have z2 : IntKind.u64.wrap 7 = 7 := by kernel_rfl
      have z3 : wrap64 (-128) = -128 := by kernel_rfl
      have z4 : wrap64 128 = 128 := by kernel_rfl
      obtain ⟨C0, hC0⟩ : ∃ z, decide (i < -128) = z := ⟨_, rfl⟩
      obtain ⟨C1, hC1⟩ : ∃ z, decide (128 ≤ i) = z := ⟨_, rfl⟩
      have E0 := hide (show RES = if (!C0 && !C1) = true then 0 else 2 by rw [unhide HH, ← hC0, ← hC1]; rfl)
      clear HH
      cases C0
      · cases C1
        · have E := hide (show RES = 0 from unhide E0)
          clear E0
          go_wp2_with fail
          go_ret
          exact ⟨by rw [unhide E] <;> rfl, (unhide PQ).bl⟩
        · have E := hide (show RES = 2 from unhide E0)
          clear E0
          go_wp2_with fail
          go_ret
          exact ⟨by rw [unhide E] <;> rfl, (unhide PQ).bl⟩
      · have E := hide (show RES = 2 from unhide E0)
        clear E0
        go_wp2_with fail
        go_ret
        exact ⟨by rw [unhide E] <;> rfl, (unhide PQ).bl⟩
    · subst q
      have z1 : IntKind.u64.wrap (wrap64 16) = 16 := by kernel_rfl
      have z2 : IntKind.u64.wrap 15 = 15 := by kernel_rfl
      have z3 : wrap64 (-32768) = -32768 := by kernel_rfl
      have z4 : wrap64 32768 = 32768 := by kernel_rfl
      obtain ⟨C0, hC0⟩ : ∃ z, decide (i < -32768) = z := ⟨_, rfl⟩
      obtain ⟨C1, hC1⟩ : ∃ z, decide (32768 ≤ i) = z := ⟨_, rfl⟩
      have E0 := hide (show RES = if (!C0 && !C1) = true then 0 else 2 by rw [unhide HH, ← hC0, ← hC1]; rfl)
      clear HH
      cases C0
      · cases C1
        · have E := hide (show RES = 0 from unhide E0)
          clear E0
          go_wp2_with fail
          go_ret
          exact ⟨by rw [unhide E] <;> rfl, (unhide PQ).bl⟩
        · have E := hide (show RES = 2 from unhide E0)
          clear E0
          go_wp2_with fail
          go_ret
          exact ⟨by rw [unhide E] <;> rfl, (unhide PQ).bl⟩
      · have E := hide (show RES = 2 from unhide E0)
        clear E0
        go_wp2_with fail
        go_ret
        exact ⟨by rw [unhide E] <;> rfl, (unhide PQ).bl⟩
    · subst q
      have z1 : IntKind.u64.wrap (wrap64 32) = 32 := by kernel_rfl
      have z2 : IntKind.u64.wrap 31 = 31 := by kernel_rfl
      have z3 : wrap64 (-2147483648) = -2147483648 := by kernel_rfl
      have z4 : wrap64 2147483648 = 2147483648 := by kernel_rfl
      obtain ⟨C0, hC0⟩ : ∃ z, decide (i < -2147483648) = z := ⟨_, rfl⟩
      obtain ⟨C1, hC1⟩ : ∃ z, decide (2147483648 ≤ i) = z := ⟨_, rfl⟩
      have E0 := hide (show RES = if (!C0 && !C1) = true then 0 else 2 by rw [unhide HH, ← hC0, ← hC1]; rfl)
      clear HH
      cases C0
      · cases C1
        · have E := hide (show RES = 0 from unhide E0)
          clear E0
          go_wp2_with fail
          go_ret
          exact ⟨by rw [unhide E] <;> rfl, (unhide PQ).bl⟩
        · have E := hide (show RES = 2 from unhide E0)
          clear E0
          go_wp2_with fail
          go_ret
          exact ⟨by rw [unhide E] <;> rfl, (unhide PQ).bl⟩
      · have E := hide (show RES = 2 from unhide E0)
        clear E0
        go_wp2_with fail
        go_ret
        exact ⟨by rw [unhide E] <;> rfl, (unhide PQ).bl⟩
    · subst q
      have z1 : IntKind.u64.wrap (wrap64 64) = 64 := by kernel_rfl
      have E := hide (show RES = 0 from unhide HH)
      clear HH
      go_wp2_with fail
      go_ret
      exact ⟨by rw [unhide E] <;> rfl, (unhide PQ).bl⟩
  · subst h2
    have hk3 := hk2.resolve_left (by decide)
    have hv1 := vok2 (v := ⟨2, i, b, tx, ⟨ng, y, mo, d, h, mi, s, mc⟩⟩) (t := t) (un := un) (.inl rfl) ((unhide HK).symm.trans hk3.symm) (unhide HO2).symm
    rw [us_in (unhide hV).b (unhide HZ ▸ unhide HS), ← unhide HZ] at hv1
    simp only at hv1
    have HH := hide (unhide HR4 _ hv1)
    have hb0 := (unhide hV).b
    simp only at hb0
    obtain ⟨hb0, hb1⟩ := hb0
    have HSZ := unhide HS
    clear hv1 hk3 hk1 hk2 HO2 hV HKD HZ HK HN HS HR4 cW
    rcases HSZ with q | q | q | q
    · subst q
      have z1 : IntKind.u64.wrap (wrap64 8) = 8 := by kernel_rfl
      have z2 : IntKind.u64.wrap 7 = 7 := by kernel_rfl
      have z3 : wrap64 (-128) = -128 := by kernel_rfl
      have z4 : wrap64 128 = 128 := by kernel_rfl
      obtain ⟨C0, hC0⟩ : ∃ z, decide (b / 256 ≠ 0) = z := ⟨_, rfl⟩
      have E0 := hide (show RES = if (!C0) = true then 0 else 2 by rw [unhide HH, ← hC0]; rfl)
      clear HH
      cases C0
      · have hC1 : b / 256 = 0 := by simpa using hC0
        have E := hide (show RES = 0 from unhide E0)
        clear E0 hC0
        go_wp2_with fail
        go_ret
        exact ⟨by rw [unhide E] <;> rfl, (unhide PQ).bl⟩
      · have hC1 : ¬ b / 256 = 0 := by simpa using hC0
        have E := hide (show RES = 2 from unhide E0)
        clear E0 hC0
        go_wp2_with fail
        go_ret
        exact ⟨by rw [unhide E] <;> rfl, (unhide PQ).bl⟩
    · subst q
      have z1 : IntKind.u64.wrap (wrap64 16) = 16 := by kernel_rfl
      have z2 : IntKind.u64.wrap 15 = 15 := by kernel_rfl
      have z3 : wrap64 (-32768) = -32768 := by kernel_rfl
      have z4 : wrap64 32768 = 32768 := by kernel_rfl
      obtain ⟨C0, hC0⟩ : ∃ z, decide (b / 65536 ≠ 0) = z := ⟨_, rfl⟩
      have E0 := hide (show RES = if (!C0) = true then 0 else 2 by rw [unhide HH, ← hC0]; rfl)
      clear HH
      cases C0
      · have hC1 : b / 65536 = 0 := by simpa using hC0
        have E := hide (show RES = 0 from unhide E0)
        clear E0 hC0
        go_wp2_with fail
        go_ret
        exact ⟨by rw [unhide E] <;> rfl, (unhide PQ).bl⟩
      · have hC1 : ¬ b / 65536 = 0 := by simpa using hC0
        have E := hide (show RES = 2 from unhide E0)
        clear E0 hC0
        go_wp2_with fail
        go_ret
        exact ⟨by rw [unhide E] <;> rfl, (unhide PQ).bl⟩
    · subst q
      have z1 : IntKind.u64.wrap (wrap64 32) = 32 := by kernel_rfl
      have z2 : IntKind.u64.wrap 31 = 31 := by kernel_rfl
      have z3 : wrap64 (-2147483648) = -2147483648 := by kernel_rfl
      have z4 : wrap64 2147483648 = 2147483648 := by kernel_rfl
      obtain ⟨C0, hC0⟩ : ∃ z, decide (b / 4294967296 ≠ 0) = z := ⟨_, rfl⟩
      have E0 := hide (show RES = if (!C0) = true then 0 else 2 by rw [unhide HH, ← hC0]; rfl)
      clear HH
      cases C0
      · have hC1 : b / 4294967296 = 0 := by simpa using hC0
        have E := hide (show RES = 0 from unhide E0)
        clear E0 hC0
        go_wp2_with fail
        go_ret
        exact ⟨by rw [unhide E] <;> rfl, (unhide PQ).bl⟩
      · have hC1 : ¬ b / 4294967296 = 0 := by simpa using hC0
        have E := hide (show RES = 2 from unhide E0)
        clear E0 hC0
        go_wp2_with fail
        go_ret
        exact ⟨by rw [unhide E] <;> rfl, (unhide PQ).bl⟩
    · subst q
      have z1 : IntKind.u64.wrap (wrap64 64) = 64 := by kernel_rfl
      have E := hide (show RES = 0 from unhide HH)
      clear HH
      go_wp2_with fail
      go_ret
      exact ⟨by rw [unhide E] <;> rfl, (unhide PQ).bl⟩


end Go.Proofs.YtgldbainhncneaaGreatDoor

namespace Go.Proofs.YtgldbainhncneaaGreatDoor
open Go.RowKit
set_option linter.unusedVariables false
set_option linter.unusedSimpArgs false

set_option maxHeartbeats 4000000 in
set_option maxRecDepth 100000 in
theorem check_r2 (v : Va) (t : Int) (un : Bool) (w : World) (q0 : 0 ≤ t) (q1 : t < 256) (hv : VaK v) (hk : v.k = 3 ∨ v.k = 4 ∨ v.k = 5) : Calls Tryz.prog 71 #[.agg (vaC v), .agg #[.int .u8 t, .bool un]] w fun e w' => e = .returned (.int .i64 (if vOk v t un = true then 0 else 2)) ∧ Below w.heap.size w w' := by
  have cK := hide (fun wx => kind_ref t un wx q0 q1)
  have cS := hide (fun wx => vsize_ref t wx)
  have cW := hide (fun wx => when_ref v.w t wx)
  have P0 := Pv.box w v t un
  have hsz : szV t = 1 ∨ szV t = 2 ∨ szV t = 4 ∨ szV t = 8 := by
    unfold szV
    repeat' split
    all_goals simp
  have hNW := nqw v.w wh0
  obtain ⟨RES, hRES⟩ : ∃ z : Int, z = if vOk v t un = true then 0 else 2 := ⟨_, rfl⟩
  rw [← hRES]
  obtain ⟨OTH, hOTH⟩ : ∃ z, z = oth v := ⟨_, rfl⟩
  obtain ⟨B0, hB0⟩ : ∃ z, z = (decide (kdV t un < 0) || ((v.k != 0) && (v.k != kdV t un))) := ⟨_, rfl⟩
  have HR1 := hide (fun (h : B0 = true) => show RES = 2 by rw [hRES, vok_b0 (hB0 ▸ h)]; rfl)
  have HR2 := hide (fun (h : OTH = true) => show RES = 2 by rw [hRES, vok_oth (hOTH ▸ h)]; rfl)
  have HRK := hide (fun (h : B0 = false) => show kdV t un ≠ -1 ∧ (v.k = 0 ∨ v.k = kdV t un) by
    rw [hB0] at h
    simp only [Bool.or_eq_false_iff, Bool.and_eq_false_iff, decide_eq_false_iff_not, bne_eq_false_iff_eq] at h
    exact ⟨by omega, h.2⟩)
  have HR3 := hide (fun (h : OTH = false) (B : Bool) (hB : vOk v t un = B) => show RES = if B = true then 0 else 2 by rw [hRES, hB])
  have HS := hide hsz
  have HO := hide hOTH
  have HB := hide hB0
  have HO2 := hide hOTH
  unfold oth at HO
  have hV := hide hv
  have HKD := hide (kd_cases t un)
  clear hRES hsz hOTH hB0 hv
  obtain ⟨SZ, hSZ⟩ : ∃ z, z = szV t := ⟨_, rfl⟩
  obtain ⟨KD, hKD⟩ : ∃ z, z = kdV t un := ⟨_, rfl⟩
  obtain ⟨DW, hDW⟩ : ∃ z, z = decide (v.w = wh0) := ⟨_, rfl⟩
  obtain ⟨WN, hWN⟩ : ∃ z, z = if t = 11 then tmOk v.w else dtOk v.w t := ⟨_, rfl⟩
  rw [← hSZ] at cS HS
  rw [← hKD] at cK HB HRK HKD
  rw [← hDW] at hNW HO
  rw [← hWN] at cW
  have HZ := hide hSZ
  have HK := hide hKD
  have HN := hide hWN
  clear hSZ hKD hDW hWN
  obtain ⟨k, i, b, tx, ⟨ng, y, mo, d, h, mi, s, mc⟩⟩ := v
  unfold vaC at ⊢
  unfold whC wh0 at hNW
  unfold whC at cW
  simp only at *
  obtain ⟨w1, hw1⟩ : ∃ z, z = (w.alloc (.cells #[.int .i64 k, .int .i64 i, .int .u64 b, .string tx, .bool ng, .int .i64 y, .int .i64 mo, .int .i64 d, .int .i64 h, .int .i64 mi, .int .i64 s, .int .i64 mc] 32)).alloc (.cells #[.int .u8 t, .bool un] 23) := ⟨_, rfl⟩
  rw [show (w.alloc (.cells (vaC ⟨k, i, b, tx, ⟨ng, y, mo, d, h, mi, s, mc⟩⟩) 32)).alloc (.cells #[.int .u8 t, .bool un] 23) = w1 from hw1.symm] at P0
  have HW := hide hw1.symm
  have PP := hide P0
  obtain ⟨k0, k1, k2, k3, k4, k5, k6, k7, k8, k9, k10, k11, t0, t1⟩ := P0.cells
  clear hw1 P0
  go_enter Tryz.func71, Tryz.ntmps71
  go_upto_region 2 with (go_at_call 26; rw [unhide HW]; refine (unhide cK _).mono ?_; rintro e w2 ⟨rfl, b2⟩; have P2 := (unhide PP).later b2; clear b2 k0 k1 k2 k3 k4 k5 k6 k7 k8 k9 k10 k11 t0 t1; obtain ⟨k0, k1, k2, k3, k4, k5, k6, k7, k8, k9, k10, k11, t0, t1⟩ := P2.cells; have PQ := hide P2; clear P2)
  go_cut [6] (fun s wx => s = .bool B0 ∧ wx = w2)
  case first =>
    obtain ⟨A0, hA0⟩ : ∃ z, decide (KD < 0) = z := ⟨_, rfl⟩
    obtain ⟨A1, hA1⟩ : ∃ z, (k != 0) = z := ⟨_, rfl⟩
    obtain ⟨A2, hA2⟩ : ∃ z, (k != KD) = z := ⟨_, rfl⟩
    rw [hA0, hA1, hA2] at HB
    cases A0
    · cases A1
      · go_wp2_with fail
        go_meet
        exact ⟨by rw [unhide HB] <;> rfl, rfl⟩
      · cases A2
        · go_wp2_with fail
          go_meet
          exact ⟨by rw [unhide HB] <;> rfl, rfl⟩
        · go_wp2_with fail
          go_meet
          exact ⟨by rw [unhide HB] <;> rfl, rfl⟩
    · go_wp2_with fail
      go_meet
      exact ⟨by rw [unhide HB] <;> rfl, rfl⟩
  obtain ⟨rfl, hcw⟩ := hcut
  have hcw := hcw.symm
  subst hcw
  go_upto_region 4 with (go_at_call 27; (with_reducible refine same_world (unhide cS _) ?_))
  go_cut [81] (fun s wx => s = .bool OTH ∧ wx = w2)
  case first =>
    obtain ⟨DI, hDI⟩ : ∃ z, (i != 0) = z := ⟨_, rfl⟩
    obtain ⟨DB, hDB⟩ : ∃ z, (b != 0) = z := ⟨_, rfl⟩
    obtain ⟨DT, hDT⟩ : ∃ z, decide (tx = ⟨#[]⟩) = z := ⟨_, rfl⟩
    rw [hDI, hDB, hDT] at HO
    rcases hk with h3 | h4 | h5
    · subst h3
      cases DI
      · cases DT
        · have hT : ¬ tx.toList = [] := fun z => of_decide_eq_false hDT (vba_nil z)
          clear hDT
          clear HR1 HR2 HRK HR3 HS HB HO2 hV HKD HZ HK HN cS cW cK
          go_wp2_with fail
          go_meet
          exact ⟨by rw [unhide HO] <;> rfl, rfl⟩
        · obtain rfl := of_decide_eq_true hDT
          clear hDT
          cases DW
          · clear HR1 HR2 HRK HR3 HS HB HO2 hV HKD HZ HK HN cS cW cK
            go_wp2_with fail
            go_meet
            exact ⟨by rw [unhide HO] <;> rfl, rfl⟩
          · clear HR1 HR2 HRK HR3 HS HB HO2 hV HKD HZ HK HN cS cW cK
            go_wp2_with fail
            go_meet
            exact ⟨by rw [unhide HO] <;> rfl, rfl⟩
      · clear HR1 HR2 HRK HR3 HS HB HO2 hV HKD HZ HK HN cS cW cK
        go_wp2_with fail
        go_meet
        exact ⟨by rw [unhide HO] <;> rfl, rfl⟩
    · subst h4
      cases DI
      · cases DT
        · have hT : ¬ tx.toList = [] := fun z => of_decide_eq_false hDT (vba_nil z)
          clear hDT
          clear HR1 HR2 HRK HR3 HS HB HO2 hV HKD HZ HK HN cS cW cK
          go_wp2_with fail
          go_meet
          exact ⟨by rw [unhide HO] <;> rfl, rfl⟩
        · obtain rfl := of_decide_eq_true hDT
          clear hDT
          cases DW
          · clear HR1 HR2 HRK HR3 HS HB HO2 hV HKD HZ HK HN cS cW cK
            go_wp2_with fail
            go_meet
            exact ⟨by rw [unhide HO] <;> rfl, rfl⟩
          · clear HR1 HR2 HRK HR3 HS HB HO2 hV HKD HZ HK HN cS cW cK
            go_wp2_with fail
            go_meet
            exact ⟨by rw [unhide HO] <;> rfl, rfl⟩
      · clear HR1 HR2 HRK HR3 HS HB HO2 hV HKD HZ HK HN cS cW cK
        go_wp2_with fail
        go_meet
        exact ⟨by rw [unhide HO] <;> rfl, rfl⟩
    · subst h5
      cases DI
      · cases DB
        · cases DT
          · have hT : ¬ tx.toList = [] := fun z => of_decide_eq_false hDT (vba_nil z)
            clear hDT
            clear HR1 HR2 HRK HR3 HS HB HO2 hV HKD HZ HK HN cS cW cK
            go_wp2_with fail
            go_meet
            exact ⟨by rw [unhide HO] <;> rfl, rfl⟩
          · obtain rfl := of_decide_eq_true hDT
            clear hDT
            clear HR1 HR2 HRK HR3 HS HB HO2 hV HKD HZ HK HN cS cW cK
            go_wp2_with fail
            go_meet
            exact ⟨by rw [unhide HO] <;> rfl, rfl⟩
        · clear HR1 HR2 HRK HR3 HS HB HO2 hV HKD HZ HK HN cS cW cK
          go_wp2_with fail
          go_meet
          exact ⟨by rw [unhide HO] <;> rfl, rfl⟩
      · clear HR1 HR2 HRK HR3 HS HB HO2 hV HKD HZ HK HN cS cW cK
        go_wp2_with fail
        go_meet
        exact ⟨by rw [unhide HO] <;> rfl, rfl⟩
  obtain ⟨rfl, hcw⟩ := hcut
  have hcw := hcw.symm
  subst hcw
  clear HO HB
  cases OTH
  rotate_left
  · have E := hide (unhide HR2 rfl)
    clear HR1 HR2 HRK HR3 HS HO2 hV HKD HZ HK HN cS cW cK
    go_wp2_with fail
    go_ret
    exact ⟨by rw [unhide E] <;> rfl, (unhide PQ).bl⟩
  cases B0
  rotate_left
  · have E := hide (unhide HR1 rfl)
    clear HR1 HR2 HRK HR3 HS HO2 hV HKD HZ HK HN cS cW cK
    go_wp2_with fail
    go_ret
    exact ⟨by rw [unhide E] <;> rfl, (unhide PQ).bl⟩
  obtain ⟨hk1, hk2⟩ := unhide HRK rfl
  clear HR1 HR2 HRK cS cK
  have HR4 := hide (unhide HR3 rfl)
  clear HR3
  rcases hk with h3 | h4 | h5
  · subst h3
    have hk3 := hk2.resolve_left (by decide)
    have hv1 := vok2 (v := ⟨3, i, b, tx, ⟨ng, y, mo, d, h, mi, s, mc⟩⟩) (t := t) (un := un) (.inr (.inl rfl)) ((unhide HK).symm.trans hk3.symm) (unhide HO2).symm
    rw [us_in (unhide hV).b (unhide HZ ▸ unhide HS), ← unhide HZ] at hv1
    simp only at hv1
    have HH := hide (unhide HR4 _ hv1)
    have hb0 := (unhide hV).b
    simp only at hb0
    obtain ⟨hb0, hb1⟩ := hb0
    have HSZ := unhide HS
    clear hv1 hk3 hk1 hk2 HO2 hV HKD HZ HK HN HS HR4 cW
    rcases HSZ with q | q | q | q
    · subst q
      have z1 : IntKind.u64.wrap (wrap64 8) = 8 := by kernel_rfl
      have z2 : IntKind.u64.wrap 7 = 7 := by kernel_rfl
      have z3 : wrap64 (-128) = -128 := by kernel_rfl
      have z4 : wrap64 128 = 128 := by kernel_rfl
      obtain ⟨C0, hC0⟩ : ∃ z, decide (b / 256 ≠ 0) = z := ⟨_, rfl⟩
      have E0 := hide (show RES = if (!C0) = true then 0 else 2 by rw [unhide HH, ← hC0]; rfl)
      clear HH
      cases C0
      · have hC1 : b / 256 = 0 := by simpa using hC0
        have E := hide (show RES = 0 from unhide E0)
        clear E0 hC0
        go_wp2_with fail
        go_ret
        exact ⟨by rw [unhide E] <;> rfl, (unhide PQ).bl⟩
      · have hC1 : ¬ b / 256 = 0 := by simpa using hC0
        have E := hide (show RES = 2 from unhide E0)
        clear E0 hC0
        go_wp2_with fail
        go_ret
        exact ⟨by rw [unhide E] <;> rfl, (unhide PQ).bl⟩
    · subst q
      have z1 : IntKind.u64.wrap (wrap64 16) = 16 := by kernel_rfl
      have z2 : IntKind.u64.wrap 15 = 15 := by kernel_rfl
      have z3 : wrap64 (-32768) = -32768 := by kernel_rfl
      have z4 : wrap64 32768 = 32768 := by kernel_rfl
      obtain ⟨C0, hC0⟩ : ∃ z, decide (b / 65536 ≠ 0) = z := ⟨_, rfl⟩
      have E0 := hide (show RES = if (!C0) = true then 0 else 2 by rw [unhide HH, ← hC0]; rfl)
      clear HH
      cases C0
      · have hC1 : b / 65536 = 0 := by simpa using hC0
        have E := hide (show RES = 0 from unhide E0)
        clear E0 hC0
        go_wp2_with fail
        go_ret
        exact ⟨by rw [unhide E] <;> rfl, (unhide PQ).bl⟩
      · have hC1 : ¬ b / 65536 = 0 := by simpa using hC0
        have E := hide (show RES = 2 from unhide E0)
        clear E0 hC0
        go_wp2_with fail
        go_ret
        exact ⟨by rw [unhide E] <;> rfl, (unhide PQ).bl⟩
    · subst q
      have z1 : IntKind.u64.wrap (wrap64 32) = 32 := by kernel_rfl
      have z2 : IntKind.u64.wrap 31 = 31 := by kernel_rfl
      have z3 : wrap64 (-2147483648) = -2147483648 := by kernel_rfl
      have z4 : wrap64 2147483648 = 2147483648 := by kernel_rfl
      obtain ⟨C0, hC0⟩ : ∃ z, decide (b / 4294967296 ≠ 0) = z := ⟨_, rfl⟩
      have E0 := hide (show RES = if (!C0) = true then 0 else 2 by rw [unhide HH, ← hC0]; rfl)
      clear HH
      cases C0
      · have hC1 : b / 4294967296 = 0 := by simpa using hC0
        have E := hide (show RES = 0 from unhide E0)
        clear E0 hC0
        go_wp2_with fail
        go_ret
        exact ⟨by rw [unhide E] <;> rfl, (unhide PQ).bl⟩
      · have hC1 : ¬ b / 4294967296 = 0 := by simpa using hC0
        have E := hide (show RES = 2 from unhide E0)
        clear E0 hC0
        go_wp2_with fail
        go_ret
        exact ⟨by rw [unhide E] <;> rfl, (unhide PQ).bl⟩
    · subst q
      have z1 : IntKind.u64.wrap (wrap64 64) = 64 := by kernel_rfl
      have E := hide (show RES = 0 from unhide HH)
      clear HH
      go_wp2_with fail
      go_ret
      exact ⟨by rw [unhide E] <;> rfl, (unhide PQ).bl⟩
  · subst h4
    have hk3 := hk2.resolve_left (by decide)
    have hv1 := vok2 (v := ⟨4, i, b, tx, ⟨ng, y, mo, d, h, mi, s, mc⟩⟩) (t := t) (un := un) (.inr (.inr rfl)) ((unhide HK).symm.trans hk3.symm) (unhide HO2).symm
    rw [us_in (unhide hV).b (unhide HZ ▸ unhide HS), ← unhide HZ] at hv1
    simp only at hv1
    have HH := hide (unhide HR4 _ hv1)
    have hb0 := (unhide hV).b
    simp only at hb0
    obtain ⟨hb0, hb1⟩ := hb0
    have HSZ := unhide HS
    clear hv1 hk3 hk1 hk2 HO2 hV HKD HZ HK HN HS HR4 cW
    rcases HSZ with q | q | q | q
    · subst q
      have z1 : IntKind.u64.wrap (wrap64 8) = 8 := by kernel_rfl
      have z2 : IntKind.u64.wrap 7 = 7 := by kernel_rfl
      have z3 : wrap64 (-128) = -128 := by kernel_rfl
      have z4 : wrap64 128 = 128 := by kernel_rfl
      obtain ⟨C0, hC0⟩ : ∃ z, decide (b / 256 ≠ 0) = z := ⟨_, rfl⟩
      have E0 := hide (show RES = if (!C0) = true then 0 else 2 by rw [unhide HH, ← hC0]; rfl)
      clear HH
      cases C0
      · have hC1 : b / 256 = 0 := by simpa using hC0
        have E := hide (show RES = 0 from unhide E0)
        clear E0 hC0
        go_wp2_with fail
        go_ret
        exact ⟨by rw [unhide E] <;> rfl, (unhide PQ).bl⟩
      · have hC1 : ¬ b / 256 = 0 := by simpa using hC0
        have E := hide (show RES = 2 from unhide E0)
        clear E0 hC0
        go_wp2_with fail
        go_ret
        exact ⟨by rw [unhide E] <;> rfl, (unhide PQ).bl⟩
    · subst q
      have z1 : IntKind.u64.wrap (wrap64 16) = 16 := by kernel_rfl
      have z2 : IntKind.u64.wrap 15 = 15 := by kernel_rfl
      have z3 : wrap64 (-32768) = -32768 := by kernel_rfl
      have z4 : wrap64 32768 = 32768 := by kernel_rfl
      obtain ⟨C0, hC0⟩ : ∃ z, decide (b / 65536 ≠ 0) = z := ⟨_, rfl⟩
      have E0 := hide (show RES = if (!C0) = true then 0 else 2 by rw [unhide HH, ← hC0]; rfl)
      clear HH
      cases C0
      · have hC1 : b / 65536 = 0 := by simpa using hC0
        have E := hide (show RES = 0 from unhide E0)
        clear E0 hC0
        go_wp2_with fail
        go_ret
        exact ⟨by rw [unhide E] <;> rfl, (unhide PQ).bl⟩
      · have hC1 : ¬ b / 65536 = 0 := by simpa using hC0
        have E := hide (show RES = 2 from unhide E0)
        clear E0 hC0
        go_wp2_with fail
        go_ret
        exact ⟨by rw [unhide E] <;> rfl, (unhide PQ).bl⟩
    · subst q
      have z1 : IntKind.u64.wrap (wrap64 32) = 32 := by kernel_rfl
      have z2 : IntKind.u64.wrap 31 = 31 := by kernel_rfl
      have z3 : wrap64 (-2147483648) = -2147483648 := by kernel_rfl
      have z4 : wrap64 2147483648 = 2147483648 := by kernel_rfl
      obtain ⟨C0, hC0⟩ : ∃ z, decide (b / 4294967296 ≠ 0) = z := ⟨_, rfl⟩
      have E0 := hide (show RES = if (!C0) = true then 0 else 2 by rw [unhide HH, ← hC0]; rfl)
      clear HH
      cases C0
      · have hC1 : b / 4294967296 = 0 := by simpa using hC0
        have E := hide (show RES = 0 from unhide E0)
        clear E0 hC0
        go_wp2_with fail
        go_ret
        exact ⟨by rw [unhide E] <;> rfl, (unhide PQ).bl⟩
      · have hC1 : ¬ b / 4294967296 = 0 := by simpa using hC0
        have E := hide (show RES = 2 from unhide E0)
        clear E0 hC0
        go_wp2_with fail
        go_ret
        exact ⟨by rw [unhide E] <;> rfl, (unhide PQ).bl⟩
    · subst q
      have z1 : IntKind.u64.wrap (wrap64 64) = 64 := by kernel_rfl
      have E := hide (show RES = 0 from unhide HH)
      clear HH
      go_wp2_with fail
      go_ret
      exact ⟨by rw [unhide E] <;> rfl, (unhide PQ).bl⟩
  · subst h5
    have hk3 := hk2.resolve_left (by decide)
    have hv1 := vok5 (v := ⟨5, i, b, tx, ⟨ng, y, mo, d, h, mi, s, mc⟩⟩) (t := t) (un := un) rfl ((unhide HK).symm.trans hk3.symm) (unhide HO2).symm
    simp only at hv1
    rw [← unhide HN] at hv1
    have HH := hide (unhide HR4 _ hv1)
    clear hv1 hk3 hk1 hk2 HO2 hV HKD HK HN HS HR4
    cases WN
    · have E := hide (show RES = 2 from unhide HH)
      clear HH
      go_wp2_with (go_at_call 65; (with_reducible refine (unhide cW _).mono ?_); rintro e w3 ⟨rfl, b3⟩; have P3 := hide ((unhide PQ).later b3).bl; clear b3)
      go_ret
      exact ⟨by rw [unhide E] <;> rfl, unhide P3⟩
    · have E := hide (show RES = 0 from unhide HH)
      clear HH
      go_wp2_with (go_at_call 65; (with_reducible refine (unhide cW _).mono ?_); rintro e w3 ⟨rfl, b3⟩; have P3 := hide ((unhide PQ).later b3).bl; clear b3)
      go_ret
      exact ⟨by rw [unhide E] <;> rfl, unhide P3⟩


end Go.Proofs.YtgldbainhncneaaGreatDoor

namespace Go.Proofs.YtgldbainhncneaaGreatDoor
open Go.RowKit
set_option linter.unusedVariables false
set_option linter.unusedSimpArgs false

set_option maxHeartbeats 4000000 in
set_option maxRecDepth 100000 in
theorem check_r3 (v : Va) (t : Int) (un : Bool) (w : World) (q0 : 0 ≤ t) (q1 : t < 256) (hv : VaK v) (hk : v.k = 6 ∨ v.k = 7 ∨ ((v.k != 0) = true ∧ (v.k != 1) = true ∧ (v.k != 2) = true ∧ (v.k != 3) = true ∧ (v.k != 4) = true ∧ (v.k != 5) = true ∧ (v.k != 6) = true ∧ (v.k != 7) = true)) : Calls Tryz.prog 71 #[.agg (vaC v), .agg #[.int .u8 t, .bool un]] w fun e w' => e = .returned (.int .i64 (if vOk v t un = true then 0 else 2)) ∧ Below w.heap.size w w' := by
  have cK := hide (fun wx => kind_ref t un wx q0 q1)
  have cS := hide (fun wx => vsize_ref t wx)
  have cW := hide (fun wx => when_ref v.w t wx)
  have P0 := Pv.box w v t un
  have hsz : szV t = 1 ∨ szV t = 2 ∨ szV t = 4 ∨ szV t = 8 := by
    unfold szV
    repeat' split
    all_goals simp
  have hNW := nqw v.w wh0
  obtain ⟨RES, hRES⟩ : ∃ z : Int, z = if vOk v t un = true then 0 else 2 := ⟨_, rfl⟩
  rw [← hRES]
  obtain ⟨OTH, hOTH⟩ : ∃ z, z = oth v := ⟨_, rfl⟩
  obtain ⟨B0, hB0⟩ : ∃ z, z = (decide (kdV t un < 0) || ((v.k != 0) && (v.k != kdV t un))) := ⟨_, rfl⟩
  have HR1 := hide (fun (h : B0 = true) => show RES = 2 by rw [hRES, vok_b0 (hB0 ▸ h)]; rfl)
  have HR2 := hide (fun (h : OTH = true) => show RES = 2 by rw [hRES, vok_oth (hOTH ▸ h)]; rfl)
  have HRK := hide (fun (h : B0 = false) => show kdV t un ≠ -1 ∧ (v.k = 0 ∨ v.k = kdV t un) by
    rw [hB0] at h
    simp only [Bool.or_eq_false_iff, Bool.and_eq_false_iff, decide_eq_false_iff_not, bne_eq_false_iff_eq] at h
    exact ⟨by omega, h.2⟩)
  have HR3 := hide (fun (h : OTH = false) (B : Bool) (hB : vOk v t un = B) => show RES = if B = true then 0 else 2 by rw [hRES, hB])
  have HS := hide hsz
  have HO := hide hOTH
  have HB := hide hB0
  have HO2 := hide hOTH
  unfold oth at HO
  have hV := hide hv
  have HKD := hide (kd_cases t un)
  clear hRES hsz hOTH hB0 hv
  obtain ⟨SZ, hSZ⟩ : ∃ z, z = szV t := ⟨_, rfl⟩
  obtain ⟨KD, hKD⟩ : ∃ z, z = kdV t un := ⟨_, rfl⟩
  obtain ⟨DW, hDW⟩ : ∃ z, z = decide (v.w = wh0) := ⟨_, rfl⟩
  obtain ⟨WN, hWN⟩ : ∃ z, z = if t = 11 then tmOk v.w else dtOk v.w t := ⟨_, rfl⟩
  rw [← hSZ] at cS HS
  rw [← hKD] at cK HB HRK HKD
  rw [← hDW] at hNW HO
  rw [← hWN] at cW
  have HZ := hide hSZ
  have HK := hide hKD
  have HN := hide hWN
  clear hSZ hKD hDW hWN
  obtain ⟨k, i, b, tx, ⟨ng, y, mo, d, h, mi, s, mc⟩⟩ := v
  unfold vaC at ⊢
  unfold whC wh0 at hNW
  unfold whC at cW
  simp only at *
  obtain ⟨w1, hw1⟩ : ∃ z, z = (w.alloc (.cells #[.int .i64 k, .int .i64 i, .int .u64 b, .string tx, .bool ng, .int .i64 y, .int .i64 mo, .int .i64 d, .int .i64 h, .int .i64 mi, .int .i64 s, .int .i64 mc] 32)).alloc (.cells #[.int .u8 t, .bool un] 23) := ⟨_, rfl⟩
  rw [show (w.alloc (.cells (vaC ⟨k, i, b, tx, ⟨ng, y, mo, d, h, mi, s, mc⟩⟩) 32)).alloc (.cells #[.int .u8 t, .bool un] 23) = w1 from hw1.symm] at P0
  have HW := hide hw1.symm
  have PP := hide P0
  obtain ⟨k0, k1, k2, k3, k4, k5, k6, k7, k8, k9, k10, k11, t0, t1⟩ := P0.cells
  clear hw1 P0
  go_enter Tryz.func71, Tryz.ntmps71
  go_upto_region 2 with (go_at_call 26; rw [unhide HW]; refine (unhide cK _).mono ?_; rintro e w2 ⟨rfl, b2⟩; have P2 := (unhide PP).later b2; clear b2 k0 k1 k2 k3 k4 k5 k6 k7 k8 k9 k10 k11 t0 t1; obtain ⟨k0, k1, k2, k3, k4, k5, k6, k7, k8, k9, k10, k11, t0, t1⟩ := P2.cells; have PQ := hide P2; clear P2)
  go_cut [6] (fun s wx => s = .bool B0 ∧ wx = w2)
  case first =>
    obtain ⟨A0, hA0⟩ : ∃ z, decide (KD < 0) = z := ⟨_, rfl⟩
    obtain ⟨A1, hA1⟩ : ∃ z, (k != 0) = z := ⟨_, rfl⟩
    obtain ⟨A2, hA2⟩ : ∃ z, (k != KD) = z := ⟨_, rfl⟩
    rw [hA0, hA1, hA2] at HB
    cases A0
    · cases A1
      · go_wp2_with fail
        go_meet
        exact ⟨by rw [unhide HB] <;> rfl, rfl⟩
      · cases A2
        · go_wp2_with fail
          go_meet
          exact ⟨by rw [unhide HB] <;> rfl, rfl⟩
        · go_wp2_with fail
          go_meet
          exact ⟨by rw [unhide HB] <;> rfl, rfl⟩
    · go_wp2_with fail
      go_meet
      exact ⟨by rw [unhide HB] <;> rfl, rfl⟩
  obtain ⟨rfl, hcw⟩ := hcut
  have hcw := hcw.symm
  subst hcw
  go_upto_region 4 with (go_at_call 27; (with_reducible refine same_world (unhide cS _) ?_))
  go_cut [81] (fun s wx => s = .bool OTH ∧ wx = w2)
  case first =>
    obtain ⟨DI, hDI⟩ : ∃ z, (i != 0) = z := ⟨_, rfl⟩
    obtain ⟨DB, hDB⟩ : ∃ z, (b != 0) = z := ⟨_, rfl⟩
    obtain ⟨DT, hDT⟩ : ∃ z, decide (tx = ⟨#[]⟩) = z := ⟨_, rfl⟩
    rw [hDI, hDB, hDT] at HO
    rcases hk with h6 | h7 | ⟨g0, g1, g2, g3, g4, g5, g6, g7⟩
    · subst h6
      cases DI
      · cases DB
        · cases DT
          · have hT : ¬ tx.toList = [] := fun z => of_decide_eq_false hDT (vba_nil z)
            clear hDT
            clear HR1 HR2 HRK HR3 HS HB HO2 hV HKD HZ HK HN cS cW cK
            go_wp2_with fail
            go_meet
            exact ⟨by rw [unhide HO] <;> rfl, rfl⟩
          · obtain rfl := of_decide_eq_true hDT
            clear hDT
            clear HR1 HR2 HRK HR3 HS HB HO2 hV HKD HZ HK HN cS cW cK
            go_wp2_with fail
            go_meet
            exact ⟨by rw [unhide HO] <;> rfl, rfl⟩
        · clear HR1 HR2 HRK HR3 HS HB HO2 hV HKD HZ HK HN cS cW cK
          go_wp2_with fail
          go_meet
          exact ⟨by rw [unhide HO] <;> rfl, rfl⟩
      · clear HR1 HR2 HRK HR3 HS HB HO2 hV HKD HZ HK HN cS cW cK
        go_wp2_with fail
        go_meet
        exact ⟨by rw [unhide HO] <;> rfl, rfl⟩
    · subst h7
      cases DI
      · cases DB
        · cases DW
          · clear HR1 HR2 HRK HR3 HS HB HO2 hV HKD HZ HK HN cS cW cK
            go_wp2_with fail
            go_meet
            exact ⟨by rw [unhide HO] <;> rfl, rfl⟩
          · clear HR1 HR2 HRK HR3 HS HB HO2 hV HKD HZ HK HN cS cW cK
            go_wp2_with fail
            go_meet
            exact ⟨by rw [unhide HO] <;> rfl, rfl⟩
        · clear HR1 HR2 HRK HR3 HS HB HO2 hV HKD HZ HK HN cS cW cK
          go_wp2_with fail
          go_meet
          exact ⟨by rw [unhide HO] <;> rfl, rfl⟩
      · clear HR1 HR2 HRK HR3 HS HB HO2 hV HKD HZ HK HN cS cW cK
        go_wp2_with fail
        go_meet
        exact ⟨by rw [unhide HO] <;> rfl, rfl⟩
    · cases DI
      · cases DB
        · cases DT
          · have hT : ¬ tx.toList = [] := fun z => of_decide_eq_false hDT (vba_nil z)
            clear hDT
            clear HR1 HR2 HRK HR3 HS HB HO2 hV HKD HZ HK HN cS cW cK
            go_wp2_with fail
            go_meet
            exact ⟨by rw [unhide HO] <;> simp [g0, g1, g2, g3, g4, g5, g6, g7], rfl⟩
          · obtain rfl := of_decide_eq_true hDT
            clear hDT
            cases DW
            · clear HR1 HR2 HRK HR3 HS HB HO2 hV HKD HZ HK HN cS cW cK
              go_wp2_with fail
              go_meet
              exact ⟨by rw [unhide HO] <;> simp [g0, g1, g2, g3, g4, g5, g6, g7], rfl⟩
            · clear HR1 HR2 HRK HR3 HS HB HO2 hV HKD HZ HK HN cS cW cK
              go_wp2_with fail
              go_meet
              exact ⟨by rw [unhide HO] <;> simp [g0, g1, g2, g3, g4, g5, g6, g7], rfl⟩
        · clear HR1 HR2 HRK HR3 HS HB HO2 hV HKD HZ HK HN cS cW cK
          go_wp2_with fail
          go_meet
          exact ⟨by rw [unhide HO] <;> simp [g0, g1, g2, g3, g4, g5, g6, g7], rfl⟩
      · clear HR1 HR2 HRK HR3 HS HB HO2 hV HKD HZ HK HN cS cW cK
        go_wp2_with fail
        go_meet
        exact ⟨by rw [unhide HO] <;> simp [g0, g1, g2, g3, g4, g5, g6, g7], rfl⟩
  obtain ⟨rfl, hcw⟩ := hcut
  have hcw := hcw.symm
  subst hcw
  clear HO HB
  cases OTH
  rotate_left
  · have E := hide (unhide HR2 rfl)
    clear HR1 HR2 HRK HR3 HS HO2 hV HKD HZ HK HN cS cW cK
    go_wp2_with fail
    go_ret
    exact ⟨by rw [unhide E] <;> rfl, (unhide PQ).bl⟩
  cases B0
  rotate_left
  · have E := hide (unhide HR1 rfl)
    clear HR1 HR2 HRK HR3 HS HO2 hV HKD HZ HK HN cS cW cK
    go_wp2_with fail
    go_ret
    exact ⟨by rw [unhide E] <;> rfl, (unhide PQ).bl⟩
  obtain ⟨hk1, hk2⟩ := unhide HRK rfl
  clear HR1 HR2 HRK cS cK
  have HR4 := hide (unhide HR3 rfl)
  clear HR3
  rcases hk with h6 | h7 | ⟨g0, g1, g2, g3, g4, g5, g6, g7⟩
  · subst h6
    have hk3 := hk2.resolve_left (by decide)
    have hv1 := vok6 (v := ⟨6, i, b, tx, ⟨ng, y, mo, d, h, mi, s, mc⟩⟩) (t := t) (un := un) rfl ((unhide HK).symm.trans hk3.symm) (unhide HO2).symm
    simp only at hv1
    rw [← unhide HN] at hv1
    have HH := hide (unhide HR4 _ hv1)
    clear hv1 hk3 hk1 hk2 HO2 hV HKD HK HN HS HR4
    cases WN
    · have E := hide (show RES = 2 from unhide HH)
      clear HH
      go_wp2_with (go_at_call 65; (with_reducible refine (unhide cW _).mono ?_); rintro e w3 ⟨rfl, b3⟩; have P3 := hide ((unhide PQ).later b3).bl; clear b3)
      go_ret
      exact ⟨by rw [unhide E] <;> rfl, unhide P3⟩
    · have E := hide (show RES = 0 from unhide HH)
      clear HH
      go_wp2_with (go_at_call 65; (with_reducible refine (unhide cW _).mono ?_); rintro e w3 ⟨rfl, b3⟩; have P3 := hide ((unhide PQ).later b3).bl; clear b3)
      go_ret
      exact ⟨by rw [unhide E] <;> rfl, unhide P3⟩
  · subst h7
    have hk3 := hk2.resolve_left (by decide)
    have hv1 := vok7 (v := ⟨7, i, b, tx, ⟨ng, y, mo, d, h, mi, s, mc⟩⟩) (t := t) (un := un) rfl ((unhide HK).symm.trans hk3.symm) (unhide HO2).symm
    simp only at hv1
    have HH := hide (unhide HR4 _ hv1)
    clear hv1 hk3 hk1 hk2 HO2 hV HKD HK HN HS HR4 cW
    by_cases hz : tx.size ≤ 16777216
    · have hz2 : ¬ (16777216 : Int) < (tx.size : Int) := by omega
      have E := hide (show RES = 0 by rw [unhide HH, decide_eq_true hz]; rfl)
      clear HH hz
      go_wp2_with fail
      go_ret
      exact ⟨by rw [unhide E] <;> rfl, (unhide PQ).bl⟩
    · have hz2 : (16777216 : Int) < (tx.size : Int) := by omega
      have E := hide (show RES = 2 by rw [unhide HH, decide_eq_false hz]; rfl)
      clear HH hz
      go_wp2_with fail
      go_ret
      exact ⟨by rw [unhide E] <;> rfl, (unhide PQ).bl⟩
  · exfalso
    have e0 : k ≠ 0 := by simpa using g0
    have hk3 := hk2.resolve_left e0
    simp only [bne_iff_ne, ne_eq] at g0 g1 g2 g3 g4 g5 g6 g7
    rcases unhide HKD with q | q | q | q | q | q | q | q | q <;> omega


end Go.Proofs.YtgldbainhncneaaGreatDoor

namespace Go.Proofs.YtgldbainhncneaaGreatDoor
open Go.RowKit
set_option linter.unusedVariables false
set_option linter.unusedSimpArgs false

theorem check_ref (v : Va) (t : Int) (un : Bool) (w : World) (q0 : 0 ≤ t) (q1 : t < 256) (hv : VaK v) : Calls Tryz.prog 71 #[.agg (vaC v), .agg #[.int .u8 t, .bool un]] w fun e w' => e = .returned (.int .i64 (if vOk v t un = true then 0 else 2)) ∧ Below w.heap.size w w' := by
  by_cases h0 : v.k = 0
  · exact check_r1 v t un w q0 q1 hv (.inl h0)
  by_cases h1 : v.k = 1
  · exact check_r1 v t un w q0 q1 hv (.inr (.inl h1))
  by_cases h2 : v.k = 2
  · exact check_r1 v t un w q0 q1 hv (.inr (.inr h2))
  by_cases h3 : v.k = 3
  · exact check_r2 v t un w q0 q1 hv (.inl h3)
  by_cases h4 : v.k = 4
  · exact check_r2 v t un w q0 q1 hv (.inr (.inl h4))
  by_cases h5 : v.k = 5
  · exact check_r2 v t un w q0 q1 hv (.inr (.inr h5))
  by_cases h6 : v.k = 6
  · exact check_r3 v t un w q0 q1 hv (.inl h6)
  by_cases h7 : v.k = 7
  · exact check_r3 v t un w q0 q1 hv (.inr (.inl h7))
  exact check_r3 v t un w q0 q1 hv (.inr (.inr ⟨by simpa using h0, by simpa using h1, by simpa using h2, by simpa using h3, by simpa using h4, by simpa using h5, by simpa using h6, by simpa using h7⟩))


end Go.Proofs.YtgldbainhncneaaGreatDoor
