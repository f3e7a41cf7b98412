/-
  What dynamic of the document's reader does and answers: two codes. Conditions: the state's own bounds; nothing went wrong ahead of it.
-/
import Derived.Test.YtnoabdafmgmenaaGreatDoorRiDynU
import Derived.Deep.DeepCutAuto
import Derived.Deep.CutBlock
namespace Go.Proofs.YtnoabdafmgmenaaGreatDoor
open Go.RowKit
set_option linter.unusedVariables false
set_option linter.unusedSimpArgs false

section
variable {E : Env} {g : Nat} {oo : Option Addr} {oc : Nat} {s : PS}
/-- The state behind the three counts. -/
def dy0 (V1 V2 : Int) (s3 : PS) : PS := if s3.e = 0 ∧ (286 < V1 + 257 ∨ 30 < V2 + 1) then { s3 with e := 5 } else s3
/-- Behind an 'if' that may set an error. -/
def dyE (c : Bool) (t : PS) : PS := if t.e = 0 ∧ c = true then { t with e := 5 } else t
theorem dyE_no {t : PS} {c : Bool} (h : ¬ (t.e = 0 ∧ c = true)) : dyE c t = t := if_neg h
theorem dyE_yes {t : PS} {c : Bool} (h : t.e = 0) (hc : c = true) : dyE c t = { t with e := 5 } := if_pos ⟨h, hc⟩

theorem ordL_lt : ∀ i : Nat, i < 19 → ordL[i]?.getD 0 < 19 := by decide
set_option maxHeartbeats 8000000 in
set_option maxRecDepth 20000 in
theorem dynamic_rd (w : World) (he0 : s.e = 0) (h : Rt E g w oo oc s) :
    Calls Tryz.prog 63 #[.pointer (some ⟨g, 0, none⟩)] w fun e w' => OutD E g w.heap.size w oo oc (cosS E.bs s) e w' := by
  obtain ⟨q1, q2, bl, z2⟩ := two_blocks w #[.slice none 0 0, .slice none 0 0] #[.slice none 0 0, .slice none 0 0] 101
  have hgl := h.lt
  have hob0 := fun k (hk : ob oo k) => (h.out.ob hk).2
  have H := hide (h.later bl)
  have BL := hide bl
  have Q1 := hide q1
  have Q2 := hide q2
  have v1b := fldR_bd E.bs 5 s
  have v2b := fldR_bd E.bs 5 (fldN E.bs 5 s).2
  have v3b := fldR_bd E.bs 4 (fldN E.bs 5 (fldN E.bs 5 s).2).2
  have hO := fld_or (b := E.bs) (n := 4) (fld_or (b := E.bs) (n := 5) (fld_or (b := E.bs) (n := 5) (.inl he0 : s.e = 0 ∨ Dd s)))
  have hA := hide (fun q => cos_dd (b := E.bs) (s := s) he0 q)
  have hC := hide (fun q1 q2 q3 => cos_ok (b := E.bs) (s := s) he0 q1 q2 q3)
  have hV := hide (show (fldN E.bs 4 (fldN E.bs 5 (fldN E.bs 5 s).2).2).2.e = 0 → fldR E.bs 5 s = (fldN E.bs 5 s).1 ∧ fldR E.bs 5 (fldN E.bs 5 s).2 = (fldN E.bs 5 (fldN E.bs 5 s).2).1 ∧ fldR E.bs 4 (fldN E.bs 5 (fldN E.bs 5 s).2).2 = (fldN E.bs 4 (fldN E.bs 5 (fldN E.bs 5 s).2).2).1 from
    fun q => ⟨fldR_ok (fld_back (fld_back q)), fldR_ok (fld_back q), fldR_ok q⟩)
  have f1 := hide (fun w' (h : Rt E g w' oo oc s) => field_rd w' 5 (by omega) 5 rfl h)
  have f2 := hide (fun w' (h : Rt E g w' oo oc (fldN E.bs 5 s).2) => field_rd w' 5 (by omega) 5 rfl h)
  have f3 := hide (fun w' (h : Rt E g w' oo oc (fldN E.bs 5 (fldN E.bs 5 s).2).2) => field_rd w' 4 (by omega) 4 rfl h)
  clear h bl q1 q2
  obtain ⟨RC, hRC⟩ : ∃ RC, RC = cosS E.bs s := ⟨_, rfl⟩
  rw [← hRC] at hA hC ⊢
  clear hRC
  generalize hs3 : (fldN E.bs 4 (fldN E.bs 5 (fldN E.bs 5 s).2).2).2 = s3 at *
  generalize hV3 : fldR E.bs 4 (fldN E.bs 5 (fldN E.bs 5 s).2).2 = V3 at *
  generalize (fldN E.bs 4 (fldN E.bs 5 (fldN E.bs 5 s).2).2).1 = U3 at *
  generalize (fldN E.bs 5 (fldN E.bs 5 s).2).2 = s2 at *
  generalize fldR E.bs 5 (fldN E.bs 5 s).2 = V2 at *
  generalize (fldN E.bs 5 (fldN E.bs 5 s).2).1 = U2 at *
  generalize (fldN E.bs 5 s).2 = s1 at *
  generalize fldR E.bs 5 s = V1 at *
  generalize (fldN E.bs 5 s).1 = U1 at *
  clear hs3 hV3
  go_enter Tryz.func63, Tryz.ntmps63
  go_wp2_with fail
  generalize (w.alloc (.cells #[.slice none 0 0, .slice none 0 0] 101)).alloc (.cells #[.slice none 0 0, .slice none 0 0] 101) = w2 at *
  have hgB : g < w2.heap.size := by omega
  have hoB : ∀ k, ob oo k → k < w2.heap.size := fun k q => by have := hob0 k q; omega
  refine (unhide f1 w2 (unhide H)).mono ?_
  rintro e w3 ⟨rfl, s1', g1'⟩
  have S1 := hide s1'
  clear s1'
  go_wp2_with fail
  refine (unhide f2 w3 (unhide S1)).mono ?_
  rintro e w4 ⟨rfl, s2', g2'⟩
  have S2 := hide s2'
  clear s2'
  go_wp2_with fail
  refine (unhide f3 w4 (unhide S2)).mono ?_
  rintro e w5 ⟨rfl, s3', g3'⟩
  have c2 := s3'.c2
  have ff2 := s3'.free 2
  have S3 := hide s3'
  have G5 := hide ((g1'.trans g2').trans g3')
  have z5 := (unhide G5).size
  clear s3' g1' g2' g3' S1 S2 H f1 f2 f3
  obtain ⟨B0, hB0⟩ : ∃ B0 : Bool, B0 = decide (s3.e = 0 ∧ (286 < V1 + 257 ∨ 30 < V2 + 1)) := ⟨_, rfl⟩
  have HB0 := hide hB0
  clear hB0
  go_upto_region 4 with fail
  go_cut [35] (fun v wx => v = .bool B0 ∧ wx = w5)
  case first =>
    by_cases a1 : s3.e = 0
    · have a1' : (s3.e == 0) = true := by simpa using a1
      by_cases a2 : 286 < V1 + 257
      · have hd := hide (show B0 = true by rw [unhide HB0]; simp [a1, a2])
        clear a1
        go_wp2_with fail
        go_meet
        rw [unhide hd]
        exact ⟨rfl, rfl⟩
      · by_cases a3 : 30 < V2 + 1
        · have hd := hide (show B0 = true by rw [unhide HB0]; simp [a1, a3])
          clear a1
          go_wp2_with fail
          go_meet
          rw [unhide hd]
          exact ⟨rfl, rfl⟩
        · have hd := hide (show B0 = false by rw [unhide HB0]; simp [a2, a3])
          clear a1
          go_wp2_with fail
          go_meet
          rw [unhide hd]
          exact ⟨rfl, rfl⟩
    · have a1' : (s3.e == 0) = false := by simpa using a1
      have hd := hide (show B0 = false by rw [unhide HB0]; simp [a1])
      clear a1
      go_wp2_with fail
      go_meet
      rw [unhide hd]
      exact ⟨rfl, rfl⟩
  case rest =>
    obtain ⟨rfl, hwc⟩ := hcut
    subst hwc
    obtain ⟨t0, ht0⟩ : ∃ t0, t0 = if B0 = true then { s3 with e := 5 } else s3 := ⟨_, rfl⟩
    have HT0 := hide ht0
    clear ht0
    go_upto_if 35 with fail
    go_cut [] (fun wx => Rt E g wx oo oc t0 ∧ Gb g w2 wx)
    case first =>
      cases B0 with
      | true =>
        have S5 := hide ((unhide S3).putE 5 (by omega) (by omega))
        have hd := hide (show t0 = { s3 with e := 5 } by rw [unhide HT0]; rfl)
        go_wp2_with fail
        go_meet
        rw [unhide hd]
        exact ⟨unhide S5, (unhide G5).set 2 _⟩
      | false =>
        have hd := hide (show t0 = s3 by rw [unhide HT0]; rfl)
        go_wp2_with fail
        go_meet
        rw [unhide hd]
        exact ⟨unhide S3, unhide G5⟩
    case rest =>
      obtain ⟨s0', g0'⟩ := hcut
      obtain ⟨wT, hwT⟩ : ∃ wT, wT = wc := ⟨_, rfl⟩
      rw [← hwT] at s0' g0' ⊢
      clear hwT S3 G5 c2 ff2 z5
      obtain ⟨K, hK⟩ : ∃ K : Nat, V3 + 4 = (K : Int) := ⟨(V3 + 4).toNat, by omega⟩
      have hK19 : K ≤ 19 := by omega
      have hK4 : 4 ≤ K := by omega
      have S0 := hide s0'
      have G0 := hide g0'
      have z0 := g0'.size
      clear s0' g0'
      go_upto_block 0 with (at_make; refine wpList_imkFull rfl _ _ rfl _ _ 19 19 19 rfl rfl rfl rfl (by omega) ?_; intro w6 m6 b6 l6)
      obtain ⟨q, hq⟩ : ∃ q, wT.heap.size = q := ⟨_, rfl⟩
      have S6 := hide ((unhide S0).later b6)
      rw [hq] at m6 l6 z0 b6
      have G6 := hide (show Gx g q wT w6 from below_gx b6)
      rw [hq]
      have hqg : g < q := by omega
      have hoq : ∀ k, ob oo k → k < q := fun k y => by have := hoB k y; omega
      have M6 := hide m6
      clear m6 b6
      go_cut [8] (fun iv wx => ∃ (cl : List Int), cl.length = 19 ∧ IMine q wx (some ⟨q, 0, none⟩) 19 19 cl ∧ Rt E g wx oo oc (colN E.bs K t0).2 ∧ ((colN E.bs K t0).2.e = 0 → cl = (colN E.bs K t0).1) ∧ Gx g q wT wx ∧ q < wx.heap.size)
      case first =>
        go_wp2_with fail
        go_loopw [8] (fun iv ws => ∃ (i : Nat) (cl : List Int), i ≤ K ∧ iv = .int .i64 (i : Int) ∧ cl.length = 19 ∧ IMine q ws (some ⟨q, 0, none⟩) 19 19 cl ∧ Rt E g ws oo oc (colN E.bs i t0).2 ∧ ((colN E.bs i t0).2.e = 0 → cl = (colN E.bs i t0).1) ∧ Gx g q wT ws ∧ q < ws.heap.size) (fun iv _ => K - (intOf iv).toNat)
        case atStart => exact ⟨0, List.replicate 19 0, by omega, rfl, by simp, unhide M6, unhide S6, fun _ => rfl, unhide G6, l6⟩
        case round =>
          clear M6 S6 G6 S0 l6
          obtain ⟨i, cl, hi, rfl, hcl, m7, s7, hc7, g7, l7⟩ := hrel
          have x2 := s7.c2
          by_cases hlt : i < K
          · have hlt' : (i : Int) < (K : Int) := by omega
            by_cases he : (colN E.bs i t0).2.e = 0
            · have he' : ((colN E.bs i t0).2.e == 0) = true := by simpa using he
              have oc' := hide (order_rd wr i (by omega))
              have hob := ordL_lt i (by omega)
              have fe := hide (fun w' (h : Rt E g w' oo oc (colN E.bs i t0).2) => field_rd w' 3 (by omega) 3 rfl h)
              have fb := fldR_bd E.bs 3 (colN E.bs i t0).2
              have hnx := hide (show (colN E.bs (i + 1) t0).2 = (fldN E.bs 3 (colN E.bs i t0).2).2 from rfl)
              have hnl := hide (show (fldN E.bs 3 (colN E.bs i t0).2).2.e = 0 → cl.set (ordL[i]?.getD 0) (fldR E.bs 3 (colN E.bs i t0).2) = (colN E.bs (i + 1) t0).1 from fun q => by rw [fldR_ok q, hc7 he]; rfl)
              have M7 := hide m7
              have S7 := hide s7
              have G7 := hide g7
              clear m7 s7 g7 hc7 he
              generalize (colN E.bs i t0).2 = t at *
              generalize fldR E.bs 3 t = V at *
              generalize (fldN E.bs 3 t).2 = t' at *
              generalize ordL[i]?.getD 0 = O at *
              go_wp2_with fail
              refine (unhide oc').mono ?_
              rintro e w8 ⟨rfl, b8⟩
              have S8 := hide ((unhide S7).later b8)
              have M8 := hide ((unhide M7).later b8)
              have G8 := hide ((unhide G7).trans (below_gx (b8.mono (by omega))))
              have l8 := Nat.lt_of_lt_of_le l7 b8.size
              clear b8
              go_wp2_with fail
              refine (unhide fe w8 (unhide S8)).mono ?_
              rintro e w9 ⟨rfl, s9, g9⟩
              have M9 := hide ((unhide M8).gb hqg g9)
              have G9 := hide ((unhide G8).trans (g9.gx (by omega)))
              have l9 := Nat.lt_of_lt_of_le l8 g9.size
              have hix := ihd w9 q 19 19 hob (O : Int) rfl
              have cx := imine_cell (unhide M9) hob
              have fx := (unhide M9).free O
              have hb9 : Below q w9 (w9.setCell ⟨q, O, none⟩ (.int .i64 V)) := (Below.refl q w9).setCell (by simp) _
              have S10 := hide (s9.under hqg hoq hb9)
              have M10 := hide ((unhide M9).stored O V (by omega) (by omega))
              have G10 := hide ((unhide G9).trans (below_gx hb9))
              clear s9 g9 hb9
              go_wp2_with fail
              go_roundw
              case rel => exact ⟨i + 1, cl.set O V, by omega, by go_num, by simp [hcl], unhide M10, by rw [unhide hnx]; exact unhide S10, by rw [unhide hnx]; exact unhide hnl, unhide G10, by simpa using l9⟩
              case measure => simp [intOf]; omega
            · have he' : ((colN E.bs i t0).2.e == 0) = false := by simpa using he
              have hst := hide (colN_stuck he K (by omega))
              have M7 := hide m7
              have S7 := hide s7
              have HE := hide he
              clear m7 s7 hc7 he
              generalize hcc : (colN E.bs i t0).2 = t at *
              clear hcc
              go_wp2_with fail
              go_meet
              exact ⟨cl, hcl, unhide M7, by rw [unhide hst]; exact unhide S7, fun q => absurd (by rw [← unhide hst]; exact q) (unhide HE), g7, l7⟩
          · have hlt' : ¬ (i : Int) < (K : Int) := by omega
            have hik : i = K := by omega
            subst hik
            go_wp2_with fail
            go_meet
            exact ⟨cl, hcl, m7, s7, hc7, g7, l7⟩
      case rest =>
        obtain ⟨cl, hcl, m7, s7, hc7, g7, l7⟩ := hcut
        obtain ⟨wL, hwL⟩ : ∃ wL, wL = wc := ⟨_, rfl⟩
        rw [← hwL] at m7 s7 g7 l7 ⊢
        clear hwL M6 S6 G6 S0 l6
        have hchk := hide (check_ref (some ⟨q, 0, none⟩) 19 19 cl wL m7.is)
        have hcb := cer_e cl
        have x2 := s7.c2
        have xf := s7.free 2
        obtain ⟨t3, ht3⟩ : ∃ t3, t3 = (colN E.bs K t0).2 := ⟨_, rfl⟩
        have HT3 := hide ht3
        rw [← ht3] at s7 x2 hc7
        have HC7 := hide hc7
        have M7 := hide m7
        have S7 := hide s7
        have G7 := hide g7
        clear m7 s7 g7 hc7 ht3
        obtain ⟨B1, hB1⟩ : ∃ B1 : Bool, B1 = decide (t3.e = 0 ∧ whole cl = false) := ⟨_, rfl⟩
        have HB1 := hide hB1
        have HWC := hide (fun z : whole cl = true => whole_cer z)
        clear hB1
        obtain ⟨t4, ht4⟩ : ∃ t4, t4 = if B1 = true then { t3 with e := 5 } else t3 := ⟨_, rfl⟩
        have HT4 := hide ht4
        clear ht4
        have FIN := dyn_fin (cl := cl) hO (unhide hA) (unhide hC) (unhide hV) hK (unhide HB0) (unhide HT0) (unhide HT3) (unhide HC7) (unhide HB1) (unhide HT4)
        have FX0 := hide FIN.1
        have LIV := hide FIN.2
        clear FIN hA hC hV
        generalize whole cl = WB at *
        generalize hce : cer cl = CE at *
        have HCE := hide hce
        clear hce
        go_upto_region 12 with (go_at_call 83; refine same_world (unhide hchk) ?_)
        go_cut [75] (fun v wx => v = .bool B1 ∧ wx = wL)
        case first =>
          by_cases a1 : t3.e = 0
          · have a1' : (t3.e == 0) = true := by simpa using a1
            by_cases a2 : CE = 0
            · have a2' : (CE != 0) = false := by simpa using a2
              have hd := hide (show B1 = !WB by rw [unhide HB1]; cases WB <;> simp [a1])
              clear a1 a2
              cases WB with
              | true =>
                go_wp2_with fail
                go_meet
                rw [unhide hd]
                exact ⟨rfl, rfl⟩
              | false =>
                go_wp2_with fail
                go_meet
                rw [unhide hd]
                exact ⟨rfl, rfl⟩
            · have a2' : (CE != 0) = true := by simpa using a2
              have hd := hide (show B1 = true by
                rw [unhide HB1]
                cases WB with
                | true => exact absurd (unhide HWC rfl) a2
                | false => simp [a1])
              clear a1 a2
              go_wp2_with fail
              go_meet
              rw [unhide hd]
              exact ⟨rfl, rfl⟩
          · have a1' : (t3.e == 0) = false := by simpa using a1
            have hd := hide (show B1 = false by rw [unhide HB1]; simp [a1])
            clear a1
            go_wp2_with fail
            go_meet
            rw [unhide hd]
            exact ⟨rfl, rfl⟩
        case rest =>
          obtain ⟨rfl, hwc⟩ := hcut
          subst hwc
          go_upto_if 75 with fail
          go_cut [] (fun wx => Rt E g wx oo oc t4 ∧ IMine q wx (some ⟨q, 0, none⟩) 19 19 cl ∧ Gx g q wT wx ∧ q < wx.heap.size)
          case first =>
            cases B1 with
            | true =>
              have S5 := hide ((unhide S7).putE 5 (by omega) (by omega))
              have hd := hide (show t4 = { t3 with e := 5 } by rw [unhide HT4]; rfl)
              have gs : Gb g wc (wc.setCell ⟨g, 2, none⟩ (.int .i64 5)) := (Gb.refl g wc).set 2 _
              have GS := hide gs
              clear gs
              go_wp2_with fail
              go_meet
              rw [unhide hd]
              exact ⟨unhide S5, (unhide M7).gb hqg (unhide GS), (unhide G7).trans ((unhide GS).gx (by omega)), by simpa using l7⟩
            | false =>
              have hd := hide (show t4 = t3 by rw [unhide HT4]; rfl)
              go_wp2_with fail
              go_meet
              rw [unhide hd]
              exact ⟨unhide S7, unhide M7, unhide G7, l7⟩
          case rest =>
            obtain ⟨sX, mX, gX, lX⟩ := hcut
            obtain ⟨wX, hwX⟩ : ∃ wX, wX = wc := ⟨_, rfl⟩
            rw [← hwX] at sX mX gX lX ⊢
            clear hwX S7 M7 G7 l7 x2 xf hchk
            have x4 := sX.c2
            by_cases e4 : t4.e = 0
            · have e4' : (t4.e != 0) = false := by simpa using e4
              obtain ⟨hRC4, v1le, v2le, hwh⟩ := unhide LIV e4
              have hc0 : cer cl = 0 := by rw [unhide HCE]; exact unhide HWC hwh
              have hk0 : cdd cl = cds cl := if_pos hc0
              obtain ⟨nl, hnl⟩ : ∃ nl : Nat, V1 + 257 = (nl : Int) := ⟨(V1 + 257).toNat, by omega⟩
              obtain ⟨nd, hnd⟩ : ∃ nd : Nat, V2 + 1 = (nd : Int) := ⟨(V2 + 1).toNat, by omega⟩
              have hnl2 : 257 ≤ nl ∧ nl ≤ 286 := by omega
              have hnd2 : 1 ≤ nd ∧ nd ≤ 30 := by omega
              have HR5 := hide (show RC = twoS nl (lenS cl E.bs (nl + nd) t4) by
                rw [hRC4]
                unfold co3S
                rw [show (257 + V1).toNat = nl by omega, show (257 + V1 + (1 + V2)).toNat = nl + nd by omega])
              have mr := hide (made_rd wX (some ⟨q, 0, none⟩) 19 19 cl mX.is)
              have HE4 := hide e4
              have HC0 := hide hc0
              have HMX := hide mX
              have HSX := hide sX
              have HGX := hide gX
              clear hRC4 hc0 sX gX mX e4 FX0 LIV HWC HCE
              go_wp2_with fail
              refine (unhide mr).mono ?_
              rintro e w8 ⟨⟨ko, kn, kc, rfl, i8⟩, b8⟩
              have hkn : kn = 19 := by rw [← i8.len, hk0, cds_len, hcl]
              subst hkn
              rw [hk0] at i8
              have lr := hide (fun NI (hNI : NI = ((nl + nd : Nat) : Int)) => lengths_rd w8 (some ⟨q, 0, none⟩) 19 19 cl ko kc (fun w' G => (((unhide HMX).later b8).gb hqg G).is) (fun w' G => (i8.gb (by omega) G).is) (unhide HC0) (by omega) (nl + nd) (by omega) NI hNI (unhide HE4) ((unhide HSX).later b8))
              have GX8 := hide ((unhide HGX).trans (below_gx (b8.mono (by omega))))
              have l8 := Nat.lt_of_lt_of_le lX b8.size
              clear i8 b8 mr
              obtain ⟨r5, hr5⟩ : ∃ r5, r5 = lenS cl E.bs (nl + nd) t4 := ⟨_, rfl⟩
              rw [← hr5] at lr HR5
              clear hr5
              go_wp2_with fail
              refine (unhide lr _ (by omega)).mono ?_
              obtain ⟨A, t5⟩ := r5
              rintro e w9 ⟨ao, an, ac, rfl, s9, g9, hl9⟩
              have gx9 : Gx g q wT w9 := (unhide GX8).trans (g9.gx (by omega))
              simp only at s9 hl9 HR5
              have DW := hide (show Dw E g w.heap.size w oo oc t5 w9 from by
                have y1 := unhide G0
                have y2 := unhide BL
                have y3 := gx9.size
                refine ⟨rfl, hgl, hob0, s9, ⟨gx9.os.trans (y1.os.trans y2.os), gx9.tape.trans (y1.tape.trans y2.tape), gx9.output.trans (y1.output.trans y2.output), by omega, fun k hk hn => ?_⟩, (gx9.block w.heap.size (by omega) (by omega)).trans ((y1.block w.heap.size (by omega) (by omega)).trans (unhide Q1)), (gx9.block (w.heap.size + 1) (by omega) (by omega)).trans ((y1.block (w.heap.size + 1) (by omega) (by omega)).trans (unhide Q2))⟩
                rw [gx9.block k (by omega) hn, y1.block k (by omega) hn, y2.block k hk])
              have DA := hide (show t5.e = 0 → an = nl + nd ∧ Da w.heap.size w9 ao nl nd ac w8.heap.size A from fun z => by
                obtain ⟨y1, y2, y3, y4⟩ := hl9 z
                exact ⟨y1, y3, y4, hnl2.1, hnl2.2, hnd2.1, hnd2.2, y2, by omega⟩)
              clear lr s9 hl9 g9 gx9
              go_upto_region 17 with fail
              exact dyn_t17 w.heap.size w RC _ _ _ (by kernel_rfl) _ _ (by assumption) (by assumption) w9 t5 ao an ac nl nd w8.heap.size A (nl : Int) rfl (unhide DW) (unhide DA) (unhide HR5) _ _ _ _ _ _ _ _ _ _ _ _ _ _ _ _ _ _ _ _ _ _ _ _ _ _ _ _ _ _ _ _ _ _ _ _ _ _ _ _ _ _ _ _ _ _ _ _ _ _ _ _ _ _ _ _ _ _ _ _ _ _ _ _ _ _ _ _ _ _ _ _ _ _ _ _ _ _ _ _ _ _ _ _ _ _ _ _ _ _ _ _ _ _ _ _ _ _ _ _ _ _ _ _ _ _ _ _ _ _ _ _ _ _ _ _ _ _ _ _ _ _ _ _ _ _ _ _ _ _ _ _ _ _ _ _ _ _ _ _ _ _ _ _ _ _ _ _ _ _ _ _ _ _
            · have e4' : (t4.e != 0) = true := by simpa using e4
              obtain ⟨tX, htX⟩ : ∃ tX, tX = t4 := ⟨_, rfl⟩
              have FX := hide (unhide FX0 e4)
              have eX := e4
              rw [← htX] at sX FX eX x4 e4'
              clear htX e4
              have k1 := hide ((gX.block w.heap.size (by omega) (by omega)).trans (((unhide G0).block w.heap.size (by omega) (by omega)).trans (unhide Q1)))
              have k2 := hide ((gX.block (w.heap.size + 1) (by omega) (by omega)).trans (((unhide G0).block (w.heap.size + 1) (by omega) (by omega)).trans (unhide Q2)))
              have SX := hide sX
              have GW := hide (show Gb g w wX from by
                have y1 := unhide G0
                have y2 := unhide BL
                have y3 := gX.size
                refine ⟨gX.os.trans (y1.os.trans y2.os), gX.tape.trans (y1.tape.trans y2.tape), gX.output.trans (y1.output.trans y2.output), by omega, fun k hk hn => ?_⟩
                rw [gX.block k (by omega) hn, y1.block k (by omega) hn, y2.block k hk])
              clear sX gX
              go_wp2_with (first
                | (with_reducible show wpList Tryz.prog _ _ (Oper.mk _ (Op.store 101 _ _) _ _ _ none :: _) _ _; refine wpList_cdStore rfl (.tmp 2) (.tmp 84) rfl w.heap.size (.slice none 0 0) (.slice none 0 0) _ _ rfl rfl rfl rfl (unhide k1) ?_; intro wY stY gY zY; have k3 := hide ((gY.block (w.heap.size + 1) (by omega) (by omega)).trans (unhide k2)))
                | (with_reducible show wpList Tryz.prog _ _ (Oper.mk _ (Op.store 101 _ _) _ _ _ none :: _) _ _; refine wpList_cdStore rfl (.tmp 3) (.tmp 85) rfl (w.heap.size + 1) (.slice none 0 0) (.slice none 0 0) _ _ rfl rfl rfl rfl (unhide k3) ?_; intro wZ stZ gZ zZ))
              have st1 := (gZ.block w.heap.size (by omega) (by omega)).trans stY
              refine bodyPost_ret (results_cd2 rfl _ _ w.heap.size (w.heap.size + 1) _ _ _ _ rfl st1 rfl stZ) rfl ?_
              have bZ : Below w.heap.size wX wZ := ⟨gZ.os.trans gY.os, gZ.tape.trans gY.tape, gZ.output.trans gY.output, by omega, fun k hk => (gZ.block k (by omega) (by omega)).trans (gY.block k (by omega) (by omega))⟩
              exact ⟨none, 0, 0, none, 0, 0, none, 0, 0, none, 0, 0, tX, rfl, (unhide SX).under hgl hob0 bZ, (unhide GW).gxt (below_gx bZ), unhide FX, fun y => absurd y eX⟩
end
end Go.Proofs.YtnoabdafmgmenaaGreatDoor
