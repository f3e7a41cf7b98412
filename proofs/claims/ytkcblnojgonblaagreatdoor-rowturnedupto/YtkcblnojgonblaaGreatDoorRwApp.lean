/-
  What AppendText of package row returns. It writes nothing that was there. Conditions: the slices can be read; at most 60 values, of texts of at most 3,000 bytes; at most 10,000 bytes ahead.
-/
import Derived.Test.YtkcblnojgonblaaGreatDoorRwLeaf
import Derived.Test.YtkcblnojgonblaaGreatDoorRwPlain
import Derived.Test.YtkcblnojgonblaaGreatDoorVaMay
import Derived.Test.YtkcblnojgonblaaGreatDoorGpCat
import Derived.Test.YtkcblnojgonblaaGreatDoorClRow
import Derived.Test.YtkcblnojgonblaaGreatDoorRyMem
import Derived.BigQuiet
import Derived.Deep.RegionHeld3
namespace Go.Proofs.YtkcblnojgonblaaGreatDoor
open Go.RowKit
set_option linter.unusedVariables false
set_option linter.unusedSimpArgs false

set_option maxHeartbeats 4000000 in
set_option maxRecDepth 100000 in
theorem appText_any (bo : Option Addr) (bn bc : Nat) (bb : List Int) (ao : Option Addr) (n c : Nat) (l : List Va) (w : World) (hb : Bs w bo bn bc bb) (hl : Vs w ao n c l) (hK : ∀ v ∈ l, VaK v ∧ v.t.size ≤ 3000) (hn : n ≤ 60) (hbn : bn ≤ 10000) :
    Calls Tryz.prog 30 #[.slice bo bn bc, .slice ao n c] w fun e w' => OutP w (if rtOk l = true then some (bb ++ rtB l) else none) e w' := by
  obtain ⟨RES, hRES⟩ : ∃ z, z = (if rtOk l = true then some (bb ++ rtB l) else none) := ⟨_, rfl⟩
  rw [← hRES]
  have HRES := hide hRES
  clear hRES
  have hln := hl.len
  have hle := hl.le
  have hmx := hl.max
  have hble := hb.le
  have hbmx := hb.max
  have HL := hide hl
  have HBB := hide hb
  have HK := hide hK
  have HRL := hide (fun j => rtB_len (l := l.take j) (fun v hv => (hK v (List.mem_of_mem_take hv)).2))
  clear hl hb hK
  go_enter Tryz.func30, Tryz.ntmps30
  go_wp2_with fail
  go_loopw [17, 6] (fun iv sv ws => ∃ (j : Nat) (oo : Option Addr) (on oc : Nat), j ≤ n ∧ iv = .int .i64 (j : Int) ∧ sv = .slice oo on oc ∧ Mine w.heap.size ws oo on oc (rtB (l.take j)) ∧ rtOk (l.take j) = true ∧ Below w.heap.size w ws) (fun iv _ _ => n - (intOf iv).toNat)
  case atStart => exact ⟨0, none, 0, 0, by omega, rfl, rfl, Mine.nought _ _, rfl, Below.refl _ _⟩
  case round =>
    obtain ⟨j, oo, on, oc, hj, rfl, rfl, hM, hQ, hB⟩ := hrel
    have hon : on ≤ 400000 := by
      have q1 := hM.len
      have q2 := unhide HRL j
      rw [List.length_take] at q2
      omega
    have hob := hB.size
    have HM := hide hM
    have HB := hide hB
    have HQ := hide hQ
    have hole := hM.bs.le
    have homx := hM.bs.max
    clear hM hB hQ
    by_cases hlt : j < n
    · obtain ⟨v, hv⟩ : ∃ v, l[j]? = some v := ⟨_, List.getElem?_eq_getElem (by omega)⟩
      have hlj : ((j : Nat) : Int) < (n : Int) := by omega
      obtain ⟨pb, po, hix, hat⟩ := ((unhide HL).later (unhide HB)).idx hv (j : Int) rfl
      have HAT := hide hat
      obtain ⟨hKv, hKs⟩ := unhide HK v (List.mem_of_getElem? hv)
      have SV := hide (vac_info v)
      have OV := hide (vac_one v)
      have cC := hide (fun wx => check_any v 253 false wx (by decide) (by decide) hKv)
      have cA := hide (fun wx => append_any none 0 0 [] v 253 false wx (by decide) (by decide) hKv (Bs.nought wx) (by simp) (by omega))
      have cN := hide (fun wx => isNull_any v wx)
      have HN := hide (rtB_next hv)
      have HT : Hid (tx1 v = if v.k = 0 then [251] else vaB v 253) := hide rfl
      have HO := hide (fun hq => rtOk_next hv (unhide HQ) hq)
      have HX := hide (fun hq => rtOk_no hv hq)
      have HBO := hide (fun (h : vOk v 253 false = true) (hk : ¬ v.k = 0) => ok_some h hk)
      have HVL := hide (vaB_len v 253)
      clear hat hv hKv
      generalize tx1 v = T1 at *
      generalize vaB v 253 = T2 at *
      generalize hOK : vOk v 253 false = OK at *
      clear hOK
      generalize bOk v 253 false = BO at *
      obtain ⟨k, i, b, tx, ⟨ng, y, mo, d, h, mi, s, mc⟩⟩ := v
      unfold vaC at cC cA cN SV OV
      simp only at cC cA cN SV OV HT HBO HVL
      cases OK
      · simp only [if_neg (show ¬ (false = true) by decide)] at cC
        have HR := hide (show RES = none by rw [unhide HRES, unhide HX rfl, if_neg (by decide)])
        clear cA cN HN HT HO HBO HVL HRL
        go_upto_region 7 with (first | (with_reducible show wpList Tryz.prog _ _ (Oper.mk _ (Op.load 38 _) _ _ _ none :: _) _ _; refine wpList_ldV rfl (.tmp 19) rfl pb po rfl ⟨k, i, b, tx, ⟨ng, y, mo, d, h, mi, s, mc⟩⟩ (unhide HAT) ?_) | (with_reducible show wpList Tryz.prog _ _ (Oper.mk _ (Op.store 38 _ _) _ _ _ none :: _) _ _; refine wpList_stN rfl _ (.tmp 8) (.tmp 20) rfl #[.int .i64 k, .int .i64 i, .int .u64 b, .string tx, .bool ng, .int .i64 y, .int .i64 mo, .int .i64 d, .int .i64 h, .int .i64 mi, .int .i64 s, .int .i64 mc] (by simp [Act.eval, Act.put]) rfl (unhide SV) rfl (unhide OV) ?_; intro w2 r2 b2 l2; have R2 := hide r2; have B2 := hide b2; clear r2 b2 l2))
        have KS := hide (fun (w' : World) (hx : Below w2.heap.size w2 w') => (show w'.cell? ⟨wr.heap.size, 0, none⟩ = some (.int .i64 k) ∧ w'.cell? ⟨wr.heap.size, 1, none⟩ = some (.int .i64 i) ∧ w'.cell? ⟨wr.heap.size, 2, none⟩ = some (.int .u64 b) ∧ w'.cell? ⟨wr.heap.size, 3, none⟩ = some (.string tx) ∧ w'.cell? ⟨wr.heap.size, 4, none⟩ = some (.bool ng) ∧ w'.cell? ⟨wr.heap.size, 5, none⟩ = some (.int .i64 y) ∧ w'.cell? ⟨wr.heap.size, 6, none⟩ = some (.int .i64 mo) ∧ w'.cell? ⟨wr.heap.size, 7, none⟩ = some (.int .i64 d) ∧ w'.cell? ⟨wr.heap.size, 8, none⟩ = some (.int .i64 h) ∧ w'.cell? ⟨wr.heap.size, 9, none⟩ = some (.int .i64 mi) ∧ w'.cell? ⟨wr.heap.size, 10, none⟩ = some (.int .i64 s) ∧ w'.cell? ⟨wr.heap.size, 11, none⟩ = some (.int .i64 mc) from (have q := vrow_later (unhide R2) hx; ⟨vrow_cell q (j := 0) (v := .int .i64 k) rfl, vrow_cell q (j := 1) (v := .int .i64 i) rfl, vrow_cell q (j := 2) (v := .int .u64 b) rfl, vrow_cell q (j := 3) (v := .string tx) rfl, vrow_cell q (j := 4) (v := .bool ng) rfl, vrow_cell q (j := 5) (v := .int .i64 y) rfl, vrow_cell q (j := 6) (v := .int .i64 mo) rfl, vrow_cell q (j := 7) (v := .int .i64 d) rfl, vrow_cell q (j := 8) (v := .int .i64 h) rfl, vrow_cell q (j := 9) (v := .int .i64 mi) rfl, vrow_cell q (j := 10) (v := .int .i64 s) rfl, vrow_cell q (j := 11) (v := .int .i64 mc) rfl⟩)))
        go_region_held3 (fun w' => w'.cell? ⟨wr.heap.size, 0, none⟩ = some (.int .i64 k) ∧ w'.cell? ⟨wr.heap.size, 1, none⟩ = some (.int .i64 i) ∧ w'.cell? ⟨wr.heap.size, 2, none⟩ = some (.int .u64 b) ∧ w'.cell? ⟨wr.heap.size, 3, none⟩ = some (.string tx) ∧ w'.cell? ⟨wr.heap.size, 4, none⟩ = some (.bool ng) ∧ w'.cell? ⟨wr.heap.size, 5, none⟩ = some (.int .i64 y) ∧ w'.cell? ⟨wr.heap.size, 6, none⟩ = some (.int .i64 mo) ∧ w'.cell? ⟨wr.heap.size, 7, none⟩ = some (.int .i64 d) ∧ w'.cell? ⟨wr.heap.size, 8, none⟩ = some (.int .i64 h) ∧ w'.cell? ⟨wr.heap.size, 9, none⟩ = some (.int .i64 mi) ∧ w'.cell? ⟨wr.heap.size, 10, none⟩ = some (.int .i64 s) ∧ w'.cell? ⟨wr.heap.size, 11, none⟩ = some (.int .i64 mc)) (first | with_reducible exact unhide KS _ b4 | with_reducible exact unhide KS _ b3 | with_reducible exact unhide KS _ (Below.refl _ _) | with_reducible exact unhide KS _ (Below.drew (Below.refl _ _)) | go_keep) (first | (go_at_call 32; (with_reducible refine (textType_any _).mono ?_); rintro e w3 ⟨rfl, b3'⟩; have b3 := (below_drew w2).trans (b3'.mono (below_drew w2).size)) | (go_at_call 46; (with_reducible refine (unhide cC _).mono ?_); rintro e w4 ⟨rfl, b4'⟩; have b4 := b3.trans (b4'.mono b3.size)))
        go_wp2_with fail
        go_ret2
        rw [unhide HR]
        exact ⟨rfl, (unhide HB).trans (((unhide B2).trans (b4.mono (unhide B2).size)).mono hob)⟩
      · simp only [if_pos (show true = true from rfl)] at cC
        clear HX
        have HO' := hide (unhide HO rfl)
        clear HO
        go_upto_region 7 with (first | (with_reducible show wpList Tryz.prog _ _ (Oper.mk _ (Op.load 38 _) _ _ _ none :: _) _ _; refine wpList_ldV rfl (.tmp 19) rfl pb po rfl ⟨k, i, b, tx, ⟨ng, y, mo, d, h, mi, s, mc⟩⟩ (unhide HAT) ?_) | (with_reducible show wpList Tryz.prog _ _ (Oper.mk _ (Op.store 38 _ _) _ _ _ none :: _) _ _; refine wpList_stN rfl _ (.tmp 8) (.tmp 20) rfl #[.int .i64 k, .int .i64 i, .int .u64 b, .string tx, .bool ng, .int .i64 y, .int .i64 mo, .int .i64 d, .int .i64 h, .int .i64 mi, .int .i64 s, .int .i64 mc] (by simp [Act.eval, Act.put]) rfl (unhide SV) rfl (unhide OV) ?_; intro w2 r2 b2 l2; have R2 := hide r2; have B2 := hide b2; clear r2 b2 l2))
        have KS := hide (fun (w' : World) (hx : Below w2.heap.size w2 w') => (show w'.cell? ⟨wr.heap.size, 0, none⟩ = some (.int .i64 k) ∧ w'.cell? ⟨wr.heap.size, 1, none⟩ = some (.int .i64 i) ∧ w'.cell? ⟨wr.heap.size, 2, none⟩ = some (.int .u64 b) ∧ w'.cell? ⟨wr.heap.size, 3, none⟩ = some (.string tx) ∧ w'.cell? ⟨wr.heap.size, 4, none⟩ = some (.bool ng) ∧ w'.cell? ⟨wr.heap.size, 5, none⟩ = some (.int .i64 y) ∧ w'.cell? ⟨wr.heap.size, 6, none⟩ = some (.int .i64 mo) ∧ w'.cell? ⟨wr.heap.size, 7, none⟩ = some (.int .i64 d) ∧ w'.cell? ⟨wr.heap.size, 8, none⟩ = some (.int .i64 h) ∧ w'.cell? ⟨wr.heap.size, 9, none⟩ = some (.int .i64 mi) ∧ w'.cell? ⟨wr.heap.size, 10, none⟩ = some (.int .i64 s) ∧ w'.cell? ⟨wr.heap.size, 11, none⟩ = some (.int .i64 mc) from (have q := vrow_later (unhide R2) hx; ⟨vrow_cell q (j := 0) (v := .int .i64 k) rfl, vrow_cell q (j := 1) (v := .int .i64 i) rfl, vrow_cell q (j := 2) (v := .int .u64 b) rfl, vrow_cell q (j := 3) (v := .string tx) rfl, vrow_cell q (j := 4) (v := .bool ng) rfl, vrow_cell q (j := 5) (v := .int .i64 y) rfl, vrow_cell q (j := 6) (v := .int .i64 mo) rfl, vrow_cell q (j := 7) (v := .int .i64 d) rfl, vrow_cell q (j := 8) (v := .int .i64 h) rfl, vrow_cell q (j := 9) (v := .int .i64 mi) rfl, vrow_cell q (j := 10) (v := .int .i64 s) rfl, vrow_cell q (j := 11) (v := .int .i64 mc) rfl⟩)))
        go_region_held3 (fun w' => w'.cell? ⟨wr.heap.size, 0, none⟩ = some (.int .i64 k) ∧ w'.cell? ⟨wr.heap.size, 1, none⟩ = some (.int .i64 i) ∧ w'.cell? ⟨wr.heap.size, 2, none⟩ = some (.int .u64 b) ∧ w'.cell? ⟨wr.heap.size, 3, none⟩ = some (.string tx) ∧ w'.cell? ⟨wr.heap.size, 4, none⟩ = some (.bool ng) ∧ w'.cell? ⟨wr.heap.size, 5, none⟩ = some (.int .i64 y) ∧ w'.cell? ⟨wr.heap.size, 6, none⟩ = some (.int .i64 mo) ∧ w'.cell? ⟨wr.heap.size, 7, none⟩ = some (.int .i64 d) ∧ w'.cell? ⟨wr.heap.size, 8, none⟩ = some (.int .i64 h) ∧ w'.cell? ⟨wr.heap.size, 9, none⟩ = some (.int .i64 mi) ∧ w'.cell? ⟨wr.heap.size, 10, none⟩ = some (.int .i64 s) ∧ w'.cell? ⟨wr.heap.size, 11, none⟩ = some (.int .i64 mc)) (first | with_reducible exact unhide KS _ b4 | with_reducible exact unhide KS _ b3 | with_reducible exact unhide KS _ (Below.refl _ _) | with_reducible exact unhide KS _ (Below.drew (Below.refl _ _)) | go_keep) (first | (go_at_call 32; (with_reducible refine (textType_any _).mono ?_); rintro e w3 ⟨rfl, b3'⟩; have b3 := (below_drew w2).trans (b3'.mono (below_drew w2).size)) | (go_at_call 46; (with_reducible refine (unhide cC _).mono ?_); rintro e w4 ⟨rfl, b4'⟩; have b4 := b3.trans (b4'.mono b3.size)))
        have R4 := hide (vrow_later (unhide R2) b4)
        have B4 := hide ((unhide B2).trans (b4.mono (unhide B2).size))
        obtain ⟨k0, k1, k2, k3, k4, k5, k6, k7, k8, k9, k10, k11⟩ := unhide KS w4 b4
        clear b3 b3' b4 b4' KS R2 B2
        have M4 := hide ((unhide HM).later (unhide B4))
        have HB4 := hide ((unhide HB).trans ((unhide B4).mono hob))
        by_cases hk : k = 0
        · have ek : (k == 0) = true := by simpa using hk
          rw [ek] at cN
          have HT' := hide (show T1 = [251] by rw [unhide HT, if_pos hk])
          clear cA HT HBO HVL ek hk cC
          go_wp2_with (first | (go_at_call 28; (with_reducible refine (unhide cN _).mono ?_); rintro e w5 ⟨rfl, b5⟩; have X5 := hide b5; have B5 := hide ((unhide B4).trans (b5.mono (unhide B4).size)); have M5 := hide ((unhide HM).later (unhide B5)); have HB5 := hide ((unhide HB).trans ((unhide B5).mono hob)); clear b5) | (at_builtin; refine wpList_app rfl (.tmp 29) (.tmp 30) rfl w.heap.size oo on oc _ rfl ((unhide M5).later (below_alloc w5 _)) _ 1 1 _ rfl (Bs.one w5 251 (by omega) (by omega)) (by omega) (by have := (unhide HB5).size; simp; omega) ?_; intro a6 c6 w6 m6 b6; have M6 := hide m6; have HB6 := hide (((unhide HB5).trans ((below_alloc w5 _).mono (unhide HB5).size)).trans b6); clear m6 b6))
          go_roundw
          case rel => exact ⟨j + 1, a6, on + 1, c6, by omega, by go_num, rfl, (by rw [unhide HN, unhide HT']; exact unhide M6), unhide HO', unhide HB6⟩
          case measure => simp [intOf]; omega
        · have ek : (k == 0) = false := by simpa using hk
          rw [ek] at cN
          have HT' := hide (show T1 = T2 by rw [unhide HT, if_neg hk])
          rw [unhide HBO (by trivial) hk, if_pos rfl, List.nil_append] at cA
          unfold OutP at cA
          simp only at cA
          have hvl := unhide HVL
          clear HT HBO HVL ek hk cC
          go_upto_region 12 with (first | (go_at_call 28; (with_reducible refine (unhide cN _).mono ?_); rintro e w5 ⟨rfl, b5⟩; have X5 := hide b5; have B5 := hide ((unhide B4).trans (b5.mono (unhide B4).size)); have M5 := hide ((unhide HM).later (unhide B5)); have HB5 := hide ((unhide HB).trans ((unhide B5).mono hob)); clear b5))
          have R5 := hide (vrow_later (unhide R4) (unhide X5))
          have KS := hide (fun (w' : World) (hx : Below w5.heap.size w5 w') => (show w'.cell? ⟨wr.heap.size, 0, none⟩ = some (.int .i64 k) ∧ w'.cell? ⟨wr.heap.size, 1, none⟩ = some (.int .i64 i) ∧ w'.cell? ⟨wr.heap.size, 2, none⟩ = some (.int .u64 b) ∧ w'.cell? ⟨wr.heap.size, 3, none⟩ = some (.string tx) ∧ w'.cell? ⟨wr.heap.size, 4, none⟩ = some (.bool ng) ∧ w'.cell? ⟨wr.heap.size, 5, none⟩ = some (.int .i64 y) ∧ w'.cell? ⟨wr.heap.size, 6, none⟩ = some (.int .i64 mo) ∧ w'.cell? ⟨wr.heap.size, 7, none⟩ = some (.int .i64 d) ∧ w'.cell? ⟨wr.heap.size, 8, none⟩ = some (.int .i64 h) ∧ w'.cell? ⟨wr.heap.size, 9, none⟩ = some (.int .i64 mi) ∧ w'.cell? ⟨wr.heap.size, 10, none⟩ = some (.int .i64 s) ∧ w'.cell? ⟨wr.heap.size, 11, none⟩ = some (.int .i64 mc) from (have q := vrow_later (unhide R5) hx; ⟨vrow_cell q (j := 0) (v := .int .i64 k) rfl, vrow_cell q (j := 1) (v := .int .i64 i) rfl, vrow_cell q (j := 2) (v := .int .u64 b) rfl, vrow_cell q (j := 3) (v := .string tx) rfl, vrow_cell q (j := 4) (v := .bool ng) rfl, vrow_cell q (j := 5) (v := .int .i64 y) rfl, vrow_cell q (j := 6) (v := .int .i64 mo) rfl, vrow_cell q (j := 7) (v := .int .i64 d) rfl, vrow_cell q (j := 8) (v := .int .i64 h) rfl, vrow_cell q (j := 9) (v := .int .i64 mi) rfl, vrow_cell q (j := 10) (v := .int .i64 s) rfl, vrow_cell q (j := 11) (v := .int .i64 mc) rfl⟩)))
          clear k0 k1 k2 k3 k4 k5 k6 k7 k8 k9 k10 k11
          go_region_held3 (fun w' => w'.cell? ⟨wr.heap.size, 0, none⟩ = some (.int .i64 k) ∧ w'.cell? ⟨wr.heap.size, 1, none⟩ = some (.int .i64 i) ∧ w'.cell? ⟨wr.heap.size, 2, none⟩ = some (.int .u64 b) ∧ w'.cell? ⟨wr.heap.size, 3, none⟩ = some (.string tx) ∧ w'.cell? ⟨wr.heap.size, 4, none⟩ = some (.bool ng) ∧ w'.cell? ⟨wr.heap.size, 5, none⟩ = some (.int .i64 y) ∧ w'.cell? ⟨wr.heap.size, 6, none⟩ = some (.int .i64 mo) ∧ w'.cell? ⟨wr.heap.size, 7, none⟩ = some (.int .i64 d) ∧ w'.cell? ⟨wr.heap.size, 8, none⟩ = some (.int .i64 h) ∧ w'.cell? ⟨wr.heap.size, 9, none⟩ = some (.int .i64 mi) ∧ w'.cell? ⟨wr.heap.size, 10, none⟩ = some (.int .i64 s) ∧ w'.cell? ⟨wr.heap.size, 11, none⟩ = some (.int .i64 mc)) (first | with_reducible exact unhide KS _ b7 | with_reducible exact unhide KS _ b6 | with_reducible exact unhide KS _ (Below.refl _ _) | with_reducible exact unhide KS _ (Below.drew (Below.refl _ _)) | go_keep) (first | (go_at_call 32; (with_reducible refine (textType_any _).mono ?_); rintro e w6 ⟨rfl, b6'⟩; have b6 := (below_drew w5).trans (b6'.mono (below_drew w5).size)) | (go_at_call 48; (with_reducible refine (unhide cA _).mono ?_); rintro e w7 ⟨ax, an, ac, rfl, m7, b7'⟩; have b7 := b6.trans (b7'.mono b6.size)))
          have han := m7.len
          have hale := m7.bs.le
          have hamx := m7.bs.max
          have MB7 := hide m7.bs
          have B7 := hide ((unhide B5).trans (b7.mono (unhide B5).size))
          have M7 := hide ((unhide HM).later (unhide B7))
          have HB7 := hide ((unhide HB).trans ((unhide B7).mono hob))
          clear m7 b7 b7' b6 b6' KS cA M5 HB5 M4 HB4
          go_wp2_with (at_builtin; refine wpList_app rfl (.tmp 38) (.tmp 39) rfl w.heap.size oo on oc _ rfl (unhide M7) ax an ac T2 rfl (unhide MB7) (by omega) (unhide HB7).size ?_; intro a8 c8 w8 m8 b8; have M8 := hide m8; have HB8 := hide ((unhide HB7).trans b8); clear m8 b8)
          go_roundw
          case rel => exact ⟨j + 1, a8, on + an, c8, by omega, by go_num, rfl, (by rw [unhide HN, unhide HT']; exact unhide M8), unhide HO', unhide HB8⟩
          case measure => simp [intOf]; omega
    · have hjn : j = n := by omega
      subst hjn
      have hlj : ¬ ((j : Nat) : Int) < (j : Int) := by omega
      have hq := unhide HQ
      have hm := unhide HM
      rw [List.take_of_length_le (by omega)] at hq hm
      have HR := hide (show RES = some (bb ++ rtB l) by rw [unhide HRES, if_pos hq])
      have cC := hide (concat_any wr.heap.size bo bn bc bb oo on oc (rtB l) (wr.alloc (.cells #[.slice bo bn bc, .slice oo on oc] 29)) (((unhide HBB).later (unhide HB)).later (below_alloc wr _)) (hm.bs.later (below_alloc wr _)) (cell_top wr _ _ 0 _ rfl) (cell_top wr _ _ 1 _ rfl) (by omega) (by omega))
      clear hq hm HM HRES HRL HQ HK
      go_wp2_with fail
      refine (unhide cC).mono ?_
      rintro e w2 ⟨xo, xn, xc, rfl, m2, b2⟩
      have M2 := hide m2
      have B2 := hide ((unhide HB).trans (((below_alloc wr _).trans (b2.mono (below_alloc wr _).size)).mono hob))
      have hz2 := (below_alloc wr (.cells #[.slice bo bn bc, .slice oo on oc] 29)).size
      clear m2 b2 cC
      go_wp2_with fail
      go_ret2
      rw [unhide HR]
      exact ⟨xo, xn, xc, rfl, (unhide M2).mono (by omega), unhide B2⟩


end Go.Proofs.YtkcblnojgonblaaGreatDoor
