/-
  What the document's own AppendBinary of rows returns: the program's. It writes nothing that was there. Conditions: the slices can be read; at most 60 values, of texts of at most 3,000 bytes, and 60 types; at most 10,000 bytes ahead.
-/
import Derived.Test.YtlicnhlgmnlaoaaRwBin
import Derived.Test.YtlicnhlgmnlaoaaVrApp
import Derived.Test.YtlicnhlgmnlaoaaVrChk
namespace Go.Proofs.Ytlicnhlgmnlaoaa
open Go.RowKit
set_option linter.unusedVariables false
set_option linter.unusedSimpArgs false

theorem div9 (n : Nat) : (((n : Int) + 9).tdiv 8) = (((n + 9) / 8 : Nat) : Int) := by rw [Int.tdiv_eq_ediv_of_nonneg (by omega)]; omega
theorem gb_one {w : World} {g i : Nat} {v : Value} : Gb g w (w.setCell ⟨g, i, none⟩ v) := ⟨rfl, rfl, rfl, by simp, fun k _ hk => heap_setCell_other _ _ _ _ hk⟩

set_option maxHeartbeats 4000000 in
set_option maxRecDepth 100000 in
theorem appBin_ref (bo : Option Addr) (bn bc : Nat) (bb : List Int) (ao : Option Addr) (n c : Nat) (l : List Va) (tyo : Option Addr) (m tc : Nat) (ts : List Ty) (w : World) (hb : Bs w bo bn bc bb) (hl : Vs w ao n c l) (ht : Tys w tyo m tc ts) (hK : ∀ v ∈ l, VaK v ∧ v.t.size ≤ 3000) (hT : ∀ p ∈ ts, 0 ≤ p.t ∧ p.t < 256) (hn : n ≤ 60) (hm : m ≤ 60) (hbn : bn ≤ 10000) :
    Calls Try.prog 12 #[.slice bo bn bc, .slice ao n c, .slice tyo m tc] w fun e w' => OutN w (decide (l.length = ts.length) && rbOk (l.zip ts)) bb l (l.zip ts) e w' := by
  obtain ⟨OKK, hOKK⟩ : ∃ z, z = (decide (l.length = ts.length) && rbOk (l.zip ts)) := ⟨_, rfl⟩
  rw [← hOKK]
  have HOK := hide hOKK
  clear hOKK
  have hln := hl.len
  have htn := ht.len
  have hle := hl.le
  have hmx := hl.max
  have htl := ht.le
  have htx := ht.max
  have hble := hb.le
  have hbmx := hb.max
  have HL := hide hl
  have HTY := hide ht
  have HBB := hide hb
  have HK := hide hK
  have HTT := hide hT
  have HRL := hide (fun j => rbB_len (l := (l.zip ts).take j) (fun p hp => (hK p.1 (List.of_mem_zip (List.mem_of_mem_take hp)).1).2))
  clear hl hb hK ht hT
  by_cases hnm : ¬ n = m
  · have g1 : ((n : Int) != (m : Int)) = true := by simpa using (fun h : (n : Int) = (m : Int) => hnm (by omega))
    have g2 : ¬ (n : Int) = (m : Int) := by omega
    have HR := hide (show OKK = false by rw [unhide HOK, hln, htn, decide_eq_false hnm]; rfl)
    clear HRL HK HTT
    go_enter Try.func12, Try.ntmps12
    go_wp2_with fail
    go_ret2
    unfold OutN
    rw [unhide HR]
    exact ⟨rfl, Below.refl _ _⟩
  have hnm : n = m := by omega
  subst hnm
  have HOK2 := hide (show OKK = rbOk (l.zip ts) by rw [unhide HOK, hln, htn, decide_eq_true rfl]; rfl)
  have HZL := hide (show (l.zip ts).length = n by rw [List.length_zip, hln, htn]; omega)
  have g1 : ((n : Int) != (n : Int)) = false := by simp
  obtain ⟨NB, hNB⟩ : ∃ z, z = (n + 9) / 8 := ⟨_, rfl⟩
  have hNB2 : NB ≤ 100 := by omega
  have HNB := hide hNB
  clear hNB HOK
  have eN1 := div9 n
  rw [← unhide HNB] at eN1
  obtain ⟨eN3, eN4⟩ := (w64_small (n := NB) (Nat.le_trans hNB2 (by decide)))
  go_enter Try.func12, Try.ntmps12
  go_wp2_with (first | (at_make; refine wpList_mkFull rfl _ _ rfl _ _ _ _ NB rfl rfl (by with_reducible first | rfl | exact eN3 | exact eN4) (by with_reducible first | rfl | exact eN3 | exact eN4) (Nat.le_trans hNB2 (by decide)) ?_; intro w1 m1 b1 z1; have M1 := hide m1; have B1 := hide b1; have Z1 := hide z1; clear m1 b1 z1 eN1 eN3 eN4))
  go_loopw [10, 9] (fun iv ov ws => ∃ (j : Nat) (oo : Option Addr) (on oc : Nat) (nl : List Int), j ≤ n ∧ iv = .int .i64 (j : Int) ∧ ov = .slice oo on oc ∧ Mine w.heap.size ws (some ⟨w.heap.size, 0, none⟩) NB NB nl ∧ (∀ q, bit nl q = nb (l.take j) q) ∧ Mine (w.heap.size + 1) ws oo on oc (rbB ((l.zip ts).take j)) ∧ rbOk ((l.zip ts).take j) = true ∧ Below w.heap.size w ws ∧ w.heap.size + 1 ≤ ws.heap.size) (fun iv _ _ => n - (intOf iv).toNat)
  case atStart => exact ⟨0, none, 0, 0, _, by omega, rfl, rfl, unhide M1, (fun q => by rw [bit_zero]; simp [nb]), Mine.nought _ _, rfl, unhide B1, unhide Z1⟩
  case round =>
    clear M1 B1 Z1
    obtain ⟨j, oo, on, oc, nl, hj, rfl, rfl, hN, hbit, hM, hQ, hB, hob⟩ := hrel
    have hon : on ≤ 200000 := by
      have q1 := hM.len
      have q2 := unhide HRL j
      rw [List.length_take] at q2
      have q3 := unhide HZL
      omega
    have HM := hide hM
    have HN := hide hN
    have HB := hide hB
    have HQ := hide hQ
    have HBT := hide hbit
    have hole := hM.bs.le
    have homx := hM.bs.max
    have hol := hM.len
    clear hM hB hQ hN hbit
    by_cases hlt : j < n
    · obtain ⟨v, hv⟩ : ∃ v, l[j]? = some v := ⟨_, List.getElem?_eq_getElem (by omega)⟩
      obtain ⟨p, hp⟩ : ∃ p, ts[j]? = some p := ⟨_, List.getElem?_eq_getElem (by omega)⟩
      have hz := zip_at hv hp
      have hlj : ((j : Nat) : Int) < (n : Int) := by omega
      obtain ⟨pb, po, hix, hat⟩ := ((unhide HL).later (unhide HB)).idx hv (j : Int) rfl
      obtain ⟨tb, tq, hiy, hty⟩ := ((unhide HTY).later (unhide HB)).idx hp (j : Int) rfl
      have HAT := hide hat
      obtain ⟨hKv, hKs⟩ := unhide HK v (List.mem_of_getElem? hv)
      obtain ⟨hp0, hp1⟩ := unhide HTT p (List.mem_of_getElem? hp)
      have cC := hide (fun wx => check_ref v p.t p.un wx hp0 hp1 hKv)
      have HNX := hide (rbB_next hz)
      have HT : Hid (bn1 (v, p) = if v.k = 0 then [] else vaB v p.t) := hide rfl
      have HO := hide (fun hq => rbOk_next hz (unhide HQ) hq)
      have HX := hide (fun hq => rbOk_no hz hq)
      have HBO := hide (fun (h : vOk v p.t p.un = true) (hk : ¬ v.k = 0) => ok_some h hk)
      have HNB3 := hide (fun q => nb_next hv q)
      have KT := hide (fun (w' : World) (hx : Below wr.heap.size wr w') => (hty.later hx).two)
      generalize rbB ((l.zip ts).take j) = XX at *
      have cA := hide (fun wx (hx : Bs wx oo on oc XX) => vapp_ref oo on oc XX v p.t p.un wx hp0 hp1 hKv hx (by omega) (by omega))
      clear hat hv hKv hp hz hty hp0 hp1
      generalize bn1 (v, p) = T1 at *
      generalize vaB v p.t = T2 at *
      simp only at HO HX
      generalize hOK : vOk v p.t p.un = OK at *
      clear hOK
      generalize bOk v p.t p.un = BO at *
      obtain ⟨pt, pu⟩ := p
      obtain ⟨k, i, b, tx, ⟨ng, y, mo, d, h, mi, s, mc⟩⟩ := v
      unfold vaC at cC cA
      simp only at cC cA HT HBO KT HNB3
      have KS := hide (fun (w' : World) (hx : Below wr.heap.size wr w') => (show w'.cell? ⟨pb, po, none⟩ = some (.int .i64 k) ∧ w'.cell? ⟨pb, po + 1, none⟩ = some (.int .i64 i) ∧ w'.cell? ⟨pb, po + 2, none⟩ = some (.int .u64 b) ∧ w'.cell? ⟨pb, po + 3, none⟩ = some (.string tx) ∧ w'.cell? ⟨pb, po + 4, none⟩ = some (.bool ng) ∧ w'.cell? ⟨pb, po + 5, none⟩ = some (.int .i64 y) ∧ w'.cell? ⟨pb, po + 6, none⟩ = some (.int .i64 mo) ∧ w'.cell? ⟨pb, po + 7, none⟩ = some (.int .i64 d) ∧ w'.cell? ⟨pb, po + 8, none⟩ = some (.int .i64 h) ∧ w'.cell? ⟨pb, po + 9, none⟩ = some (.int .i64 mi) ∧ w'.cell? ⟨pb, po + 10, none⟩ = some (.int .i64 s) ∧ w'.cell? ⟨pb, po + 11, none⟩ = some (.int .i64 mc) ∧ w'.cell? ⟨tb, tq, none⟩ = some (.int .u8 pt) ∧ w'.cell? ⟨tb, tq + 1, none⟩ = some (.bool pu) from (have q := (unhide HAT).later hx; ⟨q 0 (by decide), q 1 (by decide), q 2 (by decide), q 3 (by decide), q 4 (by decide), q 5 (by decide), q 6 (by decide), q 7 (by decide), q 8 (by decide), q 9 (by decide), q 10 (by decide), q 11 (by decide), (unhide KT _ hx).1, (unhide KT _ hx).2⟩)))
      cases OK
      · simp only [if_neg (show ¬ (false = true) by decide)] at cC
        have HR := hide (show OKK = false by rw [unhide HOK2]; exact unhide HX (by trivial))
        clear cA HNX HT HO HBO HRL HNB3
        go_upto_region 10 with fail
        go_region_held3 (fun w' => w'.cell? ⟨pb, po, none⟩ = some (.int .i64 k) ∧ w'.cell? ⟨pb, po + 1, none⟩ = some (.int .i64 i) ∧ w'.cell? ⟨pb, po + 2, none⟩ = some (.int .u64 b) ∧ w'.cell? ⟨pb, po + 3, none⟩ = some (.string tx) ∧ w'.cell? ⟨pb, po + 4, none⟩ = some (.bool ng) ∧ w'.cell? ⟨pb, po + 5, none⟩ = some (.int .i64 y) ∧ w'.cell? ⟨pb, po + 6, none⟩ = some (.int .i64 mo) ∧ w'.cell? ⟨pb, po + 7, none⟩ = some (.int .i64 d) ∧ w'.cell? ⟨pb, po + 8, none⟩ = some (.int .i64 h) ∧ w'.cell? ⟨pb, po + 9, none⟩ = some (.int .i64 mi) ∧ w'.cell? ⟨pb, po + 10, none⟩ = some (.int .i64 s) ∧ w'.cell? ⟨pb, po + 11, none⟩ = some (.int .i64 mc) ∧ w'.cell? ⟨tb, tq, none⟩ = some (.int .u8 pt) ∧ w'.cell? ⟨tb, tq + 1, none⟩ = some (.bool pu)) (first | with_reducible exact unhide KS _ b4 | with_reducible exact unhide KS _ (Below.refl _ _) | with_reducible exact unhide KS _ (Below.drew (Below.refl _ _)) | go_keep) (first | (go_at_call 22; (with_reducible refine (unhide cC _).mono ?_); rintro e w4 ⟨rfl, b4'⟩; have b4 := (below_drew wr).trans (b4'.mono (below_drew wr).size)))
        go_wp2_with fail
        go_ret2
        unfold OutN
        rw [unhide HR]
        exact ⟨rfl, (unhide HB).trans (b4.mono (by omega))⟩
      · simp only [if_pos (show true = true from rfl)] at cC
        clear HX
        have HO' := hide (unhide HO (by trivial))
        clear HO
        go_upto_region 10 with fail
        go_region_held3 (fun w' => w'.cell? ⟨pb, po, none⟩ = some (.int .i64 k) ∧ w'.cell? ⟨pb, po + 1, none⟩ = some (.int .i64 i) ∧ w'.cell? ⟨pb, po + 2, none⟩ = some (.int .u64 b) ∧ w'.cell? ⟨pb, po + 3, none⟩ = some (.string tx) ∧ w'.cell? ⟨pb, po + 4, none⟩ = some (.bool ng) ∧ w'.cell? ⟨pb, po + 5, none⟩ = some (.int .i64 y) ∧ w'.cell? ⟨pb, po + 6, none⟩ = some (.int .i64 mo) ∧ w'.cell? ⟨pb, po + 7, none⟩ = some (.int .i64 d) ∧ w'.cell? ⟨pb, po + 8, none⟩ = some (.int .i64 h) ∧ w'.cell? ⟨pb, po + 9, none⟩ = some (.int .i64 mi) ∧ w'.cell? ⟨pb, po + 10, none⟩ = some (.int .i64 s) ∧ w'.cell? ⟨pb, po + 11, none⟩ = some (.int .i64 mc) ∧ w'.cell? ⟨tb, tq, none⟩ = some (.int .u8 pt) ∧ w'.cell? ⟨tb, tq + 1, none⟩ = some (.bool pu)) (first | with_reducible exact unhide KS _ b4 | with_reducible exact unhide KS _ (Below.refl _ _) | with_reducible exact unhide KS _ (Below.drew (Below.refl _ _)) | go_keep) (first | (go_at_call 22; (with_reducible refine (unhide cC _).mono ?_); rintro e w4 ⟨rfl, b4'⟩; have b4 := (below_drew wr).trans (b4'.mono (below_drew wr).size)))
        have B4 := hide b4
        obtain ⟨k0, k1, k2, k3, k4, k5, k6, k7, k8, k9, k10, k11, u0, u1⟩ := unhide KS w4 b4
        have T4 := b4.size
        have HB4 := hide ((unhide HB).trans (b4.mono (by omega)))
        have N4 := hide ((unhide HN).later b4)
        have M4 := hide ((unhide HM).later b4)
        clear b4 b4'
        by_cases hk : k = 0
        · have ek : (k == 0) = true := by simpa using hk
          rw [ek] at HNB3
          have HT' := hide (show T1 = [] by rw [unhide HT, if_pos hk])
          clear cA HT HBO ek cC KS
          subst hk
          obtain ⟨y, hy, y0, y1, hbit⟩ := bit_or (unhide N4).byt (i := j + 2) (by rw [(unhide N4).len, unhide HNB]; omega)
          have hq : (j + 2) / 8 < NB := by rw [unhide HNB]; omega
          have hq2 : (j + 2) / 8 ≤ 100000 := by omega
          have hr : (j + 2) % 8 < 8 := Nat.mod_lt _ (by decide)
          have hio := run_idxOwn' w.heap.size NB NB hq (((j + 2) / 8 : Nat) : Int) rfl
          have cc := mine_cell' (unhide N4) hq
          have fr := (unhide N4).free ((j + 2) / 8)
          have NS := hide ((unhide N4).stored ((j + 2) / 8) y y0 y1)
          have BT6 := hide hbit
          have e1 := div8 j
          have e2 := mod8 j
          clear hbit y0 y1 k1 k2 k3 k4 k5 k6 k7 k8 k9 k10 k11 u0 u1
          generalize (j + 2) / 8 = q at hq hq2 hio cc fr NS e1 hy BT6
          generalize (j + 2) % 8 = r at hr e2 hy
          generalize nl[q]?.getD 0 = X at cc hy
          obtain ⟨z1, z2⟩ := w64_small hq2
          obtain ⟨R, hR⟩ : ∃ z : Int, z = (r : Int) := ⟨_, rfl⟩
          rw [← hR] at e2
          have hr' : (R = 0 ∧ r = 0) ∨ (R = 1 ∧ r = 1) ∨ (R = 2 ∧ r = 2) ∨ (R = 3 ∧ r = 3) ∨ (R = 4 ∧ r = 4) ∨ (R = 5 ∧ r = 5) ∨ (R = 6 ∧ r = 6) ∨ (R = 7 ∧ r = 7) := by
            clear e1 e2 z1 z2 hy hio cc fr
            omega
          clear hr hR
          rcases hr' with ⟨rfl, rfl⟩ | ⟨rfl, rfl⟩ | ⟨rfl, rfl⟩ | ⟨rfl, rfl⟩ | ⟨rfl, rfl⟩ | ⟨rfl, rfl⟩ | ⟨rfl, rfl⟩ | ⟨rfl, rfl⟩
          all_goals
            simp only [Int.reducePow] at hy
            go_wp2_with fail
            go_roundw
            case rel => exact ⟨j + 1, oo, on, oc, _, by omega, by go_num, rfl, unhide NS, (fun q2 => by rw [unhide BT6 q2, unhide HBT q2, unhide HNB3 q2]; simp), (by rw [unhide HNX, unhide HT', List.append_nil]; exact mine_gb' (unhide M4) (Nat.lt_succ_self _) gb_one), unhide HO', below_gb' (unhide HB4) gb_one (by omega), by simp; omega⟩
            case measure => simp [intOf]; omega
        · have ek : (k == 0) = false := by simpa using hk
          rw [ek] at HNB3
          have HT' := hide (show T1 = T2 by rw [unhide HT, if_neg hk])
          rw [unhide HBO (by trivial) hk, if_pos rfl] at cA
          unfold OutP at cA
          simp only at cA
          clear HT HBO hk cC
          go_upto_region 14 with fail
          clear k0 k1 k2 k3 k4 k5 k6 k7 k8 k9 k10 k11 u0 u1
          have KS4 := hide (fun (w' : World) (hx : Below w4.heap.size w4 w') => unhide KS w' ((unhide B4).trans (hx.mono T4)))
          have KM := hide (fun (w' : World) (hx : Below w4.heap.size w4 w') => (unhide M4).bs.later hx)
          clear KS
          go_region_held3 (fun w' => w'.cell? ⟨pb, po, none⟩ = some (.int .i64 k) ∧ w'.cell? ⟨pb, po + 1, none⟩ = some (.int .i64 i) ∧ w'.cell? ⟨pb, po + 2, none⟩ = some (.int .u64 b) ∧ w'.cell? ⟨pb, po + 3, none⟩ = some (.string tx) ∧ w'.cell? ⟨pb, po + 4, none⟩ = some (.bool ng) ∧ w'.cell? ⟨pb, po + 5, none⟩ = some (.int .i64 y) ∧ w'.cell? ⟨pb, po + 6, none⟩ = some (.int .i64 mo) ∧ w'.cell? ⟨pb, po + 7, none⟩ = some (.int .i64 d) ∧ w'.cell? ⟨pb, po + 8, none⟩ = some (.int .i64 h) ∧ w'.cell? ⟨pb, po + 9, none⟩ = some (.int .i64 mi) ∧ w'.cell? ⟨pb, po + 10, none⟩ = some (.int .i64 s) ∧ w'.cell? ⟨pb, po + 11, none⟩ = some (.int .i64 mc) ∧ w'.cell? ⟨tb, tq, none⟩ = some (.int .u8 pt) ∧ w'.cell? ⟨tb, tq + 1, none⟩ = some (.bool pu)) (first | with_reducible exact unhide KS4 _ b7 | with_reducible exact unhide KS4 _ (Below.refl _ _) | with_reducible exact unhide KS4 _ (Below.drew (Below.refl _ _)) | go_keep) (first | (go_at_call 27; (with_reducible refine (unhide cA w4.drew (unhide KM _ (below_drew w4))).mono ?_); rintro e w7 ⟨ax, an, ac, rfl, m7, b7'⟩; have b7 := (below_drew w4).trans (b7'.mono (below_drew w4).size)))
          have M7 := hide (m7.mono (show w.heap.size + 1 ≤ w4.drew.heap.size by simp; omega))
          have N7 := hide ((unhide N4).later b7)
          have HB7 := hide ((unhide HB4).trans (b7.mono (by omega)))
          have z7 := b7.size
          clear m7 b7 b7' cA KS4 KM
          go_wp2_with fail
          go_roundw
          case rel => exact ⟨j + 1, ax, an, ac, nl, by omega, by go_num, rfl, unhide N7, (fun q => by rw [unhide HBT q, unhide HNB3 q]; simp), (by rw [unhide HNX, unhide HT']; exact unhide M7), unhide HO', unhide HB7, by omega⟩
          case measure => simp [intOf]; omega
    · have hjn : j = n := by omega
      subst hjn
      have hlj : ¬ ((j : Nat) : Int) < (j : Int) := by omega
      have hq := unhide HQ
      have hm := unhide HM
      have hbt := unhide HBT
      rw [List.take_of_length_le (by rw [unhide HZL]; omega)] at hq hm
      rw [List.take_of_length_le (by omega)] at hbt
      have HR := hide (show OKK = true by rw [unhide HOK2]; exact hq)
      have HI := hide (show Isn l nl from ⟨by rw [(unhide HN).len, hln]; exact unhide HNB, (unhide HN).byt, hbt⟩)
      have MO := hide hm.bs
      have hnl := (unhide HN).len
      have KB := hide (fun (w' : World) (hx : Below wr.heap.size wr w') => ((unhide HBB).later (unhide HB)).later hx)
      have KN := hide (fun (w' : World) (hx : Below wr.heap.size wr w') => (unhide HN).bs.later hx)
      have KO := hide (fun (w' : World) (hx : Below wr.heap.size wr w') => (unhide MO).later hx)
      have hzr := hob
      clear hq hm hbt HM HRL HQ HK HTT HBT HOK2 HZL
      go_wp2_with (first | (at_builtin; refine wpList_app rfl (.tmp 76) (.tmp 77) rfl wr.heap.size _ _ _ _ rfl (Mine.empty wr) bo bn bc bb rfl (unhide KB _ (below_alloc wr _)) (by omega) (by simp) ?_; intro a1 c1 w1 m1 b1; rw [List.nil_append, Nat.zero_add] at m1; have M1 := hide m1; have B1 := hide ((below_alloc wr _).trans b1); clear m1 b1) | (at_builtin; refine wpList_app rfl (.tmp 78) (.tmp 79) rfl wr.heap.size a1 bn c1 _ (by simp [Act.eval, Act.put]) ((unhide M1).later (below_alloc w1 _)) _ 1 1 _ rfl (Bs.one w1 0 (by omega) (by omega)) (by omega) (by have := (unhide B1).size; simp; omega) ?_; intro a2 c2 w2 m2 b2; have M2 := hide m2; have B2 := hide (((unhide B1).trans ((below_alloc w1 _).mono (unhide B1).size)).trans b2); clear m2 b2) | (at_builtin; refine wpList_app rfl (.tmp 80) (.tmp 81) rfl wr.heap.size a2 (bn + 1) c2 _ (by simp [Act.eval, Act.put]) (unhide M2) _ NB NB nl (by simp [Act.eval, Act.put]) (unhide KN _ (unhide B2)) (by omega) (unhide B2).size ?_; intro a3 c3 w5 m3 b3; have M3 := hide m3; have B3 := hide ((unhide B2).trans b3); clear m3 b3) | (at_builtin; refine wpList_app rfl (.tmp 82) (.tmp 83) rfl wr.heap.size a3 (bn + 1 + NB) c3 _ (by simp [Act.eval, Act.put]) (unhide M3) oo on oc _ (by simp [Act.eval, Act.put]) (unhide KO _ (unhide B3)) (by omega) (unhide B3).size ?_; intro a4 c4 w6 m4 b4; have M5 := hide m4; have B5 := hide ((unhide B3).trans b4); clear m4 b4))
      go_ret2
      unfold OutN
      rw [unhide HR, if_pos rfl]
      exact ⟨nl, a4, _, c4, unhide HI, rfl, (unhide M5).mono (by omega), (unhide HB).trans ((unhide B5).mono (by omega))⟩


end Go.Proofs.Ytlicnhlgmnlaoaa
