/-
  What the document's own AppendText of rows returns: the program's. It writes nothing that was there. Conditions: the slices can be read; at most 60 values, of texts of at most 3,000 bytes; at most 10,000 bytes ahead.
-/
import Derived.Test.YtlicnhlgmnlaoaaRwApp
import Derived.Test.YtlicnhlgmnlaoaaVrChk
import Derived.Test.YtlicnhlgmnlaoaaLeWritesRef2
namespace Go.Proofs.Ytlicnhlgmnlaoaa
open Go.RowKit
set_option linter.unusedVariables false
set_option linter.unusedSimpArgs false

theorem plain_any (w : World) : Calls Try.prog 23 #[] w fun e w' => e = .returned (.agg #[.int .u8 253, .bool false]) ∧ Below w.heap.size w w' := by
  go_enter Try.func23, Try.ntmps23
  go_wp2_with fail
  refine bodyPost_ret (results_cell_row rfl _ _ w.heap.size _ _ _ _ rfl (heap_alloc_new w _) Try.underlying46 rfl (by kernel_rfl)) rfl ?_
  exact ⟨rfl, below_alloc w _⟩
theorem ok_text {v : Va} (h : vOk v 253 false = true) (hk : ¬ v.k = 0) : vaB v 253 = txB v.t := by
  obtain ⟨_, h2⟩ := ok_cases h
  have h7 : v.k = 7 := by
    rcases h2 with h2 | h2
    · rw [h2] at hk; exact absurd rfl hk
    · rw [h2.2.1]; rfl
  unfold vaB
  rw [if_neg (by omega), if_neg (by omega), if_neg (by omega), if_neg (by omega), if_pos h7]

set_option maxHeartbeats 4000000 in
set_option maxRecDepth 100000 in
theorem appText_ref (bo : Option Addr) (bn bc : Nat) (bb : List Int) (ao : Option Addr) (n c : Nat) (l : List Va) (w : World) (hb : Bs w bo bn bc bb) (hl : Vs w ao n c l) (hK : ∀ v ∈ l, VaK v ∧ v.t.size ≤ 3000) (hn : n ≤ 60) (hbn : bn ≤ 10000) :
    Calls Try.prog 9 #[.slice bo bn bc, .slice ao n c] w fun e w' => OutP w (if rtOk l = true then some (bb ++ rtB l) else none) e w' := by
  obtain ⟨RES, hRES⟩ : ∃ z, z = (if rtOk l = true then some (bb ++ rtB l) else none) := ⟨_, rfl⟩
  rw [← hRES]
  have HRES := hide hRES
  clear hRES
  have hln := hl.len
  have hle := hl.le
  have hmx := hl.max
  have hble := hb.le
  have hbmx := hb.max
  have hbl := hb.len
  have HL := hide hl
  have HBB := hide hb
  have HK := hide hK
  have HRL := hide (fun j => rtB_len (l := l.take j) (fun v hv => (hK v (List.mem_of_mem_take hv)).2))
  clear hl hb hK
  go_enter Try.func9, Try.ntmps9
  go_wp2_with (at_builtin; refine wpList_app rfl (.tmp 11) (.tmp 12) rfl w.heap.size _ _ _ _ rfl (Mine.empty w) bo bn bc bb rfl ((unhide HBB).later (below_alloc w _)) (by omega) (by simp) ?_; intro a1 c1 w1 m1 b1; rw [List.nil_append, Nat.zero_add] at m1; have M1 := hide m1; have B1 := hide ((below_alloc w _).trans b1); clear m1 b1)
  go_loopw [7, 6] (fun iv sv ws => ∃ (j : Nat) (oo : Option Addr) (on oc : Nat), j ≤ n ∧ iv = .int .i64 (j : Int) ∧ sv = .slice oo on oc ∧ Mine w.heap.size ws oo on oc (bb ++ rtB (l.take j)) ∧ rtOk (l.take j) = true ∧ Below w.heap.size w ws) (fun iv _ _ => n - (intOf iv).toNat)
  case atStart =>
    refine ⟨0, a1, bn, c1, by omega, rfl, rfl, ?_, rfl, unhide B1⟩
    rw [show rtB (l.take 0) = [] from rfl, List.append_nil]
    exact unhide M1
  case round =>
    clear M1 B1
    obtain ⟨j, oo, on, oc, hj, rfl, rfl, hM, hQ, hB⟩ := hrel
    have hon : on ≤ 400000 := by
      have q1 := hM.len
      have q2 := unhide HRL j
      rw [List.length_take] at q2
      rw [List.length_append] at q1
      omega
    have hob := hB.size
    have HM := hide hM
    have HB := hide hB
    have HQ := hide hQ
    have hole := hM.bs.le
    have homx := hM.bs.max
    clear hM hB hQ
    by_cases hlt : j < n
    · obtain ⟨v, hv⟩ : ∃ v, l[j]? = some v := ⟨_, List.getElem?_eq_getElem (by omega)⟩
      have hlj : ((j : Nat) : Int) < (n : Int) := by omega
      obtain ⟨pb, po, hix, hat⟩ := ((unhide HL).later (unhide HB)).idx hv (j : Int) rfl
      have HAT := hide hat
      obtain ⟨hKv, hKs⟩ := unhide HK v (List.mem_of_getElem? hv)
      have cC := hide (fun wx => check_ref v 253 false wx (by decide) (by decide) hKv)
      have HN := hide (rtB_next hv)
      have HT : Hid (tx1 v = if v.k = 0 then [251] else vaB v 253) := hide rfl
      have HO := hide (fun hq => rtOk_next hv (unhide HQ) hq)
      have HX := hide (fun hq => rtOk_no hv hq)
      have HTX := hide (fun (h : vOk v 253 false = true) (hk : ¬ v.k = 0) => ok_text h hk)
      clear hat hv hKv
      generalize tx1 v = T1 at *
      generalize vaB v 253 = T2 at *
      generalize hOK : vOk v 253 false = OK at *
      clear hOK
      obtain ⟨k, i, b, tx, ⟨ng, y, mo, d, h, mi, s, mc⟩⟩ := v
      unfold vaC at cC
      simp only at cC HT HTX
      have KS := hide (fun (w' : World) (hx : Below wr.heap.size wr w') => (show w'.cell? ⟨pb, po, none⟩ = some (.int .i64 k) ∧ w'.cell? ⟨pb, po + 1, none⟩ = some (.int .i64 i) ∧ w'.cell? ⟨pb, po + 2, none⟩ = some (.int .u64 b) ∧ w'.cell? ⟨pb, po + 3, none⟩ = some (.string tx) ∧ w'.cell? ⟨pb, po + 4, none⟩ = some (.bool ng) ∧ w'.cell? ⟨pb, po + 5, none⟩ = some (.int .i64 y) ∧ w'.cell? ⟨pb, po + 6, none⟩ = some (.int .i64 mo) ∧ w'.cell? ⟨pb, po + 7, none⟩ = some (.int .i64 d) ∧ w'.cell? ⟨pb, po + 8, none⟩ = some (.int .i64 h) ∧ w'.cell? ⟨pb, po + 9, none⟩ = some (.int .i64 mi) ∧ w'.cell? ⟨pb, po + 10, none⟩ = some (.int .i64 s) ∧ w'.cell? ⟨pb, po + 11, none⟩ = some (.int .i64 mc) from (have q := (unhide HAT).later hx; ⟨q 0 (by decide), q 1 (by decide), q 2 (by decide), q 3 (by decide), q 4 (by decide), q 5 (by decide), q 6 (by decide), q 7 (by decide), q 8 (by decide), q 9 (by decide), q 10 (by decide), q 11 (by decide)⟩)))
      cases OK
      · simp only [if_neg (show ¬ (false = true) by decide)] at cC
        have HR := hide (show RES = none by rw [unhide HRES, unhide HX rfl, if_neg (by decide)])
        clear HN HT HO HTX HRL
        go_upto_region 7 with fail
        go_region_held3 (fun w' => w'.cell? ⟨pb, po, none⟩ = some (.int .i64 k) ∧ w'.cell? ⟨pb, po + 1, none⟩ = some (.int .i64 i) ∧ w'.cell? ⟨pb, po + 2, none⟩ = some (.int .u64 b) ∧ w'.cell? ⟨pb, po + 3, none⟩ = some (.string tx) ∧ w'.cell? ⟨pb, po + 4, none⟩ = some (.bool ng) ∧ w'.cell? ⟨pb, po + 5, none⟩ = some (.int .i64 y) ∧ w'.cell? ⟨pb, po + 6, none⟩ = some (.int .i64 mo) ∧ w'.cell? ⟨pb, po + 7, none⟩ = some (.int .i64 d) ∧ w'.cell? ⟨pb, po + 8, none⟩ = some (.int .i64 h) ∧ w'.cell? ⟨pb, po + 9, none⟩ = some (.int .i64 mi) ∧ w'.cell? ⟨pb, po + 10, none⟩ = some (.int .i64 s) ∧ w'.cell? ⟨pb, po + 11, none⟩ = some (.int .i64 mc)) (first | with_reducible exact unhide KS _ b4 | with_reducible exact unhide KS _ b3 | with_reducible exact unhide KS _ (Below.refl _ _) | with_reducible exact unhide KS _ (Below.drew (Below.refl _ _)) | go_keep) (first | (go_at_call 23; (with_reducible refine (plain_any _).mono ?_); rintro e w3 ⟨rfl, b3'⟩; have b3 := (below_drew wr).trans (b3'.mono (below_drew wr).size)) | (go_at_call 22; (with_reducible refine (unhide cC _).mono ?_); rintro e w4 ⟨rfl, b4'⟩; have b4 := b3.trans (b4'.mono b3.size)))
        go_wp2_with fail
        go_ret2
        rw [unhide HR]
        exact ⟨rfl, (unhide HB).trans (b4.mono hob)⟩
      · simp only [if_pos (show true = true from rfl)] at cC
        clear HX
        have HO' := hide (unhide HO rfl)
        clear HO
        go_upto_region 7 with fail
        go_region_held3 (fun w' => w'.cell? ⟨pb, po, none⟩ = some (.int .i64 k) ∧ w'.cell? ⟨pb, po + 1, none⟩ = some (.int .i64 i) ∧ w'.cell? ⟨pb, po + 2, none⟩ = some (.int .u64 b) ∧ w'.cell? ⟨pb, po + 3, none⟩ = some (.string tx) ∧ w'.cell? ⟨pb, po + 4, none⟩ = some (.bool ng) ∧ w'.cell? ⟨pb, po + 5, none⟩ = some (.int .i64 y) ∧ w'.cell? ⟨pb, po + 6, none⟩ = some (.int .i64 mo) ∧ w'.cell? ⟨pb, po + 7, none⟩ = some (.int .i64 d) ∧ w'.cell? ⟨pb, po + 8, none⟩ = some (.int .i64 h) ∧ w'.cell? ⟨pb, po + 9, none⟩ = some (.int .i64 mi) ∧ w'.cell? ⟨pb, po + 10, none⟩ = some (.int .i64 s) ∧ w'.cell? ⟨pb, po + 11, none⟩ = some (.int .i64 mc)) (first | with_reducible exact unhide KS _ b4 | with_reducible exact unhide KS _ b3 | with_reducible exact unhide KS _ (Below.refl _ _) | with_reducible exact unhide KS _ (Below.drew (Below.refl _ _)) | go_keep) (first | (go_at_call 23; (with_reducible refine (plain_any _).mono ?_); rintro e w3 ⟨rfl, b3'⟩; have b3 := (below_drew wr).trans (b3'.mono (below_drew wr).size)) | (go_at_call 22; (with_reducible refine (unhide cC _).mono ?_); rintro e w4 ⟨rfl, b4'⟩; have b4 := b3.trans (b4'.mono b3.size)))
        have B4 := hide b4
        obtain ⟨k0, k1, k2, k3, k4, k5, k6, k7, k8, k9, k10, k11⟩ := unhide KS w4 b4
        have M4 := hide ((unhide HM).later b4)
        have HB4 := hide ((unhide HB).trans (b4.mono hob))
        clear b3 b3' b4 b4' KS
        by_cases hk : k = 0
        · have ek : (k == 0) = true := by simpa using hk
          have HT' := hide (show T1 = [251] by rw [unhide HT, if_pos hk])
          clear HT hk cC HTX
          go_wp2_with (at_builtin; refine wpList_app rfl (.tmp 33) (.tmp 34) rfl w.heap.size oo on oc _ rfl ((unhide M4).later (below_alloc w4 _)) _ 1 1 _ rfl (Bs.one w4 251 (by omega) (by omega)) (by omega) (by have := (unhide HB4).size; simp; omega) ?_; intro a6 c6 w6 m6 b6; have M6 := hide m6; have HB6 := hide (((unhide HB4).trans ((below_alloc w4 _).mono (unhide HB4).size)).trans b6); clear m6 b6)
          go_roundw
          case rel => exact ⟨j + 1, a6, on + 1, c6, by omega, by go_num, rfl, (by rw [unhide HN, unhide HT', ← List.append_assoc]; exact unhide M6), unhide HO', unhide HB6⟩
          case measure => simp [intOf]; omega
        · have ek : (k == 0) = false := by simpa using hk
          have HT' := hide (show T1 = txB tx by rw [unhide HT, if_neg hk]; exact unhide HTX (by trivial) hk)
          have cT := hide (appendText_ref oo on oc _ tx w4 (unhide M4).bs (by have hks : tx.size ≤ 3000 := hKs; omega))
          clear HT hk cC HTX
          go_wp2_with fail
          refine (unhide cT).mono ?_
          rintro e w6 ⟨a6, c6, rfl, m6, b6⟩
          have M6 := hide (m6.mono (unhide HB4).size)
          have HB6 := hide ((unhide HB4).trans (b6.mono (unhide HB4).size))
          clear m6 b6 cT
          go_wp2_with fail
          go_roundw
          case rel => exact ⟨j + 1, a6, _, c6, by omega, by go_num, rfl, (by rw [unhide HN, unhide HT', show txB tx = form tx.size ++ nums tx from rfl, ← List.append_assoc, ← List.append_assoc]; exact unhide M6), unhide HO', unhide HB6⟩
          case measure => simp [intOf]; omega
    · have hjn : j = n := by omega
      subst hjn
      have hlj : ¬ ((j : Nat) : Int) < (j : Int) := by omega
      have hq := unhide HQ
      have hm := unhide HM
      rw [List.take_of_length_le (by omega)] at hq hm
      have HR := hide (show RES = some (bb ++ rtB l) by rw [unhide HRES, if_pos hq])
      have HM2 := hide hm
      clear hq hm HM HRES HRL HQ HK
      go_wp2_with fail
      go_ret2
      rw [unhide HR]
      exact ⟨oo, on, oc, rfl, unhide HM2, unhide HB⟩


end Go.Proofs.Ytlicnhlgmnlaoaa
