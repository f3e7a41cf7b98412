/-
  The law ValueOrder: it returns true, whatever the two moments. Conditions: the library's table of powers of ten reads as its initialiser lays it.
-/
import Derived.Test.YtnodhdggafffaaaDoorVaLives
import Derived.Test.YtnodhdggafffaaaDoorVaOrd
import Derived.Test.YtnodhdggafffaaaDoorClRow
import Derived.Deep.DeepCutAuto
import Derived.BigQuiet
namespace Go.Proofs.YtnodhdggafffaaaDoor
open Go.RowKit
set_option linter.unusedVariables false
set_option linter.unusedSimpArgs false

theorem ok_fits {w : Wh} (h : dtOk w 12 = true) : fits dsh (six w) := by
  obtain ⟨hc, hy, hmo, hd⟩ := dt_bd h
  unfold clk at hc
  simp only [Bool.and_eq_true] at hc
  have h1 := inr_bd hc.1
  have h2 := inr_bd hc.2.1
  have h3 := inr_bd hc.2.2.1
  unfold dsh six
  simp only [fits]
  refine ⟨by omega, by omega, by omega, by omega, by omega, by omega, by omega, by omega, by omega, by omega, by omega, by omega, by omega, by omega, by omega, by omega, by omega, by omega, trivial⟩
theorem lex_at : ∀ (j : Nat) (xs ys : List Int), xs.take j = ys.take j → xs.getD j 0 ≠ ys.getD j 0 → j < xs.length → j < ys.length → lex xs ys = decide (xs.getD j 0 < ys.getD j 0)
  | 0, x :: xs, y :: ys, _, h, _, _ => by
    simp only [lex, List.getD_cons_zero] at h ⊢
    rw [if_neg h]
  | j + 1, x :: xs, y :: ys, ht, h, h1, h2 => by
    simp only [List.take_succ_cons, List.cons.injEq] at ht
    simp only [lex, List.getD_cons_succ] at h ⊢
    rw [if_pos ht.1]
    exact lex_at j xs ys ht.2 h (by simpa using h1) (by simpa using h2)
  | _, [], _, _, _, h, _ => by simp at h
  | _, _ :: _, [], _, _, _, h => by simp at h
theorem tb_list (l : List UInt8) : (tb l).toList = l := by rw [ByteArray.toList_eq]; simp [tb]
/-- What the texts of two dates that may be say of them. -/
theorem ord_at {p q : Wh} (hp : dtOk p 12 = true) (hq : dtOk q 12 = true) (h0 : p.mc = 0) (k0 : q.mc = 0) (j : Nat) (hj : j < 6) (ht : (six p).take j = (six q).take j) (hne : (six p).getD j 0 ≠ (six q).getD j 0) :
    Op.bytesLess (tb (datT p 12)).toList (tb (datT q 12)).toList = decide ((six p).getD j 0 < (six q).getD j 0) ∧ ((tb (datT p 12)).toList != (tb (datT q 12)).toList) = true := by
  have c := ctx_less dsh (six p) (six q) (ok_fits hp) (ok_fits hq)
  rw [tb_list, tb_list, dat_ctx p h0, dat_ctx q k0]
  refine ⟨c.1.trans (lex_at j _ _ ht hne (by simpa [six] using hj) (by simpa [six] using hj)), ?_⟩
  simp only [bne_iff_ne, ne_eq]
  intro z
  exact hne (by rw [c.2 z])
theorem ord_same {p q : Wh} (h0 : p.mc = 0) (k0 : q.mc = 0) (h : six p = six q) : ((tb (datT p 12)).toList == (tb (datT q 12)).toList) = true := by
  rw [dat_ctx p h0, dat_ctx q k0, h]
  simp

set_option maxHeartbeats 4000000 in
set_option maxRecDepth 100000 in
theorem lawVaOrder (v u : Wh) (w : World) (hv : Vars w) (hk : WhK v) (hl : WhK u) : Calls Tryd.prog 5 #[.agg (whC v), .agg (whC u)] w fun e w' => e = .returned (.bool true) ∧ Below w.heap.size w w' := by
  obtain ⟨ng, y, mo, d, h, mi, s, mc⟩ := v
  obtain ⟨ng2, y2, mo2, d2, h2, mi2, s2, mc2⟩ := u
  obtain ⟨w1, hw1⟩ : ∃ z, z = (w.alloc (.cells #[.bool ng, .int .i64 y, .int .i64 mo, .int .i64 d, .int .i64 h, .int .i64 mi, .int .i64 s, .int .i64 mc] 25)).alloc (.cells #[.bool ng2, .int .i64 y2, .int .i64 mo2, .int .i64 d2, .int .i64 h2, .int .i64 mi2, .int .i64 s2, .int .i64 mc2] 25) := ⟨_, rfl⟩
  have b1 : Below w.heap.size w w1 := by rw [hw1]; exact vbup (below_alloc w _) (below_alloc _ _)
  have r1 : w1.heap[w.heap.size]? = some (.cells #[.bool ng, .int .i64 y, .int .i64 mo, .int .i64 d, .int .i64 h, .int .i64 mi, .int .i64 s, .int .i64 mc] 25 (0, 0)) := by rw [hw1]; exact vrow_later (heap_alloc_new w _) (below_alloc _ _)
  have r2 : w1.heap[w.heap.size + 1]? = some (.cells #[.bool ng2, .int .i64 y2, .int .i64 mo2, .int .i64 d2, .int .i64 h2, .int .i64 mi2, .int .i64 s2, .int .i64 mc2] 25 (0, 0)) := by
    have q := heap_alloc_new (w.alloc (.cells #[.bool ng, .int .i64 y, .int .i64 mo, .int .i64 d, .int .i64 h, .int .i64 mi, .int .i64 s, .int .i64 mc] 25)) (.cells #[.bool ng2, .int .i64 y2, .int .i64 mo2, .int .i64 d2, .int .i64 h2, .int .i64 mi2, .int .i64 s2, .int .i64 mc2] 25)
    rw [show (w.alloc (.cells #[.bool ng, .int .i64 y, .int .i64 mo, .int .i64 d, .int .i64 h, .int .i64 mi, .int .i64 s, .int .i64 mc] 25)).heap.size = w.heap.size + 1 by simp] at q
    rw [hw1]
    exact q
  have cL := hide (lives_any w1 (hv.later b1))
  have pK : VaK ⟨5, 0, 0, ⟨#[]⟩, ⟨ng, y, mo, d, h, mi, s, 0⟩⟩ := ⟨⟨by simp, by simp⟩, ⟨by simp, by simp⟩, ⟨by simp, by simp⟩, ⟨hk.y, hk.mo, hk.d, hk.h, hk.mi, hk.s, ⟨by simp, by simp⟩⟩⟩
  have qK : VaK ⟨5, 0, 0, ⟨#[]⟩, ⟨ng2, y2, mo2, d2, h2, mi2, s2, 0⟩⟩ := ⟨⟨by simp, by simp⟩, ⟨by simp, by simp⟩, ⟨by simp, by simp⟩, ⟨hl.y, hl.mo, hl.d, hl.h, hl.mi, hl.s, ⟨by simp, by simp⟩⟩⟩
  have cT := hide (fun wx (hx : Vars wx) => text_any ⟨5, 0, 0, ⟨#[]⟩, ⟨ng, y, mo, d, h, mi, s, 0⟩⟩ 12 false wx (by decide) (by decide) hx pK)
  have cU := hide (fun wx (hx : Vars wx) => text_any ⟨5, 0, 0, ⟨#[]⟩, ⟨ng2, y2, mo2, d2, h2, mi2, s2, 0⟩⟩ 12 false wx (by decide) (by decide) hx qK)
  have oT : tOk ⟨5, 0, 0, ⟨#[]⟩, ⟨ng, y, mo, d, h, mi, s, 0⟩⟩ 12 false = true → dtOk ⟨ng, y, mo, d, h, mi, s, 0⟩ 12 = true := fun z => ok_date (un := false) (by unfold tOk at z; simp only [Bool.and_eq_true] at z; exact z.1) rfl
  have oU : tOk ⟨5, 0, 0, ⟨#[]⟩, ⟨ng2, y2, mo2, d2, h2, mi2, s2, 0⟩⟩ 12 false = true → dtOk ⟨ng2, y2, mo2, d2, h2, mi2, s2, 0⟩ 12 = true := fun z => ok_date (un := false) (by unfold tOk at z; simp only [Bool.and_eq_true] at z; exact z.1) rfl
  have eT : ∀ p : Wh, vaT ⟨5, 0, 0, ⟨#[]⟩, p⟩ 12 = datT p 12 := fun p => rfl
  unfold txR at cT cU
  rw [eT] at cT cU
  unfold vaC at cT cU
  unfold whC
  simp only at cT cU
  have HW := hide hw1
  have HV := hide hv
  have B1 := hide b1
  have R1 := hide r1
  have R2 := hide r2
  clear hw1 hv b1 r1 r2 pK qK hk hl eT
  go_enter Tryd.func5, Tryd.ntmps5
  go_upto_region 3 with (go_at_call 6; rw [← unhide HW]; refine (unhide cL).mono ?_; rintro e w2 ⟨rfl, b2⟩; have B2 := hide (vbup (unhide B1) b2); have Q1 := hide (vrow_later (unhide R1) b2); have Q2 := hide (vrow_later (unhide R2) b2); clear b2)
  have b3 := below_alloc w2 (.cells #[.int .u8 12, .bool false] 29)
  have r3 := heap_alloc_new w2 (.cells #[.int .u8 12, .bool false] 29)
  have L3 := (Array.getElem?_eq_some_iff.1 (unhide Q2)).1
  obtain ⟨w3, hw3⟩ : ∃ z, z = w2.alloc (.cells #[.int .u8 12, .bool false] 29) := ⟨_, rfl⟩
  have P1 := vrow_later (unhide Q1) b3
  have P2 := vrow_later (unhide Q2) b3
  have B3 := vbup (unhide B2) b3
  rw [← hw3] at P1 P2 r3 B3
  obtain ⟨w4, hw4⟩ : ∃ z, z = (w3.setCell ⟨w.heap.size, 7, none⟩ (.int .i64 0)).setCell ⟨w.heap.size + 1, 7, none⟩ (.int .i64 0) := ⟨_, rfl⟩
  have B4 := hide (show Below w.heap.size w w4 by rw [hw4]; exact (B3.setCell (Nat.le_refl _) _).setCell (Nat.le_succ _) _)
  have A1 := hide (show w4.heap[w.heap.size]? = some (.cells #[.bool ng, .int .i64 y, .int .i64 mo, .int .i64 d, .int .i64 h, .int .i64 mi, .int .i64 s, .int .i64 0] 25 (0, 0)) by rw [hw4, heap_setCell_other _ _ _ _ (by simp), heap_setCell_same w3 _ 7 _ _ _ P1]; rfl)
  have A2 := hide (show w4.heap[w.heap.size + 1]? = some (.cells #[.bool ng2, .int .i64 y2, .int .i64 mo2, .int .i64 d2, .int .i64 h2, .int .i64 mi2, .int .i64 s2, .int .i64 0] 25 (0, 0)) by rw [hw4, heap_setCell_same (w3.setCell ⟨w.heap.size, 7, none⟩ (.int .i64 0)) _ 7 _ _ _ (by rw [heap_setCell_other _ _ _ _ (by simp)]; exact P2)]; rfl)
  have A3 := hide (show w4.heap[w2.heap.size]? = some (.cells #[.int .u8 12, .bool false] 29 (0, 0)) by rw [hw4, heap_setCell_other _ _ _ _ (by simp only; omega), heap_setCell_other _ _ _ _ (by simp only; omega)]; exact r3)
  have z1 := frozen_of_row w3 _ 7 _ _ P1
  have z2 := frozen_of_row w3 _ 7 _ _ P2
  have c1 := vrow_cell P1 (j := 7) (v := .int .i64 mc) rfl
  have c2 := vrow_cell P2 (j := 7) (v := .int .i64 mc2) rfl
  rw [hw3] at z1 z2 c1 c2 hw4
  have HW4 := hide hw4
  clear b3 r3 P1 P2 B3 hw4 hw3
  go_upto_region 5 with fail
  rw [← unhide HW4]
  clear z1 z2 c1 c2 L3
  have V4 := hide ((unhide HV).later (unhide B4))
  generalize w2.heap.size = gt at *
  have k0 := vrow_cell (unhide A1) (j := 0) (v := .bool ng) rfl
  have k1 := vrow_cell (unhide A1) (j := 1) (v := .int .i64 y) rfl
  have k2 := vrow_cell (unhide A1) (j := 2) (v := .int .i64 mo) rfl
  have k3 := vrow_cell (unhide A1) (j := 3) (v := .int .i64 d) rfl
  have k4 := vrow_cell (unhide A1) (j := 4) (v := .int .i64 h) rfl
  have k5 := vrow_cell (unhide A1) (j := 5) (v := .int .i64 mi) rfl
  have k6 := vrow_cell (unhide A1) (j := 6) (v := .int .i64 s) rfl
  have k7 := vrow_cell (unhide A1) (j := 7) (v := .int .i64 0) rfl
  have m0 := vrow_cell (unhide A2) (j := 0) (v := .bool ng2) rfl
  have m1 := vrow_cell (unhide A2) (j := 1) (v := .int .i64 y2) rfl
  have m2 := vrow_cell (unhide A2) (j := 2) (v := .int .i64 mo2) rfl
  have m3 := vrow_cell (unhide A2) (j := 3) (v := .int .i64 d2) rfl
  have m4 := vrow_cell (unhide A2) (j := 4) (v := .int .i64 h2) rfl
  have m5 := vrow_cell (unhide A2) (j := 5) (v := .int .i64 mi2) rfl
  have m6 := vrow_cell (unhide A2) (j := 6) (v := .int .i64 s2) rfl
  have m7 := vrow_cell (unhide A2) (j := 7) (v := .int .i64 0) rfl
  have t0 := vrow_cell (unhide A3) (j := 0) (v := .int .u8 12) rfl
  have t1 := vrow_cell (unhide A3) (j := 1) (v := .bool false) rfl
  cases oa : tOk ⟨5, 0, 0, ⟨#[]⟩, ⟨ng, y, mo, d, h, mi, s, 0⟩⟩ 12 false
  · rw [oa, if_neg (by decide)] at cT
    simp only at cT
    generalize (if tOk ⟨5, 0, 0, ⟨#[]⟩, ⟨ng2, y2, mo2, d2, h2, mi2, s2, 0⟩⟩ 12 false = true then (tb (datT ⟨ng2, y2, mo2, d2, h2, mi2, s2, 0⟩ 12), (0 : Int)) else (⟨#[]⟩, 2)) = R at *
    clear oa oT oU
    go_wp2_with (first | (go_at_call 10; (with_reducible refine (unhide cT _ (unhide V4)).mono ?_); rintro e w5 ⟨rfl, b5⟩; have V5 := hide ((unhide V4).later b5); have B5 := hide (vbup (unhide B4) b5); have D1 := hide (vrow_later (unhide A1) b5); have D2 := hide (vrow_later (unhide A2) b5); have D3 := hide (vrow_later (unhide A3) b5); clear b5 k0 k1 k2 k3 k4 k5 k6 k7 m0 m1 m2 m3 m4 m5 m6 m7 t0 t1; have m0 := vrow_cell (unhide D2) (j := 0) (v := .bool ng2) rfl; have m1 := vrow_cell (unhide D2) (j := 1) (v := .int .i64 y2) rfl; have m2 := vrow_cell (unhide D2) (j := 2) (v := .int .i64 mo2) rfl; have m3 := vrow_cell (unhide D2) (j := 3) (v := .int .i64 d2) rfl; have m4 := vrow_cell (unhide D2) (j := 4) (v := .int .i64 h2) rfl; have m5 := vrow_cell (unhide D2) (j := 5) (v := .int .i64 mi2) rfl; have m6 := vrow_cell (unhide D2) (j := 6) (v := .int .i64 s2) rfl; have m7 := vrow_cell (unhide D2) (j := 7) (v := .int .i64 0) rfl; have t0 := vrow_cell (unhide D3) (j := 0) (v := .int .u8 12) rfl; have t1 := vrow_cell (unhide D3) (j := 1) (v := .bool false) rfl) | (go_at_call 10; (with_reducible refine (unhide cU _ (unhide V5)).mono ?_); rintro e w6 ⟨rfl, b6⟩; have B6 := hide (vbup (unhide B5) b6); clear b6))
    go_ret
    exact ⟨rfl, unhide B6⟩
  · rw [oa, if_pos rfl] at cT
    simp only at cT
    cases ob : tOk ⟨5, 0, 0, ⟨#[]⟩, ⟨ng2, y2, mo2, d2, h2, mi2, s2, 0⟩⟩ 12 false
    · rw [ob, if_neg (by decide)] at cU
      simp only at cU
      generalize tb (datT ⟨ng, y, mo, d, h, mi, s, 0⟩ 12) = S1 at *
      clear oa ob oT oU
      go_wp2_with (first | (go_at_call 10; (with_reducible refine (unhide cT _ (unhide V4)).mono ?_); rintro e w5 ⟨rfl, b5⟩; have V5 := hide ((unhide V4).later b5); have B5 := hide (vbup (unhide B4) b5); have D1 := hide (vrow_later (unhide A1) b5); have D2 := hide (vrow_later (unhide A2) b5); have D3 := hide (vrow_later (unhide A3) b5); clear b5 k0 k1 k2 k3 k4 k5 k6 k7 m0 m1 m2 m3 m4 m5 m6 m7 t0 t1; have m0 := vrow_cell (unhide D2) (j := 0) (v := .bool ng2) rfl; have m1 := vrow_cell (unhide D2) (j := 1) (v := .int .i64 y2) rfl; have m2 := vrow_cell (unhide D2) (j := 2) (v := .int .i64 mo2) rfl; have m3 := vrow_cell (unhide D2) (j := 3) (v := .int .i64 d2) rfl; have m4 := vrow_cell (unhide D2) (j := 4) (v := .int .i64 h2) rfl; have m5 := vrow_cell (unhide D2) (j := 5) (v := .int .i64 mi2) rfl; have m6 := vrow_cell (unhide D2) (j := 6) (v := .int .i64 s2) rfl; have m7 := vrow_cell (unhide D2) (j := 7) (v := .int .i64 0) rfl; have t0 := vrow_cell (unhide D3) (j := 0) (v := .int .u8 12) rfl; have t1 := vrow_cell (unhide D3) (j := 1) (v := .bool false) rfl) | (go_at_call 10; (with_reducible refine (unhide cU _ (unhide V5)).mono ?_); rintro e w6 ⟨rfl, b6⟩; have B6 := hide (vbup (unhide B5) b6); clear b6))
      go_ret
      exact ⟨rfl, unhide B6⟩
    · rw [ob, if_pos rfl] at cU
      simp only at cU
      have dp := oT oa
      have dq := oU ob
      have OA := hide (fun (j : Nat) (hj : j < 6) ht hne => ord_at dp dq rfl rfl j hj ht hne)
      have OS := hide (fun (hh2 : six ⟨ng, y, mo, d, h, mi, s, 0⟩ = six ⟨ng2, y2, mo2, d2, h2, mi2, s2, 0⟩) => ord_same (p := ⟨ng, y, mo, d, h, mi, s, 0⟩) (q := ⟨ng2, y2, mo2, d2, h2, mi2, s2, 0⟩) rfl rfl hh2)
      generalize tb (datT ⟨ng, y, mo, d, h, mi, s, 0⟩ 12) = S1 at *
      generalize tb (datT ⟨ng2, y2, mo2, d2, h2, mi2, s2, 0⟩ 12) = S2 at *
      clear oa ob oT oU dp dq
      unfold six at OA OS
      simp only at OA OS
      go_wp2_with (first | (go_at_call 10; (with_reducible refine (unhide cT _ (unhide V4)).mono ?_); rintro e w5 ⟨rfl, b5⟩; have V5 := hide ((unhide V4).later b5); have B5 := hide (vbup (unhide B4) b5); have D1 := hide (vrow_later (unhide A1) b5); have D2 := hide (vrow_later (unhide A2) b5); have D3 := hide (vrow_later (unhide A3) b5); clear b5 k0 k1 k2 k3 k4 k5 k6 k7 m0 m1 m2 m3 m4 m5 m6 m7 t0 t1; have m0 := vrow_cell (unhide D2) (j := 0) (v := .bool ng2) rfl; have m1 := vrow_cell (unhide D2) (j := 1) (v := .int .i64 y2) rfl; have m2 := vrow_cell (unhide D2) (j := 2) (v := .int .i64 mo2) rfl; have m3 := vrow_cell (unhide D2) (j := 3) (v := .int .i64 d2) rfl; have m4 := vrow_cell (unhide D2) (j := 4) (v := .int .i64 h2) rfl; have m5 := vrow_cell (unhide D2) (j := 5) (v := .int .i64 mi2) rfl; have m6 := vrow_cell (unhide D2) (j := 6) (v := .int .i64 s2) rfl; have m7 := vrow_cell (unhide D2) (j := 7) (v := .int .i64 0) rfl; have t0 := vrow_cell (unhide D3) (j := 0) (v := .int .u8 12) rfl; have t1 := vrow_cell (unhide D3) (j := 1) (v := .bool false) rfl) | (go_at_call 10; (with_reducible refine (unhide cU _ (unhide V5)).mono ?_); rintro e w6 ⟨rfl, b6⟩; have B6 := hide (vbup (unhide B5) b6); have F1 := hide (vrow_later (unhide D1) b6); have F2 := hide (vrow_later (unhide D2) b6); clear b6 m0 m1 m2 m3 m4 m5 m6 m7 t0 t1; have L6 := (Array.getElem?_eq_some_iff.1 (unhide F2)).1; have k1 := vrow_cell (unhide F1) (j := 1) (v := .int .i64 y) rfl; have k2 := vrow_cell (unhide F1) (j := 2) (v := .int .i64 mo) rfl; have k3 := vrow_cell (unhide F1) (j := 3) (v := .int .i64 d) rfl; have k4 := vrow_cell (unhide F1) (j := 4) (v := .int .i64 h) rfl; have k5 := vrow_cell (unhide F1) (j := 5) (v := .int .i64 mi) rfl; have k6 := vrow_cell (unhide F1) (j := 6) (v := .int .i64 s) rfl; have m1 := vrow_cell (unhide F2) (j := 1) (v := .int .i64 y2) rfl; have m2 := vrow_cell (unhide F2) (j := 2) (v := .int .i64 mo2) rfl; have m3 := vrow_cell (unhide F2) (j := 3) (v := .int .i64 d2) rfl; have m4 := vrow_cell (unhide F2) (j := 4) (v := .int .i64 h2) rfl; have m5 := vrow_cell (unhide F2) (j := 5) (v := .int .i64 mi2) rfl; have m6 := vrow_cell (unhide F2) (j := 6) (v := .int .i64 s2) rfl))
      obtain ⟨w7, hw7⟩ : ∃ z, z = (w6.alloc (.cells #[.int .i64 y, .int .i64 mo, .int .i64 d, .int .i64 h, .int .i64 mi, .int .i64 s] 3)).alloc (.cells #[.int .i64 y2, .int .i64 mo2, .int .i64 d2, .int .i64 h2, .int .i64 mi2, .int .i64 s2] 3) := ⟨_, rfl⟩
      have B7 := hide (show Below w.heap.size w w7 by rw [hw7]; exact vbup (vbup (unhide B6) (below_alloc w6 _)) (below_alloc _ _))
      have I1 : w7.heap[w6.heap.size]? = some (.cells #[.int .i64 y, .int .i64 mo, .int .i64 d, .int .i64 h, .int .i64 mi, .int .i64 s] 3 (0, 0)) := by rw [hw7]; exact vrow_later (heap_alloc_new w6 _) (below_alloc _ _)
      have I2 : w7.heap[w6.heap.size + 1]? = some (.cells #[.int .i64 y2, .int .i64 mo2, .int .i64 d2, .int .i64 h2, .int .i64 mi2, .int .i64 s2] 3 (0, 0)) := by
        have q := heap_alloc_new (w6.alloc (.cells #[.int .i64 y, .int .i64 mo, .int .i64 d, .int .i64 h, .int .i64 mi, .int .i64 s] 3)) (.cells #[.int .i64 y2, .int .i64 mo2, .int .i64 d2, .int .i64 h2, .int .i64 mi2, .int .i64 s2] 3)
        rw [show (w6.alloc (.cells #[.int .i64 y, .int .i64 mo, .int .i64 d, .int .i64 h, .int .i64 mi, .int .i64 s] 3)).heap.size = w6.heap.size + 1 by simp] at q
        rw [hw7]
        exact q
      rw [← hw7]
      have J1 := hide I1
      have J2 := hide I2
      clear hw7 I1 I2 L6 k1 k2 k3 k4 k5 k6 m1 m2 m3 m4 m5 m6
      generalize w6.heap.size = ga at *
      go_loopw [12] (fun i ws => ∃ (j : Nat), j ≤ 6 ∧ i = .int .i64 (j : Int) ∧ ([y, mo, d, h, mi, s] : List Int).take j = ([y2, mo2, d2, h2, mi2, s2] : List Int).take j ∧ Below w7.heap.size w7 ws) (fun i _ => 6 - (intOf i).toNat)
      case atStart => exact ⟨0, by omega, rfl, rfl, Below.refl _ _⟩
      case round =>
        obtain ⟨j, hj, rfl, ht, hB⟩ := hrel
        have Z1 := vrow_later (unhide J1) hB
        have Z2 := vrow_later (unhide J2) hB
        have a0 := vrow_cell Z1 (j := 0) (v := .int .i64 y) rfl
        have a1 := vrow_cell Z1 (j := 1) (v := .int .i64 mo) rfl
        have a2 := vrow_cell Z1 (j := 2) (v := .int .i64 d) rfl
        have a3 := vrow_cell Z1 (j := 3) (v := .int .i64 h) rfl
        have a4 := vrow_cell Z1 (j := 4) (v := .int .i64 mi) rfl
        have a5 := vrow_cell Z1 (j := 5) (v := .int .i64 s) rfl
        have b0 := vrow_cell Z2 (j := 0) (v := .int .i64 y2) rfl
        have b1 := vrow_cell Z2 (j := 1) (v := .int .i64 mo2) rfl
        have b2 := vrow_cell Z2 (j := 2) (v := .int .i64 d2) rfl
        have b3 := vrow_cell Z2 (j := 3) (v := .int .i64 h2) rfl
        have b4 := vrow_cell Z2 (j := 4) (v := .int .i64 mi2) rfl
        have b5 := vrow_cell Z2 (j := 5) (v := .int .i64 s2) rfl
        have BW := hide (vbup (unhide B7) hB)
        have BR := hide hB
        clear Z1 Z2 hB
        rcases (show j = 0 ∨ j = 1 ∨ j = 2 ∨ j = 3 ∨ j = 4 ∨ j = 5 ∨ j = 6 by omega) with rfl | rfl | rfl | rfl | rfl | rfl | rfl
        · by_cases hx : y = y2
          · have hne : (y != y2) = false := by simpa using hx
            have ht2 : ([y, mo, d, h, mi, s] : List Int).take 1 = ([y2, mo2, d2, h2, mi2, s2] : List Int).take 1 := by
              simp only [List.take_succ_cons, List.take_zero, List.cons.injEq, and_true] at ht ⊢
              simp only [ht, hx, and_self]
            have HT := hide ht2
            clear ht ht2 hx
            go_wp2_with fail
            go_quiet (fail)
            go_wp2_with fail
            go_roundw
            case rel => exact ⟨1, by omega, rfl, unhide HT, vbup (unhide BR) (by first | exact Below.refl _ _ | exact drN_below _ _)⟩
            case measure => simp [intOf]
          · have hne : (y != y2) = true := by simpa using hx
            have oo := unhide OA 0 (by omega) ht (by simpa using hx)
            simp only [List.getD_cons_zero, List.getD_cons_succ] at oo
            obtain ⟨o1, o2⟩ := oo
            have o3 : (S1.toList == S2.toList) = false := by simpa [bne] using o2
            clear ht hx
            by_cases hlt : y < y2
            · rw [decide_eq_true hlt] at o1
              have hl2 : decide (y < y2) = true := decide_eq_true hlt
              clear hlt
              go_wp2_with fail
              go_quiet (fail)
              go_wp2_with fail
              go_quiet (fail)
              go_wp2_with fail
              go_ret
              exact ⟨rfl, vbup (unhide BW) (by first | exact Below.refl _ _ | exact drN_below _ _ | exact vbup (drN_below _ _) (drN_below _ _))⟩
            · rw [decide_eq_false hlt] at o1
              have hl2 : decide (y < y2) = false := decide_eq_false hlt
              clear hlt
              go_wp2_with fail
              go_quiet (fail)
              go_wp2_with fail
              go_quiet (fail)
              go_wp2_with fail
              go_ret
              exact ⟨rfl, vbup (unhide BW) (by first | exact Below.refl _ _ | exact drN_below _ _ | exact vbup (drN_below _ _) (drN_below _ _))⟩
        · by_cases hx : mo = mo2
          · have hne : (mo != mo2) = false := by simpa using hx
            have ht2 : ([y, mo, d, h, mi, s] : List Int).take 2 = ([y2, mo2, d2, h2, mi2, s2] : List Int).take 2 := by
              simp only [List.take_succ_cons, List.take_zero, List.cons.injEq, and_true] at ht ⊢
              simp only [ht, hx, and_self]
            have HT := hide ht2
            clear ht ht2 hx
            go_wp2_with fail
            go_quiet (fail)
            go_wp2_with fail
            go_roundw
            case rel => exact ⟨2, by omega, rfl, unhide HT, vbup (unhide BR) (by first | exact Below.refl _ _ | exact drN_below _ _)⟩
            case measure => simp [intOf]
          · have hne : (mo != mo2) = true := by simpa using hx
            have oo := unhide OA 1 (by omega) ht (by simpa using hx)
            simp only [List.getD_cons_zero, List.getD_cons_succ] at oo
            obtain ⟨o1, o2⟩ := oo
            have o3 : (S1.toList == S2.toList) = false := by simpa [bne] using o2
            clear ht hx
            by_cases hlt : mo < mo2
            · rw [decide_eq_true hlt] at o1
              have hl2 : decide (mo < mo2) = true := decide_eq_true hlt
              clear hlt
              go_wp2_with fail
              go_quiet (fail)
              go_wp2_with fail
              go_quiet (fail)
              go_wp2_with fail
              go_ret
              exact ⟨rfl, vbup (unhide BW) (by first | exact Below.refl _ _ | exact drN_below _ _ | exact vbup (drN_below _ _) (drN_below _ _))⟩
            · rw [decide_eq_false hlt] at o1
              have hl2 : decide (mo < mo2) = false := decide_eq_false hlt
              clear hlt
              go_wp2_with fail
              go_quiet (fail)
              go_wp2_with fail
              go_quiet (fail)
              go_wp2_with fail
              go_ret
              exact ⟨rfl, vbup (unhide BW) (by first | exact Below.refl _ _ | exact drN_below _ _ | exact vbup (drN_below _ _) (drN_below _ _))⟩
        · by_cases hx : d = d2
          · have hne : (d != d2) = false := by simpa using hx
            have ht2 : ([y, mo, d, h, mi, s] : List Int).take 3 = ([y2, mo2, d2, h2, mi2, s2] : List Int).take 3 := by
              simp only [List.take_succ_cons, List.take_zero, List.cons.injEq, and_true] at ht ⊢
              simp only [ht, hx, and_self]
            have HT := hide ht2
            clear ht ht2 hx
            go_wp2_with fail
            go_quiet (fail)
            go_wp2_with fail
            go_roundw
            case rel => exact ⟨3, by omega, rfl, unhide HT, vbup (unhide BR) (by first | exact Below.refl _ _ | exact drN_below _ _)⟩
            case measure => simp [intOf]
          · have hne : (d != d2) = true := by simpa using hx
            have oo := unhide OA 2 (by omega) ht (by simpa using hx)
            simp only [List.getD_cons_zero, List.getD_cons_succ] at oo
            obtain ⟨o1, o2⟩ := oo
            have o3 : (S1.toList == S2.toList) = false := by simpa [bne] using o2
            clear ht hx
            by_cases hlt : d < d2
            · rw [decide_eq_true hlt] at o1
              have hl2 : decide (d < d2) = true := decide_eq_true hlt
              clear hlt
              go_wp2_with fail
              go_quiet (fail)
              go_wp2_with fail
              go_quiet (fail)
              go_wp2_with fail
              go_ret
              exact ⟨rfl, vbup (unhide BW) (by first | exact Below.refl _ _ | exact drN_below _ _ | exact vbup (drN_below _ _) (drN_below _ _))⟩
            · rw [decide_eq_false hlt] at o1
              have hl2 : decide (d < d2) = false := decide_eq_false hlt
              clear hlt
              go_wp2_with fail
              go_quiet (fail)
              go_wp2_with fail
              go_quiet (fail)
              go_wp2_with fail
              go_ret
              exact ⟨rfl, vbup (unhide BW) (by first | exact Below.refl _ _ | exact drN_below _ _ | exact vbup (drN_below _ _) (drN_below _ _))⟩
        · by_cases hx : h = h2
          · have hne : (h != h2) = false := by simpa using hx
            have ht2 : ([y, mo, d, h, mi, s] : List Int).take 4 = ([y2, mo2, d2, h2, mi2, s2] : List Int).take 4 := by
              simp only [List.take_succ_cons, List.take_zero, List.cons.injEq, and_true] at ht ⊢
              simp only [ht, hx, and_self]
            have HT := hide ht2
            clear ht ht2 hx
            go_wp2_with fail
            go_quiet (fail)
            go_wp2_with fail
            go_roundw
            case rel => exact ⟨4, by omega, rfl, unhide HT, vbup (unhide BR) (by first | exact Below.refl _ _ | exact drN_below _ _)⟩
            case measure => simp [intOf]
          · have hne : (h != h2) = true := by simpa using hx
            have oo := unhide OA 3 (by omega) ht (by simpa using hx)
            simp only [List.getD_cons_zero, List.getD_cons_succ] at oo
            obtain ⟨o1, o2⟩ := oo
            have o3 : (S1.toList == S2.toList) = false := by simpa [bne] using o2
            clear ht hx
            by_cases hlt : h < h2
            · rw [decide_eq_true hlt] at o1
              have hl2 : decide (h < h2) = true := decide_eq_true hlt
              clear hlt
              go_wp2_with fail
              go_quiet (fail)
              go_wp2_with fail
              go_quiet (fail)
              go_wp2_with fail
              go_ret
              exact ⟨rfl, vbup (unhide BW) (by first | exact Below.refl _ _ | exact drN_below _ _ | exact vbup (drN_below _ _) (drN_below _ _))⟩
            · rw [decide_eq_false hlt] at o1
              have hl2 : decide (h < h2) = false := decide_eq_false hlt
              clear hlt
              go_wp2_with fail
              go_quiet (fail)
              go_wp2_with fail
              go_quiet (fail)
              go_wp2_with fail
              go_ret
              exact ⟨rfl, vbup (unhide BW) (by first | exact Below.refl _ _ | exact drN_below _ _ | exact vbup (drN_below _ _) (drN_below _ _))⟩
        · by_cases hx : mi = mi2
          · have hne : (mi != mi2) = false := by simpa using hx
            have ht2 : ([y, mo, d, h, mi, s] : List Int).take 5 = ([y2, mo2, d2, h2, mi2, s2] : List Int).take 5 := by
              simp only [List.take_succ_cons, List.take_zero, List.cons.injEq, and_true] at ht ⊢
              simp only [ht, hx, and_self]
            have HT := hide ht2
            clear ht ht2 hx
            go_wp2_with fail
            go_quiet (fail)
            go_wp2_with fail
            go_roundw
            case rel => exact ⟨5, by omega, rfl, unhide HT, vbup (unhide BR) (by first | exact Below.refl _ _ | exact drN_below _ _)⟩
            case measure => simp [intOf]
          · have hne : (mi != mi2) = true := by simpa using hx
            have oo := unhide OA 4 (by omega) ht (by simpa using hx)
            simp only [List.getD_cons_zero, List.getD_cons_succ] at oo
            obtain ⟨o1, o2⟩ := oo
            have o3 : (S1.toList == S2.toList) = false := by simpa [bne] using o2
            clear ht hx
            by_cases hlt : mi < mi2
            · rw [decide_eq_true hlt] at o1
              have hl2 : decide (mi < mi2) = true := decide_eq_true hlt
              clear hlt
              go_wp2_with fail
              go_quiet (fail)
              go_wp2_with fail
              go_quiet (fail)
              go_wp2_with fail
              go_ret
              exact ⟨rfl, vbup (unhide BW) (by first | exact Below.refl _ _ | exact drN_below _ _ | exact vbup (drN_below _ _) (drN_below _ _))⟩
            · rw [decide_eq_false hlt] at o1
              have hl2 : decide (mi < mi2) = false := decide_eq_false hlt
              clear hlt
              go_wp2_with fail
              go_quiet (fail)
              go_wp2_with fail
              go_quiet (fail)
              go_wp2_with fail
              go_ret
              exact ⟨rfl, vbup (unhide BW) (by first | exact Below.refl _ _ | exact drN_below _ _ | exact vbup (drN_below _ _) (drN_below _ _))⟩
        · by_cases hx : s = s2
          · have hne : (s != s2) = false := by simpa using hx
            have ht2 : ([y, mo, d, h, mi, s] : List Int).take 6 = ([y2, mo2, d2, h2, mi2, s2] : List Int).take 6 := by
              simp only [List.take_succ_cons, List.take_zero, List.cons.injEq, and_true] at ht ⊢
              simp only [ht, hx, and_self]
            have HT := hide ht2
            clear ht ht2 hx
            go_wp2_with fail
            go_quiet (fail)
            go_wp2_with fail
            go_roundw
            case rel => exact ⟨6, by omega, rfl, unhide HT, vbup (unhide BR) (by first | exact Below.refl _ _ | exact drN_below _ _)⟩
            case measure => simp [intOf]
          · have hne : (s != s2) = true := by simpa using hx
            have oo := unhide OA 5 (by omega) ht (by simpa using hx)
            simp only [List.getD_cons_zero, List.getD_cons_succ] at oo
            obtain ⟨o1, o2⟩ := oo
            have o3 : (S1.toList == S2.toList) = false := by simpa [bne] using o2
            clear ht hx
            by_cases hlt : s < s2
            · rw [decide_eq_true hlt] at o1
              have hl2 : decide (s < s2) = true := decide_eq_true hlt
              clear hlt
              go_wp2_with fail
              go_quiet (fail)
              go_wp2_with fail
              go_quiet (fail)
              go_wp2_with fail
              go_ret
              exact ⟨rfl, vbup (unhide BW) (by first | exact Below.refl _ _ | exact drN_below _ _ | exact vbup (drN_below _ _) (drN_below _ _))⟩
            · rw [decide_eq_false hlt] at o1
              have hl2 : decide (s < s2) = false := decide_eq_false hlt
              clear hlt
              go_wp2_with fail
              go_quiet (fail)
              go_wp2_with fail
              go_quiet (fail)
              go_wp2_with fail
              go_ret
              exact ⟨rfl, vbup (unhide BW) (by first | exact Below.refl _ _ | exact drN_below _ _ | exact vbup (drN_below _ _) (drN_below _ _))⟩
        · have e6 := unhide OS (by simpa using ht)
          clear ht
          go_wp2_with fail
          go_ret
          exact ⟨rfl, unhide BW⟩


end Go.Proofs.YtnodhdggafffaaaDoor
