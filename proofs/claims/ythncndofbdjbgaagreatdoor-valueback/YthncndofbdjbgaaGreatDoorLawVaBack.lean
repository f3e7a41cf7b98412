/-
  ValueBack walked: it returns true, whatever the value, the type and the bytes behind. Conditions: numbers within their kinds; the library's variables read as their initialisers lay them.
-/
import Derived.Test.YthncndofbdjbgaaGreatDoorVaSt
import Derived.Test.YthncndofbdjbgaaGreatDoorVaOf2
import Derived.Test.YthncndofbdjbgaaGreatDoorMOb
import Derived.Test.YthncndofbdjbgaaGreatDoorVaLives
namespace Go.Proofs.YthncndofbdjbgaaGreatDoor
open Go.RowKit
set_option linter.unusedVariables false
set_option linter.unusedSimpArgs false

theorem nDigits_le (b : Int) (h : 0 ≤ b ∧ b < 18446744073709551616) : (Lib.itoa b).length ≤ 21 := by
  obtain ⟨n, rfl⟩ := Int.eq_ofNat_of_zero_le h.1
  rw [Lib.itoa_nonneg, Lib.decDigits_length]
  have := Lib.nDigits_le20 n (by omega)
  omega

theorem vaT_size {v : Va} {t : Int} {un : Bool} (hv : VaK v) (h : tOk v t un = true) (hs : v.t.size ≤ 2000) : (tb (vaT v t)).size ≤ 1099511627776 := by
  rw [tb_size]
  unfold tOk at h
  simp only [Bool.and_eq_true] at h
  unfold vaT
  have hw := hv.w
  split
  · have := Lib.itoa_length_le v.i hv.i.1 hv.i.2; omega
  split
  · have h2 := nDigits_le v.b hv.b; omega
  split
  · have p1 := pad_size v.w.y 4 hw.y
    have p2 := pad_size v.w.mo 2 hw.mo
    have p3 := pad_size v.w.d 2 hw.d
    have p4 := pad_size v.w.h 2 hw.h
    have p5 := minT_size v.w hw
    rw [tb_size] at p1 p2 p3 p4 p5
    unfold datT dayT
    split <;> simp <;> omega
  split
  · rename_i hk
    obtain ⟨q1, q2⟩ := ok_six h.1 hk
    have q1 := inr_bd q1
    have q2 := inr_bd q2
    have p1 := pad_size (24 * v.w.d + v.w.h) 2 ⟨by omega, by omega⟩
    have p5 := minT_size v.w hw
    rw [tb_size] at p1 p5
    unfold timT
    split <;> simp <;> omega
  · have : v.t.data.toList.length = v.t.size := by rw [Array.length_toList]; rfl
    omega

set_option maxHeartbeats 4000000 in
set_option maxRecDepth 100000 in
theorem lawVaBack (v : Va) (t : Int) (un : Bool) (ho : Option Addr) (hn hc : Nat) (hl : List Int) (w : World) (hz : VarZ w) (hK : VaK v) (ht : 0 ≤ t ∧ t < 256) (hh : Bs w ho hn hc hl) : Calls Tryz.prog 5 #[.agg (vaC v), .agg #[.int .u8 t, .bool un], .slice ho hn hc] w fun e w' => e = .returned (.bool true) ∧ Below w.heap.size w w' := by
  obtain ⟨w1, hw1⟩ : ∃ z, z = (w.alloc (.cells (vaC v) 32)).alloc (.cells #[.int .u8 t, .bool un] 23) := ⟨_, rfl⟩
  have P0 : Pv w v t un w1 := by rw [hw1]; exact Pv.box w v t un
  have S1 := hide (show Lw w v t un ho hn hc hl w1 from ⟨P0, hz.later P0.bl, hh.later P0.bl⟩)
  have cL := hide (lives_any w1 (hz.later P0.bl).v)
  have hhl := hh.len
  have hhm := hh.max
  have hhle := hh.le
  have HK := hide hK
  have cT := hide (fun wx (hx : VarZ wx) => text_any v t un wx ht.1 ht.2 hx.v hK)
  have cO := hide (fun (h : tOk v t un = true) (hs : v.t.size ≤ 2000) wx (hx : VarZ wx) => of_any (tb (vaT v t)) t un wx ht.1 ht.2 hx (vaT_size hK h hs))
  have hOB := hide (fun (h : tOk v t un = true) => of_back hK h)
  have cA := hide (fun (hs : v.t.size ≤ 100000) wx => append_any none 0 0 [] v t un wx ht.1 ht.2 hK (Bs.nought wx) (by simp) hs)
  have hRB := hide (fun (hO : bOk v t un = true) (hs : v.t.size ≤ 100000) => rd_back hK hO hs hl)
  have hRC := hide (fun (hO : bOk v t un = true) (hs : v.t.size ≤ 100000) (i : Nat) (hi : i < (vaB v t).length) => rd_cut hK hO hs hi)
  have hVL := hide (vaB_len v t)
  have cR := hide (fun (wx : World) xo n c (l : List Int) (hx : Bs wx xo n c l) => read_any xo n c l t un wx ht.1 ht.2 hx)
  have E1 := nqv' v v
  rw [decide_eq_true rfl] at E1
  have SZ := hide (vaC_size v)
  have SZ0 := hide (vaC_size va0)
  have hTX : txR v t un = if tOk v t un = true then (tb (vaT v t), 0) else (⟨#[]⟩, 2) := rfl
  obtain ⟨TT, hTT⟩ : ∃ z, z = txR v t un := ⟨_, rfl⟩
  rw [← hTT] at cT hTX
  obtain ⟨TS, TE⟩ := TT
  have HTX := hide hTX
  clear hTT hTX P0 hz hK hh
  obtain ⟨k, i, b, tx, ⟨ng, y, mo, d, h, mi, s, mc⟩⟩ := v
  unfold vaC at cT E1 cA ⊢
  simp only at *
  have HW := hide (show (w.alloc (.cells #[.int .i64 k, .int .i64 i, .int .u64 b, .string tx, .bool ng, .int .i64 y, .int .i64 mo, .int .i64 d, .int .i64 h, .int .i64 mi, .int .i64 s, .int .i64 mc] 32)).alloc (.cells #[.int .u8 t, .bool un] 23) = w1 from hw1.symm)
  clear hw1
  obtain ⟨k0, k1, k2, k3, k4, k5, k6, k7, k8, k9, k10, k11, t0, t1⟩ := (unhide S1).p.cells
  go_enter Tryz.func5, Tryz.ntmps5
  by_cases hbig : 2000 < tx.size ∨ 2000 < hn
  · by_cases hb1 : 2000 < tx.size
    · have g1 : (2000 : Int) < (tx.size : Int) := by omega
      clear cT cO hOB cA hRB hRC hVL cR SZ SZ0 HTX
      go_wp2_with (first | (go_at_call 12; rw [unhide HW]; refine (unhide cL).mono ?_; rintro e w2 ⟨rfl, b2⟩; have S2 := hide ((unhide S1).later b2); clear b2 k0 k1 k2 k3 k4 k5 k6 k7 k8 k9 k10 k11 t0 t1; obtain ⟨k0, k1, k2, k3, k4, k5, k6, k7, k8, k9, k10, k11, t0, t1⟩ := (unhide S2).p.cells))
      go_ret
      exact ⟨rfl, (unhide S2).p.bl⟩
    · have g1 : ¬ (2000 : Int) < (tx.size : Int) := by omega
      have g2 : (2000 : Int) < (hn : Int) := by omega
      clear cT cO hOB cA hRB hRC hVL cR SZ SZ0 HTX
      go_wp2_with (first | (go_at_call 12; rw [unhide HW]; refine (unhide cL).mono ?_; rintro e w2 ⟨rfl, b2⟩; have S2 := hide ((unhide S1).later b2); clear b2 k0 k1 k2 k3 k4 k5 k6 k7 k8 k9 k10 k11 t0 t1; obtain ⟨k0, k1, k2, k3, k4, k5, k6, k7, k8, k9, k10, k11, t0, t1⟩ := (unhide S2).p.cells))
      go_ret
      exact ⟨rfl, (unhide S2).p.bl⟩
  have g1 : ¬ (2000 : Int) < (tx.size : Int) := by omega
  have g2 : ¬ (2000 : Int) < (hn : Int) := by omega
  have cA := hide (unhide cA (by omega))
  have hRB := hide (fun hO => unhide hRB hO (by omega))
  have hRC := hide (fun hO => unhide hRC hO (by omega))
  have cO := hide (fun h => unhide cO h (by omega))
  go_upto_if 37 with (first | (go_at_call 12; rw [unhide HW]; refine (unhide cL).mono ?_; rintro e w2 ⟨rfl, b2⟩; have S2 := hide ((unhide S1).later b2); clear b2 k0 k1 k2 k3 k4 k5 k6 k7 k8 k9 k10 k11 t0 t1; obtain ⟨k0, k1, k2, k3, k4, k5, k6, k7, k8, k9, k10, k11, t0, t1⟩ := (unhide S2).p.cells) | (go_at_call 9; (with_reducible refine (unhide cT _ (unhide S2).z).mono ?_); rintro e w3 ⟨rfl, b3⟩; have S3 := hide ((unhide S2).later b3); clear b3 k0 k1 k2 k3 k4 k5 k6 k7 k8 k9 k10 k11 t0 t1; obtain ⟨k0, k1, k2, k3, k4, k5, k6, k7, k8, k9, k10, k11, t0, t1⟩ := (unhide S3).p.cells))
  go_cut [] (fun wx => Lw w ⟨k, i, b, tx, ⟨ng, y, mo, d, h, mi, s, mc⟩⟩ t un ho hn hc hl wx)
  case first =>
    clear cA hRB hRC hVL cR SZ0
    cases q : tOk ⟨k, i, b, tx, ⟨ng, y, mo, d, h, mi, s, mc⟩⟩ t un
    · have hq := unhide HTX
      rw [q, if_neg (by decide)] at hq
      injection hq with h1 h2
      subst h1 h2
      clear cO hOB HTX q
      go_wp2_with fail
      go_meet
      exact unhide S3
    · have hq := unhide HTX
      rw [q, if_pos rfl] at hq
      injection hq with h1 h2
      have cO := hide (unhide cO q)
      rw [unhide hOB q] at cO
      unfold vaC at cO
      simp only at cO
      rw [← h1] at cO
      subst h2
      clear hOB HTX q h1
      go_wp2_with (first | (go_at_call 11; (with_reducible refine (unhide cO _ (unhide S3).z).mono ?_); rintro e w4 ⟨rfl, b4⟩; have S4 := hide ((unhide S3).later b4); clear b4; have b5 := below_alloc w4 (.cells #[.int .i64 k, .int .i64 i, .int .u64 b, .string tx, .bool ng, .int .i64 y, .int .i64 mo, .int .i64 d, .int .i64 h, .int .i64 mi, .int .i64 s, .int .i64 mc] 32); have r5 := heap_alloc_new w4 (.cells #[.int .i64 k, .int .i64 i, .int .u64 b, .string tx, .bool ng, .int .i64 y, .int .i64 mo, .int .i64 d, .int .i64 h, .int .i64 mi, .int .i64 s, .int .i64 mc] 32); obtain ⟨w5, hw5⟩ : ∃ z, z = w4.alloc (.cells #[.int .i64 k, .int .i64 i, .int .u64 b, .string tx, .bool ng, .int .i64 y, .int .i64 mo, .int .i64 d, .int .i64 h, .int .i64 mi, .int .i64 s, .int .i64 mc] 32) := ⟨_, rfl⟩; rw [← hw5] at b5 r5; have S5 := hide ((unhide S4).later b5); have l4 := (Array.getElem?_eq_some_iff.1 (unhide S4).p.rv).1; have HW5 := hide hw5.symm; clear b5 r5 hw5 k0 k1 k2 k3 k4 k5 k6 k7 k8 k9 k10 k11 t0 t1; obtain ⟨k0, k1, k2, k3, k4, k5, k6, k7, k8, k9, k10, k11, t0, t1⟩ := (unhide S4).p.cells))
      go_meet
      rw [unhide HW5]
      exact unhide S5
  have S3 := hide hcut
  clear cT cO hOB HTX hcut
  clear k0 k1 k2 k3 k4 k5 k6 k7 k8 k9 k10 k11 t0 t1
  obtain ⟨k0, k1, k2, k3, k4, k5, k6, k7, k8, k9, k10, k11, t0, t1⟩ := (unhide S3).p.cells
  cases hO : bOk ⟨k, i, b, tx, ⟨ng, y, mo, d, h, mi, s, mc⟩⟩ t un
  · rw [hO, if_neg (by decide)] at cA
    unfold OutP at cA
    simp only at cA
    clear hRB hRC hVL cR SZ SZ0 hO
    go_wp2_with (first | (go_at_call 6; (with_reducible refine (unhide cA _).mono ?_); rintro e w6 ⟨rfl, b6⟩; have S6 := hide ((unhide S3).later b6); clear b6))
    go_ret
    exact ⟨rfl, (unhide S6).p.bl⟩
  rw [hO, if_pos rfl, List.nil_append] at cA
  unfold OutP at cA
  simp only at cA
  have hRB := unhide hRB hO
  have HRC := hide (unhide hRC hO)
  have hVL := unhide hVL
  clear hRC hO
  generalize vaB ⟨k, i, b, tx, ⟨ng, y, mo, d, h, mi, s, mc⟩⟩ t = LB at *
  go_upto_region 13 with (first | (go_at_call 6; (with_reducible refine (unhide cA _).mono ?_); rintro e w6 ⟨ao, m, c, rfl, m6, b6⟩; have hm := m6.len; have hmx := m6.bs.max; have hmle := m6.bs.le; have S6 := hide (show Lb w ⟨k, i, b, tx, ⟨ng, y, mo, d, h, mi, s, mc⟩⟩ t un ho hn hc hl ao m c LB w6 from ⟨(unhide S3).later b6, m6.bs⟩); clear b6 m6 S3 k0 k1 k2 k3 k4 k5 k6 k7 k8 k9 k10 k11 t0 t1; obtain ⟨k0, k1, k2, k3, k4, k5, k6, k7, k8, k9, k10, k11, t0, t1⟩ := (unhide S6).l.p.cells))
  have cR1 := hide (fun wx xo n c' (hx : Bs wx xo n c' (LB ++ hl)) => unhide cR wx xo n c' (LB ++ hl) hx)
  rw [hRB] at cR1
  obtain ⟨CS, hCS⟩ : ∃ z, z = vaC ⟨k, i, b, tx, ⟨ng, y, mo, d, h, mi, s, mc⟩⟩ := ⟨_, rfl⟩
  simp only at cR1
  rw [← hCS] at cR1
  have hCZ : CS.size = 12 := by rw [hCS]; rfl
  have HC1 := hide (show CS.all (·.oneCell') = true by rw [hCS]; exact vaC_one _)
  have HCS := hide hCS
  clear hRB hCS
  go_cut [12, 13, 14] (fun p n e wx => ∃ g, p = .pointer (some ⟨g, 0, none⟩) ∧ n = .int .i64 (m : Int) ∧ e = .int .i64 0 ∧ wx.heap[g]? = some (.cells CS 32 (0, 0)) ∧ Below w6.heap.size w6 wx)
  case first =>
    clear HRC cR cA
    have Ma := hide (vmine_row0 (B := w6.heap.size) (w := (w6.alloc (.cells #[] 5)).drew) (g := w6.heap.size) (heap_alloc_new w6 _) (Nat.le_refl _))
    have Mb : Hid (Mine w6.heap.size ((w6.alloc (.cells #[] 5)).alloc (.cells #[.int .i64 0, .int .i64 0, .int .u64 0, .string ⟨#[]⟩, .bool false, .int .i64 0, .int .i64 0, .int .i64 0, .int .i64 0, .int .i64 0, .int .i64 0, .int .i64 0] 32)).drew (some ⟨w6.heap.size, 0, none⟩) 0 0 []) := hide (vmine_row0 (vrow_later (heap_alloc_new w6 _) (Below.drew (below_alloc (w6.alloc (.cells #[] 5)) _))) (Nat.le_refl _))
    have Mc : Hid (Mine w6.heap.size ((w6.alloc (.cells #[.int .i64 0, .int .i64 0, .int .u64 0, .string ⟨#[]⟩, .bool false, .int .i64 0, .int .i64 0, .int .i64 0, .int .i64 0, .int .i64 0, .int .i64 0, .int .i64 0] 32)).alloc (.cells #[] 5)).drew (some ⟨w6.heap.size + 1, 0, none⟩) 0 0 []) := hide (by
      have q := heap_alloc_new (w6.alloc (.cells #[.int .i64 0, .int .i64 0, .int .u64 0, .string ⟨#[]⟩, .bool false, .int .i64 0, .int .i64 0, .int .i64 0, .int .i64 0, .int .i64 0, .int .i64 0, .int .i64 0] 32)) (.cells #[] 5)
      rw [show (w6.alloc (.cells #[.int .i64 0, .int .i64 0, .int .u64 0, .string ⟨#[]⟩, .bool false, .int .i64 0, .int .i64 0, .int .i64 0, .int .i64 0, .int .i64 0, .int .i64 0, .int .i64 0] 32)).heap.size = w6.heap.size + 1 by simp] at q
      exact vmine_row0 q (by omega))
    have Ya : Hid (Below w6.heap.size w6 (w6.alloc (.cells #[] 5)).drew) := hide (Below.drew (below_alloc _ _))
    have Yb : Hid (Below w6.heap.size w6 ((w6.alloc (.cells #[] 5)).alloc (.cells #[.int .i64 0, .int .i64 0, .int .u64 0, .string ⟨#[]⟩, .bool false, .int .i64 0, .int .i64 0, .int .i64 0, .int .i64 0, .int .i64 0, .int .i64 0, .int .i64 0] 32)).drew) := hide (Below.drew ((below_alloc w6 _).trans ((below_alloc _ _).mono (by simp))))
    have Yc : Hid (Below w6.heap.size w6 ((w6.alloc (.cells #[.int .i64 0, .int .i64 0, .int .u64 0, .string ⟨#[]⟩, .bool false, .int .i64 0, .int .i64 0, .int .i64 0, .int .i64 0, .int .i64 0, .int .i64 0, .int .i64 0] 32)).alloc (.cells #[] 5)).drew) := hide (Below.drew ((below_alloc w6 _).trans ((below_alloc _ _).mono (by simp))))
    have Rb : Hid (((w6.alloc (.cells #[] 5)).alloc (.cells #[.int .i64 0, .int .i64 0, .int .u64 0, .string ⟨#[]⟩, .bool false, .int .i64 0, .int .i64 0, .int .i64 0, .int .i64 0, .int .i64 0, .int .i64 0, .int .i64 0] 32)).drew.heap[w6.heap.size + 1]? = some (.cells #[.int .i64 0, .int .i64 0, .int .u64 0, .string ⟨#[]⟩, .bool false, .int .i64 0, .int .i64 0, .int .i64 0, .int .i64 0, .int .i64 0, .int .i64 0, .int .i64 0] 32 (0, 0))) := hide (by
      have q := heap_alloc_new (w6.alloc (.cells #[] 5)) (.cells #[.int .i64 0, .int .i64 0, .int .u64 0, .string ⟨#[]⟩, .bool false, .int .i64 0, .int .i64 0, .int .i64 0, .int .i64 0, .int .i64 0, .int .i64 0, .int .i64 0] 32)
      rw [show (w6.alloc (.cells #[] 5)).heap.size = w6.heap.size + 1 by simp] at q
      exact q)
    have Rc : Hid (((w6.alloc (.cells #[.int .i64 0, .int .i64 0, .int .u64 0, .string ⟨#[]⟩, .bool false, .int .i64 0, .int .i64 0, .int .i64 0, .int .i64 0, .int .i64 0, .int .i64 0, .int .i64 0] 32)).alloc (.cells #[] 5)).drew.heap[w6.heap.size]? = some (.cells #[.int .i64 0, .int .i64 0, .int .u64 0, .string ⟨#[]⟩, .bool false, .int .i64 0, .int .i64 0, .int .i64 0, .int .i64 0, .int .i64 0, .int .i64 0, .int .i64 0] 32 (0, 0))) := hide (vrow_later (heap_alloc_new w6 _) (Below.drew (below_alloc (w6.alloc (.cells #[.int .i64 0, .int .i64 0, .int .u64 0, .string ⟨#[]⟩, .bool false, .int .i64 0, .int .i64 0, .int .i64 0, .int .i64 0, .int .i64 0, .int .i64 0, .int .i64 0] 32)) _)))
    have SS := hide (unhide S6)
    go_region_held3 (fun w' => w'.cell? ⟨w.heap.size + 1, 0, none⟩ = some (.int .u8 t) ∧ w'.cell? ⟨w.heap.size + 1, 1, none⟩ = some (.bool un)) (first | exact (unhide SQ).tc | exact (unhide SS).tc | go_keep) (first | (refine step_appK rfl (.tmp 63) (.tmp 64) rfl w6.heap.size (some ⟨w6.heap.size, 0, none⟩) 0 0 [] (by simp [Act.eval, Act.put]) (unhide Mb) ao m c LB (by simp [Act.eval, Act.put]) ((unhide S6).later (unhide Yb)).b (by omega) (unhide Yb).size ?_; intro oa ca wA mA gA; rw [List.nil_append, Nat.zero_add] at mA; have BA := hide ((unhide Yb).trans (mine_grown (unhide Mb) (unhide Yb).size gA)); have SS := hide ((unhide S6).later (unhide BA)); have ZR := hide ((Kn.grown (unhide Mb) gA) _ _ _ _ (unhide Rb) (by decide)); have ZG := hide (show w6.heap.size ≤ _ from Nat.le_succ _)) | (refine step_appK rfl (.tmp 63) (.tmp 64) rfl w6.heap.size (some ⟨w6.heap.size + 1, 0, none⟩) 0 0 [] (by simp [Act.eval, Act.put]) (unhide Mc) ao m c LB (by simp [Act.eval, Act.put]) ((unhide S6).later (unhide Yc)).b (by omega) (unhide Yc).size ?_; intro oa ca wA mA gA; rw [List.nil_append, Nat.zero_add] at mA; have BA := hide ((unhide Yc).trans (mine_grown (unhide Mc) (unhide Yc).size gA)); have SS := hide ((unhide S6).later (unhide BA)); have ZR := hide ((Kn.grown (unhide Mc) gA) _ _ _ _ (unhide Rc) (by decide)); have ZG := hide (show w6.heap.size ≤ _ from Nat.le_refl _)) | (refine step_appK rfl (.tmp 63) (.tmp 64) rfl w6.heap.size (some ⟨w6.heap.size, 0, none⟩) 0 0 [] (by simp [Act.eval, Act.put]) (unhide Ma) ao m c LB (by simp [Act.eval, Act.put]) ((unhide S6).later (unhide Ya)).b (by omega) (unhide Ya).size ?_; intro oa ca wA mA gA; rw [List.nil_append, Nat.zero_add] at mA; have BA := hide ((unhide Ya).trans (mine_grown (unhide Ma) (unhide Ya).size gA)); have SS := hide ((unhide S6).later (unhide BA))) | (refine step_appK rfl (.tmp 65) (.tmp 66) rfl w6.heap.size oa m ca LB (by simp [Act.eval, Act.put]) mA ho hn hc hl (by simp [Act.eval, Act.put]) (unhide SS).l.h (by omega) (unhide BA).size ?_; intro ob2 cb wB mB gB; have BB := hide ((unhide BA).trans (mine_grown mA (unhide BA).size gB)); have SS := hide ((unhide S6).later (unhide BB)); (try (have ZR := hide ((Kn.grown mA gB) _ _ _ _ (unhide ZR) (by decide))))) | (refine step_appK rfl (.tmp 65) (.tmp 66) rfl w6.heap.size oa m ca LB (by simp [Act.eval, Act.put]) (mA.later (below_alloc wA (.cells #[.int .i64 0, .int .i64 0, .int .u64 0, .string ⟨#[]⟩, .bool false, .int .i64 0, .int .i64 0, .int .i64 0, .int .i64 0, .int .i64 0, .int .i64 0, .int .i64 0] 32))) ho hn hc hl (by simp [Act.eval, Act.put]) ((unhide SS).later (below_alloc wA (.cells #[.int .i64 0, .int .i64 0, .int .u64 0, .string ⟨#[]⟩, .bool false, .int .i64 0, .int .i64 0, .int .i64 0, .int .i64 0, .int .i64 0, .int .i64 0, .int .i64 0] 32))).l.h (by omega) (Nat.le_trans (unhide BA).size (below_alloc wA _).size) ?_; intro ob2 cb wB mB gB; have BB := hide (((unhide BA).trans ((below_alloc wA (.cells #[.int .i64 0, .int .i64 0, .int .u64 0, .string ⟨#[]⟩, .bool false, .int .i64 0, .int .i64 0, .int .i64 0, .int .i64 0, .int .i64 0, .int .i64 0, .int .i64 0] 32)).mono (unhide BA).size)).trans (mine_grown (mA.later (below_alloc wA (.cells #[.int .i64 0, .int .i64 0, .int .u64 0, .string ⟨#[]⟩, .bool false, .int .i64 0, .int .i64 0, .int .i64 0, .int .i64 0, .int .i64 0, .int .i64 0, .int .i64 0] 32))) (Nat.le_trans (unhide BA).size (below_alloc wA _).size) gB)); have SS := hide ((unhide S6).later (unhide BB)); have ZR := hide ((Kn.grown (mA.later (below_alloc wA (.cells #[.int .i64 0, .int .i64 0, .int .u64 0, .string ⟨#[]⟩, .bool false, .int .i64 0, .int .i64 0, .int .i64 0, .int .i64 0, .int .i64 0, .int .i64 0, .int .i64 0] 32))) gB) _ _ _ _ (heap_alloc_new wA (.cells #[.int .i64 0, .int .i64 0, .int .u64 0, .string ⟨#[]⟩, .bool false, .int .i64 0, .int .i64 0, .int .i64 0, .int .i64 0, .int .i64 0, .int .i64 0, .int .i64 0] 32)) (by decide)); have ZG := hide (unhide BA).size) | (go_at_call 10; (with_reducible refine (unhide cR1 wB ob2 _ cb mB.bs).mono ?_); rintro e wq ⟨rfl, bq⟩; have ZR := hide (vrow_later (unhide ZR) bq); have BQ := hide ((unhide BB).trans (bq.mono (unhide BB).size)); obtain ⟨wS, hst, rS, bS⟩ := st_old w6 wq w6.heap.size _ 32 #[.int .i64 0, .int .i64 0, .int .u64 0, .string ⟨#[]⟩, .bool false, .int .i64 0, .int .i64 0, .int .i64 0, .int .i64 0, .int .i64 0, .int .i64 0, .int .i64 0] CS (unhide ZR) (by rw [hCZ]; rfl) (unhide HC1) (unhide BQ) (unhide ZG) (unhide BQ).size; have RS := hide rS; have BS := hide bS; clear rS bS; have SS := hide ((unhide S6).later (unhide BQ)); have SQ := hide ((unhide S6).later (unhide BS))) | (go_at_call 10; (with_reducible refine (unhide cR1 (wB.alloc (.cells #[.int .i64 0, .int .i64 0, .int .u64 0, .string ⟨#[]⟩, .bool false, .int .i64 0, .int .i64 0, .int .i64 0, .int .i64 0, .int .i64 0, .int .i64 0, .int .i64 0] 32)) ob2 _ cb (mB.bs.later (below_alloc wB (.cells #[.int .i64 0, .int .i64 0, .int .u64 0, .string ⟨#[]⟩, .bool false, .int .i64 0, .int .i64 0, .int .i64 0, .int .i64 0, .int .i64 0, .int .i64 0, .int .i64 0] 32)))).mono ?_); rintro e wq ⟨rfl, bq⟩; have ZR := hide (vrow_later (heap_alloc_new wB (.cells #[.int .i64 0, .int .i64 0, .int .u64 0, .string ⟨#[]⟩, .bool false, .int .i64 0, .int .i64 0, .int .i64 0, .int .i64 0, .int .i64 0, .int .i64 0, .int .i64 0] 32)) bq); have ZG := hide (unhide BB).size; have BQ := hide (((unhide BB).trans ((below_alloc wB (.cells #[.int .i64 0, .int .i64 0, .int .u64 0, .string ⟨#[]⟩, .bool false, .int .i64 0, .int .i64 0, .int .i64 0, .int .i64 0, .int .i64 0, .int .i64 0, .int .i64 0] 32)).mono (unhide BB).size)).trans (bq.mono (Nat.le_trans (unhide BB).size (below_alloc wB _).size))); obtain ⟨wS, hst, rS, bS⟩ := st_old w6 wq w6.heap.size _ 32 #[.int .i64 0, .int .i64 0, .int .u64 0, .string ⟨#[]⟩, .bool false, .int .i64 0, .int .i64 0, .int .i64 0, .int .i64 0, .int .i64 0, .int .i64 0, .int .i64 0] CS (unhide ZR) (by rw [hCZ]; rfl) (unhide HC1) (unhide BQ) (unhide ZG) (unhide BQ).size; have RS := hide rS; have BS := hide bS; clear rS bS; have SS := hide ((unhide S6).later (unhide BQ)); have SQ := hide ((unhide S6).later (unhide BS))) | (go_at_call 10; (with_reducible refine (unhide cR1 wB ob2 _ cb mB.bs).mono ?_); rintro e wq ⟨rfl, bq⟩; have BQ := hide ((unhide BB).trans (bq.mono (unhide BB).size)); obtain ⟨wS, hst, rS, bS⟩ := st_new w6 wq w6.heap.size 32 #[.int .i64 0, .int .i64 0, .int .u64 0, .string ⟨#[]⟩, .bool false, .int .i64 0, .int .i64 0, .int .i64 0, .int .i64 0, .int .i64 0, .int .i64 0, .int .i64 0] CS (by rw [hCZ]; rfl) (unhide HC1) (unhide BQ) (unhide BQ).size; have RS := hide rS; have BS := hide bS; clear rS bS; have SS := hide ((unhide S6).later (unhide BQ)); have SQ := hide ((unhide S6).later (unhide BS))))
    all_goals go_wp2_with fail
    all_goals go_meet
    all_goals exact ⟨_, rfl, rfl, rfl, unhide RS, unhide BS⟩
  obtain ⟨g, rfl, rfl, rfl, rg, bg⟩ := hcut
  have S7 := hide ((unhide S6).later bg)
  rw [unhide HCS] at rg
  unfold vaC at rg
  simp only at rg
  have RG := hide rg
  have m0 := vrow_cell (unhide RG) (j := 0) (v := .int .i64 k) rfl; have m1 := vrow_cell (unhide RG) (j := 1) (v := .int .i64 i) rfl; have m2 := vrow_cell (unhide RG) (j := 2) (v := .int .u64 b) rfl; have m3 := vrow_cell (unhide RG) (j := 3) (v := .string tx) rfl; have m4 := vrow_cell (unhide RG) (j := 4) (v := .bool ng) rfl; have m5 := vrow_cell (unhide RG) (j := 5) (v := .int .i64 y) rfl; have m6 := vrow_cell (unhide RG) (j := 6) (v := .int .i64 mo) rfl; have m7 := vrow_cell (unhide RG) (j := 7) (v := .int .i64 d) rfl; have m8 := vrow_cell (unhide RG) (j := 8) (v := .int .i64 h) rfl; have m9 := vrow_cell (unhide RG) (j := 9) (v := .int .i64 mi) rfl; have m10 := vrow_cell (unhide RG) (j := 10) (v := .int .i64 s) rfl; have m11 := vrow_cell (unhide RG) (j := 11) (v := .int .i64 mc) rfl
  clear bg rg cR1 cA SZ k0 k1 k2 k3 k4 k5 k6 k7 k8 k9 k10 k11 t0 t1 HC1 HCS hCZ CS
  obtain ⟨k0, k1, k2, k3, k4, k5, k6, k7, k8, k9, k10, k11, t0, t1⟩ := (unhide S7).l.p.cells

  clear S6
  obtain ⟨C0, hC0⟩ : ∃ z, z = vaC va0 := ⟨_, rfl⟩
  have HC0 := hide (show C0.all (·.oneCell') = true by rw [hC0]; exact vaC_one _)
  have hCZ : C0.size = 12 := by rw [hC0]; rfl
  have HRC2 := hide (fun (wx : World) xo n c' (j : Nat) (hj : j < m) (hx : Bs wx xo n c' (LB.take j)) => show Calls Tryz.prog 10 #[.slice xo n c', .agg #[.int .u8 t, .bool un]] wx fun e w' => e = .returned (.tuple #[.agg C0, .int .i64 0, .int .i64 4]) ∧ Below wx.heap.size wx w' by
    have q := unhide cR wx xo n c' (LB.take j) hx
    rw [unhide HRC j (by omega)] at q
    simp only at q
    rw [← hC0] at q
    exact q)
  clear HRC cR hC0
  go_wp2_with fail
  clear k0 k1 k2 k3 k4 k5 k6 k7 k8 k9 k10 k11 t0 t1 m0 m1 m2 m3 m4 m5 m6 m7 m8 m9 m10 m11 E1 RG
  go_loopw [15] (fun iv wr => ∃ j : Nat, j ≤ 20 ∧ j ≤ m ∧ iv = .int .i64 (j : Int) ∧ Lb w ⟨k, i, b, tx, ⟨ng, y, mo, d, h, mi, s, mc⟩⟩ t un ho hn hc hl ao m c LB wr) (fun iv _ => 20 - (intOf iv).toNat)
  case atStart => exact ⟨0, by omega, by omega, rfl, unhide S7⟩
  case round =>
    obtain ⟨j, hj1, hj2, rfl, hS⟩ := hrel
    have S8 := hide hS
    clear hS S7
    by_cases hjm : j < m
    · have gm : ((j : Nat) : Int) < (m : Int) := by omega
      by_cases hj20 : j < 20
      · have gj : ((j : Nat) : Int) < 20 := by omega
        obtain ⟨xo, xc, hxc, hxb⟩ := (unhide S8).b.cut_h (hi := j) (by omega) (j : Int) rfl
        have XB := hide hxb
        have cQ := hide (fun wx (hx : Below wr.heap.size wr wx) => unhide HRC2 wx xo j xc j hjm (hxb.later hx))
        have Yc : Hid (Below wr.heap.size wr (wr.alloc (.cells #[.int .i64 0, .int .i64 0, .int .u64 0, .string ⟨#[]⟩, .bool false, .int .i64 0, .int .i64 0, .int .i64 0, .int .i64 0, .int .i64 0, .int .i64 0, .int .i64 0] 32)).drew) := hide (Below.drew (below_alloc _ _))
        have Rc : Hid ((wr.alloc (.cells #[.int .i64 0, .int .i64 0, .int .u64 0, .string ⟨#[]⟩, .bool false, .int .i64 0, .int .i64 0, .int .i64 0, .int .i64 0, .int .i64 0, .int .i64 0, .int .i64 0] 32)).drew.heap[wr.heap.size]? = some (.cells #[.int .i64 0, .int .i64 0, .int .u64 0, .string ⟨#[]⟩, .bool false, .int .i64 0, .int .i64 0, .int .i64 0, .int .i64 0, .int .i64 0, .int .i64 0, .int .i64 0] 32 (0, 0))) := hide (heap_alloc_new wr _)
        have SS := hide (unhide S8)
        obtain ⟨t0, t1⟩ := (unhide S8).tc
        clear hxb HRC2
        go_upto_region 19 with fail
        go_cut [18] from 86 to 106 (fun e wx => e = .int .i64 4 ∧ Lb w ⟨k, i, b, tx, ⟨ng, y, mo, d, h, mi, s, mc⟩⟩ t un ho hn hc hl ao m c LB wx)
        case first =>
          go_region_held3 (fun w' => w'.cell? ⟨w.heap.size + 1, 0, none⟩ = some (.int .u8 t) ∧ w'.cell? ⟨w.heap.size + 1, 1, none⟩ = some (.bool un)) (first | exact (unhide SQ).tc | exact (unhide SS).tc | go_keep) (first | (go_at_call 10; (with_reducible refine (unhide cQ wr.drew (below_drew wr)).mono ?_); rintro e wq ⟨rfl, bq⟩; have BQ := hide ((below_drew wr).trans bq); obtain ⟨wS, hst, rS, bS⟩ := st_new wr wq wr.heap.size 32 #[.int .i64 0, .int .i64 0, .int .u64 0, .string ⟨#[]⟩, .bool false, .int .i64 0, .int .i64 0, .int .i64 0, .int .i64 0, .int .i64 0, .int .i64 0, .int .i64 0] C0 (by rw [hCZ]; rfl) (unhide HC0) (unhide BQ) (unhide BQ).size; have SS := hide ((unhide S8).later (unhide BQ)); have SQ := hide ((unhide S8).later bS); clear rS bS) | (go_at_call 10; (with_reducible refine (unhide cQ wr (Below.refl _ _)).mono ?_); rintro e wq ⟨rfl, bq⟩; have BQ := hide bq; obtain ⟨wS, hst, rS, bS⟩ := st_new wr wq wr.heap.size 32 #[.int .i64 0, .int .i64 0, .int .u64 0, .string ⟨#[]⟩, .bool false, .int .i64 0, .int .i64 0, .int .i64 0, .int .i64 0, .int .i64 0, .int .i64 0, .int .i64 0] C0 (by rw [hCZ]; rfl) (unhide HC0) (unhide BQ) (unhide BQ).size; have SS := hide ((unhide S8).later (unhide BQ)); have SQ := hide ((unhide S8).later bS); clear rS bS) | (go_at_call 10; (with_reducible refine (unhide cQ (wr.alloc (.cells #[.int .i64 0, .int .i64 0, .int .u64 0, .string ⟨#[]⟩, .bool false, .int .i64 0, .int .i64 0, .int .i64 0, .int .i64 0, .int .i64 0, .int .i64 0, .int .i64 0] 32)).drew (unhide Yc)).mono ?_); rintro e wq ⟨rfl, bq⟩; have BQ := hide ((unhide Yc).trans (bq.mono (unhide Yc).size)); obtain ⟨wS, hst, rS, bS⟩ := st_old wr wq wr.heap.size _ 32 #[.int .i64 0, .int .i64 0, .int .u64 0, .string ⟨#[]⟩, .bool false, .int .i64 0, .int .i64 0, .int .i64 0, .int .i64 0, .int .i64 0, .int .i64 0, .int .i64 0] C0 (vrow_later (unhide Rc) bq) (by rw [hCZ]; rfl) (unhide HC0) (unhide BQ) (Nat.le_refl _) (unhide BQ).size; have SS := hide ((unhide S8).later (unhide BQ)); have SQ := hide ((unhide S8).later bS); clear rS bS))
          all_goals go_wp2_with fail
          all_goals go_meet
          all_goals exact ⟨rfl, unhide SQ⟩
        obtain ⟨rfl, hS9⟩ := hcut
        clear t0 t1 Yc Rc cQ XB hxc
        go_wp2_with fail
        go_roundw
        case rel => exact ⟨j + 1, by omega, by omega, by go_num, hS9⟩
        case measure => simp [intOf]; omega
      · have gj : ¬ ((j : Nat) : Int) < 20 := by omega
        clear HRC2
        go_wp2_with fail
        go_ret
        exact ⟨rfl, (unhide S8).l.p.bl⟩
    · have gm : ¬ ((j : Nat) : Int) < (m : Int) := by omega
      clear HRC2
      go_wp2_with fail
      go_ret
      exact ⟨rfl, (unhide S8).l.p.bl⟩


end Go.Proofs.YthncndofbdjbgaaGreatDoor
