/-
  The law ValueShort: it returns true, whatever the bytes and the type. Conditions: the library's table of powers of ten reads as its initialiser lays it.
-/
import Derived.Test.YtnodhdggafffaaaDoorVaRd6
import Derived.Test.YtnodhdggafffaaaDoorVaLives
import Derived.BigQuiet
namespace Go.Proofs.YtnodhdggafffaaaDoor
open Go.RowKit
set_option linter.unusedVariables false
set_option linter.unusedSimpArgs false

theorem rdV_err {b : List Int} {t : Int} {un : Bool} (h : (rdV b t un).2.2 ≠ 0) : rdV b t un = (va0, 0, (rdV b t un).2.2) := by
  unfold rdV at h ⊢
  split
  · rfl
  · rename_i q
    rw [if_neg q] at h
    split
    · rfl
    · rename_i q2
      rw [if_neg q2] at h
      exact absurd rfl h

set_option maxHeartbeats 2000000 in
set_option maxRecDepth 100000 in
theorem lawVaShort (bo : Option Addr) (bn bc : Nat) (b : List Int) (t : Int) (un : Bool) (w : World) (hv : Vars w) (hb : Bs w bo bn bc b) (ht : 0 ≤ t ∧ t < 256) : Calls Tryd.prog 4 #[.slice bo bn bc, .agg #[.int .u8 t, .bool un]] w fun e w' => e = .returned (.bool true) ∧ Below w.heap.size w w' := by
  obtain ⟨w1, hw1⟩ : ∃ z, z = w.alloc (.cells #[.int .u8 t, .bool un] 29) := ⟨_, rfl⟩
  have b1 : Below w.heap.size w w1 := by rw [hw1]; exact below_alloc w _
  have r1 : w1.heap[w.heap.size]? = some (.cells #[.int .u8 t, .bool un] 29 (0, 0)) := by rw [hw1]; exact heap_alloc_new w _
  have cL := hide (lives_any w1 (hv.later b1))
  have HB1 := hide (hb.later b1)
  have hbl := hb.len
  have hble := hb.le
  have hbmx := hb.max
  have hby := hb.byt
  have cR := hide (fun wx (hx : Bs wx bo bn bc b) => read_any bo bn bc b t un wx ht.1 ht.2 hx)
  have HW := hide (show w.alloc (.cells #[.int .u8 t, .bool un] 29) = w1 from hw1.symm)
  have B1 := hide b1
  have T1 := hide r1
  have t0 := vrow_cell r1 (j := 0) (v := .int .u8 t) rfl
  have t1 := vrow_cell r1 (j := 1) (v := .bool un) rfl
  clear hw1 b1 r1 hb hv
  by_cases hbig : 2000 < bn
  · have hbg : decide ((2000 : Int) < (bn : Int)) = true := decide_eq_true (by omega)
    clear cR hbl
    go_enter Tryd.func4, Tryd.ntmps4
    go_wp2_with (first | (go_at_call 6; rw [unhide HW]; refine (unhide cL).mono ?_; rintro e w2 ⟨rfl, b2⟩; have B2 := hide (vbup (unhide B1) b2); have T2 := hide (vrow_later (unhide T1) b2); have HB2 := hide ((unhide HB1).later b2); clear b2 t0 t1; have t0 := vrow_cell (unhide T2) (j := 0) (v := .int .u8 t) rfl; have t1 := vrow_cell (unhide T2) (j := 1) (v := .bool un) rfl))
    go_ret
    exact ⟨rfl, unhide B2⟩
  have hbg : decide ((2000 : Int) < (bn : Int)) = false := decide_eq_false (by omega)
  by_cases hE : (rdV b t un).2.2 = 0
  · obtain ⟨hK, hbo, hts, hlen, hnb⟩ := rdV_ok hby (by omega) hE
    rw [hE] at cR
    generalize (rdV b t un).2.1 = NN at *
    generalize (rdV b t un).1 = V at *
    have hbk := rd_back hK hbo hts []
    rw [List.append_nil] at hbk
    have hvo : vOk V t un = true := by unfold bOk at hbo; simp only [Bool.and_eq_true] at hbo; exact hbo.1
    have cA := hide (fun wx => append_any none 0 0 [] V t un wx ht.1 ht.2 hK (Bs.nought wx) (by simp) hts)
    rw [if_pos hbo, List.nil_append] at cA
    unfold OutP at cA
    simp only at cA
    have cQ := hide (fun (wx : World) ao n c (hx : Bs wx ao n c (vaB V t)) => read_any ao n c (vaB V t) t un wx ht.1 ht.2 hx)
    rw [hbk] at cQ
    simp only at cQ
    have cC := hide (fun wx => check_any V t un wx ht.1 ht.2 hK)
    rw [if_pos hvo] at cC
    have E1 := eqv V V
    rw [decide_eq_true rfl] at E1
    generalize vaB V t = LB at *
    obtain ⟨k, i, b, tx, ⟨ng, y, mo, d, h, mi, s, mc⟩⟩ := V
    unfold vaC at cR cA cQ cC E1
    simp only at cR cA cQ cC E1
    have g1 : decide (NN ≤ (bn : Int)) = true := decide_eq_true (by omega)
    clear hK hbo hts hbk hvo hnb hE hby hbig hbl
    go_enter Tryd.func4, Tryd.ntmps4
    go_wp2_with (first | (go_at_call 6; rw [unhide HW]; refine (unhide cL).mono ?_; rintro e w2 ⟨rfl, b2⟩; have B2 := hide (vbup (unhide B1) b2); have T2 := hide (vrow_later (unhide T1) b2); have HB2 := hide ((unhide HB1).later b2); clear b2 t0 t1; have t0 := vrow_cell (unhide T2) (j := 0) (v := .int .u8 t) rfl; have t1 := vrow_cell (unhide T2) (j := 1) (v := .bool un) rfl) | (go_at_call 17; (with_reducible refine (unhide cR w2 (unhide HB2)).mono ?_); rintro e w3 ⟨rfl, b3⟩; have B3 := hide (vbup (unhide B2) b3); have T3 := hide (vrow_later (unhide T2) b3); clear b3; have b4 := below_alloc w3 (.cells #[.int .i64 k, .int .i64 i, .int .u64 b, .string tx, .bool ng, .int .i64 y, .int .i64 mo, .int .i64 d, .int .i64 h, .int .i64 mi, .int .i64 s, .int .i64 mc] 27); have r4 := heap_alloc_new w3 (.cells #[.int .i64 k, .int .i64 i, .int .u64 b, .string tx, .bool ng, .int .i64 y, .int .i64 mo, .int .i64 d, .int .i64 h, .int .i64 mi, .int .i64 s, .int .i64 mc] 27); obtain ⟨w4, hw4⟩ : ∃ z, z = w3.alloc (.cells #[.int .i64 k, .int .i64 i, .int .u64 b, .string tx, .bool ng, .int .i64 y, .int .i64 mo, .int .i64 d, .int .i64 h, .int .i64 mi, .int .i64 s, .int .i64 mc] 27) := ⟨_, rfl⟩; rw [← hw4] at b4 r4; have B4 := hide (vbup (unhide B3) b4); have T4 := hide (vrow_later (unhide T3) b4); have R4 := hide r4; clear t0 t1; have t0 := vrow_cell (unhide T3) (j := 0) (v := .int .u8 t) rfl; have t1 := vrow_cell (unhide T3) (j := 1) (v := .bool un) rfl; have l3 := (Array.getElem?_eq_some_iff.1 (unhide T3)).1; have HW4 := hide hw4.symm; clear b4 r4 hw4) | (go_at_call 7; rw [unhide HW4]; (with_reducible refine (unhide cA _).mono ?_); rintro e w5 ⟨ax, nx, cx, rfl, m5, b5⟩; have B5 := hide (vbup (unhide B4) b5); have T5 := hide (vrow_later (unhide T4) b5); have R5 := hide (vrow_later (unhide R4) b5); have hnx := m5.len; have HM := hide m5.bs; clear b5 m5 t0 t1 l3; have t0 := vrow_cell (unhide T5) (j := 0) (v := .int .u8 t) rfl; have t1 := vrow_cell (unhide T5) (j := 1) (v := .bool un) rfl; have g2 : decide ((nx : Int) ≤ NN) = true := decide_eq_true (by omega); have hmx := (unhide HM).max; have hmle := (unhide HM).le) | (go_at_call 17; (with_reducible refine (unhide cQ w5 ax nx cx (unhide HM)).mono ?_); rintro e w6 ⟨rfl, b6⟩; have B6 := hide (vbup (unhide B5) b6); have T6 := hide (vrow_later (unhide T5) b6); have R6 := hide (vrow_later (unhide R5) b6); clear b6; have b7 := below_alloc w6 (.cells #[.int .i64 k, .int .i64 i, .int .u64 b, .string tx, .bool ng, .int .i64 y, .int .i64 mo, .int .i64 d, .int .i64 h, .int .i64 mi, .int .i64 s, .int .i64 mc] 27); have r7 := heap_alloc_new w6 (.cells #[.int .i64 k, .int .i64 i, .int .u64 b, .string tx, .bool ng, .int .i64 y, .int .i64 mo, .int .i64 d, .int .i64 h, .int .i64 mi, .int .i64 s, .int .i64 mc] 27); obtain ⟨w7, hw7⟩ : ∃ z, z = w6.alloc (.cells #[.int .i64 k, .int .i64 i, .int .u64 b, .string tx, .bool ng, .int .i64 y, .int .i64 mo, .int .i64 d, .int .i64 h, .int .i64 mi, .int .i64 s, .int .i64 mc] 27) := ⟨_, rfl⟩; rw [← hw7] at b7 r7; have B7 := hide (vbup (unhide B6) b7); have T7 := hide (vrow_later (unhide T6) b7); have R7 := hide (vrow_later (unhide R6) b7); have S7 := hide r7; clear t0 t1; have t0 := vrow_cell (unhide T6) (j := 0) (v := .int .u8 t) rfl; have t1 := vrow_cell (unhide T6) (j := 1) (v := .bool un) rfl; have l6 := (Array.getElem?_eq_some_iff.1 (unhide T6)).1; have l7 := (Array.getElem?_eq_some_iff.1 (unhide R6)).1; have k0 := vrow_cell (unhide R6) (j := 0) (v := .int .i64 k) rfl; have k1 := vrow_cell (unhide R6) (j := 1) (v := .int .i64 i) rfl; have k2 := vrow_cell (unhide R6) (j := 2) (v := .int .u64 b) rfl; have k3 := vrow_cell (unhide R6) (j := 3) (v := .string tx) rfl; have k4 := vrow_cell (unhide R6) (j := 4) (v := .bool ng) rfl; have k5 := vrow_cell (unhide R6) (j := 5) (v := .int .i64 y) rfl; have k6 := vrow_cell (unhide R6) (j := 6) (v := .int .i64 mo) rfl; have k7 := vrow_cell (unhide R6) (j := 7) (v := .int .i64 d) rfl; have k8 := vrow_cell (unhide R6) (j := 8) (v := .int .i64 h) rfl; have k9 := vrow_cell (unhide R6) (j := 9) (v := .int .i64 mi) rfl; have k10 := vrow_cell (unhide R6) (j := 10) (v := .int .i64 s) rfl; have k11 := vrow_cell (unhide R6) (j := 11) (v := .int .i64 mc) rfl; have HW7 := hide hw7.symm; clear b7 r7 hw7; rw [hnx]) | (go_at_call 15; rw [unhide HW7]; (with_reducible refine (unhide cC _).mono ?_); rintro e w8 ⟨rfl, b8⟩; have B8 := hide (vbup (unhide B7) b8); have R8 := hide (vrow_later (unhide R7) b8); have S8 := hide (vrow_later (unhide S7) b8); clear b8 k0 k1 k2 k3 k4 k5 k6 k7 k8 k9 k10 k11 t0 t1 l6 l7; have k0 := vrow_cell (unhide R8) (j := 0) (v := .int .i64 k) rfl; have k1 := vrow_cell (unhide R8) (j := 1) (v := .int .i64 i) rfl; have k2 := vrow_cell (unhide R8) (j := 2) (v := .int .u64 b) rfl; have k3 := vrow_cell (unhide R8) (j := 3) (v := .string tx) rfl; have k4 := vrow_cell (unhide R8) (j := 4) (v := .bool ng) rfl; have k5 := vrow_cell (unhide R8) (j := 5) (v := .int .i64 y) rfl; have k6 := vrow_cell (unhide R8) (j := 6) (v := .int .i64 mo) rfl; have k7 := vrow_cell (unhide R8) (j := 7) (v := .int .i64 d) rfl; have k8 := vrow_cell (unhide R8) (j := 8) (v := .int .i64 h) rfl; have k9 := vrow_cell (unhide R8) (j := 9) (v := .int .i64 mi) rfl; have k10 := vrow_cell (unhide R8) (j := 10) (v := .int .i64 s) rfl; have k11 := vrow_cell (unhide R8) (j := 11) (v := .int .i64 mc) rfl; have m0 := vrow_cell (unhide S8) (j := 0) (v := .int .i64 k) rfl; have m1 := vrow_cell (unhide S8) (j := 1) (v := .int .i64 i) rfl; have m2 := vrow_cell (unhide S8) (j := 2) (v := .int .u64 b) rfl; have m3 := vrow_cell (unhide S8) (j := 3) (v := .string tx) rfl; have m4 := vrow_cell (unhide S8) (j := 4) (v := .bool ng) rfl; have m5 := vrow_cell (unhide S8) (j := 5) (v := .int .i64 y) rfl; have m6 := vrow_cell (unhide S8) (j := 6) (v := .int .i64 mo) rfl; have m7 := vrow_cell (unhide S8) (j := 7) (v := .int .i64 d) rfl; have m8 := vrow_cell (unhide S8) (j := 8) (v := .int .i64 h) rfl; have m9 := vrow_cell (unhide S8) (j := 9) (v := .int .i64 mi) rfl; have m10 := vrow_cell (unhide S8) (j := 10) (v := .int .i64 s) rfl; have m11 := vrow_cell (unhide S8) (j := 11) (v := .int .i64 mc) rfl))
    go_ret
    exact ⟨rfl, unhide B8⟩
  · have he := rdV_err hE
    generalize (rdV b t un).2.2 = E at *
    rw [he] at cR
    have E1 := eqv va0 va0
    rw [decide_eq_true rfl] at E1
    unfold vaC va0 wh0 at cR E1
    simp only at cR E1
    have hE2 : (E != 0) = true := by simpa using hE
    clear he hE hby hbig hbl
    go_enter Tryd.func4, Tryd.ntmps4
    go_wp2_with (first | (go_at_call 6; rw [unhide HW]; refine (unhide cL).mono ?_; rintro e w2 ⟨rfl, b2⟩; have B2 := hide (vbup (unhide B1) b2); have T2 := hide (vrow_later (unhide T1) b2); have HB2 := hide ((unhide HB1).later b2); clear b2 t0 t1; have t0 := vrow_cell (unhide T2) (j := 0) (v := .int .u8 t) rfl; have t1 := vrow_cell (unhide T2) (j := 1) (v := .bool un) rfl) | (go_at_call 17; (with_reducible refine (unhide cR w2 (unhide HB2)).mono ?_); rintro e w3 ⟨rfl, b3⟩; have B3 := hide (vbup (unhide B2) b3); have T3 := hide (vrow_later (unhide T2) b3); clear b3; have b4 := below_alloc w3 (.cells #[.int .i64 0, .int .i64 0, .int .u64 0, .string ⟨#[]⟩, .bool false, .int .i64 0, .int .i64 0, .int .i64 0, .int .i64 0, .int .i64 0, .int .i64 0, .int .i64 0] 27); have r4 := heap_alloc_new w3 (.cells #[.int .i64 0, .int .i64 0, .int .u64 0, .string ⟨#[]⟩, .bool false, .int .i64 0, .int .i64 0, .int .i64 0, .int .i64 0, .int .i64 0, .int .i64 0, .int .i64 0] 27); obtain ⟨w4, hw4⟩ : ∃ z, z = w3.alloc (.cells #[.int .i64 0, .int .i64 0, .int .u64 0, .string ⟨#[]⟩, .bool false, .int .i64 0, .int .i64 0, .int .i64 0, .int .i64 0, .int .i64 0, .int .i64 0, .int .i64 0] 27) := ⟨_, rfl⟩; rw [← hw4] at b4 r4; have B4 := hide (vbup (unhide B3) b4); have T4 := hide (vrow_later (unhide T3) b4); have R4 := hide r4; clear t0 t1; have t0 := vrow_cell (unhide T3) (j := 0) (v := .int .u8 t) rfl; have t1 := vrow_cell (unhide T3) (j := 1) (v := .bool un) rfl; have l3 := (Array.getElem?_eq_some_iff.1 (unhide T3)).1; have HW4 := hide hw4.symm; clear b4 r4 hw4))
    go_ret
    rw [unhide HW4]
    exact ⟨rfl, unhide B4⟩


end Go.Proofs.YtnodhdggafffaaaDoor
