/-
  ValueCalls walked: it returns true, whatever the bytes, the value and the type. Conditions: the library's table of powers of ten reads as its initialiser lays it; numbers within their kinds.
-/
import Derived.Test.YthncndofbdjbgaaDoorMVa
import Derived.Test.YthncndofbdjbgaaDoorMVt
import Derived.Test.YthncndofbdjbgaaDoorVaLives
import Derived.Test.YthncndofbdjbgaaDoorKit
import Derived.Deep.RegionHeld3
namespace Go.Proofs.YthncndofbdjbgaaDoor
open Go.RowKit
set_option linter.unusedVariables false
set_option linter.unusedSimpArgs false

/-- What a writer returns, in one: bytes (none, where there is an error), the error. -/
theorem OutP.two {w w' : World} {ok : Bool} {l : List Int} {e : Ending} (h : OutP w (if ok = true then some l else none) e w') :
    ∃ ao n c, e = .returned (.tuple #[.slice ao n c, .int .i64 (if ok = true then 0 else 2)]) ∧ Bs w' ao n c (if ok = true then l else []) ∧ Below w.heap.size w w' := by
  cases ok
  · rw [if_neg (by decide)] at h ⊢
    rw [if_neg (by decide)]
    exact ⟨none, 0, 0, h.1, Bs.nought w', h.2⟩
  · rw [if_pos rfl] at h ⊢
    rw [if_pos rfl]
    obtain ⟨ao, n, c, e1, m, b⟩ := h
    exact ⟨ao, n, c, e1, m.bs, b⟩
theorem same_self (bo : Option Addr) (m d : Nat) (ao : Option Addr) (n c : Nat) (l : List Int) (w : World) (h : Bs w ao n c l) (k : Bs w bo m d l) :
    Calls Tryd.prog 12 #[.slice ao n c, .slice bo m d] w fun e w' => e = .returned (.bool true) ∧ w' = w :=
  (sameBytes_any ao n c l bo m d l w h k).mono fun e w' ⟨h1, h2⟩ => ⟨by rw [h1, decide_eq_true rfl], h2⟩

set_option maxHeartbeats 4000000 in
set_option maxRecDepth 100000 in
theorem lawVaCalls (bo : Option Addr) (bn bc : Nat) (bb : List Int) (v : Va) (t : Int) (un : Bool) (w : World) (hvs : Vars w) (hb : Bs w bo bn bc bb) (hv : VaK v) (ht : 0 ≤ t ∧ t < 256) :
    Calls Tryd.prog 3 #[.slice bo bn bc, .agg (vaC v), .agg #[.int .u8 t, .bool un]] w fun e w' => e = .returned (.bool true) ∧ Below w.heap.size w w' := by
  obtain ⟨w1, hw1⟩ : ∃ z, z = (w.alloc (.cells (vaC v) 27)).alloc (.cells #[.int .u8 t, .bool un] 29) := ⟨_, rfl⟩
  have P0 : Pv w v t un w1 := by rw [hw1]; exact Pv.box w v t un
  have cL := hide (lives_any w1 (hvs.later P0.bl))
  have hble := hb.le
  have hbmx := hb.max
  have hbl := hb.len
  have S1 := hide P0
  have cO := hide (fun (hx : bn ≤ 2000) (wx : World) (hw : Below w.heap.size w wx) => own_any bo bn bc bb wx (hb.later hw) (by omega))
  have pA := hide (fun (hx : bn ≤ 2000) (hy : v.t.size ≤ 2000) (wx : World) g (h : Bs wx (some ⟨g, 0, none⟩) (bn + 8) (bn + 8) (bb ++ kpad)) => (append_any (some ⟨g, 0, none⟩) bn (bn + 8) bb v t un wx ht.1 ht.2 hv (h.pre hbl) (by omega) (by omega)).mono fun _ _ q => q.two)
  have rA := hide (fun (hx : bn ≤ 2000) (hy : v.t.size ≤ 2000) (wx : World) (hw : Below w.heap.size w wx) => (vapp_ref bo bn bc bb v t un wx ht.1 ht.2 hv (hb.later hw) (by omega) (by omega)).mono fun _ _ q => q.two)
  have pT := hide (fun (wx : World) (h : Vars wx) => text_any v t un wx ht.1 ht.2 h hv)
  have rT := hide (fun (wx : World) => text_ref v t un wx ht.1 ht.2 hv)
  have pK := hide (fun (wx : World) => kind_any t un wx ht.1 ht.2)
  have rK := hide (fun (wx : World) => kind_ref t un wx ht.1 ht.2)
  have pC := hide (fun (wx : World) => check_any v t un wx ht.1 ht.2 hv)
  have rC := hide (fun (wx : World) => check_ref v t un wx ht.1 ht.2 hv)
  obtain ⟨E1, hE1⟩ : ∃ z : Int, z = if bOk v t un = true then 0 else 2 := ⟨_, rfl⟩
  obtain ⟨L1, hL1⟩ : ∃ z : List Int, z = if bOk v t un = true then bb ++ vaB v t else [] := ⟨_, rfl⟩
  obtain ⟨E2, hE2⟩ : ∃ z : Int, z = if vOk v t un = true then 0 else 2 := ⟨_, rfl⟩
  simp only [← hE1, ← hL1] at pA rA
  rw [← hE2] at pC rC
  generalize (txR v t un).1 = TS at *
  generalize (txR v t un).2 = TE at *
  generalize kdV t un = KD at *
  have HV := hide hvs
  clear hE1 hL1 hE2 hb hv hvs P0
  obtain ⟨k, i, b, tx, ⟨ng, y, mo, d, h, mi, s, mc⟩⟩ := v
  unfold vaC at pA rA pT rT pC rC ⊢
  simp only at *
  have HW := hide (show (w.alloc (.cells #[.int .i64 k, .int .i64 i, .int .u64 b, .string tx, .bool ng, .int .i64 y, .int .i64 mo, .int .i64 d, .int .i64 h, .int .i64 mi, .int .i64 s, .int .i64 mc] 27)).alloc (.cells #[.int .u8 t, .bool un] 29) = w1 from hw1.symm)
  clear hw1
  obtain ⟨k0, k1, k2, k3, k4, k5, k6, k7, k8, k9, k10, k11, t0, t1⟩ := (unhide S1).cells
  go_enter Tryd.func3, Tryd.ntmps3
  by_cases hbig : 2000 < bn
  · have g1 : (2000 : Int) < (bn : Int) := by omega
    clear cO pA rA pT rT pK rK pC rC
    go_wp2_with (go_at_call 6; rw [unhide HW]; refine (unhide cL).mono ?_; rintro e w2 ⟨rfl, b2⟩; have S2 := hide ((unhide S1).later b2); clear b2; clear k0 k1 k2 k3 k4 k5 k6 k7 k8 k9 k10 k11 t0 t1; obtain ⟨k0, k1, k2, k3, k4, k5, k6, k7, k8, k9, k10, k11, t0, t1⟩ := (unhide S2).cells)
    go_ret
    exact ⟨rfl, (unhide S2).bl⟩
  have g1 : ¬ (2000 : Int) < (bn : Int) := by omega
  by_cases hbig2 : 2000 < tx.size
  · have g2 : (2000 : Int) < (tx.size : Int) := by omega
    clear cO pA rA pT rT pK rK pC rC
    go_wp2_with (go_at_call 6; rw [unhide HW]; refine (unhide cL).mono ?_; rintro e w2 ⟨rfl, b2⟩; have S2 := hide ((unhide S1).later b2); clear b2; clear k0 k1 k2 k3 k4 k5 k6 k7 k8 k9 k10 k11 t0 t1; obtain ⟨k0, k1, k2, k3, k4, k5, k6, k7, k8, k9, k10, k11, t0, t1⟩ := (unhide S2).cells)
    go_ret
    exact ⟨rfl, (unhide S2).bl⟩
  have g2 : ¬ (2000 : Int) < (tx.size : Int) := by omega
  have cO := hide (unhide cO (by omega))
  have pA := hide (unhide pA (by omega) (by omega))
  have rA := hide (unhide rA (by omega) (by omega))
  go_upto_region 5 with (go_at_call 6; rw [unhide HW]; refine (unhide cL).mono ?_; rintro e w2 ⟨rfl, b2⟩; have S2 := hide ((unhide S1).later b2); clear b2; clear k0 k1 k2 k3 k4 k5 k6 k7 k8 k9 k10 k11 t0 t1; obtain ⟨k0, k1, k2, k3, k4, k5, k6, k7, k8, k9, k10, k11, t0, t1⟩ := (unhide S2).cells)
  clear g1 g2 hbig hbig2
  have KC := hide (fun (w' : World) (hb : Below w2.heap.size w2 w') => ((unhide S2).later hb).cells)
  go_cut [7, 8] (fun x e wx => ∃ xo xn xc, x = .slice xo xn xc ∧ e = .int .i64 E1 ∧ Bs wx xo xn xc L1 ∧ Below w2.heap.size w2 wx)
  case first =>
    clear rA pT rT pK rK pC rC
    have bz := below_drew w2
    go_region_held3 (fun w' => w'.cell? ⟨w.heap.size, 0, none⟩ = some (.int .i64 k) ∧ w'.cell? ⟨w.heap.size, 1, none⟩ = some (.int .i64 i) ∧ w'.cell? ⟨w.heap.size, 2, none⟩ = some (.int .u64 b) ∧ w'.cell? ⟨w.heap.size, 3, none⟩ = some (.string tx) ∧ w'.cell? ⟨w.heap.size, 4, none⟩ = some (.bool ng) ∧ w'.cell? ⟨w.heap.size, 5, none⟩ = some (.int .i64 y) ∧ w'.cell? ⟨w.heap.size, 6, none⟩ = some (.int .i64 mo) ∧ w'.cell? ⟨w.heap.size, 7, none⟩ = some (.int .i64 d) ∧ w'.cell? ⟨w.heap.size, 8, none⟩ = some (.int .i64 h) ∧ w'.cell? ⟨w.heap.size, 9, none⟩ = some (.int .i64 mi) ∧ w'.cell? ⟨w.heap.size, 10, none⟩ = some (.int .i64 s) ∧ w'.cell? ⟨w.heap.size, 11, none⟩ = some (.int .i64 mc) ∧ w'.cell? ⟨w.heap.size + 1, 0, none⟩ = some (.int .u8 t) ∧ w'.cell? ⟨w.heap.size + 1, 1, none⟩ = some (.bool un)) (first | with_reducible exact unhide KC _ bz | with_reducible exact unhide KC _ (Below.refl _ _) | with_reducible exact unhide KC _ (Below.drew (Below.refl _ _)) | go_keep) (first | (go_at_call 8; (with_reducible refine (unhide cO _ (vbup (unhide S2).bl bz)).mono ?_); rintro e w4 ⟨g, rfl, o4, b4⟩; have bz := bz.trans (b4.mono bz.size)) | (go_at_call 7; (with_reducible refine (unhide pA w4 g o4).mono ?_); rintro e w5 ⟨xo, xn, xc, rfl, x5, b5⟩; have bz := bz.trans (b5.mono bz.size)))
    all_goals go_wp2_with fail
    all_goals go_meet
    all_goals exact ⟨_, _, _, rfl, rfl, x5, bz⟩
  obtain ⟨xo, xn, xc, rfl, rfl, x5, bz⟩ := hcut
  have S5 := hide ((unhide S2).later bz)
  have X5 := hide x5
  clear x5 bz KC pA cO S2 k0 k1 k2 k3 k4 k5 k6 k7 k8 k9 k10 k11 t0 t1
  obtain ⟨k0, k1, k2, k3, k4, k5, k6, k7, k8, k9, k10, k11, t0, t1⟩ := (unhide S5).cells
  go_upto_region 9 with (first | (go_at_call 9; (with_reducible refine (unhide rA _ (unhide S5).bl).mono ?_); rintro e w6 ⟨yo, yn, yc, rfl, y6, b6⟩; have S6 := hide ((unhide S5).later b6); have X6 := hide ((unhide X5).later b6); have Y6 := hide y6; clear b6 y6; clear k0 k1 k2 k3 k4 k5 k6 k7 k8 k9 k10 k11 t0 t1; obtain ⟨k0, k1, k2, k3, k4, k5, k6, k7, k8, k9, k10, k11, t0, t1⟩ := (unhide S6).cells) | (go_at_call 10; (with_reducible refine (unhide pT _ ((unhide HV).later (unhide S6).bl)).mono ?_); rintro e w7 ⟨rfl, b7⟩; have S7 := hide ((unhide S6).later b7); have X7 := hide ((unhide X6).later b7); have Y7 := hide ((unhide Y6).later b7); clear b7; clear k0 k1 k2 k3 k4 k5 k6 k7 k8 k9 k10 k11 t0 t1; obtain ⟨k0, k1, k2, k3, k4, k5, k6, k7, k8, k9, k10, k11, t0, t1⟩ := (unhide S7).cells) | (go_at_call 11; (with_reducible refine (unhide rT _).mono ?_); rintro e w8 ⟨rfl, b8⟩; have S8 := hide ((unhide S7).later b8); have X8 := hide ((unhide X7).later b8); have Y8 := hide ((unhide Y7).later b8); clear b8; clear k0 k1 k2 k3 k4 k5 k6 k7 k8 k9 k10 k11 t0 t1; obtain ⟨k0, k1, k2, k3, k4, k5, k6, k7, k8, k9, k10, k11, t0, t1⟩ := (unhide S8).cells))
  have KC := hide (fun (w' : World) (hb : Below w8.heap.size w8 w') => ((unhide S8).later hb).cells)
  have cE := hide (fun (wx : World) (hw : Below w8.heap.size w8 wx) => same_self yo yn yc xo xn xc L1 wx ((unhide X8).later hw) ((unhide Y8).later hw))
  have bz := below_drew w8
  go_region_held3 (fun w' => w'.cell? ⟨w.heap.size, 0, none⟩ = some (.int .i64 k) ∧ w'.cell? ⟨w.heap.size, 1, none⟩ = some (.int .i64 i) ∧ w'.cell? ⟨w.heap.size, 2, none⟩ = some (.int .u64 b) ∧ w'.cell? ⟨w.heap.size, 3, none⟩ = some (.string tx) ∧ w'.cell? ⟨w.heap.size, 4, none⟩ = some (.bool ng) ∧ w'.cell? ⟨w.heap.size, 5, none⟩ = some (.int .i64 y) ∧ w'.cell? ⟨w.heap.size, 6, none⟩ = some (.int .i64 mo) ∧ w'.cell? ⟨w.heap.size, 7, none⟩ = some (.int .i64 d) ∧ w'.cell? ⟨w.heap.size, 8, none⟩ = some (.int .i64 h) ∧ w'.cell? ⟨w.heap.size, 9, none⟩ = some (.int .i64 mi) ∧ w'.cell? ⟨w.heap.size, 10, none⟩ = some (.int .i64 s) ∧ w'.cell? ⟨w.heap.size, 11, none⟩ = some (.int .i64 mc) ∧ w'.cell? ⟨w.heap.size + 1, 0, none⟩ = some (.int .u8 t) ∧ w'.cell? ⟨w.heap.size + 1, 1, none⟩ = some (.bool un)) (first | with_reducible exact unhide KC _ bz | with_reducible exact unhide KC _ (Below.refl _ _) | with_reducible exact unhide KC _ (Below.drew (Below.refl _ _)) | go_keep) (first | (go_at_call 12; (with_reducible refine (unhide cE _ bz).mono ?_); rintro e wS ⟨rfl, rfl⟩) | (go_at_call 13; (with_reducible refine (unhide pK _).mono ?_); rintro e wz ⟨rfl, bn'⟩; have bz := bz.trans (Below.mono bn' bz.size)) | (go_at_call 14; (with_reducible refine (unhide rK _).mono ?_); rintro e wz ⟨rfl, bn'⟩; have bz := bz.trans (Below.mono bn' bz.size)) | (go_at_call 15; (with_reducible refine (unhide pC _).mono ?_); rintro e wz ⟨rfl, bn'⟩; have bz := bz.trans (Below.mono bn' bz.size)) | (go_at_call 16; (with_reducible refine (unhide rC _).mono ?_); rintro e wz ⟨rfl, bn'⟩; have bz := bz.trans (Below.mono bn' bz.size)))
  all_goals go_wp2_with fail
  all_goals go_ret
  all_goals exact ⟨rfl, ((unhide S8).later bz).bl⟩


end Go.Proofs.YthncndofbdjbgaaDoor
