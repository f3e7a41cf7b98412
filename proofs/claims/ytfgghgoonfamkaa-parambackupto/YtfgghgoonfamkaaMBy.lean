/-
  What fixed, counted, clockBytes, dateLength and timeLength of package value return: new memory, a number. They write nothing that was there. Conditions: numbers that may be.
  What dateBytes, timeBytes, dateLength and timeLength of package value return: new memory, a number. They write nothing that was there. Conditions: the moment may be.
-/
import Derived.Test.YtfgghgoonfamkaaVaPv
import Derived.Deep.RegionWith
import Derived.Deep.RegionHeld3
import Derived.Test.YtfgghgoonfamkaaVaLeaf2
import Derived.Test.YtfgghgoonfamkaaVaCat
import Derived.Deep.DeepCutAuto
namespace Go.Proofs.Ytfgghgoonfamkaa
open Go.RowKit
set_option linter.unusedVariables false
set_option linter.unusedSimpArgs false

/-- What a function that writes returns. -/
def OutB (w : World) (l : List Int) (e : Ending) (w' : World) : Prop := ∃ ao n c, e = .returned (.slice ao n c) ∧ Mine w.heap.size w' ao n c l ∧ Below w.heap.size w w'

set_option maxHeartbeats 1000000 in
set_option maxRecDepth 100000 in
theorem vfixed_any (x : Int) (k : Nat) (K M : Int) (hK : K = (k : Int)) (hx : 0 ≤ x ∧ x < M) (hM : (2 : Int) ^ (8 * k) = M) (hM2 : M ≤ 18446744073709551616) (hk1 : 1 ≤ k) (hk8 : k ≤ 8) (w : World) :
    Calls Try.prog 87 #[.int .u64 x, .int .i64 K] w fun e w' => ∃ ao n c, e = .returned (.slice ao n c) ∧ Mine w.heap.size w' ao n c (le x k) ∧ Below w.heap.size w w' := by
  subst hK
  have q := appendFixed_ok none 0 0 [] x (k : Int) w (Bs.nought w) hx.1 (by omega) (by omega) (by omega) (by omega) (by rw [Int.toNat_natCast, hM]; exact hx.2)
  rw [Int.toNat_natCast, List.nil_append, Nat.zero_add] at q
  have c1 := hide q
  generalize le x k = L at *
  clear q hx hM hM2 hk1 hk8
  go_enter Try.func87, Try.ntmps87
  go_wp2_with (go_at_call 99; refine (unhide c1).mono ?_; rintro e w1 ⟨a1, c1', rfl, m1, b1⟩; have M1 := hide m1; have B1 := hide b1; clear m1 b1)
  go_ret
  exact ⟨_, _, _, rfl, unhide M1, unhide B1⟩

set_option maxHeartbeats 1000000 in
set_option maxRecDepth 100000 in
theorem counted_any (ao : Option Addr) (n c : Nat) (l : List Int) (N : Nat) (w : World) (h : Bs w ao n c l) (hN : N ≤ n) (hn : n ≤ 255) :
    Calls Try.prog 88 #[.slice ao n c, .int .i64 N] w fun e w' => OutB w (cntB l N) e w' := by
  have hle := h.le
  have hmx := h.max
  obtain ⟨xo, xc, hcut, hxb⟩ := h.cut_h (hi := N) hN (N : Int) rfl
  have wN : IntKind.u8.wrap (N : Int) = (N : Int) := by rw [IntKind.wrap_u8]; omega
  have b1 := below_alloc w (.cells #[.int .u8 (N : Int)] 5)
  have x1 := Bs.lit w [(N : Int)] (Byt.one (by omega) (by omega)) (by simp)
  have x2 := hxb.later b1
  obtain ⟨w1, hw1⟩ : ∃ z, z = w.alloc (.cells #[.int .u8 (N : Int)] 5) := ⟨_, rfl⟩
  rw [show w.alloc (.cells ([(N : Int)].map (Value.int .u8)).toArray 5) = w1 from hw1.symm] at x1
  rw [← hw1] at b1 x2
  have hsz : w1.heap.size = w.heap.size + 1 := by rw [hw1]; simp
  have hcat := hide (concat_any w1.heap.size (some ⟨w.heap.size, 0, none⟩) 1 1 [(N : Int)] xo N xc (l.take N) (w1.alloc (.cells #[.slice (some ⟨w.heap.size, 0, none⟩) 1 1, .slice xo N xc] 22)) (x1.later (below_alloc w1 _)) (x2.later (below_alloc w1 _)) (cell_top w1 _ _ 0 _ rfl) (cell_top w1 _ _ 1 _ rfl) (by omega) (by omega))
  rw [hsz] at hcat
  have HB := hide (vbup b1 (below_alloc w1 (.cells #[.slice (some ⟨w.heap.size, 0, none⟩) 1 1, .slice xo N xc] 22)))
  have HW := hide hw1
  have hlen : (l.take N).length = N := by have := h.len; simp; omega
  clear h b1 x1 x2 hxb hw1 hsz
  go_enter Try.func88, Try.ntmps88
  go_wp2_with fail
  rw [← unhide HW]
  refine (unhide hcat).mono ?_
  rintro e w3 ⟨a3, n3, c3, rfl, m3, b3⟩
  have M3 := hide (m3.mono (unhide HB).size)
  have B3 := hide (vbup (unhide HB) b3)
  clear m3 b3 hcat
  go_wp2_with fail
  go_ret
  exact ⟨_, _, _, rfl, unhide M3, unhide B3⟩

set_option maxHeartbeats 1000000 in
set_option maxRecDepth 100000 in
theorem clockBytes_any (v : Wh) (w : World) (hk : clk v = true) : Calls Try.prog 100 #[.agg (whC v)] w fun e w' => ∃ ao n c, e = .returned (.slice ao n c) ∧ Mine w.heap.size w' ao n c (clkB v) ∧ Below w.heap.size w w' := by
  obtain ⟨ng, y, mo, d, h, mi, s, mc⟩ := v
  have hk2 : (0 ≤ h ∧ h ≤ 23) ∧ (0 ≤ mi ∧ mi ≤ 59) ∧ (0 ≤ s ∧ s ≤ 59) ∧ (0 ≤ mc ∧ mc ≤ 999999) := by
    unfold clk inr at hk
    simp only [Bool.and_eq_true, decide_eq_true_eq] at hk
    exact hk
  have cF := hide (fun wx => vfixed_any mc 4 4 4294967296 rfl ⟨by omega, by omega⟩ (by decide) (by decide) (by decide) (by decide) wx)
  have e1 : clkB ⟨ng, y, mo, d, h, mi, s, mc⟩ = [h, mi, s] ++ le mc 4 := by
    unfold clkB
    simp only
    rw [Int.emod_eq_of_lt (by omega) (by omega), Int.emod_eq_of_lt (by omega) (by omega), Int.emod_eq_of_lt (by omega) (by omega)]
  rw [e1]
  have hll : (le mc 4).length = 4 := le_length _ _
  generalize le mc 4 = L at *
  have w1' : IntKind.u8.wrap h = h := by rw [IntKind.wrap_u8]; omega
  have w2' : IntKind.u8.wrap mi = mi := by rw [IntKind.wrap_u8]; omega
  have w3' : IntKind.u8.wrap s = s := by rw [IntKind.wrap_u8]; omega
  have w4' : IntKind.u64.wrap mc = mc := by rw [IntKind.wrap_u64]; omega
  have hby : Byt [h, mi, s] := Byt.cons (by omega) (by omega) (Byt.cons (by omega) (by omega) (Byt.one (by omega) (by omega)))
  unfold whC
  simp only
  obtain ⟨w1, hw1⟩ : ∃ z, z = w.alloc (.cells #[.bool ng, .int .i64 y, .int .i64 mo, .int .i64 d, .int .i64 h, .int .i64 mi, .int .i64 s, .int .i64 mc] 30) := ⟨_, rfl⟩
  have P0 : Pw w ⟨ng, y, mo, d, h, mi, s, mc⟩ w1 := by rw [hw1]; exact Pw.box w _
  have HW := hide hw1
  have PP := hide P0
  obtain ⟨k0, k1, k2, k3, k4, k5, k6, k7⟩ := P0.cells
  clear hw1 P0
  have BL0 : Bs (w1.alloc (.cells #[.int .u8 h, .int .u8 mi, .int .u8 s] 5)).drew (some ⟨w1.heap.size, 0, none⟩) 3 3 [h, mi, s] := (Bs.lit w1 [h, mi, s] hby (by simp)).later ⟨rfl, rfl, rfl, Nat.le_refl _, fun _ _ => rfl⟩
  have BL := hide BL0
  clear BL0
  have cA := hide (fun (wx : World) (ao : Option Addr) (n c : Nat) (x2 : Bs wx ao n c L) (x1 : Bs wx (some ⟨w1.heap.size, 0, none⟩) 3 3 [h, mi, s]) => concat_any wx.heap.size (some ⟨w1.heap.size, 0, none⟩) 3 3 [h, mi, s] ao n c L (wx.alloc (.cells #[.slice (some ⟨w1.heap.size, 0, none⟩) 3 3, .slice ao n c] 22)) (x1.later (below_alloc wx _)) (x2.later (below_alloc wx _)) (cell_top wx _ _ 0 _ rfl) (cell_top wx _ _ 1 _ rfl) (by omega) (by have := x2.len; omega))
  have cB := hide (fun (wx : World) (ao : Option Addr) (n c : Nat) (x2 : Bs wx ao n c L) => concat_any (wx.heap.size + 1) (some ⟨wx.heap.size, 0, none⟩) 3 3 [h, mi, s] ao n c L ((wx.alloc (.cells #[.int .u8 h, .int .u8 mi, .int .u8 s] 5)).alloc (.cells #[.slice (some ⟨wx.heap.size, 0, none⟩) 3 3, .slice ao n c] 22)) ((Bs.lit wx [h, mi, s] hby (by simp)).later (below_alloc _ _)) ((x2.later (below_alloc wx _)).later (below_alloc _ _)) (cell_top (wx.alloc (.cells #[.int .u8 h, .int .u8 mi, .int .u8 s] 5)) _ _ 0 _ (by simp)) (cell_top (wx.alloc (.cells #[.int .u8 h, .int .u8 mi, .int .u8 s] 5)) _ _ 1 _ (by simp)) (by omega) (by have := x2.len; omega))
  clear e1 hk hk2 hby
  go_enter Try.func100, Try.ntmps100
  go_upto_region 1 with fail
  rw [← unhide HW]
  go_region_held3 (fun w' => w'.cell? ⟨w.heap.size, 0, none⟩ = some (.bool ng) ∧ w'.cell? ⟨w.heap.size, 1, none⟩ = some (.int .i64 y) ∧ w'.cell? ⟨w.heap.size, 2, none⟩ = some (.int .i64 mo) ∧ w'.cell? ⟨w.heap.size, 3, none⟩ = some (.int .i64 d) ∧ w'.cell? ⟨w.heap.size, 4, none⟩ = some (.int .i64 h) ∧ w'.cell? ⟨w.heap.size, 5, none⟩ = some (.int .i64 mi) ∧ w'.cell? ⟨w.heap.size, 6, none⟩ = some (.int .i64 s) ∧ w'.cell? ⟨w.heap.size, 7, none⟩ = some (.int .i64 mc)) (first | exact (unhide PP).cells | exact (unhide PP).drew.cells | go_keep) (first | (go_at_call 87; (with_reducible refine (unhide cF w1.drew).mono ?_); rintro e wq ⟨ao, n, c, rfl, mq, bq⟩; have P2 := (unhide PP).drew.later bq; clear k0 k1 k2 k3 k4 k5 k6 k7; obtain ⟨k0, k1, k2, k3, k4, k5, k6, k7⟩ := P2.cells; have PP := hide P2; clear P2) | (go_at_call 87; (with_reducible refine (unhide cF (w1.alloc (.cells #[.int .u8 h, .int .u8 mi, .int .u8 s] 5)).drew).mono ?_); rintro e wq ⟨ao, n, c, rfl, mq, bq⟩; have bz := (unhide BL).later bq; have P2 := ((unhide PP).later (below_alloc w1 (.cells #[.int .u8 h, .int .u8 mi, .int .u8 s] 5))).drew.later bq; clear k0 k1 k2 k3 k4 k5 k6 k7; obtain ⟨k0, k1, k2, k3, k4, k5, k6, k7⟩ := P2.cells; have PP := hide P2; clear P2) | (go_at_call 20; (with_reducible refine (unhide cA wq ao n c mq.bs bz).mono ?_); rintro e wz ⟨az, nz, cz, rfl, mz, bz'⟩; have MZ := hide (mz.mono (Nat.le_trans (unhide PP).bl.size (Nat.le_of_lt (by simp)))); have P2 := ((unhide PP).later (below_alloc wq _)).later bz'; clear k0 k1 k2 k3 k4 k5 k6 k7; obtain ⟨k0, k1, k2, k3, k4, k5, k6, k7⟩ := P2.cells; have PP := hide P2; clear P2) | (go_at_call 20; (with_reducible refine (unhide cB wq ao n c mq.bs).mono ?_); rintro e wz ⟨az, nz, cz, rfl, mz, bz'⟩; have MZ := hide (mz.mono (Nat.le_trans (unhide PP).bl.size (by simp; omega))); have P2 := (((unhide PP).later (below_alloc wq _)).later (below_alloc _ _)).later bz'; clear k0 k1 k2 k3 k4 k5 k6 k7; obtain ⟨k0, k1, k2, k3, k4, k5, k6, k7⟩ := P2.cells; have PP := hide P2; clear P2))
  all_goals
    clear mz bz' mq bq
    go_wp2_with fail
    go_ret
    exact ⟨_, _, _, rfl, unhide MZ, (unhide PP).bl⟩


end Go.Proofs.Ytfgghgoonfamkaa

namespace Go.Proofs.Ytfgghgoonfamkaa
open Go.RowKit
set_option linter.unusedVariables false
set_option linter.unusedSimpArgs false

set_option maxHeartbeats 2000000 in
set_option maxRecDepth 100000 in
theorem dateBytes_any (v : Wh) (w : World) (hk : clk v = true) (hy : 0 ≤ v.y ∧ v.y ≤ 9999) (hmo : 0 ≤ v.mo ∧ v.mo ≤ 12) (hd : 0 ≤ v.d ∧ v.d ≤ 31) : Calls Try.prog 89 #[.agg (whC v)] w fun e w' => ∃ ao n c, e = .returned (.slice ao n c) ∧ Mine w.heap.size w' ao n c (datA v) ∧ Below w.heap.size w w' := by
  have cC := hide (fun wx => clockBytes_any v wx hk)
  have cF := hide (fun wx => vfixed_any v.y 2 2 65536 rfl ⟨by omega, by omega⟩ (by decide) (by decide) (by decide) (by decide) wx)
  have e1 : datA v = le v.y 2 ++ [v.mo, v.d] ++ clkB v := by
    unfold datA
    rw [Int.emod_eq_of_lt (by omega) (by omega), Int.emod_eq_of_lt (by omega) (by omega), List.append_assoc]
  rw [e1]
  have h1 : (le v.y 2).length = 2 := le_length _ _
  have h2 : (clkB v).length = 7 := by unfold clkB; simp [le_length]
  generalize le v.y 2 = LF at *
  generalize clkB v = LK at *
  obtain ⟨ng, y, mo, d, h, mi, s, mc⟩ := v
  unfold whC at cC ⊢
  simp only at *
  have w1' : IntKind.u8.wrap mo = mo := by rw [IntKind.wrap_u8]; omega
  have w2' : IntKind.u8.wrap d = d := by rw [IntKind.wrap_u8]; omega
  have w4' : IntKind.u64.wrap y = y := by rw [IntKind.wrap_u64]; omega
  have hby : Byt [mo, d] := Byt.cons (by omega) (by omega) (Byt.one (by omega) (by omega))
  clear e1 hk hy hmo hd
  obtain ⟨w1, hw1⟩ : ∃ z, z = w.alloc (.cells #[.bool ng, .int .i64 y, .int .i64 mo, .int .i64 d, .int .i64 h, .int .i64 mi, .int .i64 s, .int .i64 mc] 30) := ⟨_, rfl⟩
  have P0 : Pw w ⟨ng, y, mo, d, h, mi, s, mc⟩ w1 := by rw [hw1]; exact Pw.box w _
  have HW := hide hw1
  have PP := hide P0
  obtain ⟨k0, k1, k2, k3, k4, k5, k6, k7⟩ := P0.cells
  clear hw1 P0
  have BL0 : Bs (w1.alloc (.cells #[.int .u8 mo, .int .u8 d] 5)).drew (some ⟨w1.heap.size, 0, none⟩) 2 2 [mo, d] := (Bs.lit w1 [mo, d] hby (by simp)).later ⟨rfl, rfl, rfl, Nat.le_refl _, fun _ _ => rfl⟩
  have BM0 : ∀ wx : World, Bs (wx.alloc (.cells #[.int .u8 mo, .int .u8 d] 5)) (some ⟨wx.heap.size, 0, none⟩) 2 2 [mo, d] := fun wx => Bs.lit wx [mo, d] hby (by simp)
  have BL := hide BL0
  have BM := hide BM0
  have cA := hide (fun (wx : World) (lo : Nat) (ao : Option Addr) (n c : Nat) (bo : Option Addr) (m d2 : Nat) (x1 : Bs wx (some ⟨lo, 0, none⟩) 2 2 [mo, d]) (x2 : Bs wx ao n c LF) (x3 : Bs wx bo m d2 LK) => concat3_any wx.heap.size ao n c LF (some ⟨lo, 0, none⟩) 2 2 [mo, d] bo m d2 LK (wx.alloc (.cells #[.slice ao n c, .slice (some ⟨lo, 0, none⟩) 2 2, .slice bo m d2] 22)) (x2.later (below_alloc wx _)) (x1.later (below_alloc wx _)) (x3.later (below_alloc wx _)) (cell_top wx _ _ 0 _ rfl) (cell_top wx _ _ 1 _ rfl) (cell_top wx _ _ 2 _ rfl) (by have := x2.len; omega) (by omega) (by have := x3.len; omega))
  have cB := hide (fun (wx : World) (ao : Option Addr) (n c : Nat) (bo : Option Addr) (m d2 : Nat) (x2 : Bs wx ao n c LF) (x3 : Bs wx bo m d2 LK) => concat3_any (wx.heap.size + 1) ao n c LF (some ⟨wx.heap.size, 0, none⟩) 2 2 [mo, d] bo m d2 LK ((wx.alloc (.cells #[.int .u8 mo, .int .u8 d] 5)).alloc (.cells #[.slice ao n c, .slice (some ⟨wx.heap.size, 0, none⟩) 2 2, .slice bo m d2] 22)) ((x2.later (below_alloc wx _)).later (below_alloc _ _)) ((Bs.lit wx [mo, d] hby (by simp)).later (below_alloc _ _)) ((x3.later (below_alloc wx _)).later (below_alloc _ _)) (cell_top (wx.alloc (.cells #[.int .u8 mo, .int .u8 d] 5)) _ _ 0 _ (by simp)) (cell_top (wx.alloc (.cells #[.int .u8 mo, .int .u8 d] 5)) _ _ 1 _ (by simp)) (cell_top (wx.alloc (.cells #[.int .u8 mo, .int .u8 d] 5)) _ _ 2 _ (by simp)) (by have := x2.len; omega) (by omega) (by have := x3.len; omega))
  clear BL0 BM0 hby
  go_enter Try.func89, Try.ntmps89
  go_upto_region 1 with fail
  rw [← unhide HW]
  go_region_held3 (fun w' => w'.cell? ⟨w.heap.size, 0, none⟩ = some (.bool ng) ∧ w'.cell? ⟨w.heap.size, 1, none⟩ = some (.int .i64 y) ∧ w'.cell? ⟨w.heap.size, 2, none⟩ = some (.int .i64 mo) ∧ w'.cell? ⟨w.heap.size, 3, none⟩ = some (.int .i64 d) ∧ w'.cell? ⟨w.heap.size, 4, none⟩ = some (.int .i64 h) ∧ w'.cell? ⟨w.heap.size, 5, none⟩ = some (.int .i64 mi) ∧ w'.cell? ⟨w.heap.size, 6, none⟩ = some (.int .i64 s) ∧ w'.cell? ⟨w.heap.size, 7, none⟩ = some (.int .i64 mc)) (first | exact (unhide PP).cells | exact (unhide PP).drew.cells | go_keep) (first | (go_at_call 87; (with_reducible refine (unhide cF w1.drew).mono ?_); rintro e wq ⟨ao, n, c, rfl, mq, bq⟩; have P2 := (unhide PP).drew.later bq; clear k0 k1 k2 k3 k4 k5 k6 k7; obtain ⟨k0, k1, k2, k3, k4, k5, k6, k7⟩ := P2.cells; have PP := hide P2; clear P2) | (go_at_call 87; (with_reducible refine (unhide cF (w1.alloc (.cells #[.int .u8 mo, .int .u8 d] 5)).drew).mono ?_); rintro e wq ⟨ao, n, c, rfl, mq, bq⟩; have bz := (unhide BL).later bq; have P2 := ((unhide PP).later (below_alloc w1 (.cells #[.int .u8 mo, .int .u8 d] 5))).drew.later bq; clear k0 k1 k2 k3 k4 k5 k6 k7; obtain ⟨k0, k1, k2, k3, k4, k5, k6, k7⟩ := P2.cells; have PP := hide P2; clear P2) | (go_at_call 100; (with_reducible refine (unhide cC wq).mono ?_); rintro e wr ⟨bo, m, d2, rfl, mr, br⟩; have mq2 := mq.bs.later br; (try have bz := bz.later br); have P2 := (unhide PP).later br; clear k0 k1 k2 k3 k4 k5 k6 k7; obtain ⟨k0, k1, k2, k3, k4, k5, k6, k7⟩ := P2.cells; have PP := hide P2; clear P2) | (go_at_call 100; (with_reducible refine (unhide cC (wq.alloc (.cells #[.int .u8 mo, .int .u8 d] 5))).mono ?_); rintro e wr ⟨bo, m, d2, rfl, mr, br⟩; have mq2 := (mq.bs.later (below_alloc wq (.cells #[.int .u8 mo, .int .u8 d] 5))).later br; have bz := (unhide BM wq).later br; have P2 := ((unhide PP).later (below_alloc wq (.cells #[.int .u8 mo, .int .u8 d] 5))).later br; clear k0 k1 k2 k3 k4 k5 k6 k7; obtain ⟨k0, k1, k2, k3, k4, k5, k6, k7⟩ := P2.cells; have PP := hide P2; clear P2) | (go_at_call 20; (with_reducible refine (unhide cA wr _ ao n c bo m d2 bz mq2 mr.bs).mono ?_); rintro e wz ⟨az, nz, cz, rfl, mz, by'⟩; have MZ := hide (mz.mono (Nat.le_trans (unhide PP).bl.size (Nat.le_of_lt (by simp)))); have P2 := ((unhide PP).later (below_alloc wr _)).later by'; clear k0 k1 k2 k3 k4 k5 k6 k7; obtain ⟨k0, k1, k2, k3, k4, k5, k6, k7⟩ := P2.cells; have PP := hide P2; clear P2) | (go_at_call 20; (with_reducible refine (unhide cB wr ao n c bo m d2 mq2 mr.bs).mono ?_); rintro e wz ⟨az, nz, cz, rfl, mz, by'⟩; have MZ := hide (mz.mono (Nat.le_trans (unhide PP).bl.size (by simp; omega))); have P2 := (((unhide PP).later (below_alloc wr _)).later (below_alloc _ _)).later by'; clear k0 k1 k2 k3 k4 k5 k6 k7; obtain ⟨k0, k1, k2, k3, k4, k5, k6, k7⟩ := P2.cells; have PP := hide P2; clear P2))
  all_goals
    clear mz by' mq bq mr br
    go_wp2_with fail
    go_ret
    exact ⟨_, _, _, by rfl, unhide MZ, (unhide PP).bl⟩

set_option maxHeartbeats 2000000 in
set_option maxRecDepth 100000 in
theorem timeBytes_any (v : Wh) (w : World) (hk : clk v = true) (hd : 0 ≤ v.d ∧ v.d ≤ 34) : Calls Try.prog 91 #[.agg (whC v)] w fun e w' => ∃ ao n c, e = .returned (.slice ao n c) ∧ Mine w.heap.size w' ao n c (timA v) ∧ Below w.heap.size w w' := by
  have cC := hide (fun wx => clockBytes_any v wx hk)
  have cF := hide (fun wx => vfixed_any v.d 4 4 4294967296 rfl ⟨by omega, by omega⟩ (by decide) (by decide) (by decide) (by decide) wx)
  have e1 : timA v = [if v.ng = true then 1 else 0] ++ le v.d 4 ++ clkB v := by
    unfold timA
    rw [List.append_assoc]
  rw [e1]
  have h1 : (le v.d 4).length = 4 := le_length _ _
  have h2 : (clkB v).length = 7 := by unfold clkB; simp [le_length]
  generalize le v.d 4 = LF at *
  generalize clkB v = LK at *
  obtain ⟨ng, y, mo, d, h, mi, s, mc⟩ := v
  unfold whC at cC ⊢
  simp only at *
  have w4' : IntKind.u64.wrap d = d := by rw [IntKind.wrap_u64]; omega
  clear e1 hk hd
  cases ng
  · rw [if_neg (by decide)]
    have hby : Byt [0] := Byt.one (by omega) (by omega)
    obtain ⟨w1, hw1⟩ : ∃ z, z = w.alloc (.cells #[.bool false, .int .i64 y, .int .i64 mo, .int .i64 d, .int .i64 h, .int .i64 mi, .int .i64 s, .int .i64 mc] 30) := ⟨_, rfl⟩
    have P0 : Pw w ⟨false, y, mo, d, h, mi, s, mc⟩ w1 := by rw [hw1]; exact Pw.box w _
    have HW := hide hw1
    have PP := hide P0
    obtain ⟨k0, k1, k2, k3, k4, k5, k6, k7⟩ := P0.cells
    clear hw1 P0
    have BL0 : Bs (w1.alloc (.cells #[.int .u8 0] 5)).drew (some ⟨w1.heap.size, 0, none⟩) 1 1 [0] := (Bs.lit w1 [0] hby (by simp)).later ⟨rfl, rfl, rfl, Nat.le_refl _, fun _ _ => rfl⟩
    have BM0 : ∀ wx : World, Bs (wx.alloc (.cells #[.int .u8 0] 5)) (some ⟨wx.heap.size, 0, none⟩) 1 1 [0] := fun wx => Bs.lit wx [0] hby (by simp)
    have BL := hide BL0
    have BM := hide BM0
    have cA := hide (fun (wx : World) (lo : Nat) (ao : Option Addr) (n c : Nat) (bo : Option Addr) (m d2 : Nat) (x1 : Bs wx (some ⟨lo, 0, none⟩) 1 1 [0]) (x2 : Bs wx ao n c LF) (x3 : Bs wx bo m d2 LK) => concat3_any wx.heap.size (some ⟨lo, 0, none⟩) 1 1 [0] ao n c LF bo m d2 LK (wx.alloc (.cells #[.slice (some ⟨lo, 0, none⟩) 1 1, .slice ao n c, .slice bo m d2] 22)) (x1.later (below_alloc wx _)) (x2.later (below_alloc wx _)) (x3.later (below_alloc wx _)) (cell_top wx _ _ 0 _ rfl) (cell_top wx _ _ 1 _ rfl) (cell_top wx _ _ 2 _ rfl) (by omega) (by have := x2.len; omega) (by have := x3.len; omega))
    have cB := hide (fun (wx : World) (ao : Option Addr) (n c : Nat) (bo : Option Addr) (m d2 : Nat) (x2 : Bs wx ao n c LF) (x3 : Bs wx bo m d2 LK) => concat3_any (wx.heap.size + 1) (some ⟨wx.heap.size, 0, none⟩) 1 1 [0] ao n c LF bo m d2 LK ((wx.alloc (.cells #[.int .u8 0] 5)).alloc (.cells #[.slice (some ⟨wx.heap.size, 0, none⟩) 1 1, .slice ao n c, .slice bo m d2] 22)) ((Bs.lit wx [0] hby (by simp)).later (below_alloc _ _)) ((x2.later (below_alloc wx _)).later (below_alloc _ _)) ((x3.later (below_alloc wx _)).later (below_alloc _ _)) (cell_top (wx.alloc (.cells #[.int .u8 0] 5)) _ _ 0 _ (by simp)) (cell_top (wx.alloc (.cells #[.int .u8 0] 5)) _ _ 1 _ (by simp)) (cell_top (wx.alloc (.cells #[.int .u8 0] 5)) _ _ 2 _ (by simp)) (by omega) (by have := x2.len; omega) (by have := x3.len; omega))
    clear BL0 BM0 hby
    go_enter Try.func91, Try.ntmps91
    go_upto_region 4 with fail
    rw [← unhide HW]
    go_region_held3 (fun w' => w'.cell? ⟨w.heap.size, 0, none⟩ = some (.bool false) ∧ w'.cell? ⟨w.heap.size, 1, none⟩ = some (.int .i64 y) ∧ w'.cell? ⟨w.heap.size, 2, none⟩ = some (.int .i64 mo) ∧ w'.cell? ⟨w.heap.size, 3, none⟩ = some (.int .i64 d) ∧ w'.cell? ⟨w.heap.size, 4, none⟩ = some (.int .i64 h) ∧ w'.cell? ⟨w.heap.size, 5, none⟩ = some (.int .i64 mi) ∧ w'.cell? ⟨w.heap.size, 6, none⟩ = some (.int .i64 s) ∧ w'.cell? ⟨w.heap.size, 7, none⟩ = some (.int .i64 mc)) (first | exact (unhide PP).cells | exact (unhide PP).drew.cells | go_keep) (first | (go_at_call 87; (with_reducible refine (unhide cF w1.drew).mono ?_); rintro e wq ⟨ao, n, c, rfl, mq, bq⟩; have P2 := (unhide PP).drew.later bq; clear k0 k1 k2 k3 k4 k5 k6 k7; obtain ⟨k0, k1, k2, k3, k4, k5, k6, k7⟩ := P2.cells; have PP := hide P2; clear P2) | (go_at_call 87; (with_reducible refine (unhide cF (w1.alloc (.cells #[.int .u8 0] 5)).drew).mono ?_); rintro e wq ⟨ao, n, c, rfl, mq, bq⟩; have bz := (unhide BL).later bq; have P2 := ((unhide PP).later (below_alloc w1 (.cells #[.int .u8 0] 5))).drew.later bq; clear k0 k1 k2 k3 k4 k5 k6 k7; obtain ⟨k0, k1, k2, k3, k4, k5, k6, k7⟩ := P2.cells; have PP := hide P2; clear P2) | (go_at_call 100; (with_reducible refine (unhide cC wq).mono ?_); rintro e wr ⟨bo, m, d2, rfl, mr, br⟩; have mq2 := mq.bs.later br; (try have bz := bz.later br); have P2 := (unhide PP).later br; clear k0 k1 k2 k3 k4 k5 k6 k7; obtain ⟨k0, k1, k2, k3, k4, k5, k6, k7⟩ := P2.cells; have PP := hide P2; clear P2) | (go_at_call 100; (with_reducible refine (unhide cC (wq.alloc (.cells #[.int .u8 0] 5))).mono ?_); rintro e wr ⟨bo, m, d2, rfl, mr, br⟩; have mq2 := (mq.bs.later (below_alloc wq (.cells #[.int .u8 0] 5))).later br; have bz := (unhide BM wq).later br; have P2 := ((unhide PP).later (below_alloc wq (.cells #[.int .u8 0] 5))).later br; clear k0 k1 k2 k3 k4 k5 k6 k7; obtain ⟨k0, k1, k2, k3, k4, k5, k6, k7⟩ := P2.cells; have PP := hide P2; clear P2) | (go_at_call 20; (with_reducible refine (unhide cA wr _ ao n c bo m d2 bz mq2 mr.bs).mono ?_); rintro e wz ⟨az, nz, cz, rfl, mz, by'⟩; have MZ := hide (mz.mono (Nat.le_trans (unhide PP).bl.size (Nat.le_of_lt (by simp)))); have P2 := ((unhide PP).later (below_alloc wr _)).later by'; clear k0 k1 k2 k3 k4 k5 k6 k7; obtain ⟨k0, k1, k2, k3, k4, k5, k6, k7⟩ := P2.cells; have PP := hide P2; clear P2) | (go_at_call 20; (with_reducible refine (unhide cB wr ao n c bo m d2 mq2 mr.bs).mono ?_); rintro e wz ⟨az, nz, cz, rfl, mz, by'⟩; have MZ := hide (mz.mono (Nat.le_trans (unhide PP).bl.size (by simp; omega))); have P2 := (((unhide PP).later (below_alloc wr _)).later (below_alloc _ _)).later by'; clear k0 k1 k2 k3 k4 k5 k6 k7; obtain ⟨k0, k1, k2, k3, k4, k5, k6, k7⟩ := P2.cells; have PP := hide P2; clear P2))
    all_goals
      clear mz by' mq bq mr br
      go_wp2_with fail
      go_ret
      exact ⟨_, _, _, by rfl, unhide MZ, (unhide PP).bl⟩
  · rw [if_pos rfl]
    have hby : Byt [1] := Byt.one (by omega) (by omega)
    obtain ⟨w1, hw1⟩ : ∃ z, z = w.alloc (.cells #[.bool true, .int .i64 y, .int .i64 mo, .int .i64 d, .int .i64 h, .int .i64 mi, .int .i64 s, .int .i64 mc] 30) := ⟨_, rfl⟩
    have P0 : Pw w ⟨true, y, mo, d, h, mi, s, mc⟩ w1 := by rw [hw1]; exact Pw.box w _
    have HW := hide hw1
    have PP := hide P0
    obtain ⟨k0, k1, k2, k3, k4, k5, k6, k7⟩ := P0.cells
    clear hw1 P0
    have BL0 : Bs (w1.alloc (.cells #[.int .u8 1] 5)).drew (some ⟨w1.heap.size, 0, none⟩) 1 1 [1] := (Bs.lit w1 [1] hby (by simp)).later ⟨rfl, rfl, rfl, Nat.le_refl _, fun _ _ => rfl⟩
    have BM0 : ∀ wx : World, Bs (wx.alloc (.cells #[.int .u8 1] 5)) (some ⟨wx.heap.size, 0, none⟩) 1 1 [1] := fun wx => Bs.lit wx [1] hby (by simp)
    have BL := hide BL0
    have BM := hide BM0
    have cA := hide (fun (wx : World) (lo : Nat) (ao : Option Addr) (n c : Nat) (bo : Option Addr) (m d2 : Nat) (x1 : Bs wx (some ⟨lo, 0, none⟩) 1 1 [1]) (x2 : Bs wx ao n c LF) (x3 : Bs wx bo m d2 LK) => concat3_any wx.heap.size (some ⟨lo, 0, none⟩) 1 1 [1] ao n c LF bo m d2 LK (wx.alloc (.cells #[.slice (some ⟨lo, 0, none⟩) 1 1, .slice ao n c, .slice bo m d2] 22)) (x1.later (below_alloc wx _)) (x2.later (below_alloc wx _)) (x3.later (below_alloc wx _)) (cell_top wx _ _ 0 _ rfl) (cell_top wx _ _ 1 _ rfl) (cell_top wx _ _ 2 _ rfl) (by omega) (by have := x2.len; omega) (by have := x3.len; omega))
    have cB := hide (fun (wx : World) (ao : Option Addr) (n c : Nat) (bo : Option Addr) (m d2 : Nat) (x2 : Bs wx ao n c LF) (x3 : Bs wx bo m d2 LK) => concat3_any (wx.heap.size + 1) (some ⟨wx.heap.size, 0, none⟩) 1 1 [1] ao n c LF bo m d2 LK ((wx.alloc (.cells #[.int .u8 1] 5)).alloc (.cells #[.slice (some ⟨wx.heap.size, 0, none⟩) 1 1, .slice ao n c, .slice bo m d2] 22)) ((Bs.lit wx [1] hby (by simp)).later (below_alloc _ _)) ((x2.later (below_alloc wx _)).later (below_alloc _ _)) ((x3.later (below_alloc wx _)).later (below_alloc _ _)) (cell_top (wx.alloc (.cells #[.int .u8 1] 5)) _ _ 0 _ (by simp)) (cell_top (wx.alloc (.cells #[.int .u8 1] 5)) _ _ 1 _ (by simp)) (cell_top (wx.alloc (.cells #[.int .u8 1] 5)) _ _ 2 _ (by simp)) (by omega) (by have := x2.len; omega) (by have := x3.len; omega))
    clear BL0 BM0 hby
    go_enter Try.func91, Try.ntmps91
    go_upto_region 4 with fail
    rw [← unhide HW]
    go_region_held3 (fun w' => w'.cell? ⟨w.heap.size, 0, none⟩ = some (.bool true) ∧ w'.cell? ⟨w.heap.size, 1, none⟩ = some (.int .i64 y) ∧ w'.cell? ⟨w.heap.size, 2, none⟩ = some (.int .i64 mo) ∧ w'.cell? ⟨w.heap.size, 3, none⟩ = some (.int .i64 d) ∧ w'.cell? ⟨w.heap.size, 4, none⟩ = some (.int .i64 h) ∧ w'.cell? ⟨w.heap.size, 5, none⟩ = some (.int .i64 mi) ∧ w'.cell? ⟨w.heap.size, 6, none⟩ = some (.int .i64 s) ∧ w'.cell? ⟨w.heap.size, 7, none⟩ = some (.int .i64 mc)) (first | exact (unhide PP).cells | exact (unhide PP).drew.cells | go_keep) (first | (go_at_call 87; (with_reducible refine (unhide cF w1.drew).mono ?_); rintro e wq ⟨ao, n, c, rfl, mq, bq⟩; have P2 := (unhide PP).drew.later bq; clear k0 k1 k2 k3 k4 k5 k6 k7; obtain ⟨k0, k1, k2, k3, k4, k5, k6, k7⟩ := P2.cells; have PP := hide P2; clear P2) | (go_at_call 87; (with_reducible refine (unhide cF (w1.alloc (.cells #[.int .u8 1] 5)).drew).mono ?_); rintro e wq ⟨ao, n, c, rfl, mq, bq⟩; have bz := (unhide BL).later bq; have P2 := ((unhide PP).later (below_alloc w1 (.cells #[.int .u8 1] 5))).drew.later bq; clear k0 k1 k2 k3 k4 k5 k6 k7; obtain ⟨k0, k1, k2, k3, k4, k5, k6, k7⟩ := P2.cells; have PP := hide P2; clear P2) | (go_at_call 100; (with_reducible refine (unhide cC wq).mono ?_); rintro e wr ⟨bo, m, d2, rfl, mr, br⟩; have mq2 := mq.bs.later br; (try have bz := bz.later br); have P2 := (unhide PP).later br; clear k0 k1 k2 k3 k4 k5 k6 k7; obtain ⟨k0, k1, k2, k3, k4, k5, k6, k7⟩ := P2.cells; have PP := hide P2; clear P2) | (go_at_call 100; (with_reducible refine (unhide cC (wq.alloc (.cells #[.int .u8 1] 5))).mono ?_); rintro e wr ⟨bo, m, d2, rfl, mr, br⟩; have mq2 := (mq.bs.later (below_alloc wq (.cells #[.int .u8 1] 5))).later br; have bz := (unhide BM wq).later br; have P2 := ((unhide PP).later (below_alloc wq (.cells #[.int .u8 1] 5))).later br; clear k0 k1 k2 k3 k4 k5 k6 k7; obtain ⟨k0, k1, k2, k3, k4, k5, k6, k7⟩ := P2.cells; have PP := hide P2; clear P2) | (go_at_call 20; (with_reducible refine (unhide cA wr _ ao n c bo m d2 bz mq2 mr.bs).mono ?_); rintro e wz ⟨az, nz, cz, rfl, mz, by'⟩; have MZ := hide (mz.mono (Nat.le_trans (unhide PP).bl.size (Nat.le_of_lt (by simp)))); have P2 := ((unhide PP).later (below_alloc wr _)).later by'; clear k0 k1 k2 k3 k4 k5 k6 k7; obtain ⟨k0, k1, k2, k3, k4, k5, k6, k7⟩ := P2.cells; have PP := hide P2; clear P2) | (go_at_call 20; (with_reducible refine (unhide cB wr ao n c bo m d2 mq2 mr.bs).mono ?_); rintro e wz ⟨az, nz, cz, rfl, mz, by'⟩; have MZ := hide (mz.mono (Nat.le_trans (unhide PP).bl.size (by simp; omega))); have P2 := (((unhide PP).later (below_alloc wr _)).later (below_alloc _ _)).later by'; clear k0 k1 k2 k3 k4 k5 k6 k7; obtain ⟨k0, k1, k2, k3, k4, k5, k6, k7⟩ := P2.cells; have PP := hide P2; clear P2))
    all_goals
      clear mz by' mq bq mr br
      go_wp2_with fail
      go_ret
      exact ⟨_, _, _, by rfl, unhide MZ, (unhide PP).bl⟩

set_option maxHeartbeats 2000000 in
set_option maxRecDepth 100000 in
theorem dateLength_any (v : Wh) (w : World) : Calls Try.prog 90 #[.agg (whC v)] w fun e w' => e = .returned (.int .i64 (datN v : Nat)) ∧ Below w.heap.size w w' := by
  have E := eqw v wh0
  have cM := hide (fun wx => isMidnight_any v wx)
  unfold datN
  by_cases h0 : v = wh0
  · rw [decide_eq_true h0] at E
    rw [if_pos h0]
    clear h0
    obtain ⟨ng, y, mo, d, h, mi, s, mc⟩ := v
    unfold whC wh0 at E
    unfold whC at cM ⊢
    simp only at *
    obtain ⟨w1, hw1⟩ : ∃ z, z = w.alloc (.cells #[.bool ng, .int .i64 y, .int .i64 mo, .int .i64 d, .int .i64 h, .int .i64 mi, .int .i64 s, .int .i64 mc] 30) := ⟨_, rfl⟩
    have P0 : Pw w ⟨ng, y, mo, d, h, mi, s, mc⟩ w1 := by rw [hw1]; exact Pw.box w _
    have HW := hide hw1
    have PP := hide P0
    obtain ⟨k0, k1, k2, k3, k4, k5, k6, k7⟩ := P0.cells
    clear hw1 P0
    go_enter Try.func90, Try.ntmps90
    go_wp2_with fail
    go_ret
    rw [← unhide HW]
    exact ⟨rfl, (unhide PP).bl⟩
  rw [decide_eq_false h0] at E
  rw [if_neg h0]
  clear h0
  generalize mid v = B at *
  obtain ⟨ng, y, mo, d, h, mi, s, mc⟩ := v
  unfold whC wh0 at E
  unfold whC at cM ⊢
  simp only at *
  obtain ⟨w1, hw1⟩ : ∃ z, z = w.alloc (.cells #[.bool ng, .int .i64 y, .int .i64 mo, .int .i64 d, .int .i64 h, .int .i64 mi, .int .i64 s, .int .i64 mc] 30) := ⟨_, rfl⟩
  have P0 : Pw w ⟨ng, y, mo, d, h, mi, s, mc⟩ w1 := by rw [hw1]; exact Pw.box w _
  have HW := hide hw1
  have PP := hide P0
  obtain ⟨k0, k1, k2, k3, k4, k5, k6, k7⟩ := P0.cells
  clear hw1 P0
  cases B
  · rw [if_neg (by decide)]
    by_cases hm : mc = 0
    · rw [if_pos hm]
      have hm2 : (mc == 0) = true := by simpa using hm
      clear hm
      go_enter Try.func90, Try.ntmps90
      go_wp2_with (go_at_call 84; rw [← unhide HW]; (with_reducible refine (unhide cM _).mono ?_); rintro e wq ⟨rfl, bq⟩; have P2 := (unhide PP).later bq; clear bq k0 k1 k2 k3 k4 k5 k6 k7; obtain ⟨k0, k1, k2, k3, k4, k5, k6, k7⟩ := P2.cells; have PP := hide P2; clear P2)
      go_ret
      exact ⟨rfl, (unhide PP).bl⟩
    · rw [if_neg hm]
      have hm2 : (mc == 0) = false := by simpa using hm
      clear hm
      go_enter Try.func90, Try.ntmps90
      go_wp2_with (go_at_call 84; rw [← unhide HW]; (with_reducible refine (unhide cM _).mono ?_); rintro e wq ⟨rfl, bq⟩; have P2 := (unhide PP).later bq; clear bq k0 k1 k2 k3 k4 k5 k6 k7; obtain ⟨k0, k1, k2, k3, k4, k5, k6, k7⟩ := P2.cells; have PP := hide P2; clear P2)
      go_ret
      exact ⟨rfl, (unhide PP).bl⟩
  · rw [if_pos rfl]
    go_enter Try.func90, Try.ntmps90
    go_wp2_with (go_at_call 84; rw [← unhide HW]; (with_reducible refine (unhide cM _).mono ?_); rintro e wq ⟨rfl, bq⟩; have P2 := (unhide PP).later bq; clear bq k0 k1 k2 k3 k4 k5 k6 k7; obtain ⟨k0, k1, k2, k3, k4, k5, k6, k7⟩ := P2.cells; have PP := hide P2; clear P2)
    go_ret
    exact ⟨rfl, (unhide PP).bl⟩

set_option maxHeartbeats 2000000 in
set_option maxRecDepth 100000 in
theorem timeLength_any (v : Wh) (w : World) : Calls Try.prog 92 #[.agg (whC v)] w fun e w' => e = .returned (.int .i64 (timN v : Nat)) ∧ Below w.heap.size w w' := by
  have E := eqw v wh0
  unfold timN
  by_cases h0 : v = wh0
  · rw [decide_eq_true h0] at E
    rw [if_pos h0]
    clear h0
    obtain ⟨ng, y, mo, d, h, mi, s, mc⟩ := v
    unfold whC wh0 at E
    unfold whC
    simp only at *
    obtain ⟨w1, hw1⟩ : ∃ z, z = w.alloc (.cells #[.bool ng, .int .i64 y, .int .i64 mo, .int .i64 d, .int .i64 h, .int .i64 mi, .int .i64 s, .int .i64 mc] 30) := ⟨_, rfl⟩
    have P0 : Pw w ⟨ng, y, mo, d, h, mi, s, mc⟩ w1 := by rw [hw1]; exact Pw.box w _
    have HW := hide hw1
    have PP := hide P0
    obtain ⟨k0, k1, k2, k3, k4, k5, k6, k7⟩ := P0.cells
    clear hw1 P0
    go_enter Try.func92, Try.ntmps92
    go_wp2_with fail
    go_ret
    rw [← unhide HW]
    exact ⟨rfl, (unhide PP).bl⟩
  rw [decide_eq_false h0] at E
  rw [if_neg h0]
  clear h0
  obtain ⟨ng, y, mo, d, h, mi, s, mc⟩ := v
  unfold whC wh0 at E
  unfold whC
  simp only at *
  obtain ⟨w1, hw1⟩ : ∃ z, z = w.alloc (.cells #[.bool ng, .int .i64 y, .int .i64 mo, .int .i64 d, .int .i64 h, .int .i64 mi, .int .i64 s, .int .i64 mc] 30) := ⟨_, rfl⟩
  have P0 : Pw w ⟨ng, y, mo, d, h, mi, s, mc⟩ w1 := by rw [hw1]; exact Pw.box w _
  have HW := hide hw1
  have PP := hide P0
  obtain ⟨k0, k1, k2, k3, k4, k5, k6, k7⟩ := P0.cells
  clear hw1 P0
  by_cases hm : mc = 0
  · rw [if_pos hm]
    have hm2 : (mc == 0) = true := by simpa using hm
    clear hm
    go_enter Try.func92, Try.ntmps92
    go_wp2_with fail
    go_ret
    rw [← unhide HW]
    exact ⟨rfl, (unhide PP).bl⟩
  · rw [if_neg hm]
    have hm2 : (mc == 0) = false := by simpa using hm
    clear hm
    go_enter Try.func92, Try.ntmps92
    go_wp2_with fail
    go_ret
    rw [← unhide HW]
    exact ⟨rfl, (unhide PP).bl⟩


end Go.Proofs.Ytfgghgoonfamkaa
