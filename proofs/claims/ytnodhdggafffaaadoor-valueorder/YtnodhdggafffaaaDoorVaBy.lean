/-
  What fixed, counted, clockBytes, dateLength and timeLength of package value return: new memory, a number. They write nothing that was there. Conditions: numbers that may be.
-/
import Derived.Test.YtnodhdggafffaaaDoorVaTx
import Derived.Test.YtnodhdggafffaaaDoorVaLeaf2
import Derived.Test.YtnodhdggafffaaaDoorVaCat
import Derived.Deep.DeepCutAuto
namespace Go.Proofs.YtnodhdggafffaaaDoor
open Go.RowKit
set_option linter.unusedVariables false
set_option linter.unusedSimpArgs false

/-- What a function that writes returns. -/
def OutB (w : World) (l : List Int) (e : Ending) (w' : World) : Prop := ∃ ao n c, e = .returned (.slice ao n c) ∧ Mine w.heap.size w' ao n c l ∧ Below w.heap.size w w'

set_option maxHeartbeats 1000000 in
set_option maxRecDepth 100000 in
theorem vfixed_any (x : Int) (k : Nat) (K M : Int) (hK : K = (k : Int)) (hx : 0 ≤ x ∧ x < M) (hM : (2 : Int) ^ (8 * k) = M) (hM2 : M ≤ 18446744073709551616) (hk1 : 1 ≤ k) (hk8 : k ≤ 8) (w : World) :
    Calls Tryd.prog 35 #[.int .u64 x, .int .i64 K] w fun e w' => ∃ ao n c, e = .returned (.slice ao n c) ∧ Mine w.heap.size w' ao n c (le x k) ∧ Below w.heap.size w w' := by
  subst hK
  have q := appendFixed_ok none 0 0 [] x (k : Int) w (Bs.nought w) hx.1 (by omega) (by omega) (by omega) (by omega) (by rw [Int.toNat_natCast, hM]; exact hx.2)
  rw [Int.toNat_natCast, List.nil_append, Nat.zero_add] at q
  have c1 := hide q
  generalize le x k = L at *
  clear q hx hM hM2 hk1 hk8
  go_enter Tryd.func35, Tryd.ntmps35
  go_wp2_with (go_at_call 60; refine (unhide c1).mono ?_; rintro e w1 ⟨a1, c1', rfl, m1, b1⟩; have M1 := hide m1; have B1 := hide b1; clear m1 b1)
  go_ret
  exact ⟨_, _, _, rfl, unhide M1, unhide B1⟩

set_option maxHeartbeats 1000000 in
set_option maxRecDepth 100000 in
theorem counted_any (ao : Option Addr) (n c : Nat) (l : List Int) (N : Nat) (w : World) (h : Bs w ao n c l) (hN : N ≤ n) (hn : n ≤ 255) :
    Calls Tryd.prog 37 #[.slice ao n c, .int .i64 N] w fun e w' => OutB w (cntB l N) e w' := by
  have hle := h.le
  have hmx := h.max
  obtain ⟨xo, xc, hcut, hxb⟩ := h.cut_h (hi := N) hN (N : Int) rfl
  have wN : IntKind.u8.wrap (N : Int) = (N : Int) := by rw [IntKind.wrap_u8]; omega
  have b1 := below_alloc w (.cells #[.int .u8 (N : Int)] 5)
  have x1 := Bs.lit w [(N : Int)] (Byt.one (by omega) (by omega)) (by simp)
  have x2 := hxb.later b1
  obtain ⟨w1, hw1⟩ : ∃ z, z = w.alloc (.cells #[.int .u8 (N : Int)] 5) := ⟨_, rfl⟩
  rw [show w.alloc (.cells ([(N : Int)].map (Value.int .u8)).toArray 5) = w1 from hw1.symm] at x1
  rw [← hw1] at b1 x2
  have hsz : w1.heap.size = w.heap.size + 1 := by rw [hw1]; simp
  have hcat := hide (concat_any w1.heap.size (some ⟨w.heap.size, 0, none⟩) 1 1 [(N : Int)] xo N xc (l.take N) (w1.alloc (.cells #[.slice (some ⟨w.heap.size, 0, none⟩) 1 1, .slice xo N xc] 22)) (x1.later (below_alloc w1 _)) (x2.later (below_alloc w1 _)) (cell_top w1 _ _ 0 _ rfl) (cell_top w1 _ _ 1 _ rfl) (by omega) (by omega))
  rw [hsz] at hcat
  have HB := hide (vbup b1 (below_alloc w1 (.cells #[.slice (some ⟨w.heap.size, 0, none⟩) 1 1, .slice xo N xc] 22)))
  have HW := hide hw1
  have hlen : (l.take N).length = N := by have := h.len; simp; omega
  clear h b1 x1 x2 hxb hw1 hsz
  go_enter Tryd.func37, Tryd.ntmps37
  go_wp2_with fail
  rw [← unhide HW]
  refine (unhide hcat).mono ?_
  rintro e w3 ⟨a3, n3, c3, rfl, m3, b3⟩
  have M3 := hide (m3.mono (unhide HB).size)
  have B3 := hide (vbup (unhide HB) b3)
  clear m3 b3 hcat
  go_wp2_with fail
  go_ret
  exact ⟨_, _, _, rfl, unhide M3, unhide B3⟩

set_option maxHeartbeats 1000000 in
set_option maxRecDepth 100000 in
theorem clockBytes_any (v : Wh) (w : World) (hk : clk v = true) : Calls Tryd.prog 61 #[.agg (whC v)] w fun e w' => ∃ ao n c, e = .returned (.slice ao n c) ∧ Mine w.heap.size w' ao n c (clkB v) ∧ Below w.heap.size w w' := by
  obtain ⟨ng, y, mo, d, h, mi, s, mc⟩ := v
  have hk2 : (0 ≤ h ∧ h ≤ 23) ∧ (0 ≤ mi ∧ mi ≤ 59) ∧ (0 ≤ s ∧ s ≤ 59) ∧ (0 ≤ mc ∧ mc ≤ 999999) := by
    unfold clk inr at hk
    simp only [Bool.and_eq_true, decide_eq_true_eq] at hk
    exact hk
  have cF := hide (fun wx => vfixed_any mc 4 4 4294967296 rfl ⟨by omega, by omega⟩ (by decide) (by decide) (by decide) (by decide) wx)
  have e1 : clkB ⟨ng, y, mo, d, h, mi, s, mc⟩ = [h, mi, s] ++ le mc 4 := by
    unfold clkB
    simp only
    rw [Int.emod_eq_of_lt (by omega) (by omega), Int.emod_eq_of_lt (by omega) (by omega), Int.emod_eq_of_lt (by omega) (by omega)]
  rw [e1]
  have hll : (le mc 4).length = 4 := le_length _ _
  generalize le mc 4 = L at *
  have w1' : IntKind.u8.wrap h = h := by rw [IntKind.wrap_u8]; omega
  have w2' : IntKind.u8.wrap mi = mi := by rw [IntKind.wrap_u8]; omega
  have w3' : IntKind.u8.wrap s = s := by rw [IntKind.wrap_u8]; omega
  have w4' : IntKind.u64.wrap mc = mc := by rw [IntKind.wrap_u64]; omega
  have hby : Byt [h, mi, s] := Byt.cons (by omega) (by omega) (Byt.cons (by omega) (by omega) (Byt.one (by omega) (by omega)))
  unfold whC
  simp only
  obtain ⟨w1, hw1⟩ : ∃ z, z = w.alloc (.cells #[.bool ng, .int .i64 y, .int .i64 mo, .int .i64 d, .int .i64 h, .int .i64 mi, .int .i64 s, .int .i64 mc] 25) := ⟨_, rfl⟩
  have P0 : Pw w ⟨ng, y, mo, d, h, mi, s, mc⟩ w1 := by rw [hw1]; exact Pw.box w _
  have HW := hide hw1
  have PP := hide P0
  obtain ⟨k0, k1, k2, k3, k4, k5, k6, k7⟩ := P0.cells
  clear hw1 P0
  have BL0 : Bs (w1.alloc (.cells #[.int .u8 h, .int .u8 mi, .int .u8 s] 5)).drew (some ⟨w1.heap.size, 0, none⟩) 3 3 [h, mi, s] := (Bs.lit w1 [h, mi, s] hby (by simp)).later ⟨rfl, rfl, rfl, Nat.le_refl _, fun _ _ => rfl⟩
  have BL := hide BL0
  clear BL0
  have cA := hide (fun (wx : World) (ao : Option Addr) (n c : Nat) (x2 : Bs wx ao n c L) (x1 : Bs wx (some ⟨w1.heap.size, 0, none⟩) 3 3 [h, mi, s]) => concat_any wx.heap.size (some ⟨w1.heap.size, 0, none⟩) 3 3 [h, mi, s] ao n c L (wx.alloc (.cells #[.slice (some ⟨w1.heap.size, 0, none⟩) 3 3, .slice ao n c] 22)) (x1.later (below_alloc wx _)) (x2.later (below_alloc wx _)) (cell_top wx _ _ 0 _ rfl) (cell_top wx _ _ 1 _ rfl) (by omega) (by have := x2.len; omega))
  have cB := hide (fun (wx : World) (ao : Option Addr) (n c : Nat) (x2 : Bs wx ao n c L) => concat_any (wx.heap.size + 1) (some ⟨wx.heap.size, 0, none⟩) 3 3 [h, mi, s] ao n c L ((wx.alloc (.cells #[.int .u8 h, .int .u8 mi, .int .u8 s] 5)).alloc (.cells #[.slice (some ⟨wx.heap.size, 0, none⟩) 3 3, .slice ao n c] 22)) ((Bs.lit wx [h, mi, s] hby (by simp)).later (below_alloc _ _)) ((x2.later (below_alloc wx _)).later (below_alloc _ _)) (cell_top (wx.alloc (.cells #[.int .u8 h, .int .u8 mi, .int .u8 s] 5)) _ _ 0 _ (by simp)) (cell_top (wx.alloc (.cells #[.int .u8 h, .int .u8 mi, .int .u8 s] 5)) _ _ 1 _ (by simp)) (by omega) (by have := x2.len; omega))
  clear e1 hk hk2 hby
  go_enter Tryd.func61, Tryd.ntmps61
  go_upto_region 1 with fail
  rw [← unhide HW]
  go_region_held3 (fun w' => w'.cell? ⟨w.heap.size, 0, none⟩ = some (.bool ng) ∧ w'.cell? ⟨w.heap.size, 1, none⟩ = some (.int .i64 y) ∧ w'.cell? ⟨w.heap.size, 2, none⟩ = some (.int .i64 mo) ∧ w'.cell? ⟨w.heap.size, 3, none⟩ = some (.int .i64 d) ∧ w'.cell? ⟨w.heap.size, 4, none⟩ = some (.int .i64 h) ∧ w'.cell? ⟨w.heap.size, 5, none⟩ = some (.int .i64 mi) ∧ w'.cell? ⟨w.heap.size, 6, none⟩ = some (.int .i64 s) ∧ w'.cell? ⟨w.heap.size, 7, none⟩ = some (.int .i64 mc)) (first | exact (unhide PP).cells | exact (unhide PP).drew.cells | go_keep) (first | (go_at_call 35; (with_reducible refine (unhide cF w1.drew).mono ?_); rintro e wq ⟨ao, n, c, rfl, mq, bq⟩; have P2 := (unhide PP).drew.later bq; clear k0 k1 k2 k3 k4 k5 k6 k7; obtain ⟨k0, k1, k2, k3, k4, k5, k6, k7⟩ := P2.cells; have PP := hide P2; clear P2) | (go_at_call 35; (with_reducible refine (unhide cF (w1.alloc (.cells #[.int .u8 h, .int .u8 mi, .int .u8 s] 5)).drew).mono ?_); rintro e wq ⟨ao, n, c, rfl, mq, bq⟩; have bz := (unhide BL).later bq; have P2 := ((unhide PP).later (below_alloc w1 (.cells #[.int .u8 h, .int .u8 mi, .int .u8 s] 5))).drew.later bq; clear k0 k1 k2 k3 k4 k5 k6 k7; obtain ⟨k0, k1, k2, k3, k4, k5, k6, k7⟩ := P2.cells; have PP := hide P2; clear P2) | (go_at_call 18; (with_reducible refine (unhide cA wq ao n c mq.bs bz).mono ?_); rintro e wz ⟨az, nz, cz, rfl, mz, bz'⟩; have MZ := hide (mz.mono (Nat.le_trans (unhide PP).bl.size (Nat.le_of_lt (by simp)))); have P2 := ((unhide PP).later (below_alloc wq _)).later bz'; clear k0 k1 k2 k3 k4 k5 k6 k7; obtain ⟨k0, k1, k2, k3, k4, k5, k6, k7⟩ := P2.cells; have PP := hide P2; clear P2) | (go_at_call 18; (with_reducible refine (unhide cB wq ao n c mq.bs).mono ?_); rintro e wz ⟨az, nz, cz, rfl, mz, bz'⟩; have MZ := hide (mz.mono (Nat.le_trans (unhide PP).bl.size (by simp; omega))); have P2 := (((unhide PP).later (below_alloc wq _)).later (below_alloc _ _)).later bz'; clear k0 k1 k2 k3 k4 k5 k6 k7; obtain ⟨k0, k1, k2, k3, k4, k5, k6, k7⟩ := P2.cells; have PP := hide P2; clear P2))
  all_goals
    clear mz bz' mq bq
    go_wp2_with fail
    go_ret
    exact ⟨_, _, _, rfl, unhide MZ, (unhide PP).bl⟩


end Go.Proofs.YtnodhdggafffaaaDoor
