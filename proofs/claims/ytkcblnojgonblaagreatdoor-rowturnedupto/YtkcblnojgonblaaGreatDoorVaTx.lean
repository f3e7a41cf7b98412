/-
  What padded, minuteText, dateText, timeText of package value return. They write nothing that was there. Conditions: the library's table of powers of ten reads as its initialiser lays it; numbers that are not below 0.
-/
import Derived.Test.YtkcblnojgonblaaGreatDoorVaPv
import Derived.Test.YtkcblnojgonblaaGreatDoorShl
import Derived.Lib.AppendIntMem
import Derived.Lib.ItoaLen
import Derived.Deep.RegionWith
import Derived.Deep.RegionHeld3
namespace Go.Proofs.YtkcblnojgonblaaGreatDoor
open Go.RowKit
set_option linter.unusedVariables false
set_option linter.unusedSimpArgs false

def Vars (w : World) : Prop := Lib.TabIs Tryz.prog w "internal/strconv.uint64pow10" .u64 Lib.pow10Tab
theorem Vars.later {w w' : World} (h : Vars w) (hb : Below w.heap.size w w') : Vars w' := Lib.tabBelow_of_tabIs h w' hb
theorem Vars.drew {w : World} (h : Vars w) : Vars w.drew := h.later ⟨rfl, rfl, rfl, Nat.le_refl _, fun _ _ => rfl⟩
/-- A text of bytes. -/
def tb (l : List UInt8) : ByteArray := ⟨l.toArray⟩
theorem tb_app (a b : List UInt8) : tb a ++ tb b = tb (a ++ b) := by
  apply ByteArray.ext
  rw [ByteArray.data_append]
  apply Array.ext'
  simp [tb]
theorem tb_size (a : List UInt8) : (tb a).size = a.length := by simp [tb, ByteArray.size]
theorem rep_eq : ∀ n : Nat, Lib.repeatL [48] n = List.replicate n 48
  | 0 => rfl
  | n + 1 => by simp [Lib.repeatL, rep_eq n, List.replicate_succ]
theorem pad_eq (x : Int) (n : Nat) : tb (pad x n) = tb (List.replicate (n - (tb (Lib.itoa x)).size) 48) ++ tb (Lib.itoa x) := by
  rw [tb_app, tb_size]
  rfl

theorem itoa_any (x : Int) (w : World) (hv : Vars w) (hx : i64 x) : Calls Tryz.prog 125 #[.int .i64 x] w fun e w' => e = .returned (.string (tb (Lib.itoa x))) ∧ Below w.heap.size w w' := by
  refine (Tryz.strconv_Itoa x hx.1 hx.2 w hv).mono ?_
  rintro e w1 ⟨rfl, kk, os, rfl⟩
  exact ⟨rfl, Lib.below_grow _ _ (Nat.le_refl _) _ _⟩

set_option maxHeartbeats 8000000 in
set_option maxRecDepth 100000 in
theorem padded_any (x : Int) (n : Nat) (w : World) (hv : Vars w) (hx : i64 x) (hn : n ≤ 100) : Calls Tryz.prog 100 #[.int .i64 x, .int .i64 n] w fun e w' => e = .returned (.string (tb (pad x n))) ∧ Below w.heap.size w w' := by
  have cI := hide (itoa_any x w hv hx)
  have hl := Lib.itoa_length_le x hx.1 hx.2
  rw [pad_eq]
  have hsz := tb_size (Lib.itoa x)
  generalize tb (Lib.itoa x) = S at *
  have hS : S.size ≤ 21 := by omega
  have cR := hide (fun wx => Tryz.strings_Repeat (tb [48]) (n - S.size) wx (by omega) (by rw [tb_size]; simp; omega))
  rw [show (tb [48]).data.toList = [48] from rfl, rep_eq, show (⟨(List.replicate (n - S.size) (48 : UInt8)).toArray⟩ : ByteArray) = tb (List.replicate (n - S.size) 48) from rfl] at cR
  have hR : (tb (List.replicate (n - S.size) (48 : UInt8))).size ≤ 100 := by rw [tb_size]; simp; omega
  generalize tb (List.replicate (n - S.size) (48 : UInt8)) = R at *
  have hcat : ¬ 9223372036854775807 < R.size + S.size := by omega
  have hmx := hide (show max (0 : Int) ((n : Int) - (S.size : Int)) = ((n - S.size : Nat) : Int) by omega)
  clear hl hsz hv hx
  go_enter Tryz.func100, Tryz.ntmps100
  go_wp2_with fail
  refine (unhide cI).mono ?_
  rintro e w1 ⟨rfl, b1⟩
  have B1 := hide b1
  clear b1 cI
  go_wp2_with fail
  rw [unhide hmx]
  refine (unhide cR _).mono ?_
  rintro e w2 ⟨rfl, b2⟩
  have B2 := hide (vbup (unhide B1) b2)
  clear b2 cR
  go_wp2_with fail
  go_ret
  exact ⟨rfl, unhide B2⟩
theorem pad_size (x : Int) (n : Nat) (hx : i64 x) : (tb (pad x n)).size ≤ n + 21 := by
  have := Lib.itoa_length_le x hx.1 hx.2
  rw [tb_size]
  unfold pad
  simp
  omega

/-- A moment that a function took; the library's table. -/
structure Tw (w0 : World) (v : Wh) (w : World) : Prop where
  p : Pw w0 v w
  v : Vars w
theorem Tw.later {w0 w w' : World} {v : Wh} (h : Tw w0 v w) (b : Below w.heap.size w w') : Tw w0 v w' := ⟨h.p.later b, h.v.later b⟩
theorem Tw.drew {w0 w : World} {v : Wh} (h : Tw w0 v w) : Tw w0 v w.drew := ⟨h.p.drew, h.v.drew⟩
theorem padded_tw {w0 : World} {v : Wh} (x : Int) (n : Nat) (N : Int) (hN : N = (n : Int)) (hx : i64 x) (hn : n ≤ 100) (w : World) (h : Tw w0 v w) : Calls Tryz.prog 100 #[.int .i64 x, .int .i64 N] w fun e w' => e = .returned (.string (tb (pad x n))) ∧ Tw w0 v w' := by
  subst hN
  exact (padded_any x n w h.v hx hn).mono fun _ _ ⟨e, b⟩ => ⟨e, h.later b⟩
set_option maxHeartbeats 8000000 in
set_option maxRecDepth 100000 in
theorem minuteText_any (v : Wh) (w : World) (hv : Vars w) (hk : WhK v) : Calls Tryz.prog 101 #[.agg (whC v)] w fun e w' => e = .returned (.string (tb (minT v))) ∧ Below w.heap.size w w' := by
  obtain ⟨ng, y, mo, d, h, mi, s, mc⟩ := v
  have e1 : tb (minT ⟨ng, y, mo, d, h, mi, s, mc⟩) = if mc = 0 then tb (pad mi 2) ++ tb [58] ++ tb (pad s 2) else tb (pad mi 2) ++ tb [58] ++ tb (pad s 2) ++ tb [46] ++ tb (pad mc 6) := by
    unfold minT
    simp only
    split <;> simp [tb_app]
  rw [e1]
  have cA := hide (fun wx (hq : Tw w ⟨ng, y, mo, d, h, mi, s, mc⟩ wx) => padded_tw mi 2 2 rfl hk.mi (by omega) wx hq)
  have cB := hide (fun wx (hq : Tw w ⟨ng, y, mo, d, h, mi, s, mc⟩ wx) => padded_tw s 2 2 rfl hk.s (by omega) wx hq)
  have cC := hide (fun wx (hq : Tw w ⟨ng, y, mo, d, h, mi, s, mc⟩ wx) => padded_tw mc 6 6 rfl hk.mc (by omega) wx hq)
  have zA := pad_size mi 2 hk.mi
  have zB := pad_size s 2 hk.s
  have zC := pad_size mc 6 hk.mc
  try simp only at cA cB cC zA zB zC
  generalize tb (pad mi 2) = SA at *
  generalize tb (pad s 2) = SB at *
  generalize tb (pad mc 6) = SC at *
  rw [show tb [58] = ⟨#[58]⟩ from rfl, show tb [46] = ⟨#[46]⟩ from rfl]
  unfold whC
  try simp only
  obtain ⟨w1, hw1⟩ : ∃ z, z = w.alloc (.cells #[.bool ng, .int .i64 y, .int .i64 mo, .int .i64 d, .int .i64 h, .int .i64 mi, .int .i64 s, .int .i64 mc] 36) := ⟨_, rfl⟩
  have P0 : Tw w ⟨ng, y, mo, d, h, mi, s, mc⟩ w1 := by rw [hw1]; exact ⟨Pw.box w _, hv.later (below_alloc w _)⟩
  have HW := hide hw1
  have PP := hide P0
  obtain ⟨k0, k1, k2, k3, k4, k5, k6, k7⟩ := P0.p.cells
  clear hw1 P0 hv hk
  clear e1
  have u1 : ¬ 9223372036854775807 < SA.size + 1 := by omega
  have u2 : ¬ 9223372036854775807 < SA.size + 1 + SB.size := by omega
  by_cases hm : mc = 0
  · rw [if_pos hm]
    have hm2 : (mc == 0) = true := by simpa using hm
    clear hm
    go_enter Tryz.func101, Tryz.ntmps101
    go_upto_region 1 with fail
    rw [← unhide HW]
    go_region_held3 (fun w' => w'.cell? ⟨w.heap.size, 0, none⟩ = some (.bool ng) ∧ w'.cell? ⟨w.heap.size, 1, none⟩ = some (.int .i64 y) ∧ w'.cell? ⟨w.heap.size, 2, none⟩ = some (.int .i64 mo) ∧ w'.cell? ⟨w.heap.size, 3, none⟩ = some (.int .i64 d) ∧ w'.cell? ⟨w.heap.size, 4, none⟩ = some (.int .i64 h) ∧ w'.cell? ⟨w.heap.size, 5, none⟩ = some (.int .i64 mi) ∧ w'.cell? ⟨w.heap.size, 6, none⟩ = some (.int .i64 s) ∧ w'.cell? ⟨w.heap.size, 7, none⟩ = some (.int .i64 mc)) (first | exact (unhide PP).p.cells | exact (unhide PP).drew.p.cells | go_keep) (first | (go_at_call 100; (with_reducible show Calls _ _ #[.int .i64 mi, .int .i64 2] _ _); (with_reducible refine (unhide cA _ (unhide PP)).mono ?_); rintro e wq ⟨rfl, P2⟩; clear k0 k1 k2 k3 k4 k5 k6 k7; obtain ⟨k0, k1, k2, k3, k4, k5, k6, k7⟩ := P2.p.cells; have PP := hide P2; clear P2) | (go_at_call 100; (with_reducible show Calls _ _ #[.int .i64 mi, .int .i64 2] _ _); (with_reducible refine (unhide cA _ (unhide PP).drew).mono ?_); rintro e wq ⟨rfl, P2⟩; clear k0 k1 k2 k3 k4 k5 k6 k7; obtain ⟨k0, k1, k2, k3, k4, k5, k6, k7⟩ := P2.p.cells; have PP := hide P2; clear P2) | (go_at_call 100; (with_reducible show Calls _ _ #[.int .i64 s, .int .i64 2] _ _); (with_reducible refine (unhide cB _ (unhide PP)).mono ?_); rintro e wq ⟨rfl, P2⟩; clear k0 k1 k2 k3 k4 k5 k6 k7; obtain ⟨k0, k1, k2, k3, k4, k5, k6, k7⟩ := P2.p.cells; have PP := hide P2; clear P2) | (go_at_call 100; (with_reducible show Calls _ _ #[.int .i64 s, .int .i64 2] _ _); (with_reducible refine (unhide cB _ (unhide PP).drew).mono ?_); rintro e wq ⟨rfl, P2⟩; clear k0 k1 k2 k3 k4 k5 k6 k7; obtain ⟨k0, k1, k2, k3, k4, k5, k6, k7⟩ := P2.p.cells; have PP := hide P2; clear P2))
    all_goals
      go_wp2_with fail
      go_ret
      exact ⟨rfl, (unhide PP).p.bl⟩
  · rw [if_neg hm]
    have hm2 : (mc == 0) = false := by simpa using hm
    clear hm
    go_enter Tryz.func101, Tryz.ntmps101
    go_upto_region 1 with fail
    rw [← unhide HW]
    go_region_held3 (fun w' => w'.cell? ⟨w.heap.size, 0, none⟩ = some (.bool ng) ∧ w'.cell? ⟨w.heap.size, 1, none⟩ = some (.int .i64 y) ∧ w'.cell? ⟨w.heap.size, 2, none⟩ = some (.int .i64 mo) ∧ w'.cell? ⟨w.heap.size, 3, none⟩ = some (.int .i64 d) ∧ w'.cell? ⟨w.heap.size, 4, none⟩ = some (.int .i64 h) ∧ w'.cell? ⟨w.heap.size, 5, none⟩ = some (.int .i64 mi) ∧ w'.cell? ⟨w.heap.size, 6, none⟩ = some (.int .i64 s) ∧ w'.cell? ⟨w.heap.size, 7, none⟩ = some (.int .i64 mc)) (first | exact (unhide PP).p.cells | exact (unhide PP).drew.p.cells | go_keep) (first | (go_at_call 100; (with_reducible show Calls _ _ #[.int .i64 mi, .int .i64 2] _ _); (with_reducible refine (unhide cA _ (unhide PP)).mono ?_); rintro e wq ⟨rfl, P2⟩; clear k0 k1 k2 k3 k4 k5 k6 k7; obtain ⟨k0, k1, k2, k3, k4, k5, k6, k7⟩ := P2.p.cells; have PP := hide P2; clear P2) | (go_at_call 100; (with_reducible show Calls _ _ #[.int .i64 mi, .int .i64 2] _ _); (with_reducible refine (unhide cA _ (unhide PP).drew).mono ?_); rintro e wq ⟨rfl, P2⟩; clear k0 k1 k2 k3 k4 k5 k6 k7; obtain ⟨k0, k1, k2, k3, k4, k5, k6, k7⟩ := P2.p.cells; have PP := hide P2; clear P2) | (go_at_call 100; (with_reducible show Calls _ _ #[.int .i64 s, .int .i64 2] _ _); (with_reducible refine (unhide cB _ (unhide PP)).mono ?_); rintro e wq ⟨rfl, P2⟩; clear k0 k1 k2 k3 k4 k5 k6 k7; obtain ⟨k0, k1, k2, k3, k4, k5, k6, k7⟩ := P2.p.cells; have PP := hide P2; clear P2) | (go_at_call 100; (with_reducible show Calls _ _ #[.int .i64 s, .int .i64 2] _ _); (with_reducible refine (unhide cB _ (unhide PP).drew).mono ?_); rintro e wq ⟨rfl, P2⟩; clear k0 k1 k2 k3 k4 k5 k6 k7; obtain ⟨k0, k1, k2, k3, k4, k5, k6, k7⟩ := P2.p.cells; have PP := hide P2; clear P2))
    all_goals
      go_wp2_with (first | (go_at_call 100; (with_reducible show Calls _ _ #[.int .i64 mc, .int .i64 6] _ _); (with_reducible refine (unhide cC _ (unhide PP)).mono ?_); rintro e wq ⟨rfl, P2⟩; clear k0 k1 k2 k3 k4 k5 k6 k7; obtain ⟨k0, k1, k2, k3, k4, k5, k6, k7⟩ := P2.p.cells; have PP := hide P2; clear P2) | (go_at_call 100; (with_reducible show Calls _ _ #[.int .i64 mc, .int .i64 6] _ _); (with_reducible refine (unhide cC _ (unhide PP).drew).mono ?_); rintro e wq ⟨rfl, P2⟩; clear k0 k1 k2 k3 k4 k5 k6 k7; obtain ⟨k0, k1, k2, k3, k4, k5, k6, k7⟩ := P2.p.cells; have PP := hide P2; clear P2))
      go_ret
      exact ⟨rfl, (unhide PP).p.bl⟩

theorem minT_size (v : Wh) (hk : WhK v) : (tb (minT v)).size ≤ 100 := by
  have h1 := pad_size v.mi 2 hk.mi
  have h2 := pad_size v.s 2 hk.s
  have h3 := pad_size v.mc 6 hk.mc
  rw [tb_size] at *
  unfold minT
  split <;> simp <;> omega
theorem minute_tw {w0 : World} {v : Wh} (hk : WhK v) (w : World) (h : Tw w0 v w) : Calls Tryz.prog 101 #[.agg (whC v)] w fun e w' => e = .returned (.string (tb (minT v))) ∧ Tw w0 v w' :=
  (minuteText_any v w h.v hk).mono fun _ _ ⟨e, b⟩ => ⟨e, h.later b⟩

set_option maxHeartbeats 8000000 in
set_option maxRecDepth 100000 in
theorem dateText_any (v : Wh) (t : Int) (w : World) (hv : Vars w) (hk : WhK v) : Calls Tryz.prog 72 #[.agg (whC v), .int .u8 t] w fun e w' => e = .returned (.string (tb (datT v t))) ∧ Below w.heap.size w w' := by
  obtain ⟨ng, y, mo, d, h, mi, s, mc⟩ := v
  have e1 : tb (datT ⟨ng, y, mo, d, h, mi, s, mc⟩ t) = if t = 10 then tb (pad y 4) ++ tb [45] ++ tb (pad mo 2) ++ tb [45] ++ tb (pad d 2) else tb (pad y 4) ++ tb [45] ++ tb (pad mo 2) ++ tb [45] ++ tb (pad d 2) ++ tb [32] ++ tb (pad h 2) ++ tb [58] ++ tb (minT ⟨ng, y, mo, d, h, mi, s, mc⟩) := by
    unfold datT dayT
    simp only
    split <;> simp [tb_app]
  rw [e1]
  have cA := hide (fun wx (hq : Tw w ⟨ng, y, mo, d, h, mi, s, mc⟩ wx) => padded_tw (y) 4 4 rfl (hk.y) (by omega) wx hq)
  have zA := pad_size (y) 4 (hk.y)
  have cB := hide (fun wx (hq : Tw w ⟨ng, y, mo, d, h, mi, s, mc⟩ wx) => padded_tw (mo) 2 2 rfl (hk.mo) (by omega) wx hq)
  have zB := pad_size (mo) 2 (hk.mo)
  have cC := hide (fun wx (hq : Tw w ⟨ng, y, mo, d, h, mi, s, mc⟩ wx) => padded_tw (d) 2 2 rfl (hk.d) (by omega) wx hq)
  have zC := pad_size (d) 2 (hk.d)
  have cD := hide (fun wx (hq : Tw w ⟨ng, y, mo, d, h, mi, s, mc⟩ wx) => padded_tw (h) 2 2 rfl (hk.h) (by omega) wx hq)
  have zD := pad_size (h) 2 (hk.h)
  have cM := hide (fun wx (hq : Tw w ⟨ng, y, mo, d, h, mi, s, mc⟩ wx) => minute_tw hk wx hq)
  have zM := minT_size _ hk
  unfold whC at cM ⊢
  try simp only at cM
  generalize tb (pad y 4) = SA at *
  generalize tb (pad mo 2) = SB at *
  generalize tb (pad d 2) = SC at *
  generalize tb (pad h 2) = SD at *
  generalize tb (minT ⟨ng, y, mo, d, h, mi, s, mc⟩) = SM at *
  rw [show tb [58] = ⟨#[58]⟩ from rfl, show tb [45] = ⟨#[45]⟩ from rfl, show tb [32] = ⟨#[32]⟩ from rfl]
  try simp only
  obtain ⟨w1, hw1⟩ : ∃ z, z = w.alloc (.cells #[.bool ng, .int .i64 y, .int .i64 mo, .int .i64 d, .int .i64 h, .int .i64 mi, .int .i64 s, .int .i64 mc] 36) := ⟨_, rfl⟩
  have P0 : Tw w ⟨ng, y, mo, d, h, mi, s, mc⟩ w1 := by rw [hw1]; exact ⟨Pw.box w _, hv.later (below_alloc w _)⟩
  have HW := hide hw1
  have PP := hide P0
  obtain ⟨k0, k1, k2, k3, k4, k5, k6, k7⟩ := P0.p.cells
  clear hw1 P0 hv hk
  clear e1
  have u1 : ¬ 9223372036854775807 < SA.size + 1 := by omega
  have u2 : ¬ 9223372036854775807 < SA.size + 1 + SB.size := by omega
  have u3 : ¬ 9223372036854775807 < SA.size + 1 + SB.size + 1 := by omega
  have u4 : ¬ 9223372036854775807 < SA.size + 1 + SB.size + 1 + SC.size := by omega
  have u5 : ¬ 9223372036854775807 < SA.size + 1 + SB.size + 1 + SC.size + 1 := by omega
  have u6 : ¬ 9223372036854775807 < SA.size + 1 + SB.size + 1 + SC.size + 1 + SD.size := by omega
  have u7 : ¬ 9223372036854775807 < SA.size + 1 + SB.size + 1 + SC.size + 1 + SD.size + 1 := by omega
  have u8 : ¬ 9223372036854775807 < SA.size + 1 + SB.size + 1 + SC.size + 1 + SD.size + 1 + SM.size := by omega
  by_cases hm : t = 10
  · subst hm
    rw [if_pos rfl]
    go_enter Tryz.func72, Tryz.ntmps72
    go_upto_region 1 with fail
    rw [← unhide HW]
    go_region_held3 (fun w' => w'.cell? ⟨w.heap.size, 0, none⟩ = some (.bool ng) ∧ w'.cell? ⟨w.heap.size, 1, none⟩ = some (.int .i64 y) ∧ w'.cell? ⟨w.heap.size, 2, none⟩ = some (.int .i64 mo) ∧ w'.cell? ⟨w.heap.size, 3, none⟩ = some (.int .i64 d) ∧ w'.cell? ⟨w.heap.size, 4, none⟩ = some (.int .i64 h) ∧ w'.cell? ⟨w.heap.size, 5, none⟩ = some (.int .i64 mi) ∧ w'.cell? ⟨w.heap.size, 6, none⟩ = some (.int .i64 s) ∧ w'.cell? ⟨w.heap.size, 7, none⟩ = some (.int .i64 mc)) (first | exact (unhide PP).p.cells | exact (unhide PP).drew.p.cells | go_keep) (first | (go_at_call 100; (with_reducible show Calls _ _ #[.int .i64 y, .int .i64 4] _ _); (with_reducible refine (unhide cA _ (unhide PP)).mono ?_); rintro e wq ⟨rfl, P2⟩; clear k0 k1 k2 k3 k4 k5 k6 k7; obtain ⟨k0, k1, k2, k3, k4, k5, k6, k7⟩ := P2.p.cells; have PP := hide P2; clear P2) | (go_at_call 100; (with_reducible show Calls _ _ #[.int .i64 y, .int .i64 4] _ _); (with_reducible refine (unhide cA _ (unhide PP).drew).mono ?_); rintro e wq ⟨rfl, P2⟩; clear k0 k1 k2 k3 k4 k5 k6 k7; obtain ⟨k0, k1, k2, k3, k4, k5, k6, k7⟩ := P2.p.cells; have PP := hide P2; clear P2) | (go_at_call 100; (with_reducible show Calls _ _ #[.int .i64 mo, .int .i64 2] _ _); (with_reducible refine (unhide cB _ (unhide PP)).mono ?_); rintro e wq ⟨rfl, P2⟩; clear k0 k1 k2 k3 k4 k5 k6 k7; obtain ⟨k0, k1, k2, k3, k4, k5, k6, k7⟩ := P2.p.cells; have PP := hide P2; clear P2) | (go_at_call 100; (with_reducible show Calls _ _ #[.int .i64 mo, .int .i64 2] _ _); (with_reducible refine (unhide cB _ (unhide PP).drew).mono ?_); rintro e wq ⟨rfl, P2⟩; clear k0 k1 k2 k3 k4 k5 k6 k7; obtain ⟨k0, k1, k2, k3, k4, k5, k6, k7⟩ := P2.p.cells; have PP := hide P2; clear P2) | (go_at_call 100; (with_reducible show Calls _ _ #[.int .i64 d, .int .i64 2] _ _); (with_reducible refine (unhide cC _ (unhide PP)).mono ?_); rintro e wq ⟨rfl, P2⟩; clear k0 k1 k2 k3 k4 k5 k6 k7; obtain ⟨k0, k1, k2, k3, k4, k5, k6, k7⟩ := P2.p.cells; have PP := hide P2; clear P2) | (go_at_call 100; (with_reducible show Calls _ _ #[.int .i64 d, .int .i64 2] _ _); (with_reducible refine (unhide cC _ (unhide PP).drew).mono ?_); rintro e wq ⟨rfl, P2⟩; clear k0 k1 k2 k3 k4 k5 k6 k7; obtain ⟨k0, k1, k2, k3, k4, k5, k6, k7⟩ := P2.p.cells; have PP := hide P2; clear P2))
    all_goals
      go_wp2_with fail
      go_ret
      exact ⟨rfl, (unhide PP).p.bl⟩
  · rw [if_neg hm]
    have hm2 : (t == 10) = false := by simpa using hm
    clear hm
    go_enter Tryz.func72, Tryz.ntmps72
    go_upto_region 1 with fail
    rw [← unhide HW]
    go_cut [5] (fun z wx => z = .string (SA ++ ⟨#[45]⟩ ++ SB ++ ⟨#[45]⟩ ++ SC) ∧ Tw w ⟨ng, y, mo, d, h, mi, s, mc⟩ wx)
    case first =>
      go_region_held3 (fun w' => w'.cell? ⟨w.heap.size, 0, none⟩ = some (.bool ng) ∧ w'.cell? ⟨w.heap.size, 1, none⟩ = some (.int .i64 y) ∧ w'.cell? ⟨w.heap.size, 2, none⟩ = some (.int .i64 mo) ∧ w'.cell? ⟨w.heap.size, 3, none⟩ = some (.int .i64 d) ∧ w'.cell? ⟨w.heap.size, 4, none⟩ = some (.int .i64 h) ∧ w'.cell? ⟨w.heap.size, 5, none⟩ = some (.int .i64 mi) ∧ w'.cell? ⟨w.heap.size, 6, none⟩ = some (.int .i64 s) ∧ w'.cell? ⟨w.heap.size, 7, none⟩ = some (.int .i64 mc)) (first | exact (unhide PP).p.cells | exact (unhide PP).drew.p.cells | go_keep) (first | (go_at_call 100; (with_reducible show Calls _ _ #[.int .i64 y, .int .i64 4] _ _); (with_reducible refine (unhide cA _ (unhide PP)).mono ?_); rintro e wq ⟨rfl, P2⟩; clear k0 k1 k2 k3 k4 k5 k6 k7; obtain ⟨k0, k1, k2, k3, k4, k5, k6, k7⟩ := P2.p.cells; have PP := hide P2; clear P2) | (go_at_call 100; (with_reducible show Calls _ _ #[.int .i64 y, .int .i64 4] _ _); (with_reducible refine (unhide cA _ (unhide PP).drew).mono ?_); rintro e wq ⟨rfl, P2⟩; clear k0 k1 k2 k3 k4 k5 k6 k7; obtain ⟨k0, k1, k2, k3, k4, k5, k6, k7⟩ := P2.p.cells; have PP := hide P2; clear P2) | (go_at_call 100; (with_reducible show Calls _ _ #[.int .i64 mo, .int .i64 2] _ _); (with_reducible refine (unhide cB _ (unhide PP)).mono ?_); rintro e wq ⟨rfl, P2⟩; clear k0 k1 k2 k3 k4 k5 k6 k7; obtain ⟨k0, k1, k2, k3, k4, k5, k6, k7⟩ := P2.p.cells; have PP := hide P2; clear P2) | (go_at_call 100; (with_reducible show Calls _ _ #[.int .i64 mo, .int .i64 2] _ _); (with_reducible refine (unhide cB _ (unhide PP).drew).mono ?_); rintro e wq ⟨rfl, P2⟩; clear k0 k1 k2 k3 k4 k5 k6 k7; obtain ⟨k0, k1, k2, k3, k4, k5, k6, k7⟩ := P2.p.cells; have PP := hide P2; clear P2) | (go_at_call 100; (with_reducible show Calls _ _ #[.int .i64 d, .int .i64 2] _ _); (with_reducible refine (unhide cC _ (unhide PP)).mono ?_); rintro e wq ⟨rfl, P2⟩; clear k0 k1 k2 k3 k4 k5 k6 k7; obtain ⟨k0, k1, k2, k3, k4, k5, k6, k7⟩ := P2.p.cells; have PP := hide P2; clear P2) | (go_at_call 100; (with_reducible show Calls _ _ #[.int .i64 d, .int .i64 2] _ _); (with_reducible refine (unhide cC _ (unhide PP).drew).mono ?_); rintro e wq ⟨rfl, P2⟩; clear k0 k1 k2 k3 k4 k5 k6 k7; obtain ⟨k0, k1, k2, k3, k4, k5, k6, k7⟩ := P2.p.cells; have PP := hide P2; clear P2))
      all_goals
        go_wp2_with fail
        go_meet
        exact ⟨rfl, unhide PP⟩
    case rest =>
      obtain ⟨rfl, P1⟩ := hcut
      clear PP k0 k1 k2 k3 k4 k5 k6 k7
      obtain ⟨k0, k1, k2, k3, k4, k5, k6, k7⟩ := P1.p.cells
      have PP := hide P1
      clear P1
      go_wp2_with fail
      go_region_held3 (fun w' => w'.cell? ⟨w.heap.size, 0, none⟩ = some (.bool ng) ∧ w'.cell? ⟨w.heap.size, 1, none⟩ = some (.int .i64 y) ∧ w'.cell? ⟨w.heap.size, 2, none⟩ = some (.int .i64 mo) ∧ w'.cell? ⟨w.heap.size, 3, none⟩ = some (.int .i64 d) ∧ w'.cell? ⟨w.heap.size, 4, none⟩ = some (.int .i64 h) ∧ w'.cell? ⟨w.heap.size, 5, none⟩ = some (.int .i64 mi) ∧ w'.cell? ⟨w.heap.size, 6, none⟩ = some (.int .i64 s) ∧ w'.cell? ⟨w.heap.size, 7, none⟩ = some (.int .i64 mc)) (first | exact (unhide PP).p.cells | exact (unhide PP).drew.p.cells | go_keep) (first | (go_at_call 100; (with_reducible show Calls _ _ #[.int .i64 h, .int .i64 2] _ _); (with_reducible refine (unhide cD _ (unhide PP)).mono ?_); rintro e wq ⟨rfl, P2⟩; clear k0 k1 k2 k3 k4 k5 k6 k7; obtain ⟨k0, k1, k2, k3, k4, k5, k6, k7⟩ := P2.p.cells; have PP := hide P2; clear P2) | (go_at_call 100; (with_reducible show Calls _ _ #[.int .i64 h, .int .i64 2] _ _); (with_reducible refine (unhide cD _ (unhide PP).drew).mono ?_); rintro e wq ⟨rfl, P2⟩; clear k0 k1 k2 k3 k4 k5 k6 k7; obtain ⟨k0, k1, k2, k3, k4, k5, k6, k7⟩ := P2.p.cells; have PP := hide P2; clear P2) | (go_at_call 101; (with_reducible show Calls _ _ #[_] _ _); (with_reducible refine (unhide cM _ (unhide PP)).mono ?_); rintro e wq ⟨rfl, P2⟩; clear k0 k1 k2 k3 k4 k5 k6 k7; obtain ⟨k0, k1, k2, k3, k4, k5, k6, k7⟩ := P2.p.cells; have PP := hide P2; clear P2) | (go_at_call 101; (with_reducible show Calls _ _ #[_] _ _); (with_reducible refine (unhide cM _ (unhide PP).drew).mono ?_); rintro e wq ⟨rfl, P2⟩; clear k0 k1 k2 k3 k4 k5 k6 k7; obtain ⟨k0, k1, k2, k3, k4, k5, k6, k7⟩ := P2.p.cells; have PP := hide P2; clear P2))
      all_goals
        go_wp2_with fail
        go_ret
        exact ⟨rfl, (unhide PP).p.bl⟩

set_option maxHeartbeats 8000000 in
set_option maxRecDepth 100000 in
theorem timeText_any (v : Wh) (w : World) (hv : Vars w) (hk : WhK v) (hd : inr v.d 34 = true) (hh : inr v.h 23 = true) : Calls Tryz.prog 73 #[.agg (whC v)] w fun e w' => e = .returned (.string (tb (timT v))) ∧ Below w.heap.size w w' := by
  obtain ⟨ng, y, mo, d, h, mi, s, mc⟩ := v
  have hd2 := of_decide_eq_true hd
  have hh2 := of_decide_eq_true hh
  simp only at hd2 hh2
  have hH : i64 (24 * d + h) := ⟨by omega, by omega⟩
  have e1 : tb (timT ⟨ng, y, mo, d, h, mi, s, mc⟩) = if ng = true then tb [45] ++ (tb (pad (24 * d + h) 2) ++ tb [58] ++ tb (minT ⟨ng, y, mo, d, h, mi, s, mc⟩)) else tb (pad (24 * d + h) 2) ++ tb [58] ++ tb (minT ⟨ng, y, mo, d, h, mi, s, mc⟩) := by
    unfold timT
    simp only
    split <;> simp [tb_app]
  rw [e1]
  have hX : IntKind.i64.wrap (IntKind.i64.wrap (24 * d) + h) = 24 * d + h := by rw [IntKind.wrap_i64, IntKind.wrap_i64]; omega
  have cA := hide (fun wx (hq : Tw w ⟨ng, y, mo, d, h, mi, s, mc⟩ wx) => padded_tw (24 * d + h) 2 2 rfl hH (by omega) wx hq)
  rw [← hX] at cA
  have zA := pad_size (24 * d + h) 2 hH
  rw [← hX] at zA ⊢
  generalize tb (pad (IntKind.i64.wrap (IntKind.i64.wrap (24 * d) + h)) 2) = SA at *
  have cM := hide (fun wx (hq : Tw w ⟨ng, y, mo, d, h, mi, s, mc⟩ wx) => minute_tw hk wx hq)
  have zM := minT_size _ hk
  unfold whC at cM ⊢
  try simp only at cM
  generalize tb (minT ⟨ng, y, mo, d, h, mi, s, mc⟩) = SM at *
  rw [show tb [58] = ⟨#[58]⟩ from rfl, show tb [45] = ⟨#[45]⟩ from rfl]
  clear hX
  try simp only
  obtain ⟨w1, hw1⟩ : ∃ z, z = w.alloc (.cells #[.bool ng, .int .i64 y, .int .i64 mo, .int .i64 d, .int .i64 h, .int .i64 mi, .int .i64 s, .int .i64 mc] 36) := ⟨_, rfl⟩
  have P0 : Tw w ⟨ng, y, mo, d, h, mi, s, mc⟩ w1 := by rw [hw1]; exact ⟨Pw.box w _, hv.later (below_alloc w _)⟩
  have HW := hide hw1
  have PP := hide P0
  obtain ⟨k0, k1, k2, k3, k4, k5, k6, k7⟩ := P0.p.cells
  clear hw1 P0 hv hk
  clear e1 hd hh hH
  have u1 : ¬ 9223372036854775807 < SA.size + 1 := by omega
  have u2 : ¬ 9223372036854775807 < SA.size + 1 + SM.size := by omega
  cases ng
  · rw [if_neg (by decide)]
    go_enter Tryz.func73, Tryz.ntmps73
    go_upto_region 1 with fail
    rw [← unhide HW]
    go_region_held3 (fun w' => w'.cell? ⟨w.heap.size, 0, none⟩ = some (.bool false) ∧ w'.cell? ⟨w.heap.size, 1, none⟩ = some (.int .i64 y) ∧ w'.cell? ⟨w.heap.size, 2, none⟩ = some (.int .i64 mo) ∧ w'.cell? ⟨w.heap.size, 3, none⟩ = some (.int .i64 d) ∧ w'.cell? ⟨w.heap.size, 4, none⟩ = some (.int .i64 h) ∧ w'.cell? ⟨w.heap.size, 5, none⟩ = some (.int .i64 mi) ∧ w'.cell? ⟨w.heap.size, 6, none⟩ = some (.int .i64 s) ∧ w'.cell? ⟨w.heap.size, 7, none⟩ = some (.int .i64 mc)) (first | exact (unhide PP).p.cells | exact (unhide PP).drew.p.cells | go_keep) (first | (go_at_call 100; (with_reducible show Calls _ _ #[.int .i64 (IntKind.i64.wrap (IntKind.i64.wrap (24 * d) + h)), .int .i64 2] _ _); (with_reducible refine (unhide cA _ (unhide PP)).mono ?_); rintro e wq ⟨rfl, P2⟩; clear k0 k1 k2 k3 k4 k5 k6 k7; obtain ⟨k0, k1, k2, k3, k4, k5, k6, k7⟩ := P2.p.cells; have PP := hide P2; clear P2) | (go_at_call 100; (with_reducible show Calls _ _ #[.int .i64 (IntKind.i64.wrap (IntKind.i64.wrap (24 * d) + h)), .int .i64 2] _ _); (with_reducible refine (unhide cA _ (unhide PP).drew).mono ?_); rintro e wq ⟨rfl, P2⟩; clear k0 k1 k2 k3 k4 k5 k6 k7; obtain ⟨k0, k1, k2, k3, k4, k5, k6, k7⟩ := P2.p.cells; have PP := hide P2; clear P2) | (go_at_call 101; (with_reducible show Calls _ _ #[_] _ _); (with_reducible refine (unhide cM _ (unhide PP)).mono ?_); rintro e wq ⟨rfl, P2⟩; clear k0 k1 k2 k3 k4 k5 k6 k7; obtain ⟨k0, k1, k2, k3, k4, k5, k6, k7⟩ := P2.p.cells; have PP := hide P2; clear P2) | (go_at_call 101; (with_reducible show Calls _ _ #[_] _ _); (with_reducible refine (unhide cM _ (unhide PP).drew).mono ?_); rintro e wq ⟨rfl, P2⟩; clear k0 k1 k2 k3 k4 k5 k6 k7; obtain ⟨k0, k1, k2, k3, k4, k5, k6, k7⟩ := P2.p.cells; have PP := hide P2; clear P2))
    all_goals
      go_wp2_with fail
      go_ret
      exact ⟨rfl, (unhide PP).p.bl⟩
  · rw [if_pos rfl]
    go_enter Tryz.func73, Tryz.ntmps73
    go_upto_region 1 with fail
    rw [← unhide HW]
    go_region_held3 (fun w' => w'.cell? ⟨w.heap.size, 0, none⟩ = some (.bool true) ∧ w'.cell? ⟨w.heap.size, 1, none⟩ = some (.int .i64 y) ∧ w'.cell? ⟨w.heap.size, 2, none⟩ = some (.int .i64 mo) ∧ w'.cell? ⟨w.heap.size, 3, none⟩ = some (.int .i64 d) ∧ w'.cell? ⟨w.heap.size, 4, none⟩ = some (.int .i64 h) ∧ w'.cell? ⟨w.heap.size, 5, none⟩ = some (.int .i64 mi) ∧ w'.cell? ⟨w.heap.size, 6, none⟩ = some (.int .i64 s) ∧ w'.cell? ⟨w.heap.size, 7, none⟩ = some (.int .i64 mc)) (first | exact (unhide PP).p.cells | exact (unhide PP).drew.p.cells | go_keep) (first | (go_at_call 100; (with_reducible show Calls _ _ #[.int .i64 (IntKind.i64.wrap (IntKind.i64.wrap (24 * d) + h)), .int .i64 2] _ _); (with_reducible refine (unhide cA _ (unhide PP)).mono ?_); rintro e wq ⟨rfl, P2⟩; clear k0 k1 k2 k3 k4 k5 k6 k7; obtain ⟨k0, k1, k2, k3, k4, k5, k6, k7⟩ := P2.p.cells; have PP := hide P2; clear P2) | (go_at_call 100; (with_reducible show Calls _ _ #[.int .i64 (IntKind.i64.wrap (IntKind.i64.wrap (24 * d) + h)), .int .i64 2] _ _); (with_reducible refine (unhide cA _ (unhide PP).drew).mono ?_); rintro e wq ⟨rfl, P2⟩; clear k0 k1 k2 k3 k4 k5 k6 k7; obtain ⟨k0, k1, k2, k3, k4, k5, k6, k7⟩ := P2.p.cells; have PP := hide P2; clear P2) | (go_at_call 101; (with_reducible show Calls _ _ #[_] _ _); (with_reducible refine (unhide cM _ (unhide PP)).mono ?_); rintro e wq ⟨rfl, P2⟩; clear k0 k1 k2 k3 k4 k5 k6 k7; obtain ⟨k0, k1, k2, k3, k4, k5, k6, k7⟩ := P2.p.cells; have PP := hide P2; clear P2) | (go_at_call 101; (with_reducible show Calls _ _ #[_] _ _); (with_reducible refine (unhide cM _ (unhide PP).drew).mono ?_); rintro e wq ⟨rfl, P2⟩; clear k0 k1 k2 k3 k4 k5 k6 k7; obtain ⟨k0, k1, k2, k3, k4, k5, k6, k7⟩ := P2.p.cells; have PP := hide P2; clear P2))
    all_goals
      go_wp2_with fail
      go_ret
      exact ⟨rfl, (unhide PP).p.bl⟩


end Go.Proofs.YtkcblnojgonblaaGreatDoor
