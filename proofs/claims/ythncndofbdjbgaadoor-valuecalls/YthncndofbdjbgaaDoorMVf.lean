/-
  The document's own answer for values: fixed, and what the bytes of a date and of a time are. It writes nothing that was there. Conditions: numbers that may be; lengths below 2 to the 40.
  The document's own answer for values: the bytes of a time behind others. It writes nothing that was there. Conditions: a time that may be; lengths below 100,000.
  The document's own answer for values: the bytes of a date behind others. It writes nothing that was there. Conditions: a date that may be; lengths below 100,000.
-/
import Derived.Test.YthncndofbdjbgaaDoorVrLeaf
import Derived.Test.YthncndofbdjbgaaDoorVaBy3
import Derived.Test.YthncndofbdjbgaaDoorRyMem
import Derived.Test.YthncndofbdjbgaaDoorMLr
import Derived.Deep.RegionHeld3
import Derived.Deep.CutRange
import Derived.Deep.DeepCutAuto
namespace Go.Proofs.YthncndofbdjbgaaDoor
open Go.RowKit
set_option linter.unusedVariables false
set_option linter.unusedSimpArgs false

set_option maxHeartbeats 400000 in
theorem vfix_ref (ao : Option Addr) (n c : Nat) (bs : List Int) (x X : Int) (k : Nat) (K M : Int) (w : World) (h : Bs w ao n c bs) (hX : X = x) (hK : K = (k : Int)) (hx0 : 0 ≤ x) (hM : (2 : Int) ^ (8 * k) = M) (hx : x < M) (hM2 : M ≤ 18446744073709551616) (hk1 : 1 ≤ k) (hk8 : k ≤ 8) (hn : n ≤ 1099511627776) :
    Calls Tryd.prog 21 #[.slice ao n c, .int .u64 X, .int .i64 K] w fun e w' => ∃ ao' c', e = .returned (.slice ao' (n + k) c') ∧ Mine w.heap.size w' ao' (n + k) c' (bs ++ le x k) ∧ Below w.heap.size w w' := by
  subst hK
  rw [hX]
  have cA := hide (appendFixed_ref ao n c bs x (k : Int) w h hx0 (by omega) (by omega) (by omega) (by omega) (by rw [Int.toNat_natCast, hM]; exact hx))
  rw [Int.toNat_natCast] at cA
  clear h hx hM hM2
  go_enter Tryd.func21, Tryd.ntmps21
  go_wp2_with fail
  refine (unhide cA).mono ?_
  rintro e w1 ⟨ao1, c1, rfl, hm, hb⟩
  have HM := hide hm
  have HB := hide hb
  clear hm hb cA
  go_wp2_with fail
  go_ret
  exact ⟨ao1, c1, rfl, unhide HM, unhide HB⟩
theorem vfix_rx (l : List Int) (x X : Int) (k : Nat) (K M : Int) (hX : X = x) (hK : K = (k : Int)) (hx : 0 ≤ x ∧ x < M) (hM : (2 : Int) ^ (8 * k) = M) (hM2 : M ≤ 18446744073709551616) (hk1 : 1 ≤ k) (hk8 : k ≤ 8) (hn : l.length ≤ 1099511627776) (w : World) (ao : Option Addr) (n c : Nat) (h : Bs w ao n c l) :
    Calls Tryd.prog 21 #[.slice ao n c, .int .u64 X, .int .i64 K] w fun e w' => ∃ ao' n' c', e = .returned (.slice ao' n' c') ∧ Mine w.heap.size w' ao' n' c' (l ++ le x k) ∧ Below w.heap.size w w' :=
  (vfix_ref ao n c l x X k K M w h hX hK hx.1 hM hx.2 hM2 hk1 hk8 (by rw [← h.len]; exact hn)).mono fun _ _ ⟨ao', c', e, hm, hb⟩ => ⟨ao', _, c', e, hm, hb⟩
theorem clk_b {w : Wh} (h : clk w = true) : (0 ≤ w.h ∧ w.h ≤ 23) ∧ (0 ≤ w.mi ∧ w.mi ≤ 59) ∧ (0 ≤ w.s ∧ w.s ≤ 59) ∧ (0 ≤ w.mc ∧ w.mc ≤ 999999) := by
  unfold clk inr at h
  simp only [Bool.and_eq_true, decide_eq_true_eq] at h
  exact h
/-- The bytes behind the first one, of a time. -/
def timL (w : Wh) : List Int := (timA w).take (timN w)
def datL (w : Wh) : List Int := (datA w).take (datN w)
theorem cnt_tim (w : Wh) : cntB (timA w) (timN w) = [((timL w).length : Int)] ++ timL w := by
  have h : timN w ≤ (timA w).length := by rw [timA_len]; exact timN_le w
  unfold cntB timL
  rw [List.length_take, Nat.min_eq_left h]
theorem cnt_dat (w : Wh) : cntB (datA w) (datN w) = [((datL w).length : Int)] ++ datL w := by
  have h : datN w ≤ (datA w).length := by rw [datA_len]; exact datN_le w
  unfold cntB datL
  rw [List.length_take, Nat.min_eq_left h]
theorem tim_all (w : Wh) (h : clk w = true) : timA w = ([if w.ng = true then 1 else 0] ++ le w.d 4) ++ [w.h, w.mi, w.s] ++ le w.mc 4 := by
  obtain ⟨h1, h2, h3, h4⟩ := clk_b h
  unfold timA clkB
  rw [Int.emod_eq_of_lt (by omega) (by omega), Int.emod_eq_of_lt (by omega) (by omega), Int.emod_eq_of_lt (by omega) (by omega)]
  simp [List.append_assoc]
theorem dat_all (w : Wh) (h : clk w = true) (hm : 0 ≤ w.mo ∧ w.mo ≤ 12) (hd : 0 ≤ w.d ∧ w.d ≤ 31) : datA w = (le w.y 2 ++ [w.mo, w.d]) ++ [w.h, w.mi, w.s] ++ le w.mc 4 := by
  obtain ⟨h1, h2, h3, h4⟩ := clk_b h
  unfold datA clkB
  rw [Int.emod_eq_of_lt (by omega) (by omega), Int.emod_eq_of_lt (by omega) (by omega), Int.emod_eq_of_lt (by omega) (by omega), Int.emod_eq_of_lt (by omega) (by omega), Int.emod_eq_of_lt (by omega) (by omega)]
  simp [List.append_assoc]
theorem mid_mc {w : Wh} (h : mid w = true) : w.h = 0 ∧ w.mi = 0 ∧ w.s = 0 ∧ w.mc = 0 := by
  unfold mid at h
  simpa using h
theorem timL_0 {w : Wh} (h : tmOk w = true) (hd : w.d = 0) (hm : mid w = true) : timL w = [] := by
  have : w = wh0 := by
    obtain ⟨ng, y, mo, d, h, mi, s, mc⟩ := w
    have q := mid_mc hm
    simp only at q hd
    obtain ⟨rfl, rfl, rfl, rfl⟩ := q
    subst hd
    unfold tmOk neg0 at h
    simp at h
    obtain ⟨a, b, c, e⟩ := h
    subst b c
    unfold wh0
    simp at a
    rw [a]
  subst this
  rfl
theorem timL_n {w : Wh} (h : tmOk w = true) (hd : ¬ (w.d = 0 ∧ mid w = true)) : timL w = ([if w.ng = true then 1 else 0] ++ le w.d 4) ++ [w.h, w.mi, w.s] ++ (if w.mc = 0 then [] else le w.mc 4) := by
  have hne : w ≠ wh0 := fun e => hd (by rw [e]; exact ⟨rfl, rfl⟩)
  have hA := tim_all w (tm_bd h).1
  unfold timL timN
  rw [if_neg hne, hA]
  have h4 := le_length w.d 4
  have h5 := le_length w.mc 4
  split
  · rw [List.take_append_of_le_length (by simp [h4]), List.take_of_length_le (by simp [h4]), List.append_nil]
  · rw [List.take_of_length_le (by simp [h4, h5])]
theorem datL_0 : datL wh0 = [] := rfl
theorem datL_n {w : Wh} {t : Int} (h : dtOk w t = true) (h0 : w ≠ wh0) : datL w = (le w.y 2 ++ [w.mo, w.d]) ++ (if mid w = true then [] else [w.h, w.mi, w.s] ++ (if w.mc = 0 then [] else le w.mc 4)) := by
  obtain ⟨q1, q2, q3, q4⟩ := dt_bd h
  have hA := dat_all w q1 q3 q4
  unfold datL datN
  rw [if_neg h0, hA]
  have h4 := le_length w.y 2
  have h5 := le_length w.mc 4
  split
  · rw [List.append_assoc, List.take_append_of_le_length (by simp [h4]), List.take_of_length_le (by simp [h4]), List.append_nil]
  split
  · rw [List.take_append_of_le_length (by simp [h4]), List.take_of_length_le (by simp [h4]), List.append_nil]
  · rw [List.take_of_length_le (by simp [h4, h5]), List.append_assoc]
theorem timL_len (w : Wh) : (timL w).length ≤ 12 := by unfold timL; rw [List.length_take]; have := timN_le w; omega
theorem datL_len (w : Wh) : (datL w).length ≤ 11 := by unfold datL; rw [List.length_take]; have := datN_le w; omega


end Go.Proofs.YthncndofbdjbgaaDoor

namespace Go.Proofs.YthncndofbdjbgaaDoor
open Go.RowKit
set_option linter.unusedVariables false
set_option linter.unusedSimpArgs false

set_option maxHeartbeats 4000000 in
set_option maxRecDepth 100000 in
theorem momt_false (bo : Option Addr) (bn bc : Nat) (b : List Int) (v : Wh) (w : World) (hb : Bs w bo bn bc b) (hsz : b.length ≤ 1000000) (hT : tmOk v = true) (hng : v.ng = false) :
    Calls Tryd.prog 22 #[.slice bo bn bc, .agg (whC v), .int .u8 11] w fun e w' => OutB w (b ++ cntB (timA v) (timN v)) e w' := by
  unfold OutB
  have hbl := hb.len
  obtain ⟨hc, hd⟩ := tm_bd hT
  have cM := hide (fun wx => mid_ref v wx hc)
  obtain ⟨hh, hmi, hs, hmc⟩ := clk_b hc
  have hL0 := fun (q1 : v.d = 0) (q2 : mid v = true) => timL_0 hT q1 q2
  have hLn := fun (q : ¬ (v.d = 0 ∧ mid v = true)) => timL_n hT q
  have hmm := fun (q2 : mid v = true) => (mid_mc q2).2.2.2
  have hO := cnt_tim v
  obtain ⟨OUT, hOUT⟩ : ∃ z, z = b ++ cntB (timA v) (timN v) := ⟨_, rfl⟩
  rw [← hOUT]
  obtain ⟨LL, hLL⟩ : ∃ z, z = timL v := ⟨_, rfl⟩
  rw [hO, ← hLL] at hOUT
  rw [← hLL] at hL0 hLn
  have HO := hide hOUT
  clear hO hOUT
  generalize mid v = M at *
  clear hLL hT hc
  obtain ⟨ng, y, mo, d, h, mi, s, mc⟩ := v
  simp only at *
  subst hng
  have w1' : IntKind.u8.wrap h = h := by rw [IntKind.wrap_u8]; omega
  have w2' : IntKind.u8.wrap mi = mi := by rw [IntKind.wrap_u8]; omega
  have w3' : IntKind.u8.wrap s = s := by rw [IntKind.wrap_u8]; omega
  have w4' : IntKind.u64.wrap mc = mc := by rw [IntKind.wrap_u64]; omega
  have w5' : IntKind.u64.wrap d = d := by rw [IntKind.wrap_u64]; omega
  have hby : Byt [h, mi, s] := Byt.cons (by omega) (by omega) (Byt.cons (by omega) (by omega) (Byt.one (by omega) (by omega)))
  unfold whC at cM ⊢
  simp only at cM ⊢
  obtain ⟨w1, hw1⟩ : ∃ z, z = w.alloc (.cells #[.bool false, .int .i64 y, .int .i64 mo, .int .i64 d, .int .i64 h, .int .i64 mi, .int .i64 s, .int .i64 mc] 25) := ⟨_, rfl⟩
  have P0 : Pw w ⟨false, y, mo, d, h, mi, s, mc⟩ w1 := by rw [hw1]; exact Pw.box w _
  have hlt : w.heap.size < w1.heap.size := by rw [hw1]; simp
  have HW := hide hw1
  have PP := hide P0
  have P1 := hide P0
  have HBB := hide (hb.later P0.bl)
  obtain ⟨k0, k1, k2, k3, k4, k5, k6, k7⟩ := P0.cells
  clear hw1 P0 hb
  have cF := hide (fun wx ao n c (hx : Bs wx ao n c [0]) => vfix_rx [0] d d 4 4 4294967296 rfl rfl ⟨by omega, by omega⟩ (by decide) (by decide) (by decide) (by decide) (by simp) wx ao n c hx)
  have c4 := hide (fun (l : List Int) (hl : l.length ≤ 100) wx ao n c (hx : Bs wx ao n c l) => vfix_rx l mc mc 4 4 4294967296 rfl rfl ⟨by omega, by omega⟩ (by decide) (by decide) (by decide) (by decide) (by omega) wx ao n c hx)
  obtain ⟨L1, hL1⟩ : ∃ z, z = [0] ++ le d 4 := ⟨_, rfl⟩
  have n1 : L1.length = 5 := by rw [hL1]; simp [le_length]
  rw [← hL1] at cF
  obtain ⟨L2, hL2⟩ : ∃ z, z = L1 ++ [h, mi, s] := ⟨_, rfl⟩
  have n_L2 : L2.length = 8 := by rw [hL2]; simp [n1]
  obtain ⟨L3, hL3⟩ : ∃ z, z = L2 ++ le mc 4 := ⟨_, rfl⟩
  have n_L3 : L3.length = 12 := by rw [hL3]; simp [n_L2, le_length]
  have c4 := hide (unhide c4 L2 (by omega))
  rw [← hL3] at c4
  have hLm : mc = 0 → ¬ (d = 0 ∧ M = true) → LL = L2 := by
    intro q1 q2
    rw [hLn q2, if_pos q1, hL2, hL1, List.append_nil]
    rfl
  have hLx : ¬ mc = 0 → ¬ (d = 0 ∧ M = true) → LL = L3 := by
    intro q1 q2
    rw [hLn q2, if_neg q1, hL3, hL2, hL1]
    rfl
  have HA2 := hide hL2
  have N1 := hide n1
  have FA := hide ((Bs.one w1 0 (by omega) (by omega)).later (below_drew _))
  have FB := hide (((Bs.one w1 0 (by omega) (by omega)).later (below_alloc _ (.cells #[.int .u8 h, .int .u8 mi, .int .u8 s] 5))).later (below_drew _))
  have FC : Hid (Bs ((w1.alloc (.cells #[.int .u8 h, .int .u8 mi, .int .u8 s] 5)).alloc (.cells #[.int .u8 0] 5)).drew (some ⟨w1.heap.size + 1, 0, none⟩) 1 1 [0]) := hide (by
    have q := (Bs.one (w1.alloc (.cells #[.int .u8 h, .int .u8 mi, .int .u8 s] 5)) 0 (by omega) (by omega)).later (below_drew _)
    rw [show (w1.alloc (.cells #[.int .u8 h, .int .u8 mi, .int .u8 s] 5)).heap.size = w1.heap.size + 1 by simp] at q
    exact q)
  have GB : Hid (Bs ((w1.alloc (.cells #[.int .u8 0] 5)).alloc (.cells #[.int .u8 h, .int .u8 mi, .int .u8 s] 5)).drew (some ⟨w1.heap.size + 1, 0, none⟩) 3 3 [h, mi, s]) := hide (by
    have q := (Bs.lit (w1.alloc (.cells #[.int .u8 0] 5)) [h, mi, s] hby (by simp)).later (below_drew _)
    rw [show (w1.alloc (.cells #[.int .u8 0] 5)).heap.size = w1.heap.size + 1 by simp] at q
    exact q)
  have GC : Hid (Bs ((w1.alloc (.cells #[.int .u8 h, .int .u8 mi, .int .u8 s] 5)).alloc (.cells #[.int .u8 0] 5)).drew (some ⟨w1.heap.size, 0, none⟩) 3 3 [h, mi, s]) := hide (((Bs.lit w1 [h, mi, s] hby (by simp)).later (below_alloc _ (.cells #[.int .u8 0] 5))).later (below_drew _))
  have LI := hide (fun wx => Bs.lit wx [h, mi, s] hby (by simp))
  have zA : Hid (w1.heap.size ≤ (w1.alloc (.cells #[.int .u8 0] 5)).drew.heap.size) := hide (by simp <;> omega)
  have zB : Hid (w1.heap.size ≤ ((w1.alloc (.cells #[.int .u8 0] 5)).alloc (.cells #[.int .u8 h, .int .u8 mi, .int .u8 s] 5)).drew.heap.size) := hide (by simp <;> omega)
  have zC : Hid (w1.heap.size ≤ ((w1.alloc (.cells #[.int .u8 h, .int .u8 mi, .int .u8 s] 5)).alloc (.cells #[.int .u8 0] 5)).drew.heap.size) := hide (by simp <;> omega)
  have yA : Hid (Below w1.heap.size w1 (w1.alloc (.cells #[.int .u8 0] 5)).drew) := hide (Below.drew (below_alloc _ _))
  have yB : Hid (Below w1.heap.size w1 ((w1.alloc (.cells #[.int .u8 0] 5)).alloc (.cells #[.int .u8 h, .int .u8 mi, .int .u8 s] 5)).drew) := hide (Below.drew ((below_alloc w1 _).trans ((below_alloc _ _).mono (by simp))))
  have yC : Hid (Below w1.heap.size w1 ((w1.alloc (.cells #[.int .u8 h, .int .u8 mi, .int .u8 s] 5)).alloc (.cells #[.int .u8 0] 5)).drew) := hide (Below.drew ((below_alloc w1 _).trans ((below_alloc _ _).mono (by simp))))
  clear hby n1
  go_enter Tryd.func22, Tryd.ntmps22
  go_upto_region 6 with fail
  rw [← unhide HW]
  go_cut [7] (fun v wx => ∃ ao n c, v = .slice ao n c ∧ Mine w1.heap.size wx ao n c L2 ∧ Below w1.heap.size w1 wx)
  case first =>
    clear hL0 hLn hLm hLx cM c4
    go_region_held3 (fun w' => w'.cell? ⟨w.heap.size, 0, none⟩ = some (.bool false) ∧ w'.cell? ⟨w.heap.size, 1, none⟩ = some (.int .i64 y) ∧ w'.cell? ⟨w.heap.size, 2, none⟩ = some (.int .i64 mo) ∧ w'.cell? ⟨w.heap.size, 3, none⟩ = some (.int .i64 d) ∧ w'.cell? ⟨w.heap.size, 4, none⟩ = some (.int .i64 h) ∧ w'.cell? ⟨w.heap.size, 5, none⟩ = some (.int .i64 mi) ∧ w'.cell? ⟨w.heap.size, 6, none⟩ = some (.int .i64 s) ∧ w'.cell? ⟨w.heap.size, 7, none⟩ = some (.int .i64 mc)) (first | exact (unhide PP).cells | exact (unhide PP).drew.cells | go_keep) (first | (go_at_call 21; (with_reducible refine (unhide cF (w1.alloc (.cells #[.int .u8 0] 5)).drew (some ⟨w1.heap.size, 0, none⟩) 1 1 (unhide FA)).mono ?_); rintro e wq ⟨ao, n, c, rfl, mq, bq⟩; have P2 := ((unhide PP).later (below_alloc w1 (.cells #[.int .u8 0] 5))).drew.later bq; clear k0 k1 k2 k3 k4 k5 k6 k7; obtain ⟨k0, k1, k2, k3, k4, k5, k6, k7⟩ := P2.cells; have PP := hide P2; clear P2; have ZQ := hide (unhide zA); have YQ := hide ((unhide yA).trans (bq.mono (unhide zA)))) | (go_at_call 21; (with_reducible refine (unhide cF ((w1.alloc (.cells #[.int .u8 0] 5)).alloc (.cells #[.int .u8 h, .int .u8 mi, .int .u8 s] 5)).drew (some ⟨w1.heap.size, 0, none⟩) 1 1 (unhide FB)).mono ?_); rintro e wq ⟨ao, n, c, rfl, mq, bq⟩; have P2 := (((unhide PP).later (below_alloc w1 (.cells #[.int .u8 0] 5))).later (below_alloc _ (.cells #[.int .u8 h, .int .u8 mi, .int .u8 s] 5))).drew.later bq; clear k0 k1 k2 k3 k4 k5 k6 k7; obtain ⟨k0, k1, k2, k3, k4, k5, k6, k7⟩ := P2.cells; have PP := hide P2; clear P2; have GQ := hide ((unhide GB).later bq); have ZQ := hide (unhide zB); have YQ := hide ((unhide yB).trans (bq.mono (unhide zB)))) | (go_at_call 21; (with_reducible refine (unhide cF ((w1.alloc (.cells #[.int .u8 h, .int .u8 mi, .int .u8 s] 5)).alloc (.cells #[.int .u8 0] 5)).drew (some ⟨w1.heap.size + 1, 0, none⟩) 1 1 (unhide FC)).mono ?_); rintro e wq ⟨ao, n, c, rfl, mq, bq⟩; have P2 := (((unhide PP).later (below_alloc w1 (.cells #[.int .u8 h, .int .u8 mi, .int .u8 s] 5))).later (below_alloc _ (.cells #[.int .u8 0] 5))).drew.later bq; clear k0 k1 k2 k3 k4 k5 k6 k7; obtain ⟨k0, k1, k2, k3, k4, k5, k6, k7⟩ := P2.cells; have PP := hide P2; clear P2; have GQ := hide ((unhide GC).later bq); have ZQ := hide (unhide zC); have YQ := hide ((unhide yC).trans (bq.mono (unhide zC)))) | (refine step_appK rfl (.tmp 18) (.tmp 28) rfl w1.heap.size ao n c L1 (by simp [Act.eval, Act.put]) (mq.mono (unhide ZQ)) (some ⟨w1.heap.size, 0, none⟩) 3 3 [h, mi, s] (by simp [Act.eval, Act.put]) (unhide GQ) (by have := mq.len; have := unhide N1; omega) (Nat.le_trans (unhide ZQ) bq.size) ?_; intro aoA cA wA mA gA; rw [← unhide HA2] at mA; have MQ := hide mA; have BQ := hide ((unhide YQ).trans (mine_grown (mq.mono (unhide ZQ)) (Nat.le_trans (unhide ZQ) bq.size) gA)); have P2 := (unhide P1).later (unhide BQ); clear k0 k1 k2 k3 k4 k5 k6 k7; obtain ⟨k0, k1, k2, k3, k4, k5, k6, k7⟩ := P2.cells; have PP := hide P2; clear P2) | (refine step_appK rfl (.tmp 18) (.tmp 28) rfl w1.heap.size ao n c L1 (by simp [Act.eval, Act.put]) (mq.mono (unhide ZQ)) (some ⟨w1.heap.size + 1, 0, none⟩) 3 3 [h, mi, s] (by simp [Act.eval, Act.put]) (unhide GQ) (by have := mq.len; have := unhide N1; omega) (Nat.le_trans (unhide ZQ) bq.size) ?_; intro aoA cA wA mA gA; rw [← unhide HA2] at mA; have MQ := hide mA; have BQ := hide ((unhide YQ).trans (mine_grown (mq.mono (unhide ZQ)) (Nat.le_trans (unhide ZQ) bq.size) gA)); have P2 := (unhide P1).later (unhide BQ); clear k0 k1 k2 k3 k4 k5 k6 k7; obtain ⟨k0, k1, k2, k3, k4, k5, k6, k7⟩ := P2.cells; have PP := hide P2; clear P2) | (refine step_appK rfl (.tmp 18) (.tmp 28) rfl w1.heap.size ao n c L1 (by simp [Act.eval, Act.put]) ((mq.mono (unhide ZQ)).later (below_alloc _ _)) (some ⟨wq.heap.size, 0, none⟩) 3 3 [h, mi, s] (by simp [Act.eval, Act.put]) (unhide LI wq) (by have := mq.len; have := unhide N1; omega) (Nat.le_trans (Nat.le_trans (unhide ZQ) bq.size) (below_alloc wq _).size) ?_; intro aoA cA wA mA gA; rw [← unhide HA2] at mA; have MQ := hide mA; have BQ := hide (((unhide YQ).trans ((below_alloc wq _).mono (Nat.le_trans (unhide ZQ) bq.size))).trans (mine_grown ((mq.mono (unhide ZQ)).later (below_alloc _ _)) (Nat.le_trans (Nat.le_trans (unhide ZQ) bq.size) (below_alloc wq _).size) gA)); have P2 := (unhide P1).later (unhide BQ); clear k0 k1 k2 k3 k4 k5 k6 k7; obtain ⟨k0, k1, k2, k3, k4, k5, k6, k7⟩ := P2.cells; have PP := hide P2; clear P2))
    all_goals go_wp2_with fail
    all_goals go_meet
    all_goals exact ⟨_, _, _, rfl, unhide MQ, unhide BQ⟩
  obtain ⟨oo, on, oc, rfl, hm, hy⟩ := hcut
  have HM := hide hm
  have HY := hide hy
  have P2 := (unhide P1).later hy
  obtain ⟨k0, k1, k2, k3, k4, k5, k6, k7⟩ := P2.cells
  have PQ := hide P2
  clear hm hy P2 cF FA FB FC GB GC LI zA zB zC yA yB yC HA2 N1 PP
  have hon : on = 8 := by rw [← (unhide HM).len]; exact n_L2
  subst hon
  by_cases hDZ : d = 0
  · have gd : (d == 0) = true := by simpa using hDZ
    have HDZ := hide hDZ
    clear hDZ
    cases M
    · go_upto_region 14 with (go_at_call 44; (with_reducible refine (unhide cM _).mono ?_); rintro e w3 ⟨rfl, b3⟩; have HM := hide ((unhide HM).later b3); have HY := hide ((unhide HY).trans (b3.mono (unhide HY).size)); have P2 := (unhide PQ).later b3; clear b3 k0 k1 k2 k3 k4 k5 k6 k7; obtain ⟨k0, k1, k2, k3, k4, k5, k6, k7⟩ := P2.cells; have PQ := hide P2; clear P2)
      clear gd
      by_cases hz : mc = 0
      · have gz : (mc != 0) = false := by simpa using hz
        have hE := hLm hz (fun z => by cases z.2)
        clear hz
        go_upto_region 16 with fail
        have HS := hide (unhide HM).bs
        have HOUT := hide (show OUT = (b ++ [8]) ++ L2 by rw [unhide HO, hE, n_L2, List.append_assoc]; rfl)
        have wl : IntKind.u8.wrap 8 = 8 := by kernel_rfl
        have BBz := hide ((unhide HBB).later (unhide HY))
        have hyz := (unhide HY).size
        try clear hL0 hLn hLm hLx hmm
        go_wp2_with (first | (at_builtin; refine wpList_app rfl (.tmp 75) (.tmp 76) rfl w3.heap.size _ 0 0 [] rfl (Mine.empty w3) bo bn bc b rfl ((unhide BBz).later (below_alloc _ _)) (by omega) (by simp) ?_; intro oa ca wa ma ba; rw [List.nil_append, Nat.zero_add] at ma; have MA := hide ma; have BA := hide ((below_alloc w3 _).trans ba); clear ma ba) | (at_builtin; refine wpList_app rfl (.tmp 77) (.tmp 81) rfl w3.heap.size oa bn ca b rfl ((unhide MA).later (below_alloc _ _)) _ 1 1 [8] rfl (Bs.one wa (8) (by omega) (by omega)) (by omega) (by have := (unhide BA).size; simp; omega) ?_; intro ob2 cb wb mb2 bb; have MB := hide mb2; have BB := hide (((unhide BA).trans ((below_alloc wa _).mono (unhide BA).size)).trans bb); clear mb2 bb) | (at_builtin; refine wpList_app rfl (.tmp 82) (.tmp 83) rfl w3.heap.size ob2 (bn + 1) cb (b ++ [8]) rfl (unhide MB) oo 8 oc L2 rfl ((unhide HS).later (unhide BB)) (by omega) (unhide BB).size ?_; intro oc2 cc wc2 mc2 bc2; have MC := hide mc2; have BC := hide ((unhide BB).trans bc2); clear mc2 bc2))
        go_ret
        rw [unhide HOUT]
        exact ⟨_, _, _, rfl, (unhide MC).mono (Nat.le_trans (Nat.le_of_lt hlt) hyz), (unhide P1).bl.trans (((unhide HY).mono (Nat.le_of_lt hlt)).trans ((unhide BC).mono (Nat.le_trans (Nat.le_of_lt hlt) hyz)))⟩
      · have gz : (mc != 0) = true := by simpa using hz
        have hE := hLx hz (fun z => by cases z.2)
        clear hz
        go_upto_region 16 with (go_at_call 21; (with_reducible refine (unhide c4 w3 oo 8 oc (unhide HM).bs).mono ?_); rintro e w4 ⟨o4, n4, q4, rfl, m4, b4⟩; have h4 : n4 = 12 := m4.len.symm.trans n_L3; subst h4; have HS := hide m4.bs; have HY := hide ((unhide HY).trans (b4.mono (unhide HY).size)); clear m4 b4)
        have HOUT := hide (show OUT = (b ++ [12]) ++ L3 by rw [unhide HO, hE, n_L3, List.append_assoc]; rfl)
        have wl : IntKind.u8.wrap 12 = 12 := by kernel_rfl
        have BBz := hide ((unhide HBB).later (unhide HY))
        have hyz := (unhide HY).size
        try clear hL0 hLn hLm hLx hmm
        go_wp2_with (first | (at_builtin; refine wpList_app rfl (.tmp 75) (.tmp 76) rfl w4.heap.size _ 0 0 [] rfl (Mine.empty w4) bo bn bc b rfl ((unhide BBz).later (below_alloc _ _)) (by omega) (by simp) ?_; intro oa ca wa ma ba; rw [List.nil_append, Nat.zero_add] at ma; have MA := hide ma; have BA := hide ((below_alloc w4 _).trans ba); clear ma ba) | (at_builtin; refine wpList_app rfl (.tmp 77) (.tmp 81) rfl w4.heap.size oa bn ca b rfl ((unhide MA).later (below_alloc _ _)) _ 1 1 [12] rfl (Bs.one wa (12) (by omega) (by omega)) (by omega) (by have := (unhide BA).size; simp; omega) ?_; intro ob2 cb wb mb2 bb; have MB := hide mb2; have BB := hide (((unhide BA).trans ((below_alloc wa _).mono (unhide BA).size)).trans bb); clear mb2 bb) | (at_builtin; refine wpList_app rfl (.tmp 82) (.tmp 83) rfl w4.heap.size ob2 (bn + 1) cb (b ++ [12]) rfl (unhide MB) o4 12 q4 L3 rfl ((unhide HS).later (unhide BB)) (by omega) (unhide BB).size ?_; intro oc2 cc wc2 mc2 bc2; have MC := hide mc2; have BC := hide ((unhide BB).trans bc2); clear mc2 bc2))
        go_ret
        rw [unhide HOUT]
        exact ⟨_, _, _, rfl, (unhide MC).mono (Nat.le_trans (Nat.le_of_lt hlt) hyz), (unhide P1).bl.trans (((unhide HY).mono (Nat.le_of_lt hlt)).trans ((unhide BC).mono (Nat.le_trans (Nat.le_of_lt hlt) hyz)))⟩
    · have hz := hmm rfl
      have gz : (mc != 0) = false := by simpa using hz
      have hE := hL0 (unhide HDZ) rfl
      clear hz hL0 hLn hLm hLx hmm
      go_upto_region 16 with (go_at_call 44; (with_reducible refine (unhide cM _).mono ?_); rintro e w3 ⟨rfl, b3⟩; have HM := hide ((unhide HM).later b3); have HY := hide ((unhide HY).trans (b3.mono (unhide HY).size)); have P2 := (unhide PQ).later b3; clear b3 k0 k1 k2 k3 k4 k5 k6 k7; obtain ⟨k0, k1, k2, k3, k4, k5, k6, k7⟩ := P2.cells; have PQ := hide P2; clear P2)
      have HS := hide (Bs.nought w3)
      have HOUT := hide (show OUT = (b ++ [0]) ++ [] by rw [unhide HO, hE, List.append_assoc]; rfl)
      have wl : IntKind.u8.wrap 0 = 0 := by kernel_rfl
      have BBz := hide ((unhide HBB).later (unhide HY))
      have hyz := (unhide HY).size
      try clear hL0 hLn hLm hLx hmm
      go_wp2_with (first | (at_builtin; refine wpList_app rfl (.tmp 75) (.tmp 76) rfl w3.heap.size _ 0 0 [] rfl (Mine.empty w3) bo bn bc b rfl ((unhide BBz).later (below_alloc _ _)) (by omega) (by simp) ?_; intro oa ca wa ma ba; rw [List.nil_append, Nat.zero_add] at ma; have MA := hide ma; have BA := hide ((below_alloc w3 _).trans ba); clear ma ba) | (at_builtin; refine wpList_app rfl (.tmp 77) (.tmp 81) rfl w3.heap.size oa bn ca b rfl ((unhide MA).later (below_alloc _ _)) _ 1 1 [0] rfl (Bs.one wa (0) (by omega) (by omega)) (by omega) (by have := (unhide BA).size; simp; omega) ?_; intro ob2 cb wb mb2 bb; have MB := hide mb2; have BB := hide (((unhide BA).trans ((below_alloc wa _).mono (unhide BA).size)).trans bb); clear mb2 bb) | (at_builtin; refine wpList_app rfl (.tmp 82) (.tmp 83) rfl w3.heap.size ob2 (bn + 1) cb (b ++ [0]) rfl (unhide MB) none 0 0 [] rfl ((unhide HS).later (unhide BB)) (by omega) (unhide BB).size ?_; intro oc2 cc wc2 mc2 bc2; have MC := hide mc2; have BC := hide ((unhide BB).trans bc2); clear mc2 bc2))
      go_ret
      rw [unhide HOUT]
      exact ⟨_, _, _, rfl, (unhide MC).mono (Nat.le_trans (Nat.le_of_lt hlt) hyz), (unhide P1).bl.trans (((unhide HY).mono (Nat.le_of_lt hlt)).trans ((unhide BC).mono (Nat.le_trans (Nat.le_of_lt hlt) hyz)))⟩
  · have gd : (d == 0) = false := by simpa using hDZ
    have HDZ := hide hDZ
    clear hDZ
    go_upto_region 14 with fail
    clear gd
    by_cases hz : mc = 0
    · have gz : (mc != 0) = false := by simpa using hz
      have hE := hLm hz (fun z => unhide HDZ z.1)
      clear hz
      go_upto_region 16 with fail
      have HS := hide (unhide HM).bs
      have HOUT := hide (show OUT = (b ++ [8]) ++ L2 by rw [unhide HO, hE, n_L2, List.append_assoc]; rfl)
      have wl : IntKind.u8.wrap 8 = 8 := by kernel_rfl
      have BBz := hide ((unhide HBB).later (unhide HY))
      have hyz := (unhide HY).size
      try clear hL0 hLn hLm hLx hmm
      go_wp2_with (first | (at_builtin; refine wpList_app rfl (.tmp 75) (.tmp 76) rfl wc.heap.size _ 0 0 [] rfl (Mine.empty wc) bo bn bc b rfl ((unhide BBz).later (below_alloc _ _)) (by omega) (by simp) ?_; intro oa ca wa ma ba; rw [List.nil_append, Nat.zero_add] at ma; have MA := hide ma; have BA := hide ((below_alloc wc _).trans ba); clear ma ba) | (at_builtin; refine wpList_app rfl (.tmp 77) (.tmp 81) rfl wc.heap.size oa bn ca b rfl ((unhide MA).later (below_alloc _ _)) _ 1 1 [8] rfl (Bs.one wa (8) (by omega) (by omega)) (by omega) (by have := (unhide BA).size; simp; omega) ?_; intro ob2 cb wb mb2 bb; have MB := hide mb2; have BB := hide (((unhide BA).trans ((below_alloc wa _).mono (unhide BA).size)).trans bb); clear mb2 bb) | (at_builtin; refine wpList_app rfl (.tmp 82) (.tmp 83) rfl wc.heap.size ob2 (bn + 1) cb (b ++ [8]) rfl (unhide MB) oo 8 oc L2 rfl ((unhide HS).later (unhide BB)) (by omega) (unhide BB).size ?_; intro oc2 cc wc2 mc2 bc2; have MC := hide mc2; have BC := hide ((unhide BB).trans bc2); clear mc2 bc2))
      go_ret
      rw [unhide HOUT]
      exact ⟨_, _, _, rfl, (unhide MC).mono (Nat.le_trans (Nat.le_of_lt hlt) hyz), (unhide P1).bl.trans (((unhide HY).mono (Nat.le_of_lt hlt)).trans ((unhide BC).mono (Nat.le_trans (Nat.le_of_lt hlt) hyz)))⟩
    · have gz : (mc != 0) = true := by simpa using hz
      have hE := hLx hz (fun z => unhide HDZ z.1)
      clear hz
      go_upto_region 16 with (go_at_call 21; (with_reducible refine (unhide c4 wc oo 8 oc (unhide HM).bs).mono ?_); rintro e w4 ⟨o4, n4, q4, rfl, m4, b4⟩; have h4 : n4 = 12 := m4.len.symm.trans n_L3; subst h4; have HS := hide m4.bs; have HY := hide ((unhide HY).trans (b4.mono (unhide HY).size)); clear m4 b4)
      have HOUT := hide (show OUT = (b ++ [12]) ++ L3 by rw [unhide HO, hE, n_L3, List.append_assoc]; rfl)
      have wl : IntKind.u8.wrap 12 = 12 := by kernel_rfl
      have BBz := hide ((unhide HBB).later (unhide HY))
      have hyz := (unhide HY).size
      try clear hL0 hLn hLm hLx hmm
      go_wp2_with (first | (at_builtin; refine wpList_app rfl (.tmp 75) (.tmp 76) rfl w4.heap.size _ 0 0 [] rfl (Mine.empty w4) bo bn bc b rfl ((unhide BBz).later (below_alloc _ _)) (by omega) (by simp) ?_; intro oa ca wa ma ba; rw [List.nil_append, Nat.zero_add] at ma; have MA := hide ma; have BA := hide ((below_alloc w4 _).trans ba); clear ma ba) | (at_builtin; refine wpList_app rfl (.tmp 77) (.tmp 81) rfl w4.heap.size oa bn ca b rfl ((unhide MA).later (below_alloc _ _)) _ 1 1 [12] rfl (Bs.one wa (12) (by omega) (by omega)) (by omega) (by have := (unhide BA).size; simp; omega) ?_; intro ob2 cb wb mb2 bb; have MB := hide mb2; have BB := hide (((unhide BA).trans ((below_alloc wa _).mono (unhide BA).size)).trans bb); clear mb2 bb) | (at_builtin; refine wpList_app rfl (.tmp 82) (.tmp 83) rfl w4.heap.size ob2 (bn + 1) cb (b ++ [12]) rfl (unhide MB) o4 12 q4 L3 rfl ((unhide HS).later (unhide BB)) (by omega) (unhide BB).size ?_; intro oc2 cc wc2 mc2 bc2; have MC := hide mc2; have BC := hide ((unhide BB).trans bc2); clear mc2 bc2))
      go_ret
      rw [unhide HOUT]
      exact ⟨_, _, _, rfl, (unhide MC).mono (Nat.le_trans (Nat.le_of_lt hlt) hyz), (unhide P1).bl.trans (((unhide HY).mono (Nat.le_of_lt hlt)).trans ((unhide BC).mono (Nat.le_trans (Nat.le_of_lt hlt) hyz)))⟩

set_option maxHeartbeats 4000000 in
set_option maxRecDepth 100000 in
theorem momt_true (bo : Option Addr) (bn bc : Nat) (b : List Int) (v : Wh) (w : World) (hb : Bs w bo bn bc b) (hsz : b.length ≤ 1000000) (hT : tmOk v = true) (hng : v.ng = true) :
    Calls Tryd.prog 22 #[.slice bo bn bc, .agg (whC v), .int .u8 11] w fun e w' => OutB w (b ++ cntB (timA v) (timN v)) e w' := by
  unfold OutB
  have hbl := hb.len
  obtain ⟨hc, hd⟩ := tm_bd hT
  have cM := hide (fun wx => mid_ref v wx hc)
  obtain ⟨hh, hmi, hs, hmc⟩ := clk_b hc
  have hL0 := fun (q1 : v.d = 0) (q2 : mid v = true) => timL_0 hT q1 q2
  have hLn := fun (q : ¬ (v.d = 0 ∧ mid v = true)) => timL_n hT q
  have hmm := fun (q2 : mid v = true) => (mid_mc q2).2.2.2
  have hO := cnt_tim v
  obtain ⟨OUT, hOUT⟩ : ∃ z, z = b ++ cntB (timA v) (timN v) := ⟨_, rfl⟩
  rw [← hOUT]
  obtain ⟨LL, hLL⟩ : ∃ z, z = timL v := ⟨_, rfl⟩
  rw [hO, ← hLL] at hOUT
  rw [← hLL] at hL0 hLn
  have HO := hide hOUT
  clear hO hOUT
  generalize mid v = M at *
  clear hLL hT hc
  obtain ⟨ng, y, mo, d, h, mi, s, mc⟩ := v
  simp only at *
  subst hng
  have w1' : IntKind.u8.wrap h = h := by rw [IntKind.wrap_u8]; omega
  have w2' : IntKind.u8.wrap mi = mi := by rw [IntKind.wrap_u8]; omega
  have w3' : IntKind.u8.wrap s = s := by rw [IntKind.wrap_u8]; omega
  have w4' : IntKind.u64.wrap mc = mc := by rw [IntKind.wrap_u64]; omega
  have w5' : IntKind.u64.wrap d = d := by rw [IntKind.wrap_u64]; omega
  have hby : Byt [h, mi, s] := Byt.cons (by omega) (by omega) (Byt.cons (by omega) (by omega) (Byt.one (by omega) (by omega)))
  unfold whC at cM ⊢
  simp only at cM ⊢
  obtain ⟨w1, hw1⟩ : ∃ z, z = w.alloc (.cells #[.bool true, .int .i64 y, .int .i64 mo, .int .i64 d, .int .i64 h, .int .i64 mi, .int .i64 s, .int .i64 mc] 25) := ⟨_, rfl⟩
  have P0 : Pw w ⟨true, y, mo, d, h, mi, s, mc⟩ w1 := by rw [hw1]; exact Pw.box w _
  have hlt : w.heap.size < w1.heap.size := by rw [hw1]; simp
  have HW := hide hw1
  have PP := hide P0
  have P1 := hide P0
  have HBB := hide (hb.later P0.bl)
  obtain ⟨k0, k1, k2, k3, k4, k5, k6, k7⟩ := P0.cells
  clear hw1 P0 hb
  have cF := hide (fun wx ao n c (hx : Bs wx ao n c [1]) => vfix_rx [1] d d 4 4 4294967296 rfl rfl ⟨by omega, by omega⟩ (by decide) (by decide) (by decide) (by decide) (by simp) wx ao n c hx)
  have c4 := hide (fun (l : List Int) (hl : l.length ≤ 100) wx ao n c (hx : Bs wx ao n c l) => vfix_rx l mc mc 4 4 4294967296 rfl rfl ⟨by omega, by omega⟩ (by decide) (by decide) (by decide) (by decide) (by omega) wx ao n c hx)
  obtain ⟨L1, hL1⟩ : ∃ z, z = [1] ++ le d 4 := ⟨_, rfl⟩
  have n1 : L1.length = 5 := by rw [hL1]; simp [le_length]
  rw [← hL1] at cF
  obtain ⟨L2, hL2⟩ : ∃ z, z = L1 ++ [h, mi, s] := ⟨_, rfl⟩
  have n_L2 : L2.length = 8 := by rw [hL2]; simp [n1]
  obtain ⟨L3, hL3⟩ : ∃ z, z = L2 ++ le mc 4 := ⟨_, rfl⟩
  have n_L3 : L3.length = 12 := by rw [hL3]; simp [n_L2, le_length]
  have c4 := hide (unhide c4 L2 (by omega))
  rw [← hL3] at c4
  have hLm : mc = 0 → ¬ (d = 0 ∧ M = true) → LL = L2 := by
    intro q1 q2
    rw [hLn q2, if_pos q1, hL2, hL1, List.append_nil]
    rfl
  have hLx : ¬ mc = 0 → ¬ (d = 0 ∧ M = true) → LL = L3 := by
    intro q1 q2
    rw [hLn q2, if_neg q1, hL3, hL2, hL1]
    rfl
  have HA2 := hide hL2
  have N1 := hide n1
  have FA := hide ((Bs.one w1 1 (by omega) (by omega)).later (below_drew _))
  have FB := hide (((Bs.one w1 1 (by omega) (by omega)).later (below_alloc _ (.cells #[.int .u8 h, .int .u8 mi, .int .u8 s] 5))).later (below_drew _))
  have FC : Hid (Bs ((w1.alloc (.cells #[.int .u8 h, .int .u8 mi, .int .u8 s] 5)).alloc (.cells #[.int .u8 1] 5)).drew (some ⟨w1.heap.size + 1, 0, none⟩) 1 1 [1]) := hide (by
    have q := (Bs.one (w1.alloc (.cells #[.int .u8 h, .int .u8 mi, .int .u8 s] 5)) 1 (by omega) (by omega)).later (below_drew _)
    rw [show (w1.alloc (.cells #[.int .u8 h, .int .u8 mi, .int .u8 s] 5)).heap.size = w1.heap.size + 1 by simp] at q
    exact q)
  have GB : Hid (Bs ((w1.alloc (.cells #[.int .u8 1] 5)).alloc (.cells #[.int .u8 h, .int .u8 mi, .int .u8 s] 5)).drew (some ⟨w1.heap.size + 1, 0, none⟩) 3 3 [h, mi, s]) := hide (by
    have q := (Bs.lit (w1.alloc (.cells #[.int .u8 1] 5)) [h, mi, s] hby (by simp)).later (below_drew _)
    rw [show (w1.alloc (.cells #[.int .u8 1] 5)).heap.size = w1.heap.size + 1 by simp] at q
    exact q)
  have GC : Hid (Bs ((w1.alloc (.cells #[.int .u8 h, .int .u8 mi, .int .u8 s] 5)).alloc (.cells #[.int .u8 1] 5)).drew (some ⟨w1.heap.size, 0, none⟩) 3 3 [h, mi, s]) := hide (((Bs.lit w1 [h, mi, s] hby (by simp)).later (below_alloc _ (.cells #[.int .u8 1] 5))).later (below_drew _))
  have LI := hide (fun wx => Bs.lit wx [h, mi, s] hby (by simp))
  have zA : Hid (w1.heap.size ≤ (w1.alloc (.cells #[.int .u8 1] 5)).drew.heap.size) := hide (by simp <;> omega)
  have zB : Hid (w1.heap.size ≤ ((w1.alloc (.cells #[.int .u8 1] 5)).alloc (.cells #[.int .u8 h, .int .u8 mi, .int .u8 s] 5)).drew.heap.size) := hide (by simp <;> omega)
  have zC : Hid (w1.heap.size ≤ ((w1.alloc (.cells #[.int .u8 h, .int .u8 mi, .int .u8 s] 5)).alloc (.cells #[.int .u8 1] 5)).drew.heap.size) := hide (by simp <;> omega)
  have yA : Hid (Below w1.heap.size w1 (w1.alloc (.cells #[.int .u8 1] 5)).drew) := hide (Below.drew (below_alloc _ _))
  have yB : Hid (Below w1.heap.size w1 ((w1.alloc (.cells #[.int .u8 1] 5)).alloc (.cells #[.int .u8 h, .int .u8 mi, .int .u8 s] 5)).drew) := hide (Below.drew ((below_alloc w1 _).trans ((below_alloc _ _).mono (by simp))))
  have yC : Hid (Below w1.heap.size w1 ((w1.alloc (.cells #[.int .u8 h, .int .u8 mi, .int .u8 s] 5)).alloc (.cells #[.int .u8 1] 5)).drew) := hide (Below.drew ((below_alloc w1 _).trans ((below_alloc _ _).mono (by simp))))
  clear hby n1
  go_enter Tryd.func22, Tryd.ntmps22
  go_upto_region 6 with fail
  rw [← unhide HW]
  go_cut [7] (fun v wx => ∃ ao n c, v = .slice ao n c ∧ Mine w1.heap.size wx ao n c L2 ∧ Below w1.heap.size w1 wx)
  case first =>
    clear hL0 hLn hLm hLx cM c4
    go_region_held3 (fun w' => w'.cell? ⟨w.heap.size, 0, none⟩ = some (.bool true) ∧ w'.cell? ⟨w.heap.size, 1, none⟩ = some (.int .i64 y) ∧ w'.cell? ⟨w.heap.size, 2, none⟩ = some (.int .i64 mo) ∧ w'.cell? ⟨w.heap.size, 3, none⟩ = some (.int .i64 d) ∧ w'.cell? ⟨w.heap.size, 4, none⟩ = some (.int .i64 h) ∧ w'.cell? ⟨w.heap.size, 5, none⟩ = some (.int .i64 mi) ∧ w'.cell? ⟨w.heap.size, 6, none⟩ = some (.int .i64 s) ∧ w'.cell? ⟨w.heap.size, 7, none⟩ = some (.int .i64 mc)) (first | exact (unhide PP).cells | exact (unhide PP).drew.cells | go_keep) (first | (go_at_call 21; (with_reducible refine (unhide cF (w1.alloc (.cells #[.int .u8 1] 5)).drew (some ⟨w1.heap.size, 0, none⟩) 1 1 (unhide FA)).mono ?_); rintro e wq ⟨ao, n, c, rfl, mq, bq⟩; have P2 := ((unhide PP).later (below_alloc w1 (.cells #[.int .u8 1] 5))).drew.later bq; clear k0 k1 k2 k3 k4 k5 k6 k7; obtain ⟨k0, k1, k2, k3, k4, k5, k6, k7⟩ := P2.cells; have PP := hide P2; clear P2; have ZQ := hide (unhide zA); have YQ := hide ((unhide yA).trans (bq.mono (unhide zA)))) | (go_at_call 21; (with_reducible refine (unhide cF ((w1.alloc (.cells #[.int .u8 1] 5)).alloc (.cells #[.int .u8 h, .int .u8 mi, .int .u8 s] 5)).drew (some ⟨w1.heap.size, 0, none⟩) 1 1 (unhide FB)).mono ?_); rintro e wq ⟨ao, n, c, rfl, mq, bq⟩; have P2 := (((unhide PP).later (below_alloc w1 (.cells #[.int .u8 1] 5))).later (below_alloc _ (.cells #[.int .u8 h, .int .u8 mi, .int .u8 s] 5))).drew.later bq; clear k0 k1 k2 k3 k4 k5 k6 k7; obtain ⟨k0, k1, k2, k3, k4, k5, k6, k7⟩ := P2.cells; have PP := hide P2; clear P2; have GQ := hide ((unhide GB).later bq); have ZQ := hide (unhide zB); have YQ := hide ((unhide yB).trans (bq.mono (unhide zB)))) | (go_at_call 21; (with_reducible refine (unhide cF ((w1.alloc (.cells #[.int .u8 h, .int .u8 mi, .int .u8 s] 5)).alloc (.cells #[.int .u8 1] 5)).drew (some ⟨w1.heap.size + 1, 0, none⟩) 1 1 (unhide FC)).mono ?_); rintro e wq ⟨ao, n, c, rfl, mq, bq⟩; have P2 := (((unhide PP).later (below_alloc w1 (.cells #[.int .u8 h, .int .u8 mi, .int .u8 s] 5))).later (below_alloc _ (.cells #[.int .u8 1] 5))).drew.later bq; clear k0 k1 k2 k3 k4 k5 k6 k7; obtain ⟨k0, k1, k2, k3, k4, k5, k6, k7⟩ := P2.cells; have PP := hide P2; clear P2; have GQ := hide ((unhide GC).later bq); have ZQ := hide (unhide zC); have YQ := hide ((unhide yC).trans (bq.mono (unhide zC)))) | (refine step_appK rfl (.tmp 18) (.tmp 28) rfl w1.heap.size ao n c L1 (by simp [Act.eval, Act.put]) (mq.mono (unhide ZQ)) (some ⟨w1.heap.size, 0, none⟩) 3 3 [h, mi, s] (by simp [Act.eval, Act.put]) (unhide GQ) (by have := mq.len; have := unhide N1; omega) (Nat.le_trans (unhide ZQ) bq.size) ?_; intro aoA cA wA mA gA; rw [← unhide HA2] at mA; have MQ := hide mA; have BQ := hide ((unhide YQ).trans (mine_grown (mq.mono (unhide ZQ)) (Nat.le_trans (unhide ZQ) bq.size) gA)); have P2 := (unhide P1).later (unhide BQ); clear k0 k1 k2 k3 k4 k5 k6 k7; obtain ⟨k0, k1, k2, k3, k4, k5, k6, k7⟩ := P2.cells; have PP := hide P2; clear P2) | (refine step_appK rfl (.tmp 18) (.tmp 28) rfl w1.heap.size ao n c L1 (by simp [Act.eval, Act.put]) (mq.mono (unhide ZQ)) (some ⟨w1.heap.size + 1, 0, none⟩) 3 3 [h, mi, s] (by simp [Act.eval, Act.put]) (unhide GQ) (by have := mq.len; have := unhide N1; omega) (Nat.le_trans (unhide ZQ) bq.size) ?_; intro aoA cA wA mA gA; rw [← unhide HA2] at mA; have MQ := hide mA; have BQ := hide ((unhide YQ).trans (mine_grown (mq.mono (unhide ZQ)) (Nat.le_trans (unhide ZQ) bq.size) gA)); have P2 := (unhide P1).later (unhide BQ); clear k0 k1 k2 k3 k4 k5 k6 k7; obtain ⟨k0, k1, k2, k3, k4, k5, k6, k7⟩ := P2.cells; have PP := hide P2; clear P2) | (refine step_appK rfl (.tmp 18) (.tmp 28) rfl w1.heap.size ao n c L1 (by simp [Act.eval, Act.put]) ((mq.mono (unhide ZQ)).later (below_alloc _ _)) (some ⟨wq.heap.size, 0, none⟩) 3 3 [h, mi, s] (by simp [Act.eval, Act.put]) (unhide LI wq) (by have := mq.len; have := unhide N1; omega) (Nat.le_trans (Nat.le_trans (unhide ZQ) bq.size) (below_alloc wq _).size) ?_; intro aoA cA wA mA gA; rw [← unhide HA2] at mA; have MQ := hide mA; have BQ := hide (((unhide YQ).trans ((below_alloc wq _).mono (Nat.le_trans (unhide ZQ) bq.size))).trans (mine_grown ((mq.mono (unhide ZQ)).later (below_alloc _ _)) (Nat.le_trans (Nat.le_trans (unhide ZQ) bq.size) (below_alloc wq _).size) gA)); have P2 := (unhide P1).later (unhide BQ); clear k0 k1 k2 k3 k4 k5 k6 k7; obtain ⟨k0, k1, k2, k3, k4, k5, k6, k7⟩ := P2.cells; have PP := hide P2; clear P2))
    all_goals go_wp2_with fail
    all_goals go_meet
    all_goals exact ⟨_, _, _, rfl, unhide MQ, unhide BQ⟩
  obtain ⟨oo, on, oc, rfl, hm, hy⟩ := hcut
  have HM := hide hm
  have HY := hide hy
  have P2 := (unhide P1).later hy
  obtain ⟨k0, k1, k2, k3, k4, k5, k6, k7⟩ := P2.cells
  have PQ := hide P2
  clear hm hy P2 cF FA FB FC GB GC LI zA zB zC yA yB yC HA2 N1 PP
  have hon : on = 8 := by rw [← (unhide HM).len]; exact n_L2
  subst hon
  by_cases hDZ : d = 0
  · have gd : (d == 0) = true := by simpa using hDZ
    have HDZ := hide hDZ
    clear hDZ
    cases M
    · go_upto_region 14 with (go_at_call 44; (with_reducible refine (unhide cM _).mono ?_); rintro e w3 ⟨rfl, b3⟩; have HM := hide ((unhide HM).later b3); have HY := hide ((unhide HY).trans (b3.mono (unhide HY).size)); have P2 := (unhide PQ).later b3; clear b3 k0 k1 k2 k3 k4 k5 k6 k7; obtain ⟨k0, k1, k2, k3, k4, k5, k6, k7⟩ := P2.cells; have PQ := hide P2; clear P2)
      clear gd
      by_cases hz : mc = 0
      · have gz : (mc != 0) = false := by simpa using hz
        have hE := hLm hz (fun z => by cases z.2)
        clear hz
        go_upto_region 16 with fail
        have HS := hide (unhide HM).bs
        have HOUT := hide (show OUT = (b ++ [8]) ++ L2 by rw [unhide HO, hE, n_L2, List.append_assoc]; rfl)
        have wl : IntKind.u8.wrap 8 = 8 := by kernel_rfl
        have BBz := hide ((unhide HBB).later (unhide HY))
        have hyz := (unhide HY).size
        try clear hL0 hLn hLm hLx hmm
        go_wp2_with (first | (at_builtin; refine wpList_app rfl (.tmp 75) (.tmp 76) rfl w3.heap.size _ 0 0 [] rfl (Mine.empty w3) bo bn bc b rfl ((unhide BBz).later (below_alloc _ _)) (by omega) (by simp) ?_; intro oa ca wa ma ba; rw [List.nil_append, Nat.zero_add] at ma; have MA := hide ma; have BA := hide ((below_alloc w3 _).trans ba); clear ma ba) | (at_builtin; refine wpList_app rfl (.tmp 77) (.tmp 81) rfl w3.heap.size oa bn ca b rfl ((unhide MA).later (below_alloc _ _)) _ 1 1 [8] rfl (Bs.one wa (8) (by omega) (by omega)) (by omega) (by have := (unhide BA).size; simp; omega) ?_; intro ob2 cb wb mb2 bb; have MB := hide mb2; have BB := hide (((unhide BA).trans ((below_alloc wa _).mono (unhide BA).size)).trans bb); clear mb2 bb) | (at_builtin; refine wpList_app rfl (.tmp 82) (.tmp 83) rfl w3.heap.size ob2 (bn + 1) cb (b ++ [8]) rfl (unhide MB) oo 8 oc L2 rfl ((unhide HS).later (unhide BB)) (by omega) (unhide BB).size ?_; intro oc2 cc wc2 mc2 bc2; have MC := hide mc2; have BC := hide ((unhide BB).trans bc2); clear mc2 bc2))
        go_ret
        rw [unhide HOUT]
        exact ⟨_, _, _, rfl, (unhide MC).mono (Nat.le_trans (Nat.le_of_lt hlt) hyz), (unhide P1).bl.trans (((unhide HY).mono (Nat.le_of_lt hlt)).trans ((unhide BC).mono (Nat.le_trans (Nat.le_of_lt hlt) hyz)))⟩
      · have gz : (mc != 0) = true := by simpa using hz
        have hE := hLx hz (fun z => by cases z.2)
        clear hz
        go_upto_region 16 with (go_at_call 21; (with_reducible refine (unhide c4 w3 oo 8 oc (unhide HM).bs).mono ?_); rintro e w4 ⟨o4, n4, q4, rfl, m4, b4⟩; have h4 : n4 = 12 := m4.len.symm.trans n_L3; subst h4; have HS := hide m4.bs; have HY := hide ((unhide HY).trans (b4.mono (unhide HY).size)); clear m4 b4)
        have HOUT := hide (show OUT = (b ++ [12]) ++ L3 by rw [unhide HO, hE, n_L3, List.append_assoc]; rfl)
        have wl : IntKind.u8.wrap 12 = 12 := by kernel_rfl
        have BBz := hide ((unhide HBB).later (unhide HY))
        have hyz := (unhide HY).size
        try clear hL0 hLn hLm hLx hmm
        go_wp2_with (first | (at_builtin; refine wpList_app rfl (.tmp 75) (.tmp 76) rfl w4.heap.size _ 0 0 [] rfl (Mine.empty w4) bo bn bc b rfl ((unhide BBz).later (below_alloc _ _)) (by omega) (by simp) ?_; intro oa ca wa ma ba; rw [List.nil_append, Nat.zero_add] at ma; have MA := hide ma; have BA := hide ((below_alloc w4 _).trans ba); clear ma ba) | (at_builtin; refine wpList_app rfl (.tmp 77) (.tmp 81) rfl w4.heap.size oa bn ca b rfl ((unhide MA).later (below_alloc _ _)) _ 1 1 [12] rfl (Bs.one wa (12) (by omega) (by omega)) (by omega) (by have := (unhide BA).size; simp; omega) ?_; intro ob2 cb wb mb2 bb; have MB := hide mb2; have BB := hide (((unhide BA).trans ((below_alloc wa _).mono (unhide BA).size)).trans bb); clear mb2 bb) | (at_builtin; refine wpList_app rfl (.tmp 82) (.tmp 83) rfl w4.heap.size ob2 (bn + 1) cb (b ++ [12]) rfl (unhide MB) o4 12 q4 L3 rfl ((unhide HS).later (unhide BB)) (by omega) (unhide BB).size ?_; intro oc2 cc wc2 mc2 bc2; have MC := hide mc2; have BC := hide ((unhide BB).trans bc2); clear mc2 bc2))
        go_ret
        rw [unhide HOUT]
        exact ⟨_, _, _, rfl, (unhide MC).mono (Nat.le_trans (Nat.le_of_lt hlt) hyz), (unhide P1).bl.trans (((unhide HY).mono (Nat.le_of_lt hlt)).trans ((unhide BC).mono (Nat.le_trans (Nat.le_of_lt hlt) hyz)))⟩
    · have hz := hmm rfl
      have gz : (mc != 0) = false := by simpa using hz
      have hE := hL0 (unhide HDZ) rfl
      clear hz hL0 hLn hLm hLx hmm
      go_upto_region 16 with (go_at_call 44; (with_reducible refine (unhide cM _).mono ?_); rintro e w3 ⟨rfl, b3⟩; have HM := hide ((unhide HM).later b3); have HY := hide ((unhide HY).trans (b3.mono (unhide HY).size)); have P2 := (unhide PQ).later b3; clear b3 k0 k1 k2 k3 k4 k5 k6 k7; obtain ⟨k0, k1, k2, k3, k4, k5, k6, k7⟩ := P2.cells; have PQ := hide P2; clear P2)
      have HS := hide (Bs.nought w3)
      have HOUT := hide (show OUT = (b ++ [0]) ++ [] by rw [unhide HO, hE, List.append_assoc]; rfl)
      have wl : IntKind.u8.wrap 0 = 0 := by kernel_rfl
      have BBz := hide ((unhide HBB).later (unhide HY))
      have hyz := (unhide HY).size
      try clear hL0 hLn hLm hLx hmm
      go_wp2_with (first | (at_builtin; refine wpList_app rfl (.tmp 75) (.tmp 76) rfl w3.heap.size _ 0 0 [] rfl (Mine.empty w3) bo bn bc b rfl ((unhide BBz).later (below_alloc _ _)) (by omega) (by simp) ?_; intro oa ca wa ma ba; rw [List.nil_append, Nat.zero_add] at ma; have MA := hide ma; have BA := hide ((below_alloc w3 _).trans ba); clear ma ba) | (at_builtin; refine wpList_app rfl (.tmp 77) (.tmp 81) rfl w3.heap.size oa bn ca b rfl ((unhide MA).later (below_alloc _ _)) _ 1 1 [0] rfl (Bs.one wa (0) (by omega) (by omega)) (by omega) (by have := (unhide BA).size; simp; omega) ?_; intro ob2 cb wb mb2 bb; have MB := hide mb2; have BB := hide (((unhide BA).trans ((below_alloc wa _).mono (unhide BA).size)).trans bb); clear mb2 bb) | (at_builtin; refine wpList_app rfl (.tmp 82) (.tmp 83) rfl w3.heap.size ob2 (bn + 1) cb (b ++ [0]) rfl (unhide MB) none 0 0 [] rfl ((unhide HS).later (unhide BB)) (by omega) (unhide BB).size ?_; intro oc2 cc wc2 mc2 bc2; have MC := hide mc2; have BC := hide ((unhide BB).trans bc2); clear mc2 bc2))
      go_ret
      rw [unhide HOUT]
      exact ⟨_, _, _, rfl, (unhide MC).mono (Nat.le_trans (Nat.le_of_lt hlt) hyz), (unhide P1).bl.trans (((unhide HY).mono (Nat.le_of_lt hlt)).trans ((unhide BC).mono (Nat.le_trans (Nat.le_of_lt hlt) hyz)))⟩
  · have gd : (d == 0) = false := by simpa using hDZ
    have HDZ := hide hDZ
    clear hDZ
    go_upto_region 14 with fail
    clear gd
    by_cases hz : mc = 0
    · have gz : (mc != 0) = false := by simpa using hz
      have hE := hLm hz (fun z => unhide HDZ z.1)
      clear hz
      go_upto_region 16 with fail
      have HS := hide (unhide HM).bs
      have HOUT := hide (show OUT = (b ++ [8]) ++ L2 by rw [unhide HO, hE, n_L2, List.append_assoc]; rfl)
      have wl : IntKind.u8.wrap 8 = 8 := by kernel_rfl
      have BBz := hide ((unhide HBB).later (unhide HY))
      have hyz := (unhide HY).size
      try clear hL0 hLn hLm hLx hmm
      go_wp2_with (first | (at_builtin; refine wpList_app rfl (.tmp 75) (.tmp 76) rfl wc.heap.size _ 0 0 [] rfl (Mine.empty wc) bo bn bc b rfl ((unhide BBz).later (below_alloc _ _)) (by omega) (by simp) ?_; intro oa ca wa ma ba; rw [List.nil_append, Nat.zero_add] at ma; have MA := hide ma; have BA := hide ((below_alloc wc _).trans ba); clear ma ba) | (at_builtin; refine wpList_app rfl (.tmp 77) (.tmp 81) rfl wc.heap.size oa bn ca b rfl ((unhide MA).later (below_alloc _ _)) _ 1 1 [8] rfl (Bs.one wa (8) (by omega) (by omega)) (by omega) (by have := (unhide BA).size; simp; omega) ?_; intro ob2 cb wb mb2 bb; have MB := hide mb2; have BB := hide (((unhide BA).trans ((below_alloc wa _).mono (unhide BA).size)).trans bb); clear mb2 bb) | (at_builtin; refine wpList_app rfl (.tmp 82) (.tmp 83) rfl wc.heap.size ob2 (bn + 1) cb (b ++ [8]) rfl (unhide MB) oo 8 oc L2 rfl ((unhide HS).later (unhide BB)) (by omega) (unhide BB).size ?_; intro oc2 cc wc2 mc2 bc2; have MC := hide mc2; have BC := hide ((unhide BB).trans bc2); clear mc2 bc2))
      go_ret
      rw [unhide HOUT]
      exact ⟨_, _, _, rfl, (unhide MC).mono (Nat.le_trans (Nat.le_of_lt hlt) hyz), (unhide P1).bl.trans (((unhide HY).mono (Nat.le_of_lt hlt)).trans ((unhide BC).mono (Nat.le_trans (Nat.le_of_lt hlt) hyz)))⟩
    · have gz : (mc != 0) = true := by simpa using hz
      have hE := hLx hz (fun z => unhide HDZ z.1)
      clear hz
      go_upto_region 16 with (go_at_call 21; (with_reducible refine (unhide c4 wc oo 8 oc (unhide HM).bs).mono ?_); rintro e w4 ⟨o4, n4, q4, rfl, m4, b4⟩; have h4 : n4 = 12 := m4.len.symm.trans n_L3; subst h4; have HS := hide m4.bs; have HY := hide ((unhide HY).trans (b4.mono (unhide HY).size)); clear m4 b4)
      have HOUT := hide (show OUT = (b ++ [12]) ++ L3 by rw [unhide HO, hE, n_L3, List.append_assoc]; rfl)
      have wl : IntKind.u8.wrap 12 = 12 := by kernel_rfl
      have BBz := hide ((unhide HBB).later (unhide HY))
      have hyz := (unhide HY).size
      try clear hL0 hLn hLm hLx hmm
      go_wp2_with (first | (at_builtin; refine wpList_app rfl (.tmp 75) (.tmp 76) rfl w4.heap.size _ 0 0 [] rfl (Mine.empty w4) bo bn bc b rfl ((unhide BBz).later (below_alloc _ _)) (by omega) (by simp) ?_; intro oa ca wa ma ba; rw [List.nil_append, Nat.zero_add] at ma; have MA := hide ma; have BA := hide ((below_alloc w4 _).trans ba); clear ma ba) | (at_builtin; refine wpList_app rfl (.tmp 77) (.tmp 81) rfl w4.heap.size oa bn ca b rfl ((unhide MA).later (below_alloc _ _)) _ 1 1 [12] rfl (Bs.one wa (12) (by omega) (by omega)) (by omega) (by have := (unhide BA).size; simp; omega) ?_; intro ob2 cb wb mb2 bb; have MB := hide mb2; have BB := hide (((unhide BA).trans ((below_alloc wa _).mono (unhide BA).size)).trans bb); clear mb2 bb) | (at_builtin; refine wpList_app rfl (.tmp 82) (.tmp 83) rfl w4.heap.size ob2 (bn + 1) cb (b ++ [12]) rfl (unhide MB) o4 12 q4 L3 rfl ((unhide HS).later (unhide BB)) (by omega) (unhide BB).size ?_; intro oc2 cc wc2 mc2 bc2; have MC := hide mc2; have BC := hide ((unhide BB).trans bc2); clear mc2 bc2))
      go_ret
      rw [unhide HOUT]
      exact ⟨_, _, _, rfl, (unhide MC).mono (Nat.le_trans (Nat.le_of_lt hlt) hyz), (unhide P1).bl.trans (((unhide HY).mono (Nat.le_of_lt hlt)).trans ((unhide BC).mono (Nat.le_trans (Nat.le_of_lt hlt) hyz)))⟩


end Go.Proofs.YthncndofbdjbgaaDoor

namespace Go.Proofs.YthncndofbdjbgaaDoor
open Go.RowKit
set_option linter.unusedVariables false
set_option linter.unusedSimpArgs false

set_option maxHeartbeats 4000000 in
set_option maxRecDepth 100000 in
theorem momd_ref (bo : Option Addr) (bn bc : Nat) (b : List Int) (v : Wh) (t : Int) (w : World) (hb : Bs w bo bn bc b) (hsz : b.length ≤ 1000000) (hT : dtOk v t = true) (ht : t ≠ 11) :
    Calls Tryd.prog 22 #[.slice bo bn bc, .agg (whC v), .int .u8 t] w fun e w' => OutB w (b ++ cntB (datA v) (datN v)) e w' := by
  unfold OutB
  have hbl := hb.len
  obtain ⟨hc, hy, hmo, hd⟩ := dt_bd hT
  have cM := hide (fun wx => mid_ref v wx hc)
  obtain ⟨hh, hmi, hs, hmc⟩ := clk_b hc
  have gt : (t == 11) = false := by simpa using ht
  have hEW := eqw v wh0
  have hL0 := fun (q1 : v = wh0) => show datL v = [] by rw [q1]; rfl
  have hLn := fun (q : v ≠ wh0) => datL_n hT q
  have hmm := fun (q2 : mid v = true) => (mid_mc q2).2.2.2
  have hmz := fun (q2 : mid v = false) => (show v ≠ wh0 from fun e => by rw [e] at q2; cases q2)
  have hO := cnt_dat v
  obtain ⟨OUT, hOUT⟩ : ∃ z, z = b ++ cntB (datA v) (datN v) := ⟨_, rfl⟩
  rw [← hOUT]
  obtain ⟨LL, hLL⟩ : ∃ z, z = datL v := ⟨_, rfl⟩
  rw [hO, ← hLL] at hOUT
  rw [← hLL] at hL0 hLn
  have HO := hide hOUT
  generalize mid v = M at *
  obtain ⟨DW, hDW⟩ : ∃ z, z = decide (v = wh0) := ⟨_, rfl⟩
  rw [← hDW] at hEW
  have hD1 := fun (q : DW = true) => hL0 (of_decide_eq_true (hDW.symm.trans q))
  have hD2 := fun (q : DW = false) => hLn (of_decide_eq_false (hDW.symm.trans q))
  have hD3 := fun (q : M = false) => hLn (hmz q)
  clear hLL hT hc hO hOUT ht hL0 hLn hmz hDW
  obtain ⟨ng, y, mo, d, h, mi, s, mc⟩ := v
  simp only at *
  have w1' : IntKind.u8.wrap h = h := by rw [IntKind.wrap_u8]; omega
  have w2' : IntKind.u8.wrap mi = mi := by rw [IntKind.wrap_u8]; omega
  have w3' : IntKind.u8.wrap s = s := by rw [IntKind.wrap_u8]; omega
  have w4' : IntKind.u64.wrap mc = mc := by rw [IntKind.wrap_u64]; omega
  have w5' : IntKind.u64.wrap y = y := by rw [IntKind.wrap_u64]; omega
  have w6' : IntKind.u8.wrap mo = mo := by rw [IntKind.wrap_u8]; omega
  have w7' : IntKind.u8.wrap d = d := by rw [IntKind.wrap_u8]; omega
  have hby2 : Byt [mo, d] := Byt.cons (by omega) (by omega) (Byt.one (by omega) (by omega))
  have hby : Byt [h, mi, s] := Byt.cons (by omega) (by omega) (Byt.cons (by omega) (by omega) (Byt.one (by omega) (by omega)))
  unfold whC wh0 at hEW
  unfold whC at cM ⊢
  simp only at cM hEW ⊢
  obtain ⟨w1, hw1⟩ : ∃ z, z = w.alloc (.cells #[.bool ng, .int .i64 y, .int .i64 mo, .int .i64 d, .int .i64 h, .int .i64 mi, .int .i64 s, .int .i64 mc] 25) := ⟨_, rfl⟩
  have P0 : Pw w ⟨ng, y, mo, d, h, mi, s, mc⟩ w1 := by rw [hw1]; exact Pw.box w _
  have hlt : w.heap.size < w1.heap.size := by rw [hw1]; simp
  have HW := hide hw1
  have PP := hide P0
  have P1 := hide P0
  have HBB := hide (hb.later P0.bl)
  obtain ⟨k0, k1, k2, k3, k4, k5, k6, k7⟩ := P0.cells
  clear hw1 P0 hb
  have cF := hide (fun (wx : World) => vfix_rx [] y y 2 2 65536 rfl rfl ⟨by omega, by omega⟩ (by decide) (by decide) (by decide) (by decide) (by simp) wx none 0 0 (Bs.nought wx))
  rw [List.nil_append] at cF
  have c4 := hide (fun (l : List Int) (hl : l.length ≤ 100) wx ao n c (hx : Bs wx ao n c l) => vfix_rx l mc mc 4 4 4294967296 rfl rfl ⟨by omega, by omega⟩ (by decide) (by decide) (by decide) (by decide) (by omega) wx ao n c hx)
  obtain ⟨L1, hL1⟩ : ∃ z, z = le y 2 := ⟨_, rfl⟩
  have n1 : L1.length = 2 := by rw [hL1]; simp [le_length]
  rw [← hL1] at cF
  obtain ⟨L2, hL2⟩ : ∃ z, z = L1 ++ [mo, d] := ⟨_, rfl⟩
  have n_L2 : L2.length = 4 := by rw [hL2]; simp [n1]
  obtain ⟨L3, hL3⟩ : ∃ z, z = L2 ++ [h, mi, s] := ⟨_, rfl⟩
  have n_L3 : L3.length = 7 := by rw [hL3]; simp [n_L2]
  obtain ⟨L4, hL4⟩ : ∃ z, z = L3 ++ le mc 4 := ⟨_, rfl⟩
  have n_L4 : L4.length = 11 := by rw [hL4]; simp [n_L3, le_length]
  have c4 := hide (unhide c4 L3 (by omega))
  rw [← hL4] at c4
  have hE2 := hide (show M = true → DW = false → LL = L2 by
    intro q1 q2
    rw [hD2 q2, if_pos q1, hL2, hL1, List.append_nil])
  have hE3 := hide (show M = false → mc = 0 → LL = L3 by
    intro q1 q2
    rw [hD3 q1, if_neg (by rw [q1]; decide), if_pos q2, hL3, hL2, hL1, List.append_nil])
  have hE4 := hide (show M = false → ¬ mc = 0 → LL = L4 by
    intro q1 q2
    rw [hD3 q1, if_neg (by rw [q1]; decide), if_neg q2, hL4, hL3, hL2, hL1, ← List.append_assoc])
  have hE0 := hide hD1
  have hMM := hide hmm
  clear hD1 hD2 hD3 hmm
  have HA2 := hide hL2
  have HA3 := hide hL3
  have N1 := hide n1
  have GB : Hid (Bs (w1.alloc (.cells #[.int .u8 mo, .int .u8 d] 5)).drew (some ⟨w1.heap.size, 0, none⟩) 2 2 [mo, d]) := hide ((Bs.lit w1 [mo, d] hby2 (by simp)).later (below_drew _))
  have LI := hide (fun wx => Bs.lit wx [mo, d] hby2 (by simp))
  have LJ := hide (fun wx => Bs.lit wx [h, mi, s] hby (by simp))
  have zA : Hid (w1.heap.size ≤ w1.drew.heap.size) := hide (by simp)
  have zB : Hid (w1.heap.size ≤ (w1.alloc (.cells #[.int .u8 mo, .int .u8 d] 5)).drew.heap.size) := hide (by simp <;> omega)
  have yA : Hid (Below w1.heap.size w1 w1.drew) := hide (below_drew _)
  have yB : Hid (Below w1.heap.size w1 (w1.alloc (.cells #[.int .u8 mo, .int .u8 d] 5)).drew) := hide (Below.drew (below_alloc _ _))
  clear hby hby2 n1
  go_enter Tryd.func22, Tryd.ntmps22
  go_upto_region 9 with fail
  rw [← unhide HW]
  go_cut [7] (fun v wx => ∃ ao n c, v = .slice ao n c ∧ Mine w1.heap.size wx ao n c L2 ∧ Below w1.heap.size w1 wx)
  case first =>
    clear hE0 hE2 hE3 hE4 cM c4
    go_region_held3 (fun w' => w'.cell? ⟨w.heap.size, 0, none⟩ = some (.bool ng) ∧ w'.cell? ⟨w.heap.size, 1, none⟩ = some (.int .i64 y) ∧ w'.cell? ⟨w.heap.size, 2, none⟩ = some (.int .i64 mo) ∧ w'.cell? ⟨w.heap.size, 3, none⟩ = some (.int .i64 d) ∧ w'.cell? ⟨w.heap.size, 4, none⟩ = some (.int .i64 h) ∧ w'.cell? ⟨w.heap.size, 5, none⟩ = some (.int .i64 mi) ∧ w'.cell? ⟨w.heap.size, 6, none⟩ = some (.int .i64 s) ∧ w'.cell? ⟨w.heap.size, 7, none⟩ = some (.int .i64 mc)) (first | exact (unhide PP).cells | exact (unhide PP).drew.cells | go_keep) (first | (go_at_call 21; (with_reducible refine (unhide cF w1.drew).mono ?_); rintro e wq ⟨ao, n, c, rfl, mq, bq⟩; have P2 := ((unhide PP)).drew.later bq; clear k0 k1 k2 k3 k4 k5 k6 k7; obtain ⟨k0, k1, k2, k3, k4, k5, k6, k7⟩ := P2.cells; have PP := hide P2; clear P2; have ZQ := hide (unhide zA); have YQ := hide ((unhide yA).trans (bq.mono (unhide zA)))) | (go_at_call 21; (with_reducible refine (unhide cF (w1.alloc (.cells #[.int .u8 mo, .int .u8 d] 5)).drew).mono ?_); rintro e wq ⟨ao, n, c, rfl, mq, bq⟩; have P2 := ((unhide PP).later (below_alloc w1 (.cells #[.int .u8 mo, .int .u8 d] 5))).drew.later bq; clear k0 k1 k2 k3 k4 k5 k6 k7; obtain ⟨k0, k1, k2, k3, k4, k5, k6, k7⟩ := P2.cells; have PP := hide P2; clear P2; have GQ := hide ((unhide GB).later bq); have ZQ := hide (unhide zB); have YQ := hide ((unhide yB).trans (bq.mono (unhide zB)))) | (refine step_appK rfl (.tmp 40) (.tmp 47) rfl w1.heap.size ao n c L1 (by simp [Act.eval, Act.put]) (mq.mono (unhide ZQ)) (some ⟨w1.heap.size, 0, none⟩) 2 2 [mo, d] (by simp [Act.eval, Act.put]) (unhide GQ) (by have := mq.len; have := unhide N1; omega) (Nat.le_trans (unhide ZQ) bq.size) ?_; intro aoA cA wA mA gA; rw [← unhide HA2] at mA; have MQ := hide mA; have BQ := hide ((unhide YQ).trans (mine_grown (mq.mono (unhide ZQ)) (Nat.le_trans (unhide ZQ) bq.size) gA)); have P2 := (unhide P1).later (unhide BQ); clear k0 k1 k2 k3 k4 k5 k6 k7; obtain ⟨k0, k1, k2, k3, k4, k5, k6, k7⟩ := P2.cells; have PP := hide P2; clear P2) | (refine step_appK rfl (.tmp 40) (.tmp 47) rfl w1.heap.size ao n c L1 (by simp [Act.eval, Act.put]) ((mq.mono (unhide ZQ)).later (below_alloc _ _)) (some ⟨wq.heap.size, 0, none⟩) 2 2 [mo, d] (by simp [Act.eval, Act.put]) (unhide LI wq) (by have := mq.len; have := unhide N1; omega) (Nat.le_trans (Nat.le_trans (unhide ZQ) bq.size) (below_alloc wq _).size) ?_; intro aoA cA wA mA gA; rw [← unhide HA2] at mA; have MQ := hide mA; have BQ := hide (((unhide YQ).trans ((below_alloc wq _).mono (Nat.le_trans (unhide ZQ) bq.size))).trans (mine_grown ((mq.mono (unhide ZQ)).later (below_alloc _ _)) (Nat.le_trans (Nat.le_trans (unhide ZQ) bq.size) (below_alloc wq _).size) gA)); have P2 := (unhide P1).later (unhide BQ); clear k0 k1 k2 k3 k4 k5 k6 k7; obtain ⟨k0, k1, k2, k3, k4, k5, k6, k7⟩ := P2.cells; have PP := hide P2; clear P2))
    all_goals go_wp2_with fail
    all_goals go_meet
    all_goals exact ⟨_, _, _, rfl, unhide MQ, unhide BQ⟩
  obtain ⟨oo, on, oc, rfl, hm, hy⟩ := hcut
  have HM := hide hm
  have HY := hide hy
  have P2 := (unhide P1).later hy
  obtain ⟨k0, k1, k2, k3, k4, k5, k6, k7⟩ := P2.cells
  have PQ := hide P2
  clear hm hy P2 cF GB LI zA zB yA yB HA2 N1 PP
  have hon : on = 4 := by rw [← (unhide HM).len]; exact n_L2
  subst hon
  cases M
  · by_cases hz : mc = 0
    · have gz : (mc != 0) = false := by simpa using hz
      have hE := unhide hE3 rfl hz
      clear hz
      go_upto_region 16 with (first | (go_at_call 44; (with_reducible refine (unhide cM _).mono ?_); rintro e w3 ⟨rfl, b3⟩; have HM := hide ((unhide HM).later b3); have HY := hide ((unhide HY).trans (b3.mono (unhide HY).size)); have P2 := (unhide PQ).later b3; clear b3 k0 k1 k2 k3 k4 k5 k6 k7; obtain ⟨k0, k1, k2, k3, k4, k5, k6, k7⟩ := P2.cells; have PQ := hide P2; clear P2) | (at_builtin; refine wpList_app rfl (.tmp 52) (.tmp 62) rfl w1.heap.size oo 4 oc L2 rfl ((unhide HM).later (below_alloc _ _)) _ 3 3 [h, mi, s] rfl (unhide LJ w3) (by omega) (by have := (unhide HY).size; simp; omega) ?_; intro o5 q5 w5 m5 b5; rw [← unhide HA3] at m5; have HM := hide m5; have HY := hide (((unhide HY).trans ((below_alloc w3 _).mono (unhide HY).size)).trans b5); have P2 := (unhide P1).later (unhide HY); clear m5 b5 k0 k1 k2 k3 k4 k5 k6 k7; obtain ⟨k0, k1, k2, k3, k4, k5, k6, k7⟩ := P2.cells; have PQ := hide P2; clear P2))
      have HS := hide (unhide HM).bs
      have HOUT := hide (show OUT = (b ++ [7]) ++ L3 by rw [unhide HO, hE, n_L3, List.append_assoc]; rfl)
      have wl : IntKind.u8.wrap 7 = 7 := by kernel_rfl
      have BBz := hide ((unhide HBB).later (unhide HY))
      have hyz := (unhide HY).size
      try clear hL0 hLn hLm hLx hmm
      go_wp2_with (first | (at_builtin; refine wpList_app rfl (.tmp 75) (.tmp 76) rfl w5.heap.size _ 0 0 [] rfl (Mine.empty w5) bo bn bc b rfl ((unhide BBz).later (below_alloc _ _)) (by omega) (by simp) ?_; intro oa ca wa ma ba; rw [List.nil_append, Nat.zero_add] at ma; have MA := hide ma; have BA := hide ((below_alloc w5 _).trans ba); clear ma ba) | (at_builtin; refine wpList_app rfl (.tmp 77) (.tmp 81) rfl w5.heap.size oa bn ca b rfl ((unhide MA).later (below_alloc _ _)) _ 1 1 [7] rfl (Bs.one wa (7) (by omega) (by omega)) (by omega) (by have := (unhide BA).size; simp; omega) ?_; intro ob2 cb wb mb2 bb; have MB := hide mb2; have BB := hide (((unhide BA).trans ((below_alloc wa _).mono (unhide BA).size)).trans bb); clear mb2 bb) | (at_builtin; refine wpList_app rfl (.tmp 82) (.tmp 83) rfl w5.heap.size ob2 (bn + 1) cb (b ++ [7]) rfl (unhide MB) o5 7 q5 L3 rfl ((unhide HS).later (unhide BB)) (by omega) (unhide BB).size ?_; intro oc2 cc wc2 mc2 bc2; have MC := hide mc2; have BC := hide ((unhide BB).trans bc2); clear mc2 bc2))
      go_ret
      rw [unhide HOUT]
      exact ⟨_, _, _, rfl, (unhide MC).mono (Nat.le_trans (Nat.le_of_lt hlt) hyz), (unhide P1).bl.trans (((unhide HY).mono (Nat.le_of_lt hlt)).trans ((unhide BC).mono (Nat.le_trans (Nat.le_of_lt hlt) hyz)))⟩
    · have gz : (mc != 0) = true := by simpa using hz
      have hE := unhide hE4 rfl hz
      clear hz
      go_upto_region 16 with (first | (go_at_call 44; (with_reducible refine (unhide cM _).mono ?_); rintro e w3 ⟨rfl, b3⟩; have HM := hide ((unhide HM).later b3); have HY := hide ((unhide HY).trans (b3.mono (unhide HY).size)); have P2 := (unhide PQ).later b3; clear b3 k0 k1 k2 k3 k4 k5 k6 k7; obtain ⟨k0, k1, k2, k3, k4, k5, k6, k7⟩ := P2.cells; have PQ := hide P2; clear P2) | (at_builtin; refine wpList_app rfl (.tmp 52) (.tmp 62) rfl w1.heap.size oo 4 oc L2 rfl ((unhide HM).later (below_alloc _ _)) _ 3 3 [h, mi, s] rfl (unhide LJ w3) (by omega) (by have := (unhide HY).size; simp; omega) ?_; intro o5 q5 w5 m5 b5; rw [← unhide HA3] at m5; have HM := hide m5; have HY := hide (((unhide HY).trans ((below_alloc w3 _).mono (unhide HY).size)).trans b5); have P2 := (unhide P1).later (unhide HY); clear m5 b5 k0 k1 k2 k3 k4 k5 k6 k7; obtain ⟨k0, k1, k2, k3, k4, k5, k6, k7⟩ := P2.cells; have PQ := hide P2; clear P2) | (go_at_call 21; (with_reducible refine (unhide c4 w5 o5 7 q5 (unhide HM).bs).mono ?_); rintro e w4 ⟨o4, n4, q4, rfl, m4, b4⟩; have h4 : n4 = 11 := m4.len.symm.trans n_L4; subst h4; have HS := hide m4.bs; have HY := hide ((unhide HY).trans (b4.mono (unhide HY).size)); clear m4 b4))
      have HOUT := hide (show OUT = (b ++ [11]) ++ L4 by rw [unhide HO, hE, n_L4, List.append_assoc]; rfl)
      have wl : IntKind.u8.wrap 11 = 11 := by kernel_rfl
      have BBz := hide ((unhide HBB).later (unhide HY))
      have hyz := (unhide HY).size
      try clear hL0 hLn hLm hLx hmm
      go_wp2_with (first | (at_builtin; refine wpList_app rfl (.tmp 75) (.tmp 76) rfl w4.heap.size _ 0 0 [] rfl (Mine.empty w4) bo bn bc b rfl ((unhide BBz).later (below_alloc _ _)) (by omega) (by simp) ?_; intro oa ca wa ma ba; rw [List.nil_append, Nat.zero_add] at ma; have MA := hide ma; have BA := hide ((below_alloc w4 _).trans ba); clear ma ba) | (at_builtin; refine wpList_app rfl (.tmp 77) (.tmp 81) rfl w4.heap.size oa bn ca b rfl ((unhide MA).later (below_alloc _ _)) _ 1 1 [11] rfl (Bs.one wa (11) (by omega) (by omega)) (by omega) (by have := (unhide BA).size; simp; omega) ?_; intro ob2 cb wb mb2 bb; have MB := hide mb2; have BB := hide (((unhide BA).trans ((below_alloc wa _).mono (unhide BA).size)).trans bb); clear mb2 bb) | (at_builtin; refine wpList_app rfl (.tmp 82) (.tmp 83) rfl w4.heap.size ob2 (bn + 1) cb (b ++ [11]) rfl (unhide MB) o4 11 q4 L4 rfl ((unhide HS).later (unhide BB)) (by omega) (unhide BB).size ?_; intro oc2 cc wc2 mc2 bc2; have MC := hide mc2; have BC := hide ((unhide BB).trans bc2); clear mc2 bc2))
      go_ret
      rw [unhide HOUT]
      exact ⟨_, _, _, rfl, (unhide MC).mono (Nat.le_trans (Nat.le_of_lt hlt) hyz), (unhide P1).bl.trans (((unhide HY).mono (Nat.le_of_lt hlt)).trans ((unhide BC).mono (Nat.le_trans (Nat.le_of_lt hlt) hyz)))⟩
  · have hz := unhide hMM rfl
    have gz : (mc != 0) = false := by simpa using hz
    clear hz
    cases DW
    · have hE := unhide hE2 rfl rfl
      go_upto_region 16 with (go_at_call 44; (with_reducible refine (unhide cM _).mono ?_); rintro e w3 ⟨rfl, b3⟩; have HM := hide ((unhide HM).later b3); have HY := hide ((unhide HY).trans (b3.mono (unhide HY).size)); have P2 := (unhide PQ).later b3; clear b3 k0 k1 k2 k3 k4 k5 k6 k7; obtain ⟨k0, k1, k2, k3, k4, k5, k6, k7⟩ := P2.cells; have PQ := hide P2; clear P2)
      have HS := hide (unhide HM).bs
      have HOUT := hide (show OUT = (b ++ [4]) ++ L2 by rw [unhide HO, hE, n_L2, List.append_assoc]; rfl)
      have wl : IntKind.u8.wrap 4 = 4 := by kernel_rfl
      have BBz := hide ((unhide HBB).later (unhide HY))
      have hyz := (unhide HY).size
      try clear hL0 hLn hLm hLx hmm
      go_wp2_with (first | (at_builtin; refine wpList_app rfl (.tmp 75) (.tmp 76) rfl w3.heap.size _ 0 0 [] rfl (Mine.empty w3) bo bn bc b rfl ((unhide BBz).later (below_alloc _ _)) (by omega) (by simp) ?_; intro oa ca wa ma ba; rw [List.nil_append, Nat.zero_add] at ma; have MA := hide ma; have BA := hide ((below_alloc w3 _).trans ba); clear ma ba) | (at_builtin; refine wpList_app rfl (.tmp 77) (.tmp 81) rfl w3.heap.size oa bn ca b rfl ((unhide MA).later (below_alloc _ _)) _ 1 1 [4] rfl (Bs.one wa (4) (by omega) (by omega)) (by omega) (by have := (unhide BA).size; simp; omega) ?_; intro ob2 cb wb mb2 bb; have MB := hide mb2; have BB := hide (((unhide BA).trans ((below_alloc wa _).mono (unhide BA).size)).trans bb); clear mb2 bb) | (at_builtin; refine wpList_app rfl (.tmp 82) (.tmp 83) rfl w3.heap.size ob2 (bn + 1) cb (b ++ [4]) rfl (unhide MB) oo 4 oc L2 rfl ((unhide HS).later (unhide BB)) (by omega) (unhide BB).size ?_; intro oc2 cc wc2 mc2 bc2; have MC := hide mc2; have BC := hide ((unhide BB).trans bc2); clear mc2 bc2))
      go_ret
      rw [unhide HOUT]
      exact ⟨_, _, _, rfl, (unhide MC).mono (Nat.le_trans (Nat.le_of_lt hlt) hyz), (unhide P1).bl.trans (((unhide HY).mono (Nat.le_of_lt hlt)).trans ((unhide BC).mono (Nat.le_trans (Nat.le_of_lt hlt) hyz)))⟩
    · have hE := unhide hE0 rfl
      go_upto_region 16 with (go_at_call 44; (with_reducible refine (unhide cM _).mono ?_); rintro e w3 ⟨rfl, b3⟩; have HM := hide ((unhide HM).later b3); have HY := hide ((unhide HY).trans (b3.mono (unhide HY).size)); have P2 := (unhide PQ).later b3; clear b3 k0 k1 k2 k3 k4 k5 k6 k7; obtain ⟨k0, k1, k2, k3, k4, k5, k6, k7⟩ := P2.cells; have PQ := hide P2; clear P2)
      have HS := hide (Bs.nought w3)
      have HOUT := hide (show OUT = (b ++ [0]) ++ [] by rw [unhide HO, hE, List.append_assoc]; rfl)
      have wl : IntKind.u8.wrap 0 = 0 := by kernel_rfl
      have BBz := hide ((unhide HBB).later (unhide HY))
      have hyz := (unhide HY).size
      try clear hL0 hLn hLm hLx hmm
      go_wp2_with (first | (at_builtin; refine wpList_app rfl (.tmp 75) (.tmp 76) rfl w3.heap.size _ 0 0 [] rfl (Mine.empty w3) bo bn bc b rfl ((unhide BBz).later (below_alloc _ _)) (by omega) (by simp) ?_; intro oa ca wa ma ba; rw [List.nil_append, Nat.zero_add] at ma; have MA := hide ma; have BA := hide ((below_alloc w3 _).trans ba); clear ma ba) | (at_builtin; refine wpList_app rfl (.tmp 77) (.tmp 81) rfl w3.heap.size oa bn ca b rfl ((unhide MA).later (below_alloc _ _)) _ 1 1 [0] rfl (Bs.one wa (0) (by omega) (by omega)) (by omega) (by have := (unhide BA).size; simp; omega) ?_; intro ob2 cb wb mb2 bb; have MB := hide mb2; have BB := hide (((unhide BA).trans ((below_alloc wa _).mono (unhide BA).size)).trans bb); clear mb2 bb) | (at_builtin; refine wpList_app rfl (.tmp 82) (.tmp 83) rfl w3.heap.size ob2 (bn + 1) cb (b ++ [0]) rfl (unhide MB) none 0 0 [] rfl ((unhide HS).later (unhide BB)) (by omega) (unhide BB).size ?_; intro oc2 cc wc2 mc2 bc2; have MC := hide mc2; have BC := hide ((unhide BB).trans bc2); clear mc2 bc2))
      go_ret
      rw [unhide HOUT]
      exact ⟨_, _, _, rfl, (unhide MC).mono (Nat.le_trans (Nat.le_of_lt hlt) hyz), (unhide P1).bl.trans (((unhide HY).mono (Nat.le_of_lt hlt)).trans ((unhide BC).mono (Nat.le_trans (Nat.le_of_lt hlt) hyz)))⟩


end Go.Proofs.YthncndofbdjbgaaDoor
