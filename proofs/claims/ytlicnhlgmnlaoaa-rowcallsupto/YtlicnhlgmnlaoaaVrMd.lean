/-
  The document's own answer for values: the bytes of a date behind others. It writes nothing that was there. Conditions: a date that may be; lengths below 100,000.
-/
import Derived.Test.YtlicnhlgmnlaoaaVrFix
namespace Go.Proofs.Ytlicnhlgmnlaoaa
open Go.RowKit
set_option linter.unusedVariables false
set_option linter.unusedSimpArgs false

set_option maxHeartbeats 4000000 in
set_option maxRecDepth 100000 in
theorem momd_ref (bo : Option Addr) (bn bc : Nat) (b : List Int) (v : Wh) (t : Int) (w : World) (hb : Bs w bo bn bc b) (hsz : b.length ≤ 1000000) (hT : dtOk v t = true) (ht : t ≠ 11) :
    Calls Try.prog 47 #[.slice bo bn bc, .agg (whC v), .int .u8 t] w fun e w' => OutB w (b ++ cntB (datA v) (datN v)) e w' := by
  unfold OutB
  have hbl := hb.len
  obtain ⟨hc, hy, hmo, hd⟩ := dt_bd hT
  have cM := hide (fun wx => mid_ref v wx hc)
  obtain ⟨hh, hmi, hs, hmc⟩ := clk_b hc
  have gt : (t == 11) = false := by simpa using ht
  have hEW := eqw v wh0
  have hL0 := fun (q1 : v = wh0) => show datL v = [] by rw [q1]; rfl
  have hLn := fun (q : v ≠ wh0) => datL_n hT q
  have hmm := fun (q2 : mid v = true) => (mid_mc q2).2.2.2
  have hmz := fun (q2 : mid v = false) => (show v ≠ wh0 from fun e => by rw [e] at q2; cases q2)
  have hO := cnt_dat v
  obtain ⟨OUT, hOUT⟩ : ∃ z, z = b ++ cntB (datA v) (datN v) := ⟨_, rfl⟩
  rw [← hOUT]
  obtain ⟨LL, hLL⟩ : ∃ z, z = datL v := ⟨_, rfl⟩
  rw [hO, ← hLL] at hOUT
  rw [← hLL] at hL0 hLn
  have HO := hide hOUT
  generalize mid v = M at *
  obtain ⟨DW, hDW⟩ : ∃ z, z = decide (v = wh0) := ⟨_, rfl⟩
  rw [← hDW] at hEW
  have hD1 := fun (q : DW = true) => hL0 (of_decide_eq_true (hDW.symm.trans q))
  have hD2 := fun (q : DW = false) => hLn (of_decide_eq_false (hDW.symm.trans q))
  have hD3 := fun (q : M = false) => hLn (hmz q)
  clear hLL hT hc hO hOUT ht hL0 hLn hmz hDW
  obtain ⟨ng, y, mo, d, h, mi, s, mc⟩ := v
  simp only at *
  have w1' : IntKind.u8.wrap h = h := by rw [IntKind.wrap_u8]; omega
  have w2' : IntKind.u8.wrap mi = mi := by rw [IntKind.wrap_u8]; omega
  have w3' : IntKind.u8.wrap s = s := by rw [IntKind.wrap_u8]; omega
  have w4' : IntKind.u64.wrap mc = mc := by rw [IntKind.wrap_u64]; omega
  have w5' : IntKind.u64.wrap y = y := by rw [IntKind.wrap_u64]; omega
  have w6' : IntKind.u8.wrap mo = mo := by rw [IntKind.wrap_u8]; omega
  have w7' : IntKind.u8.wrap d = d := by rw [IntKind.wrap_u8]; omega
  have hby2 : Byt [mo, d] := Byt.cons (by omega) (by omega) (Byt.one (by omega) (by omega))
  have hby : Byt [h, mi, s] := Byt.cons (by omega) (by omega) (Byt.cons (by omega) (by omega) (Byt.one (by omega) (by omega)))
  unfold whC wh0 at hEW
  unfold whC at cM ⊢
  simp only at cM hEW ⊢
  obtain ⟨w1, hw1⟩ : ∃ z, z = w.alloc (.cells #[.bool ng, .int .i64 y, .int .i64 mo, .int .i64 d, .int .i64 h, .int .i64 mi, .int .i64 s, .int .i64 mc] 42) := ⟨_, rfl⟩
  have P0 : Pw w ⟨ng, y, mo, d, h, mi, s, mc⟩ w1 := by rw [hw1]; exact Pw.box w _
  have hlt : w.heap.size < w1.heap.size := by rw [hw1]; simp
  have HW := hide hw1
  have PP := hide P0
  have P1 := hide P0
  have HBB := hide (hb.later P0.bl)
  obtain ⟨k0, k1, k2, k3, k4, k5, k6, k7⟩ := P0.cells
  clear hw1 P0 hb
  have cF := hide (fun (wx : World) => vfix_rx [] y y 2 2 65536 rfl rfl ⟨by omega, by omega⟩ (by decide) (by decide) (by decide) (by decide) (by simp) wx none 0 0 (Bs.nought wx))
  rw [List.nil_append] at cF
  have c4 := hide (fun (l : List Int) (hl : l.length ≤ 100) wx ao n c (hx : Bs wx ao n c l) => vfix_rx l mc mc 4 4 4294967296 rfl rfl ⟨by omega, by omega⟩ (by decide) (by decide) (by decide) (by decide) (by omega) wx ao n c hx)
  obtain ⟨L1, hL1⟩ : ∃ z, z = le y 2 := ⟨_, rfl⟩
  have n1 : L1.length = 2 := by rw [hL1]; simp [le_length]
  rw [← hL1] at cF
  obtain ⟨L2, hL2⟩ : ∃ z, z = L1 ++ [mo, d] := ⟨_, rfl⟩
  have n_L2 : L2.length = 4 := by rw [hL2]; simp [n1]
  obtain ⟨L3, hL3⟩ : ∃ z, z = L2 ++ [h, mi, s] := ⟨_, rfl⟩
  have n_L3 : L3.length = 7 := by rw [hL3]; simp [n_L2]
  obtain ⟨L4, hL4⟩ : ∃ z, z = L3 ++ le mc 4 := ⟨_, rfl⟩
  have n_L4 : L4.length = 11 := by rw [hL4]; simp [n_L3, le_length]
  have c4 := hide (unhide c4 L3 (by omega))
  rw [← hL4] at c4
  have hE2 := hide (show M = true → DW = false → LL = L2 by
    intro q1 q2
    rw [hD2 q2, if_pos q1, hL2, hL1, List.append_nil])
  have hE3 := hide (show M = false → mc = 0 → LL = L3 by
    intro q1 q2
    rw [hD3 q1, if_neg (by rw [q1]; decide), if_pos q2, hL3, hL2, hL1, List.append_nil])
  have hE4 := hide (show M = false → ¬ mc = 0 → LL = L4 by
    intro q1 q2
    rw [hD3 q1, if_neg (by rw [q1]; decide), if_neg q2, hL4, hL3, hL2, hL1, ← List.append_assoc])
  have hE0 := hide hD1
  have hMM := hide hmm
  clear hD1 hD2 hD3 hmm
  have HA2 := hide hL2
  have HA3 := hide hL3
  have N1 := hide n1
  have GB : Hid (Bs (w1.alloc (.cells #[.int .u8 mo, .int .u8 d] 5)).drew (some ⟨w1.heap.size, 0, none⟩) 2 2 [mo, d]) := hide ((Bs.lit w1 [mo, d] hby2 (by simp)).later (below_drew _))
  have LI := hide (fun wx => Bs.lit wx [mo, d] hby2 (by simp))
  have LJ := hide (fun wx => Bs.lit wx [h, mi, s] hby (by simp))
  have zA : Hid (w1.heap.size ≤ w1.drew.heap.size) := hide (by simp)
  have zB : Hid (w1.heap.size ≤ (w1.alloc (.cells #[.int .u8 mo, .int .u8 d] 5)).drew.heap.size) := hide (by simp <;> omega)
  have yA : Hid (Below w1.heap.size w1 w1.drew) := hide (below_drew _)
  have yB : Hid (Below w1.heap.size w1 (w1.alloc (.cells #[.int .u8 mo, .int .u8 d] 5)).drew) := hide (Below.drew (below_alloc _ _))
  clear hby hby2 n1
  go_enter Try.func47, Try.ntmps47
  go_upto_region 9 with fail
  rw [← unhide HW]
  go_cut [7] (fun v wx => ∃ ao n c, v = .slice ao n c ∧ Mine w1.heap.size wx ao n c L2 ∧ Below w1.heap.size w1 wx)
  case first =>
    clear hE0 hE2 hE3 hE4 cM c4
    go_region_held3 (fun w' => w'.cell? ⟨w.heap.size, 0, none⟩ = some (.bool ng) ∧ w'.cell? ⟨w.heap.size, 1, none⟩ = some (.int .i64 y) ∧ w'.cell? ⟨w.heap.size, 2, none⟩ = some (.int .i64 mo) ∧ w'.cell? ⟨w.heap.size, 3, none⟩ = some (.int .i64 d) ∧ w'.cell? ⟨w.heap.size, 4, none⟩ = some (.int .i64 h) ∧ w'.cell? ⟨w.heap.size, 5, none⟩ = some (.int .i64 mi) ∧ w'.cell? ⟨w.heap.size, 6, none⟩ = some (.int .i64 s) ∧ w'.cell? ⟨w.heap.size, 7, none⟩ = some (.int .i64 mc)) (first | exact (unhide PP).cells | exact (unhide PP).drew.cells | go_keep) (first | (go_at_call 46; (with_reducible refine (unhide cF w1.drew).mono ?_); rintro e wq ⟨ao, n, c, rfl, mq, bq⟩; have P2 := ((unhide PP)).drew.later bq; clear k0 k1 k2 k3 k4 k5 k6 k7; obtain ⟨k0, k1, k2, k3, k4, k5, k6, k7⟩ := P2.cells; have PP := hide P2; clear P2; have ZQ := hide (unhide zA); have YQ := hide ((unhide yA).trans (bq.mono (unhide zA)))) | (go_at_call 46; (with_reducible refine (unhide cF (w1.alloc (.cells #[.int .u8 mo, .int .u8 d] 5)).drew).mono ?_); rintro e wq ⟨ao, n, c, rfl, mq, bq⟩; have P2 := ((unhide PP).later (below_alloc w1 (.cells #[.int .u8 mo, .int .u8 d] 5))).drew.later bq; clear k0 k1 k2 k3 k4 k5 k6 k7; obtain ⟨k0, k1, k2, k3, k4, k5, k6, k7⟩ := P2.cells; have PP := hide P2; clear P2; have GQ := hide ((unhide GB).later bq); have ZQ := hide (unhide zB); have YQ := hide ((unhide yB).trans (bq.mono (unhide zB)))) | (refine step_appK rfl (.tmp 40) (.tmp 47) rfl w1.heap.size ao n c L1 (by simp [Act.eval, Act.put]) (mq.mono (unhide ZQ)) (some ⟨w1.heap.size, 0, none⟩) 2 2 [mo, d] (by simp [Act.eval, Act.put]) (unhide GQ) (by have := mq.len; have := unhide N1; omega) (Nat.le_trans (unhide ZQ) bq.size) ?_; intro aoA cA wA mA gA; rw [← unhide HA2] at mA; have MQ := hide mA; have BQ := hide ((unhide YQ).trans (mine_grown (mq.mono (unhide ZQ)) (Nat.le_trans (unhide ZQ) bq.size) gA)); have P2 := (unhide P1).later (unhide BQ); clear k0 k1 k2 k3 k4 k5 k6 k7; obtain ⟨k0, k1, k2, k3, k4, k5, k6, k7⟩ := P2.cells; have PP := hide P2; clear P2) | (refine step_appK rfl (.tmp 40) (.tmp 47) rfl w1.heap.size ao n c L1 (by simp [Act.eval, Act.put]) ((mq.mono (unhide ZQ)).later (below_alloc _ _)) (some ⟨wq.heap.size, 0, none⟩) 2 2 [mo, d] (by simp [Act.eval, Act.put]) (unhide LI wq) (by have := mq.len; have := unhide N1; omega) (Nat.le_trans (Nat.le_trans (unhide ZQ) bq.size) (below_alloc wq _).size) ?_; intro aoA cA wA mA gA; rw [← unhide HA2] at mA; have MQ := hide mA; have BQ := hide (((unhide YQ).trans ((below_alloc wq _).mono (Nat.le_trans (unhide ZQ) bq.size))).trans (mine_grown ((mq.mono (unhide ZQ)).later (below_alloc _ _)) (Nat.le_trans (Nat.le_trans (unhide ZQ) bq.size) (below_alloc wq _).size) gA)); have P2 := (unhide P1).later (unhide BQ); clear k0 k1 k2 k3 k4 k5 k6 k7; obtain ⟨k0, k1, k2, k3, k4, k5, k6, k7⟩ := P2.cells; have PP := hide P2; clear P2))
    all_goals go_wp2_with fail
    all_goals go_meet
    all_goals exact ⟨_, _, _, rfl, unhide MQ, unhide BQ⟩
  obtain ⟨oo, on, oc, rfl, hm, hy⟩ := hcut
  have HM := hide hm
  have HY := hide hy
  have P2 := (unhide P1).later hy
  obtain ⟨k0, k1, k2, k3, k4, k5, k6, k7⟩ := P2.cells
  have PQ := hide P2
  clear hm hy P2 cF GB LI zA zB yA yB HA2 N1 PP
  have hon : on = 4 := by rw [← (unhide HM).len]; exact n_L2
  subst hon
  cases M
  · by_cases hz : mc = 0
    · have gz : (mc != 0) = false := by simpa using hz
      have hE := unhide hE3 rfl hz
      clear hz
      go_upto_region 16 with (first | (go_at_call 66; (with_reducible refine (unhide cM _).mono ?_); rintro e w3 ⟨rfl, b3⟩; have HM := hide ((unhide HM).later b3); have HY := hide ((unhide HY).trans (b3.mono (unhide HY).size)); have P2 := (unhide PQ).later b3; clear b3 k0 k1 k2 k3 k4 k5 k6 k7; obtain ⟨k0, k1, k2, k3, k4, k5, k6, k7⟩ := P2.cells; have PQ := hide P2; clear P2) | (at_builtin; refine wpList_app rfl (.tmp 52) (.tmp 62) rfl w1.heap.size oo 4 oc L2 rfl ((unhide HM).later (below_alloc _ _)) _ 3 3 [h, mi, s] rfl (unhide LJ w3) (by omega) (by have := (unhide HY).size; simp; omega) ?_; intro o5 q5 w5 m5 b5; rw [← unhide HA3] at m5; have HM := hide m5; have HY := hide (((unhide HY).trans ((below_alloc w3 _).mono (unhide HY).size)).trans b5); have P2 := (unhide P1).later (unhide HY); clear m5 b5 k0 k1 k2 k3 k4 k5 k6 k7; obtain ⟨k0, k1, k2, k3, k4, k5, k6, k7⟩ := P2.cells; have PQ := hide P2; clear P2))
      have HS := hide (unhide HM).bs
      have HOUT := hide (show OUT = (b ++ [7]) ++ L3 by rw [unhide HO, hE, n_L3, List.append_assoc]; rfl)
      have wl : IntKind.u8.wrap 7 = 7 := by kernel_rfl
      have BBz := hide ((unhide HBB).later (unhide HY))
      have hyz := (unhide HY).size
      try clear hL0 hLn hLm hLx hmm
      go_wp2_with (first | (at_builtin; refine wpList_app rfl (.tmp 75) (.tmp 76) rfl w5.heap.size _ 0 0 [] rfl (Mine.empty w5) bo bn bc b rfl ((unhide BBz).later (below_alloc _ _)) (by omega) (by simp) ?_; intro oa ca wa ma ba; rw [List.nil_append, Nat.zero_add] at ma; have MA := hide ma; have BA := hide ((below_alloc w5 _).trans ba); clear ma ba) | (at_builtin; refine wpList_app rfl (.tmp 77) (.tmp 81) rfl w5.heap.size oa bn ca b rfl ((unhide MA).later (below_alloc _ _)) _ 1 1 [7] rfl (Bs.one wa (7) (by omega) (by omega)) (by omega) (by have := (unhide BA).size; simp; omega) ?_; intro ob2 cb wb mb2 bb; have MB := hide mb2; have BB := hide (((unhide BA).trans ((below_alloc wa _).mono (unhide BA).size)).trans bb); clear mb2 bb) | (at_builtin; refine wpList_app rfl (.tmp 82) (.tmp 83) rfl w5.heap.size ob2 (bn + 1) cb (b ++ [7]) rfl (unhide MB) o5 7 q5 L3 rfl ((unhide HS).later (unhide BB)) (by omega) (unhide BB).size ?_; intro oc2 cc wc2 mc2 bc2; have MC := hide mc2; have BC := hide ((unhide BB).trans bc2); clear mc2 bc2))
      go_ret
      rw [unhide HOUT]
      exact ⟨_, _, _, rfl, (unhide MC).mono (Nat.le_trans (Nat.le_of_lt hlt) hyz), (unhide P1).bl.trans (((unhide HY).mono (Nat.le_of_lt hlt)).trans ((unhide BC).mono (Nat.le_trans (Nat.le_of_lt hlt) hyz)))⟩
    · have gz : (mc != 0) = true := by simpa using hz
      have hE := unhide hE4 rfl hz
      clear hz
      go_upto_region 16 with (first | (go_at_call 66; (with_reducible refine (unhide cM _).mono ?_); rintro e w3 ⟨rfl, b3⟩; have HM := hide ((unhide HM).later b3); have HY := hide ((unhide HY).trans (b3.mono (unhide HY).size)); have P2 := (unhide PQ).later b3; clear b3 k0 k1 k2 k3 k4 k5 k6 k7; obtain ⟨k0, k1, k2, k3, k4, k5, k6, k7⟩ := P2.cells; have PQ := hide P2; clear P2) | (at_builtin; refine wpList_app rfl (.tmp 52) (.tmp 62) rfl w1.heap.size oo 4 oc L2 rfl ((unhide HM).later (below_alloc _ _)) _ 3 3 [h, mi, s] rfl (unhide LJ w3) (by omega) (by have := (unhide HY).size; simp; omega) ?_; intro o5 q5 w5 m5 b5; rw [← unhide HA3] at m5; have HM := hide m5; have HY := hide (((unhide HY).trans ((below_alloc w3 _).mono (unhide HY).size)).trans b5); have P2 := (unhide P1).later (unhide HY); clear m5 b5 k0 k1 k2 k3 k4 k5 k6 k7; obtain ⟨k0, k1, k2, k3, k4, k5, k6, k7⟩ := P2.cells; have PQ := hide P2; clear P2) | (go_at_call 46; (with_reducible refine (unhide c4 w5 o5 7 q5 (unhide HM).bs).mono ?_); rintro e w4 ⟨o4, n4, q4, rfl, m4, b4⟩; have h4 : n4 = 11 := m4.len.symm.trans n_L4; subst h4; have HS := hide m4.bs; have HY := hide ((unhide HY).trans (b4.mono (unhide HY).size)); clear m4 b4))
      have HOUT := hide (show OUT = (b ++ [11]) ++ L4 by rw [unhide HO, hE, n_L4, List.append_assoc]; rfl)
      have wl : IntKind.u8.wrap 11 = 11 := by kernel_rfl
      have BBz := hide ((unhide HBB).later (unhide HY))
      have hyz := (unhide HY).size
      try clear hL0 hLn hLm hLx hmm
      go_wp2_with (first | (at_builtin; refine wpList_app rfl (.tmp 75) (.tmp 76) rfl w4.heap.size _ 0 0 [] rfl (Mine.empty w4) bo bn bc b rfl ((unhide BBz).later (below_alloc _ _)) (by omega) (by simp) ?_; intro oa ca wa ma ba; rw [List.nil_append, Nat.zero_add] at ma; have MA := hide ma; have BA := hide ((below_alloc w4 _).trans ba); clear ma ba) | (at_builtin; refine wpList_app rfl (.tmp 77) (.tmp 81) rfl w4.heap.size oa bn ca b rfl ((unhide MA).later (below_alloc _ _)) _ 1 1 [11] rfl (Bs.one wa (11) (by omega) (by omega)) (by omega) (by have := (unhide BA).size; simp; omega) ?_; intro ob2 cb wb mb2 bb; have MB := hide mb2; have BB := hide (((unhide BA).trans ((below_alloc wa _).mono (unhide BA).size)).trans bb); clear mb2 bb) | (at_builtin; refine wpList_app rfl (.tmp 82) (.tmp 83) rfl w4.heap.size ob2 (bn + 1) cb (b ++ [11]) rfl (unhide MB) o4 11 q4 L4 rfl ((unhide HS).later (unhide BB)) (by omega) (unhide BB).size ?_; intro oc2 cc wc2 mc2 bc2; have MC := hide mc2; have BC := hide ((unhide BB).trans bc2); clear mc2 bc2))
      go_ret
      rw [unhide HOUT]
      exact ⟨_, _, _, rfl, (unhide MC).mono (Nat.le_trans (Nat.le_of_lt hlt) hyz), (unhide P1).bl.trans (((unhide HY).mono (Nat.le_of_lt hlt)).trans ((unhide BC).mono (Nat.le_trans (Nat.le_of_lt hlt) hyz)))⟩
  · have hz := unhide hMM rfl
    have gz : (mc != 0) = false := by simpa using hz
    clear hz
    cases DW
    · have hE := unhide hE2 rfl rfl
      go_upto_region 16 with (go_at_call 66; (with_reducible refine (unhide cM _).mono ?_); rintro e w3 ⟨rfl, b3⟩; have HM := hide ((unhide HM).later b3); have HY := hide ((unhide HY).trans (b3.mono (unhide HY).size)); have P2 := (unhide PQ).later b3; clear b3 k0 k1 k2 k3 k4 k5 k6 k7; obtain ⟨k0, k1, k2, k3, k4, k5, k6, k7⟩ := P2.cells; have PQ := hide P2; clear P2)
      have HS := hide (unhide HM).bs
      have HOUT := hide (show OUT = (b ++ [4]) ++ L2 by rw [unhide HO, hE, n_L2, List.append_assoc]; rfl)
      have wl : IntKind.u8.wrap 4 = 4 := by kernel_rfl
      have BBz := hide ((unhide HBB).later (unhide HY))
      have hyz := (unhide HY).size
      try clear hL0 hLn hLm hLx hmm
      go_wp2_with (first | (at_builtin; refine wpList_app rfl (.tmp 75) (.tmp 76) rfl w3.heap.size _ 0 0 [] rfl (Mine.empty w3) bo bn bc b rfl ((unhide BBz).later (below_alloc _ _)) (by omega) (by simp) ?_; intro oa ca wa ma ba; rw [List.nil_append, Nat.zero_add] at ma; have MA := hide ma; have BA := hide ((below_alloc w3 _).trans ba); clear ma ba) | (at_builtin; refine wpList_app rfl (.tmp 77) (.tmp 81) rfl w3.heap.size oa bn ca b rfl ((unhide MA).later (below_alloc _ _)) _ 1 1 [4] rfl (Bs.one wa (4) (by omega) (by omega)) (by omega) (by have := (unhide BA).size; simp; omega) ?_; intro ob2 cb wb mb2 bb; have MB := hide mb2; have BB := hide (((unhide BA).trans ((below_alloc wa _).mono (unhide BA).size)).trans bb); clear mb2 bb) | (at_builtin; refine wpList_app rfl (.tmp 82) (.tmp 83) rfl w3.heap.size ob2 (bn + 1) cb (b ++ [4]) rfl (unhide MB) oo 4 oc L2 rfl ((unhide HS).later (unhide BB)) (by omega) (unhide BB).size ?_; intro oc2 cc wc2 mc2 bc2; have MC := hide mc2; have BC := hide ((unhide BB).trans bc2); clear mc2 bc2))
      go_ret
      rw [unhide HOUT]
      exact ⟨_, _, _, rfl, (unhide MC).mono (Nat.le_trans (Nat.le_of_lt hlt) hyz), (unhide P1).bl.trans (((unhide HY).mono (Nat.le_of_lt hlt)).trans ((unhide BC).mono (Nat.le_trans (Nat.le_of_lt hlt) hyz)))⟩
    · have hE := unhide hE0 rfl
      go_upto_region 16 with (go_at_call 66; (with_reducible refine (unhide cM _).mono ?_); rintro e w3 ⟨rfl, b3⟩; have HM := hide ((unhide HM).later b3); have HY := hide ((unhide HY).trans (b3.mono (unhide HY).size)); have P2 := (unhide PQ).later b3; clear b3 k0 k1 k2 k3 k4 k5 k6 k7; obtain ⟨k0, k1, k2, k3, k4, k5, k6, k7⟩ := P2.cells; have PQ := hide P2; clear P2)
      have HS := hide (Bs.nought w3)
      have HOUT := hide (show OUT = (b ++ [0]) ++ [] by rw [unhide HO, hE, List.append_assoc]; rfl)
      have wl : IntKind.u8.wrap 0 = 0 := by kernel_rfl
      have BBz := hide ((unhide HBB).later (unhide HY))
      have hyz := (unhide HY).size
      try clear hL0 hLn hLm hLx hmm
      go_wp2_with (first | (at_builtin; refine wpList_app rfl (.tmp 75) (.tmp 76) rfl w3.heap.size _ 0 0 [] rfl (Mine.empty w3) bo bn bc b rfl ((unhide BBz).later (below_alloc _ _)) (by omega) (by simp) ?_; intro oa ca wa ma ba; rw [List.nil_append, Nat.zero_add] at ma; have MA := hide ma; have BA := hide ((below_alloc w3 _).trans ba); clear ma ba) | (at_builtin; refine wpList_app rfl (.tmp 77) (.tmp 81) rfl w3.heap.size oa bn ca b rfl ((unhide MA).later (below_alloc _ _)) _ 1 1 [0] rfl (Bs.one wa (0) (by omega) (by omega)) (by omega) (by have := (unhide BA).size; simp; omega) ?_; intro ob2 cb wb mb2 bb; have MB := hide mb2; have BB := hide (((unhide BA).trans ((below_alloc wa _).mono (unhide BA).size)).trans bb); clear mb2 bb) | (at_builtin; refine wpList_app rfl (.tmp 82) (.tmp 83) rfl w3.heap.size ob2 (bn + 1) cb (b ++ [0]) rfl (unhide MB) none 0 0 [] rfl ((unhide HS).later (unhide BB)) (by omega) (unhide BB).size ?_; intro oc2 cc wc2 mc2 bc2; have MC := hide mc2; have BC := hide ((unhide BB).trans bc2); clear mc2 bc2))
      go_ret
      rw [unhide HOUT]
      exact ⟨_, _, _, rfl, (unhide MC).mono (Nat.le_trans (Nat.le_of_lt hlt) hyz), (unhide P1).bl.trans (((unhide HY).mono (Nat.le_of_lt hlt)).trans ((unhide BC).mono (Nat.le_trans (Nat.le_of_lt hlt) hyz)))⟩


end Go.Proofs.Ytlicnhlgmnlaoaa
