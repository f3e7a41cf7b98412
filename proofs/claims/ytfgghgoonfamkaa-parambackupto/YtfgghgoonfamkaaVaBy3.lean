/-
  What bytesOf and Append of package value return: new memory, or an error. They write nothing that was there. Conditions: the type is a byte, numbers within their kinds; texts and slices of at most 100,000 bytes.
-/
import Derived.Test.YtfgghgoonfamkaaMBy
import Derived.Test.YtfgghgoonfamkaaVaMay
namespace Go.Proofs.Ytfgghgoonfamkaa
open Go.RowKit
set_option linter.unusedVariables false
set_option linter.unusedSimpArgs false

/-- What a function that writes returns: nothing and ErrArg, or bytes. -/
def OutP (w : World) (R : Option (List Int)) (e : Ending) (w' : World) : Prop :=
  match R with
  | none => e = .returned (.tuple #[.slice none 0 0, .int .i64 2]) ∧ Below w.heap.size w w'
  | some l => ∃ ao n c, e = .returned (.tuple #[.slice ao n c, .int .i64 0]) ∧ Mine w.heap.size w' ao n c l ∧ Below w.heap.size w w'
theorem sz_num {t : Int} {un : Bool} (h : kdV t un = 1 ∨ kdV t un = 2) : szP t = 1 ∨ szP t = 2 ∨ szP t = 4 ∨ szP t = 8 := by
  unfold kdV isN at h
  unfold szP
  by_cases a : kn t = false
  · rw [if_pos a] at h; omega
  rw [if_neg a] at h
  by_cases b : (t == 1 || t == 2 || t == 13 || t == 3 || t == 9 || t == 8) = true
  · simp only [Bool.or_eq_true, beq_iff_eq] at b
    rcases b with ((((rfl | rfl) | rfl) | rfl) | rfl) | rfl <;> simp
  · rw [if_neg b] at h
    exfalso
    repeat' split at h
    all_goals omega
theorem sz_flt {t : Int} {un : Bool} (h : kdV t un = 3) : szP t = 4 := by
  unfold kdV at h
  by_cases q : t = 4
  · subst q; rfl
  · exfalso
    repeat' split at h
    all_goals omega
theorem sz_dbl {t : Int} {un : Bool} (h : kdV t un = 4) : szP t = 8 := by
  unfold kdV at h
  by_cases q : t = 5
  · subst q; rfl
  · exfalso
    repeat' split at h
    all_goals omega
theorem uns_bd {x n : Int} (h0 : 0 ≤ x) (h1 : x < 18446744073709551616) (hn : n = 1 ∨ n = 2 ∨ n = 4 ∨ n = 8) : 0 ≤ uns x n ∧ uns x n < 2 ^ (8 * n.toNat) := by
  unfold uns
  rcases hn with rfl | rfl | rfl | rfl <;> simp <;> omega
theorem ok_cases {v : Va} {t : Int} {un : Bool} (h : vOk v t un = true) : kdV t un ≠ -1 ∧ (v = va0 ∨ (v ≠ va0 ∧ v.k = kdV t un ∧ fit v t = true)) := by
  unfold vOk mb at h
  simp only [Bool.and_eq_true, Bool.or_eq_true, decide_eq_true_eq] at h
  refine ⟨h.1, ?_⟩
  by_cases q : v = va0
  · exact .inl q
  · rcases h.2 with z | z
    · exact .inl z
    · exact .inr ⟨q, z.1, z.2⟩
/-- A value that may be of one of the kinds: what its fields are. -/
theorem ok_num {v : Va} {t : Int} {un : Bool} (h : vOk v t un = true) (hk : v.k = 1) : szP t = 1 ∨ szP t = 2 ∨ szP t = 4 ∨ szP t = 8 := by
  rcases (ok_cases h).2 with q | ⟨_, q, _⟩
  · rw [q] at hk; exact absurd hk (by decide)
  · exact sz_num (un := un) (.inl (by omega))
theorem ok_bits {v : Va} {t : Int} {un : Bool} (hv : VaK v) (h : vOk v t un = true) (hk : v.k = 2 ∨ v.k = 3 ∨ v.k = 4) : (szP t = 1 ∨ szP t = 2 ∨ szP t = 4 ∨ szP t = 8) ∧ 0 ≤ v.b ∧ v.b < 2 ^ (8 * (szP t).toNat) := by
  rcases (ok_cases h).2 with q | ⟨_, q, f⟩
  · rw [q] at hk; exact absurd hk (by decide)
  · have hs : szP t = 1 ∨ szP t = 2 ∨ szP t = 4 ∨ szP t = 8 := by
      rcases hk with z | z | z
      · exact sz_num (un := un) (.inr (by omega))
      · exact .inr (.inr (.inl (sz_flt (by omega : kdV t un = 3))))
      · exact .inr (.inr (.inr (sz_dbl (by omega : kdV t un = 4))))
    refine ⟨hs, hv.b.1, ?_⟩
    unfold fit at f
    rw [if_neg (by omega), if_pos hk] at f
    simp only [Bool.and_eq_true, beq_iff_eq] at f
    rw [f.2]
    exact (uns_bd hv.b.1 hv.b.2 hs).2
theorem ok_date {v : Va} {t : Int} {un : Bool} (h : vOk v t un = true) (hk : v.k = 5) : dtOk v.w t = true := by
  rcases (ok_cases h).2 with q | ⟨_, q, f⟩
  · rw [q] at hk; exact absurd hk (by decide)
  · unfold fit at f
    rw [if_neg (by omega), if_neg (by omega), if_pos hk] at f
    simp only [Bool.and_eq_true] at f
    exact f.2
theorem ok_time {v : Va} {t : Int} {un : Bool} (h : vOk v t un = true) (hk : v.k = 6) : tmOk v.w = true := by
  rcases (ok_cases h).2 with q | ⟨_, q, f⟩
  · rw [q] at hk; exact absurd hk (by decide)
  · unfold fit at f
    rw [if_neg (by omega), if_neg (by omega), if_neg (by omega), if_pos hk] at f
    simp only [Bool.and_eq_true] at f
    exact f.2
theorem inr_bd {x m : Int} (h : inr x m = true) : 0 ≤ x ∧ x ≤ m := of_decide_eq_true h
theorem dt_bd {w : Wh} {t : Int} (h : dtOk w t = true) : clk w = true ∧ (0 ≤ w.y ∧ w.y ≤ 9999) ∧ (0 ≤ w.mo ∧ w.mo ≤ 12) ∧ (0 ≤ w.d ∧ w.d ≤ 31) := by
  unfold dtOk at h
  simp only [Bool.and_eq_true] at h
  exact ⟨h.2.2.2.2.2, inr_bd h.2.2.1, inr_bd h.2.2.2.1, inr_bd h.2.2.2.2.1⟩
theorem tm_bd {w : Wh} (h : tmOk w = true) : clk w = true ∧ (0 ≤ w.d ∧ w.d ≤ 34) := by
  unfold tmOk at h
  simp only [Bool.and_eq_true] at h
  exact ⟨h.2.2.2.2, inr_bd h.2.2.2.1⟩
theorem clkB_len (v : Wh) : (clkB v).length = 7 := by unfold clkB; simp [le_length]
theorem datA_len (v : Wh) : (datA v).length = 11 := by unfold datA; simp [le_length, clkB_len]
theorem timA_len (v : Wh) : (timA v).length = 12 := by unfold timA; simp [le_length, clkB_len]
theorem datN_le (v : Wh) : datN v ≤ 11 := by unfold datN; repeat' split
                                             all_goals omega
theorem timN_le (v : Wh) : timN v ≤ 12 := by unfold timN; repeat' split
                                             all_goals omega

set_option maxHeartbeats 2000000 in
set_option maxRecDepth 100000 in
theorem bytesOf_any (v : Va) (t : Int) (un : Bool) (w : World) (hv : VaK v) (hO : vOk v t un = true) (hts : v.t.size ≤ 100000) : Calls Try.prog 76 #[.agg (vaC v), .agg #[.int .u8 t, .bool un]] w fun e w' => OutB w (vaB v t) e w' := by
  have P0 := Pv.box w v t un
  obtain ⟨w2, hw2⟩ : ∃ z, z = (w.alloc (.cells (vaC v) 32)).alloc (.cells #[.int .u8 t, .bool un] 27) := ⟨_, rfl⟩
  rw [← hw2] at P0
  have cS := hide (fun wx => vsize_any t wx)
  by_cases h1 : v.k = 1
  · have e1 : vaB v t = le (uns (v.i % 18446744073709551616) (szP t)) (szP t).toNat := by unfold vaB; rw [if_pos h1]
    rw [e1]
    have hs := ok_num hO h1
    have ub := uns_bd (x := v.i % 18446744073709551616) (by omega) (by omega) hs
    have cU := hide (fun wx => unsigned_any (v.i % 18446744073709551616) (szP t) wx (by omega) (by omega))
    have cF := hide (fun wx => vfixed_any (uns (v.i % 18446744073709551616) (szP t)) (szP t).toNat (szP t) (2 ^ (8 * (szP t).toNat)) (by omega) ub rfl (by rcases hs with z | z | z | z <;> rw [z] <;> decide) (by omega) (by omega) wx)
    unfold OutB
    generalize le (uns (v.i % 18446744073709551616) (szP t)) (szP t).toNat = LR at *
    generalize uns (v.i % 18446744073709551616) (szP t) = U at *
    generalize szP t = S at *
    clear e1 hO hv hts ub hs
    obtain ⟨k, i, b, tx, ⟨ng, y, mo, d, h, mi, s, mc⟩⟩ := v
    unfold vaC
    simp only at *
    have PP := hide P0
    obtain ⟨k0, k1, k2, k3, k4, k5, k6, k7, k8, k9, k10, k11, t0, t1⟩ := P0.cells
    have HW := hide (show (w.alloc (.cells #[.int .i64 k, .int .i64 i, .int .u64 b, .string tx, .bool ng, .int .i64 y, .int .i64 mo, .int .i64 d, .int .i64 h, .int .i64 mi, .int .i64 s, .int .i64 mc] 32)).alloc (.cells #[.int .u8 t, .bool un] 27) = w2 from hw2.symm)
    clear hw2 P0
    subst h1
    go_enter Try.func76, Try.ntmps76
    go_wp2_with (first | (go_at_call 71; (with_reducible refine same_world (unhide cS _) ?_)) | (go_at_call 73; rw [IntKind.wrap_u64]; (with_reducible refine same_world (unhide cU _) ?_)) | (go_at_call 87; rw [unhide HW]; (with_reducible refine (unhide cF _).mono ?_); rintro e wq ⟨ao, n, c, rfl, mq, bq⟩; have MQ := hide (mq.mono (unhide PP).bl.size); have BQ := hide ((unhide PP).later bq).bl; clear mq bq))
    go_ret
    exact ⟨_, _, _, rfl, unhide MQ, unhide BQ⟩
  by_cases h2 : v.k = 2 ∨ v.k = 3 ∨ v.k = 4
  · have e1 : vaB v t = le v.b (szP t).toNat := by unfold vaB; rw [if_neg h1, if_pos h2]
    rw [e1]
    obtain ⟨hs, ub⟩ := ok_bits hv hO h2
    have cF := hide (fun wx => vfixed_any v.b (szP t).toNat (szP t) (2 ^ (8 * (szP t).toNat)) (by omega) ub rfl (by rcases hs with z | z | z | z <;> rw [z] <;> decide) (by omega) (by omega) wx)
    unfold OutB
    generalize le v.b (szP t).toNat = LR at *
    generalize szP t = S at *
    clear e1 hO hv hts ub hs
    obtain ⟨k, i, b, tx, ⟨ng, y, mo, d, h, mi, s, mc⟩⟩ := v
    unfold vaC
    simp only at *
    have PP := hide P0
    obtain ⟨k0, k1, k2, k3, k4, k5, k6, k7, k8, k9, k10, k11, t0, t1⟩ := P0.cells
    have HW := hide (show (w.alloc (.cells #[.int .i64 k, .int .i64 i, .int .u64 b, .string tx, .bool ng, .int .i64 y, .int .i64 mo, .int .i64 d, .int .i64 h, .int .i64 mi, .int .i64 s, .int .i64 mc] 32)).alloc (.cells #[.int .u8 t, .bool un] 27) = w2 from hw2.symm)
    clear hw2 P0
    clear h1
    rcases h2 with rfl | rfl | rfl
    all_goals
      go_enter Try.func76, Try.ntmps76
      go_wp2_with (first | (go_at_call 71; (with_reducible refine same_world (unhide cS _) ?_)) | (go_at_call 87; rw [unhide HW]; (with_reducible refine (unhide cF _).mono ?_); rintro e wq ⟨ao, n, c, rfl, mq, bq⟩; have MQ := hide (mq.mono (unhide PP).bl.size); have BQ := hide ((unhide PP).later bq).bl; clear mq bq))
      go_ret
      exact ⟨_, _, _, rfl, unhide MQ, unhide BQ⟩
  by_cases h5 : v.k = 5
  · have e1 : vaB v t = cntB (datA v.w) (datN v.w) := by unfold vaB; rw [if_neg h1, if_neg h2, if_pos h5]
    rw [e1]
    have bd := dt_bd (ok_date hO h5)
    have cD := hide (fun wx => dateBytes_any v.w wx bd.1 bd.2.1 bd.2.2.1 bd.2.2.2)
    have cN := hide (fun wx => dateLength_any v.w wx)
    have hal := datA_len v.w
    have hnl := datN_le v.w
    have cQ := hide (fun (wx : World) ao n c (x : Bs wx ao n c (datA v.w)) => counted_any ao n c (datA v.w) (datN v.w) wx x (by have := x.len; omega) (by have := x.len; omega))
    unfold OutB at cQ ⊢
    generalize cntB (datA v.w) (datN v.w) = LR at *
    generalize datA v.w = LA at *
    generalize datN v.w = NN at *
    clear e1 bd hO hv h1 h2 hts
    unfold whC at cD cN
    obtain ⟨k, i, b, tx, ⟨ng, y, mo, d, h, mi, s, mc⟩⟩ := v
    unfold vaC
    simp only at *
    have PP := hide P0
    obtain ⟨k0, k1, k2, k3, k4, k5, k6, k7, k8, k9, k10, k11, t0, t1⟩ := P0.cells
    have HW := hide (show (w.alloc (.cells #[.int .i64 k, .int .i64 i, .int .u64 b, .string tx, .bool ng, .int .i64 y, .int .i64 mo, .int .i64 d, .int .i64 h, .int .i64 mi, .int .i64 s, .int .i64 mc] 32)).alloc (.cells #[.int .u8 t, .bool un] 27) = w2 from hw2.symm)
    clear hw2 P0
    subst h5
    go_enter Try.func76, Try.ntmps76
    go_upto_region 10 with (first | (go_at_call 71; (with_reducible refine same_world (unhide cS _) ?_)))
    rw [unhide HW]
    go_region_held3 (fun w' => w'.cell? ⟨w.heap.size, 0, none⟩ = some (.int .i64 5) ∧ w'.cell? ⟨w.heap.size, 1, none⟩ = some (.int .i64 i) ∧ w'.cell? ⟨w.heap.size, 2, none⟩ = some (.int .u64 b) ∧ w'.cell? ⟨w.heap.size, 3, none⟩ = some (.string tx) ∧ w'.cell? ⟨w.heap.size, 4, none⟩ = some (.bool ng) ∧ w'.cell? ⟨w.heap.size, 5, none⟩ = some (.int .i64 y) ∧ w'.cell? ⟨w.heap.size, 6, none⟩ = some (.int .i64 mo) ∧ w'.cell? ⟨w.heap.size, 7, none⟩ = some (.int .i64 d) ∧ w'.cell? ⟨w.heap.size, 8, none⟩ = some (.int .i64 h) ∧ w'.cell? ⟨w.heap.size, 9, none⟩ = some (.int .i64 mi) ∧ w'.cell? ⟨w.heap.size, 10, none⟩ = some (.int .i64 s) ∧ w'.cell? ⟨w.heap.size, 11, none⟩ = some (.int .i64 mc) ∧ w'.cell? ⟨w.heap.size + 1, 0, none⟩ = some (.int .u8 t) ∧ w'.cell? ⟨w.heap.size + 1, 1, none⟩ = some (.bool un)) (first | exact (unhide PP).cells | exact (unhide PP).drew.cells | go_keep) (first | (go_at_call 89; (with_reducible refine (unhide cD w2).mono ?_); rintro e wq ⟨ao, n, c, rfl, mq, bq⟩; have P2 := (unhide PP).later bq; clear k0 k1 k2 k3 k4 k5 k6 k7 k8 k9 k10 k11 t0 t1; obtain ⟨k0, k1, k2, k3, k4, k5, k6, k7, k8, k9, k10, k11, t0, t1⟩ := P2.cells; have PP := hide P2; clear P2) | (go_at_call 89; (with_reducible refine (unhide cD w2.drew).mono ?_); rintro e wq ⟨ao, n, c, rfl, mq, bq⟩; have P2 := (unhide PP).drew.later bq; clear k0 k1 k2 k3 k4 k5 k6 k7 k8 k9 k10 k11 t0 t1; obtain ⟨k0, k1, k2, k3, k4, k5, k6, k7, k8, k9, k10, k11, t0, t1⟩ := P2.cells; have PP := hide P2; clear P2) | (go_at_call 90; (with_reducible refine (unhide cN wq).mono ?_); rintro e wr ⟨rfl, br⟩; have mr := mq.bs.later br; have hB := Nat.le_trans (unhide PP).bl.size br.size; have P2 := (unhide PP).later br; clear k0 k1 k2 k3 k4 k5 k6 k7 k8 k9 k10 k11 t0 t1; obtain ⟨k0, k1, k2, k3, k4, k5, k6, k7, k8, k9, k10, k11, t0, t1⟩ := P2.cells; have PP := hide P2; clear P2) | (go_at_call 88; (with_reducible refine (unhide cQ wr ao n c mr).mono ?_); rintro e wz ⟨az, nz, cz, rfl, mz, bz⟩; have MZ := hide (mz.mono hB); have P2 := (unhide PP).later bz; clear k0 k1 k2 k3 k4 k5 k6 k7 k8 k9 k10 k11 t0 t1; obtain ⟨k0, k1, k2, k3, k4, k5, k6, k7, k8, k9, k10, k11, t0, t1⟩ := P2.cells; have PP := hide P2; clear P2))
    all_goals
      clear mz bz mr br mq bq
      go_wp2_with fail
      go_ret
      exact ⟨_, _, _, rfl, unhide MZ, (unhide PP).bl⟩
  by_cases h6 : v.k = 6
  · have e1 : vaB v t = cntB (timA v.w) (timN v.w) := by unfold vaB; rw [if_neg h1, if_neg h2, if_neg h5, if_pos h6]
    rw [e1]
    have bd := tm_bd (ok_time hO h6)
    have cD := hide (fun wx => timeBytes_any v.w wx bd.1 bd.2)
    have cN := hide (fun wx => timeLength_any v.w wx)
    have hal := timA_len v.w
    have hnl := timN_le v.w
    have cQ := hide (fun (wx : World) ao n c (x : Bs wx ao n c (timA v.w)) => counted_any ao n c (timA v.w) (timN v.w) wx x (by have := x.len; omega) (by have := x.len; omega))
    unfold OutB at cQ ⊢
    generalize cntB (timA v.w) (timN v.w) = LR at *
    generalize timA v.w = LA at *
    generalize timN v.w = NN at *
    clear e1 bd hO hv h1 h2 h5 hts
    unfold whC at cD cN
    obtain ⟨k, i, b, tx, ⟨ng, y, mo, d, h, mi, s, mc⟩⟩ := v
    unfold vaC
    simp only at *
    have PP := hide P0
    obtain ⟨k0, k1, k2, k3, k4, k5, k6, k7, k8, k9, k10, k11, t0, t1⟩ := P0.cells
    have HW := hide (show (w.alloc (.cells #[.int .i64 k, .int .i64 i, .int .u64 b, .string tx, .bool ng, .int .i64 y, .int .i64 mo, .int .i64 d, .int .i64 h, .int .i64 mi, .int .i64 s, .int .i64 mc] 32)).alloc (.cells #[.int .u8 t, .bool un] 27) = w2 from hw2.symm)
    clear hw2 P0
    subst h6
    go_enter Try.func76, Try.ntmps76
    go_upto_region 12 with (first | (go_at_call 71; (with_reducible refine same_world (unhide cS _) ?_)))
    rw [unhide HW]
    go_region_held3 (fun w' => w'.cell? ⟨w.heap.size, 0, none⟩ = some (.int .i64 6) ∧ w'.cell? ⟨w.heap.size, 1, none⟩ = some (.int .i64 i) ∧ w'.cell? ⟨w.heap.size, 2, none⟩ = some (.int .u64 b) ∧ w'.cell? ⟨w.heap.size, 3, none⟩ = some (.string tx) ∧ w'.cell? ⟨w.heap.size, 4, none⟩ = some (.bool ng) ∧ w'.cell? ⟨w.heap.size, 5, none⟩ = some (.int .i64 y) ∧ w'.cell? ⟨w.heap.size, 6, none⟩ = some (.int .i64 mo) ∧ w'.cell? ⟨w.heap.size, 7, none⟩ = some (.int .i64 d) ∧ w'.cell? ⟨w.heap.size, 8, none⟩ = some (.int .i64 h) ∧ w'.cell? ⟨w.heap.size, 9, none⟩ = some (.int .i64 mi) ∧ w'.cell? ⟨w.heap.size, 10, none⟩ = some (.int .i64 s) ∧ w'.cell? ⟨w.heap.size, 11, none⟩ = some (.int .i64 mc) ∧ w'.cell? ⟨w.heap.size + 1, 0, none⟩ = some (.int .u8 t) ∧ w'.cell? ⟨w.heap.size + 1, 1, none⟩ = some (.bool un)) (first | exact (unhide PP).cells | exact (unhide PP).drew.cells | go_keep) (first | (go_at_call 91; (with_reducible refine (unhide cD w2).mono ?_); rintro e wq ⟨ao, n, c, rfl, mq, bq⟩; have P2 := (unhide PP).later bq; clear k0 k1 k2 k3 k4 k5 k6 k7 k8 k9 k10 k11 t0 t1; obtain ⟨k0, k1, k2, k3, k4, k5, k6, k7, k8, k9, k10, k11, t0, t1⟩ := P2.cells; have PP := hide P2; clear P2) | (go_at_call 91; (with_reducible refine (unhide cD w2.drew).mono ?_); rintro e wq ⟨ao, n, c, rfl, mq, bq⟩; have P2 := (unhide PP).drew.later bq; clear k0 k1 k2 k3 k4 k5 k6 k7 k8 k9 k10 k11 t0 t1; obtain ⟨k0, k1, k2, k3, k4, k5, k6, k7, k8, k9, k10, k11, t0, t1⟩ := P2.cells; have PP := hide P2; clear P2) | (go_at_call 92; (with_reducible refine (unhide cN wq).mono ?_); rintro e wr ⟨rfl, br⟩; have mr := mq.bs.later br; have hB := Nat.le_trans (unhide PP).bl.size br.size; have P2 := (unhide PP).later br; clear k0 k1 k2 k3 k4 k5 k6 k7 k8 k9 k10 k11 t0 t1; obtain ⟨k0, k1, k2, k3, k4, k5, k6, k7, k8, k9, k10, k11, t0, t1⟩ := P2.cells; have PP := hide P2; clear P2) | (go_at_call 88; (with_reducible refine (unhide cQ wr ao n c mr).mono ?_); rintro e wz ⟨az, nz, cz, rfl, mz, bz⟩; have MZ := hide (mz.mono hB); have P2 := (unhide PP).later bz; clear k0 k1 k2 k3 k4 k5 k6 k7 k8 k9 k10 k11 t0 t1; obtain ⟨k0, k1, k2, k3, k4, k5, k6, k7, k8, k9, k10, k11, t0, t1⟩ := P2.cells; have PP := hide P2; clear P2))
    all_goals
      clear mz bz mr br mq bq
      go_wp2_with fail
      go_ret
      exact ⟨_, _, _, rfl, unhide MZ, (unhide PP).bl⟩
  by_cases h7 : v.k = 7
  · have e1 : vaB v t = txB v.t := by unfold vaB; rw [if_neg h1, if_neg h2, if_neg h5, if_neg h6, if_pos h7]
    rw [e1]
    have cA := hide (fun wx => appendText_any none 0 0 [] v.t wx (Bs.nought wx) (by omega))
    have hB : [] ++ form (v.t.size : Int) ++ nums v.t = txB v.t := by unfold txB; rfl
    rw [hB] at cA
    simp only [Nat.zero_add] at cA
    unfold OutB
    generalize txB v.t = LR at *
    clear e1 hO hv hts hB h1 h2 h5 h6
    obtain ⟨k, i, b, tx, ⟨ng, y, mo, d, h, mi, s, mc⟩⟩ := v
    unfold vaC
    simp only at *
    have PP := hide P0
    obtain ⟨k0, k1, k2, k3, k4, k5, k6, k7, k8, k9, k10, k11, t0, t1⟩ := P0.cells
    have HW := hide (show (w.alloc (.cells #[.int .i64 k, .int .i64 i, .int .u64 b, .string tx, .bool ng, .int .i64 y, .int .i64 mo, .int .i64 d, .int .i64 h, .int .i64 mi, .int .i64 s, .int .i64 mc] 32)).alloc (.cells #[.int .u8 t, .bool un] 27) = w2 from hw2.symm)
    clear hw2 P0
    subst h7
    go_enter Try.func76, Try.ntmps76
    go_wp2_with (first | (go_at_call 71; (with_reducible refine same_world (unhide cS _) ?_)) | (go_at_call 93; rw [unhide HW]; (with_reducible refine (unhide cA _).mono ?_); rintro e wq ⟨ao, c, rfl, mq, bq⟩; have MQ := hide (mq.mono (unhide PP).bl.size); have BQ := hide ((unhide PP).later bq).bl; clear mq bq))
    go_ret
    exact ⟨_, _, _, rfl, unhide MQ, unhide BQ⟩
  have e1 : vaB v t = [] := by unfold vaB; rw [if_neg h1, if_neg h2, if_neg h5, if_neg h6, if_neg h7]
  rw [e1]
  clear e1 hO hv hts
  have g1 : (v.k == 1) = false := by simpa using h1
  have g2 : (v.k == 2) = false := by simp; omega
  have g3 : (v.k == 3) = false := by simp; omega
  have g4 : (v.k == 4) = false := by simp; omega
  have g5 : (v.k == 5) = false := by simpa using h5
  have g6 : (v.k == 6) = false := by simpa using h6
  have g7 : (v.k == 7) = false := by simpa using h7
  clear h1 h2 h5 h6 h7
  obtain ⟨k, i, b, tx, ⟨ng, y, mo, d, h, mi, s, mc⟩⟩ := v
  unfold vaC
  simp only at *
  have PP := hide P0
  obtain ⟨k0, k1, k2, k3, k4, k5, k6, k7, k8, k9, k10, k11, t0, t1⟩ := P0.cells
  have HW := hide (show (w.alloc (.cells #[.int .i64 k, .int .i64 i, .int .u64 b, .string tx, .bool ng, .int .i64 y, .int .i64 mo, .int .i64 d, .int .i64 h, .int .i64 mi, .int .i64 s, .int .i64 mc] 32)).alloc (.cells #[.int .u8 t, .bool un] 27) = w2 from hw2.symm)
  clear hw2 P0
  go_enter Try.func76, Try.ntmps76
  go_wp2_with (first | (go_at_call 71; (with_reducible refine same_world (unhide cS _) ?_)))
  go_ret
  rw [unhide HW]
  exact ⟨_, _, _, rfl, Mine.nought _ _, (unhide PP).bl⟩

theorem check_pv {w0 : World} {v : Va} {t : Int} {un : Bool} (q0 : 0 ≤ t) (q1 : t < 256) (hv : VaK v) (w : World) (h : Pv w0 v t un w) : Calls Try.prog 37 #[.agg (vaC v), .agg #[.int .u8 t, .bool un]] w fun e w' => e = .returned (.int .i64 (if vOk v t un = true then 0 else 2)) ∧ Pv w0 v t un w' :=
  (check_any v t un w q0 q1 hv).mono fun _ _ ⟨e, b⟩ => ⟨e, h.later b⟩
theorem cntB_len (l : List Int) (n : Nat) : (cntB l n).length ≤ 1 + l.length := by unfold cntB; simp; omega
theorem vaB_len (v : Va) (t : Int) : (vaB v t).length ≤ v.t.size + 20 := by
  unfold vaB
  repeat' split
  · rw [le_length]; unfold szP; repeat' split
    all_goals simp
  · rw [le_length]; unfold szP; repeat' split
    all_goals simp
  · have := cntB_len (datA v.w) (datN v.w); rw [datA_len] at this; omega
  · have := cntB_len (timA v.w) (timN v.w); rw [timA_len] at this; omega
  · have := txB_len v.t; omega
  · simp

set_option maxHeartbeats 2000000 in
set_option maxRecDepth 100000 in
theorem append_any (bo : Option Addr) (bn bc : Nat) (bb : List Int) (v : Va) (t : Int) (un : Bool) (w : World) (q0 : 0 ≤ t) (q1 : t < 256) (hv : VaK v) (hb : Bs w bo bn bc bb) (hsz : bb.length ≤ 100000) (hts : v.t.size ≤ 100000) :
    Calls Try.prog 59 #[.slice bo bn bc, .agg (vaC v), .agg #[.int .u8 t, .bool un]] w fun e w' => OutP w (if bOk v t un = true then some (bb ++ vaB v t) else none) e w' := by
  have P0 := Pv.box w v t un
  obtain ⟨w2, hw2⟩ : ∃ z, z = (w.alloc (.cells (vaC v) 32)).alloc (.cells #[.int .u8 t, .bool un] 27) := ⟨_, rfl⟩
  rw [← hw2] at P0
  have hbl := hb.len
  have cC := hide (fun wx (hq : Pv w v t un wx) => check_pv q0 q1 hv wx hq)
  unfold bOk
  cases hO : vOk v t un
  · rw [hO, if_neg (by decide)] at cC
    rw [Bool.false_and, if_neg (by decide)]
    clear hv q0 q1 hO hts hsz hb hbl
    unfold vaC at cC
    obtain ⟨k, i, b, tx, ⟨ng, y, mo, d, h, mi, s, mc⟩⟩ := v
    unfold vaC
    simp only at *
    have PP := hide P0
    obtain ⟨k0, k1, k2, k3, k4, k5, k6, k7, k8, k9, k10, k11, t0, t1⟩ := P0.cells
    have HW := hide (show (w.alloc (.cells #[.int .i64 k, .int .i64 i, .int .u64 b, .string tx, .bool ng, .int .i64 y, .int .i64 mo, .int .i64 d, .int .i64 h, .int .i64 mi, .int .i64 s, .int .i64 mc] 32)).alloc (.cells #[.int .u8 t, .bool un] 27) = w2 from hw2.symm)
    clear hw2 P0
    go_enter Try.func59, Try.ntmps59
    go_wp2_with (first | (go_at_call 37; rw [unhide HW]; (with_reducible refine (unhide cC _ (unhide PP)).mono ?_); rintro e wq ⟨rfl, P2⟩; clear k0 k1 k2 k3 k4 k5 k6 k7 k8 k9 k10 k11 t0 t1; obtain ⟨k0, k1, k2, k3, k4, k5, k6, k7, k8, k9, k10, k11, t0, t1⟩ := P2.cells; have PP := hide P2; clear P2) | (go_at_call 76; (with_reducible refine (unhide cB _).mono ?_); rintro e wr ⟨ao, n, c, rfl, mr, br⟩; have MR := hide mr.bs; have P2 := (unhide PP).later br; clear br mr; have PP := hide P2; clear P2) | (go_at_call 20; (with_reducible refine (unhide cA wr ao n c (unhide PP).bl (unhide MR)).mono ?_); rintro e wz ⟨az, nz, cz, rfl, mz, bz⟩; have MZ := hide (mz.mono (Nat.le_trans (unhide PP).bl.size (Nat.le_of_lt (by simp)))); have P2 := ((unhide PP).later (below_alloc wr _)).later bz; clear mz bz; have PP := hide P2; clear P2))
    go_ret2
    exact ⟨rfl, (unhide PP).bl⟩

  · rw [hO, if_pos rfl] at cC
    rw [Bool.true_and]
    by_cases hz : v.k = 0
    · have g0 : (v.k == 0) = true := by simpa using hz
      by_cases h6 : t = 6
      · subst h6
        have cB := hide (fun wx => bytesOf_any v 6 un wx hv hO hts)
        unfold OutB at cB
        have hvl := vaB_len v 6
        rw [g0, show ((6 : Int) != 6) = false by decide, if_pos (by decide)]
        have cA := hide (fun (wx : World) (ao : Option Addr) (n c : Nat) (hB : Below w.heap.size w wx) (x : Bs wx ao n c (vaB v 6)) => concat_any wx.heap.size bo bn bc bb ao n c (vaB v 6) (wx.alloc (.cells #[.slice bo bn bc, .slice ao n c] 22)) ((hb.later hB).later (below_alloc wx _)) (x.later (below_alloc wx _)) (cell_top wx _ _ 0 _ rfl) (cell_top wx _ _ 1 _ rfl) (by omega) (by have := x.len; omega))
        generalize vaB v 6 = LR at *
        clear hv q0 q1 hO hts hb hvl hz
        unfold vaC at cC cB
        obtain ⟨k, i, b, tx, ⟨ng, y, mo, d, h, mi, s, mc⟩⟩ := v
        unfold vaC
        simp only at *
        have PP := hide P0
        obtain ⟨k0, k1, k2, k3, k4, k5, k6, k7, k8, k9, k10, k11, t0, t1⟩ := P0.cells
        have HW := hide (show (w.alloc (.cells #[.int .i64 k, .int .i64 i, .int .u64 b, .string tx, .bool ng, .int .i64 y, .int .i64 mo, .int .i64 d, .int .i64 h, .int .i64 mi, .int .i64 s, .int .i64 mc] 32)).alloc (.cells #[.int .u8 6, .bool un] 27) = w2 from hw2.symm)
        clear hw2 P0
        go_enter Try.func59, Try.ntmps59
        go_wp2_with (first | (go_at_call 37; rw [unhide HW]; (with_reducible refine (unhide cC _ (unhide PP)).mono ?_); rintro e wq ⟨rfl, P2⟩; clear k0 k1 k2 k3 k4 k5 k6 k7 k8 k9 k10 k11 t0 t1; obtain ⟨k0, k1, k2, k3, k4, k5, k6, k7, k8, k9, k10, k11, t0, t1⟩ := P2.cells; have PP := hide P2; clear P2) | (go_at_call 76; (with_reducible refine (unhide cB _).mono ?_); rintro e wr ⟨ao, n, c, rfl, mr, br⟩; have MR := hide mr.bs; have P2 := (unhide PP).later br; clear br mr; have PP := hide P2; clear P2) | (go_at_call 20; (with_reducible refine (unhide cA wr ao n c (unhide PP).bl (unhide MR)).mono ?_); rintro e wz ⟨az, nz, cz, rfl, mz, bz⟩; have MZ := hide (mz.mono (Nat.le_trans (unhide PP).bl.size (Nat.le_of_lt (by simp)))); have P2 := ((unhide PP).later (below_alloc wr _)).later bz; clear mz bz; have PP := hide P2; clear P2))
        go_ret2
        exact ⟨_, _, _, rfl, unhide MZ, (unhide PP).bl⟩

      · have g6 : (t != 6) = true := by simpa using h6
        rw [g0, g6, if_neg (by decide)]
        clear hv q0 q1 hO hts hsz hb hbl hz h6
        unfold vaC at cC
        obtain ⟨k, i, b, tx, ⟨ng, y, mo, d, h, mi, s, mc⟩⟩ := v
        unfold vaC
        simp only at *
        have PP := hide P0
        obtain ⟨k0, k1, k2, k3, k4, k5, k6, k7, k8, k9, k10, k11, t0, t1⟩ := P0.cells
        have HW := hide (show (w.alloc (.cells #[.int .i64 k, .int .i64 i, .int .u64 b, .string tx, .bool ng, .int .i64 y, .int .i64 mo, .int .i64 d, .int .i64 h, .int .i64 mi, .int .i64 s, .int .i64 mc] 32)).alloc (.cells #[.int .u8 t, .bool un] 27) = w2 from hw2.symm)
        clear hw2 P0
        go_enter Try.func59, Try.ntmps59
        go_wp2_with (first | (go_at_call 37; rw [unhide HW]; (with_reducible refine (unhide cC _ (unhide PP)).mono ?_); rintro e wq ⟨rfl, P2⟩; clear k0 k1 k2 k3 k4 k5 k6 k7 k8 k9 k10 k11 t0 t1; obtain ⟨k0, k1, k2, k3, k4, k5, k6, k7, k8, k9, k10, k11, t0, t1⟩ := P2.cells; have PP := hide P2; clear P2) | (go_at_call 76; (with_reducible refine (unhide cB _).mono ?_); rintro e wr ⟨ao, n, c, rfl, mr, br⟩; have MR := hide mr.bs; have P2 := (unhide PP).later br; clear br mr; have PP := hide P2; clear P2) | (go_at_call 20; (with_reducible refine (unhide cA wr ao n c (unhide PP).bl (unhide MR)).mono ?_); rintro e wz ⟨az, nz, cz, rfl, mz, bz⟩; have MZ := hide (mz.mono (Nat.le_trans (unhide PP).bl.size (Nat.le_of_lt (by simp)))); have P2 := ((unhide PP).later (below_alloc wr _)).later bz; clear mz bz; have PP := hide P2; clear P2))
        go_ret2
        exact ⟨rfl, (unhide PP).bl⟩

    · have g0 : (v.k == 0) = false := by simpa using hz
      have cB := hide (fun wx => bytesOf_any v t un wx hv hO hts)
      unfold OutB at cB
      have hvl := vaB_len v t
      rw [g0, Bool.false_and, if_pos (by decide)]
      have cA := hide (fun (wx : World) (ao : Option Addr) (n c : Nat) (hB : Below w.heap.size w wx) (x : Bs wx ao n c (vaB v t)) => concat_any wx.heap.size bo bn bc bb ao n c (vaB v t) (wx.alloc (.cells #[.slice bo bn bc, .slice ao n c] 22)) ((hb.later hB).later (below_alloc wx _)) (x.later (below_alloc wx _)) (cell_top wx _ _ 0 _ rfl) (cell_top wx _ _ 1 _ rfl) (by omega) (by have := x.len; omega))
      generalize vaB v t = LR at *
      clear hv q0 q1 hO hts hb hvl hz
      unfold vaC at cC cB
      obtain ⟨k, i, b, tx, ⟨ng, y, mo, d, h, mi, s, mc⟩⟩ := v
      unfold vaC
      simp only at *
      have PP := hide P0
      obtain ⟨k0, k1, k2, k3, k4, k5, k6, k7, k8, k9, k10, k11, t0, t1⟩ := P0.cells
      have HW := hide (show (w.alloc (.cells #[.int .i64 k, .int .i64 i, .int .u64 b, .string tx, .bool ng, .int .i64 y, .int .i64 mo, .int .i64 d, .int .i64 h, .int .i64 mi, .int .i64 s, .int .i64 mc] 32)).alloc (.cells #[.int .u8 t, .bool un] 27) = w2 from hw2.symm)
      clear hw2 P0
      go_enter Try.func59, Try.ntmps59
      go_wp2_with (first | (go_at_call 37; rw [unhide HW]; (with_reducible refine (unhide cC _ (unhide PP)).mono ?_); rintro e wq ⟨rfl, P2⟩; clear k0 k1 k2 k3 k4 k5 k6 k7 k8 k9 k10 k11 t0 t1; obtain ⟨k0, k1, k2, k3, k4, k5, k6, k7, k8, k9, k10, k11, t0, t1⟩ := P2.cells; have PP := hide P2; clear P2) | (go_at_call 76; (with_reducible refine (unhide cB _).mono ?_); rintro e wr ⟨ao, n, c, rfl, mr, br⟩; have MR := hide mr.bs; have P2 := (unhide PP).later br; clear br mr; have PP := hide P2; clear P2) | (go_at_call 20; (with_reducible refine (unhide cA wr ao n c (unhide PP).bl (unhide MR)).mono ?_); rintro e wz ⟨az, nz, cz, rfl, mz, bz⟩; have MZ := hide (mz.mono (Nat.le_trans (unhide PP).bl.size (Nat.le_of_lt (by simp)))); have P2 := ((unhide PP).later (below_alloc wr _)).later bz; clear mz bz; have PP := hide P2; clear P2))
      go_ret2
      exact ⟨_, _, _, rfl, unhide MZ, (unhide PP).bl⟩



end Go.Proofs.Ytfgghgoonfamkaa
