/-
  What Of of package value returns. It writes nothing that was there. Conditions: the library's variables read as their initialisers lay them; texts of at most 2^40 bytes; the type is a byte.
-/
import Derived.Test.YtgldbainhncneaaGreatDoorVaOf1
import Derived.Test.YtgldbainhncneaaGreatDoorMTo
import Derived.Test.YtgldbainhncneaaGreatDoorVaMay
import Derived.Test.YtgldbainhncneaaGreatDoorMRd
import Derived.Test.YtgldbainhncneaaGreatDoorMLf
namespace Go.Proofs.YtgldbainhncneaaGreatDoor
open Go.RowKit
set_option linter.unusedVariables false
set_option linter.unusedSimpArgs false

theorem piV_bd (l : List UInt8) : i64 (piV l) := by
  unfold piV
  rw [Lib.parseIntB_64, Lib.intSat_64]
  exact atV_bd l
theorem puV_bd (l : List UInt8) : 0 ≤ puV l ∧ puV l < 18446744073709551616 := by
  unfold puV
  cases h : Lib.parseUintB 64 l with
  | ok v => have := Lib.parseUintB_le h; simp at *; omega
  | «syntax» => exact ⟨by simp, by simp⟩
  | range => exact ⟨by simp, by simp⟩
theorem i64_0 : i64 0 := ⟨by decide, by decide⟩
theorem wh0_K : WhK wh0 := ⟨i64_0, i64_0, i64_0, i64_0, i64_0, i64_0, i64_0⟩
theorem tdiv24_bd {x : Int} (h : i64 x) : i64 (x.tdiv 24) := by
  obtain ⟨h0, h1⟩ := h
  unfold i64
  rcases Int.le_total 0 x with q | q
  · rw [Int.tdiv_eq_ediv_of_nonneg q]; omega
  · obtain ⟨y, rfl⟩ : ∃ y, x = -y := ⟨-x, by omega⟩
    rw [Int.neg_tdiv, Int.tdiv_eq_ediv_of_nonneg (by omega)]
    omega
theorem tmod24_bd {x : Int} : i64 (x.tmod 24) := by
  have h1 := Int.tmod_lt_of_pos x (show (0 : Int) < 24 by decide)
  have h2 := Int.lt_tmod_of_pos x (show (0 : Int) < 24 by decide)
  unfold i64
  omega
theorem gsV_K (s : ByteArray) (t : Int) (un : Bool) : VaK (gsV s t un) := by
  have hk : i64 (kdV t un) := by
    unfold i64
    rcases kd_cases t un with h | h | h | h | h | h | h | h | h <;> rw [h] <;> decide
  have z : (0 : Int) ≤ 0 ∧ (0 : Int) < 18446744073709551616 := by decide
  unfold gsV
  simp only
  split
  · exact ⟨hk, piV_bd _, z, wh0_K⟩
  split
  · exact ⟨hk, i64_0, puV_bd _, wh0_K⟩
  split
  · exact ⟨hk, i64_0, z, ⟨nxA_bd _ _, nxA_bd _ _, nxA_bd _ _, nxA_bd _ _, nxA_bd _ _, nxA_bd _ _, nxA_bd _ _⟩⟩
  split
  · exact ⟨hk, i64_0, z, ⟨i64_0, i64_0, tdiv24_bd (nxA_bd _ _), tmod24_bd, nxA_bd _ _, nxA_bd _ _, nxA_bd _ _⟩⟩
  split
  · exact ⟨hk, i64_0, z, wh0_K⟩
  · exact ⟨hk, i64_0, z, wh0_K⟩
theorem mb_six {v : Va} {t : Int} {un : Bool} (h : mb v t un = true) (hk : v.k = 6) : inr v.w.d 34 = true ∧ inr v.w.h 23 = true := by
  unfold mb at h
  simp only [Bool.and_eq_true, Bool.or_eq_true, decide_eq_true_eq] at h
  rcases h with h | h
  · rw [h] at hk; exact absurd hk (by decide)
  · have := h.2
    unfold fit tmOk clk at this
    rw [if_neg (by omega), if_neg (by omega), if_neg (by omega), if_pos hk] at this
    simp only [Bool.and_eq_true] at this
    exact ⟨this.2.2.2.2.1, this.2.2.2.2.2.1⟩
theorem guess_any (s : ByteArray) (t : Int) (un : Bool) (w : World) (q0 : 0 ≤ t) (q1 : t < 256) (hz : VarZ w) (hs : s.size ≤ 1099511627776) (hh : hasT (kdV t un) = true) :
    Calls Tryz.prog 25 #[.string s, .agg #[.int .u8 t, .bool un]] w fun e w' => e = .returned (.agg (vaC (gsV s t un))) ∧ Below w.heap.size w w' := by
  rcases kd_cases t un with h | h | h | h | h | h | h | h | h
  · rw [h] at hh; exact absurd hh (by decide)
  · rw [h] at hh; exact absurd hh (by decide)
  · exact guess_1 s t un w q0 q1 hz hs h
  · exact guess_2 s t un w q0 q1 hz hs h
  · rw [h] at hh; exact absurd hh (by decide)
  · rw [h] at hh; exact absurd hh (by decide)
  · exact guess_5 s t un w q0 q1 hz hs h
  · exact guess_6 s t un w q0 q1 hz hs h
  · exact guess_7 s t un w q0 q1 hz hs h
theorem results_row_tmp1 {P : Program} {fn : Func} {p u : Tmp} {ty : TypeId} (h : fn.results = #[.cell p ty, .tmp u]) (tmps : Array Value) (w : World) (g : Nat) (cs : Array Value) (hp : tmps.getD p undef = .pointer (some ⟨g, 0, none⟩)) (hl : (loadVar ty ⟨g, 0, none⟩).run P w = .ok (.agg cs) w) :
    (results fn tmps).run P w = .ok (.tuple #[.agg cs, tmps.getD u undef]) w := by
  have hp' : tmps[p]?.getD undef = .pointer (some ⟨g, 0, none⟩) := by simpa using hp
  simp [results, h, Sem.run_bind, Result.andThen, hp', asAddr, hl]
/-- Of's two blocks, and the variables. -/
structure Qz (w0 : World) (t : Int) (un : Bool) (C : Array Value) (w : World) : Prop where
  p : Pz w0 t un C w
  z : VarZ w
theorem Qz.later {w0 w w' : World} {t : Int} {un : Bool} {C : Array Value} (h : Qz w0 t un C w) (b : Below w.heap.size w w') : Qz w0 t un C w' := ⟨h.p.later b, h.z.later b⟩

set_option maxHeartbeats 1000000 in
set_option maxRecDepth 100000 in
theorem of_any (s : ByteArray) (t : Int) (un : Bool) (w : World) (q0 : 0 ≤ t) (q1 : t < 256) (hz : VarZ w) (hs : s.size ≤ 1099511627776) :
    Calls Tryz.prog 11 #[.string s, .agg #[.int .u8 t, .bool un]] w fun e w' => e = .returned (.tuple #[.agg (vaC (ofV s t un).1), .int .i64 (ofV s t un).2]) ∧ Below w.heap.size w w' := by
  have P0 : Qz w t un (vaC va0) ((w.alloc (.cells #[.int .u8 t, .bool un] 23)).alloc (.cells (vaC va0) 32)) := ⟨Pz.new w t un (vaC va0), (hz.later (below_alloc _ _)).later (below_alloc _ _)⟩
  obtain ⟨w2, hw2⟩ : ∃ z, z = (w.alloc (.cells #[.int .u8 t, .bool un] 23)).alloc (.cells (vaC va0) 32) := ⟨_, rfl⟩
  rw [← hw2] at P0
  have cK := hide (kind_any t un w2 q0 q1)
  have cH := hide (fun wx => hasText_any (kdV t un) wx)
  have S0 := hide (vaC_size va0)
  have O0 := hide (vaC_one va0)
  have HW := hide (show (w.alloc (.cells #[.int .u8 t, .bool un] 23)).alloc (.cells #[.int .i64 0, .int .i64 0, .int .u64 0, .string ⟨#[]⟩, .bool false, .int .i64 0, .int .i64 0, .int .i64 0, .int .i64 0, .int .i64 0, .int .i64 0, .int .i64 0] 32) = w2 from hw2.symm)
  have PP := hide P0
  obtain ⟨t0, t1⟩ := P0.p.cells
  clear hw2 P0
  unfold ofV
  cases hH : hasT (kdV t un)
  · rw [hH] at cH
    rw [if_pos rfl]
    clear q0 q1 hz hs hH
    go_enter Tryz.func11, Tryz.ntmps11
    go_wp2_with (first | (go_at_call 22; rw [unhide HW]; (with_reducible refine (unhide cK).mono ?_); rintro e w3 ⟨rfl, b3⟩; have PP := hide ((unhide PP).later b3); clear t0 t1; obtain ⟨t0, t1⟩ := (unhide PP).p.cells; clear b3) | (go_at_call 20; (with_reducible refine same_world (unhide cH _) ?_)) | (with_reducible show wpList Tryz.prog _ _ (Oper.mk _ (Op.store 32 _ _) _ _ _ none :: _) _ _; refine wpList_stG rfl _ (.tmp 4) (.tmp 11) rfl (w.heap.size + 1) (vaC va0) (vaC va0) rfl rfl (unhide PP).p.rr (unhide S0) rfl (unhide O0) ?_; intro w8 r8 g8 s8; have P8 := hide ((unhide PP).p.set r8 g8); clear r8 g8 s8))
    refine bodyPost_ret (results_row_tmp1 rfl _ _ (w.heap.size + 1) _ rfl (run_loadVar_row _ (w.heap.size + 1) _ _ _ _ _ (unhide P8).rr Tryz.underlying32 rfl (unhide S0))) rfl ?_
    exact ⟨rfl, (unhide P8).bl⟩
  · have cG := hide (fun wx (hx : VarZ wx) => guess_any s t un wx q0 q1 hx hs hH)
    have hV := gsV_K s t un
    rw [if_neg (by decide)]
    rw [hH] at cH
    generalize gsV s t un = V at *
    have SV := hide (vaC_size V)
    have OV := hide (vaC_one V)
    have cM := hide (fun wx => mayBe_any V t un wx q0 q1 hV)
    cases hM : mb V t un
    · rw [hM] at cM
      rw [if_pos (Or.inl rfl)]
      clear q0 q1 hz hs hH hV hM
      go_enter Tryz.func11, Tryz.ntmps11
      go_wp2_with (first | (go_at_call 22; rw [unhide HW]; (with_reducible refine (unhide cK).mono ?_); rintro e w3 ⟨rfl, b3⟩; have PP := hide ((unhide PP).later b3); clear t0 t1; obtain ⟨t0, t1⟩ := (unhide PP).p.cells; clear b3) | (go_at_call 20; (with_reducible refine same_world (unhide cH _) ?_)) | (go_at_call 25; (with_reducible refine (unhide cG _ (unhide PP).z).mono ?_); rintro e w4 ⟨rfl, b4⟩; have PP := hide ((unhide PP).later b4); clear t0 t1; obtain ⟨t0, t1⟩ := (unhide PP).p.cells; clear b4) | (with_reducible show wpList Tryz.prog _ _ (Oper.mk _ (Op.store 32 _ _) _ _ _ none :: _) _ _; refine wpList_stN rfl _ (.tmp 6) (.tmp 14) rfl (vaC V) rfl rfl (unhide SV) rfl (unhide OV) ?_; intro w5 r5 b5 l5; have PP := hide ((unhide PP).later b5); clear t0 t1; obtain ⟨t0, t1⟩ := (unhide PP).p.cells; have RR := hide r5; clear b5 r5) | (with_reducible show wpList Tryz.prog _ _ (Oper.mk _ (Op.load 32 _) _ _ _ none :: _) _ _; refine wpList_load_row rfl _ (.tmp 6) rfl w4.heap.size rfl _ (vaC V) (0, 0) _ (unhide RR) Tryz.underlying32 rfl (unhide SV) ?_) | (go_at_call 24; (with_reducible refine (unhide cM _).mono ?_); rintro e w6 ⟨rfl, b6⟩; have RR := hide (vrow_later (unhide RR) b6); have PP := hide ((unhide PP).later b6); clear t0 t1; obtain ⟨t0, t1⟩ := (unhide PP).p.cells; clear b6) | (with_reducible show wpList Tryz.prog _ _ (Oper.mk _ (Op.store 32 _ _) _ _ _ none :: _) _ _; refine wpList_stG rfl _ (.tmp 4) (.tmp 26) rfl (w.heap.size + 1) (vaC va0) (vaC va0) rfl rfl (unhide PP).p.rr (unhide S0) rfl (unhide O0) ?_; intro w8 r8 g8 s8; have P8 := hide ((unhide PP).p.set r8 g8); clear r8 g8 s8))
      refine bodyPost_ret (results_row_tmp1 rfl _ _ (w.heap.size + 1) _ rfl (run_loadVar_row _ (w.heap.size + 1) _ _ _ _ _ (unhide P8).rr Tryz.underlying32 rfl (unhide S0))) rfl ?_
      exact ⟨rfl, (unhide P8).bl⟩
    · obtain ⟨k, i, b, tx, ⟨ng, y, mo, d, h, mi, s1, mc⟩⟩ := V
      have cT := hide (fun wx (hx : Vars wx) => (show Calls Tryz.prog 21 #[.agg #[.int .i64 k, .int .i64 i, .int .u64 b, .string tx, .bool ng, .int .i64 y, .int .i64 mo, .int .i64 d, .int .i64 h, .int .i64 mi, .int .i64 s1, .int .i64 mc], .agg #[.int .u8 t, .bool un]] wx (fun e w' => e = .returned (.string (tb (vaT ⟨k, i, b, tx, ⟨ng, y, mo, d, h, mi, s1, mc⟩⟩ t))) ∧ Below wx.heap.size wx w') from textOf_any ⟨k, i, b, tx, ⟨ng, y, mo, d, h, mi, s1, mc⟩⟩ t un wx hx hV (mb_six hM)))
      rw [hM] at cM
      by_cases hT : vaT ⟨k, i, b, tx, ⟨ng, y, mo, d, h, mi, s1, mc⟩⟩ t = s.data.toList
      · have eT : tb (vaT ⟨k, i, b, tx, ⟨ng, y, mo, d, h, mi, s1, mc⟩⟩ t) = s := by rw [hT]; rfl
        rw [if_neg (by intro h; rcases h with h | h; exact absurd h (by decide); exact h hT)]
        rw [eT] at cT
        clear q0 q1 hz hs hH hV hM hT eT
        go_enter Tryz.func11, Tryz.ntmps11
        go_wp2_with (first | (go_at_call 22; rw [unhide HW]; (with_reducible refine (unhide cK).mono ?_); rintro e w3 ⟨rfl, b3⟩; have PP := hide ((unhide PP).later b3); clear t0 t1; obtain ⟨t0, t1⟩ := (unhide PP).p.cells; clear b3) | (go_at_call 20; (with_reducible refine same_world (unhide cH _) ?_)) | (go_at_call 25; (with_reducible refine (unhide cG _ (unhide PP).z).mono ?_); rintro e w4 ⟨rfl, b4⟩; have PP := hide ((unhide PP).later b4); clear t0 t1; obtain ⟨t0, t1⟩ := (unhide PP).p.cells; clear b4) | (with_reducible show wpList Tryz.prog _ _ (Oper.mk _ (Op.store 32 _ _) _ _ _ none :: _) _ _; refine wpList_stN rfl _ (.tmp 6) (.tmp 14) rfl (vaC ⟨k, i, b, tx, ⟨ng, y, mo, d, h, mi, s1, mc⟩⟩) rfl rfl (unhide SV) rfl (unhide OV) ?_; intro w5 r5 b5 l5; have PP := hide ((unhide PP).later b5); clear t0 t1; obtain ⟨t0, t1⟩ := (unhide PP).p.cells; have RR := hide r5; clear b5 r5) | (with_reducible show wpList Tryz.prog _ _ (Oper.mk _ (Op.load 32 _) _ _ _ none :: _) _ _; refine wpList_load_row rfl _ (.tmp 6) rfl w4.heap.size rfl _ (vaC ⟨k, i, b, tx, ⟨ng, y, mo, d, h, mi, s1, mc⟩⟩) (0, 0) _ (unhide RR) Tryz.underlying32 rfl (unhide SV) ?_) | (go_at_call 24; (with_reducible refine (unhide cM _).mono ?_); rintro e w6 ⟨rfl, b6⟩; have RR := hide (vrow_later (unhide RR) b6); have PP := hide ((unhide PP).later b6); clear t0 t1; obtain ⟨t0, t1⟩ := (unhide PP).p.cells; have k0 := vrow_cell (unhide RR) (j := 0) (v := .int .i64 k) rfl; have k1 := vrow_cell (unhide RR) (j := 1) (v := .int .i64 i) rfl; have k2 := vrow_cell (unhide RR) (j := 2) (v := .int .u64 b) rfl; have k3 := vrow_cell (unhide RR) (j := 3) (v := .string tx) rfl; have k4 := vrow_cell (unhide RR) (j := 4) (v := .bool ng) rfl; have k5 := vrow_cell (unhide RR) (j := 5) (v := .int .i64 y) rfl; have k6 := vrow_cell (unhide RR) (j := 6) (v := .int .i64 mo) rfl; have k7 := vrow_cell (unhide RR) (j := 7) (v := .int .i64 d) rfl; have k8 := vrow_cell (unhide RR) (j := 8) (v := .int .i64 h) rfl; have k9 := vrow_cell (unhide RR) (j := 9) (v := .int .i64 mi) rfl; have k10 := vrow_cell (unhide RR) (j := 10) (v := .int .i64 s1) rfl; have k11 := vrow_cell (unhide RR) (j := 11) (v := .int .i64 mc) rfl; clear b6) | (go_at_call 21; (with_reducible refine (unhide cT _ (unhide PP).z.v).mono ?_); rintro e w7 ⟨rfl, b7⟩; have RR := hide (vrow_later (unhide RR) b7); have PP := hide ((unhide PP).later b7); clear t0 t1; obtain ⟨t0, t1⟩ := (unhide PP).p.cells; clear b7 k0 k1 k2 k3 k4 k5 k6 k7 k8 k9 k10 k11) | (with_reducible show wpList Tryz.prog _ _ (Oper.mk _ (Op.store 32 _ _) _ _ _ none :: _) _ _; refine wpList_stG rfl _ (.tmp 4) (.tmp 27) rfl (w.heap.size + 1) (vaC ⟨k, i, b, tx, ⟨ng, y, mo, d, h, mi, s1, mc⟩⟩) (vaC va0) rfl rfl (unhide PP).p.rr (unhide SV) rfl (unhide OV) ?_; intro w8 r8 g8 s8; have P8 := hide ((unhide PP).p.set r8 g8); clear r8 g8 s8))
        refine bodyPost_ret (results_row_tmp1 rfl _ _ (w.heap.size + 1) _ rfl (run_loadVar_row _ (w.heap.size + 1) _ _ _ _ _ (unhide P8).rr Tryz.underlying32 rfl (unhide SV))) rfl ?_
        exact ⟨rfl, (unhide P8).bl⟩
      · have eT : tb (vaT ⟨k, i, b, tx, ⟨ng, y, mo, d, h, mi, s1, mc⟩⟩ t) ≠ s := by
          intro h
          apply hT
          rw [← h]
          rfl
        rw [if_pos (Or.inr hT)]
        clear q0 q1 hz hs hH hV hM hT
        generalize tb (vaT ⟨k, i, b, tx, ⟨ng, y, mo, d, h, mi, s1, mc⟩⟩ t) = X at *
        have eX : (!X.toList == s.toList) = true := by simp only [Bool.not_eq_true', beq_eq_false_iff_ne, ne_eq]; exact fun h => eT (vba_inj h)
        have eY : (X.toList == s.toList) = false := by simp only [beq_eq_false_iff_ne, ne_eq]; exact fun h => eT (vba_inj h)
        go_enter Tryz.func11, Tryz.ntmps11
        go_wp2_with (first | (go_at_call 22; rw [unhide HW]; (with_reducible refine (unhide cK).mono ?_); rintro e w3 ⟨rfl, b3⟩; have PP := hide ((unhide PP).later b3); clear t0 t1; obtain ⟨t0, t1⟩ := (unhide PP).p.cells; clear b3) | (go_at_call 20; (with_reducible refine same_world (unhide cH _) ?_)) | (go_at_call 25; (with_reducible refine (unhide cG _ (unhide PP).z).mono ?_); rintro e w4 ⟨rfl, b4⟩; have PP := hide ((unhide PP).later b4); clear t0 t1; obtain ⟨t0, t1⟩ := (unhide PP).p.cells; clear b4) | (with_reducible show wpList Tryz.prog _ _ (Oper.mk _ (Op.store 32 _ _) _ _ _ none :: _) _ _; refine wpList_stN rfl _ (.tmp 6) (.tmp 14) rfl (vaC ⟨k, i, b, tx, ⟨ng, y, mo, d, h, mi, s1, mc⟩⟩) rfl rfl (unhide SV) rfl (unhide OV) ?_; intro w5 r5 b5 l5; have PP := hide ((unhide PP).later b5); clear t0 t1; obtain ⟨t0, t1⟩ := (unhide PP).p.cells; have RR := hide r5; clear b5 r5) | (with_reducible show wpList Tryz.prog _ _ (Oper.mk _ (Op.load 32 _) _ _ _ none :: _) _ _; refine wpList_load_row rfl _ (.tmp 6) rfl w4.heap.size rfl _ (vaC ⟨k, i, b, tx, ⟨ng, y, mo, d, h, mi, s1, mc⟩⟩) (0, 0) _ (unhide RR) Tryz.underlying32 rfl (unhide SV) ?_) | (go_at_call 24; (with_reducible refine (unhide cM _).mono ?_); rintro e w6 ⟨rfl, b6⟩; have RR := hide (vrow_later (unhide RR) b6); have PP := hide ((unhide PP).later b6); clear t0 t1; obtain ⟨t0, t1⟩ := (unhide PP).p.cells; have k0 := vrow_cell (unhide RR) (j := 0) (v := .int .i64 k) rfl; have k1 := vrow_cell (unhide RR) (j := 1) (v := .int .i64 i) rfl; have k2 := vrow_cell (unhide RR) (j := 2) (v := .int .u64 b) rfl; have k3 := vrow_cell (unhide RR) (j := 3) (v := .string tx) rfl; have k4 := vrow_cell (unhide RR) (j := 4) (v := .bool ng) rfl; have k5 := vrow_cell (unhide RR) (j := 5) (v := .int .i64 y) rfl; have k6 := vrow_cell (unhide RR) (j := 6) (v := .int .i64 mo) rfl; have k7 := vrow_cell (unhide RR) (j := 7) (v := .int .i64 d) rfl; have k8 := vrow_cell (unhide RR) (j := 8) (v := .int .i64 h) rfl; have k9 := vrow_cell (unhide RR) (j := 9) (v := .int .i64 mi) rfl; have k10 := vrow_cell (unhide RR) (j := 10) (v := .int .i64 s1) rfl; have k11 := vrow_cell (unhide RR) (j := 11) (v := .int .i64 mc) rfl; clear b6) | (go_at_call 21; (with_reducible refine (unhide cT _ (unhide PP).z.v).mono ?_); rintro e w7 ⟨rfl, b7⟩; have RR := hide (vrow_later (unhide RR) b7); have PP := hide ((unhide PP).later b7); clear t0 t1; obtain ⟨t0, t1⟩ := (unhide PP).p.cells; clear b7 k0 k1 k2 k3 k4 k5 k6 k7 k8 k9 k10 k11) | (with_reducible show wpList Tryz.prog _ _ (Oper.mk _ (Op.store 32 _ _) _ _ _ none :: _) _ _; refine wpList_stG rfl _ (.tmp 4) (.tmp 26) rfl (w.heap.size + 1) (vaC va0) (vaC va0) rfl rfl (unhide PP).p.rr (unhide S0) rfl (unhide O0) ?_; intro w8 r8 g8 s8; have P8 := hide ((unhide PP).p.set r8 g8); clear r8 g8 s8))
        refine bodyPost_ret (results_row_tmp1 rfl _ _ (w.heap.size + 1) _ rfl (run_loadVar_row _ (w.heap.size + 1) _ _ _ _ _ (unhide P8).rr Tryz.underlying32 rfl (unhide S0))) rfl ?_
        exact ⟨rfl, (unhide P8).bl⟩


end Go.Proofs.YtgldbainhncneaaGreatDoor
