/-
  What Read of package value returns. It writes nothing that was there. Conditions: the bytes can be read; the type is a byte.
-/
import Derived.Test.YtfgghgoonfamkaaVaRd5
import Derived.Test.YtfgghgoonfamkaaMSh
namespace Go.Proofs.Ytfgghgoonfamkaa
open Go.RowKit
set_option linter.unusedVariables false
set_option linter.unusedSimpArgs false

theorem readAny_any (bo : Option Addr) (bn bc : Nat) (b : List Int) (t : Int) (un : Bool) (w : World) (q0 : 0 ≤ t) (q1 : t < 256) (hb : Bs w bo bn bc b) (hk : ¬ kdV t un = -1) :
    Calls Try.prog 77 #[.slice bo bn bc, .agg #[.int .u8 t, .bool un]] w fun e w' => e = .returned (.tuple #[.agg (vaC (rdA b t un).1), .int .i64 (rdA b t un).2.1, .int .i64 (rdA b t un).2.2]) ∧ Below w.heap.size w w' := by
  rcases kd_cases t un with q | q | q | q | q | q | q | q | q
  · exact absurd q hk
  · exact readAny_0 bo bn bc b t un w q0 q1 hb q
  · exact readAny_1 bo bn bc b t un w q0 q1 hb q
  · exact readAny_2 bo bn bc b t un w q0 q1 hb q
  · exact readAny_3 bo bn bc b t un w q0 q1 hb q
  · exact readAny_4 bo bn bc b t un w q0 q1 hb q
  · exact readAny_5 bo bn bc b t un w q0 q1 hb q
  · exact readAny_6 bo bn bc b t un w q0 q1 hb q
  · exact readAny_7 bo bn bc b t un w q0 q1 hb q

set_option maxHeartbeats 1500000 in
set_option maxRecDepth 100000 in
theorem read_any (bo : Option Addr) (bn bc : Nat) (b : List Int) (t : Int) (un : Bool) (w : World) (q0 : 0 ≤ t) (q1 : t < 256) (hb : Bs w bo bn bc b) :
    Calls Try.prog 61 #[.slice bo bn bc, .agg #[.int .u8 t, .bool un]] w fun e w' => e = .returned (.tuple #[.agg (vaC (rdV b t un).1), .int .i64 (rdV b t un).2.1, .int .i64 (rdV b t un).2.2]) ∧ Below w.heap.size w w' := by
  have P0 := Pz.new w t un (vaC va0)
  obtain ⟨w2, hw2⟩ : ∃ z, z = (w.alloc (.cells #[.int .u8 t, .bool un] 27)).alloc (.cells (vaC va0) 32) := ⟨_, rfl⟩
  rw [← hw2] at P0
  have HB0 := hide (hb.later P0.bl)
  have cK := hide (kind_any t un w2 q0 q1)
  have S0 := hide (vaC_size va0)
  have O0 := hide (vaC_one va0)
  have HW := hide (show (w.alloc (.cells #[.int .u8 t, .bool un] 27)).alloc (.cells #[.int .i64 0, .int .i64 0, .int .u64 0, .string ⟨#[]⟩, .bool false, .int .i64 0, .int .i64 0, .int .i64 0, .int .i64 0, .int .i64 0, .int .i64 0, .int .i64 0] 32) = w2 from hw2.symm)
  have PP := hide P0
  obtain ⟨t0, t1⟩ := P0.cells
  clear hw2 P0
  unfold rdV
  by_cases hk : kdV t un = -1
  · rw [if_pos hk]
    rw [hk] at cK
    clear hk hb q0 q1
    go_enter Try.func61, Try.ntmps61
    go_wp2_with (first | (go_at_call 56; rw [unhide HW]; (with_reducible refine (unhide cK).mono ?_); rintro e w3 ⟨rfl, b3⟩; have P3 := (unhide PP).later b3; have HB := hide ((unhide HB0).later b3); clear b3 t0 t1; obtain ⟨t0, t1⟩ := P3.cells; have PP := hide P3; clear P3) | (with_reducible show wpList Try.prog _ _ (Oper.mk _ (Op.store 32 _ _) _ _ _ none :: _) _ _; refine wpList_stG rfl _ (.tmp 4) (.tmp 10) rfl (w.heap.size + 1) (vaC va0) (vaC va0) rfl rfl (unhide PP).rr (unhide S0) rfl (unhide O0) ?_; intro w8 r8 g8 s8; have P8 := (unhide PP).set r8 g8; clear r8 g8 s8 t0 t1; obtain ⟨t0, t1⟩ := P8.cells; have PP := hide P8; clear P8))
    refine bodyPost_ret (results_row_tmp2 rfl _ _ (w.heap.size + 1) _ rfl (run_loadVar_row _ (w.heap.size + 1) _ _ _ _ _ (unhide PP).rr Try.underlying32 rfl (unhide S0))) rfl ?_
    exact ⟨rfl, (unhide PP).bl⟩
  · rw [if_neg hk]
    have cR := hide (fun wx (hx : Bs wx bo bn bc b) => readAny_any bo bn bc b t un wx q0 q1 hx hk)
    have hVK := rdA_K (b := b) hb.byt hk
    have cM := hide (fun wx => mayBe_any (rdA b t un).1 t un wx q0 q1 hVK)
    have hk2 : (kdV t un == -1) = false := by simpa using hk
    have hE := hide (show rdE b t un = if (rdA b t un).2.2 = 0 ∧ mb (rdA b t un).1 t un = false then 5 else (rdA b t un).2.2 from rfl)
    generalize rdE b t un = EE at *
    generalize mb (rdA b t un).1 t un = M at *
    generalize (rdA b t un).2.1 = NN at *
    generalize (rdA b t un).2.2 = E at *
    generalize (rdA b t un).1 = V at *
    generalize kdV t un = K at *
    obtain ⟨k, i, b, tx, ⟨ng, y, mo, d, h, mi, s, mc⟩⟩ := V
    have SV := hide (vaC_size ⟨k, i, b, tx, ⟨ng, y, mo, d, h, mi, s, mc⟩⟩)
    have OV := hide (vaC_one ⟨k, i, b, tx, ⟨ng, y, mo, d, h, mi, s, mc⟩⟩)
    clear hk hb q0 q1 hVK
    by_cases h0 : E = 0
    · subst h0
      cases M
      · rw [if_pos ⟨rfl, rfl⟩] at hE
        rw [unhide hE, if_pos (by decide)]
        clear hE
        unfold vaC at cM
        simp only at cM
        go_enter Try.func61, Try.ntmps61
        go_wp2_with (first | (go_at_call 56; rw [unhide HW]; (with_reducible refine (unhide cK).mono ?_); rintro e w3 ⟨rfl, b3⟩; have P3 := (unhide PP).later b3; have HB := hide ((unhide HB0).later b3); clear b3 t0 t1; obtain ⟨t0, t1⟩ := P3.cells; have PP := hide P3; clear P3) | (go_at_call 77; (with_reducible refine (unhide cR w3 (unhide HB)).mono ?_); rintro e w4 ⟨rfl, b4⟩; have P4 := (unhide PP).later b4; clear b4 t0 t1; obtain ⟨t0, t1⟩ := P4.cells; have PP := hide P4; clear P4) | (with_reducible show wpList Try.prog _ _ (Oper.mk _ (Op.store 32 _ _) _ _ _ none :: _) _ _; refine wpList_stG rfl _ (.tmp 4) (.tmp 15) rfl (w.heap.size + 1) (vaC ⟨k, i, b, tx, ⟨ng, y, mo, d, h, mi, s, mc⟩⟩) (vaC va0) rfl rfl (unhide PP).rr (unhide SV) rfl (unhide OV) ?_; intro w8 r8 g8 s8; have P8 := (unhide PP).set r8 g8; clear r8 g8 s8 t0 t1; obtain ⟨t0, t1⟩ := P8.cells; have k0 := vrow_cell P8.rr (j := 0) (v := .int .i64 k) rfl; have k1 := vrow_cell P8.rr (j := 1) (v := .int .i64 i) rfl; have k2 := vrow_cell P8.rr (j := 2) (v := .int .u64 b) rfl; have k3 := vrow_cell P8.rr (j := 3) (v := .string tx) rfl; have k4 := vrow_cell P8.rr (j := 4) (v := .bool ng) rfl; have k5 := vrow_cell P8.rr (j := 5) (v := .int .i64 y) rfl; have k6 := vrow_cell P8.rr (j := 6) (v := .int .i64 mo) rfl; have k7 := vrow_cell P8.rr (j := 7) (v := .int .i64 d) rfl; have k8 := vrow_cell P8.rr (j := 8) (v := .int .i64 h) rfl; have k9 := vrow_cell P8.rr (j := 9) (v := .int .i64 mi) rfl; have k10 := vrow_cell P8.rr (j := 10) (v := .int .i64 s) rfl; have k11 := vrow_cell P8.rr (j := 11) (v := .int .i64 mc) rfl; have PP := hide P8; clear P8) | (go_at_call 57; (with_reducible refine (unhide cM _).mono ?_); rintro e w6 ⟨rfl, b6⟩; have P6 := (unhide PP).later b6; clear b6 t0 t1; obtain ⟨t0, t1⟩ := P6.cells; have PP := hide P6; clear P6) | (with_reducible show wpList Try.prog _ _ (Oper.mk _ (Op.store 32 _ _) _ _ _ none :: _) _ _; refine wpList_stG rfl _ (.tmp 4) (.tmp 28) rfl (w.heap.size + 1) (vaC va0) (vaC ⟨k, i, b, tx, ⟨ng, y, mo, d, h, mi, s, mc⟩⟩) rfl rfl (unhide PP).rr (unhide S0) rfl (unhide O0) ?_; intro w8 r8 g8 s8; have P8 := (unhide PP).set r8 g8; clear r8 g8 s8 t0 t1; obtain ⟨t0, t1⟩ := P8.cells; have PP := hide P8; clear P8))
        refine bodyPost_ret (results_row_tmp2 rfl _ _ (w.heap.size + 1) _ rfl (run_loadVar_row _ (w.heap.size + 1) _ _ _ _ _ (unhide PP).rr Try.underlying32 rfl (unhide S0))) rfl ?_
        exact ⟨rfl, (unhide PP).bl⟩
      · rw [if_neg (fun z => by cases z.2)] at hE
        rw [unhide hE, if_neg (by decide)]
        clear hE
        unfold vaC at cM
        simp only at cM
        go_enter Try.func61, Try.ntmps61
        go_wp2_with (first | (go_at_call 56; rw [unhide HW]; (with_reducible refine (unhide cK).mono ?_); rintro e w3 ⟨rfl, b3⟩; have P3 := (unhide PP).later b3; have HB := hide ((unhide HB0).later b3); clear b3 t0 t1; obtain ⟨t0, t1⟩ := P3.cells; have PP := hide P3; clear P3) | (go_at_call 77; (with_reducible refine (unhide cR w3 (unhide HB)).mono ?_); rintro e w4 ⟨rfl, b4⟩; have P4 := (unhide PP).later b4; clear b4 t0 t1; obtain ⟨t0, t1⟩ := P4.cells; have PP := hide P4; clear P4) | (with_reducible show wpList Try.prog _ _ (Oper.mk _ (Op.store 32 _ _) _ _ _ none :: _) _ _; refine wpList_stG rfl _ (.tmp 4) (.tmp 15) rfl (w.heap.size + 1) (vaC ⟨k, i, b, tx, ⟨ng, y, mo, d, h, mi, s, mc⟩⟩) (vaC va0) rfl rfl (unhide PP).rr (unhide SV) rfl (unhide OV) ?_; intro w8 r8 g8 s8; have P8 := (unhide PP).set r8 g8; clear r8 g8 s8 t0 t1; obtain ⟨t0, t1⟩ := P8.cells; have k0 := vrow_cell P8.rr (j := 0) (v := .int .i64 k) rfl; have k1 := vrow_cell P8.rr (j := 1) (v := .int .i64 i) rfl; have k2 := vrow_cell P8.rr (j := 2) (v := .int .u64 b) rfl; have k3 := vrow_cell P8.rr (j := 3) (v := .string tx) rfl; have k4 := vrow_cell P8.rr (j := 4) (v := .bool ng) rfl; have k5 := vrow_cell P8.rr (j := 5) (v := .int .i64 y) rfl; have k6 := vrow_cell P8.rr (j := 6) (v := .int .i64 mo) rfl; have k7 := vrow_cell P8.rr (j := 7) (v := .int .i64 d) rfl; have k8 := vrow_cell P8.rr (j := 8) (v := .int .i64 h) rfl; have k9 := vrow_cell P8.rr (j := 9) (v := .int .i64 mi) rfl; have k10 := vrow_cell P8.rr (j := 10) (v := .int .i64 s) rfl; have k11 := vrow_cell P8.rr (j := 11) (v := .int .i64 mc) rfl; have PP := hide P8; clear P8) | (go_at_call 57; (with_reducible refine (unhide cM _).mono ?_); rintro e w6 ⟨rfl, b6⟩; have P6 := (unhide PP).later b6; clear b6 t0 t1; obtain ⟨t0, t1⟩ := P6.cells; have PP := hide P6; clear P6) | (with_reducible show wpList Try.prog _ _ (Oper.mk _ (Op.load 32 _) _ _ _ none :: _) _ _; refine wpList_load_row rfl _ (.tmp 4) rfl (w.heap.size + 1) rfl _ (vaC ⟨k, i, b, tx, ⟨ng, y, mo, d, h, mi, s, mc⟩⟩) (0, 0) _ (unhide PP).rr Try.underlying32 rfl (unhide SV) ?_) | (with_reducible show wpList Try.prog _ _ (Oper.mk _ (Op.store 32 _ _) _ _ _ none :: _) _ _; refine wpList_stG rfl _ (.tmp 4) (.tmp 30) rfl (w.heap.size + 1) (vaC ⟨k, i, b, tx, ⟨ng, y, mo, d, h, mi, s, mc⟩⟩) (vaC ⟨k, i, b, tx, ⟨ng, y, mo, d, h, mi, s, mc⟩⟩) rfl rfl (unhide PP).rr (unhide SV) rfl (unhide OV) ?_; intro w8 r8 g8 s8; have P8 := (unhide PP).set r8 g8; clear r8 g8 s8 t0 t1; obtain ⟨t0, t1⟩ := P8.cells; have PP := hide P8; clear P8))
        refine bodyPost_ret (results_row_tmp2 rfl _ _ (w.heap.size + 1) _ rfl (run_loadVar_row _ (w.heap.size + 1) _ _ _ _ _ (unhide PP).rr Try.underlying32 rfl (unhide SV))) rfl ?_
        exact ⟨rfl, (unhide PP).bl⟩
    · rw [if_neg (fun z => h0 z.1)] at hE
      rw [unhide hE, if_pos h0]
      have h1 : (E == 0) = false := by simpa using h0
      have h2 : (E != 0) = true := by simpa using h0
      clear hE h0 cM
      go_enter Try.func61, Try.ntmps61
      go_wp2_with (first | (go_at_call 56; rw [unhide HW]; (with_reducible refine (unhide cK).mono ?_); rintro e w3 ⟨rfl, b3⟩; have P3 := (unhide PP).later b3; have HB := hide ((unhide HB0).later b3); clear b3 t0 t1; obtain ⟨t0, t1⟩ := P3.cells; have PP := hide P3; clear P3) | (go_at_call 77; (with_reducible refine (unhide cR w3 (unhide HB)).mono ?_); rintro e w4 ⟨rfl, b4⟩; have P4 := (unhide PP).later b4; clear b4 t0 t1; obtain ⟨t0, t1⟩ := P4.cells; have PP := hide P4; clear P4) | (with_reducible show wpList Try.prog _ _ (Oper.mk _ (Op.store 32 _ _) _ _ _ none :: _) _ _; refine wpList_stG rfl _ (.tmp 4) (.tmp 15) rfl (w.heap.size + 1) (vaC ⟨k, i, b, tx, ⟨ng, y, mo, d, h, mi, s, mc⟩⟩) (vaC va0) rfl rfl (unhide PP).rr (unhide SV) rfl (unhide OV) ?_; intro w8 r8 g8 s8; have P8 := (unhide PP).set r8 g8; clear r8 g8 s8 t0 t1; obtain ⟨t0, t1⟩ := P8.cells; have k0 := vrow_cell P8.rr (j := 0) (v := .int .i64 k) rfl; have k1 := vrow_cell P8.rr (j := 1) (v := .int .i64 i) rfl; have k2 := vrow_cell P8.rr (j := 2) (v := .int .u64 b) rfl; have k3 := vrow_cell P8.rr (j := 3) (v := .string tx) rfl; have k4 := vrow_cell P8.rr (j := 4) (v := .bool ng) rfl; have k5 := vrow_cell P8.rr (j := 5) (v := .int .i64 y) rfl; have k6 := vrow_cell P8.rr (j := 6) (v := .int .i64 mo) rfl; have k7 := vrow_cell P8.rr (j := 7) (v := .int .i64 d) rfl; have k8 := vrow_cell P8.rr (j := 8) (v := .int .i64 h) rfl; have k9 := vrow_cell P8.rr (j := 9) (v := .int .i64 mi) rfl; have k10 := vrow_cell P8.rr (j := 10) (v := .int .i64 s) rfl; have k11 := vrow_cell P8.rr (j := 11) (v := .int .i64 mc) rfl; have PP := hide P8; clear P8) | (with_reducible show wpList Try.prog _ _ (Oper.mk _ (Op.store 32 _ _) _ _ _ none :: _) _ _; refine wpList_stG rfl _ (.tmp 4) (.tmp 28) rfl (w.heap.size + 1) (vaC va0) (vaC ⟨k, i, b, tx, ⟨ng, y, mo, d, h, mi, s, mc⟩⟩) rfl rfl (unhide PP).rr (unhide S0) rfl (unhide O0) ?_; intro w8 r8 g8 s8; have P8 := (unhide PP).set r8 g8; clear r8 g8 s8 t0 t1; obtain ⟨t0, t1⟩ := P8.cells; have PP := hide P8; clear P8))
      refine bodyPost_ret (results_row_tmp2 rfl _ _ (w.heap.size + 1) _ rfl (run_loadVar_row _ (w.heap.size + 1) _ _ _ _ _ (unhide PP).rr Try.underlying32 rfl (unhide S0))) rfl ?_
      exact ⟨rfl, (unhide PP).bl⟩


end Go.Proofs.Ytfgghgoonfamkaa
