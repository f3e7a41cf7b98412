/-
  What readFixed and readAny of package value return. They write nothing that was there. Conditions: the bytes can be read; the type is a byte.
-/
import Derived.Test.YtfgghgoonfamkaaVaRd4
import Derived.Test.YtfgghgoonfamkaaVaBy3
namespace Go.Proofs.Ytfgghgoonfamkaa
open Go.RowKit
set_option linter.unusedVariables false
set_option linter.unusedSimpArgs false

set_option maxHeartbeats 1000000 in
set_option maxRecDepth 100000 in
theorem vreadFixed_any (bo : Option Addr) (bn bc : Nat) (b : List Int) (t : Int) (un : Bool) (w : World) (hb : Bs w bo bn bc b) :
    Calls Try.prog 94 #[.slice bo bn bc, .agg #[.int .u8 t, .bool un]] w fun e w' => e = .returned (.tuple #[.int .u64 (readFixed b (szP t)).1, .int .i64 (szP t), .int .i64 (readFixed b (szP t)).2]) ∧ Below w.heap.size w w' := by
  obtain ⟨w1, hw1⟩ : ∃ z, z = w.alloc (.cells #[.int .u8 t, .bool un] 27) := ⟨_, rfl⟩
  have b1 : Below w.heap.size w w1 := by rw [hw1]; exact below_alloc w _
  have cS := hide (vsize_any t w1)
  have cR := hide (readFixed_any bo bn bc b (szP t) w1 (hb.later b1))
  generalize (readFixed b (szP t)).1 = X at *
  generalize (readFixed b (szP t)).2 = E at *
  generalize szP t = S at *
  have HW := hide (show w.alloc (.cells #[.int .u8 t, .bool un] 27) = w1 from hw1.symm)
  have B1 := hide b1
  have k0 := vrow_cell (show w1.heap[w.heap.size]? = some (.cells #[.int .u8 t, .bool un] 27 (0, 0)) by rw [hw1]; exact heap_alloc_new w _) (j := 0) (v := .int .u8 t) rfl
  clear hw1 b1 hb
  go_enter Try.func94, Try.ntmps94
  go_wp2_with (first | (go_at_call 71; rw [unhide HW]; refine same_world (unhide cS) ?_) | (go_at_call 104; refine same_world (unhide cR) ?_))
  go_ret3
  exact ⟨rfl, unhide B1⟩

/-- A type that a function took, and a value that it answers, in two blocks of their own. -/
structure Pz (w0 : World) (t : Int) (un : Bool) (C : Array Value) (w : World) : Prop where
  rt : w.heap[w0.heap.size]? = some (.cells #[.int .u8 t, .bool un] 27 (0, 0))
  rr : w.heap[w0.heap.size + 1]? = some (.cells C 32 (0, 0))
  bl : Below w0.heap.size w0 w
theorem Pz.later {w0 w w' : World} {t : Int} {un : Bool} {C : Array Value} (h : Pz w0 t un C w) (b : Below w.heap.size w w') : Pz w0 t un C w' := ⟨vrow_later h.rt b, vrow_later h.rr b, vbup h.bl b⟩
theorem Pz.new (w : World) (t : Int) (un : Bool) (C : Array Value) : Pz w t un C ((w.alloc (.cells #[.int .u8 t, .bool un] 27)).alloc (.cells C 32)) := by
  have b1 := below_alloc w (.cells #[.int .u8 t, .bool un] 27)
  have b2 := below_alloc (w.alloc (.cells #[.int .u8 t, .bool un] 27)) (.cells C 32)
  have r1 := heap_alloc_new w (.cells #[.int .u8 t, .bool un] 27)
  have r2 := heap_alloc_new (w.alloc (.cells #[.int .u8 t, .bool un] 27)) (.cells C 32)
  refine ⟨vrow_later r1 b2, ?_, vbup b1 b2⟩
  rw [show (w.alloc (.cells #[.int .u8 t, .bool un] 27)).heap.size = w.heap.size + 1 by simp] at r2
  exact r2
theorem Pz.set {w0 w w' : World} {t : Int} {un : Bool} {C D : Array Value} (h : Pz w0 t un C w) (hr : w'.heap[w0.heap.size + 1]? = some (.cells D 32 (0, 0))) (hg : Gb (w0.heap.size + 1) w w') : Pz w0 t un D w' :=
  ⟨(hg.block _ (Array.getElem?_eq_some_iff.1 h.rt).1 (by omega)).trans h.rt, hr, gb_below h.bl hg (Nat.le_succ _)⟩
theorem Pz.cells {w0 w : World} {t : Int} {un : Bool} {C : Array Value} (h : Pz w0 t un C w) : w.cell? ⟨w0.heap.size, 0, none⟩ = some (.int .u8 t) ∧ w.cell? ⟨w0.heap.size, 1, none⟩ = some (.bool un) := ⟨vrow_cell h.rt (j := 0) rfl, vrow_cell h.rt (j := 1) rfl⟩
theorem vaC_one (v : Va) : (vaC v).all (·.oneCell') = true := by simp [vaC, Value.oneCell']
theorem vaC_size (v : Va) : (Try.prog.info? 32).map (·.size) = some (vaC v).size := by
  rw [show (vaC v).size = 12 from rfl]
  kernel_rfl

set_option maxHeartbeats 1000000 in
set_option maxRecDepth 100000 in
theorem readAny_1 (bo : Option Addr) (bn bc : Nat) (b : List Int) (t : Int) (un : Bool) (w : World) (q0 : 0 ≤ t) (q1 : t < 256) (hb : Bs w bo bn bc b) (hk : kdV t un = 1) :
    Calls Try.prog 77 #[.slice bo bn bc, .agg #[.int .u8 t, .bool un]] w fun e w' => e = .returned (.tuple #[.agg (vaC (rdA b t un).1), .int .i64 (rdA b t un).2.1, .int .i64 (rdA b t un).2.2]) ∧ Below w.heap.size w w' := by
  have P0 := Pz.new w t un (vaC va0)
  obtain ⟨w2, hw2⟩ : ∃ z, z = (w.alloc (.cells #[.int .u8 t, .bool un] 27)).alloc (.cells (vaC va0) 32) := ⟨_, rfl⟩
  rw [← hw2] at P0
  have HB0 := hide (hb.later P0.bl)
  have cK := hide (kind_any t un w2 q0 q1)
  have e1 : rdA b t un = (⟨1, sgn (readFixed b (szP t)).1 (szP t), 0, ⟨#[]⟩, wh0⟩, szP t, (readFixed b (szP t)).2) := by
    unfold rdA
    simp only [hk]; rfl
  rw [e1]
  rw [hk] at cK
  have rv : 0 ≤ (readFixed b (szP t)).1 ∧ (readFixed b (szP t)).1 < 18446744073709551616 := by
    have hs := sz_num (.inl hk)
    obtain ⟨n, hn⟩ := Int.eq_ofNat_of_zero_le (show 0 ≤ szP t by omega)
    have := readFixed_val hb.byt (k := n) (by omega) (by omega)
    rw [← hn] at this
    have p := pow_le64 n (by omega)
    omega
  have cR := hide (fun wx (hx : Bs wx bo bn bc b) => vreadFixed_any bo bn bc b t un wx hx)
  have cG := hide (fun wx => signed_any (readFixed b (szP t)).1 (szP t) wx rv.1 rv.2)
  generalize sgn (readFixed b (szP t)).1 (szP t) = G at *
  generalize (readFixed b (szP t)).1 = X at *
  generalize (readFixed b (szP t)).2 = E at *
  generalize szP t = S at *
  have HW := hide (show (w.alloc (.cells #[.int .u8 t, .bool un] 27)).alloc (.cells #[.int .i64 0, .int .i64 0, .int .u64 0, .string ⟨#[]⟩, .bool false, .int .i64 0, .int .i64 0, .int .i64 0, .int .i64 0, .int .i64 0, .int .i64 0, .int .i64 0] 32) = w2 from hw2.symm)
  have PP := hide P0
  obtain ⟨t0, t1⟩ := P0.cells
  have SZ := hide (vaC_size ⟨1, G, 0, ⟨#[]⟩, wh0⟩)
  have SO := hide (vaC_one ⟨1, G, 0, ⟨#[]⟩, wh0⟩)
  clear hw2 P0 e1 hb q0 q1 hk rv
  go_enter Try.func77, Try.ntmps77
  go_wp2_with (first | (go_at_call 56; rw [unhide HW]; (with_reducible refine (unhide cK).mono ?_); rintro e w3 ⟨rfl, b3⟩; have P3 := (unhide PP).later b3; have HB := hide ((unhide HB0).later b3); clear b3 t0 t1; obtain ⟨t0, t1⟩ := P3.cells; have PP := hide P3; clear P3) | (go_at_call 94; (with_reducible refine (unhide cR w3 (unhide HB)).mono ?_); rintro e w4 ⟨rfl, b4⟩; have P4 := (unhide PP).later b4; clear b4; have PP := hide P4; clear P4) | (go_at_call 72; (with_reducible refine same_world (unhide cG _) ?_)) | (with_reducible show wpList Try.prog _ _ (Oper.mk _ (Op.store 32 _ _) _ _ _ none :: _) _ _; refine wpList_stG rfl _ (.tmp 4) (.tmp 39) rfl (w.heap.size + 1) (vaC ⟨1, G, 0, ⟨#[]⟩, wh0⟩) (vaC va0) rfl rfl (unhide PP).rr (unhide SZ) rfl (unhide SO) ?_; intro w8 r8 g8 s8; have P8 := hide ((unhide PP).set r8 g8); clear r8 g8 s8))
  refine bodyPost_ret (results_row_tmp2 rfl _ _ (w.heap.size + 1) _ rfl (run_loadVar_row _ (w.heap.size + 1) _ _ _ _ _ (unhide P8).rr Try.underlying32 rfl (unhide SZ))) rfl ?_
  exact ⟨rfl, (unhide P8).bl⟩

set_option maxHeartbeats 1000000 in
set_option maxRecDepth 100000 in
theorem readAny_2 (bo : Option Addr) (bn bc : Nat) (b : List Int) (t : Int) (un : Bool) (w : World) (q0 : 0 ≤ t) (q1 : t < 256) (hb : Bs w bo bn bc b) (hk : kdV t un = 2) :
    Calls Try.prog 77 #[.slice bo bn bc, .agg #[.int .u8 t, .bool un]] w fun e w' => e = .returned (.tuple #[.agg (vaC (rdA b t un).1), .int .i64 (rdA b t un).2.1, .int .i64 (rdA b t un).2.2]) ∧ Below w.heap.size w w' := by
  have P0 := Pz.new w t un (vaC va0)
  obtain ⟨w2, hw2⟩ : ∃ z, z = (w.alloc (.cells #[.int .u8 t, .bool un] 27)).alloc (.cells (vaC va0) 32) := ⟨_, rfl⟩
  rw [← hw2] at P0
  have HB0 := hide (hb.later P0.bl)
  have cK := hide (kind_any t un w2 q0 q1)
  have e1 : rdA b t un = (⟨2, 0, (readFixed b (szP t)).1, ⟨#[]⟩, wh0⟩, szP t, (readFixed b (szP t)).2) := by
    unfold rdA
    simp only [hk]; rfl
  rw [e1]
  rw [hk] at cK
  have cR := hide (fun wx (hx : Bs wx bo bn bc b) => vreadFixed_any bo bn bc b t un wx hx)
  generalize (readFixed b (szP t)).1 = X at *
  generalize (readFixed b (szP t)).2 = E at *
  generalize szP t = S at *
  have HW := hide (show (w.alloc (.cells #[.int .u8 t, .bool un] 27)).alloc (.cells #[.int .i64 0, .int .i64 0, .int .u64 0, .string ⟨#[]⟩, .bool false, .int .i64 0, .int .i64 0, .int .i64 0, .int .i64 0, .int .i64 0, .int .i64 0, .int .i64 0] 32) = w2 from hw2.symm)
  have PP := hide P0
  obtain ⟨t0, t1⟩ := P0.cells
  have SZ := hide (vaC_size ⟨2, 0, X, ⟨#[]⟩, wh0⟩)
  have SO := hide (vaC_one ⟨2, 0, X, ⟨#[]⟩, wh0⟩)
  clear hw2 P0 e1 hb q0 q1 hk
  go_enter Try.func77, Try.ntmps77
  go_wp2_with (first | (go_at_call 56; rw [unhide HW]; (with_reducible refine (unhide cK).mono ?_); rintro e w3 ⟨rfl, b3⟩; have P3 := (unhide PP).later b3; have HB := hide ((unhide HB0).later b3); clear b3 t0 t1; obtain ⟨t0, t1⟩ := P3.cells; have PP := hide P3; clear P3) | (go_at_call 94; (with_reducible refine (unhide cR w3 (unhide HB)).mono ?_); rintro e w4 ⟨rfl, b4⟩; have P4 := (unhide PP).later b4; clear b4; have PP := hide P4; clear P4) | (with_reducible show wpList Try.prog _ _ (Oper.mk _ (Op.store 32 _ _) _ _ _ none :: _) _ _; refine wpList_stG rfl _ (.tmp 4) (.tmp 55) rfl (w.heap.size + 1) (vaC ⟨2, 0, X, ⟨#[]⟩, wh0⟩) (vaC va0) rfl rfl (unhide PP).rr (unhide SZ) rfl (unhide SO) ?_; intro w8 r8 g8 s8; have P8 := hide ((unhide PP).set r8 g8); clear r8 g8 s8))
  refine bodyPost_ret (results_row_tmp2 rfl _ _ (w.heap.size + 1) _ rfl (run_loadVar_row _ (w.heap.size + 1) _ _ _ _ _ (unhide P8).rr Try.underlying32 rfl (unhide SZ))) rfl ?_
  exact ⟨rfl, (unhide P8).bl⟩

set_option maxHeartbeats 1000000 in
set_option maxRecDepth 100000 in
theorem readAny_3 (bo : Option Addr) (bn bc : Nat) (b : List Int) (t : Int) (un : Bool) (w : World) (q0 : 0 ≤ t) (q1 : t < 256) (hb : Bs w bo bn bc b) (hk : kdV t un = 3) :
    Calls Try.prog 77 #[.slice bo bn bc, .agg #[.int .u8 t, .bool un]] w fun e w' => e = .returned (.tuple #[.agg (vaC (rdA b t un).1), .int .i64 (rdA b t un).2.1, .int .i64 (rdA b t un).2.2]) ∧ Below w.heap.size w w' := by
  have P0 := Pz.new w t un (vaC va0)
  obtain ⟨w2, hw2⟩ : ∃ z, z = (w.alloc (.cells #[.int .u8 t, .bool un] 27)).alloc (.cells (vaC va0) 32) := ⟨_, rfl⟩
  rw [← hw2] at P0
  have HB0 := hide (hb.later P0.bl)
  have cK := hide (kind_any t un w2 q0 q1)
  have e1 : rdA b t un = (⟨3, 0, (readFixed b (szP t)).1, ⟨#[]⟩, wh0⟩, szP t, (readFixed b (szP t)).2) := by
    unfold rdA
    simp only [hk]; rfl
  rw [e1]
  rw [hk] at cK
  have cR := hide (fun wx (hx : Bs wx bo bn bc b) => vreadFixed_any bo bn bc b t un wx hx)
  generalize (readFixed b (szP t)).1 = X at *
  generalize (readFixed b (szP t)).2 = E at *
  generalize szP t = S at *
  have HW := hide (show (w.alloc (.cells #[.int .u8 t, .bool un] 27)).alloc (.cells #[.int .i64 0, .int .i64 0, .int .u64 0, .string ⟨#[]⟩, .bool false, .int .i64 0, .int .i64 0, .int .i64 0, .int .i64 0, .int .i64 0, .int .i64 0, .int .i64 0] 32) = w2 from hw2.symm)
  have PP := hide P0
  obtain ⟨t0, t1⟩ := P0.cells
  have SZ := hide (vaC_size ⟨3, 0, X, ⟨#[]⟩, wh0⟩)
  have SO := hide (vaC_one ⟨3, 0, X, ⟨#[]⟩, wh0⟩)
  clear hw2 P0 e1 hb q0 q1 hk
  go_enter Try.func77, Try.ntmps77
  go_wp2_with (first | (go_at_call 56; rw [unhide HW]; (with_reducible refine (unhide cK).mono ?_); rintro e w3 ⟨rfl, b3⟩; have P3 := (unhide PP).later b3; have HB := hide ((unhide HB0).later b3); clear b3 t0 t1; obtain ⟨t0, t1⟩ := P3.cells; have PP := hide P3; clear P3) | (go_at_call 94; (with_reducible refine (unhide cR w3 (unhide HB)).mono ?_); rintro e w4 ⟨rfl, b4⟩; have P4 := (unhide PP).later b4; clear b4; have PP := hide P4; clear P4) | (with_reducible show wpList Try.prog _ _ (Oper.mk _ (Op.store 32 _ _) _ _ _ none :: _) _ _; refine wpList_stG rfl _ (.tmp 4) (.tmp 55) rfl (w.heap.size + 1) (vaC ⟨3, 0, X, ⟨#[]⟩, wh0⟩) (vaC va0) rfl rfl (unhide PP).rr (unhide SZ) rfl (unhide SO) ?_; intro w8 r8 g8 s8; have P8 := hide ((unhide PP).set r8 g8); clear r8 g8 s8))
  refine bodyPost_ret (results_row_tmp2 rfl _ _ (w.heap.size + 1) _ rfl (run_loadVar_row _ (w.heap.size + 1) _ _ _ _ _ (unhide P8).rr Try.underlying32 rfl (unhide SZ))) rfl ?_
  exact ⟨rfl, (unhide P8).bl⟩

set_option maxHeartbeats 1000000 in
set_option maxRecDepth 100000 in
theorem readAny_4 (bo : Option Addr) (bn bc : Nat) (b : List Int) (t : Int) (un : Bool) (w : World) (q0 : 0 ≤ t) (q1 : t < 256) (hb : Bs w bo bn bc b) (hk : kdV t un = 4) :
    Calls Try.prog 77 #[.slice bo bn bc, .agg #[.int .u8 t, .bool un]] w fun e w' => e = .returned (.tuple #[.agg (vaC (rdA b t un).1), .int .i64 (rdA b t un).2.1, .int .i64 (rdA b t un).2.2]) ∧ Below w.heap.size w w' := by
  have P0 := Pz.new w t un (vaC va0)
  obtain ⟨w2, hw2⟩ : ∃ z, z = (w.alloc (.cells #[.int .u8 t, .bool un] 27)).alloc (.cells (vaC va0) 32) := ⟨_, rfl⟩
  rw [← hw2] at P0
  have HB0 := hide (hb.later P0.bl)
  have cK := hide (kind_any t un w2 q0 q1)
  have e1 : rdA b t un = (⟨4, 0, (readFixed b (szP t)).1, ⟨#[]⟩, wh0⟩, szP t, (readFixed b (szP t)).2) := by
    unfold rdA
    simp only [hk]; rfl
  rw [e1]
  rw [hk] at cK
  have cR := hide (fun wx (hx : Bs wx bo bn bc b) => vreadFixed_any bo bn bc b t un wx hx)
  generalize (readFixed b (szP t)).1 = X at *
  generalize (readFixed b (szP t)).2 = E at *
  generalize szP t = S at *
  have HW := hide (show (w.alloc (.cells #[.int .u8 t, .bool un] 27)).alloc (.cells #[.int .i64 0, .int .i64 0, .int .u64 0, .string ⟨#[]⟩, .bool false, .int .i64 0, .int .i64 0, .int .i64 0, .int .i64 0, .int .i64 0, .int .i64 0, .int .i64 0] 32) = w2 from hw2.symm)
  have PP := hide P0
  obtain ⟨t0, t1⟩ := P0.cells
  have SZ := hide (vaC_size ⟨4, 0, X, ⟨#[]⟩, wh0⟩)
  have SO := hide (vaC_one ⟨4, 0, X, ⟨#[]⟩, wh0⟩)
  clear hw2 P0 e1 hb q0 q1 hk
  go_enter Try.func77, Try.ntmps77
  go_wp2_with (first | (go_at_call 56; rw [unhide HW]; (with_reducible refine (unhide cK).mono ?_); rintro e w3 ⟨rfl, b3⟩; have P3 := (unhide PP).later b3; have HB := hide ((unhide HB0).later b3); clear b3 t0 t1; obtain ⟨t0, t1⟩ := P3.cells; have PP := hide P3; clear P3) | (go_at_call 94; (with_reducible refine (unhide cR w3 (unhide HB)).mono ?_); rintro e w4 ⟨rfl, b4⟩; have P4 := (unhide PP).later b4; clear b4; have PP := hide P4; clear P4) | (with_reducible show wpList Try.prog _ _ (Oper.mk _ (Op.store 32 _ _) _ _ _ none :: _) _ _; refine wpList_stG rfl _ (.tmp 4) (.tmp 55) rfl (w.heap.size + 1) (vaC ⟨4, 0, X, ⟨#[]⟩, wh0⟩) (vaC va0) rfl rfl (unhide PP).rr (unhide SZ) rfl (unhide SO) ?_; intro w8 r8 g8 s8; have P8 := hide ((unhide PP).set r8 g8); clear r8 g8 s8))
  refine bodyPost_ret (results_row_tmp2 rfl _ _ (w.heap.size + 1) _ rfl (run_loadVar_row _ (w.heap.size + 1) _ _ _ _ _ (unhide P8).rr Try.underlying32 rfl (unhide SZ))) rfl ?_
  exact ⟨rfl, (unhide P8).bl⟩

set_option maxHeartbeats 1000000 in
set_option maxRecDepth 100000 in
theorem readAny_5 (bo : Option Addr) (bn bc : Nat) (b : List Int) (t : Int) (un : Bool) (w : World) (q0 : 0 ≤ t) (q1 : t < 256) (hb : Bs w bo bn bc b) (hk : kdV t un = 5) :
    Calls Try.prog 77 #[.slice bo bn bc, .agg #[.int .u8 t, .bool un]] w fun e w' => e = .returned (.tuple #[.agg (vaC (rdA b t un).1), .int .i64 (rdA b t un).2.1, .int .i64 (rdA b t un).2.2]) ∧ Below w.heap.size w w' := by
  have P0 := Pz.new w t un (vaC va0)
  obtain ⟨w2, hw2⟩ : ∃ z, z = (w.alloc (.cells #[.int .u8 t, .bool un] 27)).alloc (.cells (vaC va0) 32) := ⟨_, rfl⟩
  rw [← hw2] at P0
  have HB0 := hide (hb.later P0.bl)
  have cK := hide (kind_any t un w2 q0 q1)
  have e1 : rdA b t un = (⟨5, 0, 0, ⟨#[]⟩, (rdD b).1⟩, (rdD b).2.1, (rdD b).2.2) := by
    unfold rdA
    simp only [hk]; rfl
  rw [e1]
  rw [hk] at cK
  have cR := hide (fun wx (hx : Bs wx bo bn bc b) => readDate_any bo bn bc b wx hx)
  generalize (rdD b).2.1 = NN at *
  generalize (rdD b).2.2 = E at *
  generalize (rdD b).1 = W at *
  obtain ⟨ng, y, mo, d, h, mi, s, mc⟩ := W
  unfold whC at cR
  have HW := hide (show (w.alloc (.cells #[.int .u8 t, .bool un] 27)).alloc (.cells #[.int .i64 0, .int .i64 0, .int .u64 0, .string ⟨#[]⟩, .bool false, .int .i64 0, .int .i64 0, .int .i64 0, .int .i64 0, .int .i64 0, .int .i64 0, .int .i64 0] 32) = w2 from hw2.symm)
  have PP := hide P0
  obtain ⟨t0, t1⟩ := P0.cells
  have SZ := hide (vaC_size ⟨5, 0, 0, ⟨#[]⟩, ⟨ng, y, mo, d, h, mi, s, mc⟩⟩)
  have SO := hide (vaC_one ⟨5, 0, 0, ⟨#[]⟩, ⟨ng, y, mo, d, h, mi, s, mc⟩⟩)
  clear hw2 P0 e1 hb q0 q1 hk
  go_enter Try.func77, Try.ntmps77
  go_wp2_with (first | (go_at_call 56; rw [unhide HW]; (with_reducible refine (unhide cK).mono ?_); rintro e w3 ⟨rfl, b3⟩; have P3 := (unhide PP).later b3; have HB := hide ((unhide HB0).later b3); clear b3 t0 t1; obtain ⟨t0, t1⟩ := P3.cells; have PP := hide P3; clear P3) | (go_at_call 95; (with_reducible refine (unhide cR w3 (unhide HB)).mono ?_); rintro e w4 ⟨rfl, b4⟩; have P4 := ((unhide PP).later b4).later (below_alloc w4 (.cells #[.bool ng, .int .i64 y, .int .i64 mo, .int .i64 d, .int .i64 h, .int .i64 mi, .int .i64 s, .int .i64 mc] 30)); clear b4; have PP := hide P4; clear P4) | (with_reducible show wpList Try.prog _ _ (Oper.mk _ (Op.store 32 _ _) _ _ _ none :: _) _ _; refine wpList_stG rfl _ (.tmp 4) (.tmp 68) rfl (w.heap.size + 1) (vaC ⟨5, 0, 0, ⟨#[]⟩, ⟨ng, y, mo, d, h, mi, s, mc⟩⟩) (vaC va0) rfl rfl (unhide PP).rr (unhide SZ) rfl (unhide SO) ?_; intro w8 r8 g8 s8; have P8 := hide ((unhide PP).set r8 g8); clear r8 g8 s8))
  refine bodyPost_ret (results_row_tmp2 rfl _ _ (w.heap.size + 1) _ rfl (run_loadVar_row _ (w.heap.size + 1) _ _ _ _ _ (unhide P8).rr Try.underlying32 rfl (unhide SZ))) rfl ?_
  exact ⟨rfl, (unhide P8).bl⟩

set_option maxHeartbeats 1000000 in
set_option maxRecDepth 100000 in
theorem readAny_6 (bo : Option Addr) (bn bc : Nat) (b : List Int) (t : Int) (un : Bool) (w : World) (q0 : 0 ≤ t) (q1 : t < 256) (hb : Bs w bo bn bc b) (hk : kdV t un = 6) :
    Calls Try.prog 77 #[.slice bo bn bc, .agg #[.int .u8 t, .bool un]] w fun e w' => e = .returned (.tuple #[.agg (vaC (rdA b t un).1), .int .i64 (rdA b t un).2.1, .int .i64 (rdA b t un).2.2]) ∧ Below w.heap.size w w' := by
  have P0 := Pz.new w t un (vaC va0)
  obtain ⟨w2, hw2⟩ : ∃ z, z = (w.alloc (.cells #[.int .u8 t, .bool un] 27)).alloc (.cells (vaC va0) 32) := ⟨_, rfl⟩
  rw [← hw2] at P0
  have HB0 := hide (hb.later P0.bl)
  have cK := hide (kind_any t un w2 q0 q1)
  have e1 : rdA b t un = (⟨6, 0, 0, ⟨#[]⟩, (rdT b).1⟩, (rdT b).2.1, (rdT b).2.2) := by
    unfold rdA
    simp only [hk]; rfl
  rw [e1]
  rw [hk] at cK
  have cR := hide (fun wx (hx : Bs wx bo bn bc b) => readTime_any bo bn bc b wx hx)
  generalize (rdT b).2.1 = NN at *
  generalize (rdT b).2.2 = E at *
  generalize (rdT b).1 = W at *
  obtain ⟨ng, y, mo, d, h, mi, s, mc⟩ := W
  unfold whC at cR
  have HW := hide (show (w.alloc (.cells #[.int .u8 t, .bool un] 27)).alloc (.cells #[.int .i64 0, .int .i64 0, .int .u64 0, .string ⟨#[]⟩, .bool false, .int .i64 0, .int .i64 0, .int .i64 0, .int .i64 0, .int .i64 0, .int .i64 0, .int .i64 0] 32) = w2 from hw2.symm)
  have PP := hide P0
  obtain ⟨t0, t1⟩ := P0.cells
  have SZ := hide (vaC_size ⟨6, 0, 0, ⟨#[]⟩, ⟨ng, y, mo, d, h, mi, s, mc⟩⟩)
  have SO := hide (vaC_one ⟨6, 0, 0, ⟨#[]⟩, ⟨ng, y, mo, d, h, mi, s, mc⟩⟩)
  clear hw2 P0 e1 hb q0 q1 hk
  go_enter Try.func77, Try.ntmps77
  go_wp2_with (first | (go_at_call 56; rw [unhide HW]; (with_reducible refine (unhide cK).mono ?_); rintro e w3 ⟨rfl, b3⟩; have P3 := (unhide PP).later b3; have HB := hide ((unhide HB0).later b3); clear b3 t0 t1; obtain ⟨t0, t1⟩ := P3.cells; have PP := hide P3; clear P3) | (go_at_call 96; (with_reducible refine (unhide cR w3 (unhide HB)).mono ?_); rintro e w4 ⟨rfl, b4⟩; have P4 := ((unhide PP).later b4).later (below_alloc w4 (.cells #[.bool ng, .int .i64 y, .int .i64 mo, .int .i64 d, .int .i64 h, .int .i64 mi, .int .i64 s, .int .i64 mc] 30)); clear b4; have PP := hide P4; clear P4) | (with_reducible show wpList Try.prog _ _ (Oper.mk _ (Op.store 32 _ _) _ _ _ none :: _) _ _; refine wpList_stG rfl _ (.tmp 4) (.tmp 81) rfl (w.heap.size + 1) (vaC ⟨6, 0, 0, ⟨#[]⟩, ⟨ng, y, mo, d, h, mi, s, mc⟩⟩) (vaC va0) rfl rfl (unhide PP).rr (unhide SZ) rfl (unhide SO) ?_; intro w8 r8 g8 s8; have P8 := hide ((unhide PP).set r8 g8); clear r8 g8 s8))
  refine bodyPost_ret (results_row_tmp2 rfl _ _ (w.heap.size + 1) _ rfl (run_loadVar_row _ (w.heap.size + 1) _ _ _ _ _ (unhide P8).rr Try.underlying32 rfl (unhide SZ))) rfl ?_
  exact ⟨rfl, (unhide P8).bl⟩

set_option maxHeartbeats 1000000 in
set_option maxRecDepth 100000 in
theorem readAny_7 (bo : Option Addr) (bn bc : Nat) (b : List Int) (t : Int) (un : Bool) (w : World) (q0 : 0 ≤ t) (q1 : t < 256) (hb : Bs w bo bn bc b) (hk : kdV t un = 7) :
    Calls Try.prog 77 #[.slice bo bn bc, .agg #[.int .u8 t, .bool un]] w fun e w' => e = .returned (.tuple #[.agg (vaC (rdA b t un).1), .int .i64 (rdA b t un).2.1, .int .i64 (rdA b t un).2.2]) ∧ Below w.heap.size w w' := by
  have P0 := Pz.new w t un (vaC va0)
  obtain ⟨w2, hw2⟩ : ∃ z, z = (w.alloc (.cells #[.int .u8 t, .bool un] 27)).alloc (.cells (vaC va0) 32) := ⟨_, rfl⟩
  rw [← hw2] at P0
  have HB0 := hide (hb.later P0.bl)
  have cK := hide (kind_any t un w2 q0 q1)
  have e1 : rdA b t un = (⟨7, 0, 0, (readText b).1, wh0⟩, (readText b).2.1, (readText b).2.2) := by
    unfold rdA
    simp only [hk]; rfl
  rw [e1]
  rw [hk] at cK
  have cR := hide (fun wx (hx : Bs wx bo bn bc b) => readText_any bo bn bc b wx hx)
  generalize (readText b).2.1 = NN at *
  generalize (readText b).2.2 = E at *
  generalize (readText b).1 = TT at *
  have HW := hide (show (w.alloc (.cells #[.int .u8 t, .bool un] 27)).alloc (.cells #[.int .i64 0, .int .i64 0, .int .u64 0, .string ⟨#[]⟩, .bool false, .int .i64 0, .int .i64 0, .int .i64 0, .int .i64 0, .int .i64 0, .int .i64 0, .int .i64 0] 32) = w2 from hw2.symm)
  have PP := hide P0
  obtain ⟨t0, t1⟩ := P0.cells
  have SZ := hide (vaC_size ⟨7, 0, 0, TT, wh0⟩)
  have SO := hide (vaC_one ⟨7, 0, 0, TT, wh0⟩)
  clear hw2 P0 e1 hb q0 q1 hk
  go_enter Try.func77, Try.ntmps77
  go_wp2_with (first | (go_at_call 56; rw [unhide HW]; (with_reducible refine (unhide cK).mono ?_); rintro e w3 ⟨rfl, b3⟩; have P3 := (unhide PP).later b3; have HB := hide ((unhide HB0).later b3); clear b3 t0 t1; obtain ⟨t0, t1⟩ := P3.cells; have PP := hide P3; clear P3) | (go_at_call 97; (with_reducible refine same_world (unhide cR w3 (unhide HB)) ?_)) | (with_reducible show wpList Try.prog _ _ (Oper.mk _ (Op.store 32 _ _) _ _ _ none :: _) _ _; refine wpList_stG rfl _ (.tmp 4) (.tmp 94) rfl (w.heap.size + 1) (vaC ⟨7, 0, 0, TT, wh0⟩) (vaC va0) rfl rfl (unhide PP).rr (unhide SZ) rfl (unhide SO) ?_; intro w8 r8 g8 s8; have P8 := hide ((unhide PP).set r8 g8); clear r8 g8 s8))
  refine bodyPost_ret (results_row_tmp2 rfl _ _ (w.heap.size + 1) _ rfl (run_loadVar_row _ (w.heap.size + 1) _ _ _ _ _ (unhide P8).rr Try.underlying32 rfl (unhide SZ))) rfl ?_
  exact ⟨rfl, (unhide P8).bl⟩

set_option maxHeartbeats 1000000 in
set_option maxRecDepth 100000 in
theorem readAny_0 (bo : Option Addr) (bn bc : Nat) (b : List Int) (t : Int) (un : Bool) (w : World) (q0 : 0 ≤ t) (q1 : t < 256) (hb : Bs w bo bn bc b) (hk : kdV t un = 0) :
    Calls Try.prog 77 #[.slice bo bn bc, .agg #[.int .u8 t, .bool un]] w fun e w' => e = .returned (.tuple #[.agg (vaC (rdA b t un).1), .int .i64 (rdA b t un).2.1, .int .i64 (rdA b t un).2.2]) ∧ Below w.heap.size w w' := by
  have P0 := Pz.new w t un (vaC va0)
  obtain ⟨w2, hw2⟩ : ∃ z, z = (w.alloc (.cells #[.int .u8 t, .bool un] 27)).alloc (.cells (vaC va0) 32) := ⟨_, rfl⟩
  rw [← hw2] at P0
  have HB0 := hide (hb.later P0.bl)
  have cK := hide (kind_any t un w2 q0 q1)
  have e1 : rdA b t un = (va0, 0, 0) := by
    unfold rdA
    simp only [hk]; rfl
  rw [e1]
  rw [hk] at cK
  have HW := hide (show (w.alloc (.cells #[.int .u8 t, .bool un] 27)).alloc (.cells #[.int .i64 0, .int .i64 0, .int .u64 0, .string ⟨#[]⟩, .bool false, .int .i64 0, .int .i64 0, .int .i64 0, .int .i64 0, .int .i64 0, .int .i64 0, .int .i64 0] 32) = w2 from hw2.symm)
  have PP := hide P0
  obtain ⟨t0, t1⟩ := P0.cells
  have SZ := hide (vaC_size va0)
  have SO := hide (vaC_one va0)
  clear hw2 P0 e1 hb q0 q1 hk
  go_enter Try.func77, Try.ntmps77
  go_wp2_with (first | (go_at_call 56; rw [unhide HW]; (with_reducible refine (unhide cK).mono ?_); rintro e w3 ⟨rfl, b3⟩; have P3 := (unhide PP).later b3; have HB := hide ((unhide HB0).later b3); clear b3 t0 t1; obtain ⟨t0, t1⟩ := P3.cells; have PP := hide P3; clear P3) | (with_reducible show wpList Try.prog _ _ (Oper.mk _ (Op.store 32 _ _) _ _ _ none :: _) _ _; refine wpList_stG rfl _ (.tmp 4) (.tmp 97) rfl (w.heap.size + 1) (vaC va0) (vaC va0) rfl rfl (unhide PP).rr (unhide SZ) rfl (unhide SO) ?_; intro w8 r8 g8 s8; have P8 := hide ((unhide PP).set r8 g8); clear r8 g8 s8))
  refine bodyPost_ret (results_row_tmp2 rfl _ _ (w.heap.size + 1) _ rfl (run_loadVar_row _ (w.heap.size + 1) _ _ _ _ _ (unhide P8).rr Try.underlying32 rfl (unhide SZ))) rfl ?_
  exact ⟨rfl, (unhide P8).bl⟩


end Go.Proofs.Ytfgghgoonfamkaa
