/-
  ValueReads walked: any bytes, and any text, are read as a value of any type as the document's own answer does. Conditions: the slice can be read; the library's variables read as their initialisers lay them.
-/
import Derived.Test.YtgldbainhncneaaGreatDoorVrRd
import Derived.Test.YtgldbainhncneaaGreatDoorVrOf
import Derived.Test.YtgldbainhncneaaGreatDoorVaRd6
import Derived.Test.YtgldbainhncneaaGreatDoorVaLives
import Derived.Test.YtgldbainhncneaaGreatDoorKit
import Derived.Test.YtgldbainhncneaaGreatDoorMLf
namespace Go.Proofs.YtgldbainhncneaaGreatDoor
open Go.RowKit
set_option linter.unusedVariables false
set_option linter.unusedSimpArgs false

/-- What stands through the whole: the type, the copy, the library's variables, nothing old changed. -/
structure Vrs (w0 : World) (t : Int) (un : Bool) (g n : Nat) (b : List Int) (w : World) : Prop where
  rt : w.heap[w0.heap.size]? = some (.cells #[.int .u8 t, .bool un] 23 (0, 0))
  own : Bs w (some ⟨g, 0, none⟩) (n + 8) (n + 8) (b ++ kpad)
  z : VarZ w
  bel : Below w0.heap.size w0 w
theorem Vrs.later {w0 w w' : World} {t : Int} {un : Bool} {g n : Nat} {b : List Int} (h : Vrs w0 t un g n b w) (hb : Below w.heap.size w w') : Vrs w0 t un g n b w' := ⟨vrow_later h.rt hb, h.own.later hb, h.z.later hb, vbup h.bel hb⟩
theorem Vrs.cells {w0 w : World} {t : Int} {un : Bool} {g n : Nat} {b : List Int} (h : Vrs w0 t un g n b w) : w.cell? ⟨w0.heap.size, 0, none⟩ = some (.int .u8 t) ∧ w.cell? ⟨w0.heap.size, 1, none⟩ = some (.bool un) := ⟨vrow_cell h.rt (j := 0) rfl, vrow_cell h.rt (j := 1) rfl⟩

set_option maxHeartbeats 4000000 in
set_option maxRecDepth 100000 in
theorem lawVaReads (bo : Option Addr) (bn bc : Nat) (b : List Int) (s : ByteArray) (t : Int) (un : Bool) (w : World) (hz : VarZ w) (hb : Bs w bo bn bc b) (ht : 0 ≤ t ∧ t < 256) : Calls Tryz.prog 4 #[.slice bo bn bc, .string s, .agg #[.int .u8 t, .bool un]] w fun e w' => e = .returned (.bool true) ∧ Below w.heap.size w w' := by
  obtain ⟨w1, hw1⟩ : ∃ z, z = w.alloc (.cells #[.int .u8 t, .bool un] 23) := ⟨_, rfl⟩
  have b1 : Below w.heap.size w w1 := by rw [hw1]; exact below_alloc w _
  have r1 : w1.heap[w.heap.size]? = some (.cells #[.int .u8 t, .bool un] 23 (0, 0)) := by rw [hw1]; exact heap_alloc_new w _
  have z1 := hz.later b1
  have cL := hide (lives_any w1 z1.v)
  have hble := hb.le
  have hbmx := hb.max
  have hbl := hb.len
  have HW := hide (show w.alloc (.cells #[.int .u8 t, .bool un] 23) = w1 from hw1.symm)
  have B1 := hide b1
  clear hw1
  by_cases hbig : 2000 < bn
  · have g1 : (2000 : Int) < (bn : Int) := by omega
    clear hb hz z1 r1 b1
    go_enter Tryz.func4, Tryz.ntmps4
    go_wp2_with (first | (go_at_call 12; rw [unhide HW]; refine (unhide cL).mono ?_; rintro e w2 ⟨rfl, b2⟩; have B2 := hide (vbup (unhide B1) b2); clear b2))
    go_ret
    exact ⟨rfl, unhide B2⟩
  by_cases hbs : 2000 < s.size
  · have g1 : ¬ (2000 : Int) < (bn : Int) := by omega
    have g2 : (2000 : Int) < (s.size : Int) := by omega
    clear hb hz z1 r1 b1
    go_enter Tryz.func4, Tryz.ntmps4
    go_wp2_with (first | (go_at_call 12; rw [unhide HW]; refine (unhide cL).mono ?_; rintro e w2 ⟨rfl, b2⟩; have B2 := hide (vbup (unhide B1) b2); clear b2))
    go_ret
    exact ⟨rfl, unhide B2⟩
  have g1 : ¬ (2000 : Int) < (bn : Int) := by omega
  have g2 : ¬ (2000 : Int) < (s.size : Int) := by omega
  have pO := hide (fun (wx : World) g (h : Vrs w t un g bn b wx) => read_any (some ⟨g, 0, none⟩) bn (bn + 8) b t un wx ht.1 ht.2 (h.own.pre hbl))
  have rO := hide (fun (wx : World) g (h : Vrs w t un g bn b wx) => vread_ref bo bn bc b t un wx ht.1 ht.2 (hb.later h.bel) (by omega))
  have pF := hide (fun (wx : World) g (h : Vrs w t un g bn b wx) => of_any s t un wx ht.1 ht.2 h.z (by omega))
  have rF := hide (fun (wx : World) g (h : Vrs w t un g bn b wx) => of_ref s t un wx ht.1 ht.2 (by omega))
  have rK := hide (fun (wx : World) g (h : Vrs w t un g bn b wx) => kept_any g bn bc bo b wx h.own (hb.later h.bel) (by omega))
  have cO := hide (fun (wx : World) (hw : Below w.heap.size w wx) => own_any bo bn bc b wx (hb.later hw) (by omega))
  generalize rdV b t un = RO at *
  generalize ofV s t un = RF at *
  obtain ⟨V, N, E⟩ := RO
  obtain ⟨X, G⟩ := RF
  simp only at pO rO pF rF
  have EV := eqv V V
  rw [decide_eq_true rfl] at EV
  have EX := eqv X X
  rw [decide_eq_true rfl] at EX
  have SV := hide (vaC_size V)
  have OV := hide (vaC_one V)
  have SX := hide (vaC_size X)
  have OX := hide (vaC_one X)
  obtain ⟨k, i, b4, tx, ⟨ng, y, mo, d, h, mi, s4, mc⟩⟩ := X
  have uX : vaC ⟨k, i, b4, tx, ⟨ng, y, mo, d, h, mi, s4, mc⟩⟩ = #[.int .i64 k, .int .i64 i, .int .u64 b4, .string tx, .bool ng, .int .i64 y, .int .i64 mo, .int .i64 d, .int .i64 h, .int .i64 mi, .int .i64 s4, .int .i64 mc] := rfl
  rw [uX] at pF rF EX SX OX
  clear uX
  have T1 := hide r1
  have Z1 := hide z1
  have t0 := vrow_cell r1 (j := 0) (v := .int .u8 t) rfl
  have t1 := vrow_cell r1 (j := 1) (v := .bool un) rfl
  clear hb hbig hbl hbs b1 r1 z1 hz
  go_enter Tryz.func4, Tryz.ntmps4
  go_upto_region 5 with (first | (go_at_call 12; rw [unhide HW]; refine (unhide cL).mono ?_; rintro e w2 ⟨rfl, b2⟩; have B2 := hide (vbup (unhide B1) b2); have T2 := hide (vrow_later (unhide T1) b2); have Z2 := hide ((unhide Z1).later b2); clear b2 cL))
  go_wp2_with fail
  refine (unhide cO _ (unhide B2)).mono ?_
  rintro e w3 ⟨g, rfl, oO, b3⟩
  have H3 := hide (show Vrs w t un g bn b w3 from ⟨vrow_later (unhide T2) b3, oO, (unhide Z2).later b3, vbup (unhide B2) b3⟩)
  clear oO b3 cO B1 B2 T1 T2 Z1 Z2 t0 t1
  obtain ⟨t0, t1⟩ := (unhide H3).cells
  go_wp2_with fail
  refine (unhide pO _ g (unhide H3)).mono ?_
  rintro e w4 ⟨rfl, bA⟩
  have H4 := hide ((unhide H3).later bA)
  clear bA H3 pO t0 t1
  obtain ⟨t0, t1⟩ := (unhide H4).cells
  go_wp2_with (with_reducible show wpList Tryz.prog _ _ (Oper.mk _ (Op.store 32 _ _) _ _ _ none :: _) _ _; refine wpList_stN rfl _ (.tmp 8) (.tmp 34) rfl (vaC V) (by simp [Act.eval, Act.put]) (by simp [Act.eval, Act.put]) (unhide SV) rfl (unhide OV) ?_; intro w5 r5 b5 l5; have H5 := hide ((unhide H4).later b5); have R5 := hide r5; clear b5 r5 l5 t0 t1 H4; obtain ⟨t0, t1⟩ := (unhide H5).cells)
  refine (unhide rO _ g (unhide H5)).mono ?_
  rintro e w6 ⟨rfl, bA⟩
  have H6 := hide ((unhide H5).later bA)
  have R5 := hide (vrow_later (unhide R5) bA)
  clear bA H5 rO t0 t1
  obtain ⟨t0, t1⟩ := (unhide H6).cells
  go_wp2_with (with_reducible show wpList Tryz.prog _ _ (Oper.mk _ (Op.store 32 _ _) _ _ _ none :: _) _ _; refine wpList_stN rfl _ (.tmp 11) (.tmp 41) rfl (vaC V) (by simp [Act.eval, Act.put]) (by simp [Act.eval, Act.put]) (unhide SV) rfl (unhide OV) ?_; intro w7 r7 b7 l7; have H7 := hide ((unhide H6).later b7); have R5 := hide (vrow_later (unhide R5) b7); have R7 := hide r7; clear b7 r7 l7 t0 t1 H6; obtain ⟨t0, t1⟩ := (unhide H7).cells)
  refine (unhide pF _ g (unhide H7)).mono ?_
  rintro e w8 ⟨rfl, bA⟩
  have H8 := hide ((unhide H7).later bA)
  have R5 := hide (vrow_later (unhide R5) bA)
  have R7 := hide (vrow_later (unhide R7) bA)
  clear bA H7 pF t0 t1
  obtain ⟨t0, t1⟩ := (unhide H8).cells
  go_wp2_with (with_reducible show wpList Tryz.prog _ _ (Oper.mk _ (Op.store 32 _ _) _ _ _ none :: _) _ _; refine wpList_stN rfl _ (.tmp 14) (.tmp 48) rfl #[.int .i64 k, .int .i64 i, .int .u64 b4, .string tx, .bool ng, .int .i64 y, .int .i64 mo, .int .i64 d, .int .i64 h, .int .i64 mi, .int .i64 s4, .int .i64 mc] (by simp [Act.eval, Act.put]) (by simp [Act.eval, Act.put]) (unhide SX) rfl (unhide OX) ?_; intro w9 r9 b9 l9; have H9 := hide ((unhide H8).later b9); have R5 := hide (vrow_later (unhide R5) b9); have R7 := hide (vrow_later (unhide R7) b9); have R9 := hide r9; clear b9 r9 l9 t0 t1 H8; obtain ⟨t0, t1⟩ := (unhide H9).cells)
  refine (unhide rF _ g (unhide H9)).mono ?_
  rintro e w10 ⟨rfl, bA⟩
  have H10 := hide ((unhide H9).later bA)
  have R5 := hide (vrow_later (unhide R5) bA)
  have R7 := hide (vrow_later (unhide R7) bA)
  have R9 := hide (vrow_later (unhide R9) bA)
  clear bA H9 rF t0 t1
  obtain ⟨t0, t1⟩ := (unhide H10).cells
  go_wp2_with (first | (with_reducible show wpList Tryz.prog _ _ (Oper.mk _ (Op.store 32 _ _) _ _ _ none :: _) _ _; refine wpList_stN rfl _ (.tmp 16) (.tmp 54) rfl #[.int .i64 k, .int .i64 i, .int .u64 b4, .string tx, .bool ng, .int .i64 y, .int .i64 mo, .int .i64 d, .int .i64 h, .int .i64 mi, .int .i64 s4, .int .i64 mc] (by simp [Act.eval, Act.put]) (by simp [Act.eval, Act.put]) (unhide SX) rfl (unhide OX) ?_; intro w11 r11 b11 l11; have H11 := hide ((unhide H10).later b11); have R5 := hide (vrow_later (unhide R5) b11); have R7 := hide (vrow_later (unhide R7) b11); have R9 := hide (vrow_later (unhide R9) b11); have R11 := hide r11; clear b11 r11 l11 t0 t1 H10; obtain ⟨t0, t1⟩ := (unhide H11).cells; have m0 := vrow_cell (unhide R9) (j := 0) (v := .int .i64 k) rfl; have n0 := vrow_cell (unhide R11) (j := 0) (v := .int .i64 k) rfl; have m1 := vrow_cell (unhide R9) (j := 1) (v := .int .i64 i) rfl; have n1 := vrow_cell (unhide R11) (j := 1) (v := .int .i64 i) rfl; have m2 := vrow_cell (unhide R9) (j := 2) (v := .int .u64 b4) rfl; have n2 := vrow_cell (unhide R11) (j := 2) (v := .int .u64 b4) rfl; have m3 := vrow_cell (unhide R9) (j := 3) (v := .string tx) rfl; have n3 := vrow_cell (unhide R11) (j := 3) (v := .string tx) rfl; have m4 := vrow_cell (unhide R9) (j := 4) (v := .bool ng) rfl; have n4 := vrow_cell (unhide R11) (j := 4) (v := .bool ng) rfl; have m5 := vrow_cell (unhide R9) (j := 5) (v := .int .i64 y) rfl; have n5 := vrow_cell (unhide R11) (j := 5) (v := .int .i64 y) rfl; have m6 := vrow_cell (unhide R9) (j := 6) (v := .int .i64 mo) rfl; have n6 := vrow_cell (unhide R11) (j := 6) (v := .int .i64 mo) rfl; have m7 := vrow_cell (unhide R9) (j := 7) (v := .int .i64 d) rfl; have n7 := vrow_cell (unhide R11) (j := 7) (v := .int .i64 d) rfl; have m8 := vrow_cell (unhide R9) (j := 8) (v := .int .i64 h) rfl; have n8 := vrow_cell (unhide R11) (j := 8) (v := .int .i64 h) rfl; have m9 := vrow_cell (unhide R9) (j := 9) (v := .int .i64 mi) rfl; have n9 := vrow_cell (unhide R11) (j := 9) (v := .int .i64 mi) rfl; have m10 := vrow_cell (unhide R9) (j := 10) (v := .int .i64 s4) rfl; have n10 := vrow_cell (unhide R11) (j := 10) (v := .int .i64 s4) rfl; have m11 := vrow_cell (unhide R9) (j := 11) (v := .int .i64 mc) rfl; have n11 := vrow_cell (unhide R11) (j := 11) (v := .int .i64 mc) rfl) | (with_reducible show wpList Tryz.prog _ _ (Oper.mk _ (Op.load 32 _) _ _ _ none :: _) _ _; refine wpList_load_row rfl _ (.tmp 8) rfl w4.heap.size rfl _ (vaC V) (0, 0) _ (unhide R5) Tryz.underlying32 rfl (unhide SV) ?_) | (with_reducible show wpList Tryz.prog _ _ (Oper.mk _ (Op.load 32 _) _ _ _ none :: _) _ _; refine wpList_load_row rfl _ (.tmp 11) rfl w6.heap.size rfl _ (vaC V) (0, 0) _ (unhide R7) Tryz.underlying32 rfl (unhide SV) ?_) | (go_at_call 16; refine same_world (unhide rK _ g (unhide H11)) ?_))
  go_ret
  exact ⟨rfl, (unhide H11).bel⟩


end Go.Proofs.YtgldbainhncneaaGreatDoor
