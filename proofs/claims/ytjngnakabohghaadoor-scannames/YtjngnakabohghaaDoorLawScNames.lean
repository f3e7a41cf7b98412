/-
  ScanNames of layer 19, for the walk: it returns true. Conditions: the library's variables read as they were laid.
-/
import Derived.Test.YtjngnakabohghaaDoorScLiv
import Derived.Test.YtjngnakabohghaaDoorScQt
import Derived.Test.YtjngnakabohghaaDoorSameT
namespace Go.Proofs.YtjngnakabohghaaDoor
open Go.RowKit
set_option linter.unusedVariables false
set_option linter.unusedSimpArgs false
theorem nm_1 : alW (bl ⟨#[64, 120, 58, 61, 64, 64, 83, 101, 115, 115, 105, 111, 110, 46, 121, 59, 32, 49, 97, 32, 48, 120, 49, 70, 32, 49, 46, 53, 101, 45, 51, 32, 46, 53]⟩) = ([⟨6, ⟨#[120]⟩, 0⟩, ⟨5, ⟨#[58, 61]⟩, 2⟩, ⟨7, ⟨#[115, 101, 115, 115, 105, 111, 110, 46, 121]⟩, 4⟩, ⟨5, ⟨#[59]⟩, 15⟩, ⟨1, ⟨#[49, 97]⟩, 17⟩, ⟨4, ⟨#[48, 120, 49, 70]⟩, 20⟩, ⟨4, ⟨#[49, 46, 53, 101, 45, 51]⟩, 25⟩, ⟨4, ⟨#[46, 53]⟩, 32⟩], ⟨0, 0⟩) := by decide +kernel
theorem nm_2 : alW (bl ⟨#[47, 42, 33, 52, 48, 48, 48, 48, 32, 120, 42, 47]⟩) = ([⟨9, ⟨#[47, 42, 33, 52, 48, 48, 48, 48, 32, 120, 42, 47]⟩, 0⟩], ⟨0, 0⟩) := by decide +kernel
theorem nm_30 : alW (bl ⟨#[47, 42, 32, 120]⟩) = ([], ⟨190, 0⟩) := by decide +kernel
theorem nm_31 : alW (bl ⟨#[39, 97]⟩) = ([], ⟨190, 0⟩) := by decide +kernel
theorem nm_40 : alW (bl ⟨#[255]⟩) = ([], ⟨191, 0⟩) := by decide +kernel
theorem nm_41 : alW (bl ⟨#[64]⟩) = ([], ⟨191, 0⟩) := by decide +kernel
theorem nm_42 : alW (bl ⟨#[0]⟩) = ([], ⟨191, 0⟩) := by decide +kernel
theorem nm_5 : spW (bl ⟨#[97, 59, 32, 59, 98, 45, 45, 32, 99]⟩) = ([⟨#[97]⟩, ⟨#[98, 45, 45, 32, 99]⟩], ⟨0, 0⟩) := by decide +kernel
theorem nm_6 : ba (qto (bl ⟨#[105, 116, 39, 115]⟩)) = ⟨#[39, 105, 116, 39, 39, 115, 39]⟩ := by decide +kernel
theorem nm_7 : sw false [⟨6, ⟨#[120]⟩, 0⟩, ⟨5, ⟨#[58, 61]⟩, 2⟩, ⟨7, ⟨#[115, 101, 115, 115, 105, 111, 110, 46, 121]⟩, 4⟩, ⟨5, ⟨#[59]⟩, 15⟩, ⟨1, ⟨#[49, 97]⟩, 17⟩, ⟨4, ⟨#[48, 120, 49, 70]⟩, 20⟩, ⟨4, ⟨#[49, 46, 53, 101, 45, 51]⟩, 25⟩, ⟨4, ⟨#[46, 53]⟩, 32⟩] [⟨6, ⟨#[120]⟩, 0⟩, ⟨5, ⟨#[58, 61]⟩, 0⟩, ⟨7, ⟨#[115, 101, 115, 115, 105, 111, 110, 46, 121]⟩, 0⟩, ⟨5, ⟨#[59]⟩, 0⟩, ⟨1, ⟨#[49, 97]⟩, 0⟩, ⟨4, ⟨#[48, 120, 49, 70]⟩, 0⟩, ⟨4, ⟨#[49, 46, 53, 101, 45, 51]⟩, 0⟩, ⟨4, ⟨#[46, 53]⟩, 0⟩] = true := by decide +kernel

theorem split_ex (s : ByteArray) (w : World) (hV : Vr w) : Calls Tryd.prog 11 #[.string s] w fun e w' => ∃ ao n c, e = .returned (.tuple #[.slice ao n c, .agg (ftC (spW (bl s)).2)]) ∧ TMine w.heap.size w' ao n c (spW (bl s)).1 ∧ Below w.heap.size w w' := split_any s w hV
theorem all_lit (s : ByteArray) (ws : List Wd) (f : Ft) (h : alW (bl s) = (ws, f)) (w : World) (hV : Vr w) : Calls Tryd.prog 9 #[.string s] w fun e w' => ∃ ao n c, e = .returned (.tuple #[.slice ao n c, .agg (ftC f)]) ∧ WdMine w.heap.size w' ao n c ws ∧ Below w.heap.size w w' := by
  have := all_ex s w hV
  rw [h] at this
  exact this
theorem texts_lit (lit : List ByteArray) (C : Array Value) (hC : (lit.map Value.string).toArray = C) (hf : ∀ s ∈ lit, s.size ≤ 9223372036854775807) (hl : lit.length ≤ 1000) (ao : Option Addr) (n c : Nat) (xs : List ByteArray) (g : Nat) (w : World) (h : Ss w ao n c xs) (hg : g = w.heap.size) :
    Calls Tryd.prog 13 #[.slice ao n c, .slice (some ⟨g, 0, none⟩) lit.length lit.length] (w.alloc (.cells C 9)) fun e w' => e = .returned (.bool (decide (xs = lit))) ∧ Below w.heap.size w w' := by
  subst hC
  subst hg
  exact (sameTexts_any ao n c xs _ _ _ lit _ (h.later (below_alloc w _)) (Ss.lit w lit hf hl)).mono fun e w' k => ⟨k.1, bt (below_alloc w _) k.2⟩
theorem eq_00 (w : World) : (binOp .eql 25 (.agg #[.int .i64 0, .int .i64 0]) (.agg #[.int .i64 0, .int .i64 0])).run Tryd.prog w = .ok (.bool true) w := eq_ft ⟨0, 0⟩ w
theorem eq_e0 (e : Int) (w : World) : (binOp .eql 25 (.agg #[.int .i64 e, .int .i64 0]) (.agg #[.int .i64 e, .int .i64 0])).run Tryd.prog w = .ok (.bool true) w := by
  rw [run_eql_struct, run_equalIn_agg w 9999 _ _ _ (by kernel_rfl) (by kernel_rfl)]
  simp [go_sem, Tryd.underlying25]

set_option maxHeartbeats 8000000 in
set_option maxRecDepth 50000 in
theorem lawScNames (w : World) (hV : Vr w) : Calls Tryd.prog 3 #[] w fun e w' => e = .returned (.bool true) ∧ Below w.heap.size w w' := by
  have HV := hide hV
  have A1 := hide (fun wx h => all_lit _ _ _ nm_1 wx h)
  have A2 := hide (fun wx h => all_lit _ _ _ nm_2 wx h)
  have A30 := hide (fun wx h => all_lit _ _ _ nm_30 wx h)
  have A31 := hide (fun wx h => all_lit _ _ _ nm_31 wx h)
  have A40 := hide (fun wx h => all_lit _ _ _ nm_40 wx h)
  have A41 := hide (fun wx h => all_lit _ _ _ nm_41 wx h)
  have A42 := hide (fun wx h => all_lit _ _ _ nm_42 wx h)
  have S1 := hide (fun (ao : Option Addr) (n c g : Nat) (wx : World) (h : Wds wx ao n c [⟨6, ⟨#[120]⟩, 0⟩, ⟨5, ⟨#[58, 61]⟩, 2⟩, ⟨7, ⟨#[115, 101, 115, 115, 105, 111, 110, 46, 121]⟩, 4⟩, ⟨5, ⟨#[59]⟩, 15⟩, ⟨1, ⟨#[49, 97]⟩, 17⟩, ⟨4, ⟨#[48, 120, 49, 70]⟩, 20⟩, ⟨4, ⟨#[49, 46, 53, 101, 45, 51]⟩, 25⟩, ⟨4, ⟨#[46, 53]⟩, 32⟩]) (hg : g = wx.heap.size) => same_lit false [⟨6, ⟨#[120]⟩, 0⟩, ⟨5, ⟨#[58, 61]⟩, 0⟩, ⟨7, ⟨#[115, 101, 115, 115, 105, 111, 110, 46, 121]⟩, 0⟩, ⟨5, ⟨#[59]⟩, 0⟩, ⟨1, ⟨#[49, 97]⟩, 0⟩, ⟨4, ⟨#[48, 120, 49, 70]⟩, 0⟩, ⟨4, ⟨#[49, 46, 53, 101, 45, 51]⟩, 0⟩, ⟨4, ⟨#[46, 53]⟩, 0⟩] #[.int .i64 6, .string ⟨#[120]⟩, .int .i64 0, .int .i64 5, .string ⟨#[58, 61]⟩, .int .i64 0, .int .i64 7, .string ⟨#[115, 101, 115, 115, 105, 111, 110, 46, 121]⟩, .int .i64 0, .int .i64 5, .string ⟨#[59]⟩, .int .i64 0, .int .i64 1, .string ⟨#[49, 97]⟩, .int .i64 0, .int .i64 4, .string ⟨#[48, 120, 49, 70]⟩, .int .i64 0, .int .i64 4, .string ⟨#[49, 46, 53, 101, 45, 51]⟩, .int .i64 0, .int .i64 4, .string ⟨#[46, 53]⟩, .int .i64 0] rfl (by decide) ao n c _ g wx h hg)
  rw [nm_7, show ([⟨6, ⟨#[120]⟩, 0⟩, ⟨5, ⟨#[58, 61]⟩, 0⟩, ⟨7, ⟨#[115, 101, 115, 115, 105, 111, 110, 46, 121]⟩, 0⟩, ⟨5, ⟨#[59]⟩, 0⟩, ⟨1, ⟨#[49, 97]⟩, 0⟩, ⟨4, ⟨#[48, 120, 49, 70]⟩, 0⟩, ⟨4, ⟨#[49, 46, 53, 101, 45, 51]⟩, 0⟩, ⟨4, ⟨#[46, 53]⟩, 0⟩] : List Wd).length = 8 from rfl] at S1
  have S2 := hide (fun (ao : Option Addr) (n c g : Nat) (wx : World) (h : Wds wx ao n c [⟨9, ⟨#[47, 42, 33, 52, 48, 48, 48, 48, 32, 120, 42, 47]⟩, 0⟩]) (hg : g = wx.heap.size) => same_lit true [⟨9, ⟨#[47, 42, 33, 52, 48, 48, 48, 48, 32, 120, 42, 47]⟩, 0⟩] #[.int .i64 9, .string ⟨#[47, 42, 33, 52, 48, 48, 48, 48, 32, 120, 42, 47]⟩, .int .i64 0] rfl (by decide) ao n c _ g wx h hg)
  rw [sw_self, show ([⟨9, ⟨#[47, 42, 33, 52, 48, 48, 48, 48, 32, 120, 42, 47]⟩, 0⟩] : List Wd).length = 1 from rfl] at S2
  have P5 := fun wx (h : Vr wx) => split_ex ⟨#[97, 59, 32, 59, 98, 45, 45, 32, 99]⟩ wx h
  rw [nm_5] at P5
  simp only at P5
  have P5 := hide P5
  have X5 := hide (fun (ao : Option Addr) (n c g : Nat) (wx : World) (h : Ss wx ao n c [⟨#[97]⟩, ⟨#[98, 45, 45, 32, 99]⟩]) (hg : g = wx.heap.size) => texts_lit [⟨#[97]⟩, ⟨#[98, 45, 45, 32, 99]⟩] #[.string ⟨#[97]⟩, .string ⟨#[98, 45, 45, 32, 99]⟩] rfl (by intro s hs; simp only [List.mem_cons, List.not_mem_nil, or_false] at hs; rcases hs with rfl | rfl <;> decide) (by decide) ao n c _ g wx h hg)
  rw [decide_eq_true (rfl : ([⟨#[97]⟩, ⟨#[98, 45, 45, 32, 99]⟩] : List ByteArray) = [⟨#[97]⟩, ⟨#[98, 45, 45, 32, 99]⟩]), show ([⟨#[97]⟩, ⟨#[98, 45, 45, 32, 99]⟩] : List ByteArray).length = 2 from rfl] at X5
  have Q6 := fun wx (h : Vr wx) => quote_any ⟨#[105, 116, 39, 115]⟩ wx h (by decide)
  rw [nm_6] at Q6
  have Q6 := hide Q6
  have L7 := hide (fun wx (h : Vr wx) => lives_any wx h)
  have e00 := eq_00
  have e190 := eq_e0 190
  have e191 := eq_e0 191
  have eok := eq_ft ok0
  simp only [decide_true] at eok
  go_enter Tryd.func3, Tryd.ntmps3
  go_wp2_with (first | (go_at_call 9; (with_reducible refine (unhide A1 w hV).mono ?_); rintro e w1 ⟨ao, n, c, rfl, m1, b1⟩; have hle := m1.ss.le; have hmx := m1.ss.max) | (with_reducible show wpList Tryd.prog _ _ (Oper.mk _ (Op.alloc 25) _ _ _ none :: _) _ _; refine wpList_alT rfl rfl ?_; intro w2 f2 q2 t2; have m2 := m1.later q2; have b2 := bt b1 q2) | (with_reducible show wpList Tryd.prog _ _ (Oper.mk _ (Op.store 25 _ _) _ _ _ none :: _) _ _; refine wpList_stT rfl (.tmp 3) (.tmp 14) rfl _ ⟨0, 0⟩ ⟨0, 0⟩ (by simp [Act.eval, Act.put]) (by simp [Act.eval, Act.put]) f2 ?_; intro w3 f3 g3 t3; have m3 := m2.keep (fun k hk => g3.block k (m2.ob hk).2 (by have := (m1.ob hk).2; omega)); have b3 := below_gb b2 g3 b1.size) | (with_reducible show wpList Tryd.prog _ _ (Oper.mk _ (Op.load 25 _) _ _ _ none :: _) _ _; refine wpList_ldT rfl (.tmp 3) rfl _ ok0 (by simp [Act.eval, Act.put]) (f3.later (below_alloc w3 _)) ?_) | (go_at_call 10; (with_reducible refine (unhide S1 ao n c _ w3 m3.ss (by omega)).mono ?_); rintro e w4 ⟨rfl, q4⟩; have b4 := bt b3 q4; have f4 := f3.later q4; have z4 := f4.lt) | (go_at_call 9; (with_reducible refine (unhide A2 w4 ((unhide HV).later b4)).mono ?_); rintro e w5 ⟨ao2, n2, c2, rfl, m5, q5⟩; have b5 := bt b4 q5; have f5 := f4.later q5; have hle2 := m5.ss.le; have hmx2 := m5.ss.max) | (with_reducible show wpList Tryd.prog _ _ (Oper.mk _ (Op.store 25 _ _) _ _ _ none :: _) _ _; refine wpList_stT rfl (.tmp 3) (.tmp 35) rfl _ ⟨0, 0⟩ ⟨0, 0⟩ (by simp [Act.eval, Act.put]) (by simp [Act.eval, Act.put]) f5 ?_; intro w6 f6 g6 t6; have m6 := m5.gb z4 g6; have b6 := below_gb b5 g6 b1.size; have k0 := tb_e f6; have k1 := tb_a f6) | (go_at_call 10; (with_reducible refine (unhide S2 ao2 n2 c2 _ w6 m6.ss (by omega)).mono ?_); rintro e w7 ⟨rfl, q7⟩; have b7 := bt b6 q7; have f7 := f6.later q7))
  have hgF := b1.size
  have hz50 : w7.heap.size < (w7.alloc (.cells #[.string ⟨#[47, 42, 32, 120]⟩, .string ⟨#[39, 97]⟩] 9)).heap.size := by simp
  have b50 := bt b7 (below_alloc w7 (.cells #[.string ⟨#[47, 42, 32, 120]⟩, .string ⟨#[39, 97]⟩] 9))
  have f50 := f7.later (below_alloc w7 (.cells #[.string ⟨#[47, 42, 32, 120]⟩, .string ⟨#[39, 97]⟩] 9))
  have c50_0 := cell_top w7 #[.string ⟨#[47, 42, 32, 120]⟩, .string ⟨#[39, 97]⟩] 9 0 w7.heap.size rfl
  have c50_1 := cell_top w7 #[.string ⟨#[47, 42, 32, 120]⟩, .string ⟨#[39, 97]⟩] 9 1 w7.heap.size rfl
  have y50 := f7.lt
  generalize w7.alloc (.cells #[.string ⟨#[47, 42, 32, 120]⟩, .string ⟨#[39, 97]⟩] 9) = w50 at *
  go_loopw [50, 5] (fun iv ov wr => ∃ (j : Nat) (F : Ft), j ≤ 2 ∧ iv = .int .i64 (j : Int) ∧ ov = .bool true ∧ Tb w1.heap.size F wr ∧ Below w.heap.size w wr ∧ w7.heap.size < wr.heap.size ∧ wr.cell? ⟨w7.heap.size, 0, none⟩ = some (.string ⟨#[47, 42, 32, 120]⟩) ∧ wr.cell? ⟨w7.heap.size, 1, none⟩ = some (.string ⟨#[39, 97]⟩)) (fun iv _ _ => 2 - (intOf iv).toNat)
  case atStart => exact ⟨0, _, by omega, rfl, rfl, f50, b50, by omega, c50_0, c50_1⟩
  case round =>
    obtain ⟨j, F, hj, rfl, rfl, fr, br, zr, d0, d1⟩ := hrel
    have HFR := hide fr
    by_cases hlt : j < 2
    · have hj2 : j = 0 ∨ j = 1 := by omega
      rcases hj2 with rfl | rfl
      · go_wp2_with (first | (go_at_call 9; (with_reducible refine (unhide A30 wr ((unhide HV).later br)).mono ?_); rintro e wy ⟨ax, nx, cx, rfl, mx, qx⟩; have fy := fr.later qx; have by' := bt br qx; have sx := qx.size) | (with_reducible show wpList Tryd.prog _ _ (Oper.mk _ (Op.store 25 _ _) _ _ _ none :: _) _ _; refine wpList_stT rfl (.tmp 3) (.tmp 58) rfl w1.heap.size ⟨190, 0⟩ F (by simp [Act.eval, Act.put]) (by simp [Act.eval, Act.put]) fy ?_; intro wz fz gz tz; have bz := below_gb by' gz (by omega); have k0 := tb_e fz; have k1 := tb_a fz))
        go_roundw
        case rel => exact ⟨1, ⟨190, 0⟩, by omega, by go_num, rfl, fz, bz, by omega, by rw [World.cell?_of_block (w := wr) (a := ⟨w7.heap.size, 0, none⟩) ((gz.block w7.heap.size (by omega) (by omega)).trans (qx.block w7.heap.size zr))]; exact d0, by rw [World.cell?_of_block (w := wr) (a := ⟨w7.heap.size, 1, none⟩) ((gz.block w7.heap.size (by omega) (by omega)).trans (qx.block w7.heap.size zr))]; exact d1⟩
        case measure => simp [intOf]
      · go_wp2_with (first | (go_at_call 9; (with_reducible refine (unhide A31 wr ((unhide HV).later br)).mono ?_); rintro e wy ⟨ax, nx, cx, rfl, mx, qx⟩; have fy := fr.later qx; have by' := bt br qx; have sx := qx.size) | (with_reducible show wpList Tryd.prog _ _ (Oper.mk _ (Op.store 25 _ _) _ _ _ none :: _) _ _; refine wpList_stT rfl (.tmp 3) (.tmp 58) rfl w1.heap.size ⟨190, 0⟩ F (by simp [Act.eval, Act.put]) (by simp [Act.eval, Act.put]) fy ?_; intro wz fz gz tz; have bz := below_gb by' gz (by omega); have k0 := tb_e fz; have k1 := tb_a fz))
        go_roundw
        case rel => exact ⟨2, ⟨190, 0⟩, by omega, by go_num, rfl, fz, bz, by omega, by rw [World.cell?_of_block (w := wr) (a := ⟨w7.heap.size, 0, none⟩) ((gz.block w7.heap.size (by omega) (by omega)).trans (qx.block w7.heap.size zr))]; exact d0, by rw [World.cell?_of_block (w := wr) (a := ⟨w7.heap.size, 1, none⟩) ((gz.block w7.heap.size (by omega) (by omega)).trans (qx.block w7.heap.size zr))]; exact d1⟩
        case measure => simp [intOf]
    · have hjn : j = 2 := by omega
      subst hjn
      clear HFR d0 d1 hlt
      rw [show ((2 : Nat) : Int) = 2 from rfl]
      go_wp2_with fail
      generalize wr = wq at *
      have hz68 : wq.heap.size < (wq.alloc (.cells #[.string ⟨#[255]⟩, .string ⟨#[64]⟩, .string ⟨#[0]⟩] 9)).heap.size := by simp
      have b68 := bt br (below_alloc wq (.cells #[.string ⟨#[255]⟩, .string ⟨#[64]⟩, .string ⟨#[0]⟩] 9))
      have f68 := fr.later (below_alloc wq (.cells #[.string ⟨#[255]⟩, .string ⟨#[64]⟩, .string ⟨#[0]⟩] 9))
      have c68_0 := cell_top wq #[.string ⟨#[255]⟩, .string ⟨#[64]⟩, .string ⟨#[0]⟩] 9 0 wq.heap.size rfl
      have c68_1 := cell_top wq #[.string ⟨#[255]⟩, .string ⟨#[64]⟩, .string ⟨#[0]⟩] 9 1 wq.heap.size rfl
      have c68_2 := cell_top wq #[.string ⟨#[255]⟩, .string ⟨#[64]⟩, .string ⟨#[0]⟩] 9 2 wq.heap.size rfl
      have y68 := fr.lt
      generalize wq.alloc (.cells #[.string ⟨#[255]⟩, .string ⟨#[64]⟩, .string ⟨#[0]⟩] 9) = w68 at *
      go_loopw [68, 5] (fun iv ov wr => ∃ (j : Nat) (F : Ft), j ≤ 3 ∧ iv = .int .i64 (j : Int) ∧ ov = .bool true ∧ Tb w1.heap.size F wr ∧ Below w.heap.size w wr ∧ wq.heap.size < wr.heap.size ∧ wr.cell? ⟨wq.heap.size, 0, none⟩ = some (.string ⟨#[255]⟩) ∧ wr.cell? ⟨wq.heap.size, 1, none⟩ = some (.string ⟨#[64]⟩) ∧ wr.cell? ⟨wq.heap.size, 2, none⟩ = some (.string ⟨#[0]⟩)) (fun iv _ _ => 3 - (intOf iv).toNat)
      case atStart => exact ⟨0, _, by omega, rfl, rfl, f68, b68, by omega, c68_0, c68_1, c68_2⟩
      case round =>
        obtain ⟨j, F, hj, rfl, rfl, fr, br, zr, d0, d1, d2⟩ := hrel
        have HFR := hide fr
        by_cases hlt : j < 3
        · have hj2 : j = 0 ∨ j = 1 ∨ j = 2 := by omega
          rcases hj2 with rfl | rfl | rfl
          · go_wp2_with (first | (go_at_call 9; (with_reducible refine (unhide A40 wr ((unhide HV).later br)).mono ?_); rintro e wy ⟨ax, nx, cx, rfl, mx, qx⟩; have fy := fr.later qx; have by' := bt br qx; have sx := qx.size) | (with_reducible show wpList Tryd.prog _ _ (Oper.mk _ (Op.store 25 _ _) _ _ _ none :: _) _ _; refine wpList_stT rfl (.tmp 3) (.tmp 76) rfl w1.heap.size ⟨191, 0⟩ F (by simp [Act.eval, Act.put]) (by simp [Act.eval, Act.put]) fy ?_; intro wz fz gz tz; have bz := below_gb by' gz (by omega); have k0 := tb_e fz; have k1 := tb_a fz))
            go_roundw
            case rel => exact ⟨1, ⟨191, 0⟩, by omega, by go_num, rfl, fz, bz, by omega, by rw [World.cell?_of_block (w := wr) (a := ⟨wq.heap.size, 0, none⟩) ((gz.block wq.heap.size (by omega) (by omega)).trans (qx.block wq.heap.size zr))]; exact d0, by rw [World.cell?_of_block (w := wr) (a := ⟨wq.heap.size, 1, none⟩) ((gz.block wq.heap.size (by omega) (by omega)).trans (qx.block wq.heap.size zr))]; exact d1, by rw [World.cell?_of_block (w := wr) (a := ⟨wq.heap.size, 2, none⟩) ((gz.block wq.heap.size (by omega) (by omega)).trans (qx.block wq.heap.size zr))]; exact d2⟩
            case measure => simp [intOf]
          · go_wp2_with (first | (go_at_call 9; (with_reducible refine (unhide A41 wr ((unhide HV).later br)).mono ?_); rintro e wy ⟨ax, nx, cx, rfl, mx, qx⟩; have fy := fr.later qx; have by' := bt br qx; have sx := qx.size) | (with_reducible show wpList Tryd.prog _ _ (Oper.mk _ (Op.store 25 _ _) _ _ _ none :: _) _ _; refine wpList_stT rfl (.tmp 3) (.tmp 76) rfl w1.heap.size ⟨191, 0⟩ F (by simp [Act.eval, Act.put]) (by simp [Act.eval, Act.put]) fy ?_; intro wz fz gz tz; have bz := below_gb by' gz (by omega); have k0 := tb_e fz; have k1 := tb_a fz))
            go_roundw
            case rel => exact ⟨2, ⟨191, 0⟩, by omega, by go_num, rfl, fz, bz, by omega, by rw [World.cell?_of_block (w := wr) (a := ⟨wq.heap.size, 0, none⟩) ((gz.block wq.heap.size (by omega) (by omega)).trans (qx.block wq.heap.size zr))]; exact d0, by rw [World.cell?_of_block (w := wr) (a := ⟨wq.heap.size, 1, none⟩) ((gz.block wq.heap.size (by omega) (by omega)).trans (qx.block wq.heap.size zr))]; exact d1, by rw [World.cell?_of_block (w := wr) (a := ⟨wq.heap.size, 2, none⟩) ((gz.block wq.heap.size (by omega) (by omega)).trans (qx.block wq.heap.size zr))]; exact d2⟩
            case measure => simp [intOf]
          · go_wp2_with (first | (go_at_call 9; (with_reducible refine (unhide A42 wr ((unhide HV).later br)).mono ?_); rintro e wy ⟨ax, nx, cx, rfl, mx, qx⟩; have fy := fr.later qx; have by' := bt br qx; have sx := qx.size) | (with_reducible show wpList Tryd.prog _ _ (Oper.mk _ (Op.store 25 _ _) _ _ _ none :: _) _ _; refine wpList_stT rfl (.tmp 3) (.tmp 76) rfl w1.heap.size ⟨191, 0⟩ F (by simp [Act.eval, Act.put]) (by simp [Act.eval, Act.put]) fy ?_; intro wz fz gz tz; have bz := below_gb by' gz (by omega); have k0 := tb_e fz; have k1 := tb_a fz))
            go_roundw
            case rel => exact ⟨3, ⟨191, 0⟩, by omega, by go_num, rfl, fz, bz, by omega, by rw [World.cell?_of_block (w := wr) (a := ⟨wq.heap.size, 0, none⟩) ((gz.block wq.heap.size (by omega) (by omega)).trans (qx.block wq.heap.size zr))]; exact d0, by rw [World.cell?_of_block (w := wr) (a := ⟨wq.heap.size, 1, none⟩) ((gz.block wq.heap.size (by omega) (by omega)).trans (qx.block wq.heap.size zr))]; exact d1, by rw [World.cell?_of_block (w := wr) (a := ⟨wq.heap.size, 2, none⟩) ((gz.block wq.heap.size (by omega) (by omega)).trans (qx.block wq.heap.size zr))]; exact d2⟩
            case measure => simp [intOf]
        · have hjn : j = 3 := by omega
          subst hjn
          clear HFR d0 d1 d2 hlt
          rw [show ((3 : Nat) : Int) = 3 from rfl]
          generalize wr = wp at *
          go_wp2_with (first | (go_at_call 11; (with_reducible refine (unhide P5 wp ((unhide HV).later br)).mono ?_); rintro e wa ⟨pa, pn, pc, rfl, ma, qa⟩; have fa := fr.later qa; have ba' := bt br qa; have ple := ma.ss.le; have pmx := ma.ss.max) | (with_reducible show wpList Tryd.prog _ _ (Oper.mk _ (Op.store 25 _ _) _ _ _ none :: _) _ _; refine wpList_stT rfl (.tmp 3) (.tmp 87) rfl w1.heap.size ⟨0, 0⟩ _ (by simp [Act.eval, Act.put]) (by simp [Act.eval, Act.put]) fa ?_; intro wb fb gb tb; have bb := below_gb ba' gb (by omega); have k0 := tb_e fb; have k1 := tb_a fb; have mb := tm_gb ma gb (by omega)) | (go_at_call 12; (with_reducible refine (unhide L7 wb ((unhide HV).later bb)).mono ?_); rintro e wc ⟨rfl, qc⟩; have fc := fb.later qc; have bc := bt bb qc; have mc := mb.later qc; have k0 := tb_e fc; have k1 := tb_a fc) | (go_at_call 13; (with_reducible refine (unhide X5 pa pn pc _ wc mc.ss (by first | rfl | omega)).mono ?_); rintro e wd ⟨rfl, qd⟩; have bd := bt bc qd) | (go_at_call 14; (with_reducible refine (unhide Q6 wd ((unhide HV).later bd)).mono ?_); rintro e we ⟨rfl, qe⟩; have be := bt bd qe))
          go_ret
          exact ⟨rfl, be⟩

end Go.Proofs.YtjngnakabohghaaDoor
