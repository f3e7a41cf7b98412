/-
  ClassifyNames of layer 20, for the walk: it returns true. Conditions: the library's variables read as they were laid.
-/
import Derived.Test.YtffbmfjmdcjcmaaGreatDoorMTop
import Derived.Deep.RegionWith
namespace Go.Proofs.YtffbmfjmdcjcmaaGreatDoor
open Go.RowKit
set_option linter.unusedVariables false
set_option linter.unusedSimpArgs false

def nkT0 : ByteArray := ⟨#[83, 69, 84, 32, 64, 97, 32, 61, 32, 45, 53, 59, 32, 115, 101, 116, 32, 97, 32, 61, 32, 49, 44, 32, 98, 32, 61, 32, 50, 59, 32, 83, 69, 84, 32, 97, 117, 116, 111, 99, 111, 109, 109, 105, 116, 61, 48]⟩
def nkW0 : List Cl := [⟨7, ⟨#[97]⟩, ⟨#[45, 53]⟩⟩, ⟨13, ⟨#[]⟩, ⟨#[]⟩⟩, ⟨13, ⟨#[]⟩, ⟨#[]⟩⟩]
theorem nk_eq0 : decide (ofF (bl nkT0) = (nkW0, ok0)) = true := by decide +kernel
theorem nk_call0 (g : Nat) (w : World) (hV : Vr w) (hg : g = w.heap.size) : Calls Tryz.prog 10 #[.string ⟨#[83, 69, 84, 32, 64, 97, 32, 61, 32, 45, 53, 59, 32, 115, 101, 116, 32, 97, 32, 61, 32, 49, 44, 32, 98, 32, 61, 32, 50, 59, 32, 83, 69, 84, 32, 97, 117, 116, 111, 99, 111, 109, 109, 105, 116, 61, 48]⟩, .slice (some ⟨g, 0, none⟩) 3 3] (w.alloc (.cells #[.int .i64 7, .string ⟨#[97]⟩, .string ⟨#[45, 53]⟩, .int .i64 13, .string ⟨#[]⟩, .string ⟨#[]⟩, .int .i64 13, .string ⟨#[]⟩, .string ⟨#[]⟩] 23)) (OutB w true) := is_lit nkT0 nkW0 _ rfl (by decide) g w true hV hg nk_eq0
def nkT1 : ByteArray := ⟨#[99, 114, 101, 97, 116, 101, 32, 116, 101, 109, 112, 111, 114, 97, 114, 121, 32, 116, 97, 98, 108, 101, 32, 115, 46, 116, 32, 40, 97, 32, 105, 110, 116, 41, 59, 32, 100, 114, 111, 112, 32, 116, 97, 98, 108, 101, 32, 116]⟩
def nkW1 : List Cl := [⟨8, ⟨#[115, 46, 116]⟩, ⟨#[]⟩⟩, ⟨2, ⟨#[]⟩, ⟨#[]⟩⟩]
theorem nk_eq1 : decide (ofF (bl nkT1) = (nkW1, ok0)) = true := by decide +kernel
theorem nk_call1 (g : Nat) (w : World) (hV : Vr w) (hg : g = w.heap.size) : Calls Tryz.prog 10 #[.string ⟨#[99, 114, 101, 97, 116, 101, 32, 116, 101, 109, 112, 111, 114, 97, 114, 121, 32, 116, 97, 98, 108, 101, 32, 115, 46, 116, 32, 40, 97, 32, 105, 110, 116, 41, 59, 32, 100, 114, 111, 112, 32, 116, 97, 98, 108, 101, 32, 116]⟩, .slice (some ⟨g, 0, none⟩) 2 2] (w.alloc (.cells #[.int .i64 8, .string ⟨#[115, 46, 116]⟩, .string ⟨#[]⟩, .int .i64 2, .string ⟨#[]⟩, .string ⟨#[]⟩] 23)) (OutB w true) := is_lit nkT1 nkW1 _ rfl (by decide) g w true hV hg nk_eq1
def nkT2 : ByteArray := ⟨#[115, 101, 108, 101, 99, 116, 32, 103, 101, 116, 95, 108, 111, 99, 107, 40, 39, 108, 39, 44, 32, 53, 41, 59, 32, 115, 101, 108, 101, 99, 116, 32, 103, 101, 116, 95, 108, 111, 99, 107, 40, 39, 108, 39, 44, 32, 53, 41, 44, 32, 49]⟩
def nkW2 : List Cl := [⟨10, ⟨#[108]⟩, ⟨#[]⟩⟩, ⟨13, ⟨#[]⟩, ⟨#[]⟩⟩]
theorem nk_eq2 : decide (ofF (bl nkT2) = (nkW2, ok0)) = true := by decide +kernel
theorem nk_call2 (g : Nat) (w : World) (hV : Vr w) (hg : g = w.heap.size) : Calls Tryz.prog 10 #[.string ⟨#[115, 101, 108, 101, 99, 116, 32, 103, 101, 116, 95, 108, 111, 99, 107, 40, 39, 108, 39, 44, 32, 53, 41, 59, 32, 115, 101, 108, 101, 99, 116, 32, 103, 101, 116, 95, 108, 111, 99, 107, 40, 39, 108, 39, 44, 32, 53, 41, 44, 32, 49]⟩, .slice (some ⟨g, 0, none⟩) 2 2] (w.alloc (.cells #[.int .i64 10, .string ⟨#[108]⟩, .string ⟨#[]⟩, .int .i64 13, .string ⟨#[]⟩, .string ⟨#[]⟩] 23)) (OutB w true) := is_lit nkT2 nkW2 _ rfl (by decide) g w true hV hg nk_eq2
def nkT3 : ByteArray := ⟨#[47, 42, 33, 52, 48, 49, 48, 49, 32, 83, 69, 84, 32, 120, 61, 49, 42, 47, 59, 32, 115, 101, 108, 101, 99, 116, 32, 108, 97, 115, 116, 95, 105, 110, 115, 101, 114, 116, 95, 105, 100, 40, 41, 59, 32, 115, 101, 108, 101, 99, 116, 32, 96, 119, 97, 114, 110, 105, 110, 103, 115, 96]⟩
def nkW3 : List Cl := [⟨13, ⟨#[]⟩, ⟨#[]⟩⟩, ⟨13, ⟨#[]⟩, ⟨#[]⟩⟩, ⟨1, ⟨#[]⟩, ⟨#[]⟩⟩]
theorem nk_eq3 : decide (ofF (bl nkT3) = (nkW3, ok0)) = true := by decide +kernel
theorem nk_call3 (g : Nat) (w : World) (hV : Vr w) (hg : g = w.heap.size) : Calls Tryz.prog 10 #[.string ⟨#[47, 42, 33, 52, 48, 49, 48, 49, 32, 83, 69, 84, 32, 120, 61, 49, 42, 47, 59, 32, 115, 101, 108, 101, 99, 116, 32, 108, 97, 115, 116, 95, 105, 110, 115, 101, 114, 116, 95, 105, 100, 40, 41, 59, 32, 115, 101, 108, 101, 99, 116, 32, 96, 119, 97, 114, 110, 105, 110, 103, 115, 96]⟩, .slice (some ⟨g, 0, none⟩) 3 3] (w.alloc (.cells #[.int .i64 13, .string ⟨#[]⟩, .string ⟨#[]⟩, .int .i64 13, .string ⟨#[]⟩, .string ⟨#[]⟩, .int .i64 1, .string ⟨#[]⟩, .string ⟨#[]⟩] 23)) (OutB w true) := is_lit nkT3 nkW3 _ rfl (by decide) g w true hV hg nk_eq3
def nkT4 : ByteArray := ⟨#[83, 84, 65, 82, 84, 32, 84, 82, 65, 78, 83, 65, 67, 84, 73, 79, 78, 32, 82, 69, 65, 68, 32, 79, 78, 76, 89, 59, 32, 114, 111, 108, 108, 98, 97, 99, 107, 32, 116, 111, 32, 112, 59, 32, 115, 97, 118, 101, 112, 111, 105, 110, 116, 32, 112, 59, 32, 120, 97, 32, 115, 116, 97, 114, 116, 32, 39, 120, 39]⟩
def nkW4 : List Cl := [⟨3, ⟨#[]⟩, ⟨#[]⟩⟩, ⟨1, ⟨#[]⟩, ⟨#[]⟩⟩, ⟨1, ⟨#[]⟩, ⟨#[]⟩⟩, ⟨13, ⟨#[]⟩, ⟨#[]⟩⟩]
theorem nk_eq4 : decide (ofF (bl nkT4) = (nkW4, ok0)) = true := by decide +kernel
theorem nk_call4 (g : Nat) (w : World) (hV : Vr w) (hg : g = w.heap.size) : Calls Tryz.prog 10 #[.string ⟨#[83, 84, 65, 82, 84, 32, 84, 82, 65, 78, 83, 65, 67, 84, 73, 79, 78, 32, 82, 69, 65, 68, 32, 79, 78, 76, 89, 59, 32, 114, 111, 108, 108, 98, 97, 99, 107, 32, 116, 111, 32, 112, 59, 32, 115, 97, 118, 101, 112, 111, 105, 110, 116, 32, 112, 59, 32, 120, 97, 32, 115, 116, 97, 114, 116, 32, 39, 120, 39]⟩, .slice (some ⟨g, 0, none⟩) 4 4] (w.alloc (.cells #[.int .i64 3, .string ⟨#[]⟩, .string ⟨#[]⟩, .int .i64 1, .string ⟨#[]⟩, .string ⟨#[]⟩, .int .i64 1, .string ⟨#[]⟩, .string ⟨#[]⟩, .int .i64 13, .string ⟨#[]⟩, .string ⟨#[]⟩] 23)) (OutB w true) := is_lit nkT4 nkW4 _ rfl (by decide) g w true hV hg nk_eq4
theorem wpList_ldKl {ops : Array Oper} {rest : List Oper} {o : Oper} {a : Act} {w : World} {Q : Exit → Act → World → Prop} (hgd : o.guard = none) (x : Operand) (ho : o.op = .load 23 x)
    (g : Nat) (k : Int) (hx : a.eval x = .pointer (some ⟨g, 0, none⟩)) (hg : Clb g (kl k) w)
    (h : wpList Tryz.prog ops Q rest (a.put o.dst (.agg #[.int .i64 k, .string ⟨#[]⟩, .string ⟨#[]⟩])) w) : wpList Tryz.prog ops Q (o :: rest) a w := wpList_ldC hgd x ho g (kl k) hx hg h
theorem wpList_stKl {ops : Array Oper} {rest : List Oper} {o : Oper} {a : Act} {w : World} {Q : Exit → Act → World → Prop} (hgd : o.guard = none) (x y : Operand) (ho : o.op = .store 23 x y)
    (g : Nat) (k : Int) (hx : a.eval x = .pointer (some ⟨g, 0, none⟩)) (hy : a.eval y = .agg #[.int .i64 k, .string ⟨#[]⟩, .string ⟨#[]⟩]) (hg : Clb g cl0 w)
    (h : ∀ w1, Clb g (kl k) w1 → Gb g w w1 → w1.heap.size = w.heap.size → wpList Tryz.prog ops Q rest (a.put o.dst undef) w1) : wpList Tryz.prog ops Q (o :: rest) a w :=
  wpList_stC hgd x y ho g (kl k) cl0 hx hy hg h
theorem clb_lt {g : Nat} {c : Cl} {w : World} (h : Clb g c w) : g < w.heap.size := (Array.getElem?_eq_some_iff.1 h).1
theorem clb_later {g : Nat} {c : Cl} {w w' : World} (h : Clb g c w) (hb : Below w.heap.size w w') : Clb g c w' := row_later h hb
theorem clb_keep {g d : Nat} {c : Cl} {w w' : World} (h : Clb g c w) (hb : Gb d w w') (hn : g ≠ d) : Clb g c w' := (hb.block g (clb_lt h) hn).trans h
theorem clb_0 {g : Nat} {k : Int} {w : World} (h : Clb g (kl k) w) : w.cell? ⟨g, 0, none⟩ = some (.int .i64 k) := cell_of_row _ _ 0 _ _ _ h
theorem clb_1 {g : Nat} {k : Int} {w : World} (h : Clb g (kl k) w) : w.cell? ⟨g, 1, none⟩ = some (.string ⟨#[]⟩) := cell_of_row _ _ 1 _ _ _ h
theorem clb_2 {g : Nat} {k : Int} {w : World} (h : Clb g (kl k) w) : w.cell? ⟨g, 2, none⟩ = some (.string ⟨#[]⟩) := cell_of_row _ _ 2 _ _ _ h
theorem kind_lit (k : Int) (w : World) : Calls Tryz.prog 9 #[.int .i64 k] w (fun e w' => e = .returned (.agg #[.int .i64 k, .string ⟨#[]⟩, .string ⟨#[]⟩]) ∧ Below w.heap.size w w') := kind_any k w

set_option maxHeartbeats 1000000 in
set_option maxRecDepth 20000 in
theorem name_7 (w : World) : Calls Tryz.prog 12 #[.int .i64 7] w (fun e w' => e = .returned (.string (⟨#[117, 115, 101, 114, 45, 118, 97, 114]⟩ : ByteArray)) ∧ Below w.heap.size w w') := by
  go_enter Tryz.func12, Tryz.ntmps12
  go_wp2_with fail
  go_ret
  exact ⟨rfl, below_alloc w _⟩
set_option maxHeartbeats 1000000 in
set_option maxRecDepth 20000 in
theorem name_0 (w : World) : Calls Tryz.prog 12 #[.int .i64 0] w (fun e w' => e = .returned (.string ⟨#[]⟩) ∧ Below w.heap.size w w') := by
  go_enter Tryz.func12, Tryz.ntmps12
  go_wp2_with fail
  go_ret
  exact ⟨rfl, below_alloc w _⟩
set_option maxHeartbeats 1000000 in
set_option maxRecDepth 20000 in
theorem name_14 (w : World) : Calls Tryz.prog 12 #[.int .i64 14] w (fun e w' => e = .returned (.string ⟨#[]⟩) ∧ Below w.heap.size w w') := by
  go_enter Tryz.func12, Tryz.ntmps12
  go_wp2_with fail
  go_ret
  exact ⟨rfl, below_alloc w _⟩
theorem pins_8 (w : World) : Calls Tryz.prog 13 #[.int .i64 8] w (OutB w true) := by
  go_enter Tryz.func13, Tryz.ntmps13
  go_wp2_with fail
  go_ret
  exact ⟨rfl, Below.refl _ _⟩
theorem pins_5 (w : World) : Calls Tryz.prog 13 #[.int .i64 5] w (OutB w false) := by
  go_enter Tryz.func13, Tryz.ntmps13
  go_wp2_with fail
  go_ret
  exact ⟨rfl, Below.refl _ _⟩
theorem pins_8' (w : World) : Calls Tryz.prog 13 #[.int .i64 8] w (fun e w' => e = .returned (.bool true) ∧ Below w.heap.size w w') := pins_8 w
theorem pins_5' (w : World) : Calls Tryz.prog 13 #[.int .i64 5] w (fun e w' => e = .returned (.bool false) ∧ Below w.heap.size w w') := pins_5 w
theorem en_kind : ∀ args w, (callFunc 9 args).run Tryz.prog w = .ok (.enter 9 args) w := enters_of Tryz.func9 (by kernel_rfl) rfl
theorem en_is : ∀ args w, (callFunc 10 args).run Tryz.prog w = .ok (.enter 10 args) w := enters_of Tryz.func10 (by kernel_rfl) rfl

theorem bl_drew' {B : Nat} {w x : World} (h : Below B w x) : Below B w x.drew := ⟨h.os, h.tape, h.output, h.size, h.block⟩

set_option maxHeartbeats 20000000 in
set_option maxRecDepth 20000 in
theorem lawKlNames (w : World) (hV : Vr w) : Calls Tryz.prog 3 #[] w (OutB w true) := by
  have HV := hide hV
  have L7 := hide (fun wx (hw : Vr wx) => (show Calls Tryz.prog 11 #[] wx (fun e w' => e = .returned (.bool true) ∧ Below wx.heap.size wx w') from lives_any wx hw))
  clear hV
  go_enter Tryz.func3, Tryz.ntmps3
  go_wp2_with (first | (go_at_call 9; (with_reducible refine (kind_lit 13 w).mono ?_); rintro e w1 ⟨rfl, b1⟩) | (go_at_call 9; (with_reducible refine (kind_lit 1 w1).mono ?_); rintro e w2 ⟨rfl, q2⟩; have b2 := belT b1 q2) | (with_reducible show wpList Tryz.prog _ _ (Oper.mk _ (Op.alloc 23) _ _ _ none :: _) _ _; (fail_if_success have := z3); refine wpList_alC rfl rfl ?_; intro w3 z3 q3 e3; clear e3; have b3 := belT b2 q3) | (with_reducible show wpList Tryz.prog _ _ (Oper.mk _ (Op.alloc 23) _ _ _ none :: _) _ _; refine wpList_alC rfl rfl ?_; intro w4 y4 q4 e4; clear e4; have z4 := clb_later z3 q4; have b4 := belT b3 q4) | (with_reducible show wpList Tryz.prog _ _ (Oper.mk _ (Op.store 23 _ _) _ _ _ none :: _) _ _; refine wpList_stKl rfl _ _ rfl w2.heap.size 13 (by simp [Act.eval, Act.put]) (by simp [Act.eval, Act.put]) z4 ?_; intro w5 z5 g5 e5; clear e5; have n23 : w2.heap.size ≠ w3.heap.size := Nat.ne_of_lt (clb_lt z3); have y5 := clb_keep y4 g5 (Ne.symm n23); have b5 := belowG b4 g5 b2.size b4.size) | (with_reducible show wpList Tryz.prog _ _ (Oper.mk _ (Op.store 23 _ _) _ _ _ none :: _) _ _; refine wpList_stKl rfl _ _ rfl w3.heap.size 1 (by simp [Act.eval, Act.put]) (by simp [Act.eval, Act.put]) y5 ?_; intro w6 y6 g6 e6; clear e6; have z6 := clb_keep z5 g6 n23; have b6 := belowG b5 g6 b3.size b5.size) | (go_at_call 10; (with_reducible refine (nk_call0 w6.heap.size w6 ((unhide HV).later b6) rfl).mono ?_); rintro e w7 ⟨rfl, q7⟩; have b7 := belT b6 q7; have z7 := clb_later z6 q7; have y7 := clb_later y6 q7) | (go_at_call 9; (with_reducible refine (kind_lit 2 w7).mono ?_); rintro e w8 ⟨rfl, q8⟩; have b8 := belT b7 q8; have z8 := clb_later z7 q8; have y8 := clb_later y7 q8) | (go_at_call 10; (with_reducible refine (nk_call1 w8.heap.size w8 ((unhide HV).later b8) rfl).mono ?_); rintro e w9 ⟨rfl, q9⟩; have b9 := belT b8 q9; have z9 := clb_later z8 q9; have y9 := clb_later y8 q9) | (go_at_call 10; (with_reducible refine (nk_call2 w9.heap.size w9 ((unhide HV).later b9) rfl).mono ?_); rintro e w10 ⟨rfl, q10⟩; have b10 := belT b9 q10; have z10 := clb_later z9 q10; have y10 := clb_later y9 q10) | (go_at_call 10; (with_reducible refine (nk_call3 w10.heap.size w10 ((unhide HV).later b10) rfl).mono ?_); rintro e w11 ⟨rfl, q11⟩; have b11 := belT b10 q11; have z11 := clb_later z10 q11; have y11 := clb_later y10 q11) | (with_reducible show wpList Tryz.prog _ _ (Oper.mk _ (Op.load 23 _) _ _ _ none :: _) _ _; refine wpList_ldKl rfl (.tmp 2) rfl w2.heap.size 13 (by simp [Act.eval, Act.put]) z10 ?_) | (with_reducible show wpList Tryz.prog _ _ (Oper.mk _ (Op.load 23 _) _ _ _ none :: _) _ _; refine wpList_ldKl rfl (.tmp 3) rfl w3.heap.size 1 (by simp [Act.eval, Act.put]) y10 ?_) | (with_reducible show wpList Tryz.prog _ _ (Oper.mk _ (Op.load 23 _) _ _ _ none :: _) _ _; refine wpList_ldKl rfl (.tmp 2) rfl w2.heap.size 13 (by simp [Act.eval, Act.put]) z9 ?_) | (with_reducible show wpList Tryz.prog _ _ (Oper.mk _ (Op.load 23 _) _ _ _ none :: _) _ _; refine wpList_ldKl rfl (.tmp 3) rfl w3.heap.size 1 (by simp [Act.eval, Act.put]) y9 ?_) | (with_reducible show wpList Tryz.prog _ _ (Oper.mk _ (Op.load 23 _) _ _ _ none :: _) _ _; refine wpList_ldKl rfl (.tmp 2) rfl w2.heap.size 13 (by simp [Act.eval, Act.put]) z6 ?_) | (with_reducible show wpList Tryz.prog _ _ (Oper.mk _ (Op.load 23 _) _ _ _ none :: _) _ _; refine wpList_ldKl rfl (.tmp 3) rfl w3.heap.size 1 (by simp [Act.eval, Act.put]) y6 ?_))
  have HZ := hide z11
  have HY := hide y11
  have bW := b11
  clear z3 z4 z5 z6 z7 z8 z9 z10 y4 y5 y6 y7 y8 y9 y10
  have x0 := clb_0 z11
  have x1 := clb_1 z11
  have x2 := clb_2 z11
  have u0 := clb_0 y11
  have u1 := clb_1 y11
  have u2 := clb_2 y11
  clear z11 y11
  go_region_with (first | (go_at_call 9; (with_reducible refine (kind_lit 3 _).mono ?_); rintro e w12 ⟨rfl, q12⟩; have b12 : Below w11.heap.size w11 w12 := (below_drew w11).trans q12; have x0 := clb_0 ((unhide HZ).later b12); have x1 := clb_1 ((unhide HZ).later b12); have x2 := clb_2 ((unhide HZ).later b12); have u0 := clb_0 ((unhide HY).later b12); have u1 := clb_1 ((unhide HY).later b12); have u2 := clb_2 ((unhide HY).later b12)) | (go_at_call 10; (with_reducible refine (nk_call4 w12.heap.size w12 ((unhide HV).later (belT bW b12)) rfl).mono ?_); rintro e w13 ⟨rfl, q13⟩; have b13 := belT (belT bW b12) q13))
  all_goals
    go_wp2_with (first | (go_at_call 11; (with_reducible refine (unhide L7 w13 ((unhide HV).later b13)).mono ?_); rintro e w14 ⟨rfl, q14⟩; have b14 := belT b13 q14) | (go_at_call 12; (with_reducible refine (name_7 w14).mono ?_); rintro e w15 ⟨rfl, q15⟩; have b15 := belT b14 q15) | (go_at_call 12; (with_reducible refine (name_0 w15).mono ?_); rintro e w16 ⟨rfl, q16⟩; have b16 := belT b15 q16) | (go_at_call 12; (with_reducible refine (name_14 w16).mono ?_); rintro e w17 ⟨rfl, q17⟩; have b17 := belT b16 q17) | (go_at_call 13; (with_reducible refine (pins_8' w17).mono ?_); rintro e w18 ⟨rfl, q18⟩; have b18 := belT b17 q18) | (go_at_call 13; (with_reducible refine (pins_5' w18).mono ?_); rintro e w19 ⟨rfl, q19⟩; have b19 := belT b18 q19))
    go_ret
    exact ⟨rfl, b19⟩

end Go.Proofs.YtffbmfjmdcjcmaaGreatDoor
