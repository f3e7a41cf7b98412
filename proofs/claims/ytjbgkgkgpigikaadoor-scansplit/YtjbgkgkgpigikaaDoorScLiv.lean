/-
  What lives of layer 19's statements returns: true. Conditions: the library's variables read as they were laid.
-/
import Derived.Test.YtjbgkgkgpigikaaDoorScSp2
import Derived.Test.YtjbgkgkgpigikaaDoorSameW
namespace Go.Proofs.YtjbgkgkgpigikaaDoor
open Go.RowKit
set_option linter.unusedVariables false
set_option linter.unusedSimpArgs false

theorem sw_self (pl : Bool) (l : List Wd) : sw pl l l = true := by simp [sw]
/-- SameWords with words that are written out. -/
theorem same_lit (pl : Bool) (lit : List Wd) (C : Array Value) (hC : (flatW lit).toArray = C) (hl : lit.length ≤ 1000) (ao : Option Addr) (n c : Nat) (xs : List Wd) (g : Nat) (w : World) (h : Wds w ao n c xs) (hg : g = w.heap.size) :
    Calls Tryd.prog 7 #[.slice ao n c, .slice (some ⟨g, 0, none⟩) lit.length lit.length, .bool pl] (w.alloc (.cells C 33)) fun e w' => e = .returned (.bool (sw pl xs lit)) ∧ Below w.heap.size w w' := by
  subst hC
  subst hg
  exact (sameWords_any pl ao n c xs _ _ _ lit _ (h.later (below_alloc w _)) (Wds.lit w lit (by omega))).mono fun e w' k => ⟨k.1, bt (below_alloc w _) k.2⟩
def lvT : ByteArray := ⟨#[83, 69, 76, 69, 67, 84, 32, 96, 97, 96, 44, 39, 105, 116, 39, 39, 115, 39, 32, 45, 45, 32, 120]⟩
def lvW : List Wd := [⟨1, ⟨#[115, 101, 108, 101, 99, 116]⟩, 0⟩, ⟨2, ⟨#[97]⟩, 7⟩, ⟨5, ⟨#[44]⟩, 10⟩, ⟨3, ⟨#[105, 116, 39, 115]⟩, 11⟩]
theorem lv_eq : alW (bl lvT) = (lvW, ok0) := by decide +kernel

set_option maxHeartbeats 2000000 in
set_option maxRecDepth 20000 in
theorem lives_any (w : World) (hV : Vr w) : Calls Tryd.prog 4 #[] w fun e w' => e = .returned (.bool true) ∧ Below w.heap.size w w' := by
  have HV := hide hV
  have c0 := fun wx (h : Vr wx) => all_ex lvT wx h
  rw [lv_eq] at c0
  have c1 := fun (ao : Option Addr) (n c : Nat) (g : Nat) (wx : World) (h : Wds wx ao n c lvW) (hg : g = wx.heap.size) => same_lit true lvW #[.int .i64 1, .string ⟨#[115, 101, 108, 101, 99, 116]⟩, .int .i64 0, .int .i64 2, .string ⟨#[97]⟩, .int .i64 7, .int .i64 5, .string ⟨#[44]⟩, .int .i64 10, .int .i64 3, .string ⟨#[105, 116, 39, 115]⟩, .int .i64 11] rfl (by decide) ao n c lvW g wx h hg
  rw [sw_self, show lvW.length = 4 from rfl] at c1
  simp only at c0
  rw [show lvT = ⟨#[83, 69, 76, 69, 67, 84, 32, 96, 97, 96, 44, 39, 105, 116, 39, 39, 115, 39, 32, 45, 45, 32, 120]⟩ from rfl] at c0
  have HC0 := hide c0
  have HC1 := hide c1
  have he := eq_ft ok0
  simp only [decide_true] at he
  have bz := Below.refl w.heap.size w
  clear c0 c1
  go_enter Tryd.func4, Tryd.ntmps4
  go_wp2_with (first | (go_at_call 5; (with_reducible refine (unhide HC0 w hV).mono ?_); rintro e w1 ⟨ao, n, c, rfl, m1, b1⟩; have hle := m1.ss.le; have hmx := m1.ss.max) | (with_reducible show wpList Tryd.prog _ _ (Oper.mk _ (Op.alloc 26) _ _ _ none :: _) _ _; refine wpList_alT rfl rfl ?_; intro w2 f2 q2 t2; have m2 := m1.later q2; have b2 := bt b1 q2) | (with_reducible show wpList Tryd.prog _ _ (Oper.mk _ (Op.store 26 _ _) _ _ _ none :: _) _ _; refine wpList_stT rfl (.tmp 2) (.tmp 6) rfl _ ok0 ⟨0, 0⟩ (by simp [Act.eval, Act.put]) (by simp [Act.eval, Act.put]) f2 ?_; intro w3 f3 g3 t3; have m3 := m2.keep (fun k hk => g3.block k (m2.ob hk).2 (by have := (m1.ob hk).2; omega)); have b3 := below_gb b2 g3 b1.size) | (with_reducible show wpList Tryd.prog _ _ (Oper.mk _ (Op.load 26 _) _ _ _ none :: _) _ _; refine wpList_ldT rfl (.tmp 2) rfl _ ok0 (by simp [Act.eval, Act.put]) f3 ?_) | (go_at_call 7; (with_reducible refine (unhide HC1 ao n c _ w3 m3.ss (by omega)).mono ?_); rintro e w4 ⟨rfl, q4⟩; have b5 := bt b3 q4))
  go_ret
  exact ⟨rfl, b5⟩

end Go.Proofs.YtjbgkgkgpigikaaDoor
