/-
  What is and lives, which the statements of layer 21 share, return; and DigestNames, for the walk: it returns true. Conditions: the library's variables read as they were laid.
-/
import Derived.Test.YtgbahfadjdincaaGreatDoorDgTx
namespace Go.Proofs.YtgbahfadjdincaaGreatDoor
open Go.RowKit
set_option linter.unusedVariables false
set_option linter.unusedSimpArgs false

set_option maxHeartbeats 4000000 in
set_option maxRecDepth 20000 in
theorem dgis_any (s want : ByteArray) (w : World) (hV : Vr w) (hs : s.size ≤ 2000) : Calls Tryz.prog 15 #[.string s, .string want] w (OutB w (decide (dTx (bl s) = (bl want, ok0)))) := by
  have HC := hide (dText_any s w hV hs)
  obtain ⟨⟨T, ⟨fe, fa⟩⟩, hF⟩ : ∃ F, F = dTx (bl s) := ⟨_, rfl⟩
  rw [← hF] at HC ⊢
  have he := eq_ft ⟨fe, fa⟩
  unfold ftC at he
  simp only at he
  have ek := str_eqK (ba T) want
  have e3 : decide ((T, (⟨fe, fa⟩ : Ft)) = (bl want, ok0)) = (((ba T).toList == want.toList) && decide ((⟨fe, fa⟩ : Ft) = ok0)) := by
    rw [ek]
    by_cases h1 : T = bl want
    · subst h1
      rw [ba_bl]
      simp
    · have h2 : ¬ ba T = want := fun e => h1 (by rw [← e, bl_ba])
      simp [h1, h2]
  rw [e3]
  obtain ⟨E, hE⟩ : ∃ E, E = ((ba T).toList == want.toList) := ⟨_, rfl⟩
  rw [← hE]
  have HE := hE.symm
  clear hV hF ek e3 hE
  cases E with
  | true =>
    by_cases hf : (⟨fe, fa⟩ : Ft) = ok0
    · rw [decide_eq_true hf] at he ⊢
      clear hf
      go_enter Tryz.func15, Tryz.ntmps15
      go_wp2_with (first | (go_at_call 7; refine (unhide HC).mono ?_; rintro e w1 ⟨rfl, b1⟩) | (with_reducible show wpList Tryz.prog _ _ (Oper.mk _ (Op.alloc 25) _ _ _ none :: _) _ _; refine wpList_alT rfl rfl ?_; intro w2 f2 q2 t2; clear t2; have b2 := belT b1 q2) | (with_reducible show wpList Tryz.prog _ _ (Oper.mk _ (Op.store 25 _ _) _ _ _ none :: _) _ _; refine wpList_stT rfl _ _ rfl w1.heap.size ⟨fe, fa⟩ ⟨0, 0⟩ (by simp [Act.eval, Act.put]) (by simp [Act.eval, Act.put]) f2 ?_; intro w3 f3 g3 t3; clear t3; have b3 := belowG b2 g3 b1.size b2.size; have y0 := tb_e f3; have y1 := tb_a f3))
      go_ret
      exact ⟨rfl, b3⟩
    · rw [decide_eq_false hf] at he ⊢
      clear hf
      go_enter Tryz.func15, Tryz.ntmps15
      go_wp2_with (first | (go_at_call 7; refine (unhide HC).mono ?_; rintro e w1 ⟨rfl, b1⟩) | (with_reducible show wpList Tryz.prog _ _ (Oper.mk _ (Op.alloc 25) _ _ _ none :: _) _ _; refine wpList_alT rfl rfl ?_; intro w2 f2 q2 t2; clear t2; have b2 := belT b1 q2) | (with_reducible show wpList Tryz.prog _ _ (Oper.mk _ (Op.store 25 _ _) _ _ _ none :: _) _ _; refine wpList_stT rfl _ _ rfl w1.heap.size ⟨fe, fa⟩ ⟨0, 0⟩ (by simp [Act.eval, Act.put]) (by simp [Act.eval, Act.put]) f2 ?_; intro w3 f3 g3 t3; clear t3; have b3 := belowG b2 g3 b1.size b2.size; have y0 := tb_e f3; have y1 := tb_a f3))
      go_ret
      exact ⟨rfl, b3⟩
  | false =>
    rw [Bool.false_and]
    go_enter Tryz.func15, Tryz.ntmps15
    go_wp2_with (first | (go_at_call 7; refine (unhide HC).mono ?_; rintro e w1 ⟨rfl, b1⟩) | (with_reducible show wpList Tryz.prog _ _ (Oper.mk _ (Op.alloc 25) _ _ _ none :: _) _ _; refine wpList_alT rfl rfl ?_; intro w2 f2 q2 t2; clear t2; have b2 := belT b1 q2) | (with_reducible show wpList Tryz.prog _ _ (Oper.mk _ (Op.store 25 _ _) _ _ _ none :: _) _ _; refine wpList_stT rfl _ _ rfl w1.heap.size ⟨fe, fa⟩ ⟨0, 0⟩ (by simp [Act.eval, Act.put]) (by simp [Act.eval, Act.put]) f2 ?_; intro w3 f3 g3 t3; clear t3; have b3 := belowG b2 g3 b1.size b2.size; have y0 := tb_e f3; have y1 := tb_a f3))
    go_ret
    exact ⟨rfl, b3⟩
theorem dgis_lit (s want : ByteArray) (w : World) (hV : Vr w) (hs : s.size ≤ 2000) (h : decide (dTx (bl s) = (bl want, ok0)) = true) : Calls Tryz.prog 15 #[.string s, .string want] w (OutB w true) := by
  have := dgis_any s want w hV hs
  rwa [h] at this
theorem dg_lit0 (w : World) (hV : Vr w) : Calls Tryz.prog 15 #[.string ⟨#[83, 69, 76, 69, 67, 84, 32, 42, 32, 70, 82, 79, 77, 32, 116, 32, 87, 72, 69, 82, 69, 32, 97, 61, 49, 32, 65, 78, 68, 32, 98, 61, 39, 120, 39]⟩, .string ⟨#[115, 101, 108, 101, 99, 116, 32, 42, 32, 102, 114, 111, 109, 32, 116, 32, 119, 104, 101, 114, 101, 32, 97, 32, 61, 32, 63, 32, 97, 110, 100, 32, 98, 32, 61, 32, 63]⟩] w (OutB w true) := dgis_lit _ _ w hV (by decide) (by decide +kernel)
theorem dg_lit1 (w : World) (hV : Vr w) : Calls Tryz.prog 15 #[.string ⟨#[105, 110, 115, 101, 114, 116, 32, 105, 110, 116, 111, 32, 116, 32, 118, 97, 108, 117, 101, 115, 32, 40, 49, 44, 45, 50, 41, 44, 40, 51, 44, 52, 41, 32, 59]⟩, .string ⟨#[105, 110, 115, 101, 114, 116, 32, 105, 110, 116, 111, 32, 116, 32, 118, 97, 108, 117, 101, 115, 32, 40, 32, 63, 32, 41]⟩] w (OutB w true) := dgis_lit _ _ w hV (by decide) (by decide +kernel)
theorem dg_lit2 (w : World) (hV : Vr w) : Calls Tryz.prog 15 #[.string ⟨#[115, 101, 108, 101, 99, 116, 32, 45, 49, 44, 32, 97, 45, 49, 44, 32, 40, 45, 49, 44, 98, 41, 44, 32, 105, 110, 32, 40, 49, 44, 50, 44, 51, 41]⟩, .string ⟨#[115, 101, 108, 101, 99, 116, 32, 45, 32, 63, 32, 44, 32, 97, 32, 45, 32, 63, 32, 44, 32, 40, 32, 63, 32, 44, 32, 98, 32, 41, 32, 44, 32, 105, 110, 32, 40, 32, 63, 32, 41]⟩] w (OutB w true) := dgis_lit _ _ w hV (by decide) (by decide +kernel)
theorem dg_lit3 (w : World) (hV : Vr w) : Calls Tryz.prog 15 #[.string ⟨#[115, 101, 108, 101, 99, 116, 32, 47, 42, 43, 32, 120, 32, 42, 47, 32, 64, 97, 44, 32, 96, 66, 96]⟩, .string ⟨#[115, 101, 108, 101, 99, 116, 32, 64, 96, 97, 96, 32, 44, 32, 96, 66, 96]⟩] w (OutB w true) := dgis_lit _ _ w hV (by decide) (by decide +kernel)
set_option maxHeartbeats 2000000 in
theorem dglives_any (w : World) (hV : Vr w) : Calls Tryz.prog 6 #[] w (OutB w true) := by
  have C := hide (dg_lit0 w hV)
  go_enter Tryz.func6, Tryz.ntmps6
  go_wp2_with (go_at_call 15; refine (unhide C).mono ?_; rintro e w1 ⟨rfl, b1⟩)
  go_ret
  exact ⟨rfl, b1⟩


end Go.Proofs.YtgbahfadjdincaaGreatDoor
