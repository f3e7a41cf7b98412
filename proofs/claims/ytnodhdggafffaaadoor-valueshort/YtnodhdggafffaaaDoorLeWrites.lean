/-
  What the writing functions of package lenenc leave: a slice in new memory. Conditions: lengths together below 2 to the 46.
-/
import Derived.Test.YtnodhdggafffaaaDoorLeEnded
import Derived.Lib.ConvBytes
namespace Go.Proofs.YtnodhdggafffaaaDoor
open Go.RowKit
set_option linter.unusedVariables false
set_option linter.unusedSimpArgs false

theorem form_len (x : Int) : (form x).length = 1 + (widthOf (firstOf x)).toNat := by simp [form, le_length]; omega

set_option maxHeartbeats 400000 in
set_option maxRecDepth 100000 in
theorem putInt_any (B : Nat) (ao : Option Addr) (n c : Nat) (bs : List Int) (x : Int) (w : World) (h : Mine B w ao n c bs) (hB : B ≤ w.heap.size)
    (hx0 : 0 ≤ x) (hx1 : x < 18446744073709551616) (hbound : (n : Int) + 9 ≤ 140737488355328) :
    Calls Tryd.prog 63 #[.slice ao n c, .int .u64 x] w fun e w' => ∃ ao' c', e = .returned (.slice ao' (n + (form x).length) c') ∧ Mine B w' ao' (n + (form x).length) c' (bs ++ form x) ∧ Below B w w' := by
  have cF := hide (fun w => firstByte_any x w hx0 hx1)
  have hfb := firstOf_byt hx0
  have hw := widthOf_cases (firstOf x)
  have hl := hide (form_len x)
  have hf := hide (show form x = [firstOf x] ++ le x (widthOf (firstOf x)).toNat from rfl)
  obtain ⟨f, hfe⟩ : ∃ f, f = firstOf x := ⟨_, rfl⟩
  rw [← hfe] at cF hfb hw hl hf
  obtain ⟨k, hke⟩ : ∃ k, k = widthOf f := ⟨_, rfl⟩
  have cW := hide (fun w => widthBehind_any f w)
  rw [← hke] at cW hw hl hf
  obtain ⟨hf0, hf1⟩ := hfb
  have hk0 : 0 ≤ k := by omega
  have hk8 : k ≤ 8 := by omega
  clear hfe hke hw hx0 hx1
  have hb0 := below_alloc w (.cells #[.int .u8 f] 5)
  have hs1 := Bs.one w f hf0 hf1
  have hm1 := h.later hb0
  go_enter Tryd.func63, Tryd.ntmps63
  go_wp2_with (first
    | (go_at_call 81; refine (unhide cF _).mono ?_; rintro e w' ⟨rfl, hw'⟩; have hw'' := hw'.symm; subst hw'')
    | (at_builtin; refine wpList_app rfl _ _ rfl B _ _ _ _ rfl hm1 _ _ _ _ rfl hs1 (by omega) (by simp; omega) ?_; intro ao2 c2 w2 hm2 hb2)
    | (go_at_call 82; refine (unhide cW _).mono ?_; rintro e w' ⟨rfl, hw'⟩; have hw'' := hw'.symm; subst hw''))
  refine (putFixed_any B ao2 (n + 1) c2 _ x k _ hm2 ?_ hk0 hk8 (by omega)).mono ?_
  · have := hb2.size
    simp at this
    omega
  rintro e w3 ⟨ao3, c3, rfl, hm3, hb3⟩
  go_wp2
  go_ret
  rw [unhide hf]
  rw [List.append_assoc] at hm3
  have e1 : n + 1 + k.toNat = n + (form x).length := by rw [unhide hl]; omega
  rw [e1] at hm3
  have hbb : Below B w w3 := ((hb0.mono hB).trans hb2).trans hb3
  rw [← unhide hf]
  rw [← unhide hf] at hm3
  exact ⟨ao3, c3, by rw [← e1]; rfl, hm3, hbb⟩


end Go.Proofs.YtnodhdggafffaaaDoor
