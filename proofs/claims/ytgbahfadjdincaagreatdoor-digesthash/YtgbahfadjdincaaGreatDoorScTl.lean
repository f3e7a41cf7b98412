/-
  What plain of package scan, and Told of the document's own answers, return for any word. Conditions: at most 1,048,576 bytes; the library's variables read as they were laid.
-/
import Derived.Test.YtgbahfadjdincaaGreatDoorScQt
import Derived.Test.YtgbahfadjdincaaGreatDoorDgMem
namespace Go.Proofs.YtgbahfadjdincaaGreatDoor
open Go.RowKit
set_option linter.unusedVariables false
set_option linter.unusedSimpArgs false

/-- A word, as Plain tells it. -/
def told (x : Wd) : Bl := if x.k = 2 then btw 96 (bl x.tx) else if x.k = 3 then qto (bl x.tx) else if x.k = 6 then 64 :: btw 96 (bl x.tx) else if x.k = 7 then 64 :: 64 :: bl x.tx else if x.k = 8 then [63] else bl x.tx
theorem btw_len (c : UInt8) (l : Bl) : (btw c l).length ≤ 2 * l.length + 2 := by
  have := dbl_len c l
  unfold btw
  rw [List.length_cons, List.length_append, List.length_cons, List.length_nil]
  omega
theorem qto_len (l : Bl) : (qto l).length ≤ 4 * l.length + 2 := by
  have := btw_len 39 (dbl 92 l)
  have := dbl_len 92 l
  unfold qto
  omega
theorem told_len (x : Wd) : (told x).length ≤ 4 * x.tx.size + 4 := by
  have h1 := btw_len 96 (bl x.tx)
  have h2 := qto_len (bl x.tx)
  rw [bl_len] at h1 h2
  unfold told
  repeat' split
  all_goals try simp only [List.length_cons, List.length_nil, bl_len]
  all_goals omega
theorem cat_ba (c : ByteArray) (p l : Bl) (h : bl c = p) : c ++ ba l = ba (p ++ l) := by
  have : bl (c ++ ba l) = p ++ l := by rw [bl_app, h, bl_ba]
  rw [← this, ba_bl]
theorem cat_bs (c s : ByteArray) (p : Bl) (h : bl c = p) : c ++ s = ba (p ++ bl s) := by
  have : bl (c ++ s) = p ++ bl s := by rw [bl_app, h]
  rw [← this, ba_bl]

set_option maxHeartbeats 1000000 in
set_option maxRecDepth 20000 in
theorem plain1_any (x : Wd) (w : World) (hV : Vr w) (hs : x.tx.size ≤ 1048576) : Calls Tryz.prog 25 #[.agg (wdC x)] w fun e w' => e = .returned (.string (ba (told x))) ∧ Below w.heap.size w w' := by
  obtain ⟨k, s, a⟩ := x
  simp only at hs
  show Calls Tryz.prog 25 #[.agg #[.int .i64 k, .string s, .int .i64 a]] w _
  have bA := below_alloc w (.cells #[.int .i64 k, .string s, .int .i64 a] 34)
  have k0 := cell_top w #[.int .i64 k, .string s, .int .i64 a] 34 0 w.heap.size rfl
  have k1 := cell_top w #[.int .i64 k, .string s, .int .i64 a] 34 1 w.heap.size rfl
  have e0 : ∃ w1, w1 = w.alloc (.cells #[.int .i64 k, .string s, .int .i64 a] 34) := ⟨_, rfl⟩
  have c1 := hide (fun wx (h : Vr wx) => between_any 96 ⟨#[96]⟩ s wx h (by omega) rfl)
  have c2 := hide (fun wx (h : Vr wx) => quote_any s wx h (by omega))
  have HV := hide (hV.later bA)
  have hx1 : (ba (btw 96 (bl s))).size ≤ 3000000 := by have := btw_len 96 (bl s); rw [bl_len] at this; rw [ba_size]; omega
  have t6 := hide (cat_ba ⟨#[64]⟩ [64] (btw 96 (bl s)) rfl)
  have t7 := hide (cat_bs ⟨#[64, 64]⟩ s [64, 64] rfl)
  have h1 : (⟨#[64]⟩ : ByteArray).size = 1 := rfl
  have h2 : (⟨#[64, 64]⟩ : ByteArray).size = 2 := rfl
  have g1 : ¬ 9223372036854775807 < (⟨#[64]⟩ : ByteArray).size + (ba (btw 96 (bl s))).size := by omega
  have g2 : ¬ 9223372036854775807 < (⟨#[64, 64]⟩ : ByteArray).size + s.size := by omega
  have g3 : ¬ 9223372036854775807 < 1 + (ba (btw 96 (bl s))).size := by omega
  have g4 : ¬ 9223372036854775807 < 2 + s.size := by omega
  clear h1 h2
  rcases (show k = 2 ∨ k = 3 ∨ k = 6 ∨ k = 7 ∨ k = 8 ∨ (k ≠ 2 ∧ k ≠ 3 ∧ k ≠ 6 ∧ k ≠ 7 ∧ k ≠ 8) by omega) with rfl | rfl | rfl | rfl | rfl | ⟨n2, n3, n6, n7, n8⟩
  · go_enter Tryz.func25, Tryz.ntmps25
    go_wp2_with (go_at_call 61; (with_reducible refine (unhide c1 _ (unhide HV)).mono ?_); rintro e w2 ⟨rfl, b2⟩; have b3 := bt bA b2)
    go_ret
    exact ⟨rfl, b3⟩
  · go_enter Tryz.func25, Tryz.ntmps25
    go_wp2_with (go_at_call 62; (with_reducible refine (unhide c2 _ (unhide HV)).mono ?_); rintro e w2 ⟨rfl, b2⟩; have b3 := bt bA b2)
    go_ret
    exact ⟨rfl, b3⟩
  · go_enter Tryz.func25, Tryz.ntmps25
    go_wp2_with (go_at_call 61; (with_reducible refine (unhide c1 _ (unhide HV)).mono ?_); rintro e w2 ⟨rfl, b2⟩; have b3 := bt bA b2)
    go_ret
    exact ⟨by rw [unhide t6]; rfl, b3⟩
  · go_enter Tryz.func25, Tryz.ntmps25
    go_wp2_with fail
    go_ret
    exact ⟨by rw [unhide t7]; rfl, bA⟩
  · go_enter Tryz.func25, Tryz.ntmps25
    go_wp2_with fail
    go_ret
    exact ⟨rfl, bA⟩
  · have e2 : (k == 2) = false := by simpa using n2
    have e3 : (k == 3) = false := by simpa using n3
    have e6 : (k == 6) = false := by simpa using n6
    have e7 : (k == 7) = false := by simpa using n7
    have e8 : (k == 8) = false := by simpa using n8
    have hT := hide (show told ⟨k, s, a⟩ = bl s by unfold told; simp only; rw [if_neg n2, if_neg n3, if_neg n6, if_neg n7, if_neg n8])
    clear n2 n3 n6 n7 n8
    go_enter Tryz.func25, Tryz.ntmps25
    go_wp2_with fail
    go_ret
    exact ⟨by rw [unhide hT, ba_bl]; rfl, bA⟩

end Go.Proofs.YtgbahfadjdincaaGreatDoor
