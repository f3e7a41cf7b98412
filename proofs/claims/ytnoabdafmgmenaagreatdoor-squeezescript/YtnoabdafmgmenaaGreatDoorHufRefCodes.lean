/-
  What Check and Codes of the document's own answer return for any lengths: the same plain functions. They write nothing that was there. Conditions: the slice can be read.
-/
import Derived.Test.YtnoabdafmgmenaaGreatDoorMHuf
namespace Go.Proofs.YtnoabdafmgmenaaGreatDoor
open Go.RowKit
set_option linter.unusedVariables false
set_option linter.unusedSimpArgs false

theorem Fl_take_bd (L : List Int) (hf : ∀ j, j < L.length → 0 ≤ ln L j ∧ ln L j ≤ 15) (m : Nat) (hm : m ≤ L.length) (h320 : L.length ≤ 320) : 0 ≤ Fl (L.take m) 15 ∧ Fl (L.take m) 15 ≤ 32768 * 640 :=
  ⟨Fl_nonneg _ _, Fl_big _ (by simp; omega) 15 (by omega)⟩

set_option maxHeartbeats 1000000 in
set_option maxRecDepth 20000 in
theorem check_ref (ao : Option Addr) (n c : Nat) (L : List Int) (w : World) (h : Is w ao n c L) :
    Calls Tryz.prog 83 #[.slice ao n c] w fun e w' => e = .returned (.tuple #[.bool (whole L), .int .i64 (cer L)]) ∧ w' = w := by
  have H := hide h
  have hlen := hide h.len
  have hmax := h.max
  have hle := h.le
  clear h
  obtain ⟨B, hB⟩ : ∃ B, B = whole L := ⟨_, rfl⟩
  obtain ⟨E, hE⟩ : ∃ E, E = cer L := ⟨_, rfl⟩
  rw [← hB, ← hE]
  have HB := hide hB
  have HE := hide hE
  clear hB hE
  have hwf := hide (show cer L ≠ 0 → whole L = false from fun q => by unfold whole; simp [q])
  by_cases hbig : (320 : Int) < (n : Int)
  · have he : E = 3 := by rw [unhide HE]; unfold cer; rw [if_pos (by rw [unhide hlen]; omega)]
    have hb : B = false := by rw [unhide HB]; exact unhide hwf (by rw [← unhide HE, he]; decide)
    subst he hb
    go_enter Tryz.func83, Tryz.ntmps83
    go_wp2_with fail
    go_ret2
    exact ⟨rfl, rfl⟩
  · go_enter Tryz.func83, Tryz.ntmps83
    go_wp2_with fail
    go_loop [4, 5] (fun s i => ∃ m : Nat, m ≤ n ∧ i = .int .i64 m ∧ s = .int .i64 (Fl (L.take m) 15) ∧ (∀ j, j < m → 0 ≤ ln L j ∧ ln L j ≤ 15)) (fun _ i => n - (intOf i).toNat)
    case atStart => exact ⟨0, by omega, rfl, by rw [List.take_zero, Fl_nil], fun j hj => by omega⟩
    case round =>
      obtain ⟨m, hm, rfl, rfl, hgood⟩ := hrel
      have HG := hide hgood
      clear hgood
      have hb0 := Fl_nonneg (L.take m) 15
      have hb1 := Fl_big (L.take m) (by simp; omega) 15 (by omega)
      by_cases hlt : m < n
      · obtain ⟨b, o, hix, hcx⟩ := (unhide H).idx hlt (m : Int) rfl
        have hmL := hide (show m < L.length by rw [unhide hlen]; exact hlt)
        obtain ⟨x, hx⟩ : ∃ x, x = ln L m := ⟨_, rfl⟩
        rw [show L[m]?.getD 0 = x from hx.symm] at hcx
        have HX := hide hx
        clear hx
        by_cases hout : x < 0 ∨ 15 < x
        · have he : E = 2 := by rw [unhide HE]; unfold cer; rw [if_neg (by rw [unhide hlen]; omega), if_pos (is_bad (unhide hmL) (by rw [← unhide HX]; exact hout))]
          have hb : B = false := by rw [unhide HB]; exact unhide hwf (by rw [← unhide HE, he]; decide)
          subst he hb
          generalize Fl (L.take m) 15 = S at *
          rcases hout with hout | hout
          · go_wp2_with fail
            go_ret2
            exact ⟨rfl, rfl⟩
          · go_wp2_with fail
            go_ret2
            exact ⟨rfl, rfl⟩
        · obtain ⟨k, rfl⟩ : ∃ k : Nat, x = (k : Int) := ⟨x.toNat, by omega⟩
          have hst := hide (show Fl (L.take (m + 1)) 15 = Fl (L.take m) 15 + pw (k : Int) by rw [take_snoc (unhide hmL), ← unhide HX]; exact Fl_pw _ _ (by omega) (by omega))
          have hgn := hide (show ∀ j, j < m + 1 → 0 ≤ ln L j ∧ ln L j ≤ 15 from fun j hj => by
            by_cases hjm : j = m
            · rw [hjm, ← unhide HX]; omega
            · exact unhide HG j (by omega))
          by_cases h0 : k = 0
          · subst h0
            have hp := hide (show pw ((0 : Nat) : Int) = 0 from rfl)
            generalize Fl (L.take m) 15 = S at *
            go_wp2_with fail
            go_round
            case rel => exact ⟨m + 1, by omega, by go_num, by rw [unhide hst, unhide hp, Int.add_zero], unhide hgn⟩
            case measure => simp [intOf]; omega
          · have hp := hide (show pw (k : Int) = 2 ^ (15 - k) by unfold pw; rw [if_neg (by omega), show (15 - (k : Int)).toNat = 15 - k by omega])
            have pl := pow_le15 k
            have k0 : 0 < (k : Int) := by omega
            have k0n : 0 < k := by omega
            generalize Fl (L.take m) 15 = S at *
            obtain ⟨P, hP⟩ : ∃ P, (2 : Int) ^ (15 - k) = P := ⟨_, rfl⟩
            rw [hP] at pl
            go_wp2_with fail
            go_round
            case rel => exact ⟨m + 1, by omega, by go_num, by rw [unhide hst, unhide hp, hP], unhide hgn⟩
            case measure => simp [intOf]; omega
      · have hT : L.take m = L := List.take_of_length_le (by rw [unhide hlen]; omega)
        rw [hT] at hb0 hb1 ⊢
        have hnb := hide (show bad L = false from not_bad fun j hj => unhide HG j (by rw [unhide hlen] at hj; omega))
        have h320 := hide (show ¬ 320 < L.length by rw [unhide hlen]; omega)
        clear hT
        by_cases hfull : 32768 < Fl L 15
        · have he : E = 7 := by rw [unhide HE]; unfold cer; rw [if_neg (unhide h320), unhide hnb, if_neg (by simp), if_pos hfull]
          have hb : B = false := by rw [unhide HB]; exact unhide hwf (by rw [← unhide HE, he]; decide)
          subst he hb
          generalize Fl L 15 = S at *
          go_wp2_with fail
          go_ret2
          exact ⟨rfl, rfl⟩
        · have he0 : cer L = 0 := by unfold cer; rw [if_neg (unhide h320), unhide hnb, if_neg (by simp), if_neg hfull]
          have he : E = 0 := by rw [unhide HE]; exact he0
          have hw := hide (show B = (Fl L 15 == 32768) by rw [unhide HB]; unfold whole; rw [he0]; by_cases q : Fl L 15 = 32768 <;> simp [q])
          subst he
          generalize Fl L 15 = S at *
          clear he0
          go_wp2_with fail
          go_ret2
          exact ⟨by rw [unhide hw]; rfl, rfl⟩

end Go.Proofs.YtnoabdafmgmenaaGreatDoor
