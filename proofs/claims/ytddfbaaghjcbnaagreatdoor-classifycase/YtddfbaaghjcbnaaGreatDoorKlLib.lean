/-
  What strings.Clone returns, and whether strings.Trim leaves anything of a text where digits are cut off. Conditions: the text is not greater than a program's memory.
-/
import Derived.Test.YtddfbaaghjcbnaaGreatDoorKlMem
import Derived.Test.YtddfbaaghjcbnaaGreatDoorShl
import Derived.Lib.AsciiSet
import Derived.Lib.TrimByte
import Derived.Shelf.Abstract
namespace Go.Proofs.YtddfbaaghjcbnaaGreatDoor
open Go.RowKit
set_option linter.unusedVariables false
set_option linter.unusedSimpArgs false

theorem clone_any (s : ByteArray) (w : World) (h : s.size ≤ 281474976710656) : Calls Tryz.prog 101 #[.string s] w fun e w' => e = .returned (.string s) ∧ Below w.heap.size w w' := by
  have c := hide (Tryz.stringslite_Clone s w h)
  go_enter Tryz.func101, Tryz.ntmps101
  go_wp2_with (go_at_call 119; refine (unhide c).mono ?_; rintro e w1 ⟨rfl, b1⟩)
  go_ret
  exact ⟨rfl, b1⟩

def dgT : ByteArray := ⟨#[48, 49, 50, 51, 52, 53, 54, 55, 56, 57]⟩
def dgs : Bl := [48, 49, 50, 51, 52, 53, 54, 55, 56, 57]
def nd (c : UInt8) : Bool := !digB c
theorem dgs_fin : ∀ n : Fin 256, dgs.contains (UInt8.ofNat n.val) = digB (UInt8.ofNat n.val) := by decide +kernel
theorem dgs_has (x : UInt8) : dgs.contains x = digB x := by
  have := dgs_fin ⟨x.toNat, x.toNat_lt⟩
  simpa using this
/-- The set of the digits, in block b. -/
def Dg (b : Nat) (w : World) : Prop := w.heap[b]? = some (.cells (Lib.setCells dgs) 117 (0, 0))
theorem Dg.of {b : Nat} {w : World} (h : w.heap[b]? = some (.cells (Lib.setCells dgs) 117 (0, 0))) : Dg b w := h
theorem Dg.at {b : Nat} {w : World} (h : Dg b w) (x : UInt8) : w.cell? ⟨b, x.toNat, none⟩ = some (.bool (digB x)) := by
  rw [cell_of_row w b x.toNat _ _ _ h, Lib.setCells_at, dgs_has]
theorem bl_head (r : ByteArray) (h : 0 < r.size) : bl r = r[0] :: bl (r.extract 1 r.size) := by
  have e : bl (r.extract 1 r.size) = (bl r).drop 1 := Lib.extract_to_end r 1
  have h2 : 0 < (bl r).length := by rw [bl_len]; exact h
  have h3 := List.drop_eq_getElem_cons h2
  rw [List.drop_zero] at h3
  rw [e]
  exact h3
theorem bl_last (r : ByteArray) (h : 0 < r.size) (h2 : r.size - 1 < r.size) : bl r = bl (r.extract 0 (r.size - 1)) ++ [r[r.size - 1]] := by
  have e : bl (r.extract 0 (r.size - 1)) = ((bl r).drop 0).take (r.size - 1 - 0) := Lib.extract_data r 0 (r.size - 1)
  have h3 : r.size - 1 < (bl r).length := by rw [bl_len]; exact h2
  have h5 : (bl r).take (r.size - 1) ++ [(bl r)[r.size - 1]] = (bl r).take (r.size - 1 + 1) := by rw [List.take_add_one, List.getElem?_eq_getElem h3]; rfl
  rw [show r.size - 1 + 1 = (bl r).length by rw [bl_len]; omega, List.take_length] at h5
  rw [e, List.drop_zero, Nat.sub_zero]
  exact h5.symm

set_option maxHeartbeats 1000000 in
set_option maxRecDepth 20000 in
theorem trimL_any (b : Nat) (s : ByteArray) (w : World) (hB : Dg b w) (hs : s.size ≤ 9223372036854775807) : Calls Tryz.prog 137 #[.string s, .pointer (some ⟨b, 0, none⟩)] w fun e w' => ∃ r : ByteArray, e = .returned (.string r) ∧ decide (bl r ≠ []) = (bl s).any nd ∧ w' = w := by
  have HB := hide hB
  obtain ⟨R, hR⟩ : ∃ R, R = (bl s).any nd := ⟨_, rfl⟩
  rw [← hR]
  have HR := hide hR
  clear hB hR
  go_enter Tryz.func137, Tryz.ntmps137
  go_wp2_with fail
  go_loop [0] (fun v => ∃ r : ByteArray, v = .string r ∧ r.size ≤ s.size ∧ (bl r).any nd = R) (fun v => Lib.strSize v)
  case atStart => exact ⟨s, rfl, Nat.le_refl _, (unhide HR).symm⟩
  case round =>
    obtain ⟨r, rfl, hz, hA⟩ := hrel
    have HA := hide hA
    clear hA
    by_cases h0 : 0 < r.size
    · have hh := hide (bl_head r h0)
      have hc := fun x => hide (Tryz.asciiSet_contains b x _ w ((unhide HB).at x))
      have g0 : (0 : Int) < (r.size : Int) := by omega
      have C := hc (r[0]'h0)
      clear hc
      by_cases hx : digB (r[0]'h0) = true
      · rw [hx] at C
        have h1 := hide (show (bl (r.extract 1 r.size)).any nd = R by rw [← unhide HA, unhide hh]; simp [nd, hx])
        have h2 : (r.extract 1 r.size).size = r.size - 1 := by simp [ByteArray.size_extract]
        clear hx
        go_wp2_with (go_at_call 145; refine same_world (unhide C) ?_)
        refine ⟨⟨r.extract 1 r.size, rfl, by omega, unhide h1⟩, ?_⟩
        simp only [Lib.strSize_string]
        omega
      · have hx2 : digB (r[0]'h0) = false := by simpa using hx
        rw [hx2] at C
        have h1 := hide (show R = true by rw [← unhide HA, unhide hh]; simp [nd, hx2])
        have h2 := hide (show bl r ≠ [] by rw [unhide hh]; simp)
        clear hx hx2
        go_wp2_with (go_at_call 145; refine same_world (unhide C) ?_)
        go_ret
        exact ⟨r, rfl, by rw [unhide h1]; exact decide_eq_true (unhide h2), rfl⟩
    · have g0 : ¬ (0 : Int) < (r.size : Int) := by omega
      have h2 := hide (show bl r = [] from List.eq_nil_of_length_eq_zero (by rw [bl_len]; omega))
      go_wp2_with fail
      go_ret
      exact ⟨r, rfl, by rw [← unhide HA, unhide h2]; rfl, rfl⟩

set_option maxHeartbeats 1000000 in
set_option maxRecDepth 20000 in
theorem trimR_any (b : Nat) (s : ByteArray) (w : World) (hB : Dg b w) (hs : s.size ≤ 9223372036854775807) : Calls Tryz.prog 138 #[.string s, .pointer (some ⟨b, 0, none⟩)] w fun e w' => ∃ r : ByteArray, e = .returned (.string r) ∧ r.size ≤ s.size ∧ (bl r).any nd = (bl s).any nd ∧ w' = w := by
  have HB := hide hB
  obtain ⟨R, hR⟩ : ∃ R, R = (bl s).any nd := ⟨_, rfl⟩
  rw [← hR]
  have HR := hide hR
  clear hB hR
  go_enter Tryz.func138, Tryz.ntmps138
  go_wp2_with fail
  go_loop [0] (fun v => ∃ r : ByteArray, v = .string r ∧ r.size ≤ s.size ∧ (bl r).any nd = R) (fun v => Lib.strSize v)
  case atStart => exact ⟨s, rfl, Nat.le_refl _, (unhide HR).symm⟩
  case round =>
    obtain ⟨r, rfl, hz, hA⟩ := hrel
    have HA := hide hA
    clear hA
    by_cases h0 : 0 < r.size
    · have k1 : r.size - 1 < r.size := by omega
      have hh := hide (bl_last r h0 k1)
      have hc := fun x => hide (Tryz.asciiSet_contains b x _ w ((unhide HB).at x))
      have g0 : (0 : Int) < (r.size : Int) := by omega
      obtain ⟨k, hk⟩ : ∃ k, r.size = k + 1 := ⟨r.size - 1, by omega⟩
      have g1 : (r.size : Int) - 1 = (k : Int) := by omega
      have g2 : k < r.size := by omega
      have e1 : r[r.size - 1]'k1 = r[k]'g2 := by congr 1; omega
      rw [e1, show r.size - 1 = k by omega] at hh
      clear e1 k1
      have C := hc (r[k]'g2)
      clear hc
      by_cases hx : digB (r[k]'g2) = true
      · rw [hx] at C
        have h1 := hide (show (bl (r.extract 0 k)).any nd = R by rw [← unhide HA, unhide hh]; simp [nd, hx])
        have h2 : (r.extract 0 k).size = k := by simp [ByteArray.size_extract]; omega
        clear hx
        go_wp2_with (go_at_call 145; refine same_world (unhide C) ?_)
        refine ⟨⟨r.extract 0 k, rfl, by omega, unhide h1⟩, ?_⟩
        simp only [Lib.strSize_string]
        omega
      · have hx2 : digB (r[k]'g2) = false := by simpa using hx
        rw [hx2] at C
        clear hx hx2
        go_wp2_with (go_at_call 145; refine same_world (unhide C) ?_)
        go_ret
        exact ⟨r, rfl, by omega, unhide HA, rfl⟩
    · have g0 : ¬ (0 : Int) < (r.size : Int) := by omega
      go_wp2_with fail
      go_ret
      exact ⟨r, rfl, by omega, unhide HA, rfl⟩

def Z256 : Array Value := Array.replicate 256 (.bool false)
theorem zero256 (w : World) : (zeroValue 117).run Tryz.prog w = .ok (.agg Z256) w := by kernel_rfl
theorem dgs_asc (j : Nat) (b : UInt8) (h : dgT.data.toList[j]? = some b) : b.toNat < 128 := by
  have hm : b ∈ dgs := by
    obtain ⟨hj, rfl⟩ := List.getElem?_eq_some_iff.1 h
    exact List.getElem_mem hj
  simp only [dgs, List.mem_cons, List.not_mem_nil, or_false] at hm
  rcases hm with rfl | rfl | rfl | rfl | rfl | rfl | rfl | rfl | rfl | rfl <;> decide
theorem sc_info : (Tryz.prog.info? 117).map (·.size) = some (Lib.setCells dgs).size := by
  rw [Lib.setCells_size]
  kernel_rfl
theorem sc_size : Z256.size = (Lib.setCells dgs).size := by rw [Lib.setCells_size]; simp [Z256]

set_option maxHeartbeats 1000000 in
set_option maxRecDepth 20000 in
theorem trim_any (s : ByteArray) (w : World) (hs : s.size ≤ 4294967280) : Calls Tryz.prog 124 #[.string s, .string dgT] w fun e w' => ∃ r : ByteArray, e = .returned (.string r) ∧ decide (bl r ≠ []) = (bl s).any nd ∧ Below w.heap.size w w' := by
  have cA := hide (Tryz.strings_makeASCIISet zero256 dgT w (by decide) dgs_asc)
  have cR := hide (fun b wx (h : Dg b wx) => trimR_any b s wx h (by omega))
  have cL := hide (fun b (r : ByteArray) wx (h : Dg b wx) (hr : r.size ≤ 4294967280) => trimL_any b r wx h (by omega))
  by_cases h0 : s = ⟨#[]⟩
  · subst h0
    go_enter Tryz.func124, Tryz.ntmps124
    go_wp2_with fail
    go_ret
    exact ⟨⟨#[]⟩, rfl, rfl, Below.refl _ _⟩
  · have e0 : (s.toList == (⟨#[]⟩ : ByteArray).toList) = false := by
      rw [beq_eq_false_iff_ne]
      intro e
      apply h0
      apply ByteArray.ext
      apply Array.ext'
      rwa [ByteArray.toList_eq, ByteArray.toList_eq] at e
    have e1 : ¬ s.toList = [] := by
      intro e
      apply h0
      apply ByteArray.ext
      apply Array.ext'
      rw [ByteArray.toList_eq] at e
      simpa using e
    have e2 : s.toList.isEmpty = false := by simpa using e1
    clear h0
    unfold dgT at *
    go_enter Tryz.func124, Tryz.ntmps124
    go_wp2_with (first | (go_at_call 136; (with_reducible refine (unhide cA).mono ?_); rintro e w1 ⟨rfl, hw1⟩; have b1 : Below w.heap.size w w1 := (by rw [hw1]; exact below_alloc w _); clear hw1) | (with_reducible show wpList Tryz.prog _ _ (Oper.mk _ (Op.alloc 117) _ _ _ none :: _) _ _; refine wpList_alK rfl _ rfl Z256 zero256 ?_; intro w2 r2 b2 z2) | (with_reducible show wpList Tryz.prog _ _ (Oper.mk _ (Op.store 117 _ _) _ _ _ none :: _) _ _; refine wpList_stK rfl _ _ _ rfl w1.heap.size (Lib.setCells dgs) Z256 (by simp [Act.eval, Act.put]) (by simp [Act.eval, Act.put, dgs]) r2 sc_info sc_size (Lib.setCells_one _) ?_; intro w3 r3 g3 z3; have D3 := Dg.of r3; have b3 := belT b1 (belowG b2 g3 (Nat.le_refl _) b2.size)) | (go_at_call 138; (with_reducible refine (unhide cR w1.heap.size w3 D3).mono ?_); rintro e w4 ⟨r, rfl, hr, hR, hw4⟩; rw [hw4]) | (go_at_call 137; (with_reducible refine (unhide cL w1.heap.size r w3 D3 (by omega)).mono ?_); rintro e w5 ⟨t, rfl, hT, hw5⟩; rw [hw5]))
    go_ret
    exact ⟨t, rfl, hT.trans hR, b3⟩

end Go.Proofs.YtddfbaaghjcbnaaGreatDoor
