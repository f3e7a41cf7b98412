/-
  What the leaves of package classify return: whether the first words, the last words are some names, whether a word is a sign; and slices.Contains of a literal row of numbers. Conditions: none but that the slices can be read.
-/
import Derived.Test.YtddfbaaghjcbnaaGreatDoorKlMem
namespace Go.Proofs.YtddfbaaghjcbnaaGreatDoor
open Go.RowKit
set_option linter.unusedVariables false
set_option linter.unusedSimpArgs false

theorem str_neK {x y : ByteArray} (h : x ≠ y) : (x.toList == y.toList) = false := by
  rw [beq_eq_false_iff_ne]
  intro e
  apply h
  apply ByteArray.ext
  apply Array.ext'
  rwa [ByteArray.toList_eq, ByteArray.toList_eq] at e
theorem str_self (x : ByteArray) : (x.toList == x.toList) = true := beq_self_eq_true _
theorem str_eqK (x y : ByteArray) : (x.toList == y.toList) = decide (x = y) := by
  by_cases h : x = y
  · subst h; rw [str_self]; exact (decide_eq_true rfl).symm
  · rw [str_neK h]; exact (decide_eq_false h).symm
theorem begL_cons (w : Wd) (l : List Wd) (s : ByteArray) (ss : List ByteArray) : begL (w :: l) (s :: ss) = (nmW w s && begL l ss) := rfl
theorem begL_nil (l : List Wd) : begL l [] = true := by cases l <;> rfl
theorem begL_few : ∀ (l : List Wd) (ss : List ByteArray), l.length < ss.length → begL l ss = false
  | l, [], h => by simp at h
  | [], s :: ss, h => rfl
  | w :: l, s :: ss, h => by rw [begL_cons, begL_few l ss (by simpa using h), Bool.and_false]
theorem begL_at (l : List Wd) (ss : List ByteArray) (j : Nat) (p : Wd) (s : ByteArray) (hp : l[j]? = some p) (hs : ss[j]? = some s) : begL (l.drop j) (ss.drop j) = (nmW p s && begL (l.drop (j + 1)) (ss.drop (j + 1))) := by
  obtain ⟨h1, rfl⟩ := List.getElem?_eq_some_iff.1 hp
  obtain ⟨h2, rfl⟩ := List.getElem?_eq_some_iff.1 hs
  rw [List.drop_eq_getElem_cons h1, List.drop_eq_getElem_cons h2]
  rfl
theorem AtW.k {w : World} {b o : Nat} {p : Wd} (h : AtW w b o p) : w.cell? ⟨b, o, none⟩ = some (.int .i64 p.k) := h 0 (by decide)
theorem AtW.t {w : World} {b o : Nat} {p : Wd} (h : AtW w b o p) : w.cell? ⟨b, o + 1, none⟩ = some (.string p.tx) := h 1 (by decide)
theorem Ss.get {w : World} {ao : Option Addr} {n c : Nat} {ss : List ByteArray} (h : Ss w ao n c ss) {i : Nat} (hi : i < n) : ss[i]? = some (ss.getD i ByteArray.empty) := by
  have hl := h.len
  rw [List.getD_eq_getElem?_getD, List.getElem?_eq_getElem (by omega), Option.getD_some]

set_option maxHeartbeats 2000000 in
theorem begins_any (ao : Option Addr) (n c : Nat) (l : List Wd) (so : Option Addr) (m d : Nat) (ss : List ByteArray) (w : World) (hW : Wds w ao n c l) (hS : Ss w so m d ss) :
    Calls Tryz.prog 93 #[.slice ao n c, .slice so m d] w fun e w' => e = .returned (.bool (begL l ss)) ∧ Below w.heap.size w w' := by
  have hle := hW.le
  have hmx := hW.max
  have hln := hW.len
  have kle := hS.le
  have kmx := hS.max
  have kln := hS.len
  have HW := hide hW
  have HS := hide hS
  obtain ⟨R, hR⟩ : ∃ R, R = begL l ss := ⟨_, rfl⟩
  rw [← hR]
  have HR := hide hR
  have Hln := hide hln
  have Hkln := hide kln
  clear hW hS hR hln kln
  by_cases hlt : n < m
  · have g0 : (n : Int) < (m : Int) := by omega
    have h0 := hide (show R = false by rw [unhide HR]; exact begL_few l ss (by rw [unhide Hln, unhide Hkln]; exact hlt))
    go_enter Tryz.func93, Tryz.ntmps93
    go_wp2_with fail
    go_ret
    exact ⟨by rw [unhide h0]; rfl, Below.refl _ _⟩
  · have g0 : ¬ (n : Int) < (m : Int) := by omega
    go_enter Tryz.func93, Tryz.ntmps93
    go_wp2_with fail
    go_loopw [14] (fun iv wr => ∃ (j : Nat), j ≤ m ∧ iv = .int .i64 (j : Int) ∧ Below w.heap.size w wr ∧ R = begL (l.drop j) (ss.drop j)) (fun iv _ => m - (intOf iv).toNat)
    case atStart => exact ⟨0, by omega, rfl, Below.refl _ _, by rw [List.drop_zero, List.drop_zero]; exact unhide HR⟩
    case round =>
      obtain ⟨j, hj, rfl, hB, hA⟩ := hrel
      have HA := hide hA
      clear hA
      by_cases hjm : j < m
      · have g1 : ((j : Nat) : Int) < (m : Int) := by omega
        obtain ⟨p, hp⟩ : ∃ p, l[j]? = some p := ⟨_, List.getElem?_eq_getElem (by rw [unhide Hln]; omega)⟩
        obtain ⟨b1, o1, i1, a1⟩ := ((unhide HW).later hB).idx hp (j : Int) rfl
        obtain ⟨b2, o2, i2, c2⟩ := ((unhide HS).later hB).idx hjm (j : Int) rfl
        have hs := (unhide HS).get hjm
        generalize ss.getD j ByteArray.empty = s at *
        have HT := hide (begL_at l ss j p s hp hs)
        have k0 := a1.k
        have k1 := a1.t
        obtain ⟨pk, ptx, pa⟩ := p
        simp only at k0 k1
        clear a1 hp hs
        by_cases e1 : pk = 1
        · subst e1
          by_cases e2 : ptx = s
          · subst e2
            have e3 := str_self ptx
            have h1 := hide (show R = begL (l.drop (j + 1)) (ss.drop (j + 1)) by rw [unhide HA, unhide HT]; simp [nmW])
            go_wp2_with fail
            go_roundw
            case rel => exact ⟨j + 1, by omega, by go_num, hB, unhide h1⟩
            case measure => simp [intOf]; omega
          · have e3 := str_neK e2
            have h1 := hide (show R = false by rw [unhide HA, unhide HT]; simp [nmW, e2])
            go_wp2_with fail
            go_ret
            exact ⟨by rw [unhide h1]; rfl, hB⟩
        · have e3 : (pk != 1) = true := by simpa using e1
          have h1 := hide (show R = false by rw [unhide HA, unhide HT]; simp [nmW, e1])
          go_wp2_with fail
          go_ret
          exact ⟨by rw [unhide h1]; rfl, hB⟩
      · have hjn : j = m := by omega
        subst hjn
        have g1 : ¬ ((j : Nat) : Int) < (j : Int) := by omega
        have h1 := hide (show R = true by rw [unhide HA, show ss.drop j = [] from List.drop_of_length_le (by rw [unhide Hkln]; exact Nat.le_refl _)]; exact begL_nil _)
        go_wp2_with fail
        go_ret
        exact ⟨by rw [unhide h1]; rfl, hB⟩

set_option maxHeartbeats 1000000 in
theorem kSign_any (p : Wd) (s : ByteArray) (w : World) : Calls Tryz.prog 36 #[.agg (wdC p), .string s] w fun e w' => e = .returned (.bool (sgW p s)) ∧ Below w.heap.size w w' := by
  have b1 := below_alloc w (.cells (wdC p) 35)
  obtain ⟨pk, ptx, pa⟩ := p
  have r1 := AtW.of_row (heap_alloc_new w (.cells (wdC ⟨pk, ptx, pa⟩) 35))
  have k0 := r1.k
  have k1 := r1.t
  simp only [Nat.zero_add] at k1
  unfold wdC at *
  simp only at *
  have B1 := hide b1
  clear b1 r1
  unfold sgW
  simp only
  by_cases e1 : pk = 5
  · subst e1
    by_cases e2 : ptx = s
    · subst e2
      have e3 := str_self ptx
      go_enter Tryz.func36, Tryz.ntmps36
      go_wp2_with fail
      go_ret
      exact ⟨by simp, unhide B1⟩
    · have e3 := str_neK e2
      go_enter Tryz.func36, Tryz.ntmps36
      go_wp2_with fail
      go_ret
      exact ⟨by simp [e2], unhide B1⟩
  · have e3 : (pk == 5) = false := by simpa using e1
    go_enter Tryz.func36, Tryz.ntmps36
    go_wp2_with fail
    go_ret
    exact ⟨by simp [e1], unhide B1⟩

end Go.Proofs.YtddfbaaghjcbnaaGreatDoor
