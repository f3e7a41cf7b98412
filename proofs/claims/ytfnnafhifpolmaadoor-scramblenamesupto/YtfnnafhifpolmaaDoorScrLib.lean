/-
  What Equal, Grow and Concat of package slices return for slices of bytes: whether two are the same; room of the call's own; two lists one behind the other in new memory. Conditions: the slices can be read, lengths below 10 to the 6; Concat of two slices that are not both empty.
-/
import Derived.Test.YtfnnafhifpolmaaDoorUMem
import Derived.Lib.AppendZeros
import Derived.BigQuiet
namespace Go.Proofs.YtfnnafhifpolmaaDoor
open Go.RowKit
set_option linter.unusedVariables false
set_option linter.unusedSimpArgs false

/-- The first j are the same. -/
theorem take_same_next {a b : List Int} {j : Nat} (ha : j < a.length) (hb : j < b.length) (h : a.take j = b.take j) (he : a[j]?.getD 0 = b[j]?.getD 0) : a.take (j + 1) = b.take (j + 1) := by
  rw [List.take_add_one, List.take_add_one, h, List.getElem?_eq_getElem ha, List.getElem?_eq_getElem hb]
  simp only [List.getElem?_eq_getElem ha, List.getElem?_eq_getElem hb, Option.getD_some] at he
  rw [he]
theorem other_of_at {a b : List Int} {j : Nat} (he : ¬ a[j]?.getD 0 = b[j]?.getD 0) : ¬ a = b := fun e => he (by rw [e])

set_option maxHeartbeats 1000000 in
theorem equal_any (ao : Option Addr) (n c : Nat) (cs : List Int) (bo : Option Addr) (m d : Nat) (bs : List Int) (w : World) (h : Bs w ao n c cs) (k : Bs w bo m d bs) (hn : n ≤ 1000000) (hm : m ≤ 1000000) :
    Calls Tryd.prog 38 #[.slice ao n c, .slice bo m d] w fun e w' => e = .returned (.bool (decide (cs = bs))) ∧ ∃ q, w' = w.drewN q := by
  have hl := h.len
  have kl := k.len
  have hle := h.le
  have kle := k.le
  have hmx := h.max
  have kmx := k.max
  have H := hide h
  have K := hide k
  clear h k
  by_cases hnm : n = m
  · subst hnm
    have HL := hide hl
    have KL := hide kl
    clear hl kl
    obtain ⟨R, hR⟩ : ∃ R, R = decide (cs = bs) := ⟨_, rfl⟩
    rw [← hR]
    have HR := hide hR
    clear hR
    go_enter Tryd.func38, Tryd.ntmps38
    go_wp2_with fail
    go_loopw [13] (fun i wr => ∃ (j q : Nat), j ≤ n ∧ i = .int .i64 (j : Int) ∧ cs.take j = bs.take j ∧ wr = w.drewN q) (fun i _ => n - (intOf i).toNat)
    case atStart => exact ⟨0, 0, by omega, rfl, rfl, rfl⟩
    case round =>
      obtain ⟨j, q, hj, rfl, hs, rfl⟩ := hrel
      by_cases hlt : j < n
      · obtain ⟨b0, o0, i0, k0⟩ := (unhide H).idx hlt (j : Int) rfl
        obtain ⟨b1, o1, i1, k1⟩ := (unhide K).idx hlt (j : Int) rfl
        by_cases he : cs[j]?.getD 0 = bs[j]?.getD 0
        · have hnx := hide (take_same_next (by rw [unhide HL]; exact hlt) (by rw [unhide KL]; exact hlt) hs he)
          have he' : (cs[j]?.getD 0 != bs[j]?.getD 0) = false := by simp [he]
          generalize cs[j]?.getD 0 = y0 at *
          generalize bs[j]?.getD 0 = y1 at *
          clear he hs
          go_wp2_with fail
          go_quiet (fail)
          go_wp2_with fail
          go_roundw
          case rel => exact ⟨j + 1, _, by omega, by go_num, unhide hnx, (by first | rfl | exact World.drewN_drewN _ _ _)⟩
          case measure => simp [intOf]; omega
        · have hno := hide (show R = false by rw [unhide HR]; exact decide_eq_false (other_of_at he))
          have he' : (cs[j]?.getD 0 != bs[j]?.getD 0) = true := by simpa using he
          generalize cs[j]?.getD 0 = y0 at *
          generalize bs[j]?.getD 0 = y1 at *
          clear he hs
          go_wp2_with fail
          go_quiet (fail)
          go_wp2_with fail
          go_ret
          exact ⟨by rw [unhide hno]; rfl, _, (by first | rfl | exact World.drewN_drewN _ _ _)⟩
      · have hjn : j = n := by omega
        subst hjn
        have hyes := hide (show R = true by
          rw [unhide HR]
          refine decide_eq_true ?_
          rw [List.take_of_length_le (by rw [unhide HL]; exact Nat.le_refl _), List.take_of_length_le (by rw [unhide KL]; exact Nat.le_refl _)] at hs
          exact hs)
        clear hs
        go_wp2_with fail
        go_ret
        exact ⟨by rw [unhide hyes]; rfl, _, rfl⟩
  · have hne : ¬ cs = bs := fun e => hnm (by rw [← hl, ← kl, e])
    have hd : decide (cs = bs) = false := by simpa using hne
    have hnm' : ((n : Int) != (m : Int)) = true := by simp; omega
    rw [hd]
    clear hl kl hne hd hnm
    go_enter Tryd.func38, Tryd.ntmps38
    go_wp2_with fail
    go_ret
    exact ⟨rfl, 0, rfl⟩

set_option maxHeartbeats 1000000 in
theorem grow_nil (n : Nat) (w : World) (h0 : 0 < n) (hn : n ≤ 1000000) :
    Calls Tryd.prog 54 #[.slice none 0 0, .int .i64 (n : Int)] w fun e w' => ∃ g c, e = .returned (.slice (some ⟨g, 0, none⟩) 0 c) ∧ Mine w.heap.size w' (some ⟨g, 0, none⟩) 0 c [] ∧ Below w.heap.size w w' := by
  obtain ⟨i0, hi, hz0, hz1, hz2⟩ := info_parts Tryd.infoByte
  have hr := hide (fun ty => Lib.run_append_nil_zeros (P := Tryd.prog) w 22 3 ty 5 i0 (.int .u8 0) .i64 .i64 Tryd.underlying22 Tryd.underlying3 hi hz0 n h0 (by rw [hz1]; omega) (by omega) (by rw [hz2]; omega))
  have hge := grownCap_ge w n 0 5
  have hmx := grownCap_le_maxLen w n 0 5 (by unfold maxLen; omega)
  unfold maxLen at hmx
  have hM := hide (show Mine w.heap.size (w.drew.alloc (.cells (Builtin.zeroCells (Value.int .u8 0).cells n ++ Builtin.zeroCells (Value.int .u8 0).cells (grownCap w n 0 5 - n)) 5)) (some ⟨w.heap.size, 0, none⟩) 0 (grownCap w n 0 5) [] from
    ⟨rfl, World.ownsRow_made w.drew _ _ (Nat.le_refl _) (by unfold maxLen; omega) (by simp [Builtin.zeroCells, Value.cells]; omega), Byt.nil⟩)
  generalize Builtin.zeroCells (Value.int .u8 0).cells n ++ Builtin.zeroCells (Value.int .u8 0).cells (grownCap w n 0 5 - n) = CC at *
  generalize grownCap w n 0 5 = G at *
  have hcut := run_cut_h (some ⟨w.heap.size, 0, none⟩) n G 0 (by omega) 0 rfl
  rw [show cutAt (some ⟨w.heap.size, 0, none⟩) G 0 = some ⟨w.heap.size, 0, none⟩ by unfold cutAt; split <;> rfl, Nat.sub_zero, Nat.sub_zero] at hcut
  clear hi hz0 hz1 hz2
  go_enter Tryd.func54, Tryd.ntmps54
  go_wp2_with (at_builtin; refine Lib.wpList_append_run _ rfl _ _ _ _ rfl _ _ rfl rfl _ _ (unhide hr _) ?_)
  go_ret
  exact ⟨_, _, rfl, unhide hM, ((Below.refl _ w).drew).alloc (Nat.le_refl _) _⟩

/-- Two lists: the first ones of them, one behind the other. -/
def two (xs ys : List Int) : Nat → List Int
  | 0 => []
  | 1 => xs
  | _ => xs ++ ys
def twoN (n m : Nat) : Nat → Nat
  | 0 => 0
  | 1 => n
  | _ => n + m

set_option maxHeartbeats 2000000 in
theorem concat_any (g : Nat) (ao : Option Addr) (n c : Nat) (xs : List Int) (bo : Option Addr) (m d : Nat) (ys : List Int) (w : World) (h : Bs w ao n c xs) (k : Bs w bo m d ys) (c0 : w.cell? ⟨g, 0, none⟩ = some (.slice ao n c)) (c1 : w.cell? ⟨g, 1, none⟩ = some (.slice bo m d)) (hn : n ≤ 400000) (hm : m ≤ 400000) (h0 : 0 < n + m) :
    Calls Tryd.prog 46 #[.slice (some ⟨g, 0, none⟩) 2 2] w fun e w' => ∃ ao n c, e = .returned (.slice ao n c) ∧ Mine w.heap.size w' ao n c (xs ++ ys) ∧ Below w.heap.size w w' := by
  have H := hide h
  have K := hide k
  have hg := World.block_lt_of_cell? w _ c0
  simp only at hg
  have gc := hide (grow_nil (n + m) w h0 (by omega))
  have hle := h.le
  have kle := k.le
  have hmx := h.max
  have kmx := k.max
  clear h k
  go_enter Tryd.func46, Tryd.ntmps46
  go_wp2_with fail
  go_loop [11, 3] (fun i s => ∃ (j : Nat), j ≤ 2 ∧ i = .int .i64 (j : Int) ∧ s = .int .i64 (twoN n m j : Nat)) (fun i _ => 2 - (intOf i).toNat)
  case atStart => exact ⟨0, by omega, rfl, rfl⟩
  case round =>
    obtain ⟨j, hj, rfl, rfl⟩ := hrel
    rcases (show j = 0 ∨ j = 1 ∨ j = 2 by omega) with rfl | rfl | rfl
    · simp only [twoN]
      go_wp2_with fail
      go_round
      case rel => exact ⟨1, by omega, rfl, by simp [twoN]⟩
      case measure => simp [intOf]
    · simp only [twoN]
      go_wp2_with fail
      go_round
      case rel => exact ⟨2, by omega, rfl, by simp [twoN]⟩
      case measure => simp [intOf]
    · simp only [twoN]
      have C0 := hide c0
      have C1 := hide c1
      clear c0 c1
      go_wp2_with fail
      refine (unhide gc).mono ?_
      rintro e w1 ⟨g1, cc1, rfl, m1, b1⟩
      have M1 := hide m1
      have B1 := hide b1
      clear m1 b1 gc
      go_wp2_with fail
      go_loopw [27, 6] (fun i v ws => ∃ (j : Nat) (xo : Option Addr) (xc : Nat), j ≤ 2 ∧ i = .int .i64 (j : Int) ∧ v = .slice xo (twoN n m j) xc ∧ Mine w.heap.size ws xo (twoN n m j) xc (two xs ys j) ∧ Below w.heap.size w ws) (fun i _ _ => 2 - (intOf i).toNat)
      case atStart => exact ⟨0, _, _, by omega, rfl, rfl, unhide M1, unhide B1⟩
      case round =>
        clear M1 B1
        obtain ⟨j, xo, xc, hj, rfl, rfl, hM, hB⟩ := hrel
        have q0 : wr.cell? ⟨g, 0, none⟩ = some (.slice ao n c) := (hB.cell (p := ⟨g, 0, none⟩) hg).trans (unhide C0)
        have q1 : wr.cell? ⟨g, 1, none⟩ = some (.slice bo m d) := (hB.cell (p := ⟨g, 1, none⟩) hg).trans (unhide C1)
        have hBs := hB.size
        have HM := hide hM
        have HB := hide hB
        have HX := hide ((unhide H).later hB)
        have HY := hide ((unhide K).later hB)
        clear hM hB
        rcases (show j = 0 ∨ j = 1 ∨ j = 2 by omega) with rfl | rfl | rfl
        · simp only [twoN, two] at HM ⊢
          go_wp2_with (at_builtin; refine wpList_app rfl (.tmp 31) (.tmp 32) rfl w.heap.size _ _ _ _ rfl (unhide HM) _ _ _ _ rfl (unhide HX) (by omega) hBs ?_; intro a3 c3 w3 m3 b3; have M3 := hide m3; have B3 := hide ((unhide HB).trans b3); clear m3 b3)
          go_roundw
          case rel =>
            have := unhide M3
            rw [Nat.zero_add, List.nil_append] at this
            exact ⟨1, a3, c3, by omega, rfl, by simp [twoN], this, unhide B3⟩
          case measure => simp [intOf]
        · simp only [twoN, two] at HM ⊢
          go_wp2_with (at_builtin; refine wpList_app rfl (.tmp 31) (.tmp 32) rfl w.heap.size _ _ _ _ rfl (unhide HM) _ _ _ _ rfl (unhide HY) (by omega) hBs ?_; intro a3 c3 w3 m3 b3; have M3 := hide m3; have B3 := hide ((unhide HB).trans b3); clear m3 b3)
          go_roundw
          case rel => exact ⟨2, a3, c3, by omega, rfl, rfl, unhide M3, unhide B3⟩
          case measure => simp [intOf]
        · simp only [twoN, two] at HM ⊢
          go_wp2_with fail
          go_ret
          exact ⟨_, _, _, rfl, unhide HM, unhide HB⟩

end Go.Proofs.YtfnnafhifpolmaaDoor
