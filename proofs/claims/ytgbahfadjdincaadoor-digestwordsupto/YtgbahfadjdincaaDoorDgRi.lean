/-
  What the document's own functions rest and Words of layer 21 return. Conditions: the slice can be read; at most 100,000 words.
-/
import Derived.Test.YtgbahfadjdincaaDoorDgRh
namespace Go.Proofs.YtgbahfadjdincaaDoor
open Go.RowKit
set_option linter.unusedVariables false
set_option linter.unusedSimpArgs false

def lenOf : Value → Nat
  | .slice _ n _ => n
  | _ => 0
/-- Words that can be read. -/
def OutV (w : World) (R : List Wd) (e : Ending) (w' : World) : Prop := ∃ bo m d, e = .returned (.slice bo m d) ∧ Wds w' bo m d R ∧ Below w.heap.size w w'
theorem dre_step (m : List Wd) : dre m = if dend m [dSe] then dre (m.take (m.length - 1)) else m := by
  unfold dre
  rw [dse_step]
  cases h : dend m [dSe] with
  | false =>
    simp only [Bool.false_eq_true, if_false, Nat.sub_zero]
    exact List.take_of_length_le (Nat.le_refl _)
  | true =>
    simp only [if_true]
    rw [List.take_take, List.length_take]
    congr 1
    have := dse_len (m.take (m.length - 1))
    rw [List.length_take] at this
    omega
theorem dend_last {l : List Wd} {m : Nat} {x : Wd} (h : l[m]? = some x) : dend (l.take (m + 1)) [dSe] = dis dSe x := by
  rw [List.take_add_one, h]
  exact dend1 _ x dSe

set_option maxHeartbeats 4000000 in
set_option maxRecDepth 20000 in
theorem rrest_any (ao : Option Addr) (n c : Nat) (l : List Wd) (w : World) (hW : Wds w ao n c l) :
    Calls Tryd.prog 21 #[.slice ao n c] w (OutV w (dre l)) := by
  have hle := hW.le
  have hmx := hW.max
  have hln := hide hW.len
  have HW := hide hW
  obtain ⟨R, hR⟩ : ∃ R, R = dre l := ⟨_, rfl⟩
  rw [← hR]
  have HR := hide hR
  clear hW hR
  go_enter Tryd.func21, Tryd.ntmps21
  go_wp2_with fail
  go_loopw [0] (fun sv wr => ∃ (m d : Nat) (bo : Option Addr), m ≤ n ∧ sv = .slice bo m d ∧ Wds wr bo m d (l.take m) ∧ Below w.heap.size w wr ∧ dre (l.take m) = R) (fun sv _ => lenOf sv)
  case atStart => exact ⟨n, c, ao, Nat.le_refl _, rfl, by rw [List.take_of_length_le (by rw [unhide hln]; exact Nat.le_refl _)]; exact unhide HW, Below.refl _ _, by rw [List.take_of_length_le (by rw [unhide hln]; exact Nat.le_refl _)]; exact (unhide HR).symm⟩
  case round =>
    obtain ⟨m, d, bo, hm, rfl, hB, hb, hq⟩ := hrel
    have hsz := hb.size
    have hdl := hB.le
    have hdm := hB.max
    have HB := hide hB
    by_cases h0 : m = 0
    · subst h0
      have h1 := hide (show R = l.take 0 by rw [← hq]; rfl)
      clear hq hB
      go_wp2_with fail
      go_ret
      exact ⟨bo, 0, d, rfl, by rw [unhide h1]; exact unhide HB, hb⟩
    · obtain ⟨k, rfl⟩ : ∃ k, m = k + 1 := ⟨m - 1, by omega⟩
      obtain ⟨x, hx⟩ : ∃ p, l[k]? = some p := ⟨_, List.getElem?_eq_getElem (by rw [unhide hln]; omega)⟩
      have hx2 : (l.take (k + 1))[k]? = some x := by rw [List.getElem?_take_of_lt (by omega)]; exact hx
      obtain ⟨b3, o3, i3, a3⟩ := hB.idx hx2 (((k + 1 : Nat) : Int) - 1) (by omega)
      have i4 := i3
      rw [show ((k + 1 : Nat) : Int) - 1 = (k : Int) by omega] at i4
      have g0 : (0 : Int) < ((k + 1 : Nat) : Int) := by omega
      have g1 : (0 : Int) < (k : Int) + 1 := by omega
      have g2 : (k : Int) + 1 - 1 = (k : Int) := by omega
      have g3 : ((k + 1 : Nat) : Int) - 1 = (k : Int) := by omega
      rw [dre_step, dend_last hx, List.length_take, unhide hln, Nat.min_eq_left (by omega), Nat.add_sub_cancel, List.take_take, Nat.min_eq_left (by omega)] at hq
      obtain ⟨xk, xt, xa⟩ := x
      obtain ⟨S, hS⟩ : ∃ A, dis dSe ⟨xk, xt, xa⟩ = A := ⟨_, rfl⟩
      have Cs := hide (fun wx => rs_59 xk xt xa wx S hS)
      have u0 := a3.k
      have u1 := a3.t
      have u2 := a3.a
      simp only at u0 u1 u2
      simp only [hS] at hq
      have i5 := fun wx => run_cutW_h bo (k + 1) d k (by omega) (k : Int) rfl wx
      have HC := hide (show Wds wr (cutW bo d 0) (k - 0) (d - 0) (l.take k) by
        have := hB.cut (lo := 0) (hi := k) (Nat.zero_le _) (by omega)
        rw [List.drop_zero, Nat.sub_zero, List.take_take, Nat.min_eq_left (by omega)] at this
        exact this)
      clear a3 hx hx2 hS hB
      cases S with
      | true =>
        simp only [if_true] at hq
        have HQ := hide hq
        clear hq
        go_wp2_with (go_at_call 35; (with_reducible refine (unhide Cs wr).mono ?_); rintro e w3 ⟨rfl, q3⟩)
        go_roundw
        case rel => exact ⟨k, d, cutW bo d 0, by omega, by simp, by have := (unhide HC).later q3; simpa using this, hb.trans (q3.mono hsz), unhide HQ⟩
        case measure => simp [lenOf]
      | false =>
        simp only [Bool.false_eq_true, if_false] at hq
        have HQ := hide hq
        clear hq
        go_wp2_with (go_at_call 35; (with_reducible refine (unhide Cs wr).mono ?_); rintro e w3 ⟨rfl, q3⟩)
        go_ret
        exact ⟨bo, k + 1, d, rfl, by rw [← unhide HQ]; exact (unhide HB).later q3, hb.trans (q3.mono hsz)⟩

set_option maxHeartbeats 2000000 in
set_option maxRecDepth 20000 in
theorem rwords_any (ao : Option Addr) (n c : Nat) (l : List Wd) (w : World) (hW : Wds w ao n c l) (hn : n ≤ 100000) :
    Calls Tryd.prog 10 #[.slice ao n c] w (OutV w (drg l)) := by
  have hln := hW.len
  have C0 := hide (rliterals_any ao n c l w hW hn)
  have hl0 : ((l.filter fun x => decide (x.k ≠ 9)).map dpar).length ≤ 100000 := by
    rw [List.length_map]
    exact Nat.le_trans (List.length_filter_le _ _) (by omega)
  unfold drg
  generalize (l.filter fun x => decide (x.k ≠ 9)).map dpar = L0 at *
  have hl1 : (dsg none L0).length ≤ 100000 := Nat.le_trans (dsg_len L0 none) hl0
  have C1 := hide (fun bo m d wx (h : Wds wx bo m d L0) => rsigns_any bo m d L0 wx h (by rw [← h.len]; exact hl0))
  generalize dsg none L0 = L1 at *
  have hl2 : (drs 0 L1).length ≤ 100000 := Nat.le_trans (drs_len L1.length L1 (Nat.le_refl _)) hl1
  have C2 := hide (fun bo m d wx (h : Wds wx bo m d L1) => rrows_any bo m d L1 wx h (by rw [← h.len]; exact hl1))
  have hnl : NoLong (drs 0 L1) := drw_short L1.length L1 (Nat.le_refl _)
  generalize drs 0 L1 = L2 at *
  have C3 := hide (fun bo m d wx (h : Wds wx bo m d L2) => rlists_any bo m d L2 wx h (by rw [← h.len]; exact hl2) hnl)
  generalize dls 0 L2 = L3 at *
  have C4 := hide (fun bo m d wx (h : Wds wx bo m d L3) => rrest_any bo m d L3 wx h)
  generalize dre L3 = L4 at *
  clear hW hln hl0 hl1 hl2 hnl
  go_enter Tryd.func10, Tryd.ntmps10
  go_wp2_with (first | (go_at_call 25; refine (unhide C0).mono ?_; rintro e w1 ⟨bo1, m1, d1, rfl, h1, q1⟩) | (go_at_call 24; refine (unhide C1 bo1 m1 d1 w1 h1.ss).mono ?_; rintro e w2 ⟨bo2, m2, d2, rfl, h2, q2⟩; have b2 := belT q1 q2) | (go_at_call 23; refine (unhide C2 bo2 m2 d2 w2 h2.ss).mono ?_; rintro e w3 ⟨bo3, m3, d3, rfl, h3, q3⟩; have b3 := belT b2 q3) | (go_at_call 22; refine (unhide C3 bo3 m3 d3 w3 h3.ss).mono ?_; rintro e w4 ⟨bo4, m4, d4, rfl, h4, q4⟩; have b4 := belT b3 q4) | (go_at_call 21; refine (unhide C4 bo4 m4 d4 w4 h4.ss).mono ?_; rintro e w5 ⟨bo5, m5, d5, rfl, h5, q5⟩; have b5 := belT b4 q5))
  go_ret
  exact ⟨bo5, m5, d5, rfl, h5, b5⟩

end Go.Proofs.YtgbahfadjdincaaDoor
