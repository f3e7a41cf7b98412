/-
  What begins, ends, isFile and isInto of package classify return. Conditions: none but that the slices can be read.
-/
import Derived.Test.YtddfbaaghjcbnaaGreatDoorKlMap
import Derived.Test.YtddfbaaghjcbnaaGreatDoorMSu
namespace Go.Proofs.YtddfbaaghjcbnaaGreatDoor
open Go.RowKit
set_option linter.unusedVariables false
set_option linter.unusedSimpArgs false

/-- What a function that answers a bool, and leaves what was there, does. -/
def OutB (w : World) (b : Bool) (e : Ending) (w' : World) : Prop := e = .returned (.bool b) ∧ Below w.heap.size w w'
theorem OutB.low {w w1 w2 : World} {b : Bool} {e : Ending} (h : OutB w1 b e w2) (hb : Below w.heap.size w w1) : OutB w b e w2 := ⟨h.1, belT hb h.2⟩
theorem begins_st (ao : Option Addr) (n c : Nat) (l : List Wd) (ss : List ByteArray) (w : World) (R : Bool) (hl : lits ss = true) (hW : Wds w ao n c l) (h : begL l ss = R) :
    Calls Tryz.prog 93 #[.slice ao n c, .slice (some ⟨w.heap.size, 0, none⟩) ss.length ss.length] (w.alloc (.cells (ss.map Value.string).toArray 9)) (OutB w R) := by
  have b := below_alloc w (.cells (ss.map Value.string).toArray 9)
  have c := begins_any ao n c l _ _ _ ss _ (hW.later b) (lits_ss hl w)
  rw [h] at c
  exact c.mono fun e w2 k => OutB.low k b

set_option maxHeartbeats 1000000 in
theorem ends_any (ao : Option Addr) (n c : Nat) (l : List Wd) (so : Option Addr) (m d : Nat) (ss : List ByteArray) (w : World) (hW : Wds w ao n c l) (hS : Ss w so m d ss) :
    Calls Tryz.prog 94 #[.slice ao n c, .slice so m d] w (OutB w (endL l ss)) := by
  have hle := hW.le
  have hmx := hW.max
  have hln := hW.len
  have kle := hS.le
  have kmx := hS.max
  have kln := hS.len
  unfold endL
  rw [hln, kln]
  by_cases hmn : m ≤ n
  · have g0 : (n : Int) ≥ (m : Int) := by omega
    have g1 : (n : Int) - (m : Int) = ((n - m : Nat) : Int) := by omega
    have hcut := fun wx => run_cutW_l ao n c (n - m) (by omega) ((n - m : Nat) : Int) rfl wx
    have C := begins_any _ _ _ _ so m d ss w (hW.cut_l (lo := n - m) (by omega)) hS
    rw [decide_eq_true hmn, Bool.true_and]
    generalize begL (l.drop (n - m)) ss = R at *
    have HC := hide C
    clear C hW hS hln kln
    go_enter Tryz.func94, Tryz.ntmps94
    go_wp2_with (go_at_call 93; refine (unhide HC).mono ?_; rintro e w1 ⟨rfl, b1⟩)
    go_ret
    exact ⟨rfl, b1⟩
  · have g0 : ¬ (n : Int) ≥ (m : Int) := by omega
    rw [decide_eq_false hmn, Bool.false_and]
    clear hW hS hln kln
    go_enter Tryz.func94, Tryz.ntmps94
    go_wp2_with fail
    go_ret
    exact ⟨rfl, Below.refl _ _⟩
theorem ends_st (ao : Option Addr) (n c : Nat) (l : List Wd) (ss : List ByteArray) (w : World) (R : Bool) (hl : lits ss = true) (hW : Wds w ao n c l) (h : endL l ss = R) :
    Calls Tryz.prog 94 #[.slice ao n c, .slice (some ⟨w.heap.size, 0, none⟩) ss.length ss.length] (w.alloc (.cells (ss.map Value.string).toArray 9)) (OutB w R) := by
  have b := below_alloc w (.cells (ss.map Value.string).toArray 9)
  have c := ends_any ao n c l _ _ _ ss _ (hW.later b) (lits_ss hl w)
  rw [h] at c
  exact c.mono fun e w2 k => OutB.low k b
theorem bg_insert (ao : Option Addr) (n c : Nat) (l : List Wd) (w : World) (R : Bool) (hW : Wds w ao n c l) (h : begL l [(⟨#[105, 110, 115, 101, 114, 116]⟩ : ByteArray)] = R) : Calls Tryz.prog 93 #[.slice ao n c, .slice (some ⟨w.heap.size, 0, none⟩) 1 1] (w.alloc (.cells #[.string (⟨#[105, 110, 115, 101, 114, 116]⟩ : ByteArray)] 9)) (OutB w R) := by
  have c := begins_st ao n c l [(⟨#[105, 110, 115, 101, 114, 116]⟩ : ByteArray)] w R (by decide +kernel) hW h
  simp only [List.map_cons, List.map_nil, List.length_cons, List.length_nil, Nat.zero_add, Nat.reduceAdd] at c
  exact c
theorem bg_replace (ao : Option Addr) (n c : Nat) (l : List Wd) (w : World) (R : Bool) (hW : Wds w ao n c l) (h : begL l [(⟨#[114, 101, 112, 108, 97, 99, 101]⟩ : ByteArray)] = R) : Calls Tryz.prog 93 #[.slice ao n c, .slice (some ⟨w.heap.size, 0, none⟩) 1 1] (w.alloc (.cells #[.string (⟨#[114, 101, 112, 108, 97, 99, 101]⟩ : ByteArray)] 9)) (OutB w R) := by
  have c := begins_st ao n c l [(⟨#[114, 101, 112, 108, 97, 99, 101]⟩ : ByteArray)] w R (by decide +kernel) hW h
  simp only [List.map_cons, List.map_nil, List.length_cons, List.length_nil, Nat.zero_add, Nat.reduceAdd] at c
  exact c
theorem bg_load_data_local_infile (ao : Option Addr) (n c : Nat) (l : List Wd) (w : World) (R : Bool) (hW : Wds w ao n c l) (h : begL l [(⟨#[108, 111, 97, 100]⟩ : ByteArray), (⟨#[100, 97, 116, 97]⟩ : ByteArray), (⟨#[108, 111, 99, 97, 108]⟩ : ByteArray), (⟨#[105, 110, 102, 105, 108, 101]⟩ : ByteArray)] = R) : Calls Tryz.prog 93 #[.slice ao n c, .slice (some ⟨w.heap.size, 0, none⟩) 4 4] (w.alloc (.cells #[.string (⟨#[108, 111, 97, 100]⟩ : ByteArray), .string (⟨#[100, 97, 116, 97]⟩ : ByteArray), .string (⟨#[108, 111, 99, 97, 108]⟩ : ByteArray), .string (⟨#[105, 110, 102, 105, 108, 101]⟩ : ByteArray)] 9)) (OutB w R) := by
  have c := begins_st ao n c l [(⟨#[108, 111, 97, 100]⟩ : ByteArray), (⟨#[100, 97, 116, 97]⟩ : ByteArray), (⟨#[108, 111, 99, 97, 108]⟩ : ByteArray), (⟨#[105, 110, 102, 105, 108, 101]⟩ : ByteArray)] w R (by decide +kernel) hW h
  simp only [List.map_cons, List.map_nil, List.length_cons, List.length_nil, Nat.zero_add, Nat.reduceAdd] at c
  exact c
theorem bg_select (ao : Option Addr) (n c : Nat) (l : List Wd) (w : World) (R : Bool) (hW : Wds w ao n c l) (h : begL l [(⟨#[115, 101, 108, 101, 99, 116]⟩ : ByteArray)] = R) : Calls Tryz.prog 93 #[.slice ao n c, .slice (some ⟨w.heap.size, 0, none⟩) 1 1] (w.alloc (.cells #[.string (⟨#[115, 101, 108, 101, 99, 116]⟩ : ByteArray)] 9)) (OutB w R) := by
  have c := begins_st ao n c l [(⟨#[115, 101, 108, 101, 99, 116]⟩ : ByteArray)] w R (by decide +kernel) hW h
  simp only [List.map_cons, List.map_nil, List.length_cons, List.length_nil, Nat.zero_add, Nat.reduceAdd] at c
  exact c
theorem bg_set_global (ao : Option Addr) (n c : Nat) (l : List Wd) (w : World) (R : Bool) (hW : Wds w ao n c l) (h : begL l [(⟨#[115, 101, 116]⟩ : ByteArray), (⟨#[103, 108, 111, 98, 97, 108]⟩ : ByteArray)] = R) : Calls Tryz.prog 93 #[.slice ao n c, .slice (some ⟨w.heap.size, 0, none⟩) 2 2] (w.alloc (.cells #[.string (⟨#[115, 101, 116]⟩ : ByteArray), .string (⟨#[103, 108, 111, 98, 97, 108]⟩ : ByteArray)] 9)) (OutB w R) := by
  have c := begins_st ao n c l [(⟨#[115, 101, 116]⟩ : ByteArray), (⟨#[103, 108, 111, 98, 97, 108]⟩ : ByteArray)] w R (by decide +kernel) hW h
  simp only [List.map_cons, List.map_nil, List.length_cons, List.length_nil, Nat.zero_add, Nat.reduceAdd] at c
  exact c
theorem en_for_update (ao : Option Addr) (n c : Nat) (l : List Wd) (w : World) (R : Bool) (hW : Wds w ao n c l) (h : endL l [(⟨#[102, 111, 114]⟩ : ByteArray), (⟨#[117, 112, 100, 97, 116, 101]⟩ : ByteArray)] = R) : Calls Tryz.prog 94 #[.slice ao n c, .slice (some ⟨w.heap.size, 0, none⟩) 2 2] (w.alloc (.cells #[.string (⟨#[102, 111, 114]⟩ : ByteArray), .string (⟨#[117, 112, 100, 97, 116, 101]⟩ : ByteArray)] 9)) (OutB w R) := by
  have c := ends_st ao n c l [(⟨#[102, 111, 114]⟩ : ByteArray), (⟨#[117, 112, 100, 97, 116, 101]⟩ : ByteArray)] w R (by decide +kernel) hW h
  simp only [List.map_cons, List.map_nil, List.length_cons, List.length_nil, Nat.zero_add, Nat.reduceAdd] at c
  exact c
theorem en_for_share (ao : Option Addr) (n c : Nat) (l : List Wd) (w : World) (R : Bool) (hW : Wds w ao n c l) (h : endL l [(⟨#[102, 111, 114]⟩ : ByteArray), (⟨#[115, 104, 97, 114, 101]⟩ : ByteArray)] = R) : Calls Tryz.prog 94 #[.slice ao n c, .slice (some ⟨w.heap.size, 0, none⟩) 2 2] (w.alloc (.cells #[.string (⟨#[102, 111, 114]⟩ : ByteArray), .string (⟨#[115, 104, 97, 114, 101]⟩ : ByteArray)] 9)) (OutB w R) := by
  have c := ends_st ao n c l [(⟨#[102, 111, 114]⟩ : ByteArray), (⟨#[115, 104, 97, 114, 101]⟩ : ByteArray)] w R (by decide +kernel) hW h
  simp only [List.map_cons, List.map_nil, List.length_cons, List.length_nil, Nat.zero_add, Nat.reduceAdd] at c
  exact c
theorem en_lock_in_share_mode (ao : Option Addr) (n c : Nat) (l : List Wd) (w : World) (R : Bool) (hW : Wds w ao n c l) (h : endL l [(⟨#[108, 111, 99, 107]⟩ : ByteArray), (⟨#[105, 110]⟩ : ByteArray), (⟨#[115, 104, 97, 114, 101]⟩ : ByteArray), (⟨#[109, 111, 100, 101]⟩ : ByteArray)] = R) : Calls Tryz.prog 94 #[.slice ao n c, .slice (some ⟨w.heap.size, 0, none⟩) 4 4] (w.alloc (.cells #[.string (⟨#[108, 111, 99, 107]⟩ : ByteArray), .string (⟨#[105, 110]⟩ : ByteArray), .string (⟨#[115, 104, 97, 114, 101]⟩ : ByteArray), .string (⟨#[109, 111, 100, 101]⟩ : ByteArray)] 9)) (OutB w R) := by
  have c := ends_st ao n c l [(⟨#[108, 111, 99, 107]⟩ : ByteArray), (⟨#[105, 110]⟩ : ByteArray), (⟨#[115, 104, 97, 114, 101]⟩ : ByteArray), (⟨#[109, 111, 100, 101]⟩ : ByteArray)] w R (by decide +kernel) hW h
  simp only [List.map_cons, List.map_nil, List.length_cons, List.length_nil, Nat.zero_add, Nat.reduceAdd] at c
  exact c

set_option maxHeartbeats 1000000 in
theorem isFile_any (ao : Option Addr) (n c : Nat) (l : List Wd) (w : World) (hW : Wds w ao n c l) : Calls Tryz.prog 92 #[.slice ao n c] w (OutB w (filL l)) := by
  have C := hide (bg_load_data_local_infile ao n c l w _ hW rfl)
  show Calls Tryz.prog 92 #[.slice ao n c] w (OutB w (begL l [(⟨#[108, 111, 97, 100]⟩ : ByteArray), (⟨#[100, 97, 116, 97]⟩ : ByteArray), (⟨#[108, 111, 99, 97, 108]⟩ : ByteArray), (⟨#[105, 110, 102, 105, 108, 101]⟩ : ByteArray)]))
  generalize begL l [(⟨#[108, 111, 97, 100]⟩ : ByteArray), (⟨#[100, 97, 116, 97]⟩ : ByteArray), (⟨#[108, 111, 99, 97, 108]⟩ : ByteArray), (⟨#[105, 110, 102, 105, 108, 101]⟩ : ByteArray)] = R at *
  clear hW
  go_enter Tryz.func92, Tryz.ntmps92
  go_wp2_with (go_at_call 93; refine (unhide C).mono ?_; rintro e w1 ⟨rfl, b1⟩)
  go_ret
  exact ⟨rfl, b1⟩

set_option maxHeartbeats 2000000 in
theorem isInto_any (ao : Option Addr) (n c : Nat) (l : List Wd) (i : Nat) (p : Wd) (w : World) (hW : Wds w ao n c l) (hp : l[i]? = some p) : Calls Tryz.prog 76 #[.slice ao n c, .int .i64 (i : Int)] w (OutB w (intL l i p.tx)) := by
  have hmx := hW.max
  have hle := hW.le
  have hin : i < n := by rw [← hW.len]; exact (List.getElem?_eq_some_iff.1 hp).1
  obtain ⟨b1, o1, i1, a1⟩ := hW.idx hp (i : Int) rfl
  obtain ⟨pk, ptx, pa⟩ := p
  have q1 := a1.t
  simp only at q1
  unfold intL
  simp only
  have HW := hide hW
  clear a1 hp hW
  by_cases e1 : ptx = (⟨#[105, 110, 116, 111]⟩ : ByteArray)
  · rw [decide_eq_true e1, Bool.true_and]
    subst e1
    rcases hF : filL l with _ | _
    · have CF := hide (fun wx (h : Wds wx ao n c l) => isFile_any ao n c l wx h)
      simp only [hF] at CF
      clear hF
      by_cases e2 : i = 1
      · have e3 : ((i : Int) == 1) = true := by rw [beq_iff_eq]; omega
        rw [decide_eq_true e2, Bool.true_and]
        clear e2
        rcases h1 : begL l [(⟨#[105, 110, 115, 101, 114, 116]⟩ : ByteArray)] with _ | _
        · rcases h2 : begL l [(⟨#[114, 101, 112, 108, 97, 99, 101]⟩ : ByteArray)] with _ | _
          · have H1 := hide h1
            have H2 := hide h2
            clear h1 h2
            go_enter Tryz.func76, Tryz.ntmps76
            go_wp2_with (first | (go_at_call 92; refine (unhide CF w2 ((unhide HW).later b2)).mono ?_; rintro e wf ⟨rfl, bf⟩) | (go_at_call 93; refine (bg_replace ao n c l w1 false ((unhide HW).later b1) (unhide H2)).mono ?_; rintro e w2 ⟨rfl, b2'⟩; have b2 := belT b1 b2') | (go_at_call 93; refine (bg_insert ao n c l w false (unhide HW) (unhide H1)).mono ?_; rintro e w1 ⟨rfl, b1⟩))
            go_ret
            exact ⟨rfl, belT b2 bf⟩
          · have H1 := hide h1
            have H2 := hide h2
            clear h1 h2
            go_enter Tryz.func76, Tryz.ntmps76
            go_wp2_with (first | (go_at_call 93; refine (bg_replace ao n c l w1 true ((unhide HW).later b1) (unhide H2)).mono ?_; rintro e w2 ⟨rfl, b2'⟩; have b2 := belT b1 b2') | (go_at_call 93; refine (bg_insert ao n c l w false (unhide HW) (unhide H1)).mono ?_; rintro e w1 ⟨rfl, b1⟩))
            go_ret
            exact ⟨rfl, b2⟩
        · have H1 := hide h1
          clear h1
          go_enter Tryz.func76, Tryz.ntmps76
          go_wp2_with (first | (go_at_call 93; refine (bg_insert ao n c l w true (unhide HW) (unhide H1)).mono ?_; rintro e w1 ⟨rfl, b1⟩))
          go_ret
          exact ⟨rfl, b1⟩
      · have e3 : ((i : Int) == 1) = false := by rw [beq_eq_false_iff_ne]; omega
        rw [decide_eq_false e2, Bool.false_and]
        clear e2
        go_enter Tryz.func76, Tryz.ntmps76
        go_wp2_with (first | (go_at_call 92; refine (unhide CF w (unhide HW)).mono ?_; rintro e wf ⟨rfl, bf⟩))
        go_ret
        exact ⟨rfl, bf⟩
    · have CF := hide (fun wx (h : Wds wx ao n c l) => isFile_any ao n c l wx h)
      simp only [hF] at CF
      clear hF
      by_cases e2 : i = 1
      · have e3 : ((i : Int) == 1) = true := by rw [beq_iff_eq]; omega
        rw [decide_eq_true e2, Bool.true_and]
        clear e2
        rcases h1 : begL l [(⟨#[105, 110, 115, 101, 114, 116]⟩ : ByteArray)] with _ | _
        · rcases h2 : begL l [(⟨#[114, 101, 112, 108, 97, 99, 101]⟩ : ByteArray)] with _ | _
          · have H1 := hide h1
            have H2 := hide h2
            clear h1 h2
            go_enter Tryz.func76, Tryz.ntmps76
            go_wp2_with (first | (go_at_call 92; refine (unhide CF w2 ((unhide HW).later b2)).mono ?_; rintro e wf ⟨rfl, bf⟩) | (go_at_call 93; refine (bg_replace ao n c l w1 false ((unhide HW).later b1) (unhide H2)).mono ?_; rintro e w2 ⟨rfl, b2'⟩; have b2 := belT b1 b2') | (go_at_call 93; refine (bg_insert ao n c l w false (unhide HW) (unhide H1)).mono ?_; rintro e w1 ⟨rfl, b1⟩))
            go_ret
            exact ⟨rfl, belT b2 bf⟩
          · have H1 := hide h1
            have H2 := hide h2
            clear h1 h2
            go_enter Tryz.func76, Tryz.ntmps76
            go_wp2_with (first | (go_at_call 93; refine (bg_replace ao n c l w1 true ((unhide HW).later b1) (unhide H2)).mono ?_; rintro e w2 ⟨rfl, b2'⟩; have b2 := belT b1 b2') | (go_at_call 93; refine (bg_insert ao n c l w false (unhide HW) (unhide H1)).mono ?_; rintro e w1 ⟨rfl, b1⟩))
            go_ret
            exact ⟨rfl, b2⟩
        · have H1 := hide h1
          clear h1
          go_enter Tryz.func76, Tryz.ntmps76
          go_wp2_with (first | (go_at_call 93; refine (bg_insert ao n c l w true (unhide HW) (unhide H1)).mono ?_; rintro e w1 ⟨rfl, b1⟩))
          go_ret
          exact ⟨rfl, b1⟩
      · have e3 : ((i : Int) == 1) = false := by rw [beq_eq_false_iff_ne]; omega
        rw [decide_eq_false e2, Bool.false_and]
        clear e2
        go_enter Tryz.func76, Tryz.ntmps76
        go_wp2_with (first | (go_at_call 92; refine (unhide CF w (unhide HW)).mono ?_; rintro e wf ⟨rfl, bf⟩))
        go_ret
        exact ⟨rfl, bf⟩
  · rw [decide_eq_false e1, Bool.false_and]
    have e3 : ¬ ptx.toList = [105, 110, 116, 111] := by
      intro e
      apply e1
      apply ByteArray.ext
      apply Array.ext'
      rw [ByteArray.toList_eq] at e
      exact e
    have e4 : (ptx.toList == [105, 110, 116, 111]) = false := by simpa using e3
    clear e1
    go_enter Tryz.func76, Tryz.ntmps76
    go_wp2_with fail
    go_ret
    exact ⟨rfl, Below.refl _ _⟩

end Go.Proofs.YtddfbaaghjcbnaaGreatDoor
