/-
  What the steps of package classify's walk do, at the literals that the program has. Conditions: as the steps'.
-/
import Derived.Test.YtffbmfjmdcjcmaaGreatDoorKlSu
namespace Go.Proofs.YtffbmfjmdcjcmaaGreatDoor
open Go.RowKit
set_option linter.unusedVariables false
set_option linter.unusedSimpArgs false

/-- Literals are small. -/
def lits (ss : List ByteArray) : Bool := ss.all (fun s => decide (s.size ≤ 100)) && decide (ss.length ≤ 10)
theorem lits_ss {ss : List ByteArray} (h : lits ss = true) (w : World) : Ss (w.alloc (.cells (ss.map Value.string).toArray 9)) (some ⟨w.heap.size, 0, none⟩) ss.length ss.length ss := by
  simp only [lits, Bool.and_eq_true, List.all_eq_true, decide_eq_true_eq] at h
  exact Ss.lit w ss (fun s hs => by have := h.1 s hs; omega) (by omega)
theorem OutS.low {B g : Nat} {w w1 w2 : World} {b : Bool} {S : WS} {e : Ending} (h : OutS B g w1 b S e w2) (hb : Below g w w1) : OutS B g w b S e w2 := ⟨h.1, h.2.1, hb.trans h.2.2⟩
theorem names_st (B g : Nat) (S : WS) (R : Bool) (S1 : WS) (ss : List ByteArray) (w : World) (hl : lits ss = true) (hK : Wk B g S w) (h : naS ss S = (R, S1)) :
    Calls Tryz.prog 110 #[.pointer (some ⟨g, 0, none⟩), .slice (some ⟨w.heap.size, 0, none⟩) ss.length ss.length] (w.alloc (.cells (ss.map Value.string).toArray 9)) (OutS B g w R S1) := by
  have b := below_alloc w (.cells (ss.map Value.string).toArray 9)
  have c := names_any B g S _ _ _ ss _ (hK.later b) (lits_ss hl w)
  rw [h] at c
  exact c.mono fun e w2 k => k.low (b.mono (Nat.le_of_lt hK.lt))
theorem perhaps_st (B g : Nat) (S : WS) (R : Bool) (S1 : WS) (ss : List ByteArray) (w : World) (hl : lits ss = true) (hK : Wk B g S w) (h : peS ss S = (R, S1)) :
    Calls Tryz.prog 117 #[.pointer (some ⟨g, 0, none⟩), .slice (some ⟨w.heap.size, 0, none⟩) ss.length ss.length] (w.alloc (.cells (ss.map Value.string).toArray 9)) (OutS B g w R S1) := by
  have b := below_alloc w (.cells (ss.map Value.string).toArray 9)
  have c := perhaps_any B g S _ _ _ ss _ (hK.later b) (lits_ss hl w)
  rw [h] at c
  exact c.mono fun e w2 k => k.low (b.mono (Nat.le_of_lt hK.lt))
theorem nl_session (B g : Nat) (S : WS) (R : Bool) (S1 : WS) (w : World) (hK : Wk B g S w) (h : naS [(⟨#[115, 101, 115, 115, 105, 111, 110]⟩ : ByteArray)] S = (R, S1)) : Calls Tryz.prog 110 #[.pointer (some ⟨g, 0, none⟩), .slice (some ⟨w.heap.size, 0, none⟩) 1 1] (w.alloc (.cells #[.string (⟨#[115, 101, 115, 115, 105, 111, 110]⟩ : ByteArray)] 9)) (OutS B g w R S1) := by
  have c := names_st B g S R S1 [(⟨#[115, 101, 115, 115, 105, 111, 110]⟩ : ByteArray)] w (by decide +kernel) hK h
  simp only [List.map_cons, List.map_nil, List.length_cons, List.length_nil, Nat.zero_add, Nat.reduceAdd] at c
  exact c
theorem pl_local (B g : Nat) (S : WS) (R : Bool) (S1 : WS) (w : World) (hK : Wk B g S w) (h : peS [(⟨#[108, 111, 99, 97, 108]⟩ : ByteArray)] S = (R, S1)) : Calls Tryz.prog 117 #[.pointer (some ⟨g, 0, none⟩), .slice (some ⟨w.heap.size, 0, none⟩) 1 1] (w.alloc (.cells #[.string (⟨#[108, 111, 99, 97, 108]⟩ : ByteArray)] 9)) (OutS B g w R S1) := by
  have c := perhaps_st B g S R S1 [(⟨#[108, 111, 99, 97, 108]⟩ : ByteArray)] w (by decide +kernel) hK h
  simp only [List.map_cons, List.map_nil, List.length_cons, List.length_nil, Nat.zero_add, Nat.reduceAdd] at c
  exact c
theorem nl_select_get_lock (B g : Nat) (S : WS) (R : Bool) (S1 : WS) (w : World) (hK : Wk B g S w) (h : naS [(⟨#[115, 101, 108, 101, 99, 116]⟩ : ByteArray), (⟨#[103, 101, 116, 95, 108, 111, 99, 107]⟩ : ByteArray)] S = (R, S1)) : Calls Tryz.prog 110 #[.pointer (some ⟨g, 0, none⟩), .slice (some ⟨w.heap.size, 0, none⟩) 2 2] (w.alloc (.cells #[.string (⟨#[115, 101, 108, 101, 99, 116]⟩ : ByteArray), .string (⟨#[103, 101, 116, 95, 108, 111, 99, 107]⟩ : ByteArray)] 9)) (OutS B g w R S1) := by
  have c := names_st B g S R S1 [(⟨#[115, 101, 108, 101, 99, 116]⟩ : ByteArray), (⟨#[103, 101, 116, 95, 108, 111, 99, 107]⟩ : ByteArray)] w (by decide +kernel) hK h
  simp only [List.map_cons, List.map_nil, List.length_cons, List.length_nil, Nat.zero_add, Nat.reduceAdd] at c
  exact c
theorem nl_lock_table (B g : Nat) (S : WS) (R : Bool) (S1 : WS) (w : World) (hK : Wk B g S w) (h : naS [(⟨#[108, 111, 99, 107]⟩ : ByteArray), (⟨#[116, 97, 98, 108, 101]⟩ : ByteArray)] S = (R, S1)) : Calls Tryz.prog 110 #[.pointer (some ⟨g, 0, none⟩), .slice (some ⟨w.heap.size, 0, none⟩) 2 2] (w.alloc (.cells #[.string (⟨#[108, 111, 99, 107]⟩ : ByteArray), .string (⟨#[116, 97, 98, 108, 101]⟩ : ByteArray)] 9)) (OutS B g w R S1) := by
  have c := names_st B g S R S1 [(⟨#[108, 111, 99, 107]⟩ : ByteArray), (⟨#[116, 97, 98, 108, 101]⟩ : ByteArray)] w (by decide +kernel) hK h
  simp only [List.map_cons, List.map_nil, List.length_cons, List.length_nil, Nat.zero_add, Nat.reduceAdd] at c
  exact c
theorem nl_lock_tables (B g : Nat) (S : WS) (R : Bool) (S1 : WS) (w : World) (hK : Wk B g S w) (h : naS [(⟨#[108, 111, 99, 107]⟩ : ByteArray), (⟨#[116, 97, 98, 108, 101, 115]⟩ : ByteArray)] S = (R, S1)) : Calls Tryz.prog 110 #[.pointer (some ⟨g, 0, none⟩), .slice (some ⟨w.heap.size, 0, none⟩) 2 2] (w.alloc (.cells #[.string (⟨#[108, 111, 99, 107]⟩ : ByteArray), .string (⟨#[116, 97, 98, 108, 101, 115]⟩ : ByteArray)] 9)) (OutS B g w R S1) := by
  have c := names_st B g S R S1 [(⟨#[108, 111, 99, 107]⟩ : ByteArray), (⟨#[116, 97, 98, 108, 101, 115]⟩ : ByteArray)] w (by decide +kernel) hK h
  simp only [List.map_cons, List.map_nil, List.length_cons, List.length_nil, Nat.zero_add, Nat.reduceAdd] at c
  exact c
theorem nl_unlock_table (B g : Nat) (S : WS) (R : Bool) (S1 : WS) (w : World) (hK : Wk B g S w) (h : naS [(⟨#[117, 110, 108, 111, 99, 107]⟩ : ByteArray), (⟨#[116, 97, 98, 108, 101]⟩ : ByteArray)] S = (R, S1)) : Calls Tryz.prog 110 #[.pointer (some ⟨g, 0, none⟩), .slice (some ⟨w.heap.size, 0, none⟩) 2 2] (w.alloc (.cells #[.string (⟨#[117, 110, 108, 111, 99, 107]⟩ : ByteArray), .string (⟨#[116, 97, 98, 108, 101]⟩ : ByteArray)] 9)) (OutS B g w R S1) := by
  have c := names_st B g S R S1 [(⟨#[117, 110, 108, 111, 99, 107]⟩ : ByteArray), (⟨#[116, 97, 98, 108, 101]⟩ : ByteArray)] w (by decide +kernel) hK h
  simp only [List.map_cons, List.map_nil, List.length_cons, List.length_nil, Nat.zero_add, Nat.reduceAdd] at c
  exact c
theorem nl_unlock_tables (B g : Nat) (S : WS) (R : Bool) (S1 : WS) (w : World) (hK : Wk B g S w) (h : naS [(⟨#[117, 110, 108, 111, 99, 107]⟩ : ByteArray), (⟨#[116, 97, 98, 108, 101, 115]⟩ : ByteArray)] S = (R, S1)) : Calls Tryz.prog 110 #[.pointer (some ⟨g, 0, none⟩), .slice (some ⟨w.heap.size, 0, none⟩) 2 2] (w.alloc (.cells #[.string (⟨#[117, 110, 108, 111, 99, 107]⟩ : ByteArray), .string (⟨#[116, 97, 98, 108, 101, 115]⟩ : ByteArray)] 9)) (OutS B g w R S1) := by
  have c := names_st B g S R S1 [(⟨#[117, 110, 108, 111, 99, 107]⟩ : ByteArray), (⟨#[116, 97, 98, 108, 101, 115]⟩ : ByteArray)] w (by decide +kernel) hK h
  simp only [List.map_cons, List.map_nil, List.length_cons, List.length_nil, Nat.zero_add, Nat.reduceAdd] at c
  exact c
theorem nl_select_release_all_locks (B g : Nat) (S : WS) (R : Bool) (S1 : WS) (w : World) (hK : Wk B g S w) (h : naS [(⟨#[115, 101, 108, 101, 99, 116]⟩ : ByteArray), (⟨#[114, 101, 108, 101, 97, 115, 101, 95, 97, 108, 108, 95, 108, 111, 99, 107, 115]⟩ : ByteArray)] S = (R, S1)) : Calls Tryz.prog 110 #[.pointer (some ⟨g, 0, none⟩), .slice (some ⟨w.heap.size, 0, none⟩) 2 2] (w.alloc (.cells #[.string (⟨#[115, 101, 108, 101, 99, 116]⟩ : ByteArray), .string (⟨#[114, 101, 108, 101, 97, 115, 101, 95, 97, 108, 108, 95, 108, 111, 99, 107, 115]⟩ : ByteArray)] 9)) (OutS B g w R S1) := by
  have c := names_st B g S R S1 [(⟨#[115, 101, 108, 101, 99, 116]⟩ : ByteArray), (⟨#[114, 101, 108, 101, 97, 115, 101, 95, 97, 108, 108, 95, 108, 111, 99, 107, 115]⟩ : ByteArray)] w (by decide +kernel) hK h
  simp only [List.map_cons, List.map_nil, List.length_cons, List.length_nil, Nat.zero_add, Nat.reduceAdd] at c
  exact c
theorem nl_start_transaction (B g : Nat) (S : WS) (R : Bool) (S1 : WS) (w : World) (hK : Wk B g S w) (h : naS [(⟨#[115, 116, 97, 114, 116]⟩ : ByteArray), (⟨#[116, 114, 97, 110, 115, 97, 99, 116, 105, 111, 110]⟩ : ByteArray)] S = (R, S1)) : Calls Tryz.prog 110 #[.pointer (some ⟨g, 0, none⟩), .slice (some ⟨w.heap.size, 0, none⟩) 2 2] (w.alloc (.cells #[.string (⟨#[115, 116, 97, 114, 116]⟩ : ByteArray), .string (⟨#[116, 114, 97, 110, 115, 97, 99, 116, 105, 111, 110]⟩ : ByteArray)] 9)) (OutS B g w R S1) := by
  have c := names_st B g S R S1 [(⟨#[115, 116, 97, 114, 116]⟩ : ByteArray), (⟨#[116, 114, 97, 110, 115, 97, 99, 116, 105, 111, 110]⟩ : ByteArray)] w (by decide +kernel) hK h
  simp only [List.map_cons, List.map_nil, List.length_cons, List.length_nil, Nat.zero_add, Nat.reduceAdd] at c
  exact c
theorem nl_begin (B g : Nat) (S : WS) (R : Bool) (S1 : WS) (w : World) (hK : Wk B g S w) (h : naS [(⟨#[98, 101, 103, 105, 110]⟩ : ByteArray)] S = (R, S1)) : Calls Tryz.prog 110 #[.pointer (some ⟨g, 0, none⟩), .slice (some ⟨w.heap.size, 0, none⟩) 1 1] (w.alloc (.cells #[.string (⟨#[98, 101, 103, 105, 110]⟩ : ByteArray)] 9)) (OutS B g w R S1) := by
  have c := names_st B g S R S1 [(⟨#[98, 101, 103, 105, 110]⟩ : ByteArray)] w (by decide +kernel) hK h
  simp only [List.map_cons, List.map_nil, List.length_cons, List.length_nil, Nat.zero_add, Nat.reduceAdd] at c
  exact c
theorem pl_work (B g : Nat) (S : WS) (R : Bool) (S1 : WS) (w : World) (hK : Wk B g S w) (h : peS [(⟨#[119, 111, 114, 107]⟩ : ByteArray)] S = (R, S1)) : Calls Tryz.prog 117 #[.pointer (some ⟨g, 0, none⟩), .slice (some ⟨w.heap.size, 0, none⟩) 1 1] (w.alloc (.cells #[.string (⟨#[119, 111, 114, 107]⟩ : ByteArray)] 9)) (OutS B g w R S1) := by
  have c := perhaps_st B g S R S1 [(⟨#[119, 111, 114, 107]⟩ : ByteArray)] w (by decide +kernel) hK h
  simp only [List.map_cons, List.map_nil, List.length_cons, List.length_nil, Nat.zero_add, Nat.reduceAdd] at c
  exact c
theorem nl_commit (B g : Nat) (S : WS) (R : Bool) (S1 : WS) (w : World) (hK : Wk B g S w) (h : naS [(⟨#[99, 111, 109, 109, 105, 116]⟩ : ByteArray)] S = (R, S1)) : Calls Tryz.prog 110 #[.pointer (some ⟨g, 0, none⟩), .slice (some ⟨w.heap.size, 0, none⟩) 1 1] (w.alloc (.cells #[.string (⟨#[99, 111, 109, 109, 105, 116]⟩ : ByteArray)] 9)) (OutS B g w R S1) := by
  have c := names_st B g S R S1 [(⟨#[99, 111, 109, 109, 105, 116]⟩ : ByteArray)] w (by decide +kernel) hK h
  simp only [List.map_cons, List.map_nil, List.length_cons, List.length_nil, Nat.zero_add, Nat.reduceAdd] at c
  exact c
theorem nl_rollback (B g : Nat) (S : WS) (R : Bool) (S1 : WS) (w : World) (hK : Wk B g S w) (h : naS [(⟨#[114, 111, 108, 108, 98, 97, 99, 107]⟩ : ByteArray)] S = (R, S1)) : Calls Tryz.prog 110 #[.pointer (some ⟨g, 0, none⟩), .slice (some ⟨w.heap.size, 0, none⟩) 1 1] (w.alloc (.cells #[.string (⟨#[114, 111, 108, 108, 98, 97, 99, 107]⟩ : ByteArray)] 9)) (OutS B g w R S1) := by
  have c := names_st B g S R S1 [(⟨#[114, 111, 108, 108, 98, 97, 99, 107]⟩ : ByteArray)] w (by decide +kernel) hK h
  simp only [List.map_cons, List.map_nil, List.length_cons, List.length_nil, Nat.zero_add, Nat.reduceAdd] at c
  exact c
theorem nl_set (B g : Nat) (S : WS) (R : Bool) (S1 : WS) (w : World) (hK : Wk B g S w) (h : naS [(⟨#[115, 101, 116]⟩ : ByteArray)] S = (R, S1)) : Calls Tryz.prog 110 #[.pointer (some ⟨g, 0, none⟩), .slice (some ⟨w.heap.size, 0, none⟩) 1 1] (w.alloc (.cells #[.string (⟨#[115, 101, 116]⟩ : ByteArray)] 9)) (OutS B g w R S1) := by
  have c := names_st B g S R S1 [(⟨#[115, 101, 116]⟩ : ByteArray)] w (by decide +kernel) hK h
  simp only [List.map_cons, List.map_nil, List.length_cons, List.length_nil, Nat.zero_add, Nat.reduceAdd] at c
  exact c
theorem nl_use (B g : Nat) (S : WS) (R : Bool) (S1 : WS) (w : World) (hK : Wk B g S w) (h : naS [(⟨#[117, 115, 101]⟩ : ByteArray)] S = (R, S1)) : Calls Tryz.prog 110 #[.pointer (some ⟨g, 0, none⟩), .slice (some ⟨w.heap.size, 0, none⟩) 1 1] (w.alloc (.cells #[.string (⟨#[117, 115, 101]⟩ : ByteArray)] 9)) (OutS B g w R S1) := by
  have c := names_st B g S R S1 [(⟨#[117, 115, 101]⟩ : ByteArray)] w (by decide +kernel) hK h
  simp only [List.map_cons, List.map_nil, List.length_cons, List.length_nil, Nat.zero_add, Nat.reduceAdd] at c
  exact c
theorem nl_create_temporary_table (B g : Nat) (S : WS) (R : Bool) (S1 : WS) (w : World) (hK : Wk B g S w) (h : naS [(⟨#[99, 114, 101, 97, 116, 101]⟩ : ByteArray), (⟨#[116, 101, 109, 112, 111, 114, 97, 114, 121]⟩ : ByteArray), (⟨#[116, 97, 98, 108, 101]⟩ : ByteArray)] S = (R, S1)) : Calls Tryz.prog 110 #[.pointer (some ⟨g, 0, none⟩), .slice (some ⟨w.heap.size, 0, none⟩) 3 3] (w.alloc (.cells #[.string (⟨#[99, 114, 101, 97, 116, 101]⟩ : ByteArray), .string (⟨#[116, 101, 109, 112, 111, 114, 97, 114, 121]⟩ : ByteArray), .string (⟨#[116, 97, 98, 108, 101]⟩ : ByteArray)] 9)) (OutS B g w R S1) := by
  have c := names_st B g S R S1 [(⟨#[99, 114, 101, 97, 116, 101]⟩ : ByteArray), (⟨#[116, 101, 109, 112, 111, 114, 97, 114, 121]⟩ : ByteArray), (⟨#[116, 97, 98, 108, 101]⟩ : ByteArray)] w (by decide +kernel) hK h
  simp only [List.map_cons, List.map_nil, List.length_cons, List.length_nil, Nat.zero_add, Nat.reduceAdd] at c
  exact c
theorem pl_if_not_exists (B g : Nat) (S : WS) (R : Bool) (S1 : WS) (w : World) (hK : Wk B g S w) (h : peS [(⟨#[105, 102]⟩ : ByteArray), (⟨#[110, 111, 116]⟩ : ByteArray), (⟨#[101, 120, 105, 115, 116, 115]⟩ : ByteArray)] S = (R, S1)) : Calls Tryz.prog 117 #[.pointer (some ⟨g, 0, none⟩), .slice (some ⟨w.heap.size, 0, none⟩) 3 3] (w.alloc (.cells #[.string (⟨#[105, 102]⟩ : ByteArray), .string (⟨#[110, 111, 116]⟩ : ByteArray), .string (⟨#[101, 120, 105, 115, 116, 115]⟩ : ByteArray)] 9)) (OutS B g w R S1) := by
  have c := perhaps_st B g S R S1 [(⟨#[105, 102]⟩ : ByteArray), (⟨#[110, 111, 116]⟩ : ByteArray), (⟨#[101, 120, 105, 115, 116, 115]⟩ : ByteArray)] w (by decide +kernel) hK h
  simp only [List.map_cons, List.map_nil, List.length_cons, List.length_nil, Nat.zero_add, Nat.reduceAdd] at c
  exact c
theorem nl_drop_temporary_table (B g : Nat) (S : WS) (R : Bool) (S1 : WS) (w : World) (hK : Wk B g S w) (h : naS [(⟨#[100, 114, 111, 112]⟩ : ByteArray), (⟨#[116, 101, 109, 112, 111, 114, 97, 114, 121]⟩ : ByteArray), (⟨#[116, 97, 98, 108, 101]⟩ : ByteArray)] S = (R, S1)) : Calls Tryz.prog 110 #[.pointer (some ⟨g, 0, none⟩), .slice (some ⟨w.heap.size, 0, none⟩) 3 3] (w.alloc (.cells #[.string (⟨#[100, 114, 111, 112]⟩ : ByteArray), .string (⟨#[116, 101, 109, 112, 111, 114, 97, 114, 121]⟩ : ByteArray), .string (⟨#[116, 97, 98, 108, 101]⟩ : ByteArray)] 9)) (OutS B g w R S1) := by
  have c := names_st B g S R S1 [(⟨#[100, 114, 111, 112]⟩ : ByteArray), (⟨#[116, 101, 109, 112, 111, 114, 97, 114, 121]⟩ : ByteArray), (⟨#[116, 97, 98, 108, 101]⟩ : ByteArray)] w (by decide +kernel) hK h
  simp only [List.map_cons, List.map_nil, List.length_cons, List.length_nil, Nat.zero_add, Nat.reduceAdd] at c
  exact c
theorem pl_if_exists (B g : Nat) (S : WS) (R : Bool) (S1 : WS) (w : World) (hK : Wk B g S w) (h : peS [(⟨#[105, 102]⟩ : ByteArray), (⟨#[101, 120, 105, 115, 116, 115]⟩ : ByteArray)] S = (R, S1)) : Calls Tryz.prog 117 #[.pointer (some ⟨g, 0, none⟩), .slice (some ⟨w.heap.size, 0, none⟩) 2 2] (w.alloc (.cells #[.string (⟨#[105, 102]⟩ : ByteArray), .string (⟨#[101, 120, 105, 115, 116, 115]⟩ : ByteArray)] 9)) (OutS B g w R S1) := by
  have c := perhaps_st B g S R S1 [(⟨#[105, 102]⟩ : ByteArray), (⟨#[101, 120, 105, 115, 116, 115]⟩ : ByteArray)] w (by decide +kernel) hK h
  simp only [List.map_cons, List.map_nil, List.length_cons, List.length_nil, Nat.zero_add, Nat.reduceAdd] at c
  exact c
theorem nl_set_names (B g : Nat) (S : WS) (R : Bool) (S1 : WS) (w : World) (hK : Wk B g S w) (h : naS [(⟨#[115, 101, 116]⟩ : ByteArray), (⟨#[110, 97, 109, 101, 115]⟩ : ByteArray)] S = (R, S1)) : Calls Tryz.prog 110 #[.pointer (some ⟨g, 0, none⟩), .slice (some ⟨w.heap.size, 0, none⟩) 2 2] (w.alloc (.cells #[.string (⟨#[115, 101, 116]⟩ : ByteArray), .string (⟨#[110, 97, 109, 101, 115]⟩ : ByteArray)] 9)) (OutS B g w R S1) := by
  have c := names_st B g S R S1 [(⟨#[115, 101, 116]⟩ : ByteArray), (⟨#[110, 97, 109, 101, 115]⟩ : ByteArray)] w (by decide +kernel) hK h
  simp only [List.map_cons, List.map_nil, List.length_cons, List.length_nil, Nat.zero_add, Nat.reduceAdd] at c
  exact c
theorem nl_release_savepoint (B g : Nat) (S : WS) (R : Bool) (S1 : WS) (w : World) (hK : Wk B g S w) (h : naS [(⟨#[114, 101, 108, 101, 97, 115, 101]⟩ : ByteArray), (⟨#[115, 97, 118, 101, 112, 111, 105, 110, 116]⟩ : ByteArray)] S = (R, S1)) : Calls Tryz.prog 110 #[.pointer (some ⟨g, 0, none⟩), .slice (some ⟨w.heap.size, 0, none⟩) 2 2] (w.alloc (.cells #[.string (⟨#[114, 101, 108, 101, 97, 115, 101]⟩ : ByteArray), .string (⟨#[115, 97, 118, 101, 112, 111, 105, 110, 116]⟩ : ByteArray)] 9)) (OutS B g w R S1) := by
  have c := names_st B g S R S1 [(⟨#[114, 101, 108, 101, 97, 115, 101]⟩ : ByteArray), (⟨#[115, 97, 118, 101, 112, 111, 105, 110, 116]⟩ : ByteArray)] w (by decide +kernel) hK h
  simp only [List.map_cons, List.map_nil, List.length_cons, List.length_nil, Nat.zero_add, Nat.reduceAdd] at c
  exact c
theorem nl_rollback_to (B g : Nat) (S : WS) (R : Bool) (S1 : WS) (w : World) (hK : Wk B g S w) (h : naS [(⟨#[114, 111, 108, 108, 98, 97, 99, 107]⟩ : ByteArray), (⟨#[116, 111]⟩ : ByteArray)] S = (R, S1)) : Calls Tryz.prog 110 #[.pointer (some ⟨g, 0, none⟩), .slice (some ⟨w.heap.size, 0, none⟩) 2 2] (w.alloc (.cells #[.string (⟨#[114, 111, 108, 108, 98, 97, 99, 107]⟩ : ByteArray), .string (⟨#[116, 111]⟩ : ByteArray)] 9)) (OutS B g w R S1) := by
  have c := names_st B g S R S1 [(⟨#[114, 111, 108, 108, 98, 97, 99, 107]⟩ : ByteArray), (⟨#[116, 111]⟩ : ByteArray)] w (by decide +kernel) hK h
  simp only [List.map_cons, List.map_nil, List.length_cons, List.length_nil, Nat.zero_add, Nat.reduceAdd] at c
  exact c
theorem nl_rollback_work_to (B g : Nat) (S : WS) (R : Bool) (S1 : WS) (w : World) (hK : Wk B g S w) (h : naS [(⟨#[114, 111, 108, 108, 98, 97, 99, 107]⟩ : ByteArray), (⟨#[119, 111, 114, 107]⟩ : ByteArray), (⟨#[116, 111]⟩ : ByteArray)] S = (R, S1)) : Calls Tryz.prog 110 #[.pointer (some ⟨g, 0, none⟩), .slice (some ⟨w.heap.size, 0, none⟩) 3 3] (w.alloc (.cells #[.string (⟨#[114, 111, 108, 108, 98, 97, 99, 107]⟩ : ByteArray), .string (⟨#[119, 111, 114, 107]⟩ : ByteArray), .string (⟨#[116, 111]⟩ : ByteArray)] 9)) (OutS B g w R S1) := by
  have c := names_st B g S R S1 [(⟨#[114, 111, 108, 108, 98, 97, 99, 107]⟩ : ByteArray), (⟨#[119, 111, 114, 107]⟩ : ByteArray), (⟨#[116, 111]⟩ : ByteArray)] w (by decide +kernel) hK h
  simp only [List.map_cons, List.map_nil, List.length_cons, List.length_nil, Nat.zero_add, Nat.reduceAdd] at c
  exact c
theorem nl_select (B g : Nat) (S : WS) (R : Bool) (S1 : WS) (w : World) (hK : Wk B g S w) (h : naS [(⟨#[115, 101, 108, 101, 99, 116]⟩ : ByteArray)] S = (R, S1)) : Calls Tryz.prog 110 #[.pointer (some ⟨g, 0, none⟩), .slice (some ⟨w.heap.size, 0, none⟩) 1 1] (w.alloc (.cells #[.string (⟨#[115, 101, 108, 101, 99, 116]⟩ : ByteArray)] 9)) (OutS B g w R S1) := by
  have c := names_st B g S R S1 [(⟨#[115, 101, 108, 101, 99, 116]⟩ : ByteArray)] w (by decide +kernel) hK h
  simp only [List.map_cons, List.map_nil, List.length_cons, List.length_nil, Nat.zero_add, Nat.reduceAdd] at c
  exact c
theorem sign_st (B g : Nat) (S : WS) (R : Bool) (S1 : WS) (s : ByteArray) (w : World) (hK : Wk B g S w) (h : siS s S = (R, S1)) : Calls Tryz.prog 111 #[.pointer (some ⟨g, 0, none⟩), .string s] w (OutS B g w R S1) := by
  have c := ksign_any B g S s w hK
  rw [h] at c
  exact c
theorem sg_46 (B g : Nat) (S : WS) (R : Bool) (S1 : WS) (w : World) (hK : Wk B g S w) (h : siS (ba [46]) S = (R, S1)) : Calls Tryz.prog 111 #[.pointer (some ⟨g, 0, none⟩), .string ⟨#[46]⟩] w (OutS B g w R S1) := sign_st B g S R S1 _ w hK h
theorem sg_40 (B g : Nat) (S : WS) (R : Bool) (S1 : WS) (w : World) (hK : Wk B g S w) (h : siS (ba [40]) S = (R, S1)) : Calls Tryz.prog 111 #[.pointer (some ⟨g, 0, none⟩), .string ⟨#[40]⟩] w (OutS B g w R S1) := sign_st B g S R S1 _ w hK h
theorem sg_44 (B g : Nat) (S : WS) (R : Bool) (S1 : WS) (w : World) (hK : Wk B g S w) (h : siS (ba [44]) S = (R, S1)) : Calls Tryz.prog 111 #[.pointer (some ⟨g, 0, none⟩), .string ⟨#[44]⟩] w (OutS B g w R S1) := sign_st B g S R S1 _ w hK h
theorem sg_41 (B g : Nat) (S : WS) (R : Bool) (S1 : WS) (w : World) (hK : Wk B g S w) (h : siS (ba [41]) S = (R, S1)) : Calls Tryz.prog 111 #[.pointer (some ⟨g, 0, none⟩), .string ⟨#[41]⟩] w (OutS B g w R S1) := sign_st B g S R S1 _ w hK h
theorem sg_61 (B g : Nat) (S : WS) (R : Bool) (S1 : WS) (w : World) (hK : Wk B g S w) (h : siS (ba [61]) S = (R, S1)) : Calls Tryz.prog 111 #[.pointer (some ⟨g, 0, none⟩), .string ⟨#[61]⟩] w (OutS B g w R S1) := sign_st B g S R S1 _ w hK h
theorem wn_3 (B g : Nat) (S : WS) (R : Bool) (S1 : WS) (w : World) (hK : Wk B g S w) (h : wnS [3] S = (R, S1)) : Calls Tryz.prog 112 #[.pointer (some ⟨g, 0, none⟩), .pointer (some ⟨g, 1, none⟩), .slice (some ⟨w.heap.size, 0, none⟩) 1 1] (w.alloc (.cells #[.int .i64 3] 3)) (OutS B g w R S1) := by
  have b := below_alloc w (.cells #[.int .i64 3] 3)
  have c := wordN_any B g S _ 1 1 [3] _ (hK.later b) (Is.lit w [3] (i64lit _ (by simp)) (by simp))
  rw [h] at c
  exact c.mono fun e w2 k => k.low (b.mono (Nat.le_of_lt hK.lt))
theorem wn_6 (B g : Nat) (S : WS) (R : Bool) (S1 : WS) (w : World) (hK : Wk B g S w) (h : wnS [6] S = (R, S1)) : Calls Tryz.prog 112 #[.pointer (some ⟨g, 0, none⟩), .pointer (some ⟨g, 1, none⟩), .slice (some ⟨w.heap.size, 0, none⟩) 1 1] (w.alloc (.cells #[.int .i64 6] 3)) (OutS B g w R S1) := by
  have b := below_alloc w (.cells #[.int .i64 6] 3)
  have c := wordN_any B g S _ 1 1 [6] _ (hK.later b) (Is.lit w [6] (i64lit _ (by simp)) (by simp))
  rw [h] at c
  exact c.mono fun e w2 k => k.low (b.mono (Nat.le_of_lt hK.lt))
theorem wn_7 (B g : Nat) (S : WS) (R : Bool) (S1 : WS) (w : World) (hK : Wk B g S w) (h : wnS [7] S = (R, S1)) : Calls Tryz.prog 112 #[.pointer (some ⟨g, 0, none⟩), .pointer (some ⟨g, 1, none⟩), .slice (some ⟨w.heap.size, 0, none⟩) 1 1] (w.alloc (.cells #[.int .i64 7] 3)) (OutS B g w R S1) := by
  have b := below_alloc w (.cells #[.int .i64 7] 3)
  have c := wordN_any B g S _ 1 1 [7] _ (hK.later b) (Is.lit w [7] (i64lit _ (by simp)) (by simp))
  rw [h] at c
  exact c.mono fun e w2 k => k.low (b.mono (Nat.le_of_lt hK.lt))
theorem wv_4 (B g : Nat) (S : WS) (R : Bool) (S1 : WS) (w : World) (hK : Wk B g S w) (h : wvS [4] S = (R, S1)) : Calls Tryz.prog 112 #[.pointer (some ⟨g, 0, none⟩), .pointer (some ⟨g, 2, none⟩), .slice (some ⟨w.heap.size, 0, none⟩) 1 1] (w.alloc (.cells #[.int .i64 4] 3)) (OutS B g w R S1) := by
  have b := below_alloc w (.cells #[.int .i64 4] 3)
  have c := wordV_any B g S _ 1 1 [4] _ (hK.later b) (Is.lit w [4] (i64lit _ (by simp)) (by simp))
  rw [h] at c
  exact c.mono fun e w2 k => k.low (b.mono (Nat.le_of_lt hK.lt))
theorem wv_l (B g : Nat) (S : WS) (R : Bool) (S1 : WS) (w : World) (hK : Wk B g S w) (h : wvS [3, 4, 1, 2] S = (R, S1)) : Calls Tryz.prog 112 #[.pointer (some ⟨g, 0, none⟩), .pointer (some ⟨g, 2, none⟩), .slice (some ⟨w.heap.size, 0, none⟩) 4 4] (w.alloc (.cells #[.int .i64 3, .int .i64 4, .int .i64 1, .int .i64 2] 3)) (OutS B g w R S1) := by
  have b := below_alloc w (.cells #[.int .i64 3, .int .i64 4, .int .i64 1, .int .i64 2] 3)
  have c := wordV_any B g S _ 4 4 [3, 4, 1, 2] _ (hK.later b) (Is.lit w [3, 4, 1, 2] (i64lit _ (by simp)) (by simp))
  rw [h] at c
  exact c.mono fun e w2 k => k.low (b.mono (Nat.le_of_lt hK.lt))
theorem num_st (B g : Nat) (S : WS) (R : Bool) (S1 : WS) (w : World) (hK : Wk B g S w) (h : nuS S = (R, S1)) : Calls Tryz.prog 113 #[.pointer (some ⟨g, 0, none⟩)] w (OutS B g w R S1) := by
  have c := knumber_any B g S w hK
  rw [h] at c
  exact c
theorem named_st (B g : Nat) (S : WS) (R : Bool) (S1 : WS) (w : World) (hK : Wk B g S w) (h : nmS S = (R, S1)) : Calls Tryz.prog 123 #[.pointer (some ⟨g, 0, none⟩)] w (OutS B g w R S1) := by
  have c := named_any B g S w hK
  rw [h] at c
  exact c
theorem end_st (B g : Nat) (S : WS) (R : Bool) (S1 : WS) (w : World) (hK : Wk B g S w) (h : enS S = (R, S1)) : Calls Tryz.prog 114 #[.pointer (some ⟨g, 0, none⟩)] w (OutS B g w R S1) := by
  have c := end_any B g S w hK
  rw [h] at c
  exact c
theorem over_st (ao : Option Addr) (n c : Nat) (l : List Wd) (w : World) (hW : Wds w ao n c l) (hB : ∀ x ∈ l, x.tx.size ≤ 1073741824) (S : WS) (h : S = ws0 l) : Calls Tryz.prog 108 #[.slice ao n c] w (OutO w S) := by
  rw [h]
  exact over_any ao n c l w hW hB

end Go.Proofs.YtffbmfjmdcjcmaaGreatDoor
