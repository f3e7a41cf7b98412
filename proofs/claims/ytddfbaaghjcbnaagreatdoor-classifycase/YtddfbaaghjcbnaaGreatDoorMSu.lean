/-
  What more steps of package classify's walk do: it is begun, its end, a number, a name, all or nothing, what is found. Conditions: as the first steps'.
  What the steps of package classify's walk do, at the literals that the program has. Conditions: as the steps'.
-/
import Derived.Test.YtddfbaaghjcbnaaGreatDoorKlSt
import Derived.Shelf.Abstract
namespace Go.Proofs.YtddfbaaghjcbnaaGreatDoor
open Go.RowKit
set_option linter.unusedVariables false
set_option linter.unusedSimpArgs false

theorem i64lit (l : List Int) (h : ∀ x ∈ l, 0 ≤ x ∧ x ≤ 100) : I64 l := fun x hx => by have := h x hx; omega
/-- What 'over' answers: a walk in a block of its own. -/
def OutO (w : World) (S : WS) (e : Ending) (w' : World) : Prop := e = .returned (.pointer (some ⟨w.heap.size, 0, none⟩)) ∧ Wk w.heap.size w.heap.size S w' ∧ Below w.heap.size w w'
theorem wk_new (w : World) (ao : Option Addr) (n c : Nat) (S : WS) (hW : Wds w ao n c S.left) (hB : WB S)   : Wk w.heap.size w.heap.size S (w.alloc (.cells #[.slice ao n c, .string S.nm, .string S.va] 94)) :=
  ⟨ao, n, c, heap_alloc_new w _, hW.later (below_alloc w _), hW.low, Nat.le_refl _, hB⟩

set_option maxHeartbeats 1000000 in
theorem over_any (ao : Option Addr) (n c : Nat) (l : List Wd) (w : World) (hW : Wds w ao n c l) (hB : ∀ x ∈ l, x.tx.size ≤ 1073741824) :
    Calls Tryz.prog 77 #[.slice ao n c] w (OutO w (ws0 l)) := by
  have hK := hide (wk_new w ao n c (ws0 l) hW (WB.mk0 hB))
  clear hW hB
  go_enter Tryz.func77, Tryz.ntmps77
  go_wp2_with fail
  go_ret
  exact ⟨rfl, unhide hK, below_alloc w _⟩

set_option maxHeartbeats 1000000 in
theorem end_any (B g : Nat) (S : WS) (w : World) (hK : Wk B g S w) : Calls Tryz.prog 83 #[.pointer (some ⟨g, 0, none⟩)] w (OutS B g w (enS S).1 (enS S).2) := by
  obtain ⟨ao, n, c, hA⟩ := hK
  have k0 := hA.c0
  have hnl := hide hA.wds.len
  have HA := hide hA
  clear hA
  go_enter Tryz.func83, Tryz.ntmps83
  go_wp2_with fail
  go_ret
  refine OutS.of ?_ rfl (unhide HA).wk (Below.refl _ _)
  have := unhide hnl
  simp only [enS]
  rw [Bool.eq_iff_iff]
  simp
  constructor
  · intro h; exact List.eq_nil_of_length_eq_zero (by omega)
  · intro h; rw [h] at this; simpa using this.symm

set_option maxHeartbeats 1000000 in
theorem knumber_any (B g : Nat) (S : WS) (w : World) (hK : Wk B g S w) : Calls Tryz.prog 82 #[.pointer (some ⟨g, 0, none⟩)] w (OutS B g w (nuS S).1 (nuS S).2) := by
  have hg := hK.lt
  have b1 := below_alloc w (.cells #[.string ⟨#[]⟩] 9)
  have r1 := heap_alloc_new w (.cells #[.string ⟨#[]⟩] 9)
  have K1 := hK.later b1
  have e1 : (w.alloc (.cells #[.string ⟨#[]⟩] 9)).heap.size = w.heap.size + 1 := by simp
  obtain ⟨w1, hw1⟩ : ∃ w1, w1 = w.alloc (.cells #[.string ⟨#[]⟩] 9) := ⟨_, rfl⟩
  rw [← hw1] at b1 r1 K1 e1
  have b2 := below_alloc w1 (.cells #[.int .i64 4] 3)
  have c := wordX_any B g S w.heap.size ⟨#[]⟩ _ 1 1 [4] _ (K1.later b2) (Is.lit w1 [4] (i64lit _ (by simp)) (by simp)) hg ((b2.block _ (by omega)).trans r1)
  unfold nuS
  generalize wxS [4] S = P at *
  obtain ⟨R, S1⟩ := P
  simp only [List.map_cons, List.map_nil] at c
  rw [e1] at c
  have C := hide c
  have B12 := hide ((b1.mono (Nat.le_of_lt hg)).trans (b2.mono (by omega)))
  clear c hK K1 b1 b2 r1 e1
  subst hw1
  go_enter Tryz.func82, Tryz.ntmps82
  go_wp2_with (go_at_call 81; refine (unhide C).mono ?_; rintro e w3 ⟨rfl, hk, bk⟩)
  go_ret
  exact ⟨rfl, hk, (unhide B12).trans bk⟩

set_option maxHeartbeats 1000000 in
theorem named_any (B g : Nat) (S : WS) (w : World) (hK : Wk B g S w) : Calls Tryz.prog 91 #[.pointer (some ⟨g, 0, none⟩)] w (OutS B g w (nmS S).1 (nmS S).2) := by
  have hg := hK.lt
  have b2 := below_alloc w (.cells #[.int .i64 1, .int .i64 2] 3)
  have c := wordN_any B g S _ 2 2 [1, 2] _ (hK.later b2) (Is.lit w [1, 2] (i64lit _ (by simp)) (by simp))
  unfold nmS
  generalize wnS [1, 2] S = P at *
  obtain ⟨R, S1⟩ := P
  simp only [List.map_cons, List.map_nil] at c
  have C := hide c
  have B2 := hide (b2.mono (Nat.le_of_lt hg))
  clear c hK b2
  go_enter Tryz.func91, Tryz.ntmps91
  go_wp2_with (go_at_call 81; refine (unhide C).mono ?_; rintro e w3 ⟨rfl, hk, bk⟩)
  go_ret
  exact ⟨rfl, hk, (unhide B2).trans bk⟩

/-- A walk, loaded whole. -/
theorem wk_info (a b c : Value) : (Tryz.prog.info? 94).map (·.size) = some (#[a, b, c] : Array Value).size := by
  rw [show (#[a, b, c] : Array Value).size = 3 from rfl]
  kernel_rfl
def Wk0 : Array Value := #[.slice none 0 0, .string ⟨#[]⟩, .string ⟨#[]⟩]
theorem zeroWk (w : World) : (zeroValue 94).run Tryz.prog w = .ok (.agg Wk0) w := by kernel_rfl

theorem wk_copy {B g : Nat} {S : WS} {w w1 w2 : World} {ao : Option Addr} {n c : Nat} (HA : Hid (WkA B g ao n c S w)) (b1 : Below w.heap.size w w1) (r2 : w2.heap[w.heap.size]? = some (.cells #[.slice ao n c, .string S.nm, .string S.va] 94 (0, 0))) (g2 : Gb w.heap.size w1 w2) : Wk B w.heap.size S w2 :=
  ⟨ao, n, c, r2, (unhide HA).wds.later (belowG b1 g2 (Nat.le_refl _) b1.size), (unhide HA).low, Nat.le_trans (unhide HA).bg (Nat.le_of_lt (unhide HA).lt), (unhide HA).wb⟩

set_option maxHeartbeats 1000000 in
theorem together_any (B g : Nat) (S : WS) (F : Nat) (cs : Array Value) (a : St) (w : World) (hK : Wk B g S w) (hE : ∀ args w, (callFunc F args).run Tryz.prog w = .ok (.enter F args) w)
    (hF : ∀ q wx, w.heap.size ≤ q → Below w.heap.size w wx → Wk B q S wx → Calls Tryz.prog F (#[.pointer (some ⟨q, 0, none⟩)] ++ cs) wx (OutS B q wx (a S).1 (a S).2)) :
    Calls Tryz.prog 110 #[.pointer (some ⟨g, 0, none⟩), .func (.func F) #[] cs] w fun e w' => OutS B g w (tog a S).1 (tog a S).2 e w' ∧ ∀ k, k < w.heap.size → k ≠ g → w'.heap[k]? = w.heap[k]? := by
  obtain ⟨ao, n, c, hA⟩ := hK
  have hg := hA.lt
  have HA := hide hA
  have HF := hide hF
  unfold tog
  generalize a S = P at *
  obtain ⟨R, S1⟩ := P
  simp only at HF ⊢
  clear hA hF
  cases R with
  | false =>
    go_enter Tryz.func110, Tryz.ntmps110
    go_wp2_with (first | (with_reducible show wpList Tryz.prog _ _ (Oper.mk _ (Op.load 94 _) _ _ _ none :: _) _ _; refine wpList_load_row rfl _ (.tmp 7) rfl g (by simp [Act.eval, Act.put]) _ _ (0, 0) _ (unhide HA).row Tryz.underlying94 rfl (wk_info _ _ _) ?_) | (with_reducible show wpList Tryz.prog _ _ (Oper.mk _ (Op.alloc 94) _ _ _ none :: _) _ _; refine wpList_alK rfl _ rfl Wk0 zeroWk ?_; intro w1 r1 b1 z1) | (with_reducible show wpList Tryz.prog _ _ (Oper.mk _ (Op.store 94 _ _) _ _ _ none :: _) _ _; refine wpList_stK rfl _ (.tmp 5) (.tmp 8) rfl w.heap.size #[.slice ao n c, .string S.nm, .string S.va] Wk0 (by simp [Act.eval, Act.put]) (by simp [Act.eval, Act.put]) r1 (wk_info _ _ _) rfl (by simp [Value.oneCell']) ?_; intro w2 r2 g2 z2; have b2 := belowG b1 g2 (Nat.le_refl _) b1.size; have hk2 : Wk B w.heap.size S w2 := wk_copy HA b1 r2 g2) | (go_at_fn F; refine (unhide HF w.heap.size w2 (Nat.le_refl _) b2 hk2).mono ?_; rintro e w3 ⟨rfl, hk3, b3⟩))
    go_ret
    exact ⟨OutS.of rfl rfl ((unhide HA).below (b2.trans b3) hg).wk ((b2.trans b3).mono (Nat.le_of_lt hg)), fun k hk _ => (b2.trans b3).block k hk⟩
  | true =>
    go_enter Tryz.func110, Tryz.ntmps110
    go_wp2_with (first | (with_reducible show wpList Tryz.prog _ _ (Oper.mk _ (Op.load 94 _) _ _ _ none :: _) _ _; refine wpList_load_row rfl _ (.tmp 7) rfl g (by simp [Act.eval, Act.put]) _ _ (0, 0) _ (unhide HA).row Tryz.underlying94 rfl (wk_info _ _ _) ?_) | (with_reducible show wpList Tryz.prog _ _ (Oper.mk _ (Op.alloc 94) _ _ _ none :: _) _ _; refine wpList_alK rfl _ rfl Wk0 zeroWk ?_; intro w1 r1 b1 z1) | (with_reducible show wpList Tryz.prog _ _ (Oper.mk _ (Op.store 94 _ _) _ _ _ none :: _) _ _; refine wpList_stK rfl _ (.tmp 5) (.tmp 8) rfl w.heap.size #[.slice ao n c, .string S.nm, .string S.va] Wk0 (by simp [Act.eval, Act.put]) (by simp [Act.eval, Act.put]) r1 (wk_info _ _ _) rfl (by simp [Value.oneCell']) ?_; intro w2 r2 g2 z2; have b2 := belowG b1 g2 (Nat.le_refl _) b1.size; have hk2 : Wk B w.heap.size S w2 := wk_copy HA b1 r2 g2) | (go_at_fn F; refine (unhide HF w.heap.size w2 (Nat.le_refl _) b2 hk2).mono ?_; rintro e w3 ⟨rfl, ⟨ao3, n3, c3, hA3⟩, b3⟩; have HA3 := hide hA3; have hA1 := (unhide HA).below (b2.trans b3) hg) | (with_reducible show wpList Tryz.prog _ _ (Oper.mk _ (Op.load 94 _) _ _ _ none :: _) _ _; refine wpList_load_row rfl _ (.tmp 5) rfl w.heap.size (by simp [Act.eval, Act.put]) _ _ (0, 0) _ (unhide HA3).row Tryz.underlying94 rfl (wk_info _ _ _) ?_) | (with_reducible show wpList Tryz.prog _ _ (Oper.mk _ (Op.store 94 _ _) _ _ _ none :: _) _ _; refine wpList_stK rfl _ (.tmp 14) (.tmp 13) rfl g #[.slice ao3 n3 c3, .string S1.nm, .string S1.va] #[.slice ao n c, .string S.nm, .string S.va] (by simp [Act.eval, Act.put]) (by simp [Act.eval, Act.put]) hA1.row (wk_info _ _ _) rfl (by simp [Value.oneCell']) ?_; intro w4 r4 g4 z4))
    go_ret
    have bz := (b2.trans b3).mono (Nat.le_of_lt hg)
    have b4 : Below g w3 w4 := belowG (Below.refl g w3) g4 (Nat.le_refl _) (Nat.le_trans (Nat.le_of_lt hg) (b2.trans b3).size)
    exact ⟨OutS.of rfl rfl ⟨ao3, n3, c3, r4, (unhide HA3).wds.keepZ (low_keep (unhide HA3).low b4 (unhide HA).bg), (unhide HA3).low, (unhide HA).bg, (unhide HA3).wb⟩ (bz.trans b4), fun k hk hne => (g4.block k (Nat.lt_of_lt_of_le hk (b2.trans b3).size) hne).trans ((b2.trans b3).block k hk)⟩

end Go.Proofs.YtddfbaaghjcbnaaGreatDoor

namespace Go.Proofs.YtddfbaaghjcbnaaGreatDoor
open Go.RowKit
set_option linter.unusedVariables false
set_option linter.unusedSimpArgs false

/-- Literals are small. -/
def lits (ss : List ByteArray) : Bool := ss.all (fun s => decide (s.size ≤ 100)) && decide (ss.length ≤ 10)
theorem lits_ss {ss : List ByteArray} (h : lits ss = true) (w : World) : Ss (w.alloc (.cells (ss.map Value.string).toArray 9)) (some ⟨w.heap.size, 0, none⟩) ss.length ss.length ss := by
  simp only [lits, Bool.and_eq_true, List.all_eq_true, decide_eq_true_eq] at h
  exact Ss.lit w ss (fun s hs => by have := h.1 s hs; omega) (by omega)
theorem OutS.low {B g : Nat} {w w1 w2 : World} {b : Bool} {S : WS} {e : Ending} (h : OutS B g w1 b S e w2) (hb : Below g w w1) : OutS B g w b S e w2 := ⟨h.1, h.2.1, hb.trans h.2.2⟩
theorem names_st (B g : Nat) (S : WS) (R : Bool) (S1 : WS) (ss : List ByteArray) (w : World) (hl : lits ss = true) (hK : Wk B g S w) (h : naS ss S = (R, S1)) :
    Calls Tryz.prog 79 #[.pointer (some ⟨g, 0, none⟩), .slice (some ⟨w.heap.size, 0, none⟩) ss.length ss.length] (w.alloc (.cells (ss.map Value.string).toArray 9)) (OutS B g w R S1) := by
  have b := below_alloc w (.cells (ss.map Value.string).toArray 9)
  have c := names_any B g S _ _ _ ss _ (hK.later b) (lits_ss hl w)
  rw [h] at c
  exact c.mono fun e w2 k => k.low (b.mono (Nat.le_of_lt hK.lt))
theorem perhaps_st (B g : Nat) (S : WS) (R : Bool) (S1 : WS) (ss : List ByteArray) (w : World) (hl : lits ss = true) (hK : Wk B g S w) (h : peS ss S = (R, S1)) :
    Calls Tryz.prog 86 #[.pointer (some ⟨g, 0, none⟩), .slice (some ⟨w.heap.size, 0, none⟩) ss.length ss.length] (w.alloc (.cells (ss.map Value.string).toArray 9)) (OutS B g w R S1) := by
  have b := below_alloc w (.cells (ss.map Value.string).toArray 9)
  have c := perhaps_any B g S _ _ _ ss _ (hK.later b) (lits_ss hl w)
  rw [h] at c
  exact c.mono fun e w2 k => k.low (b.mono (Nat.le_of_lt hK.lt))
theorem nl_session (B g : Nat) (S : WS) (R : Bool) (S1 : WS) (w : World) (hK : Wk B g S w) (h : naS [(⟨#[115, 101, 115, 115, 105, 111, 110]⟩ : ByteArray)] S = (R, S1)) : Calls Tryz.prog 79 #[.pointer (some ⟨g, 0, none⟩), .slice (some ⟨w.heap.size, 0, none⟩) 1 1] (w.alloc (.cells #[.string (⟨#[115, 101, 115, 115, 105, 111, 110]⟩ : ByteArray)] 9)) (OutS B g w R S1) := by
  have c := names_st B g S R S1 [(⟨#[115, 101, 115, 115, 105, 111, 110]⟩ : ByteArray)] w (by decide +kernel) hK h
  simp only [List.map_cons, List.map_nil, List.length_cons, List.length_nil, Nat.zero_add, Nat.reduceAdd] at c
  exact c
theorem pl_local (B g : Nat) (S : WS) (R : Bool) (S1 : WS) (w : World) (hK : Wk B g S w) (h : peS [(⟨#[108, 111, 99, 97, 108]⟩ : ByteArray)] S = (R, S1)) : Calls Tryz.prog 86 #[.pointer (some ⟨g, 0, none⟩), .slice (some ⟨w.heap.size, 0, none⟩) 1 1] (w.alloc (.cells #[.string (⟨#[108, 111, 99, 97, 108]⟩ : ByteArray)] 9)) (OutS B g w R S1) := by
  have c := perhaps_st B g S R S1 [(⟨#[108, 111, 99, 97, 108]⟩ : ByteArray)] w (by decide +kernel) hK h
  simp only [List.map_cons, List.map_nil, List.length_cons, List.length_nil, Nat.zero_add, Nat.reduceAdd] at c
  exact c
theorem nl_select_get_lock (B g : Nat) (S : WS) (R : Bool) (S1 : WS) (w : World) (hK : Wk B g S w) (h : naS [(⟨#[115, 101, 108, 101, 99, 116]⟩ : ByteArray), (⟨#[103, 101, 116, 95, 108, 111, 99, 107]⟩ : ByteArray)] S = (R, S1)) : Calls Tryz.prog 79 #[.pointer (some ⟨g, 0, none⟩), .slice (some ⟨w.heap.size, 0, none⟩) 2 2] (w.alloc (.cells #[.string (⟨#[115, 101, 108, 101, 99, 116]⟩ : ByteArray), .string (⟨#[103, 101, 116, 95, 108, 111, 99, 107]⟩ : ByteArray)] 9)) (OutS B g w R S1) := by
  have c := names_st B g S R S1 [(⟨#[115, 101, 108, 101, 99, 116]⟩ : ByteArray), (⟨#[103, 101, 116, 95, 108, 111, 99, 107]⟩ : ByteArray)] w (by decide +kernel) hK h
  simp only [List.map_cons, List.map_nil, List.length_cons, List.length_nil, Nat.zero_add, Nat.reduceAdd] at c
  exact c
theorem nl_lock_table (B g : Nat) (S : WS) (R : Bool) (S1 : WS) (w : World) (hK : Wk B g S w) (h : naS [(⟨#[108, 111, 99, 107]⟩ : ByteArray), (⟨#[116, 97, 98, 108, 101]⟩ : ByteArray)] S = (R, S1)) : Calls Tryz.prog 79 #[.pointer (some ⟨g, 0, none⟩), .slice (some ⟨w.heap.size, 0, none⟩) 2 2] (w.alloc (.cells #[.string (⟨#[108, 111, 99, 107]⟩ : ByteArray), .string (⟨#[116, 97, 98, 108, 101]⟩ : ByteArray)] 9)) (OutS B g w R S1) := by
  have c := names_st B g S R S1 [(⟨#[108, 111, 99, 107]⟩ : ByteArray), (⟨#[116, 97, 98, 108, 101]⟩ : ByteArray)] w (by decide +kernel) hK h
  simp only [List.map_cons, List.map_nil, List.length_cons, List.length_nil, Nat.zero_add, Nat.reduceAdd] at c
  exact c
theorem nl_lock_tables (B g : Nat) (S : WS) (R : Bool) (S1 : WS) (w : World) (hK : Wk B g S w) (h : naS [(⟨#[108, 111, 99, 107]⟩ : ByteArray), (⟨#[116, 97, 98, 108, 101, 115]⟩ : ByteArray)] S = (R, S1)) : Calls Tryz.prog 79 #[.pointer (some ⟨g, 0, none⟩), .slice (some ⟨w.heap.size, 0, none⟩) 2 2] (w.alloc (.cells #[.string (⟨#[108, 111, 99, 107]⟩ : ByteArray), .string (⟨#[116, 97, 98, 108, 101, 115]⟩ : ByteArray)] 9)) (OutS B g w R S1) := by
  have c := names_st B g S R S1 [(⟨#[108, 111, 99, 107]⟩ : ByteArray), (⟨#[116, 97, 98, 108, 101, 115]⟩ : ByteArray)] w (by decide +kernel) hK h
  simp only [List.map_cons, List.map_nil, List.length_cons, List.length_nil, Nat.zero_add, Nat.reduceAdd] at c
  exact c
theorem nl_unlock_table (B g : Nat) (S : WS) (R : Bool) (S1 : WS) (w : World) (hK : Wk B g S w) (h : naS [(⟨#[117, 110, 108, 111, 99, 107]⟩ : ByteArray), (⟨#[116, 97, 98, 108, 101]⟩ : ByteArray)] S = (R, S1)) : Calls Tryz.prog 79 #[.pointer (some ⟨g, 0, none⟩), .slice (some ⟨w.heap.size, 0, none⟩) 2 2] (w.alloc (.cells #[.string (⟨#[117, 110, 108, 111, 99, 107]⟩ : ByteArray), .string (⟨#[116, 97, 98, 108, 101]⟩ : ByteArray)] 9)) (OutS B g w R S1) := by
  have c := names_st B g S R S1 [(⟨#[117, 110, 108, 111, 99, 107]⟩ : ByteArray), (⟨#[116, 97, 98, 108, 101]⟩ : ByteArray)] w (by decide +kernel) hK h
  simp only [List.map_cons, List.map_nil, List.length_cons, List.length_nil, Nat.zero_add, Nat.reduceAdd] at c
  exact c
theorem nl_unlock_tables (B g : Nat) (S : WS) (R : Bool) (S1 : WS) (w : World) (hK : Wk B g S w) (h : naS [(⟨#[117, 110, 108, 111, 99, 107]⟩ : ByteArray), (⟨#[116, 97, 98, 108, 101, 115]⟩ : ByteArray)] S = (R, S1)) : Calls Tryz.prog 79 #[.pointer (some ⟨g, 0, none⟩), .slice (some ⟨w.heap.size, 0, none⟩) 2 2] (w.alloc (.cells #[.string (⟨#[117, 110, 108, 111, 99, 107]⟩ : ByteArray), .string (⟨#[116, 97, 98, 108, 101, 115]⟩ : ByteArray)] 9)) (OutS B g w R S1) := by
  have c := names_st B g S R S1 [(⟨#[117, 110, 108, 111, 99, 107]⟩ : ByteArray), (⟨#[116, 97, 98, 108, 101, 115]⟩ : ByteArray)] w (by decide +kernel) hK h
  simp only [List.map_cons, List.map_nil, List.length_cons, List.length_nil, Nat.zero_add, Nat.reduceAdd] at c
  exact c
theorem nl_select_release_all_locks (B g : Nat) (S : WS) (R : Bool) (S1 : WS) (w : World) (hK : Wk B g S w) (h : naS [(⟨#[115, 101, 108, 101, 99, 116]⟩ : ByteArray), (⟨#[114, 101, 108, 101, 97, 115, 101, 95, 97, 108, 108, 95, 108, 111, 99, 107, 115]⟩ : ByteArray)] S = (R, S1)) : Calls Tryz.prog 79 #[.pointer (some ⟨g, 0, none⟩), .slice (some ⟨w.heap.size, 0, none⟩) 2 2] (w.alloc (.cells #[.string (⟨#[115, 101, 108, 101, 99, 116]⟩ : ByteArray), .string (⟨#[114, 101, 108, 101, 97, 115, 101, 95, 97, 108, 108, 95, 108, 111, 99, 107, 115]⟩ : ByteArray)] 9)) (OutS B g w R S1) := by
  have c := names_st B g S R S1 [(⟨#[115, 101, 108, 101, 99, 116]⟩ : ByteArray), (⟨#[114, 101, 108, 101, 97, 115, 101, 95, 97, 108, 108, 95, 108, 111, 99, 107, 115]⟩ : ByteArray)] w (by decide +kernel) hK h
  simp only [List.map_cons, List.map_nil, List.length_cons, List.length_nil, Nat.zero_add, Nat.reduceAdd] at c
  exact c
theorem nl_start_transaction (B g : Nat) (S : WS) (R : Bool) (S1 : WS) (w : World) (hK : Wk B g S w) (h : naS [(⟨#[115, 116, 97, 114, 116]⟩ : ByteArray), (⟨#[116, 114, 97, 110, 115, 97, 99, 116, 105, 111, 110]⟩ : ByteArray)] S = (R, S1)) : Calls Tryz.prog 79 #[.pointer (some ⟨g, 0, none⟩), .slice (some ⟨w.heap.size, 0, none⟩) 2 2] (w.alloc (.cells #[.string (⟨#[115, 116, 97, 114, 116]⟩ : ByteArray), .string (⟨#[116, 114, 97, 110, 115, 97, 99, 116, 105, 111, 110]⟩ : ByteArray)] 9)) (OutS B g w R S1) := by
  have c := names_st B g S R S1 [(⟨#[115, 116, 97, 114, 116]⟩ : ByteArray), (⟨#[116, 114, 97, 110, 115, 97, 99, 116, 105, 111, 110]⟩ : ByteArray)] w (by decide +kernel) hK h
  simp only [List.map_cons, List.map_nil, List.length_cons, List.length_nil, Nat.zero_add, Nat.reduceAdd] at c
  exact c
theorem nl_begin (B g : Nat) (S : WS) (R : Bool) (S1 : WS) (w : World) (hK : Wk B g S w) (h : naS [(⟨#[98, 101, 103, 105, 110]⟩ : ByteArray)] S = (R, S1)) : Calls Tryz.prog 79 #[.pointer (some ⟨g, 0, none⟩), .slice (some ⟨w.heap.size, 0, none⟩) 1 1] (w.alloc (.cells #[.string (⟨#[98, 101, 103, 105, 110]⟩ : ByteArray)] 9)) (OutS B g w R S1) := by
  have c := names_st B g S R S1 [(⟨#[98, 101, 103, 105, 110]⟩ : ByteArray)] w (by decide +kernel) hK h
  simp only [List.map_cons, List.map_nil, List.length_cons, List.length_nil, Nat.zero_add, Nat.reduceAdd] at c
  exact c
theorem pl_work (B g : Nat) (S : WS) (R : Bool) (S1 : WS) (w : World) (hK : Wk B g S w) (h : peS [(⟨#[119, 111, 114, 107]⟩ : ByteArray)] S = (R, S1)) : Calls Tryz.prog 86 #[.pointer (some ⟨g, 0, none⟩), .slice (some ⟨w.heap.size, 0, none⟩) 1 1] (w.alloc (.cells #[.string (⟨#[119, 111, 114, 107]⟩ : ByteArray)] 9)) (OutS B g w R S1) := by
  have c := perhaps_st B g S R S1 [(⟨#[119, 111, 114, 107]⟩ : ByteArray)] w (by decide +kernel) hK h
  simp only [List.map_cons, List.map_nil, List.length_cons, List.length_nil, Nat.zero_add, Nat.reduceAdd] at c
  exact c
theorem nl_commit (B g : Nat) (S : WS) (R : Bool) (S1 : WS) (w : World) (hK : Wk B g S w) (h : naS [(⟨#[99, 111, 109, 109, 105, 116]⟩ : ByteArray)] S = (R, S1)) : Calls Tryz.prog 79 #[.pointer (some ⟨g, 0, none⟩), .slice (some ⟨w.heap.size, 0, none⟩) 1 1] (w.alloc (.cells #[.string (⟨#[99, 111, 109, 109, 105, 116]⟩ : ByteArray)] 9)) (OutS B g w R S1) := by
  have c := names_st B g S R S1 [(⟨#[99, 111, 109, 109, 105, 116]⟩ : ByteArray)] w (by decide +kernel) hK h
  simp only [List.map_cons, List.map_nil, List.length_cons, List.length_nil, Nat.zero_add, Nat.reduceAdd] at c
  exact c
theorem nl_rollback (B g : Nat) (S : WS) (R : Bool) (S1 : WS) (w : World) (hK : Wk B g S w) (h : naS [(⟨#[114, 111, 108, 108, 98, 97, 99, 107]⟩ : ByteArray)] S = (R, S1)) : Calls Tryz.prog 79 #[.pointer (some ⟨g, 0, none⟩), .slice (some ⟨w.heap.size, 0, none⟩) 1 1] (w.alloc (.cells #[.string (⟨#[114, 111, 108, 108, 98, 97, 99, 107]⟩ : ByteArray)] 9)) (OutS B g w R S1) := by
  have c := names_st B g S R S1 [(⟨#[114, 111, 108, 108, 98, 97, 99, 107]⟩ : ByteArray)] w (by decide +kernel) hK h
  simp only [List.map_cons, List.map_nil, List.length_cons, List.length_nil, Nat.zero_add, Nat.reduceAdd] at c
  exact c
theorem nl_set (B g : Nat) (S : WS) (R : Bool) (S1 : WS) (w : World) (hK : Wk B g S w) (h : naS [(⟨#[115, 101, 116]⟩ : ByteArray)] S = (R, S1)) : Calls Tryz.prog 79 #[.pointer (some ⟨g, 0, none⟩), .slice (some ⟨w.heap.size, 0, none⟩) 1 1] (w.alloc (.cells #[.string (⟨#[115, 101, 116]⟩ : ByteArray)] 9)) (OutS B g w R S1) := by
  have c := names_st B g S R S1 [(⟨#[115, 101, 116]⟩ : ByteArray)] w (by decide +kernel) hK h
  simp only [List.map_cons, List.map_nil, List.length_cons, List.length_nil, Nat.zero_add, Nat.reduceAdd] at c
  exact c
theorem nl_use (B g : Nat) (S : WS) (R : Bool) (S1 : WS) (w : World) (hK : Wk B g S w) (h : naS [(⟨#[117, 115, 101]⟩ : ByteArray)] S = (R, S1)) : Calls Tryz.prog 79 #[.pointer (some ⟨g, 0, none⟩), .slice (some ⟨w.heap.size, 0, none⟩) 1 1] (w.alloc (.cells #[.string (⟨#[117, 115, 101]⟩ : ByteArray)] 9)) (OutS B g w R S1) := by
  have c := names_st B g S R S1 [(⟨#[117, 115, 101]⟩ : ByteArray)] w (by decide +kernel) hK h
  simp only [List.map_cons, List.map_nil, List.length_cons, List.length_nil, Nat.zero_add, Nat.reduceAdd] at c
  exact c
theorem nl_create_temporary_table (B g : Nat) (S : WS) (R : Bool) (S1 : WS) (w : World) (hK : Wk B g S w) (h : naS [(⟨#[99, 114, 101, 97, 116, 101]⟩ : ByteArray), (⟨#[116, 101, 109, 112, 111, 114, 97, 114, 121]⟩ : ByteArray), (⟨#[116, 97, 98, 108, 101]⟩ : ByteArray)] S = (R, S1)) : Calls Tryz.prog 79 #[.pointer (some ⟨g, 0, none⟩), .slice (some ⟨w.heap.size, 0, none⟩) 3 3] (w.alloc (.cells #[.string (⟨#[99, 114, 101, 97, 116, 101]⟩ : ByteArray), .string (⟨#[116, 101, 109, 112, 111, 114, 97, 114, 121]⟩ : ByteArray), .string (⟨#[116, 97, 98, 108, 101]⟩ : ByteArray)] 9)) (OutS B g w R S1) := by
  have c := names_st B g S R S1 [(⟨#[99, 114, 101, 97, 116, 101]⟩ : ByteArray), (⟨#[116, 101, 109, 112, 111, 114, 97, 114, 121]⟩ : ByteArray), (⟨#[116, 97, 98, 108, 101]⟩ : ByteArray)] w (by decide +kernel) hK h
  simp only [List.map_cons, List.map_nil, List.length_cons, List.length_nil, Nat.zero_add, Nat.reduceAdd] at c
  exact c
theorem pl_if_not_exists (B g : Nat) (S : WS) (R : Bool) (S1 : WS) (w : World) (hK : Wk B g S w) (h : peS [(⟨#[105, 102]⟩ : ByteArray), (⟨#[110, 111, 116]⟩ : ByteArray), (⟨#[101, 120, 105, 115, 116, 115]⟩ : ByteArray)] S = (R, S1)) : Calls Tryz.prog 86 #[.pointer (some ⟨g, 0, none⟩), .slice (some ⟨w.heap.size, 0, none⟩) 3 3] (w.alloc (.cells #[.string (⟨#[105, 102]⟩ : ByteArray), .string (⟨#[110, 111, 116]⟩ : ByteArray), .string (⟨#[101, 120, 105, 115, 116, 115]⟩ : ByteArray)] 9)) (OutS B g w R S1) := by
  have c := perhaps_st B g S R S1 [(⟨#[105, 102]⟩ : ByteArray), (⟨#[110, 111, 116]⟩ : ByteArray), (⟨#[101, 120, 105, 115, 116, 115]⟩ : ByteArray)] w (by decide +kernel) hK h
  simp only [List.map_cons, List.map_nil, List.length_cons, List.length_nil, Nat.zero_add, Nat.reduceAdd] at c
  exact c
theorem nl_drop_temporary_table (B g : Nat) (S : WS) (R : Bool) (S1 : WS) (w : World) (hK : Wk B g S w) (h : naS [(⟨#[100, 114, 111, 112]⟩ : ByteArray), (⟨#[116, 101, 109, 112, 111, 114, 97, 114, 121]⟩ : ByteArray), (⟨#[116, 97, 98, 108, 101]⟩ : ByteArray)] S = (R, S1)) : Calls Tryz.prog 79 #[.pointer (some ⟨g, 0, none⟩), .slice (some ⟨w.heap.size, 0, none⟩) 3 3] (w.alloc (.cells #[.string (⟨#[100, 114, 111, 112]⟩ : ByteArray), .string (⟨#[116, 101, 109, 112, 111, 114, 97, 114, 121]⟩ : ByteArray), .string (⟨#[116, 97, 98, 108, 101]⟩ : ByteArray)] 9)) (OutS B g w R S1) := by
  have c := names_st B g S R S1 [(⟨#[100, 114, 111, 112]⟩ : ByteArray), (⟨#[116, 101, 109, 112, 111, 114, 97, 114, 121]⟩ : ByteArray), (⟨#[116, 97, 98, 108, 101]⟩ : ByteArray)] w (by decide +kernel) hK h
  simp only [List.map_cons, List.map_nil, List.length_cons, List.length_nil, Nat.zero_add, Nat.reduceAdd] at c
  exact c
theorem pl_if_exists (B g : Nat) (S : WS) (R : Bool) (S1 : WS) (w : World) (hK : Wk B g S w) (h : peS [(⟨#[105, 102]⟩ : ByteArray), (⟨#[101, 120, 105, 115, 116, 115]⟩ : ByteArray)] S = (R, S1)) : Calls Tryz.prog 86 #[.pointer (some ⟨g, 0, none⟩), .slice (some ⟨w.heap.size, 0, none⟩) 2 2] (w.alloc (.cells #[.string (⟨#[105, 102]⟩ : ByteArray), .string (⟨#[101, 120, 105, 115, 116, 115]⟩ : ByteArray)] 9)) (OutS B g w R S1) := by
  have c := perhaps_st B g S R S1 [(⟨#[105, 102]⟩ : ByteArray), (⟨#[101, 120, 105, 115, 116, 115]⟩ : ByteArray)] w (by decide +kernel) hK h
  simp only [List.map_cons, List.map_nil, List.length_cons, List.length_nil, Nat.zero_add, Nat.reduceAdd] at c
  exact c
theorem nl_set_names (B g : Nat) (S : WS) (R : Bool) (S1 : WS) (w : World) (hK : Wk B g S w) (h : naS [(⟨#[115, 101, 116]⟩ : ByteArray), (⟨#[110, 97, 109, 101, 115]⟩ : ByteArray)] S = (R, S1)) : Calls Tryz.prog 79 #[.pointer (some ⟨g, 0, none⟩), .slice (some ⟨w.heap.size, 0, none⟩) 2 2] (w.alloc (.cells #[.string (⟨#[115, 101, 116]⟩ : ByteArray), .string (⟨#[110, 97, 109, 101, 115]⟩ : ByteArray)] 9)) (OutS B g w R S1) := by
  have c := names_st B g S R S1 [(⟨#[115, 101, 116]⟩ : ByteArray), (⟨#[110, 97, 109, 101, 115]⟩ : ByteArray)] w (by decide +kernel) hK h
  simp only [List.map_cons, List.map_nil, List.length_cons, List.length_nil, Nat.zero_add, Nat.reduceAdd] at c
  exact c
theorem nl_release_savepoint (B g : Nat) (S : WS) (R : Bool) (S1 : WS) (w : World) (hK : Wk B g S w) (h : naS [(⟨#[114, 101, 108, 101, 97, 115, 101]⟩ : ByteArray), (⟨#[115, 97, 118, 101, 112, 111, 105, 110, 116]⟩ : ByteArray)] S = (R, S1)) : Calls Tryz.prog 79 #[.pointer (some ⟨g, 0, none⟩), .slice (some ⟨w.heap.size, 0, none⟩) 2 2] (w.alloc (.cells #[.string (⟨#[114, 101, 108, 101, 97, 115, 101]⟩ : ByteArray), .string (⟨#[115, 97, 118, 101, 112, 111, 105, 110, 116]⟩ : ByteArray)] 9)) (OutS B g w R S1) := by
  have c := names_st B g S R S1 [(⟨#[114, 101, 108, 101, 97, 115, 101]⟩ : ByteArray), (⟨#[115, 97, 118, 101, 112, 111, 105, 110, 116]⟩ : ByteArray)] w (by decide +kernel) hK h
  simp only [List.map_cons, List.map_nil, List.length_cons, List.length_nil, Nat.zero_add, Nat.reduceAdd] at c
  exact c
theorem nl_rollback_to (B g : Nat) (S : WS) (R : Bool) (S1 : WS) (w : World) (hK : Wk B g S w) (h : naS [(⟨#[114, 111, 108, 108, 98, 97, 99, 107]⟩ : ByteArray), (⟨#[116, 111]⟩ : ByteArray)] S = (R, S1)) : Calls Tryz.prog 79 #[.pointer (some ⟨g, 0, none⟩), .slice (some ⟨w.heap.size, 0, none⟩) 2 2] (w.alloc (.cells #[.string (⟨#[114, 111, 108, 108, 98, 97, 99, 107]⟩ : ByteArray), .string (⟨#[116, 111]⟩ : ByteArray)] 9)) (OutS B g w R S1) := by
  have c := names_st B g S R S1 [(⟨#[114, 111, 108, 108, 98, 97, 99, 107]⟩ : ByteArray), (⟨#[116, 111]⟩ : ByteArray)] w (by decide +kernel) hK h
  simp only [List.map_cons, List.map_nil, List.length_cons, List.length_nil, Nat.zero_add, Nat.reduceAdd] at c
  exact c
theorem nl_rollback_work_to (B g : Nat) (S : WS) (R : Bool) (S1 : WS) (w : World) (hK : Wk B g S w) (h : naS [(⟨#[114, 111, 108, 108, 98, 97, 99, 107]⟩ : ByteArray), (⟨#[119, 111, 114, 107]⟩ : ByteArray), (⟨#[116, 111]⟩ : ByteArray)] S = (R, S1)) : Calls Tryz.prog 79 #[.pointer (some ⟨g, 0, none⟩), .slice (some ⟨w.heap.size, 0, none⟩) 3 3] (w.alloc (.cells #[.string (⟨#[114, 111, 108, 108, 98, 97, 99, 107]⟩ : ByteArray), .string (⟨#[119, 111, 114, 107]⟩ : ByteArray), .string (⟨#[116, 111]⟩ : ByteArray)] 9)) (OutS B g w R S1) := by
  have c := names_st B g S R S1 [(⟨#[114, 111, 108, 108, 98, 97, 99, 107]⟩ : ByteArray), (⟨#[119, 111, 114, 107]⟩ : ByteArray), (⟨#[116, 111]⟩ : ByteArray)] w (by decide +kernel) hK h
  simp only [List.map_cons, List.map_nil, List.length_cons, List.length_nil, Nat.zero_add, Nat.reduceAdd] at c
  exact c
theorem nl_select (B g : Nat) (S : WS) (R : Bool) (S1 : WS) (w : World) (hK : Wk B g S w) (h : naS [(⟨#[115, 101, 108, 101, 99, 116]⟩ : ByteArray)] S = (R, S1)) : Calls Tryz.prog 79 #[.pointer (some ⟨g, 0, none⟩), .slice (some ⟨w.heap.size, 0, none⟩) 1 1] (w.alloc (.cells #[.string (⟨#[115, 101, 108, 101, 99, 116]⟩ : ByteArray)] 9)) (OutS B g w R S1) := by
  have c := names_st B g S R S1 [(⟨#[115, 101, 108, 101, 99, 116]⟩ : ByteArray)] w (by decide +kernel) hK h
  simp only [List.map_cons, List.map_nil, List.length_cons, List.length_nil, Nat.zero_add, Nat.reduceAdd] at c
  exact c
theorem sign_st (B g : Nat) (S : WS) (R : Bool) (S1 : WS) (s : ByteArray) (w : World) (hK : Wk B g S w) (h : siS s S = (R, S1)) : Calls Tryz.prog 80 #[.pointer (some ⟨g, 0, none⟩), .string s] w (OutS B g w R S1) := by
  have c := ksign_any B g S s w hK
  rw [h] at c
  exact c
theorem sg_46 (B g : Nat) (S : WS) (R : Bool) (S1 : WS) (w : World) (hK : Wk B g S w) (h : siS (ba [46]) S = (R, S1)) : Calls Tryz.prog 80 #[.pointer (some ⟨g, 0, none⟩), .string ⟨#[46]⟩] w (OutS B g w R S1) := sign_st B g S R S1 _ w hK h
theorem sg_40 (B g : Nat) (S : WS) (R : Bool) (S1 : WS) (w : World) (hK : Wk B g S w) (h : siS (ba [40]) S = (R, S1)) : Calls Tryz.prog 80 #[.pointer (some ⟨g, 0, none⟩), .string ⟨#[40]⟩] w (OutS B g w R S1) := sign_st B g S R S1 _ w hK h
theorem sg_44 (B g : Nat) (S : WS) (R : Bool) (S1 : WS) (w : World) (hK : Wk B g S w) (h : siS (ba [44]) S = (R, S1)) : Calls Tryz.prog 80 #[.pointer (some ⟨g, 0, none⟩), .string ⟨#[44]⟩] w (OutS B g w R S1) := sign_st B g S R S1 _ w hK h
theorem sg_41 (B g : Nat) (S : WS) (R : Bool) (S1 : WS) (w : World) (hK : Wk B g S w) (h : siS (ba [41]) S = (R, S1)) : Calls Tryz.prog 80 #[.pointer (some ⟨g, 0, none⟩), .string ⟨#[41]⟩] w (OutS B g w R S1) := sign_st B g S R S1 _ w hK h
theorem sg_61 (B g : Nat) (S : WS) (R : Bool) (S1 : WS) (w : World) (hK : Wk B g S w) (h : siS (ba [61]) S = (R, S1)) : Calls Tryz.prog 80 #[.pointer (some ⟨g, 0, none⟩), .string ⟨#[61]⟩] w (OutS B g w R S1) := sign_st B g S R S1 _ w hK h
theorem wn_3 (B g : Nat) (S : WS) (R : Bool) (S1 : WS) (w : World) (hK : Wk B g S w) (h : wnS [3] S = (R, S1)) : Calls Tryz.prog 81 #[.pointer (some ⟨g, 0, none⟩), .pointer (some ⟨g, 1, none⟩), .slice (some ⟨w.heap.size, 0, none⟩) 1 1] (w.alloc (.cells #[.int .i64 3] 3)) (OutS B g w R S1) := by
  have b := below_alloc w (.cells #[.int .i64 3] 3)
  have c := wordN_any B g S _ 1 1 [3] _ (hK.later b) (Is.lit w [3] (i64lit _ (by simp)) (by simp))
  rw [h] at c
  exact c.mono fun e w2 k => k.low (b.mono (Nat.le_of_lt hK.lt))
theorem wn_6 (B g : Nat) (S : WS) (R : Bool) (S1 : WS) (w : World) (hK : Wk B g S w) (h : wnS [6] S = (R, S1)) : Calls Tryz.prog 81 #[.pointer (some ⟨g, 0, none⟩), .pointer (some ⟨g, 1, none⟩), .slice (some ⟨w.heap.size, 0, none⟩) 1 1] (w.alloc (.cells #[.int .i64 6] 3)) (OutS B g w R S1) := by
  have b := below_alloc w (.cells #[.int .i64 6] 3)
  have c := wordN_any B g S _ 1 1 [6] _ (hK.later b) (Is.lit w [6] (i64lit _ (by simp)) (by simp))
  rw [h] at c
  exact c.mono fun e w2 k => k.low (b.mono (Nat.le_of_lt hK.lt))
theorem wn_7 (B g : Nat) (S : WS) (R : Bool) (S1 : WS) (w : World) (hK : Wk B g S w) (h : wnS [7] S = (R, S1)) : Calls Tryz.prog 81 #[.pointer (some ⟨g, 0, none⟩), .pointer (some ⟨g, 1, none⟩), .slice (some ⟨w.heap.size, 0, none⟩) 1 1] (w.alloc (.cells #[.int .i64 7] 3)) (OutS B g w R S1) := by
  have b := below_alloc w (.cells #[.int .i64 7] 3)
  have c := wordN_any B g S _ 1 1 [7] _ (hK.later b) (Is.lit w [7] (i64lit _ (by simp)) (by simp))
  rw [h] at c
  exact c.mono fun e w2 k => k.low (b.mono (Nat.le_of_lt hK.lt))
theorem wv_4 (B g : Nat) (S : WS) (R : Bool) (S1 : WS) (w : World) (hK : Wk B g S w) (h : wvS [4] S = (R, S1)) : Calls Tryz.prog 81 #[.pointer (some ⟨g, 0, none⟩), .pointer (some ⟨g, 2, none⟩), .slice (some ⟨w.heap.size, 0, none⟩) 1 1] (w.alloc (.cells #[.int .i64 4] 3)) (OutS B g w R S1) := by
  have b := below_alloc w (.cells #[.int .i64 4] 3)
  have c := wordV_any B g S _ 1 1 [4] _ (hK.later b) (Is.lit w [4] (i64lit _ (by simp)) (by simp))
  rw [h] at c
  exact c.mono fun e w2 k => k.low (b.mono (Nat.le_of_lt hK.lt))
theorem wv_l (B g : Nat) (S : WS) (R : Bool) (S1 : WS) (w : World) (hK : Wk B g S w) (h : wvS [3, 4, 1, 2] S = (R, S1)) : Calls Tryz.prog 81 #[.pointer (some ⟨g, 0, none⟩), .pointer (some ⟨g, 2, none⟩), .slice (some ⟨w.heap.size, 0, none⟩) 4 4] (w.alloc (.cells #[.int .i64 3, .int .i64 4, .int .i64 1, .int .i64 2] 3)) (OutS B g w R S1) := by
  have b := below_alloc w (.cells #[.int .i64 3, .int .i64 4, .int .i64 1, .int .i64 2] 3)
  have c := wordV_any B g S _ 4 4 [3, 4, 1, 2] _ (hK.later b) (Is.lit w [3, 4, 1, 2] (i64lit _ (by simp)) (by simp))
  rw [h] at c
  exact c.mono fun e w2 k => k.low (b.mono (Nat.le_of_lt hK.lt))
theorem num_st (B g : Nat) (S : WS) (R : Bool) (S1 : WS) (w : World) (hK : Wk B g S w) (h : nuS S = (R, S1)) : Calls Tryz.prog 82 #[.pointer (some ⟨g, 0, none⟩)] w (OutS B g w R S1) := by
  have c := knumber_any B g S w hK
  rw [h] at c
  exact c
theorem named_st (B g : Nat) (S : WS) (R : Bool) (S1 : WS) (w : World) (hK : Wk B g S w) (h : nmS S = (R, S1)) : Calls Tryz.prog 91 #[.pointer (some ⟨g, 0, none⟩)] w (OutS B g w R S1) := by
  have c := named_any B g S w hK
  rw [h] at c
  exact c
theorem end_st (B g : Nat) (S : WS) (R : Bool) (S1 : WS) (w : World) (hK : Wk B g S w) (h : enS S = (R, S1)) : Calls Tryz.prog 83 #[.pointer (some ⟨g, 0, none⟩)] w (OutS B g w R S1) := by
  have c := end_any B g S w hK
  rw [h] at c
  exact c
theorem over_st (ao : Option Addr) (n c : Nat) (l : List Wd) (w : World) (hW : Wds w ao n c l) (hB : ∀ x ∈ l, x.tx.size ≤ 1073741824) (S : WS) (h : S = ws0 l) : Calls Tryz.prog 77 #[.slice ao n c] w (OutO w S) := by
  rw [h]
  exact over_any ao n c l w hW hB

end Go.Proofs.YtddfbaaghjcbnaaGreatDoor
