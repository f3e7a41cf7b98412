/-
  What more steps of package classify's walk do: it is begun, its end, a number, a name, all or nothing, what is found. Conditions: as the first steps'.
-/
import Derived.Test.YtffbmfjmdcjcmaaGreatDoorKlSt
import Derived.Shelf.Abstract
namespace Go.Proofs.YtffbmfjmdcjcmaaGreatDoor
open Go.RowKit
set_option linter.unusedVariables false
set_option linter.unusedSimpArgs false

theorem i64lit (l : List Int) (h : ∀ x ∈ l, 0 ≤ x ∧ x ≤ 100) : I64 l := fun x hx => by have := h x hx; omega
/-- What 'over' answers: a walk in a block of its own. -/
def OutO (w : World) (S : WS) (e : Ending) (w' : World) : Prop := e = .returned (.pointer (some ⟨w.heap.size, 0, none⟩)) ∧ Wk w.heap.size w.heap.size S w' ∧ Below w.heap.size w w'
theorem wk_new (w : World) (ao : Option Addr) (n c : Nat) (S : WS) (hW : Wds w ao n c S.left) (hB : WB S)   : Wk w.heap.size w.heap.size S (w.alloc (.cells #[.slice ao n c, .string S.nm, .string S.va] 106)) :=
  ⟨ao, n, c, heap_alloc_new w _, hW.later (below_alloc w _), hW.low, Nat.le_refl _, hB⟩

set_option maxHeartbeats 1000000 in
theorem over_any (ao : Option Addr) (n c : Nat) (l : List Wd) (w : World) (hW : Wds w ao n c l) (hB : ∀ x ∈ l, x.tx.size ≤ 1073741824) :
    Calls Tryz.prog 108 #[.slice ao n c] w (OutO w (ws0 l)) := by
  have hK := hide (wk_new w ao n c (ws0 l) hW (WB.mk0 hB))
  clear hW hB
  go_enter Tryz.func108, Tryz.ntmps108
  go_wp2_with fail
  go_ret
  exact ⟨rfl, unhide hK, below_alloc w _⟩

set_option maxHeartbeats 1000000 in
theorem end_any (B g : Nat) (S : WS) (w : World) (hK : Wk B g S w) : Calls Tryz.prog 114 #[.pointer (some ⟨g, 0, none⟩)] w (OutS B g w (enS S).1 (enS S).2) := by
  obtain ⟨ao, n, c, hA⟩ := hK
  have k0 := hA.c0
  have hnl := hide hA.wds.len
  have HA := hide hA
  clear hA
  go_enter Tryz.func114, Tryz.ntmps114
  go_wp2_with fail
  go_ret
  refine OutS.of ?_ rfl (unhide HA).wk (Below.refl _ _)
  have := unhide hnl
  simp only [enS]
  rw [Bool.eq_iff_iff]
  simp
  constructor
  · intro h; exact List.eq_nil_of_length_eq_zero (by omega)
  · intro h; rw [h] at this; simpa using this.symm

set_option maxHeartbeats 1000000 in
theorem knumber_any (B g : Nat) (S : WS) (w : World) (hK : Wk B g S w) : Calls Tryz.prog 113 #[.pointer (some ⟨g, 0, none⟩)] w (OutS B g w (nuS S).1 (nuS S).2) := by
  have hg := hK.lt
  have b1 := below_alloc w (.cells #[.string ⟨#[]⟩] 9)
  have r1 := heap_alloc_new w (.cells #[.string ⟨#[]⟩] 9)
  have K1 := hK.later b1
  have e1 : (w.alloc (.cells #[.string ⟨#[]⟩] 9)).heap.size = w.heap.size + 1 := by simp
  obtain ⟨w1, hw1⟩ : ∃ w1, w1 = w.alloc (.cells #[.string ⟨#[]⟩] 9) := ⟨_, rfl⟩
  rw [← hw1] at b1 r1 K1 e1
  have b2 := below_alloc w1 (.cells #[.int .i64 4] 3)
  have c := wordX_any B g S w.heap.size ⟨#[]⟩ _ 1 1 [4] _ (K1.later b2) (Is.lit w1 [4] (i64lit _ (by simp)) (by simp)) hg ((b2.block _ (by omega)).trans r1)
  unfold nuS
  generalize wxS [4] S = P at *
  obtain ⟨R, S1⟩ := P
  simp only [List.map_cons, List.map_nil] at c
  rw [e1] at c
  have C := hide c
  have B12 := hide ((b1.mono (Nat.le_of_lt hg)).trans (b2.mono (by omega)))
  clear c hK K1 b1 b2 r1 e1
  subst hw1
  go_enter Tryz.func113, Tryz.ntmps113
  go_wp2_with (go_at_call 112; refine (unhide C).mono ?_; rintro e w3 ⟨rfl, hk, bk⟩)
  go_ret
  exact ⟨rfl, hk, (unhide B12).trans bk⟩

set_option maxHeartbeats 1000000 in
theorem named_any (B g : Nat) (S : WS) (w : World) (hK : Wk B g S w) : Calls Tryz.prog 123 #[.pointer (some ⟨g, 0, none⟩)] w (OutS B g w (nmS S).1 (nmS S).2) := by
  have hg := hK.lt
  have b2 := below_alloc w (.cells #[.int .i64 1, .int .i64 2] 3)
  have c := wordN_any B g S _ 2 2 [1, 2] _ (hK.later b2) (Is.lit w [1, 2] (i64lit _ (by simp)) (by simp))
  unfold nmS
  generalize wnS [1, 2] S = P at *
  obtain ⟨R, S1⟩ := P
  simp only [List.map_cons, List.map_nil] at c
  have C := hide c
  have B2 := hide (b2.mono (Nat.le_of_lt hg))
  clear c hK b2
  go_enter Tryz.func123, Tryz.ntmps123
  go_wp2_with (go_at_call 112; refine (unhide C).mono ?_; rintro e w3 ⟨rfl, hk, bk⟩)
  go_ret
  exact ⟨rfl, hk, (unhide B2).trans bk⟩

/-- A walk, loaded whole. -/
theorem wk_info (a b c : Value) : (Tryz.prog.info? 106).map (·.size) = some (#[a, b, c] : Array Value).size := by
  rw [show (#[a, b, c] : Array Value).size = 3 from rfl]
  kernel_rfl
def Wk0 : Array Value := #[.slice none 0 0, .string ⟨#[]⟩, .string ⟨#[]⟩]
theorem zeroWk (w : World) : (zeroValue 106).run Tryz.prog w = .ok (.agg Wk0) w := by kernel_rfl

theorem wk_copy {B g : Nat} {S : WS} {w w1 w2 : World} {ao : Option Addr} {n c : Nat} (HA : Hid (WkA B g ao n c S w)) (b1 : Below w.heap.size w w1) (r2 : w2.heap[w.heap.size]? = some (.cells #[.slice ao n c, .string S.nm, .string S.va] 106 (0, 0))) (g2 : Gb w.heap.size w1 w2) : Wk B w.heap.size S w2 :=
  ⟨ao, n, c, r2, (unhide HA).wds.later (belowG b1 g2 (Nat.le_refl _) b1.size), (unhide HA).low, Nat.le_trans (unhide HA).bg (Nat.le_of_lt (unhide HA).lt), (unhide HA).wb⟩

set_option maxHeartbeats 1000000 in
theorem together_any (B g : Nat) (S : WS) (F : Nat) (cs : Array Value) (a : St) (w : World) (hK : Wk B g S w) (hE : ∀ args w, (callFunc F args).run Tryz.prog w = .ok (.enter F args) w)
    (hF : ∀ q wx, w.heap.size ≤ q → Below w.heap.size w wx → Wk B q S wx → Calls Tryz.prog F (#[.pointer (some ⟨q, 0, none⟩)] ++ cs) wx (OutS B q wx (a S).1 (a S).2)) :
    Calls Tryz.prog 156 #[.pointer (some ⟨g, 0, none⟩), .func (.func F) #[] cs] w fun e w' => OutS B g w (tog a S).1 (tog a S).2 e w' ∧ ∀ k, k < w.heap.size → k ≠ g → w'.heap[k]? = w.heap[k]? := by
  obtain ⟨ao, n, c, hA⟩ := hK
  have hg := hA.lt
  have HA := hide hA
  have HF := hide hF
  unfold tog
  generalize a S = P at *
  obtain ⟨R, S1⟩ := P
  simp only at HF ⊢
  clear hA hF
  cases R with
  | false =>
    go_enter Tryz.func156, Tryz.ntmps156
    go_wp2_with (first | (with_reducible show wpList Tryz.prog _ _ (Oper.mk _ (Op.load 106 _) _ _ _ none :: _) _ _; refine wpList_load_row rfl _ (.tmp 7) rfl g (by simp [Act.eval, Act.put]) _ _ (0, 0) _ (unhide HA).row Tryz.underlying106 rfl (wk_info _ _ _) ?_) | (with_reducible show wpList Tryz.prog _ _ (Oper.mk _ (Op.alloc 106) _ _ _ none :: _) _ _; refine wpList_alK rfl _ rfl Wk0 zeroWk ?_; intro w1 r1 b1 z1) | (with_reducible show wpList Tryz.prog _ _ (Oper.mk _ (Op.store 106 _ _) _ _ _ none :: _) _ _; refine wpList_stK rfl _ (.tmp 5) (.tmp 8) rfl w.heap.size #[.slice ao n c, .string S.nm, .string S.va] Wk0 (by simp [Act.eval, Act.put]) (by simp [Act.eval, Act.put]) r1 (wk_info _ _ _) rfl (by simp [Value.oneCell']) ?_; intro w2 r2 g2 z2; have b2 := belowG b1 g2 (Nat.le_refl _) b1.size; have hk2 : Wk B w.heap.size S w2 := wk_copy HA b1 r2 g2) | (go_at_fn F; refine (unhide HF w.heap.size w2 (Nat.le_refl _) b2 hk2).mono ?_; rintro e w3 ⟨rfl, hk3, b3⟩))
    go_ret
    exact ⟨OutS.of rfl rfl ((unhide HA).below (b2.trans b3) hg).wk ((b2.trans b3).mono (Nat.le_of_lt hg)), fun k hk _ => (b2.trans b3).block k hk⟩
  | true =>
    go_enter Tryz.func156, Tryz.ntmps156
    go_wp2_with (first | (with_reducible show wpList Tryz.prog _ _ (Oper.mk _ (Op.load 106 _) _ _ _ none :: _) _ _; refine wpList_load_row rfl _ (.tmp 7) rfl g (by simp [Act.eval, Act.put]) _ _ (0, 0) _ (unhide HA).row Tryz.underlying106 rfl (wk_info _ _ _) ?_) | (with_reducible show wpList Tryz.prog _ _ (Oper.mk _ (Op.alloc 106) _ _ _ none :: _) _ _; refine wpList_alK rfl _ rfl Wk0 zeroWk ?_; intro w1 r1 b1 z1) | (with_reducible show wpList Tryz.prog _ _ (Oper.mk _ (Op.store 106 _ _) _ _ _ none :: _) _ _; refine wpList_stK rfl _ (.tmp 5) (.tmp 8) rfl w.heap.size #[.slice ao n c, .string S.nm, .string S.va] Wk0 (by simp [Act.eval, Act.put]) (by simp [Act.eval, Act.put]) r1 (wk_info _ _ _) rfl (by simp [Value.oneCell']) ?_; intro w2 r2 g2 z2; have b2 := belowG b1 g2 (Nat.le_refl _) b1.size; have hk2 : Wk B w.heap.size S w2 := wk_copy HA b1 r2 g2) | (go_at_fn F; refine (unhide HF w.heap.size w2 (Nat.le_refl _) b2 hk2).mono ?_; rintro e w3 ⟨rfl, ⟨ao3, n3, c3, hA3⟩, b3⟩; have HA3 := hide hA3; have hA1 := (unhide HA).below (b2.trans b3) hg) | (with_reducible show wpList Tryz.prog _ _ (Oper.mk _ (Op.load 106 _) _ _ _ none :: _) _ _; refine wpList_load_row rfl _ (.tmp 5) rfl w.heap.size (by simp [Act.eval, Act.put]) _ _ (0, 0) _ (unhide HA3).row Tryz.underlying106 rfl (wk_info _ _ _) ?_) | (with_reducible show wpList Tryz.prog _ _ (Oper.mk _ (Op.store 106 _ _) _ _ _ none :: _) _ _; refine wpList_stK rfl _ (.tmp 14) (.tmp 13) rfl g #[.slice ao3 n3 c3, .string S1.nm, .string S1.va] #[.slice ao n c, .string S.nm, .string S.va] (by simp [Act.eval, Act.put]) (by simp [Act.eval, Act.put]) hA1.row (wk_info _ _ _) rfl (by simp [Value.oneCell']) ?_; intro w4 r4 g4 z4))
    go_ret
    have bz := (b2.trans b3).mono (Nat.le_of_lt hg)
    have b4 : Below g w3 w4 := belowG (Below.refl g w3) g4 (Nat.le_refl _) (Nat.le_trans (Nat.le_of_lt hg) (b2.trans b3).size)
    exact ⟨OutS.of rfl rfl ⟨ao3, n3, c3, r4, (unhide HA3).wds.keepZ (low_keep (unhide HA3).low b4 (unhide HA).bg), (unhide HA3).low, (unhide HA).bg, (unhide HA3).wb⟩ (bz.trans b4), fun k hk hne => (g4.block k (Nat.lt_of_lt_of_le hk (b2.trans b3).size) hne).trans ((b2.trans b3).block k hk)⟩

end Go.Proofs.YtffbmfjmdcjcmaaGreatDoor
