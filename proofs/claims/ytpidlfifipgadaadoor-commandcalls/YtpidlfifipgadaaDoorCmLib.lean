/-
  What WithStmt of commands returns, and the statements' helpers: SameCommand where two commands are the same, small, and the chapter's examples that every statement of layer 13 asks first. Conditions: the slices can be read; at most 1000000 bytes.
-/
import Derived.Test.YtpidlfifipgadaaDoorCmFct
import Derived.Test.YtpidlfifipgadaaDoorCmRead
import Derived.Test.YtpidlfifipgadaaDoorSameB
namespace Go.Proofs.YtpidlfifipgadaaDoor
open Go.RowKit
set_option linter.unusedVariables false
set_option linter.unusedSimpArgs false

/-- A struct is put into a new block. -/
theorem wpList_storeN {ops : Array Oper} {rest : List Oper} {o : Oper} {a : Act} {w : World} {c0 : Array Value} {Q : Exit → Act → World → Prop} (hgd : o.guard = none) (x y : Operand) (ho : o.op = .store 26 x y)
    (C : Cd) (hx : a.eval x = .pointer (some ⟨w.heap.size, 0, none⟩)) (hy : a.eval y = .agg C.row) (h8 : c0.size = 8)
    (h : wpList Tryd.prog ops Q rest (a.put o.dst undef) (w.alloc (.cells C.row 26))) : wpList Tryd.prog ops Q (o :: rest) a (w.alloc (.cells c0 26)) := by
  refine wpList_store_row hgd _ x y ho w.heap.size C.row hx hy _ c0 (heap_alloc_new w _) (by kernel_rfl) (by rw [h8]; rfl) (cd_one C) ?_
  rw [World.setRow_alloc_new]
  exact h

/-- WithStmt: the bytes, the error. -/
def wsP (b : List Int) (id : Int) : Option (List Int) × Int :=
  if (rdP b).2 ≠ 0 then (none, (rdP b).2) else if abt (rdP b).1.k = false then (none, 2) else (some (cmB { (rdP b).1 with s := id }), 0)

theorem abt_in {k : Int} (h : abt k = true) : 1 ∈ fl k := by
  unfold abt at h
  simp only [Bool.or_eq_true, beq_iff_eq] at h
  rcases h with h | h | h | h | h <;> subst h <;> decide
theorem nf_with {c : Cm} {id : Int} (h : Nf c) (ha : abt c.k = true) : Nf { c with s := id } := ⟨h.f1, h.t, .inl (abt_in ha), h.p, h.f, h.n, h.o, h.d⟩

/-- The bytes of a slice lie below what is new. -/
theorem Bs.new {w w' : World} {xo : Option Addr} {xn xc : Nat} {l : List Int} (h : Bs w xo xn xc l) (hb : Gb w.heap.size w w') : Bs w' xo xn xc l :=
  h.gb0 hb (h.under.imp id (fun q z => by have := q _ z; omega))

theorem ckE {c : Cm} {xo : Option Addr} {xn xc : Nat} {w : World} (h : Bs w xo xn xc c.d) (hn : Nf c) : ckC (c.cd xo xn xc) = 0 := (ck_iff c xo xn xc h.len).2 hn

set_option maxHeartbeats 2000000 in
set_option maxRecDepth 100000 in
theorem cmWith_any (bo : Option Addr) (bn bc : Nat) (b : List Int) (id : Int) (w : World) (h : Bs w bo bn bc b) (hn : bn ≤ 1000000) (hi : 0 ≤ id ∧ id < 4294967296) :
    Calls Tryd.prog 7 #[.slice bo bn bc, .int .u32 id] w fun e w' => OutP w (wsP b id).1 (wsP b id).2 e w' := by
  have cR := hide (cmRead_any bo bn bc b w h (by omega))
  have hag := cm_again h.byt
  have hlen := h.len
  have HW := hide (show wsP b id = if (rdP b).2 ≠ 0 then (none, (rdP b).2) else if abt (rdP b).1.k = false then (none, 2) else (some (cmB { (rdP b).1 with s := id }), 0) from rfl)
  generalize wsP b id = WW at *
  clear h
  obtain ⟨c, er, hr⟩ : ∃ c er, rdP b = (c, er) := ⟨_, _, rfl⟩
  rw [hr] at cR hag HW
  simp only at hag HW
  clear hr
  have HAG := hide hag
  clear hag
  by_cases he : er = 0
  · subst he
    rw [if_neg (by simp)] at HW
    obtain ⟨a1, a2, a3, a4, a5⟩ := unhide HAG rfl
    have cA := hide (fun wx => about_any c.k wx)
    cases qa : abt c.k
    · rw [qa, if_pos rfl] at HW
      rw [qa] at cA
      clear a1 a2 a3 a4 a5 HAG
      go_enter Tryd.func7, Tryd.ntmps7
      go_wp2_with fail
      refine (unhide cR).mono ?_
      rintro e w1 ⟨xo, xn, xc, rfl, hb1, ho1, b1⟩
      have k0 : (w1.alloc (.cells (c.cd xo xn xc).row 26)).cell? ⟨w1.heap.size, 0, none⟩ = some (.int .u8 c.k) := by rw [cell_top w1 _ _ 0 _ rfl]; rfl
      have B1 := hide (b1.trans ((below_alloc w1 (.cells (c.cd xo xn xc).row 26)).mono b1.size))
      clear hb1 ho1 b1 cR
      go_wp2_with (first | (go_at_call 19; refine same_world (unhide cA _) ?_) | (with_reducible show wpList Tryd.prog _ _ (Oper.mk _ (Op.store 26 _ _) _ _ _ none :: _) _ _; refine wpList_storeN rfl (.tmp 6) (.tmp 11) rfl (c.cd xo xn xc) (by simp [Act.eval, Act.put]) (by simp [Act.eval, Act.put]) rfl ?_))
      go_ret2
      rw [unhide HW]
      exact ⟨rfl, unhide B1⟩
    · rw [qa, if_neg (by simp)] at HW
      rw [qa] at cA
      have NF := hide (nf_with (id := id) a2 qa)
      have OK := hide (show ({ c with s := id } : Cm).ok from ⟨a3.k, hi, a3.p, a3.f, a3.n, a3.o, a3.d⟩)
      clear a1 a2 a3 HAG
      go_enter Tryd.func7, Tryd.ntmps7
      go_wp2_with fail
      refine (unhide cR).mono ?_
      rintro e w1 ⟨xo, xn, xc, rfl, hb1, ho1, b1⟩
      have hal := heap_alloc_new w1 (.cells (c.cd xo xn xc).row 26)
      have k0 : (w1.alloc (.cells (c.cd xo xn xc).row 26)).cell? ⟨w1.heap.size, 0, none⟩ = some (.int .u8 c.k) := by rw [cell_top w1 _ _ 0 _ rfl]; rfl
      have k2 : (w1.alloc (.cells (c.cd xo xn xc).row 26)).cell? ⟨w1.heap.size, 2, none⟩ = some (.int .u32 c.s) := by rw [cell_top w1 _ _ 2 _ rfl]; rfl
      have f2 : (w1.alloc (.cells (c.cd xo xn xc).row 26)).frozen? ⟨w1.heap.size, 2, none⟩ = false := frozen_of_row _ _ 2 _ _ hal
      have HS := hide (show (w1.alloc (.cells ((c.cd xo xn xc).row.setIfInBounds 2 (.int .u32 id)) 26)).heap[w1.heap.size]? = some (.cells (({ c with s := id } : Cm).cd xo xn xc).row 26 (0, 0)) from heap_alloc_new w1 _)
      have gS : Gb w1.heap.size w1 (w1.alloc (.cells ((c.cd xo xn xc).row.setIfInBounds 2 (.int .u32 id)) 26)) := Gb.of (below_alloc w1 _)
      have bS := b1.trans ((gS.below (Nat.le_refl _)).mono b1.size)
      have cP := hide (cmAppend_any none 0 0 [] { c with s := id } xo xn xc _ (Bs.nought _) (unhide OK) (hb1.new gS) (by have := hb1.len; simp only at this ⊢; omega))
      rw [ckE (c := { c with s := id }) (hb1.new gS) (unhide NF), if_pos rfl, List.nil_append] at cP
      have BS := hide bS
      clear hb1 ho1 b1 cR gS bS hal
      go_wp2_with (first | (go_at_call 19; refine same_world (unhide cA _) ?_) | (with_reducible show wpList Tryd.prog _ _ (Oper.mk _ (Op.store 26 _ _) _ _ _ none :: _) _ _; refine wpList_storeN rfl (.tmp 6) (.tmp 11) rfl (c.cd xo xn xc) (by simp [Act.eval, Act.put]) (by simp [Act.eval, Act.put]) rfl ?_) | (with_reducible show wpList Tryd.prog _ _ (Oper.mk _ (Op.load 26 _) _ _ _ none :: _) _ _; refine wpList_loadC rfl (.tmp 6) rfl w1.heap.size (({ c with s := id } : Cm).cd xo xn xc) (by simp [Act.eval, Act.put]) (unhide HS) ?_))
      refine (unhide cP).mono ?_
      rintro e w2 ⟨ao, n, cc, rfl, m2, b2⟩
      have M2 := hide (m2.mono (unhide BS).size)
      have B2 := hide ((unhide BS).trans (b2.mono (unhide BS).size))
      clear m2 b2 cP
      go_wp2_with fail
      go_ret2
      rw [unhide HW]
      exact ⟨_, _, _, rfl, unhide M2, unhide B2⟩
  · rw [if_pos he] at HW
    have he' : (er != 0) = true := by simpa using he
    clear he HAG
    go_enter Tryd.func7, Tryd.ntmps7
    go_wp2_with fail
    refine (unhide cR).mono ?_
    rintro e w1 ⟨xo, xn, xc, rfl, hb1, ho1, b1⟩
    have B1 := hide (b1.trans ((below_alloc w1 (.cells (c.cd xo xn xc).row 26)).mono b1.size))
    clear hb1 ho1 b1 cR
    go_wp2_with (with_reducible show wpList Tryd.prog _ _ (Oper.mk _ (Op.store 26 _ _) _ _ _ none :: _) _ _; refine wpList_storeN rfl (.tmp 6) (.tmp 11) rfl (c.cd xo xn xc) (by simp [Act.eval, Act.put]) (by simp [Act.eval, Act.put]) rfl ?_)
    go_ret2
    rw [unhide HW]
    exact ⟨rfl, unhide B1⟩

theorem same_self (bo : Option Addr) (m d : Nat) (ao : Option Addr) (n c : Nat) (l : List Int) (w : World) (h : Bs w ao n c l) (k : Bs w bo m d l) :
    Calls Tryd.prog 6 #[.slice ao n c, .slice bo m d] w fun e w' => e = .returned (.bool true) ∧ w' = w :=
  (sameBytes_any ao n c l bo m d l w h k).mono fun e w' ⟨h1, h2⟩ => ⟨by rw [h1, decide_eq_true rfl], h2⟩


set_option maxHeartbeats 1000000 in
set_option maxRecDepth 100000 in
theorem small_any (c : Cd) (w : World) :
    Calls Tryd.prog 11 #[.agg c.row] w fun e w' => e = .returned (.bool (decide (c.t.size ≤ 3000) && decide (c.dn ≤ 3000))) ∧ Below w.heap.size w w' := by
  obtain ⟨k, t, s, p, f, n, o, ao, dn, dc⟩ := c
  simp only [Cd.row]
  by_cases q1 : t.size ≤ 3000
  · have q1' : ((t.size : Int) ≤ 3000) := by omega
    by_cases q2 : dn ≤ 3000
    · have q2' : ((dn : Int) ≤ 3000) := by omega
      rw [decide_eq_true q1, decide_eq_true q2]
      go_enter Tryd.func11, Tryd.ntmps11
      go_wp2_with fail
      go_ret
      exact ⟨rfl, below_alloc w _⟩
    · have q2' : ¬ ((dn : Int) ≤ 3000) := by omega
      rw [decide_eq_true q1, decide_eq_false q2]
      go_enter Tryd.func11, Tryd.ntmps11
      go_wp2_with fail
      go_ret
      exact ⟨rfl, below_alloc w _⟩
  · have q1' : ¬ ((t.size : Int) ≤ 3000) := by omega
    rw [decide_eq_false q1]
    go_enter Tryd.func11, Tryd.ntmps11
    go_wp2_with fail
    go_ret
    exact ⟨rfl, below_alloc w _⟩

/-- The chapter's examples. -/
def ex1 : Cm := ⟨3, ⟨#[115, 101, 108, 101, 99, 116, 32, 49]⟩, 0, 0, 0, 0, 0, []⟩
def ex2 : Cm := ⟨23, ⟨#[]⟩, 7, 0, 0, 0, 0, [9]⟩
theorem ex1_ok : ex1.ok := ⟨by decide, by decide, by decide, by decide, by decide, by decide, Byt.nil⟩
theorem ex1_nf : Nf ex1 := ⟨by decide, .inl (by decide), .inr rfl, .inr rfl, .inr rfl, .inr rfl, .inr rfl, .inr rfl⟩
theorem ex1_b : cmB ex1 = [3, 115, 101, 108, 101, 99, 116, 32, 49] := by kernel_rfl
theorem ex2_r : rdP [23, 7, 0, 0, 0, 0, 1, 0, 0, 0, 9] = (ex2, 0) := by kernel_rfl

set_option maxHeartbeats 2000000 in
set_option maxRecDepth 100000 in
theorem cmLives_any (w : World) : Calls Tryd.prog 8 #[] w fun e w' => e = .returned (.bool true) ∧ Below w.heap.size w w' := by
  have cA := hide (cmAppend_any none 0 0 [] ex1 none 0 0 w (Bs.nought w) ex1_ok (Bs.nought w) (by show 0 + 8 * (8 + 0) + 1000 ≤ 1099511627776; omega))
  rw [ckE (Bs.nought w) ex1_nf, if_pos rfl, ex1_b, List.nil_append] at cA
  go_enter Tryd.func8, Tryd.ntmps8
  go_wp2_with fail
  refine (unhide cA).mono ?_
  rintro e w1 ⟨ao, n, c, rfl, m1, b1⟩
  have b2 := below_alloc w1 (.cells (([23, 7, 0, 0, 0, 0, 1, 0, 0, 0, 9] : List Int).map (Value.int .u8)).toArray 5)
  have cR := hide (cmRead_any _ _ _ _ _ (Bs.lit w1 [23, 7, 0, 0, 0, 0, 1, 0, 0, 0, 9] (by intro x hx; simp at hx; omega) (by decide)) (by show 11 ≤ 1099511627776; omega))
  rw [ex2_r] at cR
  have B2 := hide (b1.trans (b2.mono b1.size))
  have M2 := hide (m1.bs.later b2)
  clear m1 b1 b2 cA
  go_wp2_with fail
  refine (unhide cR).mono ?_
  rintro e w3 ⟨xo, xn, xc, rfl, h3, _, b3⟩
  have b4 := b3.trans ((below_alloc w3 (.cells (ex2.cd xo xn xc).row 26)).mono b3.size)
  have hs := ((unhide M2).later b4).str
  rw [show strOfNums [3, 115, 101, 108, 101, 99, 116, 32, 49] = ⟨#[3, 115, 101, 108, 101, 99, 116, 32, 49]⟩ by kernel_rfl] at hs
  have k0 : (w3.alloc (.cells (ex2.cd xo xn xc).row 26)).cell? ⟨w3.heap.size, 0, none⟩ = some (.int .u8 23) := by rw [cell_top w3 _ _ 0 _ rfl]; rfl
  have k2 : (w3.alloc (.cells (ex2.cd xo xn xc).row 26)).cell? ⟨w3.heap.size, 2, none⟩ = some (.int .u32 7) := by rw [cell_top w3 _ _ 2 _ rfl]; rfl
  have k7 : (w3.alloc (.cells (ex2.cd xo xn xc).row 26)).cell? ⟨w3.heap.size, 7, none⟩ = some (.slice xo xn xc) := by rw [cell_top w3 _ _ 7 _ rfl]; rfl
  have b5 := below_alloc (w3.alloc (.cells (ex2.cd xo xn xc).row 26)) (.cells #[.int .u8 9] 5)
  have cS := hide (same_self _ _ _ xo xn xc [9] _ (show Bs _ xo xn xc [9] from (h3.later (below_alloc w3 (.cells (ex2.cd xo xn xc).row 26))).later b5) (Bs.one (w3.alloc (.cells (ex2.cd xo xn xc).row 26)) 9 (by decide) (by decide)))
  rw [show (w3.alloc (.cells (ex2.cd xo xn xc).row 26)).heap.size = w3.heap.size + 1 by simp] at cS
  have B5 := hide ((unhide B2).trans (b4.mono (unhide B2).size))
  have B6 := hide b5
  clear h3 b3 b4 b5 cR M2
  go_wp2_with (first | (with_reducible show wpList Tryd.prog _ _ (Oper.mk _ (Op.store 26 _ _) _ _ _ none :: _) _ _; refine wpList_storeN rfl (.tmp 3) (.tmp 13) rfl (ex2.cd xo xn xc) (by simp [Act.eval, Act.put]) (by simp [Act.eval, Act.put]) rfl ?_) | (go_at_call 6; refine same_world (unhide cS) ?_))
  go_ret
  exact ⟨rfl, (unhide B5).trans ((unhide B6).mono (unhide B5).size)⟩

end Go.Proofs.YtpidlfifipgadaaDoor
