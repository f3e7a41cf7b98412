/-
  What ReadBinary of package row returns. It writes nothing that was there. Conditions: the slices can be read, at most 100,000 bytes; types are bytes.
-/
import Derived.Test.YtkcblnojgonblaaGreatDoorMRp
import Derived.Test.YtkcblnojgonblaaGreatDoorRwCon
namespace Go.Proofs.YtkcblnojgonblaaGreatDoor
open Go.RowKit
set_option linter.unusedVariables false
set_option linter.unusedSimpArgs false

theorem tys_under {w : World} {ao : Option Addr} {n c : Nat} {l : List Ty} (h : Tys w ao n c l) : n = 0 ∨ ∀ k, ob ao k → k < w.heap.size := by
  rcases h.at' with h0 | ⟨b', off, e, hc⟩
  · exact .inl h0
  · by_cases hz : n = 0
    · exact .inl hz
    · right
      rintro k ⟨a, rfl, ha⟩
      obtain ⟨p, hp⟩ : ∃ p, l[0]? = some p := ⟨_, List.getElem?_eq_getElem (by rw [h.len]; omega)⟩
      have := (hc 0 p hp).lt
      simp at e
      subst e
      simp at ha this
      omega
theorem below_al2 {w : World} (x y : Obj) : Below w.heap.size w ((w.alloc x).alloc y) := (below_alloc w x).trans ((below_alloc _ y).mono (by simp))
theorem OutU.no {w : World} {bo : Option Addr} {b : List Int} {ts : List Ty} {e : Ending} {w' : World} (h : OutU w bo b ts e w') {E : Int} (hE : nuE b ts = E) (h0 : E ≠ 0) : e = .returned (.tuple #[.slice none 0 0, .slice none 0 0, .int .i64 E]) ∧ Below w.heap.size w w' := by
  unfold OutU at h
  rw [hE] at h
  rwa [if_neg h0] at h
theorem OutU.yes {w : World} {bo : Option Addr} {b : List Int} {ts : List Ty} {e : Ending} {w' : World} (h : OutU w bo b ts e w') (h0 : nuE b ts = 0) : ∃ no nn nc lo ln lc, e = .returned (.tuple #[.slice no nn nc, .slice lo ln lc, .int .i64 0]) ∧ Bs w' no nn nc (nuB b ts.length) ∧ Bs w' lo ln lc (nuL b ts.length) ∧ (∀ k, ob no k → ob bo k) ∧ (∀ k, ob lo k → ob bo k) ∧ Below w.heap.size w w' := by
  unfold OutU at h
  rwa [if_pos h0] at h
theorem nuB_len {b : List Int} {ts : List Ty} (hE : nuE b ts = 0) : (nuB b ts.length).length = (ts.length + 9) / 8 := by
  unfold nuE at hE
  repeat' split at hE
  all_goals first | (exact absurd hE (by decide)) | skip
  unfold nuB
  rw [List.length_take, List.length_drop]
  omega
/-- The world that gather begins in, and what it answers there. -/
theorem rb_gather (bo : Option Addr) (bn bc : Nat) (b : List Int) (tyo : Option Addr) (m tc : Nat) (ts : List Ty) (w w2 w3 : World) (no : Option Addr) (nn nc : Nat) (lo : Option Addr) (ln lc : Nat)
    (h : Below w.heap.size w w2 ∧ One w2 w.heap.size 24 (.slice tyo m tc) ∧ Bs w2 bo bn bc b ∧ Tys w2 tyo m tc ts) (hE : nuE b ts = 0) (x1 : Bs w3 no nn nc (nuB b ts.length)) (x2 : Bs w3 lo ln lc (nuL b ts.length)) (b3 : Below w2.heap.size w2 w3) (hs : w.heap.size < w2.heap.size) (hml : ts.length = m) (h4 : m ≤ 4096) (hT : ∀ p ∈ ts, 0 ≤ p.t ∧ p.t < 256) (hn : b.length ≤ 100000) :
    ((w3.alloc (.cells #[.slice no nn nc] 29)).alloc (.cells #[.slice lo ln lc] 29)).cell? ⟨w.heap.size, 0, none⟩ = some (.slice tyo m tc) ∧
    Calls Tryz.prog 22 #[.int .i64 (m : Int), (.func (.func 23) #[] #[.pointer (some ⟨w3.heap.size, 0, none⟩), .pointer (some ⟨w3.heap.size + 1, 0, none⟩), .pointer (some ⟨w.heap.size, 0, none⟩)]), (.func (.func 26) #[] #[.pointer (some ⟨w3.heap.size + 1, 0, none⟩)])] ((w3.alloc (.cells #[.slice no nn nc] 29)).alloc (.cells #[.slice lo ln lc] 29)) fun e w' => OutV ((w3.alloc (.cells #[.slice no nn nc] 29)).alloc (.cells #[.slice lo ln lc] 29)) (w3.heap.size + 1) (gat (bx (nuB b m) ts) m (nuL b m)) e w' := by
  obtain ⟨q1, q2, q3, q4⟩ := h
  have h3 := b3.size
  have r0 : (w3.alloc (.cells #[.slice no nn nc] 29)).heap[w3.heap.size]? = some (.cells #[.slice no nn nc] 29 (0, 0)) := heap_alloc_new w3 _
  have z0 : (w3.alloc (.cells #[.slice no nn nc] 29)).heap.size = w3.heap.size + 1 := by simp
  have r1 := heap_alloc_new (w3.alloc (.cells #[.slice no nn nc] 29)) (.cells #[.slice lo ln lc] 29)
  rw [z0] at r1
  have bA := below_al2 (w := w3) (.cells #[.slice no nn nc] 29) (.cells #[.slice lo ln lc] 29)
  have bB := below_alloc (w3.alloc (.cells #[.slice no nn nc] 29)) (.cells #[.slice lo ln lc] 29)
  have zG : ((w3.alloc (.cells #[.slice no nn nc] 29)).alloc (.cells #[.slice lo ln lc] 29)).heap.size = w3.heap.size + 2 := by simp
  have o3 : One w3 w.heap.size 24 (.slice tyo m tc) := q2.later b3
  have oN : One ((w3.alloc (.cells #[.slice no nn nc] 29)).alloc (.cells #[.slice lo ln lc] 29)) w3.heap.size 29 (.slice no nn nc) := One.later (w := w3.alloc (.cells #[.slice no nn nc] 29)) r0 bB
  have t3 := q4.later b3
  refine ⟨(o3.later bA).cell, ?_⟩
  subst hml
  refine gatherB_any ts.length w3.heap.size (w3.heap.size + 1) w.heap.size (nuB b ts.length) ts (nuL b ts.length) _ ⟨lo, ln, lc, r1, x2.later bA, ?_⟩ ⟨⟨no, nn, nc, oN, x1.later bA, ?_⟩, ⟨tyo, ts.length, tc, o3.later bA, t3.later bA, ?_⟩, by omega, by omega⟩ rfl ?_ hT h4 ?_ ?_
  · exact (bs_under x2).imp id (fun z k hk => by have := z k hk; omega)
  · exact (bs_under x1).imp id (fun z k hk => by have := z k hk; omega)
  · exact (tys_under t3).imp id (fun z k hk => by have := z k hk; omega)
  · rw [nuB_len hE]; omega
  · unfold nuL; rw [List.length_drop]; omega
  · rw [zG]; omega
theorem rb_end {w w2 w3 w' : World} {x y : Obj} (h : Below w.heap.size w w2) (b3 : Below w2.heap.size w2 w3) (hg : Gb (w3.heap.size + 1) ((w3.alloc x).alloc y) w') : Below w.heap.size w w' := by
  have k := vbup (vbup h b3) (below_al2 x y)
  have s1 := (vbup h b3).size
  exact ⟨hg.os.trans k.os, hg.tape.trans k.tape, hg.output.trans k.output, Nat.le_trans k.size hg.size, fun i hi => (hg.block i (Nat.lt_of_lt_of_le hi k.size) (by omega)).trans (k.block i hi)⟩
theorem rb_size {w w2 w3 : World} {x y : Obj} (h : Below w.heap.size w w2) (b3 : Below w2.heap.size w2 w3) : w.heap.size ≤ ((w3.alloc x).alloc y).heap.size := (vbup (vbup h b3) (below_al2 x y)).size
theorem any_unk (ts : List Ty) : ts.any (fun p => decide (kdV p.t p.un < 0)) = ts.any unk := rfl

set_option maxHeartbeats 4000000 in
set_option maxRecDepth 100000 in
theorem readBin_any (bo : Option Addr) (bn bc : Nat) (b : List Int) (tyo : Option Addr) (m tc : Nat) (ts : List Ty) (w : World) (hb : Bs w bo bn bc b) (ht : Tys w tyo m tc ts) (hT : ∀ p ∈ ts, 0 ≤ p.t ∧ p.t < 256) (hn : b.length ≤ 100000) :
    Calls Tryz.prog 6 #[.slice bo bn bc, .slice tyo m tc] w fun e w' => OutW w (rbR b ts) e w' := by
  obtain ⟨RES, hRES⟩ : ∃ z, z = rbR b ts := ⟨_, rfl⟩
  rw [← hRES]
  have hml := ht.len
  have hle := ht.le
  have hmx := ht.max
  have hbl := hb.len
  have b1 := below_alloc w (.cells #[.slice tyo m tc] 24)
  have r1 := heap_alloc_new w (.cells #[.slice tyo m tc] 24)
  have z1 : (w.alloc (.cells #[.slice tyo m tc] 24)).heap.size = w.heap.size + 1 := by simp
  have O1 : One (w.alloc (.cells #[.slice tyo m tc] 24)) w.heap.size 24 (.slice tyo m tc) := r1
  have c1 := O1.cell
  by_cases h4 : 4096 < m
  · have g1 : ((4096 : Nat) : Int) < (m : Int) := by omega
    have HR := hide (show RES = ([], 3) by rw [hRES]; exact if_pos (by omega))
    have B1 := hide b1
    clear hRES hb ht b1 r1 O1
    go_enter Tryz.func6, Tryz.ntmps6
    go_wp2_with fail
    go_ret2
    rw [unhide HR]
    exact ⟨none, 0, 0, rfl, VMine.nought _ _, unhide B1⟩
  have g1 : ¬ ((4096 : Int) < (m : Int)) := by omega
  have cC := hide (contains_any tyo m tc ts (w.alloc (.cells #[.slice tyo m tc] 24)) (ht.later b1) hT)
  have HR := hide (show RES = if ts.any unk = true then ([], 2) else if nuE b ts ≠ 0 then ([], nuE b ts) else gat (bx (nuB b ts.length) ts) ts.length (nuL b ts.length) by rw [hRES]; unfold rbR; rw [if_neg (by omega)]; rfl)
  have H1 := hide (show Below w.heap.size w (w.alloc (.cells #[.slice tyo m tc] 24)) ∧ One (w.alloc (.cells #[.slice tyo m tc] 24)) w.heap.size 24 (.slice tyo m tc) ∧ Bs (w.alloc (.cells #[.slice tyo m tc] 24)) bo bn bc b ∧ Tys (w.alloc (.cells #[.slice tyo m tc] 24)) tyo m tc ts from ⟨b1, O1, hb.later b1, ht.later b1⟩)
  have HT := hide hT
  have HU := hide (bs_under hb)
  have HV := hide (tys_under ht)
  have hsz1 := b1.size
  clear hRES hb ht b1 r1 O1 hT
  go_enter Tryz.func6, Tryz.ntmps6
  go_wp2_with fail
  refine (unhide cC).mono ?_
  rintro e w2 ⟨rfl, b2⟩
  obtain ⟨q1, q2, q3, q4⟩ := unhide H1
  have H2 := hide (show Below w.heap.size w w2 ∧ One w2 w.heap.size 24 (.slice tyo m tc) ∧ Bs w2 bo bn bc b ∧ Tys w2 tyo m tc ts from ⟨q1.trans (b2.mono q1.size), q2.later b2, q3.later b2, q4.later b2⟩)
  have hsz2 := b2.size
  clear b2 cC q1 q2 q3 q4 H1 c1
  by_cases hA : ts.any unk = true
  · rw [hA]
    have HR2 := hide (show RES = ([], 2) by rw [unhide HR, if_pos hA])
    clear hA HR
    go_wp2_with fail
    go_ret2
    rw [unhide HR2]
    exact ⟨none, 0, 0, rfl, VMine.nought _ _, (unhide H2).1⟩
  have HR2 := hide (show RES = if nuE b ts ≠ 0 then ([], nuE b ts) else gat (bx (nuB b ts.length) ts) ts.length (nuL b ts.length) by rw [unhide HR, if_neg hA])
  have hA2 : ts.any unk = false := by simpa using hA
  rw [hA2]
  clear hA hA2 HR
  have c2 := (unhide H2).2.1.cell
  have cN := hide (readNulls_any bo bn bc b tyo m tc ts w2 (unhide H2).2.2.1 (unhide H2).2.2.2 (by omega) (by omega))
  by_cases hE : nuE b ts ≠ 0
  · have HR3 := hide (show RES = ([], nuE b ts) by rw [unhide HR2, if_pos hE])
    obtain ⟨E, hEE⟩ : ∃ z, nuE b ts = z := ⟨_, rfl⟩
    rw [hEE] at hE HR3
    have HE := hide hEE
    have HE0 := hide hE
    have hE2 : (E != 0) = true := by simpa using hE
    clear hE HR2 hEE
    go_wp2_with (go_at_call 21; refine (unhide cN).mono ?_; rintro e w3 h3; obtain ⟨rfl, b3⟩ := OutU.no h3 (unhide HE) (unhide HE0); have B3 := hide b3; clear b3 h3)
    go_ret2
    rw [unhide HR3]
    exact ⟨none, 0, 0, rfl, VMine.nought _ _, vbup (vbup (unhide H2).1 (unhide B3)) (below_al2 _ _)⟩
  have hE : nuE b ts = 0 := Classical.not_not.1 hE
  have HE := hide hE
  have HR3 := hide (show RES = gat (bx (nuB b m) ts) m (nuL b m) by rw [unhide HR2, if_neg (by rw [hE]; decide), hml])
  clear hE HR2
  have h44 : m ≤ 4096 := by omega
  have hss : w.heap.size < w2.heap.size := by omega
  go_wp2_with (first | (go_at_call 21; refine (unhide cN).mono ?_; rintro e w3 h3; obtain ⟨no, nn, nc, lo, ln, lc, rfl, x1, x2, x3, x4, b3⟩ := OutU.yes h3 (unhide HE); clear h3; obtain ⟨c3, cG'⟩ := rb_gather bo bn bc b tyo m tc ts w w2 w3 no nn nc lo ln lc (unhide H2) (unhide HE) x1 x2 b3 hss hml h44 (unhide HT) hn; have cG := hide cG'; have B3 := hide b3; clear b3 x1 x2 x3 x4 cG') | (go_at_call 22; refine (unhide cG).mono ?_; rintro e w4 ⟨ro, rn, rc, rfl, m4, g4⟩; have M4 := hide m4; have G4 := hide g4; clear m4 g4))
  go_ret2
  rw [unhide HR3]
  exact ⟨ro, rn, rc, rfl, (unhide M4).mono (rb_size (unhide H2).1 (unhide B3)), rb_end (unhide H2).1 (unhide B3) (unhide G4)⟩


end Go.Proofs.YtkcblnojgonblaaGreatDoor
