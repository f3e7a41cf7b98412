/-
  A slice of calls of a reader (a number, bytes, a sequence number each) that came in: what lies in its cells. Conditions: none.
  What Pick of the statements' helpers returns: a number below n. Conditions: n above 0 and small.
-/
import Derived.Test.YtnoabdafmgmenaaGreatDoorMMem
import Derived.ProofKit
import Derived.OpenShut
import Derived.Deep.Slices
import Derived.ChangeArms
import Derived.Deep.Strs
namespace Go.Proofs.YtnoabdafmgmenaaGreatDoor
open Go.ChangeShapes Go.WideShapes Go.ChangeAt Go.RowKit
set_option linter.unusedVariables false
set_option linter.unusedSimpArgs false

theorem listOf {α : Type} (P : Nat → α → Prop) : ∀ n, (∀ i, i < n → ∃ x, P i x) → ∃ xs : List α, xs.length = n ∧ ∀ i x, xs[i]? = some x → P i x
  | 0, _ => ⟨[], rfl, fun i x h => by simp at h⟩
  | n + 1, h => by
    obtain ⟨xs, hl, hx⟩ := listOf P n (fun i hi => h i (by omega))
    obtain ⟨y, hy⟩ := h n (by omega)
    refine ⟨xs ++ [y], by simp [hl], fun i x hi => ?_⟩
    rcases Nat.lt_or_ge i xs.length with q | q
    · rw [List.getElem?_append_left q] at hi
      exact hx i x hi
    · rw [List.getElem?_append_right q] at hi
      have h0 : i - xs.length = 0 := by
        have := (List.getElem?_eq_some_iff.1 hi).1
        simp at this
        omega
      rw [h0] at hi
      simp at hi
      subst hi
      rw [show i = n by omega]
      exact hy

/-- A call as it lies in memory. -/
structure Am where
  k : Int
  ao : Option Addr
  cap : Nat
  bs : List Int
  sq : Int
/-- The slice 'ao, n, c' holds the calls l. -/
structure Acs (w : World) (ao : Option Addr) (n c : Nat) (l : List Am) : Prop where
  len : l.length = n
  le : n ≤ c
  max : c ≤ 9223372036854775807
  at' : ∀ (i : Nat) (p : Am), l[i]? = some p → ∃ b o, (∀ wx, (Instr.indexAt 22 (.slice ao n c) (.int .i64 (i : Int))).run Tryz.prog wx = .ok (.pointer (some ⟨b, o, none⟩)) wx) ∧
    w.cell? ⟨b, o, none⟩ = some (.int .i64 p.k) ∧ w.cell? ⟨b, o + 1, none⟩ = some (.slice p.ao p.bs.length p.cap) ∧ w.cell? ⟨b, o + 2, none⟩ = some (.int .u8 p.sq) ∧ Bs w p.ao p.bs.length p.cap p.bs ∧ 0 ≤ p.sq ∧ p.sq ≤ 255
theorem Acs.later {w w' : World} {ao : Option Addr} {n c : Nat} {l : List Am} (h : Acs w ao n c l) (hb : Below w.heap.size w w') : Acs w' ao n c l :=
  ⟨h.len, h.le, h.max, fun i p hi => by
    obtain ⟨b, o, h1, c0, c1, c2, h3, h4⟩ := h.at' i p hi
    exact ⟨b, o, h1, cell_later hb c0, cell_later hb c1, cell_later hb c2, h3.later hb, h4⟩⟩
theorem Tryz.elemAct : Tryz.prog.underlying 22 = some (.slice (Tryz.prog.elem 22)) := by kernel_rfl
theorem Tryz.sizeAct (w : World) : (sizeOf (Tryz.prog.elem 22)).run Tryz.prog w = .ok 3 w := by kernel_rfl

set_option maxRecDepth 100000 in
theorem acs_of {H : Type} {enc : TypeId × Value → H} {W : World} {base fuel : Nat} {a : Option Addr} {len cap : Nat} {x : DataW H × List MemPlace} (h : DataW.trod enc Tryz.prog W base (fun _ => true) true fuel 22 (Value.slice a len cap).cells.toList = some x) : ∃ l, Acs W a len cap l := by
  have c3 : Tryz.prog.cellsOf 33 = 3 := by kernel_rfl
  have ci : Tryz.prog.cellsOf 3 = 1 := by kernel_rfl
  have cb : Tryz.prog.cellsOf 5 = 1 := by kernel_rfl
  have cs : Tryz.prog.cellsOf 31 = 1 := by kernel_rfl
  rcases Deep.open_slice Tryz.underlying22 h with ⟨hcs, _⟩ | ⟨ad, l, c, m, n, D, Pl, hcs, hb, hl, hm, hmm, _, hel⟩
  · simp [Value.cells] at hcs
    obtain ⟨rfl, rfl, rfl⟩ := hcs
    exact ⟨[], rfl, Nat.le_refl _, by omega, fun i p hi => by simp at hi⟩
  · simp [Value.cells] at hcs
    obtain ⟨rfl, rfl, rfl⟩ := hcs
    simp only [if_true] at hmm
    subst hmm
    unfold maxLen at hm
    obtain ⟨xs, hxl, hxs⟩ := listOf (fun i (p : Am) => ∃ b o, (∀ wx, (Instr.indexAt 22 (.slice (some ad) len m) (.int .i64 (i : Int))).run Tryz.prog wx = .ok (.pointer (some ⟨b, o, none⟩)) wx) ∧
      W.cell? ⟨b, o, none⟩ = some (.int .i64 p.k) ∧ W.cell? ⟨b, o + 1, none⟩ = some (.slice p.ao p.bs.length p.cap) ∧ W.cell? ⟨b, o + 2, none⟩ = some (.int .u8 p.sq) ∧ Bs W p.ao p.bs.length p.cap p.bs ∧ 0 ≤ p.sq ∧ p.sq ≤ 255) len (fun i hi => by
        obtain ⟨cs', h1, h2⟩ := hel i (by omega)
        rw [c3] at h1
        obtain ⟨_, hlen, hcell⟩ := World.cells?_some h1
        obtain ⟨y0, y1, y2, k, _, _, t0, t1, t2⟩ := Deep.trod_struct3 Tryz.underlying33 h2
        simp only [ci, cb, cs] at t0 t1 t2
        obtain ⟨z0, e0, _, w0⟩ := DataW.trod_int Tryz.underlying3 t0
        obtain ⟨z2, e2, _, w2⟩ := DataW.trod_int Tryz.underlying5 t2
        have q2 := bounds_u8 w2
        match cs', hlen with
        | [u0, u1, u2], _ =>
          simp at e0 e2
          subst e0 e2
          have g0 := hcell 0 (by omega)
          have g1 := hcell 1 (by omega)
          have g2 := hcell 2 (by omega)
          rw [Addr.add_add, Nat.add_zero] at g0
          rw [Addr.add_add] at g1 g2
          obtain ⟨b, off, spot⟩ := ad
          have hspot : spot = none := by
            obtain ⟨cs0, h10, _⟩ := hel 0 (by omega)
            rw [c3] at h10
            obtain ⟨_, hlen0, hcell0⟩ := World.cells?_some h10
            have g00 := hcell0 0 (by omega)
            rw [List.getElem?_eq_getElem (by omega)] at g00
            simpa [Addr.add] using World.cell?_spot g00
          subst hspot
          rw [Addr.add_lit] at g0 g1 g2
          have hix : ∀ wx, (Instr.indexAt 22 (.slice (some ⟨b, off, none⟩) len m) (.int .i64 (i : Int))).run Tryz.prog wx = .ok (.pointer (some ⟨b, off + i * 3, none⟩)) wx := by
            intro wx
            rw [run_indexAt_slice wx 22 _ len m .i64 (i : Int) Tryz.elemAct]
            simp [Tryz.sizeAct, hi, Addr.add_lit, Result.andThen]
          rcases open_ints Tryz.underlying31 Tryz.underlying5 (by kernel_rfl) t1 with ⟨hv, _⟩ | ⟨a', l', c', zs, hv, _, hl', hm', hz, hD, hcl, hwz⟩
          · have hv' : u1 = .slice none 0 0 := by simpa using hv
            subst hv'
            exact ⟨⟨z0, none, 0, [], z2⟩, b, off + i * 3, hix, g0, by rw [Nat.add_assoc]; exact g1, by rw [Nat.add_assoc]; exact g2, Bs.nought W, by simp only; omega, by simp only; omega⟩
          · have hv' : u1 = .slice (some a') l' c' := by simpa using hv
            subst hv'
            simp only [if_true] at hz
            have hB := bs_of_row (.inr ⟨a', rfl, hl', hm', hz, hcl, hwz⟩)
            have hBl := hB.len
            refine ⟨⟨z0, some a', c', zs.take l', z2⟩, b, off + i * 3, hix, g0, ?_, by rw [Nat.add_assoc]; exact g2, ?_, by simp only; omega, by simp only; omega⟩
            · rw [Nat.add_assoc, hBl]; exact g1
            · simp only; rw [hBl]; exact hB)
    exact ⟨xs, hxl, hl, by omega, hxs⟩

end Go.Proofs.YtnoabdafmgmenaaGreatDoor

namespace Go.Proofs.YtnoabdafmgmenaaGreatDoor
open Go.RowKit
set_option linter.unusedVariables false
set_option linter.unusedSimpArgs false

set_option maxHeartbeats 1000000 in
theorem pick_any (x : Int) (n : Int) (w : World) (hn : 0 < n) (hm : n ≤ 10000) :
    Calls Tryz.prog 7 #[.int .i64 x, .int .i64 n] w fun e w' => (∃ r : Int, e = .returned (.int .i64 r) ∧ 0 ≤ r ∧ r < n) ∧ w' = w := by
  have h0 : (n == 0) = false := by rw [beq_eq_false_iff_ne]; omega
  have t1 : x.tmod n < n := Int.tmod_lt_of_pos x hn
  have t2 : -n < x.tmod n := Int.lt_tmod_of_pos x hn
  have hw : IntKind.i64.wrap (x.tmod n) = x.tmod n := by rw [IntKind.wrap_i64]; omega
  obtain ⟨R, hR⟩ : ∃ R, x.tmod n = R := ⟨_, rfl⟩
  rw [hR] at t1 t2 hw
  by_cases hr : R < 0
  · go_enter Tryz.func7, Tryz.ntmps7
    go_wp2_with fail
    go_ret
    exact ⟨⟨_, rfl, by omega, by omega⟩, rfl⟩
  · go_enter Tryz.func7, Tryz.ntmps7
    go_wp2_with fail
    go_ret
    exact ⟨⟨_, rfl, by omega, by omega⟩, rfl⟩

end Go.Proofs.YtnoabdafmgmenaaGreatDoor
