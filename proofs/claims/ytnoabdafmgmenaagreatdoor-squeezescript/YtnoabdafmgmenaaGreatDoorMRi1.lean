/-
  The reader of the document's own answer for compressed streams, in memory: the block of its struct, the row of what it told. Conditions: at most a million bytes, at most a million that are told.
  What field, tell and symbol of the document's reader do. Conditions: the state's own bounds.
  What symbol and stored of the document's reader do. Conditions: the state's own bounds; where nothing went wrong the lengths are a code.
  What stored of the document's reader does: a stored block. Conditions: the state's own bounds; nothing went wrong ahead of it.
-/
import Derived.Test.YtnoabdafmgmenaaGreatDoorMInf1
import Derived.Test.YtnoabdafmgmenaaGreatDoorHufRefRead
namespace Go.Proofs.YtnoabdafmgmenaaGreatDoor
open Go.RowKit
set_option linter.unusedVariables false
set_option linter.unusedSimpArgs false

def rsv (E : Env) (p : Nat) (e : Int) (oo : Option Addr) (on oc : Nat) : Array Value :=
  #[.slice E.bo E.bn E.bc, .int .i64 (p : Int), .int .i64 e, .slice oo on oc, .int .i64 E.m]

/-- Block g is the stream in the state s; what it told lies at oo, with room for oc. -/
structure Rt (E : Env) (g : Nat) (w : World) (oo : Option Addr) (oc : Nat) (s : PS) : Prop where
  st : w.heap[g]? = some (.cells (rsv E s.p s.e oo s.o.length oc) 81 (0, 0))
  out : Mine (g + 1) w oo s.o.length oc s.o
  b : ∀ w', Below g w w' → Bs w' E.bo E.bn E.bc E.bs
  fit : Fit E s

section
variable {E : Env} {g : Nat} {w : World} {oo : Option Addr} {oc : Nat} {s : PS}

theorem Rt.lt (h : Rt E g w oo oc s) : g < w.heap.size := (Array.getElem?_eq_some_iff.1 h.st).1
theorem Rt.free (h : Rt E g w oo oc s) (i : Nat) : w.frozen? ⟨g, i, none⟩ = false := frozen_of_row w g i _ _ h.st
theorem Rt.c0 (h : Rt E g w oo oc s) : w.cell? ⟨g, 0, none⟩ = some (.slice E.bo E.bn E.bc) := by rw [cell_of_row w g 0 _ _ _ h.st]; rfl
theorem Rt.c1 (h : Rt E g w oo oc s) : w.cell? ⟨g, 1, none⟩ = some (.int .i64 (s.p : Int)) := by rw [cell_of_row w g 1 _ _ _ h.st]; rfl
theorem Rt.c2 (h : Rt E g w oo oc s) : w.cell? ⟨g, 2, none⟩ = some (.int .i64 s.e) := by rw [cell_of_row w g 2 _ _ _ h.st]; rfl
theorem Rt.c4 (h : Rt E g w oo oc s) : w.cell? ⟨g, 4, none⟩ = some (.int .i64 E.m) := by rw [cell_of_row w g 4 _ _ _ h.st]; rfl
theorem Rt.c3 (h : Rt E g w oo oc s) : w.cell? ⟨g, 3, none⟩ = some (.slice oo s.o.length oc) := by rw [cell_of_row w g 3 _ _ _ h.st]; rfl
theorem Rt.bs (h : Rt E g w oo oc s) : Bs w E.bo E.bn E.bc E.bs := h.b w (Below.refl _ _)
/-- Nothing that it holds has changed. -/
theorem Rt.under (h : Rt E g w oo oc s) {B : Nat} (hg : g < B) (ho : ∀ k, ob oo k → k < B) {w' : World} (hb : Below B w w') : Rt E g w' oo oc s := by
  have hb' : Below g w w' := hb.mono (by omega)
  refine ⟨by rw [hb.block g hg]; exact h.st, ?_, fun w1 f => h.b w1 (hb'.trans f), h.fit⟩
  refine ⟨h.out.len, ⟨h.out.own.1, ?_⟩, h.out.byt⟩
  rcases h.out.own.2 with hv | ⟨q, cap, cur, hv, hq, hh, r⟩
  · exact .inl hv
  · simp only [Value.slice.injEq] at hv
    obtain ⟨rfl, _, rfl⟩ := hv
    exact .inr ⟨q, _, cur, rfl, hq, by rw [hb.block q (ho q ⟨_, rfl, rfl⟩)]; exact hh, r⟩
theorem Rt.later (h : Rt E g w oo oc s) {w' : World} (hb : Below w.heap.size w w') : Rt E g w' oo oc s :=
  h.under h.lt (fun k hk => (h.out.ob hk).2) hb
theorem Rt.same (h : Rt E g w oo oc s) {w' : World} (hh : w'.heap = w.heap) (ho : w'.os = w.os) (ht : w'.tape = w.tape) (hu : w'.output = w.output) : Rt E g w' oo oc s :=
  h.later ⟨ho, ht, hu, by rw [hh]; exact Nat.le_refl _, fun k _ => by rw [hh]⟩
theorem Rt.drew (h : Rt E g w oo oc s) : Rt E g w.drew oo oc s := h.same rfl rfl rfl rfl
theorem Rt.drewN (h : Rt E g w oo oc s) (n : Nat) : Rt E g (w.drewN n) oo oc s := h.same rfl rfl rfl rfl
/-- A cell of the struct is set. -/
theorem Rt.put (h : Rt E g w oo oc s) (i : Nat) (u : Value) (s' : PS) (ho : s'.o = s.o) (hv : (rsv E s.p s.e oo s.o.length oc).setIfInBounds i u = rsv E s'.p s'.e oo s.o.length oc) (hf : Fit E s') : Rt E g (w.setCell ⟨g, i, none⟩ u) oo oc s' := by
  have hb : Below g w (w.setCell ⟨g, i, none⟩ u) := (Below.refl g w).setCell (by simp) u
  refine ⟨?_, ?_, fun w1 f => h.b w1 (hb.trans f), hf⟩
  · rw [heap_setCell_same w g i _ _ _ h.st, ho, hv]
  · rw [ho]
    exact h.out.keep fun k hk _ => heap_setCell_other w ⟨g, i, none⟩ k u (by simp; omega)
theorem Rt.putP (h : Rt E g w oo oc s) (p : Nat) (P : Int) (hP : P = (p : Int)) (hp : p ≤ 8 * E.bn) : Rt E g (w.setCell ⟨g, 1, none⟩ (.int .i64 P)) oo oc { s with p := p } := by
  subst hP
  exact h.put 1 _ { s with p := p } rfl rfl ⟨hp, h.fit.o, h.fit.e0, h.fit.e1, h.fit.bn, h.fit.m0, h.fit.m1, h.fit.bc, h.fit.bx, h.fit.bl⟩
theorem Rt.putE (h : Rt E g w oo oc s) (z : Int) (h0 : 0 ≤ z) (h1 : z ≤ 100) : Rt E g (w.setCell ⟨g, 2, none⟩ (.int .i64 z)) oo oc { s with e := z } :=
  h.put 2 _ { s with e := z } rfl rfl ⟨h.fit.p, h.fit.o, h0, h1, h.fit.bn, h.fit.m0, h.fit.m1, h.fit.bc, h.fit.bx, h.fit.bl⟩
theorem Rt.below (h : Rt E g w oo oc s) {oo' : Option Addr} {w' : World} (f : Fr g oo w oo' w') : Below g w w' :=
  ⟨f.os, f.tape, f.output, f.size, fun k hk => f.block k (by have := h.lt; omega) (by omega) (fun ho => by have := (h.out.ob ho).1; omega)⟩
end

/-- The stream is in the state s behind a call that may have told something. -/
def OutR (E : Env) (g : Nat) (w : World) (oo : Option Addr) (s : PS) (w' : World) : Prop := ∃ oo' oc', Rt E g w' oo' oc' s ∧ Fr g oo w oo' w'

theorem Rt.told {E : Env} {g : Nat} {w0 : World} {oo : Option Addr} {oc : Nat} {s : PS} (h : Rt E g w0 oo oc s) (he : s.e = 0) (hm : (s.o.length : Int) < E.m) {c : Int} {oo1 : Option Addr} {c1 : Nat} {w1 : World} (hM : Mine (g + 1) w1 oo1 (s.o.length + 1) c1 (s.o ++ [c])) (f : Fr g oo w0 oo1 w1) (hg : w1.heap[g]? = w0.heap[g]?) :
    Rt E g (w1.setCell ⟨g, 3, none⟩ (.slice oo1 (s.o.length + 1) c1)) oo1 c1 { s with o := s.o ++ [c] } ∧ Fr g oo w0 oo1 (w1.setCell ⟨g, 3, none⟩ (.slice oo1 (s.o.length + 1) c1)) := by
  have hb : Below g w0 w1 := h.below f
  have hb2 : Below g w1 (w1.setCell ⟨g, 3, none⟩ (.slice oo1 (s.o.length + 1) c1)) := (Below.refl g w1).setCell (by simp) _
  have hst : w1.heap[g]? = some (.cells (rsv E s.p s.e oo s.o.length oc) 81 (0, 0)) := by rw [hg]; exact h.st
  refine ⟨⟨?_, ?_, fun w2 q => h.b w2 ((hb.trans hb2).trans q), ?_⟩, f.trans (((Gb.refl g w1).set 3 _).fr oo1)⟩
  · rw [heap_setCell_same w1 g 3 _ _ _ hst]
    simp [rsv]
  · have e1 : ({ s with o := s.o ++ [c] } : PS).o.length = s.o.length + 1 := by simp
    rw [e1]
    exact hM.keep fun k hk _ => heap_setCell_other w1 ⟨g, 3, none⟩ k _ (by simp; omega)
  · have hf := h.fit
    refine ⟨hf.p, ?_, hf.e0, hf.e1, hf.bn, hf.m0, hf.m1, hf.bc, hf.bx, hf.bl⟩
    have := hf.m1
    simp
    omega
theorem Rt.grown {E : Env} {g : Nat} {w0 : World} {oo : Option Addr} {oc : Nat} {s : PS} (h : Rt E g w0 oo oc s) {w1 : World} {n c : Nat} (hgr : w0.grownBy w1 (Value.slice oo n c).ownBlock) : w1.heap[g]? = w0.heap[g]? := by
  refine hgr.block g h.lt fun e => ?_
  cases oo with
  | none => simp [Value.ownBlock] at e
  | some z =>
    have := (h.out.ob ⟨z, rfl, by simpa [Value.ownBlock] using e.symm⟩).1
    omega
/-- What the document's field answers: nothing behind an error. -/
def fldR (b : List Int) (n : Nat) (s : PS) : Int := if (fldN b n s).2.e = 0 then (fldN b n s).1 else 0
theorem fldR_bd (b : List Int) (n : Nat) (s : PS) : 0 ≤ fldR b n s ∧ fldR b n s < 2 ^ n := by
  have h := fldN_bd b n s
  have hp : (0 : Int) < 2 ^ n := Int.pow_pos (by omega)
  unfold fldR
  split <;> omega
theorem fldR_ok {b : List Int} {n : Nat} {s : PS} (h : (fldN b n s).2.e = 0) : fldR b n s = (fldN b n s).1 := if_pos h
theorem fldN_stuck {b : List Int} {n : Nat} {s : PS} (h : (fldN b n s).2.e ≠ 0) : ∀ m, n ≤ m → (fldN b m s).2 = (fldN b n s).2
  | 0, hm => by have : n = 0 := by omega
                subst this; rfl
  | m + 1, hm => by
    by_cases e : n = m + 1
    · subst e; rfl
    · have ih := fldN_stuck h m (by omega)
      simp only [fldN]
      rw [ih, bitS_dead h]

end Go.Proofs.YtnoabdafmgmenaaGreatDoor

namespace Go.Proofs.YtnoabdafmgmenaaGreatDoor
open Go.RowKit
set_option linter.unusedVariables false
set_option linter.unusedSimpArgs false

section
variable {E : Env} {g : Nat} {oo : Option Addr} {oc : Nat} {s : PS}
theorem two20r {i : Nat} (h : i ≤ 19) : (1 : Int) ≤ 2 ^ i ∧ (2 : Int) ^ i ≤ 1048576 := by
  have := Nat.pow_le_pow_right (show 0 < 2 by omega) (show i ≤ 20 by omega)
  have h2 : (2 : Int) ^ i ≤ 2 ^ 20 := by exact_mod_cast this
  exact ⟨Int.pow_pos (by omega), by omega⟩

set_option maxHeartbeats 2000000 in
set_option maxRecDepth 20000 in
theorem field_rd (w : World) (n : Nat) (hn : n ≤ 19) (N : Int) (hN : N = (n : Int)) (h : Rt E g w oo oc s) :
    Calls Tryz.prog 58 #[.pointer (some ⟨g, 0, none⟩), .int .i64 N] w fun e w' => e = .returned (.int .i64 (fldR E.bs n s)) ∧ Rt E g w' oo oc (fldN E.bs n s).2 ∧ Gb g w w' := by
  have H := hide h
  clear h
  subst hN
  obtain ⟨R, hR⟩ : ∃ R, R = fldR E.bs n s := ⟨_, rfl⟩
  obtain ⟨T, hT⟩ : ∃ T, T = (fldN E.bs n s).2 := ⟨_, rfl⟩
  rw [← hR, ← hT]
  have HR := hide hR
  have HT := hide hT
  clear hR hT
  go_enter Tryz.func58, Tryz.ntmps58
  go_wp2_with fail
  go_loopw [5, 6] (fun x i wr => ∃ k : Nat, k ≤ n ∧ i = .int .i64 (k : Int) ∧ x = .int .i64 (fldN E.bs k s).1 ∧ Rt E g wr oo oc (fldN E.bs k s).2 ∧ (k = 0 ∨ (fldN E.bs k s).2.e = 0) ∧ Gb g w wr) (fun _ i _ => n - (intOf i).toNat)
  case atStart => exact ⟨0, by omega, rfl, rfl, unhide H, .inl rfl, Gb.refl _ _⟩
  case round =>
    clear H
    obtain ⟨k, hk, rfl, rfl, st, hor0, gb⟩ := hrel
    have c0 := st.c0
    have c1 := st.c1
    have c2 := st.c2
    have f1 := st.free 1
    have f2 := st.free 2
    have hp := st.fit.p
    have hbn := st.fit.bn
    have bc := st.fit.bc
    have bx := st.fit.bx
    have bd := fldN_bd E.bs k s
    have ST := hide st
    have HOR := hide hor0
    by_cases hlt : k < n
    · have hlt' : (k : Int) < (n : Int) := by omega
      by_cases he : (fldN E.bs k s).2.e = 0
      · have he' : ((fldN E.bs k s).2.e == 0) = true := by simpa using he
        by_cases hs : (fldN E.bs k s).2.p / 8 < E.bn
        · have hs' : ¬ 8 * (E.bn : Int) ≤ ((fldN E.bs k s).2.p : Int) := by omega
          have nx := hide (show fldN E.bs (k + 1) s = ((fldN E.bs k s).1 + bitAt E.bs (fldN E.bs k s).2.p * 2 ^ k, { (fldN E.bs k s).2 with p := (fldN E.bs k s).2.p + 1 }) by
            simp only [fldN]
            rw [bitS_live he (by rw [st.fit.bl]; exact hs)])
          have bb := bitAt_bd E.bs (fldN E.bs k s).2.p
          have bcall := hide (fun wx (hx : Bs wx E.bo E.bn E.bc E.bs) => bit_ref E.bo E.bn E.bc E.bs (fldN E.bs k s).2.p wx hx hs hbn)
          have pk := two20r (show k ≤ 19 by omega)
          have hor := or_i64 (fldN E.bs k s).1 (bitAt E.bs (fldN E.bs k s).2.p) k (by omega) bd.1 bd.2 bb.1 bb.2
          have hm : 0 ≤ bitAt E.bs (fldN E.bs k s).2.p * 2 ^ k ∧ bitAt E.bs (fldN E.bs k s).2.p * 2 ^ k ≤ 1048576 := by
            have hb : bitAt E.bs (fldN E.bs k s).2.p = 0 ∨ bitAt E.bs (fldN E.bs k s).2.p = 1 := by omega
            rcases hb with h | h <;> rw [h] <;> omega
          have HE := hide he
          clear st hor0 he hs
          generalize bitAt E.bs (fldN E.bs k s).2.p = V at *
          generalize (fldN E.bs k s).1 = X at *
          generalize (fldN E.bs k s).2 = t at *
          go_wp2_with fail
          go_quiet (fail)
          have ST2 := hide ((unhide ST).drewN nq)
          have GB2 := hide (gb.drewN nq)
          generalize wr.drewN nq = wa at *
          have bq := hide (fun j => unhide bcall (wa.drewN j) ((unhide ST2).drewN j).bs)
          have d0 := (unhide ST2).c0
          have d1 := (unhide ST2).c1
          have d2 := (unhide ST2).c2
          have e1 := (unhide ST2).free 1
          clear c0 c1 c2 f1 f2 bcall ST gb
          go_wp2_with fail
          go_quiet (first
            | (go_at_call 76; refine Calls.quiet_of_same (unhide bq _)))
          go_wp2_with fail
          go_roundw
          case rel => exact ⟨k + 1, by omega, by go_num, by rw [unhide nx], by rw [unhide nx]; exact ((unhide ST2).drewN _).putP _ _ rfl (by omega), .inr (by rw [unhide nx]; exact unhide HE), ((unhide GB2).drewN _).set _ _⟩
          case measure => simp [intOf]; omega
        · have hs' : 8 * (E.bn : Int) ≤ ((fldN E.bs k s).2.p : Int) := by omega
          have nx := hide (show (fldN E.bs (k + 1) s).2 = { (fldN E.bs k s).2 with e := 4 } by
            simp only [fldN]
            rw [bitS_short he (by rw [st.fit.bl]; exact hs)])
          have hfin := hide (show T = { (fldN E.bs k s).2 with e := 4 } ∧ R = 0 by
            have h4 : (fldN E.bs n s).2 = { (fldN E.bs k s).2 with e := 4 } := by
              rw [fldN_stuck (n := k + 1) (by rw [unhide nx]; simp) n (by omega), unhide nx]
            refine ⟨by rw [unhide HT, h4], ?_⟩
            rw [unhide HR]
            unfold fldR
            rw [h4, if_neg (by simp)])
          clear st hor0 he hs nx
          generalize (fldN E.bs k s).2 = t at *
          generalize (fldN E.bs k s).1 = X at *
          go_wp2_with fail
          go_quiet (fail)
          have S4 := hide (((unhide ST).drewN nq).putE 4 (by omega) (by omega))
          have G4 := hide ((gb.drewN nq).set 2 (.int .i64 4))
          go_wp2_with fail
          go_ret
          rw [(unhide hfin).1, (unhide hfin).2]
          exact ⟨rfl, unhide S4, unhide G4⟩
      · have he' : ((fldN E.bs k s).2.e == 0) = false := by simpa using he
        have hk0 : k = 0 := by
          rcases hor0 with q | q
          · exact q
          · exact absurd q he
        subst hk0
        have hfin := hide (show T = s ∧ R = 0 by
          have hd : s.e ≠ 0 := he
          have h4 := fldN_dead (b := E.bs) hd n
          refine ⟨by rw [unhide HT, h4], ?_⟩
          rw [unhide HR]
          unfold fldR
          rw [h4, if_neg (by simpa using hd)])
        clear he st hor0
        have hX : (fldN E.bs 0 s).1 = 0 := rfl
        have S0 := hide (show Rt E g wr oo oc s from unhide ST)
        rw [hX]
        generalize (fldN E.bs 0 s).2 = t at *
        go_wp2_with fail
        go_ret
        rw [(unhide hfin).1, (unhide hfin).2]
        exact ⟨rfl, unhide S0, gb⟩
    · have hkn : k = n := by omega
      have hlt' : ¬ (k : Int) < (n : Int) := by omega
      have hfin := hide (show T = (fldN E.bs k s).2 ∧ R = (fldN E.bs k s).1 by
        refine ⟨by rw [unhide HT, hkn], ?_⟩
        rw [unhide HR, ← hkn]
        unfold fldR
        rcases hor0 with q | q
        · subst q
          simp only [fldN]
          exact ite_self _
        · rw [if_pos q])
      clear hkn st hor0
      generalize (fldN E.bs k s).2 = t at *
      generalize (fldN E.bs k s).1 = X at *
      go_wp2_with fail
      go_ret
      rw [(unhide hfin).1, (unhide hfin).2]
      exact ⟨rfl, unhide ST, gb⟩

set_option maxHeartbeats 2000000 in
set_option maxRecDepth 20000 in
theorem tell_rd (w : World) (c : Int) (h0 : 0 ≤ c) (h1 : c ≤ 255) (h : Rt E g w oo oc s) :
    Calls Tryz.prog 77 #[.pointer (some ⟨g, 0, none⟩), .int .u8 c] w fun e w' => e = .returned (.tuple #[]) ∧ OutR E g w oo (telS E.m c s) w' := by
  have c2 := h.c2
  have c3 := h.c3
  have c4 := h.c4
  have f2 := h.free 2
  have ho := h.fit.o
  have m0 := h.fit.m0
  have m1 := h.fit.m1
  have H := hide h
  clear h
  by_cases he : s.e = 0
  · have he' : (s.e == 0) = true := by simpa using he
    by_cases hm : (s.o.length : Int) < E.m
    · have hm' : ¬ E.m ≤ (s.o.length : Int) := by omega
      have hr := hide (telS_live (c := c) he hm)
      have HL := hide (And.intro he hm)
      clear he
      go_enter Tryz.func77, Tryz.ntmps77
      go_wp2_with fail
      go_quiet (fail)
      have ha := (unhide H).drewN nq
      have GA := hide (show Gb g w (w.drewN nq) from (Gb.refl _ _).drewN _)
      generalize w.drewN nq = wa at *
      have a2 := ha.c2
      have a3 := ha.c3
      have s2 := ha.later (below_alloc wa (.cells #[.int .u8 c] 5))
      have S2 := hide s2
      have hlt := s2.lt
      clear ha s2 c2 c3 c4
      go_wp2_with (at_builtin; refine wpList_appF rfl (.tmp 33) (.tmp 35) rfl (g + 1) _ _ _ s.o rfl (unhide S2).out _ 1 1 [c] rfl (Bs.one wa c h0 h1) (by omega) hlt ?_; intro oo1 c1 w3 hM hgr hsrc; have hg3 := (unhide S2).grown hgr; have c3' := (World.cell?_of_block (a := ⟨g, 3, none⟩) hg3).trans (unhide S2).c3; have f3' := (World.frozen?_of_block (a := ⟨g, 3, none⟩) hg3).trans ((unhide S2).free 3))
      go_end0
      refine ⟨rfl, oo1, c1, ?_⟩
      have fr := fr_app hlt hgr hsrc
      obtain ⟨r1, r2⟩ := (unhide S2).told (unhide HL).1 (unhide HL).2 hM fr hg3
      rw [unhide hr]
      exact ⟨r1, (((unhide GA).trans (Gb.of (below_alloc wa _))).fr oo).trans r2⟩
    · have hm' : E.m ≤ (s.o.length : Int) := by omega
      have hr := hide (telS_full (c := c) he hm)
      clear he
      go_enter Tryz.func77, Tryz.ntmps77
      go_wp2_with fail
      go_quiet (fail)
      have H2 := hide (((unhide H).drewN nq).putE 3 (by omega) (by omega))
      have d2 := (unhide H2).c2
      go_wp2_with fail
      go_end0
      rw [unhide hr]
      exact ⟨rfl, oo, oc, unhide H2, (((Gb.refl _ _).drewN _).set _ _).fr oo⟩
  · have he' : (s.e == 0) = false := by simpa using he
    have hr := hide (telS_dead (m := E.m) (c := c) he)
    clear he
    go_enter Tryz.func77, Tryz.ntmps77
    go_wp2_with fail
    go_quiet (fail)
    go_wp2_with fail
    go_end0
    rw [unhide hr]
    exact ⟨rfl, oo, oc, (unhide H).drewN _, ((Gb.refl _ _).drewN _).fr oo⟩
end
end Go.Proofs.YtnoabdafmgmenaaGreatDoor

namespace Go.Proofs.YtnoabdafmgmenaaGreatDoor
open Go.RowKit
set_option linter.unusedVariables false
set_option linter.unusedSimpArgs false

theorem dr_below (w : World) (n : Nat) : Below w.heap.size w (w.drewN n) := ⟨rfl, rfl, rfl, Nat.le_refl _, fun _ _ => rfl⟩
section
variable {E : Env} {g : Nat} {oo : Option Addr} {oc : Nat} {s : PS}

set_option maxHeartbeats 2000000 in
set_option maxRecDepth 20000 in
theorem symbol_rd (w : World) (ao : Option Addr) (n c : Nat) (L : List Int) (ko : Option Addr) (kc : Nat) (hL : Is w ao n c L) (hK : Is w ko n kc (cds L)) (hG : s.e = 0 → cer L = 0) (h : Rt E g w oo oc s) :
    Calls Tryz.prog 78 #[.pointer (some ⟨g, 0, none⟩), .agg #[.slice ao n c, .slice ko n kc]] w fun e w' => e = .returned (.int .i64 (symS L E.bs s).1) ∧ Rt E g w' oo oc (symS L E.bs s).2 ∧ Gb g w w' := by
  have H1 := hide (h.later (below_alloc w (.cells #[.slice ao n c, .slice ko n kc] 101)))
  have L1 := hide (hL.later (below_alloc w (.cells #[.slice ao n c, .slice ko n kc] 101)))
  have K1 := hide (hK.later (below_alloc w (.cells #[.slice ao n c, .slice ko n kc] 101)))
  have G1 := hide (show Gb g w (w.alloc (.cells #[.slice ao n c, .slice ko n kc] 101)) from Gb.of (below_alloc w _))
  have k0 := cell_top w #[.slice ao n c, .slice ko n kc] 101 0 w.heap.size rfl
  have k1 := cell_top w #[.slice ao n c, .slice ko n kc] 101 1 w.heap.size rfl
  have c0 := (unhide H1).c0
  have c1 := (unhide H1).c1
  have c2 := (unhide H1).c2
  have f1 := (unhide H1).free 1
  have f2 := (unhide H1).free 2
  have hp := h.fit.p
  have hb := h.fit.bn
  have HG := hide hG
  have hfit := hide h.fit
  clear h hL hK hG
  by_cases he : s.e = 0
  · have he' : (s.e != 0) = false := by simpa using he
    have hc := unhide HG he
    have hr := hide (symS_live (L := L) (b := E.bs) he)
    have hf := rdq_fit L E.bs s.p (by rw [(unhide hfit).bl]; exact hp)
    rw [(unhide hfit).bl] at hf
    have hq : rd L E.bs s.p = rdq L E.bs s.p := by unfold rdq; rw [if_pos hc, if_neg (by omega)]; simp
    have dc := hide (fun wx (h1 : Is wx ao n c L) (h2 : Is wx ko n kc (cds L)) (h3 : Bs wx E.bo E.bn E.bc E.bs) => decode_ref ao n c L ko kc E.bo E.bn E.bc E.bs s.p (s.p : Int) rfl wx h1 h2 h3 (good_of hc) hb (by omega))
    rw [hq] at dc
    have HE := hide he
    clear he hc hq
    generalize rdq L E.bs s.p = R at *
    obtain ⟨r1, r2, r3⟩ := R
    simp only at hf dc
    go_enter Tryz.func78, Tryz.ntmps78
    go_wp2_with fail
    generalize w.alloc (.cells #[.slice ao n c, .slice ko n kc] 101) = wa at *
    have bq := hide (fun j => unhide dc (wa.drewN j) ((unhide L1).later (dr_below wa j)) ((unhide K1).later (dr_below wa j)) ((unhide H1).drewN j).bs)
    clear dc
    simp at k0 k1
    go_quiet (first
      | (go_at_call 108; refine Calls.quiet_of_same (unhide bq _)))
    have H2 := hide ((((unhide H1).drewN nq).putE r3 (by omega) (by omega)).putP (s.p + r2.toNat) ((s.p : Int) + r2) (by omega) (by omega))
    have G2 := hide (((((unhide G1).drewN nq)).set 2 (.int .i64 r3)).set 1 (.int .i64 ((s.p : Int) + r2)))
    go_wp2_with fail
    go_ret
    rw [unhide hr]
    exact ⟨rfl, unhide H2, unhide G2⟩
  · have he' : (s.e != 0) = true := by simpa using he
    have hr := hide (symS_dead (L := L) (b := E.bs) he)
    go_enter Tryz.func78, Tryz.ntmps78
    go_wp2_with fail
    go_ret
    rw [unhide hr]
    exact ⟨rfl, unhide H1, unhide G1⟩
end
end Go.Proofs.YtnoabdafmgmenaaGreatDoor

namespace Go.Proofs.YtnoabdafmgmenaaGreatDoor
open Go.RowKit
set_option linter.unusedVariables false
set_option linter.unusedSimpArgs false

theorem telS_fldR (b : List Int) (m : Int) (n : Nat) (s : PS) : telS m (fldR b n s) (fldN b n s).2 = telS m (fldN b n s).1 (fldN b n s).2 := by
  by_cases h : (fldN b n s).2.e = 0
  · rw [fldR_ok h]
  · rw [telS_dead h, telS_dead h]

section
variable {E : Env} {g : Nat} {oo : Option Addr} {oc : Nat} {s : PS}

set_option maxHeartbeats 4000000 in
set_option maxRecDepth 20000 in
theorem stored_rd (w : World) (he0 : s.e = 0) (h : Rt E g w oo oc s) :
    Calls Tryz.prog 59 #[.pointer (some ⟨g, 0, none⟩)] w fun e w' => e = .returned (.tuple #[]) ∧ OutR E g w oo (stoS E.bs E.m s) w' := by
  have hto : tobS s = { s with p := (s.p + 7) / 8 * 8 } := if_pos he0
  have hr := hide (show stoS E.bs E.m s = sttS E.bs E.m (fldN E.bs 16 (tobS s)).1 (fldN E.bs 16 (fldN E.bs 16 (tobS s)).2).1 (fldN E.bs 16 (fldN E.bs 16 (tobS s)).2).2 from rfl)
  have c1 := h.c1
  have f1 := h.free 1
  have hp := h.fit.p
  have hbn := h.fit.bn
  have H1 := hide (show Rt E g (w.setCell ⟨g, 1, none⟩ (.int .i64 (((s.p : Int) + 7) / 8 * 8))) oo oc (tobS s) by rw [hto]; exact h.putP ((s.p + 7) / 8 * 8) _ (by omega) (by omega))
  have G1 := hide ((Gb.refl g w).set 1 (.int .i64 (((s.p : Int) + 7) / 8 * 8)))
  have fc := hide (fun w1 (h1 : Rt E g w1 oo oc (tobS s)) => field_rd w1 16 (by omega) 16 rfl h1)
  have fd := hide (fun w1 (h1 : Rt E g w1 oo oc (fldN E.bs 16 (tobS s)).2) => field_rd w1 16 (by omega) 16 rfl h1)
  have b1 := fldR_bd E.bs 16 (tobS s)
  have b2 := fldR_bd E.bs 16 (fldN E.bs 16 (tobS s)).2
  have hdead := hide (show ¬ (fldN E.bs 16 (fldN E.bs 16 (tobS s)).2).2.e = 0 → stoS E.bs E.m s = (fldN E.bs 16 (fldN E.bs 16 (tobS s)).2).2 by
    intro q
    rw [unhide hr]
    unfold sttS
    split
    · exact stoL_dead q _
    · rw [stopS_dead q]; exact stoL_dead q _)
  have hlive := hide (show (fldN E.bs 16 (fldN E.bs 16 (tobS s)).2).2.e = 0 → fldR E.bs 16 (tobS s) = (fldN E.bs 16 (tobS s)).1 ∧ fldR E.bs 16 (fldN E.bs 16 (tobS s)).2 = (fldN E.bs 16 (fldN E.bs 16 (tobS s)).2).1 by
    intro q
    refine ⟨fldR_ok ?_, fldR_ok q⟩
    by_cases q1 : (fldN E.bs 16 (tobS s)).2.e = 0
    · exact q1
    · rw [fldN_dead q1] at q
      exact q)
  clear h hto he0
  generalize (fldN E.bs 16 (fldN E.bs 16 (tobS s)).2).1 = T0 at *
  generalize (fldN E.bs 16 (fldN E.bs 16 (tobS s)).2).2 = t2 at *
  generalize fldR E.bs 16 (fldN E.bs 16 (tobS s)).2 = T at *
  generalize (fldN E.bs 16 (tobS s)).1 = C0 at *
  generalize (fldN E.bs 16 (tobS s)).2 = t1 at *
  generalize fldR E.bs 16 (tobS s) = C at *
  generalize tobS s = t0 at *
  obtain ⟨c, rfl⟩ : ∃ c : Nat, C = (c : Int) := ⟨C.toNat, by omega⟩
  have hc : c ≤ 65535 := by omega
  have hT : 0 ≤ T ∧ T ≤ 65535 := by omega
  clear b1 b2
  by_cases he2 : t2.e = 0
  · obtain ⟨rfl, rfl⟩ := unhide hlive he2
    have he2' : (t2.e == 0) = true := by simpa using he2
    by_cases hq : T = 65535 - (c : Int)
    · have hq' : ((c : Int) != 65535 - T) = false := by simp; omega
      have hr2 := hide (show stoS E.bs E.m s = stoL E.bs E.m c t2 by rw [unhide hr]; unfold sttS; rw [if_pos hq]; simp)
      rw [unhide hr2]
      generalize hR : stoL E.bs E.m c t2 = R
      have HR := hide hR
      clear hR hr2 hr hq hlive hdead he2
      go_enter Tryz.func59, Tryz.ntmps59
      go_wp2_with fail
      refine ((unhide fc) _ (unhide H1)).mono ?_
      rintro e w2 ⟨rfl, s2, g2⟩
      have S2 := hide s2
      clear s2
      go_wp2_with fail
      refine ((unhide fd) _ (unhide S2)).mono ?_
      rintro e w3 ⟨rfl, s3, g3⟩
      have S3 := hide s3
      have GG := hide (((unhide G1).trans g2).trans g3)
      have k2 := s3.c2
      clear s3 g2 g3 S2 H1 G1 fc fd c1 f1
      go_wp2_with fail
      go_loopw [4] (fun i wr => ∃ (k : Nat) (t : PS) (oo1 : Option Addr) (oc1 : Nat), k ≤ c ∧ i = .int .i64 (k : Int) ∧ stoL E.bs E.m (c - k) t = R ∧ Rt E g wr oo1 oc1 t ∧ Fr g oo w oo1 wr) (fun i _ => c - (intOf i).toNat)
      case atStart => exact ⟨0, t2, oo, oc, by omega, rfl, unhide HR, unhide S3, (unhide GG).fr oo⟩
      case round =>
        clear S3 GG hq' hT he2' k2
        obtain ⟨k, t, oo1, oc1, hk, rfl, hst, st, fr⟩ := hrel
        have c2 := st.c2
        have HC := hide hst
        have ST := hide st
        have FR := hide fr
        clear hst st fr
        by_cases hlt : k < c
        · have hlt' : (k : Int) < (c : Int) := by omega
          by_cases he : t.e = 0
          · have he' : (t.e == 0) = true := by simpa using he
            have fe := hide (field_rd wr 8 (by omega) 8 rfl (unhide ST))
            have bd := fldR_bd E.bs 8 t
            have hnx := hide (show stoL E.bs E.m (c - (k + 1)) (telS E.m (fldR E.bs 8 t) (fldN E.bs 8 t).2) = R by
              obtain ⟨j, hj⟩ : ∃ j, c - k = j + 1 := ⟨c - k - 1, by omega⟩
              rw [← unhide HC, hj, show c - (k + 1) = j by omega, telS_fldR]
              rfl)
            have hcv : 0 ≤ fldR E.bs 8 t ∧ fldR E.bs 8 t ≤ 255 := by omega
            clear bd
            generalize fldR E.bs 8 t = V at *
            generalize (fldN E.bs 8 t).2 = t8 at *
            go_wp2_with fail
            refine (unhide fe).mono ?_
            rintro e w4 ⟨rfl, s4, g4⟩
            have te := hide (tell_rd w4 V hcv.1 hcv.2 s4)
            clear s4
            go_wp2_with fail
            refine (unhide te).mono ?_
            rintro e w5 ⟨rfl, oo5, oc5, s5, f5⟩
            have S5 := hide s5
            clear s5
            go_wp2_with fail
            go_roundw
            case rel => exact ⟨k + 1, _, oo5, oc5, by omega, by go_num, unhide hnx, unhide S5, ((unhide FR).trans (g4.fr oo1)).trans f5⟩
            case measure => simp [intOf]; omega
          · have he' : (t.e == 0) = false := by simpa using he
            have hfin := hide (show R = t by rw [← unhide HC]; exact stoL_dead he _)
            go_wp2_with fail
            go_end0
            rw [unhide hfin]
            exact ⟨rfl, oo1, oc1, unhide ST, unhide FR⟩
        · have hkn : k = c := by omega
          have hfin := hide (show R = t by rw [← unhide HC, hkn, Nat.sub_self]; rfl)
          have hlt' : ¬ (k : Int) < (c : Int) := by omega
          clear hkn
          go_wp2_with fail
          go_end0
          rw [unhide hfin]
          exact ⟨rfl, oo1, oc1, unhide ST, unhide FR⟩
    · have hq' : ((c : Int) != 65535 - T) = true := by simp; omega
      have hne := stopS_e 5 t2 (by omega)
      have hr2 := hide (show stoS E.bs E.m s = { t2 with e := 5 } by rw [unhide hr]; unfold sttS; rw [if_neg hq, stoL_dead hne, stopS_live he2])
      rw [unhide hr2]
      clear hr2 hr hq hlive hdead he2 hne
      go_enter Tryz.func59, Tryz.ntmps59
      go_wp2_with fail
      refine ((unhide fc) _ (unhide H1)).mono ?_
      rintro e w2 ⟨rfl, s2, g2⟩
      have S2 := hide s2
      clear s2
      go_wp2_with fail
      refine ((unhide fd) _ (unhide S2)).mono ?_
      rintro e w3 ⟨rfl, s3, g3⟩
      have S3 := hide s3
      have GG := hide (((unhide G1).trans g2).trans g3)
      have k2 := s3.c2
      have f2 := s3.free 2
      have S4 := hide (s3.putE 5 (by omega) (by omega))
      have G4 := hide ((unhide GG).set 2 (.int .i64 5))
      have k4 := (unhide S4).c2
      clear s3 g2 g3 S2 H1 G1 fc fd c1 f1
      go_wp2_with fail
      go_loopw [4] (fun i wr => i = .int .i64 0 ∧ wr = w3.setCell ⟨g, 2, none⟩ (.int .i64 5)) (fun _ _ => 0)
      case atStart => exact ⟨rfl, rfl⟩
      case round =>
        obtain ⟨rfl, rfl⟩ := hrel
        by_cases hn0 : 0 < c
        · have hn0' : (0 : Int) < (c : Int) := by omega
          go_wp2_with fail
          go_end0
          exact ⟨rfl, oo, oc, unhide S4, (unhide G4).fr oo⟩
        · have hn0' : ¬ (0 : Int) < (c : Int) := by omega
          go_wp2_with fail
          go_end0
          exact ⟨rfl, oo, oc, unhide S4, (unhide G4).fr oo⟩
  · have he2' : (t2.e == 0) = false := by simpa using he2
    have hr2 := hide (unhide hdead he2)
    rw [unhide hr2]
    clear hr2 hr hlive hdead he2
    go_enter Tryz.func59, Tryz.ntmps59
    go_wp2_with fail
    refine ((unhide fc) _ (unhide H1)).mono ?_
    rintro e w2 ⟨rfl, s2, g2⟩
    have S2 := hide s2
    clear s2
    go_wp2_with fail
    refine ((unhide fd) _ (unhide S2)).mono ?_
    rintro e w3 ⟨rfl, s3, g3⟩
    have S3 := hide s3
    have GG := hide (((unhide G1).trans g2).trans g3)
    have k2 := s3.c2
    clear s3 g2 g3 S2 H1 G1 fc fd c1 f1
    go_wp2_with fail
    go_loopw [4] (fun i wr => i = .int .i64 0 ∧ wr = w3) (fun _ _ => 0)
    case atStart => exact ⟨rfl, rfl⟩
    case round =>
      obtain ⟨rfl, rfl⟩ := hrel
      by_cases hn0 : 0 < c
      · have hn0' : (0 : Int) < (c : Int) := by omega
        go_wp2_with fail
        go_end0
        exact ⟨rfl, oo, oc, unhide S3, (unhide GG).fr oo⟩
      · have hn0' : ¬ (0 : Int) < (c : Int) := by omega
        go_wp2_with fail
        go_end0
        exact ⟨rfl, oo, oc, unhide S3, (unhide GG).fr oo⟩
end
end Go.Proofs.YtnoabdafmgmenaaGreatDoor
