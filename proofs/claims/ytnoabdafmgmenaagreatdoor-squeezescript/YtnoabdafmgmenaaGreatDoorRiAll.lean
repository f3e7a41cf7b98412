/-
  What all of the document's own answer leaves: the stream in the state that the program's Inflate leaves it in, or both with an error that is 4 or 5. Conditions: at most a million bytes, a limit from 0 to a million.
-/
import Derived.Test.YtnoabdafmgmenaaGreatDoorRiBlk
import Derived.Test.YtnoabdafmgmenaaGreatDoorRiFix
import Derived.Test.YtnoabdafmgmenaaGreatDoorMRi1
import Derived.Test.YtnoabdafmgmenaaGreatDoorMInf4
namespace Go.Proofs.YtnoabdafmgmenaaGreatDoor
open Go.RowKit
set_option linter.unusedVariables false
set_option linter.unusedSimpArgs false

section
variable {E : Env} {g : Nat} {oo : Option Addr} {oc : Nat} {s : PS}
set_option maxHeartbeats 2000000 in
theorem pieces_dead (w : World) (v1 v2 u1 u2 : Value) (he : s.e ≠ 0) (h : Rt E g w oo oc s) :
    Calls Tryz.prog 61 #[.pointer (some ⟨g, 0, none⟩), .agg #[v1, v2], .agg #[u1, u2]] w fun e w' => e = .returned (.tuple #[]) ∧ Below w.heap.size w w' := by
  obtain ⟨q1, q2, bl, z2⟩ := two_blocks w #[v1, v2] #[u1, u2] 101
  have c2 := (h.later bl).c2
  have BL := hide bl
  have he' : (s.e == 0) = false := by simpa using he
  clear h bl q1 q2 z2 he
  go_enter Tryz.func61, Tryz.ntmps61
  go_wp2_with fail
  generalize (w.alloc (.cells #[v1, v2] 101)).alloc (.cells #[u1, u2] 101) = w2 at *
  go_loopw [] (fun wr => wr = w2) (fun _ => 0)
  case atStart => rfl
  case round =>
    subst hrel
    go_wp2_with fail
    go_end0
    exact ⟨rfl, unhide BL⟩

theorem Rt.kept {w0 : World} (h : Rt E g w0 oo oc s) {w' : World} (hb : Below g w0 w') (hg : w'.heap[g]? = w0.heap[g]?) (ho : ∀ k, ob oo k → w'.heap[k]? = w0.heap[k]?) : Rt E g w' oo oc s := by
  refine ⟨by rw [hg]; exact h.st, ?_, fun w1 f => h.b w1 (hb.trans f), h.fit⟩
  refine ⟨h.out.len, ⟨h.out.own.1, ?_⟩, h.out.byt⟩
  rcases h.out.own.2 with hv | ⟨p, cap, cur, hv, hp, hh, r⟩
  · exact .inl hv
  · simp only [Value.slice.injEq] at hv
    obtain ⟨rfl, _, rfl⟩ := hv
    exact .inr ⟨p, _, cur, rfl, hp, by rw [ho p ⟨_, rfl, rfl⟩]; exact hh, r⟩

/-- Within a round: the stream, the block x at q, the list of blocks at ao. -/
structure Kr (E : Env) (w : World) (q : Nat) (v : Array Value) (ao : Option Addr) (c : Nat) (l : List Blk) (oo : Option Addr) (oc : Nat) (t : PS) (wX : World) : Prop where
  st : Rt E w.heap.size wX oo oc t
  bx : Bx wX q v
  bm : BMine (w.heap.size + 1) wX ao l.length c l
  sep : ∀ k, ob ao k → ¬ ob oo k
  qo : ¬ ob oo q
  qa : ¬ ob ao q
  qg : w.heap.size < q
  bl : Below w.heap.size w wX
section
variable {w wX wY : World} {q : Nat} {v : Array Value} {ao : Option Addr} {c : Nat} {l : List Blk} {t t' : PS}
theorem Kr.fr (h : Kr E w q v ao c l oo oc t wX) {oo' : Option Addr} {oc' : Nat} (f : Fr w.heap.size oo wX oo' wY) (st : Rt E w.heap.size wY oo' oc' t') : Kr E w q v ao c l oo' oc' t' wY := by
  have hq := h.bx.lt
  refine ⟨st, h.bx.fr f (by have := h.qg; omega) h.qo, h.bm.keep (fun k hk => f.block k (h.bm.ob hk).2 (by have := (h.bm.ob hk).1; omega) (h.sep k hk)), fun k hk y => ?_, fun y => ?_, h.qa, h.qg, h.bl.trans (h.st.below f)⟩
  · rcases f.src k y with y1 | y1
    · exact h.sep k hk y1
    · have := (h.bm.ob hk).2; omega
  · rcases f.src q y with y1 | y1
    · exact h.qo y1
    · omega
theorem Kr.gb (h : Kr E w q v ao c l oo oc t wX) (f : Gb w.heap.size wX wY) (st : Rt E w.heap.size wY oo oc t') : Kr E w q v ao c l oo oc t' wY := h.fr (f.fr oo) st
theorem Kr.later (h : Kr E w q v ao c l oo oc t wX) (f : Below wX.heap.size wX wY) : Kr E w q v ao c l oo oc t wY := h.gb (Gb.of f) (h.st.later f)
theorem Kr.put (h : Kr E w q v ao c l oo oc t wX) (i : Nat) (u : Value) : Kr E w q (v.setIfInBounds i u) ao c l oo oc t (wX.setCell ⟨q, i, none⟩ u) := by
  have hq := h.qg
  have hk : ∀ k, k ≠ q → (wX.setCell ⟨q, i, none⟩ u).heap[k]? = wX.heap[k]? := fun k hk => heap_setCell_other wX ⟨q, i, none⟩ k u hk
  have hb : Below w.heap.size wX (wX.setCell ⟨q, i, none⟩ u) := (Below.refl w.heap.size wX).setCell (by simp; omega) u
  exact ⟨h.st.kept hb (hk _ (by omega)) (fun k y => hk k (fun e => h.qo (e ▸ y))), h.bx.put i u, h.bm.keep (fun k y => hk k (fun e => h.qa (e ▸ y))), h.sep, h.qo, h.qa, h.qg, h.bl.trans hb⟩
theorem Kr.cell (h : Kr E w q v ao c l oo oc t wX) (i : Nat) : wX.cell? ⟨q, i, none⟩ = v[i]? := cell_of_row wX q i _ _ _ h.bx
theorem Kr.free (h : Kr E w q v ao c l oo oc t wX) (i : Nat) : wX.frozen? ⟨q, i, none⟩ = false := frozen_of_row wX q i _ _ h.bx
end

/-- The stream ahead of a round, or where it has ended. -/
def RelA (E : Env) (F : Nat) (w : World) (R : List Blk × PS) (v : Value) (wr : World) : Prop :=
  ∃ (t : PS) (f : Nat) (lp l : List Blk) (oo : Option Addr) (oc : Nat) (ao : Option Addr) (c : Nat), v = .slice ao l.length c ∧ (allS F E.bs E.m f false lp t = R ∨ (Dd t ∧ Dd R.2)) ∧ l.length + f ≤ F ∧ (t.e = 0 → 8 * E.bn + 1 ≤ f + t.p) ∧ Rt E w.heap.size wr oo oc t ∧ BMine (w.heap.size + 1) wr ao l.length c l ∧ (∀ k, ob ao k → ¬ ob oo k) ∧ Below w.heap.size w wr
/-- The stream is as the program leaves it, or both have an error that is 4 or 5. -/
def Alk (u : PS) (R : List Blk × PS) : Prop := u = R.2 ∨ (Dd u ∧ Dd R.2)
def OutA (E : Env) (w : World) (R : List Blk × PS) (e : Ending) (w' : World) : Prop :=
  ∃ (u : PS) (oo : Option Addr) (oc : Nat) (xo : Option Addr) (xn xc : Nat), e = .returned (.tuple #[.pointer (some ⟨w.heap.size, 0, none⟩), .slice xo xn xc]) ∧ Rt E w.heap.size w' oo oc u ∧ Alk u R ∧ Below w.heap.size w w'

/-- A block is put behind the others. -/
theorem Kr.app {w w2 w3 : World} {q : Nat} {y : Blk} {ao ao3 : Option Addr} {c c3 n : Nat} {l : List Blk} {t : PS} {o : Obj} (h : Kr E w q (bv y) ao c l oo oc t w2) (m3 : BMine (w.heap.size + 1) w3 ao3 (l.length + 1) c3 (l ++ [y])) (hgr : (w2.alloc o).grownBy w3 (Value.slice ao n c).ownBlock) (hsrc : ∀ k, ob ao3 k → ob ao k ∨ (w2.alloc o).heap.size ≤ k) :
    Rt E w.heap.size w3 oo oc t ∧ (∀ k, ob ao3 k → ¬ ob oo k) ∧ Below w.heap.size w w3 := by
  have hal : Below w2.heap.size w2 (w2.alloc o) := below_alloc w2 _
  have sa := h.st.later hal
  have sz : (w2.alloc o).heap.size = w2.heap.size + 1 := by simp
  have hgl := h.st.lt
  have hk3 : ∀ k, k < w2.heap.size → ¬ ob ao k → w3.heap[k]? = (w2.alloc o).heap[k]? := fun k hk ho => grown_at hgr (by omega) ho
  have hao : ∀ k, k ≤ w.heap.size → ¬ ob ao k := fun k hk q => by have := (h.bm.ob q).1; omega
  have b3 : Below w.heap.size (w2.alloc o) w3 := ⟨hgr.os, hgr.tape, hgr.output, hgr.size, fun k hk => hk3 k (by omega) (hao k (by omega))⟩
  refine ⟨sa.kept b3 (hk3 _ hgl (hao _ (Nat.le_refl _))) (fun k hk => hk3 k (h.st.out.ob hk).2 (fun y => h.sep k y hk)), fun k hk y => ?_, h.bl.trans ((hal.mono (by omega)).trans b3)⟩
  rcases hsrc k hk with h1 | h1
  · exact h.sep k h1 y
  · have := (h.st.out.ob y).2
    omega
theorem msR_on {w0 : World} (h : Rt E g w0 oo oc s) (he : s.e = 0) : msR g (8 * E.bn) w0 = 8 * E.bn + 1 - s.p := by unfold msR; rw [h.err, if_pos he, h.pos]; simp
theorem msR_lt {w0 : World} (h : Rt E g w0 oo oc s) {p : Nat} (hp : p ≤ 8 * E.bn) (hs : s.e = 0 → p + 1 ≤ s.p) : msR g (8 * E.bn) w0 < 8 * E.bn + 1 - p := by
  unfold msR
  rw [h.err, h.pos]
  split
  · rename_i q
    have := hs q
    have := h.fit.p
    simp only [Int.toNat_natCast]
    omega
  · omega
/-- What is left behind a round, by plain functions. -/
theorem alk_next {F f : Nat} {b : List Int} {m : Int} {lp : List Blk} {t u : PS} {R : List Blk × PS} (hR : allS F b m f (blkV F b m t).last (lp ++ [blkV F b m t]) (blkS F b m t) = R) (hu : u = blkS F b m t ∨ (Dd u ∧ Dd (blkS F b m t))) :
    (((blkV F b m t).last = true ∨ u.e ≠ 0) → Alk u R) ∧ ((blkV F b m t).last = false → (allS F b m f false (lp ++ [blkV F b m t]) u = R ∨ (Dd u ∧ Dd R.2))) := by
  rcases hu with rfl | ⟨h1, h2⟩
  · constructor
    · intro h
      have hno : ¬ ((blkV F b m t).last = false ∧ (blkS F b m t).e = 0) := by
        intro q
        rcases h with h | h
        · rw [h] at q; exact absurd q.1 (by simp)
        · exact h q.2
      rw [allS_end hno] at hR
      exact .inl (by rw [← hR])
    · intro h
      rw [h] at hR
      exact .inl hR
  · rw [allS_end (fun q => h2.ne q.2)] at hR
    have hd : Dd R.2 := by rw [← hR]; exact h2
    exact ⟨fun _ => .inr ⟨h1, hd⟩, fun _ => .inr ⟨h1, hd⟩⟩

/-- The cell that tells whether it was the last, behind the append. -/
theorem Kr.seen {w w2 w3 : World} {q : Nat} {y : Blk} {ao : Option Addr} {c n : Nat} {l : List Blk} {t : PS} {o : Obj} (h : Kr E w q (bv y) ao c l oo oc t w2) (hgr : (w2.alloc o).grownBy w3 (Value.slice ao n c).ownBlock) : w3.cell? ⟨q, 1, none⟩ = some (.bool y.last) := by
  have hq := h.bx.lt
  have e := grown_at hgr (k := q) (by simp; omega) h.qa
  have hx : w3.heap[q]? = some (.cells (bv y) 90 (0, 0)) := by
    rw [e, (below_alloc w2 o).block q hq]
    exact h.bx
  rw [cell_of_row w3 q 1 _ _ _ hx]
  rfl

set_option maxHeartbeats 8000000 in
set_option maxRecDepth 20000 in
theorem all_rd (F : Nat) (w : World) (bo : Option Addr) (bn bc : Nat) (bs : List Int) (m : Int) (hb : Bs w bo bn bc bs) (hn : bn ≤ 1000000) (m0 : 0 ≤ m) (m1 : m ≤ 1000000) (hF : 8 * bn + 1 ≤ F) (hF2 : F ≤ 1000000000) :
    Calls Tryz.prog 45 #[.slice bo bn bc, .int .i64 m] w fun e w' => OutA ⟨bo, bn, bc, bs, m⟩ w (infS F bs m) e w' := by
  have hle := hb.le
  have hmx := hb.max
  have hbl := hb.len
  have S0 := hide (show Rt ⟨bo, bn, bc, bs, m⟩ w.heap.size (w.alloc (.cells #[.slice bo bn bc, .int .i64 0, .int .i64 0, .slice none 0 0, .int .i64 m] 81)) .none 0 ⟨0, 0, []⟩ from
    ⟨heap_alloc_new w _, Mine.nought _ _, fun w1 f => hb.later ((below_alloc w _).trans f), ⟨by simp, by simp, by simp, by simp, hn, m0, m1, hle, hmx, hbl⟩⟩)
  have B0 := hide (below_alloc w (.cells #[.slice bo bn bc, .int .i64 0, .int .i64 0, .slice none 0 0, .int .i64 m] 81))
  clear hb
  generalize hE : (⟨bo, bn, bc, bs, m⟩ : Env) = E at *
  generalize hR : infS F bs m = R
  have HR := hide (show allS F E.bs E.m F false [] ⟨0, 0, []⟩ = R by rw [← hE]; exact hR)
  have hF' : 8 * E.bn + 1 ≤ F := by rw [← hE]; exact hF
  clear hR hbl hF hE
  go_enter Tryz.func45, Tryz.ntmps45
  go_wp2_with fail
  generalize w.alloc (.cells #[.slice bo bn bc, .int .i64 0, .int .i64 0, .slice none 0 0, .int .i64 m] 81) = w1 at *
  go_loopw [7] (fun v wr => RelA E F w R v wr) (fun _ wr => msR w.heap.size (8 * E.bn) wr)
  case atStart => exact ⟨⟨0, 0, []⟩, F, [], [], .none, 0, .none, 0, rfl, .inl (unhide HR), by simp, fun _ => by simp; omega, unhide S0, BMine.nought _ _, (fun k hk => by obtain ⟨a, h, _⟩ := hk; cases h), unhide B0⟩
  case round =>
    clear S0 B0 HR
    obtain ⟨t, f, lp, l, oo, oc, ao, c, rfl, ha, hlf, hf, st, bm, hsep, bl⟩ := hrel
    have c1 := st.c1
    have c2 := st.c2
    have c3 := st.c3
    have hp := st.fit.p
    have hbn := st.fit.bn
    have ho := st.fit.o
    by_cases he : t.e = 0
    · have he' : (t.e == 0) = true := by simpa using he
      have hms := hide (msR_on st he)
      have hfa := hf he
      obtain ⟨f', hf'⟩ : ∃ f', f = f' + 1 := ⟨f - 1, by omega⟩
      subst hf'
      have hnx := hide (show allS F E.bs E.m f' (blkV F E.bs E.m t).last (lp ++ [blkV F E.bs E.m t]) (blkS F E.bs E.m t) = R by
        rcases ha with ha | ha
        · rw [← ha, allS_on rfl he]
        · exact absurd he ha.1.ne)
      have UPB := hide (fun y => (blk_p (F := F) (b := E.bs) (m := E.m) (s := t) y).2.2.2.1)
      obtain ⟨q, hq⟩ : ∃ q, wr.heap.size = q := ⟨_, rfl⟩
      have hgl := st.lt
      have hbx : Bx (wr.alloc (.cells #[.int .i64 0, .bool false, .int .i64 (t.p : Int), .int .i64 0] 90)) q #[.int .i64 0, .bool false, .int .i64 (t.p : Int), .int .i64 0] := by rw [← hq]; exact heap_alloc_new wr _
      have K0 : Kr E w q #[.int .i64 0, .bool false, .int .i64 (t.p : Int), .int .i64 0] ao c l oo oc t (wr.alloc (.cells #[.int .i64 0, .bool false, .int .i64 (t.p : Int), .int .i64 0] 90)) :=
        ⟨st.later (below_alloc wr _), hbx, bm.later (below_alloc wr _), hsep, fun y => by have := (st.out.ob y).2; omega, fun y => by have := (bm.ob y).2; omega, by omega, bl.trans ((below_alloc wr _).mono (by have := bl.size; omega))⟩
      have KH := hide K0
      have kc3 := K0.st.c3
      have ST := hide st
      have f1 := hide (fun w' (h : Rt E w.heap.size w' oo oc t) => field_rd w' 1 (by omega) 1 rfl h)
      have f2 := hide (fun w' (h : Rt E w.heap.size w' oo oc (fldN E.bs 1 t).2) => field_rd w' 2 (by omega) 2 rfl h)
      have v2b := fldR_bd E.bs 2 (fldN E.bs 1 t).2
      have VOK := hide (fun (y : (fldN E.bs 2 (fldN E.bs 1 t).2).2.e = 0) => (show fldR E.bs 1 t = (fldN E.bs 1 t).1 ∧ fldR E.bs 2 (fldN E.bs 1 t).2 = (fldN E.bs 2 (fldN E.bs 1 t).2).1 from ⟨fldR_ok (fld_back y), fldR_ok y⟩))
      have HBS := hide (show blkS F E.bs E.m t = knds F E.bs E.m (fldN E.bs 2 (fldN E.bs 1 t).2).1 (fldN E.bs 2 (fldN E.bs 1 t).2).2 from rfl)
      have HLV := hide (show (blkV F E.bs E.m t).last = decide ((fldN E.bs 1 t).1 = 1) from rfl)
      clear ha hf st bm K0 hbx he hsep
      generalize (fldN E.bs 2 (fldN E.bs 1 t).2).1 = U2 at *
      generalize fldR E.bs 2 (fldN E.bs 1 t).2 = V2 at *
      generalize (fldN E.bs 2 (fldN E.bs 1 t).2).2 = t2 at *
      generalize (fldN E.bs 1 t).1 = U1 at *
      generalize fldR E.bs 1 t = V1 at *
      generalize (fldN E.bs 1 t).2 = t1 at *
      go_wp2_with fail
      generalize wr.alloc (.cells #[.int .i64 0, .bool false, .int .i64 (t.p : Int), .int .i64 0] 90) = wa at *
      refine (unhide f1 _ (unhide KH).st).mono ?_
      rintro e w2 ⟨rfl, s2, g2⟩
      have K2 := hide (((unhide KH).gb g2 s2).put 1 (.bool (V1 == 1)))
      have a1 := ((unhide KH).gb g2 s2).cell 1
      have a1f := ((unhide KH).gb g2 s2).free 1
      simp at a1
      clear s2 g2 KH f1
      go_wp2_with fail
      refine (unhide f2 _ (unhide K2).st).mono ?_
      rintro e w3 ⟨rfl, s3, g3⟩
      have K3 := hide (((unhide K2).gb g3 s3).put 0 (.int .i64 V2))
      have a0 := ((unhide K2).gb g3 s3).cell 0
      have a0f := ((unhide K2).gb g3 s3).free 0
      simp at a0
      clear s3 g3 K2 f2 a1 a1f
      obtain ⟨lst, hlst⟩ : ∃ lst : Bool, (V1 == 1) = lst := ⟨_, rfl⟩
      have K4 := hide (show Kr E w q #[.int .i64 V2, .bool lst, .int .i64 (t.p : Int), .int .i64 0] ao c l oo oc t2 (w3.setCell ⟨q, 0, none⟩ (.int .i64 V2)) from by rw [← hlst]; exact unhide K3)
      have k2 := (unhide K4).st.c2
      have k2f := (unhide K4).st.free 2
      have k0 := (unhide K4).cell 0
      simp at k0
      clear K3
      obtain ⟨wX0, hwX0⟩ : ∃ wX0, wX0 = w3.setCell ⟨q, 0, none⟩ (.int .i64 V2) := ⟨_, rfl⟩
      by_cases e2 : t2.e = 0
      · have e2' : (t2.e != 0) = false := by simpa using e2
        obtain ⟨hv1, hv2⟩ := unhide VOK e2
        subst hv1
        subst hv2
        have HLT := hide (show (blkV F E.bs E.m t).last = lst by rw [unhide HLV, ← hlst]; rfl)
        have hkk : V2 = 0 ∨ V2 = 1 ∨ V2 = 2 ∨ V2 = 3 := by omega
        clear VOK HLV v2b
        rcases hkk with rfl | rfl | rfl | rfl
        · have hk := hide (show blkS F E.bs E.m t = stoS E.bs E.m t2 from unhide HBS)
          have sc := hide (stored_rd _ e2 (unhide K4).st)
          clear e2
          go_upto_region 15 with (go_at_call 59; refine (unhide sc).mono ?_; rintro e wX ⟨rfl, oo4, oc4, sX, fX⟩; have KX := (unhide K4).fr fX sX; clear sX fX)
          obtain ⟨t', ht'⟩ : ∃ t', stoS E.bs E.m t2 = t' := ⟨_, rfl⟩
          rw [ht'] at KX hk
          have HU := hide (show t' = blkS F E.bs E.m t ∨ (Dd t' ∧ Dd (blkS F E.bs E.m t)) from .inl (unhide hk).symm)
          clear ht' k0 k2 k2f a0 a0f kc3 sc K4
          have y0 := KX.cell 0
          have kc3 := KX.st.c3
          have k3 := KX.cell 3
          have k3f := KX.free 3
          simp at y0 k3
          obtain ⟨Z, hZ⟩ : ∃ Z : Int, (t'.o.length : Int) - (t.o.length : Int) = Z := ⟨_, rfl⟩
          have ho4 := KX.st.fit.o
          have KPH := hide (show Kr E w q (bv ⟨0, lst, t.p, Z⟩) ao c l oo4 oc4 t' (wX.setCell ⟨q, 3, none⟩ (.int .i64 Z)) from KX.put 3 (.int .i64 Z))
          have NX := hide (alk_next (unhide hnx) (unhide HU))
          have UP := hide (show t'.e = 0 → t.p + 3 ≤ t'.p from fun y => by
            rcases unhide HU with h | h
            · rw [h] at y ⊢; exact unhide UPB y
            · exact absurd y h.1.ne)
          have hsz := (unhide KPH).bl.size
          have kpx := hide (show (wX.setCell ⟨q, 3, none⟩ (.int .i64 Z)).heap[q]? = some (.cells #[.int .i64 0, .bool lst, .int .i64 (t.p : Int), .int .i64 Z] 90 (0, 0)) from (unhide KPH).bx)
          have HNB := hide (show Bx ((wX.setCell ⟨q, 3, none⟩ (.int .i64 Z)).alloc (.cells #[.int .i64 0, .bool lst, .int .i64 (t.p : Int), .int .i64 Z] 90)) wX.heap.size (bv ⟨0, lst, t.p, Z⟩) from by
            have hs2 : (wX.setCell ⟨q, 3, none⟩ (.int .i64 Z)).heap.size = wX.heap.size := by simp
            have := heap_alloc_new (wX.setCell ⟨q, 3, none⟩ (.int .i64 Z)) (.cells #[.int .i64 0, .bool lst, .int .i64 (t.p : Int), .int .i64 Z] 90)
            rw [hs2] at this
            exact this)
          have HBM := hide (fun o => (unhide KPH).bm.later (below_alloc _ o))
          clear KX HU UPB hnx
          cases lst with
          | true =>
            go_wp2_with (first
              | (with_reducible show wpList Tryz.prog _ _ (Oper.mk _ (Op.load 90 _) _ _ _ none :: _) _ _; refine wpList_load_row rfl _ (.tmp 8) rfl q rfl _ #[.int .i64 0, .bool true, .int .i64 (t.p : Int), .int .i64 Z] (0, 0) _ (unhide kpx) Tryz.underlying90 rfl (by kernel_rfl) ?_)
              | (at_builtin; refine wpList_bapp rfl (.tmp 91) (.tmp 93) rfl (w.heap.size + 1) ao _ c l rfl (unhide HBM _) wX.heap.size ⟨0, true, t.p, Z⟩ rfl (unhide HNB) (by omega) (by simp; simp at hsz; omega) ?_; intro ao3 c3 wN m3 hgr hsrc; obtain ⟨sN, sepN, bN⟩ := (unhide KPH).app m3 hgr hsrc; have eN := (unhide KPH).seen hgr; clear hgr hsrc))
            go_ret2
            exact ⟨t', oo4, oc4, ao3, _, c3, rfl, sN, (unhide NX).1 (.inl (unhide HLT)), bN⟩
          | false =>
            go_wp2_with (first
              | (with_reducible show wpList Tryz.prog _ _ (Oper.mk _ (Op.load 90 _) _ _ _ none :: _) _ _; refine wpList_load_row rfl _ (.tmp 8) rfl q rfl _ #[.int .i64 0, .bool false, .int .i64 (t.p : Int), .int .i64 Z] (0, 0) _ (unhide kpx) Tryz.underlying90 rfl (by kernel_rfl) ?_)
              | (at_builtin; refine wpList_bapp rfl (.tmp 91) (.tmp 93) rfl (w.heap.size + 1) ao _ c l rfl (unhide HBM _) wX.heap.size ⟨0, false, t.p, Z⟩ rfl (unhide HNB) (by omega) (by simp; simp at hsz; omega) ?_; intro ao3 c3 wN m3 hgr hsrc; obtain ⟨sN, sepN, bN⟩ := (unhide KPH).app m3 hgr hsrc; have eN := (unhide KPH).seen hgr; clear hgr hsrc))
            go_roundw
            case rel => exact ⟨t', f', lp ++ [blkV F E.bs E.m t], l ++ [⟨0, false, t.p, Z⟩], oo4, oc4, ao3, c3, by simp, (unhide NX).2 (unhide HLT), by simp; omega, fun y => by have := unhide UP y; omega, sN, by simpa using m3, sepN, bN⟩
            case measure => rw [unhide hms]; exact msR_lt sN hp (fun y => by have := unhide UP y; omega)
        · have hk := hide (show blkS F E.bs E.m t = cdS fixL fixD E.bs E.m F t2 from unhide HBS)
          have KW := hide (unhide K4)
          clear e2
          go_upto_region 17 with (go_at_call 60; refine (fixed_rd _).mono ?_; rintro e w4 ⟨lo, lc, d, dc, rfl, ml, md, b4⟩)
          have K5 := hide ((unhide KW).later b4)
          have m1 := hide (made_rd w4 lo 288 lc fixL ml.is)
          have ML := hide ml
          have MD := hide md
          have hgB := hide (show w.heap.size < (w3.setCell ⟨q, 0, none⟩ (.int .i64 1)).heap.size ∧ (∀ k, ob oo k → k < (w3.setCell ⟨q, 0, none⟩ (.int .i64 1)).heap.size) from ⟨(unhide KW).st.lt, fun k y => ((unhide KW).st.out.ob y).2⟩)
          have z4 := b4.size
          clear ml md b4 K4
          go_wp2_with fail
          refine (unhide m1).mono ?_
          rintro e w5 ⟨⟨lk, lkn, lkc, rfl, i5⟩, b5⟩
          have n5 : lkn = 288 := by rw [← i5.len, show cdd fixL = cds fixL from if_pos cer_fixL, cds_len]; exact fixL_len
          subst n5
          rw [show cdd fixL = cds fixL from if_pos cer_fixL] at i5
          have K6 := hide ((unhide K5).later b5)
          have ML5 := hide ((unhide ML).later b5)
          have MD5 := hide ((unhide MD).later b5)
          have I5 := hide i5
          have m2 := hide (made_rd w5 d 32 dc fixD (unhide MD5).is)
          have z5 := b5.size
          clear i5 b5 m1 K5 ML MD
          go_wp2_with fail
          refine (unhide m2).mono ?_
          rintro e w6 ⟨⟨dk, dkn, dkc, rfl, i6⟩, b6⟩
          have n6 : dkn = 32 := by rw [← i6.len, show cdd fixD = cds fixD from if_pos cer_fixD, cds_len]; exact fixD_len
          subst n6
          rw [show cdd fixD = cds fixD from if_pos cer_fixD] at i6
          have K7 := hide ((unhide K6).later b6)
          have ML6 := hide ((unhide ML5).later b6)
          have MD6 := hide ((unhide MD5).later b6)
          have I56 := hide ((unhide I5).later b6)
          obtain ⟨hg1, hg2⟩ := unhide hgB
          have CL : Cd w.heap.size oo w6 lo 288 lc lk lkc fixL := ⟨fun oo' w' f => (imine_stay (unhide ML6) hg1 hg2 f).is, fun oo' w' f => (imine_stay (unhide I56) (by omega) (fun k y => by have := hg2 k y; omega) f).is, cer_fixL⟩
          have CD : Cd w.heap.size oo w6 d 32 dc dk dkc fixD := ⟨fun oo' w' f => (imine_stay (unhide MD6) hg1 hg2 f).is, fun oo' w' f => (imine_stay i6 (by omega) (fun k y => by have := hg2 k y; omega) f).is, cer_fixD⟩
          have pc := hide (pieces_rd F w6 lo 288 lc lk lkc fixL d 32 dc dk dkc fixD CL CD hF' (unhide K7).st)
          clear i6 b6 m2 K6 ML5 MD5 I5 CL CD hgB hg1 hg2 ML6 MD6 I56
          go_upto_region 18 with (go_at_call 61; refine (unhide pc).mono ?_; rintro e wX ⟨rfl, oo4, oc4, sX, fX⟩; have KX := (unhide K7).fr fX sX; clear sX fX)
          obtain ⟨t', ht'⟩ : ∃ t', cdS fixL fixD E.bs E.m F t2 = t' := ⟨_, rfl⟩
          rw [ht'] at KX hk
          have HU := hide (show t' = blkS F E.bs E.m t ∨ (Dd t' ∧ Dd (blkS F E.bs E.m t)) from .inl (unhide hk).symm)
          clear ht' k0 k2 k2f a0 a0f kc3 pc K7 KW
          have y0 := KX.cell 0
          have kc3 := KX.st.c3
          have k3 := KX.cell 3
          have k3f := KX.free 3
          simp at y0 k3
          obtain ⟨Z, hZ⟩ : ∃ Z : Int, (t'.o.length : Int) - (t.o.length : Int) = Z := ⟨_, rfl⟩
          have ho4 := KX.st.fit.o
          have KPH := hide (show Kr E w q (bv ⟨1, lst, t.p, Z⟩) ao c l oo4 oc4 t' (wX.setCell ⟨q, 3, none⟩ (.int .i64 Z)) from KX.put 3 (.int .i64 Z))
          have NX := hide (alk_next (unhide hnx) (unhide HU))
          have UP := hide (show t'.e = 0 → t.p + 3 ≤ t'.p from fun y => by
            rcases unhide HU with h | h
            · rw [h] at y ⊢; exact unhide UPB y
            · exact absurd y h.1.ne)
          have hsz := (unhide KPH).bl.size
          have kpx := hide (show (wX.setCell ⟨q, 3, none⟩ (.int .i64 Z)).heap[q]? = some (.cells #[.int .i64 1, .bool lst, .int .i64 (t.p : Int), .int .i64 Z] 90 (0, 0)) from (unhide KPH).bx)
          have HNB := hide (show Bx ((wX.setCell ⟨q, 3, none⟩ (.int .i64 Z)).alloc (.cells #[.int .i64 1, .bool lst, .int .i64 (t.p : Int), .int .i64 Z] 90)) wX.heap.size (bv ⟨1, lst, t.p, Z⟩) from by
            have hs2 : (wX.setCell ⟨q, 3, none⟩ (.int .i64 Z)).heap.size = wX.heap.size := by simp
            have := heap_alloc_new (wX.setCell ⟨q, 3, none⟩ (.int .i64 Z)) (.cells #[.int .i64 1, .bool lst, .int .i64 (t.p : Int), .int .i64 Z] 90)
            rw [hs2] at this
            exact this)
          have HBM := hide (fun o => (unhide KPH).bm.later (below_alloc _ o))
          clear KX HU UPB hnx
          cases lst with
          | true =>
            go_wp2_with (first
              | (with_reducible show wpList Tryz.prog _ _ (Oper.mk _ (Op.load 90 _) _ _ _ none :: _) _ _; refine wpList_load_row rfl _ (.tmp 8) rfl q rfl _ #[.int .i64 1, .bool true, .int .i64 (t.p : Int), .int .i64 Z] (0, 0) _ (unhide kpx) Tryz.underlying90 rfl (by kernel_rfl) ?_)
              | (at_builtin; refine wpList_bapp rfl (.tmp 91) (.tmp 93) rfl (w.heap.size + 1) ao _ c l rfl (unhide HBM _) wX.heap.size ⟨1, true, t.p, Z⟩ rfl (unhide HNB) (by omega) (by simp; simp at hsz; omega) ?_; intro ao3 c3 wN m3 hgr hsrc; obtain ⟨sN, sepN, bN⟩ := (unhide KPH).app m3 hgr hsrc; have eN := (unhide KPH).seen hgr; clear hgr hsrc))
            go_ret2
            exact ⟨t', oo4, oc4, ao3, _, c3, rfl, sN, (unhide NX).1 (.inl (unhide HLT)), bN⟩
          | false =>
            go_wp2_with (first
              | (with_reducible show wpList Tryz.prog _ _ (Oper.mk _ (Op.load 90 _) _ _ _ none :: _) _ _; refine wpList_load_row rfl _ (.tmp 8) rfl q rfl _ #[.int .i64 1, .bool false, .int .i64 (t.p : Int), .int .i64 Z] (0, 0) _ (unhide kpx) Tryz.underlying90 rfl (by kernel_rfl) ?_)
              | (at_builtin; refine wpList_bapp rfl (.tmp 91) (.tmp 93) rfl (w.heap.size + 1) ao _ c l rfl (unhide HBM _) wX.heap.size ⟨1, false, t.p, Z⟩ rfl (unhide HNB) (by omega) (by simp; simp at hsz; omega) ?_; intro ao3 c3 wN m3 hgr hsrc; obtain ⟨sN, sepN, bN⟩ := (unhide KPH).app m3 hgr hsrc; have eN := (unhide KPH).seen hgr; clear hgr hsrc))
            go_roundw
            case rel => exact ⟨t', f', lp ++ [blkV F E.bs E.m t], l ++ [⟨1, false, t.p, Z⟩], oo4, oc4, ao3, c3, by simp, (unhide NX).2 (unhide HLT), by simp; omega, fun y => by have := unhide UP y; omega, sN, by simpa using m3, sepN, bN⟩
            case measure => rw [unhide hms]; exact msR_lt sN hp (fun y => by have := unhide UP y; omega)
        · have hk := hide (show blkS F E.bs E.m t = cdS (cosS E.bs t2).1.1 (cosS E.bs t2).1.2 E.bs E.m F (cosS E.bs t2).2 from unhide HBS)
          have dy := hide (dynamic_rd _ e2 (unhide K4).st)
          clear e2 HBS
          generalize cosS E.bs t2 = RC at *
          go_wp2_with fail
          refine (unhide dy).mono ?_
          rintro e w4 ⟨lo, ln, lc, lk, lkn, lkc, d, dn, dc, dk, dkn, dkc, u, rfl, s4, g4, hu, hcd⟩
          have K5 := hide ((unhide K4).gb g4 s4)
          obtain ⟨q1, q2, bl4, z4⟩ := two_blocks w4 #[.slice none 0 0, .slice none 0 0] #[.slice none 0 0, .slice none 0 0] 101
          have y1 := hide q1
          have y2 := hide q2
          have BL4 := hide bl4
          have HUU := hide hu
          have HCD := hide hcd
          clear s4 g4 q1 q2 bl4 hu hcd dy K4 k0 k2 k2f a0 a0f
          go_upto_region 20 with (first
            | (with_reducible show wpList Tryz.prog _ _ (Oper.mk _ (Op.store 101 _ _) _ _ _ none :: _) _ _; refine wpList_cdStore rfl (.tmp 12) (.tmp 77) rfl w4.heap.size (.slice lo ln lc) (.slice lk lkn lkc) _ _ rfl rfl rfl rfl (unhide y1) ?_; intro wY stY gY zY; have y3 := hide ((gY.block (w4.heap.size + 1) (by omega) (by omega)).trans (unhide y2)))
            | (with_reducible show wpList Tryz.prog _ _ (Oper.mk _ (Op.store 101 _ _) _ _ _ none :: _) _ _; refine wpList_cdStore rfl (.tmp 13) (.tmp 78) rfl (w4.heap.size + 1) (.slice d dn dc) (.slice dk dkn dkc) _ _ rfl rfl rfl rfl (unhide y3) ?_; intro wZ stZ gZ zZ))
          have st1 := hide ((gZ.block w4.heap.size (by omega) (by omega)).trans stY)
          have st2 := hide stZ
          have bZ : Below w4.heap.size w4 wZ := ⟨gZ.os.trans (gY.os.trans (unhide BL4).os), gZ.tape.trans (gY.tape.trans (unhide BL4).tape), gZ.output.trans (gY.output.trans (unhide BL4).output), by omega, fun k hk => (gZ.block k (by omega) (by omega)).trans ((gY.block k (by omega) (by omega)).trans ((unhide BL4).block k hk))⟩
          have K6 := hide ((unhide K5).later bZ)
          have FZ := hide (show Fr w.heap.size oo w4 oo wZ from (Gb.of bZ).fr oo)
          clear stY gY zY stZ gZ zZ bZ K5 BL4 y1 y2 y3
          by_cases eu : u.e = 0
          · obtain ⟨n1, n2, cl, cd⟩ := unhide HCD eu
            subst n1
            subst n2
            have hu2 : u = RC.2 := (unhide HUU).resolve_right fun h => h.1.ne eu
            have pc := hide (pieces_rd F wZ lo lkn lc lk lkc RC.1.1 d dkn dc dk dkc RC.1.2 ⟨fun oo' w' f => cl.len oo' w' ((unhide FZ).trans f), fun oo' w' f => cl.cod oo' w' ((unhide FZ).trans f), cl.ok⟩ ⟨fun oo' w' f => cd.len oo' w' ((unhide FZ).trans f), fun oo' w' f => cd.cod oo' w' ((unhide FZ).trans f), cd.ok⟩ hF' (unhide K6).st)
            rw [← hu2] at hk
            clear cl cd hu2 eu HCD HUU
            go_upto_region 21 with (first
              | (with_reducible show wpList Tryz.prog _ _ (Oper.mk _ (Op.load 101 _) _ _ _ none :: _) _ _; refine wpList_cdLoad rfl (.tmp 12) rfl w4.heap.size rfl _ _ (unhide st1) ?_)
              | (with_reducible show wpList Tryz.prog _ _ (Oper.mk _ (Op.load 101 _) _ _ _ none :: _) _ _; refine wpList_cdLoad rfl (.tmp 13) rfl (w4.heap.size + 1) rfl _ _ (unhide st2) ?_)
              | (go_at_call 61; refine (unhide pc).mono ?_; rintro e wX ⟨rfl, oo4, oc4, sX, fX⟩; have KX := (unhide K6).fr fX sX; clear sX fX))
            obtain ⟨t', ht'⟩ : ∃ t', cdS RC.1.1 RC.1.2 E.bs E.m F u = t' := ⟨_, rfl⟩
            rw [ht'] at KX hk
            have HU := hide (show t' = blkS F E.bs E.m t ∨ (Dd t' ∧ Dd (blkS F E.bs E.m t)) from .inl (unhide hk).symm)
            clear ht' kc3 pc K6 FZ st1 st2
            have y0 := KX.cell 0
            have kc3 := KX.st.c3
            have k3 := KX.cell 3
            have k3f := KX.free 3
            simp at y0 k3
            obtain ⟨Z, hZ⟩ : ∃ Z : Int, (t'.o.length : Int) - (t.o.length : Int) = Z := ⟨_, rfl⟩
            have ho4 := KX.st.fit.o
            have KPH := hide (show Kr E w q (bv ⟨2, lst, t.p, Z⟩) ao c l oo4 oc4 t' (wX.setCell ⟨q, 3, none⟩ (.int .i64 Z)) from KX.put 3 (.int .i64 Z))
            have NX := hide (alk_next (unhide hnx) (unhide HU))
            have UP := hide (show t'.e = 0 → t.p + 3 ≤ t'.p from fun y => by
              rcases unhide HU with h | h
              · rw [h] at y ⊢; exact unhide UPB y
              · exact absurd y h.1.ne)
            have hsz := (unhide KPH).bl.size
            have kpx := hide (show (wX.setCell ⟨q, 3, none⟩ (.int .i64 Z)).heap[q]? = some (.cells #[.int .i64 2, .bool lst, .int .i64 (t.p : Int), .int .i64 Z] 90 (0, 0)) from (unhide KPH).bx)
            have HNB := hide (show Bx ((wX.setCell ⟨q, 3, none⟩ (.int .i64 Z)).alloc (.cells #[.int .i64 2, .bool lst, .int .i64 (t.p : Int), .int .i64 Z] 90)) wX.heap.size (bv ⟨2, lst, t.p, Z⟩) from by
              have hs2 : (wX.setCell ⟨q, 3, none⟩ (.int .i64 Z)).heap.size = wX.heap.size := by simp
              have := heap_alloc_new (wX.setCell ⟨q, 3, none⟩ (.int .i64 Z)) (.cells #[.int .i64 2, .bool lst, .int .i64 (t.p : Int), .int .i64 Z] 90)
              rw [hs2] at this
              exact this)
            have HBM := hide (fun o => (unhide KPH).bm.later (below_alloc _ o))
            clear KX HU UPB hnx
            cases lst with
            | true =>
              go_wp2_with (first
                | (with_reducible show wpList Tryz.prog _ _ (Oper.mk _ (Op.load 90 _) _ _ _ none :: _) _ _; refine wpList_load_row rfl _ (.tmp 8) rfl q rfl _ #[.int .i64 2, .bool true, .int .i64 (t.p : Int), .int .i64 Z] (0, 0) _ (unhide kpx) Tryz.underlying90 rfl (by kernel_rfl) ?_)
                | (at_builtin; refine wpList_bapp rfl (.tmp 91) (.tmp 93) rfl (w.heap.size + 1) ao _ c l rfl (unhide HBM _) wX.heap.size ⟨2, true, t.p, Z⟩ rfl (unhide HNB) (by omega) (by simp; simp at hsz; omega) ?_; intro ao3 c3 wN m3 hgr hsrc; obtain ⟨sN, sepN, bN⟩ := (unhide KPH).app m3 hgr hsrc; have eN := (unhide KPH).seen hgr; clear hgr hsrc))
              go_ret2
              exact ⟨t', oo4, oc4, ao3, _, c3, rfl, sN, (unhide NX).1 (.inl (unhide HLT)), bN⟩
            | false =>
              go_wp2_with (first
                | (with_reducible show wpList Tryz.prog _ _ (Oper.mk _ (Op.load 90 _) _ _ _ none :: _) _ _; refine wpList_load_row rfl _ (.tmp 8) rfl q rfl _ #[.int .i64 2, .bool false, .int .i64 (t.p : Int), .int .i64 Z] (0, 0) _ (unhide kpx) Tryz.underlying90 rfl (by kernel_rfl) ?_)
                | (at_builtin; refine wpList_bapp rfl (.tmp 91) (.tmp 93) rfl (w.heap.size + 1) ao _ c l rfl (unhide HBM _) wX.heap.size ⟨2, false, t.p, Z⟩ rfl (unhide HNB) (by omega) (by simp; simp at hsz; omega) ?_; intro ao3 c3 wN m3 hgr hsrc; obtain ⟨sN, sepN, bN⟩ := (unhide KPH).app m3 hgr hsrc; have eN := (unhide KPH).seen hgr; clear hgr hsrc))
              go_roundw
              case rel => exact ⟨t', f', lp ++ [blkV F E.bs E.m t], l ++ [⟨2, false, t.p, Z⟩], oo4, oc4, ao3, c3, by simp, (unhide NX).2 (unhide HLT), by simp; omega, fun y => by have := unhide UP y; omega, sN, by simpa using m3, sepN, bN⟩
              case measure => rw [unhide hms]; exact msR_lt sN hp (fun y => by have := unhide UP y; omega)
          · have hU := hide (show u = blkS F E.bs E.m t ∨ (Dd u ∧ Dd (blkS F E.bs E.m t)) by
              rcases unhide HUU with h | h
              · rw [unhide hk, ← h, cdS_dead eu]
                exact .inl rfl
              · rw [unhide hk, cdS_dead h.2.ne]
                exact .inr h)
            have pc := hide (pieces_dead wZ (.slice lo ln lc) (.slice lk lkn lkc) (.slice d dn dc) (.slice dk dkn dkc) eu (unhide K6).st)
            clear eu HCD HUU hk
            go_upto_region 21 with (first
              | (with_reducible show wpList Tryz.prog _ _ (Oper.mk _ (Op.load 101 _) _ _ _ none :: _) _ _; refine wpList_cdLoad rfl (.tmp 12) rfl w4.heap.size rfl _ _ (unhide st1) ?_)
              | (with_reducible show wpList Tryz.prog _ _ (Oper.mk _ (Op.load 101 _) _ _ _ none :: _) _ _; refine wpList_cdLoad rfl (.tmp 13) rfl (w4.heap.size + 1) rfl _ _ (unhide st2) ?_)
              | (go_at_call 61; refine (unhide pc).mono ?_; rintro e wX ⟨rfl, bX⟩; have KX := (unhide K6).later bX; clear bX))
            obtain ⟨t', ht'⟩ : ∃ t', u = t' := ⟨_, rfl⟩
            obtain ⟨oo4, ho4'⟩ : ∃ x, oo = x := ⟨_, rfl⟩
            obtain ⟨oc4, hc4'⟩ : ∃ x, oc = x := ⟨_, rfl⟩
            rw [ht', ho4', hc4'] at KX
            rw [ht'] at hU
            have HU := hU
            clear ht' ho4' hc4' kc3 pc K6 FZ st1 st2 hU
            have y0 := KX.cell 0
            have kc3 := KX.st.c3
            have k3 := KX.cell 3
            have k3f := KX.free 3
            simp at y0 k3
            obtain ⟨Z, hZ⟩ : ∃ Z : Int, (t'.o.length : Int) - (t.o.length : Int) = Z := ⟨_, rfl⟩
            have ho4 := KX.st.fit.o
            have KPH := hide (show Kr E w q (bv ⟨2, lst, t.p, Z⟩) ao c l oo4 oc4 t' (wX.setCell ⟨q, 3, none⟩ (.int .i64 Z)) from KX.put 3 (.int .i64 Z))
            have NX := hide (alk_next (unhide hnx) (unhide HU))
            have UP := hide (show t'.e = 0 → t.p + 3 ≤ t'.p from fun y => by
              rcases unhide HU with h | h
              · rw [h] at y ⊢; exact unhide UPB y
              · exact absurd y h.1.ne)
            have hsz := (unhide KPH).bl.size
            have kpx := hide (show (wX.setCell ⟨q, 3, none⟩ (.int .i64 Z)).heap[q]? = some (.cells #[.int .i64 2, .bool lst, .int .i64 (t.p : Int), .int .i64 Z] 90 (0, 0)) from (unhide KPH).bx)
            have HNB := hide (show Bx ((wX.setCell ⟨q, 3, none⟩ (.int .i64 Z)).alloc (.cells #[.int .i64 2, .bool lst, .int .i64 (t.p : Int), .int .i64 Z] 90)) wX.heap.size (bv ⟨2, lst, t.p, Z⟩) from by
              have hs2 : (wX.setCell ⟨q, 3, none⟩ (.int .i64 Z)).heap.size = wX.heap.size := by simp
              have := heap_alloc_new (wX.setCell ⟨q, 3, none⟩ (.int .i64 Z)) (.cells #[.int .i64 2, .bool lst, .int .i64 (t.p : Int), .int .i64 Z] 90)
              rw [hs2] at this
              exact this)
            have HBM := hide (fun o => (unhide KPH).bm.later (below_alloc _ o))
            clear KX HU UPB hnx
            cases lst with
            | true =>
              go_wp2_with (first
                | (with_reducible show wpList Tryz.prog _ _ (Oper.mk _ (Op.load 90 _) _ _ _ none :: _) _ _; refine wpList_load_row rfl _ (.tmp 8) rfl q rfl _ #[.int .i64 2, .bool true, .int .i64 (t.p : Int), .int .i64 Z] (0, 0) _ (unhide kpx) Tryz.underlying90 rfl (by kernel_rfl) ?_)
                | (at_builtin; refine wpList_bapp rfl (.tmp 91) (.tmp 93) rfl (w.heap.size + 1) ao _ c l rfl (unhide HBM _) wX.heap.size ⟨2, true, t.p, Z⟩ rfl (unhide HNB) (by omega) (by simp; simp at hsz; omega) ?_; intro ao3 c3 wN m3 hgr hsrc; obtain ⟨sN, sepN, bN⟩ := (unhide KPH).app m3 hgr hsrc; have eN := (unhide KPH).seen hgr; clear hgr hsrc))
              go_ret2
              exact ⟨t', oo4, oc4, ao3, _, c3, rfl, sN, (unhide NX).1 (.inl (unhide HLT)), bN⟩
            | false =>
              go_wp2_with (first
                | (with_reducible show wpList Tryz.prog _ _ (Oper.mk _ (Op.load 90 _) _ _ _ none :: _) _ _; refine wpList_load_row rfl _ (.tmp 8) rfl q rfl _ #[.int .i64 2, .bool false, .int .i64 (t.p : Int), .int .i64 Z] (0, 0) _ (unhide kpx) Tryz.underlying90 rfl (by kernel_rfl) ?_)
                | (at_builtin; refine wpList_bapp rfl (.tmp 91) (.tmp 93) rfl (w.heap.size + 1) ao _ c l rfl (unhide HBM _) wX.heap.size ⟨2, false, t.p, Z⟩ rfl (unhide HNB) (by omega) (by simp; simp at hsz; omega) ?_; intro ao3 c3 wN m3 hgr hsrc; obtain ⟨sN, sepN, bN⟩ := (unhide KPH).app m3 hgr hsrc; have eN := (unhide KPH).seen hgr; clear hgr hsrc))
              go_roundw
              case rel => exact ⟨t', f', lp ++ [blkV F E.bs E.m t], l ++ [⟨2, false, t.p, Z⟩], oo4, oc4, ao3, c3, by simp, (unhide NX).2 (unhide HLT), by simp; omega, fun y => by have := unhide UP y; omega, sN, by simpa using m3, sepN, bN⟩
              case measure => rw [unhide hms]; exact msR_lt sN hp (fun y => by have := unhide UP y; omega)
        · have hk := hide (show blkS F E.bs E.m t = { t2 with e := 5 } from (unhide HBS).trans (stopS_live e2))
          have NX := hide ((alk_next (unhide hnx) (.inl rfl)).1 (.inr (by rw [unhide hk]; simp)))
          have SE := hide ((unhide K4).st.putE 5 (by omega) (by omega))
          have BE := hide (show Below w.heap.size w ((w3.setCell ⟨q, 0, none⟩ (.int .i64 3)).setCell ⟨w.heap.size, 2, none⟩ (.int .i64 5)) from (unhide K4).bl.setCell (by simp) _)
          clear e2
          go_wp2_with fail
          go_ret2
          exact ⟨_, oo, oc, none, 0, 0, rfl, unhide SE, by rw [← unhide hk]; exact unhide NX, unhide BE⟩
      · have e2' : (t2.e != 0) = true := by simpa using e2
        have hk : blkS F E.bs E.m t = t2 := by rw [unhide HBS]; exact (nice_knd F U2).dead E.bs E.m t2 e2
        have NX := hide ((alk_next (unhide hnx) (.inl rfl)).1 (.inr (by rw [hk]; exact e2)))
        rw [hk] at NX
        clear hk e2
        go_wp2_with fail
        go_ret2
        exact ⟨t2, oo, oc, none, 0, 0, rfl, (unhide K4).st, unhide NX, (unhide K4).bl⟩
    · have he' : (t.e == 0) = false := by simpa using he
      have AL := hide (show Alk t R by
        rcases ha with ha | ha
        · rw [allS_end (fun y => he y.2)] at ha
          exact .inl (by rw [← ha])
        · exact .inr ha)
      have ST := hide st
      clear ha he st bm hsep
      go_wp2_with fail
      go_ret2
      exact ⟨t, oo, oc, none, 0, 0, rfl, unhide ST, unhide AL, bl⟩
end
end Go.Proofs.YtnoabdafmgmenaaGreatDoor
