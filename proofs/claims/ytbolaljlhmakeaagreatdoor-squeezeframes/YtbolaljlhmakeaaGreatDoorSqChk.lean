/-
  A squeezed reader that is fed the chunks of squeezed bytes: what a chunk more tells. Conditions: a most of at most 1,000; the tables hold what the program's text says.
-/
import Derived.Test.YtbolaljlhmakeaaGreatDoorSqFeed
import Derived.Test.YtbolaljlhmakeaaGreatDoorSqBackP
import Derived.Test.YtbolaljlhmakeaaGreatDoorChunkW
namespace Go.Proofs.YtbolaljlhmakeaaGreatDoor
open Go.RowKit
set_option linter.unusedVariables false
set_option linter.unusedSimpArgs false

/-- The chunk number j, in every later world in which just one block, that is none of theirs, has changed: where it lies, too. -/
theorem chunks_at {w w' w2 : World} {g : Nat} {bo : Option Addr} {bs : List Int} {oo : Option Addr} {on oc : Nat} {ks : List Nat} {vs : List Value} (hl : ks.length = on) (hC : CutK w bo bs ks vs) (hS : SMine w.heap.size w' oo on oc vs) (hW : Below w.heap.size w w') (G : Gb g w' w2) (hg : g < w.heap.size) (hb : ¬ ob bo g) {j k : Nat} (hk : ks[j]? = some k) :
    ∃ b o aj cj, (∀ wx, (Instr.indexAt 45 (.slice oo on oc) (.int .i64 (j : Int))).run Tryz.prog wx = .ok (.pointer (some ⟨b, o, none⟩)) wx) ∧ w2.cell? ⟨b, o, none⟩ = some (.slice aj k cj) ∧ Bs w2 aj k cj ((bs.drop (ks.take j).sum).take k) ∧ ∀ x, ob aj x → ob bo x := by
  obtain ⟨aj, cj, h1, h3, h2⟩ := hC j k hk
  have hjn : j < on := by rw [← hl]; exact (List.getElem?_eq_some_iff.1 hk).1
  have hB := h2 w' hW
  rcases hS.own.2 with ⟨hv, h0⟩ | ⟨h, cap, cur, hv, hh, hc, r⟩
  · simp only [Value.slice.injEq] at hv
    obtain ⟨rfl, rfl, rfl⟩ := hv
    omega
  · simp only [Value.slice.injEq] at hv
    obtain ⟨rfl, _, rfl⟩ := hv
    have hce := hS.own.cells (g := h) rfl j _ h1
    rw [Addr.add_lit, Nat.zero_add] at hce
    have hblk := G.block h (Array.getElem?_eq_some_iff.1 hc).1 (by omega)
    refine ⟨h, j, aj, cj, fun wx => ?_, (World.cell?_of_block (w := w') (a := ⟨h, j, none⟩) hblk).trans hce, hB.keepB fun k q hl => G.block k hl (fun e => hb (h3 g (e ▸ q))), h3⟩
    rw [run_indexAt_slice wx 45 _ on oc .i64 (j : Int) Tryz.elemBB]
    simp [Tryz.sizeBB, hjn, Addr.add_lit, Result.andThen]

/-- Behind the first a bytes of x: the reader, and what was told so far. -/
def Bq (w5 ws : World) (g : Nat) (M q : Int) (x : List Int) (a : Nat) (to : Option Addr) (tn tc : Nat) : Prop :=
  ∃ ho hc, Rq ws g M ho hc (qat M q x a).1 ∧ (∀ k, fq g ho k → k = g ∨ w5.heap.size ≤ k) ∧ (∀ k, ob to k → ¬ fq g ho k) ∧ Mine w5.heap.size ws to tn tc (qat M q x a).2.1 ∧ Gb g w5 ws
theorem Bq.gb {w5 ws : World} {g : Nat} {M q : Int} {x : List Int} {a : Nat} {to : Option Addr} {tn tc : Nat} (h : Bq w5 ws g M q x a to tn tc) : Gb g w5 ws := by
  obtain ⟨_, _, _, _, _, _, h⟩ := h
  exact h
/-- Behind Feed of a chunk more. -/
def OutBq (w5 ws : World) (g : Nat) (M q : Int) (x : List Int) (a k : Nat) (to : Option Addr) (tn tc : Nat) (e : Ending) (w6 : World) : Prop :=
  ∃ yo yn yc ho t', e = .returned (.tuple #[.slice yo yn yc, .int .i64 0]) ∧ Mine ws.heap.size w6 yo yn yc t' ∧ (qat M q x (a + k)).2.1 = (qat M q x a).2.1 ++ t' ∧ (∃ hc, Rq w6 g M ho hc (qat M q x (a + k)).1) ∧ (∀ k, fq g ho k → k = g ∨ w5.heap.size ≤ k) ∧ (∀ k, ob to k → ¬ fq g ho k) ∧ (∀ k, ob yo k → ¬ fq g ho k) ∧ Mine w5.heap.size w6 to tn tc (qat M q x a).2.1 ∧ Gb g w5 w6 ∧ ws.heap.size ≤ w6.heap.size
theorem chunk_more {w5 ws : World} {g : Nat} {M q : Int} {x : List Int} {a k : Nat} {to : Option Addr} {tn tc : Nat} (h : Bq w5 ws g M q x a to tn tc) (hv : Vars ws) (g3 : 3 ≤ g) (hgl : g < w5.heap.size) (hk : a + k ≤ x.length) (hkb : k ≤ 1000000) (h0 : (ql M x.length ⟨q, x, 0⟩ []).2.2 = 0)
    (ci : Option Addr) (cc : Nat) (hb : Bs ws ci k cc ((x.drop a).take k)) (hci : ∀ k, ob ci k → k < g) :
    Calls Tryz.prog 11 #[.pointer (some ⟨g, 0, none⟩), .slice ci k cc] ws fun e w6 => OutBq w5 ws g M q x a k to tn tc e w6 := by
  obtain ⟨ho, hc, hr, hlow, hd, hM, hG⟩ := h
  obtain ⟨t', e1, e2, e3, e4⟩ := qat_chunk M q x a k hk h0
  have hz := hG.size
  refine (qFeed_any ws hr hv (fun k z => by rcases hlow k z with z | z <;> omega) (fun _ => e4) ci k cc _ hb hkb (fun k z => ⟨by have := hci k z; omega, fun y => by have := hci k z; rcases hlow k y with y | y <;> omega⟩)).mono ?_
  rintro e w6 ⟨yo, yn, yc, ho', hc', rfl, hm, hdy, hr6, hf⟩
  rw [e1] at hm hr6 ⊢
  refine ⟨yo, yn, yc, ho', t', rfl, hm, e2, ⟨hc', hr6⟩, fun k z => ?_, fun k z y => ?_, hdy, hM.fs hf hd, ?_, hf.size⟩
  · rcases hf.src k z with z | z
    · exact hlow k z
    · exact .inr (by omega)
  · rcases hf.src k y with y | y
    · exact hd k z y
    · have := (hM.ob z).2; omega
  · refine ⟨hf.os.trans hG.os, hf.tape.trans hG.tape, hf.output.trans hG.output, Nat.le_trans hG.size hf.size, fun k hk hn => ?_⟩
    rw [hf.block k (by omega) (fun z => by rcases hlow k z with z | z <;> omega), hG.block k hk hn]
/-- The chunk's bytes are put behind what was told. -/
theorem Bq.push {w5 w6 w7 : World} {g : Nat} {M q : Int} {x : List Int} {a k : Nat} {to to7 : Option Addr} {tn tc n7 c7 : Nat} {ho : Option Addr} {t' : List Int} (hq : (qat M q x (a + k)).2.1 = (qat M q x a).2.1 ++ t') (hr : ∃ hc, Rq w6 g M ho hc (qat M q x (a + k)).1) (hlow : ∀ k, fq g ho k → k = g ∨ w5.heap.size ≤ k) (hd : ∀ k, ob to k → ¬ fq g ho k)
    (hM : Mine w5.heap.size w6 to tn tc (qat M q x a).2.1) (hG : Gb g w5 w6) (m7 : Mine w5.heap.size w7 to7 n7 c7 ((qat M q x a).2.1 ++ t')) (f7 : Fs (ob to) w6 (ob to7) w7) : Bq w5 w7 g M q x (a + k) to7 n7 c7 := by
  obtain ⟨hc, hr⟩ := hr
  have hz := hG.size
  refine ⟨ho, hc, hr.fs f7 (fun k z y => hd k y z), hlow, fun k z y => ?_, by rw [hq]; exact m7, ⟨f7.os.trans hG.os, f7.tape.trans hG.tape, f7.output.trans hG.output, Nat.le_trans hG.size f7.size, fun k hk hn => ?_⟩⟩
  · rcases f7.src k z with z | z
    · exact hd k z y
    · have := hr.ltf y; omega
  · rw [f7.block k (by omega) (fun z => by have := (hM.ob z).1; omega), hG.block k hk hn]
theorem sumStep {ks : List Nat} {j k : Nat} (h : ks[j]? = some k) : (ks.take (j + 1)).sum = (ks.take j).sum + k ∧ (ks.take j).sum + k ≤ ks.sum := by
  have e1 : (ks.take (j + 1)).sum = (ks.take j).sum + k := by
    rw [List.take_add_one, h, List.sum_append]
    simp
  refine ⟨e1, ?_⟩
  have e2 : ks.sum = (ks.take (j + 1)).sum + (ks.drop (j + 1)).sum := by rw [← List.sum_append, List.take_append_drop]
  omega
end Go.Proofs.YtbolaljlhmakeaaGreatDoor
