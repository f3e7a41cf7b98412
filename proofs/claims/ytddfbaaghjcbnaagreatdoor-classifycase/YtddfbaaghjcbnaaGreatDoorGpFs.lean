/-
  Which blocks a call may have changed: those of a set; and what stays where its blocks stay; 'append' to a row of the call's own. Conditions: lengths below a bound that is far above every length the statements allow.
-/
import Derived.Test.YtddfbaaghjcbnaaGreatDoorBMem
import Derived.Test.YtddfbaaghjcbnaaGreatDoorSameB
import Derived.Deep.WholeRow
import Derived.Laws.Rows
namespace Go.Proofs.YtddfbaaghjcbnaaGreatDoor
open Go.RowKit
set_option linter.unusedVariables false
set_option linter.unusedSimpArgs false

/-- 'append(out, xs...)', out of the call's own: which block has changed. -/
theorem wpList_appF {ops : Array Oper} {rest : List Oper} {o : Oper} {a : Act} {w : World} {Q : Exit → Act → World → Prop} (hgd : o.guard = none) (s x : Operand)
    (ho : o.op = .call { callee := .builtin .append, args := #[s, x], argTypes := #[32, 32] })
    (B : Nat) (ao : Option Addr) (n c : Nat) (bs : List Int) (hs : a.eval s = .slice ao n c) (hm : Mine B w ao n c bs)
    (ad : Addr) (m c' : Nat) (cs : List Int) (hx : a.eval x = .slice (some ad) m c') (hb : Bs w (some ad) m c' cs) (hbound : n + m ≤ 140737488355328) (hB : B ≤ w.heap.size)
    (h : ∀ ao1 c1 w1, Mine B w1 ao1 (n + m) c1 (bs ++ cs) → w.grownBy w1 (Value.slice ao n c).ownBlock → (∀ k, ob ao1 k → ob ao k ∨ w.heap.size ≤ k) → wpList Tryz.prog ops Q rest (a.put o.dst (.slice ao1 (n + m) c1)) w1) :
    wpList Tryz.prog ops Q (o :: rest) a w := by
  obtain ⟨i0, hi, hz0, hz1, hz2⟩ := info_parts Tryz.infoByte
  have hlen := hm.len
  have hlen' := hb.len
  refine wpList_append_own_at w hgd s x 32 ho B 5 i0 (.int .u8 0) 1 1 Tryz.underlying32 hi hz0 hz1 hz2 rfl (by decide) _ _ _ hs hm.own ad m c' (cs.map (Value.int .u8)) hx (by simp [hlen']) hb.news (ints_oneCell _ _) (by unfold maxLen; omega) (by omega) hB ?_
  intro v' w' hown hgrow _ hsrc
  rw [← List.map_append] at hown
  have hex : ∃ ao1 c1, v' = .slice ao1 (n + m) c1 := by
    rcases hown.2 with ⟨hv, h0⟩ | ⟨g, cap, cur, hv, _⟩
    · exact ⟨.none, 0, by rw [hv, h0]⟩
    · exact ⟨_, _, hv⟩
  obtain ⟨ao1, c1, hv⟩ := hex
  subst hv
  refine h ao1 c1 w' ⟨by simp [hlen, hlen'], hown, hm.byt.app hb.byt⟩ hgrow fun k hk => ?_
  obtain ⟨q, rfl, rfl⟩ := hk
  rcases hsrc with hq | hq
  · left
    cases ao with
    | none => simp [Value.ownBlock] at hq
    | some z => exact ⟨z, rfl, by simpa [Value.ownBlock] using hq.symm⟩
  · right
    simp [Value.ownBlock] at hq
    omega
theorem grown_at {w w1 : World} {ao : Option Addr} {n c k : Nat} (hgr : w.grownBy w1 (Value.slice ao n c).ownBlock) (hk : k < w.heap.size) (ho : ¬ ob ao k) : w1.heap[k]? = w.heap[k]? :=
  hgr.block k hk fun e => by
    cases ao with
    | none => simp [Value.ownBlock] at e
    | some z => exact ho ⟨z, rfl, by simpa [Value.ownBlock] using e.symm⟩

/-- Only the blocks of S have changed; there may be new ones. What is of S' behind it was of S, or is new. -/
structure Fs (S : Nat → Prop) (w : World) (S' : Nat → Prop) (w' : World) : Prop where
  os : w'.os = w.os
  tape : w'.tape = w.tape
  output : w'.output = w.output
  size : w.heap.size ≤ w'.heap.size
  block : ∀ k, k < w.heap.size → ¬ S k → w'.heap[k]? = w.heap[k]?
  src : ∀ k, S' k → S k ∨ w.heap.size ≤ k
theorem Fs.refl (S : Nat → Prop) (w : World) : Fs S w S w := ⟨rfl, rfl, rfl, Nat.le_refl _, fun _ _ _ => rfl, fun k h => .inl h⟩
theorem Fs.trans {S T U : Nat → Prop} {a b c : World} (h : Fs S a T b) (k : Fs T b U c) : Fs S a U c := by
  refine ⟨k.os.trans h.os, k.tape.trans h.tape, k.output.trans h.output, Nat.le_trans h.size k.size, fun i hi hn => ?_, fun i hi => ?_⟩
  · rw [k.block i (Nat.lt_of_lt_of_le hi h.size), h.block i hi hn]
    intro hy
    rcases h.src i hy with h1 | h1
    · exact hn h1
    · omega
  · rcases k.src i hi with h1 | h1
    · exact h.src i h1
    · exact .inr (Nat.le_trans h.size h1)
theorem Fs.weak {S S' T T' : Nat → Prop} {w w' : World} (h : Fs S w S' w') (hl : ∀ k, S k → T k) (hr : ∀ k, T' k → T k ∨ S' k) : Fs T w T' w' := by
  refine ⟨h.os, h.tape, h.output, h.size, fun k hk hn => h.block k hk (fun hs => hn (hl k hs)), fun k hk => ?_⟩
  rcases hr k hk with h1 | h1
  · exact .inl h1
  · rcases h.src k h1 with h2 | h2
    · exact .inl (hl k h2)
    · exact .inr h2
theorem Fs.of {S S' : Nat → Prop} {w w' : World} (h : Below w.heap.size w w') (hr : ∀ k, S' k → S k ∨ w.heap.size ≤ k) : Fs S w S' w' := ⟨h.os, h.tape, h.output, h.size, fun k hk _ => h.block k hk, hr⟩
theorem Fs.gb {S : Nat → Prop} {g : Nat} {w w' : World} (h : Gb g w w') (hg : S g) : Fs S w S w' :=
  ⟨h.os, h.tape, h.output, h.size, fun k hk hn => h.block k hk (fun e => hn (e ▸ hg)), fun k h => .inl h⟩
theorem Fs.drew {S S' : Nat → Prop} {w w' : World} (h : Fs S w S' w') : Fs S w S' w'.drew := ⟨h.os, h.tape, h.output, h.size, h.block, h.src⟩
theorem Fs.drewN {S S' : Nat → Prop} {w w' : World} (h : Fs S w S' w') (n : Nat) : Fs S w S' (w'.drewN n) := ⟨h.os, h.tape, h.output, h.size, h.block, h.src⟩
theorem Fs.undrew {S S' : Nat → Prop} {w w' : World} (h : Fs S w.drew S' w') : Fs S w S' w' := ⟨h.os, h.tape, h.output, h.size, h.block, h.src⟩
theorem Fs.undrewN {S S' : Nat → Prop} {w w' : World} {n : Nat} (h : Fs S (w.drewN n) S' w') : Fs S w S' w' := ⟨h.os, h.tape, h.output, h.size, h.block, h.src⟩
theorem drN_below (w : World) (n : Nat) : Below w.heap.size w (w.drewN n) := ⟨rfl, rfl, rfl, Nat.le_refl _, fun _ _ => rfl⟩
theorem Fs.below {S S' : Nat → Prop} {w w' : World} {B : Nat} (h : Fs S w S' w') (hB : B ≤ w.heap.size) (hS : ∀ k, S k → B ≤ k) : Below B w w' :=
  ⟨h.os, h.tape, h.output, h.size, fun k hk => h.block k (by omega) (fun hs => by have := hS k hs; omega)⟩
theorem Fs.set {S S' : Nat → Prop} {g : Nat} {w w' : World} (h : Fs S w S' w') (hg : S' g) (i : Nat) (u : Value) : Fs S w S' (w'.setCell ⟨g, i, none⟩ u) :=
  h.trans (Fs.gb ((Gb.refl g w').set i u) hg)

/-- A slice stays where its block stays. -/
theorem Bs.keepB {w w' : World} {ao : Option Addr} {n c : Nat} {bs : List Int} (h : Bs w ao n c bs) (hk : ∀ k, ob ao k → k < w.heap.size → w'.heap[k]? = w.heap[k]?) : Bs w' ao n c bs := by
  refine ⟨h.len, h.le, h.max, h.nil, h.byt, ?_⟩
  rcases h.at' with h0 | ⟨b, off, e, hc⟩
  · exact .inl h0
  · refine .inr ⟨b, off, e, fun i hi => ?_⟩
    have hb := hk b ⟨_, e, rfl⟩ (World.block_lt_of_cell? w _ (hc i hi))
    rw [World.cell?_of_block (w := w) (a := ⟨b, off + i, none⟩) hb]
    exact hc i hi
theorem Bs.fs {S S' : Nat → Prop} {w w' : World} {ao : Option Addr} {n c : Nat} {bs : List Int} (h : Bs w ao n c bs) (f : Fs S w S' w') (hd : ∀ k, ob ao k → ¬ S k) : Bs w' ao n c bs :=
  h.keepB fun k hk hl => f.block k hl (hd k hk)
theorem Mine.keepB {B : Nat} {w w' : World} {ao : Option Addr} {n c : Nat} {bs : List Int} (h : Mine B w ao n c bs) (hk : ∀ k, Proofs.YtddfbaaghjcbnaaGreatDoor.ob ao k → w'.heap[k]? = w.heap[k]?) : Mine B w' ao n c bs := by
  refine ⟨h.len, ⟨h.own.1, ?_⟩, h.byt⟩
  rcases h.own.2 with hv | ⟨g, cap, cur, hv, hg, hh, r⟩
  · exact .inl hv
  · simp only [Value.slice.injEq] at hv
    obtain ⟨rfl, _, rfl⟩ := hv
    exact .inr ⟨g, _, cur, rfl, hg, by rw [hk g ⟨_, rfl, rfl⟩]; exact hh, r⟩
theorem Mine.fs {B : Nat} {S S' : Nat → Prop} {w w' : World} {ao : Option Addr} {n c : Nat} {bs : List Int} (h : Mine B w ao n c bs) (f : Fs S w S' w') (hd : ∀ k, Proofs.YtddfbaaghjcbnaaGreatDoor.ob ao k → ¬ S k) : Mine B w' ao n c bs :=
  h.keepB fun k hk => f.block k (h.ob hk).2 (hd k hk)
theorem ob_none {k : Nat} : ¬ ob none k := by rintro ⟨a, h, _⟩; cases h
theorem ob_some {a : Addr} {k : Nat} : ob (some a) k ↔ a.block = k := ⟨fun ⟨b, h, e⟩ => by cases h; exact e, fun e => ⟨a, rfl, e⟩⟩
theorem ob_cut {ao : Option Addr} {c lo k : Nat} (h : ob (cutAt ao c lo) k) : ob ao k := by
  unfold cutAt at h
  split at h
  · exact h
  · cases ao with
    | none => exact absurd h ob_none
    | some z =>
      obtain ⟨a, e, rfl⟩ := h
      simp at e
      subst e
      refine ⟨z, rfl, ?_⟩
      unfold Addr.add
      split <;> rfl

/-- 'append(out, xs...)', out of the call's own, xs whatever it is: which block has changed. -/
theorem wpList_appS {ops : Array Oper} {rest : List Oper} {o : Oper} {a : Act} {w : World} {Q : Exit → Act → World → Prop} (hgd : o.guard = none) (s x : Operand)
    (ho : o.op = .call { callee := .builtin .append, args := #[s, x], argTypes := #[32, 32] })
    (B : Nat) (ao : Option Addr) (n c : Nat) (bs : List Int) (hs : a.eval s = .slice ao n c) (hm : Mine B w ao n c bs)
    (ao' : Option Addr) (m c' : Nat) (cs : List Int) (hx : a.eval x = .slice ao' m c') (hb : Bs w ao' m c' cs) (hbound : n + m ≤ 140737488355328) (hB : B ≤ w.heap.size)
    (h : ∀ ao1 c1 w1, Mine B w1 ao1 (n + m) c1 (bs ++ cs) → Fs (ob ao) w (ob ao1) w1 → wpList Tryz.prog ops Q rest (a.put o.dst (.slice ao1 (n + m) c1)) w1) :
    wpList Tryz.prog ops Q (o :: rest) a w := by
  obtain ⟨i0, hi, hz0, hz1, hz2⟩ := info_parts Tryz.infoByte
  cases ao' with
  | none =>
    have hc' := hb.nil rfl
    have hlen' := hb.len
    have hm0 : m = 0 := by have := hb.le; omega
    subst hm0
    subst hc'
    have hcs : cs = [] := List.eq_nil_of_length_eq_zero hlen'
    subst hcs
    refine wpList_append_own_none hgd s x 32 ho B 5 i0 1 Tryz.underlying32 hi _ _ _ hs hm.own hx ?_
    exact h ao c w (by simpa using hm) (Fs.refl _ _)
  | some ad =>
    refine wpList_appF hgd s x ho B ao n c bs hs hm ad m c' cs hx hb hbound hB ?_
    intro ao1 c1 w1 hm1 hgr hsrc
    refine h ao1 c1 w1 hm1 ⟨hgr.os, hgr.tape, hgr.output, hgr.size, fun k hk hn => grown_at hgr hk hn, hsrc⟩

end Go.Proofs.YtddfbaaghjcbnaaGreatDoor
