/-
  What a slice of texts is in memory, for the walks: where its texts lie, that it stays there while new memory is made, and what 'append' to a slice of the call's own leaves. Conditions: lengths below a bound that is far above every length the statements allow.
-/
import Derived.Test.YtddfbaaghjcbnaaGreatDoorSlices
namespace Go.Proofs.YtddfbaaghjcbnaaGreatDoor
open Go.RowKit
set_option linter.unusedVariables false
set_option linter.unusedSimpArgs false

theorem Tryz.infoStr : (Tryz.prog.info? 9).map (fun i => (i.zero, i.size, i.bytes)) = some (some (.string ByteArray.empty), 1, 16) := by kernel_rfl
theorem Tryz.elemStr : Tryz.prog.underlying 102 = some (.slice (Tryz.prog.elem 102)) := by kernel_rfl
theorem Tryz.sizeStr (w : World) : (sizeOf (Tryz.prog.elem 102)).run Tryz.prog w = .ok 1 w := by kernel_rfl

/-- The slice 'ao, n, c' holds the texts ss. -/
structure Ss (w : World) (ao : Option Addr) (n c : Nat) (ss : List ByteArray) : Prop where
  len : ss.length = n
  le : n ≤ c
  max : c ≤ 9223372036854775807
  nil : ao = none → c = 0
  fit : ∀ s ∈ ss, s.size ≤ 9223372036854775807
  at' : n = 0 ∨ ∃ b off, ao = some ⟨b, off, none⟩ ∧ ∀ i, i < n → w.cell? ⟨b, off + i, none⟩ = some (.string (ss.getD i ByteArray.empty))

theorem Ss.nought (w : World) : Ss w .none 0 0 [] := ⟨rfl, Nat.le_refl _, by omega, fun _ => rfl, by simp, .inl rfl⟩
theorem Ss.later {w w' : World} {ao : Option Addr} {n c : Nat} {ss : List ByteArray} (h : Ss w ao n c ss) (hb : Below w.heap.size w w') : Ss w' ao n c ss := by
  refine ⟨h.len, h.le, h.max, h.nil, h.fit, ?_⟩
  rcases h.at' with h0 | ⟨b, off, e, hc⟩
  · exact .inl h0
  · exact .inr ⟨b, off, e, fun i hi => cell_later hb (hc i hi)⟩
theorem Ss.fitAt {w : World} {ao : Option Addr} {n c : Nat} {ss : List ByteArray} (h : Ss w ao n c ss) (i : Nat) : (ss.getD i ByteArray.empty).size ≤ 9223372036854775807 := by
  rcases Nat.lt_or_ge i ss.length with q | q
  · rw [List.getD_eq_getElem?_getD, List.getElem?_eq_getElem q, Option.getD_some]
    exact h.fit _ (List.getElem_mem q)
  · rw [List.getD_eq_getElem?_getD, List.getElem?_eq_none q, Option.getD_none]
    exact Nat.zero_le _
/-- 'ss[i]' for the walk: its address, and what lies there. -/
theorem Ss.idx {w : World} {ao : Option Addr} {n c : Nat} {ss : List ByteArray} (h : Ss w ao n c ss) {i : Nat} (hi : i < n) (I : Int) (hI : I = (i : Int)) :
    ∃ b o, (∀ wx, (Instr.indexAt 102 (.slice ao n c) (.int .i64 I)).run Tryz.prog wx = .ok (.pointer (some ⟨b, o, none⟩)) wx) ∧ w.cell? ⟨b, o, none⟩ = some (.string (ss.getD i ByteArray.empty)) := by
  subst hI
  rcases h.at' with h0 | ⟨b, off, rfl, hc⟩
  · omega
  · refine ⟨b, off + i, fun wx => ?_, hc i hi⟩
    rw [run_indexAt_slice wx 102 _ n c .i64 (i : Int) Tryz.elemStr]
    simp [Tryz.sizeStr, hi, Addr.add_lit, Result.andThen]

/-- The texts ss in a row of the call's own, from block B on. -/
structure TMine (B : Nat) (w : World) (ao : Option Addr) (n c : Nat) (ss : List ByteArray) : Prop where
  len : ss.length = n
  own : w.ownsRow B 9 1 (.slice ao n c) n (ss.map Value.string)
  fit : ∀ s ∈ ss, s.size ≤ 9223372036854775807
theorem TMine.nought (B : Nat) (w : World) : TMine B w .none 0 0 [] := ⟨rfl, World.ownsRow_nil _ _ _ _, by simp⟩
theorem TMine.later {B : Nat} {w w' : World} {ao : Option Addr} {n c : Nat} {ss : List ByteArray} (h : TMine B w ao n c ss) (hb : Below w.heap.size w w') : TMine B w' ao n c ss := by
  refine ⟨h.len, ⟨h.own.1, ?_⟩, h.fit⟩
  rcases h.own.2 with hv | ⟨g, cap, cur, hv, hg, hh, r⟩
  · exact .inl hv
  · exact .inr ⟨g, cap, cur, hv, hg, by rw [hb.block g (Array.getElem?_eq_some_iff.1 hh).1]; exact hh, r⟩
theorem TMine.ss {B : Nat} {w : World} {ao : Option Addr} {n c : Nat} {ss : List ByteArray} (h : TMine B w ao n c ss) : Ss w ao n c ss := by
  have hl := h.len
  rcases h.own.2 with ⟨hv, h0⟩ | ⟨g, cap, cur, hv, hg, hh, hle, hmax, hsz, htake⟩
  · simp only [Value.slice.injEq] at hv
    obtain ⟨rfl, rfl, rfl⟩ := hv
    exact ⟨h.len, Nat.le_refl _, by omega, fun _ => rfl, h.fit, .inl rfl⟩
  · simp only [Value.slice.injEq] at hv
    obtain ⟨rfl, _, rfl⟩ := hv
    refine ⟨h.len, hle, by unfold maxLen at hmax; omega, (fun hq => by cases hq), h.fit, .inr ⟨g, 0, rfl, fun i hi => ?_⟩⟩
    have := h.own.cells (g := g) rfl i (.string (ss.getD i ByteArray.empty)) (by simp [List.getElem?_eq_getElem (show i < ss.length by omega)])
    rw [Addr.add_lit] at this
    exact this
/-- 'append(out, s)', out of the call's own. -/
theorem wpList_tapp {ops : Array Oper} {rest : List Oper} {o : Oper} {a : Act} {w : World} {Q : Exit → Act → World → Prop} (hgd : o.guard = none) (s x : Operand)
    (ho : o.op = .call { callee := .builtin .append, args := #[s, x], argTypes := #[102, 102] })
    (B : Nat) (ao : Option Addr) (n c : Nat) (ss : List ByteArray) (hs : a.eval s = .slice ao n c) (hm : TMine B w ao n c ss)
    (q : Nat) (v : ByteArray) (hv1 : v.size ≤ 9223372036854775807) (hx : a.eval x = .slice (some ⟨q, 0, none⟩) 1 1) (hc : w.cell? ⟨q, 0, none⟩ = some (.string v)) (hbound : n ≤ 1000000) (hB : B ≤ w.heap.size)
    (h : ∀ ao1 c1 w1, TMine B w1 ao1 (n + 1) c1 (ss ++ [v]) → Below B w w1 → wpList Tryz.prog ops Q rest (a.put o.dst (.slice ao1 (n + 1) c1)) w1) :
    wpList Tryz.prog ops Q (o :: rest) a w := by
  obtain ⟨i0, hi, hz0, hz1, hz2⟩ := info_parts Tryz.infoStr
  have hlen := hm.len
  refine wpList_append_own w hgd s x 102 ho B 9 i0 (.string ByteArray.empty) 1 16 Tryz.underlying102 hi hz0 hz1 hz2 rfl (by decide) _ _ _ hs hm.own ⟨q, 0, none⟩ 1 1 [.string v] hx rfl (fun j u hu => ?_) (fun u hu => by simp at hu; subst hu; rfl) (by unfold maxLen; omega) (by omega) hB ?_
  · have : j = 0 := by have := (List.getElem?_eq_some_iff.1 hu).1; simpa using this
    subst this
    simp at hu
    subst hu
    rw [Addr.add_lit]
    exact hc
  · intro v' w' hown hgrow _
    have hbel : Below B w w' := (Below.refl B w).grown hgrow hB (fun k hk => (hm.own.lt k hk).1)
    have hex : ∃ ao1 c1, v' = .slice ao1 (n + 1) c1 := by
      rcases hown.2 with ⟨hv, h0⟩ | ⟨g, cap, cur, hv, _⟩
      · omega
      · exact ⟨_, _, hv⟩
    obtain ⟨ao1, c1, hv⟩ := hex
    subst hv
    refine h ao1 c1 w' ⟨by simp [hlen], by simpa using hown, fun u hu => ?_⟩ hbel
    rcases List.mem_append.1 hu with hu | hu
    · exact hm.fit u hu
    · simp at hu; subst hu; exact hv1

/-- A slice of texts that is written out in the program's text. -/
theorem Ss.lit (w : World) (l : List ByteArray) (hf : ∀ s ∈ l, s.size ≤ 9223372036854775807) (hl : l.length ≤ 1000) : Ss (w.alloc (.cells (l.map Value.string).toArray 9)) (some ⟨w.heap.size, 0, none⟩) l.length l.length l := by
  refine ⟨rfl, Nat.le_refl _, by omega, (fun e => by cases e), hf, .inr ⟨w.heap.size, 0, rfl, fun i hi => ?_⟩⟩
  rw [Nat.zero_add]
  simp [hi]

end Go.Proofs.YtddfbaaghjcbnaaGreatDoor
