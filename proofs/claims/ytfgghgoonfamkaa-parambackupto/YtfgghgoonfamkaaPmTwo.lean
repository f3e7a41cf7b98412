/-
  Append to a row of types and to a row of truth values of the call's own: all blocks but the row's own are kept; the two rows lie apart. Conditions: at most 10 to the 8 of them.
-/
import Derived.Test.YtfgghgoonfamkaaRtMem
import Derived.Test.YtfgghgoonfamkaaBlMem
import Derived.Test.YtfgghgoonfamkaaPmMem
namespace Go.Proofs.Ytfgghgoonfamkaa
open Go.RowKit
set_option linter.unusedVariables false
set_option linter.unusedSimpArgs false

theorem wpList_appT2 {ops : Array Oper} {rest : List Oper} {o : Oper} {a : Act} {w : World} {Q : Exit → Act → World → Prop} (hgd : o.guard = none) (s x : Operand)
    (ho : o.op = .call { callee := .builtin .append, args := #[s, x], argTypes := #[43, 43] })
    (B : Nat) (ao : Option Addr) (n c : Nat) (l : List Ty) (hs : a.eval s = .slice ao n c) (hm : TyMine B w ao n c l)
    (q : Nat) (y : Ty) (hx : a.eval x = .slice (some ⟨q, 0, none⟩) 1 1) (hb : AtT w q 0 y) (hbound : n ≤ 100000000) (hB : B ≤ w.heap.size)
    (h : ∀ ao1 c1 w1, TyMine B w1 ao1 (n + 1) c1 (l ++ [y]) → Below B w w1 → (∀ k, k < w.heap.size → ¬ ob ao k → w1.heap[k]? = w.heap[k]?) → wpList Try.prog ops Q rest (a.put o.dst (.slice ao1 (n + 1) c1)) w1) :
    wpList Try.prog ops Q (o :: rest) a w := by
  obtain ⟨i0, hi, hz0, hz1, hz2⟩ := info_parts infoT
  have hlen := hm.len
  have hnews : ∀ j u, (tyC y).toList[j]? = some u → w.cell? ((⟨q, 0, none⟩ : Addr).add j) = some u := by
    intro j u hu
    have hj : j < 2 := (List.getElem?_eq_some_iff.1 hu).1
    have := hb j hj
    rw [Addr.add_lit, this]
    simpa using hu
  have hone : ∀ u ∈ (tyC y).toList, u.oneCell' = true := fun u hu => (Array.all_eq_true_iff_forall_mem.1 (tyc_one y)) u (by simpa using hu)
  refine wpList_append_own_at w hgd s x 43 ho B 27 i0 (.agg (tyC ty0)) 2 2 Try.underlying43 hi hz0 hz1 hz2 rfl (by decide) _ _ _ hs hm.own ⟨q, 0, none⟩ 1 1 (tyC y).toList hx rfl hnews hone (by unfold maxLen; omega) (by omega) hB ?_
  intro v' w' hown hgrow _ hsrc
  rw [← flatT_app] at hown
  have hex : ∃ ao1 c1, v' = .slice ao1 (n + 1) c1 := by
    rcases hown.2 with ⟨hv, h0⟩ | ⟨g, cap, cur, hv, _⟩
    · omega
    · exact ⟨_, _, hv⟩
  obtain ⟨ao1, c1, hv⟩ := hex
  subst hv
  refine h ao1 c1 w' ⟨by simp [hlen], hown⟩ ((Below.refl B w).grown hgrow hB (fun k hk => (hm.own.lt k hk).1)) (fun k hk hno => hgrow.block k hk (fun e => hno ?_))
  cases ao with
  | none => simp [Value.ownBlock] at e
  | some ad =>
    simp [Value.ownBlock] at e
    exact ⟨ad, rfl, e.symm⟩

theorem wpList_appB2 {ops : Array Oper} {rest : List Oper} {o : Oper} {a : Act} {w : World} {Q : Exit → Act → World → Prop} (hgd : o.guard = none) (s x : Operand)
    (ho : o.op = .call { callee := .builtin .append, args := #[s, x], argTypes := #[44, 44] })
    (B : Nat) (ao : Option Addr) (n c : Nat) (l : List Bool) (hs : a.eval s = .slice ao n c) (hm : BlMine B w ao n c l)
    (q : Nat) (y : Bool) (hx : a.eval x = .slice (some ⟨q, 0, none⟩) 1 1) (hb : AtB w q 0 y) (hbound : n ≤ 100000000) (hB : B ≤ w.heap.size)
    (h : ∀ ao1 c1 w1, BlMine B w1 ao1 (n + 1) c1 (l ++ [y]) → Below B w w1 → (∀ k, k < w.heap.size → ¬ ob ao k → w1.heap[k]? = w.heap[k]?) → wpList Try.prog ops Q rest (a.put o.dst (.slice ao1 (n + 1) c1)) w1) :
    wpList Try.prog ops Q (o :: rest) a w := by
  obtain ⟨i0, hi, hz0, hz1, hz2⟩ := info_parts infoB
  have hlen := hm.len
  have hnews : ∀ j u, (blC y).toList[j]? = some u → w.cell? ((⟨q, 0, none⟩ : Addr).add j) = some u := by
    intro j u hu
    have hj : j < 1 := (List.getElem?_eq_some_iff.1 hu).1
    have := hb j hj
    rw [Addr.add_lit, this]
    simpa using hu
  have hone : ∀ u ∈ (blC y).toList, u.oneCell' = true := fun u hu => (Array.all_eq_true_iff_forall_mem.1 (blc_one y)) u (by simpa using hu)
  refine wpList_append_own_at w hgd s x 44 ho B 4 i0 (.bool false) 1 1 Try.underlying44 hi hz0 hz1 hz2 rfl (by decide) _ _ _ hs hm.own ⟨q, 0, none⟩ 1 1 (blC y).toList hx rfl hnews hone (by unfold maxLen; omega) (by omega) hB ?_
  intro v' w' hown hgrow _ hsrc
  rw [← flatB_app] at hown
  have hex : ∃ ao1 c1, v' = .slice ao1 (n + 1) c1 := by
    rcases hown.2 with ⟨hv, h0⟩ | ⟨g, cap, cur, hv, _⟩
    · omega
    · exact ⟨_, _, hv⟩
  obtain ⟨ao1, c1, hv⟩ := hex
  subst hv
  refine h ao1 c1 w' ⟨by simp [hlen], hown⟩ ((Below.refl B w).grown hgrow hB (fun k hk => (hm.own.lt k hk).1)) (fun k hk hno => hgrow.block k hk (fun e => hno ?_))
  cases ao with
  | none => simp [Value.ownBlock] at e
  | some ad =>
    simp [Value.ownBlock] at e
    exact ⟨ad, rfl, e.symm⟩

theorem ty_bl {B C : Nat} {w : World} {ao : Option Addr} {n c : Nat} {l : List Ty} {bo : Option Addr} {m d : Nat} {g : List Bool} (h : TyMine B w ao n c l) (k : BlMine C w bo m d g) {q : Nat} (h1 : ob ao q) (h2 : ob bo q) : False := by
  obtain ⟨a1, rfl, rfl⟩ := h1
  obtain ⟨a2, rfl, h2⟩ := h2
  rcases h.own.2 with ⟨hv, _⟩ | ⟨g1, cap, cur, hv, hg, hh, _⟩
  · simp at hv
  rcases k.own.2 with ⟨kv, _⟩ | ⟨g2, cap2, cur2, kv, kg, kh, _⟩
  · simp at kv
  simp only [Value.slice.injEq, Option.some.injEq] at hv kv
  obtain ⟨rfl, _⟩ := hv
  obtain ⟨rfl, _⟩ := kv
  simp only at h2
  rw [h2, hh] at kh
  simp at kh
theorem att_of {w : World} {b f : Nat} {p : Pa} (h : AtP w b f p) : AtT w b f p.t := by
  intro j hj
  have := h j (by omega)
  rcases (show j = 0 ∨ j = 1 by omega) with rfl | rfl
  · exact this
  · exact this


end Go.Proofs.Ytfgghgoonfamkaa
