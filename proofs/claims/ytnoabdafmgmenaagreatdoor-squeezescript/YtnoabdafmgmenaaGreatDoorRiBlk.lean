/-
  A row of blocks of the call's own, and what 'append' to it leaves. Conditions: fewer than 2 to the 30.
-/
import Derived.Test.YtnoabdafmgmenaaGreatDoorMInf4
import Derived.Test.YtnoabdafmgmenaaGreatDoorRiDyn
namespace Go.Proofs.YtnoabdafmgmenaaGreatDoor
open Go.RowKit
set_option linter.unusedVariables false
set_option linter.unusedSimpArgs false

theorem Tryz.infoBlk : (Tryz.prog.info? 90).map (fun i => (i.zero, i.size, i.bytes)) = some (some (.agg bz), 4, 32) := by kernel_rfl

def flat (l : List Blk) : List Value := l.flatMap fun x => (bv x).toList
theorem flat_len : ∀ l : List Blk, (flat l).length = l.length * 4
  | [] => rfl
  | x :: l => by
    have h := flat_len l
    have e : flat (x :: l) = (bv x).toList ++ flat l := rfl
    rw [e, List.length_append, h, show ((bv x).toList).length = 4 from rfl, List.length_cons]
    omega
theorem flat_app (l : List Blk) (x : Blk) : flat (l ++ [x]) = flat l ++ (bv x).toList := by simp [flat]
theorem flat_at : ∀ (l : List Blk) (i j : Nat) (x : Blk), l[i]? = some x → j < 4 → (flat l)[i * 4 + j]? = (bv x)[j]?
  | [], i, j, x, h, hj => by simp at h
  | y :: l, 0, j, x, h, hj => by
    simp at h
    subst h
    simp only [flat, List.flatMap_cons, Nat.zero_mul, Nat.zero_add]
    rw [List.getElem?_append_left (by simpa [bv] using hj)]
    simp
  | y :: l, i + 1, j, x, h, hj => by
    simp at h
    have ih := flat_at l i j x h hj
    simp only [flat, List.flatMap_cons] at ih ⊢
    have hs : ((bv y).toList).length = 4 := rfl
    rw [List.getElem?_append_right (by rw [hs]; omega), hs, show (i + 1) * 4 + j - 4 = i * 4 + j by omega]
    exact ih

/-- The blocks l in a row of the call's own, from block B on. -/
structure BMine (B : Nat) (w : World) (ao : Option Addr) (n c : Nat) (l : List Blk) : Prop where
  len : l.length = n
  own : w.ownsRow B 90 4 (.slice ao n c) n (flat l)
theorem BMine.nought (B : Nat) (w : World) : BMine B w .none 0 0 [] := ⟨rfl, World.ownsRow_nil _ _ _ _⟩
theorem BMine.ob {B : Nat} {w : World} {ao : Option Addr} {n c : Nat} {l : List Blk} (h : BMine B w ao n c l) {k : Nat} (hk : ob ao k) : B ≤ k ∧ k < w.heap.size := by
  obtain ⟨a, rfl, rfl⟩ := hk
  rcases h.own.2 with ⟨hv, _⟩ | ⟨g, cap, cur, hv, hg, hh, _⟩
  · simp at hv
  · simp only [Value.slice.injEq, Option.some.injEq] at hv
    obtain ⟨rfl, _⟩ := hv
    exact ⟨hg, (Array.getElem?_eq_some_iff.1 hh).1⟩
theorem BMine.keep {B : Nat} {w w' : World} {ao : Option Addr} {n c : Nat} {l : List Blk} (h : BMine B w ao n c l) (hk : ∀ k, Proofs.YtnoabdafmgmenaaGreatDoor.ob ao k → w'.heap[k]? = w.heap[k]?) : BMine B w' ao n c l := by
  refine ⟨h.len, ⟨h.own.1, ?_⟩⟩
  rcases h.own.2 with hv | ⟨g, cap, cur, hv, hg, hh, r⟩
  · exact .inl hv
  · simp only [Value.slice.injEq] at hv
    obtain ⟨rfl, _, rfl⟩ := hv
    exact .inr ⟨g, _, cur, rfl, hg, by rw [hk g ⟨_, rfl, rfl⟩]; exact hh, r⟩
theorem BMine.mono {B B' : Nat} {w : World} {ao : Option Addr} {n c : Nat} {l : List Blk} (h : BMine B w ao n c l) (hB : B' ≤ B) : BMine B' w ao n c l := by
  refine ⟨h.len, ⟨h.own.1, ?_⟩⟩
  rcases h.own.2 with hv | ⟨g, cap, cur, hv, hg, r⟩
  · exact .inl hv
  · exact .inr ⟨g, cap, cur, hv, by omega, r⟩
theorem BMine.later {B : Nat} {w w' : World} {ao : Option Addr} {n c : Nat} {l : List Blk} (h : BMine B w ao n c l) (hb : Below w.heap.size w w') : BMine B w' ao n c l :=
  h.keep fun k hk => hb.block k (h.ob hk).2

/-- 'append(blocks, x)', blocks of the call's own. -/
theorem wpList_bapp {ops : Array Oper} {rest : List Oper} {o : Oper} {a : Act} {w : World} {Q : Exit → Act → World → Prop} (hgd : o.guard = none) (s x : Operand)
    (ho : o.op = .call { callee := .builtin .append, args := #[s, x], argTypes := #[77, 77] })
    (B : Nat) (ao : Option Addr) (n c : Nat) (l : List Blk) (hs : a.eval s = .slice ao n c) (hm : BMine B w ao n c l)
    (q : Nat) (y : Blk) (hx : a.eval x = .slice (some ⟨q, 0, none⟩) 1 1) (hb : Bx w q (bv y)) (hbound : n ≤ 1000000000) (hB : B ≤ w.heap.size)
    (h : ∀ ao1 c1 w1, BMine B w1 ao1 (n + 1) c1 (l ++ [y]) → w.grownBy w1 (Value.slice ao n c).ownBlock → (∀ k, ob ao1 k → ob ao k ∨ w.heap.size ≤ k) → wpList Tryz.prog ops Q rest (a.put o.dst (.slice ao1 (n + 1) c1)) w1) :
    wpList Tryz.prog ops Q (o :: rest) a w := by
  obtain ⟨i0, hi, hz0, hz1, hz2⟩ := info_parts Tryz.infoBlk
  have hlen := hm.len
  have hnews : ∀ j u, (bv y).toList[j]? = some u → w.cell? ((⟨q, 0, none⟩ : Addr).add j) = some u := by
    intro j u hu
    rw [Addr.add_lit, cell_of_row w q _ _ _ _ hb]
    simpa using hu
  have hone : ∀ u ∈ (bv y).toList, u.oneCell' = true := by
    intro u hu
    simp [bv] at hu
    rcases hu with rfl | rfl | rfl | rfl <;> rfl
  refine wpList_append_own_at w hgd s x 77 ho B 90 i0 (.agg bz) 4 32 Tryz.underlying77 hi hz0 hz1 hz2 rfl (by decide) _ _ _ hs hm.own ⟨q, 0, none⟩ 1 1 (bv y).toList hx rfl hnews hone (by unfold maxLen; omega) (by omega) hB ?_
  intro v' w' hown hgrow _ hsrc
  rw [← flat_app] at hown
  have hex : ∃ ao1 c1, v' = .slice ao1 (n + 1) c1 := by
    rcases hown.2 with ⟨hv, h0⟩ | ⟨g, cap, cur, hv, _⟩
    · omega
    · exact ⟨_, _, hv⟩
  obtain ⟨ao1, c1, hv⟩ := hex
  subst hv
  refine h ao1 c1 w' ⟨by simp [hlen], hown⟩ hgrow fun k hk => ?_
  obtain ⟨z, rfl, rfl⟩ := hk
  rcases hsrc with hq | hq
  · left
    cases ao with
    | none => simp [Value.ownBlock] at hq
    | some z => exact ⟨z, rfl, by simpa [Value.ownBlock] using hq.symm⟩
  · right
    simp [Value.ownBlock] at hq
    omega

end Go.Proofs.YtnoabdafmgmenaaGreatDoor
