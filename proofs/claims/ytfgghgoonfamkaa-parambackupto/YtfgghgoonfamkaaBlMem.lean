/-
  Truth values in memory: where one lies, a slice of them, a row of the call's own, append. Conditions: at most 10 to the 8 of them.
-/
import Derived.Test.YtfgghgoonfamkaaMPl
import Derived.Test.YtfgghgoonfamkaaMA
import Derived.Deep.WholeRow
import Derived.Laws.Rows
namespace Go.Proofs.Ytfgghgoonfamkaa
open Go.RowKit
set_option linter.unusedVariables false
set_option linter.unusedSimpArgs false

def blC (p : Bool) : Array Value := #[.bool p]

theorem blc_one (p : Bool) : (blC p).all (·.oneCell') = true := by simp [blC, Value.oneCell']
theorem blc_sz (p : Bool) : (blC p).size = 1 := rfl
theorem blc_info (p : Bool) : (Try.prog.info? 4).map (·.size) = some (blC p).size := by
  rw [show (blC p).size = 1 from rfl]
  kernel_rfl
theorem blc_at (p : Bool) {j : Nat} (hj : j < 1) : (blC p)[j]? = some ((blC p)[j]'(by rw [blc_sz]; exact hj)) := Array.getElem?_eq_getElem _
/-- A row of them. -/
def flatB (l : List Bool) : List Value := l.flatMap fun x => (blC x).toList
theorem flatB_len : ∀ l : List Bool, (flatB l).length = l.length * 1
  | [] => rfl
  | x :: l => by
    have h := flatB_len l
    have e : flatB (x :: l) = (blC x).toList ++ flatB l := rfl
    rw [e, List.length_append, h, show ((blC x).toList).length = 1 from rfl, List.length_cons]
    omega
theorem flatB_app (l : List Bool) (x : Bool) : flatB (l ++ [x]) = flatB l ++ (blC x).toList := by simp [flatB]
theorem flatB_at : ∀ (l : List Bool) (i j : Nat) (x : Bool), l[i]? = some x → j < 1 → (flatB l)[i * 1 + j]? = (blC x)[j]?
  | [], i, j, x, h, hj => by simp at h
  | y :: l, 0, j, x, h, hj => by
    simp at h
    subst h
    simp only [flatB, List.flatMap_cons, Nat.zero_mul, Nat.zero_add]
    rw [List.getElem?_append_left (by rw [show ((blC y).toList).length = 1 from rfl]; exact hj)]
    simp
  | y :: l, i + 1, j, x, h, hj => by
    simp at h
    have ih := flatB_at l i j x h hj
    simp only [flatB, List.flatMap_cons] at ih ⊢
    have hs : ((blC y).toList).length = 1 := rfl
    rw [List.getElem?_append_right (by rw [hs]; omega), hs, show (i + 1) * 1 + j - 1 = i * 1 + j by omega]
    exact ih
/-- At an address lie the cells of one. -/
def AtB (w : World) (b o : Nat) (p : Bool) : Prop := ∀ j, j < 1 → w.cell? ⟨b, o + j, none⟩ = (blC p)[j]?
theorem AtB.lt {w : World} {b o : Nat} {p : Bool} (h : AtB w b o p) : b < w.heap.size := by
  have h0 := h 0 (by decide)
  rw [blc_at p (by decide)] at h0
  exact World.block_lt_of_cell? w _ h0
theorem AtB.keep {w w' : World} {b o : Nat} {p : Bool} (h : AtB w b o p) (hb : w'.heap[b]? = w.heap[b]?) : AtB w' b o p := by
  intro j hj
  rw [World.cell?_of_block (w := w) (a := ⟨b, o + j, none⟩) hb]
  exact h j hj
theorem AtB.later {w w' : World} {b o : Nat} {p : Bool} (h : AtB w b o p) (hb : Below w.heap.size w w') : AtB w' b o p := h.keep (hb.block b h.lt)
theorem AtB.of_row {w : World} {q : Nat} {p : Bool} (h : w.heap[q]? = some (.cells (blC p) 4 (0, 0))) : AtB w q 0 p := by
  intro j hj
  rw [Nat.zero_add, cell_of_row w q j _ _ _ h]
theorem infoB : (Try.prog.info? 4).map (fun i => (i.zero, i.size, i.bytes)) = some (some (.bool false), 1, 1) := by kernel_rfl
/-- The slice 'ao, n, c' holds l. -/
structure Bls (w : World) (ao : Option Addr) (n c : Nat) (l : List Bool) : Prop where
  len : l.length = n
  le : n ≤ c
  max : c ≤ 9223372036854775807
  nil : ao = none → c = 0
  at' : n = 0 ∨ ∃ b off, ao = some ⟨b, off, none⟩ ∧ ∀ i p, l[i]? = some p → AtB w b (off + i * 1) p
theorem Bls.nought (w : World) : Bls w .none 0 0 [] := ⟨rfl, Nat.le_refl _, by omega, fun _ => rfl, .inl rfl⟩
theorem Bls.later {w w' : World} {ao : Option Addr} {n c : Nat} {l : List Bool} (h : Bls w ao n c l) (hb : Below w.heap.size w w') : Bls w' ao n c l := by
  refine ⟨h.len, h.le, h.max, h.nil, ?_⟩
  rcases h.at' with h0 | ⟨b, off, e, hc⟩
  · exact .inl h0
  · exact .inr ⟨b, off, e, fun i p hi => (hc i p hi).later hb⟩
theorem Bls.keepB {w w' : World} {ao : Option Addr} {n c : Nat} {l : List Bool} (h : Bls w ao n c l) (hk : ∀ k, ob ao k → k < w.heap.size → w'.heap[k]? = w.heap[k]?) : Bls w' ao n c l := by
  refine ⟨h.len, h.le, h.max, h.nil, ?_⟩
  rcases h.at' with h0 | ⟨b, off, e, hc⟩
  · exact .inl h0
  · exact .inr ⟨b, off, e, fun i p hi => (hc i p hi).keep (hk b ⟨_, e, rfl⟩ (hc i p hi).lt)⟩
theorem Bls.lit (w : World) (l : List Bool) (hl : l.length ≤ 100000) : Bls (w.alloc (.cells (flatB l).toArray 4)) (some ⟨w.heap.size, 0, none⟩) l.length l.length l := by
  refine ⟨rfl, Nat.le_refl _, by omega, (fun e => by cases e), .inr ⟨w.heap.size, 0, rfl, fun i p hi => ?_⟩⟩
  intro j hj
  rw [cell_of_row _ _ _ _ _ _ (heap_alloc_new w _), Nat.zero_add]
  simpa using flatB_at l i j p hi hj
theorem elemB : Try.prog.underlying 44 = some (.slice (Try.prog.elem 44)) := by kernel_rfl
/-- 'l[i]' for the walk: its address, and what lies there. -/
theorem Bls.idx {w : World} {ao : Option Addr} {n c : Nat} {l : List Bool} (h : Bls w ao n c l) {i : Nat} {p : Bool} (hi : l[i]? = some p) (I : Int) (hI : I = i) :
    ∃ b o, (∀ wx, (Instr.indexAt 44 (.slice ao n c) (.int .i64 I)).run Try.prog wx = .ok (.pointer (some ⟨b, o, none⟩)) wx) ∧ AtB w b o p := by
  subst hI
  have hl : i < n := by rw [← h.len]; exact (List.getElem?_eq_some_iff.1 hi).1
  rcases h.at' with h0 | ⟨b, off, rfl, hc⟩
  · omega
  · refine ⟨b, off + i * 1, fun wx => ?_, hc i p hi⟩
    have hs : ∀ w : World, (sizeOf (Try.prog.elem 44)).run Try.prog w = .ok 1 w := by intro w; kernel_rfl
    rw [run_indexAt_slice wx 44 _ n c .i64 (i : Int) elemB]
    simp [hs, hl, Addr.add_lit, Result.andThen]
/-- l in a row of the call's own, from block B on. -/
structure BlMine (B : Nat) (w : World) (ao : Option Addr) (n c : Nat) (l : List Bool) : Prop where
  len : l.length = n
  own : w.ownsRow B 4 1 (.slice ao n c) n (flatB l)
theorem BlMine.nought (B : Nat) (w : World) : BlMine B w .none 0 0 [] := ⟨rfl, World.ownsRow_nil _ _ _ _⟩
theorem BlMine.ob {B : Nat} {w : World} {ao : Option Addr} {n c : Nat} {l : List Bool} (h : BlMine B w ao n c l) {k : Nat} (hk : ob ao k) : B ≤ k ∧ k < w.heap.size := by
  obtain ⟨a, rfl, rfl⟩ := hk
  rcases h.own.2 with ⟨hv, _⟩ | ⟨g, cap, cur, hv, hg, hh, _⟩
  · simp at hv
  · simp only [Value.slice.injEq, Option.some.injEq] at hv
    obtain ⟨rfl, _⟩ := hv
    exact ⟨hg, (Array.getElem?_eq_some_iff.1 hh).1⟩
theorem BlMine.keep {B : Nat} {w w' : World} {ao : Option Addr} {n c : Nat} {l : List Bool} (h : BlMine B w ao n c l) (hk : ∀ k, Proofs.Ytfgghgoonfamkaa.ob ao k → w'.heap[k]? = w.heap[k]?) : BlMine B w' ao n c l := by
  refine ⟨h.len, ⟨h.own.1, ?_⟩⟩
  rcases h.own.2 with hv | ⟨g, cap, cur, hv, hg, hh, r⟩
  · exact .inl hv
  · simp only [Value.slice.injEq] at hv
    obtain ⟨rfl, _, rfl⟩ := hv
    exact .inr ⟨g, _, cur, rfl, hg, by rw [hk g ⟨_, rfl, rfl⟩]; exact hh, r⟩
theorem BlMine.mono {B B' : Nat} {w : World} {ao : Option Addr} {n c : Nat} {l : List Bool} (h : BlMine B w ao n c l) (hB : B' ≤ B) : BlMine B' w ao n c l := by
  refine ⟨h.len, ⟨h.own.1, ?_⟩⟩
  rcases h.own.2 with hv | ⟨g, cap, cur, hv, hg, r⟩
  · exact .inl hv
  · exact .inr ⟨g, cap, cur, hv, by omega, r⟩
theorem BlMine.later {B : Nat} {w w' : World} {ao : Option Addr} {n c : Nat} {l : List Bool} (h : BlMine B w ao n c l) (hb : Below w.heap.size w w') : BlMine B w' ao n c l :=
  h.keep fun k hk => hb.block k (h.ob hk).2
theorem BlMine.gb {B g : Nat} {w w' : World} {ao : Option Addr} {n c : Nat} {l : List Bool} (h : BlMine B w ao n c l) (hg : g < B) (hb : Gb g w w') : BlMine B w' ao n c l :=
  h.keep fun k hk => hb.block k (h.ob hk).2 (by have := (h.ob hk).1; omega)
theorem BlMine.ss {B : Nat} {w : World} {ao : Option Addr} {n c : Nat} {l : List Bool} (h : BlMine B w ao n c l) : Bls w ao n c l := by
  have hl := h.len
  rcases h.own.2 with ⟨hv, h0⟩ | ⟨g, cap, cur, hv, hg, hh, hle, hmax, hsz, htake⟩
  · simp only [Value.slice.injEq] at hv
    obtain ⟨rfl, rfl, rfl⟩ := hv
    exact ⟨h.len, Nat.le_refl _, by omega, fun _ => rfl, .inl rfl⟩
  · simp only [Value.slice.injEq] at hv
    obtain ⟨rfl, _, rfl⟩ := hv
    refine ⟨h.len, hle, by unfold maxLen at hmax; omega, (fun hq => by cases hq), .inr ⟨g, 0, rfl, fun i p hi => ?_⟩⟩
    intro j hj
    have h1 := flatB_at l i j p hi hj
    rw [blc_at p hj] at h1 ⊢
    have := h.own.cells (g := g) rfl (i * 1 + j) _ h1
    rw [Addr.add_lit] at this
    rw [← this, Nat.zero_add, Nat.zero_add]
/-- 'append(l, p)', l of the call's own. -/
theorem wpList_appB {ops : Array Oper} {rest : List Oper} {o : Oper} {a : Act} {w : World} {Q : Exit → Act → World → Prop} (hgd : o.guard = none) (s x : Operand)
    (ho : o.op = .call { callee := .builtin .append, args := #[s, x], argTypes := #[44, 44] })
    (B : Nat) (ao : Option Addr) (n c : Nat) (l : List Bool) (hs : a.eval s = .slice ao n c) (hm : BlMine B w ao n c l)
    (q : Nat) (y : Bool) (hx : a.eval x = .slice (some ⟨q, 0, none⟩) 1 1) (hb : AtB w q 0 y) (hbound : n ≤ 100000000) (hB : B ≤ w.heap.size)
    (h : ∀ ao1 c1 w1, BlMine B w1 ao1 (n + 1) c1 (l ++ [y]) → Below B w w1 → wpList Try.prog ops Q rest (a.put o.dst (.slice ao1 (n + 1) c1)) w1) :
    wpList Try.prog ops Q (o :: rest) a w := by
  obtain ⟨i0, hi, hz0, hz1, hz2⟩ := info_parts infoB
  have hlen := hm.len
  have hnews : ∀ j u, (blC y).toList[j]? = some u → w.cell? ((⟨q, 0, none⟩ : Addr).add j) = some u := by
    intro j u hu
    have hj : j < 1 := (List.getElem?_eq_some_iff.1 hu).1
    have := hb j hj
    rw [Addr.add_lit, this]
    simpa using hu
  have hone : ∀ u ∈ (blC y).toList, u.oneCell' = true := fun u hu => (Array.all_eq_true_iff_forall_mem.1 (blc_one y)) u (by simpa using hu)
  refine wpList_append_own_at w hgd s x 44 ho B 4 i0 (.bool false) 1 1 Try.underlying44 hi hz0 hz1 hz2 rfl (by decide) _ _ _ hs hm.own ⟨q, 0, none⟩ 1 1 (blC y).toList hx rfl hnews hone (by unfold maxLen; omega) (by omega) hB ?_
  intro v' w' hown hgrow _ hsrc
  rw [← flatB_app] at hown
  have hex : ∃ ao1 c1, v' = .slice ao1 (n + 1) c1 := by
    rcases hown.2 with ⟨hv, h0⟩ | ⟨g, cap, cur, hv, _⟩
    · omega
    · exact ⟨_, _, hv⟩
  obtain ⟨ao1, c1, hv⟩ := hex
  subst hv
  exact h ao1 c1 w' ⟨by simp [hlen], hown⟩ ((Below.refl B w).grown hgrow hB (fun k hk => (hm.own.lt k hk).1))

end Go.Proofs.Ytfgghgoonfamkaa
