/-
  Attributes in memory: a variable that holds one, a row of them. Conditions: at most 10 to the 9 of them.
-/
import Derived.Test.YtkijdkbkbelliaaGpFs
import Derived.Deep.WholeRow
import Derived.Laws.Rows
namespace Go.Proofs.Ytkijdkbkbelliaa
open Go.RowKit
set_option linter.unusedVariables false
set_option linter.unusedSimpArgs false

/-- An attribute: its name, its value. -/
structure At where
  n : ByteArray
  v : ByteArray
/-- As the program has it. -/
def av (p : At) : Array Value := #[.string p.n, .string p.v]
theorem av_one (p : At) : (av p).all (·.oneCell') = true := by simp [av, Value.oneCell']
theorem av_size (p : At) : (av p).size = 2 := rfl

/-- Block q is a variable that holds an attribute. -/
def Ax (w : World) (q : Nat) (p : At) : Prop := w.heap[q]? = some (.cells (av p) 125 (0, 0))
theorem Ax.lt {w : World} {q : Nat} {p : At} (h : Ax w q p) : q < w.heap.size := (Array.getElem?_eq_some_iff.1 h).1
theorem Ax.later {w w' : World} {q : Nat} {p : At} (h : Ax w q p) (hb : Below w.heap.size w w') : Ax w' q p := by
  unfold Ax
  rw [hb.block q h.lt]
  exact h
theorem Ax.c0 {w : World} {q : Nat} {p : At} (h : Ax w q p) : w.cell? ⟨q, 0, none⟩ = some (.string p.n) := by rw [cell_of_row w q 0 _ _ _ h]; rfl
theorem Ax.c1 {w : World} {q : Nat} {p : At} (h : Ax w q p) : w.cell? ⟨q, 1, none⟩ = some (.string p.v) := by rw [cell_of_row w q 1 _ _ _ h]; rfl
theorem Ax.free {w : World} {q : Nat} {p : At} (h : Ax w q p) (i : Nat) : w.frozen? ⟨q, i, none⟩ = false := frozen_of_row w q i _ _ h
theorem ax_new (w : World) (p : At) : Ax (w.alloc (.cells (av p) 125)) w.heap.size p := heap_alloc_new w _
/-- Both cells are written. -/
theorem Ax.put {w : World} {q : Nat} {p : At} (h : Ax w q p) (p' : At) : Ax ((w.setCell ⟨q, 0, none⟩ (.string p'.n)).setCell ⟨q, 1, none⟩ (.string p'.v)) q p' ∧ Gb q w ((w.setCell ⟨q, 0, none⟩ (.string p'.n)).setCell ⟨q, 1, none⟩ (.string p'.v)) := by
  have h1 := heap_setCell_same w q 0 _ _ (.string p'.n) h
  have h2 := heap_setCell_same _ q 1 _ _ (.string p'.v) h1
  exact ⟨h2, ((Gb.refl q w).set 0 _).set 1 _⟩

/-! A row of attributes. -/
def flatA (l : List At) : List Value := l.flatMap fun x => (av x).toList
theorem flatA_len : ∀ l : List At, (flatA l).length = l.length * 2
  | [] => rfl
  | x :: l => by
    have h := flatA_len l
    have e : flatA (x :: l) = (av x).toList ++ flatA l := rfl
    rw [e, List.length_append, h, show ((av x).toList).length = 2 from rfl, List.length_cons]
    omega
theorem flatA_app (l : List At) (x : At) : flatA (l ++ [x]) = flatA l ++ (av x).toList := by simp [flatA]
theorem flatA_at : ∀ (l : List At) (i j : Nat) (x : At), l[i]? = some x → j < 2 → (flatA l)[i * 2 + j]? = (av x)[j]?
  | [], i, j, x, h, hj => by simp at h
  | y :: l, 0, j, x, h, hj => by
    simp at h
    subst h
    simp only [flatA, List.flatMap_cons, Nat.zero_mul, Nat.zero_add]
    rw [List.getElem?_append_left (by simpa [av] using hj)]
    simp
  | y :: l, i + 1, j, x, h, hj => by
    simp at h
    have ih := flatA_at l i j x h hj
    simp only [flatA, List.flatMap_cons] at ih ⊢
    have hs : ((av y).toList).length = 2 := rfl
    rw [List.getElem?_append_right (by rw [hs]; omega), hs, show (i + 1) * 2 + j - 2 = i * 2 + j by omega]
    exact ih

/-- The slice 'ao, n, c' holds the attributes l. -/
structure As (w : World) (ao : Option Addr) (n c : Nat) (l : List At) : Prop where
  len : l.length = n
  le : n ≤ c
  max : c ≤ 9223372036854775807
  nil : ao = none → c = 0
  at' : n = 0 ∨ ∃ b off, ao = some ⟨b, off, none⟩ ∧ ∀ i p, l[i]? = some p → w.cell? ⟨b, off + i * 2, none⟩ = some (.string p.n) ∧ w.cell? ⟨b, off + i * 2 + 1, none⟩ = some (.string p.v)
theorem As.nought (w : World) : As w .none 0 0 [] := ⟨rfl, Nat.le_refl _, by omega, fun _ => rfl, .inl rfl⟩
theorem As.later {w w' : World} {ao : Option Addr} {n c : Nat} {l : List At} (h : As w ao n c l) (hb : Below w.heap.size w w') : As w' ao n c l := by
  refine ⟨h.len, h.le, h.max, h.nil, ?_⟩
  rcases h.at' with h0 | ⟨b, off, e, hc⟩
  · exact .inl h0
  · exact .inr ⟨b, off, e, fun i p hi => ⟨cell_later hb (hc i p hi).1, cell_later hb (hc i p hi).2⟩⟩
theorem As.keepB {w w' : World} {ao : Option Addr} {n c : Nat} {l : List At} (h : As w ao n c l) (hk : ∀ k, ob ao k → k < w.heap.size → w'.heap[k]? = w.heap[k]?) : As w' ao n c l := by
  refine ⟨h.len, h.le, h.max, h.nil, ?_⟩
  rcases h.at' with h0 | ⟨b, off, e, hc⟩
  · exact .inl h0
  · refine .inr ⟨b, off, e, fun i p hi => ?_⟩
    have k1 := hc i p hi
    have hb := hk b ⟨_, e, rfl⟩ (World.block_lt_of_cell? w _ k1.1)
    rw [World.cell?_of_block (w := w) (a := ⟨b, off + i * 2, none⟩) hb, World.cell?_of_block (w := w) (a := ⟨b, off + i * 2 + 1, none⟩) hb]
    exact k1
theorem Try.elemAts : Try.prog.underlying 65 = some (.slice (Try.prog.elem 65)) := by kernel_rfl
/-- 'l[i]' for the walk: its address, and what lies there. -/
theorem As.idx {w : World} {ao : Option Addr} {n c : Nat} {l : List At} (h : As w ao n c l) {i : Nat} {p : At} (hi : l[i]? = some p) (I : Int) (hI : I = i) :
    ∃ b o, (∀ wx, (Instr.indexAt 65 (.slice ao n c) (.int .i64 I)).run Try.prog wx = .ok (.pointer (some ⟨b, o, none⟩)) wx) ∧ w.cell? ⟨b, o, none⟩ = some (.string p.n) ∧ w.cell? ⟨b, o + 1, none⟩ = some (.string p.v) := by
  subst hI
  have hl : i < n := by rw [← h.len]; exact (List.getElem?_eq_some_iff.1 hi).1
  rcases h.at' with h0 | ⟨b, off, rfl, hc⟩
  · omega
  · refine ⟨b, off + i * 2, fun wx => ?_, hc i p hi⟩
    have hs : ∀ w : World, (sizeOf (Try.prog.elem 65)).run Try.prog w = .ok 2 w := by intro w; kernel_rfl
    rw [run_indexAt_slice wx 65 _ n c .i64 (i : Int) Try.elemAts]
    simp [hs, hl, Addr.add_lit, Result.andThen]

/-- The attributes l in a row of the call's own, from block B on. -/
structure AMine (B : Nat) (w : World) (ao : Option Addr) (n c : Nat) (l : List At) : Prop where
  len : l.length = n
  own : w.ownsRow B 125 2 (.slice ao n c) n (flatA l)
theorem AMine.nought (B : Nat) (w : World) : AMine B w .none 0 0 [] := ⟨rfl, World.ownsRow_nil _ _ _ _⟩
theorem AMine.ob {B : Nat} {w : World} {ao : Option Addr} {n c : Nat} {l : List At} (h : AMine B w ao n c l) {k : Nat} (hk : ob ao k) : B ≤ k ∧ k < w.heap.size := by
  obtain ⟨a, rfl, rfl⟩ := hk
  rcases h.own.2 with ⟨hv, _⟩ | ⟨g, cap, cur, hv, hg, hh, _⟩
  · simp at hv
  · simp only [Value.slice.injEq, Option.some.injEq] at hv
    obtain ⟨rfl, _⟩ := hv
    exact ⟨hg, (Array.getElem?_eq_some_iff.1 hh).1⟩
theorem AMine.keep {B : Nat} {w w' : World} {ao : Option Addr} {n c : Nat} {l : List At} (h : AMine B w ao n c l) (hk : ∀ k, Proofs.Ytkijdkbkbelliaa.ob ao k → w'.heap[k]? = w.heap[k]?) : AMine B w' ao n c l := by
  refine ⟨h.len, ⟨h.own.1, ?_⟩⟩
  rcases h.own.2 with hv | ⟨g, cap, cur, hv, hg, hh, r⟩
  · exact .inl hv
  · simp only [Value.slice.injEq] at hv
    obtain ⟨rfl, _, rfl⟩ := hv
    exact .inr ⟨g, _, cur, rfl, hg, by rw [hk g ⟨_, rfl, rfl⟩]; exact hh, r⟩
theorem AMine.mono {B B' : Nat} {w : World} {ao : Option Addr} {n c : Nat} {l : List At} (h : AMine B w ao n c l) (hB : B' ≤ B) : AMine B' w ao n c l := by
  refine ⟨h.len, ⟨h.own.1, ?_⟩⟩
  rcases h.own.2 with hv | ⟨g, cap, cur, hv, hg, r⟩
  · exact .inl hv
  · exact .inr ⟨g, cap, cur, hv, by omega, r⟩
theorem AMine.later {B : Nat} {w w' : World} {ao : Option Addr} {n c : Nat} {l : List At} (h : AMine B w ao n c l) (hb : Below w.heap.size w w') : AMine B w' ao n c l :=
  h.keep fun k hk => hb.block k (h.ob hk).2
theorem AMine.gb {B g : Nat} {w w' : World} {ao : Option Addr} {n c : Nat} {l : List At} (h : AMine B w ao n c l) (hg : g < B) (hb : Gb g w w') : AMine B w' ao n c l :=
  h.keep fun k hk => hb.block k (h.ob hk).2 (by have := (h.ob hk).1; omega)
theorem AMine.as {B : Nat} {w : World} {ao : Option Addr} {n c : Nat} {l : List At} (h : AMine B w ao n c l) : As w ao n c l := by
  have hl := h.len
  rcases h.own.2 with ⟨hv, h0⟩ | ⟨g, cap, cur, hv, hg, hh, hle, hmax, hsz, htake⟩
  · simp only [Value.slice.injEq] at hv
    obtain ⟨rfl, rfl, rfl⟩ := hv
    exact ⟨h.len, Nat.le_refl _, by omega, fun _ => rfl, .inl rfl⟩
  · simp only [Value.slice.injEq] at hv
    obtain ⟨rfl, _, rfl⟩ := hv
    refine ⟨h.len, hle, by unfold maxLen at hmax; omega, (fun hq => by cases hq), .inr ⟨g, 0, rfl, fun i p hi => ?_⟩⟩
    have key : ∀ j, j < 2 → w.cell? ⟨g, 0 + i * 2 + j, none⟩ = (av p)[j]? := by
      intro j hj
      have h1 := flatA_at l i j p hi hj
      have h2 : (av p)[j]? = some ((av p)[j]'(by simpa [av] using hj)) := Array.getElem?_eq_getElem _
      rw [h2] at h1 ⊢
      have := h.own.cells (g := g) rfl (i * 2 + j) _ h1
      rw [Addr.add_lit] at this
      rw [← this, Nat.add_assoc]
    exact ⟨key 0 (by omega), key 1 (by omega)⟩

theorem Try.infoAt : (Try.prog.info? 125).map (fun i => (i.zero, i.size, i.bytes)) = some (some (.agg (av ⟨⟨#[]⟩, ⟨#[]⟩⟩)), 2, 32) := by kernel_rfl
/-- 'append(l, p)', l of the call's own. -/
theorem wpList_aapp {ops : Array Oper} {rest : List Oper} {o : Oper} {a : Act} {w : World} {Q : Exit → Act → World → Prop} (hgd : o.guard = none) (s x : Operand)
    (ho : o.op = .call { callee := .builtin .append, args := #[s, x], argTypes := #[65, 65] })
    (B : Nat) (ao : Option Addr) (n c : Nat) (l : List At) (hs : a.eval s = .slice ao n c) (hm : AMine B w ao n c l)
    (q : Nat) (y : At) (hx : a.eval x = .slice (some ⟨q, 0, none⟩) 1 1) (hb : Ax w q y) (hbound : n ≤ 1000000000) (hB : B ≤ w.heap.size)
    (h : ∀ ao1 c1 w1, AMine B w1 ao1 (n + 1) c1 (l ++ [y]) → Below B w w1 → wpList Try.prog ops Q rest (a.put o.dst (.slice ao1 (n + 1) c1)) w1) :
    wpList Try.prog ops Q (o :: rest) a w := by
  obtain ⟨i0, hi, hz0, hz1, hz2⟩ := info_parts Try.infoAt
  have hlen := hm.len
  have hnews : ∀ j u, (av y).toList[j]? = some u → w.cell? ((⟨q, 0, none⟩ : Addr).add j) = some u := by
    intro j u hu
    rw [Addr.add_lit, cell_of_row w q _ _ _ _ hb]
    simpa using hu
  have hone : ∀ u ∈ (av y).toList, u.oneCell' = true := by
    intro u hu
    simp [av] at hu
    rcases hu with rfl | rfl <;> rfl
  refine wpList_append_own_at w hgd s x 65 ho B 125 i0 (.agg (av ⟨⟨#[]⟩, ⟨#[]⟩⟩)) 2 32 Try.underlying65 hi hz0 hz1 hz2 rfl (by decide) _ _ _ hs hm.own ⟨q, 0, none⟩ 1 1 (av y).toList hx rfl hnews hone (by unfold maxLen; omega) (by omega) hB ?_
  intro v' w' hown hgrow _ hsrc
  rw [← flatA_app] at hown
  have hex : ∃ ao1 c1, v' = .slice ao1 (n + 1) c1 := by
    rcases hown.2 with ⟨hv, h0⟩ | ⟨g, cap, cur, hv, _⟩
    · omega
    · exact ⟨_, _, hv⟩
  obtain ⟨ao1, c1, hv⟩ := hex
  subst hv
  exact h ao1 c1 w' ⟨by simp [hlen], hown⟩ ((Below.refl B w).grown hgrow hB (fun k hk => (hm.own.lt k hk).1))

end Go.Proofs.Ytkijdkbkbelliaa
