/-
  What a slice of ints is in memory, for the walks: where its numbers lie, that it stays there while new memory is made, what 'append' to a slice of the call's own leaves, what 'make' gives. Conditions: lengths below a bound that is far above every length the statements allow.
-/
import Derived.Test.YtddfbaaghjcbnaaGreatDoorSlices
namespace Go.Proofs.YtddfbaaghjcbnaaGreatDoor
open Go.RowKit
set_option linter.unusedVariables false
set_option linter.unusedSimpArgs false

theorem Tryz.infoInt : (Tryz.prog.info? 3).map (fun i => (i.zero, i.size, i.bytes)) = some (some (.int .i64 0), 1, 8) := by kernel_rfl

/-- Every number of the list is an int's. -/
def I64 (xs : List Int) : Prop := ∀ x ∈ xs, -9223372036854775808 ≤ x ∧ x ≤ 9223372036854775807

theorem I64.nil : I64 [] := by intro x hx; cases hx
theorem I64.app {a b : List Int} (h : I64 a) (k : I64 b) : I64 (a ++ b) := by
  intro x hx
  rcases List.mem_append.1 hx with h1 | h1
  · exact h x h1
  · exact k x h1
theorem I64.one {x : Int} (h0 : -9223372036854775808 ≤ x) (h1 : x ≤ 9223372036854775807) : I64 [x] := by
  intro y hy
  simp at hy
  omega
theorem I64.at {xs : List Int} (h : I64 xs) (i : Nat) : -9223372036854775808 ≤ xs[i]?.getD 0 ∧ xs[i]?.getD 0 ≤ 9223372036854775807 := by
  rcases Nat.lt_or_ge i xs.length with hi | hi
  · simp only [List.getElem?_eq_getElem hi, Option.getD_some]
    exact h _ (List.getElem_mem hi)
  · simp [List.getElem?_eq_none hi]

/-- The slice 'ao, n, c' holds the ints xs. -/
structure Is (w : World) (ao : Option Addr) (n c : Nat) (xs : List Int) : Prop where
  len : xs.length = n
  le : n ≤ c
  max : c ≤ 9223372036854775807
  nil : ao = none → c = 0
  fit : I64 xs
  at' : n = 0 ∨ ∃ b off, ao = some ⟨b, off, none⟩ ∧ ∀ i, i < n → w.cell? ⟨b, off + i, none⟩ = some (.int .i64 (xs[i]?.getD 0))

theorem Is.nought (w : World) : Is w .none 0 0 [] := ⟨rfl, Nat.le_refl _, by omega, fun _ => rfl, I64.nil, .inl rfl⟩

theorem Is.later {w w' : World} {ao : Option Addr} {n c : Nat} {xs : List Int} (h : Is w ao n c xs) (hb : Below w.heap.size w w') : Is w' ao n c xs := by
  refine ⟨h.len, h.le, h.max, h.nil, h.fit, ?_⟩
  rcases h.at' with h0 | ⟨b, off, e, hc⟩
  · exact .inl h0
  · exact .inr ⟨b, off, e, fun i hi => cell_later hb (hc i hi)⟩

theorem Tryz.elemInt : Tryz.prog.underlying 103 = some (.slice (Tryz.prog.elem 103)) := by kernel_rfl

/-- 'xs[i]' for the walk: its address, and what lies there. -/
theorem Is.idx {w : World} {ao : Option Addr} {n c : Nat} {xs : List Int} (h : Is w ao n c xs) {i : Nat} (hi : i < n) (I : Int) (hI : I = i) :
    ∃ b o, (∀ wx, (Instr.indexAt 103 (.slice ao n c) (.int .i64 I)).run Tryz.prog wx = .ok (.pointer (some ⟨b, o, none⟩)) wx) ∧ w.cell? ⟨b, o, none⟩ = some (.int .i64 (xs[i]?.getD 0)) := by
  subst hI
  rcases h.at' with h0 | ⟨b, off, rfl, hc⟩
  · omega
  · refine ⟨b, off + i, fun wx => ?_, hc i hi⟩
    have hs : ∀ w : World, (sizeOf (Tryz.prog.elem 103)).run Tryz.prog w = .ok 1 w := by intro w; kernel_rfl
    rw [run_indexAt_slice wx 103 _ n c .i64 (i : Int) Tryz.elemInt]
    simp [hs, hi, Addr.add_lit, Result.andThen]

/-- 'b[i]' of bytes for the walk. -/
theorem Bs.idx {w : World} {ao : Option Addr} {n c : Nat} {bs : List Int} (h : Bs w ao n c bs) {i : Nat} (hi : i < n) (I : Int) (hI : I = i) :
    ∃ b o, (∀ wx, (Instr.indexAt 32 (.slice ao n c) (.int .i64 I)).run Tryz.prog wx = .ok (.pointer (some ⟨b, o, none⟩)) wx) ∧ w.cell? ⟨b, o, none⟩ = some (.int .u8 (bs[i]?.getD 0)) := by
  subst hI
  rcases h.at' with h0 | ⟨b, off, rfl, hc⟩
  · omega
  · refine ⟨b, off + i, fun wx => ?_, by rw [hc i hi]; simp⟩
    rw [run_indexAt_slice wx 32 _ n c .i64 (i : Int) Tryz.elemBytes]
    simp [Tryz.sizeByte, hi, Addr.add_lit, Result.andThen]

/-- The ints xs in a row of the call's own, from block B on. -/
structure IMine (B : Nat) (w : World) (ao : Option Addr) (n c : Nat) (xs : List Int) : Prop where
  len : xs.length = n
  own : w.ownsRow B 3 1 (.slice ao n c) n (xs.map (Value.int .i64))
  fit : I64 xs

theorem IMine.nought (B : Nat) (w : World) : IMine B w .none 0 0 [] := ⟨rfl, World.ownsRow_nil _ _ _ _, I64.nil⟩

theorem IMine.is {B : Nat} {w : World} {ao : Option Addr} {n c : Nat} {xs : List Int} (h : IMine B w ao n c xs) : Is w ao n c xs := by
  have hl := h.len
  rcases h.own.2 with ⟨hv, h0⟩ | ⟨g, cap, cur, hv, hg, hh, hle, hmax, hsz, htake⟩
  · simp only [Value.slice.injEq] at hv
    obtain ⟨rfl, rfl, rfl⟩ := hv
    exact ⟨h.len, Nat.le_refl _, by omega, fun _ => rfl, h.fit, .inl rfl⟩
  · simp only [Value.slice.injEq] at hv
    obtain ⟨rfl, _, rfl⟩ := hv
    refine ⟨h.len, hle, by unfold maxLen at hmax; omega, (fun hq => by cases hq), h.fit, .inr ⟨g, 0, rfl, fun i hi => ?_⟩⟩
    have := h.own.cells (g := g) rfl i (.int .i64 (xs[i]?.getD 0)) (by simp [List.getElem?_eq_getElem (show i < xs.length by omega)])
    rw [Addr.add_lit] at this
    exact this

theorem IMine.mono {B B' : Nat} {w : World} {ao : Option Addr} {n c : Nat} {xs : List Int} (h : IMine B w ao n c xs) (hB : B' ≤ B) : IMine B' w ao n c xs := by
  refine ⟨h.len, ⟨h.own.1, ?_⟩, h.fit⟩
  rcases h.own.2 with hv | ⟨g, cap, cur, hv, hg, r⟩
  · exact .inl hv
  · exact .inr ⟨g, cap, cur, hv, by omega, r⟩

theorem IMine.later {B : Nat} {w w' : World} {ao : Option Addr} {n c : Nat} {xs : List Int} (h : IMine B w ao n c xs) (hb : Below w.heap.size w w') : IMine B w' ao n c xs := by
  refine ⟨h.len, ⟨h.own.1, ?_⟩, h.fit⟩
  rcases h.own.2 with hv | ⟨g, cap, cur, hv, hg, hh, r⟩
  · exact .inl hv
  · exact .inr ⟨g, cap, cur, hv, hg, by rw [hb.block g (Array.getElem?_eq_some_iff.1 hh).1]; exact hh, r⟩

theorem Is.news {w : World} {ad : Addr} {n c : Nat} {xs : List Int} (h : Is w (some ad) n c xs) : ∀ j u, (xs.map (Value.int .i64))[j]? = some u → w.cell? (ad.add j) = some u := by
  intro j u hu
  have hj : j < xs.length := by
    have := (List.getElem?_eq_some_iff.1 hu).1
    simpa using this
  rcases h.at' with h0 | ⟨b, off, e, hc⟩
  · have := h.len; omega
  · obtain rfl := Option.some.inj e
    have := hc j (by have := h.len; omega)
    rw [Addr.add_lit, this]
    simp [List.getElem?_eq_getElem hj] at hu
    simp [hu, List.getElem?_eq_getElem hj]

/-- 'append(out, xs...)', out of the call's own. -/
theorem wpList_iapp {ops : Array Oper} {rest : List Oper} {o : Oper} {a : Act} {w : World} {Q : Exit → Act → World → Prop} (hgd : o.guard = none) (s x : Operand)
    (ho : o.op = .call { callee := .builtin .append, args := #[s, x], argTypes := #[103, 103] })
    (B : Nat) (ao : Option Addr) (n c : Nat) (bs : List Int) (hs : a.eval s = .slice ao n c) (hm : IMine B w ao n c bs)
    (ao' : Option Addr) (m c' : Nat) (cs : List Int) (hx : a.eval x = .slice ao' m c') (hb : Is w ao' m c' cs) (hbound : n + m ≤ 1000000000000) (hB : B ≤ w.heap.size)
    (h : ∀ ao1 c1 w1, IMine B w1 ao1 (n + m) c1 (bs ++ cs) → Below B w w1 → wpList Tryz.prog ops Q rest (a.put o.dst (.slice ao1 (n + m) c1)) w1) :
    wpList Tryz.prog ops Q (o :: rest) a w := by
  obtain ⟨i0, hi, hz0, hz1, hz2⟩ := info_parts Tryz.infoInt
  have hlen := hm.len
  have hlen' := hb.len
  cases ao' with
  | none =>
    have hc' := hb.nil rfl
    have hm0 : m = 0 := by have := hb.le; omega
    subst hm0
    subst hc'
    have hcs : cs = [] := List.eq_nil_of_length_eq_zero hlen'
    subst hcs
    refine wpList_append_own_none hgd s x 103 ho B 3 i0 1 Tryz.underlying103 hi _ _ _ hs hm.own hx ?_
    exact h ao c w (by simpa using hm) (Below.refl _ _)
  | some ad =>
    refine wpList_append_own w hgd s x 103 ho B 3 i0 (.int .i64 0) 1 8 Tryz.underlying103 hi hz0 hz1 hz2 rfl (by decide) _ _ _ hs hm.own ad m c' (cs.map (Value.int .i64)) hx (by simp [hlen']) hb.news (ints_oneCell _ _) (by unfold maxLen; omega) (by omega) hB ?_
    intro v' w' hown hgrow _
    rw [← List.map_append] at hown
    have hbel : Below B w w' := (Below.refl B w).grown hgrow hB (fun k hk => (hm.own.lt k hk).1)
    have hex : ∃ ao1 c1, v' = .slice ao1 (n + m) c1 := by
      rcases hown.2 with ⟨hv, h0⟩ | ⟨g, cap, cur, hv, _⟩
      · exact ⟨.none, 0, by rw [hv, h0]⟩
      · exact ⟨_, _, hv⟩
    obtain ⟨ao1, c1, hv⟩ := hex
    subst hv
    exact h ao1 c1 w' ⟨by simp [hlen, hlen'], hown, hm.fit.app hb.fit⟩ hbel

/-- 'make([]int, n)'. -/
theorem wpList_imkFull {ops : Array Oper} {rest : List Oper} {o : Oper} {a : Act} {w : World} {Q : Exit → Act → World → Prop} (hgd : o.guard = none) (l c : Operand)
    (ho : o.op = Op.makeSlice 103 l c) (kl kc : IntKind) (L C : Int) (n : Nat) (hl : a.eval l = .int kl L) (hc : a.eval c = .int kc C) (hL : L = (n : Int)) (hC : C = (n : Int)) (hbound : n ≤ 1000000000000)
    (h : ∀ w1, IMine w.heap.size w1 (some ⟨w.heap.size, 0, none⟩) n n (List.replicate n 0) → Below w.heap.size w w1 → w.heap.size < w1.heap.size → wpList Tryz.prog ops Q rest (a.put o.dst (.slice (some ⟨w.heap.size, 0, none⟩) n n)) w1) :
    wpList Tryz.prog ops Q (o :: rest) a w := by
  obtain ⟨i0, hi, hz0, hz1, hz2⟩ := info_parts Tryz.infoInt
  refine wpList_make_full w hgd l c 103 ho w.heap.size 3 i0 (.int .i64 0) 1 Tryz.underlying103 hi hz0 hz1 kl kc L C n hl hc hL hC (by rw [hz2]; omega) (by unfold maxLen; omega) (Nat.le_refl _) ?_
  intro w1 hown hgrow
  rw [show (Value.int IntKind.i64 0).cells = #[Value.int IntKind.i64 0] from rfl, toList_madeCells_one, Nat.mul_one, ← List.map_replicate] at hown
  have hm : IMine w.heap.size w1 (some ⟨w.heap.size, 0, none⟩) n n (List.replicate n 0) := ⟨by simp, hown, fun x hx => by have := List.eq_of_mem_replicate hx; omega⟩
  have hlt : w.heap.size < w1.heap.size := (hown.lt w.heap.size rfl).2
  exact h w1 hm ((Below.refl _ w).grown hgrow (Nat.le_refl _) (fun k hk => by cases hk)) hlt

/-- 'out[i] = v', out of the call's own. -/
theorem IMine.stored {B : Nat} {w : World} {g n c : Nat} {xs : List Int} (h : IMine B w (some ⟨g, 0, none⟩) n c xs) (i : Nat) (v : Int) (h0 : -9223372036854775808 ≤ v) (h1 : v ≤ 9223372036854775807) : IMine B (w.setCell ⟨g, i, none⟩ (.int .i64 v)) (some ⟨g, 0, none⟩) n c (xs.set i v) := by
  refine ⟨by simp [h.len], ?_, fun x hx => ?_⟩
  · rw [List.map_set]
    exact (h.own.stored i _).1
  · rcases List.mem_or_eq_of_mem_set hx with hh | hh
    · exact h.fit x hh
    · omega

theorem IMine.free {B : Nat} {w : World} {g n c : Nat} {xs : List Int} (h : IMine B w (some ⟨g, 0, none⟩) n c xs) (i : Nat) : w.frozen? ⟨g, i, none⟩ = false := h.own.frozenAt i
theorem IMine.block {B : Nat} {w : World} {g n c : Nat} {xs : List Int} (h : IMine B w (some ⟨g, 0, none⟩) n c xs) : B ≤ g ∧ g < w.heap.size := h.own.lt g rfl

theorem IMine.keep {B : Nat} {w w' : World} {ao : Option Addr} {n c : Nat} {xs : List Int} (h : IMine B w ao n c xs) (hk : ∀ k, B ≤ k → w'.heap[k]? = w.heap[k]?) : IMine B w' ao n c xs := by
  refine ⟨h.len, ⟨h.own.1, ?_⟩, h.fit⟩
  rcases h.own.2 with hv | ⟨g, cap, cur, hv, hg, hh, r⟩
  · exact .inl hv
  · exact .inr ⟨g, cap, cur, hv, hg, by rw [hk g hg]; exact hh, r⟩
theorem IMine.below {B : Nat} {w : World} {ao : Option Addr} {n c : Nat} {xs : List Int} (h : IMine B w ao n c xs) {a : Addr} (ha : a.block < B) (u : Value) : IMine B (w.setCell a u) ao n c xs :=
  ⟨h.len, ownsRow_setCell_below h.own ha u, h.fit⟩

/-- A slice of ints that is written out in the program's text. -/
theorem Is.lit (w : World) (l : List Int) (h : I64 l) (hl : l.length ≤ 1000) : Is (w.alloc (.cells (l.map (Value.int .i64)).toArray 3)) (some ⟨w.heap.size, 0, none⟩) l.length l.length l := by
  refine ⟨rfl, Nat.le_refl _, by omega, (fun e => by cases e), h, .inr ⟨w.heap.size, 0, rfl, fun i hi => ?_⟩⟩
  rw [Nat.zero_add]
  simp [hi]

/-- '[]int{}'. -/
theorem IMine.empty (w : World) : IMine w.heap.size (w.alloc (.cells #[] 3)) (some ⟨w.heap.size, 0, none⟩) 0 0 [] :=
  ⟨rfl, World.ownsRow_made w #[] 0 (Nat.le_refl _) (by unfold maxLen; omega) rfl, I64.nil⟩

/-- The slice of one int that 'append(out, x)' lays first. -/
theorem Is.one (w : World) (v : Int) (h0 : -9223372036854775808 ≤ v) (h1 : v ≤ 9223372036854775807) : Is (w.alloc (.cells #[.int .i64 v] 3)) (some ⟨w.heap.size, 0, none⟩) 1 1 [v] :=
  Is.lit w [v] (I64.one h0 h1) (by simp)

/-- A slice of ints that came in. -/
theorem is_of_row {w : World} {a : Option Addr} {len cap : Nat} {zs : List Int} (h : (a = none ∧ len = 0 ∧ cap = 0 ∧ zs = []) ∨
  ∃ x, a = some x ∧ len ≤ cap ∧ cap ≤ maxLen ∧ zs.length = cap ∧ (∀ i, i < zs.length → w.cell? (x.add i) = some (.int .i64 (zs.getD i 0))) ∧ ∀ n ∈ zs, (Lit.int .i64 n).wf = true) : Is w a len cap (zs.take len) := by
  rcases h with ⟨rfl, rfl, rfl, rfl⟩ | ⟨x, rfl, hl, hm, hz, hc, hw⟩
  · exact Is.nought w
  · unfold maxLen at hm
    refine ⟨by simp; omega, hl, by omega, (fun e => by cases e), fun y hy => ?_, ?_⟩
    · have := bounds_i64 (hw y (List.mem_of_mem_take hy))
      omega
    · by_cases h0 : len = 0
      · exact .inl h0
      · right
        obtain ⟨b, off, spot⟩ := x
        have h1 := hc 0 (by omega)
        have hspot : spot = none := by simpa [Addr.add] using World.cell?_spot h1
        subst hspot
        refine ⟨b, off, rfl, fun i hi => ?_⟩
        have := hc i (by omega)
        rw [Addr.add_lit] at this
        rw [this]
        simp [hi]

end Go.Proofs.YtddfbaaghjcbnaaGreatDoor
