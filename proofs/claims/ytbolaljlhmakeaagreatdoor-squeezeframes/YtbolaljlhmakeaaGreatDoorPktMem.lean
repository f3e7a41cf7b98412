/-
  A reader of frames in memory: the block of its struct, the row of a payload's bytes, the row of what is held; a list of packets; which blocks a call may have changed. Conditions: lengths below a bound that is far above every length the statements allow.
-/
import Derived.Test.YtbolaljlhmakeaaGreatDoorMMem
import Derived.Test.YtbolaljlhmakeaaGreatDoorPktPlain
import Derived.Deep.WholeRow
import Derived.Laws.Rows
namespace Go.Proofs.YtbolaljlhmakeaaGreatDoor.Pkt
open Go.RowKit
set_option linter.unusedVariables false
set_option linter.unusedSimpArgs false

theorem below_drewN (w : World) (n : Nat) : Below w.heap.size w (w.drewN n) := ⟨rfl, rfl, rfl, Nat.le_refl _, fun _ _ => rfl⟩
/-- A packet as it lies in memory. -/
structure Pm where
  sq : Int
  nx : Int
  ao : Option Addr
  cap : Nat
  bs : List Int
def pv (p : Pm) : Array Value := #[.int .u8 p.sq, .int .u8 p.nx, .slice p.ao p.bs.length p.cap]
/-- What it says. -/
def pl (p : Pm) : Pk := (p.sq, p.nx, p.bs)
structure Pok (p : Pm) : Prop where
  s0 : 0 ≤ p.sq
  s1 : p.sq ≤ 255
  n0 : 0 ≤ p.nx
  n1 : p.nx ≤ 255
def pz : Pm := ⟨0, 0, none, 0, []⟩
theorem pv_one (p : Pm) : (pv p).all (·.oneCell') = true := by simp [pv, Value.oneCell']
theorem pv_size (p : Pm) : (pv p).size = 3 := rfl
/-- Block q is a variable that holds a packet. -/
def Px (w : World) (q : Nat) (p : Pm) : Prop := w.heap[q]? = some (.cells (pv p) 58 (0, 0))
theorem Px.lt {w : World} {q : Nat} {p : Pm} (h : Px w q p) : q < w.heap.size := (Array.getElem?_eq_some_iff.1 h).1
theorem Px.later {w w' : World} {q : Nat} {p : Pm} (h : Px w q p) (hb : Below w.heap.size w w') : Px w' q p := by
  unfold Px
  rw [hb.block q h.lt]
  exact h
theorem Px.gb {w w' : World} {g q : Nat} {p : Pm} (h : Px w q p) (hb : Gb g w w') (hq : q ≠ g) : Px w' q p := by
  unfold Px
  rw [hb.block q h.lt hq]
  exact h
theorem Px.c0 {w : World} {q : Nat} {p : Pm} (h : Px w q p) : w.cell? ⟨q, 0, none⟩ = some (.int .u8 p.sq) := by rw [cell_of_row w q 0 _ _ _ h]; rfl
theorem Px.c1 {w : World} {q : Nat} {p : Pm} (h : Px w q p) : w.cell? ⟨q, 1, none⟩ = some (.int .u8 p.nx) := by rw [cell_of_row w q 1 _ _ _ h]; rfl
theorem Px.c2 {w : World} {q : Nat} {p : Pm} (h : Px w q p) : w.cell? ⟨q, 2, none⟩ = some (.slice p.ao p.bs.length p.cap) := by rw [cell_of_row w q 2 _ _ _ h]; rfl
theorem Px.free {w : World} {q : Nat} {p : Pm} (h : Px w q p) (i : Nat) : w.frozen? ⟨q, i, none⟩ = false := frozen_of_row w q i _ _ h
theorem Tryz.pcSize : (Tryz.prog.info? 58).map (·.size) = some 3 := by kernel_rfl
theorem Tryz.pcZero : (Tryz.prog.info? 58).map (fun i => (i.zero, i.size)) = some (some (.agg (pv pz)), 3) := by kernel_rfl
theorem results_pc {fn : Func} {p : Tmp} (h : fn.results = #[.cell p 58]) (tmps : Array Value) (w : World) (q : Nat) (v : Pm)
    (hp : tmps.getD p undef = .pointer (some ⟨q, 0, none⟩)) (hq : Px w q v) : (results fn tmps).run Tryz.prog w = .ok (.agg (pv v)) w :=
  results_cell_row h tmps w q _ (pv v) (0, 0) _ hp hq Tryz.underlying58 rfl Tryz.pcSize
theorem wpList_pcAlloc {ops : Array Oper} {rest : List Oper} {o : Oper} {a : Act} {w : World} {Q : Exit → Act → World → Prop} (hgd : o.guard = none) (ho : o.op = .alloc 58)
    (h : ∀ w1, Px w1 w.heap.size pz → Below w.heap.size w w1 → w1.heap.size = w.heap.size + 1 → wpList Tryz.prog ops Q rest (a.put o.dst (.pointer (some ⟨w.heap.size, 0, none⟩))) w1) : wpList Tryz.prog ops Q (o :: rest) a w := by
  refine wpList_plain hgd fun K hK' => ?_
  have hz := (zero_of_info Tryz.pcZero).1
  unfold Oper.wp
  simp [execOp, ho, Instr.alloc, hz, Result.andThen]
  exact hK' _ _ (h _ (heap_alloc_new w _) (below_alloc w _) (by simp))
theorem wpList_pcLoad {ops : Array Oper} {rest : List Oper} {o : Oper} {a : Act} {w : World} {Q : Exit → Act → World → Prop} (hgd : o.guard = none) (x : Operand) (ho : o.op = .load 58 x)
    (q : Nat) (hx : a.eval x = .pointer (some ⟨q, 0, none⟩)) (p : Pm) (hg : Px w q p)
    (h : wpList Tryz.prog ops Q rest (a.put o.dst (.agg (pv p))) w) : wpList Tryz.prog ops Q (o :: rest) a w :=
  wpList_load_row hgd _ x ho q hx _ (pv p) (0, 0) _ hg Tryz.underlying58 rfl Tryz.pcSize h
theorem wpList_pcStore {ops : Array Oper} {rest : List Oper} {o : Oper} {a : Act} {w : World} {Q : Exit → Act → World → Prop} (hgd : o.guard = none) (x y : Operand) (ho : o.op = .store 58 x y)
    (q : Nat) (p old : Pm) (hx : a.eval x = .pointer (some ⟨q, 0, none⟩)) (hy : a.eval y = .agg (pv p)) (hg : Px w q old)
    (h : ∀ w1, Px w1 q p → Gb q w w1 → w1.heap.size = w.heap.size → wpList Tryz.prog ops Q rest (a.put o.dst undef) w1) : wpList Tryz.prog ops Q (o :: rest) a w := by
  refine wpList_store_row hgd _ x y ho q (pv p) hx hy _ (pv old) hg Tryz.pcSize rfl (pv_one p) ?_
  refine h _ (setRow_heap w q _ _ _ _ hg) ⟨rfl, rfl, rfl, by simp, fun k _ hk => setRow_other w q k _ hk⟩ (by simp)

/-! A row of packets. -/
def flatP (l : List Pm) : List Value := l.flatMap fun x => (pv x).toList
theorem flatP_app (l : List Pm) (x : Pm) : flatP (l ++ [x]) = flatP l ++ (pv x).toList := by simp [flatP]
theorem flatP_at : ∀ (l : List Pm) (i j : Nat) (x : Pm), l[i]? = some x → j < 3 → (flatP l)[i * 3 + j]? = (pv x)[j]?
  | [], i, j, x, h, hj => by simp at h
  | y :: l, 0, j, x, h, hj => by
    simp at h
    subst h
    simp only [flatP, List.flatMap_cons, Nat.zero_mul, Nat.zero_add]
    rw [List.getElem?_append_left (by simpa [pv] using hj)]
    simp
  | y :: l, i + 1, j, x, h, hj => by
    simp at h
    have ih := flatP_at l i j x h hj
    simp only [flatP, List.flatMap_cons] at ih ⊢
    have hs : ((pv y).toList).length = 3 := rfl
    rw [List.getElem?_append_right (by rw [hs]; omega), hs, show (i + 1) * 3 + j - 3 = i * 3 + j by omega]
    exact ih

/-- The bodies can be read. -/
def Bods (w : World) (l : List Pm) : Prop := ∀ p ∈ l, Bs w p.ao p.bs.length p.cap p.bs
/-- The blocks of a list of packets. -/
def pf (to : Option Addr) (l : List Pm) (k : Nat) : Prop := ob to k ∨ ∃ p ∈ l, ob p.ao k
/-- The slice 'ao, n, c' holds the packets l. -/
structure Pks (w : World) (ao : Option Addr) (n c : Nat) (l : List Pm) : Prop where
  len : l.length = n
  le : n ≤ c
  max : c ≤ 9223372036854775807
  nil : ao = none → c = 0
  fit : ∀ p ∈ l, Pok p
  bod : Bods w l
  at' : n = 0 ∨ ∃ b off, ao = some ⟨b, off, none⟩ ∧ ∀ i p, l[i]? = some p → w.cell? ⟨b, off + i * 3, none⟩ = some (.int .u8 p.sq) ∧ w.cell? ⟨b, off + i * 3 + 1, none⟩ = some (.int .u8 p.nx) ∧ w.cell? ⟨b, off + i * 3 + 2, none⟩ = some (.slice p.ao p.bs.length p.cap)
theorem Pks.nought (w : World) : Pks w .none 0 0 [] := ⟨rfl, Nat.le_refl _, by omega, fun _ => rfl, by simp, (fun p hp => by cases hp), .inl rfl⟩
theorem Pks.keepB {w w' : World} {ao : Option Addr} {n c : Nat} {l : List Pm} (h : Pks w ao n c l) (hk : ∀ k, pf ao l k → k < w.heap.size → w'.heap[k]? = w.heap[k]?) : Pks w' ao n c l := by
  refine ⟨h.len, h.le, h.max, h.nil, h.fit, fun p hp => (h.bod p hp).keepB fun k ho hl => hk k (.inr ⟨p, hp, ho⟩) hl, ?_⟩
  rcases h.at' with h0 | ⟨b, off, e, hc⟩
  · exact .inl h0
  · refine .inr ⟨b, off, e, fun i p hi => ?_⟩
    obtain ⟨c0, c1, c2⟩ := hc i p hi
    have hb := hk b (.inl ⟨_, e, rfl⟩) (World.block_lt_of_cell? w _ c0)
    rw [World.cell?_of_block (w := w) (a := ⟨b, off + i * 3, none⟩) hb, World.cell?_of_block (w := w) (a := ⟨b, off + i * 3 + 1, none⟩) hb, World.cell?_of_block (w := w) (a := ⟨b, off + i * 3 + 2, none⟩) hb]
    exact ⟨c0, c1, c2⟩
theorem Pks.fs {S S' : Nat → Prop} {w w' : World} {ao : Option Addr} {n c : Nat} {l : List Pm} (h : Pks w ao n c l) (f : Fs S w S' w') (hd : ∀ k, pf ao l k → ¬ S k) : Pks w' ao n c l :=
  h.keepB fun k hk hl => f.block k hl (hd k hk)
theorem Pks.later {w w' : World} {ao : Option Addr} {n c : Nat} {l : List Pm} (h : Pks w ao n c l) (hb : Below w.heap.size w w') : Pks w' ao n c l :=
  h.keepB fun k hk hl => hb.block k hl
theorem Tryz.elemPks : Tryz.prog.underlying 53 = some (.slice (Tryz.prog.elem 53)) := by kernel_rfl
/-- 'l[i]' for the walk: its address, and what lies there. -/
theorem Pks.idx {w : World} {ao : Option Addr} {n c : Nat} {l : List Pm} (h : Pks w ao n c l) {i : Nat} {p : Pm} (hi : l[i]? = some p) (I : Int) (hI : I = i) :
    ∃ b o, (∀ wx, (Instr.indexAt 53 (.slice ao n c) (.int .i64 I)).run Tryz.prog wx = .ok (.pointer (some ⟨b, o, none⟩)) wx) ∧ w.cell? ⟨b, o, none⟩ = some (.int .u8 p.sq) ∧ w.cell? ⟨b, o + 1, none⟩ = some (.int .u8 p.nx) ∧ w.cell? ⟨b, o + 2, none⟩ = some (.slice p.ao p.bs.length p.cap) := by
  subst hI
  have hl : i < n := by rw [← h.len]; exact (List.getElem?_eq_some_iff.1 hi).1
  rcases h.at' with h0 | ⟨b, off, rfl, hc⟩
  · omega
  · refine ⟨b, off + i * 3, fun wx => ?_, hc i p hi⟩
    have hs : ∀ w : World, (sizeOf (Tryz.prog.elem 53)).run Tryz.prog w = .ok 3 w := by intro w; kernel_rfl
    rw [run_indexAt_slice wx 53 _ n c .i64 (i : Int) Tryz.elemPks]
    simp [hs, hl, Addr.add_lit, Result.andThen]

/-- The packets l in a row of the call's own. -/
structure KMine (w : World) (ao : Option Addr) (n c : Nat) (l : List Pm) : Prop where
  len : l.length = n
  own : w.ownsRow 0 58 3 (.slice ao n c) n (flatP l)
  fit : ∀ p ∈ l, Pok p
theorem KMine.nought (w : World) : KMine w .none 0 0 [] := ⟨rfl, World.ownsRow_nil _ _ _ _, by simp⟩
theorem KMine.ob {w : World} {ao : Option Addr} {n c : Nat} {l : List Pm} (h : KMine w ao n c l) {k : Nat} (hk : ob ao k) : k < w.heap.size := by
  obtain ⟨a, rfl, rfl⟩ := hk
  rcases h.own.2 with ⟨hv, _⟩ | ⟨g, cap, cur, hv, hg, hh, _⟩
  · simp at hv
  · simp only [Value.slice.injEq, Option.some.injEq] at hv
    obtain ⟨rfl, _⟩ := hv
    exact (Array.getElem?_eq_some_iff.1 hh).1
theorem KMine.keep {w w' : World} {ao : Option Addr} {n c : Nat} {l : List Pm} (h : KMine w ao n c l) (hk : ∀ k, Proofs.YtbolaljlhmakeaaGreatDoor.ob ao k → w'.heap[k]? = w.heap[k]?) : KMine w' ao n c l := by
  refine ⟨h.len, ⟨h.own.1, ?_⟩, h.fit⟩
  rcases h.own.2 with hv | ⟨g, cap, cur, hv, hg, hh, r⟩
  · exact .inl hv
  · simp only [Value.slice.injEq] at hv
    obtain ⟨rfl, _, rfl⟩ := hv
    exact .inr ⟨g, _, cur, rfl, hg, by rw [hk g ⟨_, rfl, rfl⟩]; exact hh, r⟩
theorem KMine.fs {S S' : Nat → Prop} {w w' : World} {ao : Option Addr} {n c : Nat} {l : List Pm} (h : KMine w ao n c l) (f : Fs S w S' w') (hd : ∀ k, Proofs.YtbolaljlhmakeaaGreatDoor.ob ao k → ¬ S k) : KMine w' ao n c l :=
  h.keep fun k hk => f.block k (h.ob hk) (hd k hk)
theorem Bods.fs {S S' : Nat → Prop} {w w' : World} {l : List Pm} (h : Bods w l) (f : Fs S w S' w') (hd : ∀ p ∈ l, ∀ k, ob p.ao k → ¬ S k) : Bods w' l :=
  fun p hp => (h p hp).fs f (hd p hp)
theorem KMine.pks {w : World} {ao : Option Addr} {n c : Nat} {l : List Pm} (h : KMine w ao n c l) (hb : Bods w l) : Pks w ao n c l := by
  have hl := h.len
  rcases h.own.2 with ⟨hv, h0⟩ | ⟨g, cap, cur, hv, hg, hh, hle, hmax, hsz, htake⟩
  · simp only [Value.slice.injEq] at hv
    obtain ⟨rfl, rfl, rfl⟩ := hv
    exact ⟨h.len, Nat.le_refl _, by omega, fun _ => rfl, h.fit, hb, .inl rfl⟩
  · simp only [Value.slice.injEq] at hv
    obtain ⟨rfl, _, rfl⟩ := hv
    refine ⟨h.len, hle, by unfold maxLen at hmax; omega, (fun hq => by cases hq), h.fit, hb, .inr ⟨g, 0, rfl, fun i p hi => ?_⟩⟩
    have key : ∀ j, j < 3 → w.cell? ⟨g, 0 + i * 3 + j, none⟩ = (pv p)[j]? := by
      intro j hj
      have h1 := flatP_at l i j p hi hj
      have h2 : (pv p)[j]? = some ((pv p)[j]'(by simpa [pv] using hj)) := Array.getElem?_eq_getElem _
      rw [h2] at h1 ⊢
      have := h.own.cells (g := g) rfl (i * 3 + j) _ h1
      rw [Addr.add_lit] at this
      rw [← this, Nat.add_assoc]
    exact ⟨key 0 (by omega), key 1 (by omega), key 2 (by omega)⟩

theorem Tryz.infoPk : (Tryz.prog.info? 58).map (fun i => (i.zero, i.size, i.bytes)) = some (some (.agg (pv pz)), 3, 32) := by kernel_rfl
theorem pv_ones (y : Pm) : ∀ u ∈ (pv y).toList, u.oneCell' = true := by
  intro u hu
  simp [pv] at hu
  rcases hu with rfl | rfl | rfl <;> rfl
theorem Px.news {w : World} {q : Nat} {y : Pm} (hb : Px w q y) : ∀ j u, (pv y).toList[j]? = some u → w.cell? ((⟨q, 0, none⟩ : Addr).add j) = some u := by
  intro j u hu
  rw [Addr.add_lit, cell_of_row w q _ _ _ _ hb]
  simpa using hu
theorem kapp_src {ao ao1 : Option Addr} {w : World} {n m c c1 : Nat} (hsrc : (Value.slice ao1 n c1).ownBlock = (Value.slice ao m c).ownBlock ∨ (Value.slice ao1 n c1).ownBlock = some w.heap.size) : ∀ k, ob ao1 k → ob ao k ∨ w.heap.size ≤ k := by
  intro k hk
  obtain ⟨z, rfl, rfl⟩ := hk
  rcases hsrc with hq | hq
  · left
    cases ao with
    | none => simp [Value.ownBlock] at hq
    | some z => exact ⟨z, rfl, by simpa [Value.ownBlock] using hq.symm⟩
  · right
    simp [Value.ownBlock] at hq
    omega
/-- 'append(l, p)', l of the call's own. -/
theorem wpList_kapp {ops : Array Oper} {rest : List Oper} {o : Oper} {a : Act} {w : World} {Q : Exit → Act → World → Prop} (hgd : o.guard = none) (s x : Operand)
    (ho : o.op = .call { callee := .builtin .append, args := #[s, x], argTypes := #[53, 53] })
    (ao : Option Addr) (n c : Nat) (l : List Pm) (hs : a.eval s = .slice ao n c) (hm : KMine w ao n c l)
    (q : Nat) (y : Pm) (hy : Pok y) (hx : a.eval x = .slice (some ⟨q, 0, none⟩) 1 1) (hb : Px w q y) (hbound : n ≤ 2000000000)
    (h : ∀ ao1 c1 w1, KMine w1 ao1 (n + 1) c1 (l ++ [y]) → Fs (ob ao) w (ob ao1) w1 → wpList Tryz.prog ops Q rest (a.put o.dst (.slice ao1 (n + 1) c1)) w1) :
    wpList Tryz.prog ops Q (o :: rest) a w := by
  obtain ⟨i0, hi, hz0, hz1, hz2⟩ := info_parts Tryz.infoPk
  have hlen := hm.len
  refine wpList_append_own_at w hgd s x 53 ho 0 58 i0 (.agg (pv pz)) 3 32 Tryz.underlying53 hi hz0 hz1 hz2 rfl (by decide) _ _ _ hs hm.own ⟨q, 0, none⟩ 1 1 (pv y).toList hx rfl hb.news (pv_ones y) (by unfold maxLen; omega) (by omega) (Nat.zero_le _) ?_
  intro v' w' hown hgrow _ hsrc
  rw [← flatP_app] at hown
  have hex : ∃ ao1 c1, v' = .slice ao1 (n + 1) c1 := by
    rcases hown.2 with ⟨hv, h0⟩ | ⟨g, cap, cur, hv, _⟩
    · omega
    · exact ⟨_, _, hv⟩
  obtain ⟨ao1, c1, hv⟩ := hex
  subst hv
  refine h ao1 c1 w' ⟨by simp [hlen], hown, fun p hp => ?_⟩ ⟨hgrow.os, hgrow.tape, hgrow.output, hgrow.size, fun k hk hn => grown_at hgrow hk hn, kapp_src hsrc⟩
  rcases List.mem_append.1 hp with hp | hp
  · exact hm.fit p hp
  · simp at hp; subst hp; exact hy
/-- The same at a step of a region that draws its order. -/
theorem step_kapp {ops : Array Oper} {o : Oper} {a : Act} {w : World} {K : Act → World → Prop} {Q : Exit → Act → World → Prop} {G : Prop} (hgd : o.guard = none) (s x : Operand)
    (ho : o.op = .call { callee := .builtin .append, args := #[s, x], argTypes := #[53, 53] })
    (ao : Option Addr) (n c : Nat) (l : List Pm) (hs : a.eval s = .slice ao n c) (hm : KMine w ao n c l)
    (q : Nat) (y : Pm) (hy : Pok y) (hx : a.eval x = .slice (some ⟨q, 0, none⟩) 1 1) (hb : Px w q y) (hbound : n ≤ 2000000000)
    (h : ∀ ao1 c1 w1, KMine w1 ao1 (n + 1) c1 (l ++ [y]) → Fs (ob ao) w (ob ao1) w1 → K (a.put o.dst (.slice ao1 (n + 1) c1)) w1) :
    if Region.wanted o (yielded ops a.tmps) = true then Oper.wp Tryz.prog o a w K Q else G := by
  have hw : Region.wanted o (yielded ops a.tmps) = true := by simp [Region.wanted, hgd]
  rw [if_pos hw]
  obtain ⟨i0, hi, hz0, hz1, hz2⟩ := info_parts Tryz.infoPk
  have hlen := hm.len
  obtain ⟨v', w', hr, hown, hgrow, _, hsrc⟩ := run_append_own_at (P := Tryz.prog) w 0 53 o.type 58 i0 (.agg (pv pz)) 3 32 Tryz.underlying53 hi hz0 hz1 hz2 rfl (by decide) _ _ _ hm.own ⟨q, 0, none⟩ 1 1 (pv y).toList rfl hb.news (pv_ones y) (by unfold maxLen; omega) (by omega) (Nat.zero_le _)
  rw [← flatP_app] at hown
  have hex : ∃ ao1 c1, v' = .slice ao1 (n + 1) c1 := by
    rcases hown.2 with ⟨hv, h0⟩ | ⟨g, cap, cur, hv, _⟩
    · omega
    · exact ⟨_, _, hv⟩
  obtain ⟨ao1, c1, hv⟩ := hex
  subst hv
  unfold Oper.wp execOp
  simp only [ho, resolve, invoke, builtin, Sem.run_bind, Sem.run_pure, Result.andThen_ok, List.map_toArray, List.map_cons, List.map_nil, hs, hx, hr]
  refine h ao1 c1 w' ⟨by simp [hlen], hown, fun p hp => ?_⟩ ⟨hgrow.os, hgrow.tape, hgrow.output, hgrow.size, fun k hk hn => grown_at hgrow hk hn, kapp_src hsrc⟩
  rcases List.mem_append.1 hp with hp | hp
  · exact hm.fit p hp
  · simp at hp; subst hp; exact hy

end Go.Proofs.YtbolaljlhmakeaaGreatDoor.Pkt
