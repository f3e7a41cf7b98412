/-
  What two sides do together, as numbers and their bits; what is called how, and back. No program and no memory is named here.
-/
import Derived.Test.YtnoabdafmgmenaaDoorByt
namespace Go.Proofs.YtnoabdafmgmenaaDoor
open Go
set_option linter.unusedVariables false
set_option linter.unusedSimpArgs false

/-- c without these, where none of on is there. -/
def wo (c on these : Nat) : Nat := if c &&& on = 0 then c &&& (4294967295 - these) else c
def bth (a b : Nat) : Nat := wo (wo (wo (a &&& b) 512 29294760) 524288 3145728) 131072 65536

theorem tb_big {c i : Nat} (hc : c < 4294967296) (hi : 32 ≤ i) : c.testBit i = false :=
  Nat.testBit_lt_two_pow (Nat.lt_of_lt_of_le (show c < 2 ^ 32 by omega) (Nat.pow_le_pow_right (by omega) hi))
theorem tb_not (x i : Nat) (hx : x < 4294967296) : (4294967295 - x).testBit i = (decide (i < 32) && !x.testBit i) := by
  have := Nat.testBit_two_pow_sub_succ (n := 32) (x := x) (by omega) i
  rw [← this]
  congr 1
  omega
theorem tb_andNot (c x i : Nat) (hc : c < 4294967296) (hx : x < 4294967296) : (c &&& (4294967295 - x)).testBit i = (c.testBit i && !x.testBit i) := by
  rw [Nat.testBit_and, tb_not x i hx]
  rcases Nat.lt_or_ge i 32 with h | h
  · simp [h]
  · simp [tb_big hc h]
theorem and_pow_zero (c k : Nat) : (c &&& 2 ^ k = 0) ↔ c.testBit k = false := by
  constructor
  · intro h
    have := congrArg (fun x => x.testBit k) h
    simpa [Nat.testBit_and, Nat.testBit_two_pow] using this
  · intro h
    apply Nat.eq_of_testBit_eq
    intro i
    rw [Nat.testBit_and, Nat.testBit_two_pow, Nat.zero_testBit]
    by_cases e : k = i
    · subst e; simp [h]
    · simp [e]
theorem wo_bit (c k these i : Nat) (hc : c < 4294967296) (ht : these < 4294967296) : (wo c (2 ^ k) these).testBit i = (c.testBit i && (!these.testBit i || c.testBit k)) := by
  unfold wo
  split
  · rename_i h
    rw [and_pow_zero] at h
    rw [tb_andNot c these i hc ht, h]
    simp
  · rename_i h
    rw [and_pow_zero] at h
    have : c.testBit k = true := by simpa using h
    simp [this]
theorem wo_lt (c on these : Nat) (hc : c < 4294967296) : wo c on these < 4294967296 := by
  unfold wo
  split
  · exact Nat.lt_of_le_of_lt Nat.and_le_left hc
  · exact hc
theorem bth_lt (a b : Nat) (ha : a < 4294967296) : bth a b < 4294967296 := wo_lt _ _ _ (wo_lt _ _ _ (wo_lt _ _ _ (Nat.lt_of_le_of_lt Nat.and_le_left ha)))

theorem bth_bit (a b i : Nat) (ha : a < 4294967296) : (bth a b).testBit i = ((a.testBit i && b.testBit i) && (!(29294760 : Nat).testBit i || (a.testBit 9 && b.testBit 9)) && (!(3145728 : Nat).testBit i || ((a.testBit 19 && b.testBit 19) && (a.testBit 9 && b.testBit 9))) && (!(65536 : Nat).testBit i || ((a.testBit 17 && b.testBit 17) && (a.testBit 9 && b.testBit 9)))) := by
  have h0 : a &&& b < 4294967296 := Nat.lt_of_le_of_lt Nat.and_le_left ha
  have h1 := wo_lt (a &&& b) 512 29294760 h0
  have h2 := wo_lt _ 524288 3145728 h1
  have e1 : ∀ j, (wo (a &&& b) 512 29294760).testBit j = _ := fun j => wo_bit (a &&& b) 9 29294760 j h0 (by omega)
  have e2 : ∀ j, (wo (wo (a &&& b) 512 29294760) 524288 3145728).testBit j = _ := fun j => wo_bit _ 19 3145728 j h1 (by omega)
  have e3 : ∀ j, (bth a b).testBit j = _ := fun j => wo_bit _ 17 65536 j h2 (by omega)
  rw [e3, e2, e2, e1, e1, e1]
  have d1 : (29294760 : Nat).testBit 9 = false := by decide
  have d2 : (29294760 : Nat).testBit 19 = true := by decide
  have d3 : (29294760 : Nat).testBit 17 = true := by decide
  have d4 : (3145728 : Nat).testBit 17 = false := by decide
  simp only [d1, d2, d3, d4, Nat.testBit_and]
  generalize (29294760 : Nat).testBit i = t1
  generalize (3145728 : Nat).testBit i = t2
  generalize (65536 : Nat).testBit i = t3
  generalize a.testBit i = ai
  generalize b.testBit i = bi
  generalize a.testBit 9 = a9
  generalize b.testBit 9 = b9
  generalize a.testBit 19 = a19
  generalize b.testBit 19 = b19
  generalize a.testBit 17 = a17
  generalize b.testBit 17 = b17
  cases ai <;> cases bi <;> cases t1 <;> cases t2 <;> cases t3 <;> cases a9 <;> cases b9 <;> simp

/-- Nothing of x lies outside y. -/
theorem none_out (x y : Nat) (hx : x < 4294967296) (hy : y < 4294967296) (h : ∀ i, x.testBit i = true → y.testBit i = true) : x &&& (4294967295 - y) = 0 := by
  apply Nat.eq_of_testBit_eq
  intro i
  rw [tb_andNot x y i hx hy, Nat.zero_testBit]
  have := h i
  cases hh : x.testBit i
  · simp
  · simp [this hh]
theorem bth_left (a b : Nat) (ha : a < 4294967296) : bth a b &&& (4294967295 - a) = 0 := by
  refine none_out _ _ (bth_lt a b ha) ha fun i h => ?_
  rw [bth_bit a b i ha] at h
  simp at h
  exact h.1.1.1.1
theorem bth_right (a b : Nat) (ha : a < 4294967296) (hb : b < 4294967296) : bth a b &&& (4294967295 - b) = 0 := by
  refine none_out _ _ (bth_lt a b ha) hb fun i h => ?_
  rw [bth_bit a b i ha] at h
  simp at h
  exact h.1.1.1.2
theorem bth_comm (a b : Nat) : bth a b = bth b a := by
  unfold bth
  rw [Nat.and_comm]
theorem bth_self (a b : Nat) (ha : a < 4294967296) : bth (bth a b) (bth a b) = bth a b := by
  have hl := bth_lt a b ha
  apply Nat.eq_of_testBit_eq
  intro i
  rw [bth_bit _ _ i hl]
  have d1 : (29294760 : Nat).testBit 9 = false := by decide
  have d2 : (3145728 : Nat).testBit 9 = false := by decide
  have d3 : (65536 : Nat).testBit 9 = false := by decide
  have d4 : (29294760 : Nat).testBit 19 = true := by decide
  have d5 : (3145728 : Nat).testBit 19 = false := by decide
  have d6 : (65536 : Nat).testBit 19 = false := by decide
  have d7 : (29294760 : Nat).testBit 17 = true := by decide
  have d8 : (3145728 : Nat).testBit 17 = false := by decide
  have d9 : (65536 : Nat).testBit 17 = false := by decide
  rw [bth_bit a b i ha, bth_bit a b 9 ha, bth_bit a b 19 ha, bth_bit a b 17 ha]
  simp only [d1, d2, d3, d4, d5, d6, d7, d8, d9]
  generalize (29294760 : Nat).testBit i = t1
  generalize (3145728 : Nat).testBit i = t2
  generalize (65536 : Nat).testBit i = t3
  generalize (a.testBit i && b.testBit i) = xi
  generalize (a.testBit 9 && b.testBit 9) = x9
  generalize (a.testBit 19 && b.testBit 19) = x19
  generalize (a.testBit 17 && b.testBit 17) = x17
  cases xi <;> cases t1 <;> cases t2 <;> cases t3 <;> cases x9 <;> cases x19 <;> cases x17 <;> rfl
theorem bth_less (a b l : Nat) (ha : a < 4294967296) : bth (a &&& l) b &&& (4294967295 - bth a b) = 0 := by
  have hal : a &&& l < 4294967296 := Nat.lt_of_le_of_lt Nat.and_le_left ha
  refine none_out _ _ (bth_lt _ b hal) (bth_lt a b ha) fun i h => ?_
  rw [bth_bit _ b i hal] at h
  rw [bth_bit a b i ha]
  simp only [Nat.testBit_and] at h
  revert h
  generalize (29294760 : Nat).testBit i = t1
  generalize (3145728 : Nat).testBit i = t2
  generalize (65536 : Nat).testBit i = t3
  generalize a.testBit i = ai
  generalize b.testBit i = bi
  generalize l.testBit i = li
  generalize a.testBit 9 = a9
  generalize b.testBit 9 = b9
  generalize l.testBit 9 = l9
  generalize a.testBit 19 = a19
  generalize b.testBit 19 = b19
  generalize l.testBit 19 = l19
  generalize a.testBit 17 = a17
  generalize b.testBit 17 = b17
  generalize l.testBit 17 = l17
  intro h
  simp only [Bool.and_eq_true, Bool.or_eq_true] at h ⊢
  exact ⟨⟨⟨⟨h.1.1.1.1.1, h.1.1.1.2⟩, h.1.1.2.imp id fun q => ⟨q.1.1, q.2⟩⟩, h.1.2.imp id fun q => ⟨⟨q.1.1.1, q.1.2⟩, q.2.1.1, q.2.2⟩⟩, h.2.imp id fun q => ⟨⟨q.1.1.1, q.1.2⟩, q.2.1.1, q.2.2⟩⟩

/-- Is all there that is needed: two ways to ask. -/
theorem need_two (n c : Nat) (hn : n < 4294967296) (hc : c < 4294967296) : (n &&& (4294967295 - c) = 0) ↔ (c &&& n = n) := by
  constructor
  · intro h
    apply Nat.eq_of_testBit_eq
    intro i
    have := congrArg (fun x => x.testBit i) h
    simp only [tb_andNot n c i hn hc, Nat.zero_testBit] at this
    rw [Nat.testBit_and]
    revert this
    cases n.testBit i <;> cases c.testBit i <;> simp
  · intro h
    refine none_out n c hn hc fun i hi => ?_
    have := congrArg (fun x => x.testBit i) h
    simp only [Nat.testBit_and, hi, Bool.and_true] at this
    exact this

/-- The names of the bits below k that are there, rising. -/
def nms (nm : Nat → ByteArray) (c k : Nat) : List ByteArray := ((List.range k).filter fun i => c.testBit i).map nm
theorem nms_zero (nm : Nat → ByteArray) (c : Nat) : nms nm c 0 = [] := rfl
theorem nms_yes (nm : Nat → ByteArray) (c k : Nat) (h : c.testBit k = true) : nms nm c (k + 1) = nms nm c k ++ [nm k] := by
  simp [nms, List.range_succ, h]
theorem nms_no (nm : Nat → ByteArray) (c k : Nat) (h : c.testBit k = false) : nms nm c (k + 1) = nms nm c k := by
  simp [nms, List.range_succ, h]
theorem nms_len (nm : Nat → ByteArray) (c k : Nat) : (nms nm c k).length ≤ k := by
  have := List.length_filter_le (fun i => c.testBit i) (List.range k)
  simpa [nms] using this
theorem nms_same {nm nm' : Nat → ByteArray} (c k : Nat) (h : ∀ i, i < k → nm i = nm' i) : nms nm c k = nms nm' c k := by
  unfold nms
  apply List.map_congr_left
  intro i hi
  exact h i (by simpa using (List.mem_filter.1 hi).1)

/-- The bit that is called so. -/
def pos (nm : Nat → ByteArray) (s : ByteArray) : Option Nat := (List.range 32).find? fun k => decide (nm k = s)
theorem pos_yes {nm : Nat → ByteArray} {s : ByteArray} {k : Nat} (hinj : ∀ i j, i < 32 → j < 32 → nm i = nm j → i = j) (hk : k < 32) (h : nm k = s) : pos nm s = some k := by
  unfold pos
  cases hf : (List.range 32).find? fun k => decide (nm k = s) with
  | none =>
    rw [List.find?_eq_none] at hf
    have := hf k (by simpa using hk)
    simp [h] at this
  | some j =>
    have h1 := List.find?_some hf
    have h2 := List.mem_of_find?_eq_some hf
    simp at h1 h2
    rw [hinj j k h2 hk (by rw [h1, h])]
theorem pos_no {nm : Nat → ByteArray} {s : ByteArray} (h : ∀ k, k < 32 → nm k ≠ s) : pos nm s = none := by
  unfold pos
  rw [List.find?_eq_none]
  intro k hk
  have := h k (by simpa using hk)
  simpa using this
theorem pos_lt {nm : Nat → ByteArray} {s : ByteArray} {k : Nat} (h : pos nm s = some k) : k < 32 ∧ nm k = s := by
  have h1 := List.find?_some h
  have h2 := List.mem_of_find?_eq_some h
  simp at h1 h2
  exact ⟨h2, h1⟩

/-- What Of answers of the names from place i on, with c so far: the capabilities, the error, its place. -/
def ofA (nm : Nat → ByteArray) : List ByteArray → Nat → Nat → Nat × Nat × Nat
  | [], _, c => (c, 0, 0)
  | s :: r, i, c => match pos nm s with
    | none => (0, 2, i)
    | some k => ofA nm r (i + 1) (c ||| 2 ^ k)
theorem ofA_nil (nm : Nat → ByteArray) (i c : Nat) : ofA nm [] i c = (c, 0, 0) := rfl
theorem ofA_no {nm : Nat → ByteArray} {s : ByteArray} (r : List ByteArray) (i c : Nat) (h : pos nm s = none) : ofA nm (s :: r) i c = (0, 2, i) := by simp [ofA, h]
theorem ofA_yes {nm : Nat → ByteArray} {s : ByteArray} (r : List ByteArray) (i c k : Nat) (h : pos nm s = some k) : ofA nm (s :: r) i c = ofA nm r (i + 1) (c ||| 2 ^ k) := by simp [ofA, h]

/-- The bits of a list of places. -/
def ors : List Nat → Nat → Nat
  | [], c => c
  | k :: r, c => ors r (c ||| 2 ^ k)
theorem ors_bit : ∀ (l : List Nat) (c i : Nat), (ors l c).testBit i = (c.testBit i || decide (i ∈ l))
  | [], c, i => by simp [ors]
  | k :: r, c, i => by
    rw [ors, ors_bit r (c ||| 2 ^ k) i, Nat.testBit_or, Nat.testBit_two_pow]
    by_cases h : k = i
    · subst h; simp
    · have : ¬ i = k := fun e => h e.symm
      simp [h, this]
theorem ofA_map {nm : Nat → ByteArray} (hinj : ∀ i j, i < 32 → j < 32 → nm i = nm j → i = j) : ∀ (l : List Nat) (i c : Nat), (∀ k ∈ l, k < 32) → ofA nm (l.map nm) i c = (ors l c, 0, 0)
  | [], i, c, _ => rfl
  | k :: r, i, c, h => by
    rw [List.map_cons, ofA_yes _ _ _ k (pos_yes hinj (h k (by simp)) rfl), ors]
    exact ofA_map hinj r (i + 1) _ fun x hx => h x (by simp [hx])
theorem ofA_nms {nm : Nat → ByteArray} (hinj : ∀ i j, i < 32 → j < 32 → nm i = nm j → i = j) (c : Nat) (hc : c < 4294967296) : ofA nm (nms nm c 32) 0 0 = (c, 0, 0) := by
  unfold nms
  rw [ofA_map hinj _ _ _ (fun k hk => by simpa using (List.mem_filter.1 hk).1)]
  congr 1
  apply Nat.eq_of_testBit_eq
  intro i
  rw [ors_bit]
  rcases Nat.lt_or_ge i 32 with h | h
  · simp [h, List.mem_filter]
  · simp [tb_big hc h, List.mem_filter]
theorem nms_inj {nm : Nat → ByteArray} (hinj : ∀ i j, i < 32 → j < 32 → nm i = nm j → i = j) (a b : Nat) (ha : a < 4294967296) (hb : b < 4294967296) : (nms nm a 32 = nms nm b 32) ↔ a = b := by
  constructor
  · intro h
    have h1 := ofA_nms hinj a ha
    rw [h, ofA_nms hinj b hb] at h1
    exact (congrArg Prod.fst h1).symm
  · rintro rfl
    rfl

end Go.Proofs.YtnoabdafmgmenaaDoor
