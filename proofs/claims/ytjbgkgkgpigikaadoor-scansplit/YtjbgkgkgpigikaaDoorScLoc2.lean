/-
  Statements cut into words, plain: what a text between quotes, a remark, any word is, in bytes that a byte behind ends, and in these bytes alone. No program and no memory is named here.
-/
import Derived.Test.YtjbgkgkgpigikaaDoorScLoc
namespace Go.Proofs.YtjbgkgkgpigikaaDoor
set_option linter.unusedVariables false
set_option linter.unusedSimpArgs false

theorem qt_loc (es : Bool) (q c : UInt8) (r : Bl) (hq : q ≠ 92) (hc : c ≠ q) : ∀ (t sa : Bl) (i : Nat) (x : Bl × Nat), qt es q t sa i = some x → qt es q (t ++ c :: r) sa i = some x
  | [], sa, i, x, h => by simp [qt] at h
  | [a], sa, i, x, h => by
    simp only [qt] at h
    by_cases ha : a = q
    · subst ha
      rw [if_pos rfl] at h
      simp only [List.cons_append, List.nil_append, qt]
      rw [if_neg (fun e => hq e.1)]
      simp only [if_true]
      rw [if_neg hc]
      exact h
    · rw [if_neg ha] at h
      cases h
  | a :: d :: u, sa, i, x, h => by
    simp only [qt] at h
    simp only [List.cons_append, qt]
    by_cases h1 : a = 92 ∧ es = true
    · rw [if_pos h1] at h ⊢
      exact qt_loc es q c r hq hc u _ _ x h
    · rw [if_neg h1] at h ⊢
      by_cases h2 : a = q
      · rw [if_pos h2] at h ⊢
        by_cases h3 : d = q
        · rw [if_pos h3] at h ⊢
          exact qt_loc es q c r hq hc u _ _ x h
        · rw [if_neg h3] at h ⊢
          exact h
      · rw [if_neg h2] at h ⊢
        exact qt_loc es q c r hq hc (d :: u) _ _ x h
theorem qt_cut (es : Bool) (q c : UInt8) (r : Bl) (hq : q ≠ 92) (hc : c ≠ q) : ∀ (t sa : Bl) (i : Nat) (x : Bl × Nat), qt es q (t ++ c :: r) sa i = some x → x.2 ≤ i + t.length → qt es q t sa i = some x
  | [], sa, i, x, h, hx => by
    have := (qt_le es q _ _ _ _ h).2.1
    simp at hx
    omega
  | [a], sa, i, x, h, hx => by
    simp only [List.cons_append, List.nil_append, qt] at h
    simp only [List.length_cons, List.length_nil] at hx
    by_cases h1 : a = 92 ∧ es = true
    · rw [if_pos h1] at h
      have := (qt_le es q _ _ _ _ h).2.1
      omega
    · rw [if_neg h1] at h
      by_cases h2 : a = q
      · rw [if_pos h2, if_neg hc] at h
        simp only [qt]
        rw [if_pos h2]
        exact h
      · rw [if_neg h2] at h
        have := (qt_le es q _ _ _ _ h).2.1
        omega
  | a :: d :: u, sa, i, x, h, hx => by
    simp only [List.cons_append, qt] at h
    simp only [List.length_cons] at hx
    simp only [qt]
    by_cases h1 : a = 92 ∧ es = true
    · rw [if_pos h1] at h ⊢
      exact qt_cut es q c r hq hc u _ _ x h (by omega)
    · rw [if_neg h1] at h ⊢
      by_cases h2 : a = q
      · rw [if_pos h2] at h ⊢
        by_cases h3 : d = q
        · rw [if_pos h3] at h ⊢
          exact qt_cut es q c r hq hc u _ _ x h (by omega)
        · rw [if_neg h3] at h ⊢
          exact h
      · rw [if_neg h2] at h ⊢
        exact qt_cut es q c r hq hc (d :: u) _ _ x h (by simp only [List.length_cons]; omega)

theorem pre_app (s t u : Bl) (h : s.length ≤ t.length) : s.isPrefixOf (t ++ u) = s.isPrefixOf t := by
  induction s generalizing t with
  | nil => simp
  | cons x s ih =>
    cases t with
    | nil => simp at h
    | cons a t =>
      simp only [List.cons_append, List.isPrefixOf]
      rw [ih t (by simpa using h)]
theorem index_loc (s u : Bl) : ∀ t : Bl, s ≠ [] → 0 ≤ Lib.index t s → Lib.index (t ++ u) s = Lib.index t s
  | [], hs, h => by
    simp only [Lib.index] at h
    rw [if_neg (by simpa using hs)] at h
    omega
  | b :: l, hs, h => by
    have hr := Lib.index_room (b :: l) s h
    have h0 : s.length ≤ (b :: l).length := by omega
    have e := pre_app s (b :: l) u h0
    simp only [List.cons_append, Lib.index] at h e ⊢
    rw [e]
    by_cases hp : s.isPrefixOf (b :: l) = true
    · rw [if_pos hp, if_pos hp]
    · rw [if_neg hp] at h ⊢
      rw [if_neg hp]
      have hg := Lib.index_ge l s
      by_cases h1 : Lib.index l s = -1
      · rw [h1] at h
        simp at h
      · rw [index_loc s u l hs (by omega)]
theorem index_cut (s u : Bl) : ∀ t : Bl, s ≠ [] → 0 ≤ Lib.index (t ++ u) s → Lib.index (t ++ u) s + s.length ≤ t.length → Lib.index t s = Lib.index (t ++ u) s
  | [], hs, h, k => by
    have : 1 ≤ s.length := by
      cases s with
      | nil => exact absurd rfl hs
      | cons a s => simp
    simp only [List.length_nil] at k
    omega
  | b :: l, hs, h, k => by
    have h0 : s.length ≤ (b :: l).length := by omega
    have e := pre_app s (b :: l) u h0
    simp only [List.cons_append, Lib.index] at h k e ⊢
    rw [e] at h k ⊢
    by_cases hp : s.isPrefixOf (b :: l) = true
    · rw [if_pos hp, if_pos hp]
    · rw [if_neg hp] at h k ⊢
      rw [if_neg hp]
      have hg := Lib.index_ge (l ++ u) s
      by_cases h1 : Lib.index (l ++ u) s = -1
      · rw [h1] at h
        simp at h
      · rw [if_neg (by simpa using h1)] at h k
        rw [index_cut s u l hs (by omega) (by simp only [List.length_cons] at k; omega)]

theorem opO_loc (t : Bl) (c : UInt8) (r : Bl) (h1 : c ∉ ([47, 42, 33] : Bl)) (h2 : c ∉ ([47, 42, 43] : Bl)) : opO (t ++ c :: r) = opO t := by
  unfold opO
  rw [pre_loc _ _ _ _ h1, pre_loc _ _ _ _ h2]
theorem reF_loc (t : Bl) (c : UInt8) (r : Bl) (hl : 2 ≤ t.length) (h : (reF t).e = 0) : reF (t ++ c :: r) = reF t := by
  unfold reF at h ⊢
  by_cases h0 : Lib.index (t.drop 2) [42, 47] < 0
  · rw [if_pos h0] at h
    cases h
  · have e := index_loc [42, 47] (c :: r) (t.drop 2) (by simp) (by omega)
    rw [drop_loc _ _ _ _ hl, e]
theorem reF_cut (t : Bl) (c : UInt8) (r : Bl) (hl : 2 ≤ t.length) (h : (reF (t ++ c :: r)).e = 0) (hn : (reF (t ++ c :: r)).n ≤ t.length) : reF t = reF (t ++ c :: r) := by
  unfold reF at h hn ⊢
  rw [drop_loc _ _ _ _ hl] at h hn ⊢
  by_cases h0 : Lib.index (t.drop 2 ++ c :: r) [42, 47] < 0
  · rw [if_pos h0] at h
    cases h
  · rw [if_neg h0] at hn
    simp only at hn
    rw [index_cut [42, 47] (c :: r) (t.drop 2) (by simp) (by omega) (by simp only [List.length_drop, List.length_cons, List.length_nil]; omega)]
theorem odF_loc (t : Bl) (c : UInt8) (r : Bl) (h1 : c ∉ ([47, 42, 33] : Bl)) (h2 : c ∉ ([47, 42, 43] : Bl)) (h : (odF t).e = 0) : odF (t ++ c :: r) = odF t := by
  unfold odF at h ⊢
  rw [opO_loc t c r h1 h2]
  by_cases ho : opO t = true
  · have hl := opO_len ho
    rw [if_pos ho] at h ⊢
    rw [if_pos ho]
    by_cases he : (reF t).e = 0
    · rw [reF_loc t c r (by omega) he, take_loc _ _ _ _ (reF_n t (by omega))]
    · rw [if_pos he] at h
      exact absurd h he
  · rw [if_neg ho, if_neg ho]
theorem odF_cut (t : Bl) (c : UInt8) (r : Bl) (h1 : c ∉ ([47, 42, 33] : Bl)) (h2 : c ∉ ([47, 42, 43] : Bl)) (h : (odF (t ++ c :: r)).e = 0) (hn : (odF (t ++ c :: r)).n ≤ t.length) : odF t = odF (t ++ c :: r) := by
  unfold odF at h hn ⊢
  rw [opO_loc t c r h1 h2] at h hn ⊢
  by_cases ho : opO t = true
  · have hl := opO_len ho
    rw [if_pos ho] at h hn ⊢
    rw [if_pos ho]
    by_cases he : (reF (t ++ c :: r)).e = 0
    · rw [if_neg (by simpa using he)] at hn
      have hm := reF_n (t ++ c :: r) (by simp; omega)
      have hk : (reF (t ++ c :: r)).n ≤ t.length := by
        have : (its 9 ((t ++ c :: r).take (reF (t ++ c :: r)).n)).n = min (reF (t ++ c :: r)).n (t ++ c :: r).length := by
          show ((t ++ c :: r).take _).length = _
          rw [List.length_take]
        rw [this] at hn
        omega
      rw [reF_cut t c r (by omega) he hk, take_loc _ _ _ _ hk]
    · rw [if_pos he] at h
      exact absurd h he
  · rw [if_neg ho, if_neg ho]
theorem quF_loc (t : Bl) (k : Int) (es : Bool) (c : UInt8) (r : Bl) (q : UInt8) (u : Bl) (ht : t = q :: u) (hq : q ≠ 92) (hc : c ≠ q) (h : (quF t k es).e = 0) : quF (t ++ c :: r) k es = quF t k es := by
  subst ht
  simp only [quF, List.cons_append] at h ⊢
  cases hx : qt es q u [] 1 with
  | none => rw [hx] at h; cases h
  | some x => rw [qt_loc es q c r hq hc u [] 1 x hx]
theorem quF_cut (t : Bl) (k : Int) (es : Bool) (c : UInt8) (r : Bl) (q : UInt8) (u : Bl) (ht : t = q :: u) (hq : q ≠ 92) (hc : c ≠ q) (h : (quF (t ++ c :: r) k es).e = 0) (hn : (quF (t ++ c :: r) k es).n ≤ t.length) : quF t k es = quF (t ++ c :: r) k es := by
  subst ht
  simp only [quF, List.cons_append] at h hn ⊢
  cases hx : qt es q (u ++ c :: r) [] 1 with
  | none => rw [hx] at h; cases h
  | some x =>
    rw [hx] at hn
    simp only [List.length_cons] at hn
    rw [qt_cut es q c r hq hc u [] 1 x hx (by omega)]
theorem has1_96 {l : Bl} (h : has1 l [96] = true) : ∃ u, l = 96 :: u := by
  cases l with
  | nil => cases h
  | cons a u =>
    refine ⟨u, ?_⟩
    simp only [has1, Lib.indexByte, decide_eq_true_eq] at h
    by_cases e : (96 : UInt8) == a
    · rw [eq_of_beq e]
    · simp [e] at h
theorem has1_39 {l : Bl} (h : has1 l [39, 34] = true) : (∃ u, l = 39 :: u) ∨ (∃ u, l = 34 :: u) := by
  cases l with
  | nil => cases h
  | cons a u =>
    simp only [has1, Lib.indexByte, decide_eq_true_eq] at h
    by_cases e : (39 : UInt8) == a
    · exact .inl ⟨u, by rw [eq_of_beq e]⟩
    · by_cases e2 : (34 : UInt8) == a
      · exact .inr ⟨u, by rw [eq_of_beq e2]⟩
      · simp [e, e2] at h
theorem Sep.n96 {c : UInt8} (h : Sep c) : c ≠ 96 := by intro e; have := h.q1; subst e; revert this; decide
theorem Sep.n39 {c : UInt8} (h : Sep c) : c ≠ 39 := by intro e; have := h.q2; subst e; revert this; decide
theorem Sep.n34 {c : UInt8} (h : Sep c) : c ≠ 34 := by intro e; have := h.q2; subst e; revert this; decide
theorem qnF_loc (t : Bl) (c : UInt8) (r : Bl) (hc : Sep c) (h : (qnF t).e = 0) : qnF (t ++ c :: r) = qnF t := by
  unfold qnF at h ⊢
  rw [has1_loc _ _ _ _ hc.q1]
  by_cases hp : has1 t [96] = true
  · obtain ⟨u, hu⟩ := has1_96 hp
    rw [if_pos hp] at h ⊢
    rw [if_pos hp]
    exact quF_loc t 2 false c r 96 u hu (by decide) hc.n96 h
  · rw [if_neg hp, if_neg hp]
theorem qnF_cut (t : Bl) (c : UInt8) (r : Bl) (hc : Sep c) (h : (qnF (t ++ c :: r)).e = 0) (hn : (qnF (t ++ c :: r)).n ≤ t.length) : qnF t = qnF (t ++ c :: r) := by
  unfold qnF at h hn ⊢
  rw [has1_loc _ _ _ _ hc.q1] at h hn ⊢
  by_cases hp : has1 t [96] = true
  · obtain ⟨u, hu⟩ := has1_96 hp
    rw [if_pos hp] at h hn ⊢
    rw [if_pos hp]
    exact quF_cut t 2 false c r 96 u hu (by decide) hc.n96 h hn
  · rw [if_neg hp, if_neg hp]
theorem qtF_loc (t : Bl) (c : UInt8) (r : Bl) (hc : Sep c) (h : (qtF t).e = 0) : qtF (t ++ c :: r) = qtF t := by
  unfold qtF at h ⊢
  rw [has1_loc _ _ _ _ hc.q2]
  by_cases hp : has1 t [39, 34] = true
  · rw [if_pos hp] at h ⊢
    rw [if_pos hp]
    rcases has1_39 hp with ⟨u, hu⟩ | ⟨u, hu⟩
    · exact quF_loc t 3 true c r 39 u hu (by decide) hc.n39 h
    · exact quF_loc t 3 true c r 34 u hu (by decide) hc.n34 h
  · rw [if_neg hp, if_neg hp]
theorem qtF_cut (t : Bl) (c : UInt8) (r : Bl) (hc : Sep c) (h : (qtF (t ++ c :: r)).e = 0) (hn : (qtF (t ++ c :: r)).n ≤ t.length) : qtF t = qtF (t ++ c :: r) := by
  unfold qtF at h hn ⊢
  rw [has1_loc _ _ _ _ hc.q2] at h hn ⊢
  by_cases hp : has1 t [39, 34] = true
  · rw [if_pos hp] at h hn ⊢
    rw [if_pos hp]
    rcases has1_39 hp with ⟨u, hu⟩ | ⟨u, hu⟩
    · exact quF_cut t 3 true c r 39 u hu (by decide) hc.n39 h hn
    · exact quF_cut t 3 true c r 34 u hu (by decide) hc.n34 h hn
  · rw [if_neg hp, if_neg hp]

theorem lgF_all : ∀ (fs : List Fd) (b : Fd), (lgF b fs).e = 0 → ∀ f ∈ fs, f.e = 0
  | [], b, h, f, hf => by cases hf
  | g :: r, b, h, f, hf => by
    simp only [lgF] at h
    by_cases hg : g.e = 0
    · rw [if_neg (by simpa using hg)] at h
      rcases List.mem_cons.1 hf with rfl | hf
      · exact hg
      · exact lgF_all r _ h f hf
    · rw [if_pos hg] at h
      exact absurd h hg
theorem lgF_max : ∀ (fs : List Fd) (b : Fd), (lgF b fs).e = 0 → b.n ≤ (lgF b fs).n ∧ ∀ f ∈ fs, f.n ≤ (lgF b fs).n
  | [], b, h => ⟨Nat.le_refl _, fun f hf => by cases hf⟩
  | g :: r, b, h => by
    have hg := lgF_all (g :: r) b h g (by simp)
    simp only [lgF, hg] at h ⊢
    simp only [ne_eq, not_true_eq_false, if_false] at h ⊢
    obtain ⟨h1, h2⟩ := lgF_max r _ h
    have h3 : b.n ≤ (if b.n < g.n then g else b).n ∧ g.n ≤ (if b.n < g.n then g else b).n := by split <;> omega
    refine ⟨by omega, fun f hf => ?_⟩
    rcases List.mem_cons.1 hf with rfl | hf
    · omega
    · exact h2 f hf
/-- Where each that has an error has no bytes, the answer with an error has none. -/
theorem lgF_en : ∀ (fs : List Fd) (b : Fd), (b.e ≠ 0 → b.n = 0) → (∀ f ∈ fs, f.e ≠ 0 → f.n = 0) → (lgF b fs).e ≠ 0 → (lgF b fs).n = 0
  | [], b, hb, _, h => hb h
  | g :: r, b, hb, hf, h => by
    simp only [lgF] at h ⊢
    by_cases hg : g.e = 0
    · rw [if_neg (by simpa using hg)] at h ⊢
      refine lgF_en r _ ?_ (fun f h' => hf f (by simp [h'])) h
      split
      · exact hf g (by simp)
      · exact hb
    · rw [if_pos hg] at h ⊢
      exact hf g (by simp) hg
theorem quF_en (l : Bl) (k : Int) (es : Bool) (h : (quF l k es).e ≠ 0) : (quF l k es).n = 0 := by
  cases l with
  | nil => rfl
  | cons q r =>
    simp only [quF] at h ⊢
    cases hx : qt es q r [] 1 with
    | none => rfl
    | some x => rw [hx] at h; exact absurd rfl h
theorem usB_en (l : Bl) (h : (usB l).e ≠ 0) : (usB l).n = 0 := by
  refine lgF_en _ _ (fun h => rfl) (fun f hf he => ?_) h
  simp at hf
  rcases hf with rfl | rfl | rfl
  · unfold naF at he ⊢
    split
    · rfl
    · rename_i h1; rw [if_neg h1] at he; exact absurd rfl he
  · unfold qnF at he ⊢
    split
    · rename_i h1; rw [if_pos h1] at he; exact quF_en _ _ _ he
    · rfl
  · unfold qtF at he ⊢
    split
    · rename_i h1; rw [if_pos h1] at he; exact quF_en _ _ _ he
    · rfl
theorem usB_loc (t : Bl) (c : UInt8) (r : Bl) (hc : Sep c) (h : (usB t).e = 0) : usB (t ++ c :: r) = usB t := by
  have ha := lgF_all _ _ h
  unfold usB
  rw [naF_loc t c r hc, qnF_loc t c r hc (ha _ (by simp)), qtF_loc t c r hc (ha _ (by simp))]
theorem usB_cut (t : Bl) (c : UInt8) (r : Bl) (hc : Sep c) (h : (usB (t ++ c :: r)).e = 0) (hn : (usB (t ++ c :: r)).n ≤ t.length) : usB t = usB (t ++ c :: r) := by
  have ha := lgF_all _ _ h
  have hm := (lgF_max _ _ h).2
  unfold usB at hn ⊢
  rw [naF_loc t c r hc, qnF_cut t c r hc (ha _ (by simp)) (Nat.le_trans (hm _ (by simp)) hn), qtF_cut t c r hc (ha _ (by simp)) (Nat.le_trans (hm _ (by simp)) hn)]
theorem usF_loc (t : Bl) (c : UInt8) (r : Bl) (hc : Sep c) (h : (usF t).e = 0) : usF (t ++ c :: r) = usF t := by
  unfold usF at h ⊢
  rw [pre_loc _ _ _ _ hc.us]
  by_cases hp : pre [64] t = true
  · have hl := pre_len hp
    rw [if_pos hp] at h ⊢
    rw [if_pos hp]
    have he : (usB (t.drop 1)).e = 0 := by
      by_cases hz : (usB (t.drop 1)).n = 0
      · rw [if_pos hz] at h; exact h
      · by_cases he : (usB (t.drop 1)).e = 0
        · exact he
        · exact absurd (usB_en _ he) hz
    rw [drop_loc _ _ _ 1 (by simpa using hl), usB_loc _ c r hc he]
  · rw [if_neg hp, if_neg hp]
theorem usF_cut (t : Bl) (c : UInt8) (r : Bl) (hc : Sep c) (h : (usF (t ++ c :: r)).e = 0) (hn : (usF (t ++ c :: r)).n ≤ t.length) : usF t = usF (t ++ c :: r) := by
  unfold usF at h hn ⊢
  rw [pre_loc _ _ _ _ hc.us] at h hn ⊢
  by_cases hp : pre [64] t = true
  · have hl := pre_len hp
    simp only [List.length_cons, List.length_nil] at hl
    rw [if_pos hp] at h hn ⊢
    rw [if_pos hp]
    rw [drop_loc _ _ _ 1 (by simpa using hl)] at h hn ⊢
    by_cases hz : (usB (t.drop 1 ++ c :: r)).n = 0
    · rw [if_pos hz] at h
      rw [usB_cut _ c r hc h (by omega)]
    · have he : (usB (t.drop 1 ++ c :: r)).e = 0 := by
        by_cases he : (usB (t.drop 1 ++ c :: r)).e = 0
        · exact he
        · exact absurd (usB_en _ he) hz
      rw [if_neg hz] at hn
      simp only at hn
      rw [usB_cut _ c r hc he (by rw [List.length_drop]; omega)]
  · rw [if_neg hp, if_neg hp]

/-- A byte that ends what stands ahead of it, of remarks, too. -/
structure Sep2 (c : UInt8) : Prop where
  sep : Sep c
  o1 : c ∉ ([47, 42, 33] : Bl)
  o2 : c ∉ ([47, 42, 43] : Bl)
  o3 : c ∉ ([47, 42] : Bl)
  o4 : c ∉ ([45, 45] : Bl)
theorem sp2_10 : Sep2 10 := ⟨sep10, by decide, by decide, by decide, by decide⟩
theorem sp2_59 : Sep2 59 := ⟨sep59, by decide, by decide, by decide, by decide⟩
theorem sp2_32 : Sep2 32 := ⟨sep32, by decide, by decide, by decide, by decide⟩

theorem chF_loc (t : Bl) (c : UInt8) (r : Bl) (hc : Sep2 c) (ht : t ≠ []) (h : (chF t).e = 0) : chF (t ++ c :: r) = chF t := by
  have ha := lgF_all _ _ h
  unfold chF
  rw [odF_loc t c r hc.o1 hc.o2 (ha _ (by simp)), numF_loc t c r hc.sep, naF_loc t c r hc.sep, qnF_loc t c r hc.sep (ha _ (by simp)), qtF_loc t c r hc.sep (ha _ (by simp)), usF_loc t c r hc.sep (ha _ (by simp)), syF_loc t c r hc.sep, paF_loc t c r hc.sep, sgF_loc t c r hc.sep ht]
theorem chF_cut (t : Bl) (c : UInt8) (r : Bl) (hc : Sep2 c) (ht : t ≠ []) (h : (chF (t ++ c :: r)).e = 0) (hn : (chF (t ++ c :: r)).n ≤ t.length) : chF t = chF (t ++ c :: r) := by
  have ha := lgF_all _ _ h
  have hm := (lgF_max _ _ h).2
  unfold chF at hn ⊢
  rw [odF_cut t c r hc.o1 hc.o2 (ha _ (by simp)) (Nat.le_trans (hm _ (by simp)) hn), numF_loc t c r hc.sep, naF_loc t c r hc.sep, qnF_cut t c r hc.sep (ha _ (by simp)) (Nat.le_trans (hm _ (by simp)) hn), qtF_cut t c r hc.sep (ha _ (by simp)) (Nat.le_trans (hm _ (by simp)) hn), usF_cut t c r hc.sep (ha _ (by simp)) (Nat.le_trans (hm _ (by simp)) hn), syF_loc t c r hc.sep, paF_loc t c r hc.sep, sgF_loc t c r hc.sep ht]

theorem opL_loc (t : Bl) (c : UInt8) (r : Bl) (ht : t ≠ []) (h4 : c ∉ ([45, 45] : Bl)) (hd : t ≠ [45, 45] ∨ isB (c.toNat : Int) = false) : opL (t ++ c :: r) = opL t := by
  have e := pre_loc [45, 45] t c r h4
  match t, ht with
  | [a], _ =>
    simp only [List.cons_append, List.nil_append] at e ⊢
    simp only [opL, e]
    simp [pre, List.isPrefixOf]
  | [a, b], _ =>
    simp only [List.cons_append, List.nil_append] at e ⊢
    simp only [opL, e]
    by_cases hp : pre [45, 45] [a, b] = true
    · have hab : [a, b] = [45, 45] := by
        simp [pre, List.isPrefixOf] at hp
        simp [hp.1.symm, hp.2.symm]
      rcases hd with hd | hd
      · exact absurd hab hd
      · simp [hd]
    · simp [hp]
  | a :: b :: d :: u, _ =>
    simp only [List.cons_append] at e ⊢
    simp only [opL, e]
    simp
theorem indexByte_loc (t u : Bl) (x : UInt8) (h : 0 ≤ Lib.indexByte t x) : Lib.indexByte (t ++ u) x = Lib.indexByte t x := by
  induction t with
  | nil => simp [Lib.indexByte] at h
  | cons a t ih =>
    have hg := Lib.indexByte_ge t x
    simp only [List.cons_append, Lib.indexByte] at h ⊢
    by_cases e : (a == x) = true
    · simp [e]
    · simp only [e] at h ⊢
      by_cases h1 : Lib.indexByte t x = -1
      · rw [h1] at h; simp at h
      · rw [ih (by omega)]
theorem indexByte_none2 (t u : Bl) (x : UInt8) (h : Lib.indexByte t x < 0) : Lib.indexByte (t ++ u) x = if Lib.indexByte u x < 0 then -1 else (t.length : Int) + Lib.indexByte u x := by
  induction t with
  | nil =>
    have := Lib.indexByte_ge u x
    simp only [List.nil_append, List.length_nil]
    split <;> omega
  | cons a t ih =>
    have hg := Lib.indexByte_ge t x
    simp only [List.cons_append, Lib.indexByte] at h ⊢
    by_cases e : (a == x) = true
    · simp [e] at h
    · simp only [e] at h ⊢
      by_cases h1 : Lib.indexByte t x = -1
      · rw [ih (by omega)]
        have := Lib.indexByte_ge u x
        by_cases h2 : Lib.indexByte u x < 0
        · simp [h2]
        · rw [if_neg h2]
          simp only [List.length_cons]
          have h3 : ¬ ((t.length : Int) + Lib.indexByte u x = -1) := by omega
          simp [h3]
          omega
      · simp [h1] at h
        omega
theorem liZ_10 (t r : Bl) : liZ (t ++ 10 :: r) = liZ t := by
  unfold liZ
  by_cases h : 0 ≤ Lib.indexByte t 10
  · rw [indexByte_loc _ _ _ h]
    simp [h]
  · have e := indexByte_none2 t (10 :: r) 10 (by omega)
    have e2 : Lib.indexByte (10 :: r) 10 = 0 := by simp [Lib.indexByte]
    rw [e2] at e
    simp at e
    rw [e, if_neg h]
    simp
theorem liZ_in (t u : Bl) (h : 0 ≤ Lib.indexByte t 10) : liZ (t ++ u) = liZ t := by
  unfold liZ
  rw [indexByte_loc _ _ _ h]
  simp [h]
theorem liZ_over (t : Bl) (c : UInt8) (r : Bl) (h : Lib.indexByte t 10 < 0) (hc : c ≠ 10) : t.length < liZ (t ++ c :: r) := by
  have e := indexByte_none2 t (c :: r) 10 h
  have e2 : (c == 10) = false := by simpa using hc
  have hg := Lib.indexByte_ge r 10
  have e3 : Lib.indexByte (c :: r) 10 = if Lib.indexByte r 10 = -1 then -1 else Lib.indexByte r 10 + 1 := by simp [Lib.indexByte, e2]
  rw [e3] at e
  have hl : (t ++ c :: r).length = t.length + (r.length + 1) := by simp
  unfold liZ
  rw [e, hl]
  by_cases h1 : Lib.indexByte r 10 = -1
  · rw [if_pos h1]
    simp
  · have h2 : ¬ (Lib.indexByte r 10 + 1 < 0) := by omega
    rw [if_neg h1, if_neg h2, if_pos (by omega)]
    omega
/-- What goes on in a text: gaps. -/
theorem gaF_loc (t : Bl) (c : UInt8) (r : Bl) (hc : Sep2 c) (ht : t ≠ []) (hd : t ≠ [45, 45] ∨ isB (c.toNat : Int) = false) (hl : c = 10 ∨ opL t = false ∨ 0 ≤ Lib.indexByte t 10) (h : (gaF t).e = 0) : gaF (t ++ c :: r) = gaF t := by
  have eh : (t ++ c :: r).headD 0 = t.headD 0 := by
    cases t with
    | nil => exact absurd rfl ht
    | cons a u => rfl
  unfold gaF at h ⊢
  rw [eh, opL_loc t c r ht hc.o4 hd, pre_loc _ _ _ _ hc.o3, opO_loc t c r hc.o1 hc.o2]
  by_cases hb : isB ((t.headD 0).toNat : Int) = true
  · rw [if_pos hb, if_pos hb]
  · rw [if_neg hb] at h ⊢
    rw [if_neg hb]
    by_cases ho : opL t = true
    · rw [if_pos ho, if_pos ho]
      have : liZ (t ++ c :: r) = liZ t := by
        rcases hl with rfl | hl | hl
        · exact liZ_10 t r
        · rw [hl] at ho; cases ho
        · exact liZ_in t _ hl
      rw [this]
    · rw [if_neg ho] at h ⊢
      rw [if_neg ho]
      by_cases hp : (pre [47, 42] t && !opO t) = true
      · rw [if_pos hp] at h ⊢
        rw [if_pos hp]
        have hp' := hp
        simp only [Bool.and_eq_true] at hp'
        have := pre_len hp'.1
        exact reF_loc t c r (by simpa using this) h
      · rw [if_neg hp, if_neg hp]
theorem gaF_cut (t : Bl) (c : UInt8) (r : Bl) (hc : Sep2 c) (ht : t ≠ []) (hb : isB (c.toNat : Int) = false) (h10 : c ≠ 10) (h : (gaF (t ++ c :: r)).e = 0) (hn : (gaF (t ++ c :: r)).n ≤ t.length) : gaF t = gaF (t ++ c :: r) := by
  have eh : (t ++ c :: r).headD 0 = t.headD 0 := by
    cases t with
    | nil => exact absurd rfl ht
    | cons a u => rfl
  unfold gaF at h hn ⊢
  rw [eh, opL_loc t c r ht hc.o4 (.inr hb), pre_loc _ _ _ _ hc.o3, opO_loc t c r hc.o1 hc.o2] at h hn ⊢
  by_cases hb : isB ((t.headD 0).toNat : Int) = true
  · rw [if_pos hb, if_pos hb]
  · rw [if_neg hb] at h hn ⊢
    rw [if_neg hb]
    by_cases ho : opL t = true
    · rw [if_pos ho] at hn ⊢
      rw [if_pos ho]
      by_cases h0 : 0 ≤ Lib.indexByte t 10
      · rw [liZ_in t _ h0]
      · have := liZ_over t c r (by omega) h10
        simp only at hn
        omega
    · rw [if_neg ho] at h hn ⊢
      rw [if_neg ho]
      by_cases hp : (pre [47, 42] t && !opO t) = true
      · rw [if_pos hp] at h hn ⊢
        rw [if_pos hp]
        have hp' := hp
        simp only [Bool.and_eq_true] at hp'
        have := pre_len hp'.1
        exact reF_cut t c r (by simpa using this) h hn
      · rw [if_neg hp, if_neg hp]
theorem nxF_loc (t : Bl) (c : UInt8) (r : Bl) (hc : Sep2 c) (ht : t ≠ []) (hd : t ≠ [45, 45] ∨ isB (c.toNat : Int) = false) (hl : c = 10 ∨ opL t = false ∨ 0 ≤ Lib.indexByte t 10) (h : (nxF t).e = 0) : nxF (t ++ c :: r) = nxF t := by
  unfold nxF at h ⊢
  have hg : (gaF t).e = 0 := by
    by_cases h1 : 0 < (gaF t).n ∨ (gaF t).e ≠ 0
    · rw [if_pos h1] at h; exact h
    · by_cases h2 : (gaF t).e = 0
      · exact h2
      · exact absurd (.inr h2) h1
  rw [gaF_loc t c r hc ht hd hl hg]
  by_cases h1 : 0 < (gaF t).n ∨ (gaF t).e ≠ 0
  · rw [if_pos h1, if_pos h1]
  · rw [if_neg h1] at h ⊢
    rw [if_neg h1]
    by_cases h2 : (chF t).n = 0 ∧ (chF t).e = 0
    · rw [if_pos h2] at h; cases h
    · rw [if_neg h2] at h
      rw [chF_loc t c r hc ht h]
theorem nxF_cut (t : Bl) (c : UInt8) (r : Bl) (hc : Sep2 c) (ht : t ≠ []) (hb : isB (c.toNat : Int) = false) (h10 : c ≠ 10) (h : (nxF (t ++ c :: r)).e = 0) (hn : (nxF (t ++ c :: r)).n ≤ t.length) : nxF t = nxF (t ++ c :: r) := by
  unfold nxF at h hn ⊢
  have hg : (gaF (t ++ c :: r)).e = 0 ∧ (gaF (t ++ c :: r)).n ≤ t.length := by
    by_cases h1 : 0 < (gaF (t ++ c :: r)).n ∨ (gaF (t ++ c :: r)).e ≠ 0
    · rw [if_pos h1] at h hn; exact ⟨h, hn⟩
    · refine ⟨?_, by omega⟩
      by_cases h2 : (gaF (t ++ c :: r)).e = 0
      · exact h2
      · exact absurd (.inr h2) h1
  rw [gaF_cut t c r hc ht hb h10 hg.1 hg.2]
  by_cases h1 : 0 < (gaF (t ++ c :: r)).n ∨ (gaF (t ++ c :: r)).e ≠ 0
  · rw [if_pos h1, if_pos h1]
  · rw [if_neg h1] at h hn ⊢
    rw [if_neg h1]
    by_cases h2 : (chF (t ++ c :: r)).n = 0 ∧ (chF (t ++ c :: r)).e = 0
    · rw [if_pos h2] at h; cases h
    · rw [if_neg h2] at h hn
      rw [chF_cut t c r hc ht h hn]

end Go.Proofs.YtjbgkgkgpigikaaDoor
