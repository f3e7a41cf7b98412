/-
  Bytes cut into pieces, and pieces put together, as plain lists of numbers: the longest copy at a place, the nearest of those; what pieces make. No program and no memory is named here.
-/
import Derived.Test.YtmlodlmmfkpibaaByt
namespace Go.Proofs.Ytmlodlmmfkpibaa
set_option linter.unusedVariables false
set_option linter.unusedSimpArgs false

/-- A piece: a byte b, or a copy of l bytes from d back. -/
structure Pc where
  l : Int
  d : Int
  b : Int

/-- Are two bytes the same, n behind two places? -/
def eqb (bs : List Int) (q A n : Nat) : Bool := decide (bs[q + n]?.getD 0 = bs[A + n]?.getD 0)
def mtU (e : Nat → Bool) : Nat → Nat → Nat
  | 0, n => n
  | f + 1, n => if e n = true then mtU e f (n + 1) else n
/-- How long a copy may be. -/
def mst (bs : List Int) (A : Nat) : Nat := min 258 (bs.length - A)
/-- How many bytes are the same at the places q and A. -/
def mt (bs : List Int) (A q : Nat) : Nat := mtU (eqb bs q A) (mst bs A) 0

theorem mtU_spec (e : Nat → Bool) : ∀ f n, n ≤ mtU e f n ∧ mtU e f n ≤ n + f ∧ (∀ j, n ≤ j → j < mtU e f n → e j = true) ∧ (mtU e f n < n + f → e (mtU e f n) = false)
  | 0, n => by simp [mtU]; intro j h1 h2; omega
  | f + 1, n => by
    obtain ⟨h1, h2, h3, h4⟩ := mtU_spec e f (n + 1)
    simp only [mtU]
    by_cases he : e n = true
    · rw [if_pos he]
      refine ⟨by omega, by omega, fun j hj hl => ?_, fun hl => h4 (by omega)⟩
      by_cases hn : j = n
      · rw [hn]; exact he
      · exact h3 j (by omega) hl
    · rw [if_neg he]
      refine ⟨by omega, by omega, fun j hj hl => by omega, fun _ => by simpa using he⟩
theorem mt_le (bs : List Int) (A q : Nat) : mt bs A q ≤ mst bs A := by
  have := (mtU_spec (eqb bs q A) (mst bs A) 0).2.1
  unfold mt
  omega
theorem mt_same (bs : List Int) (A q : Nat) {j : Nat} (h : j < mt bs A q) : bs[q + j]?.getD 0 = bs[A + j]?.getD 0 := by
  have := (mtU_spec (eqb bs q A) (mst bs A) 0).2.2.1 j (by omega) h
  simpa [eqb] using this
theorem mt_else (bs : List Int) (A q : Nat) (h : mt bs A q < mst bs A) : ¬ bs[q + mt bs A q]?.getD 0 = bs[A + mt bs A q]?.getD 0 := by
  have := (mtU_spec (eqb bs q A) (mst bs A) 0).2.2.2 (by unfold mt at h; omega)
  unfold mt
  simpa [eqb] using this
/-- .. it is told by these. -/
theorem mt_is (bs : List Int) (A q n : Nat) (h1 : n ≤ mst bs A) (h2 : ∀ j, j < n → bs[q + j]?.getD 0 = bs[A + j]?.getD 0) (h3 : n < mst bs A → ¬ bs[q + n]?.getD 0 = bs[A + n]?.getD 0) : mt bs A q = n := by
  have hle := mt_le bs A q
  rcases Nat.lt_trichotomy (mt bs A q) n with h | h | h
  · exact absurd (h2 _ h) (mt_else bs A q (by omega))
  · exact h
  · exact absurd (mt_same bs A q h) (h3 (by omega))
theorem mt_more (bs : List Int) (A q n : Nat) (h : n ≤ mst bs A) (h2 : ∀ j, j < n → bs[q + j]?.getD 0 = bs[A + j]?.getD 0) : n ≤ mt bs A q := by
  rcases Nat.lt_or_ge (mt bs A q) n with h1 | h1
  · exact absurd (h2 _ h1) (mt_else bs A q (by omega))
  · exact h1

/-- The longer one; of two that are equally long the one that came first. -/
def g1 (f : Nat → Nat) (q : Nat) (b : Nat × Nat) : Nat × Nat := if b.1 < f q then (f q, q) else b
/-- The best of places, from the last one on. -/
def pick (f : Nat → Nat) (L : List Nat) (b : Nat × Nat) : Nat × Nat := L.foldr (g1 f) b
theorem pick_nil (f : Nat → Nat) (b : Nat × Nat) : pick f [] b = b := rfl
theorem pick_snoc (f : Nat → Nat) (L : List Nat) (q : Nat) (b : Nat × Nat) : pick f (L ++ [q]) b = pick f L (g1 f q b) := by simp [pick]
theorem pick_succ (f : Nat → Nat) (n : Nat) (b : Nat × Nat) : pick f (List.range (n + 1)) b = pick f (List.range n) (g1 f n b) := by rw [List.range_succ, pick_snoc]
theorem g1_full {f : Nat → Nat} {q m : Nat} {b : Nat × Nat} (hf : f q ≤ m) (hb : m ≤ b.1) : g1 f q b = b := by unfold g1; rw [if_neg (by omega)]
theorem pick_full {f : Nat → Nat} {m : Nat} {b : Nat × Nat} (hb : m ≤ b.1) : ∀ (L : List Nat), (∀ q ∈ L, f q ≤ m) → pick f L b = b
  | [], _ => rfl
  | q :: L, h => by
    have ih := pick_full hb L (fun x hx => h x (by simp [hx]))
    unfold pick at ih ⊢
    rw [List.foldr_cons, ih]
    exact g1_full (h q (by simp)) hb

theorem pick_best (f : Nat → Nat) : ∀ n b, b.1 ≤ (pick f (List.range n) b).1 ∧ (∀ q, q < n → f q ≤ (pick f (List.range n) b).1) ∧
    (pick f (List.range n) b = b ∨ ((pick f (List.range n) b).2 < n ∧ f (pick f (List.range n) b).2 = (pick f (List.range n) b).1 ∧ b.1 < (pick f (List.range n) b).1 ∧ ∀ q, (pick f (List.range n) b).2 < q → q < n → f q < (pick f (List.range n) b).1))
  | 0, b => by simp [pick]
  | n + 1, b => by
    obtain ⟨h1, h2, h3⟩ := pick_best f n (g1 f n b)
    rw [pick_succ]
    generalize pick f (List.range n) (g1 f n b) = r at *
    by_cases hb : b.1 < f n
    · have e : g1 f n b = (f n, n) := if_pos hb
      rw [e] at h1 h3
      refine ⟨by simp at h1; omega, fun q hq => ?_, .inr ?_⟩
      · by_cases hqn : q = n
        · subst hqn; exact h1
        · exact h2 q (by omega)
      · rcases h3 with rfl | ⟨a1, a2, a3, a4⟩
        · exact ⟨by simp, rfl, hb, fun q h1 h2 => by simp at h1; omega⟩
        · refine ⟨by omega, a2, by simp at a3; omega, fun q q1 q2 => ?_⟩
          by_cases hqn : q = n
          · subst hqn; exact a3
          · exact a4 q q1 (by omega)
    · have e : g1 f n b = b := if_neg hb
      rw [e] at h1 h3
      refine ⟨h1, fun q hq => ?_, ?_⟩
      · by_cases hqn : q = n
        · subst hqn; omega
        · exact h2 q (by omega)
      · rcases h3 with h3 | ⟨a1, a2, a3, a4⟩
        · exact .inl h3
        · refine .inr ⟨by omega, a2, a3, fun q q1 q2 => ?_⟩
          by_cases hqn : q = n
          · subst hqn; omega
          · exact a4 q q1 (by omega)

/-- Where only the places are asked that are good for 3. -/
theorem pick_filter (f : Nat → Nat) (P : Nat → Bool) : ∀ n (b b' : Nat × Nat), (∀ q, q < n → (P q = true ↔ 3 ≤ f q)) → ((b' = b ∧ 3 ≤ b.1) ∨ (b' = (0, 0) ∧ b.1 < 3)) →
    ((pick f ((List.range n).filter P) b' = pick f (List.range n) b ∧ 3 ≤ (pick f (List.range n) b).1) ∨ (pick f ((List.range n).filter P) b' = (0, 0) ∧ (pick f (List.range n) b).1 < 3))
  | 0, b, b', hP, h => by simpa [pick] using h
  | n + 1, b, b', hP, h => by
    have hn := hP n (by omega)
    rw [pick_succ, List.range_succ, List.filter_append]
    cases hp : P n with
    | true =>
      have h3 := hn.1 hp
      have : [n].filter P = [n] := by simp [hp]
      rw [this, pick_snoc]
      refine pick_filter f P n _ _ (fun q hq => hP q (by omega)) ?_
      rcases h with ⟨rfl, h⟩ | ⟨rfl, h⟩
      · refine .inl ⟨rfl, ?_⟩
        unfold g1; split
        · exact h3
        · exact h
      · have e1 : g1 f n (0, 0) = (f n, n) := if_pos (by simp; omega)
        have e2 : g1 f n b = (f n, n) := if_pos (by omega)
        rw [e1, e2]
        exact .inl ⟨rfl, h3⟩
    | false =>
      have h3 : ¬ 3 ≤ f n := fun q => by rw [hn.2 q] at hp; cases hp
      have : [n].filter P = [] := by simp [hp]
      rw [this, List.append_nil]
      refine pick_filter f P n _ _ (fun q hq => hP q (by omega)) ?_
      rcases h with ⟨rfl, h⟩ | ⟨rfl, h⟩
      · refine .inl ⟨?_, ?_⟩
        · unfold g1; rw [if_neg (by omega)]
        · unfold g1; rw [if_neg (by omega)]; exact h
      · refine .inr ⟨rfl, ?_⟩
        unfold g1; split
        · simp; omega
        · exact h

/-- The best copy at a place: how long, and where it begins. -/
def bst (bs : List Int) (A : Nat) : Nat × Nat := pick (mt bs A) (List.range A) (0, 0)
/-- The piece that a copy is told as. -/
def pcOf (bs : List Int) (A : Nat) (r : Nat × Nat) : Pc := if r.1 = 0 then ⟨0, 0, bs[A]?.getD 0⟩ else ⟨(r.1 : Int), (A : Int) - (r.2 : Int), 0⟩
def pce (bs : List Int) (A : Nat) : Pc := if 3 ≤ (bst bs A).1 then pcOf bs A (bst bs A) else pcOf bs A (0, 0)
/-- How many bytes a piece makes. -/
def sz (p : Pc) : Nat := if p.l < 1 then 1 else p.l.toNat
def pcs (bs : List Int) : Nat → Nat → List Pc
  | 0, A => []
  | f + 1, A => if A < bs.length then pce bs A :: pcs bs f (A + sz (pce bs A)) else []
/-- The pieces of bytes. -/
def pieces (bs : List Int) : List Pc := pcs bs (bs.length + 1) 0

/-- What the piece at a place is. -/
theorem pce_copy (bs : List Int) (A : Nat) (h : 3 ≤ (bst bs A).1) : ∃ n q, bst bs A = (n, q) ∧ pce bs A = ⟨(n : Int), (A : Int) - (q : Int), 0⟩ ∧ 3 ≤ n ∧ n ≤ 258 ∧ A + n ≤ bs.length ∧ q < A ∧ mt bs A q = n ∧ (∀ x, x < A → mt bs A x ≤ n) ∧ ∀ x, q < x → x < A → mt bs A x < n := by
  obtain ⟨h1, h2, h3⟩ := pick_best (mt bs A) A (0, 0)
  have hp : pce bs A = pcOf bs A (bst bs A) := if_pos h
  unfold bst at h hp ⊢
  generalize pick (mt bs A) (List.range A) (0, 0) = r at *
  obtain ⟨n, q⟩ := r
  simp only at h h1 h2 h3
  rcases h3 with h3 | ⟨a1, a2, a3, a4⟩
  · simp at h3; omega
  · have hm := mt_le bs A q
    unfold mst at hm
    refine ⟨n, q, rfl, ?_, h, by omega, by omega, a1, a2, h2, a4⟩
    rw [hp]
    unfold pcOf
    rw [if_neg (by simp; omega)]
theorem pce_byte (bs : List Int) (A : Nat) (h : ¬ 3 ≤ (bst bs A).1) : pce bs A = ⟨0, 0, bs[A]?.getD 0⟩ ∧ ∀ x, x < A → mt bs A x < 3 := by
  obtain ⟨h1, h2, h3⟩ := pick_best (mt bs A) A (0, 0)
  refine ⟨?_, fun x hx => ?_⟩
  · unfold pce; rw [if_neg h]; rfl
  · have := h2 x hx
    unfold bst at h
    omega
theorem sz_copy {n : Nat} (h : 3 ≤ n) (d b : Int) : sz ⟨(n : Int), d, b⟩ = n := by unfold sz; simp only; rw [if_neg (by omega)]; simp
theorem sz_byte (d b : Int) : sz ⟨0, d, b⟩ = 1 := by unfold sz; simp
theorem sz_pos (p : Pc) : 1 ≤ sz p := by unfold sz; split <;> omega
theorem pce_sz (bs : List Int) (A : Nat) (hA : A < bs.length) : 1 ≤ sz (pce bs A) ∧ A + sz (pce bs A) ≤ bs.length := by
  by_cases h : 3 ≤ (bst bs A).1
  · obtain ⟨n, q, _, e, h3, _, hl, _⟩ := pce_copy bs A h
    rw [e, sz_copy h3]
    omega
  · rw [(pce_byte bs A h).1, sz_byte]
    omega
theorem pcs_end {bs : List Int} {A : Nat} (h : ¬ A < bs.length) : ∀ f, pcs bs f A = []
  | 0 => rfl
  | f + 1 => by simp only [pcs]; exact if_neg h
theorem pcs_on {bs : List Int} {A : Nat} (h : A < bs.length) (f : Nat) : pcs bs (f + 1) A = pce bs A :: pcs bs f (A + sz (pce bs A)) := by simp only [pcs]; exact if_pos h

/-- May a piece be? -/
def may (p : Pc) : Bool := if p.l = 0 then decide (p.d = 0) else decide (3 ≤ p.l) && (decide (p.l ≤ 258) && (decide (1 ≤ p.d) && (decide (p.d ≤ 32768) && decide (p.b = 0))))
def chk : Int → List Pc → Int
  | _, [] => 0
  | m, p :: r => if may p = true then (if m < p.d then 5 else chk (m + (sz p : Int)) r) else 2
/-- n bytes more, each from d back. -/
def cpn (d : Nat) : Nat → List Int → List Int
  | 0, o => o
  | n + 1, o => cpn d n (o ++ [o[o.length - d]?.getD 0])
def xp1 (o : List Int) (p : Pc) : List Int := if p.l = 0 then o ++ [p.b] else cpn p.d.toNat p.l.toNat o
def xpd (o : List Int) (l : List Pc) : List Int := l.foldl xp1 o
/-- What Expand answers. -/
def exq (l : List Pc) : List Int × Int := if chk 0 l = 0 then (xpd [] l, 0) else ([], chk 0 l)

theorem may_byte {p : Pc} (h : may p = true) (h0 : p.l = 0) : p.d = 0 := by
  unfold may at h
  rw [if_pos h0] at h
  simpa using h
theorem may_copy {p : Pc} (h : may p = true) (h0 : p.l ≠ 0) : 3 ≤ p.l ∧ p.l ≤ 258 ∧ 1 ≤ p.d ∧ p.d ≤ 32768 ∧ p.b = 0 := by
  unfold may at h
  rw [if_neg h0] at h
  simp at h
  omega
theorem may_sz {p : Pc} (h : may p = true) : sz p ≤ 258 := by
  by_cases h0 : p.l = 0
  · unfold sz; rw [h0]; simp
  · have := may_copy h h0
    unfold sz; split <;> omega
theorem cpn_len (d : Nat) : ∀ n o, (cpn d n o).length = o.length + n
  | 0, o => rfl
  | n + 1, o => by simp only [cpn]; rw [cpn_len d n]; simp; omega
theorem xp1_len {p : Pc} (h : may p = true) (o : List Int) : (xp1 o p).length = o.length + sz p := by
  unfold xp1 sz
  by_cases h0 : p.l = 0
  · rw [if_pos h0, h0]; simp
  · have := may_copy h h0
    rw [if_neg h0, cpn_len, if_neg (by omega)]
theorem cpn_byt {d : Nat} : ∀ {n : Nat} {o : List Int}, Byt o → Byt (cpn d n o)
  | 0, o, h => h
  | n + 1, o, h => by simp only [cpn]; exact cpn_byt (h.app (Byt.one (h.at _).1 (h.at _).2))
theorem chk_e : ∀ (l : List Pc) (m : Int), chk m l = 0 ∨ chk m l = 2 ∨ chk m l = 5
  | [], m => .inl rfl
  | p :: r, m => by
    simp only [chk]
    split
    · split
      · exact .inr (.inr rfl)
      · exact chk_e r _
    · exact .inr (.inl rfl)

theorem cpn_take (bs : List Int) (A q : Nat) (hq : q < A) : ∀ n k, (∀ j, j < k + n → bs[q + j]?.getD 0 = bs[A + j]?.getD 0) → A + k + n ≤ bs.length → cpn (A - q) n (bs.take (A + k)) = bs.take (A + k + n)
  | 0, k, _, _ => rfl
  | n + 1, k, h, hl => by
    have e : bs.take (A + k) ++ [(bs.take (A + k))[(bs.take (A + k)).length - (A - q)]?.getD 0] = bs.take (A + k + 1) := by
      rw [List.take_add_one, List.getElem?_eq_getElem (show A + k < bs.length by omega)]
      congr 1
      have h1 := h k (by omega)
      rw [List.getElem?_eq_getElem (show A + k < bs.length by omega), Option.getD_some] at h1
      rw [← Option.toList_some, ← h1]
      simp only [Option.toList_some, List.length_take, List.cons.injEq, and_true]
      rw [show min (A + k) bs.length - (A - q) = q + k by omega, List.getElem?_take_of_lt (by omega)]
    simp only [cpn]
    rw [e]
    have ih := cpn_take bs A q hq n (k + 1) (fun j hj => h j (by omega)) (by omega)
    rw [show A + k + 1 = A + (k + 1) by omega, ih]
    congr 1
    omega

/-- Pieces of bytes make these bytes. -/
theorem xpd_pcs (bs : List Int) (hn : bs.length ≤ 32768) : ∀ f A, A ≤ bs.length → bs.length < f + A → chk (A : Int) (pcs bs f A) = 0 ∧ xpd (bs.take A) (pcs bs f A) = bs
  | 0, A, hA, hf => by omega
  | f + 1, A, hA, hf => by
    by_cases hlt : A < bs.length
    · rw [pcs_on hlt]
      obtain ⟨h1, h2⟩ := pce_sz bs A hlt
      obtain ⟨i1, i2⟩ := xpd_pcs bs hn f (A + sz (pce bs A)) h2 (by omega)
      have key : may (pce bs A) = true ∧ ¬ (A : Int) < (pce bs A).d ∧ xp1 (bs.take A) (pce bs A) = bs.take (A + sz (pce bs A)) := by
        by_cases h : 3 ≤ (bst bs A).1
        · obtain ⟨n, q, _, e, a1, a2, a3, a4, a5, _, _⟩ := pce_copy bs A h
          rw [e, sz_copy a1]
          refine ⟨?_, ?_, ?_⟩
          · unfold may
            simp only
            rw [if_neg (by omega)]
            simp
            omega
          · simp; omega
          · unfold xp1
            simp only
            rw [if_neg (by omega), show ((A : Int) - (q : Int)).toNat = A - q by omega, Int.toNat_natCast]
            have := cpn_take bs A q a4 n 0 (fun j hj => mt_same bs A q (by omega)) (by omega)
            simpa using this
        · rw [(pce_byte bs A h).1, sz_byte]
          refine ⟨by simp [may], by simp, ?_⟩
          unfold xp1
          simp only [if_true]
          rw [List.take_add_one, List.getElem?_eq_getElem hlt]
          rfl
      obtain ⟨k1, k2, k3⟩ := key
      refine ⟨?_, ?_⟩
      · simp only [chk]
        rw [if_pos k1, if_neg k2]
        rw [← i1]
        congr 1
      · show xpd (xp1 (bs.take A) (pce bs A)) _ = bs
        rw [k3]
        exact i2
    · rw [pcs_end hlt]
      refine ⟨rfl, ?_⟩
      exact List.take_of_length_le (by omega)
theorem exq_pieces (bs : List Int) (hn : bs.length ≤ 32768) : exq (pieces bs) = (bs, 0) := by
  obtain ⟨h1, h2⟩ := xpd_pcs bs hn (bs.length + 1) 0 (Nat.zero_le _) (by omega)
  unfold exq pieces
  rw [show chk 0 (pcs bs (bs.length + 1) 0) = 0 from h1, if_pos rfl]
  rw [List.take_zero] at h2
  rw [h2]
end Go.Proofs.Ytmlodlmmfkpibaa
