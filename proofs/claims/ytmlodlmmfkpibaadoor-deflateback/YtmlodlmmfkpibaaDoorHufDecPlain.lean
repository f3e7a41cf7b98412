/-
  Reading by a code, as plain lists of numbers: which symbol's code bits are, the symbols in the order of their codes, what is read at a place. No program and no memory is named here.
-/
import Derived.Test.YtmlodlmmfkpibaaDoorHufPlain
namespace Go.Proofs.YtmlodlmmfkpibaaDoor
set_option linter.unusedVariables false
set_option linter.unusedSimpArgs false

/-- The bit i of bytes. -/
def bitAt (b : List Int) (i : Nat) : Int := b[i / 8]?.getD 0 / 2 ^ (i % 8) % 2
theorem bitAt_bd (b : List Int) (i : Nat) : 0 ≤ bitAt b i ∧ bitAt b i ≤ 1 := by unfold bitAt; omega

def hit (L : List Int) (k : Nat) (x : Int) (i : Nat) : Bool := decide (ln L i = (k : Int)) && decide (code L i = x)
/-- The symbol whose code of k bits is x. -/
def fnd (L : List Int) (k : Nat) (x : Int) : Option Nat := (List.range L.length).find? (hit L k x)

theorem fnd_some (L : List Int) {k : Nat} (h0 : k ≠ 0) {x : Int} {i : Nat} (hi : i < L.length) (hk : ln L i = (k : Int)) (hx : code L i = x) : fnd L k x = some i := by
  cases hf : fnd L k x with
  | none =>
    have := List.find?_eq_none.1 hf i (by simpa using hi)
    simp [hit, hk, hx] at this
  | some j =>
    have h1 := List.find?_some hf
    have h2 := List.mem_of_find?_eq_some hf
    simp [hit] at h1
    have := code_inj L (by simpa using h2) hi k h0 h1.1 hk (by rw [h1.2, hx])
    rw [this]
theorem fnd_none (L : List Int) {k : Nat} (h0 : k ≠ 0) {x : Int} (h : Fl L k ≤ x) : fnd L k x = none := by
  unfold fnd
  rw [List.find?_eq_none]
  intro i hi
  have hi' : i < L.length := by simpa using hi
  simp only [hit, Bool.and_eq_true, decide_eq_true_eq, not_and]
  intro h1 h2
  have := code_lt L hi' k h1 h0
  omega
theorem fnd_is (L : List Int) {k i : Nat} {x : Int} (h : fnd L k x = some i) : i < L.length ∧ ln L i = (k : Int) ∧ code L i = x := by
  have h1 := List.find?_some h
  have h2 := List.mem_of_find?_eq_some h
  simp [hit] at h1
  exact ⟨by simpa using h2, h1.1, h1.2⟩

/-- What is read: the symbol, its bits, an error. f: how many bits more may be asked for; n, x: the bits so far. -/
def dec (L b : List Int) (at_ : Nat) : Nat → Nat → Int → Int × Int × Int
  | 0, n, x => (0, 0, 5)
  | f + 1, n, x =>
    if 8 * b.length < at_ + n + 1 then (0, 0, 4)
    else match fnd L (n + 1) (2 * x + bitAt b (at_ + n)) with
      | some i => ((i : Int), ((n + 1 : Nat) : Int), 0)
      | none => dec L b at_ f (n + 1) (2 * x + bitAt b (at_ + n))
def rd (L b : List Int) (at_ : Nat) : Int × Int × Int := dec L b at_ (lng L 16) 0 0

theorem dec_short (L b : List Int) (at_ f n : Nat) (x : Int) (hs : 8 * b.length < at_ + n + 1) : dec L b at_ (f + 1) n x = (0, 0, 4) := by
  simp only [dec]
  rw [if_pos hs]
theorem dec_hit (L b : List Int) (at_ f n : Nat) (x : Int) (hs : ¬ 8 * b.length < at_ + n + 1) (i : Nat) (h : fnd L (n + 1) (2 * x + bitAt b (at_ + n)) = some i) : dec L b at_ (f + 1) n x = ((i : Int), ((n + 1 : Nat) : Int), 0) := by
  simp only [dec]
  rw [if_neg hs, h]
theorem dec_miss (L b : List Int) (at_ f n : Nat) (x : Int) (hs : ¬ 8 * b.length < at_ + n + 1) (h : fnd L (n + 1) (2 * x + bitAt b (at_ + n)) = none) : dec L b at_ (f + 1) n x = dec L b at_ f (n + 1) (2 * x + bitAt b (at_ + n)) := by
  simp only [dec]
  rw [if_neg hs, h]
theorem pow_15 {m : Nat} (h : m ≤ 15) : (2 : Int) ^ m ≤ 32768 := by
  have := Nat.pow_le_pow_right (show 0 < 2 by omega) h
  have h2 : (2 : Int) ^ m ≤ 2 ^ 15 := by exact_mod_cast this
  omega

/-- The symbols in the order of their codes, those below m laid. -/
structure Ord (L o : List Int) (m : Nat) : Prop where
  len : o.length = 320
  at_ : ∀ j, j < m → 0 < ln L j → o[(pos L j).toNat]?.getD 0 = (j : Int)

theorem Good.pos {L : List Int} (h : Good L) {i : Nat} (hi : i < L.length) (h0 : 0 < ln L i) : 0 ≤ pos L i ∧ pos L i < 320 := by
  have hf := h.fit _ (ln_mem hi)
  obtain ⟨k, hk⟩ : ∃ k : Nat, ln L i = (k : Int) := ⟨(ln L i).toNat, by omega⟩
  have h1 := pos_in L hi k hk (by omega)
  have h2 := pl_nonneg L k
  have h3 := pl_le L h.fit (k + 1)
  have h4 := h.len
  omega
theorem Ord.step {L o : List Int} {m : Nat} (hG : Good L) (h : Ord L o m) (hm : m < L.length) (h0 : 0 < ln L m) : Ord L (o.set (pos L m).toNat (m : Int)) (m + 1) := by
  refine ⟨by simp [h.len], fun j hj hj0 => ?_⟩
  have hp := hG.pos hm h0
  rw [List.getElem?_set]
  by_cases hjm : j = m
  · subst hjm
    rw [if_pos rfl, if_pos (by rw [h.len]; omega)]
    rfl
  · have hq := hG.pos (show j < L.length by omega) hj0
    have hne : ¬ (pos L m).toNat = (pos L j).toNat := by
      intro e
      exact hjm (pos_inj L (by omega) hm hj0 h0 (by omega))
    rw [if_neg hne]
    exact h.at_ j (by omega) hj0
theorem Ord.skip {L o : List Int} {m : Nat} (h : Ord L o m) (h0 : ln L m = 0) : Ord L o (m + 1) := by
  refine ⟨h.len, fun j hj hj0 => ?_⟩
  by_cases hjm : j = m
  · subst hjm; omega
  · exact h.at_ j (by omega) hj0

/-- The step of the reader: where the bits are below the codes' end the symbol lies at its place. -/
theorem read_hit {L o : List Int} (h : Ord L o L.length) {k : Nat} (h0 : k ≠ 0) {x : Int} (h1 : fc L k ≤ x) (h2 : x - fc L k < cz L k) :
    ∃ i : Nat, fnd L k x = some i ∧ i < L.length ∧ 0 ≤ pl L k + x - fc L k ∧ o[(pl L k + x - fc L k).toNat]?.getD 0 = (i : Int) := by
  obtain ⟨i, hi, hk, hx⟩ := code_hit L k h0 x h1 (by rw [Fl_eq]; omega)
  have hp : pos L i = pl L k + x - fc L k := by
    rw [code_eq L i k hk h0] at hx
    unfold pos
    rw [hk]
    simp
    omega
  have h3 := h.at_ i hi (by omega)
  have h4 := pos_in L hi k hk h0
  have h5 := pl_nonneg L k
  rw [hp] at h3 h4
  exact ⟨i, fnd_some L h0 hi hk hx, hi, by omega, h3⟩

theorem pl_top {L : List Int} (hG : Good L) {k : Nat} (hk : k ≤ 16) : 0 ≤ pl L k ∧ pl L k ≤ 320 := by
  have h1 := pl_nonneg L k
  have h2 := pl_le L hG.fit k
  have h3 := hG.len
  omega

/-- n symbols, one behind the other. -/
def alls (L b : List Int) : Nat → Nat → List Int → List Int × Int × Int
  | 0, at_, acc => (acc, (at_ : Int), 0)
  | n + 1, at_, acc =>
    if (rd L b at_).2.2 = 0 then alls L b n (at_ + (rd L b at_).2.1.toNat) (acc ++ [(rd L b at_).1])
    else ([], 0, (rd L b at_).2.2)

theorem dec_err (L b : List Int) (at_ : Nat) : ∀ f n x, (dec L b at_ f n x).2.2 = 0 ∨ ((dec L b at_ f n x).1 = 0 ∧ (dec L b at_ f n x).2.1 = 0)
  | 0, n, x => by simp [dec]
  | f + 1, n, x => by
    simp only [dec]
    split
    · simp
    · split
      · simp
      · exact dec_err L b at_ f _ _
theorem dec_ok (L b : List Int) (at_ : Nat) : ∀ f n x, (dec L b at_ f n x).2.2 = 0 → ∃ i k : Nat, dec L b at_ f n x = ((i : Int), (k : Int), 0) ∧ i < L.length ∧ ln L i = (k : Int) ∧ n < k ∧ k ≤ n + f ∧ at_ + k ≤ 8 * b.length
  | 0, n, x => by simp [dec]
  | f + 1, n, x => by
    intro h
    simp only [dec] at h ⊢
    split at h
    · simp at h
    · rename_i hs
      split at h
      · rename_i i hf
        rw [if_neg hs]
        have := fnd_is L hf
        exact ⟨i, n + 1, rfl, this.1, this.2.1, by omega, by omega, by omega⟩
      · rename_i hf
        rw [if_neg hs]
        obtain ⟨i, k, h1, h2, h3, h4, h5, h6⟩ := dec_ok L b at_ f _ _ h
        exact ⟨i, k, h1, h2, h3, by omega, by omega, h6⟩
theorem dec_bd (L b : List Int) (at_ f n : Nat) (x : Int) : 0 ≤ (dec L b at_ f n x).1 ∧ 0 ≤ (dec L b at_ f n x).2.1 ∧ ((dec L b at_ f n x).1 = 0 ∨ (dec L b at_ f n x).1 < L.length) ∧ (dec L b at_ f n x).2.1 ≤ n + f := by
  by_cases h : (dec L b at_ f n x).2.2 = 0
  · obtain ⟨i, k, e, h1, h2, h3, h4, h5⟩ := dec_ok L b at_ f n x h
    rw [e]
    simp
    omega
  · rcases dec_err L b at_ f n x with h1 | ⟨h1, h2⟩
    · exact absurd h1 h
    · rw [h1, h2]
      omega

end Go.Proofs.YtmlodlmmfkpibaaDoor
