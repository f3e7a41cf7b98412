/-
  Statements cut into words, plain: what is found has no more bytes than there are. No program and no memory is named here.
-/
import Derived.Test.YtddfbaaghjcbnaaGreatDoorScPlain
import Derived.Lib.IndexLaws
import Derived.Lib.IndexMore
namespace Go.Proofs.YtddfbaaghjcbnaaGreatDoor
set_option linter.unusedVariables false
set_option linter.unusedSimpArgs false

theorem esc_le (d : UInt8) : (esc d).length ≤ 2 := by
  unfold esc
  repeat' split
  all_goals simp
theorem qt_le (es : Bool) (q : UInt8) : ∀ (l sa : Bl) (i : Nat) (r : Bl × Nat), qt es q l sa i = some r → r.2 ≤ i + l.length ∧ i < r.2 ∧ r.1.length ≤ sa.length + l.length
  | [], sa, i, r, h => by simp [qt] at h
  | [c], sa, i, r, h => by
    simp only [qt] at h
    split at h
    · cases h
      simp
    · cases h
  | c :: d :: l, sa, i, r, h => by
    simp only [qt] at h
    split at h
    · obtain ⟨h1, h2, h3⟩ := qt_le es q l _ _ r h
      have := esc_le d
      rw [List.length_append] at h3
      simp only [List.length_cons]
      omega
    · split at h
      · split at h
        · obtain ⟨h1, h2, h3⟩ := qt_le es q l _ _ r h
          simp only [List.length_append, List.length_cons, List.length_nil] at h3 ⊢
          omega
        · cases h
          simp only [List.length_cons]
          omega
      · obtain ⟨h1, h2, h3⟩ := qt_le es q (d :: l) _ _ r h
        simp only [List.length_append, List.length_cons, List.length_nil] at h1 h3 ⊢
        omega
/-- What is found in l is no longer than l. -/
def Fits (N : Nat) (f : Fd) : Prop := f.n ≤ N ∧ f.tx.size ≤ N
theorem Fits.nil (N : Nat) : Fits N nil0 := ⟨Nat.zero_le _, Nat.zero_le _⟩
theorem Fits.er (N : Nat) (e : Int) : Fits N (er e) := ⟨Nat.zero_le _, Nat.zero_le _⟩
theorem Fits.its (l : Bl) (k : Int) (n : Nat) : Fits l.length (its k (l.take n)) := by
  refine ⟨?_, ?_⟩
  · show (l.take n).length ≤ _
    simp; omega
  · show (l.take n).length ≤ _
    simp; omega
theorem quF_fits (l : Bl) (k : Int) (es : Bool) : Fits l.length (quF l k es) := by
  unfold quF
  cases l with
  | nil => exact Fits.er _ _
  | cons q r =>
    simp only
    cases h : qt es q r [] 1 with
    | none => exact Fits.er _ _
    | some x =>
      obtain ⟨h1, h2, h3⟩ := qt_le es q r [] 1 x h
      refine ⟨?_, ?_⟩
      · show x.2 ≤ _
        simp; omega
      · show x.1.length ≤ _
        simp at h3 ⊢; omega
theorem naF_fits (l : Bl) : Fits l.length (naF l) := by
  unfold naF
  split
  · exact Fits.nil _
  · have := ah_le isN l
    refine ⟨this, ?_⟩
    show ((l.take (ah isN l)).map lwB).length ≤ _
    simp; omega
theorem qnF_fits (l : Bl) : Fits l.length (qnF l) := by
  unfold qnF
  split
  · exact quF_fits _ _ _
  · exact Fits.nil _
theorem qtF_fits (l : Bl) : Fits l.length (qtF l) := by
  unfold qtF
  split
  · exact quF_fits _ _ _
  · exact Fits.nil _
theorem lgF_fits (N : Nat) : ∀ (r : List Fd) (b : Fd), Fits N b → (∀ f ∈ r, Fits N f) → Fits N (lgF b r)
  | [], b, h, _ => h
  | f :: r, b, h, k => by
    simp only [lgF]
    split
    · exact k f (by simp)
    · refine lgF_fits N r _ ?_ (fun g hg => k g (by simp [hg]))
      split
      · exact k f (by simp)
      · exact h
theorem usB_fits (l : Bl) : Fits l.length (usB l) := by
  refine lgF_fits _ _ _ (Fits.nil _) (fun f hf => ?_)
  simp at hf
  rcases hf with rfl | rfl | rfl
  · exact naF_fits l
  · exact qnF_fits l
  · exact qtF_fits l
theorem usF_fits (l : Bl) : Fits l.length (usF l) := by
  unfold usF
  have h := usB_fits (l.drop 1)
  by_cases hp : pre [64] l = true
  · rw [if_pos hp]
    have hl := pre_len hp
    simp only [List.length_cons, List.length_nil] at hl
    have hd : (l.drop 1).length = l.length - 1 := by simp
    rw [hd] at h
    split
    · exact ⟨Nat.le_trans h.1 (by omega), Nat.le_trans h.2 (by omega)⟩
    · refine ⟨?_, ?_⟩
      · have := h.1
        show _ + 1 ≤ _
        omega
      · show ((bl (usB (l.drop 1)).tx).map lwB).length ≤ _
        rw [List.length_map, bl_len]
        have := h.2
        omega
  · rw [if_neg hp]; exact Fits.nil _
theorem syF_fits (l : Bl) : Fits l.length (syF l) := by
  unfold syF
  by_cases hp : pre [64, 64] l = true
  · rw [if_pos hp]
    have hl := pre_len hp
    have hz := ah_le isS (l.drop 2)
    simp only [List.length_cons, List.length_nil, List.length_drop] at hl hz
    split
    · exact Fits.nil _
    · refine ⟨?_, ?_⟩
      · show _ + 2 ≤ _
        omega
      · show (((l.drop 2).take _).map lwB).length ≤ _
        simp; omega
  · rw [if_neg hp]; exact Fits.nil _
theorem has1_len {l o : Bl} (h : has1 l o = true) : 1 ≤ l.length := by
  cases l with
  | nil => cases h
  | cons a r => simp
theorem paF_fits (l : Bl) : Fits l.length (paF l) := by
  unfold paF
  split
  · rename_i h
    exact ⟨has1_len h, Nat.zero_le _⟩
  · exact Fits.nil _
theorem sgF_fits (l : Bl) : Fits l.length (sgF l) := by
  unfold sgF
  split
  · exact Fits.nil _
  · exact Fits.its _ _ _
theorem numF_fits (l : Bl) : Fits l.length (numF l) := by
  unfold numF
  split
  · exact Fits.nil _
  · exact Fits.its _ _ _
theorem reF_n (l : Bl) (h : 2 ≤ l.length) : (reF l).n ≤ l.length := by
  unfold reF
  split
  · exact Nat.zero_le _
  · rename_i h0
    have := Lib.index_room (l.drop 2) [42, 47] (by have := Lib.index_ge (l.drop 2) [42, 47]; omega)
    simp only [List.length_drop, List.length_cons, List.length_nil] at this ⊢
    omega
theorem reF_fits (l : Bl) (h : 2 ≤ l.length) : Fits l.length (reF l) := by
  refine ⟨reF_n l h, ?_⟩
  unfold reF
  split
  · exact Nat.zero_le _
  · exact Nat.zero_le _
theorem opO_len {l : Bl} (h : opO l = true) : 3 ≤ l.length := by
  unfold opO at h
  simp only [Bool.or_eq_true] at h
  rcases h with h | h
  · have := pre_len h; simpa using this
  · have := pre_len h; simpa using this
theorem odF_fits (l : Bl) : Fits l.length (odF l) := by
  unfold odF
  by_cases h : opO l = true
  · rw [if_pos h]
    have := opO_len h
    split
    · exact reF_fits l (by omega)
    · exact Fits.its _ _ _
  · rw [if_neg h]; exact Fits.nil _
theorem chF_fits (l : Bl) : Fits l.length (chF l) := by
  refine lgF_fits _ _ _ (Fits.nil _) (fun f hf => ?_)
  simp at hf
  rcases hf with rfl | rfl | rfl | rfl | rfl | rfl | rfl | rfl | rfl
  · exact odF_fits l
  · exact numF_fits l
  · exact naF_fits l
  · exact qnF_fits l
  · exact qtF_fits l
  · exact usF_fits l
  · exact syF_fits l
  · exact paF_fits l
  · exact sgF_fits l
theorem liZ_le (l : Bl) : liZ l ≤ l.length := by
  unfold liZ
  split
  · rename_i h
    have h2 : ∃ o : Nat, Lib.indexByte l 10 = (o : Int) := ⟨(Lib.indexByte l 10).toNat, by omega⟩
    obtain ⟨o, ho⟩ := h2
    obtain ⟨h3, _⟩ := Lib.indexByte_some ho
    have := (List.getElem?_eq_some_iff.1 h3).1
    rw [ho]
    omega
  · exact Nat.le_refl _
theorem gaF_fits (l : Bl) (h1 : 1 ≤ l.length) : Fits l.length (gaF l) := by
  unfold gaF
  split
  · exact ⟨h1, Nat.zero_le _⟩
  · split
    · exact ⟨liZ_le l, Nat.zero_le _⟩
    · split
      · rename_i h
        simp only [Bool.and_eq_true] at h
        have := pre_len h.1
        exact reF_fits l (by simpa using this)
      · exact Fits.nil _
theorem nxF_fits (l : Bl) (h1 : 1 ≤ l.length) : Fits l.length (nxF l) := by
  unfold nxF
  split
  · exact gaF_fits l h1
  · split
    · exact Fits.er _ _
    · exact chF_fits l
theorem nxF_pos (l : Bl) (h : (nxF l).e = 0) : 1 ≤ (nxF l).n := by
  unfold nxF at h ⊢
  by_cases h1 : 0 < (gaF l).n ∨ (gaF l).e ≠ 0
  · rw [if_pos h1] at h ⊢
    rcases h1 with h1 | h1
    · exact h1
    · exact absurd h h1
  · rw [if_neg h1] at h ⊢
    by_cases h2 : (chF l).n = 0 ∧ (chF l).e = 0
    · rw [if_pos h2] at h
      cases h
    · rw [if_neg h2] at h ⊢
      have : ¬ (chF l).n = 0 := fun q => h2 ⟨q, h⟩
      omega

end Go.Proofs.YtddfbaaghjcbnaaGreatDoor
