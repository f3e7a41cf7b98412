/-
  Statements cut into words, plain: what is found in bytes that a byte behind ends (one that belongs to no word there) is what is found in these bytes alone. No program and no memory is named here.
-/
import Derived.Test.YtjbgkgkgpigikaaDoorScPl3
namespace Go.Proofs.YtjbgkgkgpigikaaDoor
set_option linter.unusedVariables false
set_option linter.unusedSimpArgs false

theorem dec_loc (t : Bl) (c : UInt8) (r : Bl) (ht : t ≠ []) (hc : c.toNat / 64 ≠ 2) : Lib.decodeL (t ++ c :: r) = Lib.decodeL t := by
  rw [Lib.decodeL_N, Lib.decodeL_N]
  match t, ht with
  | [a], _ => simp [Lib.decodeN, hc]
  | [a, b], _ => simp [Lib.decodeN, hc]
  | [a, b, d], _ => simp [Lib.decodeN, hc]
  | a :: b :: d :: e :: u, _ => simp [Lib.decodeN]

/-- A byte that ends what stands ahead of it: it begins no rune of more bytes, and belongs to none of the classes. -/
structure Spc (c : UInt8) : Prop where
  asc : c.toNat < 128
  n : isN (c.toNat : Int) = false
  s : isS (c.toNat : Int) = false
  d : isD (c.toNat : Int) = false
  h : isH (c.toNat : Int) = false
theorem sp10 : Spc 10 := ⟨by decide, by decide, by decide, by decide, by decide⟩
theorem sp59 : Spc 59 := ⟨by decide, by decide, by decide, by decide, by decide⟩
theorem sp32 : Spc 32 := ⟨by decide, by decide, by decide, by decide, by decide⟩

theorem hd_loc (p : Int → Bool) (t : Bl) (c : UInt8) (r : Bl) (ht : t ≠ []) (hc : c.toNat < 128) : hd p (t ++ c :: r) = hd p t := by
  unfold hd
  rw [dec_loc t c r ht (by omega), if_neg (by simp), if_neg ht]
theorem hd_end (p : Int → Bool) (c : UInt8) (r : Bl) (hc : c.toNat < 128) (hp : p (c.toNat : Int) = false) : hd p (c :: r) = 0 := by
  unfold hd
  rw [if_neg (by simp), Lib.decodeL_ascii c r hc]
  simp [hp]
theorem ah_loc (p : Int → Bool) (c : UInt8) (r : Bl) (hc : c.toNat < 128) (hp : p (c.toNat : Int) = false) : ∀ (n : Nat) (t : Bl), t.length ≤ n → ah p (t ++ c :: r) = ah p t
  | n, [], _ => by rw [List.nil_append, ah_stop p _ (hd_end p c r hc hp)]; rfl
  | 0, a :: t, h => by simp at h
  | n + 1, a :: t, h => by
    have e := hd_loc p (a :: t) c r (by simp) hc
    by_cases hz : hd p (a :: t) = 0
    · rw [ah_stop p _ hz, ah_stop p _ (by rw [e, hz])]
    · have hl := hd_le p (a :: t)
      rw [ah_step p _ hz, ah_step p _ (by rw [e]; exact hz), e, List.drop_append_of_le_length hl, ah_loc p c r hc hp n _ (by simp at h ⊢; omega)]
theorem ah_at (p : Int → Bool) (t : Bl) (c : UInt8) (r : Bl) (hc : c.toNat < 128) (hp : p (c.toNat : Int) = false) : ah p (t ++ c :: r) = ah p t := ah_loc p c r hc hp _ t (Nat.le_refl _)

theorem pre_loc (q t : Bl) (c : UInt8) (r : Bl) (h : c ∉ q) : pre q (t ++ c :: r) = pre q t := by
  induction q generalizing t with
  | nil => simp [pre]
  | cons x q ih =>
    cases t with
    | nil =>
      have : ¬ x = c := fun e => h (by simp [e])
      simp [pre, List.isPrefixOf, this]
    | cons a t =>
      have := ih t (fun e => h (by simp [e]))
      simp only [pre] at this
      simp [pre, List.isPrefixOf, this]
theorem has1_loc (q t : Bl) (c : UInt8) (r : Bl) (h : Lib.indexByte q c < 0) : has1 (t ++ c :: r) q = has1 t q := by
  cases t with
  | nil => simp [has1]; omega
  | cons a t => rfl
theorem drop_loc (t : Bl) (c : UInt8) (r : Bl) (n : Nat) (h : n ≤ t.length) : (t ++ c :: r).drop n = t.drop n ++ c :: r := List.drop_append_of_le_length h
theorem take_loc (t : Bl) (c : UInt8) (r : Bl) (n : Nat) (h : n ≤ t.length) : (t ++ c :: r).take n = t.take n := List.take_append_of_le_length h

theorem hexZ_loc (t : Bl) (c : UInt8) (r : Bl) (hc : Spc c) (h1 : c ∉ ([48, 120] : Bl)) : hexZ (t ++ c :: r) = hexZ t := by
  unfold hexZ
  rw [pre_loc _ _ _ _ h1]
  by_cases hp : pre [48, 120] t = true
  · have := pre_len hp
    rw [if_pos hp, if_pos hp, drop_loc t c r 2 (by simpa using this), ah_at _ _ _ _ hc.asc hc.h]
  · rw [if_neg hp, if_neg hp]
theorem ptZ_loc (t : Bl) (c : UInt8) (r : Bl) (hc : Spc c) (h1 : c ∉ ([46] : Bl)) : ptZ (t ++ c :: r) = ptZ t := by
  have hl := ah_le isD t
  unfold ptZ
  rw [ah_at _ _ _ _ hc.asc hc.d, drop_loc _ _ _ _ hl, pre_loc _ _ _ _ h1]
  by_cases hp : pre [46] (t.drop (ah isD t)) = true
  · have := pre_len hp
    rw [if_pos hp, if_pos hp, drop_loc _ _ _ 1 (by simpa using this), ah_at _ _ _ _ hc.asc hc.d]
  · rw [if_neg hp, if_neg hp]
theorem exZ_loc (t : Bl) (c : UInt8) (r : Bl) (hc : Spc c) (h1 : Lib.indexByte [43, 45] c < 0) (h2 : Lib.indexByte [101, 69] c < 0) : exZ (t ++ c :: r) = exZ t := by
  unfold exZ
  rw [has1_loc _ _ _ _ h2]
  by_cases hp : has1 t [101, 69] = true
  · have hl := has1_len hp
    have ea : exA (t ++ c :: r) = exA t := by
      unfold exA
      rw [drop_loc _ _ _ 1 hl, has1_loc _ _ _ _ h1]
    have el : exA t ≤ t.length := by
      unfold exA
      split
      · rename_i h
        have := has1_len h
        simp at this
        omega
      · exact hl
    rw [if_pos hp, if_pos hp, ea, drop_loc _ _ _ _ el, ah_at _ _ _ _ hc.asc hc.d]
  · rw [if_neg hp, if_neg hp]
theorem deZ_loc (t : Bl) (c : UInt8) (r : Bl) (hc : Spc c) (h0 : c ∉ ([46] : Bl)) (h1 : Lib.indexByte [43, 45] c < 0) (h2 : Lib.indexByte [101, 69] c < 0) : deZ (t ++ c :: r) = deZ t := by
  unfold deZ
  rw [ptZ_loc t c r hc h0, drop_loc _ _ _ _ (ptZ_le t), exZ_loc _ c r hc h1 h2]
/-- A byte that ends any word but a text between quotes. -/
structure Sep (c : UInt8) : Prop where
  sp : Spc c
  hx : c ∉ ([48, 120] : Bl)
  pt : c ∉ ([46] : Bl)
  sg : Lib.indexByte [43, 45] c < 0
  ee : Lib.indexByte [101, 69] c < 0
  q1 : Lib.indexByte [96] c < 0
  q2 : Lib.indexByte [39, 34] c < 0
  pa : Lib.indexByte [63] c < 0
  us : c ∉ ([64] : Bl)
  s2 : c ∉ ([64, 64] : Bl)
  s3 : ∀ x ∈ sgs, x = [c] ∨ c ∉ x
theorem sep10 : Sep 10 := ⟨sp10, by decide, by decide, by decide, by decide, by decide, by decide, by decide, by decide, by decide, by decide⟩
theorem sep59 : Sep 59 := ⟨sp59, by decide, by decide, by decide, by decide, by decide, by decide, by decide, by decide, by decide, by decide⟩
theorem sep32 : Sep 32 := ⟨sp32, by decide, by decide, by decide, by decide, by decide, by decide, by decide, by decide, by decide, by decide⟩

theorem numF_loc (t : Bl) (c : UInt8) (r : Bl) (hc : Sep c) : numF (t ++ c :: r) = numF t := by
  have e : nuZ (t ++ c :: r) = nuZ t := by
    unfold nuZ
    rw [hexZ_loc t c r hc.sp hc.hx, deZ_loc t c r hc.sp hc.pt hc.sg hc.ee]
  have hl : nuZ t ≤ t.length := by
    unfold nuZ
    split
    · exact deZ_le t
    · exact hexZ_le t
  unfold numF
  rw [e, take_loc _ _ _ _ hl]
theorem naF_loc (t : Bl) (c : UInt8) (r : Bl) (hc : Sep c) : naF (t ++ c :: r) = naF t := by
  unfold naF
  rw [ah_at _ _ _ _ hc.sp.asc hc.sp.n, ah_at _ _ _ _ hc.sp.asc hc.sp.d, take_loc _ _ _ _ (ah_le isN t)]
theorem syF_loc (t : Bl) (c : UInt8) (r : Bl) (hc : Sep c) : syF (t ++ c :: r) = syF t := by
  unfold syF
  rw [pre_loc _ _ _ _ hc.s2]
  by_cases hp : pre [64, 64] t = true
  · have hl := pre_len hp
    rw [if_pos hp, if_pos hp, drop_loc _ _ _ 2 (by simpa using hl), ah_at _ _ _ _ hc.sp.asc hc.sp.s]
    by_cases hz : ah isS (t.drop 2) = 0
    · rw [if_pos hz, if_pos hz]
    · rw [if_neg hz, if_neg hz, take_loc _ _ _ _ (ah_le isS _)]
  · rw [if_neg hp, if_neg hp]
theorem paF_loc (t : Bl) (c : UInt8) (r : Bl) (hc : Sep c) : paF (t ++ c :: r) = paF t := by
  unfold paF
  rw [has1_loc _ _ _ _ hc.pa]
theorem sgB_no (t : Bl) (c : UInt8) (r : Bl) (hc : Sep c) (ht : t ≠ []) (n : Nat) (h : t.length < n) : sgB ((t ++ c :: r).take n) = false := by
  unfold sgB
  apply decide_eq_false
  intro hm
  have hin : c ∈ (t ++ c :: r).take n := by
    rw [List.take_append, List.mem_append]
    right
    obtain ⟨k, hk⟩ : ∃ k, n - t.length = k + 1 := ⟨n - t.length - 1, by omega⟩
    rw [hk]
    simp
  rcases hc.s3 _ hm with e | e
  · have := congrArg List.length e
    rw [List.length_take, List.length_append, List.length_cons, List.length_cons, List.length_nil] at this
    have h1 : 1 ≤ t.length := by
      cases t with
      | nil => exact absurd rfl ht
      | cons a u => simp
    omega
  · exact e hin
theorem sgZ_loc (t : Bl) (c : UInt8) (r : Bl) (hc : Sep c) (ht : t ≠ []) : ∀ n, sgZ (t ++ c :: r) n = sgZ t (min n t.length)
  | 0 => by simp [sgZ]
  | n + 1 => by
    by_cases h : n + 1 ≤ t.length
    · have e : min (n + 1) t.length = n + 1 := by omega
      have ih := sgZ_loc t c r hc ht n
      rw [show min n t.length = n by omega] at ih
      rw [e]
      simp only [sgZ]
      rw [take_loc _ _ _ _ h, ih]
    · have ih := sgZ_loc t c r hc ht n
      simp only [sgZ]
      rw [sgB_no t c r hc ht _ (by omega), if_neg (by simp), ih]
      congr 1
      omega
theorem sgZ_le (l : Bl) : ∀ n, sgZ l n ≤ n
  | 0 => Nat.le_refl _
  | n + 1 => by
    simp only [sgZ]
    split
    · exact Nat.le_refl _
    · exact Nat.le_trans (sgZ_le l n) (Nat.le_succ n)
theorem sgF_loc (t : Bl) (c : UInt8) (r : Bl) (hc : Sep c) (ht : t ≠ []) : sgF (t ++ c :: r) = sgF t := by
  have e : sgZ (t ++ c :: r) (min 3 (t ++ c :: r).length) = sgZ t (min 3 t.length) := by
    rw [sgZ_loc t c r hc ht]
    congr 1
    rw [List.length_append, List.length_cons]
    omega
  have hl := sgZ_le t (min 3 t.length)
  unfold sgF
  rw [e, take_loc _ _ _ _ (by omega)]

end Go.Proofs.YtjbgkgkgpigikaaDoor
