/-
  Statements cut into words, plain: what is found in bytes that a byte behind ends (one that belongs to no word there) is what is found in these bytes alone. No program and no memory is named here.
  Statements cut into words, plain: what a text between quotes, a remark, any word is, in bytes that a byte behind ends, and in these bytes alone. No program and no memory is named here.
  Statements cut into words, plain: the words of a text without their places; of texts one behind the other; of the pieces between signs ;. No program and no memory is named here.
  Words read again of what they are told as: a name between backticks, a text between quotes, words with blanks between. All plain. Conditions: none but those named.
  The classes of words do not hang on the words' places; a text, a newline and a sign ;, another text: the classes of the one, then the other's. All plain.
-/
import Derived.Test.YtddfbaaghjcbnaaGreatDoorScPl3
import Derived.Test.YtddfbaaghjcbnaaGreatDoorScQt
import Derived.Test.YtddfbaaghjcbnaaGreatDoorKlPlain
namespace Go.Proofs.YtddfbaaghjcbnaaGreatDoor
set_option linter.unusedVariables false
set_option linter.unusedSimpArgs false

theorem dec_loc (t : Bl) (c : UInt8) (r : Bl) (ht : t ≠ []) (hc : c.toNat / 64 ≠ 2) : Lib.decodeL (t ++ c :: r) = Lib.decodeL t := by
  rw [Lib.decodeL_N, Lib.decodeL_N]
  match t, ht with
  | [a], _ => simp [Lib.decodeN, hc]
  | [a, b], _ => simp [Lib.decodeN, hc]
  | [a, b, d], _ => simp [Lib.decodeN, hc]
  | a :: b :: d :: e :: u, _ => simp [Lib.decodeN]

/-- A byte that ends what stands ahead of it: it begins no rune of more bytes, and belongs to none of the classes. -/
structure Spc (c : UInt8) : Prop where
  asc : c.toNat < 128
  n : isN (c.toNat : Int) = false
  s : isS (c.toNat : Int) = false
  d : isD (c.toNat : Int) = false
  h : isH (c.toNat : Int) = false
theorem sp10 : Spc 10 := ⟨by decide, by decide, by decide, by decide, by decide⟩
theorem sp59 : Spc 59 := ⟨by decide, by decide, by decide, by decide, by decide⟩
theorem sp32 : Spc 32 := ⟨by decide, by decide, by decide, by decide, by decide⟩

theorem hd_loc (p : Int → Bool) (t : Bl) (c : UInt8) (r : Bl) (ht : t ≠ []) (hc : c.toNat < 128) : hd p (t ++ c :: r) = hd p t := by
  unfold hd
  rw [dec_loc t c r ht (by omega), if_neg (by simp), if_neg ht]
theorem hd_end (p : Int → Bool) (c : UInt8) (r : Bl) (hc : c.toNat < 128) (hp : p (c.toNat : Int) = false) : hd p (c :: r) = 0 := by
  unfold hd
  rw [if_neg (by simp), Lib.decodeL_ascii c r hc]
  simp [hp]
theorem ah_loc (p : Int → Bool) (c : UInt8) (r : Bl) (hc : c.toNat < 128) (hp : p (c.toNat : Int) = false) : ∀ (n : Nat) (t : Bl), t.length ≤ n → ah p (t ++ c :: r) = ah p t
  | n, [], _ => by rw [List.nil_append, ah_stop p _ (hd_end p c r hc hp)]; rfl
  | 0, a :: t, h => by simp at h
  | n + 1, a :: t, h => by
    have e := hd_loc p (a :: t) c r (by simp) hc
    by_cases hz : hd p (a :: t) = 0
    · rw [ah_stop p _ hz, ah_stop p _ (by rw [e, hz])]
    · have hl := hd_le p (a :: t)
      rw [ah_step p _ hz, ah_step p _ (by rw [e]; exact hz), e, List.drop_append_of_le_length hl, ah_loc p c r hc hp n _ (by simp at h ⊢; omega)]
theorem ah_at (p : Int → Bool) (t : Bl) (c : UInt8) (r : Bl) (hc : c.toNat < 128) (hp : p (c.toNat : Int) = false) : ah p (t ++ c :: r) = ah p t := ah_loc p c r hc hp _ t (Nat.le_refl _)

theorem pre_loc (q t : Bl) (c : UInt8) (r : Bl) (h : c ∉ q) : pre q (t ++ c :: r) = pre q t := by
  induction q generalizing t with
  | nil => simp [pre]
  | cons x q ih =>
    cases t with
    | nil =>
      have : ¬ x = c := fun e => h (by simp [e])
      simp [pre, List.isPrefixOf, this]
    | cons a t =>
      have := ih t (fun e => h (by simp [e]))
      simp only [pre] at this
      simp [pre, List.isPrefixOf, this]
theorem has1_loc (q t : Bl) (c : UInt8) (r : Bl) (h : Lib.indexByte q c < 0) : has1 (t ++ c :: r) q = has1 t q := by
  cases t with
  | nil => simp [has1]; omega
  | cons a t => rfl
theorem drop_loc (t : Bl) (c : UInt8) (r : Bl) (n : Nat) (h : n ≤ t.length) : (t ++ c :: r).drop n = t.drop n ++ c :: r := List.drop_append_of_le_length h
theorem take_loc (t : Bl) (c : UInt8) (r : Bl) (n : Nat) (h : n ≤ t.length) : (t ++ c :: r).take n = t.take n := List.take_append_of_le_length h

theorem hexZ_loc (t : Bl) (c : UInt8) (r : Bl) (hc : Spc c) (h1 : c ∉ ([48, 120] : Bl)) : hexZ (t ++ c :: r) = hexZ t := by
  unfold hexZ
  rw [pre_loc _ _ _ _ h1]
  by_cases hp : pre [48, 120] t = true
  · have := pre_len hp
    rw [if_pos hp, if_pos hp, drop_loc t c r 2 (by simpa using this), ah_at _ _ _ _ hc.asc hc.h]
  · rw [if_neg hp, if_neg hp]
theorem ptZ_loc (t : Bl) (c : UInt8) (r : Bl) (hc : Spc c) (h1 : c ∉ ([46] : Bl)) : ptZ (t ++ c :: r) = ptZ t := by
  have hl := ah_le isD t
  unfold ptZ
  rw [ah_at _ _ _ _ hc.asc hc.d, drop_loc _ _ _ _ hl, pre_loc _ _ _ _ h1]
  by_cases hp : pre [46] (t.drop (ah isD t)) = true
  · have := pre_len hp
    rw [if_pos hp, if_pos hp, drop_loc _ _ _ 1 (by simpa using this), ah_at _ _ _ _ hc.asc hc.d]
  · rw [if_neg hp, if_neg hp]
theorem exZ_loc (t : Bl) (c : UInt8) (r : Bl) (hc : Spc c) (h1 : Lib.indexByte [43, 45] c < 0) (h2 : Lib.indexByte [101, 69] c < 0) : exZ (t ++ c :: r) = exZ t := by
  unfold exZ
  rw [has1_loc _ _ _ _ h2]
  by_cases hp : has1 t [101, 69] = true
  · have hl := has1_len hp
    have ea : exA (t ++ c :: r) = exA t := by
      unfold exA
      rw [drop_loc _ _ _ 1 hl, has1_loc _ _ _ _ h1]
    have el : exA t ≤ t.length := by
      unfold exA
      split
      · rename_i h
        have := has1_len h
        simp at this
        omega
      · exact hl
    rw [if_pos hp, if_pos hp, ea, drop_loc _ _ _ _ el, ah_at _ _ _ _ hc.asc hc.d]
  · rw [if_neg hp, if_neg hp]
theorem deZ_loc (t : Bl) (c : UInt8) (r : Bl) (hc : Spc c) (h0 : c ∉ ([46] : Bl)) (h1 : Lib.indexByte [43, 45] c < 0) (h2 : Lib.indexByte [101, 69] c < 0) : deZ (t ++ c :: r) = deZ t := by
  unfold deZ
  rw [ptZ_loc t c r hc h0, drop_loc _ _ _ _ (ptZ_le t), exZ_loc _ c r hc h1 h2]
/-- A byte that ends any word but a text between quotes. -/
structure Sep (c : UInt8) : Prop where
  sp : Spc c
  hx : c ∉ ([48, 120] : Bl)
  pt : c ∉ ([46] : Bl)
  sg : Lib.indexByte [43, 45] c < 0
  ee : Lib.indexByte [101, 69] c < 0
  q1 : Lib.indexByte [96] c < 0
  q2 : Lib.indexByte [39, 34] c < 0
  pa : Lib.indexByte [63] c < 0
  us : c ∉ ([64] : Bl)
  s2 : c ∉ ([64, 64] : Bl)
  s3 : ∀ x ∈ sgs, x = [c] ∨ c ∉ x
theorem sep10 : Sep 10 := ⟨sp10, by decide, by decide, by decide, by decide, by decide, by decide, by decide, by decide, by decide, by decide⟩
theorem sep59 : Sep 59 := ⟨sp59, by decide, by decide, by decide, by decide, by decide, by decide, by decide, by decide, by decide, by decide⟩
theorem sep32 : Sep 32 := ⟨sp32, by decide, by decide, by decide, by decide, by decide, by decide, by decide, by decide, by decide, by decide⟩

theorem numF_loc (t : Bl) (c : UInt8) (r : Bl) (hc : Sep c) : numF (t ++ c :: r) = numF t := by
  have e : nuZ (t ++ c :: r) = nuZ t := by
    unfold nuZ
    rw [hexZ_loc t c r hc.sp hc.hx, deZ_loc t c r hc.sp hc.pt hc.sg hc.ee]
  have hl : nuZ t ≤ t.length := by
    unfold nuZ
    split
    · exact deZ_le t
    · exact hexZ_le t
  unfold numF
  rw [e, take_loc _ _ _ _ hl]
theorem naF_loc (t : Bl) (c : UInt8) (r : Bl) (hc : Sep c) : naF (t ++ c :: r) = naF t := by
  unfold naF
  rw [ah_at _ _ _ _ hc.sp.asc hc.sp.n, ah_at _ _ _ _ hc.sp.asc hc.sp.d, take_loc _ _ _ _ (ah_le isN t)]
theorem syF_loc (t : Bl) (c : UInt8) (r : Bl) (hc : Sep c) : syF (t ++ c :: r) = syF t := by
  unfold syF
  rw [pre_loc _ _ _ _ hc.s2]
  by_cases hp : pre [64, 64] t = true
  · have hl := pre_len hp
    rw [if_pos hp, if_pos hp, drop_loc _ _ _ 2 (by simpa using hl), ah_at _ _ _ _ hc.sp.asc hc.sp.s]
    by_cases hz : ah isS (t.drop 2) = 0
    · rw [if_pos hz, if_pos hz]
    · rw [if_neg hz, if_neg hz, take_loc _ _ _ _ (ah_le isS _)]
  · rw [if_neg hp, if_neg hp]
theorem paF_loc (t : Bl) (c : UInt8) (r : Bl) (hc : Sep c) : paF (t ++ c :: r) = paF t := by
  unfold paF
  rw [has1_loc _ _ _ _ hc.pa]
theorem sgB_no (t : Bl) (c : UInt8) (r : Bl) (hc : Sep c) (ht : t ≠ []) (n : Nat) (h : t.length < n) : sgB ((t ++ c :: r).take n) = false := by
  unfold sgB
  apply decide_eq_false
  intro hm
  have hin : c ∈ (t ++ c :: r).take n := by
    rw [List.take_append, List.mem_append]
    right
    obtain ⟨k, hk⟩ : ∃ k, n - t.length = k + 1 := ⟨n - t.length - 1, by omega⟩
    rw [hk]
    simp
  rcases hc.s3 _ hm with e | e
  · have := congrArg List.length e
    rw [List.length_take, List.length_append, List.length_cons, List.length_cons, List.length_nil] at this
    have h1 : 1 ≤ t.length := by
      cases t with
      | nil => exact absurd rfl ht
      | cons a u => simp
    omega
  · exact e hin
theorem sgZ_loc (t : Bl) (c : UInt8) (r : Bl) (hc : Sep c) (ht : t ≠ []) : ∀ n, sgZ (t ++ c :: r) n = sgZ t (min n t.length)
  | 0 => by simp [sgZ]
  | n + 1 => by
    by_cases h : n + 1 ≤ t.length
    · have e : min (n + 1) t.length = n + 1 := by omega
      have ih := sgZ_loc t c r hc ht n
      rw [show min n t.length = n by omega] at ih
      rw [e]
      simp only [sgZ]
      rw [take_loc _ _ _ _ h, ih]
    · have ih := sgZ_loc t c r hc ht n
      simp only [sgZ]
      rw [sgB_no t c r hc ht _ (by omega), if_neg (by simp), ih]
      congr 1
      omega
theorem sgZ_le (l : Bl) : ∀ n, sgZ l n ≤ n
  | 0 => Nat.le_refl _
  | n + 1 => by
    simp only [sgZ]
    split
    · exact Nat.le_refl _
    · exact Nat.le_trans (sgZ_le l n) (Nat.le_succ n)
theorem sgF_loc (t : Bl) (c : UInt8) (r : Bl) (hc : Sep c) (ht : t ≠ []) : sgF (t ++ c :: r) = sgF t := by
  have e : sgZ (t ++ c :: r) (min 3 (t ++ c :: r).length) = sgZ t (min 3 t.length) := by
    rw [sgZ_loc t c r hc ht]
    congr 1
    rw [List.length_append, List.length_cons]
    omega
  have hl := sgZ_le t (min 3 t.length)
  unfold sgF
  rw [e, take_loc _ _ _ _ (by omega)]

end Go.Proofs.YtddfbaaghjcbnaaGreatDoor

namespace Go.Proofs.YtddfbaaghjcbnaaGreatDoor
set_option linter.unusedVariables false
set_option linter.unusedSimpArgs false

theorem qt_loc (es : Bool) (q c : UInt8) (r : Bl) (hq : q ≠ 92) (hc : c ≠ q) : ∀ (t sa : Bl) (i : Nat) (x : Bl × Nat), qt es q t sa i = some x → qt es q (t ++ c :: r) sa i = some x
  | [], sa, i, x, h => by simp [qt] at h
  | [a], sa, i, x, h => by
    simp only [qt] at h
    by_cases ha : a = q
    · subst ha
      rw [if_pos rfl] at h
      simp only [List.cons_append, List.nil_append, qt]
      rw [if_neg (fun e => hq e.1)]
      simp only [if_true]
      rw [if_neg hc]
      exact h
    · rw [if_neg ha] at h
      cases h
  | a :: d :: u, sa, i, x, h => by
    simp only [qt] at h
    simp only [List.cons_append, qt]
    by_cases h1 : a = 92 ∧ es = true
    · rw [if_pos h1] at h ⊢
      exact qt_loc es q c r hq hc u _ _ x h
    · rw [if_neg h1] at h ⊢
      by_cases h2 : a = q
      · rw [if_pos h2] at h ⊢
        by_cases h3 : d = q
        · rw [if_pos h3] at h ⊢
          exact qt_loc es q c r hq hc u _ _ x h
        · rw [if_neg h3] at h ⊢
          exact h
      · rw [if_neg h2] at h ⊢
        exact qt_loc es q c r hq hc (d :: u) _ _ x h
theorem qt_cut (es : Bool) (q c : UInt8) (r : Bl) (hq : q ≠ 92) (hc : c ≠ q) : ∀ (t sa : Bl) (i : Nat) (x : Bl × Nat), qt es q (t ++ c :: r) sa i = some x → x.2 ≤ i + t.length → qt es q t sa i = some x
  | [], sa, i, x, h, hx => by
    have := (qt_le es q _ _ _ _ h).2.1
    simp at hx
    omega
  | [a], sa, i, x, h, hx => by
    simp only [List.cons_append, List.nil_append, qt] at h
    simp only [List.length_cons, List.length_nil] at hx
    by_cases h1 : a = 92 ∧ es = true
    · rw [if_pos h1] at h
      have := (qt_le es q _ _ _ _ h).2.1
      omega
    · rw [if_neg h1] at h
      by_cases h2 : a = q
      · rw [if_pos h2, if_neg hc] at h
        simp only [qt]
        rw [if_pos h2]
        exact h
      · rw [if_neg h2] at h
        have := (qt_le es q _ _ _ _ h).2.1
        omega
  | a :: d :: u, sa, i, x, h, hx => by
    simp only [List.cons_append, qt] at h
    simp only [List.length_cons] at hx
    simp only [qt]
    by_cases h1 : a = 92 ∧ es = true
    · rw [if_pos h1] at h ⊢
      exact qt_cut es q c r hq hc u _ _ x h (by omega)
    · rw [if_neg h1] at h ⊢
      by_cases h2 : a = q
      · rw [if_pos h2] at h ⊢
        by_cases h3 : d = q
        · rw [if_pos h3] at h ⊢
          exact qt_cut es q c r hq hc u _ _ x h (by omega)
        · rw [if_neg h3] at h ⊢
          exact h
      · rw [if_neg h2] at h ⊢
        exact qt_cut es q c r hq hc (d :: u) _ _ x h (by simp only [List.length_cons]; omega)

theorem pre_app (s t u : Bl) (h : s.length ≤ t.length) : s.isPrefixOf (t ++ u) = s.isPrefixOf t := by
  induction s generalizing t with
  | nil => simp
  | cons x s ih =>
    cases t with
    | nil => simp at h
    | cons a t =>
      simp only [List.cons_append, List.isPrefixOf]
      rw [ih t (by simpa using h)]
theorem index_loc (s u : Bl) : ∀ t : Bl, s ≠ [] → 0 ≤ Lib.index t s → Lib.index (t ++ u) s = Lib.index t s
  | [], hs, h => by
    simp only [Lib.index] at h
    rw [if_neg (by simpa using hs)] at h
    omega
  | b :: l, hs, h => by
    have hr := Lib.index_room (b :: l) s h
    have h0 : s.length ≤ (b :: l).length := by omega
    have e := pre_app s (b :: l) u h0
    simp only [List.cons_append, Lib.index] at h e ⊢
    rw [e]
    by_cases hp : s.isPrefixOf (b :: l) = true
    · rw [if_pos hp, if_pos hp]
    · rw [if_neg hp] at h ⊢
      rw [if_neg hp]
      have hg := Lib.index_ge l s
      by_cases h1 : Lib.index l s = -1
      · rw [h1] at h
        simp at h
      · rw [index_loc s u l hs (by omega)]
theorem index_cut (s u : Bl) : ∀ t : Bl, s ≠ [] → 0 ≤ Lib.index (t ++ u) s → Lib.index (t ++ u) s + s.length ≤ t.length → Lib.index t s = Lib.index (t ++ u) s
  | [], hs, h, k => by
    have : 1 ≤ s.length := by
      cases s with
      | nil => exact absurd rfl hs
      | cons a s => simp
    simp only [List.length_nil] at k
    omega
  | b :: l, hs, h, k => by
    have h0 : s.length ≤ (b :: l).length := by omega
    have e := pre_app s (b :: l) u h0
    simp only [List.cons_append, Lib.index] at h k e ⊢
    rw [e] at h k ⊢
    by_cases hp : s.isPrefixOf (b :: l) = true
    · rw [if_pos hp, if_pos hp]
    · rw [if_neg hp] at h k ⊢
      rw [if_neg hp]
      have hg := Lib.index_ge (l ++ u) s
      by_cases h1 : Lib.index (l ++ u) s = -1
      · rw [h1] at h
        simp at h
      · rw [if_neg (by simpa using h1)] at h k
        rw [index_cut s u l hs (by omega) (by simp only [List.length_cons] at k; omega)]

theorem opO_loc (t : Bl) (c : UInt8) (r : Bl) (h1 : c ∉ ([47, 42, 33] : Bl)) (h2 : c ∉ ([47, 42, 43] : Bl)) : opO (t ++ c :: r) = opO t := by
  unfold opO
  rw [pre_loc _ _ _ _ h1, pre_loc _ _ _ _ h2]
theorem reF_loc (t : Bl) (c : UInt8) (r : Bl) (hl : 2 ≤ t.length) (h : (reF t).e = 0) : reF (t ++ c :: r) = reF t := by
  unfold reF at h ⊢
  by_cases h0 : Lib.index (t.drop 2) [42, 47] < 0
  · rw [if_pos h0] at h
    cases h
  · have e := index_loc [42, 47] (c :: r) (t.drop 2) (by simp) (by omega)
    rw [drop_loc _ _ _ _ hl, e]
theorem reF_cut (t : Bl) (c : UInt8) (r : Bl) (hl : 2 ≤ t.length) (h : (reF (t ++ c :: r)).e = 0) (hn : (reF (t ++ c :: r)).n ≤ t.length) : reF t = reF (t ++ c :: r) := by
  unfold reF at h hn ⊢
  rw [drop_loc _ _ _ _ hl] at h hn ⊢
  by_cases h0 : Lib.index (t.drop 2 ++ c :: r) [42, 47] < 0
  · rw [if_pos h0] at h
    cases h
  · rw [if_neg h0] at hn
    simp only at hn
    rw [index_cut [42, 47] (c :: r) (t.drop 2) (by simp) (by omega) (by simp only [List.length_drop, List.length_cons, List.length_nil]; omega)]
theorem odF_loc (t : Bl) (c : UInt8) (r : Bl) (h1 : c ∉ ([47, 42, 33] : Bl)) (h2 : c ∉ ([47, 42, 43] : Bl)) (h : (odF t).e = 0) : odF (t ++ c :: r) = odF t := by
  unfold odF at h ⊢
  rw [opO_loc t c r h1 h2]
  by_cases ho : opO t = true
  · have hl := opO_len ho
    rw [if_pos ho] at h ⊢
    rw [if_pos ho]
    by_cases he : (reF t).e = 0
    · rw [reF_loc t c r (by omega) he, take_loc _ _ _ _ (reF_n t (by omega))]
    · rw [if_pos he] at h
      exact absurd h he
  · rw [if_neg ho, if_neg ho]
theorem odF_cut (t : Bl) (c : UInt8) (r : Bl) (h1 : c ∉ ([47, 42, 33] : Bl)) (h2 : c ∉ ([47, 42, 43] : Bl)) (h : (odF (t ++ c :: r)).e = 0) (hn : (odF (t ++ c :: r)).n ≤ t.length) : odF t = odF (t ++ c :: r) := by
  unfold odF at h hn ⊢
  rw [opO_loc t c r h1 h2] at h hn ⊢
  by_cases ho : opO t = true
  · have hl := opO_len ho
    rw [if_pos ho] at h hn ⊢
    rw [if_pos ho]
    by_cases he : (reF (t ++ c :: r)).e = 0
    · rw [if_neg (by simpa using he)] at hn
      have hm := reF_n (t ++ c :: r) (by simp; omega)
      have hk : (reF (t ++ c :: r)).n ≤ t.length := by
        have : (its 9 ((t ++ c :: r).take (reF (t ++ c :: r)).n)).n = min (reF (t ++ c :: r)).n (t ++ c :: r).length := by
          show ((t ++ c :: r).take _).length = _
          rw [List.length_take]
        rw [this] at hn
        omega
      rw [reF_cut t c r (by omega) he hk, take_loc _ _ _ _ hk]
    · rw [if_pos he] at h
      exact absurd h he
  · rw [if_neg ho, if_neg ho]
theorem quF_loc (t : Bl) (k : Int) (es : Bool) (c : UInt8) (r : Bl) (q : UInt8) (u : Bl) (ht : t = q :: u) (hq : q ≠ 92) (hc : c ≠ q) (h : (quF t k es).e = 0) : quF (t ++ c :: r) k es = quF t k es := by
  subst ht
  simp only [quF, List.cons_append] at h ⊢
  cases hx : qt es q u [] 1 with
  | none => rw [hx] at h; cases h
  | some x => rw [qt_loc es q c r hq hc u [] 1 x hx]
theorem quF_cut (t : Bl) (k : Int) (es : Bool) (c : UInt8) (r : Bl) (q : UInt8) (u : Bl) (ht : t = q :: u) (hq : q ≠ 92) (hc : c ≠ q) (h : (quF (t ++ c :: r) k es).e = 0) (hn : (quF (t ++ c :: r) k es).n ≤ t.length) : quF t k es = quF (t ++ c :: r) k es := by
  subst ht
  simp only [quF, List.cons_append] at h hn ⊢
  cases hx : qt es q (u ++ c :: r) [] 1 with
  | none => rw [hx] at h; cases h
  | some x =>
    rw [hx] at hn
    simp only [List.length_cons] at hn
    rw [qt_cut es q c r hq hc u [] 1 x hx (by omega)]
theorem has1_96 {l : Bl} (h : has1 l [96] = true) : ∃ u, l = 96 :: u := by
  cases l with
  | nil => cases h
  | cons a u =>
    refine ⟨u, ?_⟩
    simp only [has1, Lib.indexByte, decide_eq_true_eq] at h
    by_cases e : (96 : UInt8) == a
    · rw [eq_of_beq e]
    · simp [e] at h
theorem has1_39 {l : Bl} (h : has1 l [39, 34] = true) : (∃ u, l = 39 :: u) ∨ (∃ u, l = 34 :: u) := by
  cases l with
  | nil => cases h
  | cons a u =>
    simp only [has1, Lib.indexByte, decide_eq_true_eq] at h
    by_cases e : (39 : UInt8) == a
    · exact .inl ⟨u, by rw [eq_of_beq e]⟩
    · by_cases e2 : (34 : UInt8) == a
      · exact .inr ⟨u, by rw [eq_of_beq e2]⟩
      · simp [e, e2] at h
theorem Sep.n96 {c : UInt8} (h : Sep c) : c ≠ 96 := by intro e; have := h.q1; subst e; revert this; decide
theorem Sep.n39 {c : UInt8} (h : Sep c) : c ≠ 39 := by intro e; have := h.q2; subst e; revert this; decide
theorem Sep.n34 {c : UInt8} (h : Sep c) : c ≠ 34 := by intro e; have := h.q2; subst e; revert this; decide
theorem qnF_loc (t : Bl) (c : UInt8) (r : Bl) (hc : Sep c) (h : (qnF t).e = 0) : qnF (t ++ c :: r) = qnF t := by
  unfold qnF at h ⊢
  rw [has1_loc _ _ _ _ hc.q1]
  by_cases hp : has1 t [96] = true
  · obtain ⟨u, hu⟩ := has1_96 hp
    rw [if_pos hp] at h ⊢
    rw [if_pos hp]
    exact quF_loc t 2 false c r 96 u hu (by decide) hc.n96 h
  · rw [if_neg hp, if_neg hp]
theorem qnF_cut (t : Bl) (c : UInt8) (r : Bl) (hc : Sep c) (h : (qnF (t ++ c :: r)).e = 0) (hn : (qnF (t ++ c :: r)).n ≤ t.length) : qnF t = qnF (t ++ c :: r) := by
  unfold qnF at h hn ⊢
  rw [has1_loc _ _ _ _ hc.q1] at h hn ⊢
  by_cases hp : has1 t [96] = true
  · obtain ⟨u, hu⟩ := has1_96 hp
    rw [if_pos hp] at h hn ⊢
    rw [if_pos hp]
    exact quF_cut t 2 false c r 96 u hu (by decide) hc.n96 h hn
  · rw [if_neg hp, if_neg hp]
theorem qtF_loc (t : Bl) (c : UInt8) (r : Bl) (hc : Sep c) (h : (qtF t).e = 0) : qtF (t ++ c :: r) = qtF t := by
  unfold qtF at h ⊢
  rw [has1_loc _ _ _ _ hc.q2]
  by_cases hp : has1 t [39, 34] = true
  · rw [if_pos hp] at h ⊢
    rw [if_pos hp]
    rcases has1_39 hp with ⟨u, hu⟩ | ⟨u, hu⟩
    · exact quF_loc t 3 true c r 39 u hu (by decide) hc.n39 h
    · exact quF_loc t 3 true c r 34 u hu (by decide) hc.n34 h
  · rw [if_neg hp, if_neg hp]
theorem qtF_cut (t : Bl) (c : UInt8) (r : Bl) (hc : Sep c) (h : (qtF (t ++ c :: r)).e = 0) (hn : (qtF (t ++ c :: r)).n ≤ t.length) : qtF t = qtF (t ++ c :: r) := by
  unfold qtF at h hn ⊢
  rw [has1_loc _ _ _ _ hc.q2] at h hn ⊢
  by_cases hp : has1 t [39, 34] = true
  · rw [if_pos hp] at h hn ⊢
    rw [if_pos hp]
    rcases has1_39 hp with ⟨u, hu⟩ | ⟨u, hu⟩
    · exact quF_cut t 3 true c r 39 u hu (by decide) hc.n39 h hn
    · exact quF_cut t 3 true c r 34 u hu (by decide) hc.n34 h hn
  · rw [if_neg hp, if_neg hp]

theorem lgF_all : ∀ (fs : List Fd) (b : Fd), (lgF b fs).e = 0 → ∀ f ∈ fs, f.e = 0
  | [], b, h, f, hf => by cases hf
  | g :: r, b, h, f, hf => by
    simp only [lgF] at h
    by_cases hg : g.e = 0
    · rw [if_neg (by simpa using hg)] at h
      rcases List.mem_cons.1 hf with rfl | hf
      · exact hg
      · exact lgF_all r _ h f hf
    · rw [if_pos hg] at h
      exact absurd h hg
theorem lgF_max : ∀ (fs : List Fd) (b : Fd), (lgF b fs).e = 0 → b.n ≤ (lgF b fs).n ∧ ∀ f ∈ fs, f.n ≤ (lgF b fs).n
  | [], b, h => ⟨Nat.le_refl _, fun f hf => by cases hf⟩
  | g :: r, b, h => by
    have hg := lgF_all (g :: r) b h g (by simp)
    simp only [lgF, hg] at h ⊢
    simp only [ne_eq, not_true_eq_false, if_false] at h ⊢
    obtain ⟨h1, h2⟩ := lgF_max r _ h
    have h3 : b.n ≤ (if b.n < g.n then g else b).n ∧ g.n ≤ (if b.n < g.n then g else b).n := by split <;> omega
    refine ⟨by omega, fun f hf => ?_⟩
    rcases List.mem_cons.1 hf with rfl | hf
    · omega
    · exact h2 f hf
/-- Where each that has an error has no bytes, the answer with an error has none. -/
theorem lgF_en : ∀ (fs : List Fd) (b : Fd), (b.e ≠ 0 → b.n = 0) → (∀ f ∈ fs, f.e ≠ 0 → f.n = 0) → (lgF b fs).e ≠ 0 → (lgF b fs).n = 0
  | [], b, hb, _, h => hb h
  | g :: r, b, hb, hf, h => by
    simp only [lgF] at h ⊢
    by_cases hg : g.e = 0
    · rw [if_neg (by simpa using hg)] at h ⊢
      refine lgF_en r _ ?_ (fun f h' => hf f (by simp [h'])) h
      split
      · exact hf g (by simp)
      · exact hb
    · rw [if_pos hg] at h ⊢
      exact hf g (by simp) hg
theorem quF_en (l : Bl) (k : Int) (es : Bool) (h : (quF l k es).e ≠ 0) : (quF l k es).n = 0 := by
  cases l with
  | nil => rfl
  | cons q r =>
    simp only [quF] at h ⊢
    cases hx : qt es q r [] 1 with
    | none => rfl
    | some x => rw [hx] at h; exact absurd rfl h
theorem usB_en (l : Bl) (h : (usB l).e ≠ 0) : (usB l).n = 0 := by
  refine lgF_en _ _ (fun h => rfl) (fun f hf he => ?_) h
  simp at hf
  rcases hf with rfl | rfl | rfl
  · unfold naF at he ⊢
    split
    · rfl
    · rename_i h1; rw [if_neg h1] at he; exact absurd rfl he
  · unfold qnF at he ⊢
    split
    · rename_i h1; rw [if_pos h1] at he; exact quF_en _ _ _ he
    · rfl
  · unfold qtF at he ⊢
    split
    · rename_i h1; rw [if_pos h1] at he; exact quF_en _ _ _ he
    · rfl
theorem usB_loc (t : Bl) (c : UInt8) (r : Bl) (hc : Sep c) (h : (usB t).e = 0) : usB (t ++ c :: r) = usB t := by
  have ha := lgF_all _ _ h
  unfold usB
  rw [naF_loc t c r hc, qnF_loc t c r hc (ha _ (by simp)), qtF_loc t c r hc (ha _ (by simp))]
theorem usB_cut (t : Bl) (c : UInt8) (r : Bl) (hc : Sep c) (h : (usB (t ++ c :: r)).e = 0) (hn : (usB (t ++ c :: r)).n ≤ t.length) : usB t = usB (t ++ c :: r) := by
  have ha := lgF_all _ _ h
  have hm := (lgF_max _ _ h).2
  unfold usB at hn ⊢
  rw [naF_loc t c r hc, qnF_cut t c r hc (ha _ (by simp)) (Nat.le_trans (hm _ (by simp)) hn), qtF_cut t c r hc (ha _ (by simp)) (Nat.le_trans (hm _ (by simp)) hn)]
theorem usF_loc (t : Bl) (c : UInt8) (r : Bl) (hc : Sep c) (h : (usF t).e = 0) : usF (t ++ c :: r) = usF t := by
  unfold usF at h ⊢
  rw [pre_loc _ _ _ _ hc.us]
  by_cases hp : pre [64] t = true
  · have hl := pre_len hp
    rw [if_pos hp] at h ⊢
    rw [if_pos hp]
    have he : (usB (t.drop 1)).e = 0 := by
      by_cases hz : (usB (t.drop 1)).n = 0
      · rw [if_pos hz] at h; exact h
      · by_cases he : (usB (t.drop 1)).e = 0
        · exact he
        · exact absurd (usB_en _ he) hz
    rw [drop_loc _ _ _ 1 (by simpa using hl), usB_loc _ c r hc he]
  · rw [if_neg hp, if_neg hp]
theorem usF_cut (t : Bl) (c : UInt8) (r : Bl) (hc : Sep c) (h : (usF (t ++ c :: r)).e = 0) (hn : (usF (t ++ c :: r)).n ≤ t.length) : usF t = usF (t ++ c :: r) := by
  unfold usF at h hn ⊢
  rw [pre_loc _ _ _ _ hc.us] at h hn ⊢
  by_cases hp : pre [64] t = true
  · have hl := pre_len hp
    simp only [List.length_cons, List.length_nil] at hl
    rw [if_pos hp] at h hn ⊢
    rw [if_pos hp]
    rw [drop_loc _ _ _ 1 (by simpa using hl)] at h hn ⊢
    by_cases hz : (usB (t.drop 1 ++ c :: r)).n = 0
    · rw [if_pos hz] at h
      rw [usB_cut _ c r hc h (by omega)]
    · have he : (usB (t.drop 1 ++ c :: r)).e = 0 := by
        by_cases he : (usB (t.drop 1 ++ c :: r)).e = 0
        · exact he
        · exact absurd (usB_en _ he) hz
      rw [if_neg hz] at hn
      simp only at hn
      rw [usB_cut _ c r hc he (by rw [List.length_drop]; omega)]
  · rw [if_neg hp, if_neg hp]

/-- A byte that ends what stands ahead of it, of remarks, too. -/
structure Sep2 (c : UInt8) : Prop where
  sep : Sep c
  o1 : c ∉ ([47, 42, 33] : Bl)
  o2 : c ∉ ([47, 42, 43] : Bl)
  o3 : c ∉ ([47, 42] : Bl)
  o4 : c ∉ ([45, 45] : Bl)
theorem sp2_10 : Sep2 10 := ⟨sep10, by decide, by decide, by decide, by decide⟩
theorem sp2_59 : Sep2 59 := ⟨sep59, by decide, by decide, by decide, by decide⟩
theorem sp2_32 : Sep2 32 := ⟨sep32, by decide, by decide, by decide, by decide⟩

theorem chF_loc (t : Bl) (c : UInt8) (r : Bl) (hc : Sep2 c) (ht : t ≠ []) (h : (chF t).e = 0) : chF (t ++ c :: r) = chF t := by
  have ha := lgF_all _ _ h
  unfold chF
  rw [odF_loc t c r hc.o1 hc.o2 (ha _ (by simp)), numF_loc t c r hc.sep, naF_loc t c r hc.sep, qnF_loc t c r hc.sep (ha _ (by simp)), qtF_loc t c r hc.sep (ha _ (by simp)), usF_loc t c r hc.sep (ha _ (by simp)), syF_loc t c r hc.sep, paF_loc t c r hc.sep, sgF_loc t c r hc.sep ht]
theorem chF_cut (t : Bl) (c : UInt8) (r : Bl) (hc : Sep2 c) (ht : t ≠ []) (h : (chF (t ++ c :: r)).e = 0) (hn : (chF (t ++ c :: r)).n ≤ t.length) : chF t = chF (t ++ c :: r) := by
  have ha := lgF_all _ _ h
  have hm := (lgF_max _ _ h).2
  unfold chF at hn ⊢
  rw [odF_cut t c r hc.o1 hc.o2 (ha _ (by simp)) (Nat.le_trans (hm _ (by simp)) hn), numF_loc t c r hc.sep, naF_loc t c r hc.sep, qnF_cut t c r hc.sep (ha _ (by simp)) (Nat.le_trans (hm _ (by simp)) hn), qtF_cut t c r hc.sep (ha _ (by simp)) (Nat.le_trans (hm _ (by simp)) hn), usF_cut t c r hc.sep (ha _ (by simp)) (Nat.le_trans (hm _ (by simp)) hn), syF_loc t c r hc.sep, paF_loc t c r hc.sep, sgF_loc t c r hc.sep ht]

theorem opL_loc (t : Bl) (c : UInt8) (r : Bl) (ht : t ≠ []) (h4 : c ∉ ([45, 45] : Bl)) (hd : t ≠ [45, 45] ∨ isB (c.toNat : Int) = false) : opL (t ++ c :: r) = opL t := by
  have e := pre_loc [45, 45] t c r h4
  match t, ht with
  | [a], _ =>
    simp only [List.cons_append, List.nil_append] at e ⊢
    simp only [opL, e]
    simp [pre, List.isPrefixOf]
  | [a, b], _ =>
    simp only [List.cons_append, List.nil_append] at e ⊢
    simp only [opL, e]
    by_cases hp : pre [45, 45] [a, b] = true
    · have hab : [a, b] = [45, 45] := by
        simp [pre, List.isPrefixOf] at hp
        simp [hp.1.symm, hp.2.symm]
      rcases hd with hd | hd
      · exact absurd hab hd
      · simp [hd]
    · simp [hp]
  | a :: b :: d :: u, _ =>
    simp only [List.cons_append] at e ⊢
    simp only [opL, e]
    simp
theorem indexByte_loc (t u : Bl) (x : UInt8) (h : 0 ≤ Lib.indexByte t x) : Lib.indexByte (t ++ u) x = Lib.indexByte t x := by
  induction t with
  | nil => simp [Lib.indexByte] at h
  | cons a t ih =>
    have hg := Lib.indexByte_ge t x
    simp only [List.cons_append, Lib.indexByte] at h ⊢
    by_cases e : (a == x) = true
    · simp [e]
    · simp only [e] at h ⊢
      by_cases h1 : Lib.indexByte t x = -1
      · rw [h1] at h; simp at h
      · rw [ih (by omega)]
theorem indexByte_none2 (t u : Bl) (x : UInt8) (h : Lib.indexByte t x < 0) : Lib.indexByte (t ++ u) x = if Lib.indexByte u x < 0 then -1 else (t.length : Int) + Lib.indexByte u x := by
  induction t with
  | nil =>
    have := Lib.indexByte_ge u x
    simp only [List.nil_append, List.length_nil]
    split <;> omega
  | cons a t ih =>
    have hg := Lib.indexByte_ge t x
    simp only [List.cons_append, Lib.indexByte] at h ⊢
    by_cases e : (a == x) = true
    · simp [e] at h
    · simp only [e] at h ⊢
      by_cases h1 : Lib.indexByte t x = -1
      · rw [ih (by omega)]
        have := Lib.indexByte_ge u x
        by_cases h2 : Lib.indexByte u x < 0
        · simp [h2]
        · rw [if_neg h2]
          simp only [List.length_cons]
          have h3 : ¬ ((t.length : Int) + Lib.indexByte u x = -1) := by omega
          simp [h3]
          omega
      · simp [h1] at h
        omega
theorem liZ_10 (t r : Bl) : liZ (t ++ 10 :: r) = liZ t := by
  unfold liZ
  by_cases h : 0 ≤ Lib.indexByte t 10
  · rw [indexByte_loc _ _ _ h]
    simp [h]
  · have e := indexByte_none2 t (10 :: r) 10 (by omega)
    have e2 : Lib.indexByte (10 :: r) 10 = 0 := by simp [Lib.indexByte]
    rw [e2] at e
    simp at e
    rw [e, if_neg h]
    simp
theorem liZ_in (t u : Bl) (h : 0 ≤ Lib.indexByte t 10) : liZ (t ++ u) = liZ t := by
  unfold liZ
  rw [indexByte_loc _ _ _ h]
  simp [h]
theorem liZ_over (t : Bl) (c : UInt8) (r : Bl) (h : Lib.indexByte t 10 < 0) (hc : c ≠ 10) : t.length < liZ (t ++ c :: r) := by
  have e := indexByte_none2 t (c :: r) 10 h
  have e2 : (c == 10) = false := by simpa using hc
  have hg := Lib.indexByte_ge r 10
  have e3 : Lib.indexByte (c :: r) 10 = if Lib.indexByte r 10 = -1 then -1 else Lib.indexByte r 10 + 1 := by simp [Lib.indexByte, e2]
  rw [e3] at e
  have hl : (t ++ c :: r).length = t.length + (r.length + 1) := by simp
  unfold liZ
  rw [e, hl]
  by_cases h1 : Lib.indexByte r 10 = -1
  · rw [if_pos h1]
    simp
  · have h2 : ¬ (Lib.indexByte r 10 + 1 < 0) := by omega
    rw [if_neg h1, if_neg h2, if_pos (by omega)]
    omega
/-- What goes on in a text: gaps. -/
theorem gaF_loc (t : Bl) (c : UInt8) (r : Bl) (hc : Sep2 c) (ht : t ≠ []) (hd : t ≠ [45, 45] ∨ isB (c.toNat : Int) = false) (hl : c = 10 ∨ opL t = false ∨ 0 ≤ Lib.indexByte t 10) (h : (gaF t).e = 0) : gaF (t ++ c :: r) = gaF t := by
  have eh : (t ++ c :: r).headD 0 = t.headD 0 := by
    cases t with
    | nil => exact absurd rfl ht
    | cons a u => rfl
  unfold gaF at h ⊢
  rw [eh, opL_loc t c r ht hc.o4 hd, pre_loc _ _ _ _ hc.o3, opO_loc t c r hc.o1 hc.o2]
  by_cases hb : isB ((t.headD 0).toNat : Int) = true
  · rw [if_pos hb, if_pos hb]
  · rw [if_neg hb] at h ⊢
    rw [if_neg hb]
    by_cases ho : opL t = true
    · rw [if_pos ho, if_pos ho]
      have : liZ (t ++ c :: r) = liZ t := by
        rcases hl with rfl | hl | hl
        · exact liZ_10 t r
        · rw [hl] at ho; cases ho
        · exact liZ_in t _ hl
      rw [this]
    · rw [if_neg ho] at h ⊢
      rw [if_neg ho]
      by_cases hp : (pre [47, 42] t && !opO t) = true
      · rw [if_pos hp] at h ⊢
        rw [if_pos hp]
        have hp' := hp
        simp only [Bool.and_eq_true] at hp'
        have := pre_len hp'.1
        exact reF_loc t c r (by simpa using this) h
      · rw [if_neg hp, if_neg hp]
theorem gaF_cut (t : Bl) (c : UInt8) (r : Bl) (hc : Sep2 c) (ht : t ≠ []) (hb : isB (c.toNat : Int) = false) (h10 : c ≠ 10) (h : (gaF (t ++ c :: r)).e = 0) (hn : (gaF (t ++ c :: r)).n ≤ t.length) : gaF t = gaF (t ++ c :: r) := by
  have eh : (t ++ c :: r).headD 0 = t.headD 0 := by
    cases t with
    | nil => exact absurd rfl ht
    | cons a u => rfl
  unfold gaF at h hn ⊢
  rw [eh, opL_loc t c r ht hc.o4 (.inr hb), pre_loc _ _ _ _ hc.o3, opO_loc t c r hc.o1 hc.o2] at h hn ⊢
  by_cases hb : isB ((t.headD 0).toNat : Int) = true
  · rw [if_pos hb, if_pos hb]
  · rw [if_neg hb] at h hn ⊢
    rw [if_neg hb]
    by_cases ho : opL t = true
    · rw [if_pos ho] at hn ⊢
      rw [if_pos ho]
      by_cases h0 : 0 ≤ Lib.indexByte t 10
      · rw [liZ_in t _ h0]
      · have := liZ_over t c r (by omega) h10
        simp only at hn
        omega
    · rw [if_neg ho] at h hn ⊢
      rw [if_neg ho]
      by_cases hp : (pre [47, 42] t && !opO t) = true
      · rw [if_pos hp] at h hn ⊢
        rw [if_pos hp]
        have hp' := hp
        simp only [Bool.and_eq_true] at hp'
        have := pre_len hp'.1
        exact reF_cut t c r (by simpa using this) h hn
      · rw [if_neg hp, if_neg hp]
theorem nxF_loc (t : Bl) (c : UInt8) (r : Bl) (hc : Sep2 c) (ht : t ≠ []) (hd : t ≠ [45, 45] ∨ isB (c.toNat : Int) = false) (hl : c = 10 ∨ opL t = false ∨ 0 ≤ Lib.indexByte t 10) (h : (nxF t).e = 0) : nxF (t ++ c :: r) = nxF t := by
  unfold nxF at h ⊢
  have hg : (gaF t).e = 0 := by
    by_cases h1 : 0 < (gaF t).n ∨ (gaF t).e ≠ 0
    · rw [if_pos h1] at h; exact h
    · by_cases h2 : (gaF t).e = 0
      · exact h2
      · exact absurd (.inr h2) h1
  rw [gaF_loc t c r hc ht hd hl hg]
  by_cases h1 : 0 < (gaF t).n ∨ (gaF t).e ≠ 0
  · rw [if_pos h1, if_pos h1]
  · rw [if_neg h1] at h ⊢
    rw [if_neg h1]
    by_cases h2 : (chF t).n = 0 ∧ (chF t).e = 0
    · rw [if_pos h2] at h; cases h
    · rw [if_neg h2] at h
      rw [chF_loc t c r hc ht h]
theorem nxF_cut (t : Bl) (c : UInt8) (r : Bl) (hc : Sep2 c) (ht : t ≠ []) (hb : isB (c.toNat : Int) = false) (h10 : c ≠ 10) (h : (nxF (t ++ c :: r)).e = 0) (hn : (nxF (t ++ c :: r)).n ≤ t.length) : nxF t = nxF (t ++ c :: r) := by
  unfold nxF at h hn ⊢
  have hg : (gaF (t ++ c :: r)).e = 0 ∧ (gaF (t ++ c :: r)).n ≤ t.length := by
    by_cases h1 : 0 < (gaF (t ++ c :: r)).n ∨ (gaF (t ++ c :: r)).e ≠ 0
    · rw [if_pos h1] at h hn; exact ⟨h, hn⟩
    · refine ⟨?_, by omega⟩
      by_cases h2 : (gaF (t ++ c :: r)).e = 0
      · exact h2
      · exact absurd (.inr h2) h1
  rw [gaF_cut t c r hc ht hb h10 hg.1 hg.2]
  by_cases h1 : 0 < (gaF (t ++ c :: r)).n ∨ (gaF (t ++ c :: r)).e ≠ 0
  · rw [if_pos h1, if_pos h1]
  · rw [if_neg h1] at h hn ⊢
    rw [if_neg h1]
    by_cases h2 : (chF (t ++ c :: r)).n = 0 ∧ (chF (t ++ c :: r)).e = 0
    · rw [if_pos h2] at h; cases h
    · rw [if_neg h2] at h hn
      rw [chF_cut t c r hc ht h hn]

end Go.Proofs.YtddfbaaghjcbnaaGreatDoor

namespace Go.Proofs.YtddfbaaghjcbnaaGreatDoor
set_option linter.unusedVariables false
set_option linter.unusedSimpArgs false

abbrev Ky := Int × ByteArray
/-- A word without its place. -/
def stp (w : Wd) : Ky := (w.k, w.tx)
/-- What a step tells. -/
def one1 (f : Fd) : List Ky := if f.k = 0 then [] else [(f.k, f.tx)]
/-- A text's words, without their places. -/
inductive Lx : Bl → List Ky → Prop
  | nil : Lx [] []
  | step (l : Bl) (ws : List Ky) : l ≠ [] → (nxF l).e = 0 → Lx (l.drop (nxF l).n) ws → Lx l (one1 (nxF l) ++ ws)
theorem lx_nil {ws : List Ky} (h : Lx [] ws) : ws = [] := by
  cases h with
  | nil => rfl
  | step _ _ h1 _ _ => exact absurd rfl h1
theorem lx_one (f : Fd) (i : Nat) : (if f.k = 0 then [] else [(⟨f.k, f.tx, (i : Int)⟩ : Wd)]).map stp = one1 f := by
  unfold one1
  split <;> simp [stp]
theorem wsF_lx : ∀ (m : Nat) (l : Bl) (i : Nat), l.length ≤ m → (wsF m l i).2 = ok0 → Lx l ((wsF m l i).1.map stp)
  | m, [], i, _, h => by rw [wsF_nil]; exact Lx.nil
  | 0, a :: l, i, hl, h => by simp at hl
  | m + 1, a :: l, i, hl, h => by
    by_cases he : (nxF (a :: l)).e = 0
    · by_cases hr : (wsF m ((a :: l).drop (nxF (a :: l)).n) (i + (nxF (a :: l)).n)).2 = ok0
      · have hp := nxF_pos (a :: l) he
        rw [wsF_go m (a :: l) i (by simp) he hr, List.map_append, lx_one]
        exact Lx.step _ _ (by simp) he (wsF_lx m _ _ (by simp at hl ⊢; omega) hr)
      · rw [wsF_bad m (a :: l) i (by simp) he hr] at h
        exact absurd h hr
    · rw [wsF_err m (a :: l) i (by simp) he] at h
      exact absurd h (ft_ne he)
theorem lx_wsF {l : Bl} {ws : List Ky} (h : Lx l ws) : ∀ (m i : Nat), l.length ≤ m → (wsF m l i).2 = ok0 ∧ (wsF m l i).1.map stp = ws := by
  induction h with
  | nil => intro m i _; rw [wsF_nil]; exact ⟨rfl, rfl⟩
  | step l ws h1 he _ ih =>
    intro m i hl
    have hp := nxF_pos l he
    have h2 : 1 ≤ l.length := by
      cases l with
      | nil => exact absurd rfl h1
      | cons a r => simp
    obtain ⟨k, rfl⟩ : ∃ k, m = k + 1 := ⟨m - 1, by omega⟩
    obtain ⟨i1, i2⟩ := ih k (i + (nxF l).n) (by rw [List.length_drop]; omega)
    rw [wsF_go k l i h1 he i1, List.map_append, lx_one, i2]
    exact ⟨rfl, rfl⟩
theorem alW_few {l : Bl} (h : (alW l).2 = ok0) : l.length ≤ 1048576 := by
  by_cases hl : l.length ≤ 1048576
  · exact hl
  · unfold alW at h
    rw [if_pos (by omega)] at h
    exact absurd h (ft_ne (by decide))
theorem alW_ok {l : Bl} (h : (alW l).2 = ok0) : (wsF l.length l 0).2 = ok0 ∧ (alW l).1 = (wsF l.length l 0).1 := by
  have hl := alW_few h
  rw [alW_ws l hl] at h ⊢
  by_cases hr : (wsF l.length l 0).2 = ok0
  · rw [if_pos hr]; exact ⟨hr, rfl⟩
  · rw [if_neg hr] at h; exact absurd h hr
theorem alW_lx {l : Bl} (h : (alW l).2 = ok0) : Lx l ((alW l).1.map stp) := by
  obtain ⟨h1, h2⟩ := alW_ok h
  rw [h2]
  exact wsF_lx _ _ _ (Nat.le_refl _) h1
theorem lx_alW {l : Bl} {ws : List Ky} (hl : l.length ≤ 1048576) (h : Lx l ws) : (alW l).2 = ok0 ∧ (alW l).1.map stp = ws := by
  obtain ⟨h1, h2⟩ := lx_wsF h l.length 0 (Nat.le_refl _)
  rw [alW_ws l hl, if_pos h1]
  exact ⟨rfl, h2⟩
theorem lx_fun {l : Bl} {x y : List Ky} (hx : Lx l x) (hy : Lx l y) : x = y := by
  rw [← (lx_wsF hx l.length 0 (Nat.le_refl _)).2, ← (lx_wsF hy l.length 0 (Nat.le_refl _)).2]
theorem nxF_le (l : Bl) (h : l ≠ []) : (nxF l).n ≤ l.length := (nxF_fits l (by
  cases l with
  | nil => exact absurd rfl h
  | cons a r => simp)).1

/-- Behind a text that does not end in two signs -, a line's end, and what stands behind it. -/
theorem Lx.app10 {a : Bl} {x : List Ky} (h : Lx a x) (r : Bl) (y : List Ky) (hy : Lx (10 :: r) y) : ¬ ([45, 45] : Bl) <:+ a → Lx (a ++ 10 :: r) (x ++ y) := by
  induction h with
  | nil => intro _; exact hy
  | step l ws h1 he _ ih =>
    intro hd
    have e := nxF_loc l 10 r sp2_10 h1 (.inl (fun q => hd (by rw [q]; exact List.suffix_refl _))) (.inl rfl) he
    have ih2 := ih (fun q => hd (q.trans (List.drop_suffix _ _)))
    have hl := nxF_le l h1
    rw [List.append_assoc, ← e]
    refine Lx.step _ _ (by simp) (by rw [e]; exact he) ?_
    rw [e, drop_loc _ _ _ _ hl]
    exact ih2

theorem sg59_1 : sgB [59] = true := by decide
theorem sg59_2 (c : UInt8) : sgB [59, c] = false := by simp [sgB, sgs]
theorem sg59_3 (c d : UInt8) : sgB [59, c, d] = false := by simp [sgB, sgs]
theorem sgZ59 (b : Bl) : sgZ (59 :: b) (min 3 (59 :: b).length) = 1 := by
  rcases b with _ | ⟨c, _ | ⟨d, u⟩⟩
  · rw [show min 3 ([59] : Bl).length = 1 by decide]
    unfold sgZ
    rw [show ([59] : Bl).take (0 + 1) = [59] by rfl, sg59_1]
    rfl
  · rw [show min 3 (59 :: [c]).length = 2 by simp]
    unfold sgZ
    rw [show (59 :: [c]).take (1 + 1) = [59, c] by rfl, sg59_2]
    unfold sgZ
    rw [show (59 :: [c]).take (0 + 1) = [59] by rfl, sg59_1]
    rfl
  · rw [show min 3 (59 :: c :: d :: u).length = 3 by simp only [List.length_cons]; omega]
    unfold sgZ
    rw [show (59 :: c :: d :: u).take (2 + 1) = [59, c, d] by rfl, sg59_3]
    unfold sgZ
    rw [show (59 :: c :: d :: u).take (1 + 1) = [59, c] by rfl, sg59_2]
    unfold sgZ
    rw [show (59 :: c :: d :: u).take (0 + 1) = [59] by rfl, sg59_1]
    rfl
theorem head59 (b : Bl) : nxF (59 :: b) = its 5 [59] := by
  have hD : ah isD (59 :: b) = 0 := ah_stop _ _ (hd_end _ _ _ (by decide) (by decide))
  have hN : ah isN (59 :: b) = 0 := ah_stop _ _ (hd_end _ _ _ (by decide) (by decide))
  have h1 : odF (59 :: b) = nil0 := by simp [odF, opO, pre, List.isPrefixOf]
  have h2 : numF (59 :: b) = nil0 := by
    have e1 : hexZ (59 :: b) = 0 := by simp [hexZ, pre, List.isPrefixOf]
    have e2 : ptZ (59 :: b) = 0 := by unfold ptZ; rw [hD]; simp [pre, List.isPrefixOf]
    have e3 : deZ (59 :: b) = 0 := by unfold deZ; rw [e2]; rfl
    unfold numF nuZ
    rw [e1, e3]
    rfl
  have h3 : naF (59 :: b) = nil0 := by unfold naF; rw [hD, hN]; rfl
  have h4 : qnF (59 :: b) = nil0 := by simp [qnF, has1, Lib.indexByte]
  have h5 : qtF (59 :: b) = nil0 := by simp [qtF, has1, Lib.indexByte]
  have h6 : usF (59 :: b) = nil0 := by simp [usF, pre, List.isPrefixOf]
  have h7 : syF (59 :: b) = nil0 := by simp [syF, pre, List.isPrefixOf]
  have h8 : paF (59 :: b) = nil0 := by simp [paF, has1, Lib.indexByte]
  have hz : sgZ (59 :: b) (min 3 (59 :: b).length) = 1 := sgZ59 b
  have h9 : sgF (59 :: b) = its 5 [59] := by unfold sgF; rw [hz]; simp
  have hg : gaF (59 :: b) = nil0 := by
    have e1 : opL (59 :: b) = false := by simp [opL, pre, List.isPrefixOf]
    have e2 : isB (((59 :: b).headD 0).toNat : Int) = false := by simp only [List.headD_cons]; decide
    unfold gaF
    rw [e1, e2]
    simp [pre, List.isPrefixOf]
  have hc : chF (59 :: b) = its 5 [59] := by
    unfold chF
    rw [h1, h2, h3, h4, h5, h6, h7, h8, h9]
    simp [lgF, nil0, its]
  have e1 : (its 5 [59]).n = 1 := rfl
  unfold nxF
  rw [hg, hc, e1]
  simp [nil0]
theorem head10 (b : Bl) : nxF (10 :: b) = ⟨0, ba [], 1, 0⟩ := by
  have hg : gaF (10 :: b) = ⟨0, ba [], 1, 0⟩ := by
    have e2 : isB (((10 :: b).headD 0).toNat : Int) = true := by simp only [List.headD_cons]; decide
    unfold gaF
    rw [e2]
    rfl
  unfold nxF
  rw [hg]
  simp
theorem Lx.semi {b : Bl} {y : List Ky} (h : Lx b y) : Lx (59 :: b) ((5, ba [59]) :: y) := by
  have := Lx.step (59 :: b) y (by simp) (by rw [head59]; rfl) (by rw [head59]; exact h)
  rw [head59] at this
  exact this
theorem Lx.line {b : Bl} {y : List Ky} (h : Lx b y) : Lx (10 :: b) y := by
  have := Lx.step (10 :: b) y (by simp) (by rw [head10]) (by rw [head10]; exact h)
  rw [head10] at this
  exact this
/-- Two texts, a line's end and a sign ; between. -/
theorem Lx.two {a b : Bl} {x y : List Ky} (hx : Lx a x) (hy : Lx b y) (hd : ¬ ([45, 45] : Bl) <:+ a) : Lx (a ++ 10 :: 59 :: b) (x ++ (5, ba [59]) :: y) := hx.app10 _ _ hy.semi.line hd

/-! ### the pieces -/
theorem lgF_mem : ∀ (fs : List Fd) (b : Fd), lgF b fs = b ∨ lgF b fs ∈ fs
  | [], b => .inl rfl
  | f :: r, b => by
    simp only [lgF]
    split
    · exact .inr (by simp)
    · rcases lgF_mem r (if b.n < f.n then f else b) with h | h
      · rw [h]
        split
        · exact .inr (by simp)
        · exact .inl rfl
      · exact .inr (by simp [h])
theorem quF_k (l : Bl) (k : Int) (es : Bool) : (quF l k es).k = k ∨ (quF l k es).k = 0 := by
  cases l with
  | nil => exact .inr rfl
  | cons q r =>
    simp only [quF]
    cases hx : qt es q r [] 1 with
    | none => exact .inr rfl
    | some x => exact .inl rfl
theorem usB_k (l : Bl) : (usB l).k = 0 ∨ (usB l).k = 1 ∨ (usB l).k = 2 ∨ (usB l).k = 3 := by
  unfold usB
  rcases lgF_mem [naF l, qnF l, qtF l] nil0 with h | h
  · rw [h]; exact .inl rfl
  · simp only [List.mem_cons, List.not_mem_nil, or_false] at h
    rcases h with h | h | h
    · rw [h]; unfold naF; split
      · exact .inl rfl
      · exact .inr (.inl rfl)
    · rw [h]; unfold qnF; split
      · rcases quF_k l 2 false with e | e
        · exact .inr (.inr (.inl e))
        · exact .inl e
      · exact .inl rfl
    · rw [h]; unfold qtF; split
      · rcases quF_k l 3 true with e | e
        · exact .inr (.inr (.inr e))
        · exact .inl e
      · exact .inl rfl
/-- What is a sign is found by the last of the chain. -/
theorem chF_five (l : Bl) (h : (chF l).k = 5) : chF l = sgF l := by
  unfold chF at h ⊢
  rcases lgF_mem [odF l, numF l, naF l, qnF l, qtF l, usF l, syF l, paF l, sgF l] nil0 with e | e
  · rw [e] at h; exact absurd h (by decide)
  · simp only [List.mem_cons, List.not_mem_nil, or_false] at e
    have z0 : ∀ (f : Fd), f.k = 0 → f.k = 5 → False := fun f a b => by rw [a] at b; cases b
    rcases e with e | e | e | e | e | e | e | e | e
    · exfalso
      rw [e] at h
      unfold odF at h
      split at h
      · split at h
        · unfold reF at h
          split at h <;> cases h
        · cases h
      · cases h
    · exfalso; rw [e] at h; unfold numF at h; split at h <;> cases h
    · exfalso; rw [e] at h; unfold naF at h; split at h <;> cases h
    · exfalso
      rw [e] at h
      unfold qnF at h
      split at h
      · rcases quF_k l 2 false with q | q <;> (rw [q] at h; cases h)
      · cases h
    · exfalso
      rw [e] at h
      unfold qtF at h
      split at h
      · rcases quF_k l 3 true with q | q <;> (rw [q] at h; cases h)
      · cases h
    · exfalso
      rw [e] at h
      unfold usF at h
      split at h
      · split at h
        · rcases usB_k (l.drop 1) with q | q | q | q <;> (rw [q] at h; cases h)
        · cases h
      · cases h
    · exfalso
      rw [e] at h
      unfold syF at h
      split at h
      · split at h <;> cases h
      · cases h
    · exfalso; rw [e] at h; unfold paF at h; split at h <;> cases h
    · exact e
theorem reF_k (l : Bl) : (reF l).k = 0 := by unfold reF; split <;> rfl
theorem gaF_k (l : Bl) : (gaF l).k = 0 := by
  unfold gaF
  repeat' split
  all_goals first | rfl | exact reF_k l
theorem nxF_five (l : Bl) (h : (nxF l).k = 5) : nxF l = sgF l := by
  unfold nxF at h ⊢
  split
  · rename_i h1; rw [if_pos h1, gaF_k] at h; cases h
  · rename_i h1
    rw [if_neg h1] at h
    split
    · rename_i h2; rw [if_pos h2] at h; cases h
    · rename_i h2
      rw [if_neg h2] at h
      exact chF_five l h
def isSm (w : Wd) : Bool := decide (w.k = 5) && decide (w.tx = ba [59])
/-- Where a sign ; is read, it stands. -/
theorem nxF_semi (l : Bl) (h : (nxF l).k = 5) (ht : (nxF l).tx = ba [59]) : ∃ r, l = 59 :: r ∧ (nxF l).n = 1 := by
  have e := nxF_five l h
  rw [e] at h ht ⊢
  unfold sgF at h ht ⊢
  by_cases hz : sgZ l (min 3 l.length) = 0
  · rw [if_pos hz] at h; cases h
  · rw [if_neg hz] at ht ⊢
    have h2 : l.take (sgZ l (min 3 l.length)) = [59] := ba_inj ht
    cases l with
    | nil => simp at h2
    | cons a r =>
      obtain ⟨k, hk⟩ : ∃ k, sgZ (a :: r) (min 3 (a :: r).length) = k + 1 := ⟨sgZ (a :: r) (min 3 (a :: r).length) - 1, by omega⟩
      rw [hk] at h2
      rw [hk]
      simp only [List.take_succ_cons, List.cons.injEq] at h2
      refine ⟨r, by rw [h2.1], ?_⟩
      show ((a :: r).take (k + 1)).length = 1
      simp [h2.2]
/-- Up to the first sign ;, or to the end. -/
theorem seg : ∀ (m : Nat) (l : Bl) (i : Nat), l.length ≤ m → (wsF m l i).2 = ok0 →
    ((∀ x ∈ (wsF m l i).1, isSm x = false) ∧ Lx l ((wsF m l i).1.map stp)) ∨
    ∃ (t r : Bl) (p q : List Wd) (k : Nat), (wsF m l i).1 = p ++ ⟨5, ba [59], ((i + t.length : Nat) : Int)⟩ :: q ∧ (∀ x ∈ p, isSm x = false) ∧ l = t ++ 59 :: r ∧ Lx t (p.map stp) ∧ r.length ≤ k ∧ wsF k r (i + t.length + 1) = (q, ok0)
  | m, [], i, _, h => by
    left
    rw [wsF_nil]
    exact ⟨fun x hx => (by cases hx), Lx.nil⟩
  | 0, a :: l, i, hl, h => by simp at hl
  | m + 1, a :: l, i, hl, h => by
    by_cases he : (nxF (a :: l)).e = 0
    · by_cases hr : (wsF m ((a :: l).drop (nxF (a :: l)).n) (i + (nxF (a :: l)).n)).2 = ok0
      · have hp := nxF_pos (a :: l) he
        have hn := nxF_le (a :: l) (by simp)
        have hdl : ((a :: l).drop (nxF (a :: l)).n).length ≤ m := by rw [List.length_drop]; omega
        rw [wsF_go m (a :: l) i (by simp) he hr]
        by_cases hs : (nxF (a :: l)).k = 5 ∧ (nxF (a :: l)).tx = ba [59]
        · right
          obtain ⟨r, h1, h2⟩ := nxF_semi (a :: l) hs.1 hs.2
          rw [h2] at hr hdl ⊢
          rw [hs.1, hs.2]
          have hr' : (a :: l).drop 1 = r := by rw [h1]; rfl
          rw [hr'] at hr hdl ⊢
          refine ⟨[], r, [], (wsF m r (i + 1)).1, m, ?_, fun x hx => (by cases hx), by simpa using h1, Lx.nil, hdl, ?_⟩
          · simp
          · simp only [List.length_nil, Nat.add_zero]
            rw [← hr]
        · have hno : ∀ x ∈ (if (nxF (a :: l)).k = 0 then [] else [(⟨(nxF (a :: l)).k, (nxF (a :: l)).tx, (i : Int)⟩ : Wd)]), isSm x = false := by
            intro x hx
            split at hx
            · cases hx
            · simp only [List.mem_singleton] at hx
              subst hx
              simp only [isSm, Bool.and_eq_false_imp, decide_eq_true_eq, decide_eq_false_iff_not]
              exact fun q1 q2 => hs ⟨q1, q2⟩
          rcases seg m _ _ hdl hr with ⟨i1, i2⟩ | ⟨t, r, p, q, k, i1, i2, i3, i4, i5, i6⟩
          · left
            refine ⟨fun x hx => ?_, ?_⟩
            · rcases List.mem_append.1 hx with hx | hx
              · exact hno x hx
              · exact i1 x hx
            · rw [List.map_append, lx_one]
              exact Lx.step _ _ (by simp) he i2
          · right
            have hl2 : a :: l = ((a :: l).take (nxF (a :: l)).n ++ t) ++ 59 :: r := by
              rw [List.append_assoc, ← i3, List.take_append_drop]
            have hlt : ((a :: l).take (nxF (a :: l)).n ++ t).length = (nxF (a :: l)).n + t.length := by
              rw [List.length_append, List.length_take]
              omega
            have hne : (a :: l).take (nxF (a :: l)).n ++ t ≠ [] := by
              intro q
              have := congrArg List.length q
              rw [hlt] at this
              simp at this
              omega
            generalize hT : (a :: l).take (nxF (a :: l)).n ++ t = T at hl2 hlt hne
            have hcut := nxF_cut T 59 r sp2_59 hne (by decide) (by decide) (by rw [← hl2]; exact he) (by rw [← hl2, hlt]; omega)
            rw [← hl2] at hcut
            have hTd : T.drop (nxF T).n = t := by
              rw [hcut, ← hT]
              exact List.drop_left' (by rw [List.length_take]; omega)
            refine ⟨T, r, (if (nxF (a :: l)).k = 0 then [] else [(⟨(nxF (a :: l)).k, (nxF (a :: l)).tx, (i : Int)⟩ : Wd)]) ++ p, q, k, ?_, ?_, hl2, ?_, i5, ?_⟩
            · rw [i1, List.append_assoc]
              rw [show i + (nxF (a :: l)).n + t.length = i + T.length by rw [hlt]; omega]
            · intro x hx
              rcases List.mem_append.1 hx with hx | hx
              · exact hno x hx
              · exact i2 x hx
            · rw [List.map_append, lx_one, ← hcut]
              exact Lx.step _ _ hne (by rw [hcut]; exact he) (by rw [hTd]; exact i4)
            · rw [show i + T.length + 1 = i + (nxF (a :: l)).n + t.length + 1 by rw [hlt]; omega]
              exact i6
      · rw [wsF_bad m (a :: l) i (by simp) he hr] at h
        exact absurd h hr
    · rw [wsF_err m (a :: l) i (by simp) he] at h
      exact absurd h (ft_ne he)
theorem isSm_iff (w : Wd) : isSm w = true ↔ w.k = 5 ∧ w.tx = ba [59] := by simp [isSm]
theorem spF_pre (s : Bl) (rest : List Wd) (f : Nat) (ps : List ByteArray) : ∀ (p : List Wd) (n : Nat), (∀ x ∈ p, isSm x = false) → spF s (p ++ rest) f n ps = spF s rest f (n + p.length) ps
  | [], n, _ => rfl
  | x :: p, n, h => by
    have hx : ¬ (x.k = 5 ∧ x.tx = ba [59]) := by
      rw [← isSm_iff, h x (by simp)]
      simp
    rw [List.cons_append]
    simp only [spF]
    rw [if_neg hx, spF_pre s rest f ps p (n + 1) (fun y hy => h y (by simp [hy]))]
    congr 1
    simp only [List.length_cons]
    omega
/-- Pieces, and the words of each. -/
inductive Pcs : List ByteArray → List (List Ky) → Prop
  | nil : Pcs [] []
  | cons (p : ByteArray) (g : List Ky) (ps : List ByteArray) (gs : List (List Ky)) : Lx (bl p) g → g ≠ [] → Pcs ps gs → Pcs (p :: ps) (g :: gs)
def noSm (ws : List Wd) : List Ky := (ws.filter (fun x => !isSm x)).map stp
theorem noSm_all {p : List Wd} (h : ∀ x ∈ p, isSm x = false) : noSm p = p.map stp := by
  unfold noSm
  rw [List.filter_eq_self.2 (fun x hx => by rw [h x hx]; rfl)]
theorem spF_pcs (s : Bl) : ∀ (N m : Nat) (f : Nat) (ps : List ByteArray), (s.drop f).length ≤ N → f ≤ s.length → (s.drop f).length ≤ m → (wsF m (s.drop f) f).2 = ok0 →
    ∃ P gs, spF s (wsF m (s.drop f) f).1 f 0 ps = ps ++ P ∧ Pcs P gs ∧ gs.flatten = noSm (wsF m (s.drop f) f).1
  | N, m, f, ps, hN, hf, hm, h => by
    rcases seg m _ f hm h with ⟨i1, i2⟩ | ⟨t, r, p, q, k, i1, i2, i3, i4, i5, i6⟩
    · have e := spF_pre s [] f ps (wsF m (s.drop f) f).1 0 i1
      rw [List.append_nil, Nat.zero_add] at e
      rw [e]
      simp only [spF]
      rw [List.take_of_length_le (by rw [List.length_drop]; exact Nat.le_refl _)]
      by_cases hw : (wsF m (s.drop f) f).1 = []
      · refine ⟨[], [], ?_, Pcs.nil, ?_⟩
        · rw [hw]; simp
        · rw [hw]; rfl
      · have h0 : 0 < (wsF m (s.drop f) f).1.length := List.length_pos_iff.2 hw
        refine ⟨[ba (s.drop f)], [(wsF m (s.drop f) f).1.map stp], ?_, Pcs.cons _ _ _ _ i2 (by simpa using hw) Pcs.nil, ?_⟩
        · rw [if_pos h0]
        · rw [noSm_all i1]; simp
    · match N, hN with
      | 0, hN => rw [i3] at hN; simp at hN
      | N + 1, hN =>
        have hlen : t.length + 1 + r.length = s.length - f := by
          have := congrArg List.length i3
          rw [List.length_drop, List.length_append, List.length_cons] at this
          omega
        have hr : s.drop (f + t.length + 1) = r := by
          have : s.drop (f + t.length + 1) = (s.drop f).drop (t.length + 1) := by rw [List.drop_drop, Nat.add_assoc]
          rw [this, i3, show t.length + 1 = t.length + 1 from rfl, ← List.drop_drop, List.drop_left]
          rfl
        have e := spF_pre s (⟨5, ba [59], ((f + t.length : Nat) : Int)⟩ :: q) f ps p 0 i2
        rw [Nat.zero_add] at e
        rw [i1, e]
        simp only [spF, and_self, if_true, Int.toNat_natCast]
        have ht : (s.drop f).take (f + t.length - f) = t := by
          rw [i3, show f + t.length - f = t.length by omega, List.take_left]
        rw [ht]
        obtain ⟨P, gs, j1, j2, j3⟩ := spF_pcs s N k (f + t.length + 1) (if 0 < p.length then ps ++ [ba t] else ps) (by rw [hr]; rw [List.length_drop] at hN; omega) (by omega) (by rw [hr]; exact i5) (by rw [hr, i6])
        rw [hr, i6] at j1 j3
        simp only at j1 j3
        rw [j1]
        have hf2 : noSm (p ++ ⟨5, ba [59], ((f + t.length : Nat) : Int)⟩ :: q) = p.map stp ++ noSm q := by
          rw [← noSm_all i2]
          unfold noSm
          rw [List.filter_append, List.map_append, List.filter_cons_of_neg (by simp [isSm])]
        rw [hf2]
        by_cases hp : p = []
        · subst hp
          refine ⟨P, gs, ?_, j2, ?_⟩
          · simp
          · rw [j3]; rfl
        · have h0 : 0 < p.length := List.length_pos_iff.2 hp
          refine ⟨ba t :: P, p.map stp :: gs, ?_, Pcs.cons _ _ _ _ i4 (by simpa using hp) j2, ?_⟩
          · rw [if_pos h0, List.append_assoc]; rfl
          · rw [List.flatten_cons, j3]
theorem spW_pcs (s : Bl) (h : (alW s).2 = ok0) : (spW s).2 = ok0 ∧ ∃ gs, Pcs (spW s).1 gs ∧ gs.flatten = noSm (alW s).1 := by
  obtain ⟨h1, h2⟩ := alW_ok h
  have h' : (alW s).2 = ⟨0, 0⟩ := h
  obtain ⟨P, gs, j1, j2, j3⟩ := spF_pcs s s.length s.length 0 [] (by simp) (Nat.zero_le _) (by simp) (by rw [List.drop_zero]; exact h1)
  rw [List.drop_zero] at j1 j3
  unfold spW
  rw [if_pos h', h2, j1]
  exact ⟨rfl, gs, j2, j3⟩
theorem spW_bad (s : Bl) (h : (alW s).2 ≠ ok0) : spW s = ([], (alW s).2) := by
  have h' : ¬ (alW s).2 = ⟨0, 0⟩ := h
  unfold spW
  rw [if_neg h']

end Go.Proofs.YtddfbaaghjcbnaaGreatDoor

namespace Go.Proofs.YtddfbaaghjcbnaaGreatDoor
open Go.RowKit
set_option linter.unusedVariables false
set_option linter.unusedSimpArgs false

theorem qt_one (es : Bool) (q : UInt8) (sa : Bl) (i : Nat) : qt es q [q] sa i = some (sa, i + 1) := by simp [qt]
theorem qt_twice (es : Bool) (q : UInt8) (r sa : Bl) (i : Nat) (h : ¬ (q = 92 ∧ es = true)) : qt es q (q :: q :: r) sa i = qt es q r (sa ++ [q]) (i + 2) := by
  simp only [qt, if_neg h, if_true]
theorem qt_next (es : Bool) (q c : UInt8) (r sa : Bl) (i : Nat) (hr : r ≠ []) (h : ¬ (c = 92 ∧ es = true)) (hc : c ≠ q) : qt es q (c :: r) sa i = qt es q r (sa ++ [c]) (i + 1) := by
  cases r with
  | nil => exact absurd rfl hr
  | cons d r => simp only [qt, if_neg h, if_neg hc]
theorem qt_esc2 (q : UInt8) (r sa : Bl) (i : Nat) : qt true q (92 :: 92 :: r) sa i = qt true q r (sa ++ [92]) (i + 2) := by
  have e : esc 92 = [92] := by decide
  simp only [qt, and_self, if_true, e]
theorem qt_dbl (q : UInt8) : ∀ (x sa : Bl) (i : Nat), qt false q (dbl q x ++ [q]) sa i = some (sa ++ x, i + (dbl q x).length + 1)
  | [], sa, i => by rw [dbl_nil, List.nil_append, qt_one]; simp
  | c :: x, sa, i => by
    have ih := qt_dbl q x
    rw [dbl_cons]
    by_cases hc : c = q
    · subst hc
      rw [if_pos rfl]
      show qt false c (c :: c :: (dbl c x ++ [c])) sa i = _
      rw [qt_twice _ _ _ _ _ (by simp), ih]
      simp
      omega
    · rw [if_neg hc]
      show qt false q (c :: (dbl q x ++ [q])) sa i = _
      rw [qt_next _ _ _ _ _ _ (by simp) (by simp) hc, ih]
      simp
      omega
theorem qt_qto : ∀ (v sa : Bl) (i : Nat), qt true 39 (dbl 39 (dbl 92 v) ++ [39]) sa i = some (sa ++ v, i + (dbl 39 (dbl 92 v)).length + 1)
  | [], sa, i => by
    rw [dbl_nil, dbl_nil, List.nil_append, qt_one]
    simp
  | c :: v, sa, i => by
    have ih := qt_qto v
    rw [dbl_cons]
    by_cases h92 : c = 92
    · subst h92
      rw [if_pos rfl]
      have e : dbl 39 ([92, 92] ++ dbl 92 v) = 92 :: 92 :: dbl 39 (dbl 92 v) := rfl
      rw [e]
      show qt true 39 (92 :: 92 :: (dbl 39 (dbl 92 v) ++ [39])) sa i = _
      rw [qt_esc2, ih]
      simp
      omega
    · rw [if_neg h92]
      by_cases h39 : c = 39
      · subst h39
        have e : dbl 39 ([39] ++ dbl 92 v) = 39 :: 39 :: dbl 39 (dbl 92 v) := rfl
        rw [e]
        show qt true 39 (39 :: 39 :: (dbl 39 (dbl 92 v) ++ [39])) sa i = _
        rw [qt_twice _ _ _ _ _ (by decide), ih]
        simp
        omega
      · have e : dbl 39 ([c] ++ dbl 92 v) = c :: dbl 39 (dbl 92 v) := by
          show dbl 39 (c :: dbl 92 v) = _
          rw [dbl_cons, if_neg h39]
          rfl
        rw [e]
        show qt true 39 (c :: (dbl 39 (dbl 92 v) ++ [39])) sa i = _
        rw [qt_next _ _ _ _ _ _ (by simp) (by simp [h92]) h39, ih]
        simp
        omega
theorem sgZ_nope (c : UInt8) (u : Bl) (h : ∀ v, sgB (c :: v) = false) : ∀ n, sgZ (c :: u) n = 0
  | 0 => rfl
  | n + 1 => by
    unfold sgZ
    rw [show (c :: u).take (n + 1) = c :: u.take n by rfl, h]
    exact sgZ_nope c u h n
/-- What a byte tells that begins no word but one of quotes. -/
theorem nx_quote (c : UInt8) (u : Bl) (hc : c = 96 ∨ c = 39) : nxF (c :: u) = if 0 < (chF (c :: u)).n ∨ (chF (c :: u)).e ≠ 0 then chF (c :: u) else er 191 := by
  have hg : gaF (c :: u) = nil0 := by
    rcases hc with rfl | rfl
    · have e1 : opL (96 :: u) = false := by simp [opL, pre, List.isPrefixOf]
      have e2 : isB (((96 :: u : Bl).headD 0).toNat : Int) = false := by simp only [List.headD_cons]; decide
      unfold gaF
      rw [e1, e2]
      simp [pre, List.isPrefixOf]
    · have e1 : opL (39 :: u) = false := by simp [opL, pre, List.isPrefixOf]
      have e2 : isB (((39 :: u : Bl).headD 0).toNat : Int) = false := by simp only [List.headD_cons]; decide
      unfold gaF
      rw [e1, e2]
      simp [pre, List.isPrefixOf]
  unfold nxF
  rw [hg, if_neg (by simp [nil0])]
  by_cases h : (chF (c :: u)).n = 0 ∧ (chF (c :: u)).e = 0
  · rw [if_pos h, if_neg (by omega)]
  · rw [if_neg h, if_pos (by omega)]
theorem rest_quote (c : UInt8) (u : Bl) (hc : c = 96 ∨ c = 39) : odF (c :: u) = nil0 ∧ numF (c :: u) = nil0 ∧ naF (c :: u) = nil0 ∧ usF (c :: u) = nil0 ∧ syF (c :: u) = nil0 ∧ paF (c :: u) = nil0 ∧ sgF (c :: u) = nil0 := by
  have hD : ah isD (c :: u) = 0 := by rcases hc with rfl | rfl <;> exact ah_stop _ _ (hd_end _ _ _ (by decide) (by decide))
  have hN : ah isN (c :: u) = 0 := by rcases hc with rfl | rfl <;> exact ah_stop _ _ (hd_end _ _ _ (by decide) (by decide))
  have hs : ∀ v, sgB (c :: v) = false := by
    intro v
    rcases hc with rfl | rfl <;> simp [sgB, sgs]
  refine ⟨?_, ?_, ?_, ?_, ?_, ?_, ?_⟩
  · rcases hc with rfl | rfl <;> simp [odF, opO, pre, List.isPrefixOf]
  · have e1 : hexZ (c :: u) = 0 := by rcases hc with rfl | rfl <;> simp [hexZ, pre, List.isPrefixOf]
    have e2 : ptZ (c :: u) = 0 := by unfold ptZ; rw [hD]; rcases hc with rfl | rfl <;> simp [pre, List.isPrefixOf]
    have e3 : deZ (c :: u) = 0 := by unfold deZ; rw [e2]; rfl
    unfold numF nuZ
    rw [e1, e3]
    rfl
  · unfold naF; rw [hD, hN]; rfl
  · rcases hc with rfl | rfl <;> simp [usF, pre, List.isPrefixOf]
  · rcases hc with rfl | rfl <;> simp [syF, pre, List.isPrefixOf]
  · rcases hc with rfl | rfl <;> simp [paF, has1, Lib.indexByte]
  · unfold sgF
    rw [sgZ_nope c u hs]
    rfl
/-- A name between backticks. -/
theorem nx_btw (x : Bl) : nxF (btw 96 x) = ⟨2, ba x, (btw 96 x).length, 0⟩ := by
  obtain ⟨h1, h2, h3, h6, h7, h8, h9⟩ := rest_quote 96 (dbl 96 x ++ [96]) (.inl rfl)
  have h4 : qnF (96 :: (dbl 96 x ++ [96])) = ⟨2, ba x, (btw 96 x).length, 0⟩ := by
    have e : has1 (96 :: (dbl 96 x ++ [96])) [96] = true := by simp [has1, Lib.indexByte]
    unfold qnF quF
    rw [e]
    simp only [if_true, qt_dbl]
    simp [btw]
    omega
  have h5 : qtF (96 :: (dbl 96 x ++ [96])) = nil0 := by
    have e : has1 (96 :: (dbl 96 x ++ [96])) [39, 34] = false := by simp [has1, Lib.indexByte]
    unfold qtF
    rw [e]
    rfl
  have hn : 0 < (btw 96 x).length := by simp [btw]
  have hc : chF (96 :: (dbl 96 x ++ [96])) = ⟨2, ba x, (btw 96 x).length, 0⟩ := by
    unfold chF
    rw [h1, h2, h3, h4, h5, h6, h7, h8, h9]
    simp [lgF, nil0, hn]
  show nxF (96 :: (dbl 96 x ++ [96])) = _
  rw [nx_quote 96 _ (.inl rfl), hc, if_pos (.inl hn)]
/-- A text between apostrophes. -/
theorem nx_qto (v : Bl) : nxF (qto v) = ⟨3, ba v, (qto v).length, 0⟩ := by
  obtain ⟨h1, h2, h3, h6, h7, h8, h9⟩ := rest_quote 39 (dbl 39 (dbl 92 v) ++ [39]) (.inr rfl)
  have h4 : qnF (39 :: (dbl 39 (dbl 92 v) ++ [39])) = nil0 := by
    have e : has1 (39 :: (dbl 39 (dbl 92 v) ++ [39])) [96] = false := by simp [has1, Lib.indexByte]
    unfold qnF
    rw [e]
    rfl
  have h5 : qtF (39 :: (dbl 39 (dbl 92 v) ++ [39])) = ⟨3, ba v, (qto v).length, 0⟩ := by
    have e : has1 (39 :: (dbl 39 (dbl 92 v) ++ [39])) [39, 34] = true := by simp [has1, Lib.indexByte]
    unfold qtF quF
    rw [e]
    simp only [if_true, qt_qto]
    simp [qto, btw]
    omega
  have hn : 0 < (qto v).length := by simp [qto, btw]
  have hc : chF (39 :: (dbl 39 (dbl 92 v) ++ [39])) = ⟨3, ba v, (qto v).length, 0⟩ := by
    unfold chF
    rw [h1, h2, h3, h4, h5, h6, h7, h8, h9]
    simp [lgF, nil0, hn]
  show nxF (39 :: (dbl 39 (dbl 92 v) ++ [39])) = _
  rw [nx_quote 39 _ (.inr rfl), hc, if_pos (.inl hn)]
theorem head32 (b : Bl) : nxF (32 :: b) = ⟨0, ba [], 1, 0⟩ := by
  have hg : gaF (32 :: b) = ⟨0, ba [], 1, 0⟩ := by
    have e2 : isB (((32 :: b).headD 0).toNat : Int) = true := by simp only [List.headD_cons]; decide
    unfold gaF
    rw [e2]
    rfl
  unfold nxF
  rw [hg]
  simp
theorem Lx.blank {b : Bl} {y : List Ky} (h : Lx b y) : Lx (32 :: b) y := by
  have := Lx.step (32 :: b) y (by simp) (by rw [head32]) (by rw [head32]; exact h)
  rw [head32] at this
  exact this
/-- A word, a blank, and what stands behind. -/
theorem Lx.word {t r : Bl} {f : Fd} {y : List Ky} (h : nxF t = f) (he : f.e = 0) (hn : f.n = t.length) (ht : t ≠ []) (hd : t ≠ [45, 45]) (ho : opL t = false) (hr : Lx r y) : Lx (t ++ 32 :: r) (one1 f ++ y) := by
  subst h
  have e := nxF_loc t 32 r sp2_32 ht (.inl hd) (.inr (.inl ho)) he
  have := Lx.step (t ++ 32 :: r) y (by simp) (by rw [e]; exact he) (by
    rw [e, hn, List.drop_left]
    exact hr.blank)
  rw [e] at this
  exact this
/-- The last word. -/
theorem Lx.last {t : Bl} {f : Fd} (h : nxF t = f) (he : f.e = 0) (hn : f.n = t.length) (ht : t ≠ []) : Lx t (one1 f) := by
  subst h
  have := Lx.step t [] ht he (by rw [hn, List.drop_length]; exact Lx.nil)
  rwa [List.append_nil] at this

end Go.Proofs.YtddfbaaghjcbnaaGreatDoor

namespace Go.Proofs.YtddfbaaghjcbnaaGreatDoor
open Go.RowKit
set_option linter.unusedVariables false
set_option linter.unusedSimpArgs false

def zW (w : Wd) : Wd := ⟨w.k, w.tx, 0⟩
def zS (S : WS) : WS := ⟨S.left.map zW, S.nm, S.va⟩
/-- A step that does not look at places. -/
def Inv (a : St) : Prop := ∀ S, a (zS S) = ((a S).1, zS (a S).2)
theorem thn_inv {a b : St} (ha : Inv a) (hb : Inv b) : Inv (thn a b) := fun S => by
  simp only [thn, ha S]
  cases (a S).1
  · rfl
  · simp only [if_true]; exact hb _
theorem els_inv {a b : St} (ha : Inv a) (hb : Inv b) : Inv (els a b) := fun S => by
  simp only [els, ha S]
  cases (a S).1
  · simp only [Bool.false_eq_true, if_false]; exact hb _
  · rfl
theorem tog_inv {a : St} (ha : Inv a) : Inv (tog a) := fun S => by
  simp only [tog, ha S]
  cases (a S).1 <;> rfl
theorem enS_inv : Inv enS := fun S => by simp [enS, zS]
theorem begL_z : ∀ (l : List Wd) (ss : List ByteArray), begL (l.map zW) ss = begL l ss
  | [], [] => rfl
  | [], _ :: _ => rfl
  | _ :: _, [] => rfl
  | w :: l, s :: ss => by
    simp only [List.map_cons, begL, begL_z l ss]
    rfl
theorem naS_inv (ss : List ByteArray) : Inv (naS ss) := fun S => by
  simp only [naS, zS, begL_z]
  cases begL S.left ss
  · rfl
  · simp [List.map_drop]
theorem peS_inv (ss : List ByteArray) : Inv (peS ss) := fun S => by
  simp only [peS, naS_inv ss S]
theorem siS_inv (s : ByteArray) : Inv (siS s) := fun S => by
  obtain ⟨l, n, v⟩ := S
  cases l with
  | nil => rfl
  | cons w r =>
    simp only [siS, zS, List.map_cons, show sgW (zW w) s = sgW w s from rfl]
    cases sgW w s <;> rfl
theorem wnS_inv (ks : List Int) : Inv (wnS ks) := fun S => by
  obtain ⟨l, n, v⟩ := S
  cases l with
  | nil => rfl
  | cons w r =>
    simp only [wnS, zS, List.map_cons, show (zW w).k = w.k from rfl, show (zW w).tx = w.tx from rfl]
    by_cases h : w.k ∈ ks <;> simp [h]
theorem wvS_inv (ks : List Int) : Inv (wvS ks) := fun S => by
  obtain ⟨l, n, v⟩ := S
  cases l with
  | nil => rfl
  | cons w r =>
    simp only [wvS, zS, List.map_cons, show (zW w).k = w.k from rfl, show (zW w).tx = w.tx from rfl]
    by_cases h : w.k ∈ ks <;> simp [h]
theorem wxS_inv (ks : List Int) : Inv (wxS ks) := fun S => by
  obtain ⟨l, n, v⟩ := S
  cases l with
  | nil => rfl
  | cons w r =>
    simp only [wxS, zS, List.map_cons, show (zW w).k = w.k from rfl]
    by_cases h : w.k ∈ ks <;> simp [h]
theorem nmS_inv : Inv nmS := wnS_inv _
theorem ptS_inv : Inv ptS := thn_inv (siS_inv _) nmS_inv
theorem taS_inv : Inv taS := fun S => by
  simp only [taS, nmS_inv S]
  cases (nmS S).1
  · rfl
  · simp only [if_true, tog_inv ptS_inv (nmS S).2]
    cases (tog ptS (nmS S).2).1 <;> rfl
theorem vaS_inv : Inv vaS := tog_inv (thn_inv (els_inv (naS_inv _) (peS_inv _)) nmS_inv)
theorem unS_inv : Inv unS := fun S => rfl
theorem syS_inv : Inv syS := tog_inv (thn_inv (wnS_inv _) unS_inv)
theorem sgnS_inv (s : ByteArray) : Inv (sgnS s) := fun S => by
  simp only [sgnS, tog_inv (thn_inv (siS_inv s) (wvS_inv [4])) S]
  cases (tog (thn (siS s) (wvS [4])) S).1 <;> rfl
theorem liS_inv : Inv liS := els_inv (els_inv (wvS_inv _) (sgnS_inv _)) (sgnS_inv _)
theorem fou_inv {a : St} (h : Inv a) (k : Int) (S : WS) : fou k (a (zS S)) = fou k (a S) := by
  rw [h S]
  rfl
theorem endL_z (l : List Wd) (ss : List ByteArray) : endL (l.map zW) ss = endL l ss := by
  simp only [endL, List.length_map, ← List.map_drop, begL_z]
theorem firS_z (ks : List ByteArray) (l : List Wd) : firS ks (l.map zW) = firS ks l := by
  cases l <;> rfl
theorem anyIn_z (ks : List ByteArray) (l : List Wd) : (l.map zW).any (inS ks) = l.any (inS ks) := by
  rw [List.any_map]
  rfl
theorem oddW_z (L : List Wd) (i : Nat) (w : Wd) : oddW (L.map zW) i (zW w) = oddW L i w := by
  simp only [oddW, intL, filL, begL_z]
  rfl
theorem oddF_z (L : List Wd) : ∀ (l : List Wd) (i : Nat), oddF (L.map zW) (l.map zW) i = oddF L l i
  | [], _ => rfl
  | w :: r, i => by simp only [List.map_cons, oddF, oddW_z, oddF_z L r (i + 1)]
theorem lockF_z (l : List Wd) : lockF (l.map zW) = lockF l :=
  fou_inv (thn_inv (thn_inv (thn_inv (thn_inv (thn_inv (thn_inv (naS_inv _) (siS_inv _)) (wnS_inv _)) (siS_inv _)) (wxS_inv _)) (siS_inv _)) enS_inv) 10 (ws0 l)
theorem lotaF_z (l : List Wd) : lotaF (l.map zW) = lotaF l := fou_inv (thn_inv (els_inv (naS_inv _) (naS_inv _)) taS_inv) 10 (ws0 l)
theorem unloF_z (l : List Wd) : unloF (l.map zW) = unloF l :=
  fou_inv (thn_inv (els_inv (els_inv (naS_inv _) (naS_inv _)) (thn_inv (thn_inv (naS_inv _) (siS_inv _)) (siS_inv _))) enS_inv) 11 (ws0 l)
theorem begiF_z (l : List Wd) : begiF (l.map zW) = begiF l := fou_inv (els_inv (naS_inv _) (thn_inv (thn_inv (naS_inv _) (peS_inv _)) enS_inv)) 3 (ws0 l)
theorem endF_z (l : List Wd) : endF (l.map zW) = endF l := fou_inv (thn_inv (thn_inv (els_inv (naS_inv _) (naS_inv _)) (peS_inv _)) enS_inv) 4 (ws0 l)
theorem setuF_z (l : List Wd) : setuF (l.map zW) = setuF l := fou_inv (thn_inv (thn_inv (thn_inv (thn_inv (naS_inv _) (wnS_inv _)) (siS_inv _)) liS_inv) enS_inv) 7 (ws0 l)
theorem setF_z (l : List Wd) : setF (l.map zW) = setF l :=
  congrArg setG (fou_inv (thn_inv (thn_inv (thn_inv (thn_inv (naS_inv _) (els_inv vaS_inv syS_inv)) (siS_inv _)) liS_inv) enS_inv) 5 (ws0 l))
theorem setnF_z (l : List Wd) : setnF (l.map zW) = setnF l := fou_inv (thn_inv (thn_inv (naS_inv _) liS_inv) enS_inv) 5 ⟨l, (⟨#[110, 97, 109, 101, 115]⟩ : ByteArray), ba []⟩
theorem useF_z (l : List Wd) : useF (l.map zW) = useF l := fou_inv (thn_inv (thn_inv (naS_inv _) nmS_inv) enS_inv) 6 (ws0 l)
theorem mateF_z (l : List Wd) : mateF (l.map zW) = mateF l := fou_inv (thn_inv (thn_inv (naS_inv _) (peS_inv _)) taS_inv) 8 (ws0 l)
theorem drteF_z (l : List Wd) : drteF (l.map zW) = drteF l := fou_inv (thn_inv (thn_inv (thn_inv (naS_inv _) (peS_inv _)) taS_inv) enS_inv) 9 (ws0 l)
theorem fileF_z (l : List Wd) : fileF (l.map zW) = fileF l := by
  simp only [fileF, filL, begL_z]
  rfl
theorem writF_z (l : List Wd) : writF (l.map zW) = writF l := by
  simp only [writF, begL_z, endL_z, firS_z]
  rfl
def Inw (a a' : St) : Prop := ∀ S, a' (zS S) = ((a S).1, zS (a S).2)
theorem els_inw {a a' b b' : St} (ha : Inw a a') (hb : Inw b b') : Inw (els a b) (els a' b') := fun S => by
  simp only [els, ha S]
  cases (a S).1
  · simp only [Bool.false_eq_true, if_false]; exact hb _
  · rfl
theorem kr_inw (l : List Wd) : Inw (fun S => if firS kRead l then (true, S) else thn (siS (ba [40])) (naS [(⟨#[115, 101, 108, 101, 99, 116]⟩ : ByteArray)]) S) (fun S => if firS kRead (l.map zW) then (true, S) else thn (siS (ba [40])) (naS [(⟨#[115, 101, 108, 101, 99, 116]⟩ : ByteArray)]) S) := fun S => by
  simp only [firS_z]
  cases firS kRead l
  · simp only [Bool.false_eq_true, if_false]; exact thn_inv (siS_inv _) (naS_inv _) S
  · rfl
theorem fou_inw {a a' : St} (h : Inw a a') (k : Int) (S : WS) : fou k (a' (zS S)) = fou k (a S) := by
  rw [h S]
  rfl
theorem readF_z (l : List Wd) : readF (l.map zW) = readF l :=
  fou_inw (els_inw (els_inv (els_inv (naS_inv _) (naS_inv _)) (naS_inv _)) (kr_inw l)) 1 (ws0 l)
theorem clsF_z (l : List Wd) : clsF (l.map zW) = clsF l := by
  simp only [clsF, oddL, oddF_z, anyIn_z, lockF_z, lotaF_z, unloF_z, begiF_z, endF_z, setuF_z, setF_z, setnF_z, useF_z, mateF_z, drteF_z, fileF_z, writF_z, readF_z]
  rfl
theorem stmF_z : ∀ (l acc : List Wd), stmF (l.map zW) (acc.map zW) = (stmF l acc).map (List.map zW)
  | [], acc => by
    simp only [List.map_nil, stmF, List.map_eq_nil_iff]
    split <;> rfl
  | w :: r, acc => by
    simp only [List.map_cons, stmF, show isE (zW w) = isE w from rfl, List.map_eq_nil_iff]
    have h0 := stmF_z r []
    have h1 := stmF_z r (acc ++ [w])
    simp only [List.map_nil, List.map_append, List.map_cons] at h0 h1
    split
    · split
      · exact h0
      · simp only [List.map_cons, h0]
    · exact h1
theorem ofW_z (l : List Wd) : ofW (l.map zW) = ofW l := by
  have h := stmF_z l []
  simp only [List.map_nil] at h
  simp only [ofW, h, List.map_map]
  exact List.map_congr_left fun x _ => clsF_z x
theorem ofW_stp {l m : List Wd} (h : l.map (fun w => (w.k, w.tx)) = m.map (fun w => (w.k, w.tx))) : ofW l = ofW m := by
  have e : ∀ q : List Wd, q.map zW = (q.map (fun w => (w.k, w.tx))).map (fun p => (⟨p.1, p.2, 0⟩ : Wd)) := fun q => by
    rw [List.map_map]
    rfl
  rw [← ofW_z l, ← ofW_z m, e l, e m, h]
theorem stmF_two (x : Wd) (hx : isE x = true) (q : List Wd) : ∀ (p acc : List Wd), stmF (p ++ x :: q) acc = stmF p acc ++ stmF q []
  | [], acc => by
    simp only [List.nil_append, stmF, hx, if_true]
    split <;> rfl
  | y :: p, acc => by
    simp only [List.cons_append, stmF]
    split
    · split
      · exact stmF_two x hx q p []
      · rw [stmF_two x hx q p [], List.cons_append]
    · exact stmF_two x hx q p _
theorem ofW_two (x : Wd) (hx : isE x = true) (p q : List Wd) : ofW (p ++ x :: q) = ofW p ++ ofW q := by
  simp only [ofW, stmF_two x hx q p [], List.map_append]

end Go.Proofs.YtddfbaaghjcbnaaGreatDoor
