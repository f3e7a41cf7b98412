/-
  What was written is read back; a whole code reads any bits: plain facts. No program and no memory is named here.
-/
import Derived.Test.YtgphglghjpeojaaHufWrite
namespace Go.Proofs.Ytgphglghjpeojaa
set_option linter.unusedVariables false
set_option linter.unusedSimpArgs false

theorem bit_low (a x : Int) (j m : Nat) (h : j < m) : (a + x * 2 ^ m) / 2 ^ j % 2 = a / 2 ^ j % 2 := by
  obtain ⟨d, rfl⟩ : ∃ d, m = j + 1 + d := ⟨m - j - 1, by omega⟩
  have hp : (0 : Int) < 2 ^ j := Int.pow_pos (by omega)
  have e : x * (2 : Int) ^ (j + 1 + d) = x * 2 ^ d * 2 * 2 ^ j := by
    rw [show j + 1 + d = d + 1 + j by omega, Int.pow_add, Int.pow_succ]
    simp only [Int.mul_assoc]
  rw [e, Int.add_mul_ediv_right _ _ (by omega)]
  omega
theorem bit_top (a x : Int) (m : Nat) (h0 : 0 ≤ a) (h1 : a < 2 ^ m) (x0 : 0 ≤ x) (x1 : x ≤ 1) : (a + x * 2 ^ m) / 2 ^ m % 2 = x := by
  have hp : (0 : Int) < 2 ^ m := Int.pow_pos (by omega)
  rw [Int.add_mul_ediv_right _ _ (by omega), Int.ediv_eq_zero_of_lt h0 h1]
  omega

theorem put_old {b : List Int} {n : Nat} (h : Wst b n) (x : Int) {i : Nat} (hi : i < n) : bitAt (putB b n x) i = bitAt b i := by
  have hl := room8_len h
  have hbl := h.len
  unfold bitAt putB
  rw [getD_set _ _ _ _ (by omega)]
  by_cases he : i / 8 = n / 8
  · rw [if_pos he, bit_low _ _ _ _ (show i % 8 < n % 8 by omega)]
    unfold room8
    rw [if_neg (by omega), he]
  · rw [if_neg he]
    unfold room8
    split
    · rw [List.getElem?_append_left (by omega)]
    · rfl
theorem put_new {b : List Int} {n : Nat} (h : Wst b n) {x : Int} (x0 : 0 ≤ x) (x1 : x ≤ 1) : bitAt (putB b n x) n = x := by
  have hl := room8_len h
  have ha := room8_at h
  unfold bitAt putB
  rw [getD_set _ _ _ _ (by omega), if_pos rfl]
  exact bit_top _ _ _ ha.1 ha.2 x0 x1
theorem pk_bits : ∀ (t : List Int) {b : List Int} {n : Nat}, Wst b n → Bit01 t → (∀ i, i < n → bitAt (pkF b n t) i = bitAt b i) ∧ ∀ j, j < t.length → bitAt (pkF b n t) (n + j) = t[j]?.getD 0
  | [], b, n, h, _ => ⟨fun i _ => rfl, fun j hj => by simp at hj⟩
  | x :: r, b, n, h, h01 => by
    have hx := h01 x (by simp)
    obtain ⟨ih1, ih2⟩ := pk_bits r (h.put hx.1 hx.2) (fun y hy => h01 y (by simp [hy]))
    refine ⟨fun i hi => ?_, fun j hj => ?_⟩
    · simp only [pkF]
      rw [ih1 i (by omega), put_old h x hi]
    · simp only [pkF]
      cases j with
      | zero =>
        show bitAt (pkF (putB b n x) (n + 1) r) n = _
        rw [ih1 n (by omega), put_new h hx.1 hx.2]
        rfl
      | succ j =>
        have := ih2 j (by simpa using hj)
        rw [show n + (j + 1) = n + 1 + j by omega, this]
        simp
theorem bto_at (c : Int) : ∀ (k j : Nat), j < k → (bto c k)[j]?.getD 0 = c / 2 ^ (k - 1 - j) % 2
  | 0, j, h => by omega
  | k + 1, j, h => by
    cases j with
    | zero => simp [bto]
    | succ j =>
      have := bto_at c k j (by omega)
      simp only [bto, List.getElem?_cons_succ]
      rw [this, show k + 1 - 1 - (j + 1) = k - 1 - j by omega]

theorem half_bit (c : Int) (e : Nat) : 2 * (c / 2 ^ (e + 1)) + c / 2 ^ e % 2 = c / 2 ^ e := by
  have : c / (2 : Int) ^ (e + 1) = c / 2 ^ e / 2 := by rw [Int.pow_succ, Int.ediv_ediv_of_nonneg (Int.le_of_lt (Int.pow_pos (by omega)))]
  rw [this]
  omega

/-- Where a symbol's bits stand, it is read. -/
theorem dec_code {L b : List Int} (hG : Good L) {at_ i k : Nat} (hi : i < L.length) (hk : ln L i = (k : Int)) (h0 : k ≠ 0) (hk15 : k ≤ 15) (hb : ∀ j, j < k → bitAt b (at_ + j) = code L i / 2 ^ (k - 1 - j) % 2) (hl : at_ + k ≤ 8 * b.length) :
    ∀ d n f, n + d + 1 = k → d + 1 ≤ f → dec L b at_ f n (code L i / 2 ^ (k - n)) = ((i : Int), (k : Int), 0)
  | d, n, 0, _, h => by omega
  | 0, n, f + 1, hn, _ => by
    have e : 2 * (code L i / 2 ^ (k - n)) + bitAt b (at_ + n) = code L i := by
      rw [hb n (by omega), show k - n = (k - 1 - n) + 1 by omega, half_bit, show k - 1 - n = 0 by omega]
      simp
    rw [dec_hit _ _ _ _ _ _ (by omega) i]
    · rw [show n + 1 = k by omega]
    · rw [e, show n + 1 = k by omega]
      exact fnd_some L h0 hi hk rfl
  | d + 1, n, f + 1, hn, hf => by
    have e : 2 * (code L i / 2 ^ (k - n)) + bitAt b (at_ + n) = code L i / 2 ^ (k - (n + 1)) := by
      rw [hb n (by omega), show k - n = (k - 1 - n) + 1 by omega, half_bit, show k - 1 - n = k - (n + 1) by omega]
    rw [dec_miss _ _ _ _ _ _ (by omega), e]
    · exact dec_code hG hi hk h0 hk15 hb hl d (n + 1) f (by omega) (by omega)
    · rw [e]
      refine fnd_none L (by omega) ?_
      have h1 := fc_up L (n + 1) d
      rw [show n + 1 + d + 1 = k by omega] at h1
      have h2 := (code_lt L hi k hk h0).1
      rw [show k - (n + 1) = d + 1 by omega]
      rw [Int.le_ediv_iff_mul_le (Int.pow_pos (by omega)), Int.mul_comm]
      omega

theorem rd_code {L b : List Int} (hG : Good L) {at_ i k : Nat} (hi : i < L.length) (hk : ln L i = (k : Int)) (h0 : k ≠ 0) (hb : ∀ j, j < k → bitAt b (at_ + j) = code L i / 2 ^ (k - 1 - j) % 2) (hl : at_ + k ≤ 8 * b.length) : rd L b at_ = ((i : Int), (k : Int), 0) := by
  have hf := hG.fit _ (ln_mem hi)
  have hk15 : k ≤ 15 := by omega
  have hz := rk_bound L hi k hk h0
  have hr := rk_nonneg L i
  have hlg := lng_ge L 16 k (by omega) (by omega)
  have hc := code_lt L hi k hk h0
  have hfc := fc_nonneg L k
  have hF := hG.le hk15
  have := dec_code hG hi hk h0 hk15 hb hl (k - 1) 0 (lng L 16) (by omega) (by omega)
  rw [Nat.sub_zero, Int.ediv_eq_zero_of_lt (by omega) (by omega)] at this
  exact this

/-- The bits of a text that stand in bytes. -/
structure Holds (b t : List Int) : Prop where
  room : t.length ≤ 8 * b.length
  bits : ∀ j, j < t.length → bitAt b j = t[j]?.getD 0

theorem holds_pk (L ss : List Int) : Holds (pkF [] 0 (wtext L ss)) (wtext L ss) ∧ (pkF [] 0 (wtext L ss)).length = ((wtext L ss).length + 7) / 8 := by
  have hW := Wst.pk (wtext L ss) Wst.nought (wtext_01 L ss)
  have hb := (pk_bits (wtext L ss) Wst.nought (wtext_01 L ss)).2
  have hl := hW.len
  rw [Nat.zero_add] at hl
  refine ⟨⟨by omega, fun j hj => ?_⟩, hl⟩
  have := hb j hj
  rwa [Nat.zero_add] at this

theorem rd_sym {L b : List Int} (hG : Good L) {p q : List Int} {s : Int} (hs : sbad L s = false) (h : Holds b (wtext L p ++ (sbits L s ++ q))) : rd L b (wtext L p).length = (s, ((sbits L s).length : Int), 0) := by
  have hg := sgood hs
  have hi : s.toNat < L.length := by omega
  have hl := sbits_len hG hs
  have hfit := hG.fit _ (ln_mem hi)
  have hlen : (sbits L s).length = (ln L s.toNat).toNat := by unfold sbits; rw [bto_len]
  have hr := h.room
  simp only [List.length_append] at hr
  have := rd_code hG (b := b) (at_ := (wtext L p).length) (i := s.toNat) (k := (sbits L s).length) hi (by omega) (by omega) (fun j hj => ?_) (by omega)
  · rw [this]
    congr 1
    omega
  · have hb := h.bits ((wtext L p).length + j) (by simp only [List.length_append]; omega)
    rw [hb, List.getElem?_append_right (by omega), List.getElem?_append_left (by omega), show (wtext L p).length + j - (wtext L p).length = j by omega]
    have := bto_at (code L s.toNat) (ln L s.toNat).toNat j (by omega)
    rw [← hlen] at this
    unfold sbits at this ⊢
    rw [bto_len] at this ⊢
    exact this

theorem alls_back {L b : List Int} (hG : Good L) : ∀ (q p acc : List Int), (∀ x ∈ q, sbad L x = false) → Holds b (wtext L p ++ wtext L q) → alls L b q.length (wtext L p).length acc = (acc ++ q, ((wtext L p ++ wtext L q).length : Int), 0)
  | [], p, acc, _, _ => by simp [alls, wtext]
  | s :: q, p, acc, hg, h => by
    have hr := rd_sym hG (hg s (by simp)) h
    have e : wtext L (p ++ [s]) = wtext L p ++ sbits L s := by rw [wtext_app]; simp [wtext]
    rw [List.length_cons, alls_ok _ _ _ _ _ (by rw [hr]), hr]
    have ih := alls_back hG q (p ++ [s]) (acc ++ [s]) (fun x hx => hg x (by simp [hx])) (by rw [e]; simpa [wtext] using h)
    rw [e] at ih
    simp only [Int.toNat_natCast]
    rw [show (wtext L p).length + (sbits L s).length = (wtext L p ++ sbits L s).length by simp, ih]
    simp [wtext]

/-- A whole code reads any bits. -/
theorem dec_whole {L b : List Int} (hG : Good L) (hw : Fl L (lng L 16) = 2 ^ (lng L 16)) (at_ : Nat) (hl : at_ + lng L 16 ≤ 8 * b.length) : ∀ (f n : Nat) (x : Int), n + f = lng L 16 → Fl L n ≤ x → x < 2 ^ n → (dec L b at_ f n x).2.2 = 0
  | 0, n, x, hn, h0, h1 => by
    rw [Nat.add_zero] at hn
    subst hn
    omega
  | f + 1, n, x, hn, h0, h1 => by
    have hb := bitAt_bd b (at_ + n)
    by_cases hx : 2 * x + bitAt b (at_ + n) < Fl L (n + 1)
    · obtain ⟨i, hi, hk, hc⟩ := code_hit L (n + 1) (by omega) (2 * x + bitAt b (at_ + n)) (by rw [fc_succ]; omega) hx
      rw [dec_hit _ _ _ _ _ _ (by omega) i (fnd_some L (by omega) hi hk hc)]
    · rw [dec_miss _ _ _ _ _ _ (by omega) (fnd_none L (by omega) (by omega))]
      exact dec_whole hG hw at_ hl f (n + 1) _ (by omega) (by omega) (by rw [Int.pow_succ]; omega)
theorem Fl_zeros (L : List Int) (k : Nat) : ∀ d, (∀ j, k < j → j ≤ k + d → cz L j = 0) → Fl L (k + d) = 2 ^ d * Fl L k
  | 0, _ => by simp
  | d + 1, h => by
    have ih := Fl_zeros L k d (fun j h1 h2 => h j h1 (by omega))
    rw [show k + (d + 1) = k + d + 1 by omega]
    simp only [Fl]
    rw [ih, h (k + d + 1) (by omega) (by omega), Int.pow_succ]
    rw [Int.mul_comm ((2 : Int) ^ d) 2, Int.mul_assoc]
    omega
theorem whole_lng {L : List Int} (hw : Fl L 15 = 32768) : Fl L (lng L 16) = 2 ^ (lng L 16) := by
  have hl := lng_le L 16
  have h := Fl_zeros L (lng L 16) (15 - lng L 16) (fun j h1 h2 => lng_cz L 16 j h1 (by omega))
  rw [show lng L 16 + (15 - lng L 16) = 15 by omega, hw] at h
  have h3 : (2 : Int) ^ (15 - lng L 16) * 2 ^ (lng L 16) = 32768 := by rw [← Int.pow_add, show 15 - lng L 16 + lng L 16 = 15 by omega]; decide
  have h4 : (2 : Int) ^ (15 - lng L 16) * Fl L (lng L 16) = 2 ^ (15 - lng L 16) * 2 ^ (lng L 16) := by rw [h3, ← h]
  exact Int.eq_of_mul_eq_mul_left (Int.ne_of_gt (Int.pow_pos (by omega))) h4
theorem rd_whole {L b : List Int} (hG : Good L) (hw : Fl L 15 = 32768) (hb : 2 ≤ b.length) : (rd L b 0).2.2 = 0 := by
  have hl := lng_le L 16
  exact dec_whole hG (whole_lng hw) 0 (by omega) (lng L 16) 0 0 (by omega) (by simp [Fl]) (by simp)

/-- No code begins another. -/
theorem no_prefix {L : List Int} (hG : Good L) {i j : Nat} (hi : i < L.length) (hj : j < L.length) (hij : i ≠ j) (h0 : 0 < ln L i) (hle : ln L i ≤ ln L j) : code L j / 2 ^ (ln L j - ln L i).toNat ≠ code L i := by
  obtain ⟨a, ha⟩ : ∃ a : Nat, ln L i = (a : Int) := ⟨(ln L i).toNat, by omega⟩
  obtain ⟨b, hb⟩ : ∃ b : Nat, ln L j = (b : Int) := ⟨(ln L j).toNat, by omega⟩
  have c1 := code_lt L hi a ha (by omega)
  have c2 := code_lt L hj b hb (by omega)
  rw [ha, hb] at hle
  rw [ha, hb, show ((b : Int) - (a : Int)).toNat = b - a by omega]
  by_cases hab : a = b
  · subst hab
    rw [Nat.sub_self]
    simp only [Int.pow_zero, Int.ediv_one]
    intro e
    exact hij (code_inj L hi hj a (by omega) ha hb e.symm)
  · have h1 := fc_up L a (b - a - 1)
    rw [show a + (b - a - 1) + 1 = b by omega, show b - a - 1 + 1 = b - a by omega] at h1
    have h2 : Fl L a ≤ code L j / 2 ^ (b - a) := by
      rw [Int.le_ediv_iff_mul_le (Int.pow_pos (by omega)), Int.mul_comm]
      omega
    omega
theorem code_pow {L : List Int} (hG : Good L) {i : Nat} (hi : i < L.length) : code L i < 2 ^ (ln L i).toNat := by
  have hf := hG.fit _ (ln_mem hi)
  by_cases h0 : ln L i = 0
  · unfold code; rw [if_pos h0, h0]; decide
  · obtain ⟨a, ha⟩ : ∃ a : Nat, ln L i = (a : Int) := ⟨(ln L i).toNat, by omega⟩
    have c1 := code_lt L hi a ha (by omega)
    have := hG.le (k := a) (by omega)
    rw [ha]
    simp only [Int.toNat_natCast]
    omega
theorem code_neg {L : List Int} {i : Nat} (hi : i < L.length) (hf : 0 ≤ ln L i) : (ln L i = 0 ↔ code L i = -1) := by
  constructor
  · intro h; unfold code; rw [if_pos h]
  · intro h
    by_cases h0 : ln L i = 0
    · exact h0
    · obtain ⟨a, ha⟩ : ∃ a : Nat, ln L i = (a : Int) := ⟨(ln L i).toNat, by omega⟩
      have c1 := code_lt L hi a ha (by omega)
      have := fc_nonneg L a
      omega

end Go.Proofs.Ytgphglghjpeojaa
