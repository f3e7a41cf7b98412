/-
  Where a symbol's bits stand, it is read: plain facts. No program and no memory is named here.
-/
import Derived.Test.YtmlodlmmfkpibaaDoorBitPut
import Derived.Test.YtmlodlmmfkpibaaDoorHufDecPlain
namespace Go.Proofs.YtmlodlmmfkpibaaDoor
set_option linter.unusedVariables false
set_option linter.unusedSimpArgs false

theorem bit_low (a x : Int) (j m : Nat) (h : j < m) : (a + x * 2 ^ m) / 2 ^ j % 2 = a / 2 ^ j % 2 := by
  obtain ⟨d, rfl⟩ : ∃ d, m = j + 1 + d := ⟨m - j - 1, by omega⟩
  have hp : (0 : Int) < 2 ^ j := Int.pow_pos (by omega)
  have e : x * (2 : Int) ^ (j + 1 + d) = x * 2 ^ d * 2 * 2 ^ j := by
    rw [show j + 1 + d = d + 1 + j by omega, Int.pow_add, Int.pow_succ]
    simp only [Int.mul_assoc]
  rw [e, Int.add_mul_ediv_right _ _ (by omega)]
  omega
theorem bit_top (a x : Int) (m : Nat) (h0 : 0 ≤ a) (h1 : a < 2 ^ m) (x0 : 0 ≤ x) (x1 : x ≤ 1) : (a + x * 2 ^ m) / 2 ^ m % 2 = x := by
  have hp : (0 : Int) < 2 ^ m := Int.pow_pos (by omega)
  rw [Int.add_mul_ediv_right _ _ (by omega), Int.ediv_eq_zero_of_lt h0 h1]
  omega

theorem put_old {b : List Int} {n : Nat} (h : Wst b n) (x : Int) {i : Nat} (hi : i < n) : bitAt (putB b n x) i = bitAt b i := by
  have hl := room8_len h
  have hbl := h.len
  unfold bitAt putB
  rw [getD_set _ _ _ _ (by omega)]
  by_cases he : i / 8 = n / 8
  · rw [if_pos he, bit_low _ _ _ _ (show i % 8 < n % 8 by omega)]
    unfold room8
    rw [if_neg (by omega), he]
  · rw [if_neg he]
    unfold room8
    split
    · rw [List.getElem?_append_left (by omega)]
    · rfl
theorem put_new {b : List Int} {n : Nat} (h : Wst b n) {x : Int} (x0 : 0 ≤ x) (x1 : x ≤ 1) : bitAt (putB b n x) n = x := by
  have hl := room8_len h
  have ha := room8_at h
  unfold bitAt putB
  rw [getD_set _ _ _ _ (by omega), if_pos rfl]
  exact bit_top _ _ _ ha.1 ha.2 x0 x1
theorem pk_bits : ∀ (t : List Int) {b : List Int} {n : Nat}, Wst b n → Bit01 t → (∀ i, i < n → bitAt (pkF b n t) i = bitAt b i) ∧ ∀ j, j < t.length → bitAt (pkF b n t) (n + j) = t[j]?.getD 0
  | [], b, n, h, _ => ⟨fun i _ => rfl, fun j hj => by simp at hj⟩
  | x :: r, b, n, h, h01 => by
    have hx := h01 x (by simp)
    obtain ⟨ih1, ih2⟩ := pk_bits r (h.put hx.1 hx.2) (fun y hy => h01 y (by simp [hy]))
    refine ⟨fun i hi => ?_, fun j hj => ?_⟩
    · simp only [pkF]
      rw [ih1 i (by omega), put_old h x hi]
    · simp only [pkF]
      cases j with
      | zero =>
        show bitAt (pkF (putB b n x) (n + 1) r) n = _
        rw [ih1 n (by omega), put_new h hx.1 hx.2]
        rfl
      | succ j =>
        have := ih2 j (by simpa using hj)
        rw [show n + (j + 1) = n + 1 + j by omega, this]
        simp
theorem bto_at (c : Int) : ∀ (k j : Nat), j < k → (bto c k)[j]?.getD 0 = c / 2 ^ (k - 1 - j) % 2
  | 0, j, h => by omega
  | k + 1, j, h => by
    cases j with
    | zero => simp [bto]
    | succ j =>
      have := bto_at c k j (by omega)
      simp only [bto, List.getElem?_cons_succ]
      rw [this, show k + 1 - 1 - (j + 1) = k - 1 - j by omega]

theorem half_bit (c : Int) (e : Nat) : 2 * (c / 2 ^ (e + 1)) + c / 2 ^ e % 2 = c / 2 ^ e := by
  have : c / (2 : Int) ^ (e + 1) = c / 2 ^ e / 2 := by rw [Int.pow_succ, Int.ediv_ediv_of_nonneg (Int.le_of_lt (Int.pow_pos (by omega)))]
  rw [this]
  omega

/-- Where a symbol's bits stand, it is read. -/
theorem dec_code {L b : List Int} (hG : Good L) {at_ i k : Nat} (hi : i < L.length) (hk : ln L i = (k : Int)) (h0 : k ≠ 0) (hk15 : k ≤ 15) (hb : ∀ j, j < k → bitAt b (at_ + j) = code L i / 2 ^ (k - 1 - j) % 2) (hl : at_ + k ≤ 8 * b.length) :
    ∀ d n f, n + d + 1 = k → d + 1 ≤ f → dec L b at_ f n (code L i / 2 ^ (k - n)) = ((i : Int), (k : Int), 0)
  | d, n, 0, _, h => by omega
  | 0, n, f + 1, hn, _ => by
    have e : 2 * (code L i / 2 ^ (k - n)) + bitAt b (at_ + n) = code L i := by
      rw [hb n (by omega), show k - n = (k - 1 - n) + 1 by omega, half_bit, show k - 1 - n = 0 by omega]
      simp
    rw [dec_hit _ _ _ _ _ _ (by omega) i]
    · rw [show n + 1 = k by omega]
    · rw [e, show n + 1 = k by omega]
      exact fnd_some L h0 hi hk rfl
  | d + 1, n, f + 1, hn, hf => by
    have e : 2 * (code L i / 2 ^ (k - n)) + bitAt b (at_ + n) = code L i / 2 ^ (k - (n + 1)) := by
      rw [hb n (by omega), show k - n = (k - 1 - n) + 1 by omega, half_bit, show k - 1 - n = k - (n + 1) by omega]
    rw [dec_miss _ _ _ _ _ _ (by omega), e]
    · exact dec_code hG hi hk h0 hk15 hb hl d (n + 1) f (by omega) (by omega)
    · rw [e]
      refine fnd_none L (by omega) ?_
      have h1 := fc_up L (n + 1) d
      rw [show n + 1 + d + 1 = k by omega] at h1
      have h2 := (code_lt L hi k hk h0).1
      rw [show k - (n + 1) = d + 1 by omega]
      rw [Int.le_ediv_iff_mul_le (Int.pow_pos (by omega)), Int.mul_comm]
      omega

theorem rd_code {L b : List Int} (hG : Good L) {at_ i k : Nat} (hi : i < L.length) (hk : ln L i = (k : Int)) (h0 : k ≠ 0) (hb : ∀ j, j < k → bitAt b (at_ + j) = code L i / 2 ^ (k - 1 - j) % 2) (hl : at_ + k ≤ 8 * b.length) : rd L b at_ = ((i : Int), (k : Int), 0) := by
  have hf := hG.fit _ (ln_mem hi)
  have hk15 : k ≤ 15 := by omega
  have hz := rk_bound L hi k hk h0
  have hr := rk_nonneg L i
  have hlg := lng_ge L 16 k (by omega) (by omega)
  have hc := code_lt L hi k hk h0
  have hfc := fc_nonneg L k
  have hF := hG.le hk15
  have := dec_code hG hi hk h0 hk15 hb hl (k - 1) 0 (lng L 16) (by omega) (by omega)
  rw [Nat.sub_zero, Int.ediv_eq_zero_of_lt (by omega) (by omega)] at this
  exact this

end Go.Proofs.YtmlodlmmfkpibaaDoor
