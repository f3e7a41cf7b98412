/-
  A value's bytes that are cut short are told as too short. Plain facts, of no program.
-/
import Derived.Test.YtfgghgoonfamkaaMSh
namespace Go.Proofs.Ytfgghgoonfamkaa
open Go.RowKit
set_option linter.unusedVariables false
set_option linter.unusedSimpArgs false

theorem tx_ln (s : ByteArray) : (txB s).length = (form (s.size : Int)).length + s.size := by simp [txB, nums_length]
theorem rt_part {s : ByteArray} (hs : s.size ≤ 1099511627776) {k : Nat} (hk : k < (txB s).length) : (readText ((txB s).take k)).2.2 = 4 := by
  rw [tx_ln] at hk
  unfold txB
  by_cases h : k < (form (s.size : Int)).length
  · rw [List.take_append_of_le_length (by omega)]
    have p := readInt_part (s.size : Int) k h
    obtain ⟨x, q, er, hr⟩ : ∃ x q er, readInt ((form (s.size : Int)).take k) = (x, q, er) := ⟨_, _, _, rfl⟩
    rw [hr] at p
    simp only at p
    subst p
    rw [readText_err hr (by decide)]
  · rw [List.take_append, List.take_of_length_le (by omega)]
    have h2 := readInt_form (s.size : Int) (by omega) (by omega) ((nums s).take (k - (form (s.size : Int)).length))
    rw [readText_short h2 (by simp [nums_length]; omega)]
theorem rf_cut {l : List Int} {n : Int} {i : Nat} (h1 : 1 ≤ n) (h8 : n ≤ 8) (hi : (i : Int) < n) : readFixed (l.take i) n = (0, 4) := by
  unfold readFixed
  rw [if_neg (by omega), if_pos (by rw [List.length_take]; omega)]
theorem rdF_cut {ls : List Int} {N i : Nat} {l : List Int} (hN : ls.contains (N : Int) = true) (hl : l.length = N) (hi : i < 1 + N) : rdF (([(N : Int)] ++ l).take i) ls = (zer12, 0, 4) := by
  unfold rdF
  cases i with
  | zero =>
    rw [List.take_zero]
    have e : readFixed [] 1 = (0, 4) := by decide
    rw [e, if_pos (by decide)]
  | succ j =>
    have e : readFixed (([(N : Int)] ++ l).take (j + 1)) 1 = ((N : Int), 0) := by
      unfold readFixed
      rw [if_neg (by omega), if_neg (by simp; omega)]
      simp [val]
    rw [e]
    simp only
    rw [if_neg (by decide), if_neg (by rw [hN]; decide), if_pos (by simp; omega)]
theorem cntB_ln {l : List Int} {n : Nat} (h : n ≤ l.length) : (cntB l n).length = 1 + n := by
  unfold cntB
  simp
  omega
theorem rdA_cut {v : Va} {t : Int} {un : Bool} (hv : VaK v) (hO : bOk v t un = true) (hts : v.t.size ≤ 100000) {i : Nat} (hi : i < (vaB v t).length) : (rdA ((vaB v t).take i) t un).2.2 = 4 := by
  have hO2 := hO
  unfold bOk at hO2
  simp only [Bool.and_eq_true] at hO2
  obtain ⟨hk1, hc⟩ := ok_cases hO2.1
  rcases hc with rfl | ⟨hne, hk, hf⟩
  · have e : vaB va0 t = [] := rfl
    rw [e] at hi
    exact absurd hi (by simp)
  · have hcs := kd_cases t un
    rw [rdA_k rfl, ← hk]
    rw [← hk] at hcs hk1
    unfold fit at hf
    rcases hcs with q | q | q | q | q | q | q | q | q
    · exact absurd q hk1
    · rw [if_neg (by omega), if_neg (by omega), if_neg (by omega), if_neg (by omega), if_neg (by omega)] at hf
      exact absurd hf (by decide)
    · have hs := ok_num hO2.1 q
      obtain ⟨n, hn⟩ := Int.eq_ofNat_of_zero_le (show 0 ≤ szP t by omega)
      have hB : vaB v t = le (uns (v.i % 18446744073709551616) (szP t)) n := by unfold vaB; rw [if_pos q, hn, Int.toNat_natCast]
      rw [hB, le_length] at hi
      rw [if_pos q, rf_cut (by omega) (by omega) (by omega)]
    all_goals try (
      obtain ⟨hs, b0, b1⟩ := ok_bits hv hO2.1 (by omega)
      obtain ⟨n, hn⟩ := Int.eq_ofNat_of_zero_le (show 0 ≤ szP t by omega)
      have hB : vaB v t = le v.b n := by unfold vaB; rw [if_neg (by omega), if_pos (by omega), hn, Int.toNat_natCast]
      rw [hB, le_length] at hi
      rw [if_neg (by omega), if_pos (by omega), rf_cut (by omega) (by omega) (by omega)]
      done)
    · have hB : vaB v t = cntB (datA v.w) (datN v.w) := by unfold vaB; rw [if_neg (by omega), if_neg (by omega), if_pos q]
      have hN : datN v.w = 0 ∨ datN v.w = 4 ∨ datN v.w = 7 ∨ datN v.w = 11 := by unfold datN; (repeat' split) <;> simp
      have hlen : ((datA v.w).take (datN v.w)).length = datN v.w := by rw [List.length_take, datA_len]; omega
      rw [hB, cntB_ln (by rw [datA_len]; omega)] at hi
      rw [if_neg (by omega), if_neg (by omega), if_pos q, hB]
      unfold rdD cntB
      rw [rdF_cut (by rcases hN with q | q | q | q <;> rw [q] <;> decide) hlen hi]
    · have hB : vaB v t = cntB (timA v.w) (timN v.w) := by unfold vaB; rw [if_neg (by omega), if_neg (by omega), if_neg (by omega), if_pos q]
      have hN : timN v.w = 0 ∨ timN v.w = 8 ∨ timN v.w = 12 := by unfold timN; (repeat' split) <;> simp
      have hlen : ((timA v.w).take (timN v.w)).length = timN v.w := by rw [List.length_take, timA_len]; omega
      rw [hB, cntB_ln (by rw [timA_len]; omega)] at hi
      rw [if_neg (by omega), if_neg (by omega), if_neg (by omega), if_pos q, hB]
      unfold rdT cntB
      rw [rdF_cut (by rcases hN with q | q | q <;> rw [q] <;> decide) hlen hi]
      rfl
    · have hB : vaB v t = txB v.t := by unfold vaB; rw [if_neg (by omega), if_neg (by omega), if_neg (by omega), if_neg (by omega), if_pos q]
      rw [hB] at hi
      rw [if_neg (by omega), if_neg (by omega), if_neg (by omega), if_neg (by omega), if_pos q, hB]
      exact rt_part (by omega) hi
theorem rd_cut {v : Va} {t : Int} {un : Bool} (hv : VaK v) (hO : bOk v t un = true) (hts : v.t.size ≤ 100000) {i : Nat} (hi : i < (vaB v t).length) : rdV ((vaB v t).take i) t un = (va0, 0, 4) := by
  have h := rdA_cut hv hO hts hi
  have hO2 := hO
  unfold bOk at hO2
  simp only [Bool.and_eq_true] at hO2
  obtain ⟨hk1, hc⟩ := ok_cases hO2.1
  have he : rdE ((vaB v t).take i) t un = 4 := by
    unfold rdE
    rw [h, if_neg (by intro q; exact absurd q.1 (by decide))]
  unfold rdV
  rw [if_neg hk1, he, if_pos (by decide)]

end Go.Proofs.Ytfgghgoonfamkaa
