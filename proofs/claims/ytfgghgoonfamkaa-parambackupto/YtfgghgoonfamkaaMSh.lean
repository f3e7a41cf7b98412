/-
  What is written of a value is read back as it was, whatever stands behind it; what was read may be, and its own bytes are no more. No program and no memory is named here.
  What was read as a value may be one, and its own bytes are no more than those that were read. No program and no memory is named here.
-/
import Derived.Test.YtfgghgoonfamkaaVaBy3
import Derived.Test.YtfgghgoonfamkaaVaRd3
namespace Go.Proofs.Ytfgghgoonfamkaa
open Go.RowKit
set_option linter.unusedVariables false
set_option linter.unusedSimpArgs false

theorem rf_le {x : Int} {n : Nat} (h1 : 1 ≤ n) (h8 : n ≤ 8) (h0 : 0 ≤ x) (hx : x < 2 ^ (8 * n)) (r : List Int) : readFixed (le x n ++ r) (n : Int) = (x, 0) := by
  unfold readFixed
  rw [if_neg (by omega), if_neg (by simp [le_length]; omega), Int.toNat_natCast, val_le_fits x h0 r n hx]
theorem sg_un {y n : Int} (hn : n = 1 ∨ n = 2 ∨ n = 4 ∨ n = 8) (h0 : 0 ≤ y) (h1 : y < 18446744073709551616) : sgn (uns y n) n = sgn y n := by
  unfold sgn uns
  rcases hn with rfl | rfl | rfl | rfl <;> simp <;> omega
theorem kd0 {t : Int} {un : Bool} (h : kdV t un = 0) : t = 6 := by
  unfold kdV at h
  by_cases q : t = 6
  · exact q
  · exfalso
    repeat' split at h
    all_goals omega
theorem rt_back (s : ByteArray) (hs : s.size ≤ 1099511627776) (r : List Int) : readText (txB s ++ r) = (s, ((txB s).length : Int), 0) := by
  unfold txB
  rw [List.append_assoc]
  have hi := readInt_form (s.size : Int) (by omega) (by omega) (nums s ++ r)
  have hl : ((form (s.size : Int) ++ (nums s ++ r)).length : Int) - ((form (s.size : Int)).length : Int) = (s.size : Int) + r.length := by
    simp [nums_length]
    omega
  rw [readText_long hi (by rw [hl]; omega), Int.toNat_natCast, Int.toNat_natCast, List.drop_left]
  have ht : (nums s ++ r).take s.size = nums s := by rw [← nums_length s, List.take_left]
  rw [ht]
  refine Prod.ext ?_ (Prod.ext ?_ rfl)
  · simp only
    exact str_nums s
  · simp [nums_length]
theorem le2 (y : Int) : le y 2 = [y % 256, y / 256 % 256] := by
  simp [le]
theorem le4 (y : Int) : le y 4 = [y % 256, y / 256 % 256, y / 65536 % 256, y / 16777216 % 256] := by
  simp [le]
theorem val2 {y : Int} (h0 : 0 ≤ y) (h1 : y < 65536) (r : List Int) : val (y % 256 :: y / 256 % 256 :: r) 2 = y := by
  have := val_le_fits y h0 r 2 (by simpa using h1)
  rwa [le2] at this
theorem val4 {y : Int} (h0 : 0 ≤ y) (h1 : y < 4294967296) (r : List Int) : val (y % 256 :: y / 256 % 256 :: y / 65536 % 256 :: y / 16777216 % 256 :: r) 4 = y := by
  have := val_le_fits y h0 r 4 (by simpa using h1)
  rwa [le4] at this
theorem val4z (r : List Int) : val (0 :: 0 :: 0 :: 0 :: r) 4 = 0 := by simp [val]
theorem val2z (r : List Int) : val (0 :: 0 :: r) 2 = 0 := by simp [val]
/-- A first byte that may be, and as many bytes: what is told of them. -/
theorem rdF_at {ls : List Int} {N : Nat} {l r : List Int} (hN : ls.contains (N : Int) = true) (h9 : N ≤ 12) (hl : l.length = N) : rdF ([(N : Int)] ++ l ++ r) ls = (l ++ zer12.drop N, 1 + (N : Int), 0) := by
  have e : readFixed ([(N : Int)] ++ l ++ r) 1 = ((N : Int), 0) := by
    unfold readFixed
    rw [if_neg (by omega), if_neg (by simp; omega)]
    simp [val]
  unfold rdF
  rw [e]
  simp only
  rw [if_neg (by decide), if_neg (by rw [hN]; decide), if_neg (by simp [hl]; omega), Int.toNat_natCast]
  refine Prod.ext ?_ rfl
  simp only
  rw [List.append_assoc, List.singleton_append, List.drop_succ_cons, List.drop_zero, ← hl, List.take_left]
theorem rd_date {w : Wh} {t : Int} (h : dtOk w t = true) (r : List Int) : rdD (cntB (datA w) (datN w) ++ r) = (w, ((cntB (datA w) (datN w)).length : Int), 0) := by
  obtain ⟨hc, hy, hmo, hd⟩ := dt_bd h
  have hng : w.ng = false := by unfold dtOk at h; simp only [Bool.and_eq_true, Bool.not_eq_true'] at h; exact h.2.1
  unfold clk at hc
  simp only [Bool.and_eq_true] at hc
  have h1 := inr_bd hc.1
  have h2 := inr_bd hc.2.1
  have h3 := inr_bd hc.2.2.1
  have h4 := inr_bd hc.2.2.2
  have hN : datN w = 0 ∨ datN w = 4 ∨ datN w = 7 ∨ datN w = 11 := by unfold datN; (repeat' split) <;> simp
  have hlen : ((datA w).take (datN w)).length = datN w := by rw [List.length_take, datA_len]; omega
  have hF := rdF_at (ls := dLs) (N := datN w) (l := (datA w).take (datN w)) (r := r) (by rcases hN with q | q | q | q <;> rw [q] <;> decide) (by omega) hlen
  unfold rdD cntB
  rw [hF]
  refine Prod.ext ?_ (Prod.ext ?_ rfl)
  · simp only
    have eA : datA w = [w.y % 256, w.y / 256 % 256, w.mo, w.d, w.h, w.mi, w.s, w.mc % 256, w.mc / 256 % 256, w.mc / 65536 % 256, w.mc / 16777216 % 256] := by
      unfold datA clkB
      rw [le2, le4, Int.emod_eq_of_lt (a := w.mo) (by omega) (by omega), Int.emod_eq_of_lt (a := w.d) (by omega) (by omega), Int.emod_eq_of_lt (a := w.h) (by omega) (by omega), Int.emod_eq_of_lt (a := w.mi) (by omega) (by omega), Int.emod_eq_of_lt (a := w.s) (by omega) (by omega)]
      rfl
    rw [eA]
    obtain ⟨ng, y, mo, d, hh, mi, s, mc⟩ := w
    simp only at *
    subst hng
    by_cases a : (⟨false, y, mo, d, hh, mi, s, mc⟩ : Wh) = wh0
    · rw [show datN ⟨false, y, mo, d, hh, mi, s, mc⟩ = 0 by unfold datN; rw [if_pos a], a]
      simp [datO, clkO, zer12, val, wh0]
    · by_cases bm : mid ⟨false, y, mo, d, hh, mi, s, mc⟩ = true
      · rw [show datN ⟨false, y, mo, d, hh, mi, s, mc⟩ = 4 by unfold datN; rw [if_neg a, if_pos bm]]
        unfold mid at bm
        simp only [Bool.and_eq_true, beq_iff_eq] at bm
        obtain ⟨rfl, rfl, rfl, rfl⟩ := bm
        simp [datO, clkO, zer12, val2 hy.1 (by omega), val4z]
      · by_cases cm : mc = 0
        · subst cm
          rw [show datN ⟨false, y, mo, d, hh, mi, s, 0⟩ = 7 by unfold datN; rw [if_neg a, if_neg bm, if_pos rfl]]
          simp [datO, clkO, zer12, val2 hy.1 (by omega), val4z]
        · rw [show datN ⟨false, y, mo, d, hh, mi, s, mc⟩ = 11 by unfold datN; rw [if_neg a, if_neg bm, if_neg cm]]
          simp [datO, clkO, zer12, val2 hy.1 (by omega), val4 h4.1 (by omega)]
  · simp only
    rw [List.length_append, hlen]
    simp
theorem rd_time {w : Wh} (h : tmOk w = true) (r : List Int) : rdT (cntB (timA w) (timN w) ++ r) = (w, ((cntB (timA w) (timN w)).length : Int), 0) := by
  obtain ⟨hc, hd⟩ := tm_bd h
  unfold tmOk at h
  simp only [Bool.and_eq_true, beq_iff_eq, decide_eq_true_eq] at h
  obtain ⟨hn0, hy, hmo, _⟩ := h
  unfold clk at hc
  simp only [Bool.and_eq_true] at hc
  have h1 := inr_bd hc.1
  have h2 := inr_bd hc.2.1
  have h3 := inr_bd hc.2.2.1
  have h4 := inr_bd hc.2.2.2
  have hN : timN w = 0 ∨ timN w = 8 ∨ timN w = 12 := by unfold timN; (repeat' split) <;> simp
  have hlen : ((timA w).take (timN w)).length = timN w := by rw [List.length_take, timA_len]; omega
  have hF := rdF_at (ls := tLs) (N := timN w) (l := (timA w).take (timN w)) (r := r) (by rcases hN with q | q | q <;> rw [q] <;> decide) (by omega) hlen
  unfold rdT cntB
  rw [hF]
  have eA : timA w = [if w.ng = true then 1 else 0, w.d % 256, w.d / 256 % 256, w.d / 65536 % 256, w.d / 16777216 % 256, w.h, w.mi, w.s, w.mc % 256, w.mc / 256 % 256, w.mc / 65536 % 256, w.mc / 16777216 % 256] := by
    unfold timA clkB
    rw [le4, le4, Int.emod_eq_of_lt (a := w.h) (by omega) (by omega), Int.emod_eq_of_lt (a := w.mi) (by omega) (by omega), Int.emod_eq_of_lt (a := w.s) (by omega) (by omega)]
    rfl
  have hlt : ¬ 1 < ((timA w).take (timN w) ++ zer12.drop (timN w)).getD 0 0 := by
    rw [eA]
    rcases hN with q | q | q <;> rw [q] <;> simp [zer12] <;> split <;> omega
  simp only
  rw [if_neg hlt]
  refine Prod.ext ?_ (Prod.ext ?_ rfl)
  · simp only
    rw [eA]
    obtain ⟨ng, y, mo, d, hh, mi, s, mc⟩ := w
    simp only at *
    subst hy hmo
    by_cases a : (⟨ng, 0, 0, d, hh, mi, s, mc⟩ : Wh) = wh0
    · have a2 := a
      unfold wh0 at a2
      simp only [Wh.mk.injEq, true_and] at a2
      obtain ⟨rfl, rfl, rfl, rfl, rfl, rfl⟩ := a2
      rw [show timN ⟨false, 0, 0, 0, 0, 0, 0, 0⟩ = 0 from rfl]
      simp [timO, clkO, zer12, val]
    · by_cases cm : mc = 0
      · subst cm
        rw [show timN ⟨ng, 0, 0, d, hh, mi, s, 0⟩ = 8 by unfold timN; rw [if_neg a, if_pos rfl]]
        cases ng <;> simp [timO, clkO, zer12, val4 hd.1 (by omega), val4z]
      · rw [show timN ⟨ng, 0, 0, d, hh, mi, s, mc⟩ = 12 by unfold timN; rw [if_neg a, if_neg cm]]
        cases ng <;> simp [timO, clkO, zer12, val4 hd.1 (by omega), val4 h4.1 (by omega)]
  · simp only
    rw [List.length_append, hlen]
    simp
theorem rdA_k {b : List Int} {t : Int} {un : Bool} {k : Int} (hk : kdV t un = k) : rdA b t un = (if k = 1 then (⟨k, sgn (readFixed b (szP t)).1 (szP t), 0, ⟨#[]⟩, wh0⟩, szP t, (readFixed b (szP t)).2) else
  if k = 2 ∨ k = 3 ∨ k = 4 then (⟨k, 0, (readFixed b (szP t)).1, ⟨#[]⟩, wh0⟩, szP t, (readFixed b (szP t)).2) else
  if k = 5 then (⟨k, 0, 0, ⟨#[]⟩, (rdD b).1⟩, (rdD b).2.1, (rdD b).2.2) else
  if k = 6 then (⟨k, 0, 0, ⟨#[]⟩, (rdT b).1⟩, (rdT b).2.1, (rdT b).2.2) else
  if k = 7 then (⟨k, 0, 0, (readText b).1, wh0⟩, (readText b).2.1, (readText b).2.2) else (va0, 0, 0)) := by
  subst hk
  rfl
/-- What is written of a value is read back, whatever stands behind it. -/
theorem rdA_back {v : Va} {t : Int} {un : Bool} (hv : VaK v) (hO : bOk v t un = true) (hts : v.t.size ≤ 100000) (r : List Int) : rdA (vaB v t ++ r) t un = (v, ((vaB v t).length : Int), 0) := by
  have hO2 := hO
  unfold bOk at hO2
  simp only [Bool.and_eq_true] at hO2
  obtain ⟨hk1, hc⟩ := ok_cases hO2.1
  rcases hc with rfl | ⟨hne, hk, hf⟩
  · have h6 : t = 6 := by
      have := hO2.2
      simp only [va0] at this
      simpa using this
    subst h6
    rw [rdA_k (k := 0) (by cases un <;> decide +kernel)]
    rfl
  · have hcs := kd_cases t un
    rw [rdA_k rfl, ← hk]
    rw [← hk] at hcs hk1
    unfold fit at hf
    rcases hcs with q | q | q | q | q | q | q | q | q
    · exact absurd q hk1
    · rw [if_neg (by omega), if_neg (by omega), if_neg (by omega), if_neg (by omega), if_neg (by omega)] at hf
      exact absurd hf (by decide)
    · have hs := ok_num hO2.1 q
      rw [if_pos q] at hf
      simp only [Bool.and_eq_true, decide_eq_true_eq, beq_iff_eq] at hf
      have ub := uns_bd (x := v.i % 18446744073709551616) (by omega) (by omega) hs
      obtain ⟨n, hn⟩ := Int.eq_ofNat_of_zero_le (show 0 ≤ szP t by omega)
      have hB : vaB v t = le (uns (v.i % 18446744073709551616) (szP t)) n := by unfold vaB; rw [if_pos q, hn, Int.toNat_natCast]
      rw [if_pos q, hB, le_length]
      rw [hn] at hs hf ub ⊢
      rw [Int.toNat_natCast] at ub
      rw [rf_le (by omega) (by omega) ub.1 ub.2]
      simp only
      rw [sg_un hs (by omega) (by omega), ← hf.2]
      exact Prod.ext hf.1.symm rfl
    all_goals try (
      obtain ⟨hs, b0, b1⟩ := ok_bits hv hO2.1 (by omega)
      rw [if_neg (by omega), if_pos (by omega)] at hf
      simp only [Bool.and_eq_true, decide_eq_true_eq, beq_iff_eq] at hf
      obtain ⟨n, hn⟩ := Int.eq_ofNat_of_zero_le (show 0 ≤ szP t by omega)
      have hB : vaB v t = le v.b n := by unfold vaB; rw [if_neg (by omega), if_pos (by omega), hn, Int.toNat_natCast]
      rw [if_neg (by omega), if_pos (by omega), hB, le_length]
      rw [hn] at hs b1 ⊢
      rw [Int.toNat_natCast] at b1
      rw [rf_le (by omega) (by omega) b0 b1]
      exact Prod.ext hf.1.symm rfl)
    · rw [if_neg (by omega), if_neg (by omega), if_pos q] at hf
      simp only [Bool.and_eq_true, decide_eq_true_eq] at hf
      have hB : vaB v t = cntB (datA v.w) (datN v.w) := by unfold vaB; rw [if_neg (by omega), if_neg (by omega), if_pos q]
      rw [if_neg (by omega), if_neg (by omega), if_pos q, hB, rd_date hf.2 r]
      exact Prod.ext hf.1.symm rfl
    · rw [if_neg (by omega), if_neg (by omega), if_neg (by omega), if_pos q] at hf
      simp only [Bool.and_eq_true, decide_eq_true_eq] at hf
      have hB : vaB v t = cntB (timA v.w) (timN v.w) := by unfold vaB; rw [if_neg (by omega), if_neg (by omega), if_neg (by omega), if_pos q]
      rw [if_neg (by omega), if_neg (by omega), if_neg (by omega), if_pos q, hB, rd_time hf.2 r]
      exact Prod.ext hf.1.symm rfl
    · rw [if_neg (by omega), if_neg (by omega), if_neg (by omega), if_neg (by omega), if_pos q] at hf
      simp only [Bool.and_eq_true, decide_eq_true_eq] at hf
      have hB : vaB v t = txB v.t := by unfold vaB; rw [if_neg (by omega), if_neg (by omega), if_neg (by omega), if_neg (by omega), if_pos q]
      rw [if_neg (by omega), if_neg (by omega), if_neg (by omega), if_neg (by omega), if_pos q, hB, rt_back v.t (by omega) r]
      exact Prod.ext hf.1.symm rfl
theorem rd_back {v : Va} {t : Int} {un : Bool} (hv : VaK v) (hO : bOk v t un = true) (hts : v.t.size ≤ 100000) (r : List Int) : rdV (vaB v t ++ r) t un = (v, ((vaB v t).length : Int), 0) := by
  have h := rdA_back hv hO hts r
  unfold bOk at hO
  simp only [Bool.and_eq_true] at hO
  have h2 := hO.1
  unfold vOk at h2
  simp only [Bool.and_eq_true, decide_eq_true_eq] at h2
  unfold rdV rdE
  rw [if_neg h2.1, h]
  simp [h2.2]

end Go.Proofs.Ytfgghgoonfamkaa

namespace Go.Proofs.Ytfgghgoonfamkaa
open Go.RowKit
set_option linter.unusedVariables false
set_option linter.unusedSimpArgs false

theorem i64_of {x : Int} (h0 : -9223372036854775808 ≤ x) (h1 : x ≤ 9223372036854775807) : i64 x := ⟨h0, h1⟩
theorem sgn_bd (x n : Int) : i64 (sgn x n) := by
  unfold sgn i64
  repeat' split
  all_goals omega
theorem getD_byt {l : List Int} (h : Byt l) (i : Nat) : 0 ≤ l.getD i 0 ∧ l.getD i 0 ≤ 255 := by
  have := h.at i
  simpa using this
theorem i0 : i64 0 := ⟨by decide, by decide⟩
theorem i64s {k : Int} (h : -10 ≤ k ∧ k ≤ 10) : i64 k := ⟨by omega, by omega⟩
theorem u0 : (0 : Int) ≤ 0 ∧ (0 : Int) < 18446744073709551616 := ⟨by decide, by decide⟩
theorem whK_0 : WhK wh0 := ⟨i0, i0, i0, i0, i0, i0, i0⟩
theorem clkO_bd {f : List Int} (h : Byt f) : WhK (clkO f) := by
  have h0 := getD_byt h 0
  have h1 := getD_byt h 1
  have h2 := getD_byt h 2
  have h3 := val_bounds (h.drop 3) 4
  unfold clkO
  exact ⟨i0, i0, i0, ⟨by simp only; omega, by simp only; omega⟩, ⟨by simp only; omega, by simp only; omega⟩, ⟨by simp only; omega, by simp only; omega⟩, ⟨by simp only; omega, by simp only; omega⟩⟩
theorem datO_bd {f : List Int} (h : Byt f) : WhK (datO f) := by
  have c := clkO_bd (h.drop 4)
  have h0 := val_bounds h 2
  have h1 := getD_byt h 2
  have h2 := getD_byt h 3
  unfold datO
  exact ⟨⟨by simp only; omega, by simp only; omega⟩, ⟨by simp only; omega, by simp only; omega⟩, ⟨by simp only; omega, by simp only; omega⟩, c.h, c.mi, c.s, c.mc⟩
theorem timO_bd {f : List Int} (h : Byt f) : WhK (timO f) := by
  have c := clkO_bd (h.drop 5)
  have h0 := val_bounds (h.drop 1) 4
  unfold timO
  exact ⟨c.y, c.mo, ⟨by simp only; omega, by simp only; omega⟩, c.h, c.mi, c.s, c.mc⟩
theorem cntB_length {l : List Int} {n : Nat} (h : n ≤ l.length) : (cntB l n).length = 1 + n := by
  unfold cntB
  simp
  omega
theorem dat_short {l : List Int} : datN (datO ([] ++ zer12)) = 0 := by rfl
/-- A date's own bytes are no more than those that it was read of. -/
theorem rdF_ok {b ls : List Int} (h : (rdF b ls).2.2 = 0) : ls.contains (readFixed b 1).1 = true ∧ ¬ (b.length : Int) < 1 + (readFixed b 1).1 ∧ rdF b ls = ((b.drop 1).take (readFixed b 1).1.toNat ++ zer12.drop (readFixed b 1).1.toNat, 1 + (readFixed b 1).1, 0) := by
  unfold rdF at h ⊢
  split at h
  · rename_i q; exact absurd h q
  · rename_i q1
    split at h
    · exact absurd h (by decide)
    · rename_i q2
      split at h
      · exact absurd h (by decide)
      · rename_i q3
        rw [if_neg q1, if_neg q2, if_neg q3]
        exact ⟨by simpa using q2, q3, rfl⟩
theorem date_less {b : List Int} (h : (rdD b).2.2 = 0) : ((cntB (datA (rdD b).1) (datN (rdD b).1)).length : Int) ≤ (rdD b).2.1 ∧ (rdD b).2.1 ≤ b.length := by
  unfold rdD at h ⊢
  simp only at h ⊢
  obtain ⟨hc, hl, he⟩ := rdF_ok h
  rw [he]
  simp only
  rw [cntB_length (by rw [datA_len]; exact datN_le _)]
  refine ⟨?_, by omega⟩
  have hX : (readFixed b 1).1 = 0 ∨ (readFixed b 1).1 = 4 ∨ (readFixed b 1).1 = 7 ∨ (readFixed b 1).1 = 11 := by simpa [dLs] using hc
  generalize (readFixed b 1).1 = X at *
  have hle := datN_le (datO ((b.drop 1).take X.toNat ++ zer12.drop X.toNat))
  rcases hX with rfl | rfl | rfl | rfl
  · simp [datO, clkO, zer12, val, datN, wh0]
  · have hl4 : ((b.drop 1).take 4).length = 4 := by simp; omega
    obtain ⟨a, c, d, e, hq⟩ : ∃ a c d e, (b.drop 1).take 4 = [a, c, d, e] := by
      match (b.drop 1).take 4, hl4 with
      | [a, c, d, e], _ => exact ⟨a, c, d, e, rfl⟩
    simp only [Int.reduceToNat, hq]
    have hm : mid (datO ([a, c, d, e] ++ zer12.drop 4)) = true := by simp [mid, datO, clkO, zer12, val]
    have : datN (datO ([a, c, d, e] ++ zer12.drop 4)) ≤ 4 := by
      unfold datN
      rw [hm]
      split <;> simp
    omega
  · have hl7 : ((b.drop 1).take 7).length = 7 := by simp; omega
    obtain ⟨a, c, d, e, f, g, k, hq⟩ : ∃ a c d e f g k, (b.drop 1).take 7 = [a, c, d, e, f, g, k] := by
      match (b.drop 1).take 7, hl7 with
      | [a, c, d, e, f, g, k], _ => exact ⟨a, c, d, e, f, g, k, rfl⟩
    simp only [Int.reduceToNat, hq]
    have hm : (datO ([a, c, d, e, f, g, k] ++ zer12.drop 7)).mc = 0 := by simp [datO, clkO, zer12, val]
    have : datN (datO ([a, c, d, e, f, g, k] ++ zer12.drop 7)) ≤ 7 := by
      unfold datN
      rw [hm]
      repeat' split
      all_goals simp_all
    omega
  · omega
theorem time_less {b : List Int} (h : (rdT b).2.2 = 0) : ((cntB (timA (rdT b).1) (timN (rdT b).1)).length : Int) ≤ (rdT b).2.1 ∧ (rdT b).2.1 ≤ b.length := by
  unfold rdT at h ⊢
  split at h
  · exact absurd h (by decide)
  rename_i q
  rw [if_neg q]
  simp only at h ⊢
  obtain ⟨hc, hl, he⟩ := rdF_ok h
  clear q
  rw [he]
  simp only
  rw [cntB_length (by rw [timA_len]; exact timN_le _)]
  refine ⟨?_, by omega⟩
  have hX : (readFixed b 1).1 = 0 ∨ (readFixed b 1).1 = 8 ∨ (readFixed b 1).1 = 12 := by simpa [tLs] using hc
  generalize (readFixed b 1).1 = X at *
  have hle := timN_le (timO ((b.drop 1).take X.toNat ++ zer12.drop X.toNat))
  rcases hX with rfl | rfl | rfl
  · simp [timO, clkO, zer12, val, timN, wh0]
  · have hl8 : ((b.drop 1).take 8).length = 8 := by simp; omega
    obtain ⟨a, c, d, e, f, g, k, m, hq⟩ : ∃ a c d e f g k m, (b.drop 1).take 8 = [a, c, d, e, f, g, k, m] := by
      match (b.drop 1).take 8, hl8 with
      | [a, c, d, e, f, g, k, m], _ => exact ⟨a, c, d, e, f, g, k, m, rfl⟩
    simp only [Int.reduceToNat, hq]
    have hm : (timO ([a, c, d, e, f, g, k, m] ++ zer12.drop 8)).mc = 0 := by simp [timO, clkO, zer12, val]
    have : timN (timO ([a, c, d, e, f, g, k, m] ++ zer12.drop 8)) ≤ 8 := by
      unfold timN
      rw [hm]
      repeat' split
      all_goals simp_all
    omega
  · omega
theorem text_less {b : List Int} (hb : Byt b) (h : (readText b).2.2 = 0) : ((txB (readText b).1).length : Int) ≤ (readText b).2.1 ∧ (readText b).2.1 ≤ b.length ∧ (readText b).1.size ≤ b.length := by
  obtain ⟨x, n, e, hr⟩ : ∃ x n e, readInt b = (x, n, e) := ⟨_, _, _, rfl⟩
  by_cases he : e = 0
  · subst he
    obtain ⟨h0, h1, h2, h3⟩ := readInt_shortest hb hr
    by_cases hs : (b.length : Int) - n < x
    · rw [readText_short hr hs] at h; exact absurd h (by decide)
    · rw [readText_long hr hs]
      simp only
      have hn0 : 0 ≤ n := by have := form_length x; omega
      have hsz : (strOfNums ((b.drop n.toNat).take x.toNat)).size = x.toNat := by
        have : (strOfNums ((b.drop n.toNat).take x.toNat)).size = ((b.drop n.toNat).take x.toNat).length := by
          rw [← ByteArray.size_data, ← Array.length_toList, strOfNums_data, List.length_map]
        rw [this]
        simp
        omega
      unfold txB
      rw [List.length_append, nums_length, hsz]
      have hx : ((x.toNat : Nat) : Int) = x := by omega
      rw [hx]
      omega
  · rw [readText_err hr he] at h; exact absurd h he
theorem rdA_e0 {b : List Int} {t : Int} {un : Bool} (q : kdV t un = 0) : rdA b t un = (va0, 0, 0) := by
  unfold rdA
  simp only [q]
  rfl
theorem rdA_e1 {b : List Int} {t : Int} {un : Bool} (q : kdV t un = 1) : rdA b t un = (⟨1, sgn (readFixed b (szP t)).1 (szP t), 0, ⟨#[]⟩, wh0⟩, szP t, (readFixed b (szP t)).2) := by
  unfold rdA
  simp only [q]
  rfl
theorem rdA_e2 {b : List Int} {t : Int} {un : Bool} (q : kdV t un = 2) : rdA b t un = (⟨2, 0, (readFixed b (szP t)).1, ⟨#[]⟩, wh0⟩, szP t, (readFixed b (szP t)).2) := by
  unfold rdA
  simp only [q]
  rfl
theorem rdA_e3 {b : List Int} {t : Int} {un : Bool} (q : kdV t un = 3) : rdA b t un = (⟨3, 0, (readFixed b (szP t)).1, ⟨#[]⟩, wh0⟩, szP t, (readFixed b (szP t)).2) := by
  unfold rdA
  simp only [q]
  rfl
theorem rdA_e4 {b : List Int} {t : Int} {un : Bool} (q : kdV t un = 4) : rdA b t un = (⟨4, 0, (readFixed b (szP t)).1, ⟨#[]⟩, wh0⟩, szP t, (readFixed b (szP t)).2) := by
  unfold rdA
  simp only [q]
  rfl
theorem rdA_e5 {b : List Int} {t : Int} {un : Bool} (q : kdV t un = 5) : rdA b t un = (⟨5, 0, 0, ⟨#[]⟩, (rdD b).1⟩, (rdD b).2.1, (rdD b).2.2) := by
  unfold rdA
  simp only [q]
  rfl
theorem rdA_e6 {b : List Int} {t : Int} {un : Bool} (q : kdV t un = 6) : rdA b t un = (⟨6, 0, 0, ⟨#[]⟩, (rdT b).1⟩, (rdT b).2.1, (rdT b).2.2) := by
  unfold rdA
  simp only [q]
  rfl
theorem rdA_e7 {b : List Int} {t : Int} {un : Bool} (q : kdV t un = 7) : rdA b t un = (⟨7, 0, 0, (readText b).1, wh0⟩, (readText b).2.1, (readText b).2.2) := by
  unfold rdA
  simp only [q]
  rfl
theorem rdA_K {b : List Int} {t : Int} {un : Bool} (hb : Byt b) (hk : ¬ kdV t un = -1) : VaK (rdA b t un).1 := by
  rcases kd_cases t un with q | q | q | q | q | q | q | q | q
  · exact absurd q hk
  · rw [rdA_e0 q]; exact ⟨i0, i0, u0, whK_0⟩
  · rw [rdA_e1 q]; exact ⟨i64s (by simp), sgn_bd _ _, u0, whK_0⟩
  · have hs : szP t = 1 ∨ szP t = 2 ∨ szP t = 4 ∨ szP t = 8 := sz_num (.inr q)
    obtain ⟨n, hn⟩ := Int.eq_ofNat_of_zero_le (show 0 ≤ szP t by omega)
    have v1 := readFixed_val hb (k := n) (by omega) (by omega)
    have p := pow_le64 n (by omega)
    rw [← hn] at v1
    rw [rdA_e2 q]
    exact ⟨i64s (by simp), i0, ⟨v1.1, by simp only; omega⟩, whK_0⟩
  · have hs : szP t = 1 ∨ szP t = 2 ∨ szP t = 4 ∨ szP t = 8 := .inr (.inr (.inl (sz_flt q)))
    obtain ⟨n, hn⟩ := Int.eq_ofNat_of_zero_le (show 0 ≤ szP t by omega)
    have v1 := readFixed_val hb (k := n) (by omega) (by omega)
    have p := pow_le64 n (by omega)
    rw [← hn] at v1
    rw [rdA_e3 q]
    exact ⟨i64s (by simp), i0, ⟨v1.1, by simp only; omega⟩, whK_0⟩
  · have hs : szP t = 1 ∨ szP t = 2 ∨ szP t = 4 ∨ szP t = 8 := .inr (.inr (.inr (sz_dbl q)))
    obtain ⟨n, hn⟩ := Int.eq_ofNat_of_zero_le (show 0 ≤ szP t by omega)
    have v1 := readFixed_val hb (k := n) (by omega) (by omega)
    have p := pow_le64 n (by omega)
    rw [← hn] at v1
    rw [rdA_e4 q]
    exact ⟨i64s (by simp), i0, ⟨v1.1, by simp only; omega⟩, whK_0⟩
  · rw [rdA_e5 q]; exact ⟨i64s (by simp), i0, u0, datO_bd (rdF_byt hb)⟩
  · rw [rdA_e6 q]
    refine ⟨i64s (by simp), i0, u0, ?_⟩
    simp only
    unfold rdT
    split
    · exact whK_0
    · exact timO_bd (rdF_byt hb)
  · rw [rdA_e7 q]; exact ⟨i64s (by simp), i0, u0, whK_0⟩
/-- What was read may be. -/
theorem rdV_ok {b : List Int} {t : Int} {un : Bool} (hb : Byt b) (hl : b.length ≤ 100000) (h : (rdV b t un).2.2 = 0) : VaK (rdV b t un).1 ∧ bOk (rdV b t un).1 t un = true ∧ (rdV b t un).1.t.size ≤ 100000 ∧ ((vaB (rdV b t un).1 t).length : Int) ≤ (rdV b t un).2.1 ∧ (rdV b t un).2.1 ≤ b.length := by
  unfold rdV at h ⊢
  split at h
  · exact absurd h (by decide)
  rename_i hk
  split at h
  · rename_i q; exact absurd h q
  rename_i hE
  rw [if_neg hk, if_neg hE]
  simp only
  have hE0 : rdE b t un = 0 := by simpa using hE
  unfold rdE at hE0
  have hm : (rdA b t un).2.2 = 0 ∧ mb (rdA b t un).1 t un = true := by
    by_cases z : (rdA b t un).2.2 = 0
    · cases q : mb (rdA b t un).1 t un
      · rw [if_pos ⟨z, q⟩] at hE0; exact absurd hE0 (by decide)
      · exact ⟨z, rfl⟩
    · rw [if_neg (fun y => z y.1)] at hE0; exact absurd hE0 z
  obtain ⟨hA, hM⟩ := hm
  have hvo : vOk (rdA b t un).1 t un = true := by unfold vOk; rw [decide_eq_true hk, hM]; rfl
  have hkk : (rdA b t un).1.k = kdV t un := by
    rcases kd_cases t un with q | q | q | q | q | q | q | q | q
    · exact absurd q hk
    · rw [rdA_e0 q, q]
      rfl
    · rw [rdA_e1 q, q]
    · rw [rdA_e2 q, q]
    · rw [rdA_e3 q, q]
    · rw [rdA_e4 q, q]
    · rw [rdA_e5 q, q]
    · rw [rdA_e6 q, q]
    · rw [rdA_e7 q, q]
  have hbo : bOk (rdA b t un).1 t un = true := by
    unfold bOk
    rw [hvo, Bool.true_and]
    by_cases z : kdV t un = 0
    · rw [kd0 z]; simp
    · rw [hkk]; simp [z]
  refine ⟨?_, hbo, ?_⟩
  · exact rdA_K hb hk
  · rcases kd_cases t un with q | q | q | q | q | q | q | q | q
    · exact absurd q hk
    · rw [rdA_e0 q]; exact ⟨by decide, by simp [vaB, va0], by simp⟩
    · have hs : szP t = 1 ∨ szP t = 2 ∨ szP t = 4 ∨ szP t = 8 := sz_num (.inl q)
      rw [rdA_e1 q] at hA ⊢
      simp only at hA ⊢
      have bd := readFixed_bd (b := b) (k := szP t) (x := (readFixed b (szP t)).1) (er := (readFixed b (szP t)).2) rfl (by omega) hA
      refine ⟨by decide, ?_, bd⟩
      simp [vaB, le_length]
      omega
    · have hs : szP t = 1 ∨ szP t = 2 ∨ szP t = 4 ∨ szP t = 8 := sz_num (.inr q)
      rw [rdA_e2 q] at hA ⊢
      simp only at hA ⊢
      have bd := readFixed_bd (b := b) (k := szP t) (x := (readFixed b (szP t)).1) (er := (readFixed b (szP t)).2) rfl (by omega) hA
      refine ⟨by decide, ?_, bd⟩
      simp [vaB, le_length]
      omega
    · have hs : szP t = 1 ∨ szP t = 2 ∨ szP t = 4 ∨ szP t = 8 := .inr (.inr (.inl (sz_flt q)))
      rw [rdA_e3 q] at hA ⊢
      simp only at hA ⊢
      have bd := readFixed_bd (b := b) (k := szP t) (x := (readFixed b (szP t)).1) (er := (readFixed b (szP t)).2) rfl (by omega) hA
      refine ⟨by decide, ?_, bd⟩
      simp [vaB, le_length]
      omega
    · have hs : szP t = 1 ∨ szP t = 2 ∨ szP t = 4 ∨ szP t = 8 := .inr (.inr (.inr (sz_dbl q)))
      rw [rdA_e4 q] at hA ⊢
      simp only at hA ⊢
      have bd := readFixed_bd (b := b) (k := szP t) (x := (readFixed b (szP t)).1) (er := (readFixed b (szP t)).2) rfl (by omega) hA
      refine ⟨by decide, ?_, bd⟩
      simp [vaB, le_length]
      omega
    · rw [rdA_e5 q] at hA ⊢
      have z := date_less (b := b) hA
      exact ⟨by simp only; decide, by simpa [vaB] using z.1, z.2⟩
    · rw [rdA_e6 q] at hA ⊢
      have z := time_less (b := b) hA
      exact ⟨by simp only; decide, by simpa [vaB] using z.1, z.2⟩
    · rw [rdA_e7 q] at hA ⊢
      have z := text_less hb hA
      exact ⟨by simp only; omega, by simpa [vaB] using z.1, z.2.1⟩

end Go.Proofs.Ytfgghgoonfamkaa
