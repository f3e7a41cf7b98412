/-
  Where a symbol's bits stand, it is read: plain facts. No program and no memory is named here.
  What is written is read back: plain facts on the reading of fixed and stored streams. No program and no memory is named here.
  What Inflate makes of fixed and of stored streams: the bytes that the pieces make, the bytes that were stored, to the stream's last byte. No program and no memory is named here.
-/
import Derived.Test.YtnoabdafmgmenaaGreatDoorMBit
import Derived.Test.YtnoabdafmgmenaaGreatDoorMPlain
import Derived.Test.YtnoabdafmgmenaaGreatDoorMDef3
import Derived.Test.YtnoabdafmgmenaaGreatDoorMInf4
namespace Go.Proofs.YtnoabdafmgmenaaGreatDoor
set_option linter.unusedVariables false
set_option linter.unusedSimpArgs false

theorem bit_low (a x : Int) (j m : Nat) (h : j < m) : (a + x * 2 ^ m) / 2 ^ j % 2 = a / 2 ^ j % 2 := by
  obtain ⟨d, rfl⟩ : ∃ d, m = j + 1 + d := ⟨m - j - 1, by omega⟩
  have hp : (0 : Int) < 2 ^ j := Int.pow_pos (by omega)
  have e : x * (2 : Int) ^ (j + 1 + d) = x * 2 ^ d * 2 * 2 ^ j := by
    rw [show j + 1 + d = d + 1 + j by omega, Int.pow_add, Int.pow_succ]
    simp only [Int.mul_assoc]
  rw [e, Int.add_mul_ediv_right _ _ (by omega)]
  omega
theorem bit_top (a x : Int) (m : Nat) (h0 : 0 ≤ a) (h1 : a < 2 ^ m) (x0 : 0 ≤ x) (x1 : x ≤ 1) : (a + x * 2 ^ m) / 2 ^ m % 2 = x := by
  have hp : (0 : Int) < 2 ^ m := Int.pow_pos (by omega)
  rw [Int.add_mul_ediv_right _ _ (by omega), Int.ediv_eq_zero_of_lt h0 h1]
  omega

theorem put_old {b : List Int} {n : Nat} (h : Wst b n) (x : Int) {i : Nat} (hi : i < n) : bitAt (putB b n x) i = bitAt b i := by
  have hl := room8_len h
  have hbl := h.len
  unfold bitAt putB
  rw [getD_set _ _ _ _ (by omega)]
  by_cases he : i / 8 = n / 8
  · rw [if_pos he, bit_low _ _ _ _ (show i % 8 < n % 8 by omega)]
    unfold room8
    rw [if_neg (by omega), he]
  · rw [if_neg he]
    unfold room8
    split
    · rw [List.getElem?_append_left (by omega)]
    · rfl
theorem put_new {b : List Int} {n : Nat} (h : Wst b n) {x : Int} (x0 : 0 ≤ x) (x1 : x ≤ 1) : bitAt (putB b n x) n = x := by
  have hl := room8_len h
  have ha := room8_at h
  unfold bitAt putB
  rw [getD_set _ _ _ _ (by omega), if_pos rfl]
  exact bit_top _ _ _ ha.1 ha.2 x0 x1
theorem pk_bits : ∀ (t : List Int) {b : List Int} {n : Nat}, Wst b n → Bit01 t → (∀ i, i < n → bitAt (pkF b n t) i = bitAt b i) ∧ ∀ j, j < t.length → bitAt (pkF b n t) (n + j) = t[j]?.getD 0
  | [], b, n, h, _ => ⟨fun i _ => rfl, fun j hj => by simp at hj⟩
  | x :: r, b, n, h, h01 => by
    have hx := h01 x (by simp)
    obtain ⟨ih1, ih2⟩ := pk_bits r (h.put hx.1 hx.2) (fun y hy => h01 y (by simp [hy]))
    refine ⟨fun i hi => ?_, fun j hj => ?_⟩
    · simp only [pkF]
      rw [ih1 i (by omega), put_old h x hi]
    · simp only [pkF]
      cases j with
      | zero =>
        show bitAt (pkF (putB b n x) (n + 1) r) n = _
        rw [ih1 n (by omega), put_new h hx.1 hx.2]
        rfl
      | succ j =>
        have := ih2 j (by simpa using hj)
        rw [show n + (j + 1) = n + 1 + j by omega, this]
        simp
theorem bto_at (c : Int) : ∀ (k j : Nat), j < k → (bto c k)[j]?.getD 0 = c / 2 ^ (k - 1 - j) % 2
  | 0, j, h => by omega
  | k + 1, j, h => by
    cases j with
    | zero => simp [bto]
    | succ j =>
      have := bto_at c k j (by omega)
      simp only [bto, List.getElem?_cons_succ]
      rw [this, show k + 1 - 1 - (j + 1) = k - 1 - j by omega]

theorem half_bit (c : Int) (e : Nat) : 2 * (c / 2 ^ (e + 1)) + c / 2 ^ e % 2 = c / 2 ^ e := by
  have : c / (2 : Int) ^ (e + 1) = c / 2 ^ e / 2 := by rw [Int.pow_succ, Int.ediv_ediv_of_nonneg (Int.le_of_lt (Int.pow_pos (by omega)))]
  rw [this]
  omega

/-- Where a symbol's bits stand, it is read. -/
theorem dec_code {L b : List Int} (hG : Good L) {at_ i k : Nat} (hi : i < L.length) (hk : ln L i = (k : Int)) (h0 : k ≠ 0) (hk15 : k ≤ 15) (hb : ∀ j, j < k → bitAt b (at_ + j) = code L i / 2 ^ (k - 1 - j) % 2) (hl : at_ + k ≤ 8 * b.length) :
    ∀ d n f, n + d + 1 = k → d + 1 ≤ f → dec L b at_ f n (code L i / 2 ^ (k - n)) = ((i : Int), (k : Int), 0)
  | d, n, 0, _, h => by omega
  | 0, n, f + 1, hn, _ => by
    have e : 2 * (code L i / 2 ^ (k - n)) + bitAt b (at_ + n) = code L i := by
      rw [hb n (by omega), show k - n = (k - 1 - n) + 1 by omega, half_bit, show k - 1 - n = 0 by omega]
      simp
    rw [dec_hit _ _ _ _ _ _ (by omega) i]
    · rw [show n + 1 = k by omega]
    · rw [e, show n + 1 = k by omega]
      exact fnd_some L h0 hi hk rfl
  | d + 1, n, f + 1, hn, hf => by
    have e : 2 * (code L i / 2 ^ (k - n)) + bitAt b (at_ + n) = code L i / 2 ^ (k - (n + 1)) := by
      rw [hb n (by omega), show k - n = (k - 1 - n) + 1 by omega, half_bit, show k - 1 - n = k - (n + 1) by omega]
    rw [dec_miss _ _ _ _ _ _ (by omega), e]
    · exact dec_code hG hi hk h0 hk15 hb hl d (n + 1) f (by omega) (by omega)
    · rw [e]
      refine fnd_none L (by omega) ?_
      have h1 := fc_up L (n + 1) d
      rw [show n + 1 + d + 1 = k by omega] at h1
      have h2 := (code_lt L hi k hk h0).1
      rw [show k - (n + 1) = d + 1 by omega]
      rw [Int.le_ediv_iff_mul_le (Int.pow_pos (by omega)), Int.mul_comm]
      omega

theorem rd_code {L b : List Int} (hG : Good L) {at_ i k : Nat} (hi : i < L.length) (hk : ln L i = (k : Int)) (h0 : k ≠ 0) (hb : ∀ j, j < k → bitAt b (at_ + j) = code L i / 2 ^ (k - 1 - j) % 2) (hl : at_ + k ≤ 8 * b.length) : rd L b at_ = ((i : Int), (k : Int), 0) := by
  have hf := hG.fit _ (ln_mem hi)
  have hk15 : k ≤ 15 := by omega
  have hz := rk_bound L hi k hk h0
  have hr := rk_nonneg L i
  have hlg := lng_ge L 16 k (by omega) (by omega)
  have hc := code_lt L hi k hk h0
  have hfc := fc_nonneg L k
  have hF := hG.le hk15
  have := dec_code hG hi hk h0 hk15 hb hl (k - 1) 0 (lng L 16) (by omega) (by omega)
  rw [Nat.sub_zero, Int.ediv_eq_zero_of_lt (by omega) (by omega)] at this
  exact this

end Go.Proofs.YtnoabdafmgmenaaGreatDoor

namespace Go.Proofs.YtnoabdafmgmenaaGreatDoor
set_option linter.unusedVariables false
set_option linter.unusedSimpArgs false

/-- The bits t stand in bytes from bit p on. -/
structure Sd (b : List Int) (p : Nat) (t : List Int) : Prop where
  room : p + t.length ≤ 8 * b.length
  bits : ∀ j, j < t.length → bitAt b (p + j) = t[j]?.getD 0
theorem Sd.left {b : List Int} {p : Nat} {s t : List Int} (h : Sd b p (s ++ t)) : Sd b p s := by
  refine ⟨by have := h.room; simp at this; omega, fun j hj => ?_⟩
  rw [h.bits j (by simp; omega), List.getElem?_append_left hj]
theorem Sd.right {b : List Int} {p : Nat} {s t : List Int} (h : Sd b p (s ++ t)) : Sd b (p + s.length) t := by
  refine ⟨by have := h.room; simp at this; omega, fun j hj => ?_⟩
  have := h.bits (s.length + j) (by simp; omega)
  rw [Nat.add_assoc, this, List.getElem?_append_right (by omega), show s.length + j - s.length = j by omega]
theorem sd_pk (t : List Int) (h : Bit01 t) : Sd (pkF [] 0 t) 0 t ∧ (pkF [] 0 t).length = (t.length + 7) / 8 := by
  have hW := Wst.pk t Wst.nought h
  have hb := (pk_bits t Wst.nought h).2
  have hl := hW.len
  rw [Nat.zero_add] at hl
  exact ⟨⟨by omega, fun j hj => hb j hj⟩, hl⟩

theorem pow_split (x : Int) (n : Nat) : x % 2 ^ (n + 1) = x % 2 ^ n + x / 2 ^ n % 2 * 2 ^ n := by
  have hp : (0 : Int) < 2 ^ n := Int.pow_pos (by omega)
  have h1 := Int.emod_add_mul_ediv x (2 ^ n)
  have h2 := Int.emod_add_mul_ediv x (2 ^ (n + 1))
  have h3 : x / (2 : Int) ^ (n + 1) = x / 2 ^ n / 2 := by rw [Int.pow_succ, Int.ediv_ediv_of_nonneg (Int.le_of_lt hp)]
  rw [h3] at h2
  have h4 := Int.emod_add_mul_ediv (x / 2 ^ n) 2
  generalize x / 2 ^ n = q at *
  have h5 : (2 : Int) ^ (n + 1) * (q / 2) = 2 ^ n * (2 * (q / 2)) := by rw [Int.pow_succ, Int.mul_assoc]
  rw [h5] at h2
  have h6 : 2 ^ n * q = 2 ^ n * (q % 2) + 2 ^ n * (2 * (q / 2)) := by rw [← Int.mul_add, h4]
  rw [Int.mul_comm (q % 2)]
  omega

/-- A field is read. -/
theorem fld_part {b : List Int} {x : Int} : ∀ (k : Nat) (s : PS), s.e = 0 → (∀ j, j < k → bitAt b (s.p + j) = x / 2 ^ j % 2) → s.p + k ≤ 8 * b.length → fldN b k s = (x % 2 ^ k, { s with p := s.p + k })
  | 0, s, _, _, _ => by simp [fldN]
  | k + 1, s, he, hb, hl => by
    have ih := fld_part k s he (fun j hj => hb j (by omega)) (by omega)
    simp only [fldN]
    rw [ih, bitS_live (s := { s with p := s.p + k }) he (by simp only; omega)]
    simp only
    rw [hb k (by omega), pow_split]
    rfl
theorem fld_sd {b : List Int} {x : Int} {n : Nat} {s : PS} (he : s.e = 0) (h : Sd b s.p (fto x 0 n)) (h0 : 0 ≤ x) (h1 : x < 2 ^ n) : fldN b n s = (x, { s with p := s.p + n }) := by
  have hr := h.room
  rw [fto_len] at hr
  rw [fld_part n s he (fun j hj => by rw [h.bits j (by rw [fto_len]; exact hj), fto_at x n 0 j hj, Nat.zero_add]) hr, Int.emod_eq_of_lt h0 h1]

/-- A symbol is read. -/
theorem sym_sd {L b : List Int} (hc : cer L = 0) {i : Nat} (hi : i < L.length) (h0 : ln L i ≠ 0) {s : PS} (he : s.e = 0) (h : Sd b s.p (sbits L (i : Int))) : symS L b s = ((i : Int), { s with p := s.p + (sbits L (i : Int)).length }) := by
  have hG := good_of hc
  have hf := hG.fit _ (ln_mem hi)
  obtain ⟨k, hk⟩ : ∃ k : Nat, ln L i = (k : Int) := ⟨(ln L i).toNat, by omega⟩
  have hlen : (sbits L (i : Int)).length = k := by rw [sbits_n, hk]; simp
  have hr := h.room
  have := rd_code hG (b := b) (at_ := s.p) hi hk (by omega) (fun j hj => ?_) (by omega)
  · rw [symS_live he]
    unfold rdq
    rw [if_pos hc, if_neg (by omega), Int.toNat_natCast, this, hlen]
    simp [he]
  · rw [h.bits j (by omega)]
    have := bto_at (code L i) k j hj
    unfold sbits
    rw [Int.toNat_natCast, hk, Int.toNat_natCast]
    exact this

/-- A copy is told. -/
theorem cpy_sd {m : Int} {d : Nat} : ∀ (n : Nat) (s : PS), s.e = 0 → ((s.o.length + n : Nat) : Int) ≤ m → cpyL m d n s = { s with o := cpn d n s.o }
  | 0, s, _, _ => rfl
  | n + 1, s, he, hm => by
    simp only [cpyL, bckS, cpn]
    rw [telS_live he (by omega)]
    exact cpy_sd n { s with o := s.o ++ [s.o[s.o.length - d]?.getD 0] } he (by simp; omega)
theorem lens_lt {n : Nat} (h3 : 3 ≤ n) (h : n ≤ 258) : lix n ≤ 28 ∧ (lb (lix n) : Int) ≤ n ∧ (n : Int) - (lb (lix n) : Int) < 2 ^ lx (lix n) := by
  have h1 : (List.range 259).all (fun n => decide (n < 3) || (decide ((lb (lix n) : Int) ≤ n) && decide ((n : Int) - (lb (lix n) : Int) < 2 ^ lx (lix n)))) = true := by kernel_rfl
  have h2 := List.all_eq_true.1 h1 n (by simp; omega)
  simp at h2
  refine ⟨lix_le n, ?_⟩
  rcases h2 with h2 | h2
  · omega
  · exact ⟨by omega, h2.2⟩
/-- Every number lies in some span. -/
theorem span_of (n : Nat) (h1 : 1 ≤ n) (h2 : n < 32769) : ∀ K, K ≤ 29 → n < db K + 2 ^ dx K → ∃ k, k ≤ 29 ∧ db k ≤ n ∧ n < db k + 2 ^ dx k
  | 0, _, h => ⟨0, by omega, by show 1 ≤ n; exact h1, h⟩
  | K + 1, hK, h => by
    rcases Nat.lt_or_ge n (db (K + 1)) with q | q
    · rw [db_step K (by omega)] at q
      exact span_of n h1 h2 K (by omega) q
    · exact ⟨K + 1, hK, q, h⟩
theorem dist_lt {n : Nat} (h1 : 1 ≤ n) (h2 : n ≤ 32768) : dix n ≤ 29 ∧ (db (dix n) : Int) ≤ n ∧ (n : Int) - (db (dix n) : Int) < 2 ^ dx (dix n) := by
  have h29 : db 29 + 2 ^ dx 29 = 32769 := by decide
  obtain ⟨k, hk, a, b⟩ := span_of n h1 (by omega) 29 (Nat.le_refl _) (by omega)
  rw [dix_is hk a b]
  refine ⟨hk, by omega, ?_⟩
  have : ((2 ^ dx k : Nat) : Int) = (2 : Int) ^ dx k := by rw [Int.natCast_pow]; rfl
  omega

/-- The state behind a piece. -/
def stp (s : PS) (p : Pc) : PS := { s with p := s.p + (ptx p).length, o := xp1 s.o p }
theorem nat_lt {a b : Nat} (h : a < b) : (a : Int) < (b : Int) := by omega

theorem cd_byte {b : List Int} {m : Int} {f : Nat} {s : PS} {d x : Int} (he : s.e = 0) (hx0 : 0 ≤ x) (hx1 : x ≤ 255) (h : Sd b s.p (ptx ⟨0, d, x⟩)) (hm : ((s.o.length + 1 : Nat) : Int) ≤ m) : cdS fixL fixD b m (f + 1) s = cdS fixL fixD b m f (stp s ⟨0, d, x⟩) := by
  obtain ⟨X, rfl⟩ := Int.eq_ofNat_of_zero_le hx0
  have hp : ptx ⟨0, d, (X : Int)⟩ = sbits fixL (X : Int) := if_pos rfl
  rw [hp] at h
  have hl := ln_fixL X (by omega)
  have hs := sym_sd cer_fixL (by rw [fixL_len]; omega) (by omega) he h
  simp only [cdS]
  rw [if_pos he, hs]
  simp only
  rw [if_pos (by omega), telS_live (s := { s with p := s.p + (sbits fixL (X : Int)).length }) he (by simp only; omega)]
  unfold stp
  rw [hp]
  rfl
theorem cd_copy {b : List Int} {m : Int} {f : Nat} {s : PS} {l d : Nat} {x : Int} (he : s.e = 0) (h3 : 3 ≤ l) (h258 : l ≤ 258) (hd1 : 1 ≤ d) (hd2 : d ≤ 32768) (hdo : d ≤ s.o.length) (h : Sd b s.p (ptx ⟨(l : Int), (d : Int), x⟩)) (hm : ((s.o.length + l : Nat) : Int) ≤ m) : cdS fixL fixD b m (f + 1) s = cdS fixL fixD b m f (stp s ⟨(l : Int), (d : Int), x⟩) := by
  have hp := ptx_copy (l := l) (d := d) (show l ≠ 0 by omega) x
  rw [hp] at h
  have hL := h.left
  have hD := h.right
  unfold ltx at hL
  unfold dtx at hD
  obtain ⟨q1, q2, q3⟩ := lens_lt h3 h258
  obtain ⟨r1, r2, r3⟩ := dist_lt hd1 hd2
  have hl := ln_fixL (257 + lix l) (by omega)
  have hdl := ln_fixD (0 + dix d) (by omega)
  have s1 := sym_sd cer_fixL (by rw [fixL_len]; omega) (by omega) he hL.left
  obtain ⟨p1, hp1⟩ : ∃ p1, p1 = s.p + (sbits fixL ((257 + lix l : Nat) : Int)).length := ⟨_, rfl⟩
  rw [← hp1] at s1
  have hLr := hL.right
  rw [← hp1] at hLr
  have f1 := fld_sd (s := { s with p := p1 }) he hLr (by omega) q3
  have hll : (ltx l).length = (sbits fixL ((257 + lix l : Nat) : Int)).length + lx (lix l) := by unfold ltx; rw [List.length_append, fto_len]
  have e2 : s.p + (ltx l).length = p1 + lx (lix l) := by rw [hll, hp1]; omega
  rw [e2] at hD
  have s2 := sym_sd (s := { s with p := p1 + lx (lix l) }) cer_fixD (by rw [fixD_len]; omega) (by omega) he hD.left
  obtain ⟨p2, hp2⟩ : ∃ p2, p2 = p1 + lx (lix l) + (sbits fixD ((0 + dix d : Nat) : Int)).length := ⟨_, rfl⟩
  have hDr := hD.right
  rw [← hp2] at hDr
  simp only at s2
  rw [← hp2] at s2
  have f2 := fld_sd (s := { s with p := p2 }) he hDr (by omega) r3
  have hdl2 : (dtx d).length = (sbits fixD ((0 + dix d : Nat) : Int)).length + dx (dix d) := by unfold dtx; rw [List.length_append, fto_len]
  have lth : lthS b ((257 + lix l : Nat) : Int) { s with p := p1 } = ((l : Int), { s with p := p1 + lx (lix l) }) := by
    unfold lthS wthS
    rw [show (((257 + lix l : Nat) : Int) - 257).toNat = lix l by omega]
    show ((lb (lix l) : Int) + (fldN b (lx (lix l)) { s with p := p1 }).1, (fldN b (lx (lix l)) { s with p := p1 }).2) = _
    rw [f1]
    simp only
    congr 1
    omega
  have dst : dstS fixD b { s with p := p1 + lx (lix l) } = ((d : Int), { s with p := p2 + dx (dix d) }) := by
    unfold dstS dsyS wthS
    rw [s2]
    simp only
    rw [if_pos (by omega), show (((0 + dix d : Nat) : Int)).toNat = dix d by omega]
    show ((db (dix d) : Int) + (fldN b (dx (dix d)) { s with p := p2 }).1, (fldN b (dx (dix d)) { s with p := p2 }).2) = _
    rw [f2]
    simp only
    congr 1
    omega
  simp only [cdS]
  rw [if_pos he, s1]
  simp only
  rw [if_neg (by omega), if_neg (by omega), if_pos (by omega)]
  congr 1
  unfold cpxS
  rw [lth]
  simp only
  rw [dst]
  simp only [Int.toNat_natCast]
  unfold cpyS farS
  rw [if_neg (by simp only; omega), cpy_sd l { s with p := p2 + dx (dix d) } he (by simp only; omega)]
  unfold stp
  rw [hp, List.length_append, hdl2]
  have : xp1 s.o ⟨(l : Int), (d : Int), x⟩ = cpn d l s.o := by unfold xp1; simp only; rw [if_neg (by omega)]; simp
  rw [this]
  have e3 : p2 + dx (dix d) = s.p + ((ltx l).length + ((sbits fixD ((0 + dix d : Nat) : Int)).length + dx (dix d))) := by omega
  rw [e3]

theorem xp1_grow {p : Pc} {o : List Int} (h : may p = true) : (xp1 o p).length = o.length + sz p := xp1_len h o
theorem xpd_grow : ∀ (l : List Pc) (o : List Int), (∀ p ∈ l, may p = true) → o.length ≤ (xpd o l).length
  | [], o, _ => Nat.le_refl _
  | p :: r, o, h => by
    have ih := xpd_grow r (xp1 o p) (fun q hq => h q (by simp [hq]))
    have := xp1_len (h p (by simp)) o
    show o.length ≤ (xpd (xp1 o p) r).length
    omega
/-- All pieces, and the end of the block. -/
theorem cd_all {b : List Int} {m : Int} : ∀ (l : List Pc) (f : Nat) (s : PS), s.e = 0 → l.length < f → (∀ p ∈ l, 0 ≤ p.b ∧ p.b ≤ 255) → chk (s.o.length : Int) l = 0 → Sd b s.p (ptxs l ++ sbits fixL 256) → ((xpd s.o l).length : Int) ≤ m → cdS fixL fixD b m f s = { s with p := s.p + (ptxs l ++ sbits fixL 256).length, o := xpd s.o l }
  | [], f, s, he, hf, _, _, h, _ => by
    obtain ⟨f', rfl⟩ : ∃ f', f = f' + 1 := ⟨f - 1, by omega⟩
    have h' : Sd b s.p (sbits fixL ((256 : Nat) : Int)) := h
    have hl := ln_fixL 256 (by omega)
    have hs := sym_sd cer_fixL (by rw [fixL_len]; omega) (by omega) he h'
    simp only [cdS]
    rw [if_pos he, hs]
    simp only
    rw [if_neg (by omega), if_pos (by omega)]
    rfl
  | ⟨l, d, x⟩ :: r, f, s, he, hf, hb, hc, h, hm => by
    obtain ⟨f', rfl⟩ : ∃ f', f = f' + 1 := ⟨f - 1, by simp at hf; omega⟩
    obtain ⟨hmay, hd, hcn⟩ := chk_step hc
    have hx := hb ⟨l, d, x⟩ (by simp)
    have hsp : ptxs (⟨l, d, x⟩ :: r) ++ sbits fixL 256 = ptx ⟨l, d, x⟩ ++ (ptxs r ++ sbits fixL 256) := by simp [ptxs]
    rw [hsp] at h ⊢
    have hxl := xp1_len hmay s.o
    have hg := xpd_grow r (xp1 s.o ⟨l, d, x⟩) (chk_may r _ hcn)
    have hm1 : (((xp1 s.o ⟨l, d, x⟩).length : Nat) : Int) ≤ m := by
      have : ((xpd (xp1 s.o ⟨l, d, x⟩) r).length : Int) ≤ m := hm
      omega
    have key : cdS fixL fixD b m (f' + 1) s = cdS fixL fixD b m f' (stp s ⟨l, d, x⟩) := by
      by_cases h0 : l = 0
      · subst h0
        rw [sz_byte] at hxl
        exact cd_byte he hx.1 hx.2 h.left (by omega)
      · have hcp := may_copy hmay h0
        simp only at hcp hd
        obtain ⟨L, rfl⟩ := Int.eq_ofNat_of_zero_le (show 0 ≤ l by omega)
        obtain ⟨D, rfl⟩ := Int.eq_ofNat_of_zero_le (show 0 ≤ d by omega)
        rw [sz_copy (by omega)] at hxl
        exact cd_copy he (by omega) (by omega) (by omega) (by omega) (by omega) h.left (by omega)
    rw [key]
    have ih := cd_all r f' (stp s ⟨l, d, x⟩) he (by simp at hf; omega) (fun p hp => hb p (by simp [hp])) (by
      show chk ((xp1 s.o ⟨l, d, x⟩).length : Int) r = 0
      rw [hxl, ← hcn]
      simp) h.right hm
    rw [ih]
    unfold stp
    simp only [PS.mk.injEq]
    refine ⟨?_, trivial, rfl⟩
    simp only [List.length_append]
    omega
end Go.Proofs.YtnoabdafmgmenaaGreatDoor

namespace Go.Proofs.YtnoabdafmgmenaaGreatDoor
set_option linter.unusedVariables false
set_option linter.unusedSimpArgs false

/-- A stream of one block that is the last. -/
theorem inf_one {F : Nat} {b : List Int} {m k : Int} {s1 s2 t : PS} (h1 : fldN b 1 ⟨0, 0, []⟩ = (1, s1)) (h2 : fldN b 2 s1 = (k, s2)) (hk : knds (F + 1) b m k s2 = t) (he : t.e = 0) : infR (infS (F + 1) b m) = (t.o, ((t.p : Int) + 7) / 8, 0) := by
  have hb : blkS (F + 1) b m ⟨0, 0, []⟩ = t := by
    unfold blkS hd2
    rw [h1]
    simp only
    rw [h2]
    exact hk
  have hl : (blkV (F + 1) b m ⟨0, 0, []⟩).last = true := by
    unfold blkV hd1
    rw [h1]
    rfl
  unfold infS
  rw [allS_on rfl rfl, hb, hl, allS_end (by simp)]
  exact infR_ok he

theorem inf_fixed {F : Nat} {l : List Pc} {m : Int} (hF : l.length + 2 ≤ F) (hb : ∀ p ∈ l, 0 ≤ p.b ∧ p.b ≤ 255) (hc : chk 0 l = 0) (hm : ((xpd [] l).length : Int) ≤ m) : infR (infS F (fxs l) m) = (xpd [] l, ((fxs l).length : Int), 0) := by
  obtain ⟨f, rfl⟩ : ∃ f, F = f + 1 := ⟨F - 1, by omega⟩
  obtain ⟨hs, hlen⟩ := sd_pk (ftx l) (ftx_01 l)
  have hh : Sd (fxs l) 0 (ftx l) := hs
  unfold ftx head3 at hh
  have hA := hh.left.left
  have hB := hh.left.right
  have hC := hh.right
  have e1 : (fto 1 0 1).length = 1 := rfl
  have e2 : (fto 1 0 1 ++ fto 1 0 2).length = 3 := rfl
  rw [e1] at hB
  rw [e2] at hC
  have f1 := fld_sd (b := fxs l) (x := 1) (n := 1) (s := ⟨0, 0, []⟩) rfl hA (by decide) (by decide)
  have f2 := fld_sd (b := fxs l) (x := 1) (n := 2) (s := ⟨0 + 1, 0, []⟩) rfl hB (by decide) (by decide)
  have ca := cd_all (b := fxs l) (m := m) l (f + 1) ⟨0 + 1 + 2, 0, []⟩ rfl (by omega) hb hc hC hm
  have hkn : knds (f + 1) (fxs l) m 1 ⟨0 + 1 + 2, 0, []⟩ = ⟨0 + 1 + 2 + (ptxs l ++ sbits fixL 256).length, 0, xpd [] l⟩ := by
    unfold knds
    rw [if_neg (by decide), if_pos rfl]
    exact ca
  have hfl : (ftx l).length = 3 + (ptxs l ++ sbits fixL 256).length := by
    unfold ftx
    rw [List.length_append]
    rfl
  have hq : (((0 + 1 + 2 + (ptxs l ++ sbits fixL 256).length : Nat) : Int) + 7) / 8 = ((fxs l).length : Int) := by
    unfold fxs
    rw [hlen, hfl]
    omega
  rw [inf_one f1 f2 hkn rfl]
  simp only
  rw [hq]

/-! Stored streams. -/
theorem sd_byte {b : List Int} {i : Nat} (hi : i < b.length) (h : Byt b) : Sd b (8 * i) (fto (b[i]?.getD 0) 0 8) := by
  refine ⟨by rw [fto_len]; omega, fun j hj => ?_⟩
  rw [fto_len] at hj
  rw [fto_at _ 8 0 j hj, Nat.zero_add]
  unfold bitAt
  rw [show (8 * i + j) / 8 = i by omega, show (8 * i + j) % 8 = j by omega]
theorem fld_byte {b : List Int} {i : Nat} (hi : i < b.length) (h : Byt b) (s : PS) (he : s.e = 0) (hp : s.p = 8 * i) : fldN b 8 s = (b[i]?.getD 0, { s with p := 8 * (i + 1) }) := by
  have hb := h.at i
  have hs := sd_byte hi h
  rw [← hp] at hs
  have h8 : (2 : Int) ^ 8 = 256 := by decide
  rw [fld_sd he hs hb.1 (by omega), hp]
  rfl
theorem fld_two {b : List Int} {i : Nat} (hi : i + 1 < b.length) (h : Byt b) (s : PS) (he : s.e = 0) (hp : s.p = 8 * i) : fldN b 16 s = (b[i]?.getD 0 + b[i + 1]?.getD 0 * 256, { s with p := 8 * (i + 2) }) := by
  have h0 := h.at i
  have h1 := h.at (i + 1)
  have hs : Sd b s.p (fto (b[i]?.getD 0 + b[i + 1]?.getD 0 * 256) 0 16) := by
    refine ⟨by rw [fto_len]; omega, fun j hj => ?_⟩
    rw [fto_len] at hj
    rw [fto_at _ 16 0 j hj, Nat.zero_add]
    unfold bitAt
    rw [hp]
    rcases Nat.lt_or_ge j 8 with q | q
    · rw [show (8 * i + j) / 8 = i by omega, show (8 * i + j) % 8 = j by omega]
      have := bit_low (b[i]?.getD 0) (b[i + 1]?.getD 0) j 8 q
      rw [show (2 : Int) ^ 8 = 256 by decide] at this
      exact this.symm
    · obtain ⟨r, rfl⟩ : ∃ r, j = 8 + r := ⟨j - 8, by omega⟩
      rw [show (8 * i + (8 + r)) / 8 = i + 1 by omega, show (8 * i + (8 + r)) % 8 = r by omega, Int.pow_add, show (2 : Int) ^ 8 = 256 by decide]
      rw [← Int.ediv_ediv_of_nonneg (show (0 : Int) ≤ 256 by decide), Int.add_mul_ediv_right _ _ (by decide), Int.ediv_eq_zero_of_lt h0.1 (by omega), Int.zero_add]
  have h16 : (2 : Int) ^ 16 = 65536 := by decide
  rw [fld_sd he hs (by omega) (by omega), hp]
  rfl
theorem sto_all {b : List Int} {m : Int} (h : Byt b) : ∀ (n i : Nat) (s : PS), s.e = 0 → s.p = 8 * i → i + n = b.length → ((s.o.length + n : Nat) : Int) ≤ m → stoL b m n s = { s with p := 8 * (i + n), o := s.o ++ b.drop i }
  | 0, i, s, he, hp, hl, hm => by
    simp only [stoL]
    rw [List.drop_of_length_le (by omega), List.append_nil, Nat.add_zero, ← hp]
  | n + 1, i, s, he, hp, hl, hm => by
    simp only [stoL]
    rw [fld_byte (by omega) h s he hp]
    simp only
    rw [telS_live (s := { s with p := 8 * (i + 1) }) he (by simp only; omega)]
    rw [sto_all h n (i + 1) { s with p := 8 * (i + 1), o := s.o ++ [b[i]?.getD 0] } he rfl (by omega) (by simp; omega)]
    simp only [PS.mk.injEq, true_and]
    refine ⟨by omega, ?_⟩
    rw [List.append_assoc]
    congr 1
    rw [List.drop_eq_getElem_cons (show i < b.length by omega), List.getElem?_eq_getElem (show i < b.length by omega)]
    rfl
theorem sto_len (bs : List Int) : (sto bs).length = bs.length + 5 := by unfold sto; simp
theorem sto_byt {bs : List Int} (h : Byt bs) (hn : bs.length ≤ 65535) : Byt (sto bs) := by
  unfold sto
  refine Byt.app (fun y hy => ?_) h
  simp at hy
  omega
theorem inf_stored {F : Nat} {bs : List Int} {m : Int} (hF : 1 ≤ F) (h : Byt bs) (hn : bs.length ≤ 65535) (hm : (bs.length : Int) ≤ m) : infR (infS F (sto bs) m) = (bs, ((sto bs).length : Int), 0) := by
  obtain ⟨f, rfl⟩ : ∃ f, F = f + 1 := ⟨F - 1, by omega⟩
  have hby := sto_byt h hn
  have hlen := sto_len bs
  have g0 : (sto bs)[0]?.getD 0 = 1 := rfl
  have g1 : (sto bs)[1]?.getD 0 = (bs.length : Int) % 256 := rfl
  have g2 : (sto bs)[2]?.getD 0 = (bs.length : Int) / 256 := rfl
  have g3 : (sto bs)[3]?.getD 0 = 255 - (bs.length : Int) % 256 := rfl
  have g4 : (sto bs)[4]?.getD 0 = 255 - (bs.length : Int) / 256 := rfl
  have hs := sd_byte (b := sto bs) (i := 0) (by omega) hby
  rw [g0] at hs
  have e8 : fto 1 0 8 = fto 1 0 1 ++ (fto 0 0 2 ++ [0, 0, 0, 0, 0]) := by decide
  rw [e8] at hs
  have f1 := fld_sd (b := sto bs) (x := 1) (n := 1) (s := ⟨0, 0, []⟩) rfl hs.left (by decide) (by decide)
  have f2 := fld_sd (b := sto bs) (x := 0) (n := 2) (s := ⟨0 + 1, 0, []⟩) rfl hs.right.left (by decide) (by decide)
  have t1 : tobS ⟨0 + 1 + 2, 0, []⟩ = ⟨8, 0, []⟩ := rfl
  have f3 := fld_two (b := sto bs) (i := 1) (by omega) hby ⟨8, 0, []⟩ rfl rfl
  have f4 := fld_two (b := sto bs) (i := 3) (by omega) hby ⟨8 * (1 + 2), 0, []⟩ rfl rfl
  have ca := sto_all (b := sto bs) (m := m) hby bs.length 5 ⟨8 * (3 + 2), 0, []⟩ rfl rfl (by omega) (by simpa using hm)
  have hd : (sto bs).drop 5 = bs := rfl
  rw [hd] at ca
  have hkn : knds (f + 1) (sto bs) m 0 ⟨0 + 1 + 2, 0, []⟩ = ⟨8 * (5 + bs.length), 0, [] ++ bs⟩ := by
    unfold knds
    rw [if_pos rfl]
    unfold stoS sttS
    rw [t1, f3]
    simp only
    rw [f4]
    simp only [g1, g2, g3, g4]
    rw [if_pos (by omega), show ((bs.length : Int) % 256 + (bs.length : Int) / 256 * 256).toNat = bs.length by omega]
    exact ca
  rw [inf_one f1 f2 hkn rfl]
  simp only [List.nil_append]
  congr 2
  rw [hlen]
  omega

theorem pcs_byte {bs : List Int} (h : Byt bs) : ∀ f A, ∀ p ∈ pcs bs f A, 0 ≤ p.b ∧ p.b ≤ 255
  | 0, A, p, hp => by cases hp
  | f + 1, A, p, hp => by
    by_cases hlt : A < bs.length
    · rw [pcs_on hlt] at hp
      rcases List.mem_cons.1 hp with rfl | hp
      · by_cases hh : 3 ≤ (bst bs A).1
        · obtain ⟨n, q, _, e, _⟩ := pce_copy bs A hh
          rw [e]
          simp
        · rw [(pce_byte bs A hh).1]
          exact h.at A
      · exact pcs_byte h f _ p hp
    · rw [pcs_end hlt] at hp
      cases hp
theorem piece_byte {bs : List Int} (h : Byt bs) : ∀ p ∈ pieces bs, 0 ≤ p.b ∧ p.b ≤ 255 := pcs_byte h _ _

theorem dfl_le (bs : List Int) : (dfl bs).length ≤ bs.length + 5 := by
  have := sto_len bs
  unfold dfl
  split <;> omega
theorem inf_dfl {F : Nat} {bs : List Int} {m : Int} (hF : bs.length + 2 ≤ F) (h : Byt bs) (hn : bs.length ≤ 2000) (hm : (bs.length : Int) ≤ m) : infR (infS F (dfl bs) m) = (bs, ((dfl bs).length : Int), 0) := by
  unfold dfl
  split
  · have hx := xpd_pcs bs (by omega) (bs.length + 1) 0 (Nat.zero_le _) (by omega)
    rw [List.take_zero] at hx
    have hx2 : xpd [] (pieces bs) = bs := hx.2
    have hpl := pieces_le bs
    have hb := piece_byte h
    have := inf_fixed (F := F) (l := pieces bs) (m := m) (by omega) hb hx.1 (by rw [hx2]; exact hm)
    rw [hx2] at this
    exact this
  · exact inf_stored (by omega) h (by omega) hm
end Go.Proofs.YtnoabdafmgmenaaGreatDoor
