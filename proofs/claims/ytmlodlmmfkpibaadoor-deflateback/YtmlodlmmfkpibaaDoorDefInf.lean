/-
  What is written is read back: plain facts on the reading of fixed and stored streams. No program and no memory is named here.
-/
import Derived.Test.YtmlodlmmfkpibaaDoorHufBackP
import Derived.Test.YtmlodlmmfkpibaaDoorDefAll
import Derived.Test.YtmlodlmmfkpibaaDoorInfEnds
namespace Go.Proofs.YtmlodlmmfkpibaaDoor
set_option linter.unusedVariables false
set_option linter.unusedSimpArgs false

/-- The bits t stand in bytes from bit p on. -/
structure Sd (b : List Int) (p : Nat) (t : List Int) : Prop where
  room : p + t.length ≤ 8 * b.length
  bits : ∀ j, j < t.length → bitAt b (p + j) = t[j]?.getD 0
theorem Sd.left {b : List Int} {p : Nat} {s t : List Int} (h : Sd b p (s ++ t)) : Sd b p s := by
  refine ⟨by have := h.room; simp at this; omega, fun j hj => ?_⟩
  rw [h.bits j (by simp; omega), List.getElem?_append_left hj]
theorem Sd.right {b : List Int} {p : Nat} {s t : List Int} (h : Sd b p (s ++ t)) : Sd b (p + s.length) t := by
  refine ⟨by have := h.room; simp at this; omega, fun j hj => ?_⟩
  have := h.bits (s.length + j) (by simp; omega)
  rw [Nat.add_assoc, this, List.getElem?_append_right (by omega), show s.length + j - s.length = j by omega]
theorem sd_pk (t : List Int) (h : Bit01 t) : Sd (pkF [] 0 t) 0 t ∧ (pkF [] 0 t).length = (t.length + 7) / 8 := by
  have hW := Wst.pk t Wst.nought h
  have hb := (pk_bits t Wst.nought h).2
  have hl := hW.len
  rw [Nat.zero_add] at hl
  exact ⟨⟨by omega, fun j hj => hb j hj⟩, hl⟩

theorem pow_split (x : Int) (n : Nat) : x % 2 ^ (n + 1) = x % 2 ^ n + x / 2 ^ n % 2 * 2 ^ n := by
  have hp : (0 : Int) < 2 ^ n := Int.pow_pos (by omega)
  have h1 := Int.emod_add_mul_ediv x (2 ^ n)
  have h2 := Int.emod_add_mul_ediv x (2 ^ (n + 1))
  have h3 : x / (2 : Int) ^ (n + 1) = x / 2 ^ n / 2 := by rw [Int.pow_succ, Int.ediv_ediv_of_nonneg (Int.le_of_lt hp)]
  rw [h3] at h2
  have h4 := Int.emod_add_mul_ediv (x / 2 ^ n) 2
  generalize x / 2 ^ n = q at *
  have h5 : (2 : Int) ^ (n + 1) * (q / 2) = 2 ^ n * (2 * (q / 2)) := by rw [Int.pow_succ, Int.mul_assoc]
  rw [h5] at h2
  have h6 : 2 ^ n * q = 2 ^ n * (q % 2) + 2 ^ n * (2 * (q / 2)) := by rw [← Int.mul_add, h4]
  rw [Int.mul_comm (q % 2)]
  omega

/-- A field is read. -/
theorem fld_part {b : List Int} {x : Int} : ∀ (k : Nat) (s : PS), s.e = 0 → (∀ j, j < k → bitAt b (s.p + j) = x / 2 ^ j % 2) → s.p + k ≤ 8 * b.length → fldN b k s = (x % 2 ^ k, { s with p := s.p + k })
  | 0, s, _, _, _ => by simp [fldN]
  | k + 1, s, he, hb, hl => by
    have ih := fld_part k s he (fun j hj => hb j (by omega)) (by omega)
    simp only [fldN]
    rw [ih, bitS_live (s := { s with p := s.p + k }) he (by simp only; omega)]
    simp only
    rw [hb k (by omega), pow_split]
    rfl
theorem fld_sd {b : List Int} {x : Int} {n : Nat} {s : PS} (he : s.e = 0) (h : Sd b s.p (fto x 0 n)) (h0 : 0 ≤ x) (h1 : x < 2 ^ n) : fldN b n s = (x, { s with p := s.p + n }) := by
  have hr := h.room
  rw [fto_len] at hr
  rw [fld_part n s he (fun j hj => by rw [h.bits j (by rw [fto_len]; exact hj), fto_at x n 0 j hj, Nat.zero_add]) hr, Int.emod_eq_of_lt h0 h1]

/-- A symbol is read. -/
theorem sym_sd {L b : List Int} (hc : cer L = 0) {i : Nat} (hi : i < L.length) (h0 : ln L i ≠ 0) {s : PS} (he : s.e = 0) (h : Sd b s.p (sbits L (i : Int))) : symS L b s = ((i : Int), { s with p := s.p + (sbits L (i : Int)).length }) := by
  have hG := good_of hc
  have hf := hG.fit _ (ln_mem hi)
  obtain ⟨k, hk⟩ : ∃ k : Nat, ln L i = (k : Int) := ⟨(ln L i).toNat, by omega⟩
  have hlen : (sbits L (i : Int)).length = k := by rw [sbits_n, hk]; simp
  have hr := h.room
  have := rd_code hG (b := b) (at_ := s.p) hi hk (by omega) (fun j hj => ?_) (by omega)
  · rw [symS_live he]
    unfold rdq
    rw [if_pos hc, if_neg (by omega), Int.toNat_natCast, this, hlen]
    simp [he]
  · rw [h.bits j (by omega)]
    have := bto_at (code L i) k j hj
    unfold sbits
    rw [Int.toNat_natCast, hk, Int.toNat_natCast]
    exact this

/-- A copy is told. -/
theorem cpy_sd {m : Int} {d : Nat} : ∀ (n : Nat) (s : PS), s.e = 0 → ((s.o.length + n : Nat) : Int) ≤ m → cpyL m d n s = { s with o := cpn d n s.o }
  | 0, s, _, _ => rfl
  | n + 1, s, he, hm => by
    simp only [cpyL, bckS, cpn]
    rw [telS_live he (by omega)]
    exact cpy_sd n { s with o := s.o ++ [s.o[s.o.length - d]?.getD 0] } he (by simp; omega)
theorem lens_lt {n : Nat} (h3 : 3 ≤ n) (h : n ≤ 258) : lix n ≤ 28 ∧ (lb (lix n) : Int) ≤ n ∧ (n : Int) - (lb (lix n) : Int) < 2 ^ lx (lix n) := by
  have h1 : (List.range 259).all (fun n => decide (n < 3) || (decide ((lb (lix n) : Int) ≤ n) && decide ((n : Int) - (lb (lix n) : Int) < 2 ^ lx (lix n)))) = true := by kernel_rfl
  have h2 := List.all_eq_true.1 h1 n (by simp; omega)
  simp at h2
  refine ⟨lix_le n, ?_⟩
  rcases h2 with h2 | h2
  · omega
  · exact ⟨by omega, h2.2⟩
/-- Every number lies in some span. -/
theorem span_of (n : Nat) (h1 : 1 ≤ n) (h2 : n < 32769) : ∀ K, K ≤ 29 → n < db K + 2 ^ dx K → ∃ k, k ≤ 29 ∧ db k ≤ n ∧ n < db k + 2 ^ dx k
  | 0, _, h => ⟨0, by omega, by show 1 ≤ n; exact h1, h⟩
  | K + 1, hK, h => by
    rcases Nat.lt_or_ge n (db (K + 1)) with q | q
    · rw [db_step K (by omega)] at q
      exact span_of n h1 h2 K (by omega) q
    · exact ⟨K + 1, hK, q, h⟩
theorem dist_lt {n : Nat} (h1 : 1 ≤ n) (h2 : n ≤ 32768) : dix n ≤ 29 ∧ (db (dix n) : Int) ≤ n ∧ (n : Int) - (db (dix n) : Int) < 2 ^ dx (dix n) := by
  have h29 : db 29 + 2 ^ dx 29 = 32769 := by decide
  obtain ⟨k, hk, a, b⟩ := span_of n h1 (by omega) 29 (Nat.le_refl _) (by omega)
  rw [dix_is hk a b]
  refine ⟨hk, by omega, ?_⟩
  have : ((2 ^ dx k : Nat) : Int) = (2 : Int) ^ dx k := by rw [Int.natCast_pow]; rfl
  omega

/-- The state behind a piece. -/
def stp (s : PS) (p : Pc) : PS := { s with p := s.p + (ptx p).length, o := xp1 s.o p }
theorem nat_lt {a b : Nat} (h : a < b) : (a : Int) < (b : Int) := by omega

theorem cd_byte {b : List Int} {m : Int} {f : Nat} {s : PS} {d x : Int} (he : s.e = 0) (hx0 : 0 ≤ x) (hx1 : x ≤ 255) (h : Sd b s.p (ptx ⟨0, d, x⟩)) (hm : ((s.o.length + 1 : Nat) : Int) ≤ m) : cdS fixL fixD b m (f + 1) s = cdS fixL fixD b m f (stp s ⟨0, d, x⟩) := by
  obtain ⟨X, rfl⟩ := Int.eq_ofNat_of_zero_le hx0
  have hp : ptx ⟨0, d, (X : Int)⟩ = sbits fixL (X : Int) := if_pos rfl
  rw [hp] at h
  have hl := ln_fixL X (by omega)
  have hs := sym_sd cer_fixL (by rw [fixL_len]; omega) (by omega) he h
  simp only [cdS]
  rw [if_pos he, hs]
  simp only
  rw [if_pos (by omega), telS_live (s := { s with p := s.p + (sbits fixL (X : Int)).length }) he (by simp only; omega)]
  unfold stp
  rw [hp]
  rfl
theorem cd_copy {b : List Int} {m : Int} {f : Nat} {s : PS} {l d : Nat} {x : Int} (he : s.e = 0) (h3 : 3 ≤ l) (h258 : l ≤ 258) (hd1 : 1 ≤ d) (hd2 : d ≤ 32768) (hdo : d ≤ s.o.length) (h : Sd b s.p (ptx ⟨(l : Int), (d : Int), x⟩)) (hm : ((s.o.length + l : Nat) : Int) ≤ m) : cdS fixL fixD b m (f + 1) s = cdS fixL fixD b m f (stp s ⟨(l : Int), (d : Int), x⟩) := by
  have hp := ptx_copy (l := l) (d := d) (show l ≠ 0 by omega) x
  rw [hp] at h
  have hL := h.left
  have hD := h.right
  unfold ltx at hL
  unfold dtx at hD
  obtain ⟨q1, q2, q3⟩ := lens_lt h3 h258
  obtain ⟨r1, r2, r3⟩ := dist_lt hd1 hd2
  have hl := ln_fixL (257 + lix l) (by omega)
  have hdl := ln_fixD (0 + dix d) (by omega)
  have s1 := sym_sd cer_fixL (by rw [fixL_len]; omega) (by omega) he hL.left
  obtain ⟨p1, hp1⟩ : ∃ p1, p1 = s.p + (sbits fixL ((257 + lix l : Nat) : Int)).length := ⟨_, rfl⟩
  rw [← hp1] at s1
  have hLr := hL.right
  rw [← hp1] at hLr
  have f1 := fld_sd (s := { s with p := p1 }) he hLr (by omega) q3
  have hll : (ltx l).length = (sbits fixL ((257 + lix l : Nat) : Int)).length + lx (lix l) := by unfold ltx; rw [List.length_append, fto_len]
  have e2 : s.p + (ltx l).length = p1 + lx (lix l) := by rw [hll, hp1]; omega
  rw [e2] at hD
  have s2 := sym_sd (s := { s with p := p1 + lx (lix l) }) cer_fixD (by rw [fixD_len]; omega) (by omega) he hD.left
  obtain ⟨p2, hp2⟩ : ∃ p2, p2 = p1 + lx (lix l) + (sbits fixD ((0 + dix d : Nat) : Int)).length := ⟨_, rfl⟩
  have hDr := hD.right
  rw [← hp2] at hDr
  simp only at s2
  rw [← hp2] at s2
  have f2 := fld_sd (s := { s with p := p2 }) he hDr (by omega) r3
  have hdl2 : (dtx d).length = (sbits fixD ((0 + dix d : Nat) : Int)).length + dx (dix d) := by unfold dtx; rw [List.length_append, fto_len]
  have lth : lthS b ((257 + lix l : Nat) : Int) { s with p := p1 } = ((l : Int), { s with p := p1 + lx (lix l) }) := by
    unfold lthS wthS
    rw [show (((257 + lix l : Nat) : Int) - 257).toNat = lix l by omega]
    show ((lb (lix l) : Int) + (fldN b (lx (lix l)) { s with p := p1 }).1, (fldN b (lx (lix l)) { s with p := p1 }).2) = _
    rw [f1]
    simp only
    congr 1
    omega
  have dst : dstS fixD b { s with p := p1 + lx (lix l) } = ((d : Int), { s with p := p2 + dx (dix d) }) := by
    unfold dstS dsyS wthS
    rw [s2]
    simp only
    rw [if_pos (by omega), show (((0 + dix d : Nat) : Int)).toNat = dix d by omega]
    show ((db (dix d) : Int) + (fldN b (dx (dix d)) { s with p := p2 }).1, (fldN b (dx (dix d)) { s with p := p2 }).2) = _
    rw [f2]
    simp only
    congr 1
    omega
  simp only [cdS]
  rw [if_pos he, s1]
  simp only
  rw [if_neg (by omega), if_neg (by omega), if_pos (by omega)]
  congr 1
  unfold cpxS
  rw [lth]
  simp only
  rw [dst]
  simp only [Int.toNat_natCast]
  unfold cpyS farS
  rw [if_neg (by simp only; omega), cpy_sd l { s with p := p2 + dx (dix d) } he (by simp only; omega)]
  unfold stp
  rw [hp, List.length_append, hdl2]
  have : xp1 s.o ⟨(l : Int), (d : Int), x⟩ = cpn d l s.o := by unfold xp1; simp only; rw [if_neg (by omega)]; simp
  rw [this]
  have e3 : p2 + dx (dix d) = s.p + ((ltx l).length + ((sbits fixD ((0 + dix d : Nat) : Int)).length + dx (dix d))) := by omega
  rw [e3]

theorem xp1_grow {p : Pc} {o : List Int} (h : may p = true) : (xp1 o p).length = o.length + sz p := xp1_len h o
theorem xpd_grow : ∀ (l : List Pc) (o : List Int), (∀ p ∈ l, may p = true) → o.length ≤ (xpd o l).length
  | [], o, _ => Nat.le_refl _
  | p :: r, o, h => by
    have ih := xpd_grow r (xp1 o p) (fun q hq => h q (by simp [hq]))
    have := xp1_len (h p (by simp)) o
    show o.length ≤ (xpd (xp1 o p) r).length
    omega
/-- All pieces, and the end of the block. -/
theorem cd_all {b : List Int} {m : Int} : ∀ (l : List Pc) (f : Nat) (s : PS), s.e = 0 → l.length < f → (∀ p ∈ l, 0 ≤ p.b ∧ p.b ≤ 255) → chk (s.o.length : Int) l = 0 → Sd b s.p (ptxs l ++ sbits fixL 256) → ((xpd s.o l).length : Int) ≤ m → cdS fixL fixD b m f s = { s with p := s.p + (ptxs l ++ sbits fixL 256).length, o := xpd s.o l }
  | [], f, s, he, hf, _, _, h, _ => by
    obtain ⟨f', rfl⟩ : ∃ f', f = f' + 1 := ⟨f - 1, by omega⟩
    have h' : Sd b s.p (sbits fixL ((256 : Nat) : Int)) := h
    have hl := ln_fixL 256 (by omega)
    have hs := sym_sd cer_fixL (by rw [fixL_len]; omega) (by omega) he h'
    simp only [cdS]
    rw [if_pos he, hs]
    simp only
    rw [if_neg (by omega), if_pos (by omega)]
    rfl
  | ⟨l, d, x⟩ :: r, f, s, he, hf, hb, hc, h, hm => by
    obtain ⟨f', rfl⟩ : ∃ f', f = f' + 1 := ⟨f - 1, by simp at hf; omega⟩
    obtain ⟨hmay, hd, hcn⟩ := chk_step hc
    have hx := hb ⟨l, d, x⟩ (by simp)
    have hsp : ptxs (⟨l, d, x⟩ :: r) ++ sbits fixL 256 = ptx ⟨l, d, x⟩ ++ (ptxs r ++ sbits fixL 256) := by simp [ptxs]
    rw [hsp] at h ⊢
    have hxl := xp1_len hmay s.o
    have hg := xpd_grow r (xp1 s.o ⟨l, d, x⟩) (chk_may r _ hcn)
    have hm1 : (((xp1 s.o ⟨l, d, x⟩).length : Nat) : Int) ≤ m := by
      have : ((xpd (xp1 s.o ⟨l, d, x⟩) r).length : Int) ≤ m := hm
      omega
    have key : cdS fixL fixD b m (f' + 1) s = cdS fixL fixD b m f' (stp s ⟨l, d, x⟩) := by
      by_cases h0 : l = 0
      · subst h0
        rw [sz_byte] at hxl
        exact cd_byte he hx.1 hx.2 h.left (by omega)
      · have hcp := may_copy hmay h0
        simp only at hcp hd
        obtain ⟨L, rfl⟩ := Int.eq_ofNat_of_zero_le (show 0 ≤ l by omega)
        obtain ⟨D, rfl⟩ := Int.eq_ofNat_of_zero_le (show 0 ≤ d by omega)
        rw [sz_copy (by omega)] at hxl
        exact cd_copy he (by omega) (by omega) (by omega) (by omega) (by omega) h.left (by omega)
    rw [key]
    have ih := cd_all r f' (stp s ⟨l, d, x⟩) he (by simp at hf; omega) (fun p hp => hb p (by simp [hp])) (by
      show chk ((xp1 s.o ⟨l, d, x⟩).length : Int) r = 0
      rw [hxl, ← hcn]
      simp) h.right hm
    rw [ih]
    unfold stp
    simp only [PS.mk.injEq]
    refine ⟨?_, trivial, rfl⟩
    simp only [List.length_append]
    omega
end Go.Proofs.YtmlodlmmfkpibaaDoor
