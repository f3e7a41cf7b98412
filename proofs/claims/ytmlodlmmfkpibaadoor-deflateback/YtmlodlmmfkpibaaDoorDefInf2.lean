/-
  What Inflate makes of fixed and of stored streams: the bytes that the pieces make, the bytes that were stored, to the stream's last byte. No program and no memory is named here.
-/
import Derived.Test.YtmlodlmmfkpibaaDoorDefInf
namespace Go.Proofs.YtmlodlmmfkpibaaDoor
set_option linter.unusedVariables false
set_option linter.unusedSimpArgs false

/-- A stream of one block that is the last. -/
theorem inf_one {F : Nat} {b : List Int} {m k : Int} {s1 s2 t : PS} (h1 : fldN b 1 ⟨0, 0, []⟩ = (1, s1)) (h2 : fldN b 2 s1 = (k, s2)) (hk : knds (F + 1) b m k s2 = t) (he : t.e = 0) : infR (infS (F + 1) b m) = (t.o, ((t.p : Int) + 7) / 8, 0) := by
  have hb : blkS (F + 1) b m ⟨0, 0, []⟩ = t := by
    unfold blkS hd2
    rw [h1]
    simp only
    rw [h2]
    exact hk
  have hl : (blkV (F + 1) b m ⟨0, 0, []⟩).last = true := by
    unfold blkV hd1
    rw [h1]
    rfl
  unfold infS
  rw [allS_on rfl rfl, hb, hl, allS_end (by simp)]
  exact infR_ok he

theorem inf_fixed {F : Nat} {l : List Pc} {m : Int} (hF : l.length + 2 ≤ F) (hb : ∀ p ∈ l, 0 ≤ p.b ∧ p.b ≤ 255) (hc : chk 0 l = 0) (hm : ((xpd [] l).length : Int) ≤ m) : infR (infS F (fxs l) m) = (xpd [] l, ((fxs l).length : Int), 0) := by
  obtain ⟨f, rfl⟩ : ∃ f, F = f + 1 := ⟨F - 1, by omega⟩
  obtain ⟨hs, hlen⟩ := sd_pk (ftx l) (ftx_01 l)
  have hh : Sd (fxs l) 0 (ftx l) := hs
  unfold ftx head3 at hh
  have hA := hh.left.left
  have hB := hh.left.right
  have hC := hh.right
  have e1 : (fto 1 0 1).length = 1 := rfl
  have e2 : (fto 1 0 1 ++ fto 1 0 2).length = 3 := rfl
  rw [e1] at hB
  rw [e2] at hC
  have f1 := fld_sd (b := fxs l) (x := 1) (n := 1) (s := ⟨0, 0, []⟩) rfl hA (by decide) (by decide)
  have f2 := fld_sd (b := fxs l) (x := 1) (n := 2) (s := ⟨0 + 1, 0, []⟩) rfl hB (by decide) (by decide)
  have ca := cd_all (b := fxs l) (m := m) l (f + 1) ⟨0 + 1 + 2, 0, []⟩ rfl (by omega) hb hc hC hm
  have hkn : knds (f + 1) (fxs l) m 1 ⟨0 + 1 + 2, 0, []⟩ = ⟨0 + 1 + 2 + (ptxs l ++ sbits fixL 256).length, 0, xpd [] l⟩ := by
    unfold knds
    rw [if_neg (by decide), if_pos rfl]
    exact ca
  have hfl : (ftx l).length = 3 + (ptxs l ++ sbits fixL 256).length := by
    unfold ftx
    rw [List.length_append]
    rfl
  have hq : (((0 + 1 + 2 + (ptxs l ++ sbits fixL 256).length : Nat) : Int) + 7) / 8 = ((fxs l).length : Int) := by
    unfold fxs
    rw [hlen, hfl]
    omega
  rw [inf_one f1 f2 hkn rfl]
  simp only
  rw [hq]

/-! Stored streams. -/
theorem sd_byte {b : List Int} {i : Nat} (hi : i < b.length) (h : Byt b) : Sd b (8 * i) (fto (b[i]?.getD 0) 0 8) := by
  refine ⟨by rw [fto_len]; omega, fun j hj => ?_⟩
  rw [fto_len] at hj
  rw [fto_at _ 8 0 j hj, Nat.zero_add]
  unfold bitAt
  rw [show (8 * i + j) / 8 = i by omega, show (8 * i + j) % 8 = j by omega]
theorem fld_byte {b : List Int} {i : Nat} (hi : i < b.length) (h : Byt b) (s : PS) (he : s.e = 0) (hp : s.p = 8 * i) : fldN b 8 s = (b[i]?.getD 0, { s with p := 8 * (i + 1) }) := by
  have hb := h.at i
  have hs := sd_byte hi h
  rw [← hp] at hs
  have h8 : (2 : Int) ^ 8 = 256 := by decide
  rw [fld_sd he hs hb.1 (by omega), hp]
  rfl
theorem fld_two {b : List Int} {i : Nat} (hi : i + 1 < b.length) (h : Byt b) (s : PS) (he : s.e = 0) (hp : s.p = 8 * i) : fldN b 16 s = (b[i]?.getD 0 + b[i + 1]?.getD 0 * 256, { s with p := 8 * (i + 2) }) := by
  have h0 := h.at i
  have h1 := h.at (i + 1)
  have hs : Sd b s.p (fto (b[i]?.getD 0 + b[i + 1]?.getD 0 * 256) 0 16) := by
    refine ⟨by rw [fto_len]; omega, fun j hj => ?_⟩
    rw [fto_len] at hj
    rw [fto_at _ 16 0 j hj, Nat.zero_add]
    unfold bitAt
    rw [hp]
    rcases Nat.lt_or_ge j 8 with q | q
    · rw [show (8 * i + j) / 8 = i by omega, show (8 * i + j) % 8 = j by omega]
      have := bit_low (b[i]?.getD 0) (b[i + 1]?.getD 0) j 8 q
      rw [show (2 : Int) ^ 8 = 256 by decide] at this
      exact this.symm
    · obtain ⟨r, rfl⟩ : ∃ r, j = 8 + r := ⟨j - 8, by omega⟩
      rw [show (8 * i + (8 + r)) / 8 = i + 1 by omega, show (8 * i + (8 + r)) % 8 = r by omega, Int.pow_add, show (2 : Int) ^ 8 = 256 by decide]
      rw [← Int.ediv_ediv_of_nonneg (show (0 : Int) ≤ 256 by decide), Int.add_mul_ediv_right _ _ (by decide), Int.ediv_eq_zero_of_lt h0.1 (by omega), Int.zero_add]
  have h16 : (2 : Int) ^ 16 = 65536 := by decide
  rw [fld_sd he hs (by omega) (by omega), hp]
  rfl
theorem sto_all {b : List Int} {m : Int} (h : Byt b) : ∀ (n i : Nat) (s : PS), s.e = 0 → s.p = 8 * i → i + n = b.length → ((s.o.length + n : Nat) : Int) ≤ m → stoL b m n s = { s with p := 8 * (i + n), o := s.o ++ b.drop i }
  | 0, i, s, he, hp, hl, hm => by
    simp only [stoL]
    rw [List.drop_of_length_le (by omega), List.append_nil, Nat.add_zero, ← hp]
  | n + 1, i, s, he, hp, hl, hm => by
    simp only [stoL]
    rw [fld_byte (by omega) h s he hp]
    simp only
    rw [telS_live (s := { s with p := 8 * (i + 1) }) he (by simp only; omega)]
    rw [sto_all h n (i + 1) { s with p := 8 * (i + 1), o := s.o ++ [b[i]?.getD 0] } he rfl (by omega) (by simp; omega)]
    simp only [PS.mk.injEq, true_and]
    refine ⟨by omega, ?_⟩
    rw [List.append_assoc]
    congr 1
    rw [List.drop_eq_getElem_cons (show i < b.length by omega), List.getElem?_eq_getElem (show i < b.length by omega)]
    rfl
theorem sto_len (bs : List Int) : (sto bs).length = bs.length + 5 := by unfold sto; simp
theorem sto_byt {bs : List Int} (h : Byt bs) (hn : bs.length ≤ 65535) : Byt (sto bs) := by
  unfold sto
  refine Byt.app (fun y hy => ?_) h
  simp at hy
  omega
theorem inf_stored {F : Nat} {bs : List Int} {m : Int} (hF : 1 ≤ F) (h : Byt bs) (hn : bs.length ≤ 65535) (hm : (bs.length : Int) ≤ m) : infR (infS F (sto bs) m) = (bs, ((sto bs).length : Int), 0) := by
  obtain ⟨f, rfl⟩ : ∃ f, F = f + 1 := ⟨F - 1, by omega⟩
  have hby := sto_byt h hn
  have hlen := sto_len bs
  have g0 : (sto bs)[0]?.getD 0 = 1 := rfl
  have g1 : (sto bs)[1]?.getD 0 = (bs.length : Int) % 256 := rfl
  have g2 : (sto bs)[2]?.getD 0 = (bs.length : Int) / 256 := rfl
  have g3 : (sto bs)[3]?.getD 0 = 255 - (bs.length : Int) % 256 := rfl
  have g4 : (sto bs)[4]?.getD 0 = 255 - (bs.length : Int) / 256 := rfl
  have hs := sd_byte (b := sto bs) (i := 0) (by omega) hby
  rw [g0] at hs
  have e8 : fto 1 0 8 = fto 1 0 1 ++ (fto 0 0 2 ++ [0, 0, 0, 0, 0]) := by decide
  rw [e8] at hs
  have f1 := fld_sd (b := sto bs) (x := 1) (n := 1) (s := ⟨0, 0, []⟩) rfl hs.left (by decide) (by decide)
  have f2 := fld_sd (b := sto bs) (x := 0) (n := 2) (s := ⟨0 + 1, 0, []⟩) rfl hs.right.left (by decide) (by decide)
  have t1 : tobS ⟨0 + 1 + 2, 0, []⟩ = ⟨8, 0, []⟩ := rfl
  have f3 := fld_two (b := sto bs) (i := 1) (by omega) hby ⟨8, 0, []⟩ rfl rfl
  have f4 := fld_two (b := sto bs) (i := 3) (by omega) hby ⟨8 * (1 + 2), 0, []⟩ rfl rfl
  have ca := sto_all (b := sto bs) (m := m) hby bs.length 5 ⟨8 * (3 + 2), 0, []⟩ rfl rfl (by omega) (by simpa using hm)
  have hd : (sto bs).drop 5 = bs := rfl
  rw [hd] at ca
  have hkn : knds (f + 1) (sto bs) m 0 ⟨0 + 1 + 2, 0, []⟩ = ⟨8 * (5 + bs.length), 0, [] ++ bs⟩ := by
    unfold knds
    rw [if_pos rfl]
    unfold stoS sttS
    rw [t1, f3]
    simp only
    rw [f4]
    simp only [g1, g2, g3, g4]
    rw [if_pos (by omega), show ((bs.length : Int) % 256 + (bs.length : Int) / 256 * 256).toNat = bs.length by omega]
    exact ca
  rw [inf_one f1 f2 hkn rfl]
  simp only [List.nil_append]
  congr 2
  rw [hlen]
  omega

theorem pcs_byte {bs : List Int} (h : Byt bs) : ∀ f A, ∀ p ∈ pcs bs f A, 0 ≤ p.b ∧ p.b ≤ 255
  | 0, A, p, hp => by cases hp
  | f + 1, A, p, hp => by
    by_cases hlt : A < bs.length
    · rw [pcs_on hlt] at hp
      rcases List.mem_cons.1 hp with rfl | hp
      · by_cases hh : 3 ≤ (bst bs A).1
        · obtain ⟨n, q, _, e, _⟩ := pce_copy bs A hh
          rw [e]
          simp
        · rw [(pce_byte bs A hh).1]
          exact h.at A
      · exact pcs_byte h f _ p hp
    · rw [pcs_end hlt] at hp
      cases hp
theorem piece_byte {bs : List Int} (h : Byt bs) : ∀ p ∈ pieces bs, 0 ≤ p.b ∧ p.b ≤ 255 := pcs_byte h _ _

theorem dfl_le (bs : List Int) : (dfl bs).length ≤ bs.length + 5 := by
  have := sto_len bs
  unfold dfl
  split <;> omega
theorem inf_dfl {F : Nat} {bs : List Int} {m : Int} (hF : bs.length + 2 ≤ F) (h : Byt bs) (hn : bs.length ≤ 2000) (hm : (bs.length : Int) ≤ m) : infR (infS F (dfl bs) m) = (bs, ((dfl bs).length : Int), 0) := by
  unfold dfl
  split
  · have hx := xpd_pcs bs (by omega) (bs.length + 1) 0 (Nat.zero_le _) (by omega)
    rw [List.take_zero] at hx
    have hx2 : xpd [] (pieces bs) = bs := hx.2
    have hpl := pieces_le bs
    have hb := piece_byte h
    have := inf_fixed (F := F) (l := pieces bs) (m := m) (by omega) hb hx.1 (by rw [hx2]; exact hm)
    rw [hx2] at this
    exact this
  · exact inf_stored (by omega) h (by omega) hm
end Go.Proofs.YtmlodlmmfkpibaaDoor
