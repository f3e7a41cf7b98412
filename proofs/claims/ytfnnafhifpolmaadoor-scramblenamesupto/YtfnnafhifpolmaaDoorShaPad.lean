/-
  What pad of package sha does: the end of the bytes, and their last blocks. Conditions: a hash of one of the two kinds; the table of constants holds what the program's text says; fewer than 10 to the 12 bytes.
-/
import Derived.Test.YtfnnafhifpolmaaDoorShaTake
namespace Go.Proofs.YtfnnafhifpolmaaDoor
open Go.RowKit
set_option linter.unusedVariables false
set_option linter.unusedSimpArgs false

/-- What is put ahead of the length. -/
theorem set_bp (A : List Int) (N : Int) (j : Nat) (hA : A.length = 56) (h : j < 8) : (A ++ bp N j).set (63 - j) (N / 256 ^ j % 256) = A ++ bp N (j + 1) := by
  rw [List.set_append_right _ _ (by omega), hA, show 63 - j - 56 = 7 - j by omega, bp_step N j h]

set_option maxHeartbeats 2000000 in
theorem pad_any (g : Nat) (k : Int) (xs : List Int) (w : World) (h : Ho w g k xs) (hk : k = 1 ∨ k = 2) (hxs : Byt xs) (hg : 1 ≤ g) (hv : Vars w) (hbd : xs.length ≤ 1000000000000) :
    Calls Tryd.prog 44 #[.pointer (some ⟨g, 0, none⟩)] w fun e w' => e = .returned (.tuple #[]) ∧ Hs w' g k (wf k (pd xs) ((pd xs).length / 64)) (zs 64) (xs.length : Nat) ∧ Gb g w w' := by
  have h' : Hs w g k (wst k xs) (rst xs) (xs.length : Nat) := h
  obtain ⟨Y, hY⟩ : ∃ Y, xs.length = Y := ⟨_, rfl⟩
  obtain ⟨f, hf⟩ : ∃ f, Y % 64 = f := ⟨_, rfl⟩
  have f64 : f < 64 := by omega
  have hm := rst_mark xs
  have hl := tls_len xs
  have hwp := hide (wf_pd k xs)
  rw [hY] at h' hm hbd hl
  rw [hf] at hm hl
  have cC := h'.count
  have cR := h'.rest (i := f) f64
  have fR := h'.free (9 + f)
  have h2 := h'.setR (i := f) f64 128
  rw [hm] at h2
  have eF : (Y : Int) % 64 = (f : Int) := by omega
  have i1 : 0 ≤ (f : Int) ∧ (f : Int) < 64 := by omega
  have HK := hide hk
  have HX := hide hxs
  have HV := hide hv
  have HF := hide hf
  have HYl := hide hY
  have HL := hide hl
  have N1 := hide (show (8 * (xs.length : Int)) = (Y : Int) * 8 by rw [hY]; omega)
  generalize ix (rst xs) f = X at *
  by_cases hff : f < 56
  · have hfl : ¬ (56 : Int) ≤ (f : Int) := by omega
    obtain ⟨p1, p2⟩ := pd_one xs (by rw [hY, hf]; exact hff)
    rw [hY, hf] at p1
    rw [hY] at p2
    obtain ⟨A, hA⟩ : ∃ A, tls xs ++ (128 :: zs (55 - f)) = A := ⟨_, rfl⟩
    have hAl : A.length = 56 := by rw [← hA]; simp [hl, zs_len]; omega
    have h3 : Hs (w.setCell ⟨g, 9 + f, none⟩ (.int .u8 128)) g k (wst k xs) (A ++ zs 8) (Y : Nat) := by
      rw [← hA, List.append_assoc, List.cons_append, zs_app, show 55 - f + 8 = 63 - f by omega]; exact h2
    have HA := hide hAl
    have hAb := hide (show Byt A by rw [← hA]; exact (hxs.drop _).app (Byt.cons (by decide) (by decide) (zs_byt _)))
    have fin := hide (show mixk k (wst k xs) (wds (A ++ be8 ((Y : Int) * 8))) = wf k (pd xs) ((pd xs).length / 64) by
      rw [p2, ← hA, ← unhide N1, hY, p1]
      simp only [wf]
      rw [← hY, unhide hwp])
    have WW := hide (show Wds (wst k xs) from wf_wds k xs _)
    have H3 := hide h3
    have G3 := hide (show Gb g w (w.setCell ⟨g, 9 + f, none⟩ (.int .u8 128)) from (Gb.refl g w).set _ _)
    have cC3 := h3.count
    clear h2 h3 hm hA p1 p2 hwp h h' hk hxs hv hf hY hl hAl hff
    generalize wst k xs = W1 at *
    go_enter Tryd.func44, Tryd.ntmps44
    go_wp2_with fail
    go_loopw [4, 3] (fun i v ws => ∃ (j : Nat) (b : Int), j ≤ 8 ∧ i = .int .i64 (63 - (j : Int)) ∧ v = .int .u64 b ∧ b = (Y : Int) * 8 / 256 ^ j ∧ Hs ws g k W1 (A ++ bp ((Y : Int) * 8) j) (Y : Nat) ∧ Gb g w ws) (fun i _ _ => (intOf i).toNat - 55)
    case atStart => exact ⟨0, (Y : Int) * 8, by omega, rfl, rfl, by simp, by rw [bp_zero]; exact unhide H3, unhide G3⟩
    case round =>
      clear H3 G3
      obtain ⟨j, b, hj, rfl, rfl, hb, hH, hG⟩ := hrel
      have hlen : (A ++ bp ((Y : Int) * 8) j).length = 64 := by rw [List.length_append, unhide HA, bp_len _ _ hj]
      have b0 : 0 ≤ b := by rw [hb]; exact Int.ediv_nonneg (by omega) (Int.pow_nonneg (by decide))
      have b1 : b ≤ 8000000000000 := by rw [hb]; exact Int.le_trans (Int.ediv_le_self _ (by omega)) (by omega)
      by_cases hlt : j < 8
      · obtain ⟨p, hp⟩ : ∃ p : Nat, 63 - j = p := ⟨_, rfl⟩
        have ep : 63 - (j : Int) = (p : Int) := by omega
        have p64 : p < 64 := by omega
        have p56 : (56 : Int) ≤ (p : Int) := by omega
        have ip : 0 ≤ (p : Int) ∧ (p : Int) < 64 := by omega
        have c1 := hH.rest (i := p) p64
        have f1 := hH.free (9 + p)
        have hst := hide (set_bp A ((Y : Int) * 8) j (unhide HA) hlt)
        rw [← hb, hp] at hst
        have hnx := hide (pow_next ((Y : Int) * 8) j)
        rw [← hb] at hnx
        have HH := hide hH
        have HG := hide hG
        generalize ix (A ++ bp ((Y : Int) * 8) j) p = X1 at *
        rw [ep]
        clear hH hG hb hlen hp
        go_wp2_with fail
        go_roundw
        case rel =>
          refine ⟨j + 1, b / 256, by omega, by congr 1; omega, rfl, unhide hnx, ?_, (unhide HG).set _ _⟩
          rw [← unhide hst]
          exact (unhide HH).setR p64 _
        case measure => simp [intOf]; omega
      · have hj8 : j = 8 := by omega
        subst hj8
        rw [bp_all] at hH
        have ec2 := hide (endBlock_any g k _ _ _ wr hH (unhide HK) (unhide WW) ((unhide hAb).app (be8_byt _)) hg ((unhide HV).gb hg hG))
        rw [unhide fin] at ec2
        have HG := hide hG
        clear hH hG hb hlen
        go_wp2_with fail
        refine (unhide ec2).mono ?_
        rintro e w5 ⟨rfl, h5, g5⟩
        go_wp2_with fail
        refine bodyPost_end (results_none rfl _ _ _) rfl ?_
        exact ⟨rfl, by rw [unhide HYl]; exact h5, (unhide HG).trans g5⟩
  · have hfl : (56 : Int) ≤ (f : Int) := by omega
    obtain ⟨p1, p3, p2⟩ := pd_two xs (by rw [hY, hf]; omega)
    rw [hY, hf] at p1
    rw [hY] at p2 p3
    have hRb : Byt (tls xs ++ (128 :: zs (63 - f))) := (hxs.drop _).app (Byt.cons (by decide) (by decide) (zs_byt _))
    have ec := hide (endBlock_any g k _ _ _ _ h2 hk (wf_wds k xs _) hRb hg (hv.gb hg ((Gb.refl g w).set (9 + f) (.int .u8 128))))
    have G2 := hide (show Gb g w (w.setCell ⟨g, 9 + f, none⟩ (.int .u8 128)) from (Gb.refl g w).set _ _)
    obtain ⟨A, hA⟩ : ∃ A, zs 56 = A := ⟨_, rfl⟩
    have HA := hide (show A.length = 56 by rw [← hA]; exact zs_len 56)
    have hAb := hide (show Byt A by rw [← hA]; exact zs_byt 56)
    have hA8 := hide (show zs 64 = A ++ zs 8 by rw [← hA, zs_app])
    obtain ⟨W1, hW1⟩ : ∃ W1, mixk k (wst k xs) (wds (tls xs ++ (128 :: zs (63 - f)))) = W1 := ⟨_, rfl⟩
    have hW1' : wf k (pd xs) (Y / 64 + 1) = W1 := by
      rw [← hW1, p1]
      simp only [wf]
      rw [← hY, unhide hwp]
    have fin := hide (show mixk k W1 (wds (A ++ be8 ((Y : Int) * 8))) = wf k (pd xs) ((pd xs).length / 64) by
      rw [p2, ← hA, ← unhide N1, hY, p3, ← hW1']
      rfl)
    have WW := hide (show Wds W1 by rw [← hW1']; exact wf_wds k _ _)
    unfold wst at ec
    rw [show wf k xs (xs.length / 64) = wst k xs from rfl, hW1] at ec
    clear h2 hm hA p1 p2 p3 hwp h h' hk hxs hv hf hY hl hff hRb hW1 hW1'
    go_enter Tryd.func44, Tryd.ntmps44
    go_wp2_with fail
    refine (unhide ec).mono ?_
    rintro e w3 ⟨rfl, h3, g3⟩
    rw [unhide hA8] at h3
    have H3 := hide h3
    have G3 := hide ((unhide G2).trans g3)
    have cC3 := h3.count
    clear h3 g3 ec G2
    go_wp2_with fail
    go_loopw [4, 3] (fun i v ws => ∃ (j : Nat) (b : Int), j ≤ 8 ∧ i = .int .i64 (63 - (j : Int)) ∧ v = .int .u64 b ∧ b = (Y : Int) * 8 / 256 ^ j ∧ Hs ws g k W1 (A ++ bp ((Y : Int) * 8) j) (Y : Nat) ∧ Gb g w ws) (fun i _ _ => (intOf i).toNat - 55)
    case atStart => exact ⟨0, (Y : Int) * 8, by omega, rfl, rfl, by simp, by rw [bp_zero]; exact unhide H3, unhide G3⟩
    case round =>
      clear H3 G3
      obtain ⟨j, b, hj, rfl, rfl, hb, hH, hG⟩ := hrel
      have hlen : (A ++ bp ((Y : Int) * 8) j).length = 64 := by rw [List.length_append, unhide HA, bp_len _ _ hj]
      have b0 : 0 ≤ b := by rw [hb]; exact Int.ediv_nonneg (by omega) (Int.pow_nonneg (by decide))
      have b1 : b ≤ 8000000000000 := by rw [hb]; exact Int.le_trans (Int.ediv_le_self _ (by omega)) (by omega)
      by_cases hlt : j < 8
      · obtain ⟨p, hp⟩ : ∃ p : Nat, 63 - j = p := ⟨_, rfl⟩
        have ep : 63 - (j : Int) = (p : Int) := by omega
        have p64 : p < 64 := by omega
        have p56 : (56 : Int) ≤ (p : Int) := by omega
        have ip : 0 ≤ (p : Int) ∧ (p : Int) < 64 := by omega
        have c1 := hH.rest (i := p) p64
        have f1 := hH.free (9 + p)
        have hst := hide (set_bp A ((Y : Int) * 8) j (unhide HA) hlt)
        rw [← hb, hp] at hst
        have hnx := hide (pow_next ((Y : Int) * 8) j)
        rw [← hb] at hnx
        have HH := hide hH
        have HG := hide hG
        generalize ix (A ++ bp ((Y : Int) * 8) j) p = X1 at *
        rw [ep]
        clear hH hG hb hlen hp
        go_wp2_with fail
        go_roundw
        case rel =>
          refine ⟨j + 1, b / 256, by omega, by congr 1; omega, rfl, unhide hnx, ?_, (unhide HG).set _ _⟩
          rw [← unhide hst]
          exact (unhide HH).setR p64 _
        case measure => simp [intOf]; omega
      · have hj8 : j = 8 := by omega
        subst hj8
        rw [bp_all] at hH
        have ec2 := hide (endBlock_any g k _ _ _ wr hH (unhide HK) (unhide WW) ((unhide hAb).app (be8_byt _)) hg ((unhide HV).gb hg hG))
        rw [unhide fin] at ec2
        have HG := hide hG
        clear hH hG hb hlen
        go_wp2_with fail
        refine (unhide ec2).mono ?_
        rintro e w5 ⟨rfl, h5, g5⟩
        go_wp2_with fail
        refine bodyPost_end (results_none rfl _ _ _) rfl ?_
        exact ⟨rfl, by rw [unhide HYl]; exact h5, (unhide HG).trans g5⟩

end Go.Proofs.YtfnnafhifpolmaaDoor
