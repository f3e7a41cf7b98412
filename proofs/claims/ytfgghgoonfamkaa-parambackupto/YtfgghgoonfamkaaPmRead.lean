/-
  What Read of package param returns. It writes nothing that was there. Conditions: the slices can be read, at most 100,000 bytes; types are bytes.
-/
import Derived.Test.YtfgghgoonfamkaaPmRp
namespace Go.Proofs.Ytfgghgoonfamkaa
open Go.RowKit
set_option linter.unusedVariables false
set_option linter.unusedSimpArgs false

/-- What Read answers, of a count that may be. -/
def pmN (b : List Int) (n : Nat) (ts : List Ty) (lg : List Bool) : List Pa × Bool × Int :=
  if mkE b n lg ≠ 0 then ([], false, mkE b n lg) else
  if (flg (b.drop ((n + 7) / 8)) 1).2.2 ≠ 0 then ([], false, (flg (b.drop ((n + 7) / 8)) 1).2.2) else
  if (flg (b.drop ((n + 7) / 8)) 1).1 = true then
    (if (tyS n (flg (b.drop ((n + 7) / 8)) 1).2.1).2.2 ≠ 0 then ([], false, (tyS n (flg (b.drop ((n + 7) / 8)) 1).2.1).2.2) else
     if (prG (b.take ((n + 7) / 8)) lg (tyS n (flg (b.drop ((n + 7) / 8)) 1).2.1).1 (tyS n (flg (b.drop ((n + 7) / 8)) 1).2.1).2.1).2 ≠ 0 then ([], false, (prG (b.take ((n + 7) / 8)) lg (tyS n (flg (b.drop ((n + 7) / 8)) 1).2.1).1 (tyS n (flg (b.drop ((n + 7) / 8)) 1).2.1).2.1).2)
     else ((prG (b.take ((n + 7) / 8)) lg (tyS n (flg (b.drop ((n + 7) / 8)) 1).2.1).1 (tyS n (flg (b.drop ((n + 7) / 8)) 1).2.1).2.1).1, true, 0))
  else
    (if (thd ts n).2 ≠ 0 then ([], false, (thd ts n).2) else
     if (prG (b.take ((n + 7) / 8)) lg (thd ts n).1 (flg (b.drop ((n + 7) / 8)) 1).2.1).2 ≠ 0 then ([], false, (prG (b.take ((n + 7) / 8)) lg (thd ts n).1 (flg (b.drop ((n + 7) / 8)) 1).2.1).2)
     else ((prG (b.take ((n + 7) / 8)) lg (thd ts n).1 (flg (b.drop ((n + 7) / 8)) 1).2.1).1, false, 0))
def pmR (b : List Int) (n : Int) (ts : List Ty) (lg : List Bool) : List Pa × Bool × Int :=
  if n < 0 ∨ 65535 < n then ([], false, 2) else if n = 0 then ([], false, if b.length = 0 then 0 else 5) else pmN b n.toNat ts lg
def OutRd (w : World) (R : List Pa × Bool × Int) (e : Ending) (w' : World) : Prop := ∃ xo xn xc, e = .returned (.tuple #[.slice xo xn xc, .bool R.2.1, .int .i64 R.2.2]) ∧ PaMine w.heap.size w' xo xn xc R.1 ∧ Below w.heap.size w w'
theorem flg_byt {b : List Int} (hb : Byt b) (m : Int) : Byt (flg b m).2.1 := by
  unfold flg
  split
  · exact Byt.nil
  · split
    · exact Byt.nil
    · exact fun x hx => hb x (List.mem_of_mem_drop hx)
theorem flg_len (b : List Int) (m : Int) : (flg b m).2.1.length ≤ b.length := by
  unfold flg
  split
  · simp
  · split <;> simp
theorem ty1_byt {b : List Int} (hb : Byt b) : Byt (ty1 b).2.1 ∧ (ty1 b).2.1.length ≤ b.length ∧ 0 ≤ (ty1 b).1.t ∧ (ty1 b).1.t < 256 := by
  have h0 := hb.at 0
  have hd : Byt (b.drop 1) := fun x hx => hb x (List.mem_of_mem_drop hx)
  have hf := flg_len (b.drop 1) 128
  unfold ty1
  split
  · exact ⟨Byt.nil, by simp, by decide, by decide⟩
  · split
    · exact ⟨Byt.nil, by simp, by decide, by decide⟩
    · refine ⟨flg_byt hd 128, ?_, by simp only; omega, by simp only; omega⟩
      simp only
      rw [List.length_drop] at hf
      omega
theorem tyS_ok {b : List Int} (hb : Byt b) : ∀ n, Byt (tyS n b).2.1 ∧ (tyS n b).2.1.length ≤ b.length ∧ ∀ p ∈ (tyS n b).1, 0 ≤ p.t ∧ p.t < 256
  | 0 => ⟨hb, Nat.le_refl _, by intro p hp; cases hp⟩
  | n + 1 => by
    obtain ⟨h1, h2, h3⟩ := tyS_ok hb n
    obtain ⟨k1, k2, k3, k4⟩ := ty1_byt h1
    unfold tyS at h1 h2 h3 k1 k2 k3 k4 ⊢
    unfold gsA
    split
    · exact ⟨h1, h2, h3⟩
    · split
      · exact ⟨Byt.nil, by simp, by intro p hp; cases hp⟩
      · refine ⟨k1, Nat.le_trans k2 h2, fun p hp => ?_⟩
        simp only at hp
        rcases List.mem_append.1 hp with q | q
        · exact h3 p q
        · simp at q
          subst q
          exact ⟨k3, k4⟩
theorem thd_len {ts : List Ty} {n : Nat} (h : (thd ts n).2 = 0) : (thd ts n).1.length = n ∧ ∀ p ∈ (thd ts n).1, p ∈ ts := by
  unfold thd at h ⊢
  split
  · rename_i q
    rw [if_pos q] at h
    exact absurd h (by decide)
  · rename_i q
    refine ⟨?_, fun p hp => List.mem_of_mem_take hp⟩
    simp only [List.length_take]
    have : ¬ ts.length < n := fun z => q (.inl z)
    omega

set_option maxHeartbeats 4000000 in
set_option maxRecDepth 100000 in
theorem pread_any (bo : Option Addr) (bn bc : Nat) (b : List Int) (n : Int) (tyo : Option Addr) (m tc : Nat) (ts : List Ty) (go : Option Addr) (gn gc : Nat) (lg : List Bool) (w : World) (hb : Bs w bo bn bc b) (ht : Tys w tyo m tc ts) (hT : ∀ p ∈ ts, 0 ≤ p.t ∧ p.t < 256) (hlg : Bls w go gn gc lg) (hn : b.length ≤ 100000) :
    Calls Try.prog 9 #[.slice bo bn bc, .int .i64 n, .slice tyo m tc, .slice go gn gc] w fun e w' => OutRd w (pmR b n ts lg) e w' := by
  obtain ⟨RES, hRES⟩ : ∃ z, z = pmR b n ts lg := ⟨_, rfl⟩
  rw [← hRES]
  unfold pmR at hRES
  have hbl := hb.len
  by_cases h1 : n < 0
  · have HR := hide (show RES = ([], false, 2) by rw [hRES, if_pos (.inl h1)])
    clear hRES hb ht hT hlg
    go_enter Try.func9, Try.ntmps9
    go_wp2_with fail
    refine bodyPost_ret (results_p3 rfl _ _) rfl ?_
    rw [unhide HR]
    exact ⟨none, 0, 0, rfl, PaMine.nought _ _, Below.refl _ _⟩
  by_cases h2 : 65535 < n
  · have HR := hide (show RES = ([], false, 2) by rw [hRES, if_pos (.inr h2)])
    have h2' : n > 65535 := h2
    clear hRES hb ht hT hlg
    go_enter Try.func9, Try.ntmps9
    go_wp2_with fail
    refine bodyPost_ret (results_p3 rfl _ _) rfl ?_
    rw [unhide HR]
    exact ⟨none, 0, 0, rfl, PaMine.nought _ _, Below.refl _ _⟩
  rw [if_neg (by omega)] at hRES
  by_cases h3 : n = 0
  · have HR := hide (show RES = ([], false, if b.length = 0 then 0 else 5) by rw [hRES, if_pos h3])
    subst h3
    have cE := hide (ended_any bo bn bc b w hb)
    obtain ⟨EE, hEE⟩ : ∃ z : Int, z = if b.length = 0 then 0 else 5 := ⟨_, rfl⟩
    rw [← hEE] at cE HR
    clear hRES hb ht hT hlg hEE hbl
    go_enter Try.func9, Try.ntmps9
    go_wp2_with (go_at_call 22; refine same_world (unhide cE) ?_)
    refine bodyPost_ret (results_p3 rfl _ _) rfl ?_
    rw [unhide HR]
    exact ⟨none, 0, 0, rfl, PaMine.nought _ _, Below.refl _ _⟩
  rw [if_neg h3] at hRES
  obtain ⟨N, rfl⟩ := Int.eq_ofNat_of_zero_le (show 0 ≤ n by omega)
  rw [Int.toNat_natCast] at hRES
  have g3 : ((N : Int) == 0) = false := by rw [beq_eq_false_iff_ne]; omega
  have g1 : ¬ ((N : Int) < 0) := by omega
  have g2 : ¬ ((N : Int) > 65535) := by omega
  have hN : N ≤ 65535 := by omega
  have cM := hide (preadMarks_any bo bn bc b N go gn gc lg w hb hlg (by omega))
  have HBS := hide hb
  have HTY := hide ht
  have HTT := hide hT
  have HLG := hide hlg
  have HR0 := hide hRES
  unfold pmN at hRES
  clear h1 h2 h3 hb ht hT hlg HR0
  by_cases hE : mkE b N lg ≠ 0
  · obtain ⟨E, hEE⟩ : ∃ z, mkE b N lg = z := ⟨_, rfl⟩
    have HR := hide (show RES = ([], false, E) by rw [hRES, if_pos hE, hEE])
    rw [hEE] at hE
    have HE := hide hEE
    have HE0 := hide hE
    have gE : (E != 0) = true := by simpa using hE
    clear hRES hE hEE
    go_enter Try.func9, Try.ntmps9
    go_wp2_with (go_at_call 23; refine (unhide cM).mono ?_; intro e w2 h2; obtain ⟨rfl, b2⟩ := OutMk.isN h2 (unhide HE) (unhide HE0); have B2 := hide b2; clear b2 h2)
    refine bodyPost_ret (results_p3 rfl _ _) rfl ?_
    rw [unhide HR]
    exact ⟨none, 0, 0, rfl, PaMine.nought _ _, vbup (unhide B2) (below_alloc _ _)⟩
  rw [if_neg hE] at hRES
  have HE := hide (Classical.not_not.1 hE)
  clear hE
  obtain ⟨SZ, hSZ⟩ : ∃ z, z = (N + 7) / 8 := ⟨_, rfl⟩
  rw [← hSZ] at hRES
  have hbits : N ≤ 8 * SZ := by omega
  have hbyt := (unhide HBS).byt
  have hdb : Byt (b.drop SZ) := fun x hx => hbyt x (List.mem_of_mem_drop hx)
  have hfb := hide (flg_byt hdb 1)
  have hfl0 := flg_len (b.drop SZ) 1
  rw [List.length_drop] at hfl0
  have hFL := hide (show (flg (b.drop SZ) 1).2.1.length ≤ 100000 by omega)
  have HSZ := hide hSZ
  clear hdb hfl0 hbyt hSZ
  obtain ⟨FG, hFG⟩ : ∃ z, z = flg (b.drop SZ) 1 := ⟨_, rfl⟩
  rw [← hFG] at hRES hfb hFL
  have HFG := hide hFG
  clear hFG
  obtain ⟨FB, FL, FE⟩ := FG
  simp only at hRES hfb hFL
  go_enter Try.func9, Try.ntmps9
  go_wp2_with fail
  refine (unhide cM).mono ?_
  intro e w2 h2
  obtain ⟨no, nn, nc, lo, ln, lc, rfl, hc1, hc2, b2⟩ := OutMk.is0 h2 (unhide HE)
  rw [← unhide HSZ] at hc1 hc2
  have q3 := below_alloc w2 (.cells #[.slice no nn nc, .slice go gn gc] 54)
  have r3 := heap_alloc_new w2 (.cells #[.slice no nn nc, .slice go gn gc] 54)
  have B3 := hide (vbup b2 q3)
  have R3 := hide r3
  have HC1 := hide hc1
  have HC2 := hide hc2
  have hnn := (hc1 w (unhide HBS)).len
  rw [List.length_take] at hnn
  have cF := hide (preadFlag_any lo ln lc (b.drop SZ) 1 (w2.alloc (.cells #[.slice no nn nc, .slice go gn gc] 54)) (hc2 _ ((unhide HBS).later (vbup b2 q3))))
  rw [← unhide HFG] at cF
  clear h2 hc1 hc2 b2 q3 r3 cM
  go_wp2_with fail
  refine (unhide cF).mono ?_
  rintro e w4 ⟨yo, yn, yc, rfl, hy, b4⟩
  have HY := hide (show Cut lo ln lc (b.drop SZ) yo yn yc FL from hy)
  have B4 := hide (vbup (unhide B3) b4)
  have R4 := hide (vrow_later (unhide R3) b4)
  clear hy b4 cF B3 R3
  by_cases hFE : FE ≠ 0
  · have HR := hide (show RES = ([], false, FE) by rw [hRES, if_pos hFE])
    have gE : (FE != 0) = true := by simpa using hFE
    clear hRES hFE hnn
    go_wp2_with fail
    refine bodyPost_ret (results_p3 rfl _ _) rfl ?_
    rw [unhide HR]
    exact ⟨none, 0, 0, rfl, PaMine.nought _ _, unhide B4⟩
  rw [if_neg hFE] at hRES
  have hFE := Classical.not_not.1 hFE
  subst hFE
  have hnb : N ≤ 8 * nn := by
    have q := unhide HE
    unfold mkE at q
    by_cases z : b.length < (N + 7) / 8
    · rw [if_pos z] at q; exact absurd q (by decide)
    · have := unhide HSZ; omega
  clear hnn
  have HLY := hide (fun wx (hx : Below w.heap.size w wx) => unhide HY wx (unhide HC2 wx ((unhide HBS).later hx)))
  have HNLB := hide (fun wx (hx : Below w.heap.size w wx) => unhide HC1 wx ((unhide HBS).later hx))
  cases FB
  · rw [if_neg (by decide)] at hRES
    have cT := hide (ptypesAhead_any tyo m tc ts N w4 ((unhide HTY).later (unhide B4)) (unhide HTT) (by omega))
    have HTL := hide (fun (h : (thd ts N).2 = 0) => thd_len h)
    obtain ⟨TD, hTD⟩ : ∃ z, z = thd ts N := ⟨_, rfl⟩
    rw [← hTD] at cT hRES HTL
    clear hTD
    obtain ⟨TL, TE⟩ := TD
    simp only at cT hRES HTL
    go_wp2_with fail
    refine (unhide cT).mono ?_
    rintro e w5 ⟨zo, zn, zc, rfl, hz, b5⟩
    have HZ := hide hz
    have B5 := hide (vbup (unhide B4) b5)
    have R5 := hide (vrow_later (unhide R4) b5)
    clear hz b5 cT B4 R4
    by_cases hTE : TE ≠ 0
    · have HR := hide (show RES = ([], false, TE) by rw [hRES, if_pos hTE])
      have gE : (TE != 0) = true := by simpa using hTE
      clear hRES hTE
      go_wp2_with fail
      refine bodyPost_ret (results_p3 rfl _ _) rfl ?_
      rw [unhide HR]
      exact ⟨none, 0, 0, rfl, PaMine.nought _ _, unhide B5⟩
    rw [if_neg hTE] at hRES
    have hTE := Classical.not_not.1 hTE
    subst hTE
    obtain ⟨hl1, hl2⟩ := unhide HTL rfl
    have hzn : zn = N := by rw [← (unhide HZ).len]; exact hl1
    subst hzn
    have k0 := vrow_cell (unhide R5) (j := 0) (v := .slice no nn nc) rfl
    have k1 := vrow_cell (unhide R5) (j := 1) (v := .slice go gn gc) rfl
    have cP := hide (preadParams_any yo yn yc FL zo zn zc TL no nn nc (b.take SZ) go gn gc lg w5 (unhide HLY _ (unhide B5)) (unhide HZ) (fun p hp => unhide HTT p (hl2 p hp)) (unhide HNLB _ (unhide B5)) ((unhide HLG).later (unhide B5)) hnb (by omega) (unhide hFL))
    obtain ⟨PG, hPG⟩ : ∃ z, z = prG (b.take SZ) lg TL FL := ⟨_, rfl⟩
    rw [← hPG] at cP hRES
    clear hPG hl1 hl2
    obtain ⟨PL, PE⟩ := PG
    simp only at hRES
    go_wp2_with fail
    refine (unhide cP).mono ?_
    rintro e w6 ⟨xo, xn, xc, rfl, hx, b6⟩
    have HX := hide hx
    have B6 := hide (vbup (unhide B5) b6)
    have hs5 := (unhide B5).size
    clear hx b6 cP k0 k1
    by_cases hPE : PE ≠ 0
    · have HR := hide (show RES = ([], false, PE) by rw [hRES, if_pos hPE])
      have gE : (PE != 0) = true := by simpa using hPE
      clear hRES hPE
      go_wp2_with fail
      refine bodyPost_ret (results_p3 rfl _ _) rfl ?_
      rw [unhide HR]
      exact ⟨none, 0, 0, rfl, PaMine.nought _ _, unhide B6⟩
    · have HR := hide (show RES = (PL, false, 0) by rw [hRES, if_neg hPE])
      have hPE := Classical.not_not.1 hPE
      subst hPE
      clear hRES
      go_wp2_with fail
      refine bodyPost_ret (results_p3 rfl _ _) rfl ?_
      rw [unhide HR]
      exact ⟨xo, xn, xc, rfl, (unhide HX).mono hs5, unhide B6⟩
  · rw [if_pos rfl] at hRES
    have cT := hide (preadTypes_any yo yn yc FL N w4 (unhide HLY _ (unhide B4)) (by omega))
    have HTB := hide (tyS_ok (unhide hfb) N)
    have HTL := hide (fun (h : (tyS N FL).2.2 = 0) => show (tyS N FL).1.length = N from gsA_len h)
    obtain ⟨TD, hTD⟩ : ∃ z, z = tyS N FL := ⟨_, rfl⟩
    rw [← hTD] at cT hRES HTL HTB
    clear hTD
    obtain ⟨TL, TR, TE⟩ := TD
    simp only at cT hRES HTL HTB
    go_wp2_with fail
    refine (unhide cT).mono ?_
    rintro e w5 ⟨zo, zn, zc, uo, un, uc, rfl, hz, hu, b5⟩
    have HZ := hide hz.ss
    have B5 := hide (vbup (unhide B4) b5)
    have R5 := hide (vrow_later (unhide R4) b5)
    have HUU := hide (show Bs w5 uo un uc TR from hu _ (unhide HLY _ (vbup (unhide B4) b5)))
    clear hz b5 cT B4 R4 hu
    by_cases hTE : TE ≠ 0
    · have HR := hide (show RES = ([], false, TE) by rw [hRES, if_pos hTE])
      have gE : (TE != 0) = true := by simpa using hTE
      clear hRES hTE
      go_wp2_with fail
      refine bodyPost_ret (results_p3 rfl _ _) rfl ?_
      rw [unhide HR]
      exact ⟨none, 0, 0, rfl, PaMine.nought _ _, unhide B5⟩
    rw [if_neg hTE] at hRES
    have hTE := Classical.not_not.1 hTE
    subst hTE
    have hl1 := unhide HTL rfl
    obtain ⟨hb1, hb2, hb3⟩ := unhide HTB
    have hzn : zn = N := by rw [← (unhide HZ).len]; exact hl1
    subst hzn
    have k0 := vrow_cell (unhide R5) (j := 0) (v := .slice no nn nc) rfl
    have k1 := vrow_cell (unhide R5) (j := 1) (v := .slice go gn gc) rfl
    have cP := hide (preadParams_any uo un uc TR zo zn zc TL no nn nc (b.take SZ) go gn gc lg w5 (unhide HUU) (unhide HZ) hb3 (unhide HNLB _ (unhide B5)) ((unhide HLG).later (unhide B5)) hnb (by omega) (Nat.le_trans hb2 (unhide hFL)))
    obtain ⟨PG, hPG⟩ : ∃ z, z = prG (b.take SZ) lg TL TR := ⟨_, rfl⟩
    rw [← hPG] at cP hRES
    clear hPG hl1 hb1 hb2 hb3
    obtain ⟨PL, PE⟩ := PG
    simp only at hRES
    go_wp2_with fail
    refine (unhide cP).mono ?_
    rintro e w6 ⟨xo, xn, xc, rfl, hx, b6⟩
    have HX := hide hx
    have B6 := hide (vbup (unhide B5) b6)
    have hs5 := (unhide B5).size
    clear hx b6 cP k0 k1
    by_cases hPE : PE ≠ 0
    · have HR := hide (show RES = ([], false, PE) by rw [hRES, if_pos hPE])
      have gE : (PE != 0) = true := by simpa using hPE
      clear hRES hPE
      go_wp2_with fail
      refine bodyPost_ret (results_p3 rfl _ _) rfl ?_
      rw [unhide HR]
      exact ⟨none, 0, 0, rfl, PaMine.nought _ _, unhide B6⟩
    · have HR := hide (show RES = (PL, true, 0) by rw [hRES, if_neg hPE])
      have hPE := Classical.not_not.1 hPE
      subst hPE
      clear hRES
      go_wp2_with fail
      refine bodyPost_ret (results_p3 rfl _ _) rfl ?_
      rw [unhide HR]
      exact ⟨xo, xn, xc, rfl, (unhide HX).mono hs5, unhide B6⟩


end Go.Proofs.Ytfgghgoonfamkaa
