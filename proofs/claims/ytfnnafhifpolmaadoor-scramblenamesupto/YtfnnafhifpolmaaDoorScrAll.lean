/-
  What Native, Fast, Stored and Right of package scramble return for any password, nonce, kind, stored bytes, response: the plain functions. They write nothing that was there. Conditions: the slices can be read; the table of constants holds what the program's text says; lengths below 400,000.
-/
import Derived.Test.YtfnnafhifpolmaaDoorScrLeaf
namespace Go.Proofs.YtfnnafhifpolmaaDoor
open Go.RowKit
set_option linter.unusedVariables false
set_option linter.unusedSimpArgs false

theorem ba_nil {p : ByteArray} (h : p.size = 0) : p = { data := #[] } := by
  cases p with
  | mk d =>
    have : d = #[] := Array.eq_empty_of_size_eq_zero h
    rw [this]
theorem ba_ne {p : ByteArray} (h : ¬ p.size = 0) : p.toList.isEmpty = false := by
  rw [ByteArray.toList_eq]
  cases p with
  | mk d =>
    cases d with
    | mk l =>
      cases l with
      | nil => exact absurd rfl h
      | cons x r => rfl

set_option maxHeartbeats 2000000 in
theorem responseTo_any (k : Int) (p : ByteArray) (no : Option Addr) (nn nc : Nat) (ns : List Int) (w : World) (hk : k = 1 ∨ k = 2) (hn : Bs w no nn nc ns) (hv : Vars w) (hp : p.size ≤ 400000) :
    Calls Tryd.prog 25 #[.int .i64 k, .string p, .slice no nn nc] w fun e w' => OutT w (rspA k (nums p) ns) (nck ns) e w' := by
  have ck := hide (check_any no nn nc ns w hn)
  rcases nck_two ns with hE | hE
  · have hA : rspA k (nums p) ns = rsp k (nums p) ns := by unfold rspA; rw [if_pos hE]
    have hnn : nn = 20 := by have := hn.len; rw [nck_20 hE] at this; omega
    have HNN := hide hnn
    rw [hE] at ck
    rw [hE, hA]
    by_cases h0 : p.size = 0
    · have hR : rsp k (nums p) ns = [] := by unfold rsp; rw [if_pos (by rw [nums_length]; exact h0)]
      rw [hR]
      have := ba_nil h0
      subst this
      clear hA hR hE hn hv h0 hp hnn
      go_enter Tryd.func25, Tryd.ntmps25
      go_wp2_with fail
      refine same_world (unhide ck) ?_
      go_wp2_with fail
      go_ret2
      exact ⟨none, 0, 0, rfl, Mine.nought _ _, Below.refl _ _⟩
    · have hR := hide (show rsp k (nums p) ns = crs (sumk k (nums p)) (cov k (sumk k (sumk k (nums p))) ns) by unfold rsp; rw [if_neg (by rw [nums_length]; exact h0)])
      have hne := ba_ne h0
      have tb := run_toBytes p
      have b0 := below_bytesWorld w 5 p
      have c0 := hide (scrSum_any k (some ⟨w.heap.size, 0, none⟩) p.size (grownCap w p.size 0 5) (nums p) (Lib.bytesWorld w 5 p) hk (bs_bytesWorld w p (by omega)) (hv.low b0) (by omega))
      have HV := hide hv
      have HN := hide hn
      have HK := hide hk
      have B0 := hide b0
      clear hA hE hn hv h0 hk b0 hnn
      go_enter Tryd.func25, Tryd.ntmps25
      go_wp2_with fail
      refine same_world (unhide ck) ?_
      go_wp2_with fail
      refine (unhide c0).mono ?_
      rintro e w1 ⟨a1, n1, c1, rfl, m1, b1⟩
      have B1 := hide ((unhide B0).trans (b1.mono (unhide B0).size))
      have P1 := hide m1.bs
      have l1 := m1.len
      rw [sumk_len] at l1
      have hz := hsz_le k
      have c2 := hide (scrSum_any k a1 n1 c1 _ w1 (unhide HK) m1.bs ((unhide HV).low (unhide B1)) (by omega))
      clear m1 b1 c0
      go_wp2_with fail
      refine (unhide c2).mono ?_
      rintro e w2 ⟨a2, n2, c2, rfl, m2, b2⟩
      have B2 := hide ((unhide B1).trans (b2.mono (unhide B1).size))
      have P2 := hide ((unhide P1).later b2)
      have l2 := m2.len
      rw [sumk_len] at l2
      have c3 := hide (cover_any k a2 n2 c2 _ no nn nc ns w2 (unhide HK) m2.bs ((unhide HN).later (unhide B2)) ((unhide HV).low (unhide B2)) (by omega) (by have := unhide HNN; omega) (by have := unhide HNN; omega))
      clear m2 b2 P1 B1
      go_wp2_with fail
      refine (unhide c3).mono ?_
      rintro e w3 ⟨a3, n3, c3, rfl, m3, b3⟩
      have B3 := hide ((unhide B2).trans (b3.mono (unhide B2).size))
      have P3 := hide ((unhide P2).later b3)
      have l3 := m3.len
      rw [cov_len] at l3
      have c4 := hide (crossed_any a1 n1 c1 _ a3 n3 c3 _ w3 (unhide P3) m3.bs (by omega) (by omega))
      clear m3 b3 P2 B2
      go_wp2_with fail
      refine (unhide c4).mono ?_
      rintro e w4 ⟨a4, n4, c4, rfl, m4, b4⟩
      have M4 := hide (m4.mono (unhide B3).size)
      have B4 := hide ((unhide B3).trans (b4.mono (unhide B3).size))
      clear m4 b4 P3 B3
      go_wp2_with fail
      go_ret2
      exact ⟨a4, n4, c4, rfl, by rw [unhide hR]; exact unhide M4, unhide B4⟩
  · have hA : rspA k (nums p) ns = [] := by unfold rspA; rw [if_neg (by omega)]
    rw [hE] at ck
    rw [hE, hA]
    clear hA hE hn hv hp
    go_enter Tryd.func25, Tryd.ntmps25
    go_wp2_with fail
    refine same_world (unhide ck) ?_
    go_wp2_with fail
    go_ret2
    exact ⟨none, 0, 0, rfl, Mine.nought _ _, Below.refl _ _⟩

set_option maxHeartbeats 400000 in
theorem native_any (p : ByteArray) (no : Option Addr) (nn nc : Nat) (ns : List Int) (w : World) (hn : Bs w no nn nc ns) (hv : Vars w) (hp : p.size ≤ 400000) :
    Calls Tryd.prog 7 #[.string p, .slice no nn nc] w fun e w' => OutT w (rspA 1 (nums p) ns) (nck ns) e w' := by
  have c := hide (responseTo_any 1 p no nn nc ns w (.inl rfl) hn hv hp)
  clear hn hv hp
  go_enter Tryd.func7, Tryd.ntmps7
  go_wp2_with fail
  refine (unhide c).mono ?_
  rintro e w6 ⟨ao, n, c, rfl, m6, b6⟩
  go_wp2_with fail
  go_ret2
  exact ⟨ao, n, c, rfl, m6, b6⟩
set_option maxHeartbeats 400000 in
theorem fast_any (p : ByteArray) (no : Option Addr) (nn nc : Nat) (ns : List Int) (w : World) (hn : Bs w no nn nc ns) (hv : Vars w) (hp : p.size ≤ 400000) :
    Calls Tryd.prog 15 #[.string p, .slice no nn nc] w fun e w' => OutT w (rspA 2 (nums p) ns) (nck ns) e w' := by
  have c := hide (responseTo_any 2 p no nn nc ns w (.inr rfl) hn hv hp)
  clear hn hv hp
  go_enter Tryd.func15, Tryd.ntmps15
  go_wp2_with fail
  refine (unhide c).mono ?_
  rintro e w6 ⟨ao, n, c, rfl, m6, b6⟩
  go_wp2_with fail
  go_ret2
  exact ⟨ao, n, c, rfl, m6, b6⟩

theorem szE_is {k : Int} (hk : k = 1 ∨ k = 2) : szE k = (hsz k : Nat) := by rcases hk with rfl | rfl <;> rfl
theorem szE_no {k : Int} (hk : ¬ (k = 1 ∨ k = 2)) : szE k = 0 := by
  unfold szE
  rw [if_neg (fun e => hk (.inl e)), if_neg (fun e => hk (.inr e))]

set_option maxHeartbeats 2000000 in
theorem stored_any (k : Int) (p : ByteArray) (w : World) (hv : Vars w) (hp : p.size ≤ 400000) :
    Calls Tryd.prog 9 #[.int .i64 k, .string p] w fun e w' => OutT w (stoA k (nums p)) (stoE k) e w' := by
  have zc := hide (size_any k w)
  by_cases hk : k = 1 ∨ k = 2
  · rw [szE_is hk] at zc
    have hz := hsz_pos k
    have hz2 := hsz_le k
    have eE : stoE k = 0 := by unfold stoE; rw [if_pos hk]
    have eA : stoA k (nums p) = sto k (nums p) := by unfold stoA; rw [if_pos hk]
    rw [eE, eA]
    have hs0 : (((hsz k : Nat) : Int) == 0) = false := by simp; omega
    by_cases h0 : p.size = 0
    · have hR : sto k (nums p) = [] := by unfold sto; rw [if_pos (by rw [nums_length]; exact h0)]
      rw [hR]
      have := ba_nil h0
      subst this
      generalize hsz k = Z at *
      clear eE eA hR hv h0 hp
      go_enter Tryd.func9, Tryd.ntmps9
      go_wp2_with fail
      refine same_world (unhide zc) ?_
      go_wp2_with fail
      go_ret2
      exact ⟨none, 0, 0, rfl, Mine.nought _ _, Below.refl _ _⟩
    · have hR := hide (show sto k (nums p) = sumk k (sumk k (nums p)) by unfold sto; rw [if_neg (by rw [nums_length]; exact h0)])
      have hne := ba_ne h0
      have tb := run_toBytes p
      have b0 := below_bytesWorld w 5 p
      have c0 := hide (scrSum_any k (some ⟨w.heap.size, 0, none⟩) p.size (grownCap w p.size 0 5) (nums p) (Lib.bytesWorld w 5 p) hk (bs_bytesWorld w p (by omega)) (hv.low b0) (by omega))
      have HV := hide hv
      have HK := hide hk
      have B0 := hide b0
      have hzk := hide (show hsz k = hsz k from rfl)
      generalize hsz k = Z at hzk hz hz2 hs0 zc
      clear eE eA hv h0 hk b0
      go_enter Tryd.func9, Tryd.ntmps9
      go_wp2_with fail
      refine same_world (unhide zc) ?_
      go_wp2_with fail
      refine (unhide c0).mono ?_
      rintro e w1 ⟨a1, n1, c1, rfl, m1, b1⟩
      have B1 := hide ((unhide B0).trans (b1.mono (unhide B0).size))
      have l1 := m1.len
      rw [sumk_len] at l1
      have hz3 := hsz_le k
      have c2 := hide (scrSum_any k a1 n1 c1 _ w1 (unhide HK) m1.bs ((unhide HV).low (unhide B1)) (by omega))
      clear m1 b1 c0
      go_wp2_with fail
      refine (unhide c2).mono ?_
      rintro e w2 ⟨a2, n2, c2, rfl, m2, b2⟩
      have M4 := hide (m2.mono (unhide B1).size)
      have B4 := hide ((unhide B1).trans (b2.mono (unhide B1).size))
      clear m2 b2
      go_wp2_with fail
      go_ret2
      exact ⟨a2, n2, c2, rfl, by rw [unhide hR]; exact unhide M4, unhide B4⟩
  · rw [szE_no hk] at zc
    have eE : stoE k = 2 := by unfold stoE; rw [if_neg hk]
    have eA : stoA k (nums p) = [] := by unfold stoA; rw [if_neg hk]
    rw [eE, eA]
    clear eE eA hk hv hp
    go_enter Tryd.func9, Tryd.ntmps9
    go_wp2_with fail
    refine same_world (unhide zc) ?_
    go_wp2_with fail
    go_ret2
    exact ⟨none, 0, 0, rfl, Mine.nought _ _, Below.refl _ _⟩

set_option maxHeartbeats 2000000 in
theorem fits_any (k : Int) (so : Option Addr) (sn sc : Nat) (ss : List Int) (no : Option Addr) (nn nc : Nat) (ns : List Int) (ro : Option Addr) (rn rc : Nat) (rs : List Int) (w : World) (hk : k = 1 ∨ k = 2)
    (hs : Bs w so sn sc ss) (hn : Bs w no nn nc ns) (hr : Bs w ro rn rc rs) (hv : Vars w) (h1 : sn = hsz k) (h2 : nn = 20) (h3 : rn ≤ 400000) :
    Calls Tryd.prog 28 #[.int .i64 k, .slice so sn sc, .slice no nn nc, .slice ro rn rc] w fun e w' => e = .returned (.bool (rgt k ss ns rs)) ∧ Below w.heap.size w w' := by
  have hz := hsz_pos k
  have hz2 := hsz_le k
  have sl := hs.len
  have rl := hr.len
  have rle := hr.le
  have rmx := hr.max
  by_cases hl : rn = sn
  · have hR := hide (show rgt k ss ns rs = decide (sumk k (crs rs (cov k ss ns)) = ss) by unfold rgt; rw [if_neg (by omega), if_pos (by omega)])
    have c1 := hide (cover_any k so sn sc ss no nn nc ns w hk hs hn hv (by omega) (by omega) (by omega))
    have HV := hide hv
    have HS := hide hs
    have HRR := hide hr
    have HK := hide hk
    have hlI : ((rn : Int) != (sn : Int)) = false := by simp; omega
    have hsn : sn ≤ 32 := by omega
    have HL := hide hl
    have H1 := hide h1
    have RL := hide rl
    obtain ⟨Rb, hRb⟩ : ∃ Rb, Rb = rgt k ss ns rs := ⟨_, rfl⟩
    rw [← hRb] at hR ⊢
    clear hs hn hr hv hk hl h1 h2 sl rl hRb hz hz2
    go_enter Tryd.func28, Tryd.ntmps28
    go_wp2_with fail
    refine (unhide c1).mono ?_
    rintro e w1 ⟨a1, n1, c1, rfl, m1, b1⟩
    have B1 := hide b1
    have l1 := m1.len
    rw [cov_len] at l1
    have c2 := hide (crossed_any ro rn rc rs a1 n1 c1 _ w1 ((unhide HRR).later b1) m1.bs (by have := unhide HL; have := unhide H1; omega) h3)
    clear m1 b1
    go_wp2_with fail
    refine (unhide c2).mono ?_
    rintro e w2 ⟨a2, n2, c2, rfl, m2, b2⟩
    have B2 := hide ((unhide B1).trans (b2.mono (unhide B1).size))
    have l2 := m2.len
    rw [crs_len _ _ (by rw [cov_len, unhide RL, unhide HL, unhide H1]), unhide RL] at l2
    have c3 := hide (scrSum_any k a2 n2 c2 _ w2 (unhide HK) m2.bs ((unhide HV).low (unhide B2)) (by omega))
    clear m2 b2 B1 l1
    go_wp2_with fail
    refine (unhide c3).mono ?_
    rintro e w3 ⟨a3, n3, c3, rfl, m3, b3⟩
    have B3 := hide ((unhide B2).trans (b3.mono (unhide B2).size))
    have l3 := m3.len
    rw [sumk_len] at l3
    have c4 := hide (equal_any a3 n3 c3 _ so sn sc ss w3 m3.bs ((unhide HS).later (unhide B3)) (by have := hsz_le k; omega) (by omega))
    rw [← unhide hR] at c4
    clear m3 b3 B2 l3
    go_wp2_with fail
    refine (unhide c4).mono ?_
    rintro e w4 ⟨rfl, q, rfl⟩
    have B4 := hide ((unhide B3).trans (Below.mono (⟨rfl, rfl, rfl, Nat.le_refl _, fun _ _ => rfl⟩ : Below w3.heap.size w3 (w3.drewN q)) (unhide B3).size))
    go_wp2_with fail
    go_ret
    exact ⟨rfl, unhide B4⟩
  · have hR : rgt k ss ns rs = false := by unfold rgt; rw [if_neg (by omega), if_neg (by omega)]
    have hlI : ((rn : Int) != (sn : Int)) = true := by simp; omega
    rw [hR]
    have hsl : sn ≤ 32 := by omega
    clear hs hn hr hv hk hl h1 h2 sl rl hR hz hz2
    go_enter Tryd.func28, Tryd.ntmps28
    go_wp2_with fail
    go_ret
    exact ⟨rfl, Below.refl _ _⟩

set_option maxHeartbeats 2000000 in
theorem right_any (k : Int) (so : Option Addr) (sn sc : Nat) (ss : List Int) (no : Option Addr) (nn nc : Nat) (ns : List Int) (ro : Option Addr) (rn rc : Nat) (rs : List Int) (w : World)
    (hs : Bs w so sn sc ss) (hn : Bs w no nn nc ns) (hr : Bs w ro rn rc rs) (hv : Vars w) (h1 : sn ≤ 400000) (h3 : rn ≤ 400000) :
    Calls Tryd.prog 10 #[.int .i64 k, .slice so sn sc, .slice no nn nc, .slice ro rn rc] w fun e w' => OutQ w (rgA k ss ns rs) (rgE k ss ns) e w' := by
  have zc := hide (size_any k w)
  have ck := hide (check_any no nn nc ns w hn)
  have sl := hs.len
  have rl := hr.len
  have sle := hs.le
  have rle := hr.le
  have smx := hs.max
  have rmx := hr.max
  by_cases hk : k = 1 ∨ k = 2
  · rw [szE_is hk] at zc
    have hz := hsz_pos k
    have hz2 := hsz_le k
    have hs0 : (((hsz k : Nat) : Int) == 0) = false := by simp; omega
    rcases nck_two ns with hE | hE
    · rw [hE] at ck
      have hnn : nn = 20 := by have := hn.len; rw [nck_20 hE] at this; omega
      by_cases h0 : sn = 0
      · have eE : rgE k ss ns = 0 := by unfold rgE; rw [if_pos hk, if_pos hE, if_pos (.inl (by omega))]
        have eA : rgA k ss ns rs = decide ((rn : Int) = 0) := by unfold rgA; rw [if_pos eE]; unfold rgt; rw [if_pos (by omega), rl]; simp
        rw [eE, eA]
        subst h0
        generalize hsz k = Z at *
        clear hE hs hn hr hv hk eE eA sl rl hnn
        go_enter Tryd.func10, Tryd.ntmps10
        go_wp2_with fail
        refine same_world (unhide zc) ?_
        go_wp2_with fail
        refine same_world (unhide ck) ?_
        go_wp2_with fail
        go_ret2
        exact ⟨rfl, Below.refl _ _⟩
      · have h0' : ((sn : Int) == 0) = false := by simp; omega
        by_cases hl : sn = hsz k
        · have eE : rgE k ss ns = 0 := by unfold rgE; rw [if_pos hk, if_pos hE, if_pos (.inr (by omega))]
          have eA : rgA k ss ns rs = rgt k ss ns rs := by unfold rgA; rw [if_pos eE]
          have fc := hide (fits_any k so sn sc ss no nn nc ns ro rn rc rs w hk hs hn hr hv hl hnn h3)
          rw [eE, eA]
          have hlI : ((sn : Int) != ((hsz k : Nat) : Int)) = false := by simp; omega
          generalize rgt k ss ns rs = Rb at *
          generalize hsz k = Z at *
          clear hE hs hn hr hv hk eE eA sl rl hl hnn
          go_enter Tryd.func10, Tryd.ntmps10
          go_wp2_with fail
          refine same_world (unhide zc) ?_
          go_wp2_with fail
          refine same_world (unhide ck) ?_
          go_wp2_with fail
          refine same_world (unhide zc) ?_
          go_wp2_with fail
          refine (unhide fc).mono ?_
          rintro e w4 ⟨rfl, b4⟩
          go_wp2_with fail
          go_ret2
          exact ⟨rfl, b4⟩
        · have eE : rgE k ss ns = 5 := by unfold rgE; rw [if_pos hk, if_pos hE, if_neg (by omega)]
          have eA : rgA k ss ns rs = false := by unfold rgA; rw [if_neg (by omega)]
          rw [eE, eA]
          have hlI : ((sn : Int) != ((hsz k : Nat) : Int)) = true := by simp; omega
          generalize hsz k = Z at *
          clear hE hs hn hr hv hk eE eA sl rl hl hnn
          go_enter Tryd.func10, Tryd.ntmps10
          go_wp2_with fail
          refine same_world (unhide zc) ?_
          go_wp2_with fail
          refine same_world (unhide ck) ?_
          go_wp2_with fail
          refine same_world (unhide zc) ?_
          go_wp2_with fail
          go_ret2
          exact ⟨rfl, Below.refl _ _⟩
    · rw [hE] at ck
      have eE : rgE k ss ns = 2 := by unfold rgE; rw [if_pos hk, if_neg (by omega)]
      have eA : rgA k ss ns rs = false := by unfold rgA; rw [if_neg (by omega)]
      rw [eE, eA]
      generalize hsz k = Z at *
      clear hE hs hn hr hv hk eE eA sl rl
      go_enter Tryd.func10, Tryd.ntmps10
      go_wp2_with fail
      refine same_world (unhide zc) ?_
      go_wp2_with fail
      refine same_world (unhide ck) ?_
      go_wp2_with fail
      go_ret2
      exact ⟨rfl, Below.refl _ _⟩
  · rw [szE_no hk] at zc
    have eE : rgE k ss ns = 2 := by unfold rgE; rw [if_neg hk]
    have eA : rgA k ss ns rs = false := by unfold rgA; rw [if_neg (by omega)]
    rw [eE, eA]
    clear hs hn hr hv hk eE eA sl rl
    go_enter Tryd.func10, Tryd.ntmps10
    go_wp2_with fail
    refine same_world (unhide zc) ?_
    go_wp2_with fail
    go_ret2
    exact ⟨rfl, Below.refl _ _⟩

end Go.Proofs.YtfnnafhifpolmaaDoor
