/-
  What Expand, of package deflate, answers for any pieces. It writes nothing that was there. Conditions: at most a thousand pieces.
-/
import Derived.Test.YtmlodlmmfkpibaaDefExp
namespace Go.Proofs.Ytmlodlmmfkpibaa
open Go.RowKit
set_option linter.unusedVariables false
set_option linter.unusedSimpArgs false

theorem chk_step {m : Int} {p : Pc} {r : List Pc} (h : chk m (p :: r) = 0) : may p = true ∧ ¬ m < p.d ∧ chk (m + (sz p : Int)) r = 0 := by
  simp only [chk] at h
  split at h
  · rename_i hm
    split at h
    · cases h
    · rename_i hd
      exact ⟨hm, hd, h⟩
  · cases h
theorem pok_byte {p : Pc} (h : Pok p) : 0 ≤ p.b ∧ p.b ≤ 255 := ⟨h.b0, h.b1⟩

/-- Behind an append the piece's variable is what it was. -/
theorem Px.grown {w w1 : World} {q : Nat} {p : Pc} {ao : Option Addr} {n c : Nat} (h : Px w q p) (hg : w.grownBy w1 (Value.slice ao n c).ownBlock) (ho : ¬ ob ao q) : Px w1 q p := by
  unfold Px
  rw [grown_at hg h.lt ho]
  exact h
theorem below_grown {w w1 : World} {B : Nat} {ao : Option Addr} {n c : Nat} {bs : List Int} (hm : Mine B w ao n c bs) (hg : w.grownBy w1 (Value.slice ao n c).ownBlock) (hB : B ≤ w.heap.size) : Below B w w1 :=
  ⟨hg.os, hg.tape, hg.output, hg.size, fun k hk => grown_at hg (by omega) (fun q => by have := (hm.ob q).1; omega)⟩

set_option maxHeartbeats 4000000 in
set_option maxRecDepth 20000 in
theorem expand_any (w : World) (ao : Option Addr) (n c : Nat) (l : List Pc) (h : Ps w ao n c l) (hn : n ≤ 2000) :
    Calls Try.prog 13 #[.slice ao n c] w fun e w' => ∃ bo bn bc, e = .returned (.tuple #[.slice bo bn bc, .int .i64 (exq l).2]) ∧ Mine w.heap.size w' bo bn bc (exq l).1 ∧ Below w.heap.size w w' := by
  have hlen := h.len
  have hle := h.le
  have hmx := h.max
  have H := hide h
  have cc := hide (check_pc w ao n c l h (by omega))
  clear h
  by_cases he : chk 0 l = 0
  · rw [he] at cc
    have hr := hide (show exq l = (xpd [] l, 0) from if_pos he)
    rw [unhide hr]
    obtain ⟨R, hR⟩ : ∃ R, R = xpd [] l := ⟨_, rfl⟩
    simp only
    rw [← hR]
    have HR := hide hR
    have HE := hide he
    clear hR he hr
    go_enter Try.func13, Try.ntmps13
    go_wp2_with fail
    refine (unhide cc).mono ?_
    rintro e w1 ⟨rfl, b1⟩
    go_wp2_with fail
    go_loopw [5, 15] (fun v i wr => ∃ (k : Nat) (o : List Int) (xo : Option Addr) (xc : Nat), k ≤ n ∧ i = .int .i64 (k : Int) ∧ v = .slice xo o.length xc ∧ Mine w.heap.size wr xo o.length xc o ∧ R = xpd o (l.drop k) ∧ chk (o.length : Int) (l.drop k) = 0 ∧ o.length ≤ 258 * k ∧ Below w.heap.size w wr) (fun _ i _ => n - (intOf i).toNat)
    case atStart => exact ⟨0, [], none, 0, by omega, rfl, rfl, Mine.nought _ _, unhide HR, unhide HE, by simp, b1⟩
    case round =>
      clear HR HE b1 cc
      obtain ⟨k, o, xo, xc, hk, rfl, rfl, hm, hR, hc, ho, bw⟩ := hrel
      by_cases hlt : k < n
      · have hlt' : (k : Int) < (n : Int) := by omega
        obtain ⟨⟨pl, pd, pb⟩, hp⟩ : ∃ p, l[k]? = some p := ⟨_, List.getElem?_eq_getElem (show k < l.length by omega)⟩
        obtain ⟨ib, io, hix, x0, x1, x2⟩ := ((unhide H).later bw).idx hp (k : Int) rfl
        have hok := (unhide H).fit _ (List.mem_of_getElem? hp)
        simp only at x0 x1 x2
        rw [drop_pc hp] at hR hc
        obtain ⟨hmay, hd, hcn⟩ := chk_step hc
        have hsz := may_sz hmay
        have hxl := xp1_len hmay o
        have bb := below_alloc wr (.cells #[.int .i64 pl, .int .i64 pd, .int .u8 pb] 25)
        have y := px_new wr ⟨pl, pd, pb⟩
        have m1 := hm.later bb
        have zw := bw.size
        have hno : ¬ ob xo wr.heap.size := fun q => by have := (hm.ob q).2; omega
        have bw1 := bw.trans (bb.mono zw)
        have hnx : R = xpd (xp1 o ⟨pl, pd, pb⟩) (l.drop (k + 1)) := hR
        by_cases h0 : pl = 0
        · subst h0
          have e1 : xp1 o ⟨0, pd, pb⟩ = o ++ [pb] := rfl
          rw [e1] at hnx
          have hone := Bs.one (wr.alloc (.cells #[.int .i64 0, .int .i64 pd, .int .u8 pb] 25)) pb hok.b0 hok.b1
          have s1 : (wr.alloc (.cells #[.int .i64 0, .int .i64 pd, .int .u8 pb] 25)).heap.size = wr.heap.size + 1 := by simp
          rw [s1] at hone
          have bb2 := below_alloc (wr.alloc (.cells #[.int .i64 0, .int .i64 pd, .int .u8 pb] 25)) (.cells #[.int .u8 pb] 5)
          have M2 := hide (m1.later bb2)
          have Y2 := hide (y.later bb2)
          have BW2 := hide (bw1.trans (bb2.mono bw1.size))
          have HO := hide hone
          have HN := hide hnx
          have HC := hide (show chk ((o ++ [pb]).length : Int) (l.drop (k + 1)) = 0 by rw [← hcn, sz_byte]; simp)
          clear hR hc hmay hd hcn hxl m1 y hnx hm hone e1 bw bw1
          go_wp2_with (at_builtin; refine wpList_appF rfl (.tmp 22) (.tmp 25) rfl w.heap.size xo o.length xc o rfl (unhide M2) _ 1 1 [pb] rfl (unhide HO) (by omega) (by simp; omega) ?_; intro ao1 cc1 w3 hm3 hg3 hs3; have y3 := (unhide Y2).grown hg3 hno; have d0 := y3.c0; simp only at d0)
          try go_frame
          have M3 := hide hm3
          have BW3 := hide ((unhide BW2).trans (below_grown (unhide M2) hg3 (by have := (unhide BW2).size; omega)))
          clear hm3 hg3 hs3 y3
          go_wp2_with fail
          go_loopw [5, 29] (fun v i wr' => v = .slice ao1 (o.length + 1) cc1 ∧ i = .int .i64 0 ∧ wr' = w3) (fun _ _ _ => 0)
          case atStart => exact ⟨rfl, rfl, rfl⟩
          case round =>
            obtain ⟨rfl, rfl, rfl⟩ := hrel
            go_wp2_with fail
            go_roundw
            case rel => exact ⟨k + 1, o ++ [pb], ao1, cc1, by omega, by go_num, (by rw [List.length_append]; rfl), by simpa using unhide M3, unhide HN, unhide HC, by simp; omega, unhide BW3⟩
            case measure => simp [intOf]; omega
        · have hcp := may_copy hmay h0
          simp only at hcp hd
          have hcp' := (show 3 ≤ pl ∧ pl ≤ 258 ∧ 1 ≤ pd ∧ pd ≤ 32768 by omega)
          clear hcp
          obtain ⟨N, rfl⟩ : ∃ N : Nat, pl = (N : Int) := ⟨pl.toNat, by omega⟩
          obtain ⟨D, rfl⟩ : ∃ D : Nat, pd = (D : Int) := ⟨pd.toNat, by omega⟩
          have e1 : xp1 o ⟨(N : Int), (D : Int), pb⟩ = cpn D N o := by unfold xp1; simp only; rw [if_neg h0]; simp
          have e2 : sz ⟨(N : Int), (D : Int), pb⟩ = N := sz_copy (by omega) _ _
          rw [e1] at hnx
          rw [e2] at hcn
          obtain ⟨F, hF⟩ : ∃ F, F = cpn D N o := ⟨_, rfl⟩
          have hFl : F.length = o.length + N := by rw [hF, cpn_len]
          rw [← hF] at hnx
          have h0' : ((N : Int) == 0) = false := by simp; omega
          have HN := hide hnx
          have HC := hide (show chk (F.length : Int) (l.drop (k + 1)) = 0 by rw [hFl, ← hcn]; simp)
          have HF := hide hF
          have HFL := hide hFl
          have M1 := hide m1
          have Y1 := hide y
          have BW1 := hide bw1
          have HNO := hide hno
          have dD : 1 ≤ D ∧ D ≤ o.length := by omega
          clear hR hc hmay hd hcn hxl m1 y hnx hm e1 e2 bw bw1 hF hFl hno h0
          go_wp2_with fail
          go_loopw [5, 29] (fun v i wr' => ∃ (j : Nat) (o' : List Int) (yo : Option Addr) (yc : Nat), j ≤ N ∧ i = .int .i64 (j : Int) ∧ v = .slice yo o'.length yc ∧ Mine w.heap.size wr' yo o'.length yc o' ∧ F = cpn D (N - j) o' ∧ o'.length = o.length + j ∧ Px wr' wr.heap.size ⟨(N : Int), (D : Int), pb⟩ ∧ ¬ ob yo wr.heap.size ∧ Below w.heap.size w wr') (fun _ i _ => N - (intOf i).toNat)
          case atStart => exact ⟨0, o, xo, xc, by omega, rfl, rfl, unhide M1, unhide HF, rfl, unhide Y1, unhide HNO, unhide BW1⟩
          case round =>
            clear M1 HF Y1 HNO BW1 x0 x1 x2 hix bb
            obtain ⟨j, o', yo, yc, hj, rfl, rfl, hm, hF, ho', py, hno, bw⟩ := hrel
            have d0 := py.c0
            have d1 := py.c1
            simp only at d0 d1
            have zr := bw.size
            have PY := hide py
            have HNO := hide hno
            have BW := hide bw
            by_cases hlj : j < N
            · have hlj' : (j : Int) < (N : Int) := by omega
              obtain ⟨ib, io, hix, hcx⟩ := hm.bs.idx (show o'.length - D < o'.length by omega) ((o'.length : Int) - (D : Int)) (by omega)
              have hby := hm.byt.at (o'.length - D)
              obtain ⟨V, hV⟩ : ∃ V, V = o'[o'.length - D]?.getD 0 := ⟨_, rfl⟩
              rw [← hV] at hcx hby
              have hone := hide (Bs.one wr V hby.1 hby.2)
              have bb := below_alloc wr (.cells #[.int .u8 V] 5)
              have M1 := hide (hm.later bb)
              have P1 := hide (py.later bb)
              have hnx := hide (show F = cpn D (N - (j + 1)) (o' ++ [V]) by
                obtain ⟨f, hf⟩ : ∃ f, N - j = f + 1 := ⟨N - j - 1, by omega⟩
                rw [hF, hf, show N - (j + 1) = f by omega, hV]
                rfl)
              have BW1 := hide (bw.trans (bb.mono zr))
              have hlt2 := py.lt
              have HO' := hide ho'
              have hol : o'.length ≤ 1000000 := by omega
              clear hF hV py hm hno bw ho'
              go_wp2_with (at_builtin; refine wpList_appF rfl (.tmp 31) (.tmp 40) rfl w.heap.size yo o'.length yc o' rfl (unhide M1) _ 1 1 [V] rfl (unhide hone) (by omega) (by simp; omega) ?_; intro ao1 cc1 w3 hm3 hg3 hs3)
              try go_frame
              have M3 := hide hm3
              have P3 := hide ((unhide P1).grown hg3 (unhide HNO))
              have N3 := hide (fun q => (hs3 _ q).elim (unhide HNO) (fun z => by simp at z; omega))
              have BW3 := hide ((unhide BW1).trans (below_grown (unhide M1) hg3 (by have := (unhide BW1).size; omega)))
              clear hm3 hg3 hs3
              go_wp2_with fail
              go_roundw
              case rel => exact ⟨j + 1, o' ++ [V], ao1, cc1, by omega, by go_num, (by rw [List.length_append]; rfl), by simpa using unhide M3, unhide hnx, by have := unhide HO'; simp; omega, unhide P3, unhide N3, unhide BW3⟩
              case measure => simp [intOf]; omega
            · have hlj' : ¬ (j : Int) < (N : Int) := by omega
              have hfin : F = o' := by rw [hF, show N - j = 0 by omega]; rfl
              have M3 := hide hm
              have hFo := hide hfin
              have HO' := hide ho'
              clear hF hm hfin py bw hno ho'
              go_wp2_with fail
              go_roundw
              case rel => exact ⟨k + 1, F, yo, yc, by omega, by go_num, by rw [unhide hFo], by rw [unhide hFo]; exact unhide M3, unhide HN, unhide HC, by have := unhide HO'; rw [unhide hFo]; omega, unhide BW⟩
              case measure => simp [intOf]; omega
      · have hlt' : ¬ (k : Int) < (n : Int) := by omega
        have hfin := hide (show R = o by rw [hR, List.drop_of_length_le (by omega)]; rfl)
        have HM := hide hm
        clear hR hc hm
        go_wp2_with fail
        go_ret2
        rw [unhide hfin]
        exact ⟨xo, _, xc, rfl, unhide HM, bw⟩
  · have he' : (chk 0 l != 0) = true := by simpa using he
    have hr := hide (show exq l = ([], chk 0 l) from if_neg he)
    rw [unhide hr]
    simp only
    generalize chk 0 l = R at *
    go_enter Try.func13, Try.ntmps13
    go_wp2_with fail
    refine (unhide cc).mono ?_
    rintro e w1 ⟨rfl, b1⟩
    go_wp2_with fail
    go_ret2
    exact ⟨none, 0, 0, rfl, Mine.nought _ _, b1⟩
end Go.Proofs.Ytmlodlmmfkpibaa
