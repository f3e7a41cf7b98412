/-
  What Expand of the document's own answer returns for any pieces: the same bytes, the same error. It writes nothing that was there. Conditions: at most a thousand pieces.
-/
import Derived.Test.YtbolaljlhmakeaaRefPc
import Derived.Test.YtbolaljlhmakeaaMExp
namespace Go.Proofs.Ytbolaljlhmakeaa
open Go.RowKit
set_option linter.unusedVariables false
set_option linter.unusedSimpArgs false

set_option maxHeartbeats 4000000 in
set_option maxRecDepth 20000 in
theorem expand_ref (w : World) (ao : Option Addr) (n c : Nat) (l : List Pc) (h : Ps w ao n c l) (hn : n ≤ 2000) :
    Calls Try.prog 32 #[.slice ao n c] w fun e w' => ∃ bo bn bc, e = .returned (.tuple #[.slice bo bn bc, .int .i64 (exq l).2]) ∧ Mine w.heap.size w' bo bn bc (exq l).1 ∧ Below w.heap.size w w' := by
  have hle := h.le
  have hmx := h.max
  have hlen := hide h.len
  have H := hide h
  obtain ⟨E, hE⟩ : ∃ E, E = chk 0 l := ⟨_, rfl⟩
  obtain ⟨X, hX⟩ : ∃ X, X = xpd [] l := ⟨_, rfl⟩
  have hq : exq l = if E = 0 then (X, 0) else ([], E) := by rw [hE, hX]; rfl
  rw [hq]
  have HE := hide hE
  have HX := hide hX
  clear h hE hX hq
  go_enter Try.func32, Try.ntmps32
  go_wp2_with fail
  go_loopw [4, 5] (fun v i wr => ∃ (k : Nat) (o : List Int) (xo : Option Addr) (xc : Nat), k ≤ n ∧ i = .int .i64 (k : Int) ∧ v = .slice xo o.length xc ∧ Mine w.heap.size wr xo o.length xc o ∧ E = chk (o.length : Int) (l.drop k) ∧ X = xpd o (l.drop k) ∧ o.length ≤ 258 * k ∧ Below w.heap.size w wr) (fun _ i _ => n - (intOf i).toNat)
  case atStart => exact ⟨0, [], none, 0, by omega, rfl, rfl, Mine.nought _ _, unhide HE, unhide HX, by simp, Below.refl _ _⟩
  case round =>
    clear HE HX
    obtain ⟨k, o, xo, xc, hk, rfl, rfl, hm, hE, hX, hol, bw⟩ := hrel
    have zb := bw.size
    have hmax := hm.bs.max
    have hmle := hm.bs.le
    by_cases hlt : k < n
    · have hlt' : (k : Int) < (n : Int) := by omega
      obtain ⟨⟨pl, pd, pb⟩, hp⟩ : ∃ p, l[k]? = some p := ⟨_, List.getElem?_eq_getElem (show k < l.length by rw [unhide hlen]; exact hlt)⟩
      obtain ⟨ib, io, hix, x0, x1, x2⟩ := ((unhide H).later bw).idx hp (k : Int) rfl
      simp only at x0 x1 x2
      have hok := (unhide H).fit _ (List.mem_of_getElem? hp)
      have hb0 := hok.b0
      have hb1 := hok.b1
      simp only at hb0 hb1
      rw [drop_pc hp] at hE hX
      have mb := hide (fun W => may_ref W pl pd pb)
      have HM := hide hm
      have BW := hide bw
      have HPP := hide hp
      clear hm hok bw hp
      by_cases hmay : may ⟨pl, pd, pb⟩ = true
      · rw [hmay] at mb
        have hx1 := xp1_len hmay o
        have hszb := may_sz hmay
        have hX' : X = xpd (xp1 o ⟨pl, pd, pb⟩) (l.drop (k + 1)) := hX
        by_cases h0 : pl = 0
        · have hd0 := may_byte hmay h0
          simp only at hd0
          subst h0 hd0
          have e1 : xp1 o ⟨0, 0, pb⟩ = o ++ [pb] := by unfold xp1; simp
          rw [e1] at hX' hx1
          have hE' : E = chk ((o ++ [pb]).length : Int) (l.drop (k + 1)) := by
            rw [hE]; simp only [chk]; rw [if_pos hmay, if_neg (by omega), sz_byte]; simp
          have HE2 := hide hE'
          have HX2 := hide hX'
          clear hE hX hE' hX' hx1 hmay e1
          go_wp2_with fail
          refine (unhide mb _).mono ?_
          rintro e w1 ⟨rfl, b1⟩
          have y0 := cell_later b1 x0
          have y2 := cell_later b1 x2
          have M1 := hide ((unhide HM).later b1)
          have BW1 := hide ((unhide BW).trans (b1.mono zb))
          have zb1 := (unhide BW1).size
          clear b1 x0 x1 x2
          have bb := below_alloc w1 (.cells #[.int .u8 pb] 5)
          have HO := hide (Bs.one w1 pb hb0 hb1)
          have M2 := hide ((unhide M1).later bb)
          have BW2 := hide ((unhide BW1).trans (bb.mono zb1))
          clear bb
          go_wp2_with (at_builtin; refine wpList_app rfl (.tmp 25) (.tmp 31) rfl w.heap.size xo o.length xc o rfl (unhide M2) _ 1 1 [pb] rfl (unhide HO) (by omega) (by simp; omega) ?_; intro ao1 cc1 w3 hm3 hb3)
          try go_frame
          have M3 := hide hm3
          have BW3 := hide ((unhide BW2).trans hb3)
          clear hm3 hb3
          go_wp2_with fail
          go_roundw
          case rel => exact ⟨k + 1, o ++ [pb], ao1, cc1, by omega, by go_num, (by rw [List.length_append]; rfl), by simpa using unhide M3, unhide HE2, unhide HX2, by simp; omega, unhide BW3⟩
          case measure => simp [intOf]; omega
        · have hcp := may_copy hmay h0
          simp only at hcp
          have hcp' := (show 3 ≤ pl ∧ pl ≤ 258 ∧ 1 ≤ pd ∧ pd ≤ 32768 by omega)
          clear hcp
          have h0' : (pl == 0) = false := by simpa using h0
          by_cases hd : (o.length : Int) < pd
          · have hE' : E = 5 := by rw [hE]; simp only [chk]; rw [if_pos hmay, if_pos hd]
            subst hE'
            clear hE hX hX' hx1 hmay h0
            go_wp2_with fail
            refine (unhide mb _).mono ?_
            rintro e w1 ⟨rfl, b1⟩
            have y0 := cell_later b1 x0
            have y1 := cell_later b1 x1
            have BW1 := hide ((unhide BW).trans (b1.mono zb))
            clear b1 x0 x1 x2
            go_wp2_with fail
            go_ret2
            exact ⟨none, 0, 0, rfl, Mine.nought _ _, unhide BW1⟩
          · obtain ⟨N, rfl⟩ : ∃ N : Nat, pl = (N : Int) := ⟨pl.toNat, by omega⟩
            obtain ⟨D, rfl⟩ : ∃ D : Nat, pd = (D : Int) := ⟨pd.toNat, by omega⟩
            have e1 : xp1 o ⟨(N : Int), (D : Int), pb⟩ = cpn D N o := by unfold xp1; simp only; rw [if_neg h0]; simp
            have e2 : sz ⟨(N : Int), (D : Int), pb⟩ = N := sz_copy (by omega) _ _
            rw [e1, e2] at hx1
            rw [e1] at hX'
            obtain ⟨F, hF⟩ : ∃ F, F = cpn D N o := ⟨_, rfl⟩
            rw [← hF] at hx1 hX'
            have hE' : E = chk (F.length : Int) (l.drop (k + 1)) := by
              rw [hE]; simp only [chk]; rw [if_pos hmay, if_neg hd, e2, hx1]; simp
            have HE2 := hide hE'
            have HX2 := hide hX'
            have HF := hide hF
            have HFL := hide hx1
            have DD := hide (show 1 ≤ D ∧ D ≤ o.length by omega)
            have hd' : decide (o.length < D) = false := by simp; omega
            clear hE hX hE' hX' hx1 hmay e1 e2 h0 hF hd
            go_wp2_with fail
            refine (unhide mb _).mono ?_
            rintro e w1 ⟨rfl, b1⟩
            have y0 := cell_later b1 x0
            have y1 := cell_later b1 x1
            have M1 := hide ((unhide HM).later b1)
            have BW1 := hide ((unhide BW).trans (b1.mono zb))
            clear b1 x0 x1 x2
            go_wp2_with fail
            clear y0 y1 hix hd'
            go_loopw [4, 6] (fun v i wr' => ∃ (j : Nat) (o' : List Int) (yo : Option Addr) (yc : Nat), j ≤ N ∧ i = .int .i64 (j : Int) ∧ v = .slice yo o'.length yc ∧ Mine w.heap.size wr' yo o'.length yc o' ∧ F = cpn D (N - j) o' ∧ o'.length = o.length + j ∧ Below w.heap.size w wr') (fun _ i _ => N - (intOf i).toNat)
            case atStart => exact ⟨0, o, xo, xc, by omega, rfl, rfl, unhide M1, unhide HF, rfl, unhide BW1⟩
            case round =>
              clear M1 HF BW1 mb HM BW
              obtain ⟨j, o', yo, yc, hj, rfl, rfl, hm, hF, ho', bw⟩ := hrel
              obtain ⟨jb, jo, hjx, z0, z1, z2⟩ := ((unhide H).later bw).idx (unhide HPP) (k : Int) rfl
              simp only at z0 z1 z2
              have zr := bw.size
              have hmx2 := hm.bs.max
              have hml2 := hm.bs.le
              have BW := hide bw
              by_cases hlj : j < N
              · have hlj' : (j : Int) < (N : Int) := by omega
                obtain ⟨kb, ko, hkx, hcx⟩ := hm.bs.idx (show o'.length - D < o'.length by have := unhide DD; omega) ((o'.length : Int) - (D : Int)) (by have := unhide DD; omega)
                have hby := hm.byt.at (o'.length - D)
                obtain ⟨V, hV⟩ : ∃ V, V = o'[o'.length - D]?.getD 0 := ⟨_, rfl⟩
                rw [← hV] at hcx hby
                have hone := hide (Bs.one wr V hby.1 hby.2)
                have bb := below_alloc wr (.cells #[.int .u8 V] 5)
                have M1 := hide (hm.later bb)
                have hnx := hide (show F = cpn D (N - (j + 1)) (o' ++ [V]) by
                  obtain ⟨f, hf⟩ : ∃ f, N - j = f + 1 := ⟨N - j - 1, by omega⟩
                  rw [hF, hf, show N - (j + 1) = f by omega, hV]
                  rfl)
                have BW1 := hide (bw.trans (bb.mono zr))
                have HO' := hide ho'
                have hol' : o'.length ≤ 1000000 := by omega
                have hDo : (D : Int) ≤ 32768 := by omega
                clear hF hV hm bw ho' bb
                go_wp2_with (at_builtin; refine wpList_app rfl (.tmp 50) (.tmp 62) rfl w.heap.size yo o'.length yc o' rfl (unhide M1) _ 1 1 [V] rfl (unhide hone) (by omega) (by simp; omega) ?_; intro ao1 cc1 w3 hm3 hb3)
                try go_frame
                have M3 := hide hm3
                have BW3 := hide ((unhide BW1).trans hb3)
                clear hm3 hb3
                go_wp2_with fail
                go_roundw
                case rel => exact ⟨j + 1, o' ++ [V], ao1, cc1, by omega, by go_num, (by rw [List.length_append]; rfl), by simpa using unhide M3, unhide hnx, by have := unhide HO'; simp; omega, unhide BW3⟩
                case measure => simp [intOf]; omega
              · have hlj' : ¬ (j : Int) < (N : Int) := by omega
                have hfin : F = o' := by rw [hF, show N - j = 0 by omega]; rfl
                have M3 := hide hm
                have hFo := hide hfin
                have HO' := hide ho'
                clear hF hm hfin bw ho'
                go_wp2_with fail
                go_roundw
                case rel => exact ⟨k + 1, F, yo, yc, by omega, by go_num, by rw [unhide hFo], by rw [unhide hFo]; exact unhide M3, unhide HE2, unhide HX2, by have := unhide HO'; rw [unhide hFo]; omega, unhide BW⟩
                case measure => simp [intOf]; omega
      · have hm' : may ⟨pl, pd, pb⟩ = false := by simpa using hmay
        rw [hm'] at mb
        have hE' : E = 2 := by rw [hE]; simp only [chk]; rw [if_neg hmay]
        subst hE'
        clear hE hX hmay hm'
        go_wp2_with fail
        refine (unhide mb _).mono ?_
        rintro e w1 ⟨rfl, b1⟩
        have BW1 := hide ((unhide BW).trans (b1.mono zb))
        clear b1 x0 x1 x2
        go_wp2_with fail
        go_ret2
        exact ⟨none, 0, 0, rfl, Mine.nought _ _, unhide BW1⟩
    · have hlt' : ¬ (k : Int) < (n : Int) := by omega
      have hd : l.drop k = [] := List.drop_of_length_le (by rw [unhide hlen]; omega)
      rw [hd] at hE hX
      have hfE : E = 0 := hE
      have hfX := hide (show X = o from hX)
      have HM := hide hm
      have BW := hide bw
      subst hfE
      clear hE hX hm bw hd
      go_wp2_with fail
      go_ret2
      rw [unhide hfX]
      exact ⟨xo, _, xc, rfl, unhide HM, unhide BW⟩
end Go.Proofs.Ytbolaljlhmakeaa
