/-
  The statement PacketHolds, as a call: a reader holds no more than its limit and four bytes, whatever is fed. Conditions: none but that the chunks can be read.
-/
import Derived.Test.YtoblnmbbdhagbaaBss
namespace Go.Proofs.Ytoblnmbbdhagbaa
open Go.RowKit
set_option linter.unusedVariables false
set_option linter.unusedSimpArgs false

theorem lp_holds (M L : Int) : ∀ (f : Nat) (s : PS) (t : List Pk), s.held.length ≤ f → Sok M L s → Byt s.held → hln (lp M L f s t).1 ≤ L + 4 ∧ (s.why = 0 → (lp M L f s t).2.2 = (lp M L f s t).1.why)
  | 0, s, t, hf, hs, _ => by
    have := hs.bl
    refine ⟨?_, fun h => h.symm⟩
    simp only [lp, hln]
    omega
  | f + 1, s, t, hf, hs, hb => by
    have hbl := hs.bl
    have hl0 := hs.l0
    simp only [lp]
    split
    · refine ⟨?_, fun h => h.symm⟩
      simp only [hln]
      omega
    · split
      · refine ⟨?_, fun _ => rfl⟩
        simp only [hln, stp, List.length_nil]
        omega
      · rename_i h4 he
        have he' : hdE M L s = 0 := by simpa using he
        have hk := hdE_ok he'
        have hN := hdN_int hb
        split
        · refine ⟨?_, fun h => h.symm⟩
          simp only [hln]
          omega
        · have ht := hs.tk hb he'
          have hd : (s.held.drop (4 + hdN s)).length ≤ f := by rw [List.length_drop]; omega
          split
          · exact lp_holds M L f _ _ hd ht.nobody (by simp only [tkF]; exact hb.drop _)
          · exact lp_holds M L f _ _ hd ht (by simp only [tkF]; exact hb.drop _)
theorem feed_holds (M L : Int) (s : PS) (b : List Int) (hs : Sok M L s) (hh : Byt s.held) (hb : Byt b) (h : hln s ≤ L + 4) (hl : s.held.length + b.length ≤ 2000000000) :
    hln (feed M L s b).1 ≤ L + 4 ∧ ((feed M L s b).2.2 = 0 ∨ (feed M L s b).1.why = (feed M L s b).2.2 ∨ (feed M L s b).2.2 = 9) := by
  unfold feed
  split
  · exact ⟨h, .inr (.inr rfl)⟩
  · rename_i hw
    have hw' : s.why = 0 := by simpa using hw
    have := lp_holds M L (s.held ++ b).length { s with held := s.held ++ b } [] (Nat.le_refl _) ⟨hs.m0, hs.m1, hs.l0, hs.l1, hs.n0, hs.n1, hs.bl, by simpa using hl, hs.w0, hs.w1⟩ (hh.app hb)
    exact ⟨this.1, .inr (.inl (this.2 hw').symm)⟩

set_option maxHeartbeats 4000000 in
set_option maxRecDepth 20000 in
theorem lawPktHolds (M L : Int) (lo : Option Addr) (ln lc : Nat) (xs : List (List Int)) (w : World) (hl : Bsl w lo ln lc xs) :
    Calls Try.prog 7 #[.int .i64 M, .int .i64 L, .slice lo ln lc] w fun e w' => e = .returned (.bool true) ∧ Below w.heap.size w w' := by
  have cl := hide (lives_any w)
  have hle := hl.le
  have hmx := hl.max
  have HL := hide hl
  have HLN := hide hl.len
  clear hl
  by_cases a1 : 1 ≤ M ∧ M ≤ 16777215 ∧ 0 ≤ L ∧ L ≤ 1073741824
  · have cn := hide (fun w => new_ok M L w a1.1 a1.2.1 a1.2.2.1 a1.2.2.2)
    obtain ⟨m0, m1, l0, l1⟩ := a1
    go_enter Try.func7, Try.ntmps7
    go_wp2_with (first
      | (go_at_call 16; refine (unhide cl).mono ?_; rintro e w1 ⟨rfl, b1⟩; have B1 := hide b1; have z1 := b1.size; clear b1)
      | (go_at_call 11; refine (unhide cn w1).mono ?_; rintro e w2 ⟨rfl, r2, b2⟩; have R2 := hide (Ra.new (B := w.heap.size) r2 z1); have B2 := hide ((unhide B1).trans (b2.mono z1)); clear r2 b2))
    go_loopw [9] (fun iv ws => ∃ (i : Nat) (s : PS) (bo : Option Addr) (bc : Nat) (ho : Option Addr) (hc : Nat), i ≤ 60 ∧ i ≤ ln ∧ iv = .int .i64 (i : Int) ∧ Ra w.heap.size ws w1.heap.size M L bo bc ho hc s ∧ hln s ≤ L + 4 ∧ Below w.heap.size w ws) (fun iv _ => 60 - (intOf iv).toNat)
    case atStart => exact ⟨0, ps0, none, 0, none, 0, by omega, by omega, rfl, unhide R2, by simp [hln, ps0]; omega, unhide B2⟩
    case round =>
      clear R2 B2 B1 cl cn
      obtain ⟨i, s, bo, bc, ho, hc, hi, hin, rfl, hr, hh, hW⟩ := hrel
      have hz := hW.size
      by_cases ai : i < ln
      · by_cases a60 : i < 60
        · have ai' : (i : Int) < (ln : Int) := by omega
          have a60' : (i : Int) < 60 := by omega
          obtain ⟨cs, hcs⟩ : ∃ cs, xs[i]? = some cs := ⟨_, List.getElem?_eq_getElem (show i < xs.length by rw [unhide HLN]; exact ai)⟩
          obtain ⟨b, o, ci, cc, hix, hce, hbs⟩ := (unhide HL).at' i cs hcs
          have hbs' := hbs.later hW
          have hce' := cell_later hW hce
          have cle := hbs.le
          have cmx := hbs.max
          by_cases a3 : cs.length ≤ 3000
          · have a3' : (cs.length : Int) ≤ 3000 := by omega
            have hsl : s.held.length ≤ 1100000000 := by unfold hln at hh; omega
            obtain ⟨F, hF⟩ : ∃ F, F = feed M L s cs := ⟨_, rfl⟩
            have hFh := feed_holds M L s cs hr.rd.rl.ok hr.rd.own.byt hbs.byt hh (by omega)
            have hFt := feed_told M L s cs hr.rd.rl.ok hr.rd.own.byt hbs.byt (by omega)
            rw [← hF] at hFh hFt
            have cf := hide (show Calls Try.prog 12 #[.pointer (some ⟨w1.heap.size, 0, none⟩), .slice ci cs.length cc] wr fun e w' => OutF wr w1.heap.size M L bo ho F e w' by
              rw [hF]
              exact feed_any wr hr.rd ci cs.length cc cs hbs' (by omega) hsl)
            have HFt := hide hFt
            have HFh := hide hFh
            have HLW := hide hr.low
            have HW := hide hW
            clear hF hFh hFt hr hh hsl hcs hce hbs hbs' hW
            go_wp2_with (first
              | (go_at_call 12; refine (unhide cf).mono ?_; intro e w3 hout; obtain ⟨to, tn, tc, l, bo', bc', ho', hc', rfl, hp, hpl, hr3, b3⟩ := hout.low hz (unhide HLW); have P3 := hide hp; have HPL := hide hpl; have R3 := hide hr3; have B3 := hide ((unhide HW).trans b3); have ple := hp.le; have pmx := hp.max; clear hout hp hpl hr3 b3))
            go_loop [12] (fun jv => ∃ j : Nat, j ≤ tn ∧ jv = .int .i64 (j : Int)) (fun jv => tn - (intOf jv).toNat)
            case atStart => exact ⟨0, by omega, rfl⟩
            case round =>
              obtain ⟨j, hj, rfl⟩ := hrel
              by_cases aj : j < tn
              · have aj' : (j : Int) < (tn : Int) := by omega
                obtain ⟨p, hp⟩ : ∃ p, l[j]? = some p := ⟨_, List.getElem?_eq_getElem (show j < l.length by rw [(unhide P3).len]; exact aj)⟩
                obtain ⟨pb, po, hpx, d0, d1, d2⟩ := (unhide P3).idx hp (j : Int) rfl
                have hpt : pl p ∈ F.2.1 := by rw [← unhide HPL]; exact List.mem_map.2 ⟨p, List.mem_of_getElem? hp, rfl⟩
                have hpb : (p.bs.length : Int) ≤ L := unhide HFt (pl p) hpt
                clear hp hpt d0 d1
                generalize p.bs.length = PL at *
                go_wp2_with fail
                go_round
                case rel => exact ⟨j + 1, by omega, by go_num⟩
                case measure => simp [intOf]; omega
              · have aj' : ¬ (j : Int) < (tn : Int) := by omega
                obtain ⟨H, hH⟩ : ∃ H, H = hln F.1 := ⟨_, rfl⟩
                obtain ⟨Y, hY⟩ : ∃ Y, Y = F.1.why := ⟨_, rfl⟩
                obtain ⟨E, hE⟩ : ∃ E, E = F.2.2 := ⟨_, rfl⟩
                have hFh := unhide HFh
                rw [← hH, ← hY, ← hE] at hFh
                rw [← hE]
                have h0 : 0 ≤ H := by rw [hH]; unfold hln; omega
                have h1 : H ≤ L + 4 := hFh.1
                have ch := hide (fun wx (hx : Rl wx w1.heap.size M L bo' bc' ho' hc' F.1) => held_any wx hx)
                have cst := hide (fun wx (hx : Rl wx w1.heap.size M L bo' bc' ho' hc' F.1) => stopped_any wx hx)
                rw [← hH] at ch
                rw [← hY] at cst
                have HH := hide hH
                have HNX := hide (show hln F.1 ≤ L + 4 by rw [← hH]; exact h1)
                clear hH hY hE
                go_wp2_with fail
                refine (unhide ch w3 (unhide R3).rd.rl).mono ?_
                rintro e w4 ⟨rfl, n4, rfl⟩
                go_wp2_with fail
                refine (unhide ch (w3.drewN n4) ((unhide R3).rd.rl.drewN n4)).mono ?_
                rintro e w5 ⟨rfl, n5, rfl⟩
                by_cases e0 : E = 0
                · subst e0
                  clear hFh
                  go_wp2_with fail
                  go_roundw
                  case rel => exact ⟨i + 1, F.1, bo', bc', ho', hc', by omega, by omega, by go_num, (unhide R3).later (below_drewN w3 _), unhide HNX, (unhide B3).trans ⟨rfl, rfl, rfl, Nat.le_refl _, fun _ _ => rfl⟩⟩
                  case measure => simp [intOf]; omega
                · have be : (E != 0) = true := by rw [bne_iff_ne]; exact e0
                  by_cases ey : Y = E
                  · subst ey
                    clear hFh e0
                    go_wp2_with (first
                      | (go_at_call 17; refine same_world (unhide cst (w3.drewN (n4 + n5)) ((unhide R3).rd.rl.drewN (n4 + n5))) ?_))
                    go_roundw
                    case rel => exact ⟨i + 1, F.1, bo', bc', ho', hc', by omega, by omega, by go_num, (unhide R3).later (below_drewN w3 _), unhide HNX, (unhide B3).trans ⟨rfl, rfl, rfl, Nat.le_refl _, fun _ _ => rfl⟩⟩
                    case measure => simp [intOf]; omega
                  · have h9 : E = 9 := by
                      rcases hFh.2 with q | q | q
                      · exact absurd q e0
                      · exact absurd q ey
                      · exact q
                    have by9 : (Y != 9) = true := by rw [bne_iff_ne, ← h9]; exact ey
                    subst h9
                    clear hFh e0 ey be
                    go_wp2_with (first
                      | (go_at_call 17; refine same_world (unhide cst (w3.drewN (n4 + n5)) ((unhide R3).rd.rl.drewN (n4 + n5))) ?_))
                    go_roundw
                    case rel => exact ⟨i + 1, F.1, bo', bc', ho', hc', by omega, by omega, by go_num, (unhide R3).later (below_drewN w3 _), unhide HNX, (unhide B3).trans ⟨rfl, rfl, rfl, Nat.le_refl _, fun _ _ => rfl⟩⟩
                    case measure => simp [intOf]; omega
          · have a3' : ¬ (cs.length : Int) ≤ 3000 := by omega
            clear hcs hbs hbs' hr hh
            go_wp2_with fail
            go_ret
            exact ⟨rfl, hW⟩
        · have a60' : ¬ (i : Int) < 60 := by omega
          have ai' : (i : Int) < (ln : Int) := by omega
          clear hr hh
          go_wp2_with fail
          go_ret
          exact ⟨rfl, hW⟩
      · have ai' : ¬ (i : Int) < (ln : Int) := by omega
        clear hr hh
        go_wp2_with fail
        go_ret
        exact ⟨rfl, hW⟩
  · have cn := hide (fun w => new_bad M L w a1)
    clear a1
    go_enter Try.func7, Try.ntmps7
    go_wp2_with (first
      | (go_at_call 16; refine (unhide cl).mono ?_; rintro e w1 ⟨rfl, b1⟩; have B1 := hide b1; clear b1)
      | (go_at_call 11; refine same_world (unhide cn _) ?_))
    go_ret
    exact ⟨rfl, unhide B1⟩

end Go.Proofs.Ytoblnmbbdhagbaa
