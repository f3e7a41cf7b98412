/-
  The statement on what is written and read back returns true for any lengths and symbols, and writes nothing that was there. Conditions: none but that the arguments can be read.
-/
import Derived.Test.YtgphglghjpeojaaHufLives
import Derived.Test.YtgphglghjpeojaaHufBack
namespace Go.Proofs.Ytgphglghjpeojaa
open Go.RowKit
set_option linter.unusedVariables false
set_option linter.unusedSimpArgs false

theorem wrq_err (L ss : List Int) (h : (wrq L ss).2.2 ≠ 0) : (wrq L ss).1 = [] ∧ (wrq L ss).2.1 = 0 := by
  unfold wrq at h ⊢
  split
  · split
    · exact ⟨rfl, rfl⟩
    · rename_i h1 h2
      rw [if_pos h1, if_neg h2] at h
      simp at h
  · exact ⟨rfl, rfl⟩
theorem wrq_ok (L ss : List Int) (h : (wrq L ss).2.2 = 0) : cer L = 0 ∧ (∀ x ∈ ss, sbad L x = false) ∧ wrq L ss = (pkF [] 0 (wtext L ss), ((wtext L ss).length : Int), 0) := by
  unfold wrq at h ⊢
  by_cases h1 : cer L = 0
  · rw [if_pos h1] at h ⊢
    by_cases h2 : ss.any (sbad L) = true
    · rw [if_pos h2] at h
      simp at h
    · refine ⟨h1, fun x hx => ?_, by rw [if_neg h2]⟩
      have h3 : ss.any (sbad L) = false := by simpa using h2
      have := List.any_eq_false.1 h3 x hx
      simpa using this
  · rw [if_neg h1] at h
    exact absurd h h1

set_option maxHeartbeats 4000000 in
set_option maxRecDepth 20000 in
theorem lawBack (ao : Option Addr) (n c : Nat) (L : List Int) (so : Option Addr) (m d : Nat) (ss : List Int) (w : World) (h : Is w ao n c L) (hs : Is w so m d ss) :
    Calls Try.prog 6 #[.slice ao n c, .slice so m d] w fun e w' => e = .returned (.bool true) ∧ Below w.heap.size w w' := by
  have H := hide h
  have HS := hide hs
  have hlen := hide h.len
  have hslen := hide hs.len
  have hmax := h.max
  have hle := h.le
  have smax := hs.max
  have sle := hs.le
  clear h hs
  by_cases h1 : (400 : Int) < (n : Int)
  · have g1 : decide ((400 : Int) < (n : Int)) = true := by simpa using h1
    go_enter Try.func6, Try.ntmps6
    go_wp2_with (go_at_call 10; refine (lives_any _).mono ?_; rintro e w1 ⟨rfl, hb1⟩)
    go_ret
    exact ⟨rfl, hb1⟩
  have g1 : decide ((400 : Int) < (n : Int)) = false := by simpa using h1
  by_cases h2 : (400 : Int) < (m : Int)
  · have g2 : decide ((400 : Int) < (m : Int)) = true := by simpa using h2
    go_enter Try.func6, Try.ntmps6
    go_wp2_with (go_at_call 10; refine (lives_any _).mono ?_; rintro e w1 ⟨rfl, hb1⟩)
    go_ret
    exact ⟨rfl, hb1⟩
  have g2 : decide ((400 : Int) < (m : Int)) = false := by simpa using h2
  go_enter Try.func6, Try.ntmps6
  go_wp2_with fail
  refine (lives_any _).mono ?_
  rintro e w1 ⟨rfl, b1⟩
  have z1 := b1.size
  go_wp2_with fail
  refine (write_any _ _ _ _ _ _ _ _ _ ((unhide H).later b1) ((unhide HS).later b1) (by omega)).mono ?_
  rintro e w2 ⟨⟨bo, bn, bc, rfl, hbs⟩, b2⟩
  have bb2 : Below w.heap.size w w2 := b1.trans (b2.mono z1)
  have z2 := bb2.size
  by_cases he : (wrq L ss).2.2 = 0
  · obtain ⟨k1, k2, k3⟩ := wrq_ok L ss he
    rw [k3] at hbs ⊢
    have hG := hide (good_of k1)
    have hall := hide k2
    have hH := hide (holds_pk L ss)
    have hbl := hbs.len
    rw [(unhide hH).2] at hbl
    have ht := wtext_le (unhide hG) ss k2
    rw [unhide hslen] at ht
    obtain ⟨T, hT⟩ : ∃ T, T = (wtext L ss).length := ⟨_, rfl⟩
    obtain ⟨b, hb⟩ : ∃ b, b = pkF [] 0 (wtext L ss) := ⟨_, rfl⟩
    have hHb := hide (show Holds b (wtext L ss) by rw [hb]; exact (unhide hH).1)
    have hB := hide (show Bs w2 bo bn bc b by rw [hb]; exact hbs)
    rw [← hT] at hbl ht ⊢
    have HT := hide hT
    have halq := hide (show alq L b (m : Int) = (ss, (T : Int), 0) by
      unfold alq
      rw [if_pos k1, if_neg (by omega), Int.toNat_natCast, ← unhide hslen]
      have := alls_back (unhide hG) (b := b) ss [] [] k2 (by simpa [wtext] using unhide hHb)
      rw [hT]
      simpa [wtext] using this)
    clear hbs k3 he hT hb k1 k2 hH
    have hbn : (bn : Int) = ((T : Int) + 7) / 8 := by omega
    have hT6 : (T : Int) ≤ 6000 := by omega
    have HBN := hide hbl
    clear ht hbl
    go_wp2_with fail
    have ca := all_any _ _ _ _ _ _ _ _ (m : Int) _ ((unhide H).later bb2) (unhide hB) (by have := unhide HBN; omega) (by omega)
    rw [unhide halq] at ca
    refine ca.mono ?_
    clear ca
    rintro e w3 ⟨⟨lo, lnn, lc, rfl, hl3⟩, b3⟩
    have bb3 : Below w.heap.size w w3 := bb2.trans (b3.mono z2)
    have z3 := bb3.size
    have L3 := hide hl3
    clear hl3
    go_wp2_with fail
    have cs := sameInts_any _ _ _ _ _ _ _ _ _ (unhide L3) ((unhide HS).later bb3)
    rw [show decide (ss = ss) = true by simp] at cs
    refine cs.mono ?_
    clear cs
    rintro e w4 ⟨rfl, b4⟩
    have bb4 : Below w.heap.size w w4 := bb3.trans (b4.mono z3)
    have bb24 : Below w2.heap.size w2 w4 := b3.trans (b4.mono b3.size)
    go_wp2_with fail
    go_loopw [11, 12] (fun t i wr => ∃ k : Nat, k ≤ m ∧ i = .int .i64 k ∧ t = .int .i64 ((wtext L (ss.take k)).length : Int) ∧ Below w2.heap.size w2 wr) (fun _ i _ => m - (intOf i).toNat)
    case atStart => exact ⟨0, by omega, rfl, rfl, bb24⟩
    case round =>
      clear b3 b4 bb3 bb4 bb24 z3 L3
      obtain ⟨k, hk, rfl, rfl, hbel⟩ := hrel
      have bw : Below w.heap.size w wr := bb2.trans (hbel.mono z2)
      by_cases hlt : k < m
      · have hkL := hide (show k < ss.length by rw [unhide hslen]; exact hlt)
        obtain ⟨s, hsv⟩ : ∃ s, s = ss[k]?.getD 0 := ⟨_, rfl⟩
        have hsb := hide (show sbad L s = false from unhide hall s (by rw [hsv]; simp [List.getElem?_eq_getElem (unhide hkL)]))
        have hsg := sgood (unhide hsb)
        obtain ⟨S, rfl⟩ : ∃ S : Nat, s = (S : Int) := ⟨s.toNat, by omega⟩
        have hSn : S < n := by rw [← unhide hlen]; omega
        obtain ⟨b5, o5, i5, c5⟩ := ((unhide HS).later bw).idx hlt (k : Int) rfl
        rw [← hsv] at c5
        have hsplit := hide (show ss = ss.take k ++ (S : Int) :: ss.drop (k + 1) by
          rw [hsv]
          simp [List.getElem?_eq_getElem (unhide hkL)])
        have hrd := hide (show rdq L b ((wtext L (ss.take k)).length : Int) = ((S : Int), ((sbits L (S : Int)).length : Int), 0) by
          unfold rdq
          have hc0 : cer L = 0 := by
            have hg := unhide hG
            unfold cer
            rw [if_neg (by have := hg.len; omega), not_bad (fun i hi => hg.fit _ (ln_mem hi)), if_neg (by simp), if_neg (by have := hg.full; omega)]
          rw [if_pos hc0, if_neg (by omega), Int.toNat_natCast]
          refine rd_sym (unhide hG) (p := ss.take k) (q := wtext L (ss.drop (k + 1))) (unhide hsb) ?_
          have := unhide hHb
          rw [unhide hsplit, wtext_app] at this
          exact this)
        have hnext := hide (show wtext L (ss.take (k + 1)) = wtext L (ss.take k) ++ sbits L (S : Int) by
          rw [take_snoc (unhide hkL), wtext_app]
          simp only [wtext, List.append_nil]
          congr 2
          rw [hsv]; rfl)
        have hsl := sbits_len (unhide hG) (unhide hsb)
        simp only [Int.toNat_natCast] at hsl hsg
        have hle6 := wtext_le (unhide hG) (ss.take k) (fun x hx => unhide hall x (List.mem_of_mem_take hx))
        have hlt6 : (wtext L (ss.take k)).length ≤ 6000 := by simp at hle6; omega
        clear hle6
        have hnl := hide (show (wtext L (ss.take (k + 1))).length = (wtext L (ss.take k)).length + (sbits L (S : Int)).length by rw [unhide hnext]; simp)
        have HSV := hide hsv
        clear hsv
        generalize (wtext L (ss.take k)).length = A at *
        generalize (sbits L (S : Int)).length = X at *
        have hlnX := hide hsl.1
        have hX15 : X ≤ 15 := hsl.2.2
        clear hsl hsg
        have cr := readq_any _ _ _ _ _ _ _ _ (A : Int) wr ((unhide H).later bw) ((unhide hB).later hbel) (by have := unhide HBN; omega) (by omega)
        rw [unhide hrd] at cr
        have CR := hide cr
        clear cr
        go_wp2_with fail
        refine (unhide CR).mono ?_
        rintro e w5 ⟨rfl, b5'⟩
        have bel5 : Below w2.heap.size w2 w5 := hbel.trans (b5'.mono hbel.size)
        have bw5 : Below w.heap.size w w5 := bb2.trans (bel5.mono z2)
        have c6 := cell_later b5' c5
        obtain ⟨b7, o7, i7, c7⟩ := ((unhide H).later bw5).idx hSn (S : Int) rfl
        rw [show L[S]?.getD 0 = ((X : Nat) : Int) from (unhide hlnX).symm] at c7
        clear c5 b5'
        go_wp2_with fail
        go_roundw
        case rel => exact ⟨k + 1, by omega, by go_num, by rw [unhide hnl]; go_num, bel5⟩
        case measure => simp [intOf]; omega
      · have hT : ss.take k = ss := List.take_of_length_le (by rw [unhide hslen]; omega)
        rw [hT, ← unhide HT]
        clear hT
        go_wp2_with fail
        go_ret
        exact ⟨rfl, bw⟩
  · obtain ⟨k1, k2⟩ := wrq_err L ss he
    have he' : ((wrq L ss).2.2 != 0) = true := by simpa using he
    have hbl := hbs.len
    rw [k1] at hbl
    have hbn : bn = 0 := by simpa using hbl.symm
    subst hbn
    rw [k2]
    clear hbs hbl k1 k2 he
    go_wp2_with fail
    go_ret
    exact ⟨rfl, bb2⟩

end Go.Proofs.Ytgphglghjpeojaa
