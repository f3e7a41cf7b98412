/-
  What Read and All of the document's own answer return for any lengths, bytes and numbers: the same plain functions. They write nothing that was there. Conditions: the slices can be read, at most a million bytes, at most a thousand million symbols.
-/
import Derived.Test.YtgphglghjpeojaaHufRefRead
namespace Go.Proofs.Ytgphglghjpeojaa
open Go.RowKit
set_option linter.unusedVariables false
set_option linter.unusedSimpArgs false

set_option maxHeartbeats 2000000 in
theorem read_ref (ao : Option Addr) (n c : Nat) (L : List Int) (bo : Option Addr) (m d : Nat) (bs : List Int) (at_ : Int) (w : World) (h : Is w ao n c L) (hb : Bs w bo m d bs) (hm : m ≤ 1000000) (hat : at_ ≤ 9223372036854775807) :
    Calls Try.prog 15 #[.slice ao n c, .slice bo m d, .int .i64 at_] w fun e w' => e = .returned (.tuple #[.int .i64 (rdq L bs at_).1, .int .i64 (rdq L bs at_).2.1, .int .i64 (rdq L bs at_).2.2]) ∧ Below w.heap.size w w' := by
  have H := hide h
  have HB := hide hb
  have HAT := hide hat
  have hlen := hide h.len
  have HMM := hide hm
  clear h hb hat hm
  generalize hR : rdq L bs at_ = R
  obtain ⟨r1, r2, r3⟩ := R
  have HR := hide hR
  clear hR
  go_enter Try.func15, Try.ntmps15
  go_wp2_with fail
  refine (codes_ref _ _ _ _ _ (unhide H)).mono ?_
  rintro e w1 ⟨⟨ko, kn, kc, rfl, hk⟩, b1⟩
  by_cases he : cer L = 0
  · have hg := hide (good_of he)
    have HE := hide he
    have hcd := hide (show cdd L = cds L by unfold cdd; rw [he]; rfl)
    rw [unhide hcd] at hk
    have HK := hide hk
    have hkn := hk.len
    rw [cds_len, unhide hlen] at hkn
    subst hkn
    rw [he]
    clear hk he
    by_cases hneg : at_ < 0
    · have hans := hide (show (r1, r2, r3) = (0, 0, 2) by rw [← unhide HR]; unfold rdq; rw [if_pos (unhide HE), if_pos hneg])
      go_wp2_with fail
      go_ret3
      have ha := unhide hans
      simp only [Prod.mk.injEq] at ha
      obtain ⟨rfl, rfl, rfl⟩ := ha
      exact ⟨rfl, b1⟩
    · have hans := hide (show (r1, r2, r3) = rd L bs at_.toNat by rw [← unhide HR]; unfold rdq; rw [if_pos (unhide HE), if_neg hneg])
      have cd := decode_ref _ _ _ L ko kc _ _ _ bs at_.toNat at_ (by omega) w1 ((unhide H).later b1) (unhide HK) ((unhide HB).later b1) (unhide hg) (unhide HMM) (unhide HAT)
      rw [← unhide hans] at cd
      have CD := hide cd
      clear cd
      go_wp2_with fail
      refine same_world (unhide CD) ?_
      go_wp2_with fail
      go_ret3
      exact ⟨rfl, b1⟩
  · have he' : (cer L != 0) = true := by simpa using he
    have hans := hide (show (r1, r2, r3) = (0, 0, cer L) by rw [← unhide HR]; unfold rdq; rw [if_neg he])
    clear he
    go_wp2_with fail
    go_ret3
    have ha := unhide hans
    simp only [Prod.mk.injEq] at ha
    obtain ⟨rfl, rfl, rfl⟩ := ha
    exact ⟨rfl, b1⟩

set_option maxHeartbeats 4000000 in
theorem all_ref (ao : Option Addr) (n c : Nat) (L : List Int) (bo : Option Addr) (m d : Nat) (bs : List Int) (N : Int) (w : World) (h : Is w ao n c L) (hb : Bs w bo m d bs) (hm : m ≤ 1000000) (hN : N ≤ 1000000000) :
    Calls Try.prog 17 #[.slice ao n c, .slice bo m d, .int .i64 N] w fun e w' => (∃ ao1 n1 c1, e = .returned (.tuple #[.slice ao1 n1 c1, .int .i64 (alq L bs N).2.1, .int .i64 (alq L bs N).2.2]) ∧ Is w' ao1 n1 c1 (alq L bs N).1) ∧ Below w.heap.size w w' := by
  have H := hide h
  have HB := hide hb
  have hlen := hide h.len
  have hblen := hide hb.len
  have HMM := hide hm
  have HNN := hide hN
  clear h hb hm hN
  generalize hR : alq L bs N = R
  obtain ⟨r1, r2, r3⟩ := R
  have HR := hide hR
  clear hR
  go_enter Try.func17, Try.ntmps17
  go_wp2_with fail
  refine (codes_ref _ _ _ _ _ (unhide H)).mono ?_
  rintro e w1 ⟨⟨ko, kn, kc, rfl, hk⟩, b1⟩
  have z1 := b1.size
  by_cases he : cer L = 0
  · have hg := hide (good_of he)
    have HE := hide he
    have hcd := hide (show cdd L = cds L by unfold cdd; rw [he]; rfl)
    rw [unhide hcd] at hk
    have HK := hide hk
    have hkn := hk.len
    rw [cds_len, unhide hlen] at hkn
    subst hkn
    rw [he]
    clear hk he
    by_cases hneg : N < 0
    · have hans := hide (show (r1, r2, r3) = ([], 0, 2) by rw [← unhide HR]; unfold alq; rw [if_pos (unhide HE), if_pos hneg])
      go_wp2_with fail
      go_ret3
      have ha := unhide hans
      simp only [Prod.mk.injEq] at ha
      obtain ⟨rfl, rfl, rfl⟩ := ha
      exact ⟨⟨_, _, _, rfl, Is.nought _⟩, b1⟩
    · have hans := hide (show (r1, r2, r3) = alls L bs N.toNat 0 [] by rw [← unhide HR]; unfold alq; rw [if_pos (unhide HE), if_neg hneg])
      have HLB := hide ((unhide H).later b1)
      have HBB := hide ((unhide HB).later b1)
      go_wp2_with fail
      go_loopw [11, 12, 13] (fun v t i wr => ∃ (k at_ : Int) (acc : List Int) (xo : Option Addr) (xc : Nat), 0 ≤ k ∧ k ≤ N ∧ i = .int .i64 k ∧ t = .int .i64 at_ ∧ 0 ≤ at_ ∧ v = .slice xo acc.length xc ∧ IMine w1.heap.size wr xo acc.length xc acc ∧ (acc.length : Int) = k ∧ (r1, r2, r3) = alls L bs (N - k).toNat at_.toNat acc ∧ Below w1.heap.size w1 wr ∧ at_ ≤ 8 * (m : Int)) (fun _ _ i _ => (N - intOf i).toNat)
      case atStart => exact ⟨0, 0, [], none, 0, by omega, by omega, rfl, rfl, by omega, rfl, IMine.nought _ _, rfl, by simpa using unhide hans, Below.refl _ _, by omega⟩
      case round =>
        obtain ⟨k, at_, acc, xo, xc, hk0, hk, rfl, rfl, hat0, rfl, hmine, hal, hans2, hbel, hat8⟩ := hrel
        have HANS := hide hans2
        have HM := hide hmine
        have HAL := hide hal
        clear hans2 hmine hal
        by_cases hlt : k < N
        · have cd := hide (decode_ref _ _ _ L ko kc _ _ _ bs at_.toNat at_ (by omega) wr ((unhide HLB).later hbel) ((unhide HK).later hbel) ((unhide HBB).later hbel) (unhide hg) (unhide HMM) (by have := unhide HMM; omega))
          obtain ⟨f, hf⟩ : ∃ f, (N - k).toNat = f + 1 := ⟨(N - k).toNat - 1, by omega⟩
          have hok := hide (dec_ok L bs at_.toNat (lng L 16) 0 0)
          have hnext := hide (show (rd L bs at_.toNat).2.2 = 0 → (r1, r2, r3) = alls L bs (N - (k + 1)).toNat (at_.toNat + (rd L bs at_.toNat).2.1.toNat) (acc ++ [(rd L bs at_.toNat).1]) from fun q => by
            rw [unhide HANS, hf, alls_ok _ _ _ _ _ q, show (N - (k + 1)).toNat = f by omega])
          have hstop := hide (show ¬ (rd L bs at_.toNat).2.2 = 0 → (r1, r2, r3) = ([], 0, (rd L bs at_.toNat).2.2) from fun q => by
            rw [unhide HANS, hf, alls_no _ _ _ _ _ q])
          clear hf
          by_cases hz : (rd L bs at_.toNat).2.2 = 0
          · obtain ⟨i, j, e1, hi1, hi2, hi3, hi4, hi5⟩ := unhide hok hz
            have e2 : rd L bs at_.toNat = ((i : Int), (j : Int), 0) := e1
            have hn2 := hide (unhide hnext hz)
            rw [e2] at cd hn2
            have hj15 : j ≤ 15 := by have := lng_le L 16; omega
            have hi320 : i ≤ 320 := by have := (unhide hg).len; omega
            have hj8 : at_ + (j : Int) ≤ 8 * (m : Int) := by rw [← unhide hblen]; omega
            have hn3 := hide (show (r1, r2, r3) = alls L bs (N - (k + 1)).toNat (at_ + (j : Int)).toNat (acc ++ [(i : Int)]) by
              have := unhide hn2
              simp only [Int.toNat_natCast] at this
              rw [this, show (at_ + (j : Int)).toNat = at_.toNat + j by omega])
            have hN9 := hide (show N ≤ 1000000000 from unhide HNN)
            have ha6 : at_ ≤ 8000000 := by have := unhide HMM; omega
            have hk9 : k < 1000000000 := by have := unhide HNN; omega
            clear e1 e2 hz hi1 hi2 hi3 hi4 hi5 hn2
            go_wp2_with fail
            refine same_world (unhide cd) ?_
            go_wp2_with (at_builtin; refine wpList_iapp rfl (.tmp 44) (.tmp 46) rfl w1.heap.size _ _ _ _ rfl ((unhide HM).later (below_alloc wr _)) _ _ _ _ rfl (Is.one wr (i : Int) (by omega) (by omega)) (by have := unhide HAL; omega) (by have := hbel.size; simp <;> omega) ?_; intro ao7 c7 w7 m7 b7)
            have b67 : Below w1.heap.size wr w7 := ((below_alloc wr _).mono hbel.size).trans b7
            go_roundw
            case rel => exact ⟨k + 1, at_ + (j : Int), acc ++ [(i : Int)], ao7, c7, by omega, by omega, by go_num, by go_num, by omega, by simp, by simpa using m7, by have := unhide HAL; simp; omega, unhide hn3, hbel.trans b67, hj8⟩
            case measure => simp [intOf]; omega
          · have hn2 := hide (unhide hstop hz)
            have hE2 : ((rd L bs at_.toNat).2.2 != 0) = true := by simpa using hz
            clear hz hok hnext hstop
            generalize rd L bs at_.toNat = RR at *
            obtain ⟨q1, q2, q3⟩ := RR
            go_wp2_with fail
            refine same_world (unhide cd) ?_
            go_wp2_with fail
            go_ret3
            have ha := unhide hn2
            simp only [Prod.mk.injEq] at ha
            obtain ⟨rfl, rfl, rfl⟩ := ha
            exact ⟨⟨_, _, _, rfl, Is.nought _⟩, b1.trans (hbel.mono z1)⟩
        · have ha := unhide HANS
          rw [show (N - k).toNat = 0 by omega] at ha
          simp only [alls, Prod.mk.injEq] at ha
          obtain ⟨h1, h2, h3⟩ := ha
          have h2' := hide (show r2 = at_ by omega)
          have h1' := hide h1
          have h3' := hide h3
          clear h1 h2 h3
          go_wp2_with fail
          go_ret3
          exact ⟨⟨_, _, _, by rw [unhide h2', unhide h3']; rfl, by rw [unhide h1']; exact (unhide HM).is⟩, b1.trans (hbel.mono z1)⟩
  · have he' : (cer L != 0) = true := by simpa using he
    have hans := hide (show (r1, r2, r3) = ([], 0, cer L) by rw [← unhide HR]; unfold alq; rw [if_neg he])
    clear he
    go_wp2_with fail
    go_ret3
    have ha := unhide hans
    simp only [Prod.mk.injEq] at ha
    obtain ⟨rfl, rfl, rfl⟩ := ha
    exact ⟨⟨_, _, _, rfl, Is.nought _⟩, b1⟩

end Go.Proofs.Ytgphglghjpeojaa
