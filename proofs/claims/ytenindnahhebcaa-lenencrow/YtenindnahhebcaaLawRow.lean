/-
  The statement on rows of numbers and texts returns true for any numbers and texts, and writes nothing that was there. Conditions: none but that the arguments can be read.
-/
import Derived.Test.YtenindnahhebcaaRowPlain
namespace Go.Proofs.Ytenindnahhebcaa
open Go.RowKit
set_option linter.unusedVariables false
set_option linter.unusedSimpArgs false

theorem onFrom_step (xs : List Int) (ss : List ByteArray) {N k : Nat} (h : k < N) : onFrom xs ss (N - k) k = pieceX xs k ++ (pieceS ss k ++ onFrom xs ss (N - (k + 1)) (k + 1)) := by
  rw [show N - k = N - (k + 1) + 1 by omega]
  rfl

theorem row_end {w : World} {ao : Option Addr} {L c : Nat} {Z U : List Int} (h : Bs w ao L c Z) (e : U = Z) : Value.slice ao L c = Value.slice ao U.length c ∧ Bs w ao U.length c U := by
  subst e; rw [h.len]; exact ⟨rfl, h⟩

set_option maxHeartbeats 8000000 in
set_option maxRecDepth 20000 in
theorem lawRow (xa : Option Addr) (xn xc : Nat) (xs : List Int) (sa : Option Addr) (sn sc : Nat) (ss : List ByteArray) (w : World) (hX : Xs w xa xn xc xs) (hS : Ss w sa sn sc ss) :
    Calls Try.prog 8 #[.slice xa xn xc, .slice sa sn sc] w fun e w' => e = .returned (.bool true) ∧ Below w.heap.size w w' := by
  have hxl := hide hX.len
  have hsl := hide hS.len
  have hx1 := hX.le
  have hx2 := hX.max
  have hs1 := hS.le
  have hs2 := hS.max
  by_cases hbig : (100 : Int) < (xn : Int)
  · have g1 : decide ((100 : Int) < (xn : Int)) = true := by simpa using hbig
    go_enter Try.func8, Try.ntmps8
    go_wp2_with (go_at_call 16; refine (lives_any _).mono ?_; rintro e w1 ⟨rfl, hb1⟩)
    go_ret
    exact ⟨rfl, hb1⟩
  · have g1 : decide ((100 : Int) < (xn : Int)) = false := by simpa using hbig
    by_cases hbig2 : (100 : Int) < (sn : Int)
    · go_enter Try.func8, Try.ntmps8
      go_wp2_with (go_at_call 16; refine (lives_any _).mono ?_; rintro e w1 ⟨rfl, hb1⟩)
      go_ret
      exact ⟨rfl, hb1⟩
    · obtain ⟨N, hN⟩ : ∃ N, N = max xn sn := ⟨_, rfl⟩
      have hN1 : xn ≤ N := by omega
      have hN2 : sn ≤ N := by omega
      have hN3 : N ≤ 100 := by omega
      have HN := hide hN
      clear hN
      have HX := hide hX
      have HS := hide hS
      clear hX hS
      go_enter Try.func8, Try.ntmps8
      go_wp2_with fail
      refine (lives_any _).mono ?_
      rintro e w1 ⟨rfl, hb1⟩
      have X1 := hide ((unhide HX).later hb1)
      have S1 := hide ((unhide HS).later hb1)
      have hz1 := hb1.size
      clear HX HS
      go_wp2_with fail
      go_loopw [5, 6] (fun v i wr => ∃ (m : Nat) (ao : Option Addr) (c : Nat), m ≤ N ∧ i = .int .i64 m ∧ v = .slice ao (upTo xs ss m).length c ∧ Bs wr ao (upTo xs ss m).length c (upTo xs ss m) ∧ Below w1.heap.size w1 wr) (fun _ i _ => N - (intOf i).toNat)
      case atStart => exact ⟨0, none, 0, Nat.zero_le _, rfl, rfl, Bs.nought _, Below.refl _ _⟩
      case round =>
        obtain ⟨m, ao, c, hm, rfl, rfl, hbs, hbel⟩ := hrel
        have hzr := hbel.size
        have hul := upTo_length xs ss m
        obtain ⟨L, hL⟩ : ∃ L, L = (upTo xs ss m).length := ⟨_, rfl⟩
        rw [← hL] at hbs hul ⊢
        have HL := hide hL
        clear hL
        have HB := hide hbs
        clear hbs
        by_cases hx : m < xn
        · obtain ⟨bx, ox, hix, hcx⟩ := ((unhide X1).later hbel).idx hx
          have hfit := (unhide X1).fit m
          obtain ⟨x, hxe⟩ : ∃ x, x = xs.getD m 0 := ⟨_, rfl⟩
          rw [← hxe] at hcx hfit
          have HXE := hide hxe
          clear hxe
          obtain ⟨hf0, hf1⟩ := hfit
          have HF1 := hide hf1
          clear hf1
          have gx : decide ((m : Int) < (xn : Int)) = true := by simp; omega
          go_wp2_with fail
          refine (appendInt_any _ _ _ _ _ _ (unhide HB) hf0 (unhide HF1) (by omega)).mono ?_
          rintro e w2 ⟨ao2, c2, rfl, hm2, hb2⟩
          have hfx := form_length_le x
          have hbel2 : Below w1.heap.size w1 w2 := hbel.trans (hb2.mono hzr)
          have hz2 := hbel2.size
          have HM2 := hide hm2.bs
          clear hm2 hb2
          have hm1 := hide (show m + 1 ≤ N by omega)
          by_cases hs : m < sn
          · obtain ⟨bq, oq, hiq, hcq⟩ := ((unhide S1).later hbel2).idx hs
            have hfs := (unhide S1).fit m
            obtain ⟨s, hse⟩ : ∃ s, s = ss.getD m ByteArray.empty := ⟨_, rfl⟩
            rw [← hse] at hcq hfs
            have HSE := hide hse
            clear hse
            have gs : decide ((m : Int) < (sn : Int)) = true := by simp; omega
            by_cases h5 : (s.size : Int) ≤ 5000
            · have hfl := form_length_le (s.size : Int)
              have heq : upTo xs ss (m + 1) = upTo xs ss m ++ form x ++ form (s.size : Int) ++ nums s := by
                simp only [upTo]
                rw [pieceX_yes (by rw [unhide hxl]; exact hx), ← unhide HXE, pieceS_yes (by rw [unhide hsl]; exact hs) (by rw [← unhide HSE]; omega), ← unhide HSE]
                simp
              have HEQ := hide heq
              clear heq
              go_wp2_with fail
              refine (appendText_any _ _ _ _ _ _ (unhide HM2) (by omega)).mono ?_
              rintro e w3 ⟨ao3, c3, rfl, hm3, hb3⟩
              have hend := row_end hm3.bs (unhide HEQ)
              have hbel3 : Below w1.heap.size w1 w3 := Below.trans hbel2 (hb3.mono (by omega))
              clear hm3 hb3
              have HE := hide hend
              clear hend
              go_wp2_with fail
              go_roundw
              case rel => exact ⟨m + 1, ao3, c3, unhide hm1, by go_num, (unhide HE).1, (unhide HE).2, hbel3⟩
              case measure => simp [intOf]; omega
            · have g5 : decide ((s.size : Int) ≤ 5000) = false := by simp; omega
              have heq : upTo xs ss (m + 1) = upTo xs ss m ++ form x := by
                simp only [upTo]
                rw [pieceX_yes (by rw [unhide hxl]; exact hx), ← unhide HXE, pieceS_no (by rw [← unhide HSE]; omega)]
                simp
              have hend := row_end (unhide HM2) heq
              have HE := hide hend
              clear hend heq
              go_wp2_with fail
              go_roundw
              case rel => exact ⟨m + 1, _, _, unhide hm1, by go_num, (unhide HE).1, (unhide HE).2, hbel2⟩
              case measure => simp [intOf]; omega
          · have gs : decide ((m : Int) < (sn : Int)) = false := by simp; omega
            have heq : upTo xs ss (m + 1) = upTo xs ss m ++ form x := by
              simp only [upTo]
              rw [pieceX_yes (by rw [unhide hxl]; exact hx), ← unhide HXE, pieceS_no (by rw [unhide hsl]; omega)]
              simp
            have hend := row_end (unhide HM2) heq
            have HE := hide hend
            clear hend heq
            go_wp2_with fail
            go_roundw
            case rel => exact ⟨m + 1, _, _, unhide hm1, by go_num, (unhide HE).1, (unhide HE).2, hbel2⟩
            case measure => simp [intOf]; omega
        · have gx : decide ((m : Int) < (xn : Int)) = false := by simp; omega
          by_cases hs : m < sn
          · have hm1 := hide (show m + 1 ≤ N by omega)
            obtain ⟨bq, oq, hiq, hcq⟩ := ((unhide S1).later hbel).idx hs
            have hfs := (unhide S1).fit m
            obtain ⟨s, hse⟩ : ∃ s, s = ss.getD m ByteArray.empty := ⟨_, rfl⟩
            rw [← hse] at hcq hfs
            have HSE := hide hse
            clear hse
            have gs : decide ((m : Int) < (sn : Int)) = true := by simp; omega
            by_cases h5 : (s.size : Int) ≤ 5000
            · have hfl := form_length_le (s.size : Int)
              have heq : upTo xs ss (m + 1) = upTo xs ss m ++ form (s.size : Int) ++ nums s := by
                simp only [upTo]
                rw [pieceX_no (by rw [unhide hxl]; exact hx), List.append_nil, pieceS_yes (by rw [unhide hsl]; exact hs) (by rw [← unhide HSE]; omega), ← unhide HSE]
                simp
              have HEQ := hide heq
              clear heq
              go_wp2_with fail
              refine (appendText_any _ _ _ _ _ _ (unhide HB) (by omega)).mono ?_
              rintro e w3 ⟨ao3, c3, rfl, hm3, hb3⟩
              have hend := row_end hm3.bs (unhide HEQ)
              have hbel3 : Below w1.heap.size w1 w3 := Below.trans hbel (hb3.mono (by omega))
              clear hm3 hb3
              have HE := hide hend
              clear hend
              go_wp2_with fail
              go_roundw
              case rel => exact ⟨m + 1, ao3, c3, unhide hm1, by go_num, (unhide HE).1, (unhide HE).2, hbel3⟩
              case measure => simp [intOf]; omega
            · have g5 : decide ((s.size : Int) ≤ 5000) = false := by simp; omega
              have heq : upTo xs ss (m + 1) = upTo xs ss m := by
                simp only [upTo]
                rw [pieceX_no (by rw [unhide hxl]; exact hx), List.append_nil, pieceS_no (by rw [← unhide HSE]; omega)]
                simp
              have hend := row_end (unhide HB) heq
              have HE := hide hend
              clear hend heq
              go_wp2_with fail
              go_roundw
              case rel => exact ⟨m + 1, _, _, unhide hm1, by go_num, (unhide HE).1, (unhide HE).2, hbel⟩
              case measure => simp [intOf]; omega
          · have gs : decide ((m : Int) < (sn : Int)) = false := by simp; omega
            have hmN : m = N := by have := unhide HN; omega
            have HB2 := unhide HB
            rw [hmN, ← Nat.zero_add N, ← upTo_onFrom xs ss N 0] at HB2
            have HB3 : Bs wr ao L c (onFrom xs ss (N - 0) 0) := HB2
            have HB4 := hide (row_end HB3 rfl)
            have Xr := hide ((unhide X1).later hbel)
            have Sr := hide ((unhide S1).later hbel)
            have hbelr : Below w.heap.size w wr := hb1.trans (hbel.mono hz1)
            clear HB2 HB3 HB hmN HL
            go_wp2_with fail
            go_loop [5, 7] (fun v i => ∃ (k : Nat) (bo : Option Addr) (bc : Nat), k ≤ N ∧ i = .int .i64 k ∧ v = .slice bo (onFrom xs ss (N - k) k).length bc ∧ Bs wr bo (onFrom xs ss (N - k) k).length bc (onFrom xs ss (N - k) k)) (fun _ i => N - (intOf i).toNat)
            case atStart => exact ⟨0, ao, c, Nat.zero_le _, rfl, (unhide HB4).1, (unhide HB4).2⟩
            case round =>
              clear HB4
              obtain ⟨k, bo, bc, hk, rfl, rfl, hbt⟩ := hrel
              have hTmax := hbt.max
              have hTle := hbt.le
              obtain ⟨T, hT⟩ : ∃ T, T = (onFrom xs ss (N - k) k).length := ⟨_, rfl⟩
              rw [← hT] at hbt hTle ⊢
              have HTe := hide hT
              have HT := hide hbt
              clear hT hbt
              by_cases hx2 : k < xn
              · have hkN : k < N := by omega
                have hk1 := hide (show k + 1 ≤ N by omega)
                obtain ⟨bx, ox, hix, hcx⟩ := (unhide Xr).idx hx2
                have hfit := (unhide X1).fit k
                obtain ⟨x, hxe⟩ : ∃ x, x = xs.getD k 0 := ⟨_, rfl⟩
                rw [← hxe] at hcx hfit
                have hT1 := unhide HT
                rw [onFrom_step xs ss hkN, pieceX_yes (by rw [unhide hxl]; exact hx2), ← hxe] at hT1
                have cR := readInt_any _ _ _ _ _ hT1
                rw [readInt_form x hfit.1 hfit.2] at cR
                have hFl := form_len x
                have hFl9 := form_length_le x
                have hTl := hT1.len
                rw [List.length_append] at hTl
                obtain ⟨F, hF⟩ : ∃ F, F = (form x).length := ⟨_, rfl⟩
                rw [← hF] at cR hFl hFl9 hTl
                obtain ⟨ao1, c1, hcut1, hbs1⟩ := hT1.cut_l (lo := F) (by omega) (F : Int) rfl
                rw [hF, List.drop_left, ← hF] at hbs1
                obtain ⟨L1, hL1⟩ : ∃ L1, L1 = T - F := ⟨_, rfl⟩
                rw [← hL1] at hcut1 hbs1
                have HL1 := hide hL1
                clear hL1
                have gx : decide ((k : Int) < (xn : Int)) = true := by simp; omega
                have gF1 : decide ((F : Int) < 1) = false := by simp; omega
                have gF2 : decide ((T : Int) < (F : Int)) = false := by simp; omega
                have gF3 : (F : Int) ≤ (T : Int) := by omega
                have hL1max := hbs1.max
                have hL1le := hbs1.le
                have CR := hide cR
                have HS1 := hide hbs1
                clear cR hbs1 hT1 hF hFl hFl9 hTl hfit hxe
                go_wp2_with fail
                refine same_world (unhide CR) ?_
                by_cases hs : k < sn
                · obtain ⟨bq, oq, hiq, hcq⟩ := (unhide Sr).idx hs
                  have hfs := (unhide S1).fit k
                  obtain ⟨s, hse⟩ : ∃ s, s = ss.getD k ByteArray.empty := ⟨_, rfl⟩
                  rw [← hse] at hcq hfs
                  have HSE := hide hse
                  clear hse
                  have gs : decide ((k : Int) < (sn : Int)) = true := by simp; omega
                  by_cases h5 : (s.size : Int) ≤ 5000
                  · have hfl := form_length_le (s.size : Int)
                    have hfp := form_len (s.size : Int)
                    have hps := pieceS_yes (by rw [unhide hsl]; exact hs) (show (ss.getD k ByteArray.empty).size ≤ 5000 by rw [← unhide HSE]; omega)
                    rw [← unhide HSE] at hps
                    have hcur := unhide HS1
                    rw [hps] at hcur
                    have hrt := readText_back s (by omega) (onFrom xs ss (N - (k + 1)) (k + 1))
                    have hln := hcur.len
                    simp only [List.length_append, nums_length] at hln
                    have cT := readText_any _ _ _ _ _ hcur
                    rw [hrt] at cT
                    obtain ⟨M, hM⟩ : ∃ M, M = (form (s.size : Int)).length + s.size := ⟨_, rfl⟩
                    have hMc : ((form (s.size : Int)).length : Int) + (s.size : Int) = (M : Int) := by omega
                    rw [hMc] at cT
                    obtain ⟨ao4, c4, hcut4, hbs4⟩ := hcur.cut_l (lo := M) (by omega) (M : Int) rfl
                    have hd4 : (form (s.size : Int) ++ nums s ++ onFrom xs ss (N - (k + 1)) (k + 1)).drop M = onFrom xs ss (N - (k + 1)) (k + 1) := by
                      have : M = (form (s.size : Int) ++ nums s).length := by simp [nums_length, hM]
                      rw [this, List.drop_left]
                    rw [hd4] at hbs4
                    have HE := hide (row_end hbs4 rfl)
                    have gM1 : decide ((M : Int) < 1) = false := by simp; omega
                    have gM2 : decide ((L1 : Int) < (M : Int)) = false := by simp; omega
                    have gM3 : (M : Int) ≤ (L1 : Int) := by omega
                    have hst := str_self s
                    have CT := hide cT
                    clear cT hcur hps hrt hln hM hMc hd4 hbs4 hfl hfp
                    go_wp2_with fail
                    refine same_world (unhide CT) ?_
                    go_wp2_with fail
                    go_round
                    case rel => exact ⟨k + 1, ao4, c4, unhide hk1, by go_num, (unhide HE).1, (unhide HE).2⟩
                    case measure => simp [intOf]; omega
                  · have g5 : decide ((s.size : Int) ≤ 5000) = false := by simp; omega
                    have hcur := unhide HS1
                    rw [pieceS_no (by rw [← unhide HSE]; omega), List.nil_append] at hcur
                    have HE := hide (row_end hcur rfl)
                    clear hcur
                    go_wp2_with fail
                    go_round
                    case rel => exact ⟨k + 1, _, _, unhide hk1, by go_num, (unhide HE).1, (unhide HE).2⟩
                    case measure => simp [intOf]; omega
                · have gs : decide ((k : Int) < (sn : Int)) = false := by simp; omega
                  have hcur := unhide HS1
                  rw [pieceS_no (by rw [unhide hsl]; omega), List.nil_append] at hcur
                  have HE := hide (row_end hcur rfl)
                  clear hcur
                  go_wp2_with fail
                  go_round
                  case rel => exact ⟨k + 1, _, _, unhide hk1, by go_num, (unhide HE).1, (unhide HE).2⟩
                  case measure => simp [intOf]; omega
              · have gx : decide ((k : Int) < (xn : Int)) = false := by simp; omega
                by_cases hs : k < sn
                · have hkN : k < N := by omega
                  have hk1 := hide (show k + 1 ≤ N by omega)
                  have HT1 := hide (show Bs wr bo T bc (pieceS ss k ++ onFrom xs ss (N - (k + 1)) (k + 1)) from by
                    have := unhide HT
                    rw [onFrom_step xs ss hkN, pieceX_no (by rw [unhide hxl]; exact hx2), List.nil_append] at this
                    exact this)
                  obtain ⟨bq, oq, hiq, hcq⟩ := (unhide Sr).idx hs
                  have hfs := (unhide S1).fit k
                  obtain ⟨s, hse⟩ : ∃ s, s = ss.getD k ByteArray.empty := ⟨_, rfl⟩
                  rw [← hse] at hcq hfs
                  have HSE := hide hse
                  clear hse
                  have gs : decide ((k : Int) < (sn : Int)) = true := by simp; omega
                  by_cases h5 : (s.size : Int) ≤ 5000
                  · have hfl := form_length_le (s.size : Int)
                    have hfp := form_len (s.size : Int)
                    have hps := pieceS_yes (by rw [unhide hsl]; exact hs) (show (ss.getD k ByteArray.empty).size ≤ 5000 by rw [← unhide HSE]; omega)
                    rw [← unhide HSE] at hps
                    have hcur := unhide HT1
                    rw [hps] at hcur
                    have hrt := readText_back s (by omega) (onFrom xs ss (N - (k + 1)) (k + 1))
                    have hln := hcur.len
                    simp only [List.length_append, nums_length] at hln
                    have cT := readText_any _ _ _ _ _ hcur
                    rw [hrt] at cT
                    obtain ⟨M, hM⟩ : ∃ M, M = (form (s.size : Int)).length + s.size := ⟨_, rfl⟩
                    have hMc : ((form (s.size : Int)).length : Int) + (s.size : Int) = (M : Int) := by omega
                    rw [hMc] at cT
                    obtain ⟨ao4, c4, hcut4, hbs4⟩ := hcur.cut_l (lo := M) (by omega) (M : Int) rfl
                    have hd4 : (form (s.size : Int) ++ nums s ++ onFrom xs ss (N - (k + 1)) (k + 1)).drop M = onFrom xs ss (N - (k + 1)) (k + 1) := by
                      have : M = (form (s.size : Int) ++ nums s).length := by simp [nums_length, hM]
                      rw [this, List.drop_left]
                    rw [hd4] at hbs4
                    have HE := hide (row_end hbs4 rfl)
                    have gM1 : decide ((M : Int) < 1) = false := by simp; omega
                    have gM2 : decide ((T : Int) < (M : Int)) = false := by simp; omega
                    have gM3 : (M : Int) ≤ (T : Int) := by omega
                    have hst := str_self s
                    have CT := hide cT
                    clear cT hcur hps hrt hln hM hMc hd4 hbs4 hfl hfp
                    go_wp2_with fail
                    refine same_world (unhide CT) ?_
                    go_wp2_with fail
                    go_round
                    case rel => exact ⟨k + 1, ao4, c4, unhide hk1, by go_num, (unhide HE).1, (unhide HE).2⟩
                    case measure => simp [intOf]; omega
                  · have g5 : decide ((s.size : Int) ≤ 5000) = false := by simp; omega
                    have hcur := unhide HT1
                    rw [pieceS_no (by rw [← unhide HSE]; omega), List.nil_append] at hcur
                    have HE := hide (row_end hcur rfl)
                    clear hcur
                    go_wp2_with fail
                    go_round
                    case rel => exact ⟨k + 1, _, _, unhide hk1, by go_num, (unhide HE).1, (unhide HE).2⟩
                    case measure => simp [intOf]; omega
                · have gs : decide ((k : Int) < (sn : Int)) = false := by simp; omega
                  have hkN : k = N := by have := unhide HN; omega
                  have hT0 : T = 0 := by
                    rw [unhide HTe, hkN, Nat.sub_self]; rfl
                  subst hT0
                  clear hkN
                  go_wp2_with fail
                  go_ret
                  exact ⟨rfl, hbelr⟩

end Go.Proofs.Ytenindnahhebcaa
