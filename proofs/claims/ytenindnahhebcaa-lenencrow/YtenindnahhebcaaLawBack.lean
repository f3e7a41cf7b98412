/-
  The statement that what was written is read back returns true for any number, any text and any bytes behind them, and writes nothing that was there. Conditions: none but that the arguments can be read.
-/
import Derived.Test.YtenindnahhebcaaLawTexts
namespace Go.Proofs.Ytenindnahhebcaa
open Go.RowKit
set_option linter.unusedVariables false
set_option linter.unusedSimpArgs false

theorem readText_back (s : ByteArray) (hs : s.size < 1000000000000) (r : List Int) : readText (form s.size ++ nums s ++ r) = (s, ((form s.size).length : Int) + (s.size : Int), 0) := by
  have h1 := readInt_form (s.size : Int) (by omega) (by omega) (nums s ++ r)
  rw [← List.append_assoc] at h1
  have hn := nums_length s
  rw [readText_long h1 (by simp [hn]; omega), Int.toNat_natCast, Int.toNat_natCast]
  have e : ((form s.size ++ nums s ++ r).drop (form s.size).length).take s.size = nums s := by
    rw [List.append_assoc, List.drop_left, ← hn, List.take_left]
  rw [e, str_nums]

theorem readEnded_back (s : ByteArray) (hz : idx0 (nums s) < 0) (r : List Int) : readEnded (nums s ++ [0] ++ r) = (s, (s.size : Int) + 1, 0) := by
  have hn := nums_length s
  have h0 := idx0_neg.1 hz
  have hnz : NoZero (nums s ++ [0] ++ r) s.size := by
    intro j hj
    rw [List.append_assoc, List.getD_eq_getElem?_getD, List.getElem?_append_left (by omega), List.getElem?_eq_getElem (by omega), Option.getD_some]
    intro hq
    exact h0 (hq ▸ List.getElem_mem (by omega))
  rw [readEnded_found hnz (by simp; omega) (by rw [List.append_assoc, List.getD_eq_getElem?_getD, List.getElem?_append_right (by omega), hn]; simp)]
  rw [List.append_assoc, ← hn, List.take_left, str_nums]

/-- A text is itself. -/
theorem str_self (s : ByteArray) : (s.toList == s.toList) = true := by simp

set_option maxHeartbeats 4000000 in
theorem lawBack (x : Int) (s : ByteArray) (ao : Option Addr) (n c : Nat) (bs : List Int) (w : World) (hx0 : 0 ≤ x) (hx1 : x < 18446744073709551616) (hsz : s.size ≤ 9223372036854775807) (h : Bs w ao n c bs) :
    Calls Try.prog 6 #[.int .u64 x, .string s, .slice ao n c] w fun e w' => e = .returned (.bool true) ∧ Below w.heap.size w w' := by
  have hlen := hide h.len
  have hmax := h.max
  have hle := h.le
  have HX := hide hx1
  clear hx1
  by_cases hbig : (5000 : Int) < (s.size : Int)
  · have g1 : decide ((5000 : Int) < (s.size : Int)) = true := by simpa using hbig
    go_enter Try.func6, Try.ntmps6
    go_wp2_with (go_at_call 16; refine (lives_any _).mono ?_; rintro e w1 ⟨rfl, hb1⟩)
    go_ret
    exact ⟨rfl, hb1⟩
  · have g1 : decide ((5000 : Int) < (s.size : Int)) = false := by simpa using hbig
    by_cases hbig2 : (5000 : Int) < (n : Int)
    · go_enter Try.func6, Try.ntmps6
      go_wp2_with (go_at_call 16; refine (lives_any _).mono ?_; rintro e w1 ⟨rfl, hb1⟩)
      go_ret
      exact ⟨rfl, hb1⟩
    · have hl := form_length_le x
      have r1 := hide (readInt_form x hx0 (unhide HX) bs)
      have r2 := hide (fun i hi => readInt_part x i hi)
      obtain ⟨L, hL⟩ : ∃ L, L = (form x).length := ⟨_, rfl⟩
      rw [← hL] at hl r1 r2
      have HL := hide hL
      have hls := form_length_le (s.size : Int)
      have r3 := hide (readText_back s (by omega) bs)
      obtain ⟨M, hM⟩ : ∃ M, M = (form (s.size : Int)).length := ⟨_, rfl⟩
      rw [← hM] at hls r3
      have HM := hide hM
      clear hL hM
      have H := hide h
      clear h
      go_enter Try.func6, Try.ntmps6
      go_wp2_with fail
      refine (lives_any _).mono ?_
      rintro e w1 ⟨rfl, hb1⟩
      have h1 := hide ((unhide H).later hb1)
      have hz1 := hb1.size
      go_wp2_with fail
      refine (appendInt_any _ _ _ _ _ _ (Bs.nought _) hx0 (unhide HX) (by omega)).mono ?_
      rw [List.nil_append, ← unhide HL, Nat.zero_add]
      rintro e w2 ⟨ao2, c2, rfl, hm2, hb2⟩
      have h2 := hide ((unhide h1).later hb2)
      have hz2 := hb2.size
      go_wp2_with fail
      have cc := size_any x w2 hx0 (unhide HX)
      rw [← unhide HL] at cc
      refine same_world cc ?_
      clear cc
      have hb3 := below_alloc w2 (.cells #[] 5)
      have k3 := hm2.bs.later hb3
      have h3 := (unhide h2).later hb3
      have m3 := Mine.empty w2
      go_wp2_with (first
        | (at_builtin; refine wpList_app rfl (.tmp 38) (.tmp 39) rfl w2.heap.size _ _ _ _ rfl m3 _ _ _ _ rfl k3 (by omega) (by simp) ?_; intro ao4 c4 w4 hm4 hb4; rw [Nat.zero_add, List.nil_append] at hm4; have hz4 := hb4.size)
        | (at_builtin; refine wpList_app rfl (.tmp 40) (.tmp 41) rfl w2.heap.size _ _ _ _ rfl hm4 _ _ _ _ rfl ((unhide h2).later (hb3.trans hb4)) (by omega) (by simp at hz4; omega) ?_; intro ao5 c5 w5 hm5 hb5))
      have hz5 := hb5.size
      have hb25 : Below w2.heap.size w2 w5 := (hb3.trans hb4).trans hb5
      have cc := readInt_any _ _ _ _ _ hm5.bs
      rw [unhide r1] at cc
      refine same_world cc ?_
      have hz25 := hb25.size
      have h5 := hide ((unhide h2).later hb25)
      have k5 := hide (hm2.bs.later hb25)
      clear cc hm4 hm5 hb3 hb4 hb5 k3 h3 m3 hm2 hz4 hz5
      go_wp2_with fail
      go_loop [10, 11] (fun e i => ∃ m : Nat, m ≤ L ∧ i = .int .i64 m ∧ ∃ q : Int, e = .int .i64 q) (fun _ i => L - (intOf i).toNat)
      case atStart => exact ⟨0, Nat.zero_le _, rfl, 0, rfl⟩
      case round =>
        obtain ⟨m, hm, rfl, q, rfl⟩ := hrel
        by_cases hlt : m < L
        · obtain ⟨ao', c', hsl, hbs⟩ := (unhide k5).cut_h (hi := m) (by omega) m rfl
          have r2m := unhide r2 m hlt
          obtain ⟨y, z, er, hr⟩ : ∃ y z er, readInt (List.take m (form x)) = (y, z, er) := ⟨_, _, _, rfl⟩
          rw [hr] at r2m
          simp only at r2m
          subst r2m
          have cc := hide (readInt_any _ _ _ _ _ hbs)
          rw [hr] at cc
          clear hr hbs
          go_wp2_with (go_at_call 11; refine same_world (unhide cc) ?_)
          go_round
          case rel => exact ⟨m + 1, by omega, by go_num, 4, rfl⟩
          case measure => simp [intOf]; omega
        · go_wp2_with fail
          refine (appendText_any _ _ _ _ _ _ (Bs.nought _) (by omega)).mono ?_
          rw [List.nil_append, ← unhide HM, Nat.zero_add]
          rintro e w6 ⟨ao6, c6, rfl, hm6, hb6⟩
          have h6 := hide ((unhide h5).later hb6)
          have hz6 := hb6.size
          go_wp2_with (at_builtin; refine wpList_app rfl (.tmp 78) (.tmp 79) rfl w5.heap.size _ _ _ _ rfl hm6 _ _ _ _ rfl (unhide h6) (by omega) hz6 ?_; intro ao7 c7 w7 hm7 hb7)
          have cc := readText_any _ _ _ _ _ hm7.bs
          rw [unhide r3] at cc
          refine same_world cc ?_
          have hb67 : Below w5.heap.size w5 w7 := hb6.trans hb7
          have hz67 := hb67.size
          have h7 := hide ((unhide h5).later hb67)
          have hbel7 : Below w.heap.size w w7 := ((hb1.trans (hb2.mono hz1)).trans (hb25.mono (by omega))).trans (hb67.mono (by omega))
          have hst := str_self s
          have cSz := hide (size_any (s.size : Int) w7 (by omega) (by omega))
          rw [← unhide HM] at cSz
          clear cc hm6 hm7 hb6 hb7 hb25
          by_cases hz : idx0 (nums s) < 0
          · have r4 := hide (readEnded_back s hz bs)
            go_wp2_with fail
            refine (appendEnded_ok _ _ _ _ _ _ (Bs.nought _) (by omega) hz).mono ?_
            rw [List.nil_append, Nat.zero_add]
            rintro e w8 ⟨ao8, c8, rfl, hm8, hb8⟩
            have h8 := hide ((unhide h7).later hb8)
            have hz8 := hb8.size
            have HZ := hide hz
            clear hz
            have cSz8 := hide (size_any (s.size : Int) w8 (by omega) (by omega))
            rw [← unhide HM] at cSz8
            go_wp2_with fail
            refine same_world (unhide cSz8) ?_
            go_wp2_with (at_builtin; refine wpList_app rfl (.tmp 111) (.tmp 112) rfl w7.heap.size _ _ _ _ rfl hm8 _ _ _ _ rfl (unhide h8) (by omega) hz8 ?_; intro ao9 c9 w9 hm9 hb9)
            have cc := readEnded_any _ _ _ _ _ hm9.bs
            rw [unhide r4] at cc
            refine same_world cc ?_
            go_wp2_with fail
            go_ret
            exact ⟨rfl, (hbel7.trans (hb8.mono (by omega))).trans (hb9.mono (by omega))⟩
          · go_wp2_with fail
            refine same_world (appendEnded_bad _ _ _ _ _ (by omega)) ?_
            clear hz
            go_wp2_with fail
            refine same_world (unhide cSz) ?_
            go_wp2_with fail
            go_ret
            exact ⟨rfl, hbel7⟩

end Go.Proofs.Ytenindnahhebcaa
