/-
  The statement on texts returns true for any bytes and any text, and writes nothing that was there. Conditions: none but that the arguments can be read.
-/
import Derived.Test.YtenindnahhebcaaLawNumbers
namespace Go.Proofs.Ytenindnahhebcaa
open Go.RowKit
set_option linter.unusedVariables false
set_option linter.unusedSimpArgs false

/-- What AppendEnded returns: the bytes, the error. -/
def endedRes (bs : List Int) (s : ByteArray) : List Int × Int := if idx0 (nums s) < 0 then (bs ++ nums s ++ [0], 0) else ([], 2)

theorem appendEnded_all (ao : Option Addr) (n c : Nat) (bs : List Int) (s : ByteArray) (w : World) (h : Bs w ao n c bs) (hbound : (n : Int) + (s.size : Int) + 9 ≤ 140737488355328) :
    Calls Try.prog 15 #[.slice ao n c, .string s] w fun e w' => ∃ ao' n' c', e = .returned (.tuple #[.slice ao' n' c', .int .i64 (endedRes bs s).2]) ∧ Bs w' ao' n' c' (endedRes bs s).1 ∧ Below w.heap.size w w' := by
  unfold endedRes
  by_cases hk : idx0 (nums s) < 0
  · rw [if_pos hk]
    refine (appendEnded_ok ao n c bs s w h hbound hk).mono ?_
    rintro e w' ⟨ao', c', rfl, hm, hb⟩
    exact ⟨ao', _, c', rfl, hm.bs, hb⟩
  · rw [if_neg hk]
    refine (appendEnded_bad ao n c s w hk).mono ?_
    rintro e w' ⟨rfl, rfl⟩
    exact ⟨none, 0, 0, rfl, Bs.nought _, Below.refl _ _⟩

theorem appendEnded_allref (ao : Option Addr) (n c : Nat) (bs : List Int) (s : ByteArray) (w : World) (h : Bs w ao n c bs) (hbound : (n : Int) + (s.size : Int) + 9 ≤ 140737488355328) :
    Calls Try.prog 25 #[.slice ao n c, .string s] w fun e w' => ∃ ao' n' c', e = .returned (.tuple #[.slice ao' n' c', .int .i64 (endedRes bs s).2]) ∧ Bs w' ao' n' c' (endedRes bs s).1 ∧ Below w.heap.size w w' := by
  unfold endedRes
  by_cases hk : idx0 (nums s) < 0
  · rw [if_pos hk]
    refine (appendEnded_refok ao n c bs s w h hbound hk).mono ?_
    rintro e w' ⟨ao', c', rfl, hm, hb⟩
    exact ⟨ao', _, c', rfl, hm.bs, hb⟩
  · rw [if_neg hk]
    refine (appendEnded_refbad ao n c s w (by omega) hk).mono ?_
    rintro e w' ⟨rfl, rfl⟩
    exact ⟨none, 0, 0, rfl, Bs.nought _, Below.refl _ _⟩

/-- A call that leaves the world as it was. -/
theorem same_world {P : Program} {f : Nat} {args : Array Value} {w : World} {e0 : Ending} {Q : Ending → World → Prop} (h : Calls P f args w fun e w' => e = e0 ∧ w' = w) (hq : Q e0 w) : Calls P f args w Q := by
  refine h.mono ?_
  rintro e w' ⟨rfl, rfl⟩
  exact hq

set_option maxHeartbeats 2000000 in
theorem lawTexts (ao : Option Addr) (n c : Nat) (bs : List Int) (s : ByteArray) (w : World) (h : Bs w ao n c bs) (hsz : s.size ≤ 9223372036854775807) :
    Calls Try.prog 5 #[.slice ao n c, .string s] w fun e w' => e = .returned (.bool true) ∧ Below w.heap.size w w' := by
  have hlen := hide h.len
  have hmax := h.max
  have hle := h.le
  by_cases hbig : (5000 : Int) < (n : Int)
  · have g1 : decide ((5000 : Int) < (n : Int)) = true := by simpa using hbig
    go_enter Try.func5, Try.ntmps5
    go_wp2_with (go_at_call 16; refine (lives_any _).mono ?_; rintro e w1 ⟨rfl, hb1⟩)
    go_ret
    exact ⟨rfl, hb1⟩
  · have g1 : decide ((5000 : Int) < (n : Int)) = false := by simpa using hbig
    by_cases hbig2 : (5000 : Int) < (s.size : Int)
    · go_enter Try.func5, Try.ntmps5
      go_wp2_with (go_at_call 16; refine (lives_any _).mono ?_; rintro e w1 ⟨rfl, hb1⟩)
      go_ret
      exact ⟨rfl, hb1⟩
    · obtain ⟨fo, fe, hfx⟩ : ∃ fo fe, endedRes bs s = (fo, fe) := ⟨_, _, rfl⟩
      obtain ⟨t, q, te, ht⟩ : ∃ t q te, readText bs = (t, q, te) := ⟨_, _, _, rfl⟩
      obtain ⟨u, m, ue, hu⟩ : ∃ u m ue, readEnded bs = (u, m, ue) := ⟨_, _, _, rfl⟩
      have HFX := hide hfx
      have HT := hide ht
      have HU := hide hu
      have hl := hide (form_length_le (s.size : Int))
      clear hfx ht hu
      have H := hide h
      clear h
      go_enter Try.func5, Try.ntmps5
      go_wp2_with fail
      refine (lives_any _).mono ?_
      rintro e w1 ⟨rfl, hb1⟩
      have h1 := hide ((unhide H).later hb1)
      have hz1 := hb1.size
      go_wp2_with fail
      refine (own_any _ _ _ _ _ (unhide h1) (by omega)).mono ?_
      rintro e w2 ⟨g, rfl, hown2, hb2⟩
      have h2 := hide ((unhide h1).later hb2)
      have hz2 := hb2.size
      go_wp2_with fail
      refine (appendEnded_all _ _ _ _ _ _ (hown2.pre (unhide hlen)) (by omega)).mono ?_
      rw [unhide HFX]
      rintro e w3 ⟨ao3, n3, c3, rfl, hbs3, hb3⟩
      have h3 := hide ((unhide h2).later hb3)
      have hown3 := hide (hown2.later hb3)
      have hz3 := hb3.size
      clear hown2
      go_wp2_with fail
      refine (appendEnded_allref _ _ _ _ _ _ (unhide h3) (by omega)).mono ?_
      rw [unhide HFX]
      rintro e w4 ⟨ao4, n4, c4, rfl, hbs4, hb4⟩
      have h4 := hide ((unhide h3).later hb4)
      have hown4 := hide ((unhide hown3).later hb4)
      have hbs34 := hide (hbs3.later hb4)
      have HB4 := hide hbs4
      have hz4 := hb4.size
      clear hbs3 hown3 hbs4
      go_wp2_with fail
      refine (appendText_any _ _ _ _ _ _ ((unhide hown4).pre (unhide hlen)) (by omega)).mono ?_
      rintro e w5 ⟨ao5, c5, rfl, hm5, hb5⟩
      have h5 := hide ((unhide h4).later hb5)
      have hown5 := hide ((unhide hown4).later hb5)
      have hz5 := hb5.size
      go_wp2_with fail
      refine (appendText_ref _ _ _ _ _ _ (unhide h5) (by omega)).mono ?_
      rintro e w6 ⟨ao6, c6, rfl, hm6, hb6⟩
      have h6 := hide ((unhide h5).later hb6)
      have hown6 := hide ((unhide hown5).later hb6)
      have hz6 := hb6.size
      go_wp2_with fail
      have cc := sameBytes_any _ _ _ _ _ _ _ _ _ (hm5.bs.later hb6) hm6.bs
      rw [dec_self] at cc
      refine same_world cc ?_
      clear cc hm5 hm6
      go_wp2_with fail
      refine (appendInt_any _ _ _ _ _ _ ((unhide hown6).pre (unhide hlen)) (by omega) (by omega) (by omega)).mono ?_
      rintro e w7 ⟨ao7, c7, rfl, hm7, hb7⟩
      have h7 := hide ((unhide h6).later hb7)
      have hown7 := hide ((unhide hown6).later hb7)
      have hz7 := hb7.size
      go_wp2_with fail
      refine (appendInt_ref _ _ _ _ _ _ (unhide h7) (by omega) (by omega) (by omega)).mono ?_
      rintro e w8 ⟨ao8, c8, rfl, hm8, hb8⟩
      have h8 := hide ((unhide h7).later hb8)
      have hown8 := hide ((unhide hown7).later hb8)
      have hbs38 := hide ((((((unhide hbs34).later hb5).later hb6).later hb7).later hb8))
      have hbs48 := hide ((((((unhide HB4).later hb5).later hb6).later hb7).later hb8))
      have hz8 := hb8.size
      go_wp2_with fail
      have cc := sameBytes_any _ _ _ _ _ _ _ _ _ (hm7.bs.later hb8) hm8.bs
      rw [dec_self] at cc
      refine same_world cc ?_
      clear cc hm7 hm8
      go_wp2_with fail
      refine same_world (kept_any _ _ _ _ _ _ (unhide hown8) (unhide h8) (by omega)) ?_
      go_wp2_with fail
      have cc := readText_any _ _ _ _ _ (unhide h8)
      rw [unhide HT] at cc
      refine same_world cc ?_
      clear cc
      go_wp2_with fail
      have cc := readText_ref _ _ _ _ _ (unhide h8)
      rw [unhide HT] at cc
      refine same_world cc ?_
      clear cc
      go_wp2_with fail
      have cc := sameBytes_any _ _ _ _ _ _ _ _ _ (unhide hbs38) (unhide hbs48)
      rw [dec_self] at cc
      refine same_world cc ?_
      clear cc
      go_wp2_with fail
      have cc := readEnded_any _ _ _ _ _ (unhide h8)
      rw [unhide HU] at cc
      refine same_world cc ?_
      clear cc
      go_wp2_with fail
      have cc := readEnded_ref _ _ _ _ _ (unhide h8)
      rw [unhide HU] at cc
      refine same_world cc ?_
      clear cc
      go_wp2_with fail
      refine (own_any _ _ _ _ _ (unhide h8) (by omega)).mono ?_
      rintro e w9 ⟨g9, rfl, hown9, hb9⟩
      have h9 := hide ((unhide h8).later hb9)
      have hz9 := hb9.size
      go_wp2_with fail
      refine (appendText_any _ _ _ _ _ _ (hown9.pre (unhide hlen)) (by omega)).mono ?_
      rintro e w10 ⟨ao10, c10, rfl, hm10, hb10⟩
      have h10 := hide ((unhide h9).later hb10)
      have hz10 := hb10.size
      go_wp2_with fail
      refine (appendText_ref _ _ _ _ _ _ (unhide h10) (by omega)).mono ?_
      rintro e w11 ⟨ao11, c11, rfl, hm11, hb11⟩
      have hz11 := hb11.size
      go_wp2_with fail
      have cc := sameBytes_any _ _ _ _ _ _ _ _ _ (hm10.bs.later hb11) hm11.bs
      rw [dec_self] at cc
      refine same_world cc ?_
      clear cc hm10 hm11
      go_wp2_with fail
      go_ret
      refine ⟨rfl, ?_⟩
      refine Below.trans ?_ (hb11.mono (by omega))
      refine Below.trans ?_ (hb10.mono (by omega))
      refine Below.trans ?_ (hb9.mono (by omega))
      refine Below.trans ?_ (hb8.mono (by omega))
      refine Below.trans ?_ (hb7.mono (by omega))
      refine Below.trans ?_ (hb6.mono (by omega))
      refine Below.trans ?_ (hb5.mono (by omega))
      refine Below.trans ?_ (hb4.mono (by omega))
      refine Below.trans ?_ (hb3.mono (by omega))
      exact hb1.trans (hb2.mono (by omega))

end Go.Proofs.Ytenindnahhebcaa
