/-
  The statement on numbers returns true for any bytes, any number and any count of bytes, and writes nothing that was there. Conditions: none but that the slice can be read and the numbers fit their kinds.
-/
import Derived.Test.YtenindnahhebcaaLawShort
namespace Go.Proofs.Ytenindnahhebcaa
open Go.RowKit
set_option linter.unusedVariables false
set_option linter.unusedSimpArgs false

/-- What AppendFixed returns: the bytes, the error. -/
def fixedRes (bs : List Int) (x k : Int) : List Int × Int := if 1 ≤ k ∧ k ≤ 8 ∧ x < 2 ^ (8 * k.toNat) then (bs ++ le x k.toNat, 0) else ([], 2)

theorem appendFixed_all (ao : Option Addr) (n c : Nat) (bs : List Int) (x k : Int) (w : World) (h : Bs w ao n c bs)
    (hx0 : 0 ≤ x) (hx1 : x < 18446744073709551616) (hbound : (n : Int) + 9 ≤ 140737488355328) :
    Calls Try.prog 13 #[.slice ao n c, .int .u64 x, .int .i64 k] w fun e w' => ∃ ao' n' c', e = .returned (.tuple #[.slice ao' n' c', .int .i64 (fixedRes bs x k).2]) ∧ Bs w' ao' n' c' (fixedRes bs x k).1 ∧ Below w.heap.size w w' := by
  unfold fixedRes
  by_cases hk : 1 ≤ k ∧ k ≤ 8 ∧ x < 2 ^ (8 * k.toNat)
  · rw [if_pos hk]
    refine (appendFixed_ok ao n c bs x k w h hx0 hx1 hbound hk.1 hk.2.1 hk.2.2).mono ?_
    rintro e w' ⟨ao', c', rfl, hm, hb⟩
    exact ⟨ao', _, c', rfl, hm.bs, hb⟩
  · rw [if_neg hk]
    refine (appendFixed_bad ao n c x k w hx0 hx1 hk).mono ?_
    rintro e w' ⟨rfl, rfl⟩
    exact ⟨none, 0, 0, rfl, Bs.nought _, Below.refl _ _⟩

theorem appendFixed_allref (ao : Option Addr) (n c : Nat) (bs : List Int) (x k : Int) (w : World) (h : Bs w ao n c bs)
    (hx0 : 0 ≤ x) (hx1 : x < 18446744073709551616) (hbound : (n : Int) + 9 ≤ 140737488355328) :
    Calls Try.prog 18 #[.slice ao n c, .int .u64 x, .int .i64 k] w fun e w' => ∃ ao' n' c', e = .returned (.tuple #[.slice ao' n' c', .int .i64 (fixedRes bs x k).2]) ∧ Bs w' ao' n' c' (fixedRes bs x k).1 ∧ Below w.heap.size w w' := by
  unfold fixedRes
  by_cases hk : 1 ≤ k ∧ k ≤ 8 ∧ x < 2 ^ (8 * k.toNat)
  · rw [if_pos hk]
    refine (appendFixed_ref ao n c bs x k w h hx0 hx1 hbound hk.1 hk.2.1 hk.2.2).mono ?_
    rintro e w' ⟨ao', c', rfl, hm, hb⟩
    exact ⟨ao', _, c', rfl, hm.bs, hb⟩
  · rw [if_neg hk]
    refine (appendFixed_refbad ao n c x k w hx0 hx1 hk).mono ?_
    rintro e w' ⟨rfl, rfl⟩
    exact ⟨none, 0, 0, rfl, Bs.nought _, Below.refl _ _⟩

theorem dec_self (l : List Int) : decide (l = l) = true := by simp

set_option maxHeartbeats 2000000 in
theorem lawNumbers (ao : Option Addr) (n c : Nat) (bs : List Int) (x k : Int) (w : World) (h : Bs w ao n c bs) (hx0 : 0 ≤ x) (hx1 : x < 18446744073709551616) :
    Calls Try.prog 4 #[.slice ao n c, .int .u64 x, .int .i64 k] w fun e w' => e = .returned (.bool true) ∧ Below w.heap.size w w' := by
  have hlen := hide h.len
  have hmax := h.max
  have hle := h.le
  have HX := hide hx1
  clear hx1
  by_cases hbig : (5000 : Int) < (n : Int)
  · go_enter Try.func4, Try.ntmps4
    go_wp2_with (go_at_call 16; refine (lives_any _).mono ?_; rintro e w1 ⟨rfl, hb1⟩)
    go_ret
    exact ⟨rfl, hb1⟩
  · obtain ⟨fo, fe, hfx⟩ : ∃ fo fe, fixedRes bs x k = (fo, fe) := ⟨_, _, rfl⟩
    obtain ⟨y, ye, hy⟩ : ∃ y ye, readFixed bs k = (y, ye) := ⟨_, _, rfl⟩
    obtain ⟨p, q, pe, hp⟩ : ∃ p q pe, readInt bs = (p, q, pe) := ⟨_, _, _, rfl⟩
    have HFX := hide hfx
    have HY := hide hy
    have HP := hide hp
    have hl := form_length_le x
    obtain ⟨L, hL⟩ : ∃ L, L = (form x).length := ⟨_, rfl⟩
    have HL := hide hL
    rw [← hL] at hl
    clear hfx hy hp hL
    have H := hide h
    clear h
    go_enter Try.func4, Try.ntmps4
    go_wp2_with fail
    refine (lives_any _).mono ?_
    rintro e w1 ⟨rfl, hb1⟩
    have h1 := hide ((unhide H).later hb1)
    have hz1 := hb1.size
    go_wp2_with fail
    refine (own_any _ _ _ _ _ (unhide h1) (by omega)).mono ?_
    rintro e w2 ⟨g, rfl, hown2, hb2⟩
    have h2 := hide ((unhide h1).later hb2)
    have hz2 := hb2.size
    go_wp2_with fail
    refine (appendFixed_all _ _ _ _ _ _ _ (hown2.pre (unhide hlen)) hx0 (unhide HX) (by omega)).mono ?_
    rw [unhide HFX]
    rintro e w3 ⟨ao3, n3, c3, rfl, hbs3, hb3⟩
    have h3 := hide ((unhide h2).later hb3)
    have hown3 := hide (hown2.later hb3)
    have hz3 := hb3.size
    clear hown2
    go_wp2_with fail
    refine (appendFixed_allref _ _ _ _ _ _ _ (unhide h3) hx0 (unhide HX) (by omega)).mono ?_
    rw [unhide HFX]
    rintro e w4 ⟨ao4, n4, c4, rfl, hbs4, hb4⟩
    have h4 := hide ((unhide h3).later hb4)
    have hown4 := hide ((unhide hown3).later hb4)
    have hbs34 := hide (hbs3.later hb4)
    have HB4 := hide hbs4
    have hz4 := hb4.size
    clear hbs3 hown3 hbs4
    go_wp2_with fail
    refine (sameBytes_any _ _ _ _ _ _ _ _ _ (unhide hbs34) (unhide HB4)).mono ?_
    rw [dec_self]
    rintro e w' ⟨rfl, hw'⟩
    have hw'' := hw'.symm
    subst hw''
    clear hw'
    go_wp2_with fail
    refine (sameBytes_any _ _ _ _ _ _ _ _ _ ((unhide hown4).pre (unhide hlen)) (unhide h4)).mono ?_
    rw [dec_self]
    rintro e w' ⟨rfl, hw'⟩
    have hw'' := hw'.symm
    subst hw''
    clear hw'
    go_wp2_with fail
    refine (readFixed_any _ _ _ _ _ _ ((unhide hown4).pre (unhide hlen))).mono ?_
    rw [unhide HY]
    rintro e w' ⟨rfl, hw'⟩
    have hw'' := hw'.symm
    subst hw''
    clear hw'
    go_wp2_with fail
    refine (readFixed_ref _ _ _ _ _ _ (unhide h4)).mono ?_
    rw [unhide HY]
    rintro e w' ⟨rfl, hw'⟩
    have hw'' := hw'.symm
    subst hw''
    clear hw'
    go_wp2_with fail
    refine (readInt_any _ _ _ _ _ ((unhide hown4).pre (unhide hlen))).mono ?_
    rw [unhide HP]
    rintro e w' ⟨rfl, hw'⟩
    have hw'' := hw'.symm
    subst hw''
    clear hw'
    go_wp2_with fail
    refine (readInt_ref _ _ _ _ _ (unhide h4)).mono ?_
    rw [unhide HP]
    rintro e w' ⟨rfl, hw'⟩
    have hw'' := hw'.symm
    subst hw''
    clear hw'
    go_wp2_with fail
    refine (size_any x _ hx0 (unhide HX)).mono ?_
    rw [← unhide HL]
    rintro e w' ⟨rfl, hw'⟩
    have hw'' := hw'.symm
    subst hw''
    clear hw'
    go_wp2_with fail
    refine (size_ref x _ hx0).mono ?_
    rw [← unhide HL]
    rintro e w' ⟨rfl, hw'⟩
    have hw'' := hw'.symm
    subst hw''
    clear hw'
    go_wp2_with fail
    refine (own_any _ _ _ _ _ (unhide h4) (by omega)).mono ?_
    rintro e w5 ⟨g5, rfl, hown5, hb5⟩
    have h5 := hide ((unhide h4).later hb5)
    have hz5 := hb5.size
    go_wp2_with fail
    refine (appendInt_any _ _ _ _ _ _ (hown5.pre (unhide hlen)) hx0 (unhide HX) (by omega)).mono ?_
    rintro e w6 ⟨ao6, c6, rfl, hm6, hb6⟩
    have h6 := hide ((unhide h5).later hb6)
    have hz6 := hb6.size
    go_wp2_with fail
    refine (appendInt_ref _ _ _ _ _ _ (unhide h6) hx0 (unhide HX) (by omega)).mono ?_
    rintro e w7 ⟨ao7, c7, rfl, hm7, hb7⟩
    have hz7 := hb7.size
    go_wp2_with fail
    refine (sameBytes_any _ _ _ _ _ _ _ _ _ (hm6.bs.later hb7) hm7.bs).mono ?_
    rw [dec_self]
    rintro e w' ⟨rfl, hw'⟩
    have hw'' := hw'.symm
    subst hw''
    clear hw'
    go_wp2_with fail
    go_ret
    refine ⟨rfl, ?_⟩
    exact (((((hb1.trans (hb2.mono hz1)).trans (hb3.mono (by omega))).trans (hb4.mono (by omega))).trans (hb5.mono (by omega))).trans (hb6.mono (by omega))).trans (hb7.mono (by omega))

end Go.Proofs.Ytenindnahhebcaa
