/-
  The law DeflateAny returns true for any pieces: made a stream, they are read as the bytes that they make. Conditions: the tables hold what the program's text says.
-/
import Derived.Test.YtmlodlmmfkpibaaDoorLawDefBack
namespace Go.Proofs.YtmlodlmmfkpibaaDoor
open Go.RowKit
set_option linter.unusedVariables false
set_option linter.unusedSimpArgs false

theorem xpd_le : ∀ (l : List Pc) (m : Int) (o : List Int), chk m l = 0 → (xpd o l).length ≤ o.length + 258 * l.length
  | [], m, o, _ => by simp [xpd]
  | p :: r, m, o, h => by
    obtain ⟨h1, _, h3⟩ := chk_step h
    have ih := xpd_le r _ (xp1 o p) h3
    have := xp1_len h1 o
    have := may_sz h1
    show (xpd (xp1 o p) r).length ≤ _
    rw [List.length_cons]
    omega
theorem fxs_le {l : List Pc} (hc : chk 0 l = 0) (hb : ∀ p ∈ l, 0 ≤ p.b ∧ p.b ≤ 255) : (fxs l).length ≤ 5 * l.length + 10 := by
  obtain ⟨_, hlen⟩ := sd_pk (ftx l) (ftx_01 l)
  have h1 := ptxs_le (chk_may l 0 hc) hb l.length
  rw [List.take_length] at h1
  have h2 : (sbits fixL 256).length ≤ 9 := by
    have := ln_fixL 256 (by omega)
    have e : (sbits fixL ((256 : Nat) : Int)).length = (ln fixL 256).toNat := sbits_n _ _
    have e' : (sbits fixL 256).length = (ln fixL 256).toNat := e
    omega
  have h3 : (ftx l).length = 3 + ((ptxs l).length + (sbits fixL 256).length) := by
    unfold ftx
    rw [List.length_append, List.length_append]
    rfl
  unfold fxs
  rw [hlen, h3]
  omega

set_option maxHeartbeats 4000000 in
set_option maxRecDepth 20000 in
theorem lawDefAny (ao : Option Addr) (n c : Nat) (l : List Pc) (w : World) (hv : Vars w) (h : Ps w ao n c l) :
    Calls Tryd.prog 4 #[.slice ao n c] w fun e w' => e = .returned (.bool true) ∧ Below w.heap.size w w' := by
  have hle := h.le
  have hmx := h.max
  have hlen := hide h.len
  have H := hide h
  have HV := hide hv
  clear h hv
  go_enter Tryd.func4, Tryd.ntmps4
  go_wp2_with fail
  refine (dlives_any w).mono ?_
  rintro e w0 ⟨rfl, b0⟩
  by_cases hbig : 300 < n
  · have hbig' : (300 : Int) < (n : Int) := by omega
    go_wp2_with fail
    go_ret
    exact ⟨rfl, b0⟩
  · have hbig' : ¬ (300 : Int) < (n : Int) := by omega
    have H0 := hide ((unhide H).later b0)
    have B0 := hide b0
    have xc := hide (expand_any w0 ao n c l (unhide H0) (by omega))
    have hb := hide (show ∀ p ∈ l, 0 ≤ p.b ∧ p.b ≤ 255 from fun p hp => ⟨((unhide H).fit p hp).b0, ((unhide H).fit p hp).b1⟩)
    have hn3 : n ≤ 300 := by omega
    clear hbig b0
    by_cases he : chk 0 l = 0
    · have hx : exq l = (xpd [] l, 0) := if_pos he
      have hf : fxq l = (fxs l, 0) := if_pos he
      rw [hx] at xc
      have e1 := hide (inf_fixed (F := 1000000) (l := l) (m := ((xpd [] l).length : Int)) (by have := unhide hlen; omega) (unhide hb) he (Int.le_refl _))
      have e2 := hide (xpd_le l 0 [] he)
      have e3 := hide (fxs_le he (unhide hb))
      have HF := hide hf
      clear he hx hf
      go_wp2_with fail
      refine (unhide xc).mono ?_
      rintro e w1 ⟨a1, n1, c1, rfl, m1, b1⟩
      have fc := hide (fixed_pc w1 ao n c l ((unhide H0).later b1) (by omega))
      rw [unhide HF] at fc
      have X1 := hide m1.bs
      have B1 := hide ((unhide B0).trans (b1.mono (unhide B0).size))
      clear m1 b1 xc B0
      go_wp2_with fail
      refine (unhide fc).mono ?_
      rintro e w2 ⟨a2, n2, c2, rfl, m2, b2⟩
      have X2 := hide ((unhide X1).later b2)
      have S2 := hide m2.bs
      have B2 := hide ((unhide B1).trans (b2.mono (unhide B1).size))
      have n1e := (unhide X2).len
      have n2e := (unhide S2).len
      have hn1 : n1 ≤ 100000 := by have q := unhide e2; have := unhide hlen; simp only [List.length_nil] at q; omega
      have hn2 : n2 ≤ 2000 := by have := unhide e3; have := unhide hlen; omega
      have l1 := (unhide X2).le
      have x1 := (unhide X2).max
      have l2 := (unhide S2).le
      have x2 := (unhide S2).max
      have ic := hide (inflate_any 1000000 w2 a2 n2 c2 (fxs l) (n1 : Int) (unhide S2) ((unhide HV).low (unhide B2)) (by omega) (by omega) (by omega) (by omega))
      rw [← n1e, unhide e1, n1e, n2e] at ic
      have N1 := hide n1e
      have N2 := hide n2e
      clear m2 b2 fc B1 X1 n1e n2e
      go_wp2_with fail
      refine (unhide ic).mono ?_
      rintro e w3 ⟨a3, n3, c3, rfl, m3, b3⟩
      have s1 := hide (sameBytes_any a3 n3 c3 (xpd [] l) a1 n1 c1 (xpd [] l) w3 m3.bs ((unhide X2).later b3))
      have ht : decide (xpd [] l = xpd [] l) = true := by simp
      rw [ht] at s1
      have B3 := hide ((unhide B2).trans (b3.mono (unhide B2).size))
      clear m3 b3 ic B2 X2 S2 ht
      go_wp2_with fail
      refine same_world (unhide s1) ?_
      go_wp2_with fail
      go_ret
      exact ⟨by first | rfl | simp, unhide B3⟩
    · have hx : exq l = ([], chk 0 l) := if_neg he
      have hf : fxq l = ([], chk 0 l) := if_neg he
      rw [hx] at xc
      have HF := hide hf
      have he' : (chk 0 l != 0) = true := by simpa using he
      clear he hx hf
      generalize chk 0 l = R at *
      go_wp2_with fail
      refine (unhide xc).mono ?_
      rintro e w1 ⟨a1, n1, c1, rfl, m1, b1⟩
      have fc := hide (fixed_pc w1 ao n c l ((unhide H0).later b1) (by omega))
      rw [unhide HF] at fc
      have n1e : n1 = 0 := by have := m1.len; simp at this; omega
      have l1 := m1.bs.le
      have x1 := m1.bs.max
      have B1 := hide ((unhide B0).trans (b1.mono (unhide B0).size))
      subst n1e
      clear m1 b1 xc B0
      go_wp2_with fail
      refine (unhide fc).mono ?_
      rintro e w2 ⟨a2, n2, c2, rfl, m2, b2⟩
      have n2e : n2 = 0 := by have := m2.len; simp at this; omega
      have l2 := m2.bs.le
      have x2 := m2.bs.max
      have B2 := hide ((unhide B1).trans (b2.mono (unhide B1).size))
      subst n2e
      clear m2 b2 fc B1
      go_wp2_with fail
      go_ret
      exact ⟨by first | rfl | simp, unhide B2⟩
end Go.Proofs.YtmlodlmmfkpibaaDoor
