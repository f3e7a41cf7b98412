/-
  InflateEnds: a stream ends where it says: nothing behind it counts, nothing of it can be missing. Conditions: the tables hold what the program's text says.
-/
import Derived.Test.YtdpkemnklfnipaaDoorInfLives
namespace Go.Proofs.YtdpkemnklfnipaaDoor
open Go.RowKit
set_option linter.unusedVariables false
set_option linter.unusedSimpArgs false

set_option maxHeartbeats 4000000 in
set_option maxRecDepth 20000 in
theorem lawInfEnds (ao : Option Addr) (n c : Nat) (bs : List Int) (bo : Option Addr) (m d : Nat) (cs : List Int) (w : World) (hv : Vars w) (h : Bs w ao n c bs) (k : Bs w bo m d cs) :
    Calls Tryd.prog 4 #[.slice ao n c, .slice bo m d] w fun e w' => e = .returned (.bool true) ∧ Below w.heap.size w w' := by
  have HV := hide hv
  have h3 := hv.size
  have hmax := h.max
  have hle := h.le
  have kmax := k.max
  have kle := k.le
  have hbl := hide h.len
  have H := hide h
  have K := hide k
  clear h k hv
  go_enter Tryd.func4, Tryd.ntmps4
  go_wp2_with fail
  refine (lives_any w (unhide HV)).mono ?_
  rintro e w1 ⟨rfl, b1⟩
  have z1 := b1.size
  by_cases hn : 3000 < n
  · have hn' : (3000 : Int) < (n : Int) := by omega
    go_wp2_with fail
    go_ret
    exact ⟨rfl, b1⟩
  have hn' : ¬ (3000 : Int) < (n : Int) := by omega
  by_cases hm : 3000 < m
  · have hm' : (3000 : Int) < (m : Int) := by omega
    go_wp2_with fail
    go_ret
    exact ⟨rfl, b1⟩
  have hm' : ¬ (3000 : Int) < (m : Int) := by omega
  have H1 := hide ((unhide H).later b1)
  have K1 := hide ((unhide K).later b1)
  have V1 := hide ((unhide HV).later (Nat.le_refl 3) (b1.mono h3))
  have ic := hide (inflate_any 100000 w1 ao n c bs 20000 (unhide H1) (unhide V1) (by omega) (by omega) (by omega) (by omega))
  by_cases he : (infS 100000 bs 20000).2.e = 0
  · have ok := hide (infR_ok he)
    rw [unhide ok] at ic
    obtain ⟨u1, u2, u3⟩ := inf_up (F := 100000) (b := bs) (m := 20000) (by omega) (by omega) he
    rw [unhide hbl] at u2
    obtain ⟨N, hN⟩ : ∃ N, N = ((infS 100000 bs 20000).2.p + 7) / 8 := ⟨_, rfl⟩
    have hNi := hide (show (((infS 100000 bs 20000).2.p : Int) + 7) / 8 = (N : Int) by omega)
    rw [unhide hNi] at ic
    have hN1 : 1 ≤ N := by omega
    have hN2 : N ≤ n := by omega
    have sm := hide (inf_same (F := 100000) (b := bs) (m := 20000) N cs he hN (by rw [unhide hbl]; omega))
    have sh := hide (inf_short (F := 100000) (b := bs) (m := 20000) (by omega) (by omega) N he hN)
    have lg := hide (fun (q : 1 ≤ (infS 100000 bs 20000).2.o.length) => inf_long (F := 100000) (b := bs) (m := 20000) (m' := ((infS 100000 bs 20000).2.o.length : Int) - 1) (by omega) (by omega) he (by omega) (by omega))
    have hE2 : infR (infS 100000 (bs.take N ++ cs) ((infS 100000 bs 20000).2.o.length : Int)) = ((infS 100000 bs 20000).2.o, (N : Int), 0) := by rw [unhide sm, unhide ok, unhide hNi]
    have hE3 : infR (infS 100000 (bs.take (N - 1)) 20000) = ([], 0, 4) := by rw [infR_no (by rw [unhide sh]; omega), unhide sh]
    have hE4 : 1 ≤ (infS 100000 bs 20000).2.o.length → infR (infS 100000 bs (((infS 100000 bs 20000).2.o.length : Int) - 1)) = ([], 0, 3) := fun q => by
      have e := unhide lg q
      rw [infR_no (by rw [e]; omega), e]
    have E2 := hide hE2
    have E3 := hide hE3
    have E4 := hide hE4
    clear hE2 hE3 hE4 sm sh lg ok hNi hN u1 u2 he
    generalize (infS 100000 bs 20000).2.o = x at *
    obtain ⟨a2, k2, hc2, hi2⟩ := (unhide H).cut_h hN2 (N : Int) rfl
    obtain ⟨a3, k3, hc3, hi3⟩ := (unhide H).cut_h (show N - 1 ≤ n by omega) ((N : Int) - 1) (by omega)
    have HI2 := hide hi2
    have HI3 := hide hi3
    clear hi2 hi3
    have n1 : ¬ (N : Int) < 1 := by omega
    have n2 : ¬ (n : Int) < (N : Int) := by omega
    go_wp2_with fail
    refine (unhide ic).mono ?_
    rintro e w2 ⟨a4, n4, k4, rfl, m4, b2⟩
    have hx : n4 = x.length := m4.len.symm
    subst hx
    have bb2 := b1.trans (b2.mono z1)
    have z2 := bb2.size
    have M4 := hide m4.bs
    have hx2 : x.length ≤ 20000 := by omega
    have hx3 : ¬ (20000 : Int) < (x.length : Int) := by omega
    clear m4
    have z3 : w2.heap.size ≤ (w2.alloc (.cells #[] 5)).heap.size := by simp
    go_wp2_with (first
      | (at_builtin; refine wpList_app rfl (.tmp 56) (.tmp 59) rfl w2.heap.size _ _ _ _ rfl (Mine.empty w2) _ N k2 _ rfl ((unhide HI2).later (bb2.trans ((below_alloc w2 _).mono z2))) (by omega) z3 ?_; intro a5 k5 w3 m5 b3; simp only [Nat.zero_add, List.nil_append] at m5)
      | (at_builtin; refine wpList_app rfl (.tmp 60) (.tmp 61) rfl w2.heap.size _ _ _ _ rfl m5 _ m d _ rfl ((unhide K).later ((bb2.trans ((below_alloc w2 _).mono z2)).trans (b3.mono z2))) (by omega) (Nat.le_trans z3 b3.size) ?_; intro a6 k6 w4 m6 b4))
    have bb4 : Below w.heap.size w w4 := ((bb2.trans ((below_alloc w2 _).mono z2)).trans (b3.mono z2)).trans (b4.mono z2)
    have b24 : Below w2.heap.size w2 w4 := ((below_alloc w2 _).trans b3).trans b4
    have z4 := bb4.size
    have V4 := hide ((unhide HV).later (Nat.le_refl 3) (bb4.mono h3))
    have i2 := inflate_any 100000 w4 a6 (N + m) k6 _ (x.length : Int) m6.bs (unhide V4) (by omega) (by omega) (by omega) (by omega)
    rw [unhide E2] at i2
    have I2 := hide i2
    clear i2 m5 m6 b3 b4
    refine (unhide I2).mono ?_
    rintro e w5 ⟨a7, n7, k7, rfl, m7, b5⟩
    have e7 : n7 = x.length := m7.len.symm
    subst e7
    have bb5 := bb4.trans (b5.mono z4)
    have z5 := bb5.size
    have M7 := hide m7.bs
    have V5 := hide ((unhide HV).later (Nat.le_refl 3) (bb5.mono h3))
    have i3 := inflate_any 100000 w5 a3 (N - 1) k3 _ 20000 ((unhide HI3).later bb5) (unhide V5) (by omega) (by omega) (by omega) (by omega)
    rw [unhide E3] at i3
    have I3 := hide i3
    have X5 := hide (((unhide M4).later b24).later b5)
    clear i3 m7 I2
    go_wp2_with fail
    refine (unhide I3).mono ?_
    rintro e w6 ⟨a8, n8, k8, rfl, m8, b6⟩
    have bb6 := bb5.trans (b6.mono z5)
    have z6 := bb6.size
    have V6 := hide ((unhide HV).later (Nat.le_refl 3) (bb6.mono h3))
    have sb := sameBytes_any a4 x.length k4 x a7 x.length k7 x w6 ((unhide X5).later b6) ((unhide M7).later b6)
    rw [show decide (x = x) = true by simp] at sb
    have SB := hide sb
    clear sb m8 I3
    go_wp2_with fail
    refine same_world (unhide SB) ?_
    by_cases hx0 : x.length = 0
    · have hx0' : ((x.length : Int) == 0) = true := by simp [hx0]
      go_wp2_with fail
      go_ret
      exact ⟨rfl, bb6⟩
    · have hx0' : ((x.length : Int) == 0) = false := by simp; intro q; rw [q] at hx0; simp at hx0
      have i4 := inflate_any 100000 w6 ao n c bs ((x.length : Int) - 1) ((unhide H).later bb6) (unhide V6) (by omega) (by omega) (by omega) (by omega)
      rw [unhide E4 (by omega)] at i4
      have I4 := hide i4
      clear i4
      go_wp2_with fail
      refine (unhide I4).mono ?_
      rintro e w7 ⟨a9, n9, k9, rfl, m9, b7⟩
      go_wp2_with fail
      go_ret
      exact ⟨rfl, bb6.trans (b7.mono z6)⟩
  · have no := hide (infR_no he)
    rw [unhide no] at ic
    have he' : ((infS 100000 bs 20000).2.e != 0) = true := by simpa using he
    clear he no
    generalize (infS 100000 bs 20000).2.e = X at *
    go_wp2_with fail
    refine (unhide ic).mono ?_
    rintro e w2 ⟨a4, n4, k4, rfl, m4, b2⟩
    have e4 : n4 = 0 := m4.len.symm
    subst e4
    go_wp2_with fail
    go_ret
    exact ⟨rfl, b1.trans (b2.mono z1)⟩

end Go.Proofs.YtdpkemnklfnipaaDoor
