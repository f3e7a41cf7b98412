/-
  What Inflate of the document's own answer returns: what the program's Inflate returns, or both an error that is 4 or 5. Conditions: at most a million bytes, a limit from 0 to a million.
  What Head of the document's own answer for wrapped streams returns. It writes nothing. Conditions: the slice can be read.
  What Unpack of the document's own answer returns: what the program's Unpack returns, or both an error that is 4 or 5. Conditions: at most 100,000 bytes, a limit from 0 to a million.
-/
import Derived.Test.YtnoabdafmgmenaaGreatDoorRiAll
import Derived.BigQuiet
import Derived.Test.YtnoabdafmgmenaaGreatDoorMZlb
import Derived.Test.YtnoabdafmgmenaaGreatDoorMZlb2
import Derived.Test.YtnoabdafmgmenaaGreatDoorMAdl
namespace Go.Proofs.YtnoabdafmgmenaaGreatDoor
open Go.RowKit
set_option linter.unusedVariables false
set_option linter.unusedSimpArgs false

theorem OutA.of {E : Env} {w : World} {R : List Blk × PS} {e : Ending} {w' : World} (h : OutA E w R e w') :
  ∃ (u : PS) (oo : Option Addr) (oc : Nat) (xo : Option Addr) (xn xc : Nat), e = .returned (.tuple #[.pointer (some ⟨w.heap.size, 0, none⟩), .slice xo xn xc]) ∧ Rt E w.heap.size w' oo oc u ∧ Alk u R ∧ Below w.heap.size w w' := h
/-- Behind the document's Inflate. -/
def OutJ (w : World) (R : List Blk × PS) (e : Ending) (w' : World) : Prop := ∃ u : PS, Alk u R ∧ 0 ≤ u.e ∧ u.e ≤ 100 ∧ OutI w (infR ([], u)) e w'

set_option maxHeartbeats 2000000 in
theorem rinflate_rd (F : Nat) (w : World) (bo : Option Addr) (bn bc : Nat) (bs : List Int) (m : Int) (hb : Bs w bo bn bc bs) (hn : bn ≤ 1000000) (m0 : 0 ≤ m) (m1 : m ≤ 1000000) (hF : 8 * bn + 1 ≤ F) (hF2 : F ≤ 1000000000) :
    Calls Tryz.prog 36 #[.slice bo bn bc, .int .i64 m] w fun e w' => OutJ w (infS F bs m) e w' := by
  have ac := hide (all_rd F w bo bn bc bs m hb hn m0 m1 hF hF2)
  have m0' : ¬ m < 0 := by omega
  clear hb
  generalize infS F bs m = R at *
  generalize (⟨bo, bn, bc, bs, m⟩ : Env) = E at *
  go_enter Tryz.func36, Tryz.ntmps36
  go_wp2_with fail
  refine (unhide ac).mono ?_
  rintro e w1 ho
  obtain ⟨u, oo, oc, xo, xn, xc, rfl, st, al, bl⟩ := OutA.of ho
  have c1 := st.c1
  have c2 := st.c2
  have c3 := st.c3
  have hp := st.fit.p
  have hbn := st.fit.bn
  have he0 := st.fit.e0
  have he1 := st.fit.e1
  have MO := hide (st.out.mono (B' := w.heap.size) (by omega))
  have AL := hide al
  have BL := hide bl
  clear st al bl ho ac
  by_cases he : u.e = 0
  · have he' : (u.e != 0) = false := by simpa using he
    have hfin := hide (show infR ([], u) = (u.o, ((u.p : Int) + 7) / 8, 0) from if_pos he)
    go_wp2_with fail
    go_quiet (fail)
    go_wp2_with fail
    go_ret3
    refine ⟨u, unhide AL, he0, he1, ?_⟩
    rw [unhide hfin]
    exact ⟨oo, _, oc, rfl, (unhide MO).later ⟨rfl, rfl, rfl, Nat.le_refl _, fun _ _ => rfl⟩, (unhide BL).trans ⟨rfl, rfl, rfl, Nat.le_refl _, fun _ _ => rfl⟩⟩
  · have he' : (u.e != 0) = true := by simpa using he
    have hfin := hide (show infR ([], u) = ([], 0, u.e) from if_neg he)
    go_wp2_with fail
    go_quiet (fail)
    go_wp2_with fail
    go_ret3
    refine ⟨u, unhide AL, he0, he1, ?_⟩
    rw [unhide hfin]
    exact ⟨.none, 0, 0, rfl, Mine.nought _ _, (unhide BL).trans ⟨rfl, rfl, rfl, Nat.le_refl _, fun _ _ => rfl⟩⟩

end Go.Proofs.YtnoabdafmgmenaaGreatDoor

namespace Go.Proofs.YtnoabdafmgmenaaGreatDoor
open Go.RowKit
set_option linter.unusedVariables false
set_option linter.unusedSimpArgs false

set_option maxHeartbeats 2000000 in
theorem rhead_rd (w : World) (ao : Option Addr) (n c : Nat) (bs : List Int) (h : Bs w ao n c bs) :
    Calls Tryz.prog 35 #[.slice ao n c] w fun e w' => e = .returned (.int .i64 (hdE bs)) ∧ Below w.heap.size w w' := by
  have hle := h.le
  have hmx := h.max
  have hl := h.len
  by_cases h2 : n < 2
  · have hr := hide (show hdE bs = 4 by unfold hdE; rw [if_pos (by omega)])
    clear h hl
    go_enter Tryz.func35, Tryz.ntmps35
    go_wp2_with fail
    go_ret
    exact ⟨by rw [unhide hr]; rfl, Below.refl _ _⟩
  · obtain ⟨b0, o0, i0, c0⟩ := h.idx (i := 0) (by omega) 0 rfl
    obtain ⟨b1, o1, i1, c1⟩ := h.idx (i := 1) (by omega) 1 rfl
    have y0 := h.byt.at 0
    have y1 := h.byt.at 1
    have hr : hdE bs = if Fine (bs[0]?.getD 0) (bs[1]?.getD 0) then 0 else 5 := by unfold hdE; rw [if_neg (by omega)]
    obtain ⟨x, hx⟩ : ∃ x, bs[0]?.getD 0 = x := ⟨_, rfl⟩
    obtain ⟨y, hy⟩ : ∃ y, bs[1]?.getD 0 = y := ⟨_, rfl⟩
    rw [hx] at c0 y0 hr
    rw [hy] at c1 y1 hr
    have HR := hide hr
    clear h hl hx hy hr
    have hx0 := y0.1
    have hx1 := y0.2
    have hy0 := y1.1
    have hy1 := y1.2
    clear y0 y1
    by_cases a1 : x % 16 = 8
    · have b1 : (x % 16 != 8) = false := by simp; omega
      by_cases a2 : x / 16 ≤ 7
      · have b2 : decide (7 < x / 16) = false := by simp; omega
        by_cases a3 : y / 32 % 2 = 0
        · have b3 : (y / 32 % 2 != 0) = false := by simp; omega
          by_cases a4 : (x * 256 + y) % 31 = 0
          · have b4 : ((x * 256 + y) % 31 != 0) = false := by simp; omega
            have hd := hide (show hdE bs = 0 by rw [unhide HR, if_pos ⟨a1, a2, a3, a4⟩])
            clear a1 a2 a3 a4
            go_enter Tryz.func35, Tryz.ntmps35
            go_wp2_with fail
            go_quiet (fail)
            go_wp2_with fail
            go_ret
            exact ⟨by rw [unhide hd]; rfl, ⟨rfl, rfl, rfl, Nat.le_refl _, fun _ _ => rfl⟩⟩
          · have hd := hide (show hdE bs = 5 by rw [unhide HR, if_neg (fun q => a4 q.2.2.2)])
            have b4 : ((x * 256 + y) % 31 != 0) = true := by simp; omega
            clear a1 a2 a3 a4
            go_enter Tryz.func35, Tryz.ntmps35
            go_wp2_with fail
            go_quiet (fail)
            go_wp2_with fail
            go_ret
            exact ⟨by rw [unhide hd]; rfl, ⟨rfl, rfl, rfl, Nat.le_refl _, fun _ _ => rfl⟩⟩
        · have hd := hide (show hdE bs = 5 by rw [unhide HR, if_neg (fun q => a3 q.2.2.1)])
          have b3 : (y / 32 % 2 != 0) = true := by simp; omega
          clear a1 a2 a3
          go_enter Tryz.func35, Tryz.ntmps35
          go_wp2_with fail
          go_quiet (fail)
          go_wp2_with fail
          go_ret
          exact ⟨by rw [unhide hd]; rfl, ⟨rfl, rfl, rfl, Nat.le_refl _, fun _ _ => rfl⟩⟩
      · have hd := hide (show hdE bs = 5 by rw [unhide HR, if_neg (fun q => a2 q.2.1)])
        have b2 : decide (7 < x / 16) = true := by simp; omega
        clear a1 a2
        go_enter Tryz.func35, Tryz.ntmps35
        go_wp2_with fail
        go_quiet (fail)
        go_wp2_with fail
        go_ret
        exact ⟨by rw [unhide hd]; rfl, ⟨rfl, rfl, rfl, Nat.le_refl _, fun _ _ => rfl⟩⟩
    · have hd := hide (show hdE bs = 5 by rw [unhide HR, if_neg (fun q => a1 q.1)])
      have b1 : (x % 16 != 8) = true := by simp; omega
      clear a1
      go_enter Tryz.func35, Tryz.ntmps35
      go_wp2_with fail
      go_quiet (fail)
      go_wp2_with fail
      go_ret
      exact ⟨by rw [unhide hd]; rfl, ⟨rfl, rfl, rfl, Nat.le_refl _, fun _ _ => rfl⟩⟩

end Go.Proofs.YtnoabdafmgmenaaGreatDoor

namespace Go.Proofs.YtnoabdafmgmenaaGreatDoor
open Go.RowKit
set_option linter.unusedVariables false
set_option linter.unusedSimpArgs false

/-- Two answers of Unpack that are the same, or both an error that is 4 or 5. -/
def Ulk (r r' : List Int × Int) : Prop := r = r' ∨ ((r.2 = 4 ∨ r.2 = 5) ∧ (r'.2 = 4 ∨ r'.2 = 5))
theorem infR_two (l : List Blk) (R : List Blk × PS) : infR (l, R.2) = infR R := rfl
theorem unp_alk {F : Nat} {b : List Int} {m : Int} {u : PS} (m0 : ¬ m < 0) (he : hdE b = 0) (h : Alk u (infS F (b.drop 2) m)) : Ulk (unpE (b.drop 2) (infR ([], u))) (unp F b m) := by
  have e : unp F b m = unpE (b.drop 2) (infR (infS F (b.drop 2) m)) := by unfold unp; rw [if_neg m0, if_neg (by rw [he]; decide)]
  rw [e]
  rcases h with h | ⟨h1, h2⟩
  · rw [h, infR_two]
    exact .inl rfl
  · have g : ∀ v : PS, Dd v → ∀ l : List Blk, (unpE (b.drop 2) (infR (l, v))).2 = 4 ∨ (unpE (b.drop 2) (infR (l, v))).2 = 5 := by
      intro v hv l
      have e1 : infR (l, v) = ([], 0, v.e) := if_neg hv.ne
      rw [e1]
      unfold unpE
      simp only
      rw [if_pos hv.ne]
      exact hv
    exact .inr ⟨g u h1 [], g _ h2 _⟩
theorem or_sum (a b c d : Int) (ha : 0 ≤ a ∧ a ≤ 255) (hb : 0 ≤ b ∧ b ≤ 255) (hc : 0 ≤ c ∧ c ≤ 255) (hd : 0 ≤ d ∧ d ≤ 255) :
    bits .or .u32 (a * 16777216) (b * 65536) = a * 16777216 + b * 65536 ∧ bits .or .u32 (a * 16777216 + b * 65536) (c * 256) = a * 16777216 + b * 65536 + c * 256 ∧ bits .or .u32 (a * 16777216 + b * 65536 + c * 256) d = a * 16777216 + b * 65536 + c * 256 + d := by
  refine ⟨?_, ?_, ?_⟩
  · rw [u32_or _ _ (by omega) (by omega) (by omega) (by omega), nat_join 24 _ _ (by omega) (by omega)]
    omega
  · rw [u32_or _ _ (by omega) (by omega) (by omega) (by omega), nat_join 16 _ _ (by omega) (by omega)]
    omega
  · rw [u32_or _ _ (by omega) (by omega) (by omega) (by omega), nat_join 8 _ _ (by omega) (by omega)]
    omega

set_option maxHeartbeats 4000000 in
theorem runpack_rd (F : Nat) (w : World) (bo : Option Addr) (bn bc : Nat) (bs : List Int) (m : Int) (hb : Bs w bo bn bc bs) (hn : bn ≤ 100000) (m0 : 0 ≤ m) (m1 : m ≤ 1000000) (hF : 8 * bn + 1 ≤ F) (hF2 : F ≤ 1000000000) :
    Calls Tryz.prog 29 #[.slice bo bn bc, .int .i64 m] w fun e w' => ∃ r, Ulk r (unp F bs m) ∧ OutU w r e w' := by
  have HB := hide hb
  have hle := hb.le
  have hmx := hb.max
  have hlen := hide hb.len
  have m0' : ¬ m < 0 := by omega
  have hc := hide (rhead_rd w bo bn bc bs hb)
  by_cases he : hdE bs = 0
  case neg =>
    have hr := hide (show unp F bs m = ([], hdE bs) by unfold unp; rw [if_neg m0', if_pos he])
    have he' : (hdE bs != 0) = true := by simpa using he
    clear hb he
    generalize hdE bs = E at *
    go_enter Tryz.func29, Tryz.ntmps29
    go_wp2_with fail
    refine (unhide hc).mono ?_
    rintro e w1 ⟨rfl, b1⟩
    go_wp2_with fail
    go_ret2
    exact ⟨_, .inl (unhide hr).symm, none, 0, 0, rfl, Mine.nought _ _, b1⟩
  have h2 : 2 ≤ bn := by
    unfold hdE at he
    have := unhide hlen
    by_cases q : bs.length < 2
    · rw [if_pos q] at he; exact absurd he (by decide)
    · omega
  have AL0 := hide (fun u => unp_alk (F := F) (b := bs) (m := m) (u := u) m0' he)
  rw [he] at hc
  obtain ⟨a2, k2, hc2, hi2⟩ := hb.cut_l h2 2 rfl
  have HI := hide hi2
  clear hb he hi2
  go_enter Tryz.func29, Tryz.ntmps29
  go_wp2_with fail
  refine (unhide hc).mono ?_
  rintro e w1 ⟨rfl, b1⟩
  have z1 := b1.size
  have B1 := hide b1
  have ic := hide (rinflate_rd F w1 a2 (bn - 2) k2 (bs.drop 2) m ((unhide HI).later b1) (by omega) m0 m1 (by omega) hF2)
  have I1 := hide ((unhide HB).later b1)
  have UPX := hide (fun y => inf_up (F := F) (b := bs.drop 2) (m := m) (by omega) m0 y)
  have hdl : (bs.drop 2).length = bn - 2 := by simp [unhide hlen]
  rw [hdl] at UPX
  clear b1 hc HI hdl
  go_wp2_with fail
  refine (unhide ic).mono ?_
  rintro e w2 ⟨u, al, ue0, ue1, a4, n4, k4, rfl, m4, b2⟩
  have B2 := hide ((unhide B1).trans (b2.mono z1))
  have UL := hide (unhide AL0 u al)
  have I2 := hide ((unhide I1).later b2)
  clear ic AL0 I1
  by_cases ie : u.e = 0
  · have hu : u = (infS F (bs.drop 2) m).2 := al.resolve_right fun h => h.1.ne ie
    have up := unhide UPX (by rw [← hu]; exact ie)
    rw [← hu] at up
    have hir : infR (([] : List Blk), u) = (u.o, ((u.p : Int) + 7) / 8, 0) := if_pos ie
    rw [hir] at m4 UL ⊢
    simp only at m4 ⊢
    obtain ⟨N, hN⟩ : ∃ N, N = (u.p + 7) / 8 := ⟨_, rfl⟩
    have hNi : ((u.p : Int) + 7) / 8 = (N : Int) := by omega
    rw [hNi] at UL ⊢
    have hN2 : 2 + N ≤ bn := by omega
    obtain ⟨a3, k3, hc3, hi3⟩ := (unhide I2).cut_l hN2 (2 + (N : Int)) (by omega)
    have hdd : bs.drop (2 + N) = (bs.drop 2).drop N := by rw [List.drop_drop]
    rw [hdd] at hi3
    have sc := hide (fun j => sum_ref a4 n4 k4 u.o (w2.drewN j) (m4.bs.drewN j))
    have M4 := hide (m4.mono z1)
    have H3 := hide hi3
    have h3le := hi3.le
    have h3mx := hi3.max
    have h3l := hi3.len
    obtain ⟨rs, hrs⟩ : ∃ rs, (bs.drop 2).drop N = rs := ⟨_, rfl⟩
    rw [hrs] at H3 h3l
    have hUE := hide (show unpE (bs.drop 2) (u.o, (N : Int), 0) = if ckE rs (sumOf u.o) ≠ 0 then ([], ckE rs (sumOf u.o)) else (u.o, 0) by
      unfold unpE
      simp only [Int.toNat_natCast]
      rw [if_neg (by decide), hrs])
    have UL2 := hide (show Ulk (if ckE rs (sumOf u.o) ≠ 0 then ([], ckE rs (sumOf u.o)) else (u.o, 0)) (unp F bs m) by rw [← unhide hUE]; exact unhide UL)
    obtain ⟨rn, hrn⟩ : ∃ rn, bn - (2 + N) = rn := ⟨_, rfl⟩
    rw [hrn] at hc3 H3 h3le h3l
    clear hu hir hdd hi3 m4 b2 UL hUE hN hNi hrs UPX up al I2 ie
    generalize u.o = o at *
    by_cases h4 : rn < 4
    · have hk := hide (show ckE rs (sumOf o) = 4 by unfold ckE; rw [if_pos (by omega)])
      have h4' : (rn : Int) < 4 := by omega
      clear h3l
      go_wp2_with fail
      go_ret2
      refine ⟨([], 4), ?_, none, 0, 0, rfl, Mine.nought _ _, unhide B2⟩
      have := unhide UL2
      rw [unhide hk, if_pos (by decide)] at this
      exact this
    · have h4' : ¬ (rn : Int) < 4 := by omega
      obtain ⟨p0, q0, i0, c0⟩ := (unhide H3).idx (i := 0) (by omega) 0 rfl
      obtain ⟨p1, q1, i1, c1⟩ := (unhide H3).idx (i := 1) (by omega) 1 rfl
      obtain ⟨p2, q2, i2, c2⟩ := (unhide H3).idx (i := 2) (by omega) 2 rfl
      obtain ⟨p3, q3, i3, c3⟩ := (unhide H3).idx (i := 3) (by omega) 3 rfl
      have y0 := (unhide H3).byt.at 0
      have y1 := (unhide H3).byt.at 1
      have y2 := (unhide H3).byt.at 2
      have y3 := (unhide H3).byt.at 3
      have hrd := hide (show rdS rs = rs[0]?.getD 0 * 16777216 + rs[1]?.getD 0 * 65536 + rs[2]?.getD 0 * 256 + rs[3]?.getD 0 from rfl)
      generalize rs[0]?.getD 0 = x0 at *
      generalize rs[1]?.getD 0 = x1 at *
      generalize rs[2]?.getD 0 = x2 at *
      generalize rs[3]?.getD 0 = x3 at *
      obtain ⟨o1, o2, o3⟩ := or_sum x0 x1 x2 x3 y0 y1 y2 y3
      obtain ⟨P, hP⟩ : ∃ P, x0 * 16777216 + x1 * 65536 + x2 * 256 + x3 = P := ⟨_, rfl⟩
      have z00 := y0.1
      have z01 := y0.2
      have z10 := y1.1
      have z11 := y1.2
      have z20 := y2.1
      have z21 := y2.2
      have z30 := y3.1
      have z31 := y3.2
      have hkE : ckE rs (sumOf o) = if P ≠ sumOf o then 8 else if 4 < rn then 5 else 0 := by unfold ckE; rw [if_neg (by omega), unhide hrd, hP, h3l]
      have HKE := hide hkE
      clear hkE y0 y1 y2 y3 hrd h3l
      generalize sumOf o = SO at *
      by_cases hs : P = SO
      · have hs' : (P != SO) = false := by simpa using hs
        by_cases h5 : 4 < rn
        · have h5' : (4 : Int) < (rn : Int) := by omega
          have hk := hide (show ckE rs SO = 5 by rw [unhide HKE, if_neg (by simpa using hs), if_pos h5])
          clear hs
          go_wp2_with fail
          go_quiet (fail)
          go_wp2_with (go_at_call 37; refine same_world (unhide sc nq) ?_)
          go_ret2
          refine ⟨([], 5), ?_, none, 0, 0, rfl, Mine.nought _ _, (unhide B2).trans ((below_drewN w2 nq).mono (unhide B2).size)⟩
          have := unhide UL2
          rw [unhide hk, if_pos (by decide)] at this
          exact this
        · have h5' : ¬ (4 : Int) < (rn : Int) := by omega
          have hk := hide (show ckE rs SO = 0 by rw [unhide HKE, if_neg (by simpa using hs), if_neg h5])
          clear hs
          go_wp2_with fail
          go_quiet (fail)
          go_wp2_with (go_at_call 37; refine same_world (unhide sc nq) ?_)
          go_ret2
          refine ⟨(o, 0), ?_, a4, n4, k4, rfl, (unhide M4).later (below_drewN _ nq), (unhide B2).trans ((below_drewN w2 nq).mono (unhide B2).size)⟩
          have := unhide UL2
          rw [unhide hk, if_neg (by decide)] at this
          exact this
      · have hs' : (P != SO) = true := by simpa using hs
        have hk := hide (show ckE rs SO = 8 by rw [unhide HKE, if_pos hs])
        clear hs
        go_wp2_with fail
        go_quiet (fail)
        go_wp2_with (go_at_call 37; refine same_world (unhide sc nq) ?_)
        go_ret2
        refine ⟨([], 8), ?_, none, 0, 0, rfl, Mine.nought _ _, (unhide B2).trans ((below_drewN w2 nq).mono (unhide B2).size)⟩
        have := unhide UL2
        rw [unhide hk, if_pos (by decide)] at this
        exact this
  · have ie' : (u.e != 0) = true := by simpa using ie
    have hir : infR (([] : List Blk), u) = ([], 0, u.e) := if_neg ie
    rw [hir] at UL ⊢
    have hUE := hide (show unpE (bs.drop 2) (([], 0, u.e) : List Int × Int × Int) = ([], u.e) by unfold unpE; simp only; rw [if_pos ie])
    clear ie hir m4
    go_wp2_with fail
    go_ret2
    refine ⟨_, unhide UL, none, 0, 0, ?_, by rw [unhide hUE]; exact Mine.nought _ _, unhide B2⟩
    rw [unhide hUE]
    rfl

end Go.Proofs.YtnoabdafmgmenaaGreatDoor
