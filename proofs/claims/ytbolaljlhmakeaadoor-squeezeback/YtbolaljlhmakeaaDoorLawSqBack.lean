/-
  The statement SqueezeBack, as a call: whatever is squeezed is told as it was, in whatever chunks it comes, and little longer than it was. Conditions: the arguments can be read; the tables hold what the program's text says.
-/
import Derived.Test.YtbolaljlhmakeaaDoorSqLives
import Derived.Test.YtbolaljlhmakeaaDoorSqChk
namespace Go.Proofs.YtbolaljlhmakeaaDoor
open Go.RowKit
set_option linter.unusedVariables false
set_option linter.unusedSimpArgs false

theorem qxE_z : qxE qz = 0 := rfl
theorem qxS_z (q : Int) : qxS qz q = ⟨q, [], 0⟩ := rfl

set_option maxHeartbeats 8000000 in
set_option maxRecDepth 20000 in
theorem lawSqBack (bo : Option Addr) (bn bc : Nat) (bs : List Int) (q N T : Int) (co : Option Addr) (cn cc : Nat) (cs : List Int) (w : World) (hv : Vars w) (hb : Bs w bo bn bc bs) (q0 : 0 ≤ q) (q1 : q ≤ 255) (hc : Is w co cn cc cs) :
    Calls Tryd.prog 4 #[.slice bo bn bc, .int .u8 q, .int .i64 N, .int .i64 T, .slice co cn cc] w fun e w' => e = .returned (.bool true) ∧ Below w.heap.size w w' := by
  have cl := hide (slives_any w)
  have ble := hb.le
  have bmx := hb.max
  have cle := hc.le
  have cmx := hc.max
  by_cases a1 : bn ≤ 1000 ∧ 1 ≤ N ∧ N ≤ 1000 ∧ 0 ≤ T ∧ T ≤ 2000 ∧ cn ≤ 3000
  · obtain ⟨p1, p2, p3, p4, p5, p6⟩ := a1
    obtain ⟨m, rfl⟩ := Int.eq_ofNat_of_zero_le (show 0 ≤ N by omega)
    have r1 : ¬ (1000 : Int) < (bn : Int) := by omega
    have r2 : ¬ (m : Int) < 1 := by omega
    have r3 : ¬ (1000 : Int) < (m : Int) := by omega
    have r4 : ¬ T < 0 := by omega
    have r5 : ¬ 2000 < T := by omega
    have r6 : ¬ (3000 : Int) < (cn : Int) := by omega
    have m1 : 1 ≤ m := by omega
    have m2 : m ≤ 1000 := by omega
    obtain ⟨X, hX⟩ : ∃ X, X = sqA T m bs q := ⟨_, rfl⟩
    have hXl : X.1.length ≤ bn + 7 * pcn m bs := by
      rw [hX]
      have := sqz_bound T m m1 bs q (pcn m bs)
      have hl := hb.len
      unfold sqA
      omega
    have hall := qat_all m T q bs hb.byt m1 m2
    have herr : (ql (m : Int) X.1.length ⟨q, X.1, 0⟩ []).2.2 = 0 := by rw [hX, sq_back m T q bs hb.byt m1 m2 _ (Nat.le_refl _)]
    rw [← hX] at hall
    have hXq : 0 ≤ X.2 ∧ X.2 ≤ 255 := by rw [hX]; exact sqz_q T m bs q q0 q1 _
    obtain ⟨K, hK⟩ : ∃ K : Nat, K = pcn m bs := ⟨_, rfl⟩
    have hKv : K = (bn + m - 1) / m := by rw [hK, ← hb.len]; rfl
    rw [← hK] at hXl
    have hKn : K ≤ 1000 := by rw [hK]; have := pcn_le m1 bs; have := hb.len; omega
    have d0 : (bn : Int) + (m : Int) - 1 = ((bn + m - 1 : Nat) : Int) := by omega
    have d1 : ((bn : Int) + (m : Int) - 1) / (m : Int) = (K : Int) := by rw [hKv, d0]; simp
    have d2 : ((bn : Int) + (m : Int) - 1).tdiv (m : Int) = (K : Int) := by rw [Int.tdiv_eq_ediv_of_nonneg (by omega)]; exact d1
    have cq := hide (fun w1 (h : Bs w1 bo bn bc bs) => squeeze_ok bo bn bc bs q T m w1 h (by omega) q0 q1 m1 (by omega) (by omega) (by omega))
    rw [← hX] at cq
    have HB := hide (fun w' (z : Below w.heap.size w w') => hb.later z)
    have HC := hide (fun w' (z : Below w.heap.size w w') => hc.later z)
    have HV := hide (fun w' (z : Below w.heap.size w w') => hv.low z)
    have v3 := hv.size
    have HALL := hide hall
    have HERR := hide herr
    clear hb hc hv hX hall herr hK hKv d0
    obtain ⟨x, nxt⟩ := X
    simp only at hXl cq HALL HERR hXq
    go_enter Tryd.func4, Tryd.ntmps4
    go_wp2_with (first
      | (go_at_call 12; refine (unhide cl).mono ?_; rintro e w1 ⟨rfl, b1⟩; have B1 := hide b1; have z1 := b1.size; clear b1)
      | (go_at_call 6; refine (unhide cq w1 (unhide HB w1 (unhide B1))).mono ?_; rintro e w2 ⟨a2, n2, c2, rfl, mm2, b2⟩; have M2 := hide mm2; have B2 := hide ((unhide B1).trans (b2.mono z1)); have z2 := b2.size; have l2 := mm2.len; simp only at l2; have le2 := mm2.bs.le; have mx2 := mm2.bs.max; clear mm2 b2)
      | (go_at_call 8; refine (qNew_ok (m : Int) w2 (by omega) (by omega) (isMost_any (m : Int))).mono ?_; rintro e w3 ⟨rfl, r3', b3⟩; have R3 := hide r3'; have B3 := hide b3; have z3 := r3'.lt; clear r3' b3)
      | (go_at_call 13; refine (qExpect_any w3 (unhide R3) q q0 q1).mono ?_; rw [qxE_z, qxS_z]; rintro e w4 ⟨rfl, r4', g4⟩; have R4 := hide r4'; have G4 := hide g4; clear r4' g4))
    obtain ⟨g, hg⟩ : ∃ g, w2.heap.size = g := ⟨_, rfl⟩
    rw [hg] at z2 z3 R3 R4 G4 B3
    rw [hg]
    have hgw : w.heap.size ≤ g := by omega
    have hna : ∀ k, ob a2 k → k < g := fun k z => by have := ((unhide M2).ob z).2; omega
    have z4 := (unhide G4).size
    have B4 := hide (show Below w.heap.size w w4 from ((unhide B2).trans ((unhide B3).mono hgw)).trans ⟨(unhide G4).os, (unhide G4).tape, (unhide G4).output, z4, fun k hk => (unhide G4).block k (by omega) (by omega)⟩)
    have X4 := hide (show Bs w4 a2 n2 c2 x from (((unhide M2).bs.later (by rw [hg]; exact unhide B3)).keepB fun k z hl => (unhide G4).block k hl (fun e => by have := hna k z; omega)))
    have hxn : n2 ≤ 8000 := by omega
    have cch := hide (chunks_any a2 n2 c2 x co cn cc cs w4 (unhide X4) (unhide HC w4 (unhide B4)) (by omega) (by omega))
    clear cl cq M2 R3 B3 B1 B2 X4
    go_wp2_with (go_at_call 14; refine (unhide cch).mono ?_; rintro e w5 ⟨o5, n5, c5, ks, vs, rfl, hsum, hn5, hkl, hcut, hs5, b5⟩)
    have z5 := b5.size
    have B5 := hide ((unhide B4).trans (b5.mono (unhide B4).size))
    have RD := hide (fun ws (G : Gb g w5 ws) (j k : Nat) (hk : ks[j]? = some k) => chunks_at hkl hcut hs5 b5 G (by omega) (fun z => by have := hna _ z; omega) hk)
    have HBW := hide (show ∀ ws, Gb g w5 ws → Below w.heap.size w ws from fun ws G => (unhide B5).trans ⟨G.os, G.tape, G.output, G.size, fun k hk => G.block k (by omega) (by omega)⟩)
    have C0 := hide (show Bq w5 w5 g m q x 0 none 0 0 from ⟨none, 0, by rw [qat_zero]; exact (unhide R4).later b5, fun k z => by
      rcases z with z | z
      · exact .inl z
      · exact absurd z ob_none, fun k z => absurd z ob_none, by rw [qat_zero]; exact Mine.nought _ _, Gb.refl _ _⟩)
    have HSUM := hide hsum
    have HKL := hide hkl
    have hgl : g < w5.heap.size := by omega
    have HNA := hide hna
    have cmx5 : c5 ≤ 9223372036854775807 := by
      rcases hs5.own.2 with ⟨hv', h0⟩ | ⟨h, cap, cur, hv', hh, hcc, hle5, hmx5, r⟩
      · simp only [Value.slice.injEq] at hv'; omega
      · simp only [Value.slice.injEq] at hv'; unfold maxLen at hmx5; omega
    have cle5 : n5 ≤ c5 := by
      rcases hs5.own.2 with ⟨hv', h0⟩ | ⟨h, cap, cur, hv', hh, hcc, hle5, hmx5, r⟩
      · simp only [Value.slice.injEq] at hv'; omega
      · simp only [Value.slice.injEq] at hv'; omega
    clear hsum hkl hcut hs5 b5 R4 G4 B4 cch hna z5 B5
    go_wp2_with fail
    go_loopw [16, 18] (fun tv jv ws => ∃ (j a : Nat) (to : Option Addr) (tn tc : Nat), j ≤ n5 ∧ jv = .int .i64 (j : Int) ∧ tv = .slice to tn tc ∧ (ks.take j).sum = a ∧ a ≤ n2 ∧ Bq w5 ws g m q x a to tn tc) (fun _ jv _ => n5 - (intOf jv).toNat)
    case atStart => exact ⟨0, 0, none, 0, 0, by omega, rfl, rfl, rfl, by omega, unhide C0⟩
    case round =>
      clear C0
      obtain ⟨j, a, to, tn, tc, hj, rfl, rfl, hsa, haF, hQ⟩ := hrel
      have htl : tn ≤ 100000000 := by
        obtain ⟨_, _, _, _, _, hM, _⟩ := hQ
        have h1 := hM.len
        have h2 := (qat_chunk (m : Int) q x a (x.length - a) (by omega) (unhide HERR))
        obtain ⟨t', _, h3, _⟩ := h2
        rw [show a + (x.length - a) = x.length by omega, unhide HALL] at h3
        simp only at h3
        have h4 := congrArg List.length h3
        rw [List.length_append] at h4
        have h5 := (unhide HB w (Below.refl _ _)).len
        omega
      by_cases aj : j < n5
      · have aj' : (j : Int) < (n5 : Int) := by omega
        obtain ⟨k, hk⟩ : ∃ k, ks[j]? = some k := ⟨_, List.getElem?_eq_getElem (show j < ks.length by rw [unhide HKL]; exact aj)⟩
        have hst := sumStep hk
        rw [hsa, unhide HSUM, l2] at hst
        obtain ⟨b, o, ci, cc', hix, hce, hbs, hob⟩ := unhide RD wr hQ.gb j k hk
        rw [hsa] at hbs
        have cf := hide (chunk_more (k := k) hQ (unhide HV wr (unhide HBW wr hQ.gb)) (by omega) hgl (by omega) (by omega) (unhide HERR) ci cc' hbs (fun k z => unhide HNA k (hob k z)))
        have ccl := hbs.le
        have ccx := hbs.max
        have HST := hide hst.1
        have hst2 := hst.2
        obtain ⟨_, _, _, _, hqP⟩ := qat_chunk (m : Int) q x (a + k) 0 (by omega) (unhide HERR)
        have HQP := hide hqP
        clear hst hbs hQ hsa hk hqP hob
        go_wp2_with (first
          | (go_at_call 9; refine (unhide cf).mono ?_; rintro e w6 ⟨yo, yn, yc, ho6, t6, rfl, my, hq6, hr6, hl6, hd6, hdy, hM6, hG6, hz6⟩; have MY := hide my.bs; have hyl := my.len; have hyb : yn ≤ 100000000 := (by have h1 := congrArg List.length hq6; rw [List.length_append] at h1; have h2 := (qat_chunk (m : Int) q x (a + k) (x.length - (a + k)) (by omega) (unhide HERR)); obtain ⟨t', _, h3, _⟩ := h2; rw [show a + k + (x.length - (a + k)) = x.length by omega, unhide HALL] at h3; simp only at h3; have h4 := congrArg List.length h3; rw [List.length_append] at h4; have h5 := (unhide HB w (Below.refl _ _)).len; omega); have HQ6 := hide hq6; have HR6 := hide hr6; have HL6 := hide hl6; have HD6 := hide hd6; have HM6 := hide hM6; have HG6 := hide hG6; clear my hq6 hr6 hl6 hd6 hdy hM6 hG6 hyl)
          | (at_builtin; refine wpList_appS rfl (.tmp 111) (.tmp 112) rfl w5.heap.size _ _ _ _ rfl (unhide HM6) _ _ _ _ rfl (unhide MY) (by omega) (unhide HG6).size ?_; intro to7 tc7 w7 m7 f7; have Q7 := hide (Bq.push (unhide HQ6) (unhide HR6) (unhide HL6) (unhide HD6) (unhide HM6) (unhide HG6) m7 f7); obtain ⟨ho7, hc7, hr7, _⟩ := unhide Q7; have ch := hide (qHeld_any w7 hr7); have hhl := (unhide HQP).le hr7.own.byt (by omega); clear m7 f7 hr7)
          | (go_at_call 15; refine same_world (unhide ch) ?_))
        go_roundw
        case rel => exact ⟨j + 1, a + k, to7, _, tc7, by omega, by go_num, rfl, unhide HST, by omega, unhide Q7⟩
        case measure => simp [intOf]; omega
      · have aj' : ¬ (j : Int) < (n5 : Int) := by omega
        have hjn : j = n5 := by omega
        have haf : a = x.length := by rw [← hsa, hjn, List.take_of_length_le (by rw [unhide HKL]; omega), unhide HSUM]
        obtain ⟨ho, hc', hr, _, _, hM, hG⟩ := hQ
        rw [haf, unhide HALL] at hr hM
        simp only at hr hM
        have cS := hide (sameBytes_any to tn tc bs bo bn bc bs wr hM.bs (unhide HB wr (unhide HBW wr hG)))
        simp only [decide_true] at cS
        have ch := hide (qHeld_any wr hr)
        have cx := hide (qNext_any wr hr)
        simp only [List.length_nil] at ch
        have HBB := hide (unhide HBW wr hG)
        clear hr hM hG
        go_wp2_with (first
          | (go_at_call 7; refine same_world (unhide cS) ?_)
          | (go_at_call 15; refine same_world (unhide ch) ?_)
          | (go_at_call 10; refine same_world (unhide cx) ?_))
        go_ret
        exact ⟨by simp, unhide HBB⟩
  · have hcs : (1000 : Int) < (bn : Int) ∨ (¬ (1000 : Int) < (bn : Int) ∧ N < 1) ∨ (¬ (1000 : Int) < (bn : Int) ∧ ¬ N < 1 ∧ 1000 < N) ∨ (¬ (1000 : Int) < (bn : Int) ∧ ¬ N < 1 ∧ ¬ 1000 < N ∧ T < 0) ∨ (¬ (1000 : Int) < (bn : Int) ∧ ¬ N < 1 ∧ ¬ 1000 < N ∧ ¬ T < 0 ∧ 2000 < T) ∨ (¬ (1000 : Int) < (bn : Int) ∧ ¬ N < 1 ∧ ¬ 1000 < N ∧ ¬ T < 0 ∧ ¬ 2000 < T ∧ (3000 : Int) < (cn : Int)) := by omega
    clear a1 hb hc hv
    rcases hcs with k0 | ⟨k0, k1⟩ | ⟨k0, k1, k2⟩ | ⟨k0, k1, k2, k3⟩ | ⟨k0, k1, k2, k3, k4⟩ | ⟨k0, k1, k2, k3, k4, k5⟩
    all_goals
      go_enter Tryd.func4, Tryd.ntmps4
      go_wp2_with (first
        | (go_at_call 12; refine (unhide cl).mono ?_; rintro e w1 ⟨rfl, b1⟩; have B1 := hide b1; clear b1))
      go_ret
      exact ⟨rfl, unhide B1⟩
end Go.Proofs.YtbolaljlhmakeaaDoor
