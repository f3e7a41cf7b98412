/-
  The statement SqueezeFrames, as a call: frames go through squeezed frames and back, in whatever chunks they come. Conditions: the arguments can be read; the tables hold what the program's text says.
-/
import Derived.Test.YtbolaljlhmakeaaGreatDoorSqLives
import Derived.Test.YtbolaljlhmakeaaGreatDoorSqSq
import Derived.Test.YtbolaljlhmakeaaGreatDoorBss
import Derived.Test.YtbolaljlhmakeaaGreatDoorFrmW
namespace Go.Proofs.YtbolaljlhmakeaaGreatDoor
open Go.RowKit
set_option linter.unusedVariables false
set_option linter.unusedSimpArgs false

theorem qat_part (M : Int) (z F : List Int) (hall : (qat M 0 z z.length).2.1 = F) (h0 : (ql M z.length ⟨0, z, 0⟩ []).2.2 = 0) (a k : Nat) (ha : a + k ≤ z.length) (A : Nat) (hA : A = (qat M 0 z a).2.1.length) (t' : List Int) (h : (qat M 0 z (a + k)).2.1 = (qat M 0 z a).2.1 ++ t') :
    A + t'.length ≤ F.length ∧ (F.drop A).take t'.length = t' ∧ A + t'.length = (qat M 0 z (a + k)).2.1.length := by
  obtain ⟨t2, _, h3, _⟩ := qat_chunk M 0 z (a + k) (z.length - (a + k)) (by omega) h0
  rw [show a + k + (z.length - (a + k)) = z.length by omega, hall, h] at h3
  refine ⟨?_, ?_, by rw [h, List.length_append, hA]⟩
  · rw [h3, List.length_append, List.length_append]; omega
  · rw [h3, hA, List.append_assoc, List.drop_left, List.take_left]
theorem qat_in (M : Int) (z F : List Int) (hall : (qat M 0 z z.length).2.1 = F) (h0 : (ql M z.length ⟨0, z, 0⟩ []).2.2 = 0) (a : Nat) (ha : a ≤ z.length) : (qat M 0 z a).2.1.length ≤ F.length := by
  obtain ⟨t2, _, h3, _⟩ := qat_chunk M 0 z a (z.length - a) (by omega) h0
  rw [show a + (z.length - a) = z.length by omega, hall] at h3
  rw [h3, List.length_append]; omega

set_option maxHeartbeats 8000000 in
set_option maxRecDepth 20000 in
theorem lawSqFrames (bo : Option Addr) (bn bc : Nat) (xs : List (List Int)) (I O : Int) (co : Option Addr) (cn cc : Nat) (cs : List Int) (w : World) (hv : Vars w) (hb : Bsl w bo bn bc xs) (hc : Is w co cn cc cs) :
    Calls Tryz.prog 4 #[.slice bo bn bc, .int .i64 I, .int .i64 O, .slice co cn cc] w fun e w' => e = .returned (.bool true) ∧ Below w.heap.size w w' := by
  have cl := hide (slives_any w)
  have ble := hb.le
  have bmx := hb.max
  have cle := hc.le
  have cmx := hc.max
  have v3 := hv.size
  have HB := hide (fun w' (q : Below w.heap.size w w') => hb.later q)
  have HC := hide (fun w' (q : Below w.heap.size w w') => hc.later q)
  have HV := hide (fun w' (q : Below w.heap.size w w') => hv.low q)
  have HLN := hide hb.len
  clear hb hc hv
  by_cases a1 : bn ≤ 10 ∧ 1 ≤ I ∧ I ≤ 200 ∧ 1 ≤ O ∧ O ≤ 200 ∧ cn ≤ 3000
  · obtain ⟨p1, p2, p3, p4, p5, p6⟩ := a1
    obtain ⟨m, rfl⟩ := Int.eq_ofNat_of_zero_le (show 0 ≤ I by omega)
    obtain ⟨M, rfl⟩ := Int.eq_ofNat_of_zero_le (show 0 ≤ O by omega)
    have r1 : ¬ (10 : Int) < (bn : Int) := by omega
    have r2 : ¬ (m : Int) < 1 := by omega
    have r3 : ¬ (200 : Int) < (m : Int) := by omega
    have r4 : ¬ (M : Int) < 1 := by omega
    have r5 : ¬ (200 : Int) < (M : Int) := by omega
    have r6 : ¬ (3000 : Int) < (cn : Int) := by omega
    have m1 : 1 ≤ m := by omega
    have m2 : m ≤ 200 := by omega
    have k1 : 1 ≤ M := by omega
    have k2 : M ≤ 200 := by omega
    go_enter Tryz.func4, Tryz.ntmps4
    go_wp2_with (first
      | (go_at_call 5; refine (unhide cl).mono ?_; rintro e w1 ⟨rfl, b1⟩; have B1 := hide b1; have z1 := b1.size; clear b1))
    go_loopw [9, 10, 11] (fun bv qv iv ws => ∃ (i : Nat) (oo : Option Addr) (oc : Nat) (q : Int) (F : List Int), i ≤ bn ∧ iv = .int .i64 (i : Int) ∧ bv = .slice oo F.length oc ∧ qv = .int .u8 q ∧ 0 ≤ q ∧ q ≤ 255 ∧ (F, q) = Pkt.frs m (xs.take i) 0 ∧ F.length ≤ 504 * i ∧ (∀ b ∈ xs.take i, b.length ≤ 100) ∧ Mine w1.heap.size ws oo F.length oc F ∧ Below w1.heap.size w1 ws) (fun _ _ iv _ => bn - (intOf iv).toNat)
    case atStart => exact ⟨0, none, 0, 0, [], by omega, rfl, rfl, rfl, by omega, by omega, rfl, by simp, by simp, Mine.nought _ _, Below.refl _ _⟩
    case round =>
      obtain ⟨i, oo, oc, q, F, hi, rfl, rfl, rfl, s0, s1, hF, hFl, hsm, hM, hW⟩ := hrel
      have hz := hW.size
      have hW0 := (unhide B1).trans (hW.mono z1)
      by_cases ai : i < bn
      · have ai' : (i : Int) < (bn : Int) := by omega
        obtain ⟨x, hx⟩ : ∃ x, xs[i]? = some x := ⟨_, List.getElem?_eq_getElem (show i < xs.length by rw [unhide HLN]; exact ai)⟩
        obtain ⟨xb, xo, xa, xc, hix, hce, hbs⟩ := (unhide HB wr hW0).at' i x hx
        have xle := hbs.le
        have xmx := hbs.max
        by_cases a3 : x.length ≤ 100
        · have a3' : ¬ (100 : Int) < (x.length : Int) := by omega
          obtain ⟨R, hR⟩ : ∃ R, R = Pkt.splitR (m : Int) x q := ⟨_, rfl⟩
          have hR2 : R = ((Pkt.spl m x.length x q).1, (Pkt.spl m x.length x q).2, 0) := by rw [hR]; unfold Pkt.splitR; rw [if_neg (by simp; omega), if_neg (by omega), Int.toNat_natCast]
          have cs := hide (show Calls Tryz.prog 17 #[.slice xa x.length xc, .int .u8 q, .int .i64 (m : Int)] wr fun e w' => Pkt.OutS wr R e w' by rw [hR]; exact Pkt.split_any xa x.length xc x q m wr hbs s0 s1 (by omega))
          have hnx : Pkt.frs m (xs.take (i + 1)) 0 = (F ++ R.1, R.2.1) := by
            rw [Pkt.take_snoc xs i x hx, Pkt.frs_app, ← hF, hR2]
          have hRl : R.1.length ≤ 504 := by rw [hR2]; have := Pkt.spl_len_le m m1 x.length x q (Nat.le_refl _); simp only; omega
          have hRq : 0 ≤ R.2.1 ∧ R.2.1 ≤ 255 ∧ R.2.2 = 0 := by
            rw [hR2]
            have := (Pkt.frs_byt m [x] q (fun b hb => by simp at hb; subst hb; exact hbs.byt) s0 s1).2
            simp only [Pkt.frs] at this
            exact ⟨this.1, this.2, rfl⟩
          have HNX := hide hnx
          have HSM := hide (show ∀ b ∈ xs.take (i + 1), b.length ≤ 100 by
            intro b hb
            rw [Pkt.take_snoc xs i x hx] at hb
            rcases List.mem_append.1 hb with hb | hb
            · exact hsm b hb
            · simp at hb; subst hb; exact a3)
          have HM := hide hM
          have HW := hide hW
          obtain ⟨t0, t1, t2⟩ := hRq
          clear hR hR2 hnx hbs hM hW hF hsm hx
          generalize hFL : F.length = FL at *
          generalize hRL : R.1.length = RL at *
          go_wp2_with fail
          refine (unhide cs).mono ?_
          rintro e w2 ⟨a2, c2, rfl, mm, b2⟩
          rw [hRL] at mm
          have MB := hide mm.bs
          have HM2 := hide ((unhide HM).later b2)
          have HW2 := hide ((unhide HW).trans (b2.mono hz))
          have z2 := b2.size
          clear mm b2 HM HW hix hce
          rw [hRL]
          go_wp2_with (first
            | (at_builtin; refine wpList_appS rfl (.tmp 81) (.tmp 82) rfl w1.heap.size oo FL oc F rfl (unhide HM2) a2 RL c2 R.1 rfl (unhide MB) (by omega) (by omega) ?_; intro o3 c3 w3 m3 f3; have M3 := hide m3; have F3 := hide f3; clear m3 f3))
          go_roundw
          case rel =>
            have e3 := unhide HNX
            refine ⟨i + 1, o3, c3, R.2.1, F ++ R.1, by omega, by go_num, by rw [List.length_append, hFL, hRL], rfl, t0, t1, e3.symm, by rw [List.length_append, hFL, hRL]; omega, unhide HSM, ?_, ?_⟩
            · rw [List.length_append, hFL, hRL]
              exact unhide M3
            · exact (unhide HW2).trans ((unhide F3).below (by omega) (fun k q => ((unhide HM2).ob q).1))
          case measure => simp [intOf]; omega
        · have a3' : (100 : Int) < (x.length : Int) := by omega
          clear hbs hF hsm hx hM
          go_wp2_with fail
          go_ret
          exact ⟨rfl, hW0⟩
      · have hib : i = bn := by omega
        subst hib
        have ai' : ¬ (i : Int) < (i : Int) := by omega
        obtain ⟨wA, hwA⟩ : ∃ wA, wA = wr := ⟨_, rfl⟩
        subst hwA
        have hxt : xs.take i = xs := List.take_of_length_le (by rw [unhide HLN]; omega)
        rw [hxt] at hF hsm
        clear hxt
        have HF1 := hide (show (Pkt.frs m xs 0).1 = F by rw [← hF])
        have HSM := hide hsm
        have hFL : F.length ≤ 5040 := by omega
        have hocc := hM.bs.le
        have hocx := hM.bs.max
        obtain ⟨X, hX⟩ : ∃ X, X = sqA 20 M F 0 := ⟨_, rfl⟩
        have hXl : X.1.length ≤ 40320 := by
          rw [hX]
          have h1 := sqz_bound 20 M k1 F 0 (pcn M F)
          have h2 := pcn_le k1 F
          unfold sqA
          omega
        have hall := qat_all M 20 0 F hM.bs.byt k1 (by omega)
        have herr : (ql (M : Int) X.1.length ⟨0, X.1, 0⟩ []).2.2 = 0 := by rw [hX, sq_back M 20 0 F hM.bs.byt k1 (by omega) _ (Nat.le_refl _)]
        rw [← hX] at hall
        have HALL := hide (show (qat (M : Int) 0 X.1 X.1.length).2.1 = F by rw [hall])
        have HERR := hide herr
        have cq := hide (squeeze_ok oo F.length oc F 0 20 M wA hM.bs (by omega) (.inl (by omega)) (by omega) (by omega) k1 (by omega) (by omega) (by omega))
        rw [← hX] at cq
        have HW0 := hide hW0
        have zA := hW0.size
        clear hF hsm hM hW0 hW hX hall herr cl B1
        obtain ⟨x, nxt⟩ := X
        simp only at hXl cq HALL HERR
        generalize hFN : F.length = FN at *
        go_wp2_with (first
          | (go_at_call 18; refine (unhide cq).mono ?_; rintro e w2 ⟨a2, n2, c2, rfl, mm2, b2⟩; have M2 := hide mm2; have B2 := hide ((unhide HW0).trans (b2.mono zA)); have z2 := b2.size; have l2 := mm2.len; simp only at l2; have le2 := mm2.bs.le; have mx2 := mm2.bs.max; clear mm2 b2)
          | (go_at_call 6; refine (qNew_ok (M : Int) w2 (by omega) (by omega) (isMost_any (M : Int))).mono ?_; rintro e w3 ⟨rfl, r3', b3⟩; have R3 := hide r3'; have B3 := hide b3; have z3 := r3'.lt; clear r3' b3)
          | (go_at_call 19; refine (Pkt.new_ok (m : Int) 100 w3 (by omega) (by omega) (by omega) (by omega)).mono ?_; rintro e w4 ⟨rfl, r4', b4⟩; have R4 := hide r4'; have B4 := hide b4; have z4 := r4'.rl.lt; clear r4' b4))
        have X4 := hide (show Bs w4 a2 n2 c2 x from ((unhide M2).bs.later (unhide B3)).later (unhide B4))
        have W4 := hide (show Below w.heap.size w w4 from ((unhide B2).trans ((unhide B3).mono (by omega))).trans ((unhide B4).mono (by omega)))
        have hna : ∀ k, ob a2 k → k < w2.heap.size := fun k z => ((unhide M2).ob z).2
        have R3' := hide ((unhide R3).later (unhide B4))
        have cch := hide (chunks_any a2 n2 c2 x co cn cc cs w4 (unhide X4) (unhide HC w4 (unhide W4)) (by omega) (by omega))
        clear cq M2 B2 B3 B4 R3 X4
        obtain ⟨g, hg⟩ : ∃ g, w2.heap.size = g := ⟨_, rfl⟩
        obtain ⟨h, hh⟩ : ∃ h, w3.heap.size = h := ⟨_, rfl⟩
        rw [hg] at z2 z3 hna R3' ⊢
        rw [hh] at z3 z4 R4 ⊢
        go_wp2_with (go_at_call 20; refine (unhide cch).mono ?_; rintro e w5 ⟨o5, n5, c5, ks, vs, rfl, hsum, hn5, hkl, hcut, hs5, b5⟩)
        have z5 := b5.size
        have hgw : w.heap.size ≤ g := by omega
        have hhw : w.heap.size ≤ h := by omega
        have B5 := hide ((unhide W4).trans (b5.mono (unhide W4).size))
        have RD := hide (fun ws (G : Gh g h w5 ws) (j k : Nat) (hk : ks[j]? = some k) => chunks_at2 hkl hcut hs5 b5 G (by omega) (by omega) (fun z => by have := hna _ z; omega) (fun z => by have := hna _ z; omega) hk)
        have HBW := hide (show ∀ ws, Gh g h w5 ws → Below w.heap.size w ws from fun ws G => (unhide B5).trans (G.below (by omega) hgw hhw))
        have C0 := hide (show Dj w5 w5 g h M m x xs 0 0 0 none none none 0 0 0 none 0 0 [] from
          ⟨by rw [qat_zero]; exact (unhide R3').later b5, by rw [Pkt.sat_zero]; exact (unhide R4).later b5, by rw [Pkt.sat_zero]; simp [Pkt.hln], fun k z => by
            rcases z with z | z
            · exact .inl z
            · exact absurd z ob_none, fun k z => by
            rcases z with z | z | z
            · exact .inl z
            · exact absurd z ob_none
            · exact absurd z ob_none, fun k z y => by
            rcases z with z | z
            · rcases y with y | y | y
              · omega
              · exact ob_none y
              · exact ob_none y
            · exact ob_none z, fun k z => by
            rcases z with z | ⟨p, hp, _⟩
            · exact absurd z ob_none
            · exact absurd hp (by simp), fun p hp => absurd hp (by simp), Pkt.KMine.nought _, fun p hp => absurd hp (by simp), by simp, Gh.refl _ _ _⟩)
        have HSUM := hide hsum
        have HKL := hide hkl
        have hgl : g < w5.heap.size := by omega
        have HNA := hide hna
        have cmx5 : c5 ≤ 9223372036854775807 := by
          rcases hs5.own.2 with ⟨hv', h0⟩ | ⟨h, cap, cur, hv', hh, hcc, hle5, hmx5, r⟩
          · simp only [Value.slice.injEq] at hv'; omega
          · simp only [Value.slice.injEq] at hv'; unfold maxLen at hmx5; omega
        have cle5 : n5 ≤ c5 := by
          rcases hs5.own.2 with ⟨hv', h0⟩ | ⟨h, cap, cur, hv', hh, hcc, hle5, hmx5, r⟩
          · simp only [Value.slice.injEq] at hv'; omega
          · simp only [Value.slice.injEq] at hv'; omega
        have g3 : 3 ≤ g := by omega
        clear hsum hkl hcut hs5 b5 R3' R4 W4 cch hna B5 HC HW0
        go_wp2_with fail
        go_loopw [22, 24] (fun tv jv ws => ∃ (j a A : Nat) (ho bo' io : Option Addr) (hc bc' ic : Nat) (to : Option Addr) (tn tc : Nat) (l : List Pkt.Pm), j ≤ n5 ∧ jv = .int .i64 (j : Int) ∧ tv = .slice to tn tc ∧ (ks.take j).sum = a ∧ a ≤ n2 ∧ A = (qat (M : Int) 0 x a).2.1.length ∧ Dj w5 ws g h M m x xs a A (Pkt.cnt m xs 0 A) ho bo' io hc bc' ic to tn tc l) (fun _ jv _ => n5 - (intOf jv).toNat)
        case atStart => exact ⟨0, 0, 0, none, none, none, 0, 0, 0, none, 0, 0, [], by omega, rfl, rfl, rfl, by omega, by rw [qat_zero]; rfl, by rw [Pkt.cnt_zero]; exact unhide C0⟩
        case round =>
          clear C0
          obtain ⟨j, a, A, ho, bo', io, hc, bc', ic, to, tn, tc, l, hj, rfl, rfl, hsa, haF, hA, D⟩ := hrel
          have htn : tn ≤ 10 := by
            have h1 := congrArg List.length D.tl
            rw [List.length_map, D.km.len, List.length_take, unhide HLN] at h1
            omega
          by_cases aj : j < n5
          · have aj' : (j : Int) < (n5 : Int) := by omega
            obtain ⟨k, hk⟩ : ∃ k, ks[j]? = some k := ⟨_, List.getElem?_eq_getElem (show j < ks.length by rw [unhide HKL]; exact aj)⟩
            have hst := sumStep hk
            rw [hsa, unhide HSUM, l2] at hst
            obtain ⟨b, o, ci, cc', hix, hce, hbs, hob⟩ := unhide RD wr D.G j k hk
            rw [hsa] at hbs
            have cf := hide (dj_outer (k := k) D (unhide HV wr (unhide HBW wr D.G)) g3 hgl (by omega) (by omega) (unhide HERR) ci cc' hbs (fun k z => unhide HNA k (hob k z)))
            have QP := hide (fun t' => qat_part (M : Int) x F (unhide HALL) (unhide HERR) a k (by omega) A hA t')
            have ccl := hbs.le
            have ccx := hbs.max
            have HST := hide hst.1
            have hst2 := hst.2
            clear hst hbs D hsa hk hob hA
            go_wp2_with (first
              | (go_at_call 11; refine (unhide cf).mono ?_; rintro e w6 ⟨yo, yn, yc, ho6, hc6, t6, rfl, hy6, hq6, D6⟩; obtain ⟨s1', s2', s3'⟩ := unhide QP t6 hq6; have hyl := hy6.len; rw [hyl] at s1' s2' s3'; have S3 := hide s3'; have yle := hy6.le; have ymx := hy6.max; have cf2 := hide (dj_inner (k := yn) D6 m1 (by omega) (unhide HSM) (by rw [unhide HF1]; exact s1') (by omega) yo yc (by rw [unhide HF1, s2']; exact hy6)); clear D6 hy6 hq6 s2' s3' hyl)
              | (go_at_call 21; refine (unhide cf2).mono ?_; rintro e w7 ⟨po, pn, pc, l7, bo7, bc7, io7, ic7, rfl, km7, bd7, hl7, new7, D7⟩; have hpn : pn ≤ 10 := (by have h1 := congrArg List.length hl7; rw [List.length_map, km7.len, List.length_drop, List.length_take, unhide HLN] at h1; omega); have KM7 := hide km7; have BD7 := hide bd7; have HL7 := hide hl7; have NEW7 := hide new7; have DD7 := hide D7; clear km7 bd7 hl7 new7 D7)
              | (at_builtin; refine Pkt.wpList_kappL rfl (.tmp 150) (.tmp 151) rfl _ _ _ _ rfl (unhide DD7).km _ _ _ _ rfl (unhide KM7) (by omega) ?_; intro to8 tc8 w8 m8 f8; have D8 := hide ((unhide DD7).push (unhide BD7) (unhide HL7) (Pkt.cnt_mono m xs 0 A (A + yn) (by omega)) (Pkt.cnt_le m xs 0 (A + yn)) (unhide NEW7) m8 f8); clear m8 f8))
            go_roundw
            case rel => exact ⟨j + 1, a + k, A + yn, _, _, _, _, _, _, to8, _, tc8, _, by omega, by go_num, rfl, unhide HST, by omega, unhide S3, unhide D8⟩
            case measure => simp [intOf]; omega
          · have aj' : ¬ (j : Int) < (n5 : Int) := by omega
            have hjn : j = n5 := by omega
            have haf : a = x.length := by rw [← hsa, hjn, List.take_of_length_le (by rw [unhide HKL]; omega), unhide HSUM]
            have hAF : A = F.length := by rw [hA, haf, unhide HALL]
            have hca : Pkt.cnt m xs 0 A = xs.length := by
              have := Pkt.cnt_all m xs 0
              rw [unhide HF1, ← hAF] at this
              exact this
            have htl := D.tl
            rw [hca, List.take_of_length_le (Nat.le_refl _)] at htl
            have hti : tn = i := by
              have h1 := congrArg List.length htl
              rw [List.length_map, D.km.len, unhide HLN] at h1
              exact h1
            have PK := hide (D.km.pks D.bd)
            have HBB := hide (unhide HBW wr D.G)
            have HTL := hide htl
            have tle := (unhide PK).le
            have tmx := (unhide PK).max
            clear D hca htl hA hsa haf hAF
            subst hti
            go_wp2_with fail
            go_loopw [29] (fun iv ws => ∃ (u : Nat), u ≤ tn ∧ iv = .int .i64 (u : Int) ∧ Pkt.Pks ws to tn tc l ∧ Below w.heap.size w ws) (fun iv _ => tn - (intOf iv).toNat)
            case atStart => exact ⟨0, by omega, rfl, unhide PK, unhide HBB⟩
            case round =>
              clear PK HBB
              obtain ⟨u, hu, rfl, hP, hBB⟩ := hrel
              by_cases au : u < tn
              · have au' : (u : Int) < (tn : Int) := by omega
                have au2 : ¬ (tn : Int) ≤ (u : Int) := by omega
                obtain ⟨p, hp1⟩ : ∃ p, l[u]? = some p := ⟨_, List.getElem?_eq_getElem (show u < l.length by rw [hP.len]; exact au)⟩
                have hp2 : xs[u]? = some p.bs := by rw [← unhide HTL, List.getElem?_map, hp1]; rfl
                obtain ⟨pb, po, hpx, _, _, hpc⟩ := hP.idx hp1 (u : Int) rfl
                obtain ⟨xb, xo, xa, xc, hxx, hxc, hxb⟩ := (unhide HB wr hBB).at' u p.bs hp2
                have hpb := hP.bod p (List.mem_of_getElem? hp1)
                have cS := hide (fun d => sameBytes_any p.ao p.bs.length p.cap p.bs xa p.bs.length xc p.bs (wr.drewN d) (hpb.later (Pkt.below_drewN wr d)) (hxb.later (Pkt.below_drewN wr d)))
                simp only [decide_true] at cS
                have HPP := hide hP
                have HBX := hide hBB
                clear hP hBB hpb hxb hp1 hp2
                generalize p.bs.length = PL at *
                go_wp2_with fail
                go_quiet (first
                  | (go_at_call 13; refine Calls.quiet_of_same (unhide cS _)))
                go_wp2_with fail
                go_roundw
                case rel => exact ⟨u + 1, by omega, by go_num, (unhide HPP).later (Pkt.below_drewN wr _), (unhide HBX).trans ((Pkt.below_drewN wr _).mono (unhide HBX).size)⟩
                case measure => simp [intOf]; omega
              · have au' : ¬ (u : Int) < (tn : Int) := by omega
                have HBX := hide hBB
                clear hP hBB
                go_wp2_with fail
                go_ret
                exact ⟨by simp, unhide HBX⟩
  · have hcs : (10 : Int) < (bn : Int) ∨ (¬ (10 : Int) < (bn : Int) ∧ I < 1) ∨ (¬ (10 : Int) < (bn : Int) ∧ ¬ I < 1 ∧ 200 < I) ∨ (¬ (10 : Int) < (bn : Int) ∧ ¬ I < 1 ∧ ¬ 200 < I ∧ O < 1) ∨ (¬ (10 : Int) < (bn : Int) ∧ ¬ I < 1 ∧ ¬ 200 < I ∧ ¬ O < 1 ∧ 200 < O) ∨ (¬ (10 : Int) < (bn : Int) ∧ ¬ I < 1 ∧ ¬ 200 < I ∧ ¬ O < 1 ∧ ¬ 200 < O ∧ (3000 : Int) < (cn : Int)) := by omega
    clear a1
    rcases hcs with k0 | ⟨k0, k1⟩ | ⟨k0, k1, k2⟩ | ⟨k0, k1, k2, k3⟩ | ⟨k0, k1, k2, k3, k4⟩ | ⟨k0, k1, k2, k3, k4, k5⟩
    all_goals
      go_enter Tryz.func4, Tryz.ntmps4
      go_wp2_with (first
        | (go_at_call 5; refine (unhide cl).mono ?_; rintro e w1 ⟨rfl, b1⟩; have B1 := hide b1; clear b1))
      go_ret
      exact ⟨rfl, unhide B1⟩
end Go.Proofs.YtbolaljlhmakeaaGreatDoor
