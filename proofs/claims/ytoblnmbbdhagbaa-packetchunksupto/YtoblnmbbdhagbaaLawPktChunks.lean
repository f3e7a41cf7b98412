/-
  The statement PacketChunks, as a call: in whatever chunks frames come, the same payloads are told, each as soon as its last byte is there. Conditions: none but that the payloads and the cuts can be read.
-/
import Derived.Test.YtoblnmbbdhagbaaChunkS
import Derived.Test.YtoblnmbbdhagbaaChunkW
import Derived.Test.YtoblnmbbdhagbaaIChg
namespace Go.Proofs.Ytoblnmbbdhagbaa
open Go.RowKit
set_option linter.unusedVariables false
set_option linter.unusedSimpArgs false

theorem take_snoc {α : Type} (l : List α) (i : Nat) (x : α) (h : l[i]? = some x) : l.take (i + 1) = l.take i ++ [x] := by
  rw [List.take_add_one, h]
  rfl
theorem spl_len_le (M : Nat) (hM : 1 ≤ M) : ∀ (f : Nat) (b : List Int) (q : Int), b.length ≤ f → (spl M f b q).1.length ≤ 5 * b.length + 4
  | 0, b, q, h => by simp only [spl]; rw [fr1_len]; omega
  | f + 1, b, q, h => by
    simp only [spl]
    split
    · have := spl_len_le M hM f (b.drop M) ((q + 1) % 256) (by rw [List.length_drop]; omega)
      rw [List.length_append, fr1_len, List.length_take]
      rw [List.length_drop] at this
      omega
    · rw [fr1_len]; omega
/-- The ends of the first i payloads. -/
def eds (M : Nat) (r : List (List Int)) (i : Nat) : List Int := (List.range i).map fun j => ((eoe M r 0 j : Nat) : Int)
theorem eds_next (M : Nat) (r : List (List Int)) (i : Nat) : eds M r (i + 1) = eds M r i ++ [((eoe M r 0 i : Nat) : Int)] := by unfold eds; rw [List.range_succ, List.map_append]; rfl
theorem eds_at (M : Nat) (r : List (List Int)) (n i : Nat) (h : i < n) : (eds M r n)[i]?.getD 0 = ((eoe M r 0 i : Nat) : Int) := by
  unfold eds
  rw [List.getElem?_map, List.getElem?_range h]
  rfl
theorem cnt_zero (M : Nat) (r : List (List Int)) (q : Int) : cnt M r q 0 = 0 := by
  cases r with
  | nil => rfl
  | cons b r =>
    have := spl_pos M b.length b q
    simp only [cnt]
    rw [if_neg (by omega)]

set_option maxHeartbeats 4000000 in
set_option maxRecDepth 20000 in
theorem lawPktChunks (bo : Option Addr) (bn bc : Nat) (xs : List (List Int)) (M : Int) (co : Option Addr) (cn cc : Nat) (cs : List Int) (w : World) (hb : Bsl w bo bn bc xs) (hc : Is w co cn cc cs) :
    Calls Try.prog 6 #[.slice bo bn bc, .int .i64 M, .slice co cn cc] w fun e w' => e = .returned (.bool true) ∧ Below w.heap.size w w' := by
  have cl := hide (lives_any w)
  have ble := hb.le
  have bmx := hb.max
  have cle := hc.le
  have cmx := hc.max
  have HB := hide (fun w' (q : Below w.heap.size w w') => hb.later q)
  have HC := hide (fun w' (q : Below w.heap.size w w') => hc.later q)
  have HLN := hide hb.len
  clear hb hc
  by_cases a1 : bn ≤ 20 ∧ 1 ≤ M ∧ M ≤ 300 ∧ cn ≤ 3000
  · obtain ⟨p1, p2, p3, p4⟩ := a1
    obtain ⟨m, rfl⟩ := Int.eq_ofNat_of_zero_le (show 0 ≤ M by omega)
    have q1 : ¬ (20 : Int) < (bn : Int) := by omega
    have q2 : ¬ (m : Int) < 1 := by omega
    have q3 : ¬ (300 : Int) < (m : Int) := by omega
    have q4 : ¬ (3000 : Int) < (cn : Int) := by omega
    have m1 : 1 ≤ m := by omega
    have m2 : m ≤ 300 := by omega
    go_enter Try.func6, Try.ntmps6
    go_wp2_with (first
      | (go_at_call 16; refine (unhide cl).mono ?_; rintro e w1 ⟨rfl, b1⟩; have B1 := hide b1; have z1 := b1.size; clear b1))
    go_loopw [7, 8, 9, 10] (fun bv ev qv iv ws => ∃ (i : Nat) (oo : Option Addr) (oc : Nat) (eo : Option Addr) (ec : Nat) (q : Int) (F : List Int), i ≤ bn ∧ iv = .int .i64 (i : Int) ∧ bv = .slice oo F.length oc ∧ ev = .slice eo i ec ∧ qv = .int .u8 q ∧ 0 ≤ q ∧ q ≤ 255 ∧ (F, q) = frs m (xs.take i) 0 ∧ F.length ≤ 1504 * i ∧ (∀ b ∈ xs.take i, b.length ≤ 300) ∧ Mine w1.heap.size ws oo F.length oc F ∧ IMine w1.heap.size ws eo i ec (eds m xs i) ∧ (∀ k, ob oo k → ¬ ob eo k) ∧ Below w1.heap.size w1 ws) (fun _ _ _ iv _ => bn - (intOf iv).toNat)
    case atStart => exact ⟨0, none, 0, none, 0, 0, [], by omega, rfl, rfl, rfl, rfl, by omega, by omega, rfl, by simp, by simp, Mine.nought _ _, IMine.nought _ _, fun k h => absurd h ob_none, Below.refl _ _⟩
    case round =>
      obtain ⟨i, oo, oc, eo, ec, q, F, hi, rfl, rfl, rfl, rfl, s0, s1, hF, hFl, hsm, hM, hI, hdj, hW⟩ := hrel
      have hz := hW.size
      have hW0 := (unhide B1).trans (hW.mono z1)
      by_cases ai : i < bn
      · have ai' : (i : Int) < (bn : Int) := by omega
        obtain ⟨x, hx⟩ : ∃ x, xs[i]? = some x := ⟨_, List.getElem?_eq_getElem (show i < xs.length by rw [unhide HLN]; exact ai)⟩
        obtain ⟨xb, xo, xa, xc, hix, hce, hbs⟩ := (unhide HB wr hW0).at' i x hx
        have xle := hbs.le
        have xmx := hbs.max
        by_cases a3 : x.length ≤ 300
        · have a3' : ¬ (300 : Int) < (x.length : Int) := by omega
          obtain ⟨R, hR⟩ : ∃ R, R = splitR (m : Int) x q := ⟨_, rfl⟩
          have hR2 : R = ((spl m x.length x q).1, (spl m x.length x q).2, 0) := by rw [hR]; unfold splitR; rw [if_neg (by simp; omega), if_neg (by omega), Int.toNat_natCast]
          have cs := hide (show Calls Try.prog 9 #[.slice xa x.length xc, .int .u8 q, .int .i64 (m : Int)] wr fun e w' => OutS wr R e w' by rw [hR]; exact split_any xa x.length xc x q m wr hbs s0 s1 (by omega))
          have hnx : frs m (xs.take (i + 1)) 0 = (F ++ R.1, R.2.1) := by
            rw [take_snoc xs i x hx, frs_app, ← hF, hR2]
          have hRl : R.1.length ≤ 1504 := by rw [hR2]; have := spl_len_le m m1 x.length x q (Nat.le_refl _); simp only; omega
          have hRq : 0 ≤ R.2.1 ∧ R.2.1 ≤ 255 ∧ R.2.2 = 0 := by
            rw [hR2]
            have := (frs_byt m [x] q (fun b hb => by simp at hb; subst hb; exact hbs.byt) s0 s1).2
            simp only [frs] at this
            exact ⟨this.1, this.2, rfl⟩
          have hee : eoe m xs 0 i = F.length + R.1.length := by unfold eoe; rw [hnx]; simp
          have HNX := hide hnx
          have HEE := hide hee
          have HSM := hide (show ∀ b ∈ xs.take (i + 1), b.length ≤ 300 by
            intro b hb
            rw [take_snoc xs i x hx] at hb
            rcases List.mem_append.1 hb with hb | hb
            · exact hsm b hb
            · simp at hb; subst hb; exact a3)
          have HM := hide hM
          have HI := hide hI
          have HDJ := hide hdj
          have HW := hide hW
          obtain ⟨t0, t1, t2⟩ := hRq
          clear hR hR2 hnx hee hbs hM hI hdj hW hF hsm hx
          generalize hFL : F.length = FL at *
          generalize hRL : R.1.length = RL at *
          go_wp2_with fail
          refine (unhide cs).mono ?_
          rintro e w2 ⟨a2, c2, rfl, mm, b2⟩
          rw [hRL] at mm
          have MB := hide mm.bs
          have HM2 := hide ((unhide HM).later b2)
          have HI2 := hide ((unhide HI).later b2)
          have HW2 := hide ((unhide HW).trans (b2.mono hz))
          have z2 := b2.size
          have ecl := (unhide HI2).is.le
          clear mm b2 HM HI HW hix hce
          rw [hRL]
          go_wp2_with (first
            | (at_builtin; refine wpList_appS rfl (.tmp 66) (.tmp 67) rfl w1.heap.size oo FL oc F rfl (unhide HM2) a2 RL c2 R.1 rfl (unhide MB) (by omega) (by omega) ?_; intro o3 c3 w3 m3 f3; have M3 := hide m3; have F3 := hide f3; have z3 := f3.size; have I3 := hide ((unhide HI2).fs f3 (fun k q p => unhide HDJ k p q)); clear m3 f3)
            | (at_builtin; refine wpList_iappS rfl (.tmp 69) (.tmp 72) rfl w1.heap.size eo i ec (eds m xs i) rfl ((unhide I3).later (below_alloc _ _)) ⟨w3.heap.size, 0, none⟩ 1 _ rfl (Is.one w3 _ (by omega) (by omega)) (by omega) (by simp; omega) ?_; intro o4 c4 w4 m4 f4; have M4 := hide m4; have F4 := hide f4; clear m4 f4))
          have hd3 : ∀ k, ob o3 k → ¬ ob eo k := by
            intro k q p
            rcases (unhide F3).src k q with q | q
            · exact unhide HDJ k q p
            · have := ((unhide HI2).ob p).2; omega
          go_roundw
          case rel =>
            have hz4 := (unhide F4).size
            have e3 := unhide HNX
            refine ⟨i + 1, o3, c3, o4, c4, R.2.1, F ++ R.1, by omega, by go_num, by rw [List.length_append, hFL, hRL], rfl, rfl, t0, t1, e3.symm, by rw [List.length_append, hFL, hRL]; omega, unhide HSM, ?_, ?_, ?_, ?_⟩
            · rw [List.length_append, hFL, hRL]
              exact ((unhide M3).later (below_alloc _ _)).fs (unhide F4) hd3
            · rw [eds_next, unhide HEE]
              exact unhide M4
            · intro k q p
              rcases (unhide F4).src k p with p | p
              · exact hd3 k q p
              · have := ((unhide M3).ob q).2; simp at p; omega
            · exact (((unhide HW2).trans ((unhide F3).below (by omega) (fun k q => ((unhide HM2).ob q).1))).trans ((below_alloc _ _).mono (by omega))).trans ((unhide F4).below (by simp; omega) (fun k q => ((unhide HI2).ob q).1))
          case measure => simp [intOf]; omega
        · have a3' : (300 : Int) < (x.length : Int) := by omega
          clear hbs hF hsm hx hM hI hdj
          go_wp2_with fail
          go_ret
          exact ⟨rfl, hW0⟩
      · have hib : i = bn := by omega
        subst hib
        have ai' : ¬ (i : Int) < (i : Int) := by omega
        obtain ⟨w5, hw5⟩ : ∃ w5, w5 = wr := ⟨_, rfl⟩
        subst hw5
        have hxt : xs.take i = xs := List.take_of_length_le (by rw [unhide HLN]; omega)
        rw [hxt] at hF hsm
        clear hxt
        have hF1 : (frs m xs 0).1 = F := by rw [← hF]
        have hF2 : (frs m xs 0).2 = q := by rw [← hF]
        have HF1 := hide hF1
        have HF2 := hide hF2
        have HSM := hide hsm
        have hFL : F.length ≤ 30080 := by omega
        have hg0 : ¬ ob oo w5.heap.size := fun q => by have := (hM.ob q).2; omega
        have hocc := hM.bs.le
        have hocx := hM.bs.max
        have hecc := hI.is.le
        have hecx := hI.is.max
        have cnw := hide (new_ok (m : Int) 300 w5 (by omega) (by omega) (by omega) (by omega))
        have cch := hide (fun w2 (b2 : Below w5.heap.size w5 w2) => chunks_any oo F.length oc F co cn cc cs w2 (hM.later b2).bs (unhide HC w2 (hW0.trans (b2.mono (by omega)))) (by omega) (by omega))
        have HI := hide hI
        have HW0 := hide hW0
        clear hF hF1 hF2 hsm hM hI hW0 hW hdj HC cl B1
        generalize hFN : F.length = FN at *
        go_wp2_with (first
          | (go_at_call 11; refine (unhide cnw).mono ?_; rintro e w2 ⟨rfl, r2, b2⟩; have R2 := hide r2; have B2 := hide b2; have z2 := r2.rl.lt; clear r2 b2)
          | (go_at_call 29; refine (unhide cch w2 (unhide B2)).mono ?_; rintro e w3 ⟨o3, n3, c3, ks, vs, rfl, hsum, hn3, hkl, hcut, hs3, b3⟩))
        have hg1 : w.heap.size ≤ w5.heap.size := (unhide HW0).size
        have HRD := hide (fun w' (G : Gb w5.heap.size w3 w') => chunks_read hkl hcut hs3 b3 G z2 hg0)
        have HE := hide (show ∀ w', Gb w5.heap.size w3 w' → Is w' eo i ec (eds m xs i) from fun w' G => (((unhide HI).later (unhide B2)).later b3).keepB (fun k q => by
          have q1 := (unhide HI).ob q
          have := b3.size
          exact G.block k (by omega) (by omega)) |>.is)
        have HBW := hide (show ∀ w', Gb w5.heap.size w3 w' → Below w.heap.size w w' from fun w' G => by
          have q := ((unhide HW0).trans ((unhide B2).mono hg1)).trans (b3.mono (by omega))
          have := b3.size
          refine q.trans ⟨G.os, G.tape, G.output, G.size, fun k hk => G.block k (by omega) (by omega)⟩)
        have C0 := hide (show Cst w3 w3 w5.heap.size m xs 0 from ⟨none, 0, none, 0, by rw [sat_zero]; exact (unhide R2).later b3, by rw [sat_zero]; simp [hln], fun k q => by
          rcases q with q | q | q
          · exact .inl q
          · exact absurd q ob_none
          · exact absurd q ob_none, Gb.refl _ _⟩)
        have cmx3 := (unhide HRD w3 (Gb.refl _ _)).max
        have cle3 := (unhide HRD w3 (Gb.refl _ _)).le
        have HSUM := hide hsum
        have HKL := hide hkl
        clear hsum hkl hcut hs3 b3 R2 B2 HI HW0 cch cnw
        generalize w5.heap.size = g at *
        go_wp2_with fail
        go_loopw [16, 17, 19] (fun tv av jv ws => ∃ (j a : Nat), j ≤ n3 ∧ jv = .int .i64 (j : Int) ∧ av = .int .i64 (a : Int) ∧ tv = .int .i64 ((cnt m xs 0 a : Nat) : Int) ∧ (ks.take j).sum = a ∧ a ≤ FN ∧ Cst w3 ws g m xs a) (fun _ _ jv _ => n3 - (intOf jv).toNat)
        case atStart => exact ⟨0, 0, by omega, rfl, rfl, by rw [cnt_zero]; rfl, rfl, by omega, unhide C0⟩
        case round =>
          clear C0
          obtain ⟨j, a, hj, rfl, rfl, rfl, hsa, haF, hC⟩ := hrel
          have hcl : cnt m xs 0 a ≤ i := by have := cnt_le m xs 0 a; rw [unhide HLN] at this; exact this
          by_cases aj : j < n3
          · have aj' : (j : Int) < (n3 : Int) := by omega
            obtain ⟨k, hk⟩ : ∃ k, ks[j]? = some k := ⟨_, List.getElem?_eq_getElem (show j < ks.length by rw [unhide HKL]; exact aj)⟩
            have hst := sum_step hk
            rw [hsa, unhide HSUM, hFN] at hst
            obtain ⟨b, o, ci, cc', hix, hce, hbs⟩ := (unhide HRD wr hC.gb).at' j _ (pcs_at ks F j k hk)
            have hxl : ((F.drop (ks.take j).sum).take k).length = k := by rw [List.length_take, List.length_drop, hsa, hFN]; omega
            rw [hxl] at hce hbs
            rw [hsa] at hbs
            have cf := hide (chunk_fed (k := k) hC m1 m2 (unhide HSM) (by rw [unhide HF1, hFN]; exact hst.2) (by omega) ci cc' (by rw [unhide HF1]; exact hbs))
            have ccl := hbs.le
            have ccx := hbs.max
            have hst1 := hst.1
            have hst2 := hst.2
            have HST := hide hst.1
            have HCB := hide hC.gb
            have hmo := cnt_mono m xs 0 a (a + k) (by omega)
            have hcl2 : cnt m xs 0 (a + k) ≤ i := by have := cnt_le m xs 0 (a + k); rw [unhide HLN] at this; exact this
            have HK := hide hk
            clear hst hst1 hbs hC hsa hk
            generalize hCA : cnt m xs 0 a = CA at *
            go_wp2_with (first
              | (go_at_call 12; refine (unhide cf).mono ?_; rintro e w4 ⟨to, tn, tc, l, rfl, hp, htn, hbd, hC4⟩; have HP := hide hp; have HTN := hide htn; have HBD := hide hbd; have HC4 := hide hC4; have tle := hp.le; have tmx := hp.max; obtain ⟨b', o', ci', cc2, hix2, hce2, hbs2⟩ := (unhide HRD w4 hC4.gb).at' j _ (pcs_at ks F j k (unhide HK)); rw [hxl] at hce2 hbs2; have ccl2 := hbs2.le; have ccx2 := hbs2.max; clear hp htn hbd hC4 hbs2; have hbo : b' = b ∧ o' = o := (by have h1 := hix default; rw [hix2 default] at h1; simpa using h1); rw [hbo.1, hbo.2] at hce2; clear hix2 hbo))
            have HCA := hide hCA
            clear hCA hix hce hce2 hxl HK HCB cf ccl2 ccx2
            go_loopw [16, 22] (fun tv kv ws => ∃ (jj T : Nat), jj ≤ tn ∧ T = CA + jj ∧ kv = .int .i64 (jj : Int) ∧ tv = .int .i64 (T : Int) ∧ Pks ws to tn tc l ∧ Cst w3 ws g m xs (a + k)) (fun _ kv _ => tn - (intOf kv).toNat)
            case atStart => exact ⟨0, CA, by omega, by omega, rfl, rfl, unhide HP, unhide HC4⟩
            case round =>
              clear HP HC4
              obtain ⟨jj, T, hjj, hT, rfl, rfl, hP, hC⟩ := hrel
              by_cases aJ : jj < tn
              · have aJ' : (jj : Int) < (tn : Int) := by omega
                have htn := unhide HTN
                have hTN : T < cnt m xs 0 (a + k) := by omega
                have hTi : T < i := by omega
                obtain ⟨p, hp1, hp2⟩ := unhide HBD jj aJ
                rw [← hT] at hp2
                obtain ⟨eb, eO, hex, hec⟩ := (unhide HE wr hC.gb).idx hTi (T : Int) rfl
                have hes : (eds m xs i)[T]?.getD 0 = ((eoe m xs 0 T : Nat) : Int) := eds_at m xs i T hTi
                rw [hes] at hec
                have hein := cnt_in m xs 0 (a + k) T hTN
                generalize eoe m xs 0 T = ES at *
                obtain ⟨pb, po, hpx, _, _, hpc⟩ := hP.idx hp1 (jj : Int) rfl
                obtain ⟨xb, xo, xa, xc, hxx, hxc, hxb⟩ := (unhide HB wr (unhide HBW wr hC.gb)).at' T p.bs hp2
                have hpb := hP.bod p (List.mem_of_getElem? hp1)
                have cS := hide (fun d => sameBytes_any p.ao p.bs.length p.cap p.bs xa p.bs.length xc p.bs (wr.drewN d) (hpb.later (below_drewN wr d)) (hxb.later (below_drewN wr d)))
                simp only [decide_true] at cS
                have g1 : ¬ (i : Int) ≤ (T : Int) := by omega
                have g2 : (T : Int) < (i : Int) := by omega
                have g3 : (ES : Int) ≤ (a : Int) + (k : Int) := by omega
                have HPP := hide hP
                have HCC := hide hC
                have HT := hide hT
                clear hP hC hpb hxb hp1 hp2 htn hTN hes hT
                generalize p.bs.length = PL at *
                go_wp2_with fail
                go_quiet (first
                  | (go_at_call 10; refine Calls.quiet_of_same (unhide cS _)))
                go_wp2_with fail
                go_roundw
                case rel => exact ⟨jj + 1, T + 1, by omega, by have := unhide HT; omega, by go_num, by go_num, (unhide HPP).later (below_drewN wr _), (unhide HCC).drewN _⟩
                case measure => simp [intOf]; omega
              · have aJ' : ¬ (jj : Int) < (tn : Int) := by omega
                have htn := unhide HTN
                have hTN : T = cnt m xs 0 (a + k) := by omega
                by_cases hTi : T < i
                · obtain ⟨eb, eO, hex, hec⟩ := (unhide HE wr hC.gb).idx hTi (T : Int) rfl
                  rw [eds_at m xs i T hTi] at hec
                  have hout := cnt_out m xs 0 (a + k) (by rw [unhide HLN]; omega)
                  rw [← hTN] at hout
                  generalize eoe m xs 0 T = ES at *
                  have g2 : (T : Int) < (i : Int) := by omega
                  have g3 : ¬ (ES : Int) ≤ (a : Int) + (k : Int) := by omega
                  have HCC := hide hC
                  have HTT := hide hTN
                  clear hP hC hTN htn hT
                  go_wp2_with fail
                  go_roundw
                  case rel => exact ⟨j + 1, a + k, by omega, by go_num, by go_num, by rw [← unhide HTT], unhide HST, by omega, unhide HCC⟩
                  case measure => simp [intOf]; omega
                · have g2 : ¬ (T : Int) < (i : Int) := by omega
                  have HCC := hide hC
                  have HTT := hide hTN
                  clear hP hC hTN htn hT
                  go_wp2_with fail
                  go_roundw
                  case rel => exact ⟨j + 1, a + k, by omega, by go_num, by go_num, by rw [← unhide HTT], unhide HST, by omega, unhide HCC⟩
                  case measure => simp [intOf]; omega
          · have aj' : ¬ (j : Int) < (n3 : Int) := by omega
            have hjn : j = n3 := by omega
            have haf : a = FN := by rw [← hsa, hjn, List.take_of_length_le (by rw [unhide HKL]; omega), unhide HSUM, hFN]
            obtain ⟨b2, c2, h2, d2, hr, _, _, hgb⟩ := hC
            have hsat : sat m 300 xs a = ⟨q, [], [], 0⟩ := by
              have := sat_all m 300 m1 (by omega) xs (fun b hb => by have := unhide HSM b hb; omega)
              rw [unhide HF1, unhide HF2, hFN, ← haf] at this
              exact this
            have hca : cnt m xs 0 a = i := by
              have := cnt_all m xs 0
              rw [unhide HF1, hFN, ← haf, unhide HLN] at this
              exact this
            rw [hsat] at hr
            rw [hca]
            have chh := hide (held_any wr hr.rl)
            have cnn := hide (fun j => next_any (wr.drewN j) (hr.rl.drewN j))
            rw [show hln ⟨q, [], [], 0⟩ = 0 from rfl] at chh
            have HBB := hide (unhide HBW wr hgb)
            clear hr hgb hsat hca
            go_wp2_with fail
            refine (unhide chh).mono ?_
            rintro e w6 ⟨rfl, n6, rfl⟩
            go_wp2_with fail
            refine same_world (unhide cnn n6) ?_
            go_wp2_with fail
            go_ret
            exact ⟨rfl, (unhide HBB).trans ⟨rfl, rfl, rfl, Nat.le_refl _, fun _ _ => rfl⟩⟩
  · have hc : (20 : Int) < (bn : Int) ∨ (¬ (20 : Int) < (bn : Int) ∧ M < 1) ∨ (¬ (20 : Int) < (bn : Int) ∧ ¬ M < 1 ∧ 300 < M) ∨ (¬ (20 : Int) < (bn : Int) ∧ ¬ M < 1 ∧ ¬ 300 < M ∧ (3000 : Int) < (cn : Int)) := by omega
    clear a1
    rcases hc with k0 | ⟨k0, k1⟩ | ⟨k0, k1, k2⟩ | ⟨k0, k1, k2, k3⟩
    all_goals
      go_enter Try.func6, Try.ntmps6
      go_wp2_with (first
        | (go_at_call 16; refine (unhide cl).mono ?_; rintro e w1 ⟨rfl, b1⟩; have B1 := hide b1; clear b1))
      go_ret
      exact ⟨rfl, unhide B1⟩

end Go.Proofs.Ytoblnmbbdhagbaa
