/-
  What Pack of the document's own answer for layer 6 and Squeeze of that for layer 10 return: the bytes of the plain functions. They write nothing that was there. Conditions: at most 1,000 bytes.
-/
import Derived.Test.YtbolaljlhmakeaaSqW
import Derived.Test.YtbolaljlhmakeaaMMem
import Derived.Test.YtbolaljlhmakeaaRefSto
import Derived.Test.YtbolaljlhmakeaaMAdl
namespace Go.Proofs.Ytbolaljlhmakeaa
open Go.RowKit
set_option linter.unusedVariables false
set_option linter.unusedSimpArgs false

set_option maxHeartbeats 1000000 in
theorem pack_ref (w : World) (bo : Option Addr) (bn bc : Nat) (bs : List Int) (hb : Bs w bo bn bc bs) (hn : bn ≤ 2000) :
    Calls Try.prog 13 #[.slice bo bn bc] w fun e w' => ∃ ao n c, e = .returned (.slice ao n c) ∧ Mine w.heap.size w' ao n c (pkd bs) ∧ Below w.heap.size w w' := by
  have HB := hide hb
  have hlen := hide hb.len
  have hpk := hide (show pkd bs = [120, 1] ++ dfl bs ++ sm4 (sumOf bs) by simp [pkd])
  have hsb := sumOf_bd bs
  have bb := below_alloc w (.cells #[.int .u8 120, .int .u8 1] 5)
  have M0 := hide (show Mine w.heap.size (w.alloc (.cells #[.int .u8 120, .int .u8 1] 5)) (some ⟨w.heap.size, 0, none⟩) 2 2 [120, 1] from Mine.lit w [120, 1] (Byt.cons (by decide) (by decide) (Byt.one (by decide) (by decide))) (by decide))
  have BB := hide bb
  have dc := hide (deflate_ref _ bo bn bc bs (hb.later bb) hn)
  have hdl := hide (dfl_len5 bs)
  clear hb bb
  go_enter Try.func13, Try.ntmps13
  go_wp2_with fail
  refine (unhide dc).mono ?_
  rintro e w1 ⟨a1, n1, c1, rfl, m1, b1⟩
  have B1 := hide ((unhide BB).trans (b1.mono (unhide BB).size))
  have M1 := hide ((unhide M0).later b1)
  have D1 := hide m1.bs
  have hn1 : n1 ≤ 3000 := by have := m1.len; have := unhide hdl; have := unhide hlen; omega
  clear m1 b1 dc BB M0
  go_wp2_with (at_builtin; refine wpList_app rfl (.tmp 5) (.tmp 7) rfl w.heap.size _ 2 2 _ rfl (unhide M1) a1 n1 c1 _ rfl (unhide D1) (by omega) (unhide B1).size ?_; intro a2 c2 w2 m2 b2)
  have B2 := hide ((unhide B1).trans b2)
  have M2 := hide m2
  have sc := hide (sum_ref bo bn bc bs w2 ((unhide HB).later (unhide B2)))
  clear m2 b2
  go_wp2_with fail
  refine same_world (unhide sc) ?_
  obtain ⟨s0, s1⟩ := hsb
  have sb := hide (sm4_byt s0 s1)
  generalize sumOf bs = s at *
  have b3 := below_alloc w2 (.cells #[.int .u8 (s / 16777216), .int .u8 (s / 65536 % 256), .int .u8 (s / 256 % 256), .int .u8 (s % 256)] 5)
  have M3 := hide ((unhide M2).later b3)
  have L := hide (show Bs (w2.alloc (.cells #[.int .u8 (s / 16777216), .int .u8 (s / 65536 % 256), .int .u8 (s / 256 % 256), .int .u8 (s % 256)] 5)) (some ⟨w2.heap.size, 0, none⟩) 4 4 (sm4 s) from Bs.lit w2 (sm4 s) (unhide sb) (by rw [sm4_len]; omega))
  have B3 := hide ((unhide B2).trans (b3.mono (unhide B2).size))
  clear sc M1 D1 M2 B1 b3 B2
  go_wp2_with (at_builtin; refine wpList_app rfl (.tmp 11) (.tmp 23) rfl w.heap.size _ _ _ _ rfl (unhide M3) _ 4 4 (sm4 s) rfl (unhide L) (by omega) (unhide B3).size ?_; intro a4 c4 w4 m4 b4)
  go_ret
  rw [← unhide hpk] at m4
  exact ⟨a4, _, c4, rfl, m4, (unhide B3).trans b4⟩

theorem seven_byt {a b c d e f g : Int} (h1 : 0 ≤ a ∧ a ≤ 255) (h2 : 0 ≤ b ∧ b ≤ 255) (h3 : 0 ≤ c ∧ c ≤ 255) (h4 : 0 ≤ d ∧ d ≤ 255) (h5 : 0 ≤ e ∧ e ≤ 255) (h6 : 0 ≤ f ∧ f ≤ 255) (h7 : 0 ≤ g ∧ g ≤ 255) : Byt [a, b, c, d, e, f, g] :=
  Byt.cons h1.1 h1.2 (Byt.cons h2.1 h2.2 (Byt.cons h3.1 h3.2 (Byt.cons h4.1 h4.2 (Byt.cons h5.1 h5.2 (Byt.cons h6.1 h6.2 (Byt.one h7.1 h7.2))))))
theorem le3 (x : Int) : le x 3 = [x % 256, x / 256 % 256, x / 65536 % 256] := by simp [le]
/-- A piece, cut by its ends. -/
theorem pc_cut (M : Nat) (bs : List Int) (k P e : Nat) (hP : k * M = P) (he : e = min (P + M) bs.length) : (bs.drop P).take (e - P) = pc M bs k := by
  unfold pc
  rw [hP]
  rcases Nat.lt_or_ge (P + M) bs.length with q | q
  · rw [show e - P = M by omega]
  · rw [List.take_of_length_le (by rw [List.length_drop]; omega), List.take_of_length_le (by rw [List.length_drop]; omega)]
/-- Behind Squeeze. -/
def OutRs (w : World) (r : List Int × Int × Int) (e : Ending) (w' : World) : Prop :=
  ∃ oo on oc, e = .returned (.tuple #[.slice oo on oc, .int .u8 r.2.1, .int .i64 r.2.2]) ∧ Mine w.heap.size w' oo on oc r.1 ∧ Below w.heap.size w w'

set_option maxHeartbeats 8000000 in
set_option maxRecDepth 20000 in
theorem rsqueeze_ok (bo : Option Addr) (n c : Nat) (bs : List Int) (q T Mi : Int) (M : Nat) (hMi : Mi = (M : Int)) (w : World) (h : Bs w bo n c bs) (hn : n ≤ 1000) (q0 : 0 ≤ q) (q1 : q ≤ 255) (m1 : 1 ≤ M) (m2 : M ≤ 16777215) (t0 : 0 ≤ T) (t1 : T ≤ 16777215) :
    Calls Try.prog 7 #[.slice bo n c, .int .u8 q, .int .i64 Mi, .int .i64 T] w fun e w' => OutRs w ((sqA T M bs q).1, (sqA T M bs q).2, 0) e w' := by
  have HB := hide (fun w' (z : Below w.heap.size w w') => h.later z)
  have hle := h.le
  have hmx := h.max
  have HL := hide h.len
  have HA := hide (show sqA T M bs q = sqz T M bs q (List.range (pcn M bs)) from rfl)
  have g1 : ¬ Mi < 1 := by omega
  have g2 : ¬ 16777215 < Mi := by omega
  have g3 : ¬ T < 0 := by omega
  have g4 : ¬ 16777215 < T := by omega
  have HMi := hide hMi
  clear h hMi
  go_enter Try.func7, Try.ntmps7
  go_wp2_with fail
  go_loopw [1, 11, 12] (fun sv ov av wr => ∃ (k A : Nat) (R : List Int × Int) (oo : Option Addr) (on oc : Nat), k ≤ pcn M bs ∧ A = min (k * M) n ∧ R = sqz T M bs q (List.range k) ∧ sv = .int .u8 R.2 ∧ ov = .slice oo on oc ∧ av = .int .i64 (A : Int) ∧ Mine w.heap.size wr oo on oc R.1 ∧ Below w.heap.size w wr) (fun _ _ av _ => n + 1 - (intOf av).toNat)
  case atStart => exact ⟨0, 0, ([], q), none, 0, 0, Nat.zero_le _, by simp, rfl, rfl, rfl, rfl, Mine.nought _ _, Below.refl _ _⟩
  case round =>
    obtain ⟨k, A, R, oo, on, oc, hk, hA, hR, rfl, rfl, rfl, hM, hW⟩ := hrel
    have hlt := pcn_lt (bs := bs) (k := k) m1
    rw [unhide HL] at hlt
    have hz := hW.size
    have hqq := sqz_q T M bs q q0 q1 (List.range k)
    rw [← hR] at hqq
    have hol := sqz_len T M bs q (List.range k)
    rw [← hR, List.length_range, unhide HL] at hol
    have hpn := pcn_le m1 bs
    rw [unhide HL] at hpn
    have hon := hM.len
    have hon2 : on ≤ 2000000 := by
      rw [← hon]
      exact Nat.le_trans hol (Nat.le_trans (Nat.mul_le_mul (show k ≤ 1000 by omega) (show 7 + n ≤ 1007 by omega)) (by omega))
    clear hol
    obtain ⟨r1, r2⟩ := R
    simp only at hM hqq hon
    by_cases a1 : k < pcn M bs
    · have a2 := hlt.1 a1
      have hsn := sqz_snoc T M bs q (List.range k) k
      rw [← List.range_succ, ← hR] at hsn
      simp only at hsn
      have hA' : A = k * M := by omega
      have hnx : (k + 1) * M = k * M + M := by rw [Nat.add_mul, Nat.one_mul]
      obtain ⟨P, hP⟩ : ∃ P, k * M = P := ⟨_, rfl⟩
      rw [hP] at hA' a2 hnx
      subst hA'
      have a3 : (A : Int) < (n : Int) := by omega
      obtain ⟨e, he⟩ : ∃ e : Nat, e = min (A + M) n := ⟨_, rfl⟩
      have e1 : A < e := by omega
      have e2 : e ≤ n := by omega
      have k1 : (if (A : Int) + Mi < (n : Int) then (A : Int) + Mi else (n : Int)) = (e : Int) := by have := unhide HMi; split <;> omega
      have k2 : (if (n : Int) < (A : Int) + Mi then (n : Int) else (A : Int) + Mi) = (e : Int) := by have := unhide HMi; split <;> omega
      have cut := run_cut_lh bo n c A e (by omega) (by omega) (A : Int) (e : Int) rfl rfl
      have PB := hide (fun w' (z : Below w.heap.size w w') => by
        have := (unhide HB w' z).cut (lo := A) (hi := e) (by omega) e2
        rw [pc_cut M bs k A e hP (by rw [unhide HL]; exact he)] at this
        exact this)
      have hpl := (unhide PB w (Below.refl _ _)).len
      have HNX := hide (show e = min ((k + 1) * M) n by rw [hnx]; exact he)
      have HSN := hide hsn
      have HA1 := hide a1
      have HM := hide hM
      have HW := hide hW
      have HAR := hide hA
      clear hM hW hlt a1 a2 hsn hA hR hnx hP he hk hon
      generalize cutAt bo c A = po at *
      generalize hpc : c - A = pcc at *
      generalize hel : e - A = L at *
      have hLb : L ≤ 1000 := by omega
      have hL1 : (A : Int) + (L : Int) = (e : Int) := by omega
      clear hpc
      have SH := hide (show shr T (pc M bs k) = if (L : Int) < T then (pc M bs k, 0) else if L ≤ (pkd (pc M bs k)).length then (pc M bs k, 0) else (pkd (pc M bs k), L) by unfold shr; rw [hpl])
      have sqe := hide (show ∀ (pa : List Int) (tl : Nat), shr T (pc M bs k) = (pa, tl) → pa.length ≤ 2000 → tl ≤ 2000 → sqF T r2 (pc M bs k) = [(pa.length : Int) % 256, (pa.length : Int) / 256, (pa.length : Int) / 65536, r2, (tl : Int) % 256, (tl : Int) / 256, (tl : Int) / 65536] ++ pa from fun pa tl hs h1 h2 => by
        have e1 : (pa.length : Int) / 256 % 256 = (pa.length : Int) / 256 := by omega
        have e2 : (pa.length : Int) / 65536 % 256 = (pa.length : Int) / 65536 := by omega
        have e3 : (tl : Int) / 256 % 256 = (tl : Int) / 256 := by omega
        have e4 : (tl : Int) / 65536 % 256 = (tl : Int) / 65536 := by omega
        unfold sqF
        rw [hs]
        simp only [le3, e1, e2, e3, e4]
        simp)
      have pk5 := pkd_len (pc M bs k)
      have pk6 := dfl_len5 (pc M bs k)
      have hpk : (pkd (pc M bs k)).length ≤ 2000 := by omega
      clear pk5 pk6
      by_cases b1 : (L : Int) < T
      · have hsh := unhide SH
        rw [if_pos b1] at hsh
        obtain ⟨w2, hw2⟩ : ∃ w2, w2 = wr := ⟨_, rfl⟩
        have B2 := hide (show Below w.heap.size w w2 by rw [hw2]; exact unhide HW)
        have M2 := hide (show Mine w.heap.size w2 oo on oc r1 by rw [hw2]; exact unhide HM)
        have Q2 := hide (unhide PB w2 (unhide B2))
        have hz2 : w.heap.size ≤ w2.heap.size := by rw [hw2]; exact hz
        rw [← hw2]
        clear hw2
        have ba := below_alloc w2 (.cells #[.int .u8 ((L : Int) % 256), .int .u8 ((L : Int) / 256), .int .u8 ((L : Int) / 65536), .int .u8 r2, .int .u8 0, .int .u8 0, .int .u8 0] 5)
        have LB := hide (show Bs (w2.alloc (.cells #[.int .u8 ((L : Int) % 256), .int .u8 ((L : Int) / 256), .int .u8 ((L : Int) / 65536), .int .u8 r2, .int .u8 0, .int .u8 0, .int .u8 0] 5)) (some ⟨w2.heap.size, 0, none⟩) 7 7 [(L : Int) % 256, (L : Int) / 256, (L : Int) / 65536, r2, 0, 0, 0] from Bs.lit w2 [(L : Int) % 256, (L : Int) / 256, (L : Int) / 65536, r2, 0, 0, 0] (seven_byt (by omega) (by omega) (by omega) (by omega) (by omega) (by omega) (by omega)) (by simp))
        have M3 := hide ((unhide M2).later ba)
        have B3 := hide ((unhide B2).trans (ba.mono hz2))
        have Q3 := hide ((unhide Q2).later ba)
        have q3z : w2.heap.size ≤ (w2.alloc (.cells #[.int .u8 ((L : Int) % 256), .int .u8 ((L : Int) / 256), .int .u8 ((L : Int) / 65536), .int .u8 r2, .int .u8 0, .int .u8 0, .int .u8 0] 5)).heap.size := ba.size
        clear ba
        go_wp2_with (first
          | (at_builtin; refine wpList_appS rfl (.tmp 63) (.tmp 84) rfl w.heap.size _ _ _ _ rfl (unhide M3) _ _ _ _ rfl (unhide LB) (by omega) (by omega) ?_; intro a5 c5 w5 mm5 f5; have M5 := hide mm5; have B5 := hide ((unhide B3).trans (f5.below (by omega) (fun k z => ((unhide M3).ob z).1))); have Q5 := hide (unhide PB w5 (unhide B5)); clear mm5 f5)
          | (at_builtin; refine wpList_app rfl (.tmp 86) (.tmp 87) rfl w.heap.size _ _ _ _ rfl (unhide M5) _ _ _ _ rfl (unhide Q5) (by omega) (unhide B5).size ?_; intro a6 c6 w6 mm6 b6; have M6 := hide mm6; have B6 := hide ((unhide B5).trans b6); clear mm6 b6))
        go_roundw
        case rel =>
          refine ⟨k + 1, e, _, a6, _, c6, unhide HA1, unhide HNX, (unhide HSN).symm, ?_, rfl, ?_, ?_, unhide B6⟩
          · rfl
          · rw [← hL1]
          · have := unhide M6
            rw [unhide sqe _ _ hsh (by omega) (by omega), hpl]
            simpa using this
        case measure => simp [intOf]; omega
      · by_cases b2 : L ≤ (pkd (pc M bs k)).length
        · have hsh := unhide SH
          rw [if_neg b1, if_pos b2] at hsh
          have cp := hide (pack_ref wr po L pcc (pc M bs k) (unhide PB wr (unhide HW)) (by omega))
          go_wp2_with (first
            | (go_at_call 13; refine (unhide cp).mono ?_; rintro e' w2 ⟨a2, n2, c2, rfl, mm2, b2'⟩; have hn2 := mm2.len; have b3 : ¬ (n2 : Int) < (L : Int) := (by omega); have B2 := hide ((unhide HW).trans (b2'.mono hz)); have M2 := hide ((unhide HM).later b2'); have Q2 := hide (unhide PB w2 (unhide B2)); have hz2 : w.heap.size ≤ w2.heap.size := (unhide B2).size; have HN2 := hide hn2; clear mm2 b2' hn2; have ba := below_alloc w2 (.cells #[.int .u8 ((L : Int) % 256), .int .u8 ((L : Int) / 256), .int .u8 ((L : Int) / 65536), .int .u8 r2, .int .u8 0, .int .u8 0, .int .u8 0] 5); have LB := hide (show Bs (w2.alloc (.cells #[.int .u8 ((L : Int) % 256), .int .u8 ((L : Int) / 256), .int .u8 ((L : Int) / 65536), .int .u8 r2, .int .u8 0, .int .u8 0, .int .u8 0] 5)) (some ⟨w2.heap.size, 0, none⟩) 7 7 [(L : Int) % 256, (L : Int) / 256, (L : Int) / 65536, r2, 0, 0, 0] from Bs.lit w2 [(L : Int) % 256, (L : Int) / 256, (L : Int) / 65536, r2, 0, 0, 0] (seven_byt (by omega) (by omega) (by omega) (by omega) (by omega) (by omega) (by omega)) (by simp)); have M3 := hide ((unhide M2).later ba); have B3 := hide ((unhide B2).trans (ba.mono hz2)); have Q3 := hide ((unhide Q2).later ba); have q3z : w2.heap.size ≤ (w2.alloc (.cells #[.int .u8 ((L : Int) % 256), .int .u8 ((L : Int) / 256), .int .u8 ((L : Int) / 65536), .int .u8 r2, .int .u8 0, .int .u8 0, .int .u8 0] 5)).heap.size := ba.size; clear ba)
            | (at_builtin; refine wpList_appS rfl (.tmp 63) (.tmp 84) rfl w.heap.size _ _ _ _ rfl (unhide M3) _ _ _ _ rfl (unhide LB) (by omega) (by omega) ?_; intro a5 c5 w5 mm5 f5; have M5 := hide mm5; have B5 := hide ((unhide B3).trans (f5.below (by omega) (fun k z => ((unhide M3).ob z).1))); have Q5 := hide (unhide PB w5 (unhide B5)); clear mm5 f5)
            | (at_builtin; refine wpList_app rfl (.tmp 86) (.tmp 87) rfl w.heap.size _ _ _ _ rfl (unhide M5) _ _ _ _ rfl (unhide Q5) (by omega) (unhide B5).size ?_; intro a6 c6 w6 mm6 b6; have M6 := hide mm6; have B6 := hide ((unhide B5).trans b6); clear mm6 b6))
          go_roundw
          case rel =>
            refine ⟨k + 1, e, _, a6, _, c6, unhide HA1, unhide HNX, (unhide HSN).symm, ?_, rfl, ?_, ?_, unhide B6⟩
            · rfl
            · rw [← hL1]
            · have := unhide M6
              rw [unhide sqe _ _ hsh (by omega) (by omega), hpl]
              simpa using this
          case measure => simp [intOf]; omega
        · have hsh := unhide SH
          rw [if_neg b1, if_neg b2] at hsh
          have cp := hide (pack_ref wr po L pcc (pc M bs k) (unhide PB wr (unhide HW)) (by omega))
          go_wp2_with (first
            | (go_at_call 13; refine (unhide cp).mono ?_; rintro e' w2 ⟨a2, n2, c2, rfl, mm2, b2'⟩; have hn2 := mm2.len; have b3 : (n2 : Int) < (L : Int) := (by omega); have B2 := hide ((unhide HW).trans (b2'.mono hz)); have M2 := hide ((unhide HM).later b2'); have Q2 := hide mm2.bs; have DJ := hide (fun k (z : ob a2 k) (y : ob oo k) => (show False by have := (mm2.ob z).1; have := ((unhide HM).ob y).2; omega)); have hz2 : w.heap.size ≤ w2.heap.size := (unhide B2).size; have HN2 := hide hn2; clear mm2 b2' hn2; have ba := below_alloc w2 (.cells #[.int .u8 ((n2 : Int) % 256), .int .u8 ((n2 : Int) / 256), .int .u8 ((n2 : Int) / 65536), .int .u8 r2, .int .u8 ((L : Int) % 256), .int .u8 ((L : Int) / 256), .int .u8 ((L : Int) / 65536)] 5); have LB := hide (show Bs (w2.alloc (.cells #[.int .u8 ((n2 : Int) % 256), .int .u8 ((n2 : Int) / 256), .int .u8 ((n2 : Int) / 65536), .int .u8 r2, .int .u8 ((L : Int) % 256), .int .u8 ((L : Int) / 256), .int .u8 ((L : Int) / 65536)] 5)) (some ⟨w2.heap.size, 0, none⟩) 7 7 [(n2 : Int) % 256, (n2 : Int) / 256, (n2 : Int) / 65536, r2, (L : Int) % 256, (L : Int) / 256, (L : Int) / 65536] from Bs.lit w2 [(n2 : Int) % 256, (n2 : Int) / 256, (n2 : Int) / 65536, r2, (L : Int) % 256, (L : Int) / 256, (L : Int) / 65536] (seven_byt (by omega) (by omega) (by omega) (by omega) (by omega) (by omega) (by omega)) (by simp)); have M3 := hide ((unhide M2).later ba); have B3 := hide ((unhide B2).trans (ba.mono hz2)); have Q3 := hide ((unhide Q2).later ba); have q3z : w2.heap.size ≤ (w2.alloc (.cells #[.int .u8 ((n2 : Int) % 256), .int .u8 ((n2 : Int) / 256), .int .u8 ((n2 : Int) / 65536), .int .u8 r2, .int .u8 ((L : Int) % 256), .int .u8 ((L : Int) / 256), .int .u8 ((L : Int) / 65536)] 5)).heap.size := ba.size; clear ba)
            | (at_builtin; refine wpList_appS rfl (.tmp 63) (.tmp 84) rfl w.heap.size _ _ _ _ rfl (unhide M3) _ _ _ _ rfl (unhide LB) (by omega) (by omega) ?_; intro a5 c5 w5 mm5 f5; have M5 := hide mm5; have B5 := hide ((unhide B3).trans (f5.below (by omega) (fun k z => ((unhide M3).ob z).1))); have Q5 := hide ((unhide Q3).fs f5 (unhide DJ)); clear mm5 f5)
            | (at_builtin; refine wpList_app rfl (.tmp 86) (.tmp 87) rfl w.heap.size _ _ _ _ rfl (unhide M5) _ _ _ _ rfl (unhide Q5) (by omega) (unhide B5).size ?_; intro a6 c6 w6 mm6 b6; have M6 := hide mm6; have B6 := hide ((unhide B5).trans b6); clear mm6 b6))
          go_roundw
          case rel =>
            refine ⟨k + 1, e, _, a6, _, c6, unhide HA1, unhide HNX, (unhide HSN).symm, ?_, rfl, ?_, ?_, unhide B6⟩
            · rfl
            · rw [← hL1]
            · have := unhide M6
              rw [unhide sqe _ _ hsh (by rw [unhide HN2]; omega) (by omega), unhide HN2]
              simpa using this
          case measure => simp [intOf]; omega
    · have hke : k = pcn M bs := by omega
      have a2 : ¬ k * M < n := fun z => a1 (hlt.2 z)
      have hAn : A = n := by omega
      have a3 : ¬ (A : Int) < (n : Int) := by omega
      have HM := hide hM
      have HW := hide hW
      have HRR := hide (show sqA T M bs q = (r1, r2) by rw [unhide HA, ← hke, ← hR])
      clear hM hW hR hlt a1 a2 hA hAn hke hk hqq hon hon2 hpn
      go_wp2_with fail
      go_ret3
      rw [unhide HRR]
      exact ⟨oo, on, oc, rfl, unhide HM, unhide HW⟩

set_option maxHeartbeats 1000000 in
theorem rsqueeze_bad (v : Value) (q M T : Int) (w : World) (hb : M < 1 ∨ 16777215 < M ∨ T < 0 ∨ 16777215 < T) :
    Calls Try.prog 7 #[v, .int .u8 q, .int .i64 M, .int .i64 T] w fun e w' => OutRs w ([], 0, 2) e w' := by
  have hc : M < 1 ∨ (¬ M < 1 ∧ 16777215 < M) ∨ (¬ M < 1 ∧ ¬ 16777215 < M ∧ T < 0) ∨ (¬ M < 1 ∧ ¬ 16777215 < M ∧ ¬ T < 0 ∧ 16777215 < T) := by omega
  clear hb
  rcases hc with k0 | ⟨k0, k1⟩ | ⟨k0, k1, k2⟩ | ⟨k0, k1, k2, k3⟩
  all_goals
    go_enter Try.func7, Try.ntmps7
    go_wp2_with fail
    go_ret3
    exact ⟨none, 0, 0, rfl, Mine.nought _ _, Below.refl _ _⟩

theorem rsqueeze_any (bo : Option Addr) (n c : Nat) (bs : List Int) (q M T : Int) (w : World) (h : Bs w bo n c bs) (hn : n ≤ 1000) (q0 : 0 ≤ q) (q1 : q ≤ 255) :
    Calls Try.prog 7 #[.slice bo n c, .int .u8 q, .int .i64 M, .int .i64 T] w fun e w' => OutRs w (sqR M T bs q) e w' := by
  unfold sqR
  by_cases hb : M < 1 ∨ 16777215 < M ∨ T < 0 ∨ 16777215 < T
  · rw [if_pos hb]
    exact rsqueeze_bad _ q M T w hb
  · rw [if_neg hb]
    exact rsqueeze_ok bo n c bs q T M M.toNat (by omega) w h hn q0 q1 (by omega) (by omega) (by omega) (by omega)
end Go.Proofs.Ytbolaljlhmakeaa
