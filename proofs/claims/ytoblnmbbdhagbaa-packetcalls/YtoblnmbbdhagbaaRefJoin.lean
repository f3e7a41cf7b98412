/-
  What Join of the document's own answer returns: the plain function joinR. Conditions: at most 10,000 bytes.
-/
import Derived.Test.YtoblnmbbdhagbaaRefSim
namespace Go.Proofs.Ytoblnmbbdhagbaa
open Go.RowKit
set_option linter.unusedVariables false
set_option linter.unusedSimpArgs false

/-- The state that Join begins with. -/
def jnR (b : List Int) : RS := if 4 ≤ b.length then { rs0 with sq := b.getD 3 0 } else rs0
theorem jnR_of (b : List Int) : ofR (jnR b) = jnS b := by unfold jnR jnS; split <;> rfl
theorem jnR_sim (M : Int) (b : List Int) (hb : Byt b) : Sim M (jnR b) := by
  unfold jnR
  split
  · have := hb.at 3
    have e : b.getD 3 0 = b[3]?.getD 0 := by simp
    exact ⟨by simp only [e]; exact this, fun _ => rfl, fun _ => ⟨0, by simp [rs0], fun h => by simp [rs0] at h⟩⟩
  · exact sim0 M
theorem joinX (M L : Int) (hM : 1 ≤ M) (b : List Int) (hb : Byt b) : (rfeed M L (jnR b) b).2 = (feed M L (jnS b) b).2 := by
  have h := (rfeed_sim M L hM (jnR b) b (jnR_sim M b hb) (by unfold jnR; split <;> exact Byt.nil) hb).1
  rw [jnR_of] at h
  rw [← h]

/-- Of a payload's rest of m bytes: how many in frames. -/
theorem szf_last (m M : Int) (h0 : 0 ≤ m) (h1 : m < M) : szf m M = m + 4 := by
  unfold szf frm
  rw [Int.ediv_eq_zero_of_lt h0 h1]
  omega
theorem szf_more (m M : Int) (h1 : M ≤ m) (hM : 1 ≤ M) : szf m M = (M + 4) + szf (m - M) M := by
  unfold szf frm
  have : m / M = (m - M) / M + 1 := by
    rw [show m = (m - M) + 1 * M by omega, Int.add_mul_ediv_right _ _ (by omega)]
    simp
  rw [this]
  omega

set_option maxHeartbeats 4000000 in
set_option maxRecDepth 20000 in
theorem join_ref (ao : Option Addr) (n c : Nat) (bs : List Int) (M L : Int) (w : World) (h : Bs w ao n c bs) (hn : n ≤ 10000) :
    Calls Try.prog 21 #[.slice ao n c, .int .i64 M, .int .i64 L] w fun e w' => OutJ w (joinR M L bs) e w' := by
  obtain ⟨R, hR⟩ : ∃ R, R = joinR M L bs := ⟨_, rfl⟩
  rw [← hR]
  have hlen := h.len
  have hle := h.le
  have hmx := h.max
  by_cases a1 : 1 ≤ M ∧ M ≤ 16777215 ∧ 0 ≤ L ∧ L ≤ 1073741824
  · have cn := hide (xnew_ok M L w a1.1 a1.2.1 a1.2.2.1 a1.2.2.2)
    obtain ⟨F, hF⟩ : ∃ F, F = feed M L (jnS bs) bs := ⟨_, rfl⟩
    have hFc : F.2.1.length ≤ (jnS bs).held.length + bs.length := by rw [hF]; exact feed_count M L _ _
    have hj0 : (jnS bs).held = [] := by unfold jnS; split <;> rfl
    have hjok : Sok M L (jnS bs) := by
      have h0 := sok0 (M := M) (L := L) a1.1 a1.2.1 a1.2.2.1 a1.2.2.2
      unfold jnS
      split
      · have := h.byt.at 3
        have e : bs.getD 3 0 = bs[3]?.getD 0 := by simp
        exact ⟨h0.m0, h0.m1, h0.l0, h0.l1, by simp only [e]; omega, by simp only [e]; omega, h0.bl, h0.hl, h0.w0, h0.w1⟩
      · exact h0
    have hFt : ∀ p ∈ F.2.1, (p.2.2.length : Int) ≤ L := by rw [hF]; exact feed_told M L _ _ hjok (by rw [hj0]; exact Byt.nil) h.byt (by rw [hj0]; simp; omega)
    have hFe : 0 ≤ F.2.2 ∧ F.2.2 ≤ 100 := by rw [hF]; exact feed_err_range M L _ _
    rw [hj0, List.length_nil, Nat.zero_add, hlen] at hFc
    have hR' : R = (F.2.1, smf M F.2.1, if F.2.2 = 0 ∧ smf M F.2.1 < n then 4 else F.2.2) := by
      rw [hR]; unfold joinR; rw [if_neg (by simp; omega), ← hF, hlen]
    have HB := hide h
    have HFc := hide hFc
    have HFt := hide hFt
    have HR := hide hR'
    have hm0 := a1.1
    have hm1 := a1.2.1
    have hl1 := a1.2.2.2
    have hX2 := joinX M L hm0 bs h.byt
    rw [← hF] at hX2
    obtain ⟨G, hG⟩ : ∃ G, G = rfeed M L (jnR bs) bs := ⟨_, rfl⟩
    rw [← hG] at hX2
    have feeds := hide (show ∀ w2, Bs w2 ao n c bs → Xl w2 w.heap.size M L none 0 none 0 (jnR bs) → Calls Try.prog 26 #[.pointer (some ⟨w.heap.size, 0, none⟩), .slice ao n c] w2 fun e w' => OutX w2 w.heap.size M L none none G e w' by
      intro w2 b2 r2
      rw [hG]
      exact xfeed_any w2 r2 ao n c bs b2 (by omega) (by unfold jnR; split <;> simp [rs0]))
    have HG := hide hX2
    clear hF hFc hFt hR' hR hj0 hjok a1 hX2 hG
    by_cases a4 : 4 ≤ n
    · obtain ⟨b3, o3, hix, hcx⟩ := h.idx (show 3 < n by omega) (3 : Int) rfl
      have hby := h.byt.at 3
      have HJ := hide (show jnR bs = { rs0 with sq := bs[3]?.getD 0 } by unfold jnR; rw [if_pos (by omega)]; simp)
      have a4' : (4 : Int) ≤ (n : Int) := by omega
      clear h hlen
      generalize bs[3]?.getD 0 = d at *
      have HCX := hide hcx
      clear hcx
      go_enter Try.func21, Try.ntmps21
      go_wp2_with (first
        | (go_at_call 22; refine (unhide cn).mono ?_; rintro e w1 ⟨rfl, r1, b1⟩; have c2 := r1.c2; have f2 := r1.free 2; have hcx := cell_later b1 (unhide HCX); have R2 := hide (show Xl (w1.setCell ⟨w.heap.size, 2, none⟩ (.int .u8 d)) w.heap.size M L none 0 none 0 { rs0 with sq := d } by
            refine r1.cells ((Gb.refl _ w1).set 2 _) ?_ (.inl ⟨rfl, rfl, rfl⟩) ⟨fun k a => a, r1.held⟩ ⟨r1.ok.m0, r1.ok.m1, r1.ok.l0, r1.ok.l1, hby.1, hby.2, r1.ok.bl, r1.ok.hl, r1.ok.w0, r1.ok.w1⟩ r1.f0 r1.f1
            rw [heap_setCell_same w1 _ 2 _ _ (.int .u8 d) r1.st]
            simp [xv]); have gs : w.heap.size < w1.heap.size := r1.lt; have B1 := hide b1; clear r1 b1))
      have BL2 : Below w.heap.size w (w1.setCell ⟨w.heap.size, 2, none⟩ (.int .u8 d)) := (unhide B1).setCell (Nat.le_refl _) _
      refine (unhide feeds _ ((unhide HB).later BL2) (by rw [unhide HJ]; exact unhide R2)).mono ?_
      rintro e w3 ⟨tq, tn, tc, l, bo', bc', ho', hc', rfl, hp, hpl, hr, hfs⟩
      have PK := hide hp
      have HPL := hide (show l.map pl = F.2.1 by rw [hpl, unhide HG])
      have hGe : G.2.2 = F.2.2 := by rw [unhide HG]
      rw [hGe]
      have B3 := hide (BL2.trans (hfs.below (by simp; omega) (fun k q => by rcases q with q | q | q; omega; exact absurd q ob_none; exact absurd q ob_none)))
      clear hp hpl hr hfs feeds c2 f2 hcx R2 BL2 hGe
      go_wp2_with fail
      have hcn : tn ≤ n := by rw [← (unhide PK).len, ← List.length_map (f := pl), unhide HPL]; exact unhide HFc
      have hpc := (unhide PK).le
      have hpm := (unhide PK).max
      go_loop [13, 14, 15] (fun lv av iv => ∃ (i : Nat) (N : Int), i ≤ tn ∧ iv = .int .i64 (i : Int) ∧ av = .int .i64 N ∧ lv = .int .i64 N ∧ N = smf M (F.2.1.take i) ∧ 0 ≤ N ∧ N ≤ i * 10000000000) (fun _ _ iv => tn - (intOf iv).toNat)
      case atStart => exact ⟨0, 0, Nat.zero_le _, rfl, rfl, rfl, rfl, by omega, by omega⟩
      case round =>
        obtain ⟨i, N, hi, rfl, rfl, rfl, hN, hN0, hN1⟩ := hrel
        by_cases ai : i < tn
        · have ai' : (i : Int) < (tn : Int) := by omega
          obtain ⟨p, hp⟩ : ∃ p, l[i]? = some p := ⟨_, List.getElem?_eq_getElem (show i < l.length by rw [(unhide PK).len]; exact ai)⟩
          obtain ⟨bb, oo, hix, d0, d1, d2⟩ := (unhide PK).idx hp (i : Int) rfl
          have hpt : F.2.1[i]? = some (pl p) := by rw [← unhide HPL, List.getElem?_map, hp]; rfl
          have hpb : (p.bs.length : Int) ≤ L := unhide HFt (pl p) (List.mem_of_getElem? hpt)
          have hnx := smf_next M F.2.1 i (pl p) hpt
          have hz := frm_le (p.bs.length : Int) M (by omega) hm0
          have hz0 : 0 ≤ szf (p.bs.length : Int) M ∧ szf (p.bs.length : Int) M ≤ 10000000000 := by unfold szf; omega
          rw [show (pl p).2.2.length = p.bs.length from rfl, ← hN] at hnx
          have hPb := ((unhide PK).bod p (List.mem_of_getElem? hp)).le
          have hPm := ((unhide PK).bod p (List.mem_of_getElem? hp)).max
          obtain ⟨A1, hA1⟩ : ∃ A1, A1 = N + szf (p.bs.length : Int) M := ⟨_, rfl⟩
          have hAb : A1 ≤ 100000000000000000 := by omega
          have HA := hide (show A1 = smf M (F.2.1.take (i + 1)) by rw [hA1, hnx])
          have HA2 := hide (show 0 ≤ A1 ∧ A1 ≤ (i + 1 : Nat) * 10000000000 by omega)
          have HA1 := hide hA1
          clear hpt hz hN hp hnx hz0 hA1 d0 d1 hN1
          generalize p.bs.length = PL at *
          go_wp2_with fail
          go_loop [14, 16] (fun av mv => ∃ (a m : Int), av = .int .i64 a ∧ mv = .int .i64 m ∧ 0 ≤ m ∧ m ≤ L ∧ 0 ≤ a ∧ A1 = a + szf m M) (fun _ mv => (intOf mv).toNat)
          case atStart => exact ⟨N, (PL : Int), rfl, rfl, by omega, hpb, hN0, unhide HA1⟩
          case round =>
            obtain ⟨a, m, rfl, rfl, m0', m1', a0', hA⟩ := hrel
            by_cases am : m < M
            · rw [szf_last m M m0' am] at hA
              have hA' : a + 4 + m = A1 := by omega
              have ham : a ≤ 100000000000000000 := by omega
              clear hA
              go_wp2_with fail
              go_round
              case rel => exact ⟨i + 1, A1, by omega, by go_num, rfl, rfl, unhide HA, (unhide HA2).1, (unhide HA2).2⟩
              case measure => simp [intOf]; omega
            · rw [szf_more m M (by omega) hm0] at hA
              have hf0 := frm_le (m - M) M (by omega) hm0
              have hzz : 0 ≤ szf (m - M) M := by unfold szf; omega
              have ham : a + M ≤ 100000000000000000 := by omega
              have HAA := hide (show A1 = a + 4 + M + szf (m - M) M by omega)
              clear hA hf0 hzz
              go_wp2_with fail
              go_round
              case rel => exact ⟨a + 4 + M, m - M, rfl, rfl, by omega, by omega, by omega, unhide HAA⟩
              case measure => simp [intOf]; omega
        · have hie : i = tn := by omega
          subst hie
          have hNs := hide (show N = smf M F.2.1 by rw [hN, List.take_of_length_le (by rw [← unhide HPL, List.length_map, (unhide PK).len]; exact Nat.le_refl _)])
          have hNb : N ≤ 100000000000000000 := by omega
          clear hN
          obtain ⟨E, hE⟩ : ∃ E, E = F.2.2 := ⟨_, rfl⟩
          rw [← hE] at hFe ⊢
          have HE := hide hE
          clear hE
          by_cases ae : E = 0
          · by_cases an : N < (n : Int)
            · have HRx := hide (show R = (F.2.1, N, 4) by rw [unhide HR, ← unhide hNs, ← unhide HE, if_pos ⟨ae, an⟩])
              subst ae
              go_wp2_with fail
              go_ret3
              rw [unhide HRx]
              exact ⟨tq, i, tc, l, rfl, unhide PK, unhide HPL, unhide B3⟩
            · have HRx := hide (show R = (F.2.1, N, 0) by rw [unhide HR, ← unhide hNs, ← unhide HE, if_neg (fun q => an q.2), ae])
              subst ae
              go_wp2_with fail
              go_ret3
              rw [unhide HRx]
              exact ⟨tq, i, tc, l, rfl, unhide PK, unhide HPL, unhide B3⟩
          · have be : (E == 0) = false := by rw [beq_eq_false_iff_ne]; exact ae
            have HRx := hide (show R = (F.2.1, N, E) by rw [unhide HR, ← unhide hNs, ← unhide HE, if_neg (fun q => ae q.1)])
            clear ae
            go_wp2_with fail
            go_ret3
            rw [unhide HRx]
            exact ⟨tq, i, tc, l, rfl, unhide PK, unhide HPL, unhide B3⟩
    · have HJ := hide (show jnR bs = rs0 by unfold jnR; rw [if_neg (by omega)])
      have a4' : (n : Int) < 4 := by omega
      clear h hlen
      go_enter Try.func21, Try.ntmps21
      go_wp2_with (first
        | (go_at_call 22; refine (unhide cn).mono ?_; rintro e w1 ⟨rfl, r1, b1⟩; have R2 := hide r1; have gs : w.heap.size < w1.heap.size := r1.lt; have B1 := hide b1; clear r1 b1))
      refine (unhide feeds _ ((unhide HB).later (unhide B1)) (by rw [unhide HJ]; exact unhide R2)).mono ?_
      rintro e w3 ⟨tq, tn, tc, l, bo', bc', ho', hc', rfl, hp, hpl, hr, hfs⟩
      have PK := hide hp
      have HPL := hide (show l.map pl = F.2.1 by rw [hpl, unhide HG])
      have hGe : G.2.2 = F.2.2 := by rw [unhide HG]
      rw [hGe]
      have B3 := hide ((unhide B1).trans (hfs.below (by omega) (fun k q => by rcases q with q | q | q; omega; exact absurd q ob_none; exact absurd q ob_none)))
      clear hp hpl hr hfs feeds R2 hGe
      go_wp2_with fail
      have hcn : tn ≤ n := by rw [← (unhide PK).len, ← List.length_map (f := pl), unhide HPL]; exact unhide HFc
      have hpc := (unhide PK).le
      have hpm := (unhide PK).max
      go_loop [13, 14, 15] (fun lv av iv => ∃ (i : Nat) (N : Int), i ≤ tn ∧ iv = .int .i64 (i : Int) ∧ av = .int .i64 N ∧ lv = .int .i64 N ∧ N = smf M (F.2.1.take i) ∧ 0 ≤ N ∧ N ≤ i * 10000000000) (fun _ _ iv => tn - (intOf iv).toNat)
      case atStart => exact ⟨0, 0, Nat.zero_le _, rfl, rfl, rfl, rfl, by omega, by omega⟩
      case round =>
        obtain ⟨i, N, hi, rfl, rfl, rfl, hN, hN0, hN1⟩ := hrel
        by_cases ai : i < tn
        · have ai' : (i : Int) < (tn : Int) := by omega
          obtain ⟨p, hp⟩ : ∃ p, l[i]? = some p := ⟨_, List.getElem?_eq_getElem (show i < l.length by rw [(unhide PK).len]; exact ai)⟩
          obtain ⟨bb, oo, hix, d0, d1, d2⟩ := (unhide PK).idx hp (i : Int) rfl
          have hpt : F.2.1[i]? = some (pl p) := by rw [← unhide HPL, List.getElem?_map, hp]; rfl
          have hpb : (p.bs.length : Int) ≤ L := unhide HFt (pl p) (List.mem_of_getElem? hpt)
          have hnx := smf_next M F.2.1 i (pl p) hpt
          have hz := frm_le (p.bs.length : Int) M (by omega) hm0
          have hz0 : 0 ≤ szf (p.bs.length : Int) M ∧ szf (p.bs.length : Int) M ≤ 10000000000 := by unfold szf; omega
          rw [show (pl p).2.2.length = p.bs.length from rfl, ← hN] at hnx
          have hPb := ((unhide PK).bod p (List.mem_of_getElem? hp)).le
          have hPm := ((unhide PK).bod p (List.mem_of_getElem? hp)).max
          obtain ⟨A1, hA1⟩ : ∃ A1, A1 = N + szf (p.bs.length : Int) M := ⟨_, rfl⟩
          have hAb : A1 ≤ 100000000000000000 := by omega
          have HA := hide (show A1 = smf M (F.2.1.take (i + 1)) by rw [hA1, hnx])
          have HA2 := hide (show 0 ≤ A1 ∧ A1 ≤ (i + 1 : Nat) * 10000000000 by omega)
          have HA1 := hide hA1
          clear hpt hz hN hp hnx hz0 hA1 d0 d1 hN1
          generalize p.bs.length = PL at *
          go_wp2_with fail
          go_loop [14, 16] (fun av mv => ∃ (a m : Int), av = .int .i64 a ∧ mv = .int .i64 m ∧ 0 ≤ m ∧ m ≤ L ∧ 0 ≤ a ∧ A1 = a + szf m M) (fun _ mv => (intOf mv).toNat)
          case atStart => exact ⟨N, (PL : Int), rfl, rfl, by omega, hpb, hN0, unhide HA1⟩
          case round =>
            obtain ⟨a, m, rfl, rfl, m0', m1', a0', hA⟩ := hrel
            by_cases am : m < M
            · rw [szf_last m M m0' am] at hA
              have hA' : a + 4 + m = A1 := by omega
              have ham : a ≤ 100000000000000000 := by omega
              clear hA
              go_wp2_with fail
              go_round
              case rel => exact ⟨i + 1, A1, by omega, by go_num, rfl, rfl, unhide HA, (unhide HA2).1, (unhide HA2).2⟩
              case measure => simp [intOf]; omega
            · rw [szf_more m M (by omega) hm0] at hA
              have hf0 := frm_le (m - M) M (by omega) hm0
              have hzz : 0 ≤ szf (m - M) M := by unfold szf; omega
              have ham : a + M ≤ 100000000000000000 := by omega
              have HAA := hide (show A1 = a + 4 + M + szf (m - M) M by omega)
              clear hA hf0 hzz
              go_wp2_with fail
              go_round
              case rel => exact ⟨a + 4 + M, m - M, rfl, rfl, by omega, by omega, by omega, unhide HAA⟩
              case measure => simp [intOf]; omega
        · have hie : i = tn := by omega
          subst hie
          have hNs := hide (show N = smf M F.2.1 by rw [hN, List.take_of_length_le (by rw [← unhide HPL, List.length_map, (unhide PK).len]; exact Nat.le_refl _)])
          have hNb : N ≤ 100000000000000000 := by omega
          clear hN
          obtain ⟨E, hE⟩ : ∃ E, E = F.2.2 := ⟨_, rfl⟩
          rw [← hE] at hFe ⊢
          have HE := hide hE
          clear hE
          by_cases ae : E = 0
          · by_cases an : N < (n : Int)
            · have HRx := hide (show R = (F.2.1, N, 4) by rw [unhide HR, ← unhide hNs, ← unhide HE, if_pos ⟨ae, an⟩])
              subst ae
              go_wp2_with fail
              go_ret3
              rw [unhide HRx]
              exact ⟨tq, i, tc, l, rfl, unhide PK, unhide HPL, unhide B3⟩
            · have HRx := hide (show R = (F.2.1, N, 0) by rw [unhide HR, ← unhide hNs, ← unhide HE, if_neg (fun q => an q.2), ae])
              subst ae
              go_wp2_with fail
              go_ret3
              rw [unhide HRx]
              exact ⟨tq, i, tc, l, rfl, unhide PK, unhide HPL, unhide B3⟩
          · have be : (E == 0) = false := by rw [beq_eq_false_iff_ne]; exact ae
            have HRx := hide (show R = (F.2.1, N, E) by rw [unhide HR, ← unhide hNs, ← unhide HE, if_neg (fun q => ae q.1)])
            clear ae
            go_wp2_with fail
            go_ret3
            rw [unhide HRx]
            exact ⟨tq, i, tc, l, rfl, unhide PK, unhide HPL, unhide B3⟩
  · have cn := hide (xnew_bad M L w a1)
    have HR := hide (show R = ([], 0, 2) by rw [hR]; unfold joinR; rw [if_pos a1])
    clear a1 h hR
    go_enter Try.func21, Try.ntmps21
    go_wp2_with (first
      | (go_at_call 22; refine same_world (unhide cn) ?_))
    go_ret3
    rw [unhide HR]
    exact ⟨none, 0, 0, [], rfl, Pks.nought _, rfl, Below.refl _ _⟩

end Go.Proofs.Ytoblnmbbdhagbaa
