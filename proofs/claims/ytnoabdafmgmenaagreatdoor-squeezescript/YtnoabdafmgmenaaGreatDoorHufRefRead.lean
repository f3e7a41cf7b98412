/-
  What Bit and Decode of the document's own answer return: the same plain functions. They write nothing. Conditions: the slices can be read, the lengths are a code, at most a million bytes.
-/
import Derived.Test.YtnoabdafmgmenaaGreatDoorMHuf2
import Derived.Test.YtnoabdafmgmenaaGreatDoorHufRefCodes2
namespace Go.Proofs.YtnoabdafmgmenaaGreatDoor
open Go.RowKit
set_option linter.unusedVariables false
set_option linter.unusedSimpArgs false

theorem fnd_no (L : List Int) (k : Nat) (x : Int) (h : ∀ t, t < L.length → hit L k x t = false) : fnd L k x = none := by
  unfold fnd
  rw [List.find?_eq_none]
  intro t ht
  rw [h t (by simpa using ht)]
  simp

theorem lng_pos (L : List Int) : ∀ m, lng L m ≠ 0 → 0 < cz L (lng L m)
  | 0, h => by simp [lng] at h
  | m + 1, h => by
    simp only [lng] at h ⊢
    split
    · rename_i hc; exact hc
    · rename_i hc; rw [if_neg hc] at h; exact lng_pos L m h
/-- The greatest of the first m lengths. -/
def mxT (L : List Int) : Nat → Int
  | 0 => 0
  | m + 1 => max (mxT L m) (ln L m)
theorem mxT_ge (L : List Int) : ∀ m i, i < m → ln L i ≤ mxT L m
  | 0, i, h => by omega
  | m + 1, i, h => by
    simp only [mxT]
    by_cases hi : i = m
    · subst hi; omega
    · have := mxT_ge L m i (by omega); omega
theorem mxT_le (L : List Int) (B : Int) (hB : 0 ≤ B) : ∀ m, (∀ i, i < m → ln L i ≤ B) → mxT L m ≤ B
  | 0, _ => by simpa [mxT] using hB
  | m + 1, h => by
    have := mxT_le L B hB m (fun i hi => h i (by omega))
    have := h m (by omega)
    simp only [mxT]; omega
theorem mxT_nonneg (L : List Int) : ∀ m, 0 ≤ mxT L m
  | 0 => by simp [mxT]
  | m + 1 => by have := mxT_nonneg L m; simp only [mxT]; omega
theorem mx_lng {L : List Int} (hG : Good L) : mxT L L.length = (lng L 16 : Nat) := by
  have h1 : mxT L L.length ≤ (lng L 16 : Nat) := by
    refine mxT_le L _ (by omega) _ fun i hi => ?_
    have hf := hG.fit _ (ln_mem hi)
    by_cases h0 : ln L i = 0
    · omega
    · obtain ⟨k, hk⟩ : ∃ k : Nat, ln L i = (k : Int) := ⟨(ln L i).toNat, by omega⟩
      have hr := rk_bound L hi k hk (by omega)
      have hr0 := rk_nonneg L i
      have := lng_ge L 16 k (by omega) (by omega)
      omega
  have h2 : ((lng L 16 : Nat) : Int) ≤ mxT L L.length := by
    by_cases h0 : lng L 16 = 0
    · rw [h0]; exact mxT_nonneg L _
    · have hz := lng_pos L 16 h0
      unfold cz at hz
      rw [if_neg h0] at hz
      have hm : ((lng L 16 : Nat) : Int) ∈ L := List.count_pos_iff.1 (by omega)
      obtain ⟨i, hi, e⟩ := List.getElem_of_mem hm
      have := mxT_ge L L.length i hi
      rw [show ln L i = ((lng L 16 : Nat) : Int) by simp [ln, List.getElem?_eq_getElem hi, e]] at this
      exact this
  omega

set_option maxHeartbeats 1000000 in
theorem bit_ref (ao : Option Addr) (n c : Nat) (bs : List Int) (i : Nat) (w : World) (h : Bs w ao n c bs) (hi : i / 8 < n) (hn : n ≤ 1000000) :
    Calls Tryz.prog 76 #[.slice ao n c, .int .i64 (i : Int)] w fun e w' => e = .returned (.int .i64 (bitAt bs i)) ∧ w' = w := by
  obtain ⟨b, o, hix, hcx⟩ := h.idx hi ((i : Int) / 8) (by omega)
  have hb := h.byt.at (i / 8)
  obtain ⟨v, hv⟩ : ∃ v, v = bs[i / 8]?.getD 0 := ⟨_, rfl⟩
  rw [← hv] at hcx hb
  have hbit := hide (show bitAt bs i = v / 2 ^ (i % 8) % 2 by unfold bitAt; rw [hv])
  have hy := shr_bd v (i % 8) hb.1 hb.2
  have ha := and1_i64 (v / 2 ^ (i % 8))
  clear h hv
  go_enter Tryz.func76, Tryz.ntmps76
  go_wp2_with fail
  go_ret
  exact ⟨by rw [unhide hbit]; rfl, rfl⟩

set_option maxHeartbeats 1000000 in
theorem decode_ref (ao : Option Addr) (n c : Nat) (L : List Int) (ko : Option Addr) (kc : Nat) (bo : Option Addr) (m d : Nat) (bs : List Int) (at_ : Nat) (A : Int) (hA : A = (at_ : Int)) (w : World) (h : Is w ao n c L) (hk : Is w ko n kc (cds L)) (hb : Bs w bo m d bs) (hG : Good L) (hm : m ≤ 1000000) (hat : A ≤ 9223372036854775807) :
    Calls Tryz.prog 108 #[.slice ao n c, .slice ko n kc, .slice bo m d, .int .i64 A] w fun e w' => e = .returned (.tuple #[.int .i64 (rd L bs at_).1, .int .i64 (rd L bs at_).2.1, .int .i64 (rd L bs at_).2.2]) ∧ w' = w := by
  have H := hide h
  have HK := hide hk
  have HB := hide hb
  have HG := hide hG
  have hlen := hide h.len
  have hmax := h.max
  have hle := h.le
  have bmax := hb.max
  have ble := hb.le
  have hblen := hide hb.len
  have hn : n ≤ 320 := by have := hG.len; rw [unhide hlen] at this; exact this
  have hmx := hide (mx_lng hG)
  have hlg := lng_le L 16
  obtain ⟨lg, hlge⟩ : ∃ lg, lg = lng L 16 := ⟨_, rfl⟩
  have hR0 := hide (show rd L bs at_ = dec L bs at_ lg 0 0 by rw [hlge]; rfl)
  rw [← hlge] at hmx hlg
  clear h hk hb hG hlge
  generalize hRD : rd L bs at_ = R at *
  obtain ⟨r1, r2, r3⟩ := R
  have HR := hide hRD
  have HAT := hide hat
  clear hRD hat
  have hA0 : 0 ≤ A := by omega
  have HA := hide hA
  have HM := hide hm
  clear hA
  go_enter Tryz.func108, Tryz.ntmps108
  go_wp2_with fail
  go_loop [11, 12] (fun x i => ∃ k : Nat, k ≤ n ∧ i = .int .i64 k ∧ x = .int .i64 (mxT L k)) (fun _ i => n - (intOf i).toNat)
  case atStart => exact ⟨0, by omega, rfl, rfl⟩
  case round =>
    obtain ⟨k, hk, rfl, rfl⟩ := hrel
    have mx0 := mxT_nonneg L k
    by_cases hlt : k < n
    · have hkL := hide (show k < L.length by rw [unhide hlen]; exact hlt)
      obtain ⟨b, o, hix, hcx⟩ := (unhide H).idx hlt (k : Int) rfl
      obtain ⟨x, hx⟩ : ∃ x, x = ln L k := ⟨_, rfl⟩
      rw [show L[k]?.getD 0 = x from hx.symm] at hcx
      have hst := hide (show mxT L (k + 1) = max (mxT L k) x by rw [hx]; rfl)
      have HX := hide hx
      clear hx
      generalize mxT L k = M at *
      go_wp2_with fail
      go_round
      case rel => exact ⟨k + 1, by omega, by go_num, by rw [unhide hst]; congr 1; split <;> omega⟩
      case measure => simp [intOf]; omega
    · have hkn : mxT L k = (lg : Int) := by rw [show k = L.length by rw [unhide hlen]; omega]; exact unhide hmx
      rw [hkn]
      clear hkn mx0
      go_wp2_with fail
      go_loop [13, 14] (fun x t => ∃ (q : Nat) (y : Int), q ≤ lg ∧ t = .int .i64 ((q : Int) + 1) ∧ x = .int .i64 y ∧ 0 ≤ y ∧ y < 2 ^ q ∧ (r1, r2, r3) = dec L bs at_ (lg - q) q y) (fun _ t => 17 - (intOf t).toNat)
      case atStart => exact ⟨0, 0, by omega, rfl, rfl, by omega, by simp, unhide hR0⟩
      case round =>
        obtain ⟨q, y, hq, rfl, rfl, hy0, hy1, hdec⟩ := hrel
        have hp15 := pow_15 (show q ≤ 15 by omega)
        have y1 : y < 32768 := by omega
        have HY1 := hide hy1
        have HDEC := hide hdec
        clear hy1 hdec hp15
        by_cases hql : q < lg
        · obtain ⟨f, hf⟩ : ∃ f, lg - q = f + 1 := ⟨lg - q - 1, by omega⟩
          by_cases hs : 8 * (m : Int) - ((q : Int) + 1) < A
          · have hans := hide (show (r1, r2, r3) = (0, 0, 4) by
              rw [unhide HDEC, hf, dec_short]
              have := unhide HA
              rw [unhide hblen]
              omega)
            clear hf
            go_wp2_with fail
            go_ret3
            have ha := unhide hans
            simp only [Prod.mk.injEq] at ha
            obtain ⟨rfl, rfl, rfl⟩ := ha
            exact ⟨rfl, rfl⟩
          · have hnos := hide (show ¬ 8 * bs.length < at_ + q + 1 by have := unhide HA; rw [unhide hblen]; omega)
            have cb := bit_ref bo m d bs (at_ + q) w (unhide HB) (by have := unhide HA; omega) hm
            rw [show ((at_ + q : Nat) : Int) = A + ((q : Int) + 1) - 1 by have := unhide HA; omega] at cb
            have hbb := bitAt_bd bs (at_ + q)
            obtain ⟨V, hV⟩ : ∃ V, V = bitAt bs (at_ + q) := ⟨_, rfl⟩
            rw [← hV] at cb hbb
            have HV := hide hV
            have CB := hide cb
            clear hV cb
            have e8 := hide hf
            clear hf
            go_wp2_with fail
            refine same_world (unhide CB) ?_
            have hm1 : ((q : Int) + 1) = ((q + 1 : Nat) : Int) := by omega
            have HM1 := hide hm1
            clear hm1
            go_wp2_with fail
            go_loop [15] (fun t => ∃ i : Nat, i ≤ n ∧ t = .int .i64 i ∧ ∀ t, t < i → hit L (q + 1) (2 * y + V) t = false) (fun t => n - (intOf t).toNat)
            case atStart => exact ⟨0, by omega, rfl, fun t ht => by omega⟩
            case round =>
              obtain ⟨i, hi, rfl, hno⟩ := hrel
              have HNO := hide hno
              clear hno
              by_cases hin : i < n
              · have hiL := hide (show i < L.length by rw [unhide hlen]; exact hin)
                obtain ⟨b1, o1, ix1, cx1⟩ := (unhide H).idx hin (i : Int) rfl
                obtain ⟨b2, o2, ix2, cx2⟩ := (unhide HK).idx hin (i : Int) rfl
                rw [cds_at L (unhide hiL)] at cx2
                obtain ⟨x, hx⟩ : ∃ x, x = ln L i := ⟨_, rfl⟩
                obtain ⟨z, hz⟩ : ∃ z, z = code L i := ⟨_, rfl⟩
                rw [show L[i]?.getD 0 = x from hx.symm] at cx1
                rw [← hz] at cx2
                have HX := hide hx
                have HZ := hide hz
                clear hx hz
                by_cases hx1 : x = (q : Int) + 1
                · by_cases hz1 : z = 2 * y + V
                  · have hans := hide (show (r1, r2, r3) = ((i : Int), ((q + 1 : Nat) : Int), 0) by
                      rw [unhide HDEC, unhide e8, dec_hit _ _ _ _ _ _ (unhide hnos) i]
                      rw [← unhide HV]
                      exact fnd_some L (by omega) (unhide hiL) (by rw [← unhide HX, hx1]; omega) (by rw [← unhide HZ, hz1]))
                    subst hx1 hz1
                    go_wp2_with fail
                    go_ret3
                    have ha := unhide hans
                    simp only [Prod.mk.injEq] at ha
                    obtain ⟨rfl, rfl, rfl⟩ := ha
                    exact ⟨rfl, rfl⟩
                  · have hmiss := hide (show hit L (q + 1) (2 * y + V) i = false by
                      unfold hit
                      rw [← unhide HZ]
                      simp [hz1])
                    have hz2 : (z == 2 * y + V) = false := by simpa using hz1
                    subst hx1
                    go_wp2_with fail
                    go_round
                    case rel =>
                      refine ⟨i + 1, by omega, by go_num, fun t ht => ?_⟩
                      by_cases hti : t = i
                      · rw [hti]; exact unhide hmiss
                      · exact unhide HNO t (by omega)
                    case measure => simp [intOf]; omega
                · have hmiss := hide (show hit L (q + 1) (2 * y + V) i = false by
                    have : decide (ln L i = ((q + 1 : Nat) : Int)) = false := decide_eq_false (by rw [← unhide HX]; omega)
                    unfold hit
                    rw [this]
                    rfl)
                  have hx2 : (x == (q : Int) + 1) = false := by simpa using hx1
                  go_wp2_with fail
                  go_round
                  case rel =>
                    refine ⟨i + 1, by omega, by go_num, fun t ht => ?_⟩
                    by_cases hti : t = i
                    · rw [hti]; exact unhide hmiss
                    · exact unhide HNO t (by omega)
                  case measure => simp [intOf]; omega
              · have hans := hide (show (r1, r2, r3) = dec L bs at_ (lg - (q + 1)) (q + 1) (2 * y + V) by
                  rw [unhide HDEC, unhide e8, dec_miss _ _ _ _ _ _ (unhide hnos)]
                  · rw [← unhide HV, show lg - (q + 1) = f by have := unhide e8; omega]
                  · rw [← unhide HV]
                    exact fnd_no L (q + 1) _ (fun t ht => unhide HNO t (by rw [unhide hlen] at ht; omega)))
                have hy3 := hide (show 2 * y + V < 2 ^ (q + 1) by have := unhide HY1; rw [Int.pow_succ]; omega)
                go_wp2_with fail
                go_round
                case rel => exact ⟨q + 1, 2 * y + V, by omega, by go_num, rfl, by omega, unhide hy3, unhide hans⟩
                case measure => simp [intOf]; omega
        · have hans := hide (show (r1, r2, r3) = (0, 0, 5) by
            rw [unhide HDEC, show lg - q = 0 by omega]
            rfl)
          go_wp2_with fail
          go_ret3
          have ha := unhide hans
          simp only [Prod.mk.injEq] at ha
          obtain ⟨rfl, rfl, rfl⟩ := ha
          exact ⟨rfl, rfl⟩

end Go.Proofs.YtnoabdafmgmenaaGreatDoor
