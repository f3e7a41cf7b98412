/-
  What putFrame and Split of package packet return: the plain function spl. Conditions: lengths together below 2 to the 40.
-/
import Derived.Test.YtbolaljlhmakeaaGreatDoorPktFeed
namespace Go.Proofs.YtbolaljlhmakeaaGreatDoor.Pkt
open Go.RowKit
set_option linter.unusedVariables false
set_option linter.unusedSimpArgs false

/-- A frame. -/
def fr1 (part : List Int) (q : Int) : List Int := le part.length 3 ++ ([q] ++ part)
theorem fr1_len (part : List Int) (q : Int) : (fr1 part q).length = 4 + part.length := by simp [fr1, le_length]; omega
theorem fr1_byt {part : List Int} {q : Int} (h : Byt part) (q0 : 0 ≤ q) (q1 : q ≤ 255) : Byt (fr1 part q) := (le_byt _ _).app ((Byt.one q0 q1).app h)
/-- The frames of a payload, and the number behind. -/
def spl (M : Nat) : Nat → List Int → Int → List Int × Int
  | 0, b, q => (fr1 b q, (q + 1) % 256)
  | f + 1, b, q => if M ≤ b.length then (fr1 (b.take M) q ++ (spl M f (b.drop M) ((q + 1) % 256)).1, (spl M f (b.drop M) ((q + 1) % 256)).2) else (fr1 b q, (q + 1) % 256)
theorem spl_last {M f : Nat} {b : List Int} {q : Int} (h : b.length < M) : spl M f b q = (fr1 b q, (q + 1) % 256) := by
  cases f with
  | zero => rfl
  | succ f => simp only [spl]; rw [if_neg (by omega)]
theorem spl_more {M f : Nat} {b : List Int} {q : Int} (hM : 1 ≤ M) (hf : b.length ≤ f) (h : M ≤ b.length) : ∃ f', (b.drop M).length ≤ f' ∧ spl M f b q = (fr1 (b.take M) q ++ (spl M f' (b.drop M) ((q + 1) % 256)).1, (spl M f' (b.drop M) ((q + 1) % 256)).2) := by
  cases f with
  | zero => omega
  | succ f => exact ⟨f, by rw [List.length_drop]; omega, by simp only [spl]; rw [if_pos h]⟩
/-- What Split answers. -/
def splitR (M : Int) (b : List Int) (q : Int) : List Int × Int × Int :=
  if ¬ (1 ≤ M ∧ M ≤ 16777215) then ([], 0, 2) else if 1073741824 < b.length then ([], 0, 3) else ((spl M.toNat b.length b q).1, (spl M.toNat b.length b q).2, 0)

set_option maxHeartbeats 1000000 in
theorem putFrame_any (B : Nat) (ao : Option Addr) (n c : Nat) (bs : List Int) (po : Option Addr) (m pc : Nat) (part : List Int) (q : Int) (w : World) (h : Mine B w ao n c bs) (hp : ∀ w', Below B w w' → Bs w' po m pc part) (hB : B ≤ w.heap.size)
    (hm : m ≤ 16777215) (hn : n ≤ 1099511627776) (q0 : 0 ≤ q) (q1 : q ≤ 255) :
    Calls Tryz.prog 31 #[.slice ao n c, .slice po m pc, .int .u8 q] w fun e w' => ∃ ao' c', e = .returned (.slice ao' (n + (4 + m)) c') ∧ Mine B w' ao' (n + (4 + m)) c' (bs ++ fr1 part q) ∧ Below B w w' := by
  have hpl := (hp w (Below.refl _ _)).len
  have hple := (hp w (Below.refl _ _)).le
  have hpmx := (hp w (Below.refl _ _)).max
  have h24 : (m : Int) < 2 ^ (8 * (3 : Int).toNat) := by
    rw [show (2 : Int) ^ (8 * (3 : Int).toNat) = 16777216 by decide]
    omega
  have cA := hide (appendFixed_ok none 0 0 [] (m : Int) 3 w (Bs.nought w) (by omega) (by omega) (by omega) (by omega) (by omega) h24)
  rw [show (3 : Int).toNat = 3 from rfl, Nat.zero_add, List.nil_append] at cA
  clear h24
  have HF := hide (show fr1 part q = le (m : Int) 3 ++ ([q] ++ part) by unfold fr1; rw [hpl])
  have HP := hide hp
  have HM := hide h
  clear hp h hpl
  go_enter Tryz.func31, Tryz.ntmps31
  go_wp2_with (first
    | (go_at_call 45; refine (unhide cA).mono ?_; rintro e w1 ⟨lo, lc, rfl, lm, lb⟩; have ML := hide lm; have B1 := hide (lb.mono hB); have M1 := hide ((unhide HM).later lb); have z1 := lb.size; clear lm lb)
    | (at_builtin; refine wpList_app rfl (.tmp 16) (.tmp 17) rfl B _ _ _ _ rfl (unhide M1) _ _ _ _ rfl (unhide ML).bs (by omega) (by omega) ?_; intro o2 c2 w2 m2 b2; have M2 := hide m2; have B2 := hide ((unhide B1).trans b2); have z2 := b2.size; clear m2 b2)
    | (at_builtin; refine wpList_app rfl (.tmp 19) (.tmp 21) rfl B _ _ _ _ rfl ((unhide M2).later (below_alloc w2 _)) _ _ _ _ rfl (Bs.one w2 q q0 q1) (by omega) (by simp; omega) ?_; intro o3 c3 w3 m3 b3; have M3 := hide m3; have B3 := hide ((unhide B2).trans (((below_alloc w2 (.cells #[.int .u8 q] 5)).mono (by omega)).trans b3)); have z3 : w.heap.size ≤ w3.heap.size := (unhide B3).size; clear m3 b3)
    | (at_builtin; refine wpList_app rfl (.tmp 23) (.tmp 24) rfl B _ _ _ _ rfl (unhide M3) _ _ _ _ rfl (unhide HP w3 (unhide B3)) (by omega) (by omega) ?_; intro o4 c4 w4 m4 b4; have M4 := hide m4; have B4 := hide ((unhide B3).trans b4); clear m4 b4))
  go_ret
  have hm4 := unhide M4
  refine ⟨o4, c4, ?_, ?_, unhide B4⟩
  · rw [show n + (4 + m) = n + 3 + 1 + m by omega]; rfl
  · rw [unhide HF, show n + (4 + m) = n + 3 + 1 + m by omega]
    simpa [List.append_assoc] using hm4

/-- New bytes, a number, an error. -/
def OutS (w : World) (R : List Int × Int × Int) (e : Ending) (w' : World) : Prop :=
  ∃ ao c, e = .returned (.tuple #[.slice ao R.1.length c, .int .u8 R.2.1, .int .i64 R.2.2]) ∧ Mine w.heap.size w' ao R.1.length c R.1 ∧ Below w.heap.size w w'

set_option maxHeartbeats 1000000 in
theorem split_any (ao : Option Addr) (n c : Nat) (bs : List Int) (q M : Int) (w : World) (h : Bs w ao n c bs) (q0 : 0 ≤ q) (q1 : q ≤ 255) (hn : n ≤ 1000000000) :
    Calls Tryz.prog 17 #[.slice ao n c, .int .u8 q, .int .i64 M] w fun e w' => OutS w (splitR M bs q) e w' := by
  obtain ⟨R, hR⟩ : ∃ R, R = splitR M bs q := ⟨_, rfl⟩
  rw [← hR]
  have cm := hide (fun w => isMost_any M w)
  have hlen := h.len
  have hle := h.le
  have hmx := h.max
  by_cases a1 : 1 ≤ M ∧ M ≤ 16777215
  · rw [show decide (1 ≤ M ∧ M ≤ 16777215) = true by simpa using a1] at cm
    obtain ⟨m0, m1⟩ := a1
    obtain ⟨m, rfl⟩ := Int.eq_ofNat_of_zero_le (show 0 ≤ M by omega)
    have hR' : R = ((spl m n bs q).1, (spl m n bs q).2, 0) := by
      rw [hR]; unfold splitR; rw [if_neg (by simp; omega), if_neg (by omega), Int.toNat_natCast, hlen]
    have cz := hide (fun w => sizeInFrames_any (n : Int) (m : Int) w (by omega) (by omega) m0 m1)
    have hz := frm_le (n : Int) (m : Int) (by omega) m0
    obtain ⟨Z, hZ⟩ : ∃ Z : Nat, szf (n : Int) (m : Int) = Z := ⟨(szf (n : Int) (m : Int)).toNat, by unfold szf; omega⟩
    have hZb : Z ≤ 100000000000 := by unfold szf at hZ; omega
    rw [hZ] at cz
    have HR := hide hR'
    have HB := hide (fun w' (hb : Below w.heap.size w w') => h.later hb)
    have HL := hide hlen
    have n1 : (n : Int) ≤ 1073741824 := by omega
    have hm1' : 1 ≤ m := by omega
    have hm2' : m ≤ 16777215 := by omega
    clear h hR hR' hz hZ hlen
    go_enter Tryz.func17, Tryz.ntmps17
    go_wp2_with (first
      | (go_at_call 29; refine same_world (unhide cm _) ?_)
      | (go_at_call 30; refine same_world (unhide cz _) ?_)
      | (at_make; refine wpList_mk rfl _ _ rfl _ _ _ Z rfl rfl rfl (by omega) ?_; intro w1 hm1 hb1 hz1; have M1 := hide hm1; have B1 := hide hb1; clear hm1 hb1 hz1))
    go_loopw [0, 1, 9] (fun bv qv ov ws => ∃ (f : Nat) (b' : List Int) (q' : Int) (bo : Option Addr) (bc : Nat) (oo : Option Addr) (oc : Nat) (done : List Int), b'.length ≤ f ∧ b'.length ≤ n ∧ done.length ≤ 5 * (n - b'.length) ∧ 0 ≤ q' ∧ q' ≤ 255 ∧ bv = .slice bo b'.length bc ∧ qv = .int .u8 q' ∧ ov = .slice oo done.length oc ∧ R = (done ++ (spl m f b' q').1, (spl m f b' q').2, 0) ∧ (∀ w', Below w.heap.size w w' → Bs w' bo b'.length bc b') ∧ Mine w.heap.size ws oo done.length oc done ∧ Below w.heap.size w ws) (fun bv _ _ _ => sln bv)
    case atStart => exact ⟨n, bs, q, ao, c, _, _, [], by rw [unhide HL]; exact Nat.le_refl _, by rw [unhide HL]; exact Nat.le_refl _, by simp, q0, q1, by rw [unhide HL], rfl, rfl, by rw [List.nil_append]; exact unhide HR, by rw [unhide HL]; exact unhide HB, unhide M1, unhide B1⟩
    case round =>
      clear HR HB M1 B1
      obtain ⟨f, b', q', bo, bc, oo, oc, done, hf, hbn, hdn, r0, r1, rfl, rfl, rfl, hR, hB, hM, hW⟩ := hrel
      have hsz := hW.size
      have bmx := (hB w (Below.refl _ _)).max
      have ble := (hB w (Below.refl _ _)).le
      by_cases a2 : m ≤ b'.length
      · obtain ⟨f', hf', hsp⟩ := spl_more (q := q') hm1' hf a2
        rw [hsp] at hR
        have cut1 := run_cut_h bo b'.length bc m (by omega) (m : Int) rfl
        have cut2 := run_cut_l bo b'.length bc m a2 (m : Int) rfl
        have hq := hide (fun w' hw => (hB w' hw).cut (Nat.zero_le m) a2)
        have hr := hide (fun w' hw => (hB w' hw).cut a2 (Nat.le_refl _))
        simp only [Nat.sub_zero, List.drop_zero] at cut1 hq
        have hdl : (b'.drop m).length = b'.length - m := by simp
        rw [show (b'.drop m).take (b'.length - m) = b'.drop m from List.take_of_length_le (by simp)] at hr
        generalize cutAt bo bc 0 = bo1 at *
        generalize cutAt bo bc m = bo2 at *
        generalize bc - m = bc2 at *
        have hp := hide (putFrame_any w.heap.size oo done.length oc done bo1 m bc (b'.take m) q' wr hM (fun w' hw => unhide hq w' (hW.trans hw)) hsz (by omega) (by omega) r0 r1)
        have a2' : (m : Int) ≤ (b'.length : Int) := by omega
        have HRn := hide hR
        have HW := hide hW
        have HD := hide hdl
        have HF' := hide hf'
        clear hR hB hM hW hdl hf' hsp hf hq
        generalize hbl : b'.length = BL at *
        go_wp2_with (first
          | (go_at_call 31; refine (unhide hp).mono ?_; rintro e w2 ⟨o2, c2, rfl, m2, b2⟩; have M2 := hide m2; have B2 := hide ((unhide HW).trans b2); clear m2 b2))
        go_roundw
        case rel =>
          refine ⟨f', b'.drop m, (q' + 1) % 256, bo2, bc2, o2, c2, done ++ fr1 (b'.take m) q', unhide HF', by rw [unhide HD]; omega, ?_, by omega, by omega, by rw [unhide HD], by first | rfl | go_num, ?_, ?_, by rw [unhide HD]; exact unhide hr, ?_, unhide B2⟩
          · rw [List.length_append, fr1_len, List.length_take, unhide HD]; omega
          · rw [List.length_append, fr1_len, List.length_take, Nat.min_eq_left (by omega)]
          · rw [unhide HRn, List.append_assoc]
          · rw [List.length_append, fr1_len, List.length_take, Nat.min_eq_left (by omega)]; exact unhide M2
        case measure => simp [sln]; omega
      · have a2' : b'.length < m := by omega
        rw [spl_last (by omega)] at hR
        have hp := hide (putFrame_any w.heap.size oo done.length oc done bo b'.length bc b' q' wr hM (fun w' hw => hB w' (hW.trans hw)) hsz (by omega) (by omega) r0 r1)
        have HRn := hide hR
        have HW := hide hW
        clear hR hB hM hW hf a2
        have hfl := fr1_len b' q'
        have HFL := hide hfl
        clear hfl
        generalize hbl : b'.length = BL at *
        go_wp2_with (first
          | (go_at_call 31; refine (unhide hp).mono ?_; rintro e w2 ⟨o2, c2, rfl, m2, b2⟩; have M2 := hide m2; have B2 := hide ((unhide HW).trans b2); clear m2 b2))
        refine bodyPost_ret (results_tmp3 rfl _ _ _) rfl ?_
        refine ⟨o2, c2, ?_, ?_, unhide B2⟩
        · rw [unhide HRn]
          simp only [List.length_append]
          rw [unhide HFL]
          rfl
        · rw [unhide HRn]
          simp only [List.length_append]
          rw [unhide HFL]
          exact unhide M2
  · rw [show decide (1 ≤ M ∧ M ≤ 16777215) = false by simpa using a1] at cm
    have HR := hide (show R = ([], 0, 2) by rw [hR]; unfold splitR; rw [if_pos a1])
    clear a1 h hR
    go_enter Tryz.func17, Tryz.ntmps17
    go_wp2_with (first
      | (go_at_call 29; refine same_world (unhide cm _) ?_))
    refine bodyPost_ret (results_tmp3 rfl _ _ _) rfl ?_
    rw [unhide HR]
    exact ⟨none, 0, rfl, Mine.nought _ _, Below.refl _ _⟩

end Go.Proofs.YtbolaljlhmakeaaGreatDoor.Pkt
