/-
  What Split of the document's own answer returns: the plain function spl. Conditions: at most 10 to the 9 bytes.
-/
import Derived.Test.YtoblnmbbdhagbaaPktSplit
namespace Go.Proofs.Ytoblnmbbdhagbaa
open Go.RowKit
set_option linter.unusedVariables false
set_option linter.unusedSimpArgs false

theorem le3 (n : Nat) (h : n ≤ 16777215) : le (n : Int) 3 = [(n : Int) % 256, (n : Int) / 256 % 256, (n : Int) / 65536] := by
  simp [le]
  omega

set_option maxHeartbeats 1000000 in
theorem split_ref (ao : Option Addr) (n c : Nat) (bs : List Int) (q M : Int) (w : World) (h : Bs w ao n c bs) (q0 : 0 ≤ q) (q1 : q ≤ 255) (hn : n ≤ 1000000000) :
    Calls Try.prog 19 #[.slice ao n c, .int .u8 q, .int .i64 M] w fun e w' => OutS w (splitR M bs q) e w' := by
  obtain ⟨R, hR⟩ : ∃ R, R = splitR M bs q := ⟨_, rfl⟩
  rw [← hR]
  have hlen := h.len
  have hle := h.le
  have hmx := h.max
  by_cases a1 : 1 ≤ M ∧ M ≤ 16777215
  · obtain ⟨m0, m1⟩ := a1
    obtain ⟨m, rfl⟩ := Int.eq_ofNat_of_zero_le (show 0 ≤ M by omega)
    have hR' : R = ((spl m n bs q).1, (spl m n bs q).2, 0) := by
      rw [hR]; unfold splitR; rw [if_neg (by simp; omega), if_neg (by omega), Int.toNat_natCast, hlen]
    have HR := hide hR'
    have HB := hide (fun w' (hb : Below w.heap.size w w') => h.later hb)
    have HL := hide hlen
    have n1 : (n : Int) ≤ 1073741824 := by omega
    have hm1' : 1 ≤ m := by omega
    have hm2' : m ≤ 16777215 := by omega
    clear h hR hR' hlen
    go_enter Try.func19, Try.ntmps19
    go_wp2_with fail
    go_loopw [1, 9, 10] (fun qv ov av ws => ∃ (f a : Nat) (q' : Int) (oo : Option Addr) (oc : Nat) (done : List Int), a ≤ n ∧ n - a ≤ f ∧ done.length ≤ 5 * a ∧ 0 ≤ q' ∧ q' ≤ 255 ∧ av = .int .i64 (a : Int) ∧ qv = .int .u8 q' ∧ ov = .slice oo done.length oc ∧ R = (done ++ (spl m f (bs.drop a) q').1, (spl m f (bs.drop a) q').2, 0) ∧ Mine w.heap.size ws oo done.length oc done ∧ Below w.heap.size w ws) (fun _ _ av _ => n - (intOf av).toNat)
    case atStart => exact ⟨n, 0, q, none, 0, [], by omega, by omega, by simp, q0, q1, rfl, rfl, rfl, by rw [List.nil_append, List.drop_zero]; exact unhide HR, Mine.nought _ _, Below.refl _ _⟩
    case round =>
      clear HR
      obtain ⟨f, a, q', oo, oc, done, han, hf, hdn, r0, r1, rfl, rfl, rfl, hR, hM, hW⟩ := hrel
      have hsz := hW.size
      have hdl : (bs.drop a).length = n - a := by rw [List.length_drop, unhide HL]
      have hBs := unhide HB
      have HM := hide hM
      have HW := hide hW
      by_cases a2 : m ≤ n - a
      · obtain ⟨f', hf', hsp⟩ := spl_more (q := q') hm1' (b := bs.drop a) (by rw [hdl]; exact hf) (by rw [hdl]; exact a2)
        rw [hsp, List.drop_drop] at hR
        rw [List.drop_drop, List.length_drop, unhide HL] at hf'
        have a2' : ¬ (n : Int) - (a : Int) < (m : Int) := by omega
        have hcut := run_cut_lh ao n c a (a + m) (by omega) (by omega) (a : Int) ((a : Int) + (m : Int)) rfl (by omega)
        have hcb := hide (fun w' hw => (hBs w' hw).cut (lo := a) (hi := a + m) (by omega) (by omega))
        simp only [Nat.add_sub_cancel_left] at hcut hcb
        generalize cutAt ao c a = ao1 at *
        generalize c - a = c1 at *
        have HFR := hide (show fr1 ((bs.drop a).take m) q' = [(m : Int) % 256, (m : Int) / 256 % 256, (m : Int) / 65536, q'] ++ (bs.drop a).take m by
          unfold fr1
          rw [show ((bs.drop a).take m).length = m by rw [List.length_take, hdl]; omega, le3 m hm2']
          simp)
        have HR := hide hR
        have hbl := below_alloc wr (.cells #[.int .u8 ((m : Int) % 256), .int .u8 ((m : Int) / 256 % 256), .int .u8 ((m : Int) / 65536), .int .u8 q'] 5)
        have hlit := hide (show Bs (wr.alloc (.cells #[.int .u8 ((m : Int) % 256), .int .u8 ((m : Int) / 256 % 256), .int .u8 ((m : Int) / 65536), .int .u8 q'] 5)) (some ⟨wr.heap.size, 0, none⟩) 4 4 [(m : Int) % 256, (m : Int) / 256 % 256, (m : Int) / 65536, q'] from Bs.lit wr [(m : Int) % 256, (m : Int) / 256 % 256, (m : Int) / 65536, q'] (Byt.cons (by omega) (by omega) (Byt.cons (by omega) (by omega) (Byt.cons (by omega) (by omega) (Byt.one r0 r1)))) (by simp))
        have BL := hide hbl
        clear hM hW hR hbl hsp hdl
        go_wp2_with (first
          | (at_builtin; refine wpList_app rfl (.tmp 27) (.tmp 37) rfl w.heap.size oo done.length oc done rfl ((unhide HM).later (unhide BL)) _ 4 4 _ rfl (unhide hlit) (by omega) (by simp; omega) ?_; intro o2 c2 w2 m2 b2; have M2 := hide m2; have B2 := hide ((unhide HW).trans (((unhide BL).mono hsz).trans b2)); clear m2 b2)
          | (at_builtin; refine wpList_app rfl (.tmp 39) (.tmp 45) rfl w.heap.size o2 (done.length + 4) c2 _ rfl (unhide M2) ao1 m c1 _ rfl (unhide hcb w2 (unhide B2)) (by omega) (unhide B2).size ?_; intro o3 c3 w3 m3 b3; have M3 := hide m3; have B3 := hide ((unhide B2).trans b3); clear m3 b3))
        have hfl : (fr1 ((bs.drop a).take m) q').length = 4 + m := by rw [fr1_len, List.length_take, List.length_drop, unhide HL]; omega
        have HFL := hide hfl
        clear hfl
        go_roundw
        case rel =>
          refine ⟨f', a + m, (q' + 1) % 256, o3, c3, done ++ fr1 ((bs.drop a).take m) q', by omega, hf', ?_, by omega, by omega, by go_num, rfl, ?_, ?_, ?_, unhide B3⟩
          · rw [List.length_append, unhide HFL]; omega
          · rw [List.length_append, unhide HFL, Nat.add_assoc]
          · rw [unhide HR, List.append_assoc]
          · rw [List.length_append, unhide HFL, unhide HFR, ← Nat.add_assoc, ← List.append_assoc]
            exact unhide M3
        case measure => simp [intOf]; omega
      · have a2' : (n : Int) - (a : Int) < (m : Int) := by omega
        rw [spl_last (by rw [hdl]; omega)] at hR
        obtain ⟨x, hx⟩ : ∃ x, x = n - a := ⟨_, rfl⟩
        have hxi : (n : Int) - (a : Int) = (x : Int) := by omega
        have hxm : x < m := by omega
        have hcut := run_cut_lh ao n c a (a + x) (by omega) (by omega) (a : Int) ((a : Int) + (x : Int)) rfl (by omega)
        have hcb := hide (fun w' hw => (hBs w' hw).cut (lo := a) (hi := a + x) (by omega) (by omega))
        simp only [Nat.add_sub_cancel_left] at hcut hcb
        rw [List.take_of_length_le (l := bs.drop a) (by rw [hdl]; omega)] at hcb
        generalize cutAt ao c a = ao1 at *
        generalize c - a = c1 at *
        have HFR := hide (show fr1 (bs.drop a) q' = [(x : Int) % 256, (x : Int) / 256 % 256, (x : Int) / 65536, q'] ++ bs.drop a by
          unfold fr1
          rw [show (bs.drop a).length = x by rw [hdl, hx], le3 x (by omega)]
          simp)
        have HFL := hide (show (fr1 (bs.drop a) q').length = 4 + x by rw [fr1_len, hdl, hx])
        have HR := hide hR
        have hbl := below_alloc wr (.cells #[.int .u8 ((x : Int) % 256), .int .u8 ((x : Int) / 256 % 256), .int .u8 ((x : Int) / 65536), .int .u8 q'] 5)
        have hlit := hide (show Bs (wr.alloc (.cells #[.int .u8 ((x : Int) % 256), .int .u8 ((x : Int) / 256 % 256), .int .u8 ((x : Int) / 65536), .int .u8 q'] 5)) (some ⟨wr.heap.size, 0, none⟩) 4 4 [(x : Int) % 256, (x : Int) / 256 % 256, (x : Int) / 65536, q'] from Bs.lit wr [(x : Int) % 256, (x : Int) / 256 % 256, (x : Int) / 65536, q'] (Byt.cons (by omega) (by omega) (Byt.cons (by omega) (by omega) (Byt.cons (by omega) (by omega) (Byt.one r0 r1)))) (by simp))
        have BL := hide hbl
        have hxb : x ≤ 16777215 := by omega
        have hax : (a : Int) + (x : Int) ≤ 1073741824 := by omega
        have hdn' : done.length ≤ 10000000000 := by omega
        clear hM hW hR hbl hdl hx a2 han hdn
        go_wp2_with (first
          | (at_builtin; refine wpList_app rfl (.tmp 27) (.tmp 37) rfl w.heap.size oo done.length oc done rfl ((unhide HM).later (unhide BL)) _ 4 4 _ rfl (unhide hlit) (by omega) (by simp; omega) ?_; intro o2 c2 w2 m2 b2; have M2 := hide m2; have B2 := hide ((unhide HW).trans (((unhide BL).mono hsz).trans b2)); clear m2 b2)
          | (at_builtin; refine wpList_app rfl (.tmp 39) (.tmp 45) rfl w.heap.size o2 (done.length + 4) c2 _ rfl (unhide M2) ao1 x c1 _ rfl (unhide hcb w2 (unhide B2)) (by omega) (unhide B2).size ?_; intro o3 c3 w3 m3 b3; have M3 := hide m3; have B3 := hide ((unhide B2).trans b3); clear m3 b3))
        go_ret3
        refine ⟨o3, c3, ?_, ?_, unhide B3⟩
        · rw [unhide HR]
          simp only [List.length_append]
          rw [unhide HFL, ← Nat.add_assoc]
          rfl
        · rw [unhide HR]
          simp only [List.length_append]
          rw [unhide HFL, ← Nat.add_assoc, unhide HFR, ← List.append_assoc]
          exact unhide M3
  · have HR := hide (show R = ([], 0, 2) by rw [hR]; unfold splitR; rw [if_pos a1])
    have hc : M < 1 ∨ 16777215 < M := by omega
    clear a1 h hR
    rcases hc with hc | hc
    · go_enter Try.func19, Try.ntmps19
      go_wp2_with fail
      go_ret3
      rw [unhide HR]
      exact ⟨none, 0, rfl, Mine.nought _ _, Below.refl _ _⟩
    · have hc' : ¬ M < 1 := by omega
      go_enter Try.func19, Try.ntmps19
      go_wp2_with fail
      go_ret3
      rw [unhide HR]
      exact ⟨none, 0, rfl, Mine.nought _ _, Below.refl _ _⟩

end Go.Proofs.Ytoblnmbbdhagbaa
