/-
  What Pieces of the document's own answer returns for any bytes: the same pieces. It writes nothing that was there. Conditions: at most 32,768 bytes.
-/
import Derived.Test.YtbolaljlhmakeaaRefPc
namespace Go.Proofs.Ytbolaljlhmakeaa
open Go.RowKit
set_option linter.unusedVariables false
set_option linter.unusedSimpArgs false

theorem below_drewN (B : Nat) (w : World) (j : Nat) : Below B w (w.drewN j) := ⟨rfl, rfl, rfl, Nat.le_refl _, fun _ _ => rfl⟩
theorem bst_on {bs : List Int} {A back q : Nat} {r : Nat × Nat} (hq : q + back = A) (h : bst bs A = pick (mt bs A) (List.range (A + 1 - back)) r) : bst bs A = pick (mt bs A) (List.range (A + 1 - (back + 1))) (g1 (mt bs A) q r) := by
  rw [h, show A + 1 - back = q + 1 by omega, pick_succ, show A + 1 - (back + 1) = q by omega]
theorem bst_out {bs : List Int} {A back : Nat} {r : Nat × Nat} (h : bst bs A = pick (mt bs A) (List.range (A + 1 - back)) r) (he : A < back ∨ 258 ≤ r.1) : bst bs A = r := by
  rw [h]
  rcases he with he | he
  · rw [show A + 1 - back = 0 by omega]; rfl
  · exact pick_full he _ (fun q _ => by have := mt_le bs A q; unfold mst at this; omega)
theorem pce_of {bs : List Int} {A d : Nat} {r : Nat × Nat} (h : bst bs A = r) (hd : r.1 = 0 ∨ d + r.2 = A) : pce bs A = if 3 ≤ r.1 then ⟨(r.1 : Int), (d : Int), 0⟩ else ⟨0, 0, bs[A]?.getD 0⟩ := by
  unfold pce
  rw [h]
  split
  · unfold pcOf
    rw [if_neg (by omega)]
    rw [show (A : Int) - (r.2 : Int) = (d : Int) by omega]
  · rfl

set_option maxHeartbeats 4000000 in
set_option maxRecDepth 20000 in
theorem pieces_ref (w : World) (bo : Option Addr) (bn bc : Nat) (bs : List Int) (hb : Bs w bo bn bc bs) (hn : bn ≤ 32768) :
    Calls Try.prog 22 #[.slice bo bn bc] w fun e w' => ∃ ao n c, e = .returned (.slice ao n c) ∧ PMine w.heap.size w' ao n c (pieces bs) ∧ Below w.heap.size w w' := by
  have hlen := hide hb.len
  have hle := hb.le
  have hmx := hb.max
  have HB := hide hb
  obtain ⟨R, hR⟩ : ∃ R, R = pieces bs := ⟨_, rfl⟩
  rw [← hR]
  have HR := hide hR
  clear hb hR
  go_enter Try.func22, Try.ntmps22
  go_wp2_with fail
  go_loopw [3, 4] (fun v a wr => ∃ (A f : Nat) (ao : Option Addr) (n c : Nat) (l : List Pc), v = .slice ao n c ∧ a = .int .i64 (A : Int) ∧ l ++ pcs bs f A = R ∧ bn < f + A ∧ A ≤ bn ∧ n ≤ A ∧ PMine w.heap.size wr ao n c l ∧ Below w.heap.size w wr) (fun _ a _ => bn - (intOf a).toNat)
  case atStart => exact ⟨0, bn + 1, none, 0, 0, [], rfl, rfl, by rw [unhide HR]; unfold pieces; rw [unhide hlen]; rfl, by omega, by omega, by omega, PMine.nought _ _, Below.refl _ _⟩
  case round =>
    obtain ⟨A, f, ao, n, c, l, rfl, rfl, hl, hf, hA, hnA, hm, bw⟩ := hrel
    have HL := hide hl
    have HM := hide hm
    have BW := hide bw
    have zw := bw.size
    clear hl hm bw
    by_cases hlt : A < bn
    · have hlt' : (A : Int) < (bn : Int) := by omega
      obtain ⟨f', rfl⟩ : ∃ f', f = f' + 1 := ⟨f - 1, by omega⟩
      have hpos := hide (pcs_on (bs := bs) (A := A) (by rw [unhide hlen]; exact hlt) f')
      have hok := hide (pce_ok bs A (unhide HB).byt (by rw [unhide hlen]; exact hlt) (by rw [unhide hlen]; exact hn))
      go_wp2_with fail
      go_loopw [5, 6, 7] (fun be di bk wr' => ∃ (back d j : Nat) (r : Nat × Nat), 1 ≤ back ∧ back ≤ A + 1 ∧ bk = .int .i64 (back : Int) ∧ be = .int .i64 (r.1 : Int) ∧ di = .int .i64 (d : Int) ∧ (r.1 = 0 ∨ d + r.2 = A) ∧ r.1 ≤ 258 ∧ d ≤ A ∧ A + r.1 ≤ bn ∧ bst bs A = pick (mt bs A) (List.range (A + 1 - back)) r ∧ wr' = wr.drewN j) (fun _ _ bk _ => A + 1 - (intOf bk).toNat)
      case atStart => exact ⟨1, 0, 0, (0, 0), by omega, by omega, rfl, rfl, rfl, .inl rfl, by omega, by omega, by omega, rfl, rfl⟩
      case round =>
        obtain ⟨back, d, j, ⟨r1, r2⟩, hk1, hk2, rfl, rfl, rfl, hr, h258, hdA, hAr, hbst, rfl⟩ := hrel
        simp only at hr h258 hAr
        by_cases hgo : back ≤ A ∧ r1 < 258
        · obtain ⟨hk3, hr3⟩ := hgo
          have t1 : (back : Int) ≤ (A : Int) := by omega
          have t2 : (back : Int) ≤ 32768 := by omega
          have t3 : (r1 : Int) < 258 := by omega
          obtain ⟨q, hq⟩ : ∃ q, q + back = A := ⟨A - back, by omega⟩
          have hnx := bst_on hq hbst
          have hmm := mt_le bs A q
          have lc := hide (longest_ref (wr.drewN j) bo bn bc bs (((unhide HB).later (unhide BW)).later (below_drewN _ wr j)) hn A back q hlt hk1 hq)
          obtain ⟨M, hM⟩ : ∃ M, M = mt bs A q := ⟨_, rfl⟩
          rw [← hM] at lc hmm
          have hM2 : M ≤ 258 ∧ A + M ≤ bn := by unfold mst at hmm; have := unhide hlen; omega
          by_cases hbt : r1 < M
          · have hbt' : (r1 : Int) < (M : Int) := by omega
            have e1 : g1 (mt bs A) q (r1, r2) = (M, q) := by unfold g1; rw [← hM, if_pos hbt]
            rw [e1] at hnx
            have HNX := hide hnx
            clear hnx hbst hmm hM e1 hr
            go_wp2_with fail
            refine (unhide lc).mono ?_
            rintro e w1 ⟨rfl, j2, rfl⟩
            go_wp2_with fail
            go_roundw
            case rel => exact ⟨back + 1, back, _, (M, q), by omega, by omega, by go_num, rfl, rfl, .inr (by simp only; omega), by simp only; omega, by omega, by simp only; omega, unhide HNX, (by first | rfl | exact World.drewN_drewN _ _ _)⟩
            case measure => simp [intOf]; omega
          · have hbt' : ¬ (r1 : Int) < (M : Int) := by omega
            have e1 : g1 (mt bs A) q (r1, r2) = (r1, r2) := by unfold g1; rw [← hM, if_neg hbt]
            rw [e1] at hnx
            have HNX := hide hnx
            have HRR := hide hr
            clear hnx hbst hmm hM e1 hr
            go_wp2_with fail
            refine (unhide lc).mono ?_
            rintro e w1 ⟨rfl, j2, rfl⟩
            go_wp2_with fail
            go_roundw
            case rel => exact ⟨back + 1, d, _, (r1, r2), by omega, by omega, by go_num, rfl, rfl, unhide HRR, by simp only; omega, by omega, by simp only; omega, unhide HNX, (by first | rfl | exact World.drewN_drewN _ _ _)⟩
            case measure => simp [intOf]; omega
        · have hb' := bst_out hbst (by simp only; omega)
          have hp := pce_of hb' hr
          simp only at hp
          have hex : ¬ (back : Int) ≤ (A : Int) ∨ ((back : Int) ≤ (A : Int) ∧ (back : Int) ≤ 32768 ∧ ¬ (r1 : Int) < 258) := by omega
          have HM2 := hide ((unhide HM).later (below_drewN _ wr j))
          have BW2 := hide ((unhide BW).trans (below_drewN _ wr j))
          have hsz : (wr.drewN j).heap.size = wr.heap.size := rfl
          obtain ⟨W, hW⟩ : ∃ W, W = wr.drewN j := ⟨_, rfl⟩
          have HP := hide hp
          clear hbst hb' hr hgo hp
          by_cases h3 : 3 ≤ r1
          · have hpe : pce bs A = ⟨(r1 : Int), (d : Int), 0⟩ := by rw [unhide HP, if_pos h3]
            rw [hpe] at hpos hok
            have hszp : sz ⟨(r1 : Int), (d : Int), 0⟩ = r1 := sz_copy h3 _ _
            rw [hszp] at hpos
            have h3' : (3 : Int) ≤ (r1 : Int) := by omega
            have q1 := hide (show Px ((wr.drewN j).alloc (.cells #[.int .i64 (r1 : Int), .int .i64 (d : Int), .int .u8 0] 62)) wr.heap.size ⟨(r1 : Int), (d : Int), 0⟩ from px_new (wr.drewN j) ⟨(r1 : Int), (d : Int), 0⟩)
            have bb := below_alloc (wr.drewN j) (.cells #[.int .i64 (r1 : Int), .int .i64 (d : Int), .int .u8 0] 62)
            have M1 := hide ((unhide HM2).later bb)
            have BB := hide bb
            clear hpe hszp bb hW
            rcases hex with t1 | ⟨t1, t2, t3⟩
            all_goals go_wp2_with (at_builtin; refine wpList_papp rfl (.tmp 37) (.tmp 41) rfl w.heap.size ao n c l rfl (unhide M1) wr.heap.size ⟨(r1 : Int), (d : Int), 0⟩ (unhide hok) rfl (unhide q1) (by omega) (by simp; omega) ?_; intro ao1 c1 w3 hm3 hg3 hs3)
            all_goals try go_frame
            all_goals have M3 := hide hm3
            all_goals have BW3 := hide (((unhide BW2).trans ((unhide BB).mono zw)).trans ⟨hg3.os, hg3.tape, hg3.output, hg3.size, fun j hj => grown_at hg3 (by simp; omega) (fun q => by have := ((unhide M1).ob q).1; omega)⟩)
            all_goals clear hm3 hg3 hs3
            all_goals go_wp2_with fail
            all_goals go_roundw
            all_goals first
              | exact ⟨A + r1, f', ao1, n + 1, c1, l ++ [⟨(r1 : Int), (d : Int), 0⟩], rfl, by go_num, by rw [← unhide HL, unhide hpos]; simp, by omega, by omega, by omega, unhide M3, unhide BW3⟩
              | (simp [intOf]; omega)
          · have hpe : pce bs A = ⟨0, 0, bs[A]?.getD 0⟩ := by rw [unhide HP, if_neg h3]
            rw [hpe] at hpos hok
            rw [sz_byte] at hpos
            obtain ⟨ib, io, hix, hcx⟩ := ((unhide HB).later (unhide BW)).idx hlt (A : Int) rfl
            obtain ⟨V, hV⟩ : ∃ V, V = bs[A]?.getD 0 := ⟨_, rfl⟩
            rw [← hV] at hpos hok hcx
            have h3' : ¬ (3 : Int) ≤ (r1 : Int) := by omega
            have q1 := hide (show Px ((wr.drewN j).alloc (.cells #[.int .i64 0, .int .i64 0, .int .u8 V] 62)) wr.heap.size ⟨0, 0, V⟩ from px_new (wr.drewN j) ⟨0, 0, V⟩)
            have bb := below_alloc (wr.drewN j) (.cells #[.int .i64 0, .int .i64 0, .int .u8 V] 62)
            have M1 := hide ((unhide HM2).later bb)
            have BB := hide bb
            clear hpe bb hW hV
            have t1 : ¬ (back : Int) ≤ (A : Int) := by omega
            clear hex
            all_goals go_wp2_with (at_builtin; refine wpList_papp rfl (.tmp 46) (.tmp 52) rfl w.heap.size ao n c l rfl (unhide M1) wr.heap.size ⟨0, 0, V⟩ (unhide hok) rfl (unhide q1) (by omega) (by simp; omega) ?_; intro ao1 c1 w3 hm3 hg3 hs3)
            all_goals try go_frame
            all_goals have M3 := hide hm3
            all_goals have BW3 := hide (((unhide BW2).trans ((unhide BB).mono zw)).trans ⟨hg3.os, hg3.tape, hg3.output, hg3.size, fun j hj => grown_at hg3 (by simp; omega) (fun q => by have := ((unhide M1).ob q).1; omega)⟩)
            all_goals clear hm3 hg3 hs3
            all_goals go_wp2_with fail
            all_goals go_roundw
            all_goals first
              | exact ⟨A + 1, f', ao1, n + 1, c1, l ++ [⟨0, 0, V⟩], rfl, by go_num, by rw [← unhide HL, unhide hpos]; simp, by omega, by omega, by omega, unhide M3, unhide BW3⟩
              | (simp [intOf]; omega)
    · have hlt' : ¬ (A : Int) < (bn : Int) := by omega
      have hfin := hide (show R = l by rw [← unhide HL, pcs_end (by rw [unhide hlen]; exact hlt), List.append_nil])
      go_wp2_with fail
      go_ret
      rw [unhide hfin]
      exact ⟨ao, n, c, rfl, unhide HM, unhide BW⟩
end Go.Proofs.Ytbolaljlhmakeaa
