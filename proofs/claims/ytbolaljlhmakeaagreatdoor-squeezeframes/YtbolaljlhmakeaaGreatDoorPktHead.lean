/-
  What New, headSize, stop, takeFrame, takePayload and Expect of package packet do, and Clone of package bytes. Conditions: lengths below a bound that is far above every length the statements allow.
-/
import Derived.Test.YtbolaljlhmakeaaGreatDoorPktRd
import Derived.BigRegion
import Derived.Deep.RegionLaw
namespace Go.Proofs.YtbolaljlhmakeaaGreatDoor.Pkt
open Go.RowKit
set_option linter.unusedVariables false
set_option linter.unusedSimpArgs false

/-- A new reader's state. -/
def ps0 : PS := ⟨0, [], [], 0⟩
theorem sok0 {M L : Int} (h0 : 1 ≤ M) (h1 : M ≤ 16777215) (h2 : 0 ≤ L) (h3 : L ≤ 1073741824) : Sok M L ps0 := ⟨h0, h1, h2, h3, by simp [ps0], by simp [ps0], by simpa [ps0] using h2, by simp [ps0], by simp [ps0], by simp [ps0]⟩

set_option maxHeartbeats 1000000 in
theorem new_ok (M L : Int) (w : World) (h0 : 1 ≤ M) (h1 : M ≤ 16777215) (h2 : 0 ≤ L) (h3 : L ≤ 1073741824) :
    Calls Tryz.prog 19 #[.int .i64 M, .int .i64 L] w fun e w' => e = .returned (.tuple #[.pointer (some ⟨w.heap.size, 0, none⟩), .int .i64 0]) ∧ Rd w' w.heap.size M L none 0 none 0 ps0 ∧ Below w.heap.size w w' := by
  have cm := hide (fun w => isMost_any M w)
  rw [show decide (1 ≤ M ∧ M ≤ 16777215) = true by simp [h0, h1]] at cm
  have k1 : decide (L < 0) = false := by simp; omega
  have k2 : decide (1073741824 < L) = false := by simp; omega
  have HS := hide (sok0 h0 h1 h2 h3)
  clear h2 h3
  go_enter Tryz.func19, Tryz.ntmps19
  go_wp2_with (go_at_call 29; refine same_world (unhide cm _) ?_)
  go_ret2
  refine ⟨rfl, ⟨⟨?_, Mine.nought 0 _, Bs.nought _, ob_none, ob_none, fun k h => absurd h ob_none, fun k h => absurd h ob_none, unhide HS⟩, Mine.nought 0 _⟩, below_alloc w _⟩
  exact heap_alloc_new w _

set_option maxHeartbeats 1000000 in
theorem new_bad (M L : Int) (w : World) (h : ¬ (1 ≤ M ∧ M ≤ 16777215 ∧ 0 ≤ L ∧ L ≤ 1073741824)) :
    Calls Tryz.prog 19 #[.int .i64 M, .int .i64 L] w fun e w' => e = .returned (.tuple #[.pointer none, .int .i64 2]) ∧ w' = w := by
  have cm := hide (fun w => isMost_any M w)
  by_cases hm : 1 ≤ M ∧ M ≤ 16777215
  · rw [show decide (1 ≤ M ∧ M ≤ 16777215) = true by simpa using hm] at cm
    by_cases k0 : L < 0
    · clear hm h
      go_enter Tryz.func19, Tryz.ntmps19
      go_wp2_with (go_at_call 29; refine same_world (unhide cm _) ?_)
      go_ret2
      exact ⟨rfl, rfl⟩
    · have k1 : decide (L < 0) = false := by simpa using k0
      have k2 : 1073741824 < L := by omega
      clear hm h k0
      go_enter Tryz.func19, Tryz.ntmps19
      go_wp2_with (go_at_call 29; refine same_world (unhide cm _) ?_)
      go_ret2
      exact ⟨rfl, rfl⟩
  · rw [show decide (1 ≤ M ∧ M ≤ 16777215) = false by simpa using hm] at cm
    clear hm h
    go_enter Tryz.func19, Tryz.ntmps19
    go_wp2_with (go_at_call 29; refine same_world (unhide cm _) ?_)
    go_ret2
    exact ⟨rfl, rfl⟩

theorem clone_any (ao : Option Addr) (n c : Nat) (bs : List Int) (w : World) (h : Bs w ao n c bs) (hbound : n ≤ 140737488355328) :
    Calls Tryz.prog 39 #[.slice ao n c] w fun e w' => ∃ ao' c', e = .returned (.slice ao' n c') ∧ Mine w.heap.size w' ao' n c' bs ∧ Below w.heap.size w w' := by
  cases ao with
  | none =>
    have h1 := h.nil rfl
    have h2 := h.le
    have h3 := h.len
    have hn : n = 0 := by omega
    subst hn
    subst h1
    have hbs : bs = [] := List.eq_nil_of_length_eq_zero h3
    subst hbs
    clear h
    have he : ∀ w : World, (binOp .eql 31 (.slice none 0 0) (.slice none 0 0)).run Tryz.prog w = .ok (.bool true) w := by intro w; kernel_rfl
    go_enter Tryz.func39, Tryz.ntmps39
    go_wp2
    go_ret
    exact ⟨none, 0, rfl, Mine.nought _ _, Below.refl _ _⟩
  | some a =>
    have H := hide h
    clear h
    have he : ∀ w : World, (binOp .eql 31 (.slice (some a) n c) (.slice none 0 0)).run Tryz.prog w = .ok (.bool false) w := by intro w; kernel_rfl
    go_enter Tryz.func39, Tryz.ntmps39
    go_wp2_with (at_builtin; refine wpList_app rfl (.tmp 5) (.tmp 6) rfl w.heap.size _ _ _ _ rfl (Mine.empty w) _ _ _ _ rfl ((unhide H).later (below_alloc w _)) (by omega) (by simp) ?_; intro ao1 c1 w1 hm1 hb1; rw [Nat.zero_add, List.nil_append] at hm1; have M1 := hide hm1; have B1 := hide hb1; clear hm1 hb1)
    go_ret
    exact ⟨ao1, c1, rfl, unhide M1, (below_alloc w _).trans (unhide B1)⟩

/-- The payload is handed over. -/
theorem Rl.gave {w w2 : World} {g : Nat} {M L : Int} {bo : Option Addr} {bc : Nat} {ho : Option Addr} {hc : Nat} {s : PS} (h : Rl w g M L bo bc ho hc s) (hg : w2.heap[g]? = (w.setCell ⟨g, 3, none⟩ (.slice none 0 0)).heap[g]?) (G : Gb g w w2) :
    Rl w2 g M L none 0 ho hc { s with body := [] } ∧ Bs w2 bo s.body.length bc s.body := by
  have e := heap_setCell_same w g 3 _ _ (.slice none 0 0) h.st
  refine ⟨⟨?_, Mine.nought 0 _, h.held.keepB fun k hk hl => G.block k hl (fun q => h.gh (q ▸ hk)), ob_none, h.gh, fun k a => absurd a ob_none, fun k a => Nat.lt_of_lt_of_le (h.hlt k a) G.size, h.ok.nobody⟩, h.body.bs.keepB fun k hk hl => G.block k hl (fun q => h.gb (q ▸ hk))⟩
  rw [hg, e]
  simp [rv]

section
variable {g : Nat} {M L : Int} {bo : Option Addr} {bc : Nat} {ho : Option Addr} {hc : Nat} {s : PS}
/-- What headSize answers. -/
def hdV (M L : Int) (s : PS) : Int := if hdE M L s = 0 then val s.held 3 else 0

set_option maxHeartbeats 2000000 in
theorem headSize_any (w : World) (h : Rl w g M L bo bc ho hc s) (h4 : 4 ≤ s.held.length) :
    Calls Tryz.prog 35 #[.pointer (some ⟨g, 0, none⟩)] w fun e w' => e = .returned (.tuple #[.int .i64 (hdV M L s), .int .i64 (hdE M L s)]) ∧ ∃ n, w' = w.drewN n := by
  have c0 := h.c0
  have c1 := h.c1
  have c2 := h.c2
  have c3 := h.c3
  have c4 := h.c4
  have hb : s.body.length ≤ 2000000000 := by have := h.ok.bl; have := h.ok.l1; omega
  have rf := hide (readFixed_any ho s.held.length hc s.held 3 w h.held)
  rw [show readFixed s.held 3 = (val s.held 3, 0) by simp [readFixed]; omega] at rf
  have hv := val_bounds h.held.byt 3
  rw [show (2 : Int) ^ (8 * 3) = 16777216 by decide] at hv
  obtain ⟨b3, o3, hix, hcx⟩ := h.held.idx (show 3 < s.held.length by omega) (3 : Int) rfl
  have hby := h.held.byt.at 3
  have hn0 := h.ok.n0
  have hn1 := h.ok.n1
  have hm0 := h.ok.m0
  have hm1 := h.ok.m1
  have hl0 := h.ok.l0
  have hl1 := h.ok.l1
  have E := hide (show hdE M L s = if M < val s.held 3 then 5 else if s.held.getD 3 0 ≠ s.nx then 6 else if L < (s.body.length : Int) + val s.held 3 then 3 else 0 from rfl)
  have V := hide (show hdV M L s = if hdE M L s = 0 then val s.held 3 else 0 from rfl)
  rw [show s.held.getD 3 0 = s.held[3]?.getD 0 by simp] at E
  clear h h4
  generalize s.held[3]?.getD 0 = d at *
  generalize val s.held 3 = x at *
  generalize s.body.length = B at *
  generalize s.held.length = H at *
  generalize hdE M L s = ee at *
  generalize hdV M L s = vv at *
  generalize s.nx = N at *
  by_cases a1 : M < x
  · have hE : ee = 5 := by rw [unhide E, if_pos a1]
    have hV : vv = 0 := by rw [unhide V, hE]; rfl
    rw [hE, hV]
    clear hE hV E V
    go_enter Tryz.func35, Tryz.ntmps35
    go_wp2_with (go_at_call 49; refine same_world (unhide rf) ?_)
    go_ret2
    exact ⟨rfl, 0, rfl⟩
  · by_cases a2 : d = N
    · have b2 : (d != N) = false := by rw [bne_eq_false_iff_eq]; exact a2
      by_cases a3 : L < (B : Int) + x
      · have hE : ee = 3 := by rw [unhide E, if_neg a1, if_neg (by simp [a2]), if_pos a3]
        have hV : vv = 0 := by rw [unhide V, hE]; rfl
        rw [hE, hV]
        clear hE hV E V
        go_enter Tryz.func35, Tryz.ntmps35
        go_wp2_with (go_at_call 49; refine same_world (unhide rf) ?_)
        go_quiet (fail)
        go_wp2_with fail
        go_quiet (fail)
        go_wp2_with fail
        go_ret2
        exact ⟨rfl, _, World.drewN_drewN ..⟩
      · have hE : ee = 0 := by rw [unhide E, if_neg a1, if_neg (by simp [a2]), if_neg a3]
        have hV : vv = x := by rw [unhide V, hE]; rfl
        rw [hE, hV]
        clear hE hV E V
        go_enter Tryz.func35, Tryz.ntmps35
        go_wp2_with (go_at_call 49; refine same_world (unhide rf) ?_)
        go_quiet (fail)
        go_wp2_with fail
        go_quiet (fail)
        go_wp2_with fail
        go_ret2
        exact ⟨rfl, _, World.drewN_drewN ..⟩
    · have b2 : (d != N) = true := by rw [bne_iff_ne]; exact a2
      have hE : ee = 6 := by rw [unhide E, if_neg a1, if_pos a2]
      have hV : vv = 0 := by rw [unhide V, hE]; rfl
      rw [hE, hV]
      clear hE hV E V
      go_enter Tryz.func35, Tryz.ntmps35
      go_wp2_with (go_at_call 49; refine same_world (unhide rf) ?_)
      go_quiet (fail)
      go_wp2_with fail
      go_ret2
      exact ⟨rfl, _, rfl⟩

set_option maxHeartbeats 1000000 in
theorem stop_any (w : World) (h : Rl w g M L bo bc ho hc s) (e : Int) (h0 : 0 ≤ e) (h1 : e ≤ 100) :
    Calls Tryz.prog 36 #[.pointer (some ⟨g, 0, none⟩), .int .i64 e] w fun r w' => r = .returned (.tuple #[]) ∧ Rd w' g M L none 0 none 0 (stp e s) ∧ Gb g w w' := by
  have c5 := h.c5
  have f5 := h.free 5
  have e1 := heap_setCell_same w g 5 _ _ (.int .i64 e) h.st
  have e2 := heap_setCell_same _ g 3 _ _ (.slice none 0 0) e1
  have e3 := heap_setCell_same _ g 4 _ _ (.slice none 0 0) e2
  have k3 : (w.setCell ⟨g, 5, none⟩ (.int .i64 e)).cell? ⟨g, 3, none⟩ = some (.slice bo s.body.length bc) := by rw [cell_of_row _ g 3 _ _ _ e1]; rfl
  have f3 := frozen_of_row _ g 3 _ _ e1
  have k4 : ((w.setCell ⟨g, 5, none⟩ (.int .i64 e)).setCell ⟨g, 3, none⟩ (.slice none 0 0)).cell? ⟨g, 4, none⟩ = some (.slice ho s.held.length hc) := by rw [cell_of_row _ g 4 _ _ _ e2]; rfl
  have f4 := frozen_of_row _ g 4 _ _ e2
  have HE := hide e3
  have HS := hide (h.ok.stop h0 h1)
  clear h e1 e2 e3
  go_enter Tryz.func36, Tryz.ntmps36
  go_wp2_with fail
  refine bodyPost_end (results_none rfl _ _ _) rfl ?_
  refine ⟨rfl, ⟨⟨?_, Mine.nought 0 _, Bs.nought _, ob_none, ob_none, fun k h => absurd h ob_none, fun k h => absurd h ob_none, unhide HS⟩, Mine.nought 0 _⟩, (((Gb.refl g w).set 5 _).set 3 _).set 4 _⟩
  rw [unhide HE]
  simp [rv, stp]

set_option maxHeartbeats 4000000 in
theorem takeFrame_any (w : World) (h : Rl w g M L bo bc ho hc s) (n : Nat) (hn : 4 + n ≤ s.held.length) (hL : (s.body.length : Int) + n ≤ L) (hk : Sok M L (tkF n s)) (X : Int) (hX : X = (n : Int)) :
    Calls Tryz.prog 37 #[.pointer (some ⟨g, 0, none⟩), .int .i64 X] w fun r w' => r = .returned (.tuple #[]) ∧ ∃ bo' bc' ho' hc', Rl w' g M L bo' bc' ho' hc' (tkF n s) ∧ Fs (ft g bo ho) w (ft g bo' ho') w' := by
  subst hX
  have c3 := h.c3
  have c4 := h.c4
  have f3 := h.free 3
  have hb : s.body.length ≤ 2000000000 := by have := h.ok.bl; have := h.ok.l1; omega
  have hl := h.ok.hl
  obtain ⟨b4, o4, e4, _⟩ := h.held.at'.resolve_left (by omega)
  have hs1 := run_cut_lh ho s.held.length hc 4 (4 + n) (by omega) (by have := h.held.le; omega) 4 ((4 : Int) + (n : Int)) rfl (by omega)
  have hs2 := run_cut_l ho s.held.length hc (4 + n) (by omega) ((4 : Int) + (n : Int)) (by omega)
  have B1 := h.held.cut (lo := 4) (hi := 4 + n) (by omega) (by omega)
  have B2 := h.held.cut (lo := 4 + n) (hi := s.held.length) (by omega) (Nat.le_refl _)
  rw [Nat.add_sub_cancel_left] at hs1 B1
  rw [List.take_of_length_le (l := s.held.drop (4 + n)) (by simp)] at B2
  obtain ⟨ad, had⟩ : ∃ ad, cutAt ho hc 4 = some ad := by
    subst e4
    unfold cutAt
    split
    · exact ⟨_, rfl⟩
    · exact ⟨_, rfl⟩
  have hob1 : ∀ k, ob (cutAt ho hc (4 + n)) k → ob ho k := fun k => ob_cut
  have hob2 : ob (some ad) = ob (some ad) := rfl
  rw [had] at hs1 B1
  generalize cutAt ho hc (4 + n) = ho2 at *
  generalize hc - (4 + n) = hc2 at *
  generalize hc - 4 = hc1 at *
  have hN : (s.held.drop (4 + n)).length = s.held.length - (4 + n) := by simp
  have HR := hide h
  have HB1 := hide B1
  have HB2 := hide B2
  have HK := hide hk
  have H1 := hide hob1
  clear h B1 B2 hk hob1 hob2 had e4
  go_enter Tryz.func37, Tryz.ntmps37
  go_wp2_with fail
  go_region_law (refine step_appF rfl (.tmp 11) (.tmp 17) rfl 0 bo s.body.length bc s.body (by simp [Act.eval, Act.put]) (unhide HR).drew.body ad n hc1 _ (by simp [Act.eval, Act.put]) ((unhide HB1).keepB fun _ _ _ => rfl) (by omega) (Nat.zero_le _) ?_; intro bo1 bc1 w1 hM hgr hsrc; have TK := (unhide HR).drew.took hM ⟨hgr.os, hgr.tape, hgr.output, hgr.size, fun k hk hn => grown_at hgr hk hn, hsrc⟩ ((unhide HB2).keepB fun _ _ _ => rfl) (unhide H1) (unhide HK); obtain ⟨⟨j3, jf3, j4, jf4, j2, jf2⟩, TK⟩ := TK)
  all_goals have HT := hide (TK _ rfl)
  all_goals clear hM hgr hsrc TK
  all_goals go_wp2_with fail
  all_goals refine bodyPost_end (results_none rfl _ _ _) rfl ?_
  all_goals exact ⟨rfl, bo1, bc1, ho2, hc2, (unhide HT).1, (unhide HT).2.undrew⟩

set_option maxHeartbeats 4000000 in
theorem takePayload_any (w : World) (h : Rl w g M L bo bc ho hc s) :
    Calls Tryz.prog 38 #[.pointer (some ⟨g, 0, none⟩)] w fun r w' => ∃ p : Pm, r = .returned (.agg (pv p)) ∧ pl p = tkP M s ∧ p.ao = bo ∧ Pok p ∧ Bs w' p.ao p.bs.length p.cap p.bs ∧ Rl w' g M L none 0 ho hc { s with body := [] } ∧ Gb g w w' := by
  have c0 := h.c0
  have c2 := h.c2
  have c3 := h.c3
  have f3 := h.free 3
  have hb : s.body.length ≤ 2000000000 := by have := h.ok.bl; have := h.ok.l1; omega
  have hn0 := h.ok.n0
  have hn1 := h.ok.n1
  have hm0 := h.ok.m0
  have hm1 := h.ok.m1
  have cf := hide (fun w => framesOf_any (s.body.length : Int) M w (by omega) (by omega) hm0 hm1)
  have hq := frm_le (s.body.length : Int) M (by omega) hm0
  have HR := hide h
  have HT := hide (show tkP M s = ((s.nx - frm s.body.length M) % 256, s.nx, s.body) from rfl)
  have Hgl := hide h.lt
  have H0 := hide h
  clear h c0 c2 c3 f3
  go_enter Tryz.func38, Tryz.ntmps38
  generalize frm (s.body.length : Int) M = q at *
  go_wp2_with (with_reducible show wpList Tryz.prog _ _ (Oper.mk _ (Op.alloc 58) _ _ _ none :: _) _ _; refine wpList_pcAlloc rfl rfl ?_; intro w1 p1 b1 z1; have c0 := ((unhide HR).later b1).c0; have c2 := ((unhide HR).later b1).c2; have c3 := ((unhide HR).later b1).c3; have f3 := ((unhide HR).later b1).free 3; have P1 := hide p1; have B1 := hide b1; clear p1 b1)
  go_quiet (first | (go_at_call 44; refine Calls.quiet_of_same (unhide cf _)))
  go_wp2_with fail
  obtain ⟨wa, hwa⟩ : ∃ wx, wx = w1.drewN nq := ⟨_, rfl⟩
  rw [← hwa]
  have R1 := hide ((unhide HR).later (unhide B1))
  have Ra := hide (show Rl wa g M L bo bc ho hc s by rw [hwa]; exact (unhide R1).drewN nq)
  have Pa := hide (show Px wa w.heap.size pz by rw [hwa]; exact (unhide P1).later (below_drewN _ _))
  have Ba := hide (show Below w.heap.size w wa by rw [hwa]; exact (unhide B1).trans ⟨rfl, rfl, rfl, Nat.le_refl _, fun _ _ => rfl⟩)
  clear c0 c2 c3 f3 R1 P1 B1 HR
  have c2 := (unhide Ra).c2
  have c3 := (unhide Ra).c3
  have ba := below_alloc wa (.cells #[.int .u8 0, .int .u8 0, .slice none 0 0] 58)
  have c2a := ((unhide Ra).later ba).c2
  have c3a := ((unhide Ra).later ba).c3
  have hza : wa.heap.size = w.heap.size + 1 := by rw [hwa]; exact z1
  clear hwa ba cf
  go_region
  obtain ⟨p, hp⟩ : ∃ p : Pm, p = ⟨(s.nx - q) % 256, s.nx, bo, bc, s.body⟩ := ⟨_, rfl⟩
  obtain ⟨wb, hwb⟩ : ∃ wx, wx = (wa.alloc (.cells (pv p) 58)).drew := ⟨_, rfl⟩
  have hpv : #[Value.int IntKind.u8 ((s.nx - q) % 256), Value.int IntKind.u8 s.nx, Value.slice bo s.body.length bc] = pv p := by rw [hp]; rfl
  rw [hpv, ← hwb]
  have bb : Below wa.heap.size wa wb := by rw [hwb]; exact (below_alloc wa _).trans ⟨rfl, rfl, rfl, Nat.le_refl _, fun _ _ => rfl⟩
  have Rb := (unhide Ra).later bb
  have Pb : Px wb w.heap.size pz := (unhide Pa).later bb
  have Qb : Px wb (w.heap.size + 1) p := by rw [hwb, ← hza]; exact heap_alloc_new wa _
  have k3 := Rb.c3
  have kf3 := Rb.free 3
  have hgw : g < w.heap.size ∨ g = w.heap.size ∨ w.heap.size < g := by omega
  have HRb := hide Rb
  have HBb := hide ((unhide Ba).trans (bb.mono (by omega)))
  have HPb := hide Pb
  have HQb := hide Qb
  have HP := hide hp
  clear bb Rb Pb Qb hpv hwb c2 c3 c2a c3a hgw hp
  go_wp2_with (first
    | (with_reducible show wpList Tryz.prog _ _ (Oper.mk _ (Op.load 58 _) _ _ _ none :: _) _ _; refine wpList_pcLoad rfl (.tmp 4) rfl (w.heap.size + 1) rfl p ((unhide HQb).gb ((Gb.refl g wb).set 3 _) (by have := unhide Hgl; omega)) ?_)
    | (with_reducible show wpList Tryz.prog _ _ (Oper.mk _ (Op.store 58 _ _) _ _ _ none :: _) _ _; refine wpList_pcStore rfl (.tmp 2) (.tmp 34) rfl w.heap.size p pz rfl rfl ((unhide HPb).gb ((Gb.refl g wb).set 3 _) (by have := unhide Hgl; omega)) ?_; intro w2 p2 g2 z2))
  have G2 : Gb g w w2 := by
    refine ⟨g2.os.trans (unhide HBb).os, g2.tape.trans (unhide HBb).tape, g2.output.trans (unhide HBb).output, Nat.le_trans (unhide HBb).size (by have := g2.size; simpa using this), fun k hk hn => ?_⟩
    rw [g2.block k (by have := (unhide HBb).size; simp; omega) (by omega), heap_setCell_other _ ⟨g, 3, none⟩ k _ hn, (unhide HBb).block k hk]
  have KEY := (unhide H0).gave (w2 := w2) (by
    have e1 := heap_setCell_same w g 3 _ _ (.slice none 0 0) (unhide H0).st
    have e2 := heap_setCell_same wb g 3 _ _ (.slice none 0 0) (unhide HRb).st
    rw [g2.block g (by have := (unhide HBb).size; have := unhide Hgl; simp; omega) (by have := unhide Hgl; omega), e2, e1]) G2
  obtain ⟨K1, K2⟩ := KEY
  refine bodyPost_ret (results_pc rfl _ _ w.heap.size p rfl p2) rfl ?_
  refine ⟨p, rfl, ?_, ?_, ?_, ?_, K1, G2⟩
  · rw [unhide HP, unhide HT]; rfl
  · rw [unhide HP]
  · rw [unhide HP]; exact ⟨by simp only; omega, by simp only; omega, hn0, hn1⟩
  · rw [unhide HP]; exact K2

end
end Go.Proofs.YtbolaljlhmakeaaGreatDoor.Pkt
