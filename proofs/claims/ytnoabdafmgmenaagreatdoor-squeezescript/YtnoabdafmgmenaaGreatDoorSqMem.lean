/-
  A squeezed reader in memory: the block of its struct, the row of what it holds; and what its small methods return. Conditions: the state's own bounds.
-/
import Derived.Test.YtnoabdafmgmenaaGreatDoorSqStep
import Derived.Test.YtnoabdafmgmenaaGreatDoorSqPut
namespace Go.Proofs.YtnoabdafmgmenaaGreatDoor
open Go.RowKit
set_option linter.unusedVariables false
set_option linter.unusedSimpArgs false

def qv (M : Int) (ho : Option Addr) (hc : Nat) (s : QS) : Array Value := #[.int .i64 M, .int .u8 s.nx, .slice ho s.held.length hc, .int .i64 s.why]
/-- The blocks of a squeezed reader. -/
def fq (g : Nat) (ho : Option Addr) (k : Nat) : Prop := k = g ∨ ob ho k
/-- Block g is a squeezed reader of most M in the state s; what it holds lies at ho. -/
structure Rq (w : World) (g : Nat) (M : Int) (ho : Option Addr) (hc : Nat) (s : QS) : Prop where
  st : w.heap[g]? = some (.cells (qv M ho hc s) 49 (0, 0))
  own : Mine 0 w ho s.held.length hc s.held
  gh : ¬ ob ho g
  ok : Qok M s

section
variable {w : World} {g : Nat} {M : Int} {ho : Option Addr} {hc : Nat} {s : QS}
theorem Rq.lt (h : Rq w g M ho hc s) : g < w.heap.size := (Array.getElem?_eq_some_iff.1 h.st).1
theorem Rq.ltf (h : Rq w g M ho hc s) {k : Nat} (hk : fq g ho k) : k < w.heap.size := by
  rcases hk with q | q
  · rw [q]; exact h.lt
  · exact (h.own.ob q).2
theorem Rq.free (h : Rq w g M ho hc s) (i : Nat) : w.frozen? ⟨g, i, none⟩ = false := frozen_of_row w g i _ _ h.st
theorem Rq.c0 (h : Rq w g M ho hc s) : w.cell? ⟨g, 0, none⟩ = some (.int .i64 M) := by rw [cell_of_row w g 0 _ _ _ h.st]; rfl
theorem Rq.c1 (h : Rq w g M ho hc s) : w.cell? ⟨g, 1, none⟩ = some (.int .u8 s.nx) := by rw [cell_of_row w g 1 _ _ _ h.st]; rfl
theorem Rq.c2 (h : Rq w g M ho hc s) : w.cell? ⟨g, 2, none⟩ = some (.slice ho s.held.length hc) := by rw [cell_of_row w g 2 _ _ _ h.st]; rfl
theorem Rq.c3 (h : Rq w g M ho hc s) : w.cell? ⟨g, 3, none⟩ = some (.int .i64 s.why) := by rw [cell_of_row w g 3 _ _ _ h.st]; rfl
theorem Rq.keep (h : Rq w g M ho hc s) {w' : World} (hk : ∀ k, fq g ho k → w'.heap[k]? = w.heap[k]?) : Rq w' g M ho hc s :=
  ⟨(hk g (.inl rfl)).trans h.st, h.own.keepB fun k q => hk k (.inr q), h.gh, h.ok⟩
theorem Rq.fs (h : Rq w g M ho hc s) {w' : World} {S S' : Nat → Prop} (f : Fs S w S' w') (hd : ∀ k, fq g ho k → ¬ S k) : Rq w' g M ho hc s :=
  h.keep fun k hk => f.block k (h.ltf hk) (hd k hk)
theorem Rq.later (h : Rq w g M ho hc s) {w' : World} (hb : Below w.heap.size w w') : Rq w' g M ho hc s := h.keep fun k hk => hb.block k (h.ltf hk)
theorem Rq.drew (h : Rq w g M ho hc s) : Rq w.drew g M ho hc s := h.keep fun _ _ => rfl
theorem Rq.drewN (h : Rq w g M ho hc s) (n : Nat) : Rq (w.drewN n) g M ho hc s := h.keep fun _ _ => rfl
/-- What is held lies in another row. -/
theorem Rq.reheld (h : Rq w g M ho hc s) {w2 : World} {ho2 : Option Addr} {n hc2 : Nat} {bs : List Int} (hM : Mine 0 w2 ho2 n hc2 bs) (f : Fs (ob ho) w (ob ho2) w2) (hl : bs.length ≤ 1007) :
    (w2.cell? ⟨g, 2, none⟩ = some (.slice ho s.held.length hc) ∧ w2.frozen? ⟨g, 2, none⟩ = false) ∧ Rq (w2.setCell ⟨g, 2, none⟩ (.slice ho2 n hc2)) g M ho2 hc2 { s with held := bs } ∧ Fs (fq g ho) w (fq g ho2) (w2.setCell ⟨g, 2, none⟩ (.slice ho2 n hc2)) := by
  have e1 : w2.heap[g]? = some (.cells (qv M ho hc s) 49 (0, 0)) := by rw [f.block g h.lt h.gh]; exact h.st
  have e2 := heap_setCell_same w2 g 2 _ _ (.slice ho2 n hc2) e1
  have G : Gb g w2 (w2.setCell ⟨g, 2, none⟩ (.slice ho2 n hc2)) := (Gb.refl g w2).set 2 _
  have hg2 : ¬ ob ho2 g := fun q => by
    rcases f.src g q with q | q
    · exact h.gh q
    · have := h.lt; omega
  have hn := hM.len
  refine ⟨⟨by rw [cell_of_row _ g 2 _ _ _ e1]; rfl, frozen_of_row _ g 2 _ _ e1⟩, ⟨?_, ?_, hg2, h.ok.hold hl⟩, ?_⟩
  · rw [e2]
    simp [qv, hn]
  · simp only
    rw [hn]
    exact hM.keepB fun k hk => G.block k (hM.ob hk).2 (fun e => hg2 (e ▸ hk))
  · refine (f.weak (T := fq g ho) (T' := fq g ho2) (fun k q => .inr q) (fun k q => ?_)).trans (Fs.gb G (.inl rfl))
    rcases q with q | q
    · exact .inl (.inl q)
    · exact .inr q
/-- It holds nothing. -/
theorem Rq.cleared (h : Rq w g M ho hc s) : Rq (w.setCell ⟨g, 2, none⟩ (.slice none 0 0)) g M none 0 { s with held := [] } := by
  have e := heap_setCell_same w g 2 _ _ (.slice none 0 0) h.st
  exact ⟨by rw [e]; simp [qv], Mine.nought 0 _, ob_none, h.ok.hold (by simp)⟩
theorem Rq.numbered (h : Rq w g M ho hc s) (q : Int) (q0 : 0 ≤ q) (q1 : q ≤ 255) : Rq (w.setCell ⟨g, 1, none⟩ (.int .u8 q)) g M ho hc { s with nx := q } := by
  have e := heap_setCell_same w g 1 _ _ (.int .u8 q) h.st
  have G : Gb g w (w.setCell ⟨g, 1, none⟩ (.int .u8 q)) := (Gb.refl g w).set 1 _
  exact ⟨by rw [e]; simp [qv], h.own.keepB fun k hk => G.block k (h.own.ob hk).2 (fun e => h.gh (e ▸ hk)), h.gh, h.ok.num q0 q1⟩
theorem Rq.halted (h : Rq w g M ho hc s) (e : Int) (h0 : 0 ≤ e) (h1 : e ≤ 100) : Rq (w.setCell ⟨g, 3, none⟩ (.int .i64 e)) g M ho hc { s with why := e } := by
  have e' := heap_setCell_same w g 3 _ _ (.int .i64 e) h.st
  have G : Gb g w (w.setCell ⟨g, 3, none⟩ (.int .i64 e)) := (Gb.refl g w).set 3 _
  exact ⟨by rw [e']; simp [qv], h.own.keepB fun k hk => G.block k (h.own.ob hk).2 (fun e => h.gh (e ▸ hk)), h.gh, ⟨h.ok.m0, h.ok.m1, h.ok.n0, h.ok.n1, h.ok.hl, h0, h1⟩⟩

set_option maxHeartbeats 400000 in
theorem qMade_any (w : World) (h : Rq w g M ho hc s) : Calls Tryz.prog 18 #[.pointer (some ⟨g, 0, none⟩)] w fun e w' => e = .returned (.bool true) ∧ w' = w := by
  have c0 := h.c0
  have m0 := h.ok.m0
  have b0 : (M != 0) = true := by rw [bne_iff_ne]; omega
  clear h
  go_enter Tryz.func18, Tryz.ntmps18
  go_wp2_with fail
  go_ret
  exact ⟨by simp [b0], rfl⟩
set_option maxHeartbeats 400000 in
theorem qNext_any (w : World) (h : Rq w g M ho hc s) : Calls Tryz.prog 13 #[.pointer (some ⟨g, 0, none⟩)] w fun e w' => e = .returned (.int .u8 s.nx) ∧ w' = w := by
  have c1 := h.c1
  have cm := hide (qMade_any w h)
  clear h
  go_enter Tryz.func13, Tryz.ntmps13
  go_wp2_with (go_at_call 18; refine same_world (unhide cm) ?_)
  go_ret
  exact ⟨rfl, rfl⟩
set_option maxHeartbeats 400000 in
theorem qHeld_any (w : World) (h : Rq w g M ho hc s) : Calls Tryz.prog 14 #[.pointer (some ⟨g, 0, none⟩)] w fun e w' => e = .returned (.int .i64 (s.held.length : Int)) ∧ w' = w := by
  have c2 := h.c2
  have cm := hide (qMade_any w h)
  clear h
  go_enter Tryz.func14, Tryz.ntmps14
  go_wp2_with (go_at_call 18; refine same_world (unhide cm) ?_)
  go_ret
  exact ⟨rfl, rfl⟩
set_option maxHeartbeats 400000 in
theorem qStopped_any (w : World) (h : Rq w g M ho hc s) : Calls Tryz.prog 15 #[.pointer (some ⟨g, 0, none⟩)] w fun e w' => e = .returned (.int .i64 s.why) ∧ w' = w := by
  have c3 := h.c3
  have cm := hide (qMade_any w h)
  clear h
  go_enter Tryz.func15, Tryz.ntmps15
  go_wp2_with (go_at_call 18; refine same_world (unhide cm) ?_)
  go_ret
  exact ⟨rfl, rfl⟩

set_option maxHeartbeats 1000000 in
theorem qLength_any (w : World) (h : Rq w g M ho hc s) (a : Nat) (ha : a + 3 ≤ s.held.length) (A : Int) (hA : A = (a : Int)) :
    Calls Tryz.prog 26 #[.pointer (some ⟨g, 0, none⟩), .int .i64 A] w fun e w' => e = .returned (.int .i64 (val (s.held.drop a) 3)) ∧ w' = w := by
  subst hA
  have c2 := h.c2
  have hb := h.own.bs
  obtain ⟨ao, c', hs, hcut⟩ := hb.cut_l (show a ≤ s.held.length by omega) (a : Int) rfl
  have rf := hide (readFixed_any ao (s.held.length - a) c' (s.held.drop a) 3 w hcut)
  rw [show readFixed (s.held.drop a) 3 = (val (s.held.drop a) 3, 0) by simp [readFixed]; omega] at rf
  have hv := val_bounds hcut.byt 3
  rw [show (2 : Int) ^ (8 * 3) = 16777216 by decide] at hv
  clear h hb hcut
  generalize val (s.held.drop a) 3 = V at *
  go_enter Tryz.func26, Tryz.ntmps26
  go_wp2_with (go_at_call 33; refine same_world (unhide rf) ?_)
  go_ret
  exact ⟨rfl, rfl⟩

set_option maxHeartbeats 1000000 in
theorem qMissing_any (w : World) (h : Rq w g M ho hc s) (hq : ¬ s.held.length < 7 → s.held.length ≤ 7 + qN s.held) :
    Calls Tryz.prog 19 #[.pointer (some ⟨g, 0, none⟩)] w fun e w' => e = .returned (.int .i64 (qM s : Int)) ∧ ∃ n, w' = w.drewN n := by
  have c2 := h.c2
  have hl := h.ok.hl
  by_cases a1 : s.held.length < 7
  · have hm : (qM s : Int) = 7 - (s.held.length : Int) := by unfold qM; rw [if_pos a1]; omega
    rw [hm]
    clear hm h hq
    generalize s.held.length = H at *
    go_enter Tryz.func19, Tryz.ntmps19
    go_wp2_with fail
    go_ret
    exact ⟨rfl, 0, rfl⟩
  · have hi := qN_int h.own.byt
    have hm : (qM s : Int) = 7 + val s.held 3 - (s.held.length : Int) := by have := hq a1; unfold qM; rw [if_neg a1]; omega
    rw [hm]
    have cl := hide (fun j => qLength_any (w.drewN j) (h.drewN j) 0 (by omega) 0 rfl)
    rw [List.drop_zero] at cl
    have hv := val_bounds h.own.byt 3
    rw [show (2 : Int) ^ (8 * 3) = 16777216 by decide] at hv
    clear hm h hq hi
    generalize val s.held 3 = V at *
    generalize s.held.length = H at *
    have a1' : ¬ (H : Int) < 7 := by omega
    go_enter Tryz.func19, Tryz.ntmps19
    go_wp2_with fail
    go_quiet (first | (go_at_call 26; refine Calls.quiet_of_same (unhide cl _)))
    go_wp2_with fail
    go_ret
    exact ⟨rfl, _, rfl⟩

set_option maxHeartbeats 2000000 in
theorem qCheck_any (w : World) (h : Rq w g M ho hc s) (h7 : 7 ≤ s.held.length) :
    Calls Tryz.prog 27 #[.pointer (some ⟨g, 0, none⟩)] w fun e w' => e = .returned (.int .i64 (qE M s)) ∧ ∃ n, w' = w.drewN n := by
  have c0 := h.c0
  have c1 := h.c1
  have c2 := h.c2
  have cl := hide (fun j => qLength_any (w.drewN j) (h.drewN j) 0 (by omega) 0 rfl)
  rw [List.drop_zero] at cl
  have ct := hide (fun j => qLength_any (w.drewN j) (h.drewN j) 4 (by omega) 4 rfl)
  have hv := val_bounds h.own.byt 3
  have hv2 := val_bounds (h.own.byt.drop 4) 3
  rw [show (2 : Int) ^ (8 * 3) = 16777216 by decide] at hv hv2
  obtain ⟨b3, o3, hix, hcx⟩ := h.own.bs.idx (show 3 < s.held.length by omega) (3 : Int) rfl
  have hby := h.own.byt.at 3
  have m0 := h.ok.m0
  have m1 := h.ok.m1
  have n0 := h.ok.n0
  have n1 := h.ok.n1
  have E := hide (show qE M s = if M < val s.held 3 then 5 else if M < val (s.held.drop 4) 3 then 5 else if s.held.getD 3 0 ≠ s.nx then 6 else 0 from rfl)
  rw [show s.held.getD 3 0 = s.held[3]?.getD 0 by simp] at E
  clear h h7
  generalize s.held[3]?.getD 0 = d at *
  generalize val s.held 3 = x at *
  generalize val (s.held.drop 4) 3 = y at *
  generalize s.held.length = H at *
  generalize qE M s = ee at *
  generalize s.nx = N at *
  by_cases a1 : M < x
  · have hE : ee = 5 := by rw [unhide E, if_pos a1]
    rw [hE]
    have a1' : decide (M < x) = true := by simpa using a1
    clear hE E
    go_enter Tryz.func27, Tryz.ntmps27
    go_wp2_with fail
    go_quiet (first | (go_at_call 26; refine Calls.quiet_of_same (unhide cl _)))
    go_wp2_with fail
    go_ret
    exact ⟨rfl, _, rfl⟩
  · have a1' : decide (M < x) = false := by simpa using a1
    by_cases a2 : M < y
    · have hE : ee = 5 := by rw [unhide E, if_neg a1, if_pos a2]
      rw [hE]
      have a2' : decide (M < y) = true := by simpa using a2
      clear hE E
      go_enter Tryz.func27, Tryz.ntmps27
      go_wp2_with fail
      go_quiet (first | (go_at_call 26; first | (with_reducible show Calls Tryz.prog 26 #[_, .int .i64 0] _ _; refine Calls.quiet_of_same (unhide cl _)) | (with_reducible show Calls Tryz.prog 26 #[_, .int .i64 4] _ _; refine Calls.quiet_of_same (unhide ct _))))
      go_wp2_with fail
      go_ret
      exact ⟨rfl, _, rfl⟩
    · have a2' : decide (M < y) = false := by simpa using a2
      by_cases a3 : d = N
      · have hE : ee = 0 := by rw [unhide E, if_neg a1, if_neg a2, if_neg (by simpa using a3)]
        rw [hE]
        have a3' : (d != N) = false := by rw [bne_eq_false_iff_eq]; exact a3
        clear hE E
        go_enter Tryz.func27, Tryz.ntmps27
        go_wp2_with fail
        go_quiet (first | (go_at_call 26; first | (with_reducible show Calls Tryz.prog 26 #[_, .int .i64 0] _ _; refine Calls.quiet_of_same (unhide cl _)) | (with_reducible show Calls Tryz.prog 26 #[_, .int .i64 4] _ _; refine Calls.quiet_of_same (unhide ct _))))
        go_wp2_with fail
        go_quiet (fail)
        go_wp2_with fail
        go_ret
        exact ⟨rfl, _, World.drewN_drewN ..⟩
      · have hE : ee = 6 := by rw [unhide E, if_neg a1, if_neg a2, if_pos a3]
        rw [hE]
        have a3' : (d != N) = true := by rw [bne_iff_ne]; exact a3
        clear hE E
        go_enter Tryz.func27, Tryz.ntmps27
        go_wp2_with fail
        go_quiet (first | (go_at_call 26; first | (with_reducible show Calls Tryz.prog 26 #[_, .int .i64 0] _ _; refine Calls.quiet_of_same (unhide cl _)) | (with_reducible show Calls Tryz.prog 26 #[_, .int .i64 4] _ _; refine Calls.quiet_of_same (unhide ct _))))
        go_wp2_with fail
        go_quiet (fail)
        go_wp2_with fail
        go_ret
        exact ⟨rfl, _, World.drewN_drewN ..⟩

set_option maxHeartbeats 400000 in
theorem qStop_any (w : World) (h : Rq w g M ho hc s) (e : Int) (h0 : 0 ≤ e) (h1 : e ≤ 100) :
    Calls Tryz.prog 21 #[.pointer (some ⟨g, 0, none⟩), .int .i64 e] w fun r w' => r = .returned (.tuple #[]) ∧ Rq w' g M none 0 (qst e s) ∧ Gb g w w' := by
  have c3 := h.c3
  have f3 := h.free 3
  have h2 := h.halted e h0 h1
  have k2 := h2.c2
  have g2 := h2.free 2
  have H3 := hide h2.cleared
  clear h h2
  go_enter Tryz.func21, Tryz.ntmps21
  go_wp2_with fail
  refine bodyPost_end (results_none rfl _ _ _) rfl ?_
  exact ⟨rfl, unhide H3, ((Gb.refl g w).set 3 _).set 2 _⟩
end
end Go.Proofs.YtnoabdafmgmenaaGreatDoor
