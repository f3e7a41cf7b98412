/-
  A reader of frames in memory, and what its small methods return. Conditions: lengths below a bound that is far above every length the statements allow.
-/
import Derived.Test.YtbolaljlhmakeaaGreatDoorPktMem
import Derived.Test.YtbolaljlhmakeaaGreatDoorLenFix
import Derived.Deep.QuietTactic
import Derived.BigQuiet
import Derived.WalkSmall
namespace Go.Proofs.YtbolaljlhmakeaaGreatDoor.Pkt
open Go.RowKit
set_option linter.unusedVariables false
set_option linter.unusedSimpArgs false

def rv (M L : Int) (bo : Option Addr) (bc : Nat) (ho : Option Addr) (hc : Nat) (s : PS) : Array Value :=
  #[.int .i64 M, .int .i64 L, .int .u8 s.nx, .slice bo s.body.length bc, .slice ho s.held.length hc, .int .i64 s.why]
/-- The blocks of a reader. -/
def ft (g : Nat) (bo ho : Option Addr) (k : Nat) : Prop := k = g ∨ ob bo k ∨ ob ho k
/-- Block g is a reader in the state s. -/
structure Rl (w : World) (g : Nat) (M L : Int) (bo : Option Addr) (bc : Nat) (ho : Option Addr) (hc : Nat) (s : PS) : Prop where
  st : w.heap[g]? = some (.cells (rv M L bo bc ho hc s) 72 (0, 0))
  body : Mine 0 w bo s.body.length bc s.body
  held : Bs w ho s.held.length hc s.held
  gb : ¬ ob bo g
  gh : ¬ ob ho g
  bh : ∀ k, ob bo k → ¬ ob ho k
  hlt : ∀ k, ob ho k → k < w.heap.size
  ok : Sok M L s
/-- The same between two calls. -/
structure Rd (w : World) (g : Nat) (M L : Int) (bo : Option Addr) (bc : Nat) (ho : Option Addr) (hc : Nat) (s : PS) : Prop where
  rl : Rl w g M L bo bc ho hc s
  own : Mine 0 w ho s.held.length hc s.held

theorem lt_of_same {w w' : World} {k : Nat} (h : k < w.heap.size) (e : w'.heap[k]? = w.heap[k]?) : k < w'.heap.size := by
  rw [Array.getElem?_eq_getElem h] at e
  exact (Array.getElem?_eq_some_iff.1 e).1
section
variable {w w' : World} {g : Nat} {M L : Int} {bo : Option Addr} {bc : Nat} {ho : Option Addr} {hc : Nat} {s : PS}
theorem Rl.lt (h : Rl w g M L bo bc ho hc s) : g < w.heap.size := (Array.getElem?_eq_some_iff.1 h.st).1
theorem Rl.c0 (h : Rl w g M L bo bc ho hc s) : w.cell? ⟨g, 0, none⟩ = some (.int .i64 M) := by rw [cell_of_row w g 0 _ _ _ h.st]; rfl
theorem Rl.c1 (h : Rl w g M L bo bc ho hc s) : w.cell? ⟨g, 1, none⟩ = some (.int .i64 L) := by rw [cell_of_row w g 1 _ _ _ h.st]; rfl
theorem Rl.c2 (h : Rl w g M L bo bc ho hc s) : w.cell? ⟨g, 2, none⟩ = some (.int .u8 s.nx) := by rw [cell_of_row w g 2 _ _ _ h.st]; rfl
theorem Rl.c3 (h : Rl w g M L bo bc ho hc s) : w.cell? ⟨g, 3, none⟩ = some (.slice bo s.body.length bc) := by rw [cell_of_row w g 3 _ _ _ h.st]; rfl
theorem Rl.c4 (h : Rl w g M L bo bc ho hc s) : w.cell? ⟨g, 4, none⟩ = some (.slice ho s.held.length hc) := by rw [cell_of_row w g 4 _ _ _ h.st]; rfl
theorem Rl.c5 (h : Rl w g M L bo bc ho hc s) : w.cell? ⟨g, 5, none⟩ = some (.int .i64 s.why) := by rw [cell_of_row w g 5 _ _ _ h.st]; rfl
theorem Rl.free (h : Rl w g M L bo bc ho hc s) (i : Nat) : w.frozen? ⟨g, i, none⟩ = false := frozen_of_row w g i _ _ h.st
theorem Rl.keepB (h : Rl w g M L bo bc ho hc s) (hk : ∀ k, ft g bo ho k → k < w.heap.size → w'.heap[k]? = w.heap[k]?) : Rl w' g M L bo bc ho hc s :=
  ⟨by rw [hk g (.inl rfl) h.lt]; exact h.st, h.body.keepB fun k ho => hk k (.inr (.inl ho)) (h.body.ob ho).2, h.held.keepB fun k ho hl => hk k (.inr (.inr ho)) hl, h.gb, h.gh, h.bh, fun k ho => lt_of_same (h.hlt k ho) (hk k (.inr (.inr ho)) (h.hlt k ho)), h.ok⟩
theorem Rl.later (h : Rl w g M L bo bc ho hc s) (hb : Below w.heap.size w w') : Rl w' g M L bo bc ho hc s := h.keepB fun k _ hl => hb.block k hl
theorem Rl.drew (h : Rl w g M L bo bc ho hc s) : Rl w.drew g M L bo bc ho hc s := h.keepB fun k _ _ => rfl
theorem Rl.drewN (h : Rl w g M L bo bc ho hc s) (n : Nat) : Rl (w.drewN n) g M L bo bc ho hc s := h.keepB fun k _ _ => rfl
theorem Rl.fs {S S' : Nat → Prop} (h : Rl w g M L bo bc ho hc s) (f : Fs S w S' w') (hd : ∀ k, ft g bo ho k → ¬ S k) : Rl w' g M L bo bc ho hc s := h.keepB fun k hk hl => f.block k hl (hd k hk)
theorem Rd.keepB (h : Rd w g M L bo bc ho hc s) (hk : ∀ k, ft g bo ho k → k < w.heap.size → w'.heap[k]? = w.heap[k]?) : Rd w' g M L bo bc ho hc s :=
  ⟨h.rl.keepB hk, h.own.keepB fun k ho => hk k (.inr (.inr ho)) (h.own.ob ho).2⟩
theorem Rd.later (h : Rd w g M L bo bc ho hc s) (hb : Below w.heap.size w w') : Rd w' g M L bo bc ho hc s := h.keepB fun k _ hl => hb.block k hl
theorem Rd.fs {S S' : Nat → Prop} (h : Rd w g M L bo bc ho hc s) (f : Fs S w S' w') (hd : ∀ k, ft g bo ho k → ¬ S k) : Rd w' g M L bo bc ho hc s := h.keepB fun k hk hl => f.block k hl (hd k hk)
theorem Rl.ltf (h : Rl w g M L bo bc ho hc s) {k : Nat} (hk : ft g bo ho k) : k < w.heap.size := by
  rcases hk with rfl | hk | hk
  · exact h.lt
  · exact (h.body.ob hk).2
  · exact h.hlt k hk
/-- Behind a frame: its bytes were appended to the payload's, the rest is cut. -/
theorem Rl.took (h : Rl w g M L bo bc ho hc s) {n : Nat} {w1 : World} {bo1 : Option Addr} {bc1 : Nat} {ho2 : Option Addr} {hc2 : Nat} (hM : Mine 0 w1 bo1 (s.body.length + n) bc1 (s.body ++ (s.held.drop 4).take n)) (f : Fs (ob bo) w (ob bo1) w1)
    (hB2 : Bs w ho2 (s.held.length - (4 + n)) hc2 (s.held.drop (4 + n))) (h1 : ∀ k, ob ho2 k → ob ho k) (hk : Sok M L (tkF n s)) :
    (w1.cell? ⟨g, 3, none⟩ = some (.slice bo s.body.length bc) ∧ w1.frozen? ⟨g, 3, none⟩ = false ∧
     (w1.setCell ⟨g, 3, none⟩ (.slice bo1 (s.body.length + n) bc1)).cell? ⟨g, 4, none⟩ = some (.slice ho s.held.length hc) ∧ (w1.setCell ⟨g, 3, none⟩ (.slice bo1 (s.body.length + n) bc1)).frozen? ⟨g, 4, none⟩ = false ∧
     ((w1.setCell ⟨g, 3, none⟩ (.slice bo1 (s.body.length + n) bc1)).setCell ⟨g, 4, none⟩ (.slice ho2 (s.held.length - (4 + n)) hc2)).cell? ⟨g, 2, none⟩ = some (.int .u8 s.nx) ∧ ((w1.setCell ⟨g, 3, none⟩ (.slice bo1 (s.body.length + n) bc1)).setCell ⟨g, 4, none⟩ (.slice ho2 (s.held.length - (4 + n)) hc2)).frozen? ⟨g, 2, none⟩ = false) ∧
    ∀ v, v = (s.nx + 1) % 256 → Rl (((w1.setCell ⟨g, 3, none⟩ (.slice bo1 (s.body.length + n) bc1)).setCell ⟨g, 4, none⟩ (.slice ho2 (s.held.length - (4 + n)) hc2)).setCell ⟨g, 2, none⟩ (.int .u8 v)) g M L bo1 bc1 ho2 hc2 (tkF n s) ∧
      Fs (ft g bo ho) w (ft g bo1 ho2) (((w1.setCell ⟨g, 3, none⟩ (.slice bo1 (s.body.length + n) bc1)).setCell ⟨g, 4, none⟩ (.slice ho2 (s.held.length - (4 + n)) hc2)).setCell ⟨g, 2, none⟩ (.int .u8 v)) := by
  have e1 : w1.heap[g]? = some (.cells (rv M L bo bc ho hc s) 72 (0, 0)) := by rw [f.block g h.lt h.gb]; exact h.st
  have e2 := heap_setCell_same w1 g 3 _ _ (.slice bo1 (s.body.length + n) bc1) e1
  have e3 := heap_setCell_same _ g 4 _ _ (.slice ho2 (s.held.length - (4 + n)) hc2) e2
  have hg1 : ¬ ob bo1 g := fun q => by
    rcases f.src g q with q | q
    · exact h.gb q
    · have := h.lt; omega
  have hg2 : ¬ ob ho2 g := fun q => h.gh (h1 g q)
  refine ⟨⟨by rw [cell_of_row _ g 3 _ _ _ e1]; rfl, frozen_of_row _ g 3 _ _ e1, by rw [cell_of_row _ g 4 _ _ _ e2]; rfl, frozen_of_row _ g 4 _ _ e2, by rw [cell_of_row _ g 2 _ _ _ e3]; rfl, frozen_of_row _ g 2 _ _ e3⟩, fun v hv => ?_⟩
  subst hv
  have e4 := heap_setCell_same _ g 2 _ _ (.int .u8 ((s.nx + 1) % 256)) e3
  have G : Gb g w1 (((w1.setCell ⟨g, 3, none⟩ (.slice bo1 (s.body.length + n) bc1)).setCell ⟨g, 4, none⟩ (.slice ho2 (s.held.length - (4 + n)) hc2)).setCell ⟨g, 2, none⟩ (.int .u8 ((s.nx + 1) % 256))) := (((Gb.refl g w1).set 3 _).set 4 _).set 2 _
  have hl := hM.len
  have hl2 := hB2.len
  refine ⟨⟨?_, ?_, ?_, hg1, hg2, fun k a b => ?_, fun k a => ?_, hk⟩, ?_⟩
  · rw [e4]
    simp only [rv, tkF]
    rw [hl, hl2]
    simp
  · show Mine 0 _ bo1 (s.body ++ (s.held.drop 4).take n).length bc1 _
    rw [hl]
    exact hM.keepB fun k hk => G.block k (hM.ob hk).2 (fun e => hg1 (e ▸ hk))
  · show Bs _ ho2 (s.held.drop (4 + n)).length hc2 _
    rw [hl2]
    exact hB2.keepB fun k hk hl => by
      rw [G.block k (Nat.lt_of_lt_of_le hl f.size) (fun e => hg2 (e ▸ hk)), f.block k hl (fun q => h.bh k q (h1 k hk))]
  · rcases f.src k a with q | q
    · exact h.bh k q (h1 k b)
    · have := h.hlt k (h1 k b); omega
  · have := h.hlt k (h1 k a)
    exact Nat.lt_of_lt_of_le this (Nat.le_trans f.size G.size)
  · refine (f.weak (T := ft g bo ho) (T' := ft g bo1 ho2) (fun k q => .inr (.inl q)) (fun k q => ?_)).trans (Fs.gb G (.inl rfl))
    rcases q with q | q | q
    · exact .inl (.inl q)
    · exact .inr q
    · exact .inl (.inr (.inr (h1 k q)))
theorem Rd.lt (h : Rd w g M L bo bc ho hc s) {k : Nat} (hk : ft g bo ho k) : k < w.heap.size := by
  rcases hk with rfl | hk | hk
  · exact h.rl.lt
  · exact (h.rl.body.ob hk).2
  · exact (h.own.ob hk).2
end

set_option maxHeartbeats 400000 in
theorem isMost_any (n : Int) (w : World) : Calls Tryz.prog 29 #[.int .i64 n] w fun e w' => e = .returned (.bool (decide (1 ≤ n ∧ n ≤ 16777215))) ∧ w' = w := by
  by_cases h1 : 1 ≤ n
  · by_cases h2 : n ≤ 16777215
    · go_enter Tryz.func29, Tryz.ntmps29
      go_wp2
      go_ret
      exact ⟨by simp [h1, h2], rfl⟩
    · have h3 : decide (n ≤ 16777215) = false := by simpa using h2
      go_enter Tryz.func29, Tryz.ntmps29
      go_wp2
      go_ret
      exact ⟨by simp, rfl⟩
  · have h3 : decide (1 ≤ n) = false := by simpa using h1
    go_enter Tryz.func29, Tryz.ntmps29
    go_wp2
    go_ret
    exact ⟨by simp, rfl⟩

set_option maxHeartbeats 400000 in
theorem framesOf_any (n m : Int) (w : World) (h0 : 0 ≤ n) (h1 : n ≤ 2000000000) (hm : 1 ≤ m) (hm1 : m ≤ 16777215) : Calls Tryz.prog 44 #[.int .i64 n, .int .i64 m] w fun e w' => e = .returned (.int .i64 (frm n m)) ∧ w' = w := by
  have hq : n.tdiv m = n / m := Int.tdiv_eq_ediv_of_nonneg h0
  have hq0 : 0 ≤ n / m := Int.ediv_nonneg h0 (by omega)
  have hq1 : n / m ≤ n := Int.ediv_le_self m h0
  obtain ⟨q, hqq⟩ : ∃ q, n / m = q := ⟨_, rfl⟩
  rw [hqq] at hq hq0 hq1
  have hr := hide (show frm n m = q + 1 by unfold frm; rw [hqq])
  clear hqq
  go_enter Tryz.func44, Tryz.ntmps44
  go_wp2
  go_ret
  rw [unhide hr]
  exact ⟨rfl, rfl⟩

/-- How many bytes a payload has in frames. -/
def szf (n m : Int) : Int := n + frm n m * 4
theorem frm_le (n m : Int) (h0 : 0 ≤ n) (hm : 1 ≤ m) : 1 ≤ frm n m ∧ frm n m ≤ n + 1 := by
  have hq0 : 0 ≤ n / m := Int.ediv_nonneg h0 (by omega)
  have hq1 : n / m ≤ n := Int.ediv_le_self m h0
  unfold frm
  omega
set_option maxHeartbeats 400000 in
theorem sizeInFrames_any (n m : Int) (w : World) (h0 : 0 ≤ n) (h1 : n ≤ 2000000000) (hm : 1 ≤ m) (hm1 : m ≤ 16777215) : Calls Tryz.prog 30 #[.int .i64 n, .int .i64 m] w fun e w' => e = .returned (.int .i64 (szf n m)) ∧ w' = w := by
  have cf := hide (fun w => framesOf_any n m w h0 h1 hm hm1)
  have hf := frm_le n m h0 hm
  have hr := hide (show szf n m = n + frm n m * 4 from rfl)
  generalize frm n m = q at *
  go_enter Tryz.func30, Tryz.ntmps30
  go_wp2_with (go_at_call 44; refine same_world (unhide cf _) ?_)
  go_ret
  rw [unhide hr]
  exact ⟨rfl, rfl⟩

section
variable {g : Nat} {M L : Int} {bo : Option Addr} {bc : Nat} {ho : Option Addr} {hc : Nat} {s : PS}
set_option maxHeartbeats 400000 in
theorem isMade_any (w : World) (h : Rl w g M L bo bc ho hc s) : Calls Tryz.prog 34 #[.pointer (some ⟨g, 0, none⟩)] w fun e w' => e = .returned (.bool true) ∧ w' = w := by
  have c0 := h.c0
  have hm : (M != 0) = true := by have := h.ok.m0; rw [bne_iff_ne]; omega
  clear h
  go_enter Tryz.func34, Tryz.ntmps34
  go_wp2
  go_ret
  exact ⟨rfl, rfl⟩
set_option maxHeartbeats 400000 in
theorem isMade_no (w : World) (p : Option Addr) (h : p = none ∨ ∃ g, p = some ⟨g, 0, none⟩ ∧ w.cell? ⟨g, 0, none⟩ = some (.int .i64 0)) : Calls Tryz.prog 34 #[.pointer p] w fun e w' => e = .returned (.bool false) ∧ w' = w := by
  rcases h with rfl | ⟨g, rfl, c0⟩
  · go_enter Tryz.func34, Tryz.ntmps34
    go_wp2
    go_ret
    exact ⟨rfl, rfl⟩
  · go_enter Tryz.func34, Tryz.ntmps34
    go_wp2
    go_ret
    exact ⟨rfl, rfl⟩
/-- How many bytes are held. -/
def hln (s : PS) : Int := (s.body.length : Int) + (s.held.length : Int)
end
end Go.Proofs.YtbolaljlhmakeaaGreatDoor.Pkt
