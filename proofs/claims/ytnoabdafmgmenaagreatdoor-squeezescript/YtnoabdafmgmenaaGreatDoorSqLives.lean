/-
  The chapter's examples that every statement of layer 10 asks first, and readers that are fed with bytes that are written out. Conditions: the tables hold what the program's text says.
-/
import Derived.Test.YtnoabdafmgmenaaGreatDoorSqFeed
import Derived.Test.YtnoabdafmgmenaaGreatDoorSqSq
namespace Go.Proofs.YtnoabdafmgmenaaGreatDoor
open Go.RowKit
set_option linter.unusedVariables false
set_option linter.unusedSimpArgs false

def exS : List Int := [2, 0, 0, 3, 0, 0, 0, 97, 98]
theorem sex1 : sqR 60 50 [97, 98] 3 = (exS, 4, 0) := by kernel_rfl

set_option maxHeartbeats 2000000 in
set_option maxRecDepth 20000 in
theorem slives_any (w : World) : Calls Tryz.prog 4 #[] w fun e w' => e = .returned (.bool true) ∧ Below w.heap.size w w' := by
  have kc := run_const
  have cs := hide (squeeze_any _ _ _ [97, 98] 3 60 50 _ (Bs.const w (2, 3) [97, 98] (byt8 (by decide)) (by decide)) (by decide) (by decide) (by decide))
  rw [sex1] at cs
  have BC := hide (show Below w.heap.size w (w.alloc (.cells ([97, 98].map (Value.int .u8)).toArray 5 (2, 3))) from below_alloc w _)
  simp only [List.map_cons, List.map_nil, List.length_cons, List.length_nil, Nat.zero_add, Nat.reduceAdd] at cs BC
  go_enter Tryz.func4, Tryz.ntmps4
  go_wp2_with fail
  refine (unhide cs).mono ?_
  rintro e w1 ⟨a1, n1, c1, rfl, m1, b1⟩
  have M1 := hide m1.bs
  have B1 := hide ((unhide BC).trans (b1.mono (unhide BC).size))
  have sc := hide (same_lit w1 a1 n1 c1 exS m1.bs _ rfl (byt8 (by decide)) (by decide) 9 rfl)
  clear m1 b1 cs BC
  go_wp2_with fail
  refine (unhide sc).mono ?_
  rintro e w3 ⟨rfl, b3⟩
  have B3 := hide ((unhide B1).trans (b3.mono (unhide B1).size))
  clear b3 sc
  go_wp2_with fail
  go_ret
  exact ⟨rfl, unhide B3⟩

/-- Behind Feed of bytes that are written out, all of the reader lying from block B on. -/
def OutLq (B : Nat) (w : World) (g : Nat) (M : Int) (R : QS × List Int × Int) (e : Ending) (w' : World) : Prop :=
  ∃ to tn tc ho' hc', e = .returned (.tuple #[.slice to tn tc, .int .i64 R.2.2]) ∧ Bs w' to tn tc R.2.1 ∧ Rq w' g M ho' hc' R.1 ∧ (∀ k, fq g ho' k → B ≤ k) ∧ Below B w w'
theorem qfeed_lit (B : Nat) (w : World) (g : Nat) (M : Int) (ho : Option Addr) (hc : Nat) (s : QS) (h : Rq w g M ho hc s) (hv : Vars w) (hlow : ∀ k, fq g ho k → B ≤ k) (hB : B ≤ w.heap.size) (h3 : 3 ≤ B) (hP : s.why = 0 → qP M s)
    (C : Array Value) (l : List Int) (hC : C = (l.map (Value.int .u8)).toArray) (hb : Byt l) (hl : l.length ≤ 1000) (n : Nat) (hn : n = l.length) (R : QS × List Int × Int) (hR : qfeed M s l = R) :
    Calls Tryz.prog 10 #[.pointer (some ⟨g, 0, none⟩), .slice (some ⟨w.heap.size, 0, none⟩) n n] (w.alloc (.cells C 5)) fun e w' => OutLq B w g M R e w' := by
  subst hC hn hR
  have ba := below_alloc w (.cells (l.map (Value.int .u8)).toArray 5)
  refine (qFeed_any _ (h.later ba) (hv.low ba) (fun k q => Nat.le_trans h3 (hlow k q)) hP _ _ _ l (Bs.lit w l hb hl) (by omega) (fun k q => ⟨by have := ob_some.1 q; simp at this; simp; omega, fun z => by have := ob_some.1 q; simp at this; have := h.ltf z; omega⟩)).mono ?_
  rintro e w' ⟨to, tn, tc, ho', hc', rfl, hm, hd, hr, hf⟩
  have hlow' : ∀ k, fq g ho' k → B ≤ k := fun k q => by
    rcases hf.src k q with q | q
    · exact hlow k q
    · simp at q; omega
  exact ⟨to, tn, tc, ho', hc', rfl, hm.bs, hr, hlow', (ba.mono hB).trans (hf.below (by simp; omega) hlow)⟩

end Go.Proofs.YtnoabdafmgmenaaGreatDoor
