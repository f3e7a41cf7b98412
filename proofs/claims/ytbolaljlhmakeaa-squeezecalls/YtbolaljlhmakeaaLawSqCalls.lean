/-
  The statement SqueezeCalls, as a call: any bytes are squeezed as the document says, and what was handed in is kept. Conditions: the bytes can be read.
-/
import Derived.Test.YtbolaljlhmakeaaSqSq
import Derived.Test.YtbolaljlhmakeaaRfSq
import Derived.Test.YtbolaljlhmakeaaKit
namespace Go.Proofs.Ytbolaljlhmakeaa
open Go.RowKit
set_option linter.unusedVariables false
set_option linter.unusedSimpArgs false

theorem byt8 {l : List Int} (h : l.all (fun x => decide (0 ≤ x) && decide (x ≤ 255)) = true) : Byt l := by
  intro x hx
  have := List.all_eq_true.1 h x hx
  simpa using this
/-- Are bytes those that are written out? -/
theorem same_lit (w : World) (ao : Option Addr) (n c : Nat) (l : List Int) (hb : Bs w ao n c l) (C : Array Value) (hC : C = (l.map (Value.int .u8)).toArray) (h : Byt l) (hl : l.length ≤ 1000) (k : Nat) (hk : k = l.length) :
    Calls Try.prog 8 #[.slice ao n c, .slice (some ⟨w.heap.size, 0, none⟩) k k] (w.alloc (.cells C 5)) fun e w' => e = .returned (.bool true) ∧ Below w.heap.size w w' := by
  subst hC hk
  refine (sameBytes_any ao n c l _ _ _ l _ (hb.later (below_alloc w _)) (Bs.lit w l h hl)).mono ?_
  rintro e w' ⟨rfl, rfl⟩
  exact ⟨by simp, below_alloc w _⟩
def exS : List Int := [2, 0, 0, 3, 0, 0, 0, 97, 98]
theorem sex1 : sqR 60 50 [97, 98] 3 = (exS, 4, 0) := by kernel_rfl

set_option maxHeartbeats 2000000 in
set_option maxRecDepth 20000 in
theorem slives_any (w : World) : Calls Try.prog 4 #[] w fun e w' => e = .returned (.bool true) ∧ Below w.heap.size w w' := by
  have kc := run_const
  have cs := hide (squeeze_any _ _ _ [97, 98] 3 60 50 _ (Bs.const w (2, 3) [97, 98] (byt8 (by decide)) (by decide)) (by decide) (by decide) (by decide))
  rw [sex1] at cs
  have BC := hide (show Below w.heap.size w (w.alloc (.cells ([97, 98].map (Value.int .u8)).toArray 5 (2, 3))) from below_alloc w _)
  simp only [List.map_cons, List.map_nil, List.length_cons, List.length_nil, Nat.zero_add, Nat.reduceAdd] at cs BC
  go_enter Try.func4, Try.ntmps4
  go_wp2_with fail
  refine (unhide cs).mono ?_
  rintro e w1 ⟨a1, n1, c1, rfl, m1, b1⟩
  have M1 := hide m1.bs
  have B1 := hide ((unhide BC).trans (b1.mono (unhide BC).size))
  have sc := hide (same_lit w1 a1 n1 c1 exS m1.bs _ rfl (byt8 (by decide)) (by decide) 9 rfl)
  clear m1 b1 cs BC
  go_wp2_with fail
  refine (unhide sc).mono ?_
  rintro e w3 ⟨rfl, b3⟩
  have B3 := hide ((unhide B1).trans (b3.mono (unhide B1).size))
  clear b3 sc
  go_wp2_with fail
  go_ret
  exact ⟨rfl, unhide B3⟩


set_option maxHeartbeats 4000000 in
set_option maxRecDepth 20000 in
theorem lawSqCalls (bo : Option Addr) (bn bc : Nat) (bs : List Int) (q M T : Int) (w : World) (h : Bs w bo bn bc bs) (q0 : 0 ≤ q) (q1 : q ≤ 255) :
    Calls Try.prog 3 #[.slice bo bn bc, .int .u8 q, .int .i64 M, .int .i64 T] w fun e w' => e = .returned (.bool true) ∧ Below w.heap.size w w' := by
  have hle := h.le
  have hmx := h.max
  have hlen := hide h.len
  have H := hide h
  have cl := hide (slives_any w)
  clear h
  by_cases hbig : 1000 < bn
  · have hbig' : (1000 : Int) < (bn : Int) := by omega
    go_enter Try.func3, Try.ntmps3
    go_wp2_with (go_at_call 4; refine (unhide cl).mono ?_; rintro e w0 ⟨rfl, b0⟩)
    go_ret
    exact ⟨rfl, b0⟩
  · have hbig' : ¬ (1000 : Int) < (bn : Int) := by omega
    have hn : bn ≤ 1000 := by omega
    obtain ⟨R, hR⟩ : ∃ R, R = sqR M T bs q := ⟨_, rfl⟩
    have cs := hide (fun w1 g (z : Bs w1 (some ⟨g, 0, none⟩) bn (bn + 8) bs) => squeeze_any (some ⟨g, 0, none⟩) bn (bn + 8) bs q M T w1 z hn q0 q1)
    have cr := hide (fun w1 (z : Bs w1 bo bn bc bs) => rsqueeze_any bo bn bc bs q M T w1 z hn q0 q1)
    rw [← hR] at cs cr
    clear hR hbig
    obtain ⟨x1, x2, x3⟩ := R
    go_enter Try.func3, Try.ntmps3
    go_wp2_with (first
      | (go_at_call 4; refine (unhide cl).mono ?_; rintro e w0 ⟨rfl, b0⟩; have B0 := hide b0; clear b0)
      | (go_at_call 5; refine (own_any bo bn bc bs w0 ((unhide H).later (unhide B0)) (by omega)).mono ?_; rintro e w1 ⟨g, rfl, o1, b1⟩; have O1 := hide o1; have B1 := hide ((unhide B0).trans (b1.mono (unhide B0).size)); clear o1 b1)
      | (go_at_call 6; refine (unhide cs w1 g ((unhide O1).pre (unhide hlen))).mono ?_; rintro e w2 ⟨a2, n2, c2, rfl, m2, b2⟩; have O2 := hide ((unhide O1).later b2); have B2 := hide ((unhide B1).trans (b2.mono (unhide B1).size)); have X2 := hide m2.bs; clear m2 b2)
      | (go_at_call 7; refine (unhide cr w2 ((unhide H).later (unhide B2))).mono ?_; rintro e w3 ⟨a3, n3, c3, rfl, m3, b3⟩; have O3 := hide ((unhide O2).later b3); have B3 := hide ((unhide B2).trans (b3.mono (unhide B2).size)); have X3 := hide ((unhide X2).later b3); have Y3 := hide m3.bs; clear m3 b3)
      | (go_at_call 8; refine (sameBytes_any a2 n2 c2 _ a3 n3 c3 _ w3 (unhide X3) (unhide Y3)).mono ?_; rintro e w4 ⟨rfl, hw4⟩; have hw4' := hw4.symm; subst hw4'; clear hw4)
      | (go_at_call 9; refine same_world (kept_any g bn bc bo bs w3 (unhide O3) ((unhide H).later (unhide B3)) (by omega)) ?_))
    go_ret
    exact ⟨by simp, unhide B3⟩
end Go.Proofs.Ytbolaljlhmakeaa
