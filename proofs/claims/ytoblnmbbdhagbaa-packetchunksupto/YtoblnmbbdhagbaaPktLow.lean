/-
  What Feed and Expect leave, where all of the reader lies from a block on: nothing below has changed. Conditions: as Feed's.
-/
import Derived.Test.YtoblnmbbdhagbaaPktLives
namespace Go.Proofs.Ytoblnmbbdhagbaa
open Go.RowKit
set_option linter.unusedVariables false
set_option linter.unusedSimpArgs false

/-- A reader whose blocks lie from B on. -/
structure Ra (B : Nat) (w : World) (g : Nat) (M L : Int) (bo : Option Addr) (bc : Nat) (ho : Option Addr) (hc : Nat) (s : PS) : Prop where
  rd : Rd w g M L bo bc ho hc s
  low : ∀ k, ft g bo ho k → B ≤ k
theorem Ra.later {B : Nat} {w w' : World} {g : Nat} {M L : Int} {bo : Option Addr} {bc : Nat} {ho : Option Addr} {hc : Nat} {s : PS} (h : Ra B w g M L bo bc ho hc s) (hb : Below w.heap.size w w') : Ra B w' g M L bo bc ho hc s := ⟨h.rd.later hb, h.low⟩
theorem Ra.new {w' : World} {B g : Nat} {M L : Int} {s : PS} (h : Rd w' g M L none 0 none 0 s) (hB : B ≤ g) : Ra B w' g M L none 0 none 0 s :=
  ⟨h, fun k q => by rcases q with q | q | q; (· omega); (· exact absurd q ob_none); (· exact absurd q ob_none)⟩
theorem OutF.low {B : Nat} {w w' : World} {g : Nat} {M L : Int} {bo ho : Option Addr} {R : PS × List Pk × Int} {e : Ending} (h : OutF w g M L bo ho R e w') (hB : B ≤ w.heap.size) (hf : ∀ k, ft g bo ho k → B ≤ k) :
    ∃ to tn tc l bo' bc' ho' hc', e = .returned (.tuple #[.slice to tn tc, .int .i64 R.2.2]) ∧ Pks w' to tn tc l ∧ l.map pl = R.2.1 ∧ Ra B w' g M L bo' bc' ho' hc' R.1 ∧ Below B w w' := by
  obtain ⟨to, tn, tc, l, bo', bc', ho', hc', rfl, hp, hpl, hr, hfs⟩ := h
  refine ⟨to, tn, tc, l, bo', bc', ho', hc', rfl, hp, hpl, ⟨hr, fun k q => ?_⟩, hfs.below hB hf⟩
  rcases hfs.src k (.inl q) with q | q
  · exact hf k q
  · omega
/-- Feed of bytes that are written out. -/
theorem feed_lit {B : Nat} {w : World} {g : Nat} {M L : Int} {bo : Option Addr} {bc : Nat} {ho : Option Addr} {hc : Nat} {s : PS} (h : Ra B w g M L bo bc ho hc s) (hB : B ≤ w.heap.size) (l : List Int) (hb : Byt l) (hl : l.length ≤ 1000) (hh : s.held.length ≤ 1000) (R : PS × List Pk × Int) (hR : feed M L s l = R) :
    Calls Try.prog 12 #[.pointer (some ⟨g, 0, none⟩), .slice (some ⟨w.heap.size, 0, none⟩) l.length l.length] (w.alloc (.cells (l.map (Value.int .u8)).toArray 5)) fun e w' =>
      ∃ to tn tc k bo' bc' ho' hc', e = .returned (.tuple #[.slice to tn tc, .int .i64 R.2.2]) ∧ Pks w' to tn tc k ∧ k.map pl = R.2.1 ∧ Ra B w' g M L bo' bc' ho' hc' R.1 ∧ Below B w w' := by
  subst hR
  have ba := below_alloc w (.cells (l.map (Value.int .u8)).toArray 5)
  refine (feed_any _ (h.rd.later ba) _ _ _ _ (Bs.lit w l hb hl) (by omega) (by omega)).mono ?_
  intro e w' ho
  obtain ⟨to, tn, tc, k, bo', bc', ho', hc', he, hp, hk, hr, hw⟩ := ho.low (by simp; omega) h.low
  exact ⟨to, tn, tc, k, bo', bc', ho', hc', he, hp, hk, hr, (ba.mono hB).trans hw⟩

end Go.Proofs.Ytoblnmbbdhagbaa
