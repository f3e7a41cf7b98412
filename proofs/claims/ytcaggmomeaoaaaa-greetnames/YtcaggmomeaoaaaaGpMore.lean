/-
  What AppendMore and ReadMore return. They write nothing that was there. Conditions: the slices can be read; lengths below 2 to the 40.
-/
import Derived.Test.YtcaggmomeaoaaaaGpBy
import Derived.BigQuiet
namespace Go.Proofs.Ytcaggmomeaoaaaa
open Go.RowKit
set_option linter.unusedVariables false
set_option linter.unusedSimpArgs false

set_option maxHeartbeats 1000000 in
set_option maxRecDepth 100000 in
theorem appendMore_any (bo : Option Addr) (bn bc : Nat) (b : List Int) (xo : Option Addr) (xn xc : Nat) (m : List Int) (w : World) (hb : Bs w bo bn bc b) (hx : Bs w xo xn xc m) (hsz : b.length + m.length + 100 ≤ 1099511627776) :
    Calls Try.prog 11 #[.slice bo bn bc, .slice xo xn xc] w fun e w' => ∃ ao n c, e = .returned (.slice ao n c) ∧ Mine w.heap.size w' ao n c ((b ++ [1]) ++ m) ∧ Below w.heap.size w w' := by
  have cN := hide (newWriter_wx bo bn bc b w hb (by have := hb.len; omega))
  have c1 := hide (fun (B g : Nat) wx (h : WX B g wx b) => wmark_wx B g wx b 1 (by omega) (by omega) (by omega) h)
  have c2 := hide (fun (B g : Nat) wx (h : WX B g wx (b ++ [1])) (hf : Bs wx xo xn xc m) => raw_wx B g wx (b ++ [1]) xo xn xc m (by simp; omega) h hf)
  have HX := hide hx
  clear hb hx
  go_enter Try.func11, Try.ntmps11
  go_wp2_with fail
  refine (unhide cN).mono ?_
  rintro e w1 ⟨g, rfl, o1⟩
  have H1 := hide o1.1
  have B1 := hide o1.2
  clear o1 cN
  go_wp2_with fail
  refine (unhide c1 _ _ _ (unhide H1)).mono ?_
  rintro e w2 ⟨rfl, o2⟩
  have H2 := hide o2.1
  have B2 := hide ((unhide B1).trans o2.2)
  clear o2 c1 H1 B1
  go_wp2_with fail
  refine (unhide c2 _ _ _ (unhide H2) ((unhide HX).later (unhide B2))).mono ?_
  rintro e w3 ⟨rfl, o3⟩
  have B3 := hide ((unhide B2).trans o3.2)
  obtain ⟨ao, n, c0, k0, hm⟩ := o3.1.cell
  have HM := hide hm
  clear o3 c2 H2 B2 hm
  go_wp2_with fail
  go_ret
  exact ⟨_, _, _, rfl, unhide HM, unhide B3⟩

/-- More is read. -/
def moQ (b : List Int) : List Int × FS := let s := maS ⟨b, 0⟩ 1; (tkA s s.b.length, tkS s s.b.length)
def moR (b : List Int) : List Int × Int := if (moQ b).2.e = 0 then ((moQ b).1, 0) else ([], (moQ b).2.e)

set_option maxHeartbeats 1000000 in
set_option maxRecDepth 100000 in
theorem readMore_any (bo : Option Addr) (bn bc : Nat) (b : List Int) (w : World) (hb : Bs w bo bn bc b) (hsz : bn ≤ 1099511627776) :
    Calls Try.prog 9 #[.slice bo bn bc] w fun e w' => ∃ ao n c, e = .returned (.tuple #[.slice ao n c, .int .i64 (moR b).2]) ∧ Bs w' ao n c (moR b).1 ∧ Below w.heap.size w w' := by
  have f0 : Fx w.heap.size (w.alloc (.cells #[.slice bo bn bc, .int .i64 0] 75)) ⟨b, 0⟩ := ⟨⟨_, _, _, Fl.new hb⟩, by rw [hb.len]; exact hsz⟩
  have b0 := below_alloc w (.cells #[.slice bo bn bc, .int .i64 0] 75)
  have c1 := hide (mark_fx _ _ _ 1 f0)
  obtain ⟨s1, hs1⟩ : ∃ z, z = maS ⟨b, 0⟩ 1 := ⟨_, rfl⟩
  rw [← hs1] at c1
  obtain ⟨s2, hs2⟩ : ∃ z, z = tkS s1 s1.b.length := ⟨_, rfl⟩
  obtain ⟨v2, hv2⟩ : ∃ z, z = tkA s1 s1.b.length := ⟨_, rfl⟩
  have HRES := hide (show moR b = if s2.e = 0 then (v2, 0) else ([], s2.e) by subst hs2 hv2 hs1; rfl)
  have c2 := hide (fun (g : Nat) (wx : World) (bo : Option Addr) (bn bc : Nat) (h : Fl g wx bo bn bc s1) (hn : bn ≤ 140737488355328) => take_rd g wx bo bn bc s1 bn (bn : Int) rfl hn h)
  have E2 := hide (fun (n : Nat) (h : s1.b.length = n) => show tkS s1 n = s2 ∧ tkA s1 n = v2 by subst h; exact ⟨hs2.symm, hv2.symm⟩)
  have B0 := hide b0
  clear hb f0 b0 hs1 hs2 hv2
  generalize moR b = RR at *
  go_enter Try.func9, Try.ntmps9
  go_wp2_with fail
  refine (unhide c1).mono ?_
  rintro e w1 ⟨rfl, ⟨⟨bo1, bn1, bc1, hf⟩, hl⟩, gb⟩
  have d0 := hf.c0
  have hle := hf.bs.le
  have hmx := hf.bs.max
  have hlen := hf.bs.len
  have EE := unhide E2 bn1 hlen
  have cT := hide (unhide c2 _ _ _ _ _ hf (by omega))
  rw [EE.1, EE.2] at cT
  have B1 := hide ((unhide B0).trans (gb.below (by simp)))
  have hz1 := gb.size
  simp at hz1
  clear hf hl gb c1 c2 E2 EE hlen
  go_wp2_with fail
  refine (unhide cT).mono ?_
  rintro e w2 ⟨xo, xn, xc, rfl, hm, ⟨bo2, bn2, bc2, hf⟩, gb⟩
  have k1 := hf.c1
  have HM := hide hm.bs
  have B2 := hide ((unhide B1).trans (gb.below (by omega)))
  clear hm hf gb cT B1
  by_cases he : s2.e = 0
  · have he' : (s2.e != 0) = false := by simpa using he
    have HR' := hide (show RR = (v2, 0) by rw [unhide HRES, if_pos he])
    clear HRES he
    generalize s2.e = E at *
    go_wp2_with fail
    go_ret2
    rw [unhide HR']
    exact ⟨_, _, _, rfl, unhide HM, unhide B2⟩
  · have he' : (s2.e != 0) = true := by simpa using he
    have HR' := hide (show RR = ([], s2.e) by rw [unhide HRES, if_neg he])
    clear HRES he
    generalize s2.e = E at *
    go_wp2_with fail
    go_quiet (fail)
    go_wp2_with fail
    go_ret2
    rw [unhide HR']
    exact ⟨_, _, _, rfl, Bs.nought _, (unhide B2).trans ⟨rfl, rfl, rfl, Nat.le_refl _, fun _ _ => rfl⟩⟩

end Go.Proofs.Ytcaggmomeaoaaaa
