/-
  The chapter's examples that every statement of layer 16 asks first come out as they are written. Conditions: the library's table of powers of ten reads as its initialiser lays it.
-/
import Derived.Test.YtgldbainhncneaaGreatDoorVaBy3
import Derived.Test.YtgldbainhncneaaGreatDoorMTo
import Derived.Test.YtgldbainhncneaaGreatDoorMA
namespace Go.Proofs.YtgldbainhncneaaGreatDoor
open Go.RowKit
set_option linter.unusedVariables false
set_option linter.unusedSimpArgs false

theorem vak_lit (v : Va) (h : (-1000000 ≤ v.k ∧ v.k ≤ 1000000) ∧ (-1000000 ≤ v.i ∧ v.i ≤ 1000000) ∧ (0 ≤ v.b ∧ v.b ≤ 1000000) ∧ (-1000000 ≤ v.w.y ∧ v.w.y ≤ 1000000) ∧ (-1000000 ≤ v.w.mo ∧ v.w.mo ≤ 1000000) ∧ (-1000000 ≤ v.w.d ∧ v.w.d ≤ 1000000) ∧ (-1000000 ≤ v.w.h ∧ v.w.h ≤ 1000000) ∧ (-1000000 ≤ v.w.mi ∧ v.w.mi ≤ 1000000) ∧ (-1000000 ≤ v.w.s ∧ v.w.s ≤ 1000000) ∧ (-1000000 ≤ v.w.mc ∧ v.w.mc ≤ 1000000)) : VaK v := by
  obtain ⟨h0, h1, h2, h3, h4, h5, h6, h7, h8, h9⟩ := h
  exact ⟨⟨by omega, by omega⟩, ⟨by omega, by omega⟩, ⟨by omega, by omega⟩, ⟨⟨by omega, by omega⟩, ⟨by omega, by omega⟩, ⟨by omega, by omega⟩, ⟨by omega, by omega⟩, ⟨by omega, by omega⟩, ⟨by omega, by omega⟩, ⟨by omega, by omega⟩⟩⟩
/-- Append of a value that is written out. -/
theorem app_lit (v : Va) (t : Int) (un : Bool) (l : List Int) (n : Nat) (hn : l.length = n) (hK : VaK v) (hs : v.t.size = 0) (q : 0 ≤ t ∧ t < 256) (hO : bOk v t un = true) (hl : vaB v t = l) (w : World) :
    Calls Tryz.prog 6 #[.slice none 0 0, .agg (vaC v), .agg #[.int .u8 t, .bool un]] w fun e w' => ∃ ao k, e = .returned (.tuple #[.slice ao n k, .int .i64 0]) ∧ Mine w.heap.size w' ao n k l ∧ Below w.heap.size w w' := by
  have q := append_any none 0 0 [] v t un w q.1 q.2 hK (Bs.nought w) (by simp) (by omega)
  rw [if_pos hO, List.nil_append, hl] at q
  refine q.mono ?_
  rintro e w' ⟨ao, m, k, rfl, hm, hb⟩
  have h2 := hm.len
  rw [hn] at h2
  subst h2
  exact ⟨ao, k, rfl, hm, hb⟩
def exA : Va := ⟨1, -1, 0, ⟨#[]⟩, wh0⟩
def exB : Va := ⟨6, 0, 0, ⟨#[]⟩, ⟨true, 0, 0, 1, 2, 0, 0, 0⟩⟩
theorem exB_tx : txR exB 11 false = (⟨#[45, 50, 54, 58, 48, 48, 58, 48, 48]⟩, 0) := by decide +kernel

set_option maxHeartbeats 2000000 in
set_option maxRecDepth 100000 in
theorem lives_any (w : World) (hv : Vars w) : Calls Tryz.prog 12 #[] w fun e w' => e = .returned (.bool true) ∧ Below w.heap.size w w' := by
  have cA := hide (app_lit exA 1 false [255] 1 rfl (vak_lit _ (by decide)) rfl (by decide) (by decide +kernel) (by decide +kernel) w)
  have cT := hide (fun wx (hx : Vars wx) => text_any exB 11 false wx (by decide) (by decide) hx (vak_lit _ (by decide)))
  rw [exB_tx] at cT
  unfold exA vaC wh0 at cA
  unfold exB vaC at cT
  simp only at cA cT
  have HV := hide hv
  clear hv
  go_enter Tryz.func12, Tryz.ntmps12
  go_wp2_with fail
  refine (unhide cA).mono ?_
  rintro e w1 ⟨a1, c1, rfl, m1, b1⟩
  have HV1 := hide ((unhide HV).later b1)
  have B1 := hide b1
  have M1 := hide m1.bs
  clear b1 m1 cA HV
  go_wp2_with fail
  refine (unhide cT _ (unhide HV1)).mono ?_
  rintro e w2 ⟨rfl, b2⟩
  have B2 := hide (vbup (unhide B1) b2)
  have b3 := below_alloc w2 (.cells #[.int .u8 255] 5)
  have lb := Bs.lit w2 [255] (Byt.one (by omega) (by omega)) (by simp)
  have cS := hide (sameBytes_any a1 1 c1 [255] (some ⟨w2.heap.size, 0, none⟩) 1 1 [255] _ (((unhide M1).later b2).later b3) lb)
  rw [decide_eq_true rfl] at cS
  have B3 := hide (vbup (unhide B2) b3)
  clear b2 b3 lb B1 M1 B2 cT HV1
  go_wp2_with (go_at_call 7; refine same_world (unhide cS) ?_)
  go_ret
  exact ⟨rfl, unhide B3⟩

end Go.Proofs.YtgldbainhncneaaGreatDoor
