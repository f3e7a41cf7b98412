/-
  The chapter's examples that every statement of layer 6 asks first come out as they are written. Conditions: the tables hold what the program's text says.
-/
import Derived.Test.YtalkeooejobjhaaDoorZlbAll
namespace Go.Proofs.YtalkeooejobjhaaDoor
open Go.RowKit
set_option linter.unusedVariables false
set_option linter.unusedSimpArgs false

theorem byt8 {l : List Int} (h : l.all (fun x => decide (0 ≤ x) && decide (x ≤ 255)) = true) : Byt l := by
  intro x hx
  have := List.all_eq_true.1 h x hx
  simpa using this
theorem Vars.low {w w' : World} (h : Vars w) (hb : Below w.heap.size w w') : Vars w' := h.later (Nat.le_refl 3) (hb.mono h.size)

/-- Unpack of bytes that are written out. -/
def OutV (w : World) (r : List Int × Int) (e : Ending) (w' : World) : Prop :=
  ∃ ao n c, e = .returned (.tuple #[.slice ao n c, .int .i64 r.2]) ∧ Bs w' ao n c r.1 ∧ Below w.heap.size w w'
theorem unp_lit (w : World) (hv : Vars w) (C : Array Value) (l : List Int) (hC : C = (l.map (Value.int .u8)).toArray) (h : Byt l) (hl : l.length ≤ 1000) (n : Nat) (hn : n = l.length) (m : Int) (m1 : m ≤ 1000000) (r : List Int × Int) (hr : unp 100000 l m = r) :
    Calls Tryd.prog 7 #[.slice (some ⟨w.heap.size, 0, none⟩) n n, .int .i64 m] (w.alloc (.cells C 5)) fun e w' => OutV w r e w' := by
  subst hC hn
  have c := unpack_any 100000 _ _ _ _ l m (Bs.lit w l h hl) (hv.low (below_alloc w _)) (by omega) m1 (by omega)
  rw [hr] at c
  refine c.mono ?_
  rintro e w' ⟨ao, n, c, rfl, hm, hb⟩
  exact ⟨ao, n, c, rfl, hm.bs, (below_alloc w _).trans (hb.mono (by simp))⟩
/-- Pack of a text that is written out. -/
theorem pack_const (w : World) (C : Array Value) (k : Nat × Nat) (l : List Int) (hC : C = (l.map (Value.int .u8)).toArray) (h : Byt l) (hl : l.length ≤ 1000) (n : Nat) (hn : n = l.length) (r : List Int) (hr : pkd l = r) :
    Calls Tryd.prog 10 #[.slice (some ⟨w.heap.size, 0, none⟩) n n] (w.alloc (.cells C 5 k)) fun e w' => ∃ ao n c, e = .returned (.slice ao n c) ∧ Bs w' ao n c r ∧ Below w.heap.size w w' := by
  subst hC hn hr
  refine (pack_any _ _ _ _ l (Bs.const w k l h hl) (by omega)).mono ?_
  rintro e w' ⟨ao, n, c, rfl, hm, hb⟩
  exact ⟨ao, n, c, rfl, hm.bs, (below_alloc w _).trans (hb.mono (by simp))⟩
/-- Are bytes those that are written out? -/
theorem same_lit (w : World) (ao : Option Addr) (n c : Nat) (l : List Int) (hb : Bs w ao n c l) (C : Array Value) (hC : C = (l.map (Value.int .u8)).toArray) (h : Byt l) (hl : l.length ≤ 1000) (k : Nat) (hk : k = l.length) :
    Calls Tryd.prog 9 #[.slice ao n c, .slice (some ⟨w.heap.size, 0, none⟩) k k] (w.alloc (.cells C 5)) fun e w' => e = .returned (.bool true) ∧ Below w.heap.size w w' := by
  subst hC hk
  refine (sameBytes_any ao n c l _ _ _ l _ (hb.later (below_alloc w _)) (Bs.lit w l h hl)).mono ?_
  rintro e w' ⟨rfl, rfl⟩
  exact ⟨by simp, below_alloc w _⟩

def exA : List Int := [120, 1, 75, 4, 0, 0, 98, 0, 98]
theorem zex1 : unp 100000 exA 1 = ([97], 0) := by kernel_rfl
theorem zex2 : pkd [97] = exA := by kernel_rfl

set_option maxHeartbeats 2000000 in
set_option maxRecDepth 20000 in
theorem zlives_any (w : World) (hv : Vars w) : Calls Tryd.prog 8 #[] w fun e w' => e = .returned (.bool true) ∧ Below w.heap.size w w' := by
  have kc := run_const
  have st := hide (show strOfNums [97] = { data := #[97] } by kernel_rfl)
  have uc := hide (unp_lit w hv _ exA rfl (byt8 (by decide)) (by decide) 9 rfl 1 (by decide) _ zex1)
  clear hv
  go_enter Tryd.func8, Tryd.ntmps8
  go_wp2_with fail
  refine (unhide uc).mono ?_
  rintro e w1 ⟨a1, n1, c1, rfl, i1, b1⟩
  have I1 := hide i1
  have B1 := hide b1
  have pc := hide (pack_const w1 _ (1, 2) [97] rfl (byt8 (by decide)) (by decide) 1 rfl _ zex2)
  clear i1 b1 uc
  go_wp2_with fail
  refine (unhide pc).mono ?_
  rintro e w2 ⟨a2, n2, c2, rfl, i2, b2⟩
  have I2 := hide ((unhide I1).later b2)
  have B2 := hide ((unhide B1).trans (b2.mono (unhide B1).size))
  have sc := hide (same_lit w2 a2 n2 c2 exA i2 _ rfl (byt8 (by decide)) (by decide) 9 rfl)
  clear i2 b2 pc I1 B1
  go_wp2_with fail
  refine (unhide sc).mono ?_
  rintro e w3 ⟨rfl, b3⟩
  have B3 := hide ((unhide B2).trans (b3.mono (unhide B2).size))
  have h1 := ((unhide I2).later b3).str
  simp only [unhide st] at h1
  clear b3 sc I2 B2
  go_wp2_with fail
  go_ret
  exact ⟨rfl, unhide B3⟩
end Go.Proofs.YtalkeooejobjhaaDoor
