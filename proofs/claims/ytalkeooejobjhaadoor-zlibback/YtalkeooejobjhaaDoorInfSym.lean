/-
  What symbol and within, of package inflate, do to a stream. Conditions: the state's own bounds.
-/
import Derived.Test.YtalkeooejobjhaaDoorInfLeaf
namespace Go.Proofs.YtalkeooejobjhaaDoor
open Go.RowKit
set_option linter.unusedVariables false
set_option linter.unusedSimpArgs false


section
variable {E : Env} {g : Nat} {w0 : World} {oo : Option Addr} {oc : Nat} {s : PS} {ov : Bool}

set_option maxHeartbeats 1000000 in
theorem symbol_any (w : World) (ao : Option Addr) (n c : Nat) (L : List Int) (hL : Is w ao n c L) (h : St E g w oo oc s ov) :
    Calls Tryd.prog 46 #[.pointer (some ⟨g, 0, none⟩), .slice ao n c] w fun e w' => e = .returned (.int .i64 (symS L E.bs s).1) ∧ St E g w' oo oc (symS L E.bs s).2 ov ∧ Gb g w w' := by
  have c0 := h.c0
  have c1 := h.c1
  have c2 := h.c2
  have hp := h.fit.p
  have hb := h.fit.bn
  have H := hide h
  have HL := hide hL
  clear h hL
  by_cases he : s.e = 0
  · have he' : (s.e != 0) = false := by simpa using he
    have hr := hide (symS_live (L := L) (b := E.bs) he)
    have hf := rdq_fit L E.bs s.p (by rw [(unhide H).fit.bl]; exact hp)
    rw [(unhide H).fit.bl] at hf
    have rc := hide (fun w1 (hb1 : Below w.heap.size w w1) => readq_any ao n c L E.bo E.bn E.bc E.bs s.p w1 ((unhide HL).later hb1) ((unhide H).later hb1).bs hb (by omega))
    generalize rdq L E.bs s.p = R at *
    obtain ⟨r1, r2, r3⟩ := R
    simp only at hf rc
    go_enter Tryd.func46, Tryd.ntmps46
    go_wp2_with fail
    go_region_with (go_at_call 65; refine ((unhide rc) _ (below_drew w)).mono ?_; rintro e w2 ⟨rfl, b2⟩)
    all_goals have h2 := ((unhide H).later (below_drew w)).later b2
    all_goals have d1 := h2.c1
    all_goals have d2 := h2.c2
    all_goals have e1 := h2.free 1
    all_goals have e2 := h2.free 2
    all_goals have H2 := hide h2
    all_goals clear h2
    all_goals go_wp2_with fail
    all_goals go_ret
    all_goals rw [unhide hr]
    all_goals exact ⟨rfl, ((unhide H2).putP (s.p + r2.toNat) _ (by omega) (by omega)).putE r3 (by omega) (by omega), (((Gb.of (below_drew w)).trans (Gb.of b2)).set _ _).set _ _⟩
  · have he' : (s.e != 0) = true := by simpa using he
    have hr := hide (symS_dead (L := L) (b := E.bs) he)
    go_enter Tryd.func46, Tryd.ntmps46
    go_wp2_with fail
    go_ret
    rw [unhide hr]
    exact ⟨rfl, unhide H, Gb.refl _ _⟩

set_option maxHeartbeats 1000000 in
theorem within_any (w : World) (base bits : Nat) (hb : base ≤ 100000) (hn : bits ≤ 19) (h : St E g w oo oc s ov) :
    Calls Tryd.prog 47 #[.pointer (some ⟨g, 0, none⟩), .agg #[.int .i64 (base : Int), .int .i64 (bits : Int)]] w fun e w' => e = .returned (.int .i64 (wthS E.bs base bits s).1) ∧ St E g w' oo oc (wthS E.bs base bits s).2 ov ∧ Gb g w w' := by
  have hg := h.lt
  have h1 := (h.later (below_alloc w (.cells #[.int .i64 (base : Int), .int .i64 (bits : Int)] 89))).drew
  have fc := hide (field_any _ bits hn (bits : Int) rfl h1)
  have bd : 0 ≤ (fldN E.bs bits s).1 ∧ (fldN E.bs bits s).1 ≤ 1048576 := by
    have := fldN_bd E.bs bits s
    have := two20 hn
    omega
  have hr := hide (show wthS E.bs base bits s = ((base : Int) + (fldN E.bs bits s).1, (fldN E.bs bits s).2) from rfl)
  have k0 := cell_top w #[.int .i64 (base : Int), .int .i64 (bits : Int)] 89 0 w.heap.size rfl
  have k1 := cell_top w #[.int .i64 (base : Int), .int .i64 (bits : Int)] 89 1 w.heap.size rfl
  clear h h1
  generalize (fldN E.bs bits s).1 = X at *
  go_enter Tryd.func47, Tryd.ntmps47
  go_wp2_with fail
  go_region_with (go_at_call 27; refine (unhide fc).mono ?_; rintro e w2 ⟨rfl, s2, g2⟩; have k0' : w2.cell? ⟨w.heap.size, 0, none⟩ = some (.int .i64 (base : Int)) := (g2.cell (by simp) (by simp; omega)).trans k0)
  all_goals have S2 := hide s2
  all_goals clear s2
  all_goals go_wp2_with fail
  all_goals go_ret
  all_goals rw [unhide hr]
  all_goals have hw : IntKind.i64.wrap ((base : Int) + X) = (base : Int) + X := by rw [IntKind.wrap_i64]; omega
  all_goals exact ⟨congrArg (fun z => Ending.returned (Value.int .i64 z)) hw, unhide S2, ((Gb.of (below_alloc w _)).drew).trans g2⟩

end
end Go.Proofs.YtalkeooejobjhaaDoor
