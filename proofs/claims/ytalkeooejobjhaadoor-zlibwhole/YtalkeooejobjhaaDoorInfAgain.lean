/-
  What again, of package inflate, does to a stream and answers. Conditions: the state's own bounds; the lengths lie in a row of the call's own.
-/
import Derived.Test.YtalkeooejobjhaaDoorInfTell
import Derived.Test.YtalkeooejobjhaaDoorInfLens
namespace Go.Proofs.YtalkeooejobjhaaDoor
open Go.RowKit
set_option linter.unusedVariables false
set_option linter.unusedSimpArgs false

/-- Below B only block g has changed. -/
structure Gx (g B : Nat) (w w' : World) : Prop where
  os : w'.os = w.os
  tape : w'.tape = w.tape
  output : w'.output = w.output
  size : w.heap.size ≤ w'.heap.size
  block : ∀ k, k < B → k ≠ g → w'.heap[k]? = w.heap[k]?
theorem Gx.refl (g B : Nat) (w : World) : Gx g B w w := ⟨rfl, rfl, rfl, Nat.le_refl _, fun _ _ _ => rfl⟩
theorem Gx.trans {g B : Nat} {a b c : World} (h : Gx g B a b) (k : Gx g B b c) : Gx g B a c :=
  ⟨k.os.trans h.os, k.tape.trans h.tape, k.output.trans h.output, Nat.le_trans h.size k.size, fun i hi hn => (k.block i hi hn).trans (h.block i hi hn)⟩
theorem Gb.gx {g B : Nat} {w w' : World} (h : Gb g w w') (hB : B ≤ w.heap.size) : Gx g B w w' := ⟨h.os, h.tape, h.output, h.size, fun k hk hn => h.block k (by omega) hn⟩
theorem below_gx {g B : Nat} {w w' : World} (h : Below B w w') : Gx g B w w' := ⟨h.os, h.tape, h.output, h.size, fun k hk _ => h.block k hk⟩
theorem Gx.gb {g : Nat} {w w' : World} (h : Gx g w.heap.size w w') : Gb g w w' := ⟨h.os, h.tape, h.output, h.size, h.block⟩

theorem IMine.gb {B g : Nat} {w w' : World} {ao : Option Addr} {n c : Nat} {a : List Int} (h : IMine B w ao n c a) (hg : g < B) (hb : Gb g w w') : IMine B w' ao n c a :=
  h.keep' fun k hk hl => hb.block k hl (by omega)

/-- A cell that an index names lies where it lay. -/
theorem Is.idx_same {w' : World} {ao : Option Addr} {n c : Nat} {xs : List Int} (h' : Is w' ao n c xs) {i : Nat} (hi : i < n) (I : Int) (hI : I = i) {b o : Nat}
    (hr : ∀ wx, (Instr.indexAt 57 (.slice ao n c) (.int .i64 I)).run Tryd.prog wx = .ok (.pointer (some ⟨b, o, none⟩)) wx) : w'.cell? ⟨b, o, none⟩ = some (.int .i64 (xs[i]?.getD 0)) := by
  obtain ⟨b', o', h1, h2⟩ := h'.idx hi I hI
  have := (hr w').symm.trans (h1 w')
  simp at this
  rw [this.1, this.2]
  exact h2

section
variable {E : Env} {g : Nat} {w0 : World} {oo : Option Addr} {oc : Nat} {s : PS} {ov : Bool}

/-- A row of ints of the call's own, and the stream, behind a call that goes on with the row. -/
def OutL (E : Env) (g B : Nat) (w : World) (oo : Option Addr) (oc : Nat) (r : List Int × PS) (ov : Bool) (e : Ending) (w' : World) : Prop :=
  ∃ ao' c', e = .returned (.slice ao' r.1.length c') ∧ IMine B w' ao' r.1.length c' r.1 ∧ St E g w' oo oc r.2 ov ∧ Gx g B w w'

set_option maxHeartbeats 1000000 in
set_option maxRecDepth 20000 in
theorem again_any (B : Nat) (w : World) (ao : Option Addr) (n c : Nat) (a : List Int) (hB : B ≤ w.heap.size) (hgB : g < B) (hoB : ∀ k, ob oo k → k < B) (hm : IMine B w ao n c a) (hn : n ≤ 1000) (ha : ∀ x ∈ a, 0 ≤ x ∧ x ≤ 15) (h : St E g w oo oc s ov) :
    Calls Tryd.prog 66 #[.pointer (some ⟨g, 0, none⟩), .slice ao n c] w fun e w' => OutL E g B w oo oc (agnS E.bs a s) ov e w' := by
  have hlen := hm.len
  by_cases h0 : n = 0
  · have hr := hide (show agnS E.bs a s = ([], stopS 5 s) by unfold agnS; rw [if_pos (by omega)])
    subst h0
    have sc := hide (stop_any w 5 (by omega) (by omega) h)
    clear h hm
    go_enter Tryd.func66, Tryd.ntmps66
    go_wp2_with fail
    refine (unhide sc).mono ?_
    rintro e w1 ⟨rfl, s1, g1⟩
    go_wp2_with fail
    go_ret
    rw [unhide hr]
    exact ⟨.none, 0, rfl, IMine.nought _ _, s1, g1.gx hB⟩
  · have hr := hide (show agnS E.bs a s = (a ++ List.replicate (3 + (fldN E.bs 2 s).1).toNat (a[a.length - 1]?.getD 0), (fldN E.bs 2 s).2) by unfold agnS; rw [if_neg (by omega)])
    have bd := fldN_bd E.bs 2 s
    have fc := hide (field_any w.drew 2 (by omega) 2 rfl h.drew)
    obtain ⟨bb, of, hix, hcx⟩ := hm.is.idx (show n - 1 < n by omega) (IntKind.i64.wrap ((n : Int) - 1)) (by rw [IntKind.wrap_i64]; omega)
    have hix' := hide hix
    have hv : 0 ≤ a[n - 1]?.getD 0 ∧ a[n - 1]?.getD 0 ≤ 15 := by
      have := ha _ (ln_mem (show n - 1 < a.length by omega))
      exact this
    rw [hlen] at hr
    have HM := hide hm
    clear hm ha h
    have h0' : ((n : Int) == 0) = false := by simp; omega
    generalize (fldN E.bs 2 s).1 = X at *
    generalize (fldN E.bs 2 s).2 = t at *
    obtain ⟨V, hV⟩ : ∃ V, V = a[n - 1]?.getD 0 := ⟨_, rfl⟩
    have HV := hide hV
    rw [← hV] at hcx hv hr
    clear hV
    have HK := hide (fun w2 (g2 : Gb g w.drew w2) => ((unhide HM).later (below_drew w)).gb hgB g2)
    have HC := hide (fun w2 (g2 : Gb g w.drew w2) => (show w2.cell? ⟨bb, of, none⟩ = some (.int .i64 V) by
      rw [unhide HV]
      exact Is.idx_same (unhide HK w2 g2).is (show n - 1 < n by omega) _ (by rw [IntKind.wrap_i64]; omega) (unhide hix')))
    go_enter Tryd.func66, Tryd.ntmps66
    go_wp2_with fail
    go_region_with (first
      | (go_at_call 27; refine (unhide fc).mono ?_; rintro e w2 ⟨rfl, s2, g2⟩; have hcx2 := unhide HC w2 g2)
      | (go_at_call 50; refine (times_any B ao n c a V (3 + X).toNat w2 (Nat.le_trans hB g2.size) (unhide HK w2 g2) (by omega) (by omega) (by omega) (by omega) _ (by first | omega | (rw [IntKind.wrap_i64]; omega))).mono ?_; rintro e w3 ⟨ao3, c3, rfl, m3, b3⟩))
    all_goals have S2 := hide s2
    all_goals have M3 := hide m3
    all_goals clear s2 m3
    all_goals go_wp2_with fail
    all_goals go_ret
    all_goals rw [unhide hr]
    all_goals have e1 : (a ++ List.replicate (3 + X).toNat V).length = n + (3 + X).toNat := by simp [hlen]
    all_goals refine ⟨ao3, c3, ?_, ?_, (unhide S2).under hgB hoB b3, ((((Gb.refl g w).drew).trans g2).gx hB).trans (below_gx b3)⟩
    all_goals simp only [e1]
    all_goals first | rfl | exact unhide M3
end
end Go.Proofs.YtalkeooejobjhaaDoor
