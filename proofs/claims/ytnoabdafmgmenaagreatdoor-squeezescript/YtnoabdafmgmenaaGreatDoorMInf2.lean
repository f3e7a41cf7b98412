/-
  What times, Fixed, sum, isWhole, areLiterals and areDistances, of package inflate, answer. They write nothing that was there but the row that times goes on with. Conditions: the slices can be read, at most a million lengths.
  What again, of package inflate, does to a stream and answers. Conditions: the state's own bounds; the lengths lie in a row of the call's own.
  What codeOfLengths, of package inflate, does to a stream and answers. Conditions: the state's own bounds.
  What copy, of package inflate, does to a stream. Conditions: the state's own bounds; where nothing went wrong the distance is not 0.
  What stored, of package inflate, does to a stream. Conditions: the state's own bounds.
-/
import Derived.Test.YtnoabdafmgmenaaGreatDoorMInf1
import Derived.Test.YtnoabdafmgmenaaGreatDoorMHuf
namespace Go.Proofs.YtnoabdafmgmenaaGreatDoor
open Go.RowKit
set_option linter.unusedVariables false
set_option linter.unusedSimpArgs false

theorem sum_snoc (L : List Int) (k : Nat) (hk : k < L.length) : (L.take (k + 1)).sum = (L.take k).sum + ln L k := by
  rw [take_snoc hk, List.sum_append]
  simp
theorem sum_bd (L : List Int) (h : ∀ x ∈ L, 0 ≤ x ∧ x ≤ 15) : ∀ k, k ≤ L.length → 0 ≤ (L.take k).sum ∧ (L.take k).sum ≤ 15 * k
  | 0, _ => by simp
  | k + 1, hk => by
    have ih := sum_bd L h k (by omega)
    have hx := h _ (ln_mem (show k < L.length by omega))
    rw [sum_snoc L k (by omega)]
    omega

set_option maxHeartbeats 1000000 in
theorem sum_any (ao : Option Addr) (n c : Nat) (L : List Int) (w : World) (h : Is w ao n c L) (hn : n ≤ 1000) (hx : ∀ x ∈ L, 0 ≤ x ∧ x ≤ 15) :
    Calls Tryz.prog 121 #[.slice ao n c] w fun e w' => e = .returned (.int .i64 L.sum) ∧ w' = w := by
  have hlen := hide h.len
  have hmax := h.max
  have hle := h.le
  have H := hide h
  have HX := hide hx
  clear h hx
  go_enter Tryz.func121, Tryz.ntmps121
  go_wp2_with fail
  go_loop [3, 8] (fun t i => ∃ k : Nat, k ≤ n ∧ i = .int .i64 (k : Int) ∧ t = .int .i64 (L.take k).sum) (fun _ i => n - (intOf i).toNat)
  case atStart => exact ⟨0, by omega, rfl, by simp⟩
  case round =>
    obtain ⟨k, hk, rfl, rfl⟩ := hrel
    have bd := sum_bd L (unhide HX) k (by rw [unhide hlen]; exact hk)
    by_cases hlt : k < n
    · have hlt' : (k : Int) < (n : Int) := by omega
      obtain ⟨bb, of, hix, hcx⟩ := (unhide H).idx hlt (k : Int) rfl
      have hs := hide (sum_snoc L k (by rw [unhide hlen]; exact hlt))
      have hxk := unhide HX _ (ln_mem (show k < L.length by rw [unhide hlen]; exact hlt))
      have hcx' : w.cell? ⟨bb, of, none⟩ = some (.int .i64 (ln L k)) := hcx
      clear hcx
      generalize ln L k = V at *
      generalize (L.take k).sum = T at *
      go_wp2_with fail
      go_round
      case rel => exact ⟨k + 1, by omega, by go_num, by rw [unhide hs]⟩
      case measure => simp [intOf]; omega
    · have hfin := hide (show (L.take k).sum = L.sum by rw [List.take_of_length_le (by rw [unhide hlen]; omega)])
      have hlt' : ¬ (k : Int) < (n : Int) := by omega
      go_wp2_with fail
      go_ret
      rw [← unhide hfin]
      exact ⟨rfl, rfl⟩

set_option maxHeartbeats 1000000 in
theorem isWhole_any (ao : Option Addr) (n c : Nat) (L : List Int) (w : World) (h : Is w ao n c L) :
    Calls Tryz.prog 120 #[.slice ao n c] w fun e w' => e = .returned (.bool (whole L)) ∧ Below w.heap.size w w' := by
  have cc := hide (check_any ao n c L w h)
  clear h
  by_cases hw : whole L = true
  · have hc : cer L = 0 := by
      unfold whole at hw
      simp at hw
      exact hw.1
    have hc' : (cer L == 0) = true := by simpa using hc
    rw [hw] at cc ⊢
    generalize cer L = C at *
    go_enter Tryz.func120, Tryz.ntmps120
    go_wp2_with fail
    refine (unhide cc).mono ?_
    rintro e w1 ⟨rfl, b1⟩
    go_wp2_with fail
    go_ret
    exact ⟨rfl, b1⟩
  · have hw' : whole L = false := by simpa using hw
    rw [hw'] at cc ⊢
    generalize cer L = C at *
    go_enter Tryz.func120, Tryz.ntmps120
    go_wp2_with fail
    refine (unhide cc).mono ?_
    rintro e w1 ⟨rfl, b1⟩
    go_wp2_with fail
    go_ret
    exact ⟨rfl, b1⟩

set_option maxHeartbeats 1000000 in
theorem areLiterals_any (ao : Option Addr) (n c : Nat) (L : List Int) (w : World) (h : Is w ao n c L) (hn : n ≤ 1000) (h257 : 256 < n) (hx : ∀ x ∈ L, 0 ≤ x ∧ x ≤ 15) :
    Calls Tryz.prog 106 #[.slice ao n c] w fun e w' => e = .returned (.bool (lits L)) ∧ Below w.heap.size w w' := by
  have wc := hide (isWhole_any ao n c L w h)
  have sc := hide (fun w1 (hb : Below w.heap.size w w1) => sum_any ao n c L w1 (h.later hb) hn hx)
  obtain ⟨bb, of, hix, hcx⟩ := h.idx h257 (256 : Int) rfl
  clear h hx
  have hr := hide (show lits L = (decide (L[256]?.getD 0 ≠ 0) && (whole L || decide (L.sum = 1))) from rfl)
  rw [unhide hr]
  clear hr
  generalize L[256]?.getD 0 = V at *
  generalize L.sum = T at *
  by_cases hv : V = 0
  · have hv' : (V != 0) = false := by simpa using hv
    have hr : (decide (V ≠ 0) && (whole L || decide (T = 1))) = false := by simp [hv]
    rw [hr]
    clear hr
    go_enter Tryz.func106, Tryz.ntmps106
    go_wp2_with fail
    go_ret
    exact ⟨rfl, Below.refl _ _⟩
  · have hv' : (V != 0) = true := by simpa using hv
    have hr : (decide (V ≠ 0) && (whole L || decide (T = 1))) = (whole L || decide (T = 1)) := by simp [hv]
    rw [hr]
    clear hr hv
    cases hwl : whole L with
    | true =>
      rw [hwl] at wc
      clear hwl
      go_enter Tryz.func106, Tryz.ntmps106
      go_wp2_with fail
      refine (unhide wc).mono ?_
      rintro e w1 ⟨rfl, b1⟩
      go_wp2_with fail
      go_ret
      exact ⟨rfl, b1⟩
    | false =>
      rw [hwl] at wc
      clear hwl
      go_enter Tryz.func106, Tryz.ntmps106
      go_wp2_with fail
      refine (unhide wc).mono ?_
      rintro e w1 ⟨rfl, b1⟩
      go_wp2_with fail
      refine same_world ((unhide sc) w1 b1) ?_
      go_wp2_with fail
      go_ret
      exact ⟨rfl, b1⟩

set_option maxHeartbeats 1000000 in
theorem areDistances_any (ao : Option Addr) (n c : Nat) (L : List Int) (w : World) (h : Is w ao n c L) (hn : n ≤ 1000) (hx : ∀ x ∈ L, 0 ≤ x ∧ x ≤ 15) :
    Calls Tryz.prog 107 #[.slice ao n c] w fun e w' => e = .returned (.bool (dsts L)) ∧ Below w.heap.size w w' := by
  have wc := hide (isWhole_any ao n c L w h)
  have sc := hide (fun w1 (hb : Below w.heap.size w w1) => sum_any ao n c L w1 (h.later hb) hn hx)
  clear h hx
  have hr := hide (show dsts L = (whole L || decide (L.sum ≤ 1)) from rfl)
  rw [unhide hr]
  clear hr
  generalize L.sum = T at *
  cases hwl : whole L with
  | true =>
    rw [hwl] at wc
    clear hwl
    go_enter Tryz.func107, Tryz.ntmps107
    go_wp2_with fail
    refine (unhide wc).mono ?_
    rintro e w1 ⟨rfl, b1⟩
    go_wp2_with fail
    go_ret
    exact ⟨rfl, b1⟩
  | false =>
    rw [hwl] at wc
    clear hwl
    go_enter Tryz.func107, Tryz.ntmps107
    go_wp2_with fail
    refine (unhide wc).mono ?_
    rintro e w1 ⟨rfl, b1⟩
    go_wp2_with fail
    refine same_world ((unhide sc) w1 b1) ?_
    go_wp2_with fail
    go_ret
    exact ⟨rfl, b1⟩

end Go.Proofs.YtnoabdafmgmenaaGreatDoor

namespace Go.Proofs.YtnoabdafmgmenaaGreatDoor
open Go.RowKit
set_option linter.unusedVariables false
set_option linter.unusedSimpArgs false

/-- Below B only block g has changed. -/
structure Gx (g B : Nat) (w w' : World) : Prop where
  os : w'.os = w.os
  tape : w'.tape = w.tape
  output : w'.output = w.output
  size : w.heap.size ≤ w'.heap.size
  block : ∀ k, k < B → k ≠ g → w'.heap[k]? = w.heap[k]?
theorem Gx.refl (g B : Nat) (w : World) : Gx g B w w := ⟨rfl, rfl, rfl, Nat.le_refl _, fun _ _ _ => rfl⟩
theorem Gx.trans {g B : Nat} {a b c : World} (h : Gx g B a b) (k : Gx g B b c) : Gx g B a c :=
  ⟨k.os.trans h.os, k.tape.trans h.tape, k.output.trans h.output, Nat.le_trans h.size k.size, fun i hi hn => (k.block i hi hn).trans (h.block i hi hn)⟩
theorem Gb.gx {g B : Nat} {w w' : World} (h : Gb g w w') (hB : B ≤ w.heap.size) : Gx g B w w' := ⟨h.os, h.tape, h.output, h.size, fun k hk hn => h.block k (by omega) hn⟩
theorem below_gx {g B : Nat} {w w' : World} (h : Below B w w') : Gx g B w w' := ⟨h.os, h.tape, h.output, h.size, fun k hk _ => h.block k hk⟩
theorem Gx.gb {g : Nat} {w w' : World} (h : Gx g w.heap.size w w') : Gb g w w' := ⟨h.os, h.tape, h.output, h.size, h.block⟩

theorem IMine.gb {B g : Nat} {w w' : World} {ao : Option Addr} {n c : Nat} {a : List Int} (h : IMine B w ao n c a) (hg : g < B) (hb : Gb g w w') : IMine B w' ao n c a :=
  h.keep' fun k hk hl => hb.block k hl (by omega)

/-- A cell that an index names lies where it lay. -/
theorem Is.idx_same {w' : World} {ao : Option Addr} {n c : Nat} {xs : List Int} (h' : Is w' ao n c xs) {i : Nat} (hi : i < n) (I : Int) (hI : I = i) {b o : Nat}
    (hr : ∀ wx, (Instr.indexAt 96 (.slice ao n c) (.int .i64 I)).run Tryz.prog wx = .ok (.pointer (some ⟨b, o, none⟩)) wx) : w'.cell? ⟨b, o, none⟩ = some (.int .i64 (xs[i]?.getD 0)) := by
  obtain ⟨b', o', h1, h2⟩ := h'.idx hi I hI
  have := (hr w').symm.trans (h1 w')
  simp at this
  rw [this.1, this.2]
  exact h2

section
variable {E : Env} {g : Nat} {w0 : World} {oo : Option Addr} {oc : Nat} {s : PS} {ov : Bool}

/-- A row of ints of the call's own, and the stream, behind a call that goes on with the row. -/
def OutL (E : Env) (g B : Nat) (w : World) (oo : Option Addr) (oc : Nat) (r : List Int × PS) (ov : Bool) (e : Ending) (w' : World) : Prop :=
  ∃ ao' c', e = .returned (.slice ao' r.1.length c') ∧ IMine B w' ao' r.1.length c' r.1 ∧ St E g w' oo oc r.2 ov ∧ Gx g B w w'

set_option maxHeartbeats 1000000 in
set_option maxRecDepth 20000 in
theorem again_any (B : Nat) (w : World) (ao : Option Addr) (n c : Nat) (a : List Int) (hB : B ≤ w.heap.size) (hgB : g < B) (hoB : ∀ k, ob oo k → k < B) (hm : IMine B w ao n c a) (hn : n ≤ 1000) (ha : ∀ x ∈ a, 0 ≤ x ∧ x ≤ 15) (h : St E g w oo oc s ov) :
    Calls Tryz.prog 119 #[.pointer (some ⟨g, 0, none⟩), .slice ao n c] w fun e w' => OutL E g B w oo oc (agnS E.bs a s) ov e w' := by
  have hlen := hm.len
  by_cases h0 : n = 0
  · have hr := hide (show agnS E.bs a s = ([], stopS 5 s) by unfold agnS; rw [if_pos (by omega)])
    subst h0
    have sc := hide (stop_any w 5 (by omega) (by omega) h)
    clear h hm
    go_enter Tryz.func119, Tryz.ntmps119
    go_wp2_with fail
    refine (unhide sc).mono ?_
    rintro e w1 ⟨rfl, s1, g1⟩
    go_wp2_with fail
    go_ret
    rw [unhide hr]
    exact ⟨.none, 0, rfl, IMine.nought _ _, s1, g1.gx hB⟩
  · have hr := hide (show agnS E.bs a s = (a ++ List.replicate (3 + (fldN E.bs 2 s).1).toNat (a[a.length - 1]?.getD 0), (fldN E.bs 2 s).2) by unfold agnS; rw [if_neg (by omega)])
    have bd := fldN_bd E.bs 2 s
    have fc := hide (field_any w.drew 2 (by omega) 2 rfl h.drew)
    obtain ⟨bb, of, hix, hcx⟩ := hm.is.idx (show n - 1 < n by omega) (IntKind.i64.wrap ((n : Int) - 1)) (by rw [IntKind.wrap_i64]; omega)
    have hix' := hide hix
    have hv : 0 ≤ a[n - 1]?.getD 0 ∧ a[n - 1]?.getD 0 ≤ 15 := by
      have := ha _ (ln_mem (show n - 1 < a.length by omega))
      exact this
    rw [hlen] at hr
    have HM := hide hm
    clear hm ha h
    have h0' : ((n : Int) == 0) = false := by simp; omega
    generalize (fldN E.bs 2 s).1 = X at *
    generalize (fldN E.bs 2 s).2 = t at *
    obtain ⟨V, hV⟩ : ∃ V, V = a[n - 1]?.getD 0 := ⟨_, rfl⟩
    have HV := hide hV
    rw [← hV] at hcx hv hr
    clear hV
    have HK := hide (fun w2 (g2 : Gb g w.drew w2) => ((unhide HM).later (below_drew w)).gb hgB g2)
    have HC := hide (fun w2 (g2 : Gb g w.drew w2) => (show w2.cell? ⟨bb, of, none⟩ = some (.int .i64 V) by
      rw [unhide HV]
      exact Is.idx_same (unhide HK w2 g2).is (show n - 1 < n by omega) _ (by rw [IntKind.wrap_i64]; omega) (unhide hix')))
    go_enter Tryz.func119, Tryz.ntmps119
    go_wp2_with fail
    go_region_with (first
      | (go_at_call 68; refine (unhide fc).mono ?_; rintro e w2 ⟨rfl, s2, g2⟩; have hcx2 := unhide HC w2 g2)
      | (go_at_call 102; refine (times_any B ao n c a V (3 + X).toNat w2 (Nat.le_trans hB g2.size) (unhide HK w2 g2) (by omega) (by omega) (by omega) (by omega) _ (by first | omega | (rw [IntKind.wrap_i64]; omega))).mono ?_; rintro e w3 ⟨ao3, c3, rfl, m3, b3⟩))
    all_goals have S2 := hide s2
    all_goals have M3 := hide m3
    all_goals clear s2 m3
    all_goals go_wp2_with fail
    all_goals go_ret
    all_goals rw [unhide hr]
    all_goals have e1 : (a ++ List.replicate (3 + X).toNat V).length = n + (3 + X).toNat := by simp [hlen]
    all_goals refine ⟨ao3, c3, ?_, ?_, (unhide S2).under hgB hoB b3, ((((Gb.refl g w).drew).trans g2).gx hB).trans (below_gx b3)⟩
    all_goals simp only [e1]
    all_goals first | rfl | exact unhide M3
end
end Go.Proofs.YtnoabdafmgmenaaGreatDoor

namespace Go.Proofs.YtnoabdafmgmenaaGreatDoor
open Go.RowKit
set_option linter.unusedVariables false
set_option linter.unusedSimpArgs false

theorem ord_bd : ∀ i, i < 19 → ordL[i]?.getD 0 < 19 := by decide
theorem colN_len (b : List Int) : ∀ (i : Nat) (s : PS), (colN b i s).1.length = 19
  | 0, s => by simp [colN]
  | i + 1, s => by simp only [colN, List.length_set]; exact colN_len b i s

theorem imine_at {B : Nat} {w : World} {q n c : Nat} {xs : List Int} (h : IMine B w (some ⟨q, 0, none⟩) n c xs) {i : Nat} (hi : i < n) : w.cell? ⟨q, i, none⟩ = some (.int .i64 (xs[i]?.getD 0)) := by
  have hl := h.len
  have := h.own.cells (g := q) rfl i (.int .i64 (xs[i]?.getD 0)) (by simp [List.getElem?_eq_getElem (show i < xs.length by omega)])
  rw [Addr.add_lit, Nat.zero_add] at this
  exact this

section
variable {E : Env} {g : Nat} {w0 : World} {oo : Option Addr} {oc : Nat} {s : PS} {ov : Bool}

set_option maxHeartbeats 2000000 in
set_option maxRecDepth 20000 in
theorem codeOfLengths_any (w : World) (h : St E g w oo oc s ov) :
    Calls Tryz.prog 105 #[.pointer (some ⟨g, 0, none⟩)] w fun e w' => OutL E g w.heap.size w oo oc (colS E.bs s) ov e w' := by
  have hgB := h.lt
  have hoB := fun k (hk : ob oo k) => (h.out.ob hk).2
  have hr := hide (show colS E.bs s = colC (colN E.bs (4 + (fldN E.bs 4 s).1).toNat (fldN E.bs 4 s).2) from rfl)
  rw [unhide hr]
  have bd := fldN_bd E.bs 4 s
  have H := hide h
  clear h hr
  have fc := hide (fun w1 (h1 : St E g w1 oo oc s ov) => field_any w1 4 (by omega) 4 rfl h1)
  generalize (fldN E.bs 4 s).2 = t at *
  generalize (fldN E.bs 4 s).1 = X at *
  obtain ⟨T, hT⟩ : ∃ T : Nat, 4 + X = (T : Int) := ⟨(4 + X).toNat, by omega⟩
  have hX : X = (T : Int) - 4 := by omega
  subst hX
  have hT19 : T ≤ 19 := by omega
  have hT4 : 4 ≤ T := by omega
  have hTn := hide (show (4 + ((T : Int) - 4)).toNat = T by omega)
  rw [unhide hTn]
  clear bd hTn hT
  go_enter Tryz.func105, Tryz.ntmps105
  go_wp2_with (at_make; refine wpList_imkFull rfl _ _ rfl _ _ 19 19 19 rfl rfl rfl rfl (by omega) ?_; intro w1 m1 b1 l1)
  have M1 := hide m1
  clear m1
  refine ((unhide fc) w1 ((unhide H).later b1)).mono ?_
  rintro e w2 ⟨rfl, s2, g2⟩
  have M2 := hide ((unhide M1).gb hgB g2)
  have GX := hide ((below_gx (g := g) b1).trans (g2.gx b1.size))
  have S2 := hide s2
  clear s2
  go_wp2_with fail
  go_loopw [13] (fun i wr => ∃ k : Nat, k ≤ T ∧ i = .int .i64 (k : Int) ∧ IMine w.heap.size wr (some ⟨w.heap.size, 0, none⟩) 19 19 (colN E.bs k t).1 ∧ St E g wr oo oc (colN E.bs k t).2 ov ∧ Gx g w.heap.size w wr) (fun i _ => T - (intOf i).toNat)
  case atStart => exact ⟨0, by omega, rfl, unhide M2, unhide S2, unhide GX⟩
  case round =>
    clear M1 M2 GX S2 g2
    obtain ⟨k, hk, rfl, mk, st, gx⟩ := hrel
    have MK := hide mk
    have ST := hide st
    have hsz := gx.size
    have GX := hide gx
    clear mk st gx
    by_cases hlt : k < T
    · have hlt' : (k : Int) < (T : Int) := by omega
      have k19 : k < 19 := by omega
      have i1 : 0 ≤ (k : Int) ∧ (k : Int) < 19 := by omega
      have vo := (unhide ST).vars.ordL k k19
      have ob2 := ord_bd k k19
      have fe := hide (field_any wr.drew 3 (by omega) 3 rfl (unhide ST).drew)
      have bd := fldN_bd E.bs 3 (colN E.bs k t).2
      have hnx := hide (show colN E.bs (k + 1) t = ((colN E.bs k t).1.set (ordL[k]?.getD 0) (fldN E.bs 3 (colN E.bs k t).2).1, (fldN E.bs 3 (colN E.bs k t).2).2) from rfl)
      obtain ⟨O, hO⟩ : ∃ O, O = ordL[k]?.getD 0 := ⟨_, rfl⟩
      rw [← hO] at vo ob2 hnx
      have HO := hide hO
      clear hO
      generalize (fldN E.bs 3 (colN E.bs k t).2).1 = V at *
      generalize (fldN E.bs 3 (colN E.bs k t).2).2 = t3 at *
      have i2 : 0 ≤ (O : Int) ∧ (O : Int) < 19 := by omega
      have HV := hide (fun w3 (s3 : St E g w3 oo oc t3 ov) => (show w3.cell? ⟨2, k, none⟩ = some (.int .i64 (O : Int)) by rw [unhide HO]; exact s3.vars.ordL k k19))
      have HM := hide (fun w3 (g3 : Gb g wr.drew w3) => ((unhide MK).later (below_drew wr)).gb hgB g3)
      have HQ := hide (fun w3 (g3 : Gb g wr.drew w3) => imine_at (unhide HM w3 g3) ob2)
      have HF := hide (fun w3 (g3 : Gb g wr.drew w3) => (unhide HM w3 g3).free O)
      go_wp2_with fail
      go_region_with (go_at_call 68; refine (unhide fe).mono ?_; rintro e w3 ⟨rfl, s3, g3⟩; have vo3 := unhide HV w3 s3; have cq := unhide HQ w3 g3; have fq := unhide HF w3 g3)
      all_goals have S3 := hide s3
      all_goals clear s3
      all_goals go_wp2_with fail
      all_goals go_roundw
      all_goals first
        | (refine ⟨k + 1, by omega, by go_num, ?_, ?_, ?_⟩
           · rw [unhide hnx]
             exact (unhide HM w3 g3).stored O V (by omega) (by omega)
           · rw [unhide hnx]
             exact (unhide S3).under hgB hoB ((Below.refl _ w3).setCell (by simp) _)
           · exact ((unhide GX).trans ((((Gb.refl g wr).drew).trans g3).gx (by omega))).trans (below_gx ((Below.refl _ w3).setCell (by simp) _)))
        | (simp [intOf]; omega)
    · have hkT : k = T := by omega
      subst hkT
      have hlt' : ¬ (k : Int) < (k : Int) := by omega
      have hlen := colN_len E.bs k t
      have wc := hide (isWhole_any _ _ _ _ wr (unhide MK).is)
      cases hw : whole (colN E.bs k t).1 with
      | true =>
        have hr := hide (show colC (colN E.bs k t) = ((colN E.bs k t).1, (colN E.bs k t).2) by unfold colC; rw [if_pos hw])
        rw [hw] at wc
        go_wp2_with fail
        refine (unhide wc).mono ?_
        rintro e w3 ⟨rfl, b3⟩
        go_wp2_with fail
        go_ret
        rw [unhide hr]
        refine ⟨some ⟨w.heap.size, 0, none⟩, 19, ?_, ?_, (unhide ST).later b3, (unhide GX).trans ((Gb.of b3).gx (by omega))⟩
        · simp only [hlen]; rfl
        · simp only [hlen]; exact (unhide MK).later b3
      | false =>
        have hr := hide (show colC (colN E.bs k t) = ((colN E.bs k t).1, stopS 5 (colN E.bs k t).2) by unfold colC; rw [if_neg (by rw [hw]; simp)])
        rw [hw] at wc
        go_wp2_with fail
        refine (unhide wc).mono ?_
        rintro e w3 ⟨rfl, b3⟩
        have sc := hide (stop_any w3 5 (by omega) (by omega) ((unhide ST).later b3))
        go_wp2_with fail
        refine (unhide sc).mono ?_
        rintro e w4 ⟨rfl, s4, g4⟩
        go_wp2_with fail
        go_ret
        rw [unhide hr]
        refine ⟨some ⟨w.heap.size, 0, none⟩, 19, ?_, ?_, s4, (unhide GX).trans (((Gb.of b3).trans g4).gx (by omega))⟩
        · simp only [hlen]; rfl
        · simp only [hlen]; exact ((unhide MK).later b3).gb hgB g4
end
end Go.Proofs.YtnoabdafmgmenaaGreatDoor

namespace Go.Proofs.YtnoabdafmgmenaaGreatDoor
open Go.RowKit
set_option linter.unusedVariables false
set_option linter.unusedSimpArgs false

section
variable {E : Env} {g : Nat} {w0 : World} {oo : Option Addr} {oc : Nat} {s : PS} {ov : Bool}

set_option maxHeartbeats 2000000 in
set_option maxRecDepth 20000 in
theorem copy_any (w : World) (n d : Nat) (hn : n ≤ 100000) (hd : d ≤ 100000) (h1 : s.e = 0 → 1 ≤ d) (h : St E g w oo oc s ov) :
    Calls Tryz.prog 100 #[.pointer (some ⟨g, 0, none⟩), .int .i64 (n : Int), .int .i64 (d : Int)] w fun e w' => e = .returned (.tuple #[]) ∧ Out E g w oo (cpyS E.m n d s) ov w' := by
  have c4 := h.c4
  have ho := h.fit.o
  have key : ∀ w1 (t : PS) (Q : Ending → World → Prop), St E g w1 oo oc t ov → Fr g oo w oo w1 → (t.e = 0 → 1 ≤ d ∧ d ≤ t.o.length) → True := fun _ _ _ _ _ _ => trivial
  have H := hide h
  have H1 := hide h1
  clear h key h1
  by_cases hfar : s.o.length < d
  · have hr := hide (show cpyS E.m n d s = stopS 5 s by unfold cpyS farS; rw [if_pos hfar, cpyL_dead (stopS_e 5 s (by omega))])
    have hfar' : (s.o.length : Int) < (d : Int) := by omega
    have hne := stopS_e 5 s (by omega)
    have sc := hide (stop_any w 5 (by omega) (by omega) (unhide H))
    generalize stopS 5 s = t at *
    go_enter Tryz.func100, Tryz.ntmps100
    go_wp2_with fail
    refine (unhide sc).mono ?_
    rintro e w1 ⟨rfl, s1, g1⟩
    have rd : romS E.m t = t := romS_dead hne
    have rc := room_st w1 s1
    rw [rd] at rc
    have hdd : decide (t.e = 0) = false := by simpa using hne
    rw [hdd] at rc
    have RC := hide rc
    have S1 := hide s1
    clear rc rd hdd s1 hne
    go_wp2_with fail
    go_loopw [6] (fun i wr => i = .int .i64 0 ∧ wr = w1) (fun _ _ => 0)
    case atStart => exact ⟨rfl, rfl⟩
    case round =>
      obtain ⟨rfl, rfl⟩ := hrel
      by_cases hn0 : 0 < n
      · have hn0' : (0 : Int) < (n : Int) := by omega
        go_wp2_with fail
        refine (unhide RC).mono ?_
        rintro e w2 ⟨rfl, s2, g2⟩
        go_wp2_with fail
        go_end0
        rw [unhide hr]
        exact ⟨rfl, oo, oc, s2, (g1.trans g2).fr oo⟩
      · have hn0' : ¬ (0 : Int) < (n : Int) := by omega
        go_wp2_with fail
        go_end0
        rw [unhide hr]
        exact ⟨rfl, oo, oc, unhide S1, g1.fr oo⟩
  · have hfar' : ¬ (s.o.length : Int) < (d : Int) := by omega
    have hr := hide (show cpyS E.m n d s = cpyL E.m d n s by unfold cpyS farS; rw [if_neg hfar])
    rw [unhide hr]
    generalize hR : cpyL E.m d n s = R
    have HR := hide hR
    have h2 := hide (show s.e = 0 → 1 ≤ d ∧ d ≤ s.o.length from fun q => ⟨unhide H1 q, by omega⟩)
    clear hR hfar
    go_enter Tryz.func100, Tryz.ntmps100
    go_wp2_with fail
    go_loopw [6] (fun i wr => ∃ (k : Nat) (t : PS) (oo1 : Option Addr) (oc1 : Nat), k ≤ n ∧ i = .int .i64 (k : Int) ∧ cpyL E.m d (n - k) t = R ∧ (t.e = 0 → 1 ≤ d ∧ d ≤ t.o.length) ∧ St E g wr oo1 oc1 t ov ∧ Fr g oo w oo1 wr) (fun i _ => n - (intOf i).toNat)
    case atStart => exact ⟨0, s, oo, oc, by omega, rfl, unhide HR, unhide h2, unhide H, Fr.refl _ _ _⟩
    case round =>
      clear c4 ho
      obtain ⟨k, t, oo1, oc1, hk, rfl, hc, hdl, st, fr⟩ := hrel
      have HC := hide hc
      have HD := hide hdl
      have ST := hide st
      have FR := hide fr
      clear hc hdl st fr hfar' hr h2
      by_cases hlt : k < n
      · have rc := hide (room_st wr (unhide ST))
        have hlt' : (k : Int) < (n : Int) := by omega
        by_cases he : (romS E.m t).e = 0
        · have hd : decide ((romS E.m t).e = 0) = true := by simpa using he
          obtain ⟨hl1, hl2, hl3⟩ := romS_live he
          rw [hd, hl1] at rc
          have dl := unhide HD hl2
          obtain ⟨j, hj⟩ : ∃ j, n - k = j + 1 := ⟨n - k - 1, by omega⟩
          have hnx := hide (show cpyL E.m d (n - (k + 1)) { t with o := t.o ++ [t.o[t.o.length - d]?.getD 0] } = R by
            rw [← unhide HC, hj, show n - (k + 1) = j by omega]
            simp only [cpyL, bckS]
            rw [telS_live hl2 hl3])
          have HL := hide (And.intro hl2 hl3)
          clear hd he hl1 hl2 hl3 hj
          go_wp2_with fail
          refine (unhide rc).mono ?_
          rintro e w1 ⟨rfl, s1, g1⟩
          have ho := s1.fit.o
          have c4 := s1.c4
          have f4 := s1.free 4
          obtain ⟨bb, of, hix, hcx⟩ := s1.out.bs.idx (show t.o.length - d < t.o.length by omega) (IntKind.i64.wrap ((t.o.length : Int) - (d : Int))) (by rw [IntKind.wrap_i64]; omega)
          have hby := s1.out.byt.at (t.o.length - d)
          generalize t.o[t.o.length - d]?.getD 0 = V at *
          have c4a := (s1.later (below_alloc w1 (.cells #[.int .u8 V] 5))).c4
          have s2 := (s1.drew).later (below_alloc w1.drew (.cells #[.int .u8 V] 5))
          have hone := hide (Bs.one w1.drew V hby.1 hby.2)
          have hlt2 := s2.lt
          have S1 := hide s1
          have S2 := hide s2
          clear s1 s2
          go_wp2_with fail
          go_region_law (refine step_appF rfl (.tmp 31) (.tmp 45) rfl (g + 1) oo1 t.o.length oc1 t.o (by simp [Act.eval, Act.put]) (unhide S2).out _ 1 1 [V] (by simp [Act.eval, Act.put]) (unhide hone) (by omega) hlt2 ?_; intro oo2 c2 w3 hM hgr hsrc; have hg3 := (unhide S2).grown hgr; have c4' := (World.cell?_of_block (a := ⟨g, 4, none⟩) hg3).trans (unhide S2).c4; have f4' := (World.frozen?_of_block (a := ⟨g, 4, none⟩) hg3).trans ((unhide S2).free 4))
          all_goals have told := hide ((unhide S2).told (unhide HL).1 (unhide HL).2 hM (fr_app hlt2 hgr hsrc) hg3)
          all_goals clear hM hgr hsrc hg3 hix hcx
          all_goals go_wp2_with fail
          all_goals go_roundw
          all_goals first
            | exact ⟨k + 1, _, oo2, c2, by omega, by go_num, unhide hnx, fun _ => ⟨dl.1, by simp; omega⟩, (unhide told).1, ((unhide FR).trans ((g1.drew.trans (Gb.of (below_alloc w1.drew _))).fr oo1)).trans (unhide told).2⟩
            | (simp [intOf]; omega)
        · have hd : decide ((romS E.m t).e = 0) = false := by simpa using he
          rw [hd] at rc
          have hfin := hide (show R = romS E.m t by
            obtain ⟨j, hj⟩ : ∃ j, n - k = j + 1 := ⟨n - k - 1, by omega⟩
            rw [← unhide HC, hj]
            simp only [cpyL, bckS]
            rw [show telS E.m (t.o[t.o.length - d]?.getD 0) t = romS E.m t from if_neg he]
            exact cpyL_dead he j)
          clear hd he
          go_wp2_with fail
          refine (unhide rc).mono ?_
          rintro e w1 ⟨rfl, s1, g1⟩
          go_wp2_with fail
          go_end0
          rw [unhide hfin]
          exact ⟨rfl, oo1, oc1, s1, (unhide FR).trans (g1.fr oo1)⟩
      · have hkn : k = n := by omega
        have hfin := hide (show R = t by rw [← unhide HC, hkn, Nat.sub_self]; rfl)
        have hlt' : ¬ (k : Int) < (n : Int) := by omega
        clear hkn
        go_wp2_with fail
        go_end0
        rw [unhide hfin]
        exact ⟨rfl, oo1, oc1, unhide ST, unhide FR⟩
end
end Go.Proofs.YtnoabdafmgmenaaGreatDoor

namespace Go.Proofs.YtnoabdafmgmenaaGreatDoor
open Go.RowKit
set_option linter.unusedVariables false
set_option linter.unusedSimpArgs false

section
variable {E : Env} {g : Nat} {w0 : World} {oo : Option Addr} {oc : Nat} {s : PS} {ov : Bool}

set_option maxHeartbeats 2000000 in
theorem stored_any (w : World) (h : St E g w oo oc s ov) :
    Calls Tryz.prog 69 #[.pointer (some ⟨g, 0, none⟩)] w fun e w' => e = .returned (.tuple #[]) ∧ Out E g w oo (stoS E.bs E.m s) ov w' := by
  have tc := hide (toByte_any w h)
  have fc := hide (fun w1 (h1 : St E g w1 oo oc (tobS s) ov) => field_any w1 16 (by omega) 16 rfl h1)
  have fd := hide (fun w1 (h1 : St E g w1 oo oc (fldN E.bs 16 (tobS s)).2 ov) => field_any w1 16 (by omega) 16 rfl h1)
  have b1 := fldN_bd E.bs 16 (tobS s)
  have b2 := fldN_bd E.bs 16 (fldN E.bs 16 (tobS s)).2
  have hr := hide (show stoS E.bs E.m s = sttS E.bs E.m (fldN E.bs 16 (tobS s)).1 (fldN E.bs 16 (fldN E.bs 16 (tobS s)).2).1 (fldN E.bs 16 (fldN E.bs 16 (tobS s)).2).2 from rfl)
  rw [unhide hr]
  clear h hr
  generalize (fldN E.bs 16 (fldN E.bs 16 (tobS s)).2).1 = T at *
  generalize (fldN E.bs 16 (fldN E.bs 16 (tobS s)).2).2 = t2 at *
  generalize (fldN E.bs 16 (tobS s)).1 = C at *
  generalize (fldN E.bs 16 (tobS s)).2 = t1 at *
  generalize tobS s = t0 at *
  have hx := xor16 C b1.1 (by omega)
  obtain ⟨c, rfl⟩ : ∃ c : Nat, C = (c : Int) := ⟨C.toNat, by omega⟩
  have hc : c ≤ 65535 := by omega
  have hT : 0 ≤ T ∧ T ≤ 65535 := by omega
  clear b1 b2
  by_cases hq : T = 65535 - (c : Int)
  · have hq' : (T != 65535 - (c : Int)) = false := by simpa using hq
    have hr := hide (show sttS E.bs E.m (c : Int) T t2 = stoL E.bs E.m c t2 by unfold sttS; rw [if_pos hq]; simp)
    rw [unhide hr]
    generalize hR : stoL E.bs E.m c t2 = R
    have HR := hide hR
    clear hR hr
    go_enter Tryz.func69, Tryz.ntmps69
    go_wp2_with fail
    refine (unhide tc).mono ?_
    rintro e w1 ⟨rfl, s1, g1⟩
    have S1 := hide s1
    clear s1
    go_wp2_with fail
    refine ((unhide fc) _ (unhide S1)).mono ?_
    rintro e w2 ⟨rfl, s2, g2⟩
    have S2 := hide s2
    clear s2
    go_wp2_with fail
    refine ((unhide fd) _ (unhide S2)).mono ?_
    rintro e w3 ⟨rfl, s3, g3⟩
    have S3 := hide s3
    have GG := hide ((g1.trans g2).trans g3)
    clear s3 g1 g2 g3
    go_wp2_with fail
    go_loopw [4] (fun i wr => ∃ (k : Nat) (t : PS) (oo1 : Option Addr) (oc1 : Nat), k ≤ c ∧ i = .int .i64 (k : Int) ∧ stoL E.bs E.m (c - k) t = R ∧ St E g wr oo1 oc1 t ov ∧ Fr g oo w oo1 wr) (fun i _ => c - (intOf i).toNat)
    case atStart => exact ⟨0, t2, oo, oc, by omega, rfl, unhide HR, unhide S3, (unhide GG).fr oo⟩
    case round =>
      clear S1 S2 S3 GG hx hq hq' hT
      obtain ⟨k, t, oo1, oc1, hk, rfl, hst, st, fr⟩ := hrel
      have c2 := st.c2
      have HC := hide hst
      have ST := hide st
      have FR := hide fr
      clear hst st fr
      by_cases hlt : k < c
      · have hlt' : (k : Int) < (c : Int) := by omega
        by_cases he : t.e = 0
        · have he' : (t.e == 0) = true := by simpa using he
          have fe := hide (field_any wr 8 (by omega) 8 rfl (unhide ST))
          have bd := fldN_bd E.bs 8 t
          have hnx := hide (show stoL E.bs E.m (c - (k + 1)) (telS E.m (fldN E.bs 8 t).1 (fldN E.bs 8 t).2) = R by
            obtain ⟨j, hj⟩ : ∃ j, c - k = j + 1 := ⟨c - k - 1, by omega⟩
            rw [← unhide HC, hj, show c - (k + 1) = j by omega]
            rfl)
          have hcv : 0 ≤ (fldN E.bs 8 t).1 ∧ (fldN E.bs 8 t).1 ≤ 255 := by omega
          clear bd
          generalize (fldN E.bs 8 t).1 = V at *
          generalize (fldN E.bs 8 t).2 = t8 at *
          go_wp2_with fail
          refine (unhide fe).mono ?_
          rintro e w4 ⟨rfl, s4, g4⟩
          have te := hide (tell_any w4 V hcv.1 hcv.2 s4)
          clear s4
          go_wp2_with fail
          refine (unhide te).mono ?_
          rintro e w5 ⟨rfl, oo5, oc5, s5, f5⟩
          have S5 := hide s5
          clear s5
          go_wp2_with fail
          go_roundw
          case rel => exact ⟨k + 1, _, oo5, oc5, by omega, by go_num, unhide hnx, unhide S5, ((unhide FR).trans (g4.fr oo1)).trans f5⟩
          case measure => simp [intOf]; omega
        · have he' : (t.e == 0) = false := by simpa using he
          have hfin := hide (show R = t by rw [← unhide HC]; exact stoL_dead he _)
          go_wp2_with fail
          go_end0
          rw [unhide hfin]
          exact ⟨rfl, oo1, oc1, unhide ST, unhide FR⟩
      · have hkn : k = c := by omega
        have hfin := hide (show R = t by rw [← unhide HC, hkn, Nat.sub_self]; rfl)
        have hlt' : ¬ (k : Int) < (c : Int) := by omega
        clear hkn
        go_wp2_with fail
        go_end0
        rw [unhide hfin]
        exact ⟨rfl, oo1, oc1, unhide ST, unhide FR⟩
  · have hq' : (T != 65535 - (c : Int)) = true := by simpa using hq
    have hne := stopS_e 5 t2 (by omega)
    have hr := hide (show sttS E.bs E.m (c : Int) T t2 = stopS 5 t2 by unfold sttS; rw [if_neg hq]; exact stoL_dead hne _)
    rw [unhide hr]
    have hne' : ((stopS 5 t2).e == 0) = false := by simpa using hne
    clear hr
    go_enter Tryz.func69, Tryz.ntmps69
    go_wp2_with fail
    refine (unhide tc).mono ?_
    rintro e w1 ⟨rfl, s1, g1⟩
    have S1 := hide s1
    clear s1
    go_wp2_with fail
    refine ((unhide fc) _ (unhide S1)).mono ?_
    rintro e w2 ⟨rfl, s2, g2⟩
    have S2 := hide s2
    clear s2
    go_wp2_with fail
    refine ((unhide fd) _ (unhide S2)).mono ?_
    rintro e w3 ⟨rfl, s3, g3⟩
    have S3 := hide s3
    clear s3
    go_wp2_with fail
    refine (stop_any w3 5 (by omega) (by omega) (unhide S3)).mono ?_
    rintro e w4 ⟨rfl, s4, g4⟩
    have c2 := s4.c2
    have S4 := hide s4
    have GG := hide (((g1.trans g2).trans g3).trans g4)
    clear s4 g1 g2 g3 g4
    go_wp2_with fail
    go_loopw [4] (fun i wr => i = .int .i64 0 ∧ wr = w4) (fun _ _ => 0)
    case atStart => exact ⟨rfl, rfl⟩
    case round =>
      obtain ⟨rfl, rfl⟩ := hrel
      by_cases hn0 : 0 < c
      · have hn0' : (0 : Int) < (c : Int) := by omega
        go_wp2_with fail
        go_end0
        exact ⟨rfl, oo, oc, unhide S4, (unhide GG).fr oo⟩
      · have hn0' : ¬ (0 : Int) < (c : Int) := by omega
        go_wp2_with fail
        go_end0
        exact ⟨rfl, oo, oc, unhide S4, (unhide GG).fr oo⟩
end
end Go.Proofs.YtnoabdafmgmenaaGreatDoor
