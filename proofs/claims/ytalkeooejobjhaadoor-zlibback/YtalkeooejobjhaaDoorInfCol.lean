/-
  What codeOfLengths, of package inflate, does to a stream and answers. Conditions: the state's own bounds.
-/
import Derived.Test.YtalkeooejobjhaaDoorInfAgain
namespace Go.Proofs.YtalkeooejobjhaaDoor
open Go.RowKit
set_option linter.unusedVariables false
set_option linter.unusedSimpArgs false

theorem ord_bd : ∀ i, i < 19 → ordL[i]?.getD 0 < 19 := by decide
theorem colN_len (b : List Int) : ∀ (i : Nat) (s : PS), (colN b i s).1.length = 19
  | 0, s => by simp [colN]
  | i + 1, s => by simp only [colN, List.length_set]; exact colN_len b i s

theorem imine_at {B : Nat} {w : World} {q n c : Nat} {xs : List Int} (h : IMine B w (some ⟨q, 0, none⟩) n c xs) {i : Nat} (hi : i < n) : w.cell? ⟨q, i, none⟩ = some (.int .i64 (xs[i]?.getD 0)) := by
  have hl := h.len
  have := h.own.cells (g := q) rfl i (.int .i64 (xs[i]?.getD 0)) (by simp [List.getElem?_eq_getElem (show i < xs.length by omega)])
  rw [Addr.add_lit, Nat.zero_add] at this
  exact this

section
variable {E : Env} {g : Nat} {w0 : World} {oo : Option Addr} {oc : Nat} {s : PS} {ov : Bool}

set_option maxHeartbeats 2000000 in
set_option maxRecDepth 20000 in
theorem codeOfLengths_any (w : World) (h : St E g w oo oc s ov) :
    Calls Tryd.prog 53 #[.pointer (some ⟨g, 0, none⟩)] w fun e w' => OutL E g w.heap.size w oo oc (colS E.bs s) ov e w' := by
  have hgB := h.lt
  have hoB := fun k (hk : ob oo k) => (h.out.ob hk).2
  have hr := hide (show colS E.bs s = colC (colN E.bs (4 + (fldN E.bs 4 s).1).toNat (fldN E.bs 4 s).2) from rfl)
  rw [unhide hr]
  have bd := fldN_bd E.bs 4 s
  have H := hide h
  clear h hr
  have fc := hide (fun w1 (h1 : St E g w1 oo oc s ov) => field_any w1 4 (by omega) 4 rfl h1)
  generalize (fldN E.bs 4 s).2 = t at *
  generalize (fldN E.bs 4 s).1 = X at *
  obtain ⟨T, hT⟩ : ∃ T : Nat, 4 + X = (T : Int) := ⟨(4 + X).toNat, by omega⟩
  have hX : X = (T : Int) - 4 := by omega
  subst hX
  have hT19 : T ≤ 19 := by omega
  have hT4 : 4 ≤ T := by omega
  have hTn := hide (show (4 + ((T : Int) - 4)).toNat = T by omega)
  rw [unhide hTn]
  clear bd hTn hT
  go_enter Tryd.func53, Tryd.ntmps53
  go_wp2_with (at_make; refine wpList_imkFull rfl _ _ rfl _ _ 19 19 19 rfl rfl rfl rfl (by omega) ?_; intro w1 m1 b1 l1)
  have M1 := hide m1
  clear m1
  refine ((unhide fc) w1 ((unhide H).later b1)).mono ?_
  rintro e w2 ⟨rfl, s2, g2⟩
  have M2 := hide ((unhide M1).gb hgB g2)
  have GX := hide ((below_gx (g := g) b1).trans (g2.gx b1.size))
  have S2 := hide s2
  clear s2
  go_wp2_with fail
  go_loopw [13] (fun i wr => ∃ k : Nat, k ≤ T ∧ i = .int .i64 (k : Int) ∧ IMine w.heap.size wr (some ⟨w.heap.size, 0, none⟩) 19 19 (colN E.bs k t).1 ∧ St E g wr oo oc (colN E.bs k t).2 ov ∧ Gx g w.heap.size w wr) (fun i _ => T - (intOf i).toNat)
  case atStart => exact ⟨0, by omega, rfl, unhide M2, unhide S2, unhide GX⟩
  case round =>
    clear M1 M2 GX S2 g2
    obtain ⟨k, hk, rfl, mk, st, gx⟩ := hrel
    have MK := hide mk
    have ST := hide st
    have hsz := gx.size
    have GX := hide gx
    clear mk st gx
    by_cases hlt : k < T
    · have hlt' : (k : Int) < (T : Int) := by omega
      have k19 : k < 19 := by omega
      have i1 : 0 ≤ (k : Int) ∧ (k : Int) < 19 := by omega
      have vo := (unhide ST).vars.ordL k k19
      have ob2 := ord_bd k k19
      have fe := hide (field_any wr.drew 3 (by omega) 3 rfl (unhide ST).drew)
      have bd := fldN_bd E.bs 3 (colN E.bs k t).2
      have hnx := hide (show colN E.bs (k + 1) t = ((colN E.bs k t).1.set (ordL[k]?.getD 0) (fldN E.bs 3 (colN E.bs k t).2).1, (fldN E.bs 3 (colN E.bs k t).2).2) from rfl)
      obtain ⟨O, hO⟩ : ∃ O, O = ordL[k]?.getD 0 := ⟨_, rfl⟩
      rw [← hO] at vo ob2 hnx
      have HO := hide hO
      clear hO
      generalize (fldN E.bs 3 (colN E.bs k t).2).1 = V at *
      generalize (fldN E.bs 3 (colN E.bs k t).2).2 = t3 at *
      have i2 : 0 ≤ (O : Int) ∧ (O : Int) < 19 := by omega
      have HV := hide (fun w3 (s3 : St E g w3 oo oc t3 ov) => (show w3.cell? ⟨2, k, none⟩ = some (.int .i64 (O : Int)) by rw [unhide HO]; exact s3.vars.ordL k k19))
      have HM := hide (fun w3 (g3 : Gb g wr.drew w3) => ((unhide MK).later (below_drew wr)).gb hgB g3)
      have HQ := hide (fun w3 (g3 : Gb g wr.drew w3) => imine_at (unhide HM w3 g3) ob2)
      have HF := hide (fun w3 (g3 : Gb g wr.drew w3) => (unhide HM w3 g3).free O)
      go_wp2_with fail
      go_region_with (go_at_call 27; refine (unhide fe).mono ?_; rintro e w3 ⟨rfl, s3, g3⟩; have vo3 := unhide HV w3 s3; have cq := unhide HQ w3 g3; have fq := unhide HF w3 g3)
      all_goals have S3 := hide s3
      all_goals clear s3
      all_goals go_wp2_with fail
      all_goals go_roundw
      all_goals first
        | (refine ⟨k + 1, by omega, by go_num, ?_, ?_, ?_⟩
           · rw [unhide hnx]
             exact (unhide HM w3 g3).stored O V (by omega) (by omega)
           · rw [unhide hnx]
             exact (unhide S3).under hgB hoB ((Below.refl _ w3).setCell (by simp) _)
           · exact ((unhide GX).trans ((((Gb.refl g wr).drew).trans g3).gx (by omega))).trans (below_gx ((Below.refl _ w3).setCell (by simp) _)))
        | (simp [intOf]; omega)
    · have hkT : k = T := by omega
      subst hkT
      have hlt' : ¬ (k : Int) < (k : Int) := by omega
      have hlen := colN_len E.bs k t
      have wc := hide (isWhole_any _ _ _ _ wr (unhide MK).is)
      cases hw : whole (colN E.bs k t).1 with
      | true =>
        have hr := hide (show colC (colN E.bs k t) = ((colN E.bs k t).1, (colN E.bs k t).2) by unfold colC; rw [if_pos hw])
        rw [hw] at wc
        go_wp2_with fail
        refine (unhide wc).mono ?_
        rintro e w3 ⟨rfl, b3⟩
        go_wp2_with fail
        go_ret
        rw [unhide hr]
        refine ⟨some ⟨w.heap.size, 0, none⟩, 19, ?_, ?_, (unhide ST).later b3, (unhide GX).trans ((Gb.of b3).gx (by omega))⟩
        · simp only [hlen]; rfl
        · simp only [hlen]; exact (unhide MK).later b3
      | false =>
        have hr := hide (show colC (colN E.bs k t) = ((colN E.bs k t).1, stopS 5 (colN E.bs k t).2) by unfold colC; rw [if_neg (by rw [hw]; simp)])
        rw [hw] at wc
        go_wp2_with fail
        refine (unhide wc).mono ?_
        rintro e w3 ⟨rfl, b3⟩
        have sc := hide (stop_any w3 5 (by omega) (by omega) ((unhide ST).later b3))
        go_wp2_with fail
        refine (unhide sc).mono ?_
        rintro e w4 ⟨rfl, s4, g4⟩
        go_wp2_with fail
        go_ret
        rw [unhide hr]
        refine ⟨some ⟨w.heap.size, 0, none⟩, 19, ?_, ?_, s4, (unhide GX).trans (((Gb.of b3).trans g4).gx (by omega))⟩
        · simp only [hlen]; rfl
        · simp only [hlen]; exact ((unhide MK).later b3).gb hgB g4
end
end Go.Proofs.YtalkeooejobjhaaDoor
