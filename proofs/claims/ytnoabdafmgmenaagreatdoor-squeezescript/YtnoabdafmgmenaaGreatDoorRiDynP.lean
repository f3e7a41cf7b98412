/-
  What the document's reader of two codes comes to, against the program's: the same, or both an error. No program and no memory is named here.
-/
import Derived.Test.YtnoabdafmgmenaaGreatDoorMInfP
import Derived.Test.YtnoabdafmgmenaaGreatDoorMHuf
namespace Go.Proofs.YtnoabdafmgmenaaGreatDoor
open Go
set_option linter.unusedVariables false
set_option linter.unusedSimpArgs false

theorem fldN_e {b : List Int} {s : PS} (h : s.e = 0) : ∀ n, (fldN b n s).2.e = 0 ∨ (fldN b n s).2.e = 4
  | 0 => .inl h
  | n + 1 => by
    simp only [fldN]
    rcases fldN_e (b := b) h n with q | q
    · by_cases hs : (fldN b n s).2.p / 8 < b.length
      · rw [bitS_live q hs]; exact .inl q
      · rw [bitS_short q hs]; exact .inr rfl
    · rw [bitS_dead (by omega)]; exact .inr q
/-- An error of the stream's own: too short, or bad. -/
def Dd (s : PS) : Prop := s.e = 4 ∨ s.e = 5
theorem Dd.ne {s : PS} (h : Dd s) : s.e ≠ 0 := by rcases h with h | h <;> omega
theorem fld_dd {b : List Int} {n : Nat} {s : PS} (h : s.e = 0) (q : (fldN b n s).2.e ≠ 0) : Dd (fldN b n s).2 := by
  rcases fldN_e (b := b) h n with z | z
  · exact absurd z q
  · exact .inl z
theorem cntS_dead {b : List Int} {l m : Int} {s : PS} (h : s.e ≠ 0) : (cntS b l m s).2 = s := by
  unfold cntS
  simp only [fldN_dead h]
  split
  · rfl
  · exact stopS_dead h
theorem colN_dead {b : List Int} {s : PS} (h : s.e ≠ 0) : ∀ i, (colN b i s).2 = s
  | 0 => rfl
  | i + 1 => by
    simp only [colN]
    rw [colN_dead h i, fldN_dead h]
theorem colC_dead {r : List Int × PS} (h : r.2.e ≠ 0) : (colC r).2 = r.2 := by
  unfold colC
  simp only
  split
  · rfl
  · exact stopS_dead h
theorem colS_dead {b : List Int} {s : PS} (h : (fldN b 4 s).2.e ≠ 0) : (colS b s).2 = (fldN b 4 s).2 := by
  unfold colS
  rw [colC_dead (by rw [colN_dead h]; exact h), colN_dead h]
theorem lenS_dead {C b : List Int} {N : Nat} {s : PS} (h : s.e ≠ 0) : (lenS C b N s).2 = s := by
  unfold lenS lenC
  rw [lenL_dead h]
  simp only
  split
  · rfl
  · exact stopS_dead h
theorem twoS_dead {l : Nat} {r : List Int × PS} (h : r.2.e ≠ 0) : (twoS l r).2 = r.2 := by
  unfold twoS
  rw [if_neg h]
theorem co3_dead {b : List Int} {l d : Int} {r : List Int × PS} (h : r.2.e ≠ 0) : (co3S b l d r).2 = r.2 := by
  unfold co3S
  rw [twoS_dead (by rw [lenS_dead h]; exact h), lenS_dead h]
theorem co2_dead {b : List Int} {l : Int} {r : Int × PS} (h : (fldN b 4 r.2).2.e ≠ 0) : (co2S b l r).2 = (fldN b 4 r.2).2 := by
  unfold co2S
  rw [co3_dead (by rw [colS_dead h]; exact h), colS_dead h]
theorem cnt_dd {b : List Int} {l m : Int} {s : PS} (h : s.e = 0) (q : (cntS b l m s).2.e ≠ 0) : Dd (cntS b l m s).2 := by
  unfold cntS at q ⊢
  simp only at q ⊢
  split
  · rename_i z
    rw [if_pos z] at q
    exact fld_dd h q
  · rename_i z
    by_cases e : (fldN b 5 s).2.e = 0
    · rw [stopS_live e]; exact .inr rfl
    · rw [stopS_dead e]; exact fld_dd h e
theorem cnt_live {b : List Int} {l m : Int} {s : PS} (q : (cntS b l m s).2.e = 0) (h : s.e = 0) : l + (fldN b 5 s).1 ≤ m ∧ (cntS b l m s).2 = (fldN b 5 s).2 := by
  unfold cntS at q ⊢
  simp only at q ⊢
  by_cases z : l + (fldN b 5 s).1 ≤ m
  · exact ⟨z, if_pos z⟩
  · rw [if_neg z] at q
    exact absurd q (stopS_e 5 _ (by omega))
theorem fld4_dead {b : List Int} {s : PS} (h : s.e ≠ 0) : (fldN b 4 s).2 = s := by rw [fldN_dead h]
/-- Whatever goes wrong ahead of the lengths: the program too has an error of its stream. -/
theorem cos_dd {b : List Int} {s : PS} (h : s.e = 0) (q : (fldN b 4 (fldN b 5 (fldN b 5 s).2).2).2.e ≠ 0 ∨ 286 < 257 + (fldN b 5 s).1 ∨ 30 < 1 + (fldN b 5 (fldN b 5 s).2).1) : Dd (cosS b s).2 := by
  unfold cosS
  by_cases e1 : (cntS b 257 286 s).2.e = 0
  · obtain ⟨z1, z2⟩ := cnt_live e1 h
    by_cases e2 : (cntS b 1 30 (cntS b 257 286 s).2).2.e = 0
    · obtain ⟨z3, z4⟩ := cnt_live e2 e1
      rw [z2] at z3 z4 e2
      rw [z2]
      rw [z4] at e2
      by_cases e3 : (fldN b 4 (cntS b 1 30 (fldN b 5 s).2).2).2.e = 0
      · rw [z4] at e3
        rcases q with q | q | q
        · exact absurd e3 q
        · omega
        · omega
      · rw [co2_dead e3, z4]
        rw [z4] at e3
        exact fld_dd e2 e3
    · have d := cnt_dd e1 e2
      rw [co2_dead (by rw [fld4_dead e2]; exact e2), fld4_dead e2]
      exact d
  · have d := cnt_dd h e1
    have e2 : (cntS b 1 30 (cntS b 257 286 s).2).2 = (cntS b 257 286 s).2 := cntS_dead e1
    rw [co2_dead (by rw [e2, fld4_dead e1]; exact e1), e2, fld4_dead e1]
    exact d
/-- Where the three counts may be: the program goes the same way. -/
theorem cos_ok {b : List Int} {s : PS} (h : s.e = 0) (q1 : (fldN b 4 (fldN b 5 (fldN b 5 s).2).2).2.e = 0) (q2 : 257 + (fldN b 5 s).1 ≤ 286) (q3 : 1 + (fldN b 5 (fldN b 5 s).2).1 ≤ 30) :
    cosS b s = co3S b (257 + (fldN b 5 s).1) (1 + (fldN b 5 (fldN b 5 s).2).1) (colC (colN b (4 + (fldN b 4 (fldN b 5 (fldN b 5 s).2).2).1).toNat (fldN b 4 (fldN b 5 (fldN b 5 s).2).2).2)) := by
  have c1 : cntS b 257 286 s = (257 + (fldN b 5 s).1, (fldN b 5 s).2) := by unfold cntS; rw [if_pos q2]
  have c2 : cntS b 1 30 (fldN b 5 s).2 = (1 + (fldN b 5 (fldN b 5 s).2).1, (fldN b 5 (fldN b 5 s).2).2) := by unfold cntS; rw [if_pos q3]
  unfold cosS
  rw [c1]
  simp only
  rw [c2]
  rfl
theorem whole_cer {L : List Int} (h : whole L = true) : cer L = 0 := by
  unfold whole at h
  simp at h
  exact h.1
theorem fld_or {b : List Int} {n : Nat} {s : PS} (h : s.e = 0 ∨ Dd s) : (fldN b n s).2.e = 0 ∨ Dd (fldN b n s).2 := by
  rcases h with h | h
  · by_cases q : (fldN b n s).2.e = 0
    · exact .inl q
    · exact .inr (fld_dd h q)
  · rw [fldN_dead h.ne]; exact .inr h
theorem fld_back {b : List Int} {n : Nat} {s : PS} (h : (fldN b n s).2.e = 0) : s.e = 0 := by
  by_cases q : s.e = 0
  · exact q
  · rw [fldN_dead q] at h; exact absurd h q
theorem colN_or {b : List Int} {s : PS} (h : s.e = 0 ∨ Dd s) : ∀ i, (colN b i s).2.e = 0 ∨ Dd (colN b i s).2
  | 0 => h
  | i + 1 => by simp only [colN]; exact fld_or (colN_or h i)
theorem colN_stuck {b : List Int} {s : PS} {i : Nat} (h : (colN b i s).2.e ≠ 0) : ∀ n, i ≤ n → (colN b n s).2 = (colN b i s).2
  | 0, hn => by have : i = 0 := by omega
                subst this; rfl
  | n + 1, hn => by
    by_cases e : i = n + 1
    · subst e; rfl
    · have ih := colN_stuck h n (by omega)
      simp only [colN]
      rw [ih, fldN_dead h]
theorem colC_or {r : List Int × PS} (h : r.2.e = 0 ∨ Dd r.2) : (colC r).2.e = 0 ∨ Dd (colC r).2 := by
  unfold colC
  simp only
  split
  · exact h
  · rcases h with h | h
    · rw [stopS_live h]; exact .inr (.inr rfl)
    · rw [stopS_dead h.ne]; exact .inr h
theorem cnt_sum : ∀ (L : List Int), (∀ x ∈ L, 0 ≤ x) → ∀ k : Nat, (L.count (k : Int) : Int) * (k : Int) ≤ L.sum
  | [], _, k => by simp
  | a :: L, h, k => by
    have ih := cnt_sum L (fun x hx => h x (List.mem_cons_of_mem _ hx)) k
    have ha := h a (by simp)
    rw [List.count_cons, List.sum_cons]
    by_cases q : a = (k : Int)
    · subst q
      simp only [beq_self_eq_true, if_true]
      rw [show ((L.count (k : Int) + 1 : Nat) : Int) * (k : Int) = (L.count (k : Int) : Int) * (k : Int) + (k : Int) by rw [Int.natCast_add, Int.add_mul]; simp]
      omega
    · rw [if_neg (by simpa using q)]
      simp only [Nat.add_zero]
      omega
theorem cer_sum {L : List Int} (hR : Rng L) (hl : L.length ≤ 320) (hs : L.sum ≤ 1) : cer L = 0 := by
  have h0 : ∀ x ∈ L, 0 ≤ x := fun x hx => (hR x hx).1
  have z : ∀ k : Nat, 2 ≤ k → cz L k = 0 := by
    intro k hk
    unfold cz
    rw [if_neg (by omega)]
    have := cnt_sum L h0 k
    rcases Nat.eq_zero_or_pos (L.count (k : Int)) with q | q
    · omega
    · have : (2 : Int) ≤ (L.count (k : Int) : Int) * (k : Int) := by
        have h1 : (1 : Int) * 2 ≤ (L.count (k : Int) : Int) * (k : Int) := Int.mul_le_mul (by omega) (by omega) (by omega) (by omega)
        omega
      omega
  have o : cz L 1 ≤ 1 := by
    unfold cz
    rw [if_neg (by omega)]
    have := cnt_sum L h0 1
    simp only [Int.natCast_one, Int.mul_one] at this ⊢
    omega
  have f : Fl L 15 ≤ 32768 := by
    simp only [Fl, z 2 (by omega), z 3 (by omega), z 4 (by omega), z 5 (by omega), z 6 (by omega), z 7 (by omega), z 8 (by omega), z 9 (by omega), z 10 (by omega), z 11 (by omega), z 12 (by omega), z 13 (by omega), z 14 (by omega), z 15 (by omega)]
    have e1 : cz L (0 + 1) = cz L 1 := rfl
    omega
  have bd : bad L = false := by
    unfold bad
    rw [List.any_eq_false]
    intro x hx
    have := hR x hx
    simp
    omega
  unfold cer
  rw [if_neg (by omega), bd, if_neg (by simp), if_neg (by omega)]
theorem lits_is {L : List Int} (hR : Rng L) (hl : L.length ≤ 320) : lits L = decide (L[256]?.getD 0 ≠ 0 ∧ cer L = 0 ∧ (whole L = true ∨ L.sum = 1)) := by
  unfold lits
  by_cases h1 : L[256]?.getD 0 = 0
  · simp [h1]
  · by_cases h2 : whole L = true
    · have := whole_cer h2
      simp [h1, h2, this]
    · by_cases h3 : L.sum = 1
      · have := cer_sum hR hl (by omega)
        simp [h1, h2, h3, this]
      · simp [h1, h2, h3]
theorem dsts_is {D : List Int} (hR : Rng D) (hl : D.length ≤ 320) (h0 : 0 ≤ D.sum) : dsts D = decide (cer D = 0 ∧ (whole D = true ∨ D.sum = 1 ∨ D.sum = 0)) := by
  unfold dsts
  by_cases h2 : whole D = true
  · have := whole_cer h2
    simp [h2, this]
  · by_cases h3 : D.sum ≤ 1
    · have := cer_sum hR hl h3
      have h4 : D.sum = 1 ∨ D.sum = 0 := by omega
      simp [h2, h3, this, h4]
    · have h4 : ¬ (D.sum = 1 ∨ D.sum = 0) := by omega
      simp [h2, h3, h4]
theorem dyn_fin {b : List Int} {RC : (List Int × List Int) × PS} {s3 t0 t3 t4 : PS} {U1 U2 U3 V1 V2 V3 : Int} {K : Nat} {B0 B1 : Bool} {cl : List Int}
    (hO : s3.e = 0 ∨ Dd s3) (hA : (s3.e ≠ 0 ∨ 286 < 257 + U1 ∨ 30 < 1 + U2) → Dd RC.2) (hC : s3.e = 0 → 257 + U1 ≤ 286 → 1 + U2 ≤ 30 → RC = co3S b (257 + U1) (1 + U2) (colC (colN b (4 + U3).toNat s3))) (hV : s3.e = 0 → V1 = U1 ∧ V2 = U2 ∧ V3 = U3) (hK : V3 + 4 = (K : Int)) (hB0 : B0 = decide (s3.e = 0 ∧ (286 < V1 + 257 ∨ 30 < V2 + 1))) (h0 : t0 = if B0 = true then { s3 with e := 5 } else s3) (h3 : t3 = (colN b K t0).2) (hcl : t3.e = 0 → cl = (colN b K t0).1) (hB1 : B1 = decide (t3.e = 0 ∧ whole cl = false)) (h4 : t4 = if B1 = true then { t3 with e := 5 } else t3) :
    (t4.e ≠ 0 → t4 = RC.2 ∨ (Dd t4 ∧ Dd RC.2)) ∧ (t4.e = 0 → RC = co3S b (257 + V1) (1 + V2) (cl, t4) ∧ V1 + 257 ≤ 286 ∧ V2 + 1 ≤ 30 ∧ whole cl = true) := by
  by_cases hd : s3.e = 0 ∧ ¬ (286 < V1 + 257 ∨ 30 < V2 + 1)
  · obtain ⟨e3, nb⟩ := hd
    obtain ⟨v1, v2, v3⟩ := hV e3
    have b0 : B0 = false := by rw [hB0]; simp [nb]
    have ht0 : t0 = s3 := by rw [h0, b0]; rfl
    have hR := hC e3 (by omega) (by omega)
    rw [show (4 + U3).toNat = K by omega, ← v1, ← v2] at hR
    rw [ht0] at h3 hcl
    by_cases e4 : t3.e = 0
    · have hc := hcl e4
      have key : colC (colN b K s3) = (cl, t4) := by
        unfold colC
        rw [← hc, ← h3]
        by_cases hw : whole cl = true
        · rw [if_pos hw, h4, hB1]
          simp [hw]
        · rw [if_neg hw, stopS_live e4, h4, hB1]
          simp [hw, e4]
      rw [key] at hR
      refine ⟨fun y => .inl ?_, fun y => ⟨hR, by omega, by omega, ?_⟩⟩
      · rw [hR, co3_dead (r := (cl, t4)) y]
      · by_cases hw : whole cl = true
        · exact hw
        · rw [h4, hB1] at y
          simp [hw, e4] at y
    · have b1 : B1 = false := by rw [hB1]; simp [e4]
      have ht4 : t4 = t3 := by rw [h4, b1]; rfl
      have hcd : (colC (colN b K s3)).2 = t3 := by rw [colC_dead (by rw [← h3]; exact e4), h3]
      refine ⟨fun _ => .inl ?_, fun y => absurd (ht4 ▸ y) e4⟩
      rw [hR, co3_dead (by rw [hcd]; exact e4), hcd, ht4]
  · have dd : Dd t0 ∧ Dd RC.2 := by
      by_cases e3 : s3.e = 0
      · obtain ⟨v1, v2, v3⟩ := hV e3
        have hv : 286 < V1 + 257 ∨ 30 < V2 + 1 := by
          by_cases z : 286 < V1 + 257 ∨ 30 < V2 + 1
          · exact z
          · exact absurd ⟨e3, z⟩ hd
        have b0 : B0 = true := by rw [hB0]; simp [e3, hv]
        refine ⟨by rw [h0, b0]; exact .inr rfl, hA (.inr ?_)⟩
        rcases hv with z | z
        · exact .inl (by omega)
        · exact .inr (by omega)
      · have b0 : B0 = false := by rw [hB0]; simp [e3]
        refine ⟨?_, hA (.inl e3)⟩
        rw [h0, b0]
        rcases hO with z | z
        · exact absurd z e3
        · exact z
    have ht3 : t3 = t0 := by rw [h3, colN_dead dd.1.ne]
    have b1 : B1 = false := by rw [hB1, ht3]; simp [dd.1.ne]
    have ht4 : t4 = t0 := by rw [h4, b1, ← ht3]; rfl
    exact ⟨fun _ => .inr ⟨by rw [ht4]; exact dd.1, dd.2⟩, fun y => absurd (ht4 ▸ y) dd.1.ne⟩
end Go.Proofs.YtnoabdafmgmenaaGreatDoor
