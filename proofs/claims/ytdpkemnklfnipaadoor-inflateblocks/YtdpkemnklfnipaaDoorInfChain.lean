/-
  The blocks of a stream lie one behind the other, the last one alone says so, and together they tell all. No program and no memory is named here.
-/
import Derived.Test.YtdpkemnklfnipaaDoorInfEnds
namespace Go.Proofs.YtdpkemnklfnipaaDoor
set_option linter.unusedVariables false
set_option linter.unusedSimpArgs false

structure Ch (l : List Blk) (ov : Bool) (s : PS) : Prop where
  last : ∀ (i : Nat) (x : Blk), l[i]? = some x → x.last = (decide (i + 1 = l.length) && ov)
  each : ∀ (i : Nat) (x : Blk), l[i]? = some x → 0 ≤ x.kind ∧ x.kind ≤ 2 ∧ 0 ≤ x.out ∧ x.at_ < s.p
  first : ∀ x : Blk, l[0]? = some x → x.at_ = 0
  inc : ∀ (i : Nat) (x y : Blk), l[i]? = some x → l[i + 1]? = some y → x.at_ < y.at_
  sum : (l.map (·.out)).sum = (s.o.length : Int)
  nil : l = [] → s.p = 0

theorem ch_nil : Ch [] false ⟨0, 0, []⟩ := ⟨fun i x h => by simp at h, fun i x h => by simp at h, fun x h => by simp at h, fun i x y h => by simp at h, by simp, fun _ => rfl⟩

theorem Ch.step {F : Nat} {b : List Int} {m : Int} {l : List Blk} {s : PS} (h : Ch l false s) (he : (blkS F b m s).e = 0) : Ch (l ++ [blkV F b m s]) (blkV F b m s).last (blkS F b m s) := by
  have hp := blk_p he
  have up := (nice_blk F).up b m s hp.1 he
  have hk := fldN_bd b 2 (hd1 b s).2
  have vk : (blkV F b m s).kind = (hd2 b s).1 := rfl
  have va : (blkV F b m s).at_ = s.p := rfl
  have vo : (blkV F b m s).out = ((blkS F b m s).o.length : Int) - s.o.length := rfl
  have upo : s.o.length ≤ (blkS F b m s).o.length := up.2.1
  have get : ∀ (i : Nat) (x : Blk), (l ++ [blkV F b m s])[i]? = some x → (i < l.length ∧ l[i]? = some x) ∨ (i = l.length ∧ x = blkV F b m s) := by
    intro i x hx
    rcases Nat.lt_or_ge i l.length with hi | hi
    · rw [List.getElem?_append_left hi] at hx
      exact .inl ⟨hi, hx⟩
    · rw [List.getElem?_append_right hi] at hx
      have h0 : i - l.length = 0 := by
        rcases Nat.eq_zero_or_pos (i - l.length) with q | q
        · exact q
        · rw [List.getElem?_eq_none (by simp; omega)] at hx
          cases hx
      rw [h0] at hx
      exact .inr ⟨by omega, by simpa using hx.symm⟩
  refine ⟨fun i x hx => ?_, fun i x hx => ?_, fun x hx => ?_, fun i x y hx hy => ?_, ?_, fun h => by simp at h⟩
  · rcases get i x hx with ⟨hi, hx⟩ | ⟨rfl, rfl⟩
    · rw [h.last i x hx]
      have : decide (i + 1 = (l ++ [blkV F b m s]).length) = false := by simp; omega
      rw [this]
      simp
    · simp
  · rcases get i x hx with ⟨hi, hx⟩ | ⟨rfl, rfl⟩
    · have := h.each i x hx
      exact ⟨this.1, this.2.1, this.2.2.1, by omega⟩
    · rw [vk, va, vo]
      have h0 : 0 ≤ (hd2 b s).1 := hk.1
      exact ⟨h0, hp.2.2.2.2, by omega, by omega⟩
  · rcases get 0 x hx with ⟨hi, hx⟩ | ⟨h0, rfl⟩
    · exact h.first x hx
    · rw [va]
      exact h.nil (List.eq_nil_of_length_eq_zero h0.symm)
  · rcases get i x hx with ⟨hi, hx⟩ | ⟨rfl, rfl⟩
    · rcases get (i + 1) y hy with ⟨hi2, hy⟩ | ⟨h2, rfl⟩
      · exact h.inc i x y hx hy
      · rw [va]
        exact (h.each i x hx).2.2.2
    · rcases get _ y hy with ⟨hi2, hy⟩ | ⟨h2, rfl⟩
      · omega
      · omega
  · rw [List.map_append, List.sum_append, h.sum]
    simp [vo]
    omega

theorem all_ch {F : Nat} {b : List Int} {m : Int} : ∀ (f : Nat) (ov : Bool) (l : List Blk) (s : PS), Ch l ov s → s.p ≤ 8 * b.length → (s.e = 0 → 8 * b.length + 1 ≤ f + s.p) → (allS F b m f ov l s).2.e = 0 → Ch (allS F b m f ov l s).1 true (allS F b m f ov l s).2
  | 0, ov, l, s, hc, hp, hf, he => by
    simp only [allS] at he
    have := hf he
    omega
  | f + 1, ov, l, s, hc, hp, hf, he => by
    by_cases hg : ov = false ∧ s.e = 0
    · obtain ⟨rfl, h0⟩ := hg
      rw [allS_on rfl h0] at he ⊢
      have hb : (blkS F b m s).e = 0 := (nice_all F f _ _).live he
      have up := (nice_blk F).up b m s h0 hb
      have bp := blk_p hb
      have h1 := hf h0
      have h2 : (blkS F b m s).p ≤ 8 * b.length := up.2.2.1 hp
      exact all_ch f _ _ _ (hc.step hb) h2 (fun _ => by omega) he
    · rw [allS_end hg] at he ⊢
      simp only at he ⊢
      have : ov = true := by
        cases ov with
        | true => rfl
        | false => exact absurd ⟨rfl, he⟩ hg
      rw [← this]
      exact hc
theorem inf_ch {F : Nat} {b : List Int} {m : Int} (hF : 8 * b.length + 1 ≤ F) (h : (infS F b m).2.e = 0) : Ch (infS F b m).1 true (infS F b m).2 :=
  all_ch F false [] ⟨0, 0, []⟩ ch_nil (by simp) (fun _ => by simp; omega) h

/-- What Blocks answers. -/
def blkR (r : List Blk × PS) : List Blk × Int := if r.2.e = 0 then (r.1, 0) else ([], r.2.e)
theorem blkR_ok {r : List Blk × PS} (h : r.2.e = 0) : blkR r = (r.1, 0) := if_pos h
theorem blkR_no {r : List Blk × PS} (h : r.2.e ≠ 0) : blkR r = ([], r.2.e) := if_neg h
def sumO (l : List Blk) (k : Nat) : Int := ((l.take k).map (·.out)).sum
theorem sumO_step (l : List Blk) {k : Nat} {x : Blk} (hx : l[k]? = some x) : sumO l (k + 1) = sumO l k + x.out := by
  unfold sumO
  rw [List.take_add_one, hx, List.map_append, List.sum_append]
  simp
theorem sumO_all (l : List Blk) : sumO l l.length = (l.map (·.out)).sum := by unfold sumO; rw [List.take_length]
theorem sumO_bd {l : List Blk} (h : ∀ (i : Nat) (x : Blk), l[i]? = some x → 0 ≤ x.out) : ∀ k, k ≤ l.length → 0 ≤ sumO l k ∧ sumO l k ≤ sumO l l.length
  | k, hk => by
    have up : ∀ d k, k + d ≤ l.length → sumO l k ≤ sumO l (k + d) := by
      intro d
      induction d with
      | zero => intro k _; exact Int.le_refl _
      | succ d ih =>
        intro k hk
        have h1 := ih k (by omega)
        have h2 : k + d < l.length := by omega
        have h3 := sumO_step l (List.getElem?_eq_getElem h2)
        have h4 := h _ _ (List.getElem?_eq_getElem h2)
        rw [show k + (d + 1) = k + d + 1 by omega, h3]
        omega
    have h0 := up k 0 (by omega)
    have h1 := up (l.length - k) k (by omega)
    rw [Nat.zero_add] at h0
    rw [show k + (l.length - k) = l.length by omega] at h1
    have : sumO l 0 = 0 := by simp [sumO]
    omega

end Go.Proofs.YtdpkemnklfnipaaDoor
