/-
  Text rows, plain: what was written is read back; a byte more is wrong. No memory is named here. Conditions: numbers within their kinds, texts of at most 3,000 bytes.
-/
import Derived.Test.YtkcblnojgonblaaRwGat
import Derived.Test.YtkcblnojgonblaaVaCu
namespace Go.Proofs.Ytkcblnojgonblaa
open Go.RowKit
set_option linter.unusedVariables false
set_option linter.unusedSimpArgs false

theorem ok_null {v : Va} {t : Int} {un : Bool} (h : vOk v t un = true) (hk : v.k = 0) : v = va0 ∨ kdV t un = 0 := by
  obtain ⟨_, h2⟩ := ok_cases h
  rcases h2 with h2 | h2
  · exact .inl h2
  · exact .inr (by rw [← h2.2.1]; exact hk)
theorem ok_txt {v : Va} (h : vOk v 253 false = true) (hk : ¬ v.k = 0) : vaB v 253 = txB v.t := by
  obtain ⟨_, h2⟩ := ok_cases h
  have h7 : v.k = 7 := by
    rcases h2 with h2 | h2
    · rw [h2] at hk; exact absurd rfl hk
    · rw [h2.2.1]; rfl
  unfold vaB
  rw [if_neg (by omega), if_neg (by omega), if_neg (by omega), if_neg (by omega), if_pos h7]
theorem form_head (x : Int) (r : List Int) : ¬ (form x ++ r).head? = some 251 := by
  show ¬ some (firstOf x) = some 251
  intro z
  injection z with z
  unfold firstOf at z
  repeat' split at z
  all_goals omega
/-- One value of a text row, read back. -/
theorem tn_back {v : Va} (hK : VaK v) (hs : v.t.size ≤ 3000) (h : vOk v 253 false = true) (r : List Int) : tn (tx1 v ++ r) = (v, r, 0) := by
  by_cases hk : v.k = 0
  · have hv : v = va0 := by
      rcases ok_null h hk with q | q
      · exact q
      · exact absurd q (by decide)
    have e : tx1 v = [251] := if_pos hk
    rw [e, hv]
    exact if_pos rfl
  · have e : tx1 v = vaB v 253 := if_neg hk
    have e2 : tx1 v ++ r = form v.t.size ++ (nums v.t ++ r) := by rw [e, ok_txt h hk]; exact List.append_assoc _ _ _
    have hd : ¬ (tx1 v ++ r).head? = some 251 := by rw [e2]; exact form_head _ _
    have hb := rd_back hK (ok_some h hk) (by omega) r
    unfold tn
    rw [if_neg hd, e, hb]
    unfold rdL
    rw [hb]
    simp
/-- A text row, read back value by value. -/
theorem tg_back {l : List Va} (hK : ∀ v ∈ l, VaK v ∧ v.t.size ≤ 3000) (h : rtOk l = true) (r : List Int) : ∀ j, j ≤ l.length → gst (fun _ => tn) j (rtB l ++ r) = (l.take j, rtB (l.drop j) ++ r, 0)
  | 0, _ => by simp [gst]
  | j + 1, hj => by
    have ih := tg_back hK h r j (by omega)
    obtain ⟨v, hv⟩ : ∃ v, l[j]? = some v := ⟨_, List.getElem?_eq_getElem (by omega)⟩
    have hm := List.mem_of_getElem? hv
    have hok : vOk v 253 false = true := by
      unfold rtOk at h
      exact List.all_eq_true.1 h v hm
    have hd : l.drop j = v :: l.drop (j + 1) := by
      have hjl : j < l.length := by omega
      rw [List.drop_eq_getElem_cons hjl]
      rw [List.getElem?_eq_getElem hjl] at hv
      injection hv with hv
      rw [hv]
    have hs : rtB (l.drop j) ++ r = tx1 v ++ (rtB (l.drop (j + 1)) ++ r) := by
      rw [hd]
      show (tx1 v ++ rtB (l.drop (j + 1))) ++ r = _
      rw [List.append_assoc]
    have hb := tn_back (hK v hm).1 (hK v hm).2 hok (rtB (l.drop (j + 1)) ++ r)
    unfold gst
    rw [ih]
    simp only
    rw [hs, hb]
    simp [take_one hv]
theorem tat_back {l : List Va} (hK : ∀ v ∈ l, VaK v ∧ v.t.size ≤ 3000) (h : rtOk l = true) : gat (fun _ => tn) l.length (rtB l) = (l, 0) := by
  have := tg_back hK h [] l.length (Nat.le_refl _)
  rw [List.append_nil] at this
  unfold gat
  rw [this]
  simp [rtB]
theorem tat_more {l : List Va} (hK : ∀ v ∈ l, VaK v ∧ v.t.size ≤ 3000) (h : rtOk l = true) (x : Int) : gat (fun _ => tn) l.length (rtB l ++ [x]) = ([], 5) := by
  have := tg_back hK h [x] l.length (Nat.le_refl _)
  unfold gat
  rw [this]
  simp [rtB]

theorem ex_step {f : Nat → Nat} {i : Nat} (h0 : f 0 ≤ i) : ∀ {n : Nat}, i < f n → ∃ j, j < n ∧ f j ≤ i ∧ i < f (j + 1)
  | 0, h => by omega
  | n + 1, h => by
    by_cases q : i < f n
    · obtain ⟨j, h1, h2⟩ := ex_step h0 q
      exact ⟨j, by omega, h2⟩
    · exact ⟨n, by omega, by omega, h⟩
/-- Of a part of one value the next is too short. -/
theorem tn_cut {v : Va} (hK : VaK v) (hs : v.t.size ≤ 3000) (h : vOk v 253 false = true) {i : Nat} (hi : i < (tx1 v).length) : (tn ((tx1 v).take i)).2.2 = 4 := by
  by_cases hk : v.k = 0
  · have e : tx1 v = [251] := if_pos hk
    rw [e] at hi ⊢
    have : i = 0 := by simp at hi; omega
    subst this
    have e3 : (tn []).2.2 = 4 := by kernel_rfl
    exact e3
  · have e : tx1 v = vaB v 253 := if_neg hk
    rw [e] at hi ⊢
    have hd : ¬ ((vaB v 253).take i).head? = some 251 := by
      rw [ok_txt h hk]
      cases i with
      | zero => simp
      | succ k =>
        show ¬ some (firstOf v.t.size) = some 251
        have := form_head v.t.size []
        exact this
    unfold tn
    rw [if_neg hd, rd_cut hK (ok_some h hk) (by omega) hi]
theorem tat_cut {l : List Va} (hK : ∀ v ∈ l, VaK v ∧ v.t.size ≤ 3000) (h : rtOk l = true) {i : Nat} (hi : i < (rtB l).length) : gat (fun _ => tn) l.length ((rtB l).take i) = ([], 4) := by
  obtain ⟨j, hj, h1, h2⟩ := ex_step (f := fun j => (rtB (l.take j)).length) (i := i) (by simp [rtB]) (n := l.length) (by rw [List.take_length]; exact hi)
  obtain ⟨v, hv⟩ : ∃ v, l[j]? = some v := ⟨_, List.getElem?_eq_getElem hj⟩
  have hm := List.mem_of_getElem? hv
  have hok : vOk v 253 false = true := by
    unfold rtOk at h
    exact List.all_eq_true.1 h v hm
  have hokj : rtOk (l.take j) = true := by
    unfold rtOk at h ⊢
    exact List.all_eq_true.2 (fun x hx => List.all_eq_true.1 h x (List.mem_of_mem_take hx))
  rw [rtB_next hv, List.length_append] at h2
  have hsp : rtB l = rtB (l.take j) ++ (tx1 v ++ rtB (l.drop (j + 1))) := by
    have e : l = l.take j ++ (v :: l.drop (j + 1)) := by
      have hd := List.drop_eq_getElem_cons hj
      rw [List.getElem?_eq_getElem hj] at hv
      injection hv with hv
      rw [hv] at hd
      rw [← hd, List.take_append_drop]
    conv => lhs; rw [e]
    unfold rtB
    rw [List.flatMap_append, List.flatMap_cons]
  have hcut : (rtB l).take i = rtB (l.take j) ++ (tx1 v).take (i - (rtB (l.take j)).length) := by
    rw [hsp, List.take_append, List.take_of_length_le h1, List.take_append_of_le_length (by omega)]
  have hg := tg_back (l := l.take j) (fun x hx => hK x (List.mem_of_mem_take hx)) hokj ((tx1 v).take (i - (rtB (l.take j)).length)) j (by rw [List.length_take]; omega)
  rw [← hcut] at hg
  have e0 : rtB ((l.take j).drop j) = [] := by
    rw [List.drop_eq_nil_of_le (by rw [List.length_take]; omega)]
    rfl
  rw [e0, List.nil_append] at hg
  have h4 := tn_cut (hK v hm).1 (hK v hm).2 hok (i := i - (rtB (l.take j)).length) (by omega)
  have h5 : (gst (fun _ => tn) (j + 1) ((rtB l).take i)).2.2 = 4 := by
    unfold gst
    rw [hg]
    simp only
    rw [if_neg (by decide), if_pos (by rw [h4]; decide)]
    exact h4
  have h6 := gst_up (f := fun _ => tn) (b := (rtB l).take i) (j := j + 1) (by rw [h5]; decide) (l.length - (j + 1))
  rw [show j + 1 + (l.length - (j + 1)) = l.length by omega] at h6
  unfold gat
  rw [h6, h5, if_pos (by decide)]

end Go.Proofs.Ytkcblnojgonblaa
