/-
  Text rows, plain: what was written is read back; a byte more is wrong. No memory is named here. Conditions: numbers within their kinds, texts of at most 3,000 bytes.
  Binary rows, plain: what was written is read back; a byte more is wrong, a byte less is too short. No memory is named here. Conditions: numbers within their kinds, texts of at most 3,000 bytes.
-/
import Derived.Test.YtkcblnojgonblaaGreatDoorRwGat
import Derived.Test.YtkcblnojgonblaaGreatDoorVaCu
import Derived.Test.YtkcblnojgonblaaGreatDoorRwGab
import Derived.Test.YtkcblnojgonblaaGreatDoorRwBin
namespace Go.Proofs.YtkcblnojgonblaaGreatDoor
open Go.RowKit
set_option linter.unusedVariables false
set_option linter.unusedSimpArgs false

theorem ok_null {v : Va} {t : Int} {un : Bool} (h : vOk v t un = true) (hk : v.k = 0) : v = va0 ∨ kdV t un = 0 := by
  obtain ⟨_, h2⟩ := ok_cases h
  rcases h2 with h2 | h2
  · exact .inl h2
  · exact .inr (by rw [← h2.2.1]; exact hk)
theorem ok_txt {v : Va} (h : vOk v 253 false = true) (hk : ¬ v.k = 0) : vaB v 253 = txB v.t := by
  obtain ⟨_, h2⟩ := ok_cases h
  have h7 : v.k = 7 := by
    rcases h2 with h2 | h2
    · rw [h2] at hk; exact absurd rfl hk
    · rw [h2.2.1]; rfl
  unfold vaB
  rw [if_neg (by omega), if_neg (by omega), if_neg (by omega), if_neg (by omega), if_pos h7]
theorem form_head (x : Int) (r : List Int) : ¬ (form x ++ r).head? = some 251 := by
  show ¬ some (firstOf x) = some 251
  intro z
  injection z with z
  unfold firstOf at z
  repeat' split at z
  all_goals omega
/-- One value of a text row, read back. -/
theorem tn_back {v : Va} (hK : VaK v) (hs : v.t.size ≤ 3000) (h : vOk v 253 false = true) (r : List Int) : tn (tx1 v ++ r) = (v, r, 0) := by
  by_cases hk : v.k = 0
  · have hv : v = va0 := by
      rcases ok_null h hk with q | q
      · exact q
      · exact absurd q (by decide)
    have e : tx1 v = [251] := if_pos hk
    rw [e, hv]
    exact if_pos rfl
  · have e : tx1 v = vaB v 253 := if_neg hk
    have e2 : tx1 v ++ r = form v.t.size ++ (nums v.t ++ r) := by rw [e, ok_txt h hk]; exact List.append_assoc _ _ _
    have hd : ¬ (tx1 v ++ r).head? = some 251 := by rw [e2]; exact form_head _ _
    have hb := rd_back hK (ok_some h hk) (by omega) r
    unfold tn
    rw [if_neg hd, e, hb]
    unfold rdL
    rw [hb]
    simp
/-- A text row, read back value by value. -/
theorem tg_back {l : List Va} (hK : ∀ v ∈ l, VaK v ∧ v.t.size ≤ 3000) (h : rtOk l = true) (r : List Int) : ∀ j, j ≤ l.length → gst (fun _ => tn) j (rtB l ++ r) = (l.take j, rtB (l.drop j) ++ r, 0)
  | 0, _ => by simp [gst]
  | j + 1, hj => by
    have ih := tg_back hK h r j (by omega)
    obtain ⟨v, hv⟩ : ∃ v, l[j]? = some v := ⟨_, List.getElem?_eq_getElem (by omega)⟩
    have hm := List.mem_of_getElem? hv
    have hok : vOk v 253 false = true := by
      unfold rtOk at h
      exact List.all_eq_true.1 h v hm
    have hd : l.drop j = v :: l.drop (j + 1) := by
      have hjl : j < l.length := by omega
      rw [List.drop_eq_getElem_cons hjl]
      rw [List.getElem?_eq_getElem hjl] at hv
      injection hv with hv
      rw [hv]
    have hs : rtB (l.drop j) ++ r = tx1 v ++ (rtB (l.drop (j + 1)) ++ r) := by
      rw [hd]
      show (tx1 v ++ rtB (l.drop (j + 1))) ++ r = _
      rw [List.append_assoc]
    have hb := tn_back (hK v hm).1 (hK v hm).2 hok (rtB (l.drop (j + 1)) ++ r)
    unfold gst
    rw [ih]
    simp only
    rw [hs, hb]
    simp [take_one hv]
theorem tat_back {l : List Va} (hK : ∀ v ∈ l, VaK v ∧ v.t.size ≤ 3000) (h : rtOk l = true) : gat (fun _ => tn) l.length (rtB l) = (l, 0) := by
  have := tg_back hK h [] l.length (Nat.le_refl _)
  rw [List.append_nil] at this
  unfold gat
  rw [this]
  simp [rtB]
theorem tat_more {l : List Va} (hK : ∀ v ∈ l, VaK v ∧ v.t.size ≤ 3000) (h : rtOk l = true) (x : Int) : gat (fun _ => tn) l.length (rtB l ++ [x]) = ([], 5) := by
  have := tg_back hK h [x] l.length (Nat.le_refl _)
  unfold gat
  rw [this]
  simp [rtB]

theorem ex_step {f : Nat → Nat} {i : Nat} (h0 : f 0 ≤ i) : ∀ {n : Nat}, i < f n → ∃ j, j < n ∧ f j ≤ i ∧ i < f (j + 1)
  | 0, h => by omega
  | n + 1, h => by
    by_cases q : i < f n
    · obtain ⟨j, h1, h2⟩ := ex_step h0 q
      exact ⟨j, by omega, h2⟩
    · exact ⟨n, by omega, by omega, h⟩
/-- Of a part of one value the next is too short. -/
theorem tn_cut {v : Va} (hK : VaK v) (hs : v.t.size ≤ 3000) (h : vOk v 253 false = true) {i : Nat} (hi : i < (tx1 v).length) : (tn ((tx1 v).take i)).2.2 = 4 := by
  by_cases hk : v.k = 0
  · have e : tx1 v = [251] := if_pos hk
    rw [e] at hi ⊢
    have : i = 0 := by simp at hi; omega
    subst this
    have e3 : (tn []).2.2 = 4 := by kernel_rfl
    exact e3
  · have e : tx1 v = vaB v 253 := if_neg hk
    rw [e] at hi ⊢
    have hd : ¬ ((vaB v 253).take i).head? = some 251 := by
      rw [ok_txt h hk]
      cases i with
      | zero => simp
      | succ k =>
        show ¬ some (firstOf v.t.size) = some 251
        have := form_head v.t.size []
        exact this
    unfold tn
    rw [if_neg hd, rd_cut hK (ok_some h hk) (by omega) hi]
theorem tat_cut {l : List Va} (hK : ∀ v ∈ l, VaK v ∧ v.t.size ≤ 3000) (h : rtOk l = true) {i : Nat} (hi : i < (rtB l).length) : gat (fun _ => tn) l.length ((rtB l).take i) = ([], 4) := by
  obtain ⟨j, hj, h1, h2⟩ := ex_step (f := fun j => (rtB (l.take j)).length) (i := i) (by simp [rtB]) (n := l.length) (by rw [List.take_length]; exact hi)
  obtain ⟨v, hv⟩ : ∃ v, l[j]? = some v := ⟨_, List.getElem?_eq_getElem hj⟩
  have hm := List.mem_of_getElem? hv
  have hok : vOk v 253 false = true := by
    unfold rtOk at h
    exact List.all_eq_true.1 h v hm
  have hokj : rtOk (l.take j) = true := by
    unfold rtOk at h ⊢
    exact List.all_eq_true.2 (fun x hx => List.all_eq_true.1 h x (List.mem_of_mem_take hx))
  rw [rtB_next hv, List.length_append] at h2
  have hsp : rtB l = rtB (l.take j) ++ (tx1 v ++ rtB (l.drop (j + 1))) := by
    have e : l = l.take j ++ (v :: l.drop (j + 1)) := by
      have hd := List.drop_eq_getElem_cons hj
      rw [List.getElem?_eq_getElem hj] at hv
      injection hv with hv
      rw [hv] at hd
      rw [← hd, List.take_append_drop]
    conv => lhs; rw [e]
    unfold rtB
    rw [List.flatMap_append, List.flatMap_cons]
  have hcut : (rtB l).take i = rtB (l.take j) ++ (tx1 v).take (i - (rtB (l.take j)).length) := by
    rw [hsp, List.take_append, List.take_of_length_le h1, List.take_append_of_le_length (by omega)]
  have hg := tg_back (l := l.take j) (fun x hx => hK x (List.mem_of_mem_take hx)) hokj ((tx1 v).take (i - (rtB (l.take j)).length)) j (by rw [List.length_take]; omega)
  rw [← hcut] at hg
  have e0 : rtB ((l.take j).drop j) = [] := by
    rw [List.drop_eq_nil_of_le (by rw [List.length_take]; omega)]
    rfl
  rw [e0, List.nil_append] at hg
  have h4 := tn_cut (hK v hm).1 (hK v hm).2 hok (i := i - (rtB (l.take j)).length) (by omega)
  have h5 : (gst (fun _ => tn) (j + 1) ((rtB l).take i)).2.2 = 4 := by
    unfold gst
    rw [hg]
    simp only
    rw [if_neg (by decide), if_pos (by rw [h4]; decide)]
    exact h4
  have h6 := gst_up (f := fun _ => tn) (b := (rtB l).take i) (j := j + 1) (by rw [h5]; decide) (l.length - (j + 1))
  rw [show j + 1 + (l.length - (j + 1)) = l.length by omega] at h6
  unfold gat
  rw [h6, h5, if_pos (by decide)]

end Go.Proofs.YtkcblnojgonblaaGreatDoor

namespace Go.Proofs.YtkcblnojgonblaaGreatDoor
open Go.RowKit
set_option linter.unusedVariables false
set_option linter.unusedSimpArgs false

theorem ok_nul {v : Va} {t : Int} {un : Bool} (h : vOk v t un = true) (hk : v.k = 0) : v = va0 := by
  obtain ⟨_, h2⟩ := ok_cases h
  rcases h2 with h2 | h2
  · exact h2
  · have h3 := h2.2.2
    unfold fit at h3
    rw [if_neg (by omega), if_neg (by omega), if_neg (by omega), if_neg (by omega), if_neg (by omega)] at h3
    cases h3
theorem ok_six' {v : Va} {t : Int} {un : Bool} (h : vOk v t un = true) (ht : t = 6) : v = va0 := by
  obtain ⟨_, h2⟩ := ok_cases h
  rcases h2 with h2 | h2
  · exact h2
  · refine ok_nul h ?_
    rw [h2.2.1, ht]
    cases un <;> kernel_rfl
/-- What ReadBinary answers. -/
def rbR (b : List Int) (ts : List Ty) : List Va × Int :=
  if 4096 < ts.length then ([], 3) else if ts.any (fun p => decide (kdV p.t p.un < 0)) = true then ([], 2) else
  if nuE b ts ≠ 0 then ([], nuE b ts) else gat (bx (nuB b ts.length) ts) ts.length (nuL b ts.length)
theorem isn_bit {l : List Va} {nl : List Int} (h : Isn l nl) {i : Nat} {v : Va} (hv : l[i]? = some v) : bit nl (i + 2) = (v.k == 0) := by
  rw [h.bits]
  unfold nb
  rw [show i + 2 - 2 = i by omega, hv]
  simp
/-- One value of a binary row, read back. -/
theorem bx_back {nl : List Int} {l : List Va} {ts : List Ty} (hI : Isn l nl) {i : Nat} {v : Va} {p : Ty} (hv : l[i]? = some v) (hp : ts[i]? = some p) (hK : VaK v) (hs : v.t.size ≤ 3000) (h : vOk v p.t p.un = true) (r : List Int) : bx nl ts i (bn1 (v, p) ++ r) = (v, r, 0) := by
  have hg : ts.getD i ty0 = p := by rw [List.getD_eq_getElem?_getD, hp]; rfl
  have hb := isn_bit hI hv
  unfold bx
  rw [hb, hg]
  by_cases hk : v.k = 0
  · have e : bn1 (v, p) = [] := if_pos hk
    rw [e, ok_nul h hk]
    exact if_pos rfl
  · have e : bn1 (v, p) = vaB v p.t := if_neg hk
    have q : ¬ (v.k == 0) = true := by simpa using hk
    have hb := rd_back hK (ok_some h hk) (by omega) r
    rw [if_neg q, e, hb]
    unfold rdL
    rw [hb]
    simp
theorem zip_take {α β : Type} : ∀ (l : List α) (m : List β) (j : Nat), (l.zip m).take j = (l.take j).zip (m.take j)
  | [], _, j => by simp
  | _ :: _, [], j => by simp
  | a :: l, b :: m, 0 => rfl
  | a :: l, b :: m, j + 1 => by
    have := zip_take l m j
    simp [this]
theorem bg_back {nl : List Int} {l : List Va} {ts : List Ty} (hI : Isn l nl) (hlt : l.length = ts.length) (hK : ∀ v ∈ l, VaK v ∧ v.t.size ≤ 3000) (h : rbOk (l.zip ts) = true) (r : List Int) : ∀ j, j ≤ l.length → gst (bx nl ts) j (rbB (l.zip ts) ++ r) = (l.take j, rbB ((l.zip ts).drop j) ++ r, 0)
  | 0, _ => by simp [gst]
  | j + 1, hj => by
    have ih := bg_back hI hlt hK h r j (by omega)
    obtain ⟨v, hv⟩ : ∃ v, l[j]? = some v := ⟨_, List.getElem?_eq_getElem (by omega)⟩
    obtain ⟨p, hp⟩ : ∃ p, ts[j]? = some p := ⟨_, List.getElem?_eq_getElem (by omega)⟩
    have hm := List.mem_of_getElem? hv
    have hz := zip_at hv hp
    have hok : vOk v p.t p.un = true := by
      unfold rbOk at h
      exact List.all_eq_true.1 h (v, p) (List.mem_of_getElem? hz)
    have hd : (l.zip ts).drop j = (v, p) :: (l.zip ts).drop (j + 1) := by
      have hjl : j < (l.zip ts).length := (List.getElem?_eq_some_iff.1 hz).1
      rw [List.drop_eq_getElem_cons hjl]
      rw [List.getElem?_eq_getElem hjl] at hz
      injection hz with hz
      rw [hz]
    have hs : rbB ((l.zip ts).drop j) ++ r = bn1 (v, p) ++ (rbB ((l.zip ts).drop (j + 1)) ++ r) := by
      rw [hd]
      show (bn1 (v, p) ++ rbB ((l.zip ts).drop (j + 1))) ++ r = _
      rw [List.append_assoc]
    have hb := bx_back hI hv hp (hK v hm).1 (hK v hm).2 hok (rbB ((l.zip ts).drop (j + 1)) ++ r)
    unfold gst
    rw [ih]
    simp only
    rw [hs, hb]
    simp [take_one hv]
theorem zip_len {l : List Va} {ts : List Ty} (h : l.length = ts.length) : (l.zip ts).length = l.length := by rw [List.length_zip]; omega
theorem bat_back {nl : List Int} {l : List Va} {ts : List Ty} (hI : Isn l nl) (hlt : l.length = ts.length) (hK : ∀ v ∈ l, VaK v ∧ v.t.size ≤ 3000) (h : rbOk (l.zip ts) = true) : gat (bx nl ts) ts.length (rbB (l.zip ts)) = (l, 0) := by
  have := bg_back hI hlt hK h [] l.length (Nat.le_refl _)
  rw [List.append_nil] at this
  unfold gat
  rw [← hlt, this, List.drop_eq_nil_of_le (by rw [zip_len hlt]; omega)]
  simp [rbB]
theorem bat_more {nl : List Int} {l : List Va} {ts : List Ty} (hI : Isn l nl) (hlt : l.length = ts.length) (hK : ∀ v ∈ l, VaK v ∧ v.t.size ≤ 3000) (h : rbOk (l.zip ts) = true) (x : Int) : gat (bx nl ts) ts.length (rbB (l.zip ts) ++ [x]) = ([], 5) := by
  have := bg_back hI hlt hK h [x] l.length (Nat.le_refl _)
  unfold gat
  rw [← hlt, this, List.drop_eq_nil_of_le (by rw [zip_len hlt]; omega)]
  simp [rbB]
/-- Of a part of one value the next is too short. -/
theorem bx_cut {nl : List Int} {l : List Va} {ts : List Ty} (hI : Isn l nl) {k : Nat} {v : Va} {p : Ty} (hv : l[k]? = some v) (hp : ts[k]? = some p) (hK : VaK v) (hs : v.t.size ≤ 3000) (h : vOk v p.t p.un = true) {i : Nat} (hi : i < (bn1 (v, p)).length) : (bx nl ts k ((bn1 (v, p)).take i)).2.2 = 4 := by
  have hg : ts.getD k ty0 = p := by rw [List.getD_eq_getElem?_getD, hp]; rfl
  have hb := isn_bit hI hv
  by_cases hk : v.k = 0
  · have e : bn1 (v, p) = [] := if_pos hk
    rw [e] at hi
    simp at hi
  · have e : bn1 (v, p) = vaB v p.t := if_neg hk
    have q : ¬ (v.k == 0) = true := by simpa using hk
    rw [e] at hi ⊢
    unfold bx
    rw [hb, hg, if_neg q, rd_cut hK (ok_some h hk) (by omega) hi]
theorem isn_take {l : List Va} {nl : List Int} {ts : List Ty} (hI : Isn l nl) (hlt : l.length = ts.length) (hK : ∀ v ∈ l, VaK v ∧ v.t.size ≤ 3000) (h : rbOk (l.zip ts) = true) (r : List Int) : ∀ j m, j ≤ m → m ≤ l.length → gst (bx nl ts) j (rbB ((l.zip ts).take m) ++ r) = (l.take j, rbB (((l.zip ts).take m).drop j) ++ r, 0)
  | 0, m, _, _ => by simp [gst]
  | j + 1, m, hj, hm' => by
    have ih := isn_take hI hlt hK h r j m (by omega) hm'
    obtain ⟨v, hv⟩ : ∃ v, l[j]? = some v := ⟨_, List.getElem?_eq_getElem (by omega)⟩
    obtain ⟨p, hp⟩ : ∃ p, ts[j]? = some p := ⟨_, List.getElem?_eq_getElem (by omega)⟩
    have hm := List.mem_of_getElem? hv
    have hz := zip_at hv hp
    have hok : vOk v p.t p.un = true := by
      unfold rbOk at h
      exact List.all_eq_true.1 h (v, p) (List.mem_of_getElem? hz)
    have hz2 : ((l.zip ts).take m)[j]? = some (v, p) := by rw [List.getElem?_take_of_lt (by omega)]; exact hz
    have hd : ((l.zip ts).take m).drop j = (v, p) :: ((l.zip ts).take m).drop (j + 1) := by
      have hjl := (List.getElem?_eq_some_iff.1 hz2).1
      rw [List.drop_eq_getElem_cons hjl]
      rw [List.getElem?_eq_getElem hjl] at hz2
      injection hz2 with hz2
      rw [hz2]
    have hs : rbB (((l.zip ts).take m).drop j) ++ r = bn1 (v, p) ++ (rbB (((l.zip ts).take m).drop (j + 1)) ++ r) := by
      rw [hd]
      show (bn1 (v, p) ++ rbB (((l.zip ts).take m).drop (j + 1))) ++ r = _
      rw [List.append_assoc]
    have hb := bx_back hI hv hp (hK v hm).1 (hK v hm).2 hok (rbB (((l.zip ts).take m).drop (j + 1)) ++ r)
    unfold gst
    rw [ih]
    simp only
    rw [hs, hb]
    simp [take_one hv]
theorem bat_cut {nl : List Int} {l : List Va} {ts : List Ty} (hI : Isn l nl) (hlt : l.length = ts.length) (hK : ∀ v ∈ l, VaK v ∧ v.t.size ≤ 3000) (h : rbOk (l.zip ts) = true) {i : Nat} (hi : i < (rbB (l.zip ts)).length) : gat (bx nl ts) ts.length ((rbB (l.zip ts)).take i) = ([], 4) := by
  obtain ⟨j, hj, h1, h2⟩ := ex_step (f := fun j => (rbB ((l.zip ts).take j)).length) (i := i) (by simp [rbB]) (n := (l.zip ts).length) (by rw [List.take_length]; exact hi)
  rw [zip_len hlt] at hj
  obtain ⟨v, hv⟩ : ∃ v, l[j]? = some v := ⟨_, List.getElem?_eq_getElem hj⟩
  obtain ⟨p, hp⟩ : ∃ p, ts[j]? = some p := ⟨_, List.getElem?_eq_getElem (by omega)⟩
  have hm := List.mem_of_getElem? hv
  have hz := zip_at hv hp
  have hok : vOk v p.t p.un = true := by
    unfold rbOk at h
    exact List.all_eq_true.1 h (v, p) (List.mem_of_getElem? hz)
  rw [rbB_next hz, List.length_append] at h2
  have hsp : rbB (l.zip ts) = rbB ((l.zip ts).take j) ++ (bn1 (v, p) ++ rbB ((l.zip ts).drop (j + 1))) := by
    have e : l.zip ts = (l.zip ts).take j ++ ((v, p) :: (l.zip ts).drop (j + 1)) := by
      have hjl := (List.getElem?_eq_some_iff.1 hz).1
      have hd := List.drop_eq_getElem_cons hjl
      rw [List.getElem?_eq_getElem hjl] at hz
      injection hz with hz
      rw [hz] at hd
      rw [← hd, List.take_append_drop]
    conv => lhs; rw [e]
    unfold rbB
    rw [List.flatMap_append, List.flatMap_cons]
  have hcut : (rbB (l.zip ts)).take i = rbB ((l.zip ts).take j) ++ (bn1 (v, p)).take (i - (rbB ((l.zip ts).take j)).length) := by
    rw [hsp, List.take_append, List.take_of_length_le h1, List.take_append_of_le_length (by omega)]
  have hg := isn_take hI hlt hK h ((bn1 (v, p)).take (i - (rbB ((l.zip ts).take j)).length)) j j (Nat.le_refl _) (by omega)
  rw [← hcut] at hg
  have e0 : rbB (((l.zip ts).take j).drop j) = [] := by
    rw [List.drop_eq_nil_of_le (by rw [List.length_take]; omega)]
    rfl
  rw [e0, List.nil_append] at hg
  have h4 := bx_cut hI hv hp (hK v hm).1 (hK v hm).2 hok (i := i - (rbB ((l.zip ts).take j)).length) (by omega)
  have h5 : (gst (bx nl ts) (j + 1) ((rbB (l.zip ts)).take i)).2.2 = 4 := by
    unfold gst
    rw [hg]
    simp only
    rw [if_neg (by decide), if_pos (by rw [h4]; decide)]
    exact h4
  have h6 := gst_up (f := bx nl ts) (b := (rbB (l.zip ts)).take i) (j := j + 1) (by rw [h5]; decide) (ts.length - (j + 1))
  rw [show j + 1 + (ts.length - (j + 1)) = ts.length by omega] at h6
  unfold gat
  rw [h6, h5, if_pos (by decide)]

/-- The bits of a row that may be are bits that may be. -/
theorem mbN_ok {nl : List Int} {l : List Va} {ts : List Ty} (hI : Isn l nl) (hlt : l.length = ts.length) (h : rbOk (l.zip ts) = true) : mbN nl ts = true := by
  unfold mbN
  rw [Bool.and_eq_true]
  constructor
  · unfold noNull
    rw [List.all_eq_true]
    intro i hi
    have hi := List.mem_range.1 hi
    obtain ⟨v, hv⟩ : ∃ v, l[i]? = some v := ⟨_, List.getElem?_eq_getElem (by omega)⟩
    obtain ⟨p, hp⟩ : ∃ p, ts[i]? = some p := ⟨_, List.getElem?_eq_getElem (by omega)⟩
    have hz := zip_at hv hp
    have hok : vOk v p.t p.un = true := by
      unfold rbOk at h
      exact List.all_eq_true.1 h (v, p) (List.mem_of_getElem? hz)
    rw [isn_bit hI hv, hp]
    by_cases h6 : p.t = 6
    · rw [ok_six' hok h6]
      rfl
    · simp [h6]
  · rw [List.all_eq_true]
    intro j _
    rw [hI.bits]
    unfold nb
    by_cases h2 : 2 ≤ j
    · by_cases h3 : j < ts.length + 2
      · simp [h2, h3]
      · rw [List.getElem?_eq_none (by omega)]
        simp
    · simp [h2]
theorem any_no {l : List Va} {ts : List Ty} (hlt : l.length = ts.length) (h : rbOk (l.zip ts) = true) : ts.any (fun p => decide (kdV p.t p.un < 0)) = false := by
  rw [List.any_eq_false]
  intro p hp
  obtain ⟨i, hi, e⟩ := List.mem_iff_getElem.1 hp
  have hp' : ts[i]? = some p := by rw [List.getElem?_eq_getElem hi, e]
  obtain ⟨v, hv⟩ : ∃ v, l[i]? = some v := ⟨_, List.getElem?_eq_getElem (by omega)⟩
  have hok : vOk v p.t p.un = true := by
    unfold rbOk at h
    exact List.all_eq_true.1 h (v, p) (List.mem_of_getElem? (zip_at hv hp'))
  have h1 := (ok_cases hok).1
  unfold kdV at h1 ⊢
  repeat' split at h1
  all_goals first | (simp at h1; done) | (simp_all; done) | (rename_i q; simp [*])
/-- A binary row's bytes. -/
def rbA (nl : List Int) (z : List (Va × Ty)) : List Int := [0] ++ nl ++ rbB z
theorem rbA_eq (nl : List Int) (z : List (Va × Ty)) : rbA nl z = 0 :: (nl ++ rbB z) := by simp [rbA]
theorem nu_parts {nl r : List Int} {m : Nat} (hl : nl.length = (m + 9) / 8) : nuB (0 :: (nl ++ r)) m = nl ∧ nuL (0 :: (nl ++ r)) m = r := by
  unfold nuB nuL
  rw [show 1 + (m + 9) / 8 = (m + 9) / 8 + 1 by omega, List.drop_succ_cons, List.drop_succ_cons, List.drop_zero, ← hl]
  exact ⟨by simp, by simp⟩
theorem nuE_ok {nl r : List Int} {ts : List Ty} (hl : nl.length = (ts.length + 9) / 8) (hm : mbN nl ts = true) : nuE (0 :: (nl ++ r)) ts = 0 := by
  unfold nuE
  rw [if_neg (by simp), if_neg (by simp), if_neg (by simp [hl]), (nu_parts (r := r) hl).1, if_neg (by rw [hm]; decide)]
theorem rbR_at {nl r : List Int} {l : List Va} {ts : List Ty} (hI : Isn l nl) (hlt : l.length = ts.length) (h4 : ts.length ≤ 4096) (h : rbOk (l.zip ts) = true) : rbR (0 :: (nl ++ r)) ts = gat (bx nl ts) ts.length r := by
  have hl : nl.length = (ts.length + 9) / 8 := by rw [hI.len, hlt]
  unfold rbR
  rw [if_neg (by omega), if_neg (by rw [any_no hlt h]; decide), if_neg (by rw [nuE_ok hl (mbN_ok hI hlt h)]; decide), (nu_parts (r := r) hl).1, (nu_parts (r := r) hl).2]
theorem rbR_back {nl : List Int} {l : List Va} {ts : List Ty} (hI : Isn l nl) (hlt : l.length = ts.length) (h4 : ts.length ≤ 4096) (hK : ∀ v ∈ l, VaK v ∧ v.t.size ≤ 3000) (h : rbOk (l.zip ts) = true) : rbR (rbA nl (l.zip ts)) ts = (l, 0) := by
  rw [rbA_eq, rbR_at hI hlt h4 h, bat_back hI hlt hK h]
theorem rbR_more {nl : List Int} {l : List Va} {ts : List Ty} (hI : Isn l nl) (hlt : l.length = ts.length) (h4 : ts.length ≤ 4096) (hK : ∀ v ∈ l, VaK v ∧ v.t.size ≤ 3000) (h : rbOk (l.zip ts) = true) (x : Int) : rbR (rbA nl (l.zip ts) ++ [x]) ts = ([], 5) := by
  rw [rbA_eq, List.cons_append, List.append_assoc, rbR_at hI hlt h4 h, bat_more hI hlt hK h]
theorem rbR_cut {nl : List Int} {l : List Va} {ts : List Ty} (hI : Isn l nl) (hlt : l.length = ts.length) (h4 : ts.length ≤ 4096) (hK : ∀ v ∈ l, VaK v ∧ v.t.size ≤ 3000) (h : rbOk (l.zip ts) = true) {i : Nat} (hi : i < (rbA nl (l.zip ts)).length) : rbR ((rbA nl (l.zip ts)).take i) ts = ([], 4) := by
  have hl : nl.length = (ts.length + 9) / 8 := by rw [hI.len, hlt]
  rw [rbA_eq] at hi ⊢
  have short : nuE ((0 :: (nl ++ rbB (l.zip ts))).take i) ts = 4 → rbR ((0 :: (nl ++ rbB (l.zip ts))).take i) ts = ([], 4) := by
    intro e
    unfold rbR
    rw [if_neg (by omega), if_neg (by rw [any_no hlt h]; decide), e, if_pos (by decide)]
  cases i with
  | zero => exact short (by unfold nuE; rw [if_pos (by simp)])
  | succ k =>
    rw [List.take_succ_cons]
    rw [List.take_succ_cons] at short
    by_cases hk : k < nl.length
    · apply short
      unfold nuE
      rw [if_neg (by simp), if_neg (by simp), if_pos (by simp only [List.length_cons, List.length_take, List.length_append]; omega)]
    · rw [List.take_append, List.take_of_length_le (by omega), rbR_at hI hlt h4 h]
      exact bat_cut hI hlt hK h (by simp only [List.length_cons, List.length_append] at hi; omega)

end Go.Proofs.YtkcblnojgonblaaGreatDoor
