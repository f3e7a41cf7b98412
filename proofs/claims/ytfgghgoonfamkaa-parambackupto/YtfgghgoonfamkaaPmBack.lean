/-
  Parameters, plain: what was written is read back, with their types told anew or known; a byte more is wrong, a byte less is too short. No memory is named here. Conditions: numbers within their kinds, types are bytes, texts of at most 3,000 bytes.
-/
import Derived.Test.YtfgghgoonfamkaaPmRead
import Derived.Test.YtfgghgoonfamkaaVaCu
namespace Go.Proofs.Ytfgghgoonfamkaa
open Go.RowKit
set_option linter.unusedVariables false
set_option linter.unusedSimpArgs false

/-- Parameters whose numbers are within their kinds. -/
def PaK (l : List Pa) : Prop := ∀ p ∈ l, VaK p.v ∧ p.v.t.size ≤ 3000 ∧ 0 ≤ p.t.t ∧ p.t.t < 256
def tsO (l : List Pa) : List Ty := l.map (·.t)
def lgO (l : List Pa) : List Bool := l.map (·.lo)
theorem pok_at {l : List Pa} (h : plOk l = true) {i : Nat} {p : Pa} (hp : l[i]? = some p) : pOk p = true := plOk_at h (List.mem_of_getElem? hp)
theorem pok_v {p : Pa} (h : pOk p = true) : vOk p.v p.t.t p.t.un = true ∧ (p.lo = true → p.v.k = 0) := by
  unfold pOk at h
  simp only [Bool.and_eq_true] at h
  refine ⟨h.1, fun hl => ?_⟩
  have := h.2
  rw [hl] at this
  simpa using this
theorem ok_nu {v : Va} {t : Int} {un : Bool} (h : vOk v t un = true) (hk : v.k = 0) : v = va0 := by
  obtain ⟨_, h2⟩ := ok_cases h
  rcases h2 with h2 | h2
  · exact h2
  · have h3 := h2.2.2
    unfold fit at h3
    rw [if_neg (by omega), if_neg (by omega), if_neg (by omega), if_neg (by omega), if_neg (by omega)] at h3
    cases h3
theorem ok_t6 {v : Va} {t : Int} {un : Bool} (h : vOk v t un = true) (hk : ¬ v.k = 0) : t ≠ 6 := by
  intro h6
  obtain ⟨_, h2⟩ := ok_cases h
  rcases h2 with h2 | h2
  · rw [h2] at hk; exact hk rfl
  · apply hk
    rw [h2.2.1, h6]
    cases un <;> kernel_rfl
theorem kd_un {t : Int} {un : Bool} (h : kdV t un ≠ -1) (u2 : Bool) : unk ⟨t, u2⟩ = false := by
  have hk : kn t = true := by
    unfold kdV at h
    by_cases q : kn t = false
    · rw [if_pos q] at h; exact absurd rfl h
    · simpa using q
  unfold unk
  simp only [decide_eq_false_iff_not]
  unfold kdV
  rw [if_neg (by rw [hk]; decide)]
  repeat' split
  all_goals omega
theorem isp_bit {l : List Pa} {nl : List Int} (h : Isp l nl) {i : Nat} {p : Pa} (hp : l[i]? = some p) : bit nl i = ((p.v.k == 0) && !p.lo) := by
  rw [h.bits]
  unfold pnb
  rw [hp]
theorem lgO_at {l : List Pa} {i : Nat} {p : Pa} (hp : l[i]? = some p) : (lgO l).getD i false = p.lo := by
  unfold lgO
  rw [List.getD_eq_getElem?_getD, List.getElem?_map, hp]
  rfl
theorem tsO_at {l : List Pa} {i : Nat} {p : Pa} (hp : l[i]? = some p) : (tsO l).getD i ty0 = p.t := by
  unfold tsO
  rw [List.getD_eq_getElem?_getD, List.getElem?_map, hp]
  rfl
theorem mk_ok {l : List Pa} {nl : List Int} (h : Isp l nl) : mkOk nl l.length (lgO l) = true := by
  unfold mkOk
  rw [List.all_eq_true]
  intro i _
  unfold mkP
  rw [h.bits]
  unfold pnb
  cases hp : l[i]? with
  | none => rfl
  | some p =>
    have hi := (List.getElem?_eq_some_iff.1 hp).1
    rw [lgO_at hp, decide_eq_false (show ¬ l.length ≤ i by omega)]
    cases hq : p.lo <;> simp [hq]
/-- One type, read back. -/
theorem ty1_back {p : Pa} (h : pOk p = true) (r : List Int) : ty1 (ty2 p ++ r) = (p.t, r, 0) := by
  obtain ⟨h1, _⟩ := pok_v h
  have hk := kd_un (ok_cases h1).1 false
  obtain ⟨⟨pt, pu⟩, lo, v⟩ := p
  unfold ty1 ty2
  rw [if_neg (by simp)]
  simp only [List.cons_append, List.nil_append, List.getElem?_cons_zero, Option.getD_some]
  rw [if_neg (by rw [hk]; decide)]
  cases pu <;> simp [flg]
theorem tyg_back {l : List Pa} (h : plOk l = true) (r : List Int) : ∀ j, j ≤ l.length → tyS j (ptB l ++ r) = ((tsO l).take j, ptB (l.drop j) ++ r, 0)
  | 0, _ => by simp [tyS, gsA]
  | j + 1, hj => by
    have ih := tyg_back h r j (by omega)
    obtain ⟨p, hp⟩ : ∃ p, l[j]? = some p := ⟨_, List.getElem?_eq_getElem (by omega)⟩
    have hd : l.drop j = p :: l.drop (j + 1) := by
      have hjl := (List.getElem?_eq_some_iff.1 hp).1
      rw [List.drop_eq_getElem_cons hjl]
      rw [List.getElem?_eq_getElem hjl] at hp
      injection hp with hp
      rw [hp]
    have hs : ptB (l.drop j) ++ r = ty2 p ++ (ptB (l.drop (j + 1)) ++ r) := by
      rw [hd]
      show (ty2 p ++ ptB (l.drop (j + 1))) ++ r = _
      rw [List.append_assoc]
    have hb := ty1_back (pok_at h hp) (ptB (l.drop (j + 1)) ++ r)
    have ht : (tsO l)[j]? = some p.t := by unfold tsO; rw [List.getElem?_map, hp]; rfl
    unfold tyS at ih ⊢
    rw [gsA_next (by rw [ih]), ih]
    simp only
    rw [hs, hb, if_neg (by first | decide | exact fun z => z rfl), take_1 ht]
theorem tyS_back {l : List Pa} (h : plOk l = true) (r : List Int) : tyS l.length (ptB l ++ r) = (tsO l, r, 0) := by
  have := tyg_back h r l.length (Nat.le_refl _)
  rw [this, List.drop_length, List.take_of_length_le (by unfold tsO; simp)]
  rfl
theorem thd_back {l : List Pa} (h : plOk l = true) : thd (tsO l) l.length = (tsO l, 0) := by
  have hl : (tsO l).length = l.length := by unfold tsO; simp
  unfold thd
  rw [List.take_of_length_le (by omega), if_neg]
  rintro (q | q)
  · omega
  · obtain ⟨t, ht, hu⟩ := List.any_eq_true.1 q
    unfold tsO at ht
    obtain ⟨p, hp, rfl⟩ := List.mem_map.1 ht
    have := kd_un (ok_cases (pok_v (plOk_at h hp)).1).1 p.t.un
    rw [this] at hu
    cases hu
/-- One parameter, read back. -/
theorem pa1_back {l : List Pa} {nl : List Int} (hI : Isp l nl) (hK : PaK l) (h : plOk l = true) {j : Nat} {p : Pa} (hp : l[j]? = some p) (r : List Int) : pa1 nl (lgO l) (tsO l) j (va1 p ++ r) = (p, r, 0) := by
  obtain ⟨h1, h2⟩ := pok_v (pok_at h hp)
  obtain ⟨k1, k2, k3, k4⟩ := hK p (List.mem_of_getElem? hp)
  unfold pa1
  rw [lgO_at hp, tsO_at hp, isp_bit hI hp]
  by_cases hk : p.v.k = 0
  · have e : va1 p = [] := if_pos hk
    have hv := ok_nu h1 hk
    rw [e, if_neg]
    · obtain ⟨t, lo, v⟩ := p
      simp only at hv
      rw [hv]
      rfl
    · have : (p.v.k == 0) = true := by simpa using hk
      rw [this]
      cases p.lo <;> simp
  · have e : va1 p = vaB p.v p.t.t := if_neg hk
    have hlo : p.lo = false := by
      cases hq : p.lo
      · rfl
      · exact absurd (h2 hq) hk
    have hz : (p.v.k == 0) = false := by simpa using hk
    have hb := rd_back k1 (pb_some h1 hk) (by omega) r
    rw [hlo, hz, if_pos (by rfl), e]
    have hr : rvP (vaB p.v p.t.t ++ r) p.t.t p.t.un = (p.v, r, 0) := by
      unfold rvP rdL
      rw [if_neg (ok_t6 h1 hk), hb, if_neg (by first | decide | exact fun z => z rfl)]
      simp
    rw [hr]
    obtain ⟨t, lo, v⟩ := p
    simp only at hlo
    rw [hlo]
theorem pg_back {l : List Pa} {nl : List Int} (hI : Isp l nl) (hK : PaK l) (h : plOk l = true) (r : List Int) : ∀ j m, j ≤ m → m ≤ l.length → gsA (pa1 nl (lgO l) (tsO l)) j (pvB (l.take m) ++ r) = (l.take j, pvB ((l.take m).drop j) ++ r, 0)
  | 0, m, _, _ => by simp [gsA]
  | j + 1, m, hj, hm => by
    have ih := pg_back hI hK h r j m (by omega) hm
    obtain ⟨p, hp⟩ : ∃ p, l[j]? = some p := ⟨_, List.getElem?_eq_getElem (by omega)⟩
    have hp2 : (l.take m)[j]? = some p := by rw [List.getElem?_take_of_lt (by omega)]; exact hp
    have hd : (l.take m).drop j = p :: (l.take m).drop (j + 1) := by
      have hjl := (List.getElem?_eq_some_iff.1 hp2).1
      rw [List.drop_eq_getElem_cons hjl]
      rw [List.getElem?_eq_getElem hjl] at hp2
      injection hp2 with hp2
      rw [hp2]
    have hs : pvB ((l.take m).drop j) ++ r = va1 p ++ (pvB ((l.take m).drop (j + 1)) ++ r) := by
      rw [hd]
      show (va1 p ++ pvB ((l.take m).drop (j + 1))) ++ r = _
      rw [List.append_assoc]
    have hb := pa1_back hI hK h hp (pvB ((l.take m).drop (j + 1)) ++ r)
    rw [gsA_next (by rw [ih]), ih]
    simp only
    rw [hs, hb, if_neg (by first | decide | exact fun z => z rfl), take_1 hp]
theorem tsO_len (l : List Pa) : (tsO l).length = l.length := by unfold tsO; simp
theorem prG_r {l : List Pa} {nl : List Int} (hI : Isp l nl) (hK : PaK l) (h : plOk l = true) (r : List Int) : prG nl (lgO l) (tsO l) (pvB l ++ r) = if r.length ≠ 0 then ([], 5) else (l, 0) := by
  have hg := pg_back hI hK h r l.length l.length (Nat.le_refl _) (Nat.le_refl _)
  rw [List.take_of_length_le (Nat.le_refl _), List.drop_length] at hg
  unfold prG
  rw [tsO_len, hg, if_neg (by first | decide | exact fun z => z rfl)]
  rfl
theorem ex_st {f : Nat → Nat} {i : Nat} (h0 : f 0 ≤ i) : ∀ {n : Nat}, i < f n → ∃ j, j < n ∧ f j ≤ i ∧ i < f (j + 1)
  | 0, h => by omega
  | n + 1, h => by
    by_cases q : i < f n
    · obtain ⟨j, h1, h2⟩ := ex_st h0 q
      exact ⟨j, by omega, h2⟩
    · exact ⟨n, by omega, by omega, h⟩
theorem prG_cut {l : List Pa} {nl : List Int} (hI : Isp l nl) (hK : PaK l) (h : plOk l = true) {i : Nat} (hi : i < (pvB l).length) : prG nl (lgO l) (tsO l) ((pvB l).take i) = ([], 4) := by
  obtain ⟨j, hj, h1, h2⟩ := ex_st (f := fun j => (pvB (l.take j)).length) (i := i) (by simp [pvB]) (n := l.length) (by rw [List.take_length]; exact hi)
  obtain ⟨p, hp⟩ : ∃ p, l[j]? = some p := ⟨_, List.getElem?_eq_getElem hj⟩
  obtain ⟨hv1, hv2⟩ := pok_v (pok_at h hp)
  obtain ⟨k1, k2, k3, k4⟩ := hK p (List.mem_of_getElem? hp)
  rw [pvB_next hp, List.length_append] at h2
  have hsp : pvB l = pvB (l.take j) ++ (va1 p ++ pvB (l.drop (j + 1))) := by
    have e : l = l.take j ++ (p :: l.drop (j + 1)) := by
      have hd := List.drop_eq_getElem_cons hj
      rw [List.getElem?_eq_getElem hj] at hp
      injection hp with hp
      rw [hp] at hd
      rw [← hd, List.take_append_drop]
    conv => lhs; rw [e]
    unfold pvB
    rw [List.flatMap_append, List.flatMap_cons]
  have hcut : (pvB l).take i = pvB (l.take j) ++ (va1 p).take (i - (pvB (l.take j)).length) := by
    rw [hsp, List.take_append, List.take_of_length_le h1, List.take_append_of_le_length (by omega)]
  have hg := pg_back hI hK h ((va1 p).take (i - (pvB (l.take j)).length)) j j (Nat.le_refl _) (by omega)
  rw [← hcut] at hg
  have e0 : pvB ((l.take j).drop j) = [] := by
    rw [List.drop_eq_nil_of_le (by rw [List.length_take]; omega)]
    rfl
  rw [e0, List.nil_append] at hg
  have hk : ¬ p.v.k = 0 := by
    intro hk
    have e : va1 p = [] := if_pos hk
    rw [e] at h2
    simp at h2
    omega
  have e : va1 p = vaB p.v p.t.t := if_neg hk
  have hlo : p.lo = false := by
    cases hq : p.lo
    · rfl
    · exact absurd (hv2 hq) hk
  have hz : (p.v.k == 0) = false := by simpa using hk
  have h4 : (pa1 nl (lgO l) (tsO l) j ((va1 p).take (i - (pvB (l.take j)).length))).2.2 = 4 := by
    rw [e] at h2 ⊢
    have hc := rd_cut k1 (pb_some hv1 hk) (by omega) (i := i - (pvB (l.take j)).length) (by omega)
    unfold pa1
    rw [lgO_at hp, tsO_at hp, isp_bit hI hp, hlo, hz, if_pos (by rfl)]
    unfold rvP
    rw [if_neg (ok_t6 hv1 hk), hc, if_pos (by first | decide | (intro z; cases z))]
  have h5 := gsA_bad (f := pa1 nl (lgO l) (tsO l)) (b := (pvB l).take i) (j := j) (n := l.length) (E := 4) hj (by rw [hg]) (by rw [hg]; exact h4) (by decide)
  unfold prG
  rw [tsO_len, h5, if_pos (by first | decide | (intro z; cases z))]
theorem ty1_cut {p : Pa} (h : pOk p = true) {i : Nat} (hi : i < 2) : (ty1 ((ty2 p).take i)).2.2 = 4 := by
  obtain ⟨h1, _⟩ := pok_v h
  have hk := kd_un (ok_cases h1).1 false
  rcases (show i = 0 ∨ i = 1 by omega) with rfl | rfl
  · rfl
  · have e : (ty2 p).take 1 = [p.t.t] := rfl
    rw [e]
    unfold ty1
    rw [if_neg (by simp)]
    simp only [List.getElem?_cons_zero, Option.getD_some]
    rw [if_neg (by rw [hk]; decide)]
    rfl
theorem tyS_cut {l : List Pa} (h : plOk l = true) {i : Nat} (hi : i < 2 * l.length) (r : List Int) (hr : r = (ptB l).take i) : (tyS l.length r).2.2 = 4 := by
  subst hr
  have hj : i / 2 < l.length := by omega
  obtain ⟨p, hp⟩ : ∃ p, l[i / 2]? = some p := ⟨_, List.getElem?_eq_getElem hj⟩
  have hsp : ptB l = ptB (l.take (i / 2)) ++ (ty2 p ++ ptB (l.drop (i / 2 + 1))) := by
    have e : l = l.take (i / 2) ++ (p :: l.drop (i / 2 + 1)) := by
      have hd := List.drop_eq_getElem_cons hj
      rw [List.getElem?_eq_getElem hj] at hp
      injection hp with hp
      rw [hp] at hd
      rw [← hd, List.take_append_drop]
    conv => lhs; rw [e]
    unfold ptB
    rw [List.flatMap_append, List.flatMap_cons]
  have hl1 : (ptB (l.take (i / 2))).length = 2 * (i / 2) := by rw [ptB_len, List.length_take]; omega
  have h2l : (ty2 p).length = 2 := rfl
  have hcut : (ptB l).take i = ptB (l.take (i / 2)) ++ (ty2 p).take (i % 2) := by
    rw [hsp, List.take_append, List.take_of_length_le (by omega), hl1, List.take_append_of_le_length (by omega)]
    congr 2
    omega
  have hok2 : plOk (l.take (i / 2)) = true := by
    unfold plOk
    exact List.all_eq_true.2 (fun q hq => plOk_at h (List.mem_of_mem_take hq))
  have hg := tyS_back hok2 ((ty2 p).take (i % 2))
  rw [← hcut, show (l.take (i / 2)).length = i / 2 by rw [List.length_take]; omega] at hg
  have h4 := ty1_cut (pok_at h hp) (i := i % 2) (by omega)
  unfold tyS at hg ⊢
  rw [gsA_bad (f := fun _ => ty1) (j := i / 2) (n := l.length) (E := 4) hj (by rw [hg]) (by rw [hg]; exact h4) (by decide)]

/-- The data of parameters there are, part by part. -/
theorem paB_parts {l : List Pa} (h : l ≠ []) (bd : Bool) (nl : List Int) : paB l bd nl = nl ++ ((if bd = true then 1 else 0) :: ((if bd = true then ptB l else []) ++ pvB l)) := by
  unfold paB
  rw [if_neg h]
  rfl
theorem mkE_at {l : List Pa} {nl r : List Int} (hI : Isp l nl) : mkE (nl ++ r) l.length (lgO l) = 0 ∧ (nl ++ r).take ((l.length + 7) / 8) = nl ∧ (nl ++ r).drop ((l.length + 7) / 8) = r := by
  have hl := hI.len
  have e1 : (nl ++ r).take ((l.length + 7) / 8) = nl := by rw [← hl, List.take_left']; rfl
  have e2 : (nl ++ r).drop ((l.length + 7) / 8) = r := by rw [← hl, List.drop_left']; rfl
  refine ⟨?_, e1, e2⟩
  unfold mkE
  rw [if_neg (by rw [List.length_append, hl]; omega), e1, mk_ok hI, if_neg (by first | decide | exact fun z => z rfl)]
theorem flg_at (bd : Bool) (r : List Int) : flg ((if bd = true then 1 else 0) :: r) 1 = (bd, r, 0) := by
  cases bd <;> simp [flg]
theorem pmN_at {l : List Pa} {nl r : List Int} (hI : Isp l nl) (ts : List Ty) : pmN (nl ++ r) l.length ts (lgO l) =
    if (flg r 1).2.2 ≠ 0 then ([], false, (flg r 1).2.2) else
    if (flg r 1).1 = true then (if (tyS l.length (flg r 1).2.1).2.2 ≠ 0 then ([], false, (tyS l.length (flg r 1).2.1).2.2) else if (prG nl (lgO l) (tyS l.length (flg r 1).2.1).1 (tyS l.length (flg r 1).2.1).2.1).2 ≠ 0 then ([], false, (prG nl (lgO l) (tyS l.length (flg r 1).2.1).1 (tyS l.length (flg r 1).2.1).2.1).2) else ((prG nl (lgO l) (tyS l.length (flg r 1).2.1).1 (tyS l.length (flg r 1).2.1).2.1).1, true, 0))
    else (if (thd ts l.length).2 ≠ 0 then ([], false, (thd ts l.length).2) else if (prG nl (lgO l) (thd ts l.length).1 (flg r 1).2.1).2 ≠ 0 then ([], false, (prG nl (lgO l) (thd ts l.length).1 (flg r 1).2.1).2) else ((prG nl (lgO l) (thd ts l.length).1 (flg r 1).2.1).1, false, 0)) := by
  obtain ⟨h1, h2, h3⟩ := mkE_at (r := r) hI
  unfold pmN
  rw [h1, h2, h3, if_neg (by first | decide | exact fun z => z rfl)]
/-- Behind the bits and the flag. -/
theorem pmN_bd {l : List Pa} {nl : List Int} (hI : Isp l nl) (hK : PaK l) (h : plOk l = true) (hne : l ≠ []) (ts : List Ty) (r : List Int) : pmN (paB l true nl ++ r) l.length ts (lgO l) = if r.length ≠ 0 then ([], false, 5) else (l, true, 0) := by
  rw [paB_parts hne, List.append_assoc, pmN_at hI, List.cons_append, flg_at true]
  simp only [if_true]
  rw [if_neg (by first | decide | exact fun z => z rfl), List.append_assoc, tyS_back h, if_neg (by first | decide | exact fun z => z rfl), prG_r hI hK h]
  by_cases hr : r.length ≠ 0
  · rw [if_pos hr, if_pos hr, if_pos (by first | decide | (intro z; cases z))]
  · rw [if_neg hr, if_neg hr, if_neg (by first | decide | exact fun z => z rfl)]
theorem pmN_nb {l : List Pa} {nl : List Int} (hI : Isp l nl) (hK : PaK l) (h : plOk l = true) (hne : l ≠ []) (r : List Int) : pmN (paB l false nl ++ r) l.length (tsO l) (lgO l) = if r.length ≠ 0 then ([], false, 5) else (l, false, 0) := by
  rw [paB_parts hne, List.append_assoc, pmN_at hI, List.cons_append, flg_at false]
  simp only [Bool.false_eq_true, if_false, List.nil_append]
  rw [if_neg (by first | decide | exact fun z => z rfl), thd_back h, if_neg (by first | decide | exact fun z => z rfl), prG_r hI hK h]
  by_cases hr : r.length ≠ 0
  · rw [if_pos hr, if_pos hr, if_pos (by first | decide | (intro z; cases z))]
  · rw [if_neg hr, if_neg hr, if_neg (by first | decide | exact fun z => z rfl)]
theorem pmN_few {l : List Pa} {nl : List Int} (hI : Isp l nl) (hne : l ≠ []) (ts : List Ty) (ht : ts.length < l.length) : pmN (paB l false nl) l.length ts (lgO l) = ([], false, 5) := by
  rw [paB_parts hne, pmN_at hI, flg_at false]
  simp only [Bool.false_eq_true, if_false, List.nil_append]
  have : thd ts l.length = ([], 5) := if_pos (.inl ht)
  rw [if_neg (by first | decide | exact fun z => z rfl), this, if_pos (by first | decide | (intro z; cases z))]
theorem pmN_cut {l : List Pa} {nl : List Int} (hI : Isp l nl) (hK : PaK l) (h : plOk l = true) (hne : l ≠ []) (bd : Bool) {i : Nat} (hi : i < (paB l bd nl).length) (ts : List Ty) (hts : bd = false → ts = tsO l) : pmN ((paB l bd nl).take i) l.length ts (lgO l) = ([], false, 4) := by
  have hl := hI.len
  rw [paB_parts hne] at hi ⊢
  rw [List.length_append, List.length_cons] at hi
  by_cases h1 : i < nl.length
  · rw [List.take_append_of_le_length (by omega)]
    have hm : mkE (nl.take i) l.length (lgO l) = 4 := by
      unfold mkE
      rw [if_pos (by rw [List.length_take]; omega)]
    unfold pmN
    rw [hm, if_pos (by first | decide | (intro z; cases z))]
  · rw [List.take_append, List.take_of_length_le (by omega), pmN_at hI]
    obtain ⟨q, hq⟩ : ∃ q, q = i - nl.length := ⟨_, rfl⟩
    rw [← hq]
    cases q with
    | zero =>
      rw [List.take_zero]
      rfl
    | succ q =>
      rw [List.take_succ_cons, flg_at bd, if_neg (by first | decide | exact fun z => z rfl)]
      cases bd
      · simp only [Bool.false_eq_true, if_false, List.nil_append] at hi ⊢
        rw [hts rfl, thd_back h, if_neg (by first | decide | exact fun z => z rfl), prG_cut hI hK h (by omega), if_pos (by first | decide | (intro z; cases z))]
      · simp only [if_true, List.length_append] at hi ⊢
        have hp := ptB_len l
        by_cases h2 : q < 2 * l.length
        · rw [List.take_append_of_le_length (by omega)]
          have := tyS_cut h h2 _ rfl
          rw [if_pos (by rw [this]; decide), this]
        · rw [List.take_append, List.take_of_length_le (by omega), tyS_back h, if_neg (by first | decide | exact fun z => z rfl), prG_cut hI hK h (by omega), if_pos (by first | decide | (intro z; cases z))]
/-- With no parameters. -/
theorem pmR_nil (ts : List Ty) (lg : List Bool) : pmR [] 0 ts lg = ([], false, 0) ∧ ∀ x, pmR [x] 0 ts lg = ([], false, 5) := ⟨rfl, fun x => rfl⟩
theorem pmR_n {b : List Int} {n : Nat} {ts : List Ty} {lg : List Bool} (h0 : ¬ n = 0) (hn : n ≤ 65535) : pmR b (n : Int) ts lg = pmN b n ts lg := by
  unfold pmR
  rw [if_neg (by omega), if_neg (by omega), Int.toNat_natCast]

end Go.Proofs.Ytfgghgoonfamkaa
