/-
  A binary row turned into texts, plain: which values a binary row has, what their texts are, how long. No memory is named here. Conditions: at most 3,000 bytes.
-/
import Derived.Test.YtkcblnojgonblaaGreatDoorMRp
import Derived.Test.YtkcblnojgonblaaGreatDoorRwCon
import Derived.Test.YtkcblnojgonblaaGreatDoorMTo
namespace Go.Proofs.YtkcblnojgonblaaGreatDoor
open Go.RowKit
set_option linter.unusedVariables false
set_option linter.unusedSimpArgs false

theorem nDig_le (b : Int) (h : 0 ≤ b ∧ b < 18446744073709551616) : (Lib.itoa b).length ≤ 21 := by
  obtain ⟨n, rfl⟩ := Int.eq_ofNat_of_zero_le h.1
  rw [Lib.itoa_nonneg, Lib.decDigits_length]
  have := Lib.nDigits_le20 n (by omega)
  omega
theorem inr_b {x m : Int} (h : inr x m = true) : 0 ≤ x ∧ x ≤ m := by
  unfold inr at h
  simpa using h
/-- How long a value's text is. -/
theorem vaT_3000 {v : Va} {t : Int} {un : Bool} (hv : VaK v) (h : tOk v t un = true) (hs : v.t.size ≤ 3000) : (tb (vaT v t)).size ≤ 3000 := by
  rw [tb_size]
  unfold tOk at h
  simp only [Bool.and_eq_true] at h
  unfold vaT
  have hw := hv.w
  split
  · have := Lib.itoa_length_le v.i hv.i.1 hv.i.2; omega
  split
  · have h2 := nDig_le v.b hv.b; omega
  split
  · have p1 := pad_size v.w.y 4 hw.y
    have p2 := pad_size v.w.mo 2 hw.mo
    have p3 := pad_size v.w.d 2 hw.d
    have p4 := pad_size v.w.h 2 hw.h
    have p5 := minT_size v.w hw
    rw [tb_size] at p1 p2 p3 p4 p5
    unfold datT dayT
    split <;> simp <;> omega
  split
  · rename_i hk
    obtain ⟨q1, q2⟩ := ok_six h.1 hk
    have q1 := inr_b q1
    have q2 := inr_b q2
    have p1 := pad_size (24 * v.w.d + v.w.h) 2 ⟨by omega, by omega⟩
    have p5 := minT_size v.w hw
    rw [tb_size] at p1 p5
    unfold timT
    split <;> simp <;> omega
  · have : v.t.data.toList.length = v.t.size := by rw [Array.length_toList]; rfl
    omega
theorem vaT_b {v : Va} {t : Int} {un : Bool} (hv : VaK v) (h : tOk v t un = true) : (tb (vaT v t)).size ≤ v.t.size + 300 := by
  rw [tb_size]
  unfold tOk at h
  simp only [Bool.and_eq_true] at h
  unfold vaT
  have hw := hv.w
  split
  · have := Lib.itoa_length_le v.i hv.i.1 hv.i.2; omega
  split
  · have h2 := nDig_le v.b hv.b; omega
  split
  · have p1 := pad_size v.w.y 4 hw.y
    have p2 := pad_size v.w.mo 2 hw.mo
    have p3 := pad_size v.w.d 2 hw.d
    have p4 := pad_size v.w.h 2 hw.h
    have p5 := minT_size v.w hw
    rw [tb_size] at p1 p2 p3 p4 p5
    unfold datT dayT
    split <;> simp <;> omega
  split
  · rename_i hk
    obtain ⟨q1, q2⟩ := ok_six h.1 hk
    have q1 := inr_b q1
    have q2 := inr_b q2
    have p1 := pad_size (24 * v.w.d + v.w.h) 2 ⟨by omega, by omega⟩
    have p5 := minT_size v.w hw
    rw [tb_size] at p1 p5
    unfold timT
    split <;> simp <;> omega
  · have : v.t.data.toList.length = v.t.size := by rw [Array.length_toList]; rfl
    omega
/-- Has it no text, as a type? -/
def noT (p : Ty) : Bool := (p.t == 4) || (p.t == 5)
/-- A value of a binary row as one of a text row. -/
def tuV (v : Va) (p : Ty) : Va := if v.k = 0 then v else ⟨7, 0, 0, (txR v p.t p.un).1, wh0⟩
def tuL (l : List Va) (ts : List Ty) : List Va := l.mapIdx fun i v => tuV v (ts.getD i ty0)
/-- .. the first j alone. -/
def tuM (l : List Va) (ts : List Ty) (j : Nat) : List Va := l.mapIdx fun i v => if i < j then tuV v (ts.getD i ty0) else v
/-- What Turned answers. -/
def tuR (b : List Int) (ts : List Ty) : List Int × Int :=
  if (rbR b ts).2 ≠ 0 then ([], (rbR b ts).2) else if ts.any noT = true then ([], 2) else (rtB (tuL (rbR b ts).1 ts), 0)
theorem tuM_0 (l : List Va) (ts : List Ty) : tuM l ts 0 = l := by
  unfold tuM
  apply List.ext_getElem?
  intro i
  rw [List.getElem?_mapIdx]
  cases l[i]? <;> simp
theorem tuM_n (l : List Va) (ts : List Ty) {n : Nat} (h : l.length ≤ n) : tuM l ts n = tuL l ts := by
  unfold tuM tuL
  apply List.ext_getElem?
  intro i
  rw [List.getElem?_mapIdx, List.getElem?_mapIdx]
  by_cases hi : i < l.length
  · rw [List.getElem?_eq_getElem hi]
    simp only [Option.map_some, if_pos (show i < n by omega)]
  · rw [List.getElem?_eq_none (by omega)]
    rfl
theorem tuM_at {l : List Va} {ts : List Ty} {j : Nat} {v : Va} (h : l[j]? = some v) : (tuM l ts j)[j]? = some v := by
  unfold tuM
  rw [List.getElem?_mapIdx, h]
  simp
theorem tuM_set {l : List Va} {ts : List Ty} {j : Nat} {v : Va} {p : Ty} (h : l[j]? = some v) (hp : ts[j]? = some p) : tuM l ts (j + 1) = (tuM l ts j).set j (tuV v p) := by
  have hg : ts.getD j ty0 = p := by rw [List.getD_eq_getElem?_getD, hp]; rfl
  have hj := (List.getElem?_eq_some_iff.1 h).1
  apply List.ext_getElem?
  intro i
  rw [List.getElem?_set]
  have hl : (tuM l ts j).length = l.length := by unfold tuM; simp
  by_cases hi : j = i
  · subst hi
    rw [if_pos rfl, hl, if_pos hj]
    unfold tuM
    rw [List.getElem?_mapIdx, h]
    simp only [Option.map_some, if_pos (Nat.lt_succ_self j), hg]
  · rw [if_neg hi]
    unfold tuM
    rw [List.getElem?_mapIdx, List.getElem?_mapIdx]
    cases l[i]? with
    | none => rfl
    | some x =>
      have : (i < j + 1) = (i < j) := by
        apply propext
        omega
      simp only [Option.map_some, this]
theorem tuM_same {l : List Va} {ts : List Ty} {j : Nat} {v : Va} {p : Ty} (h : l[j]? = some v) (hp : ts[j]? = some p) (hk : v.k = 0) : tuM l ts (j + 1) = tuM l ts j := by
  rw [tuM_set h hp, show tuV v p = v from if_pos hk]
  have h2 := tuM_at (ts := ts) h
  apply List.ext_getElem?
  intro i
  rw [List.getElem?_set]
  by_cases hi : j = i
  · subst hi
    have := (List.getElem?_eq_some_iff.1 h2).1
    rw [if_pos rfl, if_pos this, h2]
  · rw [if_neg hi]
/-- The values that a binary row has. -/
structure Rb (l : List Va) (ts : List Ty) : Prop where
  len : l.length = ts.length
  at' : ∀ (i : Nat) (v : Va) (p : Ty), l[i]? = some v → ts[i]? = some p → VaK v ∧ vOk v p.t p.un = true ∧ v.t.size ≤ 3000
theorem ok_size {v : Va} {t : Int} {un : Bool} (h : vOk v t un = true) : v.t.size ≤ (vaB v t).length := by
  obtain ⟨_, h2⟩ := ok_cases h
  rcases h2 with h2 | ⟨_, hk, h3⟩
  · rw [h2]; exact Nat.zero_le _
  · by_cases h7 : v.k = 7
    · unfold vaB
      rw [if_neg (by omega), if_neg (by omega), if_neg (by omega), if_neg (by omega), if_pos h7]
      unfold txB
      rw [List.length_append, nums_length]
      omega
    · have e : v.t = ⟨#[]⟩ := by
        unfold fit at h3
        split at h3
        · simp only [Bool.and_eq_true, decide_eq_true_eq] at h3
          rw [h3.1]
        split at h3
        · simp only [Bool.and_eq_true, decide_eq_true_eq] at h3
          rw [h3.1]
        split at h3
        · simp only [Bool.and_eq_true, decide_eq_true_eq] at h3
          rw [h3.1]
        split at h3
        · simp only [Bool.and_eq_true, decide_eq_true_eq] at h3
          rw [h3.1]
        first | (cases h3; done) | (rw [if_neg h7] at h3; cases h3)
      rw [e]
      exact Nat.zero_le _
theorem va0_K : VaK va0 := ⟨⟨by decide, by decide⟩, ⟨by decide, by decide⟩, ⟨by decide, by decide⟩, ⟨⟨by decide, by decide⟩, ⟨by decide, by decide⟩, ⟨by decide, by decide⟩, ⟨by decide, by decide⟩, ⟨by decide, by decide⟩, ⟨by decide, by decide⟩, ⟨by decide, by decide⟩⟩⟩
theorem va0_ok {p : Ty} (h : unk p = false) : vOk va0 p.t p.un = true := by
  unfold unk at h
  have h1 : ¬ kdV p.t p.un < 0 := by simpa using h
  unfold vOk mb
  have h2 : kdV p.t p.un ≠ -1 := by omega
  simp [h2]
theorem bx_ok {nl : List Int} {ts : List Ty} {i : Nat} {b : List Int} {p : Ty} (hp : ts[i]? = some p) (hu : unk p = false) (hb : Byt b) (hl : b.length ≤ 3000) (h : (bx nl ts i b).2.2 = 0) : VaK (bx nl ts i b).1 ∧ vOk (bx nl ts i b).1 p.t p.un = true ∧ (bx nl ts i b).1.t.size ≤ 3000 := by
  have hg : ts.getD i ty0 = p := by rw [List.getD_eq_getElem?_getD, hp]; rfl
  unfold bx at h ⊢
  rw [hg] at h ⊢
  split
  · exact ⟨va0_K, va0_ok hu, Nat.zero_le _⟩
  · rename_i hn
    rw [if_neg hn] at h
    obtain ⟨h1, h2, h3, h4, h5⟩ := rdV_ok hb (by omega) h
    unfold bOk at h2
    simp only [Bool.and_eq_true] at h2
    have h6 := ok_size h2.1
    exact ⟨h1, h2.1, by simp only; omega⟩
theorem bx_byt {nl : List Int} {ts : List Ty} {i : Nat} {b : List Int} (hb : Byt b) : Byt (bx nl ts i b).2.1 := by
  unfold bx rdL
  split
  · exact hb
  · exact fun x hx => hb x (List.mem_of_mem_drop hx)
theorem bg_byt {nl : List Int} {ts : List Ty} {b : List Int} (hb : Byt b) : ∀ j, Byt (gst (bx nl ts) j b).2.1
  | 0 => hb
  | j + 1 => by
    have ih := bg_byt (nl := nl) (ts := ts) hb j
    have h2 := bx_byt (nl := nl) (ts := ts) (i := j) ih
    unfold gst
    split
    · exact ih
    · split <;> exact h2
theorem bg_ok {nl : List Int} {ts : List Ty} {b : List Int} (hu : ∀ p ∈ ts, unk p = false) (hb : Byt b) (hl : b.length ≤ 3000) : ∀ j, j ≤ ts.length → (gst (bx nl ts) j b).2.2 = 0 → ∀ (i : Nat) (v : Va) (p : Ty), (gst (bx nl ts) j b).1[i]? = some v → ts[i]? = some p → VaK v ∧ vOk v p.t p.un = true ∧ v.t.size ≤ 3000
  | 0, _, _ => by intro i v p hv; simp [gst] at hv
  | j + 1, hj, h => by
    intro i v p hv hp
    have h0 : (gst (bx nl ts) j b).2.2 = 0 := by
      apply Classical.byContradiction
      intro q
      have := gst_up (f := bx nl ts) (b := b) q 1
      rw [this] at h
      exact q h
    have hlen := gst_len (f := bx nl ts) (b := b) h0
    have ih := bg_ok hu hb hl j (by omega) h0
    have hB := bg_byt (nl := nl) (ts := ts) hb j
    have hL := bg_len nl ts b j
    unfold gst at h hv
    rw [if_neg (fun z => z h0)] at h hv
    by_cases hx : (bx nl ts j (gst (bx nl ts) j b).2.1).2.2 ≠ 0
    · rw [if_pos hx] at h
      exact absurd h hx
    · rw [if_neg hx] at hv
      simp only at hv
      have hx : (bx nl ts j (gst (bx nl ts) j b).2.1).2.2 = 0 := Classical.not_not.1 hx
      by_cases hi : i < j
      · rw [List.getElem?_append_left (by omega)] at hv
        exact ih i v p hv hp
      · rw [List.getElem?_append_right (by omega), hlen] at hv
        by_cases hij : i = j
        · subst hij
          rw [Nat.sub_self] at hv
          simp at hv
          subst hv
          exact bx_ok hp (hu p (List.mem_of_getElem? hp)) hB (by omega) hx
        · rw [List.getElem?_eq_none (by simp; omega)] at hv
          cases hv
theorem rb_ok {b : List Int} {ts : List Ty} (hb : Byt b) (hl : b.length ≤ 3000) (h : (rbR b ts).2 = 0) : Rb (rbR b ts).1 ts := by
  unfold rbR at h ⊢
  by_cases h1 : 4096 < ts.length
  · rw [if_pos h1] at h; exact absurd h (by decide)
  rw [if_neg h1] at h ⊢
  by_cases h2 : ts.any (fun p => decide (kdV p.t p.un < 0)) = true
  · rw [if_pos h2] at h; exact absurd h (by decide)
  rw [if_neg h2] at h ⊢
  by_cases h3 : nuE b ts ≠ 0
  · rw [if_pos h3] at h; exact absurd h h3
  rw [if_neg h3] at h ⊢
  have hu : ∀ p ∈ ts, unk p = false := by
    intro p hp
    apply Classical.byContradiction
    intro q
    apply h2
    exact List.any_eq_true.2 ⟨p, hp, by simpa [unk] using q⟩
  have hB : Byt (nuL b ts.length) := fun x hx => hb x (List.mem_of_mem_drop hx)
  have hL : (nuL b ts.length).length ≤ 3000 := by unfold nuL; rw [List.length_drop]; omega
  unfold gat at h ⊢
  by_cases h4 : (gst (bx (nuB b ts.length) ts) ts.length (nuL b ts.length)).2.2 ≠ 0
  · rw [if_pos h4] at h; exact absurd h h4
  rw [if_neg h4] at h ⊢
  by_cases h5 : (gst (bx (nuB b ts.length) ts) ts.length (nuL b ts.length)).2.1.length ≠ 0
  · rw [if_pos h5] at h; exact absurd h (by decide)
  rw [if_neg h5] at h ⊢
  have h4 := Classical.not_not.1 h4
  exact ⟨gst_len h4, bg_ok hu hB hL ts.length (Nat.le_refl _) h4⟩
theorem kd_34 {t : Int} {un : Bool} (h : kdV t un = 3 ∨ kdV t un = 4) : t = 4 ∨ t = 5 := by
  unfold kdV at h
  repeat' split at h
  all_goals first | (exact .inl ‹_›) | (exact .inr ‹_›) | (exfalso; omega)
/-- One value's text. -/
theorem tu_ok {v : Va} {p : Ty} (hK : VaK v) (hO : vOk v p.t p.un = true) (hs : v.t.size ≤ 3000) (hn : noT p = false) (hk : ¬ v.k = 0) : tOk v p.t p.un = true := by
  obtain ⟨h1, h2⟩ := ok_cases hO
  have h3 : v.k = kdV p.t p.un := by
    rcases h2 with h2 | h2
    · rw [h2] at hk; exact absurd rfl hk
    · exact h2.2.1
  unfold tOk
  rw [hO, Bool.true_and]
  unfold hasT
  unfold noT at hn
  simp only [Bool.or_eq_false_iff, beq_eq_false_iff_ne] at hn
  have h5 : ¬ (v.k = 3 ∨ v.k = 4) := by
    rw [h3]
    intro q
    rcases kd_34 q with q | q
    · exact hn.1 q
    · exact hn.2 q
  have h6 : v.k ≠ -1 := by rw [h3]; exact h1
  have e1 : (v.k == -1) = false := by simpa using h6
  have e2 : (v.k == 0) = false := by simpa using hk
  have e3 : (v.k == 3) = false := by simpa using fun z => h5 (.inl z)
  have e4 : (v.k == 4) = false := by simpa using fun z => h5 (.inr z)
  rw [e1, e2, e3, e4]
  rfl
theorem tx_ok {v : Va} {p : Ty} (h : tOk v p.t p.un = true) : txR v p.t p.un = (tb (vaT v p.t), 0) := if_pos h
theorem tuV_K {v : Va} {p : Ty} (hK : VaK v) (hO : vOk v p.t p.un = true) (hs : v.t.size ≤ 3000) (hn : noT p = false) : VaK (tuV v p) ∧ (tuV v p).t.size ≤ 3000 ∧ vOk (tuV v p) 253 false = true := by
  unfold tuV
  by_cases hk : v.k = 0
  · rw [if_pos hk, ok_nul hO hk]
    exact ⟨va0_K, Nat.zero_le _, by kernel_rfl⟩
  · rw [if_neg hk]
    have ht := tu_ok hK hO hs hn hk
    rw [tx_ok ht]
    have h3 := vaT_3000 hK ht hs
    refine ⟨⟨⟨(by decide : (-9223372036854775808 : Int) ≤ 7), (by decide : (7 : Int) ≤ 9223372036854775807)⟩, ⟨(by decide : (-9223372036854775808 : Int) ≤ 0), (by decide : (0 : Int) ≤ 9223372036854775807)⟩, ⟨(by decide : (0 : Int) ≤ 0), (by decide : (0 : Int) < 18446744073709551616)⟩, va0_K.w⟩, h3, ?_⟩
    have e : kdV 253 false = 7 := by kernel_rfl
    unfold vOk mb
    rw [e]
    unfold fit
    simp only [Bool.and_eq_true, Bool.or_eq_true, decide_eq_true_eq]
    refine ⟨by decide, .inr ⟨trivial, ?_⟩⟩
    simp
    omega
theorem tuL_at {l : List Va} {ts : List Ty} (h : Rb l ts) (hn : ts.any noT = false) {i : Nat} {u : Va} (hu : (tuL l ts)[i]? = some u) : ∃ v p, l[i]? = some v ∧ ts[i]? = some p ∧ u = tuV v p ∧ noT p = false := by
  unfold tuL at hu
  rw [List.getElem?_mapIdx] at hu
  cases hv : l[i]? with
  | none => rw [hv] at hu; cases hu
  | some v =>
    rw [hv] at hu
    have hi := (List.getElem?_eq_some_iff.1 hv).1
    obtain ⟨p, hp⟩ : ∃ p, ts[i]? = some p := ⟨_, List.getElem?_eq_getElem (by rw [← h.len]; exact hi)⟩
    have hg : ts.getD i ty0 = p := by rw [List.getD_eq_getElem?_getD, hp]; rfl
    simp only [Option.map_some, hg, Option.some.injEq] at hu
    refine ⟨v, p, rfl, hp, hu.symm, ?_⟩
    have := List.any_eq_false.1 hn p (List.mem_of_getElem? hp)
    simpa using this
theorem tuL_K {l : List Va} {ts : List Ty} (h : Rb l ts) (hn : ts.any noT = false) : ∀ u ∈ tuL l ts, VaK u ∧ u.t.size ≤ 3000 := by
  intro u hu
  obtain ⟨i, hi⟩ := List.mem_iff_getElem?.1 hu
  obtain ⟨v, p, hv, hp, rfl, hq⟩ := tuL_at h hn hi
  obtain ⟨h1, h2, h3⟩ := h.at' i v p hv hp
  have := tuV_K h1 h2 h3 hq
  exact ⟨this.1, this.2.1⟩
theorem tuL_ok {l : List Va} {ts : List Ty} (h : Rb l ts) (hn : ts.any noT = false) : rtOk (tuL l ts) = true := by
  unfold rtOk
  rw [List.all_eq_true]
  intro u hu
  obtain ⟨i, hi⟩ := List.mem_iff_getElem?.1 hu
  obtain ⟨v, p, hv, hp, rfl, hq⟩ := tuL_at h hn hi
  obtain ⟨h1, h2, h3⟩ := h.at' i v p hv hp
  exact (tuV_K h1 h2 h3 hq).2.2
theorem tuL_len (l : List Va) (ts : List Ty) : (tuL l ts).length = l.length := by unfold tuL; simp
theorem tuV_b {v : Va} {p : Ty} (hK : VaK v) (hO : vOk v p.t p.un = true) (hs : v.t.size ≤ 3000) (hn : noT p = false) : (tuV v p).t.size ≤ v.t.size + 300 := by
  unfold tuV
  by_cases hk : v.k = 0
  · rw [if_pos hk]; omega
  · rw [if_neg hk]
    have ht := tu_ok hK hO hs hn hk
    rw [tx_ok ht]
    exact vaT_b hK ht
theorem sum_two : ∀ (l m : List Va), m.length = l.length → (∀ (i : Nat) (u v : Va), m[i]? = some u → l[i]? = some v → u.t.size ≤ v.t.size + 300) → (m.map fun v => v.t.size).sum ≤ (l.map fun v => v.t.size).sum + 300 * l.length
  | [], [], _, _ => by simp
  | [], _ :: _, h, _ => by simp at h
  | _ :: _, [], h, _ => by simp at h
  | v :: l, u :: m, h, hc => by
    have h0 := hc 0 u v rfl rfl
    have ih := sum_two l m (by simpa using h) (fun i a b ha hb => hc (i + 1) a b (by simpa using ha) (by simpa using hb))
    simp only [List.map_cons, List.sum_cons, List.length_cons]
    omega
theorem tuL_sum {l : List Va} {ts : List Ty} (h : Rb l ts) (hn : ts.any noT = false) : ((tuL l ts).map fun v => v.t.size).sum ≤ (l.map fun v => v.t.size).sum + 300 * l.length := by
  refine sum_two l (tuL l ts) (tuL_len l ts) (fun i u v hu hv => ?_)
  obtain ⟨v', p, hv', hp, rfl, hq⟩ := tuL_at h hn hu
  rw [hv] at hv'
  injection hv' with e
  subst e
  obtain ⟨h1, h2, h3⟩ := h.at' i v p hv hp
  exact tuV_b h1 h2 h3 hq

end Go.Proofs.YtkcblnojgonblaaGreatDoor
