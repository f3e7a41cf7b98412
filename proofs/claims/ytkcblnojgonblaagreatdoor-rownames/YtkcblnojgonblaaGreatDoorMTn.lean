/-
  A binary row turned into texts, plain: which values a binary row has, what their texts are, how long. No memory is named here. Conditions: at most 3,000 bytes.
  What ReadBinary of package row returns. It writes nothing that was there. Conditions: the slices can be read, at most 100,000 bytes; types are bytes.
  A value stored into a row of values of the call's own: where it lies, what then lies there. Conditions: the place is one of the row's.
  What Turned of package row returns: the text row of a binary row's values. It writes nothing that was there. Conditions: the library's variables read as their initialisers lay them; at most 100,000 bytes, 60 types; types are bytes; the values' texts have at most 3,000 bytes.
-/
import Derived.Test.YtkcblnojgonblaaGreatDoorMRp
import Derived.Test.YtkcblnojgonblaaGreatDoorRwCon
import Derived.Test.YtkcblnojgonblaaGreatDoorMTo
import Derived.Test.YtkcblnojgonblaaGreatDoorMTm
import Derived.Test.YtkcblnojgonblaaGreatDoorRwApp
import Derived.BigQuiet
import Derived.Deep.RegionHeld3
namespace Go.Proofs.YtkcblnojgonblaaGreatDoor
open Go.RowKit
set_option linter.unusedVariables false
set_option linter.unusedSimpArgs false

theorem nDig_le (b : Int) (h : 0 ≤ b ∧ b < 18446744073709551616) : (Lib.itoa b).length ≤ 21 := by
  obtain ⟨n, rfl⟩ := Int.eq_ofNat_of_zero_le h.1
  rw [Lib.itoa_nonneg, Lib.decDigits_length]
  have := Lib.nDigits_le20 n (by omega)
  omega
theorem inr_b {x m : Int} (h : inr x m = true) : 0 ≤ x ∧ x ≤ m := by
  unfold inr at h
  simpa using h
/-- How long a value's text is. -/
theorem vaT_3000 {v : Va} {t : Int} {un : Bool} (hv : VaK v) (h : tOk v t un = true) (hs : v.t.size ≤ 3000) : (tb (vaT v t)).size ≤ 3000 := by
  rw [tb_size]
  unfold tOk at h
  simp only [Bool.and_eq_true] at h
  unfold vaT
  have hw := hv.w
  split
  · have := Lib.itoa_length_le v.i hv.i.1 hv.i.2; omega
  split
  · have h2 := nDig_le v.b hv.b; omega
  split
  · have p1 := pad_size v.w.y 4 hw.y
    have p2 := pad_size v.w.mo 2 hw.mo
    have p3 := pad_size v.w.d 2 hw.d
    have p4 := pad_size v.w.h 2 hw.h
    have p5 := minT_size v.w hw
    rw [tb_size] at p1 p2 p3 p4 p5
    unfold datT dayT
    split <;> simp <;> omega
  split
  · rename_i hk
    obtain ⟨q1, q2⟩ := ok_six h.1 hk
    have q1 := inr_b q1
    have q2 := inr_b q2
    have p1 := pad_size (24 * v.w.d + v.w.h) 2 ⟨by omega, by omega⟩
    have p5 := minT_size v.w hw
    rw [tb_size] at p1 p5
    unfold timT
    split <;> simp <;> omega
  · have : v.t.data.toList.length = v.t.size := by rw [Array.length_toList]; rfl
    omega
theorem vaT_b {v : Va} {t : Int} {un : Bool} (hv : VaK v) (h : tOk v t un = true) : (tb (vaT v t)).size ≤ v.t.size + 300 := by
  rw [tb_size]
  unfold tOk at h
  simp only [Bool.and_eq_true] at h
  unfold vaT
  have hw := hv.w
  split
  · have := Lib.itoa_length_le v.i hv.i.1 hv.i.2; omega
  split
  · have h2 := nDig_le v.b hv.b; omega
  split
  · have p1 := pad_size v.w.y 4 hw.y
    have p2 := pad_size v.w.mo 2 hw.mo
    have p3 := pad_size v.w.d 2 hw.d
    have p4 := pad_size v.w.h 2 hw.h
    have p5 := minT_size v.w hw
    rw [tb_size] at p1 p2 p3 p4 p5
    unfold datT dayT
    split <;> simp <;> omega
  split
  · rename_i hk
    obtain ⟨q1, q2⟩ := ok_six h.1 hk
    have q1 := inr_b q1
    have q2 := inr_b q2
    have p1 := pad_size (24 * v.w.d + v.w.h) 2 ⟨by omega, by omega⟩
    have p5 := minT_size v.w hw
    rw [tb_size] at p1 p5
    unfold timT
    split <;> simp <;> omega
  · have : v.t.data.toList.length = v.t.size := by rw [Array.length_toList]; rfl
    omega
/-- Has it no text, as a type? -/
def noT (p : Ty) : Bool := (p.t == 4) || (p.t == 5)
/-- A value of a binary row as one of a text row. -/
def tuV (v : Va) (p : Ty) : Va := if v.k = 0 then v else ⟨7, 0, 0, (txR v p.t p.un).1, wh0⟩
def tuL (l : List Va) (ts : List Ty) : List Va := l.mapIdx fun i v => tuV v (ts.getD i ty0)
/-- .. the first j alone. -/
def tuM (l : List Va) (ts : List Ty) (j : Nat) : List Va := l.mapIdx fun i v => if i < j then tuV v (ts.getD i ty0) else v
/-- What Turned answers. -/
def tuR (b : List Int) (ts : List Ty) : List Int × Int :=
  if (rbR b ts).2 ≠ 0 then ([], (rbR b ts).2) else if ts.any noT = true then ([], 2) else (rtB (tuL (rbR b ts).1 ts), 0)
theorem tuM_0 (l : List Va) (ts : List Ty) : tuM l ts 0 = l := by
  unfold tuM
  apply List.ext_getElem?
  intro i
  rw [List.getElem?_mapIdx]
  cases l[i]? <;> simp
theorem tuM_n (l : List Va) (ts : List Ty) {n : Nat} (h : l.length ≤ n) : tuM l ts n = tuL l ts := by
  unfold tuM tuL
  apply List.ext_getElem?
  intro i
  rw [List.getElem?_mapIdx, List.getElem?_mapIdx]
  by_cases hi : i < l.length
  · rw [List.getElem?_eq_getElem hi]
    simp only [Option.map_some, if_pos (show i < n by omega)]
  · rw [List.getElem?_eq_none (by omega)]
    rfl
theorem tuM_at {l : List Va} {ts : List Ty} {j : Nat} {v : Va} (h : l[j]? = some v) : (tuM l ts j)[j]? = some v := by
  unfold tuM
  rw [List.getElem?_mapIdx, h]
  simp
theorem tuM_set {l : List Va} {ts : List Ty} {j : Nat} {v : Va} {p : Ty} (h : l[j]? = some v) (hp : ts[j]? = some p) : tuM l ts (j + 1) = (tuM l ts j).set j (tuV v p) := by
  have hg : ts.getD j ty0 = p := by rw [List.getD_eq_getElem?_getD, hp]; rfl
  have hj := (List.getElem?_eq_some_iff.1 h).1
  apply List.ext_getElem?
  intro i
  rw [List.getElem?_set]
  have hl : (tuM l ts j).length = l.length := by unfold tuM; simp
  by_cases hi : j = i
  · subst hi
    rw [if_pos rfl, hl, if_pos hj]
    unfold tuM
    rw [List.getElem?_mapIdx, h]
    simp only [Option.map_some, if_pos (Nat.lt_succ_self j), hg]
  · rw [if_neg hi]
    unfold tuM
    rw [List.getElem?_mapIdx, List.getElem?_mapIdx]
    cases l[i]? with
    | none => rfl
    | some x =>
      have : (i < j + 1) = (i < j) := by
        apply propext
        omega
      simp only [Option.map_some, this]
theorem tuM_same {l : List Va} {ts : List Ty} {j : Nat} {v : Va} {p : Ty} (h : l[j]? = some v) (hp : ts[j]? = some p) (hk : v.k = 0) : tuM l ts (j + 1) = tuM l ts j := by
  rw [tuM_set h hp, show tuV v p = v from if_pos hk]
  have h2 := tuM_at (ts := ts) h
  apply List.ext_getElem?
  intro i
  rw [List.getElem?_set]
  by_cases hi : j = i
  · subst hi
    have := (List.getElem?_eq_some_iff.1 h2).1
    rw [if_pos rfl, if_pos this, h2]
  · rw [if_neg hi]
/-- The values that a binary row has. -/
structure Rb (l : List Va) (ts : List Ty) : Prop where
  len : l.length = ts.length
  at' : ∀ (i : Nat) (v : Va) (p : Ty), l[i]? = some v → ts[i]? = some p → VaK v ∧ vOk v p.t p.un = true ∧ v.t.size ≤ 3000
theorem ok_size {v : Va} {t : Int} {un : Bool} (h : vOk v t un = true) : v.t.size ≤ (vaB v t).length := by
  obtain ⟨_, h2⟩ := ok_cases h
  rcases h2 with h2 | ⟨_, hk, h3⟩
  · rw [h2]; exact Nat.zero_le _
  · by_cases h7 : v.k = 7
    · unfold vaB
      rw [if_neg (by omega), if_neg (by omega), if_neg (by omega), if_neg (by omega), if_pos h7]
      unfold txB
      rw [List.length_append, nums_length]
      omega
    · have e : v.t = ⟨#[]⟩ := by
        unfold fit at h3
        split at h3
        · simp only [Bool.and_eq_true, decide_eq_true_eq] at h3
          rw [h3.1]
        split at h3
        · simp only [Bool.and_eq_true, decide_eq_true_eq] at h3
          rw [h3.1]
        split at h3
        · simp only [Bool.and_eq_true, decide_eq_true_eq] at h3
          rw [h3.1]
        split at h3
        · simp only [Bool.and_eq_true, decide_eq_true_eq] at h3
          rw [h3.1]
        first | (cases h3; done) | (rw [if_neg h7] at h3; cases h3)
      rw [e]
      exact Nat.zero_le _
theorem va0_K : VaK va0 := ⟨⟨by decide, by decide⟩, ⟨by decide, by decide⟩, ⟨by decide, by decide⟩, ⟨⟨by decide, by decide⟩, ⟨by decide, by decide⟩, ⟨by decide, by decide⟩, ⟨by decide, by decide⟩, ⟨by decide, by decide⟩, ⟨by decide, by decide⟩, ⟨by decide, by decide⟩⟩⟩
theorem va0_ok {p : Ty} (h : unk p = false) : vOk va0 p.t p.un = true := by
  unfold unk at h
  have h1 : ¬ kdV p.t p.un < 0 := by simpa using h
  unfold vOk mb
  have h2 : kdV p.t p.un ≠ -1 := by omega
  simp [h2]
theorem bx_ok {nl : List Int} {ts : List Ty} {i : Nat} {b : List Int} {p : Ty} (hp : ts[i]? = some p) (hu : unk p = false) (hb : Byt b) (hl : b.length ≤ 3000) (h : (bx nl ts i b).2.2 = 0) : VaK (bx nl ts i b).1 ∧ vOk (bx nl ts i b).1 p.t p.un = true ∧ (bx nl ts i b).1.t.size ≤ 3000 := by
  have hg : ts.getD i ty0 = p := by rw [List.getD_eq_getElem?_getD, hp]; rfl
  unfold bx at h ⊢
  rw [hg] at h ⊢
  split
  · exact ⟨va0_K, va0_ok hu, Nat.zero_le _⟩
  · rename_i hn
    rw [if_neg hn] at h
    obtain ⟨h1, h2, h3, h4, h5⟩ := rdV_ok hb (by omega) h
    unfold bOk at h2
    simp only [Bool.and_eq_true] at h2
    have h6 := ok_size h2.1
    exact ⟨h1, h2.1, by simp only; omega⟩
theorem bx_byt {nl : List Int} {ts : List Ty} {i : Nat} {b : List Int} (hb : Byt b) : Byt (bx nl ts i b).2.1 := by
  unfold bx rdL
  split
  · exact hb
  · exact fun x hx => hb x (List.mem_of_mem_drop hx)
theorem bg_byt {nl : List Int} {ts : List Ty} {b : List Int} (hb : Byt b) : ∀ j, Byt (gst (bx nl ts) j b).2.1
  | 0 => hb
  | j + 1 => by
    have ih := bg_byt (nl := nl) (ts := ts) hb j
    have h2 := bx_byt (nl := nl) (ts := ts) (i := j) ih
    unfold gst
    split
    · exact ih
    · split <;> exact h2
theorem bg_ok {nl : List Int} {ts : List Ty} {b : List Int} (hu : ∀ p ∈ ts, unk p = false) (hb : Byt b) (hl : b.length ≤ 3000) : ∀ j, j ≤ ts.length → (gst (bx nl ts) j b).2.2 = 0 → ∀ (i : Nat) (v : Va) (p : Ty), (gst (bx nl ts) j b).1[i]? = some v → ts[i]? = some p → VaK v ∧ vOk v p.t p.un = true ∧ v.t.size ≤ 3000
  | 0, _, _ => by intro i v p hv; simp [gst] at hv
  | j + 1, hj, h => by
    intro i v p hv hp
    have h0 : (gst (bx nl ts) j b).2.2 = 0 := by
      apply Classical.byContradiction
      intro q
      have := gst_up (f := bx nl ts) (b := b) q 1
      rw [this] at h
      exact q h
    have hlen := gst_len (f := bx nl ts) (b := b) h0
    have ih := bg_ok hu hb hl j (by omega) h0
    have hB := bg_byt (nl := nl) (ts := ts) hb j
    have hL := bg_len nl ts b j
    unfold gst at h hv
    rw [if_neg (fun z => z h0)] at h hv
    by_cases hx : (bx nl ts j (gst (bx nl ts) j b).2.1).2.2 ≠ 0
    · rw [if_pos hx] at h
      exact absurd h hx
    · rw [if_neg hx] at hv
      simp only at hv
      have hx : (bx nl ts j (gst (bx nl ts) j b).2.1).2.2 = 0 := Classical.not_not.1 hx
      by_cases hi : i < j
      · rw [List.getElem?_append_left (by omega)] at hv
        exact ih i v p hv hp
      · rw [List.getElem?_append_right (by omega), hlen] at hv
        by_cases hij : i = j
        · subst hij
          rw [Nat.sub_self] at hv
          simp at hv
          subst hv
          exact bx_ok hp (hu p (List.mem_of_getElem? hp)) hB (by omega) hx
        · rw [List.getElem?_eq_none (by simp; omega)] at hv
          cases hv
theorem rb_ok {b : List Int} {ts : List Ty} (hb : Byt b) (hl : b.length ≤ 3000) (h : (rbR b ts).2 = 0) : Rb (rbR b ts).1 ts := by
  unfold rbR at h ⊢
  by_cases h1 : 4096 < ts.length
  · rw [if_pos h1] at h; exact absurd h (by decide)
  rw [if_neg h1] at h ⊢
  by_cases h2 : ts.any (fun p => decide (kdV p.t p.un < 0)) = true
  · rw [if_pos h2] at h; exact absurd h (by decide)
  rw [if_neg h2] at h ⊢
  by_cases h3 : nuE b ts ≠ 0
  · rw [if_pos h3] at h; exact absurd h h3
  rw [if_neg h3] at h ⊢
  have hu : ∀ p ∈ ts, unk p = false := by
    intro p hp
    apply Classical.byContradiction
    intro q
    apply h2
    exact List.any_eq_true.2 ⟨p, hp, by simpa [unk] using q⟩
  have hB : Byt (nuL b ts.length) := fun x hx => hb x (List.mem_of_mem_drop hx)
  have hL : (nuL b ts.length).length ≤ 3000 := by unfold nuL; rw [List.length_drop]; omega
  unfold gat at h ⊢
  by_cases h4 : (gst (bx (nuB b ts.length) ts) ts.length (nuL b ts.length)).2.2 ≠ 0
  · rw [if_pos h4] at h; exact absurd h h4
  rw [if_neg h4] at h ⊢
  by_cases h5 : (gst (bx (nuB b ts.length) ts) ts.length (nuL b ts.length)).2.1.length ≠ 0
  · rw [if_pos h5] at h; exact absurd h (by decide)
  rw [if_neg h5] at h ⊢
  have h4 := Classical.not_not.1 h4
  exact ⟨gst_len h4, bg_ok hu hB hL ts.length (Nat.le_refl _) h4⟩
theorem kd_34 {t : Int} {un : Bool} (h : kdV t un = 3 ∨ kdV t un = 4) : t = 4 ∨ t = 5 := by
  unfold kdV at h
  repeat' split at h
  all_goals first | (exact .inl ‹_›) | (exact .inr ‹_›) | (exfalso; omega)
/-- One value's text. -/
theorem tu_ok {v : Va} {p : Ty} (hK : VaK v) (hO : vOk v p.t p.un = true) (hs : v.t.size ≤ 3000) (hn : noT p = false) (hk : ¬ v.k = 0) : tOk v p.t p.un = true := by
  obtain ⟨h1, h2⟩ := ok_cases hO
  have h3 : v.k = kdV p.t p.un := by
    rcases h2 with h2 | h2
    · rw [h2] at hk; exact absurd rfl hk
    · exact h2.2.1
  unfold tOk
  rw [hO, Bool.true_and]
  unfold hasT
  unfold noT at hn
  simp only [Bool.or_eq_false_iff, beq_eq_false_iff_ne] at hn
  have h5 : ¬ (v.k = 3 ∨ v.k = 4) := by
    rw [h3]
    intro q
    rcases kd_34 q with q | q
    · exact hn.1 q
    · exact hn.2 q
  have h6 : v.k ≠ -1 := by rw [h3]; exact h1
  have e1 : (v.k == -1) = false := by simpa using h6
  have e2 : (v.k == 0) = false := by simpa using hk
  have e3 : (v.k == 3) = false := by simpa using fun z => h5 (.inl z)
  have e4 : (v.k == 4) = false := by simpa using fun z => h5 (.inr z)
  rw [e1, e2, e3, e4]
  rfl
theorem tx_ok {v : Va} {p : Ty} (h : tOk v p.t p.un = true) : txR v p.t p.un = (tb (vaT v p.t), 0) := if_pos h
theorem tuV_K {v : Va} {p : Ty} (hK : VaK v) (hO : vOk v p.t p.un = true) (hs : v.t.size ≤ 3000) (hn : noT p = false) : VaK (tuV v p) ∧ (tuV v p).t.size ≤ 3000 ∧ vOk (tuV v p) 253 false = true := by
  unfold tuV
  by_cases hk : v.k = 0
  · rw [if_pos hk, ok_nul hO hk]
    exact ⟨va0_K, Nat.zero_le _, by kernel_rfl⟩
  · rw [if_neg hk]
    have ht := tu_ok hK hO hs hn hk
    rw [tx_ok ht]
    have h3 := vaT_3000 hK ht hs
    refine ⟨⟨⟨(by decide : (-9223372036854775808 : Int) ≤ 7), (by decide : (7 : Int) ≤ 9223372036854775807)⟩, ⟨(by decide : (-9223372036854775808 : Int) ≤ 0), (by decide : (0 : Int) ≤ 9223372036854775807)⟩, ⟨(by decide : (0 : Int) ≤ 0), (by decide : (0 : Int) < 18446744073709551616)⟩, va0_K.w⟩, h3, ?_⟩
    have e : kdV 253 false = 7 := by kernel_rfl
    unfold vOk mb
    rw [e]
    unfold fit
    simp only [Bool.and_eq_true, Bool.or_eq_true, decide_eq_true_eq]
    refine ⟨by decide, .inr ⟨trivial, ?_⟩⟩
    simp
    omega
theorem tuL_at {l : List Va} {ts : List Ty} (h : Rb l ts) (hn : ts.any noT = false) {i : Nat} {u : Va} (hu : (tuL l ts)[i]? = some u) : ∃ v p, l[i]? = some v ∧ ts[i]? = some p ∧ u = tuV v p ∧ noT p = false := by
  unfold tuL at hu
  rw [List.getElem?_mapIdx] at hu
  cases hv : l[i]? with
  | none => rw [hv] at hu; cases hu
  | some v =>
    rw [hv] at hu
    have hi := (List.getElem?_eq_some_iff.1 hv).1
    obtain ⟨p, hp⟩ : ∃ p, ts[i]? = some p := ⟨_, List.getElem?_eq_getElem (by rw [← h.len]; exact hi)⟩
    have hg : ts.getD i ty0 = p := by rw [List.getD_eq_getElem?_getD, hp]; rfl
    simp only [Option.map_some, hg, Option.some.injEq] at hu
    refine ⟨v, p, rfl, hp, hu.symm, ?_⟩
    have := List.any_eq_false.1 hn p (List.mem_of_getElem? hp)
    simpa using this
theorem tuL_K {l : List Va} {ts : List Ty} (h : Rb l ts) (hn : ts.any noT = false) : ∀ u ∈ tuL l ts, VaK u ∧ u.t.size ≤ 3000 := by
  intro u hu
  obtain ⟨i, hi⟩ := List.mem_iff_getElem?.1 hu
  obtain ⟨v, p, hv, hp, rfl, hq⟩ := tuL_at h hn hi
  obtain ⟨h1, h2, h3⟩ := h.at' i v p hv hp
  have := tuV_K h1 h2 h3 hq
  exact ⟨this.1, this.2.1⟩
theorem tuL_ok {l : List Va} {ts : List Ty} (h : Rb l ts) (hn : ts.any noT = false) : rtOk (tuL l ts) = true := by
  unfold rtOk
  rw [List.all_eq_true]
  intro u hu
  obtain ⟨i, hi⟩ := List.mem_iff_getElem?.1 hu
  obtain ⟨v, p, hv, hp, rfl, hq⟩ := tuL_at h hn hi
  obtain ⟨h1, h2, h3⟩ := h.at' i v p hv hp
  exact (tuV_K h1 h2 h3 hq).2.2
theorem tuL_len (l : List Va) (ts : List Ty) : (tuL l ts).length = l.length := by unfold tuL; simp
theorem tuV_b {v : Va} {p : Ty} (hK : VaK v) (hO : vOk v p.t p.un = true) (hs : v.t.size ≤ 3000) (hn : noT p = false) : (tuV v p).t.size ≤ v.t.size + 300 := by
  unfold tuV
  by_cases hk : v.k = 0
  · rw [if_pos hk]; omega
  · rw [if_neg hk]
    have ht := tu_ok hK hO hs hn hk
    rw [tx_ok ht]
    exact vaT_b hK ht
theorem sum_two : ∀ (l m : List Va), m.length = l.length → (∀ (i : Nat) (u v : Va), m[i]? = some u → l[i]? = some v → u.t.size ≤ v.t.size + 300) → (m.map fun v => v.t.size).sum ≤ (l.map fun v => v.t.size).sum + 300 * l.length
  | [], [], _, _ => by simp
  | [], _ :: _, h, _ => by simp at h
  | _ :: _, [], h, _ => by simp at h
  | v :: l, u :: m, h, hc => by
    have h0 := hc 0 u v rfl rfl
    have ih := sum_two l m (by simpa using h) (fun i a b ha hb => hc (i + 1) a b (by simpa using ha) (by simpa using hb))
    simp only [List.map_cons, List.sum_cons, List.length_cons]
    omega
theorem tuL_sum {l : List Va} {ts : List Ty} (h : Rb l ts) (hn : ts.any noT = false) : ((tuL l ts).map fun v => v.t.size).sum ≤ (l.map fun v => v.t.size).sum + 300 * l.length := by
  refine sum_two l (tuL l ts) (tuL_len l ts) (fun i u v hu hv => ?_)
  obtain ⟨v', p, hv', hp, rfl, hq⟩ := tuL_at h hn hu
  rw [hv] at hv'
  injection hv' with e
  subst e
  obtain ⟨h1, h2, h3⟩ := h.at' i v p hv hp
  exact tuV_b h1 h2 h3 hq

end Go.Proofs.YtkcblnojgonblaaGreatDoor

namespace Go.Proofs.YtkcblnojgonblaaGreatDoor
open Go.RowKit
set_option linter.unusedVariables false
set_option linter.unusedSimpArgs false

theorem tys_under {w : World} {ao : Option Addr} {n c : Nat} {l : List Ty} (h : Tys w ao n c l) : n = 0 ∨ ∀ k, ob ao k → k < w.heap.size := by
  rcases h.at' with h0 | ⟨b', off, e, hc⟩
  · exact .inl h0
  · by_cases hz : n = 0
    · exact .inl hz
    · right
      rintro k ⟨a, rfl, ha⟩
      obtain ⟨p, hp⟩ : ∃ p, l[0]? = some p := ⟨_, List.getElem?_eq_getElem (by rw [h.len]; omega)⟩
      have := (hc 0 p hp).lt
      simp at e
      subst e
      simp at ha this
      omega
theorem below_al2 {w : World} (x y : Obj) : Below w.heap.size w ((w.alloc x).alloc y) := (below_alloc w x).trans ((below_alloc _ y).mono (by simp))
theorem OutU.no {w : World} {bo : Option Addr} {b : List Int} {ts : List Ty} {e : Ending} {w' : World} (h : OutU w bo b ts e w') {E : Int} (hE : nuE b ts = E) (h0 : E ≠ 0) : e = .returned (.tuple #[.slice none 0 0, .slice none 0 0, .int .i64 E]) ∧ Below w.heap.size w w' := by
  unfold OutU at h
  rw [hE] at h
  rwa [if_neg h0] at h
theorem OutU.yes {w : World} {bo : Option Addr} {b : List Int} {ts : List Ty} {e : Ending} {w' : World} (h : OutU w bo b ts e w') (h0 : nuE b ts = 0) : ∃ no nn nc lo ln lc, e = .returned (.tuple #[.slice no nn nc, .slice lo ln lc, .int .i64 0]) ∧ Bs w' no nn nc (nuB b ts.length) ∧ Bs w' lo ln lc (nuL b ts.length) ∧ (∀ k, ob no k → ob bo k) ∧ (∀ k, ob lo k → ob bo k) ∧ Below w.heap.size w w' := by
  unfold OutU at h
  rwa [if_pos h0] at h
theorem nuB_len {b : List Int} {ts : List Ty} (hE : nuE b ts = 0) : (nuB b ts.length).length = (ts.length + 9) / 8 := by
  unfold nuE at hE
  repeat' split at hE
  all_goals first | (exact absurd hE (by decide)) | skip
  unfold nuB
  rw [List.length_take, List.length_drop]
  omega
/-- The world that gather begins in, and what it answers there. -/
theorem rb_gather (bo : Option Addr) (bn bc : Nat) (b : List Int) (tyo : Option Addr) (m tc : Nat) (ts : List Ty) (w w2 w3 : World) (no : Option Addr) (nn nc : Nat) (lo : Option Addr) (ln lc : Nat)
    (h : Below w.heap.size w w2 ∧ One w2 w.heap.size 24 (.slice tyo m tc) ∧ Bs w2 bo bn bc b ∧ Tys w2 tyo m tc ts) (hE : nuE b ts = 0) (x1 : Bs w3 no nn nc (nuB b ts.length)) (x2 : Bs w3 lo ln lc (nuL b ts.length)) (b3 : Below w2.heap.size w2 w3) (hs : w.heap.size < w2.heap.size) (hml : ts.length = m) (h4 : m ≤ 4096) (hT : ∀ p ∈ ts, 0 ≤ p.t ∧ p.t < 256) (hn : b.length ≤ 100000) :
    ((w3.alloc (.cells #[.slice no nn nc] 29)).alloc (.cells #[.slice lo ln lc] 29)).cell? ⟨w.heap.size, 0, none⟩ = some (.slice tyo m tc) ∧
    Calls Tryz.prog 22 #[.int .i64 (m : Int), (.func (.func 23) #[] #[.pointer (some ⟨w3.heap.size, 0, none⟩), .pointer (some ⟨w3.heap.size + 1, 0, none⟩), .pointer (some ⟨w.heap.size, 0, none⟩)]), (.func (.func 26) #[] #[.pointer (some ⟨w3.heap.size + 1, 0, none⟩)])] ((w3.alloc (.cells #[.slice no nn nc] 29)).alloc (.cells #[.slice lo ln lc] 29)) fun e w' => OutV ((w3.alloc (.cells #[.slice no nn nc] 29)).alloc (.cells #[.slice lo ln lc] 29)) (w3.heap.size + 1) (gat (bx (nuB b m) ts) m (nuL b m)) e w' := by
  obtain ⟨q1, q2, q3, q4⟩ := h
  have h3 := b3.size
  have r0 : (w3.alloc (.cells #[.slice no nn nc] 29)).heap[w3.heap.size]? = some (.cells #[.slice no nn nc] 29 (0, 0)) := heap_alloc_new w3 _
  have z0 : (w3.alloc (.cells #[.slice no nn nc] 29)).heap.size = w3.heap.size + 1 := by simp
  have r1 := heap_alloc_new (w3.alloc (.cells #[.slice no nn nc] 29)) (.cells #[.slice lo ln lc] 29)
  rw [z0] at r1
  have bA := below_al2 (w := w3) (.cells #[.slice no nn nc] 29) (.cells #[.slice lo ln lc] 29)
  have bB := below_alloc (w3.alloc (.cells #[.slice no nn nc] 29)) (.cells #[.slice lo ln lc] 29)
  have zG : ((w3.alloc (.cells #[.slice no nn nc] 29)).alloc (.cells #[.slice lo ln lc] 29)).heap.size = w3.heap.size + 2 := by simp
  have o3 : One w3 w.heap.size 24 (.slice tyo m tc) := q2.later b3
  have oN : One ((w3.alloc (.cells #[.slice no nn nc] 29)).alloc (.cells #[.slice lo ln lc] 29)) w3.heap.size 29 (.slice no nn nc) := One.later (w := w3.alloc (.cells #[.slice no nn nc] 29)) r0 bB
  have t3 := q4.later b3
  refine ⟨(o3.later bA).cell, ?_⟩
  subst hml
  refine gatherB_any ts.length w3.heap.size (w3.heap.size + 1) w.heap.size (nuB b ts.length) ts (nuL b ts.length) _ ⟨lo, ln, lc, r1, x2.later bA, ?_⟩ ⟨⟨no, nn, nc, oN, x1.later bA, ?_⟩, ⟨tyo, ts.length, tc, o3.later bA, t3.later bA, ?_⟩, by omega, by omega⟩ rfl ?_ hT h4 ?_ ?_
  · exact (bs_under x2).imp id (fun z k hk => by have := z k hk; omega)
  · exact (bs_under x1).imp id (fun z k hk => by have := z k hk; omega)
  · exact (tys_under t3).imp id (fun z k hk => by have := z k hk; omega)
  · rw [nuB_len hE]; omega
  · unfold nuL; rw [List.length_drop]; omega
  · rw [zG]; omega
theorem rb_end {w w2 w3 w' : World} {x y : Obj} (h : Below w.heap.size w w2) (b3 : Below w2.heap.size w2 w3) (hg : Gb (w3.heap.size + 1) ((w3.alloc x).alloc y) w') : Below w.heap.size w w' := by
  have k := vbup (vbup h b3) (below_al2 x y)
  have s1 := (vbup h b3).size
  exact ⟨hg.os.trans k.os, hg.tape.trans k.tape, hg.output.trans k.output, Nat.le_trans k.size hg.size, fun i hi => (hg.block i (Nat.lt_of_lt_of_le hi k.size) (by omega)).trans (k.block i hi)⟩
theorem rb_size {w w2 w3 : World} {x y : Obj} (h : Below w.heap.size w w2) (b3 : Below w2.heap.size w2 w3) : w.heap.size ≤ ((w3.alloc x).alloc y).heap.size := (vbup (vbup h b3) (below_al2 x y)).size
theorem any_unk (ts : List Ty) : ts.any (fun p => decide (kdV p.t p.un < 0)) = ts.any unk := rfl

set_option maxHeartbeats 4000000 in
set_option maxRecDepth 100000 in
theorem readBin_any (bo : Option Addr) (bn bc : Nat) (b : List Int) (tyo : Option Addr) (m tc : Nat) (ts : List Ty) (w : World) (hb : Bs w bo bn bc b) (ht : Tys w tyo m tc ts) (hT : ∀ p ∈ ts, 0 ≤ p.t ∧ p.t < 256) (hn : b.length ≤ 100000) :
    Calls Tryz.prog 6 #[.slice bo bn bc, .slice tyo m tc] w fun e w' => OutW w (rbR b ts) e w' := by
  obtain ⟨RES, hRES⟩ : ∃ z, z = rbR b ts := ⟨_, rfl⟩
  rw [← hRES]
  have hml := ht.len
  have hle := ht.le
  have hmx := ht.max
  have hbl := hb.len
  have b1 := below_alloc w (.cells #[.slice tyo m tc] 24)
  have r1 := heap_alloc_new w (.cells #[.slice tyo m tc] 24)
  have z1 : (w.alloc (.cells #[.slice tyo m tc] 24)).heap.size = w.heap.size + 1 := by simp
  have O1 : One (w.alloc (.cells #[.slice tyo m tc] 24)) w.heap.size 24 (.slice tyo m tc) := r1
  have c1 := O1.cell
  by_cases h4 : 4096 < m
  · have g1 : ((4096 : Nat) : Int) < (m : Int) := by omega
    have HR := hide (show RES = ([], 3) by rw [hRES]; exact if_pos (by omega))
    have B1 := hide b1
    clear hRES hb ht b1 r1 O1
    go_enter Tryz.func6, Tryz.ntmps6
    go_wp2_with fail
    go_ret2
    rw [unhide HR]
    exact ⟨none, 0, 0, rfl, VMine.nought _ _, unhide B1⟩
  have g1 : ¬ ((4096 : Int) < (m : Int)) := by omega
  have cC := hide (contains_any tyo m tc ts (w.alloc (.cells #[.slice tyo m tc] 24)) (ht.later b1) hT)
  have HR := hide (show RES = if ts.any unk = true then ([], 2) else if nuE b ts ≠ 0 then ([], nuE b ts) else gat (bx (nuB b ts.length) ts) ts.length (nuL b ts.length) by rw [hRES]; unfold rbR; rw [if_neg (by omega)]; rfl)
  have H1 := hide (show Below w.heap.size w (w.alloc (.cells #[.slice tyo m tc] 24)) ∧ One (w.alloc (.cells #[.slice tyo m tc] 24)) w.heap.size 24 (.slice tyo m tc) ∧ Bs (w.alloc (.cells #[.slice tyo m tc] 24)) bo bn bc b ∧ Tys (w.alloc (.cells #[.slice tyo m tc] 24)) tyo m tc ts from ⟨b1, O1, hb.later b1, ht.later b1⟩)
  have HT := hide hT
  have HU := hide (bs_under hb)
  have HV := hide (tys_under ht)
  have hsz1 := b1.size
  clear hRES hb ht b1 r1 O1 hT
  go_enter Tryz.func6, Tryz.ntmps6
  go_wp2_with fail
  refine (unhide cC).mono ?_
  rintro e w2 ⟨rfl, b2⟩
  obtain ⟨q1, q2, q3, q4⟩ := unhide H1
  have H2 := hide (show Below w.heap.size w w2 ∧ One w2 w.heap.size 24 (.slice tyo m tc) ∧ Bs w2 bo bn bc b ∧ Tys w2 tyo m tc ts from ⟨q1.trans (b2.mono q1.size), q2.later b2, q3.later b2, q4.later b2⟩)
  have hsz2 := b2.size
  clear b2 cC q1 q2 q3 q4 H1 c1
  by_cases hA : ts.any unk = true
  · rw [hA]
    have HR2 := hide (show RES = ([], 2) by rw [unhide HR, if_pos hA])
    clear hA HR
    go_wp2_with fail
    go_ret2
    rw [unhide HR2]
    exact ⟨none, 0, 0, rfl, VMine.nought _ _, (unhide H2).1⟩
  have HR2 := hide (show RES = if nuE b ts ≠ 0 then ([], nuE b ts) else gat (bx (nuB b ts.length) ts) ts.length (nuL b ts.length) by rw [unhide HR, if_neg hA])
  have hA2 : ts.any unk = false := by simpa using hA
  rw [hA2]
  clear hA hA2 HR
  have c2 := (unhide H2).2.1.cell
  have cN := hide (readNulls_any bo bn bc b tyo m tc ts w2 (unhide H2).2.2.1 (unhide H2).2.2.2 (by omega) (by omega))
  by_cases hE : nuE b ts ≠ 0
  · have HR3 := hide (show RES = ([], nuE b ts) by rw [unhide HR2, if_pos hE])
    obtain ⟨E, hEE⟩ : ∃ z, nuE b ts = z := ⟨_, rfl⟩
    rw [hEE] at hE HR3
    have HE := hide hEE
    have HE0 := hide hE
    have hE2 : (E != 0) = true := by simpa using hE
    clear hE HR2 hEE
    go_wp2_with (go_at_call 21; refine (unhide cN).mono ?_; rintro e w3 h3; obtain ⟨rfl, b3⟩ := OutU.no h3 (unhide HE) (unhide HE0); have B3 := hide b3; clear b3 h3)
    go_ret2
    rw [unhide HR3]
    exact ⟨none, 0, 0, rfl, VMine.nought _ _, vbup (vbup (unhide H2).1 (unhide B3)) (below_al2 _ _)⟩
  have hE : nuE b ts = 0 := Classical.not_not.1 hE
  have HE := hide hE
  have HR3 := hide (show RES = gat (bx (nuB b m) ts) m (nuL b m) by rw [unhide HR2, if_neg (by rw [hE]; decide), hml])
  clear hE HR2
  have h44 : m ≤ 4096 := by omega
  have hss : w.heap.size < w2.heap.size := by omega
  go_wp2_with (first | (go_at_call 21; refine (unhide cN).mono ?_; rintro e w3 h3; obtain ⟨no, nn, nc, lo, ln, lc, rfl, x1, x2, x3, x4, b3⟩ := OutU.yes h3 (unhide HE); clear h3; obtain ⟨c3, cG'⟩ := rb_gather bo bn bc b tyo m tc ts w w2 w3 no nn nc lo ln lc (unhide H2) (unhide HE) x1 x2 b3 hss hml h44 (unhide HT) hn; have cG := hide cG'; have B3 := hide b3; clear b3 x1 x2 x3 x4 cG') | (go_at_call 22; refine (unhide cG).mono ?_; rintro e w4 ⟨ro, rn, rc, rfl, m4, g4⟩; have M4 := hide m4; have G4 := hide g4; clear m4 g4))
  go_ret2
  rw [unhide HR3]
  exact ⟨ro, rn, rc, rfl, (unhide M4).mono (rb_size (unhide H2).1 (unhide B3)), rb_end (unhide H2).1 (unhide B3) (unhide G4)⟩


end Go.Proofs.YtkcblnojgonblaaGreatDoor

namespace Go.Proofs.YtkcblnojgonblaaGreatDoor
open Go.RowKit
set_option linter.unusedVariables false
set_option linter.unusedSimpArgs false

theorem set_parts {α : Type} {xs : List α} {k r : Nat} {v : α} (h : k < xs.length) (vs : List α) : (xs.set k v).take (k + 1) ++ (vs ++ (xs.set k v).drop (k + 1 + r)) = xs.take k ++ (v :: vs ++ xs.drop (k + (r + 1))) := by
  have hs : xs.set k v = xs.take k ++ v :: xs.drop (k + 1) := by rw [List.set_eq_take_append_cons_drop, if_pos h]
  have ht : (xs.take k).length = k := by rw [List.length_take]; omega
  have e1 : (xs.take k ++ v :: xs.drop (k + 1)).take (k + 1) = xs.take k ++ [v] := by
    rw [List.take_append, ht, List.take_of_length_le (by omega), show k + 1 - k = 1 by omega]
    rfl
  have e2 : (xs.take k ++ v :: xs.drop (k + 1)).drop (k + 1 + r) = xs.drop (k + (r + 1)) := by
    rw [List.drop_append, ht, List.drop_eq_nil_of_le (by omega), List.nil_append, show k + 1 + r - k = r + 1 by omega, List.drop_succ_cons, List.drop_drop]
    congr 1
    omega
  rw [hs, e1, e2]
  simp
theorem store_own {B : Nat} {T : TypeId} {sz g n cap off : Nat} : ∀ (vs : List Value) (i : Nat) (xs : List Value) (w : World), w.ownsRow B T sz (.slice (some ⟨g, 0, none⟩) n cap) n xs → off + i + vs.length ≤ xs.length → (∀ v ∈ vs, v.oneCell' = true) →
    ∃ w', (storeCells ⟨g, off, none⟩ vs i).run Tryz.prog w = .ok () w' ∧ w'.ownsRow B T sz (.slice (some ⟨g, 0, none⟩) n cap) n (xs.take (off + i) ++ (vs ++ xs.drop (off + i + vs.length))) ∧ Gb g w w'
  | [], i, xs, w, h, hl, _ => ⟨w, rfl, by simpa using h, Gb.refl _ _⟩
  | v :: rest, i, xs, w, h, hl, h1 => by
    have hk : off + i < xs.length := by simp at hl; omega
    have hadd : (⟨g, off, none⟩ : Addr).add i = ⟨g, off + i, none⟩ := Addr.add_lit _ _ _
    have hcell : w.cell? ⟨g, off + i, none⟩ = some xs[off + i] := by
      have := h.cells (g := g) rfl (off + i) _ (List.getElem?_eq_getElem hk)
      rw [Addr.add_lit, Nat.zero_add] at this
      exact this
    have hfro := h.frozenAt (off + i)
    have hst : (store ((⟨g, off, none⟩ : Addr).add i) v).run Tryz.prog w = .ok () (w.setCell ⟨g, off + i, none⟩ v) := by
      rw [hadd, run_store Tryz.prog w _ v _ (h1 v (by simp)), hcell]
      simp [hfro]
    obtain ⟨w', e1, e2, e3⟩ := store_own (off := off) rest (i + 1) (xs.set (off + i) v) (w.setCell ⟨g, off + i, none⟩ v) (h.stored (off + i) v).1 (by rw [List.length_set]; rw [List.length_cons] at hl; omega) (fun x hx => h1 x (by simp [hx]))
    refine ⟨w', ?_, ?_, ?_⟩
    · simp only [storeCells, Sem.run_bind, hst, Result.andThen_ok, e1]
    · have := set_parts (r := rest.length) (v := v) hk rest
      rw [show off + (i + 1) = off + i + 1 by omega, this] at e2
      exact e2
    · refine ⟨e3.os, e3.tape, e3.output, Nat.le_trans (by simp) e3.size, fun k hk hq => ?_⟩
      exact (e3.block k (by simpa using hk) hq).trans (heap_setCell_other _ _ _ _ hq)
theorem flatV_set : ∀ (l : List Va) (j : Nat) (v : Va), j < l.length → flatV (l.set j v) = (flatV l).take (j * 12) ++ ((vaC v).toList ++ (flatV l).drop (j * 12 + 12))
  | [], j, v, h => by simp at h
  | y :: l, 0, v, h => by
    have hs : ((vaC y).toList).length = 12 := rfl
    show (vaC v).toList ++ flatV l = ((vaC y).toList ++ flatV l).take 0 ++ ((vaC v).toList ++ ((vaC y).toList ++ flatV l).drop 12)
    rw [List.take_zero, List.nil_append, List.drop_append, List.drop_eq_nil_of_le (by rw [hs]; omega), hs, List.nil_append, Nat.sub_self, List.drop_zero]
  | y :: l, j + 1, v, h => by
    have ih := flatV_set l j v (by simp at h; omega)
    have hs : ((vaC y).toList).length = 12 := rfl
    have e1 : ((vaC y).toList ++ flatV l).take ((j + 1) * 12) = (vaC y).toList ++ (flatV l).take (j * 12) := by
      rw [List.take_append, List.take_of_length_le (by rw [hs]; omega), hs, show (j + 1) * 12 - 12 = j * 12 by omega]
    have e2 : ((vaC y).toList ++ flatV l).drop ((j + 1) * 12 + 12) = (flatV l).drop (j * 12 + 12) := by
      rw [List.drop_append, List.drop_eq_nil_of_le (by rw [hs]; omega), hs, List.nil_append, show (j + 1) * 12 + 12 - 12 = j * 12 + 12 by omega]
    show (vaC y).toList ++ flatV (l.set j v) = ((vaC y).toList ++ flatV l).take ((j + 1) * 12) ++ ((vaC v).toList ++ ((vaC y).toList ++ flatV l).drop ((j + 1) * 12 + 12))
    rw [ih, e1, e2, List.append_assoc]
/-- 'l[j]', l of the call's own: its address, what lies there. -/
theorem VMine.idx {B : Nat} {w : World} {ao : Option Addr} {n c : Nat} {l : List Va} (h : VMine B w ao n c l) {j : Nat} {p : Va} (hj : l[j]? = some p) (I : Int) (hI : I = j) :
    ∃ g, ao = some ⟨g, 0, none⟩ ∧ B ≤ g ∧ g < w.heap.size ∧ (∀ wx, (Instr.indexAt 25 (.slice ao n c) (.int .i64 I)).run Tryz.prog wx = .ok (.pointer (some ⟨g, j * 12, none⟩)) wx) ∧ AtV w g (j * 12) p := by
  subst hI
  have hln := h.len
  have hl : j < n := by rw [← hln]; exact (List.getElem?_eq_some_iff.1 hj).1
  rcases h.own.2 with ⟨hv, h0⟩ | ⟨g, cap, cur, hv, hg, hh, hle, hmax, hsz, htake⟩
  · omega
  · simp only [Value.slice.injEq] at hv
    obtain ⟨rfl, _, rfl⟩ := hv
    refine ⟨g, rfl, hg, (Array.getElem?_eq_some_iff.1 hh).1, fun wx => ?_, ?_⟩
    · have hs : ∀ w : World, (sizeOf (Tryz.prog.elem 25)).run Tryz.prog w = .ok 12 w := by intro w; kernel_rfl
      rw [run_indexAt_slice wx 25 _ n _ .i64 (j : Int) elemV]
      simp [hs, hl, Addr.add_lit, Result.andThen]
    · intro q hq
      have h1 := flatV_at l j q p hj hq
      rw [vac_at p hq] at h1 ⊢
      have := h.own.cells (g := g) rfl (j * 12 + q) _ h1
      rw [Addr.add_lit, Nat.zero_add] at this
      exact this
theorem VMine.put {B : Nat} {w : World} {g n c : Nat} {l : List Va} (h : VMine B w (some ⟨g, 0, none⟩) n c l) {j : Nat} (hj : j < n) (v : Va) :
    ∃ w', (storeVar 38 ⟨g, j * 12, none⟩ (.agg (vaC v))).run Tryz.prog w = .ok () w' ∧ VMine B w' (some ⟨g, 0, none⟩) n c (l.set j v) ∧ Gb g w w' := by
  have hln := h.len
  obtain ⟨w', e1, e2, e3⟩ := store_own (off := j * 12) (vaC v).toList 0 (flatV l) w h.own (by rw [flatV_len, show ((vaC v).toList).length = 12 from rfl]; omega) (fun u hu => (Array.all_eq_true_iff_forall_mem.1 (vac_one v)) u (by simpa using hu))
  refine ⟨w', ?_, ⟨by simp [hln], ?_⟩, e3⟩
  · have hq := vac_info v
    cases hp : Tryz.prog.info? 38 with
    | none => simp [hp] at hq
    | some i =>
      have hs : (vaC v).size = i.size := by simp [hp] at hq; omega
      simp [storeVar, sizeOf, typeInfo, hp, Value.cells, hs, e1]
  · rw [flatV_set l j v (by omega)]
    exact e2
/-- 'l[j] = v', l of the call's own. -/
theorem wpList_putV {ops : Array Oper} {rest : List Oper} {o : Oper} {a : Act} {w : World} {Q : Exit → Act → World → Prop} (hgd : o.guard = none) (x y : Operand) (ho : o.op = .store 38 x y)
    (B g n c : Nat) (l : List Va) (j : Nat) (v : Va) (CS : Array Value) (hCS : CS = vaC v) (hx : a.eval x = .pointer (some ⟨g, j * 12, none⟩)) (hy : a.eval y = .agg CS) (h : VMine B w (some ⟨g, 0, none⟩) n c l) (hj : j < n)
    (k : ∀ w1, VMine B w1 (some ⟨g, 0, none⟩) n c (l.set j v) → Gb g w w1 → wpList Tryz.prog ops Q rest (a.put o.dst undef) w1) : wpList Tryz.prog ops Q (o :: rest) a w := by
  subst hCS
  refine wpList_plain hgd fun _ hK => ?_
  obtain ⟨w', e1, e2, e3⟩ := h.put hj v
  unfold Oper.wp execOp
  simp only [ho, hx, hy, Instr.storeAt, Instr.sureAddr, Sem.run_bind, Sem.run_pure, Result.andThen_ok, e1]
  exact hK _ _ (k w' e2 e3)

end Go.Proofs.YtkcblnojgonblaaGreatDoor

namespace Go.Proofs.YtkcblnojgonblaaGreatDoor
open Go.RowKit
set_option linter.unusedVariables false
set_option linter.unusedSimpArgs false

set_option maxHeartbeats 4000000 in
set_option maxRecDepth 100000 in
theorem hasNoText_any (t : Int) (un : Bool) (w : World) (q0 : 0 ≤ t) (q1 : t < 256) : Calls Tryz.prog 27 #[.agg #[.int .u8 t, .bool un]] w fun e w' => e = .returned (.bool ((t == 4) || (t == 5))) ∧ Below w.heap.size w w' := by
  have b1 := below_alloc w (.cells #[.int .u8 t, .bool un] 23)
  have r1 := heap_alloc_new w (.cells #[.int .u8 t, .bool un] 23)
  have k0 := vrow_cell r1 (j := 0) (v := .int .u8 t) rfl
  have B1 := hide b1
  clear b1 r1
  cases h : (t == 4)
  · go_enter Tryz.func27, Tryz.ntmps27
    go_wp2_with fail
    go_ret
    exact ⟨rfl, unhide B1⟩
  · go_enter Tryz.func27, Tryz.ntmps27
    go_wp2_with fail
    go_ret
    exact ⟨rfl, unhide B1⟩

theorem anyT_next {ts : List Ty} {j : Nat} {p : Ty} (h : ts[j]? = some p) : (ts.take (j + 1)).any noT = ((ts.take j).any noT || noT p) := by
  rw [List.take_add_one, h, List.any_append]
  simp
theorem anyT_at {ts : List Ty} {j : Nat} {p : Ty} (h : ts[j]? = some p) (hp : noT p = true) : ts.any noT = true := List.any_eq_true.2 ⟨p, List.mem_of_getElem? h, hp⟩

set_option maxHeartbeats 4000000 in
set_option maxRecDepth 100000 in
theorem indexT_any (ao : Option Addr) (m c : Nat) (ts : List Ty) (w : World) (ht : Tys w ao m c ts) (hT : ∀ p ∈ ts, 0 ≤ p.t ∧ p.t < 256) :
    Calls Tryz.prog 50 #[.slice ao m c, .func (.func 27) #[] #[]] w fun e w' => OutI w (ts.any noT) e w' := by
  have hml := ht.len
  have hle := ht.le
  have hmx := ht.max
  have HT := hide ht
  have HU := hide hT
  obtain ⟨RES, hRES⟩ : ∃ z, z = ts.any noT := ⟨_, rfl⟩
  rw [← hRES]
  have HR := hide hRES
  clear ht hT hRES
  go_enter Tryz.func50, Tryz.ntmps50
  go_wp2_with fail
  go_loopw [8] (fun iv ws => ∃ (j : Nat), j ≤ m ∧ iv = .int .i64 (j : Int) ∧ (ts.take j).any noT = false ∧ Below w.heap.size w ws) (fun iv _ => m - (intOf iv).toNat)
  case atStart => exact ⟨0, by omega, rfl, rfl, Below.refl _ _⟩
  case round =>
    obtain ⟨j, hj, rfl, hA, hB⟩ := hrel
    have HB := hide hB
    clear hB
    by_cases hlt : j < m
    · have g1 : ((j : Nat) : Int) < (m : Int) := by omega
      obtain ⟨p, hp⟩ : ∃ p, ts[j]? = some p := ⟨_, List.getElem?_eq_getElem (by omega)⟩
      have q := unhide HU p (List.mem_of_getElem? hp)
      have HN := hide (anyT_next hp)
      have HY := hide (anyT_at hp)
      obtain ⟨tb, tq, hiy, hty⟩ := ((unhide HT).later (unhide HB)).idx hp (j : Int) rfl
      obtain ⟨k0, k1⟩ : wr.cell? ⟨tb, tq, none⟩ = some (.int .u8 p.t) ∧ wr.cell? ⟨tb, tq + 1, none⟩ = some (.bool p.un) := ⟨hty 0 (by decide), hty 1 (by decide)⟩
      have cU := hide (hasNoText_any p.t p.un wr q.1 q.2)
      have e : ((p.t == 4) || (p.t == 5)) = noT p := rfl
      rw [e] at cU
      obtain ⟨pt, pu⟩ := p
      simp only at k0 k1 cU
      generalize noT ⟨pt, pu⟩ = V at *
      clear hty q hp e
      cases V
      · go_wp2_with (go_at_call 27; refine (unhide cU).mono ?_; rintro e w2 ⟨rfl, b2⟩; have B2 := hide ((unhide HB).trans (b2.mono (unhide HB).size)); clear b2)
        go_roundw
        case rel => exact ⟨j + 1, by omega, by go_num, by rw [unhide HN, hA]; rfl, unhide B2⟩
        case measure => simp [intOf]; omega
      · have HE := hide (show RES = true by rw [unhide HR]; exact unhide HY rfl)
        clear HY HN
        go_wp2_with (go_at_call 27; refine (unhide cU).mono ?_; rintro e w2 ⟨rfl, b2⟩; have B2 := hide ((unhide HB).trans (b2.mono (unhide HB).size)); clear b2)
        go_ret
        exact OutI.of (by rw [unhide HE]; exact decide_eq_true (by omega)) (unhide B2)
    · have hjn : j = m := by omega
      subst hjn
      have g1 : ¬ ((j : Nat) : Int) < (j : Int) := by omega
      have HE := hide (show RES = false by rw [unhide HR, ← hA, List.take_of_length_le (by omega)])
      go_wp2_with fail
      go_ret
      exact OutI.of (by rw [unhide HE]; rfl) (unhide HB)

set_option maxHeartbeats 4000000 in
set_option maxRecDepth 100000 in
theorem containsT_any (ao : Option Addr) (m c : Nat) (ts : List Ty) (w : World) (ht : Tys w ao m c ts) (hT : ∀ p ∈ ts, 0 ≤ p.t ∧ p.t < 256) :
    Calls Tryz.prog 19 #[.slice ao m c, .func (.func 27) #[] #[]] w fun e w' => e = .returned (.bool (ts.any noT)) ∧ Below w.heap.size w w' := by
  have cI := hide (indexT_any ao m c ts w ht hT)
  generalize ts.any noT = RES at *
  clear ht hT
  go_enter Tryz.func19, Tryz.ntmps19
  go_wp2_with fail
  refine (unhide cI).mono ?_
  rintro e w2 ⟨R, rfl, hR, b2⟩
  have B2 := hide b2
  have HR := hide hR
  clear hR b2 cI
  go_wp2_with fail
  go_ret
  exact ⟨by rw [← unhide HR]; rfl, unhide B2⟩



theorem cells12 {w : World} {g : Nat} {T : TypeId} {v0 v1 v2 v3 v4 v5 v6 v7 v8 v9 v10 v11 : Value} (h : w.heap[g]? = some (.cells #[v0, v1, v2, v3, v4, v5, v6, v7, v8, v9, v10, v11] T (0, 0))) : w.cell? ⟨g, 0, none⟩ = some v0 ∧ w.cell? ⟨g, 1, none⟩ = some v1 ∧ w.cell? ⟨g, 2, none⟩ = some v2 ∧ w.cell? ⟨g, 3, none⟩ = some v3 ∧ w.cell? ⟨g, 4, none⟩ = some v4 ∧ w.cell? ⟨g, 5, none⟩ = some v5 ∧ w.cell? ⟨g, 6, none⟩ = some v6 ∧ w.cell? ⟨g, 7, none⟩ = some v7 ∧ w.cell? ⟨g, 8, none⟩ = some v8 ∧ w.cell? ⟨g, 9, none⟩ = some v9 ∧ w.cell? ⟨g, 10, none⟩ = some v10 ∧ w.cell? ⟨g, 11, none⟩ = some v11 :=
  ⟨vrow_cell h (j := 0) rfl, vrow_cell h (j := 1) rfl, vrow_cell h (j := 2) rfl, vrow_cell h (j := 3) rfl, vrow_cell h (j := 4) rfl, vrow_cell h (j := 5) rfl, vrow_cell h (j := 6) rfl, vrow_cell h (j := 7) rfl, vrow_cell h (j := 8) rfl, vrow_cell h (j := 9) rfl, vrow_cell h (j := 10) rfl, vrow_cell h (j := 11) rfl⟩
theorem outP_t2 {w : World} {ok : Bool} {L : List Int} {e : Ending} {w' : World} (h : OutP w (if ok = true then some ([] ++ L) else none) e w') (ho : ok = true) : ∃ xo xn xc, e = .returned (.tuple #[.slice xo xn xc, .int .i64 0]) ∧ Mine w.heap.size w' xo xn xc L ∧ Below w.heap.size w w' := by
  rw [List.nil_append, if_pos ho] at h
  exact h
/-- Bytes in new memory, and an error. -/
def OutB2 (w : World) (R : List Int × Int) (e : Ending) (w' : World) : Prop := ∃ xo xn xc, e = .returned (.tuple #[.slice xo xn xc, .int .i64 R.2]) ∧ Mine w.heap.size w' xo xn xc R.1 ∧ Below w.heap.size w w'
theorem gb_up2 {g B : Nat} {w0 w w' : World} (h : Below B w0 w) (k : Gb g w w') (hg : B ≤ g) (hs : B ≤ w.heap.size) : Below B w0 w' :=
  ⟨k.os.trans h.os, k.tape.trans h.tape, k.output.trans h.output, Nat.le_trans h.size k.size, fun i hi => (k.block i (by omega) (by omega)).trans (h.block i hi)⟩
theorem AtT.tw {w : World} {b o : Nat} {p : Ty} (h : AtT w b o p) : w.cell? ⟨b, o, none⟩ = some (.int .u8 p.t) ∧ w.cell? ⟨b, o + 1, none⟩ = some (.bool p.un) := ⟨h 0 (by decide), h 1 (by decide)⟩

theorem below_dr2 {w w' : World} (h : Below w.heap.size w w') : Below w.heap.size w w'.drew := h.trans ((below_drew w').mono h.size)

set_option maxHeartbeats 4000000 in
set_option maxRecDepth 100000 in
theorem turned_any (bo : Option Addr) (bn bc : Nat) (b : List Int) (tyo : Option Addr) (m tc : Nat) (ts : List Ty) (w : World) (hb : Bs w bo bn bc b) (ht : Tys w tyo m tc ts) (hT : ∀ p ∈ ts, 0 ≤ p.t ∧ p.t < 256) (hn : b.length ≤ 100000) (hm : m ≤ 60) (hvs : Vars w) (hrb : (rbR b ts).2 = 0 → Rb (rbR b ts).1 ts) :
    Calls Tryz.prog 7 #[.slice bo bn bc, .slice tyo m tc] w fun e w' => OutB2 w (tuR b ts) e w' := by
  obtain ⟨RES, hRES⟩ : ∃ z, z = tuR b ts := ⟨_, rfl⟩
  rw [← hRES]
  have HRES := hide (show RES = if (rbR b ts).2 ≠ 0 then ([], (rbR b ts).2) else if ts.any noT = true then ([], 2) else (rtB (tuL (rbR b ts).1 ts), 0) from hRES)
  have cR := hide (readBin_any bo bn bc b tyo m tc ts w hb ht hT hn)
  have HRB := hide hrb
  have HTY := hide ht
  have HT := hide hT
  have HV := hide hvs
  have hml := ht.len
  have htl := ht.le
  have htx := ht.max
  clear hb ht hT hvs hRES hn hrb
  generalize rbR b ts = R at *
  obtain ⟨l, E⟩ := R
  simp only at HRES HRB
  go_enter Tryz.func7, Tryz.ntmps7
  go_wp2_with fail
  refine (unhide cR).mono ?_
  rintro e w1 ⟨ro, rn, rc, rfl, m1, b1⟩
  have HM := hide m1
  have HB := hide b1
  have HTY1 := hide ((unhide HTY).later b1)
  have HV1 := hide ((unhide HV).later b1)
  clear m1 b1 cR
  by_cases hE : E ≠ 0
  · have hE2 : (E != 0) = true := by simpa using hE
    have HR := hide (show RES = ([], E) by rw [unhide HRES, if_pos hE])
    clear HRES HRB hE
    go_wp2_with fail
    go_ret2
    rw [unhide HR]
    exact ⟨none, 0, 0, rfl, Mine.nought _ _, unhide HB⟩
  have hE := Classical.not_not.1 hE
  subst hE
  have HRB1 := hide (unhide HRB rfl)
  have HR1 := hide (show RES = if ts.any noT = true then ([], 2) else (rtB (tuL l ts), 0) by rw [unhide HRES, if_neg (by decide)])
  have cC := hide (containsT_any tyo m tc ts w1 (unhide HTY1) (unhide HT))
  clear HRES HRB
  go_wp2_with fail
  refine (unhide cC).mono ?_
  rintro e w2 ⟨rfl, b2⟩
  have HB2 := hide (vbup (unhide HB) b2)
  have HM2 := hide ((unhide HM).later b2)
  clear b2 cC HB HM HTY1 HV1
  by_cases hA : ts.any noT = true
  · rw [hA]
    have HR := hide (show RES = ([], 2) by rw [unhide HR1, if_pos hA])
    clear hA HR1
    go_wp2_with fail
    go_ret2
    rw [unhide HR]
    exact ⟨none, 0, 0, rfl, Mine.nought _ _, unhide HB2⟩
  have hA2 : ts.any noT = false := by simpa using hA
  have HR := hide (show RES = (rtB (tuL l ts), 0) by rw [unhide HR1, if_neg hA])
  have HA := hide hA2
  rw [hA2]
  have hlm : rn = m := by rw [← (unhide HM2).len, (unhide HRB1).len, hml]
  subst hlm
  have hle := (unhide HM2).ss.le
  have hmx := (unhide HM2).ss.max
  clear hA hA2 HR1
  go_wp2_with fail
  go_loopw [25] (fun iv ws => ∃ (j : Nat), j ≤ rn ∧ iv = .int .i64 (j : Int) ∧ VMine w.heap.size ws ro rn rc (tuM l ts j) ∧ Below w.heap.size w ws) (fun iv _ => rn - (intOf iv).toNat)
  case atStart => exact ⟨0, by omega, rfl, (by rw [tuM_0]; exact unhide HM2), unhide HB2⟩
  case round =>
    clear HM2 HB2
    obtain ⟨j, hj, rfl, hM, hB⟩ := hrel
    have hob := hB.size
    have HM := hide hM
    have HB := hide hB
    clear hM hB
    by_cases hlt : j < rn
    · have hlj : ((j : Nat) : Int) < (rn : Int) := by omega
      obtain ⟨v, hv⟩ : ∃ v, l[j]? = some v := ⟨_, List.getElem?_eq_getElem (by rw [(unhide HRB1).len]; omega)⟩
      obtain ⟨p, hp⟩ : ∃ p, ts[j]? = some p := ⟨_, List.getElem?_eq_getElem (by omega)⟩
      obtain ⟨hKv, hOv, hSv⟩ := (unhide HRB1).at' j v p hv hp
      obtain ⟨g, hro, hgB, hgl, hix, hat⟩ := (unhide HM).idx (tuM_at (ts := ts) hv) (j : Int) rfl
      subst hro
      obtain ⟨tb, tq, hiy, hty⟩ := ((unhide HTY).later (unhide HB)).idx hp (j : Int) rfl
      have HAT := hide hat
      obtain ⟨hp0, hp1⟩ := unhide HT p (List.mem_of_getElem? hp)
      have SV := hide (vac_info v)
      have OV := hide (vac_one v)
      have cN := hide (fun wx => isNull_any v wx)
      have cX := hide (fun wx (hx : Below w.heap.size w wx) => text_any v p.t p.un wx hp0 hp1 ((unhide HV).later hx) hKv)
      have HSM := hide (fun (hk : v.k = 0) => tuM_same hv hp hk)
      have HST := hide (tuM_set hv hp)
      have HTV := hide (show tuV v p = if v.k = 0 then v else ⟨7, 0, 0, (txR v p.t p.un).1, wh0⟩ from rfl)
      have KT := hide (fun (w' : World) (hx : Below wr.heap.size wr w') => (hty.later hx).tw)
      clear hat hv hp hKv hOv hSv hty hp0 hp1
      generalize txR v p.t p.un = X at *
      obtain ⟨XT, XE⟩ := X
      generalize tuV v p = TV at *
      obtain ⟨pt, pu⟩ := p
      obtain ⟨k, i, b, tx, ⟨ng, y, mo, d, h, mi, s, mc⟩⟩ := v
      unfold vaC at cN cX SV OV
      simp only at cN cX SV OV HSM HTV KT
      by_cases hk : k = 0
      · have ek : (k == 0) = true := by simpa using hk
        rw [ek] at cN
        have HSM' := hide (unhide HSM hk)
        clear cX HST HTV HSM ek hk KT
        go_wp2_with (first | (with_reducible show wpList Tryz.prog _ _ (Oper.mk _ (Op.load 38 _) _ _ _ none :: _) _ _; refine wpList_ldV rfl (.tmp 28) rfl g (j * 12) rfl ⟨k, i, b, tx, ⟨ng, y, mo, d, h, mi, s, mc⟩⟩ (unhide HAT) ?_) | (with_reducible show wpList Tryz.prog _ _ (Oper.mk _ (Op.store 38 _ _) _ _ _ none :: _) _ _; refine wpList_stN rfl _ (.tmp 9) (.tmp 29) rfl #[.int .i64 k, .int .i64 i, .int .u64 b, .string tx, .bool ng, .int .i64 y, .int .i64 mo, .int .i64 d, .int .i64 h, .int .i64 mi, .int .i64 s, .int .i64 mc] (by simp [Act.eval, Act.put]) rfl (unhide SV) rfl (unhide OV) ?_; intro w2 r2 b2 l2; have R2 := hide r2; have B2 := hide b2; obtain ⟨k0, k1, k2, k3, k4, k5, k6, k7, k8, k9, k10, k11⟩ := cells12 r2; clear r2 b2) | (go_at_call 28; (with_reducible refine (unhide cN _).mono ?_); rintro e w5 ⟨rfl, b5⟩; have R5 := hide (vrow_later (unhide R2) b5); have B5 := hide ((unhide B2).trans (b5.mono (unhide B2).size)); have M5 := hide ((unhide HM).later (unhide B5)); have HB5 := hide ((unhide HB).trans ((unhide B5).mono hob)); clear b5))
        go_roundw
        case rel => exact ⟨j + 1, by omega, by go_num, (by rw [unhide HSM']; exact unhide M5), unhide HB5⟩
        case measure => simp [intOf]; omega
      · have ek : (k == 0) = false := by simpa using hk
        rw [ek] at cN
        have HTV' := hide (show TV = ⟨7, 0, 0, XT, wh0⟩ by rw [unhide HTV, if_neg hk])
        have HCS := hide (show (#[.int .i64 7, .int .i64 0, .int .u64 0, .string XT, .bool false, .int .i64 0, .int .i64 0, .int .i64 0, .int .i64 0, .int .i64 0, .int .i64 0, .int .i64 0] : Array Value) = vaC ⟨7, 0, 0, XT, wh0⟩ from rfl)
        clear HSM HTV ek hk
        go_upto_region 10 with (first | (with_reducible show wpList Tryz.prog _ _ (Oper.mk _ (Op.load 38 _) _ _ _ none :: _) _ _; refine wpList_ldV rfl (.tmp 28) rfl g (j * 12) rfl ⟨k, i, b, tx, ⟨ng, y, mo, d, h, mi, s, mc⟩⟩ (unhide HAT) ?_) | (with_reducible show wpList Tryz.prog _ _ (Oper.mk _ (Op.store 38 _ _) _ _ _ none :: _) _ _; refine wpList_stN rfl _ (.tmp 9) (.tmp 29) rfl #[.int .i64 k, .int .i64 i, .int .u64 b, .string tx, .bool ng, .int .i64 y, .int .i64 mo, .int .i64 d, .int .i64 h, .int .i64 mi, .int .i64 s, .int .i64 mc] (by simp [Act.eval, Act.put]) rfl (unhide SV) rfl (unhide OV) ?_; intro w2 r2 b2 l2; have R2 := hide r2; have B2 := hide b2; obtain ⟨k0, k1, k2, k3, k4, k5, k6, k7, k8, k9, k10, k11⟩ := cells12 r2; clear r2 b2) | (go_at_call 28; (with_reducible refine (unhide cN _).mono ?_); rintro e w5 ⟨rfl, b5⟩; have R5 := hide (vrow_later (unhide R2) b5); have B5 := hide ((unhide B2).trans (b5.mono (unhide B2).size)); have M5 := hide ((unhide HM).later (unhide B5)); have HB5 := hide ((unhide HB).trans ((unhide B5).mono hob)); clear b5))
        have KS := hide (fun (w' : World) (hx : Below w5.heap.size w5 w') => (show w'.cell? ⟨wr.heap.size, 0, none⟩ = some (.int .i64 k) ∧ w'.cell? ⟨wr.heap.size, 1, none⟩ = some (.int .i64 i) ∧ w'.cell? ⟨wr.heap.size, 2, none⟩ = some (.int .u64 b) ∧ w'.cell? ⟨wr.heap.size, 3, none⟩ = some (.string tx) ∧ w'.cell? ⟨wr.heap.size, 4, none⟩ = some (.bool ng) ∧ w'.cell? ⟨wr.heap.size, 5, none⟩ = some (.int .i64 y) ∧ w'.cell? ⟨wr.heap.size, 6, none⟩ = some (.int .i64 mo) ∧ w'.cell? ⟨wr.heap.size, 7, none⟩ = some (.int .i64 d) ∧ w'.cell? ⟨wr.heap.size, 8, none⟩ = some (.int .i64 h) ∧ w'.cell? ⟨wr.heap.size, 9, none⟩ = some (.int .i64 mi) ∧ w'.cell? ⟨wr.heap.size, 10, none⟩ = some (.int .i64 s) ∧ w'.cell? ⟨wr.heap.size, 11, none⟩ = some (.int .i64 mc) ∧ w'.cell? ⟨tb, tq, none⟩ = some (.int .u8 pt) ∧ w'.cell? ⟨tb, tq + 1, none⟩ = some (.bool pu) from (have q := vrow_later (unhide R5) hx; have hy := (unhide B5).trans (hx.mono (unhide B5).size); ⟨vrow_cell q (j := 0) (v := .int .i64 k) rfl, vrow_cell q (j := 1) (v := .int .i64 i) rfl, vrow_cell q (j := 2) (v := .int .u64 b) rfl, vrow_cell q (j := 3) (v := .string tx) rfl, vrow_cell q (j := 4) (v := .bool ng) rfl, vrow_cell q (j := 5) (v := .int .i64 y) rfl, vrow_cell q (j := 6) (v := .int .i64 mo) rfl, vrow_cell q (j := 7) (v := .int .i64 d) rfl, vrow_cell q (j := 8) (v := .int .i64 h) rfl, vrow_cell q (j := 9) (v := .int .i64 mi) rfl, vrow_cell q (j := 10) (v := .int .i64 s) rfl, vrow_cell q (j := 11) (v := .int .i64 mc) rfl, (unhide KT w' hy).1, (unhide KT w' hy).2⟩)))
        clear k0 k1 k2 k3 k4 k5 k6 k7 k8 k9 k10 k11
        go_region_held3 (fun w' => w'.cell? ⟨wr.heap.size, 0, none⟩ = some (.int .i64 k) ∧ w'.cell? ⟨wr.heap.size, 1, none⟩ = some (.int .i64 i) ∧ w'.cell? ⟨wr.heap.size, 2, none⟩ = some (.int .u64 b) ∧ w'.cell? ⟨wr.heap.size, 3, none⟩ = some (.string tx) ∧ w'.cell? ⟨wr.heap.size, 4, none⟩ = some (.bool ng) ∧ w'.cell? ⟨wr.heap.size, 5, none⟩ = some (.int .i64 y) ∧ w'.cell? ⟨wr.heap.size, 6, none⟩ = some (.int .i64 mo) ∧ w'.cell? ⟨wr.heap.size, 7, none⟩ = some (.int .i64 d) ∧ w'.cell? ⟨wr.heap.size, 8, none⟩ = some (.int .i64 h) ∧ w'.cell? ⟨wr.heap.size, 9, none⟩ = some (.int .i64 mi) ∧ w'.cell? ⟨wr.heap.size, 10, none⟩ = some (.int .i64 s) ∧ w'.cell? ⟨wr.heap.size, 11, none⟩ = some (.int .i64 mc) ∧ w'.cell? ⟨tb, tq, none⟩ = some (.int .u8 pt) ∧ w'.cell? ⟨tb, tq + 1, none⟩ = some (.bool pu)) (first | with_reducible exact unhide KS _ b7 | with_reducible exact unhide KS _ (Below.refl _ _) | with_reducible exact unhide KS _ (Below.drew (Below.refl _ _)) | go_keep) (first | (go_at_call 29; (with_reducible refine (unhide cX _ (below_dr2 (unhide HB5))).mono ?_); rintro e w7 ⟨rfl, b7'⟩; have b7 := (below_drew w5).trans (b7'.mono (below_drew w5).size)))
        have M7 := hide ((unhide M5).later b7)
        have HB7 := hide (vbup (unhide HB5) b7)
        clear b7 b7' KS cX M5 HB5
        go_wp2_with (with_reducible show wpList Tryz.prog _ _ (Oper.mk _ (Op.store 38 _ _) _ _ _ none :: _) _ _; refine wpList_putV rfl (.tmp 45) (.tmp 44) rfl w.heap.size g rn rc _ j ⟨7, 0, 0, XT, wh0⟩ _ (unhide HCS) rfl rfl (unhide M7) hlt ?_; intro w8 m8 g8; have M8 := hide m8; have HB8 := hide (gb_up2 (unhide HB7) g8 hgB (unhide HB7).size); clear m8 g8)
        go_roundw
        case rel => exact ⟨j + 1, by omega, by go_num, (by rw [unhide HST, unhide HTV']; exact unhide M8), unhide HB8⟩
        case measure => simp [intOf]; omega
    · have hjn : j = rn := by omega
      subst hjn
      have hlj : ¬ ((j : Nat) : Int) < (j : Int) := by omega
      have hq := unhide HM
      rw [tuM_n l ts (by rw [(unhide HRB1).len]; omega)] at hq
      have cA := hide (appText_any none 0 0 [] ro j rc (tuL l ts) wr (Bs.nought _) hq.ss (tuL_K (unhide HRB1) (unhide HA)) hm (by omega))
      have HOK := hide (tuL_ok (unhide HRB1) (unhide HA))
      clear HM hq
      go_wp2_with fail
      refine (unhide cA).mono ?_
      intro e w9 h9
      obtain ⟨xo, xn, xc, rfl, m9, b9⟩ := outP_t2 h9 (unhide HOK)
      have M9 := hide m9
      have B9 := hide (vbup (unhide HB) b9)
      clear h9 m9 b9 cA
      go_wp2_with fail
      go_ret2
      rw [unhide HR]
      exact ⟨xo, xn, xc, rfl, (unhide M9).mono hob, unhide B9⟩


end Go.Proofs.YtkcblnojgonblaaGreatDoor
