/-
  The packets of logins, by what the readers answer: written, they are read back; a part is too short, a byte more is wrong; what is read may be written again. No memory is named here. Conditions: lengths below 2 to the 40.
-/
import Derived.Test.YtkijdkbkbelliaaGpQ
namespace Go.Proofs.Ytkijdkbkbelliaa
open Go.RowKit
set_option linter.unusedVariables false
set_option linter.unusedSimpArgs false

theorem swR_of {b : List Int} {x : Sw} {s : FS} (h : swQ b = (x, s)) (h0 : s.e = 0) : swR b = (x, 0) := by unfold swR; rw [h, if_pos h0]
theorem swR_err {b : List Int} {E : Int} (h : (swQ b).2.e = E) (h0 : E ≠ 0) : (swR b).2 = E := by unfold swR; rw [if_neg (by rw [h]; exact h0), h]
theorem sw_back {p : Sw} (h : sOk p = true) : swR (swB p) = (p, 0) := by
  have K := swC_ok h
  have e := K.ok []
  rw [List.append_nil] at e
  exact swR_of (by rw [swC_eq (swB p)]; exact e) rfl
theorem sw_part {p : Sw} (h : sOk p = true) {k : Nat} (hk : k < (swB p).length) : (swR ((swB p).take k)).2 = 4 :=
  swR_err (by rw [swC_eq ((swB p).take k)]; exact (swC_ok h).sh k hk) (by decide)
theorem sw_more {p : Sw} (h : sOk p = true) (x : Int) : (swR ((swB p) ++ [x])).2 = 5 :=
  swR_err (by rw [swC_eq ((swB p) ++ [x]), (swC_ok h).ok [x]]; exact ed_more x) (by decide)
theorem swR_0 {b : List Int} (h : (swR b).2 = 0) : (swC ⟨b, 0⟩).2.e = 0 ∧ (swR b).1 = (swC ⟨b, 0⟩).1 := by
  unfold swR at *
  rw [swC_eq b] at *
  split at h
  · rename_i u
    rw [if_pos u]
    exact ⟨u, rfl⟩
  · rename_i u
    exact absurd h u
theorem sw_again {b : List Int} (hb : Byt b) (h : (swR b).2 = 0) : b = swB (swR b).1 ∧ sOk (swR b).1 = true := by
  have q := swR_0 h
  rw [q.2]
  exact swC_ag b hb q.1
theorem grR_of {b : List Int} {x : Gr} {s : FS} (h : grQ b = (x, s)) (h0 : s.e = 0) : grR b = (x, 0) := by unfold grR; rw [h, if_pos h0]
theorem grR_err {b : List Int} {E : Int} (h : (grQ b).2.e = E) (h0 : E ≠ 0) : (grR b).2 = E := by unfold grR; rw [if_neg (by rw [h]; exact h0), h]
theorem gr_back {p : Gr} (h : gOk p = true) (hK : GrK p) : grR (grB p) = (p, 0) := by
  have K := grC_ok h hK
  have e := K.ok []
  rw [List.append_nil] at e
  exact grR_of (by rw [grC_eq (grB p)]; exact e) rfl
theorem gr_part {p : Gr} (h : gOk p = true) (hK : GrK p) {k : Nat} (hk : k < (grB p).length) : (grR ((grB p).take k)).2 = 4 :=
  grR_err (by rw [grC_eq ((grB p).take k)]; exact (grC_ok h hK).sh k hk) (by decide)
theorem gr_more {p : Gr} (h : gOk p = true) (hK : GrK p) (x : Int) : (grR ((grB p) ++ [x])).2 = 5 :=
  grR_err (by rw [grC_eq ((grB p) ++ [x]), (grC_ok h hK).ok [x]]; exact ed_more x) (by decide)
theorem grR_0 {b : List Int} (h : (grR b).2 = 0) : (grC ⟨b, 0⟩).2.e = 0 ∧ (grR b).1 = (grC ⟨b, 0⟩).1 := by
  unfold grR at *
  rw [grC_eq b] at *
  split at h
  · rename_i u
    rw [if_pos u]
    exact ⟨u, rfl⟩
  · rename_i u
    exact absurd h u
theorem gr_again {b : List Int} (hb : Byt b) (h : (grR b).2 = 0) : b = grB (grR b).1 ∧ gOk (grR b).1 = true ∧ GrK (grR b).1 := by
  have q := grR_0 h
  rw [q.2]
  exact grC_ag b hb q.1
theorem anR_of {b : List Int} {x : An} {s : FS} (h : anQ b = (x, s)) (h0 : s.e = 0) : anR b = (x, 0) := by unfold anR; rw [h, if_pos h0]
theorem anR_err {b : List Int} {E : Int} (h : (anQ b).2.e = E) (h0 : E ≠ 0) : (anR b).2 = E := by unfold anR; rw [if_neg (by rw [h]; exact h0), h]
theorem an_back {p : An} (h : aOk p = true) (hK : AnK p) (hb : Byt p.re) (hz : (aB p.at').length ≤ 1099511627776) : anR (anB p) = (p, 0) := by
  have K := anC_ok h hK hb hz
  have e := K.ok []
  rw [List.append_nil] at e
  exact anR_of (by rw [anC_eq (anB p)]; exact e) rfl
theorem an_part {p : An} (h : aOk p = true) (hK : AnK p) (hb : Byt p.re) (hz : (aB p.at').length ≤ 1099511627776) {k : Nat} (hk : k < (anB p).length) : (anR ((anB p).take k)).2 = 4 :=
  anR_err (by rw [anC_eq ((anB p).take k)]; exact (anC_ok h hK hb hz).sh k hk) (by decide)
theorem an_more {p : An} (h : aOk p = true) (hK : AnK p) (hb : Byt p.re) (hz : (aB p.at').length ≤ 1099511627776) (x : Int) : (anR ((anB p) ++ [x])).2 = 5 :=
  anR_err (by rw [anC_eq ((anB p) ++ [x]), (anC_ok h hK hb hz).ok [x]]; exact ed_more x) (by decide)
theorem anR_0 {b : List Int} (h : (anR b).2 = 0) : (anC ⟨b, 0⟩).2.e = 0 ∧ (anR b).1 = (anC ⟨b, 0⟩).1 := by
  unfold anR at *
  rw [anC_eq b] at *
  split at h
  · rename_i u
    rw [if_pos u]
    exact ⟨u, rfl⟩
  · rename_i u
    exact absurd h u
theorem an_again {b : List Int} (hb : Byt b) (h : (anR b).2 = 0) : (anB (anR b).1).length ≤ b.length ∧ aOk (anR b).1 = true ∧ AnK (anR b).1 ∧ Byt (anR b).1.re := by
  have q := anR_0 h
  rw [q.2]
  exact anC_ag b hb q.1
theorem cuR_of {b : List Int} (c : Int) {x : Cu} {s : FS} (h : cuQ b c = (x, s)) (h0 : s.e = 0) : cuR b c = (x, 0) := by unfold cuR; rw [h, if_pos h0]
theorem cuR_err {b : List Int} (c : Int) {E : Int} (h : (cuQ b c).2.e = E) (h0 : E ≠ 0) : (cuR b c).2 = E := by unfold cuR; rw [if_neg (by rw [h]; exact h0), h]
theorem cu_back (c : Int) {p : Cu} (h : cOk c p = true) (hK : CuK p) (hz : (aB p.at').length ≤ 1099511627776) : cuR (cuB c p) c = (p, 0) := by
  have K := cuC_ok h hK hz
  have e := K.ok []
  rw [List.append_nil] at e
  exact cuR_of c (by rw [cuC_eq (cuB c p) c]; exact e) rfl
theorem cu_part (c : Int) {p : Cu} (h : cOk c p = true) (hK : CuK p) (hz : (aB p.at').length ≤ 1099511627776) {k : Nat} (hk : k < (cuB c p).length) : (cuR ((cuB c p).take k) c).2 = 4 :=
  cuR_err c (by rw [cuC_eq ((cuB c p).take k) c]; exact (cuC_ok h hK hz).sh k hk) (by decide)
theorem cu_more (c : Int) {p : Cu} (h : cOk c p = true) (hK : CuK p) (hz : (aB p.at').length ≤ 1099511627776) (x : Int) : (cuR ((cuB c p) ++ [x]) c).2 = 5 :=
  cuR_err c (by rw [cuC_eq ((cuB c p) ++ [x]) c, (cuC_ok h hK hz).ok [x]]; exact ed_more x) (by decide)
theorem cuR_0 {b : List Int} (c : Int) (h : (cuR b c).2 = 0) : (cuC c ⟨b, 0⟩).2.e = 0 ∧ (cuR b c).1 = (cuC c ⟨b, 0⟩).1 := by
  unfold cuR at *
  rw [cuC_eq b c] at *
  split at h
  · rename_i u
    rw [if_pos u]
    exact ⟨u, rfl⟩
  · rename_i u
    exact absurd h u
theorem cu_again {b : List Int} (c : Int) (hb : Byt b) (h : (cuR b c).2 = 0) : (cuB c (cuR b c).1).length ≤ b.length ∧ cOk c (cuR b c).1 = true ∧ CuK (cuR b c).1 := by
  have q := cuR_0 c h
  rw [q.2]
  exact cuC_ag b c hb q.1

/-! How long a packet's texts are. -/
theorem pl_size {c : Int} {s : ByteArray} (h : mby c 524288 s = true) : s.size ≤ (plB c s).length := by
  unfold mby at h
  unfold plB
  split
  · simp [nums_length]
  · rename_i q
    rw [if_neg q] at h
    have := of_decide_eq_true h
    omega
theorem sc_size {c : Int} {s : ByteArray} (h : mby c 8 s = true) : s.size ≤ (scB c s).length := by
  unfold mby at h
  unfold scB
  split
  · simp [enB_len]
  · rename_i q
    rw [if_neg q] at h
    have := of_decide_eq_true h
    omega
theorem at_size {c : Int} {l : List At} (h : atK c l = true) : (aB l).length ≤ (atB c l).length := by
  unfold atK at h
  unfold atB
  split
  · simp
  · rename_i q
    rw [if_neg q] at h
    rw [List.eq_nil_of_length_eq_zero (of_decide_eq_true h)]
    simp [aB]
theorem rs_size (c : Int) (l : List Int) : l.length ≤ (rsB c l).length := by unfold rsB; split <;> simp
theorem gr_sizes {p : Gr} (h : gOk p = true) : p.ve.size + p.pl.size ≤ (grB p).length := by
  unfold gOk at h
  simp only [Bool.and_eq_true] at h
  have h1 := pl_size h.2.2.2
  unfold grB
  simp only [List.length_append, enB_len]
  omega
theorem sw_sizes {p : Sw} : p.pl.size + p.no.length ≤ (swB p).length := by
  unfold swB
  simp only [List.length_append, enB_len]
  omega
theorem an_sizes {p : An} (h : aOk p = true) : p.us.size + p.sc.size + p.pl.size + p.re.length + (aB p.at').length ≤ (anB p).length := by
  unfold aOk at h
  simp only [Bool.and_eq_true] at h
  have h1 := pl_size h.2.2.2.2.1
  have h2 := sc_size h.2.2.2.1
  have h3 := at_size (c := p.ca) (l := p.at') h.2.2.2.2.2
  have h4 := rs_size p.ca p.re
  unfold anB
  simp only [List.length_append, enB_len]
  omega
theorem cu_sizes {c : Int} {p : Cu} (h : cOk c p = true) : p.us.size + p.sc.size + p.pl.size + p.re.length + (aB p.at').length ≤ (cuB c p).length := by
  unfold cOk aOk at h
  simp only [Bool.and_eq_true] at h
  have h1 := pl_size h.2.2.2.2.1
  have h3 := at_size (c := c) (l := p.at') h.2.2.2.2.2
  unfold cuB
  simp only [List.length_append, enB_len, List.length_cons]
  omega

end Go.Proofs.Ytkijdkbkbelliaa
