/-
  The document's own way of reading texts as values, plain: what its guess is, and that its Of answers what the program's does: the one value whose text it is. Conditions: none.
-/
import Derived.Test.YtgldbainhncneaaGreatDoorMGu
import Derived.Test.YtgldbainhncneaaGreatDoorVrDg
import Derived.Test.YtgldbainhncneaaGreatDoorMOb
import Derived.Test.YtgldbainhncneaaGreatDoorVaOf2
namespace Go.Proofs.YtgldbainhncneaaGreatDoor
open Go.RowKit
set_option linter.unusedVariables false
set_option linter.unusedSimpArgs false

/-- A time out of a text. -/
def rgT (l : List UInt8) : Wh :=
  if 0 ≤ (rclk (if l.head? = some 45 then l.drop 1 else l)).h then ⟨decide (l.head? = some 45), 0, 0, (rclk (if l.head? = some 45 then l.drop 1 else l)).h / 24, (rclk (if l.head? = some 45 then l.drop 1 else l)).h % 24, (rclk (if l.head? = some 45 then l.drop 1 else l)).mi, (rclk (if l.head? = some 45 then l.drop 1 else l)).s, (rclk (if l.head? = some 45 then l.drop 1 else l)).mc⟩
  else ⟨decide (l.head? = some 45), 0, 0, 0, (rclk (if l.head? = some 45 then l.drop 1 else l)).h, (rclk (if l.head? = some 45 then l.drop 1 else l)).mi, (rclk (if l.head? = some 45 then l.drop 1 else l)).s, (rclk (if l.head? = some 45 then l.drop 1 else l)).mc⟩
/-- The document's guess. -/
def rgs (s : ByteArray) (t : Int) (un : Bool) : Va :=
  if kdV t un = 1 then ⟨1, rint s.data.toList, 0, ⟨#[]⟩, wh0⟩ else
  if kdV t un = 2 then ⟨2, 0, ((rnum s.data.toList).getD 0 : Nat), ⟨#[]⟩, wh0⟩ else
  if kdV t un = 5 then ⟨5, 0, 0, ⟨#[]⟩, rdat s.data.toList⟩ else
  if kdV t un = 6 then ⟨6, 0, 0, ⟨#[]⟩, rgT s.data.toList⟩ else ⟨7, 0, 0, s, wh0⟩
/-- The document's Of. -/
def rof (s : ByteArray) (t : Int) (un : Bool) : Va × Int :=
  if hasT (kdV t un) = false then (va0, 2) else
  if tOk (rgs s t un) t un = false ∨ vaT (rgs s t un) t ≠ s.data.toList then (va0, 5) else (rgs s t un, 0)

theorem rsml_bd (l : List UInt8) : -1 ≤ rsml l ∧ rsml l < 1048576 := by
  unfold rsml
  split
  · split <;> omega
  · omega
theorem head_no {s : ByteArray} (h : s.size = 0) : s.data.toList.head? = none := by
  have : s.data.toList.length = 0 := by rw [str_ln]; exact h
  rw [List.length_eq_zero_iff.1 this]; rfl
theorem head_is {s : ByteArray} (h : 0 < s.size) : s.data.toList.head? = some s[0] := by
  have := str_at s 0 h
  rw [List.drop_zero] at this
  rw [this]; rfl
theorem head_45 {s : ByteArray} (h : 0 < s.size) (h1 : s[0].toNat = 45) : s.data.toList.head? = some 45 := by
  rw [head_is h]
  exact congrArg some ((u8_eq (c := 45) (by decide)).2 h1)
theorem head_not {s : ByteArray} (h : 0 < s.size) (h1 : s[0].toNat ≠ 45) : ¬ s.data.toList.head? = some 45 := by
  rw [head_is h]
  intro z
  injection z with z
  exact h1 (by rw [z]; rfl)

theorem guess_ref (s : ByteArray) (t : Int) (un : Bool) (w : World) (q0 : 0 ≤ t) (q1 : t < 256) (hs : s.size ≤ 1099511627776) (hh : hasT (kdV t un) = true) :
    Calls Tryz.prog 32 #[.string s, .agg #[.int .u8 t, .bool un]] w fun e w' => e = .returned (.agg (vaC (rgs s t un))) ∧ Below w.heap.size w w' := by
  rcases kd_cases t un with h | h | h | h | h | h | h | h | h
  · rw [h] at hh; exact absurd hh (by decide)
  · rw [h] at hh; exact absurd hh (by decide)
  · have e : rgs s t un = ⟨1, rint s.data.toList, 0, ⟨#[]⟩, wh0⟩ := by unfold rgs; rw [if_pos h]
    rw [e]
    unfold rint
    by_cases h0 : s.size = 0
    · rw [if_neg (by rw [head_no h0]; simp)]
      exact rguess_1e s t un w q0 q1 hs h h0
    · by_cases h1 : s[0].toNat = 45
      · rw [if_pos (head_45 (by omega) h1), ← List.drop_one]
        exact rguess_1n s t un w q0 q1 hs h (by omega) h1
      · rw [if_neg (head_not (by omega) h1)]
        exact rguess_1p s t un w q0 q1 hs h (by omega) h1
  · have e : rgs s t un = ⟨2, 0, ((rnum s.data.toList).getD 0 : Nat), ⟨#[]⟩, wh0⟩ := by unfold rgs; rw [if_neg (by omega), if_pos h]
    rw [e]
    exact rguess_2 s t un w q0 q1 hs h
  · rw [h] at hh; exact absurd hh (by decide)
  · rw [h] at hh; exact absurd hh (by decide)
  · have e : rgs s t un = ⟨5, 0, 0, ⟨#[]⟩, rdat s.data.toList⟩ := by unfold rgs; rw [if_neg (by omega), if_neg (by omega), if_pos h]
    rw [e]
    have e2 : tb s.data.toList = s := rfl
    cases hO : cO s.data.toList 32
    · have := rguess_5f s.data.toList t un w q0 q1 (by rw [str_ln]; exact hs) h hO
      rwa [e2] at this
    · have := rguess_5t s.data.toList t un w q0 q1 (by rw [str_ln]; exact hs) h hO
      rwa [e2] at this
  · have e : rgs s t un = ⟨6, 0, 0, ⟨#[]⟩, rgT s.data.toList⟩ := by unfold rgs; rw [if_neg (by omega), if_neg (by omega), if_neg (by omega), if_pos h]
    rw [e]
    unfold rgT
    have B1 : (rclk s.data.toList).h < 1048576 := (rsml_bd _).2
    have B2 : (rclk (s.data.toList.drop 1)).h < 1048576 := (rsml_bd _).2
    by_cases h0 : s.size = 0
    · have hn : ¬ s.data.toList.head? = some 45 := by rw [head_no h0]; simp
      simp only [if_neg hn, decide_eq_false hn]
      by_cases hh : 0 ≤ (rclk s.data.toList).h
      · rw [if_pos hh]; exact rguess_6eh s t un w q0 q1 hs h h0 hh B1
      · rw [if_neg hh]; exact rguess_6ew s t un w q0 q1 hs h h0 (by omega) B1
    · by_cases h1 : s[0].toNat = 45
      · have hn := head_45 (by omega) h1
        simp only [if_pos hn, decide_eq_true hn]
        by_cases hh : 0 ≤ (rclk (s.data.toList.drop 1)).h
        · rw [if_pos hh]; exact rguess_6nh s t un w q0 q1 hs h (by omega) h1 hh B2
        · rw [if_neg hh]; exact rguess_6nw s t un w q0 q1 hs h (by omega) h1 (by omega) B2
      · have hn := head_not (by omega) h1
        simp only [if_neg hn, decide_eq_false hn]
        by_cases hh : 0 ≤ (rclk s.data.toList).h
        · rw [if_pos hh]; exact rguess_6ph s t un w q0 q1 hs h (by omega) h1 hh B1
        · rw [if_neg hh]; exact rguess_6pw s t un w q0 q1 hs h (by omega) h1 (by omega) B1
  · have e : rgs s t un = ⟨7, 0, 0, s, wh0⟩ := by unfold rgs; rw [if_neg (by omega), if_neg (by omega), if_neg (by omega), if_neg (by omega)]
    rw [e]
    exact rguess_7 s t un w q0 q1 hs h

/-! Its numbers are within their kinds. -/
theorem sm_i64 (l : List UInt8) : i64 (rsml l) := by have := rsml_bd l; exact ⟨by omega, by omega⟩
theorem z_i64 : i64 0 := ⟨by decide, by decide⟩
theorem wh0_k : WhK wh0 := ⟨z_i64, z_i64, z_i64, z_i64, z_i64, z_i64, z_i64⟩
theorem rclk_k (l : List UInt8) : WhK (rclk l) := by
  refine ⟨z_i64, z_i64, z_i64, sm_i64 _, sm_i64 _, sm_i64 _, ?_⟩
  show i64 (if cO (cB (cB l 58) 58) 46 = true then rsml (cB (cB (cB l 58) 58) 46) else 0)
  split
  · exact sm_i64 _
  · exact z_i64
theorem rdat_k (l : List UInt8) : WhK (rdat l) := by
  unfold rdat
  have h : WhK (if cO l 32 = true then rclk (cB l 32) else wh0) := by
    split
    · exact rclk_k _
    · exact wh0_k
  exact ⟨sm_i64 _, sm_i64 _, sm_i64 _, h.h, h.mi, h.s, h.mc⟩
theorem rgT_k (l : List UInt8) : WhK (rgT l) := by
  unfold rgT
  generalize (if l.head? = some 45 then l.drop 1 else l) = m
  have h := rclk_k m
  have b : -1 ≤ (rclk m).h ∧ (rclk m).h < 1048576 := rsml_bd _
  split
  · exact ⟨z_i64, z_i64, ⟨by show _ ≤ (rclk m).h / 24; omega, by show (rclk m).h / 24 ≤ _; omega⟩, ⟨by show _ ≤ (rclk m).h % 24; omega, by show (rclk m).h % 24 ≤ _; omega⟩, h.mi, h.s, h.mc⟩
  · exact ⟨z_i64, z_i64, z_i64, h.h, h.mi, h.s, h.mc⟩
theorem wrap_i64b (x : Int) : i64 (IntKind.i64.wrap x) := by
  rw [IntKind.wrap_i64]
  exact ⟨by omega, by omega⟩
theorem sk_i64 (k : Int) (h0 : -10 ≤ k) (h1 : k ≤ 10) : i64 k := ⟨by omega, by omega⟩
theorem z_u64 : (0 : Int) ≤ 0 ∧ (0 : Int) < 18446744073709551616 := ⟨by decide, by decide⟩
theorem rgs_K (s : ByteArray) (t : Int) (un : Bool) : VaK (rgs s t un) := by
  unfold rgs
  split
  · exact ⟨sk_i64 1 (by decide) (by decide), (show i64 (rint s.data.toList) by unfold rint; split <;> exact wrap_i64b _), z_u64, wh0_k⟩
  · split
    · refine ⟨sk_i64 2 (by decide) (by decide), z_i64, ?_, wh0_k⟩
      show 0 ≤ (((rnum s.data.toList).getD 0 : Nat) : Int) ∧ (((rnum s.data.toList).getD 0 : Nat) : Int) < 18446744073709551616
      cases hr : rnum s.data.toList with
      | none => exact ⟨by decide, by decide⟩
      | some y => have := rnum_lt hr; exact ⟨by simp, by simp; omega⟩
    · split
      · exact ⟨sk_i64 5 (by decide) (by decide), z_i64, z_u64, rdat_k _⟩
      · split
        · exact ⟨sk_i64 6 (by decide) (by decide), z_i64, z_u64, rgT_k _⟩
        · exact ⟨sk_i64 7 (by decide) (by decide), z_i64, z_u64, wh0_k⟩

/-! A text that is a value's is read as that value. -/
theorem rnF_ok : ∀ (l : List UInt8) (a v : Nat), Lib.parseUint10 a l = .ok v → rnF l a = some v
  | [], a, v, h => by
    simp only [Lib.parseUint10] at h
    injection h with h
    rw [h]; rfl
  | c :: l, a, v, h => by
    simp only [Lib.parseUint10] at h
    split at h
    · split at h
      · cases h
      · split at h
        · cases h
        · rename_i h1 h2 h3
          rw [rnF, if_neg (by omega), if_neg (by omega)]
          exact rnF_ok l _ v h
    · cases h
theorem pad_len20 {x : Int} {n : Nat} (h : 0 ≤ x) (hx : x < 18446744073709551616) (hn : n ≤ 20) : (pad x n).length ≤ 20 ∧ 0 < (pad x n).length := by
  obtain ⟨u, rfl⟩ := Int.eq_ofNat_of_zero_le h
  rw [pad_dec]
  have a := Lib.nDigits_le20 u (by omega)
  have b := Lib.nDigits_pos u
  rw [List.length_append, List.length_replicate, Lib.decDigits_length]
  omega
theorem rnum_pad {x : Int} {n : Nat} (h : 0 ≤ x) (hx : x < 18446744073709551616) (hn : n ≤ 20) : rnum (pad x n) = some x.toNat := by
  unfold rnum
  have hl := pad_len20 h hx hn
  rw [if_neg (by omega)]
  have hm := pad_mag h hx n
  unfold Lib.parseMag at hm
  rw [if_neg (pad_ne h n)] at hm
  exact rnF_ok _ _ _ hm
theorem rsml_pad {x : Int} {n : Nat} (h : 0 ≤ x) (hx : x < 1048576) (hn : n ≤ 20) : rsml (pad x n) = x := by
  unfold rsml
  rw [rnum_pad h (by omega) hn]
  simp only
  rw [if_pos (by omega)]
  omega
theorem rcut_in (c : UInt8) (r : List UInt8) : ∀ l : List UInt8, c ∉ l → rcut (l ++ c :: r) c = some (l, r)
  | [], _ => by simp [rcut]
  | a :: l, h => by
    have h1 : a ≠ c := by intro z; exact h (by simp [z])
    have h2 : c ∉ l := fun z => h (List.mem_cons_of_mem _ z)
    rw [List.cons_append, rcut, if_neg h1, rcut_in c r l h2]; rfl
theorem rcut_no (c : UInt8) : ∀ l : List UInt8, c ∉ l → rcut l c = none
  | [], _ => rfl
  | a :: l, h => by
    have h1 : a ≠ c := by intro z; exact h (by simp [z])
    have h2 : c ∉ l := fun z => h (List.mem_cons_of_mem _ z)
    rw [rcut, if_neg h1, rcut_no c l h2]; rfl
theorem c_in {l r : List UInt8} {c : Nat} {C : UInt8} (hC : UInt8.ofNat c = C) (hl : C ∉ l) : cA (l ++ C :: r) c = l ∧ cB (l ++ C :: r) c = r ∧ cO (l ++ C :: r) c = true := by
  unfold cA cB cO
  rw [hC, rcut_in C r l hl]
  exact ⟨rfl, rfl, rfl⟩
theorem c_no {l : List UInt8} {c : Nat} {C : UInt8} (hC : UInt8.ofNat c = C) (hl : C ∉ l) : cA l c = l ∧ cB l c = [] ∧ cO l c = false := by
  unfold cA cB cO
  rw [hC, rcut_no C l hl]
  exact ⟨rfl, rfl, rfl⟩
theorem p_no {x : Int} (h : 0 ≤ x) (n : Nat) {c : UInt8} (hc : c.toNat < 48 ∨ 57 < c.toNat) : c ∉ pad x n := fun z => by
  have := pad_dig h n c z
  omega
theorem rclk_back {w : Wh} {x : Int} (hx : 0 ≤ x) (hx2 : x < 1048576) (h1 : inr w.mi 59 = true) (h2 : inr w.s 59 = true) (h3 : inr w.mc 999999 = true) : rclk (pad x 2 ++ ([58] ++ minT w)) = ⟨false, 0, 0, 0, x, w.mi, w.s, w.mc⟩ := by
  have b1 := in_b h1
  have b2 := in_b h2
  have b3 := in_b h3
  have s1 : rsml (pad x 2) = x := rsml_pad hx hx2 (by decide)
  have s2 : rsml (pad w.mi 2) = w.mi := rsml_pad b1.1 (by omega) (by decide)
  have s3 : rsml (pad w.s 2) = w.s := rsml_pad b2.1 (by omega) (by decide)
  have s4 : rsml (pad w.mc 6) = w.mc := rsml_pad b3.1 (by omega) (by decide)
  have n46 := p_no b2.1 2 (c := 46) (by decide)
  unfold minT
  simp only [List.singleton_append]
  obtain ⟨e1, e2, _⟩ := c_in (l := pad x 2) (r := pad w.mi 2 ++ 58 :: (pad w.s 2 ++ if w.mc = 0 then [] else 46 :: pad w.mc 6)) (c := 58) (C := 58) rfl (p_no hx 2 (by decide))
  obtain ⟨f1, f2, _⟩ := c_in (l := pad w.mi 2) (r := pad w.s 2 ++ if w.mc = 0 then [] else 46 :: pad w.mc 6) (c := 58) (C := 58) rfl (p_no b1.1 2 (by decide))
  unfold rclk
  rw [e1, e2, f1, f2, s1, s2]
  by_cases hm : w.mc = 0
  · rw [if_pos hm, List.append_nil]
    obtain ⟨g1, g2, g3⟩ := c_no (l := pad w.s 2) (c := 46) (C := 46) rfl n46
    rw [g1, g3, s3, if_neg (by decide), hm]
  · rw [if_neg hm]
    obtain ⟨g1, g2, g3⟩ := c_in (l := pad w.s 2) (r := pad w.mc 6) (c := 46) (C := 46) rfl n46
    rw [g1, g2, g3, s3, s4, if_pos rfl]
theorem rdat_back {w : Wh} {t : Int} (h : dtOk w t = true) : rdat (datT w t) = w := by
  unfold dtOk clk at h
  simp only [Bool.and_eq_true] at h
  obtain ⟨h0, h1, h2, h3, h4, h5, h6, h7, h8⟩ := h
  have b2 := in_b h2
  have b3 := in_b h3
  have b4 := in_b h4
  have b5 := in_b h5
  have hday : (32 : UInt8) ∉ dayT w := by
    unfold dayT
    simp only [List.singleton_append, List.mem_append, List.mem_cons]
    rintro (z | z | z | z | z)
    · exact p_no b2.1 4 (by decide) z
    · exact absurd z (by decide)
    · exact p_no b3.1 2 (by decide) z
    · exact absurd z (by decide)
    · exact p_no b4.1 2 (by decide) z
  obtain ⟨e1, e2, _⟩ := c_in (l := pad w.y 4) (r := pad w.mo 2 ++ 45 :: pad w.d 2) (c := 45) (C := 45) rfl (p_no b2.1 4 (by decide))
  obtain ⟨f1, f2, _⟩ := c_in (l := pad w.mo 2) (r := pad w.d 2) (c := 45) (C := 45) rfl (p_no b3.1 2 (by decide))
  have eD : dayT w = pad w.y 4 ++ 45 :: (pad w.mo 2 ++ 45 :: pad w.d 2) := rfl
  have s1 : rsml (pad w.y 4) = w.y := rsml_pad b2.1 (by omega) (by decide)
  have s2 : rsml (pad w.mo 2) = w.mo := rsml_pad b3.1 (by omega) (by decide)
  have s3 : rsml (pad w.d 2) = w.d := rsml_pad b4.1 (by omega) (by decide)
  unfold rdat datT
  by_cases ht : t = 10
  · obtain ⟨g1, g2, g3⟩ := c_no (c := 32) (C := 32) rfl hday
    rw [if_pos ht, List.append_nil, g1, g3, eD, e1, e2, f1, f2, s1, s2, s3, if_neg (by decide)]
    have hm : mid w = true := by
      rw [ht] at h0
      simpa using h0
    unfold mid at hm
    simp only [Bool.and_eq_true, beq_iff_eq] at hm
    obtain ⟨ng, y, mo, d, hh, mi, s, mc⟩ := w
    simp only [Bool.not_eq_true', Bool.not_eq_eq_eq_not, Bool.not_true] at h1 hm ⊢
    obtain ⟨m1, m2, m3, m4⟩ := hm
    rw [h1, m1, m2, m3, m4]
    rfl
  · rw [if_neg ht]
    obtain ⟨g1, g2, g3⟩ := c_in (r := pad w.h 2 ++ ([58] ++ minT w)) (c := 32) (C := 32) rfl hday
    rw [List.singleton_append, g1, g2, g3, eD, e1, e2, f1, f2, s1, s2, s3, if_pos rfl, rclk_back b5.1 (by omega) h6 h7 h8]
    obtain ⟨ng, y, mo, d, hh, mi, s, mc⟩ := w
    simp only [Bool.not_eq_true', Bool.not_eq_eq_eq_not, Bool.not_true] at h1 ⊢
    rw [h1]
theorem pad_head {x : Int} (h : 0 ≤ x) (n : Nat) (r : List UInt8) : ¬ (pad x n ++ r).head? = some 45 := by
  have h1 := pad_ne h n
  have h2 := pad_dig h n
  cases hp : pad x n with
  | nil => exact absurd hp h1
  | cons a l =>
    rw [hp] at h2
    intro z
    have := h2 a (by simp)
    simp only [List.cons_append, List.head?_cons] at z
    injection z with z
    rw [z] at this
    exact absurd this.1 (by decide)
theorem rgT_back {w : Wh} (h : tmOk w = true) : rgT (timT w) = w := by
  unfold tmOk clk at h
  simp only [Bool.and_eq_true, decide_eq_true_eq, beq_iff_eq] at h
  obtain ⟨h0, h1, h2, h3, h4, h5, h6, h7⟩ := h
  have b3 := in_b h3
  have b4 := in_b h4
  have hr := rclk_back (x := 24 * w.d + w.h) (by omega) (by omega) h5 h6 h7
  have key : ∀ ng : Bool, w.ng = ng → (if (timT w).head? = some 45 then (timT w).drop 1 else timT w) = pad (24 * w.d + w.h) 2 ++ ([58] ++ minT w) ∧ decide ((timT w).head? = some 45) = ng := by
    intro ng hg
    unfold timT
    rw [hg]
    cases ng
    · have hp := pad_head (x := 24 * w.d + w.h) (by omega) 2 ([58] ++ minT w)
      exact ⟨if_neg hp, decide_eq_false hp⟩
    · exact ⟨if_pos rfl, decide_eq_true rfl⟩
  obtain ⟨k1, k2⟩ := key w.ng rfl
  unfold rgT
  rw [k1, k2, hr]
  simp only
  rw [if_pos (by omega)]
  obtain ⟨ng, y, mo, d, hh, mi, s, mc⟩ := w
  simp only at h1 h2 b3 b4 ⊢
  rw [h1, h2, show (24 * d + hh) / 24 = d by omega, show (24 * d + hh) % 24 = hh by omega]
theorem pad0 {x : Int} (h : 0 ≤ x) : pad x 0 = Lib.itoa x := by
  unfold pad
  rw [Nat.zero_sub]
  rfl
theorem rint_back {i : Int} (h : i64 i) : rint (Lib.itoa i) = i := by
  obtain ⟨h0, h1⟩ := h
  unfold rint
  by_cases hi : 0 ≤ i
  · have e := pad_head hi 0 []
    rw [List.append_nil, pad0 hi] at e
    rw [if_neg e, ← pad0 hi, rnum_pad hi (by omega) (by decide), IntKind.wrap_i64]
    simp only [Option.getD_some]
    omega
  · have e : Lib.itoa i = 45 :: Lib.itoa (-i) := by
      unfold Lib.itoa
      rw [if_pos (by omega), if_neg (by omega), show (-i).toNat = i.natAbs by omega]
    rw [e, if_pos (by rfl), List.tail_cons, ← pad0 (by omega), rnum_pad (by omega) (by omega) (by decide), IntKind.wrap_i64]
    simp only [Option.getD_some]
    omega
theorem rnum_back {b : Int} (h0 : 0 ≤ b) (h1 : b < 18446744073709551616) : (((rnum (Lib.itoa b)).getD 0 : Nat) : Int) = b := by
  rw [← pad0 h0, rnum_pad h0 h1 (by decide)]
  simp only [Option.getD_some]
  omega
theorem rgs_back {v : Va} {t : Int} {un : Bool} (hv : VaK v) (h : tOk v t un = true) : rgs (tb (vaT v t)) t un = v := by
  unfold tOk vOk mb at h
  simp only [Bool.and_eq_true, Bool.or_eq_true, decide_eq_true_eq] at h
  obtain ⟨⟨hn, hm⟩, hh⟩ := h
  rcases hm with hm | ⟨hk, hf⟩
  · rw [hm] at hh; exact absurd hh (by decide)
  unfold rgs
  rw [← hk, tb_dt]
  unfold fit at hf
  by_cases k1 : v.k = 1
  · rw [if_pos k1] at hf
    rw [if_pos k1]
    simp only [Bool.and_eq_true, decide_eq_true_eq] at hf
    have e : vaT v t = Lib.itoa v.i := by unfold vaT; rw [if_pos k1]
    rw [e, rint_back hv.i]
    rw [k1] at hf
    exact hf.1.symm
  rw [if_neg k1] at hf ⊢
  by_cases k2 : v.k = 2
  · rw [if_pos (Or.inl k2)] at hf
    rw [if_pos k2]
    simp only [Bool.and_eq_true, decide_eq_true_eq] at hf
    have e : vaT v t = Lib.itoa v.b := by unfold vaT; rw [if_neg k1, if_pos k2]
    rw [e, rnum_back hv.b.1 hv.b.2]
    rw [k2] at hf
    exact hf.1.symm
  rw [if_neg k2]
  by_cases k34 : v.k = 3 ∨ v.k = 4
  · rcases k34 with q | q <;> rw [q] at hh <;> exact absurd hh (by decide)
  rw [if_neg (by omega)] at hf
  by_cases k5 : v.k = 5
  · rw [if_pos k5] at hf ⊢
    simp only [Bool.and_eq_true, decide_eq_true_eq] at hf
    have e : vaT v t = datT v.w t := by unfold vaT; rw [if_neg k1, if_neg k2, if_pos k5]
    rw [e, rdat_back hf.2]
    rw [k5] at hf
    exact hf.1.symm
  rw [if_neg k5] at hf ⊢
  by_cases k6 : v.k = 6
  · rw [if_pos k6] at hf ⊢
    simp only [Bool.and_eq_true, decide_eq_true_eq] at hf
    have e : vaT v t = timT v.w := by unfold vaT; rw [if_neg k1, if_neg k2, if_neg k5, if_pos k6]
    rw [e, rgT_back hf.2]
    rw [k6] at hf
    exact hf.1.symm
  rw [if_neg k6] at hf ⊢
  by_cases k7 : v.k = 7
  · rw [if_pos k7] at hf
    simp only [Bool.and_eq_true, decide_eq_true_eq] at hf
    have e : vaT v t = v.t.data.toList := by unfold vaT; rw [if_neg k1, if_neg k2, if_neg k5, if_neg k6]
    rw [e, tb_back]
    rw [k7] at hf
    exact hf.1.symm
  · rw [if_neg k7] at hf
    exact absurd hf (by decide)
/-- The document's Of is the program's. -/
theorem rof_eq (s : ByteArray) (t : Int) (un : Bool) : rof s t un = ofV s t un := by
  unfold rof ofV
  cases hH : hasT (kdV t un)
  · rw [if_pos rfl, if_pos rfl]
  · rw [if_neg (show ¬ true = false by decide), if_neg (show ¬ true = false by decide)]
    by_cases hg : mb (gsV s t un) t un = false ∨ vaT (gsV s t un) t ≠ s.data.toList
    · rw [if_pos hg]
      by_cases hr : tOk (rgs s t un) t un = false ∨ vaT (rgs s t un) t ≠ s.data.toList
      · rw [if_pos hr]
      · exfalso
        have r1 : tOk (rgs s t un) t un = true := by
          cases h : tOk (rgs s t un) t un
          · exact absurd (Or.inl h) hr
          · rfl
        have r2 : vaT (rgs s t un) t = s.data.toList := Classical.byContradiction fun h => hr (Or.inr h)
        have hb := of_back (rgs_K s t un) r1
        rw [r2, tb_back] at hb
        unfold ofV at hb
        rw [hH, if_neg (show ¬ true = false by decide), if_pos hg] at hb
        exact absurd (congrArg Prod.snd hb) (show ¬ (5 : Int) = 0 by decide)
    · rw [if_neg hg]
      have g1 : mb (gsV s t un) t un = true := by
        cases h : mb (gsV s t un) t un
        · exact absurd (Or.inl h) hg
        · rfl
      have g2 : vaT (gsV s t un) t = s.data.toList := Classical.byContradiction fun h => hg (Or.inr h)
      have hk : (gsV s t un).k = kdV t un := by
        unfold gsV
        simp only
        repeat' split
        all_goals rfl
      have g3 : tOk (gsV s t un) t un = true := by
        unfold tOk vOk
        rw [g1, hk, hH]
        have : kdV t un ≠ -1 := by intro h; rw [h] at hH; exact absurd hH (by decide)
        simp [this]
      have hb := rgs_back (gsV_K s t un) g3
      rw [g2, tb_back] at hb
      rw [hb, if_neg]
      intro hc
      rcases hc with hc | hc
      · rw [g3] at hc; exact absurd hc (by decide)
      · exact hc g2

end Go.Proofs.YtgldbainhncneaaGreatDoor
