/-
  Columns, counts: what is written is read back; each part of it is too short, a byte more is wrong; what is read without an error has the bytes of one column alone. No memory is named here. Conditions: numbers within their kinds.
-/
import Derived.Test.YtgdjeooiimjjcaaDoorClPlain
namespace Go.Proofs.YtgdjeooiimjjcaaDoor
open Go.RowKit
set_option linter.unusedVariables false
set_option linter.unusedSimpArgs false

/-- The field's bytes l are read as a, whatever stands behind them; each part of them is too short. -/
structure Fld {α : Type} (f : FS → FS) (v : FS → α) (l : List Int) (a : α) : Prop where
  ok : ∀ r, f ⟨l ++ r, 0⟩ = ⟨r, 0⟩
  va : ∀ r, v ⟨l ++ r, 0⟩ = a
  sh : ∀ k, k < l.length → (f ⟨l.take k, 0⟩).e = 4
/-- Behind an error it stays. -/
def Stk (f : FS → FS) : Prop := ∀ s, s.e ≠ 0 → (f s).e = s.e
theorem waS_stk (x : Bool) : Stk (fun s => waS s x) := fun s h => by
  show (waS s x).e = s.e
  unfold waS
  rw [if_neg (fun q => h q.1)]
theorem waS_keep {s : FS} (x : Bool) (h : s.e ≠ 0) : waS s x = s := by unfold waS; rw [if_neg (fun q => h q.1)]
theorem wa_fld : Fld (fun s => waS s true) (fun _ => ()) [] () := ⟨fun r => waS_true _, fun _ => rfl, fun k h => by simp at h⟩
theorem readFixed_ok {b : List Int} {n : Nat} (h1 : 1 ≤ n) (h8 : n ≤ 8) (hl : n ≤ b.length) : readFixed b n = (val b n, 0) := by
  unfold readFixed
  rw [if_neg (by omega), if_neg (by omega), Int.toNat_natCast]
theorem readFixed_sh {b : List Int} {n : Nat} (h1 : 1 ≤ n) (h8 : n ≤ 8) (hl : b.length < n) : readFixed b n = (0, 4) := by
  unfold readFixed
  rw [if_neg (by omega), if_pos (by omega)]
theorem fx_stk (n : Nat) : Stk (fun s => fxS s n) := fun s h => by
  show (fxS s n).e = s.e
  unfold fxS
  rw [if_neg h]
theorem fx_fld {x : Int} {n : Nat} (h1 : 1 ≤ n) (h8 : n ≤ 8) (h0 : 0 ≤ x) (hx : x < 2 ^ (8 * n)) : Fld (fun s => fxS s n) (fun s => fxA s n) (le x n) x := by
  refine ⟨fun r => ?_, fun r => ?_, fun k hk => ?_⟩
  · show fxS _ n = _
    unfold fxS
    rw [if_pos rfl, readFixed_ok h1 h8 (by simp [le_length])]
    show (⟨(le x n ++ r).drop n, 0⟩ : FS) = _
    rw [List.drop_append_of_le_length (by simp [le_length]), List.drop_of_length_le (by simp [le_length]), List.nil_append]
  · show fxA _ n = _
    unfold fxA
    rw [if_pos rfl, readFixed_ok h1 h8 (by simp [le_length])]
    exact val_le_fits x h0 r n hx
  · rw [le_length] at hk
    show (fxS _ n).e = _
    unfold fxS
    rw [if_pos rfl, readFixed_sh h1 h8 (by simp [le_length]; omega)]
    rfl
theorem ma_stk (x : Int) : Stk (fun s => maS s x) := fun s h => by
  show (waS (fxS s 1) _).e = s.e
  have := fx_stk 1 s h
  simp only at this
  rw [waS_keep _ (by rw [this]; exact h), this]
theorem ma_fld {x : Int} (h0 : 0 ≤ x) (h1 : x ≤ 255) : Fld (fun s => maS s x) (fun _ => ()) [x] () := by
  have F := fx_fld (n := 1) (by omega) (by omega) h0 (show x < 2 ^ (8 * 1) by simp; omega)
  rw [le_one h0 h1] at F
  refine ⟨fun r => ?_, fun _ => rfl, fun k hk => ?_⟩
  · show waS (fxS _ 1) (fxA _ 1 == x) = _
    have e1 : fxS ⟨[x] ++ r, 0⟩ 1 = ⟨r, 0⟩ := F.ok r
    have e2 : fxA ⟨[x] ++ r, 0⟩ 1 = x := F.va r
    rw [e1, e2, beq_self_eq_true, waS_true]
  · show (waS (fxS _ 1) _).e = _
    have : (fxS ⟨[x].take k, 0⟩ 1).e = 4 := F.sh k hk
    rw [waS_keep _ (by rw [this]; decide), this]
theorem txB_ln (s : ByteArray) : (txB s).length = (form (s.size : Int)).length + s.size := by simp [txB, nums_length]
theorem form_pos (x : Int) : 1 ≤ (form x).length := by simp [form]
theorem readText_txB {s : ByteArray} (hs : s.size ≤ 1099511627776) (r : List Int) : readText (txB s ++ r) = (s, ((txB s).length : Int), 0) := by
  have h := readInt_form (s.size : Int) (by omega) (by omega) (nums s ++ r)
  have e : txB s ++ r = form (s.size : Int) ++ (nums s ++ r) := by unfold txB; rw [List.append_assoc]
  rw [e, readText_long h (by simp [nums_length]; omega)]
  have e2 : ((form (s.size : Int) ++ (nums s ++ r)).drop ((form (s.size : Int)).length : Int).toNat).take (s.size : Int).toNat = nums s := by
    rw [Int.toNat_natCast, Int.toNat_natCast, List.drop_left, List.take_append_of_le_length (by rw [nums_length]; exact Nat.le_refl _), List.take_of_length_le (by rw [nums_length]; exact Nat.le_refl _)]
  rw [e2, str_nums, txB_ln]
  simp
theorem readText_part {s : ByteArray} (hs : s.size ≤ 1099511627776) {k : Nat} (hk : k < (txB s).length) : (readText ((txB s).take k)).2.2 = 4 := by
  rw [txB_ln] at hk
  unfold txB
  by_cases h : k < (form (s.size : Int)).length
  · rw [List.take_append_of_le_length (by omega)]
    have p := readInt_part (s.size : Int) k h
    obtain ⟨x, q, er, hr⟩ : ∃ x q er, readInt ((form (s.size : Int)).take k) = (x, q, er) := ⟨_, _, _, rfl⟩
    rw [hr] at p
    simp only at p
    subst p
    rw [readText_err hr (by decide)]
  · rw [List.take_append, List.take_of_length_le (by omega)]
    have h2 := readInt_form (s.size : Int) (by omega) (by omega) ((nums s).take (k - (form (s.size : Int)).length))
    rw [readText_short h2 (by simp [nums_length]; omega)]
theorem tx_stk : Stk txS := fun s h => by unfold txS; rw [if_neg h]
theorem tx_keep {s : FS} (h : s.e ≠ 0) : txS s = s := by unfold txS; rw [if_neg h]
theorem tx_fld {s : ByteArray} (hs : s.size ≤ 1099511627776) : Fld txS txA (txB s) s := by
  refine ⟨fun r => ?_, fun r => ?_, fun k hk => ?_⟩
  · unfold txS paS
    rw [if_pos rfl, readText_txB hs r, if_pos rfl]
    show (⟨(txB s ++ r).drop ((txB s).length : Int).toNat, 0⟩ : FS) = _
    rw [Int.toNat_natCast, List.drop_left]
  · unfold txA
    rw [if_pos rfl, readText_txB hs r]
  · have p := readText_part hs hk
    unfold txS paS
    rw [if_pos rfl, p, if_neg (by decide)]
/-! A text of a column. -/
theorem ct_stk : Stk ctS := fun s h => by
  unfold ctS
  rw [tx_keep h, waS_keep _ h]
theorem ct_fld {s : ByteArray} (hs : s.size ≤ 255) : Fld ctS txA (txB s) s := by
  have F := tx_fld (s := s) (by omega)
  refine ⟨fun r => ?_, F.va, fun k hk => ?_⟩
  · unfold ctS
    rw [F.ok r, F.va r, decide_eq_true hs, waS_true]
  · unfold ctS
    have := F.sh k hk
    rw [waS_keep _ (by rw [this]; decide), this]
/-- 'def'. -/
def dfS (s : FS) : FS := waS (txS s) (isDef (txA s))
theorem df_stk : Stk dfS := fun s h => by
  unfold dfS
  rw [tx_keep h, waS_keep _ h]
theorem df_fld : Fld dfS (fun _ => ()) defB () := by
  have F := tx_fld (s := ⟨#[100, 101, 102]⟩) (by decide)
  have e : txB ⟨#[100, 101, 102]⟩ = defB := by kernel_rfl
  rw [e] at F
  have hi : isDef ⟨#[100, 101, 102]⟩ = true := by
    unfold isDef
    rw [ByteArray.toList_eq]
    rfl
  refine ⟨fun r => ?_, fun _ => rfl, fun k hk => ?_⟩
  · unfold dfS
    rw [F.ok r, F.va r, hi, waS_true]
  · unfold dfS
    have := F.sh k hk
    rw [waS_keep _ (by rw [this]; decide), this]
/-- Two bytes 0. -/
def z2S (s : FS) : FS := waS (fxS s 2) (fxA s 2 == 0)
theorem z2_stk : Stk z2S := fun s h => by
  unfold z2S
  have e := fx_stk 2 s h
  simp only at e
  rw [waS_keep _ (by rw [e]; exact h), e]
theorem z2_fld : Fld z2S (fun _ => ()) [0, 0] () := by
  have F := fx_fld (x := 0) (n := 2) (by omega) (by omega) (by omega) (by decide)
  rw [show le 0 2 = [0, 0] by decide] at F
  refine ⟨fun r => ?_, fun _ => rfl, fun k hk => ?_⟩
  · unfold z2S
    have e1 : fxS ⟨[0, 0] ++ r, 0⟩ 2 = ⟨r, 0⟩ := F.ok r
    have e2 : fxA ⟨[0, 0] ++ r, 0⟩ 2 = 0 := F.va r
    rw [e1, e2]
    exact waS_true _
  · unfold z2S
    have : (fxS ⟨([0, 0] : List Int).take k, 0⟩ 2).e = 4 := F.sh k hk
    rw [waS_keep _ (by rw [this]; decide), this]

/-- One field, then the rest, which may hang on what was read. -/
def Bnd {α β : Type} (f : FS → FS) (v : FS → α) (G : α → FS → β × FS) : FS → β × FS := fun s => G (v s) (f s)
/-- The last: nothing may be left. -/
def fin {β : Type} (x : β) : FS → β × FS := fun s => (x, edS s)
/-- The bytes l are read as x; what stands behind them is left; each part of them is too short. -/
structure Okq {β : Type} (Q : FS → β × FS) (l : List Int) (x : β) : Prop where
  ok : ∀ r, Q ⟨l ++ r, 0⟩ = (x, edS ⟨r, 0⟩)
  sh : ∀ k, k < l.length → (Q ⟨l.take k, 0⟩).2.e = 4
/-- Behind an error it stays. -/
def Stq {β : Type} (Q : FS → β × FS) : Prop := ∀ s, s.e ≠ 0 → (Q s).2.e = s.e
theorem ed_stk : Stk edS := fun s h => by unfold edS; rw [waS_keep _ h]
theorem fin_stq {β : Type} (x : β) : Stq (fin x) := fun s h => ed_stk s h
theorem Stq.bnd {α β : Type} {f : FS → FS} {v : FS → α} {G : α → FS → β × FS} (hf : Stk f) (hG : ∀ a, Stq (G a)) : Stq (Bnd f v G) := fun s h => by
  have e := hf s h
  show (G (v s) (f s)).2.e = s.e
  rw [hG (v s) (f s) (by rw [e]; exact h), e]
theorem fin_ok {β : Type} (x : β) : Okq (fin x) [] x := ⟨fun r => rfl, fun k h => by simp at h⟩
theorem Okq.bnd {α β : Type} {f : FS → FS} {v : FS → α} {G : α → FS → β × FS} {l1 l2 : List Int} {a : α} {x : β} (F : Fld f v l1 a) (hS : ∀ a', Stq (G a')) (K : Okq (G a) l2 x) : Okq (Bnd f v G) (l1 ++ l2) x := by
  refine ⟨fun r => ?_, fun k hk => ?_⟩
  · show G (v _) (f _) = _
    rw [List.append_assoc, F.va, F.ok]
    exact K.ok r
  · show (G (v _) (f _)).2.e = 4
    by_cases h : k < l1.length
    · rw [List.take_append_of_le_length (by omega)]
      have e := F.sh k h
      rw [hS _ _ (by rw [e]; decide), e]
    · rw [List.take_append, List.take_of_length_le (by omega), F.va, F.ok]
      exact K.sh _ (by simp at hk; omega)
theorem ed_more (x : Int) : (edS ⟨[x], 0⟩).e = 5 := rfl

def coC : FS → Co × FS := Bnd dfS (fun _ => ()) fun _ => Bnd ctS txA fun sc => Bnd ctS txA fun ta => Bnd ctS txA fun ot => Bnd ctS txA fun na => Bnd ctS txA fun on => Bnd (fun s => maS s 12) (fun _ => ()) fun _ => Bnd (fun s => fxS s 2) (fun s => fxA s 2) fun ch => Bnd (fun s => fxS s 4) (fun s => fxA s 4) fun ln => Bnd (fun s => fxS s 1) (fun s => fxA s 1) fun ty => Bnd (fun s => waS s (kn ty)) (fun _ => ()) fun _ => Bnd (fun s => fxS s 2) (fun s => fxA s 2) fun fl => Bnd (fun s => fxS s 1) (fun s => fxA s 1) fun de => Bnd z2S (fun _ => ()) fun _ => fin ⟨sc, ta, ot, na, on, ch, ln, ty, fl, de⟩
theorem coC_eq (b : List Int) : coQ b = coC ⟨b, 0⟩ := rfl
theorem cOk_all {p : Co} (h : cOk p = true) : kn p.ty = true ∧ p.sc.size ≤ 255 ∧ p.ta.size ≤ 255 ∧ p.ot.size ≤ 255 ∧ p.na.size ≤ 255 ∧ p.on.size ≤ 255 := by
  unfold cOk at h
  simpa only [Bool.and_eq_true, decide_eq_true_iff] using h
theorem coC_ok {p : Co} (h : cOk p = true) (hK : CoK p) : Okq coC (coB p) p := by
  obtain ⟨hk, hz⟩ := cOk_all h
  rw [show coB p = defB ++ (txB p.sc ++ (txB p.ta ++ (txB p.ot ++ (txB p.na ++ (txB p.on ++ ([12] ++ (le p.ch 2 ++ (le p.le 4 ++ (le p.ty 1 ++ ([] ++ (le p.fl 2 ++ (le p.de 1 ++ ([0, 0] ++ []))))))))))))) by
    rw [le_one hK.ty.1 (by have := hK.ty.2; omega), le_one hK.de.1 (by have := hK.de.2; omega)]
    rfl]
  unfold coC
  refine Okq.bnd df_fld (fun _ => Stq.bnd ct_stk (fun _ => Stq.bnd ct_stk (fun _ => Stq.bnd ct_stk (fun _ => Stq.bnd ct_stk (fun _ => Stq.bnd ct_stk (fun _ => Stq.bnd (ma_stk _) (fun _ => Stq.bnd (fx_stk _) (fun _ => Stq.bnd (fx_stk _) (fun _ => Stq.bnd (fx_stk _) (fun _ => Stq.bnd (waS_stk _) (fun _ => Stq.bnd (fx_stk _) (fun _ => Stq.bnd (fx_stk _) (fun _ => Stq.bnd z2_stk (fun _ => fin_stq _)))))))))))))) (Okq.bnd (ct_fld hz.1) (fun _ => Stq.bnd ct_stk (fun _ => Stq.bnd ct_stk (fun _ => Stq.bnd ct_stk (fun _ => Stq.bnd ct_stk (fun _ => Stq.bnd (ma_stk _) (fun _ => Stq.bnd (fx_stk _) (fun _ => Stq.bnd (fx_stk _) (fun _ => Stq.bnd (fx_stk _) (fun _ => Stq.bnd (waS_stk _) (fun _ => Stq.bnd (fx_stk _) (fun _ => Stq.bnd (fx_stk _) (fun _ => Stq.bnd z2_stk (fun _ => fin_stq _))))))))))))) (Okq.bnd (ct_fld hz.2.1) (fun _ => Stq.bnd ct_stk (fun _ => Stq.bnd ct_stk (fun _ => Stq.bnd ct_stk (fun _ => Stq.bnd (ma_stk _) (fun _ => Stq.bnd (fx_stk _) (fun _ => Stq.bnd (fx_stk _) (fun _ => Stq.bnd (fx_stk _) (fun _ => Stq.bnd (waS_stk _) (fun _ => Stq.bnd (fx_stk _) (fun _ => Stq.bnd (fx_stk _) (fun _ => Stq.bnd z2_stk (fun _ => fin_stq _)))))))))))) (Okq.bnd (ct_fld hz.2.2.1) (fun _ => Stq.bnd ct_stk (fun _ => Stq.bnd ct_stk (fun _ => Stq.bnd (ma_stk _) (fun _ => Stq.bnd (fx_stk _) (fun _ => Stq.bnd (fx_stk _) (fun _ => Stq.bnd (fx_stk _) (fun _ => Stq.bnd (waS_stk _) (fun _ => Stq.bnd (fx_stk _) (fun _ => Stq.bnd (fx_stk _) (fun _ => Stq.bnd z2_stk (fun _ => fin_stq _))))))))))) (Okq.bnd (ct_fld hz.2.2.2.1) (fun _ => Stq.bnd ct_stk (fun _ => Stq.bnd (ma_stk _) (fun _ => Stq.bnd (fx_stk _) (fun _ => Stq.bnd (fx_stk _) (fun _ => Stq.bnd (fx_stk _) (fun _ => Stq.bnd (waS_stk _) (fun _ => Stq.bnd (fx_stk _) (fun _ => Stq.bnd (fx_stk _) (fun _ => Stq.bnd z2_stk (fun _ => fin_stq _)))))))))) (Okq.bnd (ct_fld hz.2.2.2.2) (fun _ => Stq.bnd (ma_stk _) (fun _ => Stq.bnd (fx_stk _) (fun _ => Stq.bnd (fx_stk _) (fun _ => Stq.bnd (fx_stk _) (fun _ => Stq.bnd (waS_stk _) (fun _ => Stq.bnd (fx_stk _) (fun _ => Stq.bnd (fx_stk _) (fun _ => Stq.bnd z2_stk (fun _ => fin_stq _))))))))) (Okq.bnd (ma_fld (by omega) (by omega)) (fun _ => Stq.bnd (fx_stk _) (fun _ => Stq.bnd (fx_stk _) (fun _ => Stq.bnd (fx_stk _) (fun _ => Stq.bnd (waS_stk _) (fun _ => Stq.bnd (fx_stk _) (fun _ => Stq.bnd (fx_stk _) (fun _ => Stq.bnd z2_stk (fun _ => fin_stq _)))))))) (Okq.bnd (fx_fld (by omega) (by omega) hK.ch.1 (by have := hK.ch.2; simpa using this)) (fun _ => Stq.bnd (fx_stk _) (fun _ => Stq.bnd (fx_stk _) (fun _ => Stq.bnd (waS_stk _) (fun _ => Stq.bnd (fx_stk _) (fun _ => Stq.bnd (fx_stk _) (fun _ => Stq.bnd z2_stk (fun _ => fin_stq _))))))) (Okq.bnd (fx_fld (by omega) (by omega) hK.le.1 (by have := hK.le.2; simpa using this)) (fun _ => Stq.bnd (fx_stk _) (fun _ => Stq.bnd (waS_stk _) (fun _ => Stq.bnd (fx_stk _) (fun _ => Stq.bnd (fx_stk _) (fun _ => Stq.bnd z2_stk (fun _ => fin_stq _)))))) (Okq.bnd (fx_fld (by omega) (by omega) hK.ty.1 (by have := hK.ty.2; simpa using this)) (fun _ => Stq.bnd (waS_stk _) (fun _ => Stq.bnd (fx_stk _) (fun _ => Stq.bnd (fx_stk _) (fun _ => Stq.bnd z2_stk (fun _ => fin_stq _))))) (?_))))))))))
  rw [hk]
  exact Okq.bnd wa_fld (fun _ => Stq.bnd (fx_stk _) (fun _ => Stq.bnd (fx_stk _) (fun _ => Stq.bnd z2_stk (fun _ => fin_stq _)))) (Okq.bnd (fx_fld (by omega) (by omega) hK.fl.1 (by have := hK.fl.2; simpa using this)) (fun _ => Stq.bnd (fx_stk _) (fun _ => Stq.bnd z2_stk (fun _ => fin_stq _))) (Okq.bnd (fx_fld (by omega) (by omega) hK.de.1 (by have := hK.de.2; simpa using this)) (fun _ => Stq.bnd z2_stk (fun _ => fin_stq _)) (Okq.bnd z2_fld (fun _ => fin_stq _) (fin_ok _))))
theorem coR_of {b : List Int} {x : Co} {s : FS} (h : coQ b = (x, s)) (h0 : s.e = 0) : coR b = (x, 0) := by unfold coR; rw [h, if_pos h0]
theorem coR_err {b : List Int} {E : Int} (h : (coQ b).2.e = E) (h0 : E ≠ 0) : (coR b).2 = E := by unfold coR; rw [if_neg (by rw [h]; exact h0), h]
theorem co_back {p : Co} (h : cOk p = true) (hK : CoK p) : coR (coB p) = (p, 0) := by
  have e := (coC_ok h hK).ok []
  rw [List.append_nil] at e
  exact coR_of (by rw [coC_eq]; exact e) rfl
theorem co_part {p : Co} (h : cOk p = true) (hK : CoK p) {k : Nat} (hk : k < (coB p).length) : (coR ((coB p).take k)).2 = 4 :=
  coR_err (by rw [coC_eq]; exact (coC_ok h hK).sh k hk) (by decide)
theorem co_more {p : Co} (h : cOk p = true) (hK : CoK p) (x : Int) : (coR (coB p ++ [x])).2 = 5 :=
  coR_err (by rw [coC_eq, (coC_ok h hK).ok [x]]; exact ed_more x) (by decide)
/-- No two columns have the same bytes. -/
theorem co_inj {p q : Co} (h : cOk p = true) (hK : CoK p) (k : cOk q = true) (hL : CoK q) (e : coB p = coB q) : p = q := by
  have a := co_back h hK
  rw [e, co_back k hL] at a
  exact (Prod.mk.inj a).1.symm
theorem ct_back {n : Int} (h : nOk n = true) : ctR (form n) = (n, 0) := by
  have hb := of_decide_eq_true h
  have e := readInt_form n (by omega) (by omega) []
  rw [List.append_nil] at e
  unfold ctR
  rw [e]
  show (if (0 : Int) ≠ 0 then ((0 : Int), (0 : Int)) else if nOk n = true ∧ ((form n).length : Int) = ((form n).length : Int) ∧ ((form n).length : Int) = ((form n).length : Int) then (n, 0) else (0, 5)) = _
  rw [if_neg (by decide), if_pos ⟨h, rfl, rfl⟩]
theorem coB_len {p : Co} (h : cOk p = true) : (coB p).length ≤ 100000 ∧ 0 < (coB p).length := by
  obtain ⟨hk, h0, h1, h2, h3, h4⟩ := cOk_all h
  have := txB_len p.sc
  have := txB_len p.ta
  have := txB_len p.ot
  have := txB_len p.na
  have := txB_len p.on
  have : defB.length = 4 := rfl
  unfold coB
  simp only [List.length_append, le_length, List.length_cons, List.length_nil]
  omega
theorem coB_byt {p : Co} (hK : CoK p) : Byt (coB p) := by
  have t : ∀ s : ByteArray, Byt (txB s) := fun s => (form_byt (by omega)).app (nums_byt s)
  have d : Byt defB := by intro x hx; simp [defB] at hx; omega
  have o : ∀ x : Int, 0 ≤ x ∧ x < 256 → Byt [x] := fun x hx => Byt.one hx.1 (by omega)
  exact d.app ((t _).app ((t _).app ((t _).app ((t _).app ((t _).app ((o 12 (by omega)).app ((le_byt _ _).app ((le_byt _ _).app ((o _ hK.ty).app ((le_byt _ _).app (Byt.cons hK.de.1 (by have := hK.de.2; omega) (Byt.cons (by omega) (by omega) (o 0 (by omega))))))))))))))

end Go.Proofs.YtgdjeooiimjjcaaDoor
