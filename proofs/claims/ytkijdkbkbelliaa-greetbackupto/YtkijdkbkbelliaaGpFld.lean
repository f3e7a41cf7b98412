/-
  The fields of the packets of logins: what is written is read back, whatever stands behind it; each part of it is too short; what is read is what would be written. No memory is named here.
-/
import Derived.Test.YtkijdkbkbelliaaGpBy
namespace Go.Proofs.Ytkijdkbkbelliaa
open Go.RowKit
set_option linter.unusedVariables false
set_option linter.unusedSimpArgs false

/-- The field's bytes l are read as a, whatever stands behind them; each part of them is too short. -/
structure Fld {α : Type} (f : FS → FS) (v : FS → α) (l : List Int) (a : α) : Prop where
  ok : ∀ r, f ⟨l ++ r, 0⟩ = ⟨r, 0⟩
  va : ∀ r, v ⟨l ++ r, 0⟩ = a
  sh : ∀ k, k < l.length → (f ⟨l.take k, 0⟩).e = 4
/-- Behind an error it stays. -/
def Stk (f : FS → FS) : Prop := ∀ s, s.e ≠ 0 → (f s).e = s.e
/-- What is read without an error keeps to S: the bytes ahead, what was read, the bytes behind. -/
def Bak {α : Type} (f : FS → FS) (v : FS → α) (S : List Int → α → List Int → Prop) : Prop :=
  ∀ s, Byt s.b → s.e = 0 → (f s).e = 0 → S s.b (v s) (f s).b ∧ Byt (f s).b

theorem waS_stk (x : Bool) : Stk (fun s => waS s x) := fun s h => by
  show (waS s x).e = s.e
  unfold waS
  rw [if_neg (fun q => h q.1)]
theorem waS_true (s : FS) : waS s true = s := by unfold waS; rw [if_neg (by simp)]
theorem waS_keep {s : FS} (x : Bool) (h : s.e ≠ 0) : waS s x = s := by unfold waS; rw [if_neg (fun q => h q.1)]
theorem wa_fld : Fld (fun s => waS s true) (fun _ => ()) [] () := ⟨fun r => waS_true _, fun _ => rfl, fun k h => by simp at h⟩
theorem wa_bak (x : Bool) : Bak (fun s => waS s x) (fun _ => ()) (fun b _ b' => b' = b ∧ x = true) := fun s hb h0 h => by
  have := waS_e0 h
  refine ⟨⟨waS_b s x, this.2⟩, ?_⟩
  show Byt (waS s x).b
  rw [waS_b]
  exact hb

/-! Numbers that are fixed. -/
theorem val_inj : ∀ (n : Nat) {a b : List Int}, Byt a → Byt b → a.length = n → b.length = n → val a n = val b n → a = b
  | 0, a, b, _, _, ha, hb, _ => by rw [List.eq_nil_of_length_eq_zero ha, List.eq_nil_of_length_eq_zero hb]
  | n + 1, a, b, h1, h2, ha, hb, h => by
    obtain ⟨a', x, rfl⟩ : ∃ a' x, a = a' ++ [x] := ⟨a.dropLast, a.getLast (by intro q; simp [q] at ha), (List.dropLast_concat_getLast _).symm⟩
    obtain ⟨b', y, rfl⟩ : ∃ b' y, b = b' ++ [y] := ⟨b.dropLast, b.getLast (by intro q; simp [q] at hb), (List.dropLast_concat_getLast _).symm⟩
    have la : a'.length = n := by simpa using ha
    have lb : b'.length = n := by simpa using hb
    have e : ∀ (c : List Int) (z : Int), c.length = n → val (c ++ [z]) (n + 1) = val c n + z * 2 ^ (8 * n) := by
      intro c z hc
      show val (c ++ [z]) n + (c ++ [z]).getD n 0 * 2 ^ (8 * n) = _
      rw [val_append c [z] n (by omega)]
      congr 2
      simp [← hc]
    rw [e a' x la, e b' y lb] at h
    have va := val_bounds h1.left n
    have vb := val_bounds h2.left n
    have hx := h1 x (by simp)
    have hy := h2 y (by simp)
    have hp := pow_pos8 n
    have hxy : x = y := by
      rcases Int.lt_trichotomy x y with q | q | q
      · have : (y - x) * 2 ^ (8 * n) ≥ 1 * 2 ^ (8 * n) := Int.mul_le_mul_of_nonneg_right (by omega) (by omega)
        rw [Int.sub_mul] at this
        omega
      · exact q
      · have : (x - y) * 2 ^ (8 * n) ≥ 1 * 2 ^ (8 * n) := Int.mul_le_mul_of_nonneg_right (by omega) (by omega)
        rw [Int.sub_mul] at this
        omega
    subst hxy
    rw [val_inj n h1.left h2.left la lb (by omega)]
theorem le_val {b : List Int} (h : Byt b) {n : Nat} (hn : n ≤ b.length) : le (val b n) n = b.take n := by
  have hv := val_bounds h n
  refine val_inj n (le_byt _ _) (h.take n) (le_length _ _) (by simp; omega) ?_
  have h1 := val_le_fits (val b n) hv.1 [] n hv.2
  rw [List.append_nil] at h1
  rw [h1]
  have h2 := val_append (b.take n) (b.drop n) n (by simp; omega)
  rw [List.take_append_drop] at h2
  exact h2
theorem readFixed_ok {b : List Int} {n : Nat} (h1 : 1 ≤ n) (h8 : n ≤ 8) (hl : n ≤ b.length) : readFixed b n = (val b n, 0) := by
  unfold readFixed
  rw [if_neg (by omega), if_neg (by omega), Int.toNat_natCast]
theorem readFixed_sh {b : List Int} {n : Nat} (h1 : 1 ≤ n) (h8 : n ≤ 8) (hl : b.length < n) : readFixed b n = (0, 4) := by
  unfold readFixed
  rw [if_neg (by omega), if_pos (by omega)]
theorem fx_stk (n : Nat) : Stk (fun s => fxS s n) := fun s h => by
  show (fxS s n).e = s.e
  unfold fxS
  rw [if_neg h]
theorem fx_fld {x : Int} {n : Nat} (h1 : 1 ≤ n) (h8 : n ≤ 8) (h0 : 0 ≤ x) (hx : x < 2 ^ (8 * n)) : Fld (fun s => fxS s n) (fun s => fxA s n) (le x n) x := by
  refine ⟨fun r => ?_, fun r => ?_, fun k hk => ?_⟩
  · show fxS _ n = _
    unfold fxS
    rw [if_pos rfl, readFixed_ok h1 h8 (by simp [le_length])]
    show (⟨(le x n ++ r).drop n, 0⟩ : FS) = _
    rw [List.drop_append_of_le_length (by simp [le_length]), List.drop_of_length_le (by simp [le_length]), List.nil_append]
  · show fxA _ n = _
    unfold fxA
    rw [if_pos rfl, readFixed_ok h1 h8 (by simp [le_length])]
    exact val_le_fits x h0 r n hx
  · rw [le_length] at hk
    show (fxS _ n).e = _
    unfold fxS
    rw [if_pos rfl, readFixed_sh h1 h8 (by simp [le_length]; omega)]
    rfl
theorem fx_yes {s : FS} {n : Nat} (h1 : 1 ≤ n) (h8 : n ≤ 8) (h0 : s.e = 0) (hl : n ≤ s.b.length) : fxS s n = ⟨s.b.drop n, 0⟩ ∧ fxA s n = val s.b n := by
  constructor
  · unfold fxS paS
    rw [if_pos h0, readFixed_ok h1 h8 hl, if_pos rfl, h0]
  · unfold fxA
    rw [if_pos h0, readFixed_ok h1 h8 hl]
theorem fx_no {s : FS} {n : Nat} (h1 : 1 ≤ n) (h8 : n ≤ 8) (h0 : s.e = 0) (hl : s.b.length < n) : (fxS s n).e = 4 := by
  unfold fxS paS
  rw [if_pos h0, readFixed_sh h1 h8 hl, if_neg (by decide)]
theorem fx_bak {n : Nat} (h1 : 1 ≤ n) (h8 : n ≤ 8) : Bak (fun s => fxS s n) (fun s => fxA s n) (fun b a b' => b = le a n ++ b' ∧ 0 ≤ a ∧ a < 2 ^ (8 * n)) := fun s hb h0 h => by
  have hbd := fxA_bd hb h1 h8
  have h' : (fxS s n).e = 0 := h
  by_cases hl : n ≤ s.b.length
  · have k := fx_yes h1 h8 h0 hl
    refine ⟨⟨?_, hbd⟩, ?_⟩
    · show s.b = le (fxA s n) n ++ (fxS s n).b
      rw [k.1, k.2]
      show s.b = le (val s.b n) n ++ s.b.drop n
      rw [le_val hb hl, List.take_append_drop]
    · show Byt (fxS s n).b
      rw [k.1]
      exact hb.drop n
  · rw [fx_no h1 h8 h0 (by omega)] at h'
    omega

/-! A mark. -/
theorem ma_stk (x : Int) : Stk (fun s => maS s x) := fun s h => by
  show (waS (fxS s 1) _).e = s.e
  have := fx_stk 1 s h
  simp only at this
  rw [waS_keep _ (by rw [this]; exact h), this]
theorem le_one {x : Int} (h0 : 0 ≤ x) (h1 : x ≤ 255) : le x 1 = [x] := by
  show [] ++ [x / 2 ^ (8 * 0) % 256] = [x]
  rw [List.nil_append]
  congr 1
  simp
  omega
theorem ma_fld {x : Int} (h0 : 0 ≤ x) (h1 : x ≤ 255) : Fld (fun s => maS s x) (fun _ => ()) [x] () := by
  have F := fx_fld (n := 1) (by omega) (by omega) h0 (show x < 2 ^ (8 * 1) by simp; omega)
  rw [le_one h0 h1] at F
  refine ⟨fun r => ?_, fun _ => rfl, fun k hk => ?_⟩
  · show waS (fxS _ 1) (fxA _ 1 == x) = _
    have e1 : fxS ⟨[x] ++ r, 0⟩ 1 = ⟨r, 0⟩ := F.ok r
    have e2 : fxA ⟨[x] ++ r, 0⟩ 1 = x := F.va r
    rw [e1, e2, beq_self_eq_true, waS_true]
  · show (waS (fxS _ 1) _).e = _
    have : (fxS ⟨[x].take k, 0⟩ 1).e = 4 := F.sh k hk
    rw [waS_keep _ (by rw [this]; decide), this]
theorem ma_bak {x : Int} (h0 : 0 ≤ x) (h1 : x ≤ 255) : Bak (fun s => maS s x) (fun _ => ()) (fun b _ b' => b = [x] ++ b') := fun s hb he h => by
  have q := waS_e0 h
  have F := fx_bak (n := 1) (by omega) (by omega) s hb he q.1
  simp only at F ⊢
  have hv : fxA s 1 = x := by simpa using q.2
  rw [hv, le_one h0 h1] at F
  have e : (maS s x).b = (fxS s 1).b := waS_b _ _
  rw [e]
  exact ⟨F.1.1, F.2⟩

/-! Bytes. -/
theorem tk_stk (n : Nat) {s : FS} (h : s.e ≠ 0) : tkS s n = s := by unfold tkS; rw [if_neg h]
theorem tk_ok {l r : List Int} : tkS ⟨l ++ r, 0⟩ l.length = ⟨r, 0⟩ ∧ tkA ⟨l ++ r, 0⟩ l.length = l := by
  constructor
  · unfold tkS
    rw [if_pos rfl, if_neg (by simp)]
    simp
  · unfold tkA
    rw [if_pos ⟨rfl, by simp⟩]
    simp
theorem tk_sh {l : List Int} {k n : Nat} (hn : l.length = n) (hk : k < n) : (tkS ⟨l.take k, 0⟩ n).e = 4 := by
  unfold tkS
  rw [if_pos rfl, if_pos (by simp; omega)]
theorem tk_bak {s : FS} {n : Nat} (h0 : s.e = 0) (h : (tkS s n).e = 0) : s.b = tkA s n ++ (tkS s n).b ∧ (tkA s n).length = n := by
  unfold tkS at *
  unfold tkA
  rw [if_pos h0] at *
  by_cases hl : s.b.length < n
  · rw [if_pos hl] at h
    exact absurd (show (4 : Int) = 0 from h) (by decide)
  · rw [if_neg hl, if_pos ⟨h0, by omega⟩]
    exact ⟨(List.take_append_drop n s.b).symm, by simp; omega⟩
theorem no_stk (n : Nat) : Stk (fun s => noS s n) := fun s h => by
  show (waS (tkS s n) _).e = s.e
  rw [tk_stk n h, waS_keep _ h]
theorem no_fld {l : List Int} {n : Nat} (hn : l.length = n) (hl : l.all okb = true) : Fld (fun s => noS s n) (fun s => tkA s n) l l := by
  subst hn
  refine ⟨fun r => ?_, fun r => tk_ok.2, fun k hk => ?_⟩
  · show waS (tkS _ _) ((tkA _ _).all okb) = _
    rw [tk_ok.1, tk_ok.2, hl, waS_true]
  · show (waS (tkS _ _) _).e = _
    have := tk_sh (l := l) rfl hk
    rw [waS_keep _ (by rw [this]; decide), this]
theorem no_bak (n : Nat) : Bak (fun s => noS s n) (fun s => tkA s n) (fun b a b' => b = a ++ b' ∧ a.length = n ∧ a.all okb = true ∧ Byt a) := fun s hb he h => by
  have q := waS_e0 h
  have F := tk_bak he q.1
  have e : (noS s n).b = (tkS s n).b := waS_b _ _
  simp only
  rw [e]
  rw [F.1] at hb
  exact ⟨⟨F.1, F.2, q.2, hb.left⟩, hb.right⟩
theorem ze_stk (n : Nat) : Stk (fun s => zeS s n) := fun s h => by
  show (waS (tkS s n) _).e = s.e
  rw [tk_stk n h, waS_keep _ h]
theorem ze_fld (n : Nat) : Fld (fun s => zeS s n) (fun _ => ()) (List.replicate n 0) () := by
  have hn : (List.replicate n (0 : Int)).length = n := by simp
  refine ⟨fun r => ?_, fun r => rfl, fun k hk => ?_⟩
  · show waS (tkS _ n) (decide (tkA _ n = _)) = _
    have k := tk_ok (l := List.replicate n 0) (r := r)
    rw [hn] at k
    rw [k.1, k.2, decide_eq_true rfl, waS_true]
  · show (waS (tkS _ _) _).e = _
    rw [hn] at hk
    have := tk_sh hn hk
    rw [waS_keep _ (by rw [this]; decide), this]
theorem ze_bak (n : Nat) : Bak (fun s => zeS s n) (fun _ => ()) (fun b _ b' => b = List.replicate n 0 ++ b') := fun s hb he h => by
  have q := waS_e0 h
  have F := tk_bak he q.1
  have e : (zeS s n).b = (tkS s n).b := waS_b _ _
  have e2 : tkA s n = List.replicate n 0 := of_decide_eq_true q.2
  simp only
  rw [e]
  rw [F.1] at hb
  exact ⟨by rw [← e2]; exact F.1, hb.right⟩
theorem sh_stk : Stk shS := fun s h => by
  unfold shS
  have e := fx_stk 1 s h
  simp only at e
  rw [tk_stk _ (by rw [e]; exact h), e]
theorem sh_fld {l : List Int} (hl : l.length ≤ 255) : Fld shS shA ((l.length : Int) :: l) l := by
  have F := fx_fld (x := (l.length : Int)) (n := 1) (by omega) (by omega) (by omega) (show (l.length : Int) < 2 ^ (8 * 1) by simp; omega)
  rw [le_one (by omega) (by omega)] at F
  refine ⟨fun r => ?_, fun r => ?_, fun k hk => ?_⟩
  · unfold shS
    have e1 := F.ok (l ++ r)
    have e2 := F.va (l ++ r)
    simp only [List.singleton_append] at e1 e2
    rw [List.cons_append, e1, e2, Int.toNat_natCast]
    exact tk_ok.1
  · unfold shA
    have e1 := F.ok (l ++ r)
    have e2 := F.va (l ++ r)
    simp only [List.singleton_append] at e1 e2
    rw [List.cons_append, e1, e2, Int.toNat_natCast]
    exact tk_ok.2
  · unfold shS
    cases k with
    | zero =>
      have := F.sh 0 (by simp)
      simp only [List.take_zero] at this ⊢
      rw [tk_stk _ (by rw [this]; decide), this]
    | succ k =>
      rw [List.take_succ_cons]
      have e1 := F.ok (l.take k)
      have e2 := F.va (l.take k)
      simp only [List.singleton_append] at e1 e2
      rw [e1, e2, Int.toNat_natCast]
      exact tk_sh rfl (by simpa using hk)
theorem sh_bak : Bak shS shA (fun b a b' => b = ((a.length : Int) :: a) ++ b' ∧ a.length ≤ 255 ∧ Byt a) := fun s hb he h => by
  unfold shS at h ⊢
  unfold shA
  have h1 : (fxS s 1).e = 0 := by
    by_cases q : (fxS s 1).e = 0
    · exact q
    · rw [tk_stk _ q] at h; exact h
  have F := fx_bak (n := 1) (by omega) (by omega) s hb he h1
  simp only at F
  have K := tk_bak h1 h
  have hv : 0 ≤ fxA s 1 ∧ fxA s 1 ≤ 255 := by have := F.1.2; simp at this; omega
  have hlen : ((tkA (fxS s 1) (fxA s 1).toNat).length : Int) = fxA s 1 := by rw [K.2]; omega
  have hb2 := F.2
  rw [K.1] at hb2
  refine ⟨⟨?_, by omega, hb2.left⟩, hb2.right⟩
  rw [hlen, List.cons_append, ← K.1]
  have := F.1.1
  rw [le_one hv.1 hv.2] at this
  exact this

/-! Texts that are ended. -/
theorem pln_iff (s : ByteArray) : pln s = true ↔ (0 : Int) ∉ nums s := by unfold pln; rw [decide_eq_true_iff]; exact idx0_neg
theorem getD_mem {l : List Int} {j : Nat} (h : j < l.length) : l.getD j 0 ∈ l := by
  simp only [List.getD_eq_getElem?_getD, List.getElem?_eq_getElem h, Option.getD_some]
  exact List.getElem_mem h
theorem idx0_enB {s : ByteArray} (h : pln s = true) (r : List Int) : idx0 (enB s ++ r) = (s.size : Int) := by
  have h0 := (pln_iff s).1 h
  rw [← nums_length]
  refine idx0_found _ _ (by simp [enB, nums_length]) ?_ (fun j hj => ?_)
  · simp [enB, List.getD_eq_getElem?_getD, List.getElem?_append_right]
  · intro q
    have : (enB s ++ r).getD j 0 = (nums s).getD j 0 := by
      unfold enB
      rw [List.append_assoc]
      simp [List.getD_eq_getElem?_getD, List.getElem?_append_left hj]
    rw [this] at q
    exact h0 (q ▸ getD_mem hj)
theorem readEnded_enB {s : ByteArray} (h : pln s = true) (r : List Int) : readEnded (enB s ++ r) = (s, (s.size : Int) + 1, 0) := by
  unfold readEnded
  rw [idx0_enB h r, if_neg (by omega), Int.toNat_natCast]
  have : (enB s ++ r).take s.size = nums s := by
    unfold enB
    rw [List.append_assoc, List.take_append_of_le_length (by rw [nums_length]; exact Nat.le_refl _), List.take_of_length_le (by rw [nums_length]; exact Nat.le_refl _)]
  rw [this, str_nums]
theorem en_stk : Stk enS := fun s h => by unfold enS; rw [if_neg h]
theorem en_fld {s : ByteArray} (h : pln s = true) : Fld enS enA (enB s) s := by
  refine ⟨fun r => ?_, fun r => ?_, fun k hk => ?_⟩
  · unfold enS
    rw [if_pos rfl, readEnded_enB h r]
    show (⟨(enB s ++ r).drop ((s.size : Int) + 1).toNat, 0⟩ : FS) = _
    rw [show ((s.size : Int) + 1).toNat = (enB s).length by rw [enB_len]; omega, List.drop_left]
  · unfold enA
    rw [if_pos rfl, readEnded_enB h r]
  · unfold enS
    have : readEnded ((enB s).take k) = (⟨#[]⟩, 0, 4) := by
      rw [enB_len] at hk
      unfold readEnded
      have e : (enB s).take k = (nums s).take k := by
        unfold enB
        rw [List.take_append_of_le_length (by rw [nums_length]; omega)]
      rw [e, if_pos]
      exact idx0_neg.2 (fun q => (pln_iff s).1 h (List.mem_of_mem_take q))
    rw [if_pos rfl, this]
    rfl
theorem idx0_at : ∀ {l : List Int} {i : Nat}, idx0 l = (i : Int) → i < l.length ∧ l[i]? = some 0 ∧ (0 : Int) ∉ l.take i
  | [], i, h => by simp [idx0] at h
  | b :: l, i, h => by
    have hb := idx0_bounds l
    change (if b = 0 then (0 : Int) else if idx0 l = -1 then -1 else idx0 l + 1) = (i : Int) at h
    by_cases h0 : b = 0
    · rw [if_pos h0] at h
      have : i = 0 := by omega
      subst this h0
      simp
    · rw [if_neg h0] at h
      by_cases h1 : idx0 l = -1
      · rw [if_pos h1] at h; omega
      · rw [if_neg h1] at h
        obtain ⟨j, rfl⟩ : ∃ j, i = j + 1 := ⟨i - 1, by omega⟩
        have ih := idx0_at (l := l) (i := j) (by omega)
        refine ⟨by simp; omega, by simpa using ih.2.1, ?_⟩
        rw [List.take_succ_cons, List.mem_cons]
        rintro (q | q)
        · exact h0 q.symm
        · exact ih.2.2 q
theorem en_bak : Bak enS enA (fun b a b' => b = enB a ++ b' ∧ pln a = true) := fun s hb he h => by
  have bd := idx0_bounds s.b
  by_cases hi : idx0 s.b < 0
  · have e : readEnded s.b = (⟨#[]⟩, 0, 4) := by unfold readEnded; rw [if_pos hi]
    unfold enS paS at h
    rw [if_pos he, e, if_neg (by decide)] at h
    exact absurd (show (4 : Int) = 0 from h) (by decide)
  · obtain ⟨i, hi'⟩ := Int.eq_ofNat_of_zero_le (show 0 ≤ idx0 s.b by omega)
    have A := idx0_at hi'
    have e : readEnded s.b = (strOfNums (s.b.take i), (i : Int) + 1, 0) := by unfold readEnded; rw [if_neg hi, hi', Int.toNat_natCast]
    have eS : enS s = ⟨s.b.drop (i + 1), 0⟩ := by
      unfold enS paS
      rw [if_pos he, e, if_pos rfl, he]
      show (⟨s.b.drop ((i : Int) + 1).toNat, 0⟩ : FS) = _
      rw [show ((i : Int) + 1).toNat = i + 1 by omega]
    have eA : enA s = strOfNums (s.b.take i) := by unfold enA; rw [if_pos he, e]
    have en : nums (strOfNums (s.b.take i)) = s.b.take i := nums_str (hb.take i)
    rw [eS, eA]
    refine ⟨⟨?_, ?_⟩, hb.drop _⟩
    · show s.b = enB (strOfNums (s.b.take i)) ++ s.b.drop (i + 1)
      unfold enB
      rw [en]
      have e2 : s.b.take i ++ [0] = s.b.take (i + 1) := by rw [List.take_add_one, A.2.1]; rfl
      rw [e2, List.take_append_drop]
    · rw [pln_iff, en]
      exact A.2.2

/-! What a packet has by its capabilities. -/
theorem pl_stk (c : Int) : Stk (fun s => plS s c) := fun s h => by
  show (plS s c).e = s.e
  unfold plS
  split
  · exact en_stk s h
  · rfl
theorem size0 {s : ByteArray} (h : s.size = 0) : s = ⟨#[]⟩ := by
  apply ByteArray.ext
  exact Array.eq_empty_of_size_eq_zero h
theorem pl_fld {c : Int} {s : ByteArray} (h : mby c 524288 s = true) : Fld (fun s => plS s c) (fun s => plA s c) (plB c s) s := by
  unfold mby at h
  by_cases q : has c 524288 = true
  · rw [if_pos q] at h
    rw [show (fun s => plS s c) = enS by funext s; unfold plS; rw [if_pos q], show (fun s => plA s c) = enA by funext s; unfold plA; rw [if_pos q], show plB c s = enB s by unfold plB; rw [if_pos q]; rfl]
    exact en_fld h
  · rw [if_neg q] at h
    rw [show (fun s => plS s c) = id by funext s; unfold plS; rw [if_neg q]; rfl, show (fun s => plA s c) = (fun _ => ⟨#[]⟩) by funext s; unfold plA; rw [if_neg q], show plB c s = [] by unfold plB; rw [if_neg q]]
    exact ⟨fun r => rfl, fun r => (size0 (of_decide_eq_true h)).symm, fun k hk => by simp at hk⟩
theorem pl_bak (c : Int) : Bak (fun s => plS s c) (fun s => plA s c) (fun b a b' => b = plB c a ++ b' ∧ mby c 524288 a = true) := by
  by_cases q : has c 524288 = true
  · rw [show (fun s => plS s c) = enS by funext s; unfold plS; rw [if_pos q], show (fun s => plA s c) = enA by funext s; unfold plA; rw [if_pos q]]
    intro s hb he h
    have F := en_bak s hb he h
    refine ⟨⟨?_, ?_⟩, F.2⟩
    · rw [show plB c (enA s) = enB (enA s) by unfold plB; rw [if_pos q]; rfl]; exact F.1.1
    · unfold mby; rw [if_pos q]; exact F.1.2
  · rw [show (fun s => plS s c) = id by funext s; unfold plS; rw [if_neg q]; rfl, show (fun s => plA s c) = (fun _ => ⟨#[]⟩) by funext s; unfold plA; rw [if_neg q]]
    intro s hb he h
    refine ⟨⟨?_, ?_⟩, hb⟩
    · show s.b = plB c ⟨#[]⟩ ++ s.b
      unfold plB
      rw [if_neg q, List.nil_append]
    · show mby c 524288 ⟨#[]⟩ = true
      unfold mby
      rw [if_neg q]
      decide
theorem sc_stk (c : Int) : Stk (fun s => scS s c) := fun s h => by
  show (scS s c).e = s.e
  unfold scS
  split
  · exact en_stk s h
  · rfl
theorem sc_fld {c : Int} {s : ByteArray} (h : mby c 8 s = true) : Fld (fun s => scS s c) (fun s => scA s c) (scB c s) s := by
  unfold mby at h
  by_cases q : has c 8 = true
  · rw [if_pos q] at h
    rw [show (fun s => scS s c) = enS by funext s; unfold scS; rw [if_pos q], show (fun s => scA s c) = enA by funext s; unfold scA; rw [if_pos q], show scB c s = enB s by unfold scB; rw [if_pos q]]
    exact en_fld h
  · rw [if_neg q] at h
    rw [show (fun s => scS s c) = id by funext s; unfold scS; rw [if_neg q]; rfl, show (fun s => scA s c) = (fun _ => ⟨#[]⟩) by funext s; unfold scA; rw [if_neg q], show scB c s = [] by unfold scB; rw [if_neg q]]
    exact ⟨fun r => rfl, fun r => (size0 (of_decide_eq_true h)).symm, fun k hk => by simp at hk⟩
theorem sc_bak (c : Int) : Bak (fun s => scS s c) (fun s => scA s c) (fun b a b' => b = scB c a ++ b' ∧ mby c 8 a = true) := by
  by_cases q : has c 8 = true
  · rw [show (fun s => scS s c) = enS by funext s; unfold scS; rw [if_pos q], show (fun s => scA s c) = enA by funext s; unfold scA; rw [if_pos q]]
    intro s hb he h
    have F := en_bak s hb he h
    refine ⟨⟨?_, ?_⟩, F.2⟩
    · rw [show scB c (enA s) = enB (enA s) by unfold scB; rw [if_pos q]]; exact F.1.1
    · unfold mby; rw [if_pos q]; exact F.1.2
  · rw [show (fun s => scS s c) = id by funext s; unfold scS; rw [if_neg q]; rfl, show (fun s => scA s c) = (fun _ => ⟨#[]⟩) by funext s; unfold scA; rw [if_neg q]]
    intro s hb he h
    refine ⟨⟨?_, ?_⟩, hb⟩
    · show s.b = scB c ⟨#[]⟩ ++ s.b
      unfold scB
      rw [if_neg q, List.nil_append]
    · show mby c 8 ⟨#[]⟩ = true
      unfold mby
      rw [if_neg q]
      decide

end Go.Proofs.Ytkijdkbkbelliaa
