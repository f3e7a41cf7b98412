/-
  A command that is written is read back; bytes that are read as a command are written as they were; another statement's id. Plain facts: no program and no memory is named here.
-/
import Derived.Test.YtpidlfifipgadaaDoorCmTk
import Derived.Test.YtpidlfifipgadaaDoorCmAp
namespace Go.Proofs.YtpidlfifipgadaaDoor
set_option linter.unusedVariables false
set_option linter.unusedSimpArgs false

theorem val_inj : ∀ (n : Nat) {a b : List Int}, Byt a → Byt b → a.length = n → b.length = n → val a n = val b n → a = b
  | 0, a, b, _, _, ha, hb, _ => by rw [List.eq_nil_of_length_eq_zero ha, List.eq_nil_of_length_eq_zero hb]
  | n + 1, a, b, h1, h2, ha, hb, h => by
    obtain ⟨a', x, rfl⟩ : ∃ a' x, a = a' ++ [x] := ⟨a.dropLast, a.getLast (by intro q; simp [q] at ha), (List.dropLast_concat_getLast _).symm⟩
    obtain ⟨b', y, rfl⟩ : ∃ b' y, b = b' ++ [y] := ⟨b.dropLast, b.getLast (by intro q; simp [q] at hb), (List.dropLast_concat_getLast _).symm⟩
    have la : a'.length = n := by simpa using ha
    have lb : b'.length = n := by simpa using hb
    have e : ∀ (c : List Int) (z : Int), c.length = n → val (c ++ [z]) (n + 1) = val c n + z * 2 ^ (8 * n) := by
      intro c z hc
      show val (c ++ [z]) n + (c ++ [z]).getD n 0 * 2 ^ (8 * n) = _
      rw [val_append c [z] n (by omega)]
      congr 2
      simp [← hc]
    rw [e a' x la, e b' y lb] at h
    have va := val_bounds h1.left n
    have vb := val_bounds h2.left n
    have hx := h1 x (by simp)
    have hy := h2 y (by simp)
    have hp := pow_pos8 n
    have hxy : x = y := by
      rcases Int.lt_trichotomy x y with q | q | q
      · have : (y - x) * 2 ^ (8 * n) ≥ 1 * 2 ^ (8 * n) := Int.mul_le_mul_of_nonneg_right (by omega) (by omega)
        rw [Int.sub_mul] at this
        omega
      · exact q
      · have : (x - y) * 2 ^ (8 * n) ≥ 1 * 2 ^ (8 * n) := Int.mul_le_mul_of_nonneg_right (by omega) (by omega)
        rw [Int.sub_mul] at this
        omega
    subst hxy
    rw [val_inj n h1.left h2.left la lb (by omega)]
theorem le_val {b : List Int} (h : Byt b) {n : Nat} (hn : n ≤ b.length) : le (val b n) n = b.take n := by
  have hv := val_bounds h n
  refine val_inj n (le_byt _ _) (h.take n) (le_length _ _) (by simp; omega) ?_
  have h1 := val_le_fits (val b n) hv.1 [] n hv.2
  rw [List.append_nil] at h1
  rw [h1]
  have h2 := val_append (b.take n) (b.drop n) n (by simp; omega)
  rw [List.take_append_drop] at h2
  exact h2
theorem readFixed_ok {b : List Int} {n : Nat} (h1 : 1 ≤ n) (h8 : n ≤ 8) (hl : n ≤ b.length) : readFixed b n = (val b n, 0) := by
  unfold readFixed
  rw [if_neg (by omega), if_neg (by omega), Int.toNat_natCast]
theorem readFixed_sh {b : List Int} {n : Nat} (h1 : 1 ≤ n) (h8 : n ≤ 8) (hl : b.length < n) : readFixed b n = (0, 4) := by
  unfold readFixed
  rw [if_neg (by omega), if_pos (by omega)]
theorem fx_yes {s : FS} {n : Nat} (h1 : 1 ≤ n) (h8 : n ≤ 8) (h0 : s.e = 0) (hl : n ≤ s.b.length) : fxS s n = ⟨s.b.drop n, 0⟩ ∧ fxA s n = val s.b n := by
  constructor
  · unfold fxS paS
    rw [if_pos h0, readFixed_ok h1 h8 hl, if_pos rfl, h0]
  · unfold fxA
    rw [if_pos h0, readFixed_ok h1 h8 hl]
theorem fx_no {s : FS} {n : Nat} (h1 : 1 ≤ n) (h8 : n ≤ 8) (h0 : s.e = 0) (hl : s.b.length < n) : (fxS s n).e = 4 := by
  unfold fxS paS
  rw [if_pos h0, readFixed_sh h1 h8 hl, if_neg (by decide)]
theorem le_one {x : Int} (h0 : 0 ≤ x) (h1 : x ≤ 255) : le x 1 = [x] := by
  show [] ++ [x / 2 ^ (8 * 0) % 256] = [x]
  rw [List.nil_append]
  congr 1
  simp
  omega

theorem fx_le {v : Int} {n : Nat} (r : List Int) (h1 : 1 ≤ n) (h8 : n ≤ 8) (h0 : 0 ≤ v) (hv : v < 2 ^ (8 * n)) : fxS ⟨le v n ++ r, 0⟩ n = ⟨r, 0⟩ ∧ fxA ⟨le v n ++ r, 0⟩ n = v := by
  have k := fx_yes (s := ⟨le v n ++ r, 0⟩) h1 h8 rfl (by simp [le_length])
  rw [k.1, k.2]
  refine ⟨?_, val_le_fits v h0 r n hv⟩
  simp only
  rw [List.drop_append_of_le_length (by simp [le_length]), List.drop_of_length_le (by simp [le_length]), List.nil_append]
theorem fx_inv {s : FS} {n : Nat} (hb : Byt s.b) (h1 : 1 ≤ n) (h8 : n ≤ 8) (h : (fxS s n).e = 0) : s.e = 0 ∧ s.b = le (fxA s n) n ++ (fxS s n).b ∧ Byt (fxS s n).b := by
  by_cases h0 : s.e = 0
  · by_cases hl : n ≤ s.b.length
    · have k := fx_yes h1 h8 h0 hl
      refine ⟨h0, ?_, ?_⟩
      · rw [k.1, k.2]
        show s.b = le (val s.b n) n ++ s.b.drop n
        rw [le_val hb hl, List.take_append_drop]
      · rw [k.1]
        exact hb.drop n
    · rw [fx_no h1 h8 h0 (by omega)] at h
      omega
  · unfold fxS at h
    rw [if_neg h0] at h
    exact absurd h h0
theorem fx_e {s : FS} {n : Nat} (h : (fxS s n).e = 0) : s.e = 0 := by
  by_cases h0 : s.e = 0
  · exact h0
  · unfold fxS at h
    rw [if_neg h0] at h
    exact h
theorem wa_inv {s : FS} {x : Bool} (h : (waS s x).e = 0) : s.e = 0 ∧ x = true ∧ waS s x = s := by
  unfold waS at *
  split at h
  · simp at h
  · rename_i q
    refine ⟨h, ?_, by rw [if_neg q]⟩
    cases x
    · exact absurd ⟨h, rfl⟩ q
    · rfl
theorem wa_true (s : FS) : waS s true = s := by unfold waS; rw [if_neg (by simp)]
theorem re_inv {s : FS} (h : (reS s).e = 0) : s.e = 0 ∧ reA s = s.b ∧ (reS s).b = [] := by
  unfold reS at *
  unfold reA
  by_cases h0 : s.e = 0
  · rw [if_pos h0, if_pos h0]
    exact ⟨h0, rfl, rfl⟩
  · rw [if_neg h0] at h
    exact absurd h h0
theorem re_yes (r : List Int) : reS ⟨r, 0⟩ = ⟨[], 0⟩ ∧ reA ⟨r, 0⟩ = r := ⟨rfl, rfl⟩
theorem ed_inv {s : FS} (h : (edS s).e = 0) : s.e = 0 ∧ s.b = [] := by
  obtain ⟨h1, h2, _⟩ := wa_inv h
  exact ⟨h1, by simpa using h2⟩

theorem tk0 (x : FS × Cm) : tkP x 0 = (reS x.1, { x.2 with t := strOfNums (reA x.1) }) := rfl
theorem tk1 (x : FS × Cm) : tkP x 1 = (fxS x.1 4, { x.2 with s := fxA x.1 4 }) := rfl
theorem tk2 (x : FS × Cm) : tkP x 2 = (fxS x.1 2, { x.2 with p := fxA x.1 2 }) := rfl
theorem tk3 (x : FS × Cm) : tkP x 3 = (waS (fxS x.1 1) (decide (fxA x.1 1 ≤ 1)), { x.2 with f := fxA x.1 1 }) := rfl
theorem tk4 (x : FS × Cm) : tkP x 4 = (waS (fxS x.1 4) (fxA x.1 4 == 1), x.2) := rfl
theorem tk5 (x : FS × Cm) : tkP x 5 = (fxS x.1 4, { x.2 with n := fxA x.1 4 }) := rfl
theorem tk6 (x : FS × Cm) : tkP x 6 = (fxS x.1 2, { x.2 with o := fxA x.1 2 }) := rfl
theorem tk7 (x : FS × Cm) : tkP x 7 = (reS x.1, { x.2 with d := reA x.1 }) := rfl
theorem fb0 (c : Cm) : fb c 0 = nums c.t := rfl
theorem fb1 (c : Cm) : fb c 1 = le c.s 4 := rfl
theorem fb2 (c : Cm) : fb c 2 = le c.p 2 := rfl
theorem fb3 (c : Cm) : fb c 3 = [c.f] := rfl
theorem fb4 (c : Cm) : fb c 4 = le 1 4 := rfl
theorem fb5 (c : Cm) : fb c 5 = le c.n 4 := rfl
theorem fb6 (c : Cm) : fb c 6 = le c.o 2 := rfl
theorem fb7 (c : Cm) : fb c 7 = c.d := rfl
theorem wo0 (c : Cd) : wo c 0 = { c with t := ⟨#[]⟩ } := rfl
theorem wo1 (c : Cd) : wo c 1 = { c with s := 0 } := rfl
theorem wo2 (c : Cd) : wo c 2 = { c with p := 0 } := rfl
theorem wo3 (c : Cd) : wo c 3 = { c with f := 0 } := rfl
theorem wo4 (c : Cd) : wo c 4 = c := rfl
theorem wo5 (c : Cd) : wo c 5 = { c with n := 0 } := rfl
theorem wo6 (c : Cd) : wo c 6 = { c with o := 0 } := rfl
theorem wo7 (c : Cd) : wo c 7 = { c with ao := none, dn := 0, dc := 0 } := rfl

/-- Whatever the kind does not have is nothing, and the flags may be. -/
structure Nf (c : Cm) : Prop where
  f1 : c.f ≤ 1
  t : 0 ∈ fl c.k ∨ c.t = ⟨#[]⟩
  s : 1 ∈ fl c.k ∨ c.s = 0
  p : 2 ∈ fl c.k ∨ c.p = 0
  f : 3 ∈ fl c.k ∨ c.f = 0
  n : 5 ∈ fl c.k ∨ c.n = 0
  o : 6 ∈ fl c.k ∨ c.o = 0
  d : 7 ∈ fl c.k ∨ c.d = []

theorem ba_nil' : (⟨#[]⟩ : ByteArray).toList = [] := by rw [ByteArray.toList_eq]
theorem ba_iff (t : ByteArray) : t.toList = [] ↔ t = ⟨#[]⟩ := ⟨ba_nil, fun h => by rw [h]; exact ba_nil'⟩

theorem ck_iff (c : Cm) (xo : Option Addr) (xn xc : Nat) (hl : c.d.length = xn) : ckC (c.cd xo xn xc) = 0 ↔ Nf c := by
  have hd : c.d = [] ↔ xn = 0 := by rw [← hl]; exact List.length_eq_zero_iff.symm
  have hN : Nf c ↔ c.f ≤ 1 ∧ (0 ∈ fl c.k ∨ c.t = ⟨#[]⟩) ∧ (1 ∈ fl c.k ∨ c.s = 0) ∧ (2 ∈ fl c.k ∨ c.p = 0) ∧ (3 ∈ fl c.k ∨ c.f = 0) ∧ (5 ∈ fl c.k ∨ c.n = 0) ∧ (6 ∈ fl c.k ∨ c.o = 0) ∧ (7 ∈ fl c.k ∨ c.d = []) :=
    ⟨fun h => ⟨h.f1, h.t, h.s, h.p, h.f, h.n, h.o, h.d⟩, fun ⟨a, b, c, d, e, f, g, h⟩ => ⟨a, b, c, d, e, f, g, h⟩⟩
  rw [hN, hd]
  unfold ckC
  have hk : (c.cd xo xn xc).k = c.k := rfl
  have hf : (c.cd xo xn xc).f = c.f := rfl
  rw [hk, hf]
  by_cases h1 : c.f > 1
  · rw [if_pos h1]
    constructor
    · intro h; omega
    · intro h; omega
  · rw [if_neg h1]
    have e2 : ∀ b : Bool, ((if b = true then (0 : Int) else 2) = 0) ↔ b = true := by intro b; cases b <;> simp
    rw [e2]
    have h1' : c.f ≤ 1 := by omega
    rcases fl_cases c.k with h | h | h | h | h | h | h | h | h <;> rw [h] <;>
      simp [bare, Cm.cd, wo0, wo1, wo2, wo3, wo4, wo5, wo6, wo7, ba_iff, ba_nil', h1'] <;> (try (intros; exact decide_eq_true_iff))

theorem str_nums (t : ByteArray) : strOfNums (nums t) = t := by
  obtain ⟨d⟩ := t
  have : (strOfNums (nums ⟨d⟩)).data.toList = d.toList := by
    rw [strOfNums_data]
    unfold nums
    rw [List.map_map]
    conv => rhs; rw [← List.map_id d.toList]
    apply List.map_congr_left
    intro x _
    simp
  obtain ⟨e⟩ : ∃ e, strOfNums (nums ⟨d⟩) = e := ⟨_, rfl⟩
  have h2 : (strOfNums (nums ⟨d⟩)).data = d := Array.ext' this
  generalize strOfNums (nums ⟨d⟩) = z at *
  obtain ⟨z⟩ := z
  simp only at h2
  rw [h2]
theorem nums_str {l : List Int} (h : Byt l) : nums (strOfNums l) = l := by
  unfold nums
  rw [strOfNums_data, List.map_map]
  conv => rhs; rw [← List.map_id l]
  apply List.map_congr_left
  intro x hx
  have := h x hx
  simp
  omega

theorem str_size (l : List Int) : (strOfNums l).size = l.length := by
  rw [show (strOfNums l).size = (strOfNums l).data.toList.length by simp, strOfNums_data]
  simp
theorem cm_ext {a b : Cm} (k : a.k = b.k) (t : a.t = b.t) (s : a.s = b.s) (p : a.p = b.p) (f : a.f = b.f) (n : a.n = b.n) (o : a.o = b.o) (d : a.d = b.d) : a = b := by
  obtain ⟨_, _, _, _, _, _, _, _⟩ := a
  obtain ⟨_, _, _, _, _, _, _, _⟩ := b
  simp only at k t s p f n o d
  subst k t s p f n o d
  rfl

/-- What is written is read back. -/
theorem cm_back {c : Cm} (hc : c.ok) (h : Nf c) : rdP (cmB c) = (c, 0) := by
  obtain ⟨⟨k0, k1⟩, ⟨s0, s1⟩, ⟨p0, p1⟩, ⟨f0, f1⟩, ⟨n0, n1⟩, ⟨o0, o1⟩, hby⟩ := hc
  have e1 : ∀ r, fxS ⟨c.k :: r, 0⟩ 1 = ⟨r, 0⟩ ∧ fxA ⟨c.k :: r, 0⟩ 1 = c.k := fun r => by
    have := fx_le (v := c.k) (n := 1) r (by omega) (by omega) k0 (by omega)
    rw [le_one k0 k1] at this
    exact this
  have eF : ∀ r, fxS ⟨c.f :: r, 0⟩ 1 = ⟨r, 0⟩ ∧ fxA ⟨c.f :: r, 0⟩ 1 = c.f := fun r => by
    have := fx_le (v := c.f) (n := 1) r (by omega) (by omega) f0 (by omega)
    rw [le_one f0 f1] at this
    exact this
  have eS := fun r => fx_le (v := c.s) (n := 4) r (by omega) (by omega) s0 (by omega)
  have eP := fun r => fx_le (v := c.p) (n := 2) r (by omega) (by omega) p0 (by omega)
  have eN := fun r => fx_le (v := c.n) (n := 4) r (by omega) (by omega) n0 (by omega)
  have eO := fun r => fx_le (v := c.o) (n := 2) r (by omega) (by omega) o0 (by omega)
  have e4 := fun r => fx_le (v := 1) (n := 4) r (by omega) (by omega) (by omega) (by omega)
  have eS0 := eS []
  have eP0 := eP []
  have eN0 := eN []
  have eO0 := eO []
  rw [List.append_nil] at eS0 eP0 eN0 eO0
  have hf1 : decide (c.f ≤ 1) = true := decide_eq_true h.f1
  have hq : rdQ (cmB c) = (⟨[], 0⟩, c) := by
    unfold rdQ cmB
    rw [(e1 _).1, (e1 _).2]
    obtain ⟨hf, ht, hs, hp, hff, hn, ho, hd⟩ := h
    rcases fl_cases c.k with q | q | q | q | q | q | q | q | q <;> rw [q] at ht hs hp hff hn ho hd ⊢ <;>
      simp [List.foldl, tk0, tk1, tk2, tk3, tk4, tk5, tk6, tk7, fb0, fb1, fb2, fb3, fb4, fb5, fb6, fb7, eS, eP, eN, eO, e4, eF, eS0, eP0, eN0, eO0, re_yes, wa_true, hf1, str_nums] at ht hs hp hff hn ho hd ⊢ <;>
      (try (exact cm_ext rfl (by simp [cm0, *]) (by simp [cm0, *]) (by simp [cm0, *]) (by simp [cm0, *]) (by simp [cm0, *]) (by simp [cm0, *]) (by simp [cm0, *])))
  unfold rdP
  rw [hq]
  rfl

/-- What is read, written, is the same bytes; and it may be. -/
theorem cm_again {b : List Int} (hb : Byt b) (h : (rdP b).2 = 0) : cmB (rdP b).1 = b ∧ Nf (rdP b).1 ∧ (rdP b).1.ok ∧ (rdP b).1.t.size ≤ b.length ∧ (rdP b).1.d.length ≤ b.length := by
  have he : (edS (rdQ b).1).e = 0 := by
    unfold rdP at h
    split at h
    · assumption
    · exact h
  have hr : rdP b = ((rdQ b).2, 0) := by unfold rdP; rw [if_pos he]
  rw [hr]
  clear hr h
  obtain ⟨h0, hnil⟩ := ed_inv he
  clear he
  have hQ : rdQ b = (fl (fxA ⟨b, 0⟩ 1)).foldl tkP (fxS ⟨b, 0⟩ 1, cm0 (fxA ⟨b, 0⟩ 1)) := rfl
  have st : (fxS ⟨b, 0⟩ 1).e = 0 → b = fxA ⟨b, 0⟩ 1 :: (fxS ⟨b, 0⟩ 1).b ∧ Byt (fxS ⟨b, 0⟩ 1).b ∧ 0 ≤ fxA ⟨b, 0⟩ 1 ∧ fxA ⟨b, 0⟩ 1 ≤ 255 := fun g => by
    obtain ⟨_, a, y⟩ := fx_inv (s := ⟨b, 0⟩) (n := 1) hb (by omega) (by omega) g
    have d := fxA_bd (s := ⟨b, 0⟩) (k := 1) hb (by omega) (by omega)
    have d2 : fxA ⟨b, 0⟩ 1 ≤ 255 := by have := d.2; omega
    rw [le_one d.1 d2] at a
    exact ⟨a, y, d.1, d2⟩
  generalize fxS ⟨b, 0⟩ 1 = s1 at *
  generalize fxA ⟨b, 0⟩ 1 = k at *
  rcases fl_cases k with q | q | q | q | q | q | q | q | q
  · rw [q] at hQ
    simp only [List.foldl, tk0, tk1, tk2, tk3, tk4, tk5, tk6, tk7] at hQ
    rw [hQ] at h0 hnil ⊢
    simp only at h0 hnil ⊢
    have g0 := h0
    obtain ⟨bst, y0, k0, k1⟩ := st g0
    have hlen := congrArg List.length bst
    simp only [List.length_cons] at hlen
    refine ⟨?_, ?_, ?_, ?_, ?_⟩
    · show k :: (fl k).flatMap _ = b
      rw [q, bst]
      simp only [List.flatMap_cons, List.flatMap_nil, List.append_nil, fb0, fb1, fb2, fb3, fb4, fb5, fb6, fb7]
      rw [hnil]
      try simp
    · exact ⟨by simp [cm0], .inr rfl, .inr rfl, .inr rfl, .inr rfl, .inr rfl, .inr rfl, .inr rfl⟩
    · exact ⟨⟨k0, k1⟩, ⟨by simp [cm0], by simp [cm0]⟩, ⟨by simp [cm0], by simp [cm0]⟩, ⟨by simp [cm0], by simp [cm0]⟩, ⟨by simp [cm0], by simp [cm0]⟩, ⟨by simp [cm0], by simp [cm0]⟩, Byt.nil⟩
    · exact Nat.zero_le _
    · simp [cm0]
  · rw [q] at hQ
    simp only [List.foldl, tk0, tk1, tk2, tk3, tk4, tk5, tk6, tk7] at hQ
    rw [hQ] at h0 hnil ⊢
    simp only at h0 hnil ⊢
    have g1 := h0
    obtain ⟨g0, a1, r1⟩ := re_inv g1
    obtain ⟨bst, y0, k0, k1⟩ := st g0
    rw [a1]
    have hlen := congrArg List.length bst
    simp only [List.length_cons] at hlen
    refine ⟨?_, ?_, ?_, ?_, ?_⟩
    · show k :: (fl k).flatMap _ = b
      rw [q, bst]
      simp only [List.flatMap_cons, List.flatMap_nil, List.append_nil, fb0, fb1, fb2, fb3, fb4, fb5, fb6, fb7]
      rw [nums_str y0]
      try simp
    · exact ⟨by simp [cm0], .inl (by show 0 ∈ fl k; rw [q]; decide), .inr rfl, .inr rfl, .inr rfl, .inr rfl, .inr rfl, .inr rfl⟩
    · exact ⟨⟨k0, k1⟩, ⟨by simp [cm0], by simp [cm0]⟩, ⟨by simp [cm0], by simp [cm0]⟩, ⟨by simp [cm0], by simp [cm0]⟩, ⟨by simp [cm0], by simp [cm0]⟩, ⟨by simp [cm0], by simp [cm0]⟩, Byt.nil⟩
    · show (strOfNums _).size ≤ _; rw [str_size]; omega
    · simp [cm0]
  · rw [q] at hQ
    simp only [List.foldl, tk0, tk1, tk2, tk3, tk4, tk5, tk6, tk7] at hQ
    rw [hQ] at h0 hnil ⊢
    simp only at h0 hnil ⊢
    have g1 := h0
    have g0 := fx_e g1
    obtain ⟨bst, y0, k0, k1⟩ := st g0
    obtain ⟨_, a1, y1⟩ := fx_inv (n := 4) y0 (by omega) (by omega) g1
    have d1 := fxA_bd (k := 4) y0 (by omega) (by omega)
    have hlen := congrArg List.length bst
    have l1 := congrArg List.length a1
    simp only [List.length_cons, List.length_append, le_length] at hlen l1
    refine ⟨?_, ?_, ?_, ?_, ?_⟩
    · show k :: (fl k).flatMap _ = b
      rw [q, bst]
      simp only [List.flatMap_cons, List.flatMap_nil, List.append_nil, fb0, fb1, fb2, fb3, fb4, fb5, fb6, fb7]
      rw [a1]
      rw [hnil]
      try simp
    · exact ⟨by simp [cm0], .inr rfl, .inr rfl, .inr rfl, .inr rfl, .inl (by show 5 ∈ fl k; rw [q]; decide), .inr rfl, .inr rfl⟩
    · exact ⟨⟨k0, k1⟩, ⟨by simp [cm0], by simp [cm0]⟩, ⟨by simp [cm0], by simp [cm0]⟩, ⟨by simp [cm0], by simp [cm0]⟩, ⟨d1.1, by have := d1.2; simp only at this ⊢; omega⟩, ⟨by simp [cm0], by simp [cm0]⟩, Byt.nil⟩
    · exact Nat.zero_le _
    · simp [cm0]
  · rw [q] at hQ
    simp only [List.foldl, tk0, tk1, tk2, tk3, tk4, tk5, tk6, tk7] at hQ
    rw [hQ] at h0 hnil ⊢
    simp only at h0 hnil ⊢
    have g4 := h0
    obtain ⟨g3, a4, r4⟩ := re_inv g4
    obtain ⟨i3, v3, w3⟩ := wa_inv g3
    have g2 := fx_e i3
    obtain ⟨i2, v2, w2⟩ := wa_inv g2
    have g1 := fx_e i2
    have g0 := fx_e g1
    try rw [w2] at h0
    try rw [w2] at hnil
    try rw [w2] at g2
    try rw [w2] at g3
    try rw [w2] at g4
    try rw [w2] at i3
    try rw [w2] at v3
    try rw [w2] at w3
    try rw [w2] at i2
    try rw [w2] at a4
    try rw [w2] at r4
    try rw [w2] at ⊢
    try rw [w3] at h0
    try rw [w3] at hnil
    try rw [w3] at g3
    try rw [w3] at g4
    try rw [w3] at i3
    try rw [w3] at a4
    try rw [w3] at r4
    try rw [w3] at ⊢
    obtain ⟨bst, y0, k0, k1⟩ := st g0
    obtain ⟨_, a1, y1⟩ := fx_inv (n := 4) y0 (by omega) (by omega) g1
    have d1 := fxA_bd (k := 4) y0 (by omega) (by omega)
    obtain ⟨_, a2, y2⟩ := fx_inv (n := 1) y1 (by omega) (by omega) i2
    have d2 := fxA_bd (k := 1) y1 (by omega) (by omega)
    obtain ⟨_, a3, y3⟩ := fx_inv (n := 4) y2 (by omega) (by omega) i3
    have d3 := fxA_bd (k := 4) y2 (by omega) (by omega)
    rw [a4]
    have hlen := congrArg List.length bst
    have l1 := congrArg List.length a1
    have l2 := congrArg List.length a2
    have l3 := congrArg List.length a3
    simp only [List.length_cons, List.length_append, le_length] at hlen l1 l2 l3
    have u3 := eq_of_beq v3
    refine ⟨?_, ?_, ?_, ?_, ?_⟩
    · show k :: (fl k).flatMap _ = b
      rw [q, bst]
      simp only [List.flatMap_cons, List.flatMap_nil, List.append_nil, fb0, fb1, fb2, fb3, fb4, fb5, fb6, fb7]
      rw [a1, a2, a3]
      rw [le_one d2.1 (by have := d2.2; omega), u3]
      try simp
    · exact ⟨of_decide_eq_true v2, .inr rfl, .inl (by show 1 ∈ fl k; rw [q]; decide), .inr rfl, .inl (by show 3 ∈ fl k; rw [q]; decide), .inr rfl, .inr rfl, .inl (by show 7 ∈ fl k; rw [q]; decide)⟩
    · exact ⟨⟨k0, k1⟩, ⟨d1.1, by have := d1.2; simp only at this ⊢; omega⟩, ⟨by simp [cm0], by simp [cm0]⟩, ⟨d2.1, by have := d2.2; simp only at this ⊢; omega⟩, ⟨by simp [cm0], by simp [cm0]⟩, ⟨by simp [cm0], by simp [cm0]⟩, y3⟩
    · exact Nat.zero_le _
    · show List.length _ ≤ _; omega
  · rw [q] at hQ
    simp only [List.foldl, tk0, tk1, tk2, tk3, tk4, tk5, tk6, tk7] at hQ
    rw [hQ] at h0 hnil ⊢
    simp only at h0 hnil ⊢
    have g3 := h0
    obtain ⟨g2, a3, r3⟩ := re_inv g3
    have g1 := fx_e g2
    have g0 := fx_e g1
    obtain ⟨bst, y0, k0, k1⟩ := st g0
    obtain ⟨_, a1, y1⟩ := fx_inv (n := 4) y0 (by omega) (by omega) g1
    have d1 := fxA_bd (k := 4) y0 (by omega) (by omega)
    obtain ⟨_, a2, y2⟩ := fx_inv (n := 2) y1 (by omega) (by omega) g2
    have d2 := fxA_bd (k := 2) y1 (by omega) (by omega)
    rw [a3]
    have hlen := congrArg List.length bst
    have l1 := congrArg List.length a1
    have l2 := congrArg List.length a2
    simp only [List.length_cons, List.length_append, le_length] at hlen l1 l2
    refine ⟨?_, ?_, ?_, ?_, ?_⟩
    · show k :: (fl k).flatMap _ = b
      rw [q, bst]
      simp only [List.flatMap_cons, List.flatMap_nil, List.append_nil, fb0, fb1, fb2, fb3, fb4, fb5, fb6, fb7]
      rw [a1, a2]
      try simp
    · exact ⟨by simp [cm0], .inr rfl, .inl (by show 1 ∈ fl k; rw [q]; decide), .inl (by show 2 ∈ fl k; rw [q]; decide), .inr rfl, .inr rfl, .inr rfl, .inl (by show 7 ∈ fl k; rw [q]; decide)⟩
    · exact ⟨⟨k0, k1⟩, ⟨d1.1, by have := d1.2; simp only at this ⊢; omega⟩, ⟨d2.1, by have := d2.2; simp only at this ⊢; omega⟩, ⟨by simp [cm0], by simp [cm0]⟩, ⟨by simp [cm0], by simp [cm0]⟩, ⟨by simp [cm0], by simp [cm0]⟩, y2⟩
    · exact Nat.zero_le _
    · show List.length _ ≤ _; omega
  · rw [q] at hQ
    simp only [List.foldl, tk0, tk1, tk2, tk3, tk4, tk5, tk6, tk7] at hQ
    rw [hQ] at h0 hnil ⊢
    simp only at h0 hnil ⊢
    have g1 := h0
    have g0 := fx_e g1
    obtain ⟨bst, y0, k0, k1⟩ := st g0
    obtain ⟨_, a1, y1⟩ := fx_inv (n := 4) y0 (by omega) (by omega) g1
    have d1 := fxA_bd (k := 4) y0 (by omega) (by omega)
    have hlen := congrArg List.length bst
    have l1 := congrArg List.length a1
    simp only [List.length_cons, List.length_append, le_length] at hlen l1
    refine ⟨?_, ?_, ?_, ?_, ?_⟩
    · show k :: (fl k).flatMap _ = b
      rw [q, bst]
      simp only [List.flatMap_cons, List.flatMap_nil, List.append_nil, fb0, fb1, fb2, fb3, fb4, fb5, fb6, fb7]
      rw [a1]
      rw [hnil]
      try simp
    · exact ⟨by simp [cm0], .inr rfl, .inl (by show 1 ∈ fl k; rw [q]; decide), .inr rfl, .inr rfl, .inr rfl, .inr rfl, .inr rfl⟩
    · exact ⟨⟨k0, k1⟩, ⟨d1.1, by have := d1.2; simp only at this ⊢; omega⟩, ⟨by simp [cm0], by simp [cm0]⟩, ⟨by simp [cm0], by simp [cm0]⟩, ⟨by simp [cm0], by simp [cm0]⟩, ⟨by simp [cm0], by simp [cm0]⟩, Byt.nil⟩
    · exact Nat.zero_le _
    · simp [cm0]
  · rw [q] at hQ
    simp only [List.foldl, tk0, tk1, tk2, tk3, tk4, tk5, tk6, tk7] at hQ
    rw [hQ] at h0 hnil ⊢
    simp only at h0 hnil ⊢
    have g1 := h0
    have g0 := fx_e g1
    obtain ⟨bst, y0, k0, k1⟩ := st g0
    obtain ⟨_, a1, y1⟩ := fx_inv (n := 2) y0 (by omega) (by omega) g1
    have d1 := fxA_bd (k := 2) y0 (by omega) (by omega)
    have hlen := congrArg List.length bst
    have l1 := congrArg List.length a1
    simp only [List.length_cons, List.length_append, le_length] at hlen l1
    refine ⟨?_, ?_, ?_, ?_, ?_⟩
    · show k :: (fl k).flatMap _ = b
      rw [q, bst]
      simp only [List.flatMap_cons, List.flatMap_nil, List.append_nil, fb0, fb1, fb2, fb3, fb4, fb5, fb6, fb7]
      rw [a1]
      rw [hnil]
      try simp
    · exact ⟨by simp [cm0], .inr rfl, .inr rfl, .inr rfl, .inr rfl, .inr rfl, .inl (by show 6 ∈ fl k; rw [q]; decide), .inr rfl⟩
    · exact ⟨⟨k0, k1⟩, ⟨by simp [cm0], by simp [cm0]⟩, ⟨by simp [cm0], by simp [cm0]⟩, ⟨by simp [cm0], by simp [cm0]⟩, ⟨by simp [cm0], by simp [cm0]⟩, ⟨d1.1, by have := d1.2; simp only at this ⊢; omega⟩, Byt.nil⟩
    · exact Nat.zero_le _
    · simp [cm0]
  · rw [q] at hQ
    simp only [List.foldl, tk0, tk1, tk2, tk3, tk4, tk5, tk6, tk7] at hQ
    rw [hQ] at h0 hnil ⊢
    simp only at h0 hnil ⊢
    have g2 := h0
    have g1 := fx_e g2
    have g0 := fx_e g1
    obtain ⟨bst, y0, k0, k1⟩ := st g0
    obtain ⟨_, a1, y1⟩ := fx_inv (n := 4) y0 (by omega) (by omega) g1
    have d1 := fxA_bd (k := 4) y0 (by omega) (by omega)
    obtain ⟨_, a2, y2⟩ := fx_inv (n := 4) y1 (by omega) (by omega) g2
    have d2 := fxA_bd (k := 4) y1 (by omega) (by omega)
    have hlen := congrArg List.length bst
    have l1 := congrArg List.length a1
    have l2 := congrArg List.length a2
    simp only [List.length_cons, List.length_append, le_length] at hlen l1 l2
    refine ⟨?_, ?_, ?_, ?_, ?_⟩
    · show k :: (fl k).flatMap _ = b
      rw [q, bst]
      simp only [List.flatMap_cons, List.flatMap_nil, List.append_nil, fb0, fb1, fb2, fb3, fb4, fb5, fb6, fb7]
      rw [a1, a2]
      rw [hnil]
      try simp
    · exact ⟨by simp [cm0], .inr rfl, .inl (by show 1 ∈ fl k; rw [q]; decide), .inr rfl, .inr rfl, .inl (by show 5 ∈ fl k; rw [q]; decide), .inr rfl, .inr rfl⟩
    · exact ⟨⟨k0, k1⟩, ⟨d1.1, by have := d1.2; simp only at this ⊢; omega⟩, ⟨by simp [cm0], by simp [cm0]⟩, ⟨by simp [cm0], by simp [cm0]⟩, ⟨d2.1, by have := d2.2; simp only at this ⊢; omega⟩, ⟨by simp [cm0], by simp [cm0]⟩, Byt.nil⟩
    · exact Nat.zero_le _
    · simp [cm0]
  · rw [q] at hQ
    simp only [List.foldl, tk0, tk1, tk2, tk3, tk4, tk5, tk6, tk7] at hQ
    rw [hQ] at h0 hnil ⊢
    simp only at h0 hnil ⊢
    have g1 := h0
    obtain ⟨g0, a1, r1⟩ := re_inv g1
    obtain ⟨bst, y0, k0, k1⟩ := st g0
    rw [a1]
    have hlen := congrArg List.length bst
    simp only [List.length_cons] at hlen
    refine ⟨?_, ?_, ?_, ?_, ?_⟩
    · show k :: (fl k).flatMap _ = b
      rw [q, bst]
      simp only [List.flatMap_cons, List.flatMap_nil, List.append_nil, fb0, fb1, fb2, fb3, fb4, fb5, fb6, fb7]
      try simp
    · exact ⟨by simp [cm0], .inr rfl, .inr rfl, .inr rfl, .inr rfl, .inr rfl, .inr rfl, .inl (by show 7 ∈ fl k; rw [q]; decide)⟩
    · exact ⟨⟨k0, k1⟩, ⟨by simp [cm0], by simp [cm0]⟩, ⟨by simp [cm0], by simp [cm0]⟩, ⟨by simp [cm0], by simp [cm0]⟩, ⟨by simp [cm0], by simp [cm0]⟩, ⟨by simp [cm0], by simp [cm0]⟩, y0⟩
    · exact Nat.zero_le _
    · show List.length _ ≤ _; omega

end Go.Proofs.YtpidlfifipgadaaDoor
