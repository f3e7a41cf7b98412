/-
  Replies that are written are read back as they were, and are known by their first byte: plain facts. No memory is named here. Conditions: numbers within their kinds; lengths below 2 to the 40.
-/
import Derived.Test.YtnodhdggafffaaaDoorRyPlain
namespace Go.Proofs.YtnodhdggafffaaaDoor
open Go.RowKit
set_option linter.unusedVariables false
set_option linter.unusedSimpArgs false

theorem waS_true (s : FS) : waS s true = s := by unfold waS; rw [if_neg (by simp)]
theorem fx_rd {x : Int} {n : Nat} (h1 : 1 ≤ n) (h8 : n ≤ 8) (h0 : 0 ≤ x) (hx : x < 2 ^ (8 * n)) (r : List Int) : fxS ⟨le x n ++ r, 0⟩ n = ⟨r, 0⟩ ∧ fxA ⟨le x n ++ r, 0⟩ n = x := by
  have e : readFixed (le x n ++ r) n = (x, 0) := by
    unfold readFixed
    rw [if_neg (by omega), if_neg (by simp [le_length]; omega), Int.toNat_natCast, val_le_fits x h0 r n hx]
  constructor
  · unfold fxS
    rw [if_pos rfl, e]
    show (⟨(le x n ++ r).drop n, 0⟩ : FS) = _
    rw [List.drop_append_of_le_length (by simp [le_length]), List.drop_of_length_le (by simp [le_length]), List.nil_append]
  · unfold fxA
    rw [if_pos rfl, e]
theorem le_one {x : Int} (h0 : 0 ≤ x) (h1 : x ≤ 255) : le x 1 = [x] := by
  show [] ++ [x / 2 ^ (8 * 0) % 256] = [x]
  rw [List.nil_append]
  congr 1
  simp
  omega
theorem fx1_rd {x : Int} (h0 : 0 ≤ x) (h1 : x ≤ 255) (r : List Int) : fxS ⟨[x] ++ r, 0⟩ 1 = ⟨r, 0⟩ ∧ fxA ⟨[x] ++ r, 0⟩ 1 = x := by
  have := fx_rd (x := x) (n := 1) (by omega) (by omega) h0 (by simp; omega) r
  rwa [le_one h0 h1] at this
theorem ma_rd {x : Int} (h0 : 0 ≤ x) (h1 : x ≤ 255) (r : List Int) : maS ⟨[x] ++ r, 0⟩ x = ⟨r, 0⟩ := by
  have := fx1_rd h0 h1 r
  unfold maS
  rw [this.1, this.2, beq_self_eq_true, waS_true]
theorem nu_rd {x : Int} (h0 : 0 ≤ x) (h1 : x < 18446744073709551616) (r : List Int) : nuS ⟨form x ++ r, 0⟩ = ⟨r, 0⟩ ∧ nuA ⟨form x ++ r, 0⟩ = x := by
  have e := readInt_form x h0 h1 r
  constructor
  · unfold nuS
    rw [if_pos rfl, e]
    show (⟨(form x ++ r).drop ((form x).length : Int).toNat, 0⟩ : FS) = _
    rw [Int.toNat_natCast, List.drop_left]
  · unfold nuA
    rw [if_pos rfl, e]
theorem tx_rd {s : ByteArray} (h : s.size ≤ 1099511627776) (r : List Int) : txS ⟨txB s ++ r, 0⟩ = ⟨r, 0⟩ ∧ txA ⟨txB s ++ r, 0⟩ = s := by
  have e := readInt_form (s.size : Int) (by omega) (by omega) (nums s ++ r)
  rw [← List.append_assoc] at e
  have e2 : readText (txB s ++ r) = (s, ((form s.size).length : Int) + (s.size : Int), 0) := by
    unfold txB
    rw [readText_long e (by simp [nums_length]; omega)]
    rw [Int.toNat_natCast, Int.toNat_natCast, List.append_assoc, List.drop_left, List.take_append_of_le_length (by rw [nums_length]; exact Nat.le_refl _), List.take_of_length_le (by rw [nums_length]; exact Nat.le_refl _), str_nums]
  constructor
  · unfold txS
    rw [if_pos rfl, e2]
    show (⟨(txB s ++ r).drop (((form s.size).length : Int) + (s.size : Int)).toNat, 0⟩ : FS) = _
    rw [show (((form s.size).length : Int) + (s.size : Int)).toNat = (txB s).length by simp [txB, nums_length]; omega, List.drop_left]
  · unfold txA
    rw [if_pos rfl, e2]
theorem tk_rd (l r : List Int) : tkS ⟨l ++ r, 0⟩ l.length = ⟨r, 0⟩ ∧ tkA ⟨l ++ r, 0⟩ l.length = l := by
  constructor
  · unfold tkS
    rw [if_pos rfl, if_neg (by simp)]
    simp
  · unfold tkA
    rw [if_pos ⟨rfl, by simp⟩]
    simp
theorem re_rd (l : List Int) : reS ⟨l, 0⟩ = ⟨[], 0⟩ ∧ reA ⟨l, 0⟩ = l := ⟨rfl, rfl⟩
theorem ed_nil : edS ⟨[], 0⟩ = ⟨[], 0⟩ := rfl

theorem fx2_rd {x : Int} (h : 0 ≤ x ∧ x < 65536) (r : List Int) : fxS ⟨le x 2 ++ r, 0⟩ 2 = ⟨r, 0⟩ ∧ fxA ⟨le x 2 ++ r, 0⟩ 2 = x := fx_rd (by omega) (by omega) h.1 (by simpa using h.2) r
theorem fx2_end {x : Int} (h : 0 ≤ x ∧ x < 65536) : fxS ⟨le x 2, 0⟩ 2 = ⟨[], 0⟩ ∧ fxA ⟨le x 2, 0⟩ 2 = x := by have := fx2_rd h []; rwa [List.append_nil] at this
theorem eo_back {p : Eo} (h : EoK p) : eoR (eoB p) = (p, 0) := by
  have e : eoQ (eoB p) = (p, ⟨[], 0⟩) := by
    unfold eoQ eoB
    simp only [ma_rd (show (0 : Int) ≤ 254 by decide) (by decide), fx2_rd h.wa, fx2_end h.st, ed_nil]
  unfold eoR
  rw [e]
  rfl
theorem pr_back {p : Pr} (h : PrK p) : prR (prB p) = (p, 0) := by
  have e : prQ (prB p) = (p, ⟨[], 0⟩) := by
    unfold prQ prB
    have h4 := fun r => fx_rd (x := p.id) (n := 4) (by omega) (by omega) h.id.1 (by have := h.id.2; simpa using this) r
    simp only [ma_rd (show (0 : Int) ≤ 0 by decide) (by decide), h4, fx2_rd h.co, fx2_rd h.pa, fx2_end h.wa, ed_nil]
  unfold prR
  rw [e]
  rfl
theorem er_back {p : Er} (h : eOk p = true) (hK : 0 ≤ p.co ∧ p.co < 65536) : erR (erB p) = (p, 0) := by
  have hs : (nums p.st).length = 5 := by rw [nums_length]; unfold eOk at h; simpa using h
  have e : erQ (erB p) = (p, ⟨[], 0⟩) := by
    unfold erQ erB
    have h5 := tk_rd (nums p.st) (nums p.tx)
    rw [hs] at h5
    simp only [ma_rd (show (0 : Int) ≤ 255 by decide) (by decide), fx2_rd hK, ma_rd (show (0 : Int) ≤ 35 by decide) (by decide), h5, re_rd, str_nums, ed_nil]
  unfold erR
  rw [e]
  rfl
theorem fi_back {s : ByteArray} (h : fOk s = true) : fiR (fiB s) = (s, 0) := by
  have hs : 0 < (nums s).length := by rw [nums_length]; unfold fOk at h; rw [bne_iff_ne] at h; omega
  have e : fiQ (fiB s) = (s, ⟨[], 0⟩) := by
    unfold fiQ fiB
    have hn : neS ⟨nums s, 0⟩ 1 = ⟨nums s, 0⟩ := by unfold neS; rw [if_neg (fun q => by have h1 : (nums s).length < 1 := q.2; omega)]
    simp only [ma_rd (show (0 : Int) ≤ 251 by decide) (by decide), hn, re_rd, str_nums, ed_nil]
  unfold fiR
  rw [e]
  rfl
theorem ok_back {p : Ok} {c : Int} (last : Bool) (h : oOk c p = true) (hK : OkK p) (hb : Byt p.tr) (hz : p.info.size ≤ 1099511627776) (hz2 : p.tr.length ≤ 1099511627776) : okR (okB c last p) c = (p, 0) := by
  have hF0 : (0 : Int) ≤ (if last then 254 else 0) := by split <;> decide
  have hF1 : (if last then (254 : Int) else 0) ≤ 255 := by split <;> decide
  have hF : ((if last then (254 : Int) else 0) == 0 || (if last then (254 : Int) else 0) == 254) = true := by cases last <;> rfl
  have szs : (strOfNums p.tr).size = p.tr.length := by rw [show (strOfNums p.tr).size = (strOfNums p.tr).data.toList.length by simp, strOfNums_data]; simp
  have htx : form p.tr.length ++ p.tr = txB (strOfNums p.tr) := by unfold txB; rw [szs, nums_str hb]
  have e : okQ (okB c last p) c = (p, ⟨[], 0⟩) := by
    unfold okQ okB
    simp only [fx1_rd hF0 hF1, hF, waS_true, nu_rd hK.af.1 hK.af.2, nu_rd hK.ins.1 hK.ins.2, fx2_rd hK.st, fx2_rd hK.wa]
    cases q : has c 8388608
    · have ht : trk c p.st = false := by unfold trk; rw [q]; rfl
      have hn : p.tr = [] := by unfold oOk at h; rw [ht, Bool.or_false] at h; simpa using h
      unfold tlA tlT tlS okT
      simp only [q, if_true, re_rd, str_nums, ed_nil]
      rw [← hn]
    · cases q2 : trk c p.st
      · have hn : p.tr = [] := by unfold oOk at h; rw [q2, Bool.or_false] at h; simpa using h
        have hT := tx_rd hz []
        rw [List.append_nil] at hT
        have hl : 0 < (txB p.info).length := by unfold txB; rw [List.length_append]; have := form_len (p.info.size : Int); omega
        unfold tlA tlT tlS okT
        rw [q, q2]
        simp only [Bool.true_eq_false, Bool.false_eq_true, if_false, if_pos hl, hT, ed_nil]
        rw [← hn]
      · have hT := tx_rd hz (txB (strOfNums p.tr))
        have hU := tx_rd (s := strOfNums p.tr) (by omega) []
        rw [List.append_nil] at hU
        unfold tlA tlT tlS okT
        rw [q, q2, htx]
        simp only [Bool.true_eq_false, if_false, if_true, hT, hU, ed_nil, nums_str hb]
  unfold okR
  rw [e]
  rfl

/-! What they are known by. -/
theorem has_or {c x : Nat} (hc : c < 4294967296) (hx : x < 4294967296) (h0 : x ≠ 0) : has (bits .or .u32 (c : Int) (x : Int)) (x : Int) = true := by
  unfold has
  rw [u32_or_nat c x hc hx, u32_and_nat _ x (Nat.or_lt_two_pow (n := 32) hc hx) hx]
  have : (c ||| x) &&& x = x := by apply Nat.eq_of_testBit_eq; intro i; simp; intro h; exact .inr h
  rw [this]
  simp
  omega
theorem has_not {c x : Nat} (hc : c < 4294967296) (hx : x < 4294967296) : has (bits .andNot .u32 (c : Int) (x : Int)) (x : Int) = false := by
  unfold has
  rw [u32_andNot_nat c x hc hx, u32_and_nat _ x (Nat.and_lt_two_pow (n := 32) _ (by omega)) hx]
  have : (c &&& (4294967295 - x)) &&& x = 0 := by
    apply Nat.eq_of_testBit_eq
    intro i
    have hh : (4294967295 - x).testBit i = (decide (i < 32) && !x.testBit i) := by
      rw [show 4294967295 - x = 2 ^ 32 - (x + 1) by omega]
      exact Nat.testBit_two_pow_sub_succ (by omega) i
    rw [Nat.testBit_and, Nat.testBit_and, hh]
    cases x.testBit i <;> simp
  rw [this]
  rfl
theorem ok_first (c : Int) (p : Ok) : fiK (okB c false p) c = 1 := rfl
theorem okT_len {c : Int} {p : Ok} (h1 : p.info.size ≤ 3000) (h2 : p.tr.length ≤ 3000) : (okT c p).length ≤ 6018 := by
  have f3 := txB_len p.info
  have f4 := form_length_le (p.tr.length : Int)
  unfold okT
  split
  · rw [nums_length]; omega
  · split
    · simp only [List.length_append]; omega
    · omega
theorem okB_len {c : Int} {last : Bool} {p : Ok} (h1 : p.info.size ≤ 3000) (h2 : p.tr.length ≤ 3000) : (okB c last p).length ≤ 6100 := by
  have f1 := form_length_le p.af
  have f2 := form_length_le p.ins
  have f3 := okT_len (c := c) h1 h2
  unfold okB
  simp only [List.length_append, List.length_singleton, le_length]
  omega
theorem ok_last {c : Int} (d : Int) {p : Ok} (hd : has d 16777216 = true) (h1 : p.info.size ≤ 3000) (h2 : p.tr.length ≤ 3000) : laK (okB c true p) d = 1 := by
  have hl := okB_len (c := c) (last := true) h1 h2
  show laX 254 d _ = 1
  unfold laX
  rw [if_neg (by decide), if_pos rfl, if_pos hd, if_pos]
  unfold okB at hl
  rw [List.length_append] at hl
  simp only [if_true, List.length_singleton] at hl
  show List.length (List.append [] _) + 1 < _
  rw [show ∀ l : List Int, List.append [] l = l from fun _ => rfl]
  omega
theorem er_first (c : Int) (p : Er) : fiK (erB p) c = 2 := rfl
theorem er_last (c : Int) (p : Er) : laK (erB p) c = 2 := rfl
theorem fi_first {d : Int} (s : ByteArray) (hd : has d 128 = true) : fiK (fiB s) d = 4 := by
  show fiX 251 d = 4
  unfold fiX
  rw [if_neg (by decide), if_neg (by decide), if_pos ⟨rfl, hd⟩]
theorem eo_last {d : Int} (p : Eo) (hd : has d 16777216 = false) : laK (eoB p) d = 3 := by
  show laX 254 d _ = 3
  unfold laX
  rw [if_neg (by decide), if_pos rfl, if_neg (by rw [hd]; decide), if_pos]
  show List.length (List.append [] _) + 1 = _
  rw [show ∀ l : List Int, List.append [] l = l from fun _ => rfl]
  simp [le_length]

end Go.Proofs.YtnodhdggafffaaaDoor
