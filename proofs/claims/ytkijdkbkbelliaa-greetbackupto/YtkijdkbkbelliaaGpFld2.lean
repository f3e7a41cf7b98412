/-
  The fields of the packets of logins, the counted ones: texts, an answer's response, attributes. Written, they are read back; each part is too short; what is read is no shorter than what would be written. No memory is named here. Conditions: lengths below 2 to the 40.
-/
import Derived.Test.YtkijdkbkbelliaaGpFld
namespace Go.Proofs.Ytkijdkbkbelliaa
open Go.RowKit
set_option linter.unusedVariables false
set_option linter.unusedSimpArgs false

/-- A counted text's bytes. -/
def tB (s : ByteArray) : List Int := form (s.size : Int) ++ nums s
theorem tB_len (s : ByteArray) : (tB s).length = (form (s.size : Int)).length + s.size := by simp [tB, nums_length]
theorem form_pos (x : Int) : 1 ≤ (form x).length := by simp [form]
theorem readText_tB {s : ByteArray} (hs : s.size ≤ 1099511627776) (r : List Int) : readText (tB s ++ r) = (s, ((tB s).length : Int), 0) := by
  have h := readInt_form (s.size : Int) (by omega) (by omega) (nums s ++ r)
  have e : tB s ++ r = form (s.size : Int) ++ (nums s ++ r) := by unfold tB; rw [List.append_assoc]
  rw [e, readText_long h (by simp [nums_length]; omega)]
  have e2 : ((form (s.size : Int) ++ (nums s ++ r)).drop ((form (s.size : Int)).length : Int).toNat).take (s.size : Int).toNat = nums s := by
    rw [Int.toNat_natCast, Int.toNat_natCast, List.drop_left, List.take_append_of_le_length (by rw [nums_length]; exact Nat.le_refl _), List.take_of_length_le (by rw [nums_length]; exact Nat.le_refl _)]
  rw [e2, str_nums, tB_len]
  simp
theorem readText_part {s : ByteArray} (hs : s.size ≤ 1099511627776) {k : Nat} (hk : k < (tB s).length) : (readText ((tB s).take k)).2.2 = 4 := by
  rw [tB_len] at hk
  unfold tB
  by_cases h : k < (form (s.size : Int)).length
  · rw [List.take_append_of_le_length (by omega)]
    have p := readInt_part (s.size : Int) k h
    obtain ⟨x, q, er, hr⟩ : ∃ x q er, readInt ((form (s.size : Int)).take k) = (x, q, er) := ⟨_, _, _, rfl⟩
    rw [hr] at p
    simp only at p
    subst p
    rw [readText_err hr (by decide)]
  · rw [List.take_append, List.take_of_length_le (by omega)]
    have h2 := readInt_form (s.size : Int) (by omega) (by omega) ((nums s).take (k - (form (s.size : Int)).length))
    rw [readText_short h2 (by simp [nums_length]; omega)]
theorem tx_stk : Stk txS := fun s h => by unfold txS; rw [if_neg h]
theorem tx_keep {s : FS} (h : s.e ≠ 0) : txS s = s := by unfold txS; rw [if_neg h]
theorem tx_fld {s : ByteArray} (hs : s.size ≤ 1099511627776) : Fld txS txA (tB s) s := by
  refine ⟨fun r => ?_, fun r => ?_, fun k hk => ?_⟩
  · unfold txS paS
    rw [if_pos rfl, readText_tB hs r, if_pos rfl]
    show (⟨(tB s ++ r).drop ((tB s).length : Int).toNat, 0⟩ : FS) = _
    rw [Int.toNat_natCast, List.drop_left]
  · unfold txA
    rw [if_pos rfl, readText_tB hs r]
  · have p := readText_part hs hk
    unfold txS paS
    rw [if_pos rfl, p, if_neg (by decide)]
theorem tx_bak : Bak txS txA (fun b a b' => (tB a).length + b'.length ≤ b.length) := fun s hb he h => by
  obtain ⟨x, q, er, hr⟩ : ∃ x q er, readInt s.b = (x, q, er) := ⟨_, _, _, rfl⟩
  unfold txS paS at h
  rw [if_pos he] at h
  by_cases h0 : er = 0
  · subst h0
    have hs := readInt_shortest hb hr
    by_cases h1 : (s.b.length : Int) - q < x
    · rw [readText_short hr h1, if_neg (by decide)] at h
      exact absurd (show (4 : Int) = 0 from h) (by decide)
    · have e := readText_long hr h1
      obtain ⟨X, rfl⟩ := Int.eq_ofNat_of_zero_le hs.1
      obtain ⟨Q, rfl⟩ := Int.eq_ofNat_of_zero_le (show 0 ≤ q by omega)
      have eS : (txS s).b = s.b.drop (Q + X) := by
        unfold txS paS
        rw [if_pos he, e, if_pos rfl]
        show s.b.drop ((Q : Int) + (X : Int)).toNat = _
        congr 1
      have eA : txA s = strOfNums ((s.b.drop Q).take X) := by unfold txA; rw [if_pos he, e, Int.toNat_natCast, Int.toNat_natCast]
      have esz : (txA s).size = X := by rw [eA, str_size]; simp; omega
      refine ⟨?_, by rw [eS]; exact hb.drop _⟩
      show (tB (txA s)).length + (txS s).b.length ≤ s.b.length
      rw [tB_len, esz, eS]
      simp
      omega
  · rw [readText_err hr h0, if_neg h0] at h
    exact absurd h h0

/-! An answer's response. -/
theorem rs_stk (c : Int) : Stk (fun s => rsS s c) := fun s h => by
  show (rsS s c).e = s.e
  unfold rsS
  split
  · rw [tx_keep h, waS_keep _ h]
  · exact sh_stk s h
theorem tB_str {l : List Int} (h : Byt l) : tB (strOfNums l) = form (l.length : Int) ++ l := by unfold tB; rw [str_size, nums_str h]
theorem rs_fld {c : Int} {l : List Int} (hl : l.length ≤ 255) (hb : Byt l) : Fld (fun s => rsS s c) (fun s => rsA s c) (rsB c l) l := by
  by_cases q : has c 2097152 = true
  · have F := tx_fld (s := strOfNums l) (by rw [str_size]; omega)
    rw [tB_str hb] at F
    rw [show rsB c l = form (l.length : Int) ++ l by unfold rsB; rw [if_pos q]]
    refine ⟨fun r => ?_, fun r => ?_, fun k hk => ?_⟩
    · show rsS _ c = _
      unfold rsS
      rw [if_pos q, F.ok r, F.va r, str_size, decide_eq_true hl, waS_true]
    · show rsA _ c = _
      unfold rsA
      rw [if_pos q, F.va r, nums_str hb]
    · show (rsS _ c).e = _
      unfold rsS
      have := F.sh k hk
      rw [if_pos q, waS_keep _ (by rw [this]; decide), this]
  · rw [show (fun s => rsS s c) = shS by funext s; unfold rsS; rw [if_neg q], show (fun s => rsA s c) = shA by funext s; unfold rsA; rw [if_neg q], show rsB c l = (l.length : Int) :: l by unfold rsB; rw [if_neg q]]
    exact sh_fld hl
theorem rs_bak (c : Int) : Bak (fun s => rsS s c) (fun s => rsA s c) (fun b a b' => (rsB c a).length + b'.length ≤ b.length ∧ a.length ≤ 255 ∧ Byt a) := fun s hb he h => by
  by_cases q : has c 2097152 = true
  · have eS : rsS s c = waS (txS s) (decide ((txA s).size ≤ 255)) := by unfold rsS; rw [if_pos q]
    have eA : rsA s c = nums (txA s) := by unfold rsA; rw [if_pos q]
    have h' : (rsS s c).e = 0 := h
    rw [eS] at h'
    have k := waS_e0 h'
    have F := tx_bak s hb he k.1
    have hsz : (txA s).size ≤ 255 := of_decide_eq_true k.2
    refine ⟨⟨?_, ?_, ?_⟩, ?_⟩
    · show (rsB c (rsA s c)).length + (rsS s c).b.length ≤ _
      rw [eS, waS_b, eA]
      unfold rsB
      rw [if_pos q, nums_length]
      exact F.1
    · show (rsA s c).length ≤ 255
      rw [eA, nums_length]
      exact hsz
    · show Byt (rsA s c)
      rw [eA]
      exact nums_byt _
    · show Byt (rsS s c).b
      rw [eS, waS_b]
      exact F.2
  · have eS : rsS s c = shS s := by unfold rsS; rw [if_neg q]
    have eA : rsA s c = shA s := by unfold rsA; rw [if_neg q]
    have h' : (rsS s c).e = 0 := h
    rw [eS] at h'
    have F := sh_bak s hb he h'
    refine ⟨⟨?_, ?_, ?_⟩, ?_⟩
    · show (rsB c (rsA s c)).length + (rsS s c).b.length ≤ _
      rw [eS, eA, F.1.1]
      unfold rsB
      rw [if_neg q]
      simp
      omega
    · show (rsA s c).length ≤ 255
      rw [eA]
      exact F.1.2.1
    · show Byt (rsA s c)
      rw [eA]
      exact F.1.2.2
    · show Byt (rsS s c).b
      rw [eS]
      exact F.2

/-! Attributes. -/
theorem aB_cons (a : At) (l : List At) : aB (a :: l) = tB a.n ++ (tB a.v ++ aB l) := by
  show ((form a.n.size ++ nums a.n) ++ (form a.v.size ++ nums a.v)) ++ aB l = _
  rw [List.append_assoc]
  rfl
theorem atl_run : ∀ (ls l0 : List At) (k : Nat), (aB ls).length < k → l0.length + ls.length ≤ 64 → (aB ls).length ≤ 1099511627776 → atl k ⟨aB ls, 0⟩ l0 = (l0 ++ ls, ⟨[], 0⟩)
  | [], l0, k, _, _, _ => by rw [atl_stop k l0 (by simp [aB]), List.append_nil]; rfl
  | a :: ls, l0, 0, h, _, _ => by omega
  | a :: ls, l0, k + 1, h, hn, hz => by
    have hl := aB_cons a ls
    have p1 := form_pos (a.n.size : Int)
    have p2 := form_pos (a.v.size : Int)
    have hlen : (aB (a :: ls)).length = (tB a.n).length + ((tB a.v).length + (aB ls).length) := by rw [hl]; simp
    rw [hlen, tB_len, tB_len] at h hz
    simp only [List.length_cons] at hn
    have F1 := tx_fld (s := a.n) (by omega)
    have F2 := tx_fld (s := a.v) (by omega)
    have e0 : waS ⟨aB (a :: ls), 0⟩ (decide (l0.length < 64)) = ⟨aB (a :: ls), 0⟩ := by rw [decide_eq_true (by omega), waS_true]
    have eS : a1S ⟨aB (a :: ls), 0⟩ l0.length = ⟨aB ls, 0⟩ := by unfold a1S; rw [e0, hl, F1.ok, F2.ok]
    have eA : a1A ⟨aB (a :: ls), 0⟩ l0.length = a := by unfold a1A; rw [e0, hl, F1.va, F1.ok, F2.va]
    rw [atl_go k l0 ⟨by show 0 < (aB (a :: ls)).length; rw [hlen, tB_len]; omega, rfl⟩, eS, eA, atl_run ls (l0 ++ [a]) k (by omega) (by simp; omega) (by omega)]
    simp
theorem at_stk (c : Int) : Stk (fun s => atS s c) := fun s h => by
  show (atS s c).e = s.e
  unfold atS
  split
  · rw [tx_keep h, waS_keep _ h]
  · rfl
/-- May attributes be, by capabilities? -/
def atK (c : Int) (l : List At) : Bool := if has c 1048576 = true then decide (l.length ≤ 64) else decide (l.length = 0)
theorem at_fld {c : Int} {l : List At} (hk : atK c l = true) (hz : (aB l).length ≤ 1099511627776) : Fld (fun s => atS s c) (fun s => atA s c) (atB c l) l := by
  unfold atK at hk
  by_cases q : has c 1048576 = true
  · rw [if_pos q] at hk
    have h64 : l.length ≤ 64 := of_decide_eq_true hk
    have F := tx_fld (s := strOfNums (aB l)) (by rw [str_size]; exact hz)
    rw [tB_str (aB_byt l)] at F
    rw [show atB c l = form ((aB l).length : Int) ++ aB l by unfold atB; rw [if_pos q]]
    have eR : ∀ r, atR ⟨form ((aB l).length : Int) ++ aB l ++ r, 0⟩ = (l, ⟨[], 0⟩) := by
      intro r
      unfold atR
      rw [F.va r, nums_str (aB_byt l), atl_run l [] _ (by omega) (by simpa using h64) hz, List.nil_append]
    refine ⟨fun r => ?_, fun r => ?_, fun k hk => ?_⟩
    · show atS _ c = _
      unfold atS
      rw [if_pos q, F.ok r, eR r]
      exact waS_true _
    · show atA _ c = _
      unfold atA
      rw [if_pos q, eR r]
    · show (atS _ c).e = _
      unfold atS
      have := F.sh k hk
      rw [if_pos q, waS_keep _ (by rw [this]; decide), this]
  · rw [if_neg q] at hk
    have h0 : l = [] := List.eq_nil_of_length_eq_zero (of_decide_eq_true hk)
    subst h0
    rw [show (fun s => atS s c) = id by funext s; unfold atS; rw [if_neg q]; rfl, show (fun s => atA s c) = (fun _ => []) by funext s; unfold atA; rw [if_neg q], show atB c [] = [] by unfold atB; rw [if_neg q]]
    exact ⟨fun r => rfl, fun r => rfl, fun k hk => by simp at hk⟩
theorem form_mono {x y : Int} (h : x ≤ y) : (form x).length ≤ (form y).length := by
  have a := form_length x
  have b := form_length y
  unfold firstOf widthOf at a b
  repeat' split at a
  all_goals repeat' split at b
  all_goals omega
theorem atl_bak : ∀ (k : Nat) (s : FS) (l : List At), Byt s.b → (atl k s l).2.e = 0 → l.length ≤ 64 → ∃ m, (atl k s l).1 = l ++ m ∧ (aB m).length + (atl k s l).2.b.length ≤ s.b.length ∧ (l ++ m).length ≤ 64
  | 0, s, l, hb, h, h64 => ⟨[], (List.append_nil l).symm, by show 0 + s.b.length ≤ _; omega, by simpa using h64⟩
  | k + 1, s, l, hb, h, h64 => by
    by_cases q : 0 < s.b.length ∧ s.e = 0
    · rw [atl_go k l q] at h ⊢
      obtain ⟨q1, q2⟩ := q
      have hz : (a1S s l.length).e = 0 := by
        by_cases z : (a1S s l.length).e = 0
        · exact z
        · rw [atl_stop k _ (fun u => z u.2)] at h
          exact h
      have hl := a1S_less (n := l.length) hb hz q1
      have h1 := txS_e0 hz
      have h2 := txS_e0 h1
      have h3 := waS_e0 h2
      have hb1 : Byt (waS s (decide (l.length < 64))).b := by rw [waS_b]; exact hb
      have T1 := tx_bak _ hb1 h2 h1
      have T2 := tx_bak _ T1.2 h1 hz
      rw [waS_b] at T1
      obtain ⟨m, e1, e2, e3⟩ := atl_bak k (a1S s l.length) (l ++ [a1A s l.length]) T2.2 h (by simp; omega)
      refine ⟨a1A s l.length :: m, by rw [e1]; simp, ?_, by simpa using e3⟩
      rw [aB_cons]
      have t1 : (tB (txA (waS s (decide (l.length < 64))))).length + (txS (waS s (decide (l.length < 64)))).b.length ≤ s.b.length := T1.1
      have t2 : (tB (txA (txS (waS s (decide (l.length < 64)))))).length + (txS (txS (waS s (decide (l.length < 64))))).b.length ≤ (txS (waS s (decide (l.length < 64)))).b.length := T2.1
      simp only [List.length_append]
      have x1 : (a1A s l.length).n = txA (waS s (decide (l.length < 64))) := rfl
      have x2 : (a1A s l.length).v = txA (txS (waS s (decide (l.length < 64)))) := rfl
      have x3 : (a1S s l.length).b.length = (txS (txS (waS s (decide (l.length < 64))))).b.length := rfl
      rw [x1, x2]
      omega
    · rw [atl_stop _ l q]
      exact ⟨[], (List.append_nil l).symm, by show 0 + s.b.length ≤ _; omega, by simpa using h64⟩
theorem at_bak (c : Int) : Bak (fun s => atS s c) (fun s => atA s c) (fun b a b' => (atB c a).length + b'.length ≤ b.length ∧ atK c a = true) := fun s hb he h => by
  by_cases q : has c 1048576 = true
  · have eS : atS s c = waS (txS s) ((atR s).2.e == 0) := by unfold atS; rw [if_pos q]
    have eA : atA s c = (atR s).1 := by unfold atA; rw [if_pos q]
    have h' : (atS s c).e = 0 := h
    rw [eS] at h'
    have k := waS_e0 h'
    have F := tx_bak s hb he k.1
    have hR : (atR s).2.e = 0 := by simpa using k.2
    unfold atR at hR
    obtain ⟨m, e1, e2, e3⟩ := atl_bak _ ⟨nums (txA s), 0⟩ [] (nums_byt _) hR (by simp)
    have eA' : atA s c = m := by rw [eA]; unfold atR; rw [e1, List.nil_append]
    have e2' : (aB m).length ≤ (txA s).size := by
      have e4 : (nums (txA s)).length = (txA s).size := nums_length _
      simp only at e2
      omega
    have hm := form_mono (show ((aB m).length : Int) ≤ ((txA s).size : Int) by omega)
    have f1 : (tB (txA s)).length + (txS s).b.length ≤ s.b.length := F.1
    rw [tB_len] at f1
    refine ⟨⟨?_, ?_⟩, ?_⟩
    · show (atB c (atA s c)).length + (atS s c).b.length ≤ _
      rw [eS, waS_b, eA']
      unfold atB
      rw [if_pos q]
      simp only [List.length_append]
      omega
    · show atK c (atA s c) = true
      rw [eA']
      unfold atK
      rw [if_pos q]
      exact decide_eq_true (by simpa using e3)
    · show Byt (atS s c).b
      rw [eS, waS_b]
      exact F.2
  · have eS : atS s c = s := by unfold atS; rw [if_neg q]
    have eA : atA s c = [] := by unfold atA; rw [if_neg q]
    refine ⟨⟨?_, ?_⟩, ?_⟩
    · show (atB c (atA s c)).length + (atS s c).b.length ≤ _
      rw [eS, eA]
      unfold atB
      rw [if_neg q]
      simp
    · show atK c (atA s c) = true
      rw [eA]
      unfold atK
      rw [if_neg q]
      rfl
    · show Byt (atS s c).b
      rw [eS]
      exact hb

/-! A greeting's capabilities, in two halves. -/
theorem cor_low {c : Int} (h0 : 0 ≤ c) (h1 : c < 4294967296) : cor (c % 65536) = cor c := by
  unfold cor
  rw [u32_and c 33280 h0 h1 (by omega) (by omega), u32_and (c % 65536) 33280 (by omega) (by omega) (by omega) (by omega)]
  have e : (c % 65536).toNat = c.toNat &&& 65535 := by
    rw [show (65535 : Nat) = 2 ^ 16 - 1 by decide, Nat.and_two_pow_sub_one_eq_mod]
    omega
  rw [e, Nat.and_assoc]
  rfl
theorem or_join {lo hi : Int} (h0 : 0 ≤ lo) (h1 : lo < 65536) (h2 : 0 ≤ hi) (h3 : hi < 65536) : bits .or .u32 lo (hi * 65536) = lo + hi * 65536 := by
  rw [u32_or lo (hi * 65536) h0 (by omega) (by omega) (by omega), Nat.or_comm, nat_join 16 (hi * 65536).toNat lo.toNat (by omega) (by omega)]
  omega

end Go.Proofs.Ytkijdkbkbelliaa
