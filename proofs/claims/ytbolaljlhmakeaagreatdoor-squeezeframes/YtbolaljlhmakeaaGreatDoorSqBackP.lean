/-
  What was squeezed is read back as it was, in whatever chunks it comes. No program and no memory is named here.
-/
import Derived.Test.YtbolaljlhmakeaaGreatDoorSqStep
import Derived.Test.YtbolaljlhmakeaaGreatDoorSqW
namespace Go.Proofs.YtbolaljlhmakeaaGreatDoor
open Go
set_option linter.unusedVariables false
set_option linter.unusedSimpArgs false

theorem shr_back (T : Int) (p : List Int) (hb : Byt p) (h1 : 1 ≤ p.length) (h2 : p.length ≤ 1000) : qF (shr T p).1 (shr T p).2 = (p, 0) := by
  unfold shr
  split
  · unfold qF; rw [if_pos rfl]
  · split
    · unfold qF; rw [if_pos rfl]
    · have u := unp_back (F := 100000) (bs := p) (m := (p.length : Int)) (by omega) hb (by omega) (Int.le_refl _)
      unfold qF
      simp only
      rw [if_neg (by omega), u, if_neg (by simp), if_neg (by simp)]
theorem sq_parts (T q : Int) (p rest : List Int) (hl : p.length ≤ 1000) :
    val (sqF T q p ++ rest) 3 = ((shr T p).1.length : Int) ∧ val ((sqF T q p ++ rest).drop 4) 3 = ((shr T p).2 : Int) ∧ (sqF T q p ++ rest).getD 3 0 = q ∧ (sqF T q p ++ rest).drop 7 = (shr T p).1 ++ rest := by
  have hs := shr_le T p
  unfold sqF
  generalize (shr T p).1 = a at *
  generalize (shr T p).2 = b at *
  have l1 := le_length (a.length : Int) 3
  have l2 := le_length (b : Int) 3
  have e1 : le (a.length : Int) 3 ++ [q] ++ le (b : Int) 3 ++ a ++ rest = le (a.length : Int) 3 ++ ([q] ++ le (b : Int) 3 ++ a ++ rest) := by simp
  have e2 : le (a.length : Int) 3 ++ [q] ++ le (b : Int) 3 ++ a ++ rest = (le (a.length : Int) 3 ++ [q]) ++ (le (b : Int) 3 ++ (a ++ rest)) := by simp
  have e3 : le (a.length : Int) 3 ++ [q] ++ le (b : Int) 3 ++ a ++ rest = (le (a.length : Int) 3 ++ [q] ++ le (b : Int) 3) ++ (a ++ rest) := by simp
  refine ⟨?_, ?_, ?_, ?_⟩
  · rw [e1]
    exact val_le_fits _ (by omega) _ 3 (by rw [show (2 : Int) ^ (8 * 3) = 16777216 by decide]; omega)
  · rw [e2, show (4 : Nat) = (le (a.length : Int) 3 ++ [q]).length by simp [l1], List.drop_left]
    exact val_le_fits _ (by omega) _ 3 (by rw [show (2 : Int) ^ (8 * 3) = 16777216 by decide]; omega)
  · rw [e1, List.getD_eq_getElem?_getD, List.getElem?_append_right (by omega), l1]
    simp
  · rw [e3, show (7 : Nat) = (le (a.length : Int) 3 ++ [q] ++ le (b : Int) 3).length by simp [l1, l2], List.drop_left]
/-- A frame that was put is told. -/
theorem sq_frame (M : Nat) (T q : Int) (p rest t : List Int) (F : Nat) (hb : Byt p) (h1 : 1 ≤ p.length) (hM : p.length ≤ M) (hM2 : M ≤ 1000) (hF : (sqF T q p ++ rest).length ≤ F) :
    ∃ F', rest.length ≤ F' ∧ ql M F ⟨q, sqF T q p ++ rest, 0⟩ t = ql M F' ⟨(q + 1) % 256, rest, 0⟩ (t ++ p) := by
  obtain ⟨p1, p2, p3, p4⟩ := sq_parts T q p rest (by omega)
  have hs := shr_le T p
  have hl := sqF_len T q p
  have hN : qN (sqF T q p ++ rest) = (shr T p).1.length := by unfold qN; rw [p1]; omega
  have hT : qT (sqF T q p ++ rest) = (shr T p).2 := by unfold qT; rw [p2]; omega
  have hE : qE M ⟨q, sqF T q p ++ rest, 0⟩ = 0 := by
    unfold qE
    simp only
    rw [p1, p2, p3, if_neg (by omega), if_neg (by omega), if_neg (by simp)]
  have hfr : qfr (sqF T q p ++ rest) = (p, 0) := by
    unfold qfr
    rw [hN, hT, p4, List.take_left]
    exact shr_back T p hb h1 (by omega)
  have hdr : (sqF T q p ++ rest).drop (7 + qN (sqF T q p ++ rest)) = rest := by rw [hN, ← hl, List.drop_left]
  obtain ⟨F', hF', _, e⟩ := ql_tell (M := (M : Int)) (t := t) (s := ⟨q, sqF T q p ++ rest, 0⟩) hF (by simp only [List.length_append]; omega) hE (by simp only; rw [hN, List.length_append]; omega) (by simp only; rw [hfr])
  simp only at hF'
  rw [hdr] at hF'
  refine ⟨F', hF', ?_⟩
  rw [e]
  simp only [qnx, hdr, hfr]
theorem take_pc (M : Nat) (bs : List Int) (k : Nat) : bs.take ((k + 1) * M) = bs.take (k * M) ++ pc M bs k := by
  rw [Nat.add_mul, Nat.one_mul, List.take_add]
  rfl
theorem sq_all (M : Nat) (T q : Int) (bs : List Int) (hb : Byt bs) (hM : 1 ≤ M) (hM2 : M ≤ 1000) : ∀ (k : Nat) (rest t : List Int) (F : Nat), k ≤ pcn M bs → ((sqz T M bs q (List.range k)).1 ++ rest).length ≤ F →
    ∃ F', rest.length ≤ F' ∧ ql M F ⟨q, (sqz T M bs q (List.range k)).1 ++ rest, 0⟩ t = ql M F' ⟨(sqz T M bs q (List.range k)).2, rest, 0⟩ (t ++ bs.take (k * M))
  | 0, rest, t, F, _, hF => ⟨F, by simpa [sqz_nil] using hF, by simp [sqz_nil]⟩
  | k + 1, rest, t, F, hk, hF => by
    have hlt := (pcn_lt (bs := bs) (k := k) hM).1 (by omega)
    have hpl := pc_len M bs k
    rw [List.range_succ, sqz_snoc] at hF ⊢
    simp only at hF ⊢
    rw [List.append_assoc] at hF ⊢
    obtain ⟨F1, h1, e1⟩ := sq_all M T q bs hb hM hM2 k (sqF T (sqz T M bs q (List.range k)).2 (pc M bs k) ++ rest) t F (by omega) hF
    obtain ⟨F2, h2, e2⟩ := sq_frame M T (sqz T M bs q (List.range k)).2 (pc M bs k) rest (t ++ bs.take (k * M)) F1 ((hb.drop _).take _) (by omega) (by omega) hM2 h1
    refine ⟨F2, h2, ?_⟩
    rw [e1, e2, take_pc, List.append_assoc]
/-- All of it is told, and nothing is held behind it. -/
theorem sq_back (M : Nat) (T q : Int) (bs : List Int) (hb : Byt bs) (hM : 1 ≤ M) (hM2 : M ≤ 1000) (F : Nat) (hF : (sqA T M bs q).1.length ≤ F) : ql M F ⟨q, (sqA T M bs q).1, 0⟩ [] = (⟨(sqA T M bs q).2, [], 0⟩, bs, 0) := by
  have hge : bs.length ≤ pcn M bs * M := by
    rcases Nat.lt_or_ge (pcn M bs * M) bs.length with q | q
    · have := (pcn_lt (bs := bs) (k := pcn M bs) hM).2 q
      omega
    · exact q
  obtain ⟨F', _, e⟩ := sq_all M T q bs hb hM hM2 (pcn M bs) [] [] F (Nat.le_refl _) (by rw [List.append_nil]; exact hF)
  rw [List.append_nil, List.nil_append, List.take_of_length_le hge] at e
  show ql M F ⟨q, (sqz T M bs q (List.range (pcn M bs))).1, 0⟩ [] = _
  rw [e, ql_short (by simp)]
  rfl

/-- Behind the first n bytes. -/
def qat (M : Int) (q : Int) (x : List Int) (n : Nat) : QS × List Int × Int := ql M n ⟨q, x.take n, 0⟩ []
/-- A chunk more, of bytes that are read without an error. -/
theorem qat_chunk (M q : Int) (x : List Int) (n k : Nat) (hn : n + k ≤ x.length) (h0 : (ql M x.length ⟨q, x, 0⟩ []).2.2 = 0) :
    ∃ t', qfeed M (qat M q x n).1 ((x.drop n).take k) = ((qat M q x (n + k)).1, t', 0) ∧ (qat M q x (n + k)).2.1 = (qat M q x n).2.1 ++ t' ∧ (qat M q x n).1.why = 0 ∧ qP M (qat M q x n).1 := by
  have key : ∀ m, m ≤ x.length → (qat M q x m).2.2 = 0 := by
    intro m hm
    have h := (ql_more M (x.drop m) m ⟨q, x.take m, 0⟩ [] (by simp; omega) x.length (by rw [List.take_append_drop]; exact Nat.le_refl _)).1
    simp only [List.take_append_drop] at h
    by_cases q0 : (qat M q x m).2.2 = 0
    · exact q0
    · exact absurd h0 (h q0)
  have e1 := key n (by omega)
  have e2 := key (n + k) hn
  obtain ⟨a1, _⟩ := ql_P M n ⟨q, x.take n, 0⟩ [] (by simp; omega)
  obtain ⟨hP, hw⟩ := a1 e1
  have happ : x.take (n + k) = x.take n ++ (x.drop n).take k := List.take_add
  have hlk : ((x.drop n).take k).length = k := by simp; omega
  have hm := (ql_more M ((x.drop n).take k) n ⟨q, x.take n, 0⟩ [] (by simp; omega) (n + k) (by rw [← happ]; simp; omega)).2 e1 _ (Nat.le_refl _)
  simp only [← happ] at hm
  have hacc := ql_acc M ((qat M q x n).1.held ++ (x.drop n).take k).length { (qat M q x n).1 with held := (qat M q x n).1.held ++ (x.drop n).take k } (qat M q x n).2.1 []
  rw [List.append_nil] at hacc
  have hm2 : qat M q x (n + k) = _ := hm.trans hacc
  have hf : qfeed M (qat M q x n).1 ((x.drop n).take k) = ql M ((qat M q x n).1.held ++ (x.drop n).take k).length { (qat M q x n).1 with held := (qat M q x n).1.held ++ (x.drop n).take k } [] := by
    unfold qfeed; rw [if_neg (by rw [show (qat M q x n).1.why = 0 from hw]; simp)]
  rw [hf]
  generalize ql M ((qat M q x n).1.held ++ (x.drop n).take k).length { (qat M q x n).1 with held := (qat M q x n).1.held ++ (x.drop n).take k } [] = Y at hm2 ⊢
  rw [hm2] at e2 ⊢
  obtain ⟨y1, y2, y3⟩ := Y
  simp only at e2
  subst e2
  exact ⟨y2, rfl, rfl, hw, hP⟩
theorem qat_zero (M q : Int) (x : List Int) : qat M q x 0 = (⟨q, [], 0⟩, [], 0) := by unfold qat; rw [ql_short (by simp)]; simp
theorem qat_all (M : Nat) (T q : Int) (bs : List Int) (hb : Byt bs) (hM : 1 ≤ M) (hM2 : M ≤ 1000) : qat M q (sqA T M bs q).1 (sqA T M bs q).1.length = (⟨(sqA T M bs q).2, [], 0⟩, bs, 0) := by
  unfold qat
  rw [List.take_of_length_le (Nat.le_refl _)]
  exact sq_back M T q bs hb hM hM2 _ (Nat.le_refl _)
end Go.Proofs.YtbolaljlhmakeaaGreatDoor
