/-
  Frames that come in chunks: whatever the chunks, the same payloads are told, each as soon as its last byte is there. No program and no memory is named here.
-/
import Derived.Test.YtbolaljlhmakeaaGreatDoorPktSplit
namespace Go.Proofs.YtbolaljlhmakeaaGreatDoor.Pkt
open Go
set_option linter.unusedVariables false
set_option linter.unusedSimpArgs false

theorem lp_fuel (M L : Int) : ∀ (f f' : Nat) (s : PS) (t : List Pk), s.held.length ≤ f → s.held.length ≤ f' → lp M L f s t = lp M L f' s t
  | 0, f', s, t, h, _ => by rw [lp_short (f := f') (by omega)]; rfl
  | f + 1, f', s, t, h, h' => by
    by_cases h4 : s.held.length < 4
    · rw [lp_short h4, lp_short h4]
    by_cases he : hdE M L s = 0
    · by_cases hn : s.held.length < 4 + hdN s
      · rw [lp_part h h4 he hn, lp_part h' h4 he hn]
      · by_cases hm : (hdN s : Int) < M
        · obtain ⟨g, hg, e, h1⟩ := lp_tell (t := t) h h4 he hn hm
          obtain ⟨g', hg', e', h2⟩ := lp_tell (t := t) h' h4 he hn hm
          have : g = f := by omega
          subst this
          rw [h1, h2]
          exact lp_fuel M L g g' _ _ hg hg'
        · obtain ⟨g, hg, e, h1⟩ := lp_go (t := t) h h4 he hn hm
          obtain ⟨g', hg', e', h2⟩ := lp_go (t := t) h' h4 he hn hm
          have : g = f := by omega
          subst this
          rw [h1, h2]
          exact lp_fuel M L g g' _ _ hg hg'
    · rw [lp_err h h4 he, lp_err h' h4 he]
theorem lp_acc (M L : Int) : ∀ (f : Nat) (s : PS) (t u : List Pk), lp M L f s (t ++ u) = ((lp M L f s u).1, t ++ (lp M L f s u).2.1, (lp M L f s u).2.2)
  | 0, s, t, u => rfl
  | f + 1, s, t, u => by
    simp only [lp]
    by_cases h4 : s.held.length < 4
    · simp only [if_pos h4]
    simp only [if_neg h4]
    by_cases he : hdE M L s ≠ 0
    · simp only [if_pos he]
    simp only [if_neg he]
    by_cases hn : s.held.length < 4 + hdN s
    · simp only [if_pos hn]
    simp only [if_neg hn]
    by_cases hm : (hdN s : Int) < M
    · simp only [if_pos hm]
      rw [List.append_assoc]
      exact lp_acc M L f _ _ _
    · simp only [if_neg hm]
      exact lp_acc M L f _ _ _

/-- More bytes behind: the head that is whole is the same. -/
theorem head_more (M L : Int) (s : PS) (c : List Int) (h4 : ¬ s.held.length < 4) : hdE M L { s with held := s.held ++ c } = hdE M L s ∧ hdN { s with held := s.held ++ c } = hdN s := by
  have e1 : val (s.held ++ c) 3 = val s.held 3 := val_append _ _ 3 (by omega)
  have e2 : (s.held ++ c).getD 3 0 = s.held.getD 3 0 := by simp [List.getElem?_append_left (show 3 < s.held.length by omega)]
  constructor
  · unfold hdE; simp only [e1, e2]
  · unfold hdN; simp only [e1]
theorem lp_more (M L : Int) (c : List Int) : ∀ (f : Nat) (s : PS) (t : List Pk), s.held.length ≤ f → (lp M L f s t).2.2 = 0 → ∀ f1 f2, (s.held ++ c).length ≤ f1 → ((lp M L f s t).1.held ++ c).length ≤ f2 →
    lp M L f1 { s with held := s.held ++ c } t = lp M L f2 { (lp M L f s t).1 with held := (lp M L f s t).1.held ++ c } (lp M L f s t).2.1
  | 0, s, t, h, _, f1, f2, h1, h2 => lp_fuel M L f1 f2 _ _ h1 h2
  | f + 1, s, t, h, he0, f1, f2, h1, h2 => by
    by_cases h4 : s.held.length < 4
    · rw [lp_short h4] at h2 ⊢
      exact lp_fuel M L f1 f2 _ _ h1 h2
    have hm := head_more M L s c h4
    have hl4 : ¬ ({ s with held := s.held ++ c } : PS).held.length < 4 := by simp only [List.length_append]; omega
    by_cases he : hdE M L s = 0
    · by_cases hn : s.held.length < 4 + hdN s
      · rw [lp_part h h4 he hn] at h2 ⊢
        exact lp_fuel M L f1 f2 _ _ h1 h2
      · have hn2 : ¬ ({ s with held := s.held ++ c } : PS).held.length < 4 + hdN { s with held := s.held ++ c } := by rw [hm.2]; simp only [List.length_append]; omega
        have htk : tkF (hdN { s with held := s.held ++ c }) { s with held := s.held ++ c } = { tkF (hdN s) s with held := (tkF (hdN s) s).held ++ c } := by
          rw [hm.2]
          simp only [tkF]
          rw [List.drop_append_of_le_length (by omega), List.drop_append_of_le_length (by omega), List.take_append_of_le_length (by simp; omega)]
        by_cases hlt : (hdN s : Int) < M
        · obtain ⟨g, hg, e, q1⟩ := lp_tell (t := t) h h4 he hn hlt
          obtain ⟨g1, hg1, e1, q2⟩ := lp_tell (t := t) h1 hl4 (hm.1.trans he) hn2 (by rw [hm.2]; exact hlt)
          have : g = f := by omega
          subst this
          rw [q1] at he0 h2 ⊢
          rw [q2, htk]
          exact lp_more M L c g { tkF (hdN s) s with body := [] } _ hg he0 g1 f2 (by
            have := hg1
            rw [hm.2] at this
            simp only [tkF, List.length_append, List.length_drop] at this ⊢
            omega) h2
        · obtain ⟨g, hg, e, q1⟩ := lp_go (t := t) h h4 he hn hlt
          obtain ⟨g1, hg1, e1, q2⟩ := lp_go (t := t) h1 hl4 (hm.1.trans he) hn2 (by rw [hm.2]; exact hlt)
          have : g = f := by omega
          subst this
          rw [q1] at he0 h2 ⊢
          rw [q2, htk]
          exact lp_more M L c g (tkF (hdN s) s) t hg he0 g1 f2 (by
            have := hg1
            rw [hm.2] at this
            simp only [tkF, List.length_append, List.length_drop] at this ⊢
            omega) h2
    · rw [lp_err h h4 he] at he0
      exact absurd he0 he

/-- A frame's head says its length and its number. -/
theorem head_fr (M L : Int) (part rest p : List Int) (q : Int) (hl : part.length ≤ 16777215) (hM : (part.length : Int) ≤ M) (hL : (p.length : Int) + part.length ≤ L) :
    hdE M L ⟨q, p, fr1 part q ++ rest, 0⟩ = 0 ∧ hdN ⟨q, p, fr1 part q ++ rest, 0⟩ = part.length := by
  have hv : val (fr1 part q ++ rest) 3 = part.length := by
    unfold fr1
    rw [List.append_assoc]
    exact val_le_fits _ (by omega) _ 3 (by rw [show (2 : Int) ^ (8 * 3) = 16777216 by decide]; omega)
  have hg : (fr1 part q ++ rest).getD 3 0 = q := by
    unfold fr1
    simp [List.getD_eq_getElem?_getD, List.getElem?_append_right, le_length]
  constructor
  · unfold hdE
    simp only [hv, hg]
    rw [if_neg (by omega), if_neg (by simp), if_neg (by omega)]
  · unfold hdN
    simp only [hv]
    omega
theorem fr1_drop (part rest : List Int) (q : Int) : (fr1 part q ++ rest).drop (4 + part.length) = rest ∧ ((fr1 part q ++ rest).drop 4).take part.length = part := by
  have h := fr1_len part q
  constructor
  · rw [← h, List.drop_left]
  · unfold fr1
    have : (le (part.length : Int) 3 ++ ([q] ++ part) ++ rest).drop 4 = part ++ rest := by
      rw [← List.append_assoc, List.append_assoc _ part rest]
      rw [show (4 : Nat) = (le (part.length : Int) 3 ++ [q]).length by simp [le_length], List.drop_left]
    rw [this, List.take_left]
theorem spl_pos (M f : Nat) (b : List Int) (q : Int) : 4 ≤ (spl M f b q).1.length := by
  cases f with
  | zero => simp [spl, fr1_len]
  | succ f =>
    simp only [spl]
    split
    · rw [List.length_append, fr1_len]; omega
    · rw [fr1_len]; omega

/-- A whole payload is told. -/
theorem lp_payload (M : Nat) (L : Int) (hM : 1 ≤ M) (hM2 : M ≤ 16777215) : ∀ (f : Nat) (b : List Int) (q : Int) (p rest : List Int) (t : List Pk) (F : Nat), b.length ≤ f → (p.length : Int) + b.length ≤ L → ((spl M f b q).1 ++ rest).length ≤ F →
    ∃ (sq : Int) (F' : Nat), rest.length ≤ F' ∧ lp M L F ⟨q, p, (spl M f b q).1 ++ rest, 0⟩ t = lp M L F' ⟨(spl M f b q).2, [], rest, 0⟩ (t ++ [(sq, (spl M f b q).2, p ++ b)])
  | f, b, q, p, rest, t, F, hf, hL, hF => by
    by_cases hm : b.length < M
    · rw [spl_last hm] at hF ⊢
      have hh := head_fr M L b rest p q (by omega) (by omega) hL
      have hd := fr1_drop b rest q
      have hl : (fr1 b q ++ rest).length = 4 + b.length + rest.length := by rw [List.length_append, fr1_len]
      obtain ⟨F', hF', _, e⟩ := lp_tell (t := t) (M := (M : Int)) (L := L) (s := ⟨q, p, fr1 b q ++ rest, 0⟩) hF (by simp only [hl]; omega) hh.1 (by simp only [hh.2, hl]; omega) (by rw [hh.2]; omega)
      refine ⟨((q + 1) % 256 - frm ((p ++ b).length : Nat) M) % 256, F', by rw [hh.2] at hF'; simp only [hd.1] at hF'; exact hF', ?_⟩
      rw [e, hh.2]
      simp only [tkF, tkP, hd.1, hd.2]
    · obtain ⟨f', hf', hsp⟩ := spl_more (q := q) hM hf (show M ≤ b.length by omega)
      have hsub : ∀ x : List Int × Int, x = spl M f b q → True := fun _ _ => trivial
      rw [hsp] at hF ⊢
      simp only at hF ⊢
      rw [List.append_assoc] at hF ⊢
      have htl : (b.take M).length = M := by simp; omega
      have hh := head_fr M L (b.take M) ((spl M f' (b.drop M) ((q + 1) % 256)).1 ++ rest) p q (by omega) (by omega) (by rw [htl]; omega)
      have hd := fr1_drop (b.take M) ((spl M f' (b.drop M) ((q + 1) % 256)).1 ++ rest) q
      have hl : (fr1 (b.take M) q ++ ((spl M f' (b.drop M) ((q + 1) % 256)).1 ++ rest)).length = 4 + M + ((spl M f' (b.drop M) ((q + 1) % 256)).1 ++ rest).length := by rw [List.length_append, fr1_len, htl]
      rw [htl] at hh hd
      obtain ⟨F', hF', _, e⟩ := lp_go (t := t) (M := (M : Int)) (L := L) (s := ⟨q, p, fr1 (b.take M) q ++ ((spl M f' (b.drop M) ((q + 1) % 256)).1 ++ rest), 0⟩) hF (by simp only [hl]; omega) hh.1 (by simp only [hh.2, hl]; omega) (by rw [hh.2]; omega)
      rw [e, hh.2]
      simp only [tkF, hd.1, hd.2]
      rw [hh.2] at hF'
      simp only [hd.1] at hF'
      have hlt : (b.drop M).length < b.length := by rw [List.length_drop]; omega
      obtain ⟨sq, F'', h1, h2⟩ := lp_payload M L hM hM2 f' (b.drop M) ((q + 1) % 256) (p ++ b.take M) rest t F' hf' (by rw [List.length_append, htl, List.length_drop]; omega) hF'
      refine ⟨sq, F'', h1, ?_⟩
      rw [h2, List.append_assoc, List.take_append_drop]
termination_by f b => b.length
/-- A part of a payload's frames tells nothing. -/
theorem lp_prefix (M : Nat) (L : Int) (hM : 1 ≤ M) (hM2 : M ≤ 16777215) : ∀ (f : Nat) (b : List Int) (q : Int) (p : List Int) (t : List Pk) (n F : Nat), b.length ≤ f → (p.length : Int) + b.length ≤ L → n < (spl M f b q).1.length → n ≤ F →
    ∃ s', lp M L F ⟨q, p, (spl M f b q).1.take n, 0⟩ t = (s', t, 0) ∧ s'.why = 0
  | f, b, q, p, t, n, F, hf, hL, hn, hF => by
    by_cases n4 : n < 4
    · exact ⟨_, lp_short (by simp; omega), rfl⟩
    have hlen : ((spl M f b q).1.take n).length = n := by simp; omega
    by_cases hm : b.length < M
    · rw [spl_last hm] at hn hlen ⊢
      rw [fr1_len] at hn
      have hh := head_fr M L b [] p q (by omega) (by omega) hL
      rw [List.append_nil] at hh
      have hsplit : fr1 b q = (fr1 b q).take n ++ (fr1 b q).drop n := (List.take_append_drop n _).symm
      have hmo := head_more M L ⟨q, p, (fr1 b q).take n, 0⟩ ((fr1 b q).drop n) (by simp only [hlen]; omega)
      simp only [List.take_append_drop] at hmo
      refine ⟨_, lp_part (by simp only [hlen]; omega) (by simp only [hlen]; omega) (by rw [← hmo.1]; exact hh.1) (by rw [← hmo.2, hh.2]; simp only [hlen]; omega), rfl⟩
    · obtain ⟨f', hf', hsp⟩ := spl_more (q := q) hM hf (show M ≤ b.length by omega)
      rw [hsp] at hn hlen ⊢
      simp only at hn hlen ⊢
      have htl : (b.take M).length = M := by simp; omega
      have hfl : (fr1 (b.take M) q).length = 4 + M := by rw [fr1_len, htl]
      rw [List.length_append, hfl] at hn
      by_cases hn2 : n < 4 + M
      · rw [List.take_append_of_le_length (by omega)] at hlen ⊢
        have hh := head_fr M L (b.take M) [] p q (by omega) (by omega) (by rw [htl]; omega)
        rw [List.append_nil, htl] at hh
        have hmo := head_more M L ⟨q, p, (fr1 (b.take M) q).take n, 0⟩ ((fr1 (b.take M) q).drop n) (by simp only [hlen]; omega)
        simp only [List.take_append_drop] at hmo
        refine ⟨_, lp_part (by simp only [hlen]; omega) (by simp only [hlen]; omega) (by rw [← hmo.1]; exact hh.1) (by rw [← hmo.2, hh.2]; simp only [hlen]; omega), rfl⟩
      · rw [List.take_append, List.take_of_length_le (by omega), hfl]
        have hh := head_fr M L (b.take M) ((spl M f' (b.drop M) ((q + 1) % 256)).1.take (n - (4 + M))) p q (by omega) (by omega) (by rw [htl]; omega)
        have hd := fr1_drop (b.take M) ((spl M f' (b.drop M) ((q + 1) % 256)).1.take (n - (4 + M))) q
        rw [htl] at hh hd
        have hl : (fr1 (b.take M) q ++ (spl M f' (b.drop M) ((q + 1) % 256)).1.take (n - (4 + M))).length = n := by rw [List.length_append, hfl, List.length_take]; omega
        obtain ⟨F', hF', hFe, e⟩ := lp_go (t := t) (M := (M : Int)) (L := L) (s := ⟨q, p, fr1 (b.take M) q ++ (spl M f' (b.drop M) ((q + 1) % 256)).1.take (n - (4 + M)), 0⟩) (f := F) (by simp only [hl]; exact hF) (by simp only [hl]; omega) hh.1 (by simp only [hh.2, hl]; omega) (by rw [hh.2]; omega)
        rw [e, hh.2]
        simp only [tkF, hd.1, hd.2]
        have hlt : (b.drop M).length < b.length := by rw [List.length_drop]; omega
        exact lp_prefix M L hM hM2 f' (b.drop M) ((q + 1) % 256) (p ++ b.take M) t (n - (4 + M)) F' hf' (by rw [List.length_append, htl, List.length_drop]; omega) (by omega) (by omega)
termination_by f b => b.length

/-- The frames of payloads, one behind the other, and the number behind the last. -/
def frs (M : Nat) : List (List Int) → Int → List Int × Int
  | [], q => ([], q)
  | b :: r, q => ((spl M b.length b q).1 ++ (frs M r (spl M b.length b q).2).1, (frs M r (spl M b.length b q).2).2)
theorem frs_app (M : Nat) : ∀ (r : List (List Int)) (b : List Int) (q : Int), frs M (r ++ [b]) q = ((frs M r q).1 ++ (spl M b.length b (frs M r q).2).1, (spl M b.length b (frs M r q).2).2)
  | [], b, q => by simp [frs]
  | x :: r, b, q => by simp only [List.cons_append, frs]; rw [frs_app M r b]; simp
/-- How many payloads are whole within the first n bytes. -/
def cnt (M : Nat) : List (List Int) → Int → Nat → Nat
  | [], _, _ => 0
  | b :: r, q, n => if (spl M b.length b q).1.length ≤ n then 1 + cnt M r (spl M b.length b q).2 (n - (spl M b.length b q).1.length) else 0
theorem cnt_le (M : Nat) : ∀ (r : List (List Int)) (q : Int) (n : Nat), cnt M r q n ≤ r.length
  | [], _, _ => Nat.le_refl _
  | b :: r, q, n => by
    simp only [cnt]
    split
    · have := cnt_le M r (spl M b.length b q).2 (n - (spl M b.length b q).1.length)
      simp only [List.length_cons]; omega
    · omega
theorem cnt_mono (M : Nat) : ∀ (r : List (List Int)) (q : Int) (n m : Nat), n ≤ m → cnt M r q n ≤ cnt M r q m
  | [], _, _, _, _ => Nat.le_refl _
  | b :: r, q, n, m, h => by
    simp only [cnt]
    split
    · rw [if_pos (by omega)]
      have := cnt_mono M r (spl M b.length b q).2 (n - (spl M b.length b q).1.length) (m - (spl M b.length b q).1.length) (by omega)
      omega
    · omega
/-- Where the payload number i ends. -/
def eoe (M : Nat) (r : List (List Int)) (q : Int) (i : Nat) : Nat := (frs M (r.take (i + 1)) q).1.length
theorem cnt_in (M : Nat) : ∀ (r : List (List Int)) (q : Int) (n i : Nat), i < cnt M r q n → eoe M r q i ≤ n
  | [], _, _, _, h => by simp [cnt] at h
  | b :: r, q, n, i, h => by
    simp only [cnt] at h
    split at h
    · cases i with
      | zero => simp only [eoe, List.take_succ_cons, List.take_zero, frs, List.append_nil]; omega
      | succ i =>
        have := cnt_in M r (spl M b.length b q).2 (n - (spl M b.length b q).1.length) i (by omega)
        simp only [eoe, List.take_succ_cons, frs, List.length_append] at this ⊢
        omega
    · omega
theorem cnt_out (M : Nat) : ∀ (r : List (List Int)) (q : Int) (n : Nat), cnt M r q n < r.length → n < eoe M r q (cnt M r q n)
  | [], _, _, h => by simp at h
  | b :: r, q, n, h => by
    simp only [cnt] at h ⊢
    split
    · rename_i hl
      rw [if_pos hl] at h
      have := cnt_out M r (spl M b.length b q).2 (n - (spl M b.length b q).1.length) (by simp only [List.length_cons] at h; omega)
      rw [Nat.add_comm 1]
      simp only [eoe, List.take_succ_cons, frs, List.length_append] at this ⊢
      omega
    · simp only [eoe, List.take_succ_cons, List.take_zero, frs, List.append_nil]; omega
theorem cnt_all (M : Nat) : ∀ (r : List (List Int)) (q : Int), cnt M r q (frs M r q).1.length = r.length
  | [], _ => rfl
  | b :: r, q => by
    simp only [cnt, frs, List.length_append]
    rw [if_pos (by omega), Nat.add_sub_cancel_left, cnt_all M r]
    simp only [List.length_cons]
    omega

/-- What is told of the first n bytes. -/
theorem lp_take (M : Nat) (L : Int) (hM : 1 ≤ M) (hM2 : M ≤ 16777215) : ∀ (r : List (List Int)) (q : Int) (t : List Pk) (n F : Nat), (∀ b ∈ r, (b.length : Int) ≤ L) → n ≤ (frs M r q).1.length → n ≤ F →
    ∃ s' t', lp M L F ⟨q, [], (frs M r q).1.take n, 0⟩ t = (s', t ++ t', 0) ∧ s'.why = 0 ∧ t'.map (·.2.2) = r.take (cnt M r q n) ∧ (n = (frs M r q).1.length → s' = ⟨(frs M r q).2, [], [], 0⟩)
  | [], q, t, n, F, _, hn, _ => by
    simp only [frs, List.length_nil] at hn
    have : n = 0 := by omega
    subst this
    exact ⟨⟨q, [], [], 0⟩, [], by rw [lp_short (by simp [frs])]; simp [frs], rfl, rfl, fun _ => rfl⟩
  | b :: r, q, t, n, F, hb, hn, hF => by
    have hbL := hb b (List.mem_cons_self ..)
    simp only [frs, List.length_append] at hn
    simp only [frs, cnt]
    by_cases hl : (spl M b.length b q).1.length ≤ n
    · rw [if_pos hl, List.take_append, List.take_of_length_le hl]
      obtain ⟨sq, F', h1, h2⟩ := lp_payload M L hM hM2 b.length b q [] ((frs M r (spl M b.length b q).2).1.take (n - (spl M b.length b q).1.length)) t F (Nat.le_refl _) (by simpa using hbL) (by rw [List.length_append, List.length_take]; omega)
      rw [h2]
      rw [List.length_take] at h1
      obtain ⟨s', t', e1, e2, e3, e4⟩ := lp_take M L hM hM2 r (spl M b.length b q).2 (t ++ [(sq, (spl M b.length b q).2, [] ++ b)]) (n - (spl M b.length b q).1.length) F' (fun x hx => hb x (List.mem_cons_of_mem _ hx)) (by omega) (by omega)
      refine ⟨s', (sq, (spl M b.length b q).2, [] ++ b) :: t', by rw [e1]; simp, e2, ?_, fun h => e4 (by rw [List.length_append] at h; omega)⟩
      rw [Nat.add_comm 1, List.take_succ_cons, List.map_cons, e3]
      simp
    · rw [if_neg hl, List.take_append_of_le_length (by omega)]
      obtain ⟨s', e1, e2⟩ := lp_prefix M L hM hM2 b.length b q [] t n F (Nat.le_refl _) (by simpa using hbL) (by omega) hF
      exact ⟨s', [], by rw [e1]; simp, e2, rfl, fun h => by rw [List.length_append] at h; omega⟩

/-- The state behind the first n bytes. -/
def sat (M : Nat) (L : Int) (r : List (List Int)) (n : Nat) : PS := (lp M L n ⟨0, [], (frs M r 0).1.take n, 0⟩ []).1
/-- A chunk more: just the payloads that it completes are told. -/
theorem feed_chunk (M : Nat) (L : Int) (hM : 1 ≤ M) (hM2 : M ≤ 16777215) (r : List (List Int)) (n k : Nat) (hb : ∀ b ∈ r, (b.length : Int) ≤ L) (hn : n + k ≤ (frs M r 0).1.length) :
    ∃ t', feed M L (sat M L r n) (((frs M r 0).1.drop n).take k) = (sat M L r (n + k), t', 0) ∧ t'.map (·.2.2) = (r.take (cnt M r 0 (n + k))).drop (cnt M r 0 n) ∧ t'.length = cnt M r 0 (n + k) - cnt M r 0 n ∧ (sat M L r n).why = 0 := by
  obtain ⟨s1, t1, a1, a2, a3, _⟩ := lp_take M L hM hM2 r 0 [] n n hb (by omega) (Nat.le_refl _)
  obtain ⟨s2, t2, b1, b2, b3, _⟩ := lp_take M L hM hM2 r 0 [] (n + k) (n + k) hb hn (Nat.le_refl _)
  have es : sat M L r n = s1 := by unfold sat; rw [a1]
  have es2 : sat M L r (n + k) = s2 := by unfold sat; rw [b1]
  have hlen : ((frs M r 0).1.take n).length = n := by simp; omega
  have happ : (frs M r 0).1.take (n + k) = (frs M r 0).1.take n ++ ((frs M r 0).1.drop n).take k := List.take_add
  have hmore := lp_more M L (((frs M r 0).1.drop n).take k) n ⟨0, [], (frs M r 0).1.take n, 0⟩ [] (by simp only [hlen]; exact Nat.le_refl _) (by rw [a1]) (n + k) (s1.held ++ ((frs M r 0).1.drop n).take k).length (by simp only [List.length_append, hlen, List.length_take]; omega) (by rw [a1]; exact Nat.le_refl _)
  rw [a1] at hmore
  simp only [← happ] at hmore
  rw [b1] at hmore
  simp only [List.nil_append] at hmore
  have hacc := lp_acc M L (s1.held ++ ((frs M r 0).1.drop n).take k).length { s1 with held := s1.held ++ ((frs M r 0).1.drop n).take k } t1 []
  rw [List.append_nil] at hacc
  rw [hacc] at hmore
  rw [es, es2]
  have hfeed : feed M L s1 (((frs M r 0).1.drop n).take k) = lp M L (s1.held ++ ((frs M r 0).1.drop n).take k).length { s1 with held := s1.held ++ ((frs M r 0).1.drop n).take k } [] := by
    unfold feed; rw [if_neg (by simp [a2])]
  rw [hfeed]
  generalize lp M L (s1.held ++ ((frs M r 0).1.drop n).take k).length { s1 with held := s1.held ++ ((frs M r 0).1.drop n).take k } [] = X at hmore ⊢
  obtain ⟨X1, X2, X3⟩ := X
  simp only [Prod.mk.injEq] at hmore
  obtain ⟨rfl, h2, rfl⟩ := hmore
  have hmap : t1.map (·.2.2) ++ X2.map (·.2.2) = r.take (cnt M r 0 (n + k)) := by rw [← b3, h2, List.map_append]
  have hl1 : (t1.map (·.2.2)).length = cnt M r 0 n := by rw [a3, List.length_take]; have := cnt_le M r 0 n; omega
  have hX : X2.map (·.2.2) = (r.take (cnt M r 0 (n + k))).drop (cnt M r 0 n) := by rw [← hmap, ← hl1, List.drop_left]
  refine ⟨X2, rfl, hX, ?_, a2⟩
  have := congrArg List.length hX
  rw [List.length_map, List.length_drop, List.length_take] at this
  have := cnt_le M r 0 (n + k)
  omega
theorem sat_all (M : Nat) (L : Int) (hM : 1 ≤ M) (hM2 : M ≤ 16777215) (r : List (List Int)) (hb : ∀ b ∈ r, (b.length : Int) ≤ L) : sat M L r (frs M r 0).1.length = ⟨(frs M r 0).2, [], [], 0⟩ := by
  obtain ⟨s1, t1, a1, a2, a3, a4⟩ := lp_take M L hM hM2 r 0 [] (frs M r 0).1.length (frs M r 0).1.length hb (Nat.le_refl _) (Nat.le_refl _)
  unfold sat
  rw [a1]
  exact a4 rfl
theorem sat_zero (M : Nat) (L : Int) (r : List (List Int)) : sat M L r 0 = ⟨0, [], [], 0⟩ := by unfold sat; rw [lp_short (by simp)]; simp
theorem frs_byt (M : Nat) : ∀ (r : List (List Int)) (q : Int), (∀ b ∈ r, Byt b) → 0 ≤ q → q ≤ 255 → Byt (frs M r q).1 ∧ 0 ≤ (frs M r q).2 ∧ (frs M r q).2 ≤ 255
  | [], q, _, h0, h1 => ⟨Byt.nil, h0, h1⟩
  | b :: r, q, hb, h0, h1 => by
    have key : ∀ (f : Nat) (b : List Int) (q : Int), Byt b → 0 ≤ q → q ≤ 255 → Byt (spl M f b q).1 ∧ 0 ≤ (spl M f b q).2 ∧ (spl M f b q).2 ≤ 255 := by
      intro f
      induction f with
      | zero => intro b q hb h0 h1; exact ⟨fr1_byt hb h0 h1, by simp only [spl]; omega, by simp only [spl]; omega⟩
      | succ f ih =>
        intro b q hb h0 h1
        simp only [spl]
        split
        · have := ih (b.drop M) ((q + 1) % 256) (hb.drop _) (by omega) (by omega)
          exact ⟨(fr1_byt (hb.take _) h0 h1).app this.1, this.2⟩
        · exact ⟨fr1_byt hb h0 h1, by simp only; omega, by simp only; omega⟩
    have h := key b.length b q (hb b (List.mem_cons_self ..)) h0 h1
    have h2 := frs_byt M r (spl M b.length b q).2 (fun x hx => hb x (List.mem_cons_of_mem _ hx)) h.2.1 h.2.2
    exact ⟨h.1.app h2.1, h2.2⟩

theorem lp_holds (M L : Int) : ∀ (f : Nat) (s : PS) (t : List Pk), s.held.length ≤ f → Sok M L s → Byt s.held → hln (lp M L f s t).1 ≤ L + 4 ∧ (s.why = 0 → (lp M L f s t).2.2 = (lp M L f s t).1.why)
  | 0, s, t, hf, hs, _ => by
    have := hs.bl
    refine ⟨?_, fun h => h.symm⟩
    simp only [lp, hln]
    omega
  | f + 1, s, t, hf, hs, hb => by
    have hbl := hs.bl
    have hl0 := hs.l0
    simp only [lp]
    split
    · refine ⟨?_, fun h => h.symm⟩
      simp only [hln]
      omega
    · split
      · refine ⟨?_, fun _ => rfl⟩
        simp only [hln, stp, List.length_nil]
        omega
      · rename_i h4 he
        have he' : hdE M L s = 0 := by simpa using he
        have hk := hdE_ok he'
        have hN := hdN_int hb
        split
        · refine ⟨?_, fun h => h.symm⟩
          simp only [hln]
          omega
        · have ht := hs.tk hb he'
          have hd : (s.held.drop (4 + hdN s)).length ≤ f := by rw [List.length_drop]; omega
          split
          · exact lp_holds M L f _ _ hd ht.nobody (by simp only [tkF]; exact hb.drop _)
          · exact lp_holds M L f _ _ hd ht (by simp only [tkF]; exact hb.drop _)
theorem feed_holds (M L : Int) (s : PS) (b : List Int) (hs : Sok M L s) (hh : Byt s.held) (hb : Byt b) (h : hln s ≤ L + 4) (hl : s.held.length + b.length ≤ 2000000000) :
    hln (feed M L s b).1 ≤ L + 4 ∧ ((feed M L s b).2.2 = 0 ∨ (feed M L s b).1.why = (feed M L s b).2.2 ∨ (feed M L s b).2.2 = 9) := by
  unfold feed
  split
  · exact ⟨h, .inr (.inr rfl)⟩
  · rename_i hw
    have hw' : s.why = 0 := by simpa using hw
    have := lp_holds M L (s.held ++ b).length { s with held := s.held ++ b } [] (Nat.le_refl _) ⟨hs.m0, hs.m1, hs.l0, hs.l1, hs.n0, hs.n1, hs.bl, by simpa using hl, hs.w0, hs.w1⟩ (hh.app hb)
    exact ⟨this.1, .inr (.inl (this.2 hw').symm)⟩


end Go.Proofs.YtbolaljlhmakeaaGreatDoor.Pkt
