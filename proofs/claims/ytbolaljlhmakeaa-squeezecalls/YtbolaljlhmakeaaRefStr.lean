/-
  The stream of the document's own answer in memory, and what its methods field and code do: bits are put behind the others. Conditions: at most a million bits.
-/
import Derived.Test.YtbolaljlhmakeaaHufRefWrite
import Derived.Test.YtbolaljlhmakeaaMBit
import Derived.Test.YtbolaljlhmakeaaMMem
import Derived.BigRegion
namespace Go.Proofs.Ytbolaljlhmakeaa
open Go.RowKit
set_option linter.unusedVariables false
set_option linter.unusedSimpArgs false

/-- Block g is the stream with N bits; its bytes b lie at oo, with room for oc. -/
structure Sq (g : Nat) (w : World) (oo : Option Addr) (oc : Nat) (b : List Int) (N : Nat) : Prop where
  st : w.heap[g]? = some (.cells #[.slice oo b.length oc, .int .i64 (N : Int)] 59 (0, 0))
  out : Mine (g + 1) w oo b.length oc b
  wst : Wst b N

section
variable {g : Nat} {w w' : World} {oo : Option Addr} {oc : Nat} {b : List Int} {N : Nat}
theorem Sq.lt (h : Sq g w oo oc b N) : g < w.heap.size := (Array.getElem?_eq_some_iff.1 h.st).1
theorem Sq.k0 (h : Sq g w oo oc b N) : w.cell? ⟨g, 0, none⟩ = some (.slice oo b.length oc) := by rw [cell_of_row w g 0 _ _ _ h.st]; rfl
theorem Sq.k1 (h : Sq g w oo oc b N) : w.cell? ⟨g, 1, none⟩ = some (.int .i64 (N : Int)) := by rw [cell_of_row w g 1 _ _ _ h.st]; rfl
theorem Sq.later (h : Sq g w oo oc b N) (hb : Below w.heap.size w w') : Sq g w' oo oc b N := ⟨by rw [hb.block g h.lt]; exact h.st, h.out.later hb, h.wst⟩
/-- Behind Put: the slice is stored, a bit more is counted. -/
theorem Sq.put (h : Sq g w oo oc b N) {w1 : World} {o1 : Option Addr} {n1 c1 : Nat} {x : Int} (hm : Mine (g + 1) w1 o1 n1 c1 (putB b N x)) (hb : Below (g + 1) w w1) (x0 : 0 ≤ x) (x1 : x ≤ 1) :
    (w1.cell? ⟨g, 0, none⟩ = some (.slice oo b.length oc) ∧ w1.frozen? ⟨g, 0, none⟩ = false ∧ (w1.setCell ⟨g, 0, none⟩ (.slice o1 n1 c1)).cell? ⟨g, 1, none⟩ = some (.int .i64 (N : Int)) ∧ (w1.setCell ⟨g, 0, none⟩ (.slice o1 n1 c1)).frozen? ⟨g, 1, none⟩ = false) ∧
    Sq g ((w1.setCell ⟨g, 0, none⟩ (.slice o1 n1 c1)).setCell ⟨g, 1, none⟩ (.int .i64 ((N : Int) + 1))) o1 c1 (putB b N x) (N + 1) ∧ Below g w ((w1.setCell ⟨g, 0, none⟩ (.slice o1 n1 c1)).setCell ⟨g, 1, none⟩ (.int .i64 ((N : Int) + 1))) := by
  have e1 : w1.heap[g]? = some (.cells #[.slice oo b.length oc, .int .i64 (N : Int)] 59 (0, 0)) := by rw [hb.block g (by omega)]; exact h.st
  have e2 := heap_setCell_same w1 g 0 _ _ (.slice o1 n1 c1) e1
  have e3 := heap_setCell_same _ g 1 _ _ (.int .i64 ((N : Int) + 1)) e2
  have hl := hm.len
  refine ⟨⟨by rw [cell_of_row w1 g 0 _ _ _ e1]; rfl, frozen_of_row w1 g 0 _ _ e1, by rw [cell_of_row _ g 1 _ _ _ e2]; rfl, frozen_of_row _ g 1 _ _ e2⟩, ⟨?_, ?_, h.wst.put x0 x1⟩, ?_⟩
  · rw [e3, hl]
    simp
  · rw [hl]
    exact hm.keep fun k hk _ => by rw [heap_setCell_other _ ⟨g, 1, none⟩ k _ (by simp; omega), heap_setCell_other _ ⟨g, 0, none⟩ k _ (by simp; omega)]
  · exact ((hb.mono (by omega)).setCell (by simp) _).setCell (by simp) _
end

theorem shr1_i64 (x : Int) (k : Nat) (hk : k ≤ 60) : bits BinOp.and IntKind.i64 (x / 2 ^ min (IntKind.u64.wrap (k : Int)).toNat 64) 1 = x / 2 ^ k % 2 := by
  have h : IntKind.u64.wrap (k : Int) = (k : Int) := by rw [IntKind.wrap_u64]; omega
  rw [h, Int.toNat_natCast, Nat.min_eq_left (by omega), and1_i64]

section
variable {g : Nat} {oo : Option Addr} {oc : Nat} {b : List Int} {N : Nat}
/-- The stream has these bits behind a call. -/
def OutS (g : Nat) (w : World) (b : List Int) (N : Nat) (w' : World) : Prop := ∃ oo' oc', Sq g w' oo' oc' b N ∧ Below g w w'

set_option maxHeartbeats 4000000 in
set_option maxRecDepth 20000 in
theorem field_ref (w : World) (x : Int) (n : Nat) (h : Sq g w oo oc b N) (hN : N + n ≤ 1000000) (hn : n ≤ 20) (X : Int) (hX : X = (n : Int)) :
    Calls Try.prog 35 #[.pointer (some ⟨g, 0, none⟩), .int .i64 x, .int .i64 X] w fun e w' => e = .returned (.tuple #[]) ∧ OutS g w (pkF b N (fto x 0 n)) (N + n) w' := by
  subst hX
  obtain ⟨R, hR⟩ : ∃ R, R = pkF b N (fto x 0 n) := ⟨_, rfl⟩
  rw [← hR]
  have HR := hide hR
  have H := hide h
  clear h hR
  go_enter Try.func35, Try.ntmps35
  go_wp2_with fail
  go_loopw [6] (fun i wr => ∃ (k : Nat) (b' : List Int) (o' : Option Addr) (c' : Nat), k ≤ n ∧ i = .int .i64 (k : Int) ∧ R = pkF b' (N + k) (fto x k (n - k)) ∧ Sq g wr o' c' b' (N + k) ∧ Below g w wr) (fun i _ => n - (intOf i).toNat)
  case atStart => exact ⟨0, b, oo, oc, by omega, rfl, unhide HR, unhide H, Below.refl _ _⟩
  case round =>
    clear HR H
    obtain ⟨k, b', o', c', hk, rfl, hR, hw, hf⟩ := hrel
    by_cases hlt : k < n
    · have hlt' : (k : Int) < (n : Int) := by omega
      obtain ⟨f, hfl⟩ : ∃ f, n - k = f + 1 := ⟨n - k - 1, by omega⟩
      have hnx := hide (show R = pkF (putB b' (N + k) (x / 2 ^ k % 2)) (N + (k + 1)) (fto x (k + 1) (n - (k + 1))) by rw [hR, hfl, show n - (k + 1) = f by omega]; rfl)
      have hx : 0 ≤ x / 2 ^ k % 2 ∧ x / 2 ^ k % 2 ≤ 1 := by omega
      have hand := shr1_i64 x k (by omega)
      obtain ⟨NK, hNK⟩ : ∃ NK, NK = N + k := ⟨_, rfl⟩
      rw [← hNK] at hw hnx
      have k0 := hw.k0
      have k1 := hw.k1
      have hwd := hw.later (below_drew wr)
      have hglt := hw.lt
      generalize hxx : x / 2 ^ k % 2 = xx at *
      have HAND := hide hand
      clear hand
      have pc := hide (put_ref (g + 1) o' b'.length c' b' NK xx wr.drew hwd.out hw.wst (by omega) hx.1 hx.2 hwd.lt)
      have key := hide (fun w1 o1 n1 c1 m q => Sq.put (w1 := w1) (o1 := o1) (n1 := n1) (c1 := c1) (x := xx) hwd m q hx.1 hx.2)
      have hwl := hide hw.wst.len
      have HF := hide hf
      have HNK := hide hNK
      have BD := hide (show Below g wr wr.drew from ⟨rfl, rfl, rfl, Nat.le_refl _, fun _ _ => rfl⟩)
      have hNKb : NK ≤ 1000000 := by omega
      have hbl : b'.length ≤ 1000000 := by have := hw.wst.len; omega
      clear hR hw hf hfl hwd hNK hxx
      generalize b'.length = BL at *
      go_wp2_with fail
      go_region_with (go_at_call 48; rw [unhide HAND]; refine (unhide pc).mono ?_; rintro e w1 ⟨⟨o1, n1, c1, rfl, m1⟩, b1⟩; obtain ⟨⟨j0, jf0, j1, jf1⟩, S1, B1⟩ := unhide key w1 o1 n1 c1 m1 b1)
      all_goals have FS := hide S1
      all_goals have FB := hide ((unhide HF).trans ((unhide BD).trans B1))
      all_goals clear m1 b1 S1 B1
      all_goals go_wp2_with fail
      all_goals go_roundw
      all_goals first
        | exact ⟨k + 1, _, o1, c1, by omega, by go_num, by have := unhide hnx; exact this, by rw [show N + (k + 1) = NK + 1 by have := unhide HNK; omega]; exact unhide FS, unhide FB⟩
        | (simp [intOf]; omega)
    · have hkn : k = n := by omega
      subst hkn
      have hfin : R = b' := by rw [hR, Nat.sub_self]; rfl
      have HF := hide hfin
      clear hR hfin
      go_wp2_with fail
      go_end0
      exact ⟨rfl, o', c', by rw [unhide HF]; exact hw, hf⟩

set_option maxHeartbeats 4000000 in
set_option maxRecDepth 20000 in
theorem code_ref (w : World) (c : Int) (n : Nat) (h : Sq g w oo oc b N) (hN : N + n ≤ 1000000) (hn : n ≤ 20) (X : Int) (hX : X = (n : Int)) :
    Calls Try.prog 36 #[.pointer (some ⟨g, 0, none⟩), .int .i64 c, .int .i64 X] w fun e w' => e = .returned (.tuple #[]) ∧ OutS g w (pkF b N (bto c n)) (N + n) w' := by
  subst hX
  obtain ⟨R, hR⟩ : ∃ R, R = pkF b N (bto c n) := ⟨_, rfl⟩
  rw [← hR]
  have HR := hide hR
  have H := hide h
  clear h hR
  go_enter Try.func36, Try.ntmps36
  go_wp2_with fail
  go_loopw [6] (fun i wr => ∃ (j : Nat) (b' : List Int) (o' : Option Addr) (c' : Nat), j ≤ n ∧ i = .int .i64 ((j : Int) - 1) ∧ R = pkF b' (N + (n - j)) (bto c j) ∧ Sq g wr o' c' b' (N + (n - j)) ∧ Below g w wr) (fun i _ => (intOf i + 1).toNat)
  case atStart => exact ⟨n, b, oo, oc, Nat.le_refl _, rfl, by rw [Nat.sub_self]; exact unhide HR, by rw [Nat.sub_self]; exact unhide H, Below.refl _ _⟩
  case round =>
    clear HR H
    obtain ⟨j, b', o', c', hj, rfl, hR, hw, hf⟩ := hrel
    by_cases h0 : j = 0
    · subst h0
      have HF := hide (show R = b' from hR)
      rw [Nat.sub_zero] at hw
      clear hR
      go_wp2_with fail
      go_end0
      exact ⟨rfl, o', c', by rw [unhide HF]; exact hw, hf⟩
    · obtain ⟨J, rfl⟩ : ∃ J, j = J + 1 := ⟨j - 1, by omega⟩
      rw [show (((J + 1 : Nat) : Int) - 1) = (J : Int) by omega]
      have hnx := hide (show R = pkF (putB b' (N + (n - (J + 1))) (c / 2 ^ J % 2)) (N + (n - J)) (bto c J) by rw [hR, show N + (n - J) = N + (n - (J + 1)) + 1 by omega]; rfl)
      have hx : 0 ≤ c / 2 ^ J % 2 ∧ c / 2 ^ J % 2 ≤ 1 := by omega
      have hand := shr1_i64 c J (by omega)
      obtain ⟨NK, hNK⟩ : ∃ NK, NK = N + (n - (J + 1)) := ⟨_, rfl⟩
      rw [← hNK] at hw hnx
      have k0 := hw.k0
      have k1 := hw.k1
      have hwd := hw.later (below_drew wr)
      have hglt := hw.lt
      have hJ0 : (0 : Int) ≤ (J : Int) := by omega
      generalize hxx : c / 2 ^ J % 2 = xx at *
      have HAND := hide hand
      clear hand
      have pc := hide (put_ref (g + 1) o' b'.length c' b' NK xx wr.drew hwd.out hw.wst (by omega) hx.1 hx.2 hwd.lt)
      have key := hide (fun w1 o1 n1 c1 m q => Sq.put (w1 := w1) (o1 := o1) (n1 := n1) (c1 := c1) (x := xx) hwd m q hx.1 hx.2)
      have HF := hide hf
      have HNK := hide hNK
      have BD := hide (show Below g wr wr.drew from ⟨rfl, rfl, rfl, Nat.le_refl _, fun _ _ => rfl⟩)
      have hNKb : NK ≤ 1000000 := by omega
      have hbl : b'.length ≤ 1000000 := by have := hw.wst.len; omega
      clear hR hw hf hwd hNK hxx h0
      generalize b'.length = BL at *
      go_wp2_with fail
      go_region_with (go_at_call 48; rw [unhide HAND]; refine (unhide pc).mono ?_; rintro e w1 ⟨⟨o1, n1, c1, rfl, m1⟩, b1⟩; obtain ⟨⟨j0, jf0, j1, jf1⟩, S1, B1⟩ := unhide key w1 o1 n1 c1 m1 b1)
      all_goals have FS := hide S1
      all_goals have FB := hide ((unhide HF).trans ((unhide BD).trans B1))
      all_goals clear m1 b1 S1 B1
      all_goals go_wp2_with fail
      all_goals go_roundw
      all_goals first
        | exact ⟨J, _, o1, c1, by omega, by go_num, unhide hnx, by rw [show N + (n - J) = NK + 1 by have := unhide HNK; omega]; exact unhide FS, unhide FB⟩
        | (simp [intOf])
end
end Go.Proofs.Ytbolaljlhmakeaa
