/-
  What field and symbol, methods of package deflate's writer, do: bits are put behind the others. Conditions: at most a million bits.
-/
import Derived.Test.YtmlodlmmfkpibaaDefWr
namespace Go.Proofs.Ytmlodlmmfkpibaa
open Go.RowKit
set_option linter.unusedVariables false
set_option linter.unusedSimpArgs false

section
variable {C : Cv} {g : Nat} {oo : Option Addr} {oc : Nat} {b : List Int} {N : Nat}

set_option maxHeartbeats 2000000 in
theorem field_wr (w : World) (x : Int) (n : Nat) (h : Wr C g w oo oc b N) (hN : N + n ≤ 1000000) (hn : n ≤ 20) (X : Int) (hX : X = (n : Int)) :
    Calls Try.prog 45 #[.pointer (some ⟨g, 0, none⟩), .int .i64 x, .int .i64 X] w fun e w' => e = .returned (.tuple #[]) ∧ OutW C g w oo (pkF b N (fto x 0 n)) (N + n) w' := by
  subst hX
  obtain ⟨R, hR⟩ : ∃ R, R = pkF b N (fto x 0 n) := ⟨_, rfl⟩
  rw [← hR]
  have HR := hide hR
  have H := hide h
  clear h hR
  go_enter Try.func45, Try.ntmps45
  go_wp2_with fail
  go_loopw [8] (fun i wr => ∃ (k : Nat) (b' : List Int) (o' : Option Addr) (c' : Nat), k ≤ n ∧ i = .int .i64 (k : Int) ∧ R = pkF b' (N + k) (fto x k (n - k)) ∧ Wr C g wr o' c' b' (N + k) ∧ Fr g oo w o' wr) (fun i _ => n - (intOf i).toNat)
  case atStart => exact ⟨0, b, oo, oc, by omega, rfl, unhide HR, unhide H, Fr.refl _ _ _⟩
  case round =>
    clear HR H
    obtain ⟨k, b', o', c', hk, rfl, hR, hw, hf⟩ := hrel
    by_cases hlt : k < n
    · have hlt' : (k : Int) < (n : Int) := by omega
      obtain ⟨f, hfl⟩ : ∃ f, n - k = f + 1 := ⟨n - k - 1, by omega⟩
      have hnx := hide (show R = pkF (putB b' (N + k) (x / 2 ^ k % 2)) (N + (k + 1)) (fto x (k + 1) (n - (k + 1))) by rw [hR, hfl, show n - (k + 1) = f by omega]; rfl)
      have bc := hide (bit_wr wr (x / 2 ^ k) hw (by omega))
      have HF := hide hf
      clear hR hw hf hfl
      go_wp2_with fail
      refine (unhide bc).mono ?_
      rintro e w1 ⟨rfl, o1, c1, w1r, f1⟩
      go_wp2_with fail
      go_roundw
      case rel => exact ⟨k + 1, _, o1, c1, by omega, by go_num, unhide hnx, w1r, (unhide HF).trans f1⟩
      case measure => simp [intOf]; omega
    · have hkn : k = n := by omega
      subst hkn
      have hfin : R = b' := by rw [hR, Nat.sub_self]; rfl
      have HF := hide hfin
      clear hR hfin
      go_wp2_with fail
      go_end0
      exact ⟨rfl, o', c', by rw [unhide HF]; exact hw, hf⟩

set_option maxHeartbeats 4000000 in
set_option maxRecDepth 20000 in
theorem symbol_wr (w : World) (L : List Int) (s k : Nat) (K : Int) (a0 : Option Addr) (n0 c0 : Nat) (a1 : Option Addr) (n1 c1 : Nat) (hl : ∀ w', Below g w w' → Is w' a0 n0 c0 L ∧ Is w' a1 n1 c1 (cds L)) (hs : s < L.length) (hk : ln L s = (k : Int)) (hk1 : 1 ≤ k) (hk15 : k ≤ 15) (hK : K = (s : Int)) (h : Wr C g w oo oc b N) (hN : N + k ≤ 1000000) :
    Calls Try.prog 47 #[.pointer (some ⟨g, 0, none⟩), .agg #[.slice a0 n0 c0, .slice a1 n1 c1], .int .i64 K] w fun e w' => e = .returned (.tuple #[]) ∧ OutW C g w oo (pkF b N (sbits L (s : Int))) (N + k) w' := by
  subst hK
  have hbits : sbits L (s : Int) = bto (code L s) k := by unfold sbits; simp [hk]
  obtain ⟨R, hR⟩ : ∃ R, R = pkF b N (sbits L (s : Int)) := ⟨_, rfl⟩
  rw [← hR]
  rw [hbits] at hR
  have HR := hide hR
  have hgl := h.q.lt
  have i0 := (hl w (Below.refl _ _)).1
  have i1 := (hl w (Below.refl _ _)).2
  have hn0 := i0.len
  have hn1 := i1.len
  rw [cds_len] at hn1
  have le0 := i0.le
  have mx0 := i0.max
  have le1 := i1.le
  have mx1 := i1.max
  have bb := below_alloc w (.cells #[.slice a0 n0 c0, .slice a1 n1 c1] 69)
  have d0 := cell_top w #[.slice a0 n0 c0, .slice a1 n1 c1] 69 0 w.heap.size rfl
  have d1 := cell_top w #[.slice a0 n0 c0, .slice a1 n1 c1] 69 1 w.heap.size rfl
  obtain ⟨ib, io, hix, hcx⟩ := (i0.later bb).idx (show s < n0 by omega) (s : Int) rfl
  rw [show L[s]?.getD 0 = (k : Int) from hk] at hcx
  have h1 := hide (h.later bb)
  have hno : ¬ ob oo w.heap.size := fun q => by have := (h.q.out.ob q).2; omega
  have HNO := hide hno
  obtain ⟨CO, hCO⟩ : ∃ CO, CO = code L s := ⟨_, rfl⟩
  rw [← hCO] at HR
  have hcs : (cds L)[s]?.getD 0 = CO := by rw [hCO]; exact cds_at L hs
  have HCS := hide hcs
  have hsn1 : s < n1 := by omega
  have HL := hide hl
  have hout := hide h.q.out
  clear hR hbits h hl i0 i1 hno hcs hCO hn0 hn1 hk hs
  go_enter Try.func47, Try.ntmps47
  go_wp2_with fail
  go_loopw [6] (fun i wr => ∃ (j : Nat) (b' : List Int) (o' : Option Addr) (c' : Nat), j ≤ k ∧ i = .int .i64 ((j : Int) - 1) ∧ R = pkF b' (N + (k - j)) (bto CO j) ∧ Wr C g wr o' c' b' (N + (k - j)) ∧ Fr g oo w o' wr ∧ ¬ ob o' w.heap.size ∧ wr.heap[w.heap.size]? = some (.cells #[.slice a0 n0 c0, .slice a1 n1 c1] 69 (0, 0))) (fun i _ => (intOf i + 1).toNat)
  case atStart => exact ⟨k, b, oo, oc, Nat.le_refl _, rfl, by rw [Nat.sub_self]; exact unhide HR, by rw [Nat.sub_self]; exact unhide h1, (Gb.of bb).fr oo, unhide HNO, heap_alloc_new w _⟩
  case round =>
    clear HR h1 HNO d0 d1 hix hcx
    obtain ⟨j, b', o', c', hj, rfl, hR, hw, hf, hno, hst⟩ := hrel
    by_cases h0 : j = 0
    · subst h0
      have HF := hide (show R = b' from hR)
      rw [Nat.sub_zero] at hw
      clear hR
      go_wp2_with fail
      go_end0
      exact ⟨rfl, o', c', by rw [unhide HF]; exact hw, hf⟩
    · obtain ⟨J, rfl⟩ : ∃ J, j = J + 1 := ⟨j - 1, by omega⟩
      rw [show (((J + 1 : Nat) : Int) - 1) = (J : Int) by omega]
      have d1 : wr.cell? ⟨w.heap.size, 1, none⟩ = some (.slice a1 n1 c1) := by rw [cell_of_row wr w.heap.size 1 _ _ _ hst]; rfl
      have bw : Below g w wr := hf.below (unhide hout) hgl
      have is1 := (unhide HL wr bw).2
      obtain ⟨ib, io, hix, hcx⟩ := is1.idx hsn1 (s : Int) rfl
      rw [unhide HCS] at hcx
      have hnx := hide (show R = pkF (putB b' (N + (k - (J + 1))) (CO / 2 ^ J % 2)) (N + (k - J)) (bto CO J) by rw [hR, show N + (k - J) = N + (k - (J + 1)) + 1 by omega]; rfl)
      have bc := hide (bit_wr wr (CO / 2 ^ J) hw (by omega))
      have HF := hide hf
      have hlt : w.heap.size < wr.heap.size := (Array.getElem?_eq_some_iff.1 hst).1
      have HST := hide hst
      have HN := hide hno
      have hJ0 : (0 : Int) ≤ (J : Int) := by omega
      clear hR hw hf hst hno is1 bw h0
      go_wp2_with fail
      refine (unhide bc).mono ?_
      rintro e w1 ⟨rfl, o1, c1', w1r, f1⟩
      have st1 := hide ((f1.block w.heap.size hlt (by omega) (unhide HN)).trans (unhide HST))
      have no1 := hide (fun q => (f1.src w.heap.size q).elim (unhide HN) (fun z => by omega))
      go_wp2_with fail
      go_roundw
      case rel => exact ⟨J, _, o1, c1', by omega, by go_num, unhide hnx, by rw [show N + (k - J) = N + (k - (J + 1)) + 1 by omega]; exact w1r, (unhide HF).trans f1, unhide no1, unhide st1⟩
      case measure => simp [intOf]
end
end Go.Proofs.Ytmlodlmmfkpibaa
