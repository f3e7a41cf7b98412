/-
  What field and symbol, methods of package deflate's writer, do: bits are put behind the others. Conditions: at most a million bits.
  What within, a method of package deflate's writer, does: a number is put by a symbol and its field. Conditions: at most a million bits.
  What length and piece, methods of package deflate's writer, do: the bits of a piece are put behind the others. Conditions: the piece may be, at most a million bits.
-/
import Derived.Test.YtalkeooejobjhaaDoorDefWr
import Derived.Test.YtalkeooejobjhaaDoorMMem
namespace Go.Proofs.YtalkeooejobjhaaDoor
open Go.RowKit
set_option linter.unusedVariables false
set_option linter.unusedSimpArgs false

section
variable {C : Cv} {g : Nat} {oo : Option Addr} {oc : Nat} {b : List Int} {N : Nat}

set_option maxHeartbeats 2000000 in
theorem field_wr (w : World) (x : Int) (n : Nat) (h : Wr C g w oo oc b N) (hN : N + n ≤ 1000000) (hn : n ≤ 20) (X : Int) (hX : X = (n : Int)) :
    Calls Tryd.prog 36 #[.pointer (some ⟨g, 0, none⟩), .int .i64 x, .int .i64 X] w fun e w' => e = .returned (.tuple #[]) ∧ OutW C g w oo (pkF b N (fto x 0 n)) (N + n) w' := by
  subst hX
  obtain ⟨R, hR⟩ : ∃ R, R = pkF b N (fto x 0 n) := ⟨_, rfl⟩
  rw [← hR]
  have HR := hide hR
  have H := hide h
  clear h hR
  go_enter Tryd.func36, Tryd.ntmps36
  go_wp2_with fail
  go_loopw [8] (fun i wr => ∃ (k : Nat) (b' : List Int) (o' : Option Addr) (c' : Nat), k ≤ n ∧ i = .int .i64 (k : Int) ∧ R = pkF b' (N + k) (fto x k (n - k)) ∧ Wr C g wr o' c' b' (N + k) ∧ Fr g oo w o' wr) (fun i _ => n - (intOf i).toNat)
  case atStart => exact ⟨0, b, oo, oc, by omega, rfl, unhide HR, unhide H, Fr.refl _ _ _⟩
  case round =>
    clear HR H
    obtain ⟨k, b', o', c', hk, rfl, hR, hw, hf⟩ := hrel
    by_cases hlt : k < n
    · have hlt' : (k : Int) < (n : Int) := by omega
      obtain ⟨f, hfl⟩ : ∃ f, n - k = f + 1 := ⟨n - k - 1, by omega⟩
      have hnx := hide (show R = pkF (putB b' (N + k) (x / 2 ^ k % 2)) (N + (k + 1)) (fto x (k + 1) (n - (k + 1))) by rw [hR, hfl, show n - (k + 1) = f by omega]; rfl)
      have bc := hide (bit_wr wr (x / 2 ^ k) hw (by omega))
      have HF := hide hf
      clear hR hw hf hfl
      go_wp2_with fail
      refine (unhide bc).mono ?_
      rintro e w1 ⟨rfl, o1, c1, w1r, f1⟩
      go_wp2_with fail
      go_roundw
      case rel => exact ⟨k + 1, _, o1, c1, by omega, by go_num, unhide hnx, w1r, (unhide HF).trans f1⟩
      case measure => simp [intOf]; omega
    · have hkn : k = n := by omega
      subst hkn
      have hfin : R = b' := by rw [hR, Nat.sub_self]; rfl
      have HF := hide hfin
      clear hR hfin
      go_wp2_with fail
      go_end0
      exact ⟨rfl, o', c', by rw [unhide HF]; exact hw, hf⟩

set_option maxHeartbeats 4000000 in
set_option maxRecDepth 20000 in
theorem symbol_wr (w : World) (L : List Int) (s k : Nat) (K : Int) (a0 : Option Addr) (n0 c0 : Nat) (a1 : Option Addr) (n1 c1 : Nat) (hl : ∀ w', Below g w w' → Is w' a0 n0 c0 L ∧ Is w' a1 n1 c1 (cds L)) (hs : s < L.length) (hk : ln L s = (k : Int)) (hk1 : 1 ≤ k) (hk15 : k ≤ 15) (hK : K = (s : Int)) (h : Wr C g w oo oc b N) (hN : N + k ≤ 1000000) :
    Calls Tryd.prog 38 #[.pointer (some ⟨g, 0, none⟩), .agg #[.slice a0 n0 c0, .slice a1 n1 c1], .int .i64 K] w fun e w' => e = .returned (.tuple #[]) ∧ OutW C g w oo (pkF b N (sbits L (s : Int))) (N + k) w' := by
  subst hK
  have hbits : sbits L (s : Int) = bto (code L s) k := by unfold sbits; simp [hk]
  obtain ⟨R, hR⟩ : ∃ R, R = pkF b N (sbits L (s : Int)) := ⟨_, rfl⟩
  rw [← hR]
  rw [hbits] at hR
  have HR := hide hR
  have hgl := h.q.lt
  have i0 := (hl w (Below.refl _ _)).1
  have i1 := (hl w (Below.refl _ _)).2
  have hn0 := i0.len
  have hn1 := i1.len
  rw [cds_len] at hn1
  have le0 := i0.le
  have mx0 := i0.max
  have le1 := i1.le
  have mx1 := i1.max
  have bb := below_alloc w (.cells #[.slice a0 n0 c0, .slice a1 n1 c1] 64)
  have d0 := cell_top w #[.slice a0 n0 c0, .slice a1 n1 c1] 64 0 w.heap.size rfl
  have d1 := cell_top w #[.slice a0 n0 c0, .slice a1 n1 c1] 64 1 w.heap.size rfl
  obtain ⟨ib, io, hix, hcx⟩ := (i0.later bb).idx (show s < n0 by omega) (s : Int) rfl
  rw [show L[s]?.getD 0 = (k : Int) from hk] at hcx
  have h1 := hide (h.later bb)
  have hno : ¬ ob oo w.heap.size := fun q => by have := (h.q.out.ob q).2; omega
  have HNO := hide hno
  obtain ⟨CO, hCO⟩ : ∃ CO, CO = code L s := ⟨_, rfl⟩
  rw [← hCO] at HR
  have hcs : (cds L)[s]?.getD 0 = CO := by rw [hCO]; exact cds_at L hs
  have HCS := hide hcs
  have hsn1 : s < n1 := by omega
  have HL := hide hl
  have hout := hide h.q.out
  clear hR hbits h hl i0 i1 hno hcs hCO hn0 hn1 hk hs
  go_enter Tryd.func38, Tryd.ntmps38
  go_wp2_with fail
  go_loopw [6] (fun i wr => ∃ (j : Nat) (b' : List Int) (o' : Option Addr) (c' : Nat), j ≤ k ∧ i = .int .i64 ((j : Int) - 1) ∧ R = pkF b' (N + (k - j)) (bto CO j) ∧ Wr C g wr o' c' b' (N + (k - j)) ∧ Fr g oo w o' wr ∧ ¬ ob o' w.heap.size ∧ wr.heap[w.heap.size]? = some (.cells #[.slice a0 n0 c0, .slice a1 n1 c1] 64 (0, 0))) (fun i _ => (intOf i + 1).toNat)
  case atStart => exact ⟨k, b, oo, oc, Nat.le_refl _, rfl, by rw [Nat.sub_self]; exact unhide HR, by rw [Nat.sub_self]; exact unhide h1, (Gb.of bb).fr oo, unhide HNO, heap_alloc_new w _⟩
  case round =>
    clear HR h1 HNO d0 d1 hix hcx
    obtain ⟨j, b', o', c', hj, rfl, hR, hw, hf, hno, hst⟩ := hrel
    by_cases h0 : j = 0
    · subst h0
      have HF := hide (show R = b' from hR)
      rw [Nat.sub_zero] at hw
      clear hR
      go_wp2_with fail
      go_end0
      exact ⟨rfl, o', c', by rw [unhide HF]; exact hw, hf⟩
    · obtain ⟨J, rfl⟩ : ∃ J, j = J + 1 := ⟨j - 1, by omega⟩
      rw [show (((J + 1 : Nat) : Int) - 1) = (J : Int) by omega]
      have d1 : wr.cell? ⟨w.heap.size, 1, none⟩ = some (.slice a1 n1 c1) := by rw [cell_of_row wr w.heap.size 1 _ _ _ hst]; rfl
      have bw : Below g w wr := hf.below (unhide hout) hgl
      have is1 := (unhide HL wr bw).2
      obtain ⟨ib, io, hix, hcx⟩ := is1.idx hsn1 (s : Int) rfl
      rw [unhide HCS] at hcx
      have hnx := hide (show R = pkF (putB b' (N + (k - (J + 1))) (CO / 2 ^ J % 2)) (N + (k - J)) (bto CO J) by rw [hR, show N + (k - J) = N + (k - (J + 1)) + 1 by omega]; rfl)
      have bc := hide (bit_wr wr (CO / 2 ^ J) hw (by omega))
      have HF := hide hf
      have hlt : w.heap.size < wr.heap.size := (Array.getElem?_eq_some_iff.1 hst).1
      have HST := hide hst
      have HN := hide hno
      have hJ0 : (0 : Int) ≤ (J : Int) := by omega
      clear hR hw hf hst hno is1 bw h0
      go_wp2_with fail
      refine (unhide bc).mono ?_
      rintro e w1 ⟨rfl, o1, c1', w1r, f1⟩
      have st1 := hide ((f1.block w.heap.size hlt (by omega) (unhide HN)).trans (unhide HST))
      have no1 := hide (fun q => (f1.src w.heap.size q).elim (unhide HN) (fun z => by omega))
      go_wp2_with fail
      go_roundw
      case rel => exact ⟨J, _, o1, c1', by omega, by go_num, unhide hnx, by rw [show N + (k - J) = N + (k - (J + 1)) + 1 by omega]; exact w1r, (unhide HF).trans f1, unhide no1, unhide st1⟩
      case measure => simp [intOf]
end
end Go.Proofs.YtalkeooejobjhaaDoor

namespace Go.Proofs.YtalkeooejobjhaaDoor
open Go.RowKit
set_option linter.unusedVariables false
set_option linter.unusedSimpArgs false

theorem two13 {m : Nat} (h : m ≤ 13) : 1 ≤ (2 : Int) ^ m ∧ (2 : Int) ^ m ≤ 8192 := by
  refine ⟨Int.pow_pos (by omega), ?_⟩
  have := Nat.pow_le_pow_right (show 0 < 2 by omega) h
  have h2 : (2 : Int) ^ m ≤ 2 ^ 13 := by exact_mod_cast this
  omega

section
variable {C : Cv} {g : Nat} {oo : Option Addr} {oc : Nat} {b : List Int} {N : Nat}

set_option maxHeartbeats 4000000 in
set_option maxRecDepth 20000 in
theorem within_len (w : World) (n : Nat) (X : Int) (hX : X = (n : Int) - 3) (a0 : Option Addr) (n0 c0 : Nat) (a1 : Option Addr) (n1 c1 : Nat) (hl : ∀ w', Below g w w' → Is w' a0 n0 c0 fixL ∧ Is w' a1 n1 c1 (cds fixL)) (h0 : 3 ≤ n) (h1 : n < 259) (h : Wr C g w oo oc b N) (hN : N + 60 ≤ 1000000) :
    Calls Tryd.prog 59 #[.pointer (some ⟨g, 0, none⟩), .agg #[.slice a0 n0 c0, .slice a1 n1 c1], .int .i64 257, .int .i64 X, .int .i64 4] w fun e w' => e = .returned (.tuple #[]) ∧ ∃ k, k ≤ 27 ∧ lb k ≤ n ∧ n < lb k + 2 ^ lx k ∧ OutW C g w oo (pkF b N (sbits fixL ((257 + k : Nat) : Int) ++ fto ((n : Int) - (lb k : Int)) 0 (lx k))) (N + (sbits fixL ((257 + k : Nat) : Int) ++ fto ((n : Int) - (lb k : Int)) 0 (lx k)).length) w' := by
  subst hX
  have hgl := h.q.lt
  have bb := below_alloc w (.cells #[.slice a0 n0 c0, .slice a1 n1 c1] 64)
  have e0 := cell_top w #[.slice a0 n0 c0, .slice a1 n1 c1] 64 0 w.heap.size rfl
  have e1 := cell_top w #[.slice a0 n0 c0, .slice a1 n1 c1] 64 1 w.heap.size rfl
  have st1 := hide (h.later bb)
  have HL := hide hl
  have hout := hide h.q.out
  have BB := hide bb
  clear h hl bb
  go_enter Tryd.func59, Tryd.ntmps59
  go_wp2_with fail
  obtain ⟨W, hW⟩ : ∃ W, W = w.alloc (.cells #[.slice a0 n0 c0, .slice a1 n1 c1] 64) := ⟨_, rfl⟩
  rw [← hW] at e0 e1 st1 BB
  simp only [← hW]
  have zW : W.heap.size = w.heap.size + 1 := by rw [hW]; simp
  have ZW := hide zW
  clear hW zW
  go_loopw [3, 10, 11] (fun x s bt wr => ∃ k : Nat, k ≤ 27 ∧ x = .int .i64 ((n : Int) - (lb k : Int)) ∧ s = .int .i64 (k : Int) ∧ bt = .int .i64 (lx k : Int) ∧ lb k ≤ n ∧ wr = W) (fun _ s _ _ => 27 - (intOf s).toNat)
  case atStart => exact ⟨0, by omega, rfl, rfl, rfl, h0, rfl⟩
  case round =>
    obtain ⟨k, hk, rfl, rfl, rfl, hkn, rfl⟩ := hrel
    obtain ⟨T, hT⟩ : ∃ T, T = lx k := ⟨_, rfl⟩
    have hT13 : T ≤ 13 := by rw [hT, lx_is k (by omega)]; omega
    obtain ⟨D, hD⟩ : ∃ D : Nat, lb k + D = n := ⟨n - lb k, by omega⟩
    have hx : (n : Int) - (lb k : Int) = (D : Int) := by omega
    rw [hx, ← hT]
    have hp := two13 hT13
    have hpn : ((2 ^ T : Nat) : Int) = (2 : Int) ^ T := by rw [Int.natCast_pow]; rfl
    by_cases hlt : (2 : Int) ^ T ≤ (D : Int)
    · have hkt : k < 27 := by
        by_cases he : k = 27
        · exfalso
          subst he
          have : lb 27 + 2 ^ lx 27 = 259 := by decide
          rw [← hT] at this
          omega
        · omega
      have hstp := lb_step k (by omega)
      rw [← hT] at hstp
      have hnx := hide (show (D : Int) - 2 ^ T = (n : Int) - (lb (k + 1) : Int) ∧ lb (k + 1) ≤ n by omega)
      have htx := hide (lx_is (k + 1) (by omega))
      have hD5 : D ≤ 100000 := by omega
      generalize hP : (2 : Int) ^ T = P at *
      have HS := hide hstp
      have HT := hide hT
      have HD := hide hD
      clear hT hD hx hstp hpn
      by_cases hq : 0 < ((k : Int) + 1) / 4 - 1
      · have hbx := hide (show ((k : Int) + 1) / 4 - 1 = (lx (k + 1) : Int) by rw [unhide htx]; omega)
        go_wp2_with fail
        go_roundw
        case rel => exact ⟨k + 1, by omega, by rw [← (unhide hnx).1], by go_num, by rw [← unhide hbx], (unhide hnx).2, (by first | rfl | trivial)⟩
        case measure => simp [intOf]; omega
      · have hbx := hide (show (0 : Int) = (lx (k + 1) : Int) by rw [unhide htx]; omega)
        go_wp2_with fail
        go_roundw
        case rel => exact ⟨k + 1, by omega, by rw [← (unhide hnx).1], by go_num, by rw [← unhide hbx], (unhide hnx).2, (by first | rfl | trivial)⟩
        case measure => simp [intOf]; omega
    · have hlt2 : (D : Int) < 2 ^ T := by omega
      have hexit := hide (show lb k ≤ n ∧ n < lb k + 2 ^ lx k by rw [← hT]; omega)
      have hsl : 257 + k < fixL.length := by rw [fixL_len]; omega
      obtain ⟨ks, hks, hk1, hk15⟩ : ∃ ks : Nat, ln fixL (257 + k) = (ks : Int) ∧ 1 ≤ ks ∧ ks ≤ 15 := by
        have := ln_fixL (257 + k) (by rw [fixL_len] at hsl; exact hsl)
        exact ⟨(ln fixL (257 + k)).toNat, by omega, by omega, by omega⟩
      have hA := hide (show (sbits fixL ((257 + k : Nat) : Int)).length = ks by rw [sbits_n, hks]; simp)
      have sc := hide (fun (Q : Int) (hQ : Q = ((257 + k : Nat) : Int)) => symbol_wr (oo := oo) (oc := oc) (b := b) (N := N) wr.drew fixL (257 + k) ks Q a0 n0 c0 a1 n1 c1 (fun w' f => (unhide HL) w' ((((unhide BB).mono (Nat.le_of_lt hgl)).trans (show Below g wr wr.drew from ⟨rfl, rfl, rfl, Nat.le_refl _, fun _ _ => rfl⟩)).trans f)) hsl hks hk1 hk15 hQ ((unhide st1).later (below_drew wr)) (by omega))
      have hTD := hide (And.intro hT hx)
      clear hT hD hx hpn hks hsl
      generalize hP : (2 : Int) ^ T = P at *
      go_wp2_with fail
      go_region_with (go_at_call 38; refine ((unhide sc) _ (by first | omega | (rw [IntKind.wrap_i64]; omega))).mono ?_; rintro e w2 ⟨rfl, o2, c2, w2r, f2⟩)
      all_goals have fc := hide (field_wr w2 (D : Int) T w2r (by omega) (by omega) (T : Int) rfl)
      all_goals have F2 := hide f2
      all_goals clear w2r f2
      all_goals go_wp2_with fail
      all_goals refine (unhide fc).mono ?_
      all_goals rintro e w3 ⟨rfl, o3, c3, w3r, f3⟩
      all_goals go_wp2_with fail
      all_goals go_end0
      all_goals refine ⟨rfl, k, hk, (unhide hexit).1, (unhide hexit).2, o3, c3, ?_, ((((Gb.of (unhide BB)).fr oo).trans ((Gb.of (below_drew wr)).fr oo)).trans (unhide F2)).trans f3⟩
      all_goals rw [pkF_app, unhide hA, List.length_append, unhide hA, fto_len, ← (unhide hTD).1, (unhide hTD).2, ← Nat.add_assoc]
      all_goals exact w3r

set_option maxHeartbeats 4000000 in
set_option maxRecDepth 20000 in
theorem within_dst (w : World) (n : Nat) (X : Int) (hX : X = (n : Int) - 1) (a0 : Option Addr) (n0 c0 : Nat) (a1 : Option Addr) (n1 c1 : Nat) (hl : ∀ w', Below g w w' → Is w' a0 n0 c0 fixD ∧ Is w' a1 n1 c1 (cds fixD)) (h0 : 1 ≤ n) (h1 : n < 32769) (h : Wr C g w oo oc b N) (hN : N + 60 ≤ 1000000) :
    Calls Tryd.prog 59 #[.pointer (some ⟨g, 0, none⟩), .agg #[.slice a0 n0 c0, .slice a1 n1 c1], .int .i64 0, .int .i64 X, .int .i64 2] w fun e w' => e = .returned (.tuple #[]) ∧ ∃ k, k ≤ 29 ∧ db k ≤ n ∧ n < db k + 2 ^ dx k ∧ OutW C g w oo (pkF b N (sbits fixD ((0 + k : Nat) : Int) ++ fto ((n : Int) - (db k : Int)) 0 (dx k))) (N + (sbits fixD ((0 + k : Nat) : Int) ++ fto ((n : Int) - (db k : Int)) 0 (dx k)).length) w' := by
  subst hX
  have hgl := h.q.lt
  have bb := below_alloc w (.cells #[.slice a0 n0 c0, .slice a1 n1 c1] 64)
  have e0 := cell_top w #[.slice a0 n0 c0, .slice a1 n1 c1] 64 0 w.heap.size rfl
  have e1 := cell_top w #[.slice a0 n0 c0, .slice a1 n1 c1] 64 1 w.heap.size rfl
  have st1 := hide (h.later bb)
  have HL := hide hl
  have hout := hide h.q.out
  have BB := hide bb
  clear h hl bb
  go_enter Tryd.func59, Tryd.ntmps59
  go_wp2_with fail
  obtain ⟨W, hW⟩ : ∃ W, W = w.alloc (.cells #[.slice a0 n0 c0, .slice a1 n1 c1] 64) := ⟨_, rfl⟩
  rw [← hW] at e0 e1 st1 BB
  simp only [← hW]
  have zW : W.heap.size = w.heap.size + 1 := by rw [hW]; simp
  have ZW := hide zW
  clear hW zW
  go_loopw [3, 10, 11] (fun x s bt wr => ∃ k : Nat, k ≤ 29 ∧ x = .int .i64 ((n : Int) - (db k : Int)) ∧ s = .int .i64 (k : Int) ∧ bt = .int .i64 (dx k : Int) ∧ db k ≤ n ∧ wr = W) (fun _ s _ _ => 29 - (intOf s).toNat)
  case atStart => exact ⟨0, by omega, rfl, rfl, rfl, h0, rfl⟩
  case round =>
    obtain ⟨k, hk, rfl, rfl, rfl, hkn, rfl⟩ := hrel
    obtain ⟨T, hT⟩ : ∃ T, T = dx k := ⟨_, rfl⟩
    have hT13 : T ≤ 13 := by rw [hT, dx_is k (by omega)]; omega
    obtain ⟨D, hD⟩ : ∃ D : Nat, db k + D = n := ⟨n - db k, by omega⟩
    have hx : (n : Int) - (db k : Int) = (D : Int) := by omega
    rw [hx, ← hT]
    have hp := two13 hT13
    have hpn : ((2 ^ T : Nat) : Int) = (2 : Int) ^ T := by rw [Int.natCast_pow]; rfl
    by_cases hlt : (2 : Int) ^ T ≤ (D : Int)
    · have hkt : k < 29 := by
        by_cases he : k = 29
        · exfalso
          subst he
          have : db 29 + 2 ^ dx 29 = 32769 := by decide
          rw [← hT] at this
          omega
        · omega
      have hstp := db_step k (by omega)
      rw [← hT] at hstp
      have hnx := hide (show (D : Int) - 2 ^ T = (n : Int) - (db (k + 1) : Int) ∧ db (k + 1) ≤ n by omega)
      have htx := hide (dx_is (k + 1) (by omega))
      have hD5 : D ≤ 100000 := by omega
      generalize hP : (2 : Int) ^ T = P at *
      have HS := hide hstp
      have HT := hide hT
      have HD := hide hD
      clear hT hD hx hstp hpn
      by_cases hq : 0 < ((k : Int) + 1) / 2 - 1
      · have hbx := hide (show ((k : Int) + 1) / 2 - 1 = (dx (k + 1) : Int) by rw [unhide htx]; omega)
        go_wp2_with fail
        go_roundw
        case rel => exact ⟨k + 1, by omega, by rw [← (unhide hnx).1], by go_num, by rw [← unhide hbx], (unhide hnx).2, (by first | rfl | trivial)⟩
        case measure => simp [intOf]; omega
      · have hbx := hide (show (0 : Int) = (dx (k + 1) : Int) by rw [unhide htx]; omega)
        go_wp2_with fail
        go_roundw
        case rel => exact ⟨k + 1, by omega, by rw [← (unhide hnx).1], by go_num, by rw [← unhide hbx], (unhide hnx).2, (by first | rfl | trivial)⟩
        case measure => simp [intOf]; omega
    · have hlt2 : (D : Int) < 2 ^ T := by omega
      have hexit := hide (show db k ≤ n ∧ n < db k + 2 ^ dx k by rw [← hT]; omega)
      have hsl : 0 + k < fixD.length := by rw [fixD_len]; omega
      obtain ⟨ks, hks, hk1, hk15⟩ : ∃ ks : Nat, ln fixD (0 + k) = (ks : Int) ∧ 1 ≤ ks ∧ ks ≤ 15 := by
        have := ln_fixD (0 + k) (by rw [fixD_len] at hsl; exact hsl)
        exact ⟨(ln fixD (0 + k)).toNat, by omega, by omega, by omega⟩
      have hA := hide (show (sbits fixD ((0 + k : Nat) : Int)).length = ks by rw [sbits_n, hks]; simp)
      have sc := hide (fun (Q : Int) (hQ : Q = ((0 + k : Nat) : Int)) => symbol_wr (oo := oo) (oc := oc) (b := b) (N := N) wr.drew fixD (0 + k) ks Q a0 n0 c0 a1 n1 c1 (fun w' f => (unhide HL) w' ((((unhide BB).mono (Nat.le_of_lt hgl)).trans (show Below g wr wr.drew from ⟨rfl, rfl, rfl, Nat.le_refl _, fun _ _ => rfl⟩)).trans f)) hsl hks hk1 hk15 hQ ((unhide st1).later (below_drew wr)) (by omega))
      have hTD := hide (And.intro hT hx)
      clear hT hD hx hpn hks hsl
      generalize hP : (2 : Int) ^ T = P at *
      go_wp2_with fail
      go_region_with (go_at_call 38; refine ((unhide sc) _ (by first | omega | (rw [IntKind.wrap_i64]; omega))).mono ?_; rintro e w2 ⟨rfl, o2, c2, w2r, f2⟩)
      all_goals have fc := hide (field_wr w2 (D : Int) T w2r (by omega) (by omega) (T : Int) rfl)
      all_goals have F2 := hide f2
      all_goals clear w2r f2
      all_goals go_wp2_with fail
      all_goals refine (unhide fc).mono ?_
      all_goals rintro e w3 ⟨rfl, o3, c3, w3r, f3⟩
      all_goals go_wp2_with fail
      all_goals go_end0
      all_goals refine ⟨rfl, k, hk, (unhide hexit).1, (unhide hexit).2, o3, c3, ?_, ((((Gb.of (unhide BB)).fr oo).trans ((Gb.of (below_drew wr)).fr oo)).trans (unhide F2)).trans f3⟩
      all_goals rw [pkF_app, unhide hA, List.length_append, unhide hA, fto_len, ← (unhide hTD).1, (unhide hTD).2, ← Nat.add_assoc]
      all_goals exact w3r
end
end Go.Proofs.YtalkeooejobjhaaDoor

namespace Go.Proofs.YtalkeooejobjhaaDoor
open Go.RowKit
set_option linter.unusedVariables false
set_option linter.unusedSimpArgs false

/-- The bits of a length, of a distance. -/
def ltx (n : Nat) : List Int := sbits fixL ((257 + lix n : Nat) : Int) ++ fto ((n : Int) - (lb (lix n) : Int)) 0 (lx (lix n))
def dtx (n : Nat) : List Int := sbits fixD ((0 + dix n : Nat) : Int) ++ fto ((n : Int) - (db (dix n) : Int)) 0 (dx (dix n))
theorem ptx_copy {l d : Nat} (h : l ≠ 0) (b : Int) : ptx ⟨(l : Int), (d : Int), b⟩ = ltx l ++ dtx d := by
  unfold ptx ltx dtx
  simp only
  rw [if_neg (by omega), Int.toNat_natCast, Int.toNat_natCast, List.append_assoc, Nat.zero_add]
theorem lix_258 : lix 258 = 28 := if_pos rfl
theorem ltx_258 : ltx 258 = sbits fixL (285 : Int) := by
  have h1 : lx 28 = 0 := by decide
  unfold ltx
  rw [lix_258, h1]
  simp [fto]
theorem lst_le (t : List Nat) (n : Nat) : ∀ K, lst t n K ≤ K
  | 0 => Nat.le_refl _
  | K + 1 => by
    simp only [lst]
    split
    · exact Nat.le_refl _
    · exact Nat.le_succ_of_le (lst_le t n K)
theorem lix_le (n : Nat) : lix n ≤ 28 := by
  unfold lix
  split
  · exact Nat.le_refl _
  · have := lst_le lenB n 27; omega
theorem dix_le (n : Nat) : dix n ≤ 29 := lst_le dstB n 29
theorem lx_le : ∀ k, k ≤ 28 → lx k ≤ 5 := by decide
theorem dx_le : ∀ k, k ≤ 29 → dx k ≤ 13 := by decide
theorem ltx_le (n : Nat) : (ltx n).length ≤ 14 := by
  have h1 := lix_le n
  have h2 := ln_fixL (257 + lix n) (by omega)
  have h3 := lx_le (lix n) h1
  unfold ltx
  rw [List.length_append, sbits_n, fto_len]
  omega
theorem dtx_le (n : Nat) : (dtx n).length ≤ 18 := by
  have h1 := dix_le n
  have h2 := ln_fixD (0 + dix n) (by omega)
  have h3 := dx_le (dix n) h1
  unfold dtx
  rw [List.length_append, sbits_n, fto_len]
  omega
theorem byte_le {b : Int} (h0 : 0 ≤ b) (h1 : b ≤ 255) : (sbits fixL b).length ≤ 9 := by
  obtain ⟨B, rfl⟩ := Int.eq_ofNat_of_zero_le h0
  have := ln_fixL B (by omega)
  rw [sbits_n]
  omega
theorem ptx_le {p : Pc} (hm : may p = true) (h0 : 0 ≤ p.b) (h1 : p.b ≤ 255) : (ptx p).length ≤ 40 := by
  obtain ⟨l, d, b⟩ := p
  by_cases hl : l = 0
  · subst hl
    have := byte_le h0 h1
    unfold ptx
    simp only [if_true]
    exact Nat.le_trans this (by omega)
  · have hc := may_copy hm hl
    simp only at hc
    obtain ⟨L, rfl⟩ := Int.eq_ofNat_of_zero_le (show 0 ≤ l by omega)
    obtain ⟨D, rfl⟩ := Int.eq_ofNat_of_zero_le (show 0 ≤ d by omega)
    rw [ptx_copy (by omega), List.length_append]
    have := ltx_le L
    have := dtx_le D
    omega

section
variable {C : Cv} {g : Nat} {oo : Option Addr} {oc : Nat} {b : List Int} {N : Nat}

theorem Wr.lit {w : World} (h : Wr C g w oo oc b N) : ∀ w', Below g w w' → Is w' C.a0 C.n0 C.c0 fixL ∧ Is w' C.a1 C.n1 C.c1 (cds fixL) := fun w' f => ⟨(h.q.cd w' f).l, (h.q.cd w' f).lc⟩
theorem Wr.dist {w : World} (h : Wr C g w oo oc b N) : ∀ w', Below g w w' → Is w' C.a2 C.n2 C.c2 fixD ∧ Is w' C.a3 C.n3 C.c3 (cds fixD) := fun w' f => ⟨(h.q.cd w' f).d, (h.q.cd w' f).dc⟩
/-- A symbol of the literal code. -/
theorem symL (w : World) (s : Nat) (hs : s < 288) (K : Int) (hK : K = (s : Int)) (h : Wr C g w oo oc b N) (hN : N + 15 ≤ 1000000) :
    Calls Tryd.prog 38 #[.pointer (some ⟨g, 0, none⟩), .agg #[.slice C.a0 C.n0 C.c0, .slice C.a1 C.n1 C.c1], .int .i64 K] w fun e w' => e = .returned (.tuple #[]) ∧ OutW C g w oo (pkF b N (sbits fixL (s : Int))) (N + (sbits fixL (s : Int)).length) w' := by
  have hl := ln_fixL s hs
  have e : (sbits fixL (s : Int)).length = (ln fixL s).toNat := sbits_n _ _
  rw [e]
  exact symbol_wr w fixL s (ln fixL s).toNat K C.a0 C.n0 C.c0 C.a1 C.n1 C.c1 h.lit (by rw [fixL_len]; exact hs) (by omega) (by omega) (by omega) hK h (by omega)

set_option maxHeartbeats 2000000 in
set_option maxRecDepth 20000 in
theorem length_wr (w : World) (n : Nat) (h3 : 3 ≤ n) (h258 : n ≤ 258) (h : Wr C g w oo oc b N) (hN : N + 60 ≤ 1000000) :
    Calls Tryd.prog 58 #[.pointer (some ⟨g, 0, none⟩), .int .i64 (n : Int)] w fun e w' => e = .returned (.tuple #[]) ∧ OutW C g w oo (pkF b N (ltx n)) (N + (ltx n).length) w' := by
  have k2 := h.q.k2
  have k3 := h.q.k3
  by_cases hn : n = 258
  · subst hn
    rw [ltx_258]
    have sc := hide (symL w.drew 285 (by omega) 285 rfl (h.later (below_drew w)) (by omega))
    clear h
    go_enter Tryd.func58, Tryd.ntmps58
    go_wp2_with fail
    go_region_with (go_at_call 38; refine (unhide sc).mono ?_; rintro e w2 ⟨rfl, o2, c2, w2r, f2⟩)
    all_goals go_wp2_with fail
    all_goals refine bodyPost_ret (results_none rfl _ _ _) rfl ?_
    all_goals exact ⟨rfl, o2, c2, w2r, ((Gb.of (below_drew w)).fr oo).trans f2⟩
  · have hn' : ((n : Int) == 258) = false := by simp; omega
    have wc := hide (within_len w n ((n : Int) - 3) rfl C.a0 C.n0 C.c0 C.a1 C.n1 C.c1 h.lit h3 (by omega) h hN)
    clear h
    go_enter Tryd.func58, Tryd.ntmps58
    go_wp2_with fail
    refine (unhide wc).mono ?_
    rintro e w2 ⟨rfl, k, hk, h1, h2, o2, c2, w2r, f2⟩
    have hlx := hide (lix_is hk h1 h2 (by omega))
    clear h1 h2
    go_wp2_with fail
    go_end0
    refine ⟨rfl, o2, c2, ?_, f2⟩
    unfold ltx
    rw [unhide hlx]
    exact w2r

set_option maxHeartbeats 2000000 in
set_option maxRecDepth 20000 in
theorem piece_wr (w : World) (l d x : Int) (hm : may ⟨l, d, x⟩ = true) (x0 : 0 ≤ x) (x1 : x ≤ 255) (h : Wr C g w oo oc b N) (hN : N + 200 ≤ 1000000) :
    Calls Tryd.prog 37 #[.pointer (some ⟨g, 0, none⟩), .agg #[.int .i64 l, .int .i64 d, .int .u8 x]] w fun e w' => e = .returned (.tuple #[]) ∧ OutW C g w oo (pkF b N (ptx ⟨l, d, x⟩)) (N + (ptx ⟨l, d, x⟩).length) w' := by
  have bb := below_alloc w (.cells #[.int .i64 l, .int .i64 d, .int .u8 x] 72)
  have h1 := h.later bb
  have k2 := h1.q.k2
  have k3 := h1.q.k3
  have k4 := h1.q.k4
  have k5 := h1.q.k5
  have e0 := cell_top w #[.int .i64 l, .int .i64 d, .int .u8 x] 72 0 w.heap.size rfl
  have e1 := cell_top w #[.int .i64 l, .int .i64 d, .int .u8 x] 72 1 w.heap.size rfl
  have e2 := cell_top w #[.int .i64 l, .int .i64 d, .int .u8 x] 72 2 w.heap.size rfl
  have BB := hide bb
  have hgl := h.q.lt
  have hno : ¬ ob oo w.heap.size := fun q => by have := (h.q.out.ob q).2; omega
  by_cases hl : l = 0
  · subst hl
    obtain ⟨X, rfl⟩ := Int.eq_ofNat_of_zero_le x0
    have hp : ptx ⟨0, d, (X : Int)⟩ = sbits fixL (X : Int) := if_pos rfl
    rw [hp]
    have sc := hide (fun (K : Int) (hK : K = (X : Int)) => symL (w.alloc (.cells #[.int .i64 0, .int .i64 d, .int .u8 (X : Int)] 72)).drew X (by omega) K hK (h1.later (below_drew _)) (by omega))
    clear h h1 hp hm bb
    go_enter Tryd.func37, Tryd.ntmps37
    go_wp2_with fail
    go_region_with (go_at_call 38; refine ((unhide sc) _ (by first | rfl | omega | (rw [IntKind.wrap_i64]; omega))).mono ?_; rintro e w2 ⟨rfl, o2, c2, w2r, f2⟩)
    all_goals go_wp2_with fail
    all_goals refine bodyPost_ret (results_none rfl _ _ _) rfl ?_
    all_goals exact ⟨rfl, o2, c2, w2r, (((Gb.of (unhide BB)).fr oo).trans ((Gb.of (below_drew _)).fr oo)).trans f2⟩
  · have hc := may_copy hm hl
    simp only at hc
    obtain ⟨L, rfl⟩ := Int.eq_ofNat_of_zero_le (show 0 ≤ l by omega)
    obtain ⟨D, rfl⟩ := Int.eq_ofNat_of_zero_le (show 0 ≤ d by omega)
    have hl' : ((L : Int) == 0) = false := by simp; omega
    have hb : 3 ≤ L ∧ L ≤ 258 ∧ 1 ≤ D ∧ D ≤ 32768 := by omega
    have hp := hide (ptx_copy (l := L) (d := D) (show L ≠ 0 by omega) x)
    have lc := hide (length_wr (w.alloc (.cells #[.int .i64 (L : Int), .int .i64 (D : Int), .int .u8 x] 72)) L hb.1 hb.2.1 h1 (by omega))
    have hll := ltx_le L
    have hst := hide (show (w.alloc (.cells #[.int .i64 (L : Int), .int .i64 (D : Int), .int .u8 x] 72)).heap[w.heap.size]? = _ from heap_alloc_new w _)
    clear hc hl hm h h1 bb
    go_enter Tryd.func37, Tryd.ntmps37
    go_wp2_with fail
    refine (unhide lc).mono ?_
    rintro e w2 ⟨rfl, o2, c2, w2r, f2⟩
    have st2 := (f2.block w.heap.size (by simp) (by omega) hno).trans (unhide hst)
    have d1 : w2.cell? ⟨w.heap.size, 1, none⟩ = some (.int .i64 (D : Int)) := by rw [cell_of_row w2 w.heap.size 1 _ _ _ st2]; rfl
    have j4 := w2r.q.k4
    have j5 := w2r.q.k5
    have wc := hide (fun (X : Int) (hX : X = (D : Int) - 1) => within_dst w2.drew D X hX C.a2 C.n2 C.c2 C.a3 C.n3 C.c3 (w2r.later (below_drew w2)).dist hb.2.2.1 (by omega) (w2r.later (below_drew w2)) (by omega))
    have F2 := hide f2
    clear st2 w2r f2
    go_wp2_with fail
    go_region_with (go_at_call 59; refine ((unhide wc) _ (by first | rfl | omega | (rw [IntKind.wrap_i64]; omega))).mono ?_; rintro e w3 ⟨rfl, k, hk, h1, h2, o3, c3, w3r, f3⟩)
    all_goals have hdx := hide (dix_is hk h1 h2)
    all_goals clear h1 h2
    all_goals go_wp2_with fail
    all_goals go_end0
    all_goals refine ⟨rfl, o3, c3, ?_, ((((Gb.of (unhide BB)).fr oo).trans (unhide F2)).trans ((Gb.of (below_drew w2)).fr o2)).trans f3⟩
    all_goals rw [unhide hp, pkF_app, List.length_append, ← Nat.add_assoc]
    all_goals unfold dtx
    all_goals rw [unhide hdx]
    all_goals exact w3r
end
end Go.Proofs.YtalkeooejobjhaaDoor
