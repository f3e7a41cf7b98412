/-
  What within, a method of package deflate's writer, does: a number is put by a symbol and its field. Conditions: at most a million bits.
-/
import Derived.Test.YtmlodlmmfkpibaaDefWr2
namespace Go.Proofs.Ytmlodlmmfkpibaa
open Go.RowKit
set_option linter.unusedVariables false
set_option linter.unusedSimpArgs false

theorem two13 {m : Nat} (h : m ≤ 13) : 1 ≤ (2 : Int) ^ m ∧ (2 : Int) ^ m ≤ 8192 := by
  refine ⟨Int.pow_pos (by omega), ?_⟩
  have := Nat.pow_le_pow_right (show 0 < 2 by omega) h
  have h2 : (2 : Int) ^ m ≤ 2 ^ 13 := by exact_mod_cast this
  omega

section
variable {C : Cv} {g : Nat} {oo : Option Addr} {oc : Nat} {b : List Int} {N : Nat}

set_option maxHeartbeats 4000000 in
set_option maxRecDepth 20000 in
theorem within_len (w : World) (n : Nat) (X : Int) (hX : X = (n : Int) - 3) (a0 : Option Addr) (n0 c0 : Nat) (a1 : Option Addr) (n1 c1 : Nat) (hl : ∀ w', Below g w w' → Is w' a0 n0 c0 fixL ∧ Is w' a1 n1 c1 (cds fixL)) (h0 : 3 ≤ n) (h1 : n < 259) (h : Wr C g w oo oc b N) (hN : N + 60 ≤ 1000000) :
    Calls Try.prog 55 #[.pointer (some ⟨g, 0, none⟩), .agg #[.slice a0 n0 c0, .slice a1 n1 c1], .int .i64 257, .int .i64 X, .int .i64 4] w fun e w' => e = .returned (.tuple #[]) ∧ ∃ k, k ≤ 27 ∧ lb k ≤ n ∧ n < lb k + 2 ^ lx k ∧ OutW C g w oo (pkF b N (sbits fixL ((257 + k : Nat) : Int) ++ fto ((n : Int) - (lb k : Int)) 0 (lx k))) (N + (sbits fixL ((257 + k : Nat) : Int) ++ fto ((n : Int) - (lb k : Int)) 0 (lx k)).length) w' := by
  subst hX
  have hgl := h.q.lt
  have bb := below_alloc w (.cells #[.slice a0 n0 c0, .slice a1 n1 c1] 69)
  have e0 := cell_top w #[.slice a0 n0 c0, .slice a1 n1 c1] 69 0 w.heap.size rfl
  have e1 := cell_top w #[.slice a0 n0 c0, .slice a1 n1 c1] 69 1 w.heap.size rfl
  have st1 := hide (h.later bb)
  have HL := hide hl
  have hout := hide h.q.out
  have BB := hide bb
  clear h hl bb
  go_enter Try.func55, Try.ntmps55
  go_wp2_with fail
  obtain ⟨W, hW⟩ : ∃ W, W = w.alloc (.cells #[.slice a0 n0 c0, .slice a1 n1 c1] 69) := ⟨_, rfl⟩
  rw [← hW] at e0 e1 st1 BB
  simp only [← hW]
  have zW : W.heap.size = w.heap.size + 1 := by rw [hW]; simp
  have ZW := hide zW
  clear hW zW
  go_loopw [3, 10, 11] (fun x s bt wr => ∃ k : Nat, k ≤ 27 ∧ x = .int .i64 ((n : Int) - (lb k : Int)) ∧ s = .int .i64 (k : Int) ∧ bt = .int .i64 (lx k : Int) ∧ lb k ≤ n ∧ wr = W) (fun _ s _ _ => 27 - (intOf s).toNat)
  case atStart => exact ⟨0, by omega, rfl, rfl, rfl, h0, rfl⟩
  case round =>
    obtain ⟨k, hk, rfl, rfl, rfl, hkn, rfl⟩ := hrel
    obtain ⟨T, hT⟩ : ∃ T, T = lx k := ⟨_, rfl⟩
    have hT13 : T ≤ 13 := by rw [hT, lx_is k (by omega)]; omega
    obtain ⟨D, hD⟩ : ∃ D : Nat, lb k + D = n := ⟨n - lb k, by omega⟩
    have hx : (n : Int) - (lb k : Int) = (D : Int) := by omega
    rw [hx, ← hT]
    have hp := two13 hT13
    have hpn : ((2 ^ T : Nat) : Int) = (2 : Int) ^ T := by rw [Int.natCast_pow]; rfl
    by_cases hlt : (2 : Int) ^ T ≤ (D : Int)
    · have hkt : k < 27 := by
        by_cases he : k = 27
        · exfalso
          subst he
          have : lb 27 + 2 ^ lx 27 = 259 := by decide
          rw [← hT] at this
          omega
        · omega
      have hstp := lb_step k (by omega)
      rw [← hT] at hstp
      have hnx := hide (show (D : Int) - 2 ^ T = (n : Int) - (lb (k + 1) : Int) ∧ lb (k + 1) ≤ n by omega)
      have htx := hide (lx_is (k + 1) (by omega))
      have hD5 : D ≤ 100000 := by omega
      generalize hP : (2 : Int) ^ T = P at *
      have HS := hide hstp
      have HT := hide hT
      have HD := hide hD
      clear hT hD hx hstp hpn
      by_cases hq : 0 < ((k : Int) + 1) / 4 - 1
      · have hbx := hide (show ((k : Int) + 1) / 4 - 1 = (lx (k + 1) : Int) by rw [unhide htx]; omega)
        go_wp2_with fail
        go_roundw
        case rel => exact ⟨k + 1, by omega, by rw [← (unhide hnx).1], by go_num, by rw [← unhide hbx], (unhide hnx).2, (by first | rfl | trivial)⟩
        case measure => simp [intOf]; omega
      · have hbx := hide (show (0 : Int) = (lx (k + 1) : Int) by rw [unhide htx]; omega)
        go_wp2_with fail
        go_roundw
        case rel => exact ⟨k + 1, by omega, by rw [← (unhide hnx).1], by go_num, by rw [← unhide hbx], (unhide hnx).2, (by first | rfl | trivial)⟩
        case measure => simp [intOf]; omega
    · have hlt2 : (D : Int) < 2 ^ T := by omega
      have hexit := hide (show lb k ≤ n ∧ n < lb k + 2 ^ lx k by rw [← hT]; omega)
      have hsl : 257 + k < fixL.length := by rw [fixL_len]; omega
      obtain ⟨ks, hks, hk1, hk15⟩ : ∃ ks : Nat, ln fixL (257 + k) = (ks : Int) ∧ 1 ≤ ks ∧ ks ≤ 15 := by
        have := ln_fixL (257 + k) (by rw [fixL_len] at hsl; exact hsl)
        exact ⟨(ln fixL (257 + k)).toNat, by omega, by omega, by omega⟩
      have hA := hide (show (sbits fixL ((257 + k : Nat) : Int)).length = ks by rw [sbits_n, hks]; simp)
      have sc := hide (fun (Q : Int) (hQ : Q = ((257 + k : Nat) : Int)) => symbol_wr (oo := oo) (oc := oc) (b := b) (N := N) wr.drew fixL (257 + k) ks Q a0 n0 c0 a1 n1 c1 (fun w' f => (unhide HL) w' ((((unhide BB).mono (Nat.le_of_lt hgl)).trans (show Below g wr wr.drew from ⟨rfl, rfl, rfl, Nat.le_refl _, fun _ _ => rfl⟩)).trans f)) hsl hks hk1 hk15 hQ ((unhide st1).later (below_drew wr)) (by omega))
      have hTD := hide (And.intro hT hx)
      clear hT hD hx hpn hks hsl
      generalize hP : (2 : Int) ^ T = P at *
      go_wp2_with fail
      go_region_with (go_at_call 47; refine ((unhide sc) _ (by first | omega | (rw [IntKind.wrap_i64]; omega))).mono ?_; rintro e w2 ⟨rfl, o2, c2, w2r, f2⟩)
      all_goals have fc := hide (field_wr w2 (D : Int) T w2r (by omega) (by omega) (T : Int) rfl)
      all_goals have F2 := hide f2
      all_goals clear w2r f2
      all_goals go_wp2_with fail
      all_goals refine (unhide fc).mono ?_
      all_goals rintro e w3 ⟨rfl, o3, c3, w3r, f3⟩
      all_goals go_wp2_with fail
      all_goals go_end0
      all_goals refine ⟨rfl, k, hk, (unhide hexit).1, (unhide hexit).2, o3, c3, ?_, ((((Gb.of (unhide BB)).fr oo).trans ((Gb.of (below_drew wr)).fr oo)).trans (unhide F2)).trans f3⟩
      all_goals rw [pkF_app, unhide hA, List.length_append, unhide hA, fto_len, ← (unhide hTD).1, (unhide hTD).2, ← Nat.add_assoc]
      all_goals exact w3r

set_option maxHeartbeats 4000000 in
set_option maxRecDepth 20000 in
theorem within_dst (w : World) (n : Nat) (X : Int) (hX : X = (n : Int) - 1) (a0 : Option Addr) (n0 c0 : Nat) (a1 : Option Addr) (n1 c1 : Nat) (hl : ∀ w', Below g w w' → Is w' a0 n0 c0 fixD ∧ Is w' a1 n1 c1 (cds fixD)) (h0 : 1 ≤ n) (h1 : n < 32769) (h : Wr C g w oo oc b N) (hN : N + 60 ≤ 1000000) :
    Calls Try.prog 55 #[.pointer (some ⟨g, 0, none⟩), .agg #[.slice a0 n0 c0, .slice a1 n1 c1], .int .i64 0, .int .i64 X, .int .i64 2] w fun e w' => e = .returned (.tuple #[]) ∧ ∃ k, k ≤ 29 ∧ db k ≤ n ∧ n < db k + 2 ^ dx k ∧ OutW C g w oo (pkF b N (sbits fixD ((0 + k : Nat) : Int) ++ fto ((n : Int) - (db k : Int)) 0 (dx k))) (N + (sbits fixD ((0 + k : Nat) : Int) ++ fto ((n : Int) - (db k : Int)) 0 (dx k)).length) w' := by
  subst hX
  have hgl := h.q.lt
  have bb := below_alloc w (.cells #[.slice a0 n0 c0, .slice a1 n1 c1] 69)
  have e0 := cell_top w #[.slice a0 n0 c0, .slice a1 n1 c1] 69 0 w.heap.size rfl
  have e1 := cell_top w #[.slice a0 n0 c0, .slice a1 n1 c1] 69 1 w.heap.size rfl
  have st1 := hide (h.later bb)
  have HL := hide hl
  have hout := hide h.q.out
  have BB := hide bb
  clear h hl bb
  go_enter Try.func55, Try.ntmps55
  go_wp2_with fail
  obtain ⟨W, hW⟩ : ∃ W, W = w.alloc (.cells #[.slice a0 n0 c0, .slice a1 n1 c1] 69) := ⟨_, rfl⟩
  rw [← hW] at e0 e1 st1 BB
  simp only [← hW]
  have zW : W.heap.size = w.heap.size + 1 := by rw [hW]; simp
  have ZW := hide zW
  clear hW zW
  go_loopw [3, 10, 11] (fun x s bt wr => ∃ k : Nat, k ≤ 29 ∧ x = .int .i64 ((n : Int) - (db k : Int)) ∧ s = .int .i64 (k : Int) ∧ bt = .int .i64 (dx k : Int) ∧ db k ≤ n ∧ wr = W) (fun _ s _ _ => 29 - (intOf s).toNat)
  case atStart => exact ⟨0, by omega, rfl, rfl, rfl, h0, rfl⟩
  case round =>
    obtain ⟨k, hk, rfl, rfl, rfl, hkn, rfl⟩ := hrel
    obtain ⟨T, hT⟩ : ∃ T, T = dx k := ⟨_, rfl⟩
    have hT13 : T ≤ 13 := by rw [hT, dx_is k (by omega)]; omega
    obtain ⟨D, hD⟩ : ∃ D : Nat, db k + D = n := ⟨n - db k, by omega⟩
    have hx : (n : Int) - (db k : Int) = (D : Int) := by omega
    rw [hx, ← hT]
    have hp := two13 hT13
    have hpn : ((2 ^ T : Nat) : Int) = (2 : Int) ^ T := by rw [Int.natCast_pow]; rfl
    by_cases hlt : (2 : Int) ^ T ≤ (D : Int)
    · have hkt : k < 29 := by
        by_cases he : k = 29
        · exfalso
          subst he
          have : db 29 + 2 ^ dx 29 = 32769 := by decide
          rw [← hT] at this
          omega
        · omega
      have hstp := db_step k (by omega)
      rw [← hT] at hstp
      have hnx := hide (show (D : Int) - 2 ^ T = (n : Int) - (db (k + 1) : Int) ∧ db (k + 1) ≤ n by omega)
      have htx := hide (dx_is (k + 1) (by omega))
      have hD5 : D ≤ 100000 := by omega
      generalize hP : (2 : Int) ^ T = P at *
      have HS := hide hstp
      have HT := hide hT
      have HD := hide hD
      clear hT hD hx hstp hpn
      by_cases hq : 0 < ((k : Int) + 1) / 2 - 1
      · have hbx := hide (show ((k : Int) + 1) / 2 - 1 = (dx (k + 1) : Int) by rw [unhide htx]; omega)
        go_wp2_with fail
        go_roundw
        case rel => exact ⟨k + 1, by omega, by rw [← (unhide hnx).1], by go_num, by rw [← unhide hbx], (unhide hnx).2, (by first | rfl | trivial)⟩
        case measure => simp [intOf]; omega
      · have hbx := hide (show (0 : Int) = (dx (k + 1) : Int) by rw [unhide htx]; omega)
        go_wp2_with fail
        go_roundw
        case rel => exact ⟨k + 1, by omega, by rw [← (unhide hnx).1], by go_num, by rw [← unhide hbx], (unhide hnx).2, (by first | rfl | trivial)⟩
        case measure => simp [intOf]; omega
    · have hlt2 : (D : Int) < 2 ^ T := by omega
      have hexit := hide (show db k ≤ n ∧ n < db k + 2 ^ dx k by rw [← hT]; omega)
      have hsl : 0 + k < fixD.length := by rw [fixD_len]; omega
      obtain ⟨ks, hks, hk1, hk15⟩ : ∃ ks : Nat, ln fixD (0 + k) = (ks : Int) ∧ 1 ≤ ks ∧ ks ≤ 15 := by
        have := ln_fixD (0 + k) (by rw [fixD_len] at hsl; exact hsl)
        exact ⟨(ln fixD (0 + k)).toNat, by omega, by omega, by omega⟩
      have hA := hide (show (sbits fixD ((0 + k : Nat) : Int)).length = ks by rw [sbits_n, hks]; simp)
      have sc := hide (fun (Q : Int) (hQ : Q = ((0 + k : Nat) : Int)) => symbol_wr (oo := oo) (oc := oc) (b := b) (N := N) wr.drew fixD (0 + k) ks Q a0 n0 c0 a1 n1 c1 (fun w' f => (unhide HL) w' ((((unhide BB).mono (Nat.le_of_lt hgl)).trans (show Below g wr wr.drew from ⟨rfl, rfl, rfl, Nat.le_refl _, fun _ _ => rfl⟩)).trans f)) hsl hks hk1 hk15 hQ ((unhide st1).later (below_drew wr)) (by omega))
      have hTD := hide (And.intro hT hx)
      clear hT hD hx hpn hks hsl
      generalize hP : (2 : Int) ^ T = P at *
      go_wp2_with fail
      go_region_with (go_at_call 47; refine ((unhide sc) _ (by first | omega | (rw [IntKind.wrap_i64]; omega))).mono ?_; rintro e w2 ⟨rfl, o2, c2, w2r, f2⟩)
      all_goals have fc := hide (field_wr w2 (D : Int) T w2r (by omega) (by omega) (T : Int) rfl)
      all_goals have F2 := hide f2
      all_goals clear w2r f2
      all_goals go_wp2_with fail
      all_goals refine (unhide fc).mono ?_
      all_goals rintro e w3 ⟨rfl, o3, c3, w3r, f3⟩
      all_goals go_wp2_with fail
      all_goals go_end0
      all_goals refine ⟨rfl, k, hk, (unhide hexit).1, (unhide hexit).2, o3, c3, ?_, ((((Gb.of (unhide BB)).fr oo).trans ((Gb.of (below_drew wr)).fr oo)).trans (unhide F2)).trans f3⟩
      all_goals rw [pkF_app, unhide hA, List.length_append, unhide hA, fto_len, ← (unhide hTD).1, (unhide hTD).2, ← Nat.add_assoc]
      all_goals exact w3r
end
end Go.Proofs.Ytmlodlmmfkpibaa
