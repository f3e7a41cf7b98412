/-
  What length and piece, methods of package deflate's writer, do: the bits of a piece are put behind the others. Conditions: the piece may be, at most a million bits.
-/
import Derived.Test.YtmlodlmmfkpibaaDefWr3
import Derived.Test.YtmlodlmmfkpibaaPMem
namespace Go.Proofs.Ytmlodlmmfkpibaa
open Go.RowKit
set_option linter.unusedVariables false
set_option linter.unusedSimpArgs false

/-- The bits of a length, of a distance. -/
def ltx (n : Nat) : List Int := sbits fixL ((257 + lix n : Nat) : Int) ++ fto ((n : Int) - (lb (lix n) : Int)) 0 (lx (lix n))
def dtx (n : Nat) : List Int := sbits fixD ((0 + dix n : Nat) : Int) ++ fto ((n : Int) - (db (dix n) : Int)) 0 (dx (dix n))
theorem ptx_copy {l d : Nat} (h : l ≠ 0) (b : Int) : ptx ⟨(l : Int), (d : Int), b⟩ = ltx l ++ dtx d := by
  unfold ptx ltx dtx
  simp only
  rw [if_neg (by omega), Int.toNat_natCast, Int.toNat_natCast, List.append_assoc, Nat.zero_add]
theorem lix_258 : lix 258 = 28 := if_pos rfl
theorem ltx_258 : ltx 258 = sbits fixL (285 : Int) := by
  have h1 : lx 28 = 0 := by decide
  unfold ltx
  rw [lix_258, h1]
  simp [fto]
theorem lst_le (t : List Nat) (n : Nat) : ∀ K, lst t n K ≤ K
  | 0 => Nat.le_refl _
  | K + 1 => by
    simp only [lst]
    split
    · exact Nat.le_refl _
    · exact Nat.le_succ_of_le (lst_le t n K)
theorem lix_le (n : Nat) : lix n ≤ 28 := by
  unfold lix
  split
  · exact Nat.le_refl _
  · have := lst_le lenB n 27; omega
theorem dix_le (n : Nat) : dix n ≤ 29 := lst_le dstB n 29
theorem lx_le : ∀ k, k ≤ 28 → lx k ≤ 5 := by decide
theorem dx_le : ∀ k, k ≤ 29 → dx k ≤ 13 := by decide
theorem ltx_le (n : Nat) : (ltx n).length ≤ 14 := by
  have h1 := lix_le n
  have h2 := ln_fixL (257 + lix n) (by omega)
  have h3 := lx_le (lix n) h1
  unfold ltx
  rw [List.length_append, sbits_n, fto_len]
  omega
theorem dtx_le (n : Nat) : (dtx n).length ≤ 18 := by
  have h1 := dix_le n
  have h2 := ln_fixD (0 + dix n) (by omega)
  have h3 := dx_le (dix n) h1
  unfold dtx
  rw [List.length_append, sbits_n, fto_len]
  omega
theorem byte_le {b : Int} (h0 : 0 ≤ b) (h1 : b ≤ 255) : (sbits fixL b).length ≤ 9 := by
  obtain ⟨B, rfl⟩ := Int.eq_ofNat_of_zero_le h0
  have := ln_fixL B (by omega)
  rw [sbits_n]
  omega
theorem ptx_le {p : Pc} (hm : may p = true) (h0 : 0 ≤ p.b) (h1 : p.b ≤ 255) : (ptx p).length ≤ 40 := by
  obtain ⟨l, d, b⟩ := p
  by_cases hl : l = 0
  · subst hl
    have := byte_le h0 h1
    unfold ptx
    simp only [if_true]
    exact Nat.le_trans this (by omega)
  · have hc := may_copy hm hl
    simp only at hc
    obtain ⟨L, rfl⟩ := Int.eq_ofNat_of_zero_le (show 0 ≤ l by omega)
    obtain ⟨D, rfl⟩ := Int.eq_ofNat_of_zero_le (show 0 ≤ d by omega)
    rw [ptx_copy (by omega), List.length_append]
    have := ltx_le L
    have := dtx_le D
    omega

section
variable {C : Cv} {g : Nat} {oo : Option Addr} {oc : Nat} {b : List Int} {N : Nat}

theorem Wr.lit {w : World} (h : Wr C g w oo oc b N) : ∀ w', Below g w w' → Is w' C.a0 C.n0 C.c0 fixL ∧ Is w' C.a1 C.n1 C.c1 (cds fixL) := fun w' f => ⟨(h.q.cd w' f).l, (h.q.cd w' f).lc⟩
theorem Wr.dist {w : World} (h : Wr C g w oo oc b N) : ∀ w', Below g w w' → Is w' C.a2 C.n2 C.c2 fixD ∧ Is w' C.a3 C.n3 C.c3 (cds fixD) := fun w' f => ⟨(h.q.cd w' f).d, (h.q.cd w' f).dc⟩
/-- A symbol of the literal code. -/
theorem symL (w : World) (s : Nat) (hs : s < 288) (K : Int) (hK : K = (s : Int)) (h : Wr C g w oo oc b N) (hN : N + 15 ≤ 1000000) :
    Calls Try.prog 47 #[.pointer (some ⟨g, 0, none⟩), .agg #[.slice C.a0 C.n0 C.c0, .slice C.a1 C.n1 C.c1], .int .i64 K] w fun e w' => e = .returned (.tuple #[]) ∧ OutW C g w oo (pkF b N (sbits fixL (s : Int))) (N + (sbits fixL (s : Int)).length) w' := by
  have hl := ln_fixL s hs
  have e : (sbits fixL (s : Int)).length = (ln fixL s).toNat := sbits_n _ _
  rw [e]
  exact symbol_wr w fixL s (ln fixL s).toNat K C.a0 C.n0 C.c0 C.a1 C.n1 C.c1 h.lit (by rw [fixL_len]; exact hs) (by omega) (by omega) (by omega) hK h (by omega)

set_option maxHeartbeats 2000000 in
set_option maxRecDepth 20000 in
theorem length_wr (w : World) (n : Nat) (h3 : 3 ≤ n) (h258 : n ≤ 258) (h : Wr C g w oo oc b N) (hN : N + 60 ≤ 1000000) :
    Calls Try.prog 54 #[.pointer (some ⟨g, 0, none⟩), .int .i64 (n : Int)] w fun e w' => e = .returned (.tuple #[]) ∧ OutW C g w oo (pkF b N (ltx n)) (N + (ltx n).length) w' := by
  have k2 := h.q.k2
  have k3 := h.q.k3
  by_cases hn : n = 258
  · subst hn
    rw [ltx_258]
    have sc := hide (symL w.drew 285 (by omega) 285 rfl (h.later (below_drew w)) (by omega))
    clear h
    go_enter Try.func54, Try.ntmps54
    go_wp2_with fail
    go_region_with (go_at_call 47; refine (unhide sc).mono ?_; rintro e w2 ⟨rfl, o2, c2, w2r, f2⟩)
    all_goals go_wp2_with fail
    all_goals refine bodyPost_ret (results_none rfl _ _ _) rfl ?_
    all_goals exact ⟨rfl, o2, c2, w2r, ((Gb.of (below_drew w)).fr oo).trans f2⟩
  · have hn' : ((n : Int) == 258) = false := by simp; omega
    have wc := hide (within_len w n ((n : Int) - 3) rfl C.a0 C.n0 C.c0 C.a1 C.n1 C.c1 h.lit h3 (by omega) h hN)
    clear h
    go_enter Try.func54, Try.ntmps54
    go_wp2_with fail
    refine (unhide wc).mono ?_
    rintro e w2 ⟨rfl, k, hk, h1, h2, o2, c2, w2r, f2⟩
    have hlx := hide (lix_is hk h1 h2 (by omega))
    clear h1 h2
    go_wp2_with fail
    go_end0
    refine ⟨rfl, o2, c2, ?_, f2⟩
    unfold ltx
    rw [unhide hlx]
    exact w2r

set_option maxHeartbeats 2000000 in
set_option maxRecDepth 20000 in
theorem piece_wr (w : World) (l d x : Int) (hm : may ⟨l, d, x⟩ = true) (x0 : 0 ≤ x) (x1 : x ≤ 255) (h : Wr C g w oo oc b N) (hN : N + 200 ≤ 1000000) :
    Calls Try.prog 46 #[.pointer (some ⟨g, 0, none⟩), .agg #[.int .i64 l, .int .i64 d, .int .u8 x]] w fun e w' => e = .returned (.tuple #[]) ∧ OutW C g w oo (pkF b N (ptx ⟨l, d, x⟩)) (N + (ptx ⟨l, d, x⟩).length) w' := by
  have bb := below_alloc w (.cells #[.int .i64 l, .int .i64 d, .int .u8 x] 25)
  have h1 := h.later bb
  have k2 := h1.q.k2
  have k3 := h1.q.k3
  have k4 := h1.q.k4
  have k5 := h1.q.k5
  have e0 := cell_top w #[.int .i64 l, .int .i64 d, .int .u8 x] 25 0 w.heap.size rfl
  have e1 := cell_top w #[.int .i64 l, .int .i64 d, .int .u8 x] 25 1 w.heap.size rfl
  have e2 := cell_top w #[.int .i64 l, .int .i64 d, .int .u8 x] 25 2 w.heap.size rfl
  have BB := hide bb
  have hgl := h.q.lt
  have hno : ¬ ob oo w.heap.size := fun q => by have := (h.q.out.ob q).2; omega
  by_cases hl : l = 0
  · subst hl
    obtain ⟨X, rfl⟩ := Int.eq_ofNat_of_zero_le x0
    have hp : ptx ⟨0, d, (X : Int)⟩ = sbits fixL (X : Int) := if_pos rfl
    rw [hp]
    have sc := hide (fun (K : Int) (hK : K = (X : Int)) => symL (w.alloc (.cells #[.int .i64 0, .int .i64 d, .int .u8 (X : Int)] 25)).drew X (by omega) K hK (h1.later (below_drew _)) (by omega))
    clear h h1 hp hm bb
    go_enter Try.func46, Try.ntmps46
    go_wp2_with fail
    go_region_with (go_at_call 47; refine ((unhide sc) _ (by first | rfl | omega | (rw [IntKind.wrap_i64]; omega))).mono ?_; rintro e w2 ⟨rfl, o2, c2, w2r, f2⟩)
    all_goals go_wp2_with fail
    all_goals refine bodyPost_ret (results_none rfl _ _ _) rfl ?_
    all_goals exact ⟨rfl, o2, c2, w2r, (((Gb.of (unhide BB)).fr oo).trans ((Gb.of (below_drew _)).fr oo)).trans f2⟩
  · have hc := may_copy hm hl
    simp only at hc
    obtain ⟨L, rfl⟩ := Int.eq_ofNat_of_zero_le (show 0 ≤ l by omega)
    obtain ⟨D, rfl⟩ := Int.eq_ofNat_of_zero_le (show 0 ≤ d by omega)
    have hl' : ((L : Int) == 0) = false := by simp; omega
    have hb : 3 ≤ L ∧ L ≤ 258 ∧ 1 ≤ D ∧ D ≤ 32768 := by omega
    have hp := hide (ptx_copy (l := L) (d := D) (show L ≠ 0 by omega) x)
    have lc := hide (length_wr (w.alloc (.cells #[.int .i64 (L : Int), .int .i64 (D : Int), .int .u8 x] 25)) L hb.1 hb.2.1 h1 (by omega))
    have hll := ltx_le L
    have hst := hide (show (w.alloc (.cells #[.int .i64 (L : Int), .int .i64 (D : Int), .int .u8 x] 25)).heap[w.heap.size]? = _ from heap_alloc_new w _)
    clear hc hl hm h h1 bb
    go_enter Try.func46, Try.ntmps46
    go_wp2_with fail
    refine (unhide lc).mono ?_
    rintro e w2 ⟨rfl, o2, c2, w2r, f2⟩
    have st2 := (f2.block w.heap.size (by simp) (by omega) hno).trans (unhide hst)
    have d1 : w2.cell? ⟨w.heap.size, 1, none⟩ = some (.int .i64 (D : Int)) := by rw [cell_of_row w2 w.heap.size 1 _ _ _ st2]; rfl
    have j4 := w2r.q.k4
    have j5 := w2r.q.k5
    have wc := hide (fun (X : Int) (hX : X = (D : Int) - 1) => within_dst w2.drew D X hX C.a2 C.n2 C.c2 C.a3 C.n3 C.c3 (w2r.later (below_drew w2)).dist hb.2.2.1 (by omega) (w2r.later (below_drew w2)) (by omega))
    have F2 := hide f2
    clear st2 w2r f2
    go_wp2_with fail
    go_region_with (go_at_call 55; refine ((unhide wc) _ (by first | rfl | omega | (rw [IntKind.wrap_i64]; omega))).mono ?_; rintro e w3 ⟨rfl, k, hk, h1, h2, o3, c3, w3r, f3⟩)
    all_goals have hdx := hide (dix_is hk h1 h2)
    all_goals clear h1 h2
    all_goals go_wp2_with fail
    all_goals go_end0
    all_goals refine ⟨rfl, o3, c3, ?_, ((((Gb.of (unhide BB)).fr oo).trans (unhide F2)).trans ((Gb.of (below_drew w2)).fr o2)).trans f3⟩
    all_goals rw [unhide hp, pkF_app, List.length_append, ← Nat.add_assoc]
    all_goals unfold dtx
    all_goals rw [unhide hdx]
    all_goals exact w3r
end
end Go.Proofs.Ytmlodlmmfkpibaa
