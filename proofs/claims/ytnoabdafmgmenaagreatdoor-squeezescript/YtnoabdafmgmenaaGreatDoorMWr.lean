/-
  The writer of package deflate in memory, and what its method bit does: a bit is put behind the others. Conditions: at most a million bits.
  What field and symbol, methods of package deflate's writer, do: bits are put behind the others. Conditions: at most a million bits.
  What within, a method of package deflate's writer, does: a number is put by a symbol and its field. Conditions: at most a million bits.
  What length and piece, methods of package deflate's writer, do: the bits of a piece are put behind the others. Conditions: the piece may be, at most a million bits.
-/
import Derived.Test.YtnoabdafmgmenaaGreatDoorMBit
import Derived.Test.YtnoabdafmgmenaaGreatDoorMMem
import Derived.BigRegion
namespace Go.Proofs.YtnoabdafmgmenaaGreatDoor
open Go.RowKit
set_option linter.unusedVariables false
set_option linter.unusedSimpArgs false

/-- The four slices of the two codes. -/
structure Cv where
  a0 : Option Addr
  n0 : Nat
  c0 : Nat
  a1 : Option Addr
  n1 : Nat
  c1 : Nat
  a2 : Option Addr
  n2 : Nat
  c2 : Nat
  a3 : Option Addr
  n3 : Nat
  c3 : Nat
structure Cdw (C : Cv) (w : World) : Prop where
  l : Is w C.a0 C.n0 C.c0 fixL
  lc : Is w C.a1 C.n1 C.c1 (cds fixL)
  d : Is w C.a2 C.n2 C.c2 fixD
  dc : Is w C.a3 C.n3 C.c3 (cds fixD)
def wv (C : Cv) (oo : Option Addr) (on oc N : Nat) : Array Value := #[.slice oo on oc, .int .i64 (N : Int), .slice C.a0 C.n0 C.c0, .slice C.a1 C.n1 C.c1, .slice C.a2 C.n2 C.c2, .slice C.a3 C.n3 C.c3]

/-- Block g is the writer with N bits; its bytes b lie at oo, with room for oc. -/
structure Wq (C : Cv) (g : Nat) (w : World) (oo : Option Addr) (oc : Nat) (b : List Int) (N : Nat) : Prop where
  st : w.heap[g]? = some (.cells (wv C oo b.length oc N) 129 (0, 0))
  out : Mine (g + 1) w oo b.length oc b
  cd : ∀ w', Below g w w' → Cdw C w'
/-- .. just as many bytes as the bits want. -/
structure Wr (C : Cv) (g : Nat) (w : World) (oo : Option Addr) (oc : Nat) (b : List Int) (N : Nat) : Prop where
  q : Wq C g w oo oc b N
  wst : Wst b N

section
variable {C : Cv} {g : Nat} {w w' : World} {oo : Option Addr} {oc : Nat} {b : List Int} {N : Nat}
theorem Wq.lt (h : Wq C g w oo oc b N) : g < w.heap.size := (Array.getElem?_eq_some_iff.1 h.st).1
theorem Wq.free (h : Wq C g w oo oc b N) (i : Nat) : w.frozen? ⟨g, i, none⟩ = false := frozen_of_row w g i _ _ h.st
theorem Wq.k0 (h : Wq C g w oo oc b N) : w.cell? ⟨g, 0, none⟩ = some (.slice oo b.length oc) := by rw [cell_of_row w g 0 _ _ _ h.st]; rfl
theorem Wq.k1 (h : Wq C g w oo oc b N) : w.cell? ⟨g, 1, none⟩ = some (.int .i64 (N : Int)) := by rw [cell_of_row w g 1 _ _ _ h.st]; rfl
theorem Wq.k2 (h : Wq C g w oo oc b N) : w.cell? ⟨g, 2, none⟩ = some (.slice C.a0 C.n0 C.c0) := by rw [cell_of_row w g 2 _ _ _ h.st]; rfl
theorem Wq.k3 (h : Wq C g w oo oc b N) : w.cell? ⟨g, 3, none⟩ = some (.slice C.a1 C.n1 C.c1) := by rw [cell_of_row w g 3 _ _ _ h.st]; rfl
theorem Wq.k4 (h : Wq C g w oo oc b N) : w.cell? ⟨g, 4, none⟩ = some (.slice C.a2 C.n2 C.c2) := by rw [cell_of_row w g 4 _ _ _ h.st]; rfl
theorem Wq.k5 (h : Wq C g w oo oc b N) : w.cell? ⟨g, 5, none⟩ = some (.slice C.a3 C.n3 C.c3) := by rw [cell_of_row w g 5 _ _ _ h.st]; rfl
theorem Wq.cds (h : Wq C g w oo oc b N) : Cdw C w := h.cd w (Below.refl _ _)
theorem Wq.later (h : Wq C g w oo oc b N) (hb : Below w.heap.size w w') : Wq C g w' oo oc b N :=
  ⟨by rw [hb.block g h.lt]; exact h.st, h.out.later hb, fun w1 f => h.cd w1 ((hb.mono (Nat.le_of_lt h.lt)).trans f)⟩
theorem Wq.no (h : Wq C g w oo oc b N) : ¬ ob oo g := fun q => by have := (h.out.ob q).1; omega
theorem Wq.below (h : Wq C g w oo oc b N) {oo' : Option Addr} (f : Fr g oo w oo' w') : Below g w w' :=
  ⟨f.os, f.tape, f.output, f.size, fun k hk => f.block k (by have := h.lt; omega) (by omega) (fun q => by have := (h.out.ob q).1; omega)⟩
/-- Behind an append the slice is stored. -/
theorem Wq.told (h : Wq C g w oo oc b N) {c : Int} {oo1 : Option Addr} {c1 : Nat} {w1 : World} (hM : Mine (g + 1) w1 oo1 (b.length + 1) c1 (b ++ [c])) (f : Fr g oo w oo1 w1) (hg : w1.heap[g]? = w.heap[g]?) :
    Wq C g (w1.setCell ⟨g, 0, none⟩ (.slice oo1 (b.length + 1) c1)) oo1 c1 (b ++ [c]) N ∧ Fr g oo w oo1 (w1.setCell ⟨g, 0, none⟩ (.slice oo1 (b.length + 1) c1)) := by
  have hb : Below g w w1 := h.below f
  have hb2 : Below g w1 (w1.setCell ⟨g, 0, none⟩ (.slice oo1 (b.length + 1) c1)) := (Below.refl g w1).setCell (by simp) _
  have hst : w1.heap[g]? = some (.cells (wv C oo b.length oc N) 129 (0, 0)) := by rw [hg]; exact h.st
  refine ⟨⟨?_, ?_, fun w2 q => h.cd w2 ((hb.trans hb2).trans q)⟩, f.trans (((Gb.refl g w1).set 0 _).fr oo1)⟩
  · rw [heap_setCell_same w1 g 0 _ _ _ hst]
    simp [wv]
  · rw [List.length_append]
    exact hM.keep fun k hk _ => heap_setCell_other w1 ⟨g, 0, none⟩ k _ (by simp; omega)
/-- A byte of the row is written, and a bit more is counted. -/
theorem Wq.bit {r : Nat} {B : List Int} (h : Wq C g w (some ⟨r, 0, none⟩) oc B N) {b : List Int} (hB : B = room8 b N) (hW : Wst b N) {x : Int} (x0 : 0 ≤ x) (x1 : x ≤ 1) :
    Wr C g ((w.setCell ⟨r, N / 8, none⟩ (.int .u8 (B[N / 8]?.getD 0 + x * 2 ^ (N % 8)))).setCell ⟨g, 1, none⟩ (.int .i64 ((N : Int) + 1))) (some ⟨r, 0, none⟩) oc (putB b N x) (N + 1) ∧
    Fr g (some ⟨r, 0, none⟩) w (some ⟨r, 0, none⟩) ((w.setCell ⟨r, N / 8, none⟩ (.int .u8 (B[N / 8]?.getD 0 + x * 2 ^ (N % 8)))).setCell ⟨g, 1, none⟩ (.int .i64 ((N : Int) + 1))) := by
  subst hB
  have hrb := h.out.block
  have hlen : (putB b N x).length = (room8 b N).length := by simp [putB]
  have hb1 : Below g w (w.setCell ⟨r, N / 8, none⟩ (.int .u8 ((room8 b N)[N / 8]?.getD 0 + x * 2 ^ (N % 8)))) := (Below.refl g w).setCell (by simp; omega) _
  have hb2 : Below g (w.setCell ⟨r, N / 8, none⟩ (.int .u8 ((room8 b N)[N / 8]?.getD 0 + x * 2 ^ (N % 8)))) ((w.setCell ⟨r, N / 8, none⟩ (.int .u8 ((room8 b N)[N / 8]?.getD 0 + x * 2 ^ (N % 8)))).setCell ⟨g, 1, none⟩ (.int .i64 ((N : Int) + 1))) := (Below.refl g _).setCell (by simp) _
  have hst : (w.setCell ⟨r, N / 8, none⟩ (.int .u8 ((room8 b N)[N / 8]?.getD 0 + x * 2 ^ (N % 8)))).heap[g]? = some (.cells (wv C (some ⟨r, 0, none⟩) (room8 b N).length oc N) 129 (0, 0)) := by
    rw [heap_setCell_other w ⟨r, N / 8, none⟩ g _ (by simp; omega)]; exact h.st
  refine ⟨⟨⟨?_, ?_, fun w2 q => h.cd w2 ((hb1.trans hb2).trans q)⟩, hW.put x0 x1⟩, ⟨rfl, rfl, rfl, by simp, fun k hk hn ho => ?_, fun k hk => .inl hk⟩⟩
  · rw [heap_setCell_same _ g 1 _ _ _ hst, hlen]
    simp [wv]
  · rw [hlen]
    exact (put_stored hW h.out x0 x1).keep fun k hk _ => heap_setCell_other _ ⟨g, 1, none⟩ k _ (by simp; omega)
  · rw [heap_setCell_other _ ⟨g, 1, none⟩ k _ (by simp; omega), heap_setCell_other _ ⟨r, N / 8, none⟩ k _ (fun e => ho ⟨_, rfl, e.symm⟩)]
theorem Wr.later (h : Wr C g w oo oc b N) (hb : Below w.heap.size w w') : Wr C g w' oo oc b N := ⟨h.q.later hb, h.wst⟩
theorem Fr.below {oo' : Option Addr} (f : Fr g oo w oo' w') {B : List Int} (h : Mine (g + 1) w oo b.length oc B) (hg : g < w.heap.size) : Below g w w' :=
  ⟨f.os, f.tape, f.output, f.size, fun k hk => f.block k (by omega) (by omega) (fun q => by have := (h.ob q).1; omega)⟩
end

/-- The writer has the bits of b and n more behind a call. -/
def OutW (C : Cv) (g : Nat) (w : World) (oo : Option Addr) (b : List Int) (N : Nat) (w' : World) : Prop := ∃ oo' oc', Wr C g w' oo' oc' b N ∧ Fr g oo w oo' w'

section
variable {C : Cv} {g : Nat} {oo : Option Addr} {oc : Nat} {b : List Int} {N : Nat}
set_option maxHeartbeats 4000000 in
set_option maxRecDepth 20000 in
theorem bit_wr (w : World) (x : Int) (h : Wr C g w oo oc b N) (hN : N ≤ 1000000) :
    Calls Tryz.prog 110 #[.pointer (some ⟨g, 0, none⟩), .int .i64 x] w fun e w' => e = .returned (.tuple #[]) ∧ OutW C g w oo (putB b N (x % 2)) (N + 1) w' := by
  have hX : 0 ≤ x % 2 ∧ x % 2 ≤ 1 := by omega
  have hand := and1_i64 x
  have hW := h.wst
  have hv := put_val hW hX.1 hX.2
  have hra := room8_at hW
  have hrl := hide (room8_len hW)
  have hor := or_u8 _ _ (N % 8) (by omega) hra.1 hra.2 hX.1 hX.2
  have hwl := hide hW.len
  have hbl : b.length ≤ 1000000 := by have := hW.len; omega
  obtain ⟨V, hV⟩ : ∃ V, V = (room8 b N)[N / 8]?.getD 0 := ⟨_, rfl⟩
  rw [← hV] at hra hor hv
  have key := hide (fun (W : World) (r c : Nat) (q : Wq C g W (some ⟨r, 0, none⟩) c (room8 b N) N) => q.bit rfl hW hX.1 hX.2)
  rw [← hV] at key
  have HV := hide hV
  generalize hXX : x % 2 = X at *
  have HXX := hide hXX
  -- what the second part of the walk wants
  have prep : ∀ (W : World) (o1 : Option Addr) (c1 : Nat), Wq C g W o1 c1 (room8 b N) N → ∃ r, o1 = some ⟨r, 0, none⟩ ∧ W.cell? ⟨g, 0, none⟩ = some (.slice (some ⟨r, 0, none⟩) (room8 b N).length c1) ∧ (∀ wx, (Instr.indexAt 31 (.slice (some ⟨r, 0, none⟩) (room8 b N).length c1) (.int .i64 ((N : Int) / 8))).run Tryz.prog wx = .ok (.pointer (some ⟨r, N / 8, none⟩)) wx) ∧ W.cell? ⟨r, N / 8, none⟩ = some (.int .u8 V) ∧ W.frozen? ⟨r, N / 8, none⟩ = false ∧ W.cell? ⟨g, 1, none⟩ = some (.int .i64 (N : Int)) ∧ (∀ u, (W.setCell ⟨r, N / 8, none⟩ u).cell? ⟨g, 1, none⟩ = some (.int .i64 (N : Int))) ∧ ∀ u, (W.setCell ⟨r, N / 8, none⟩ u).frozen? ⟨g, 1, none⟩ = false := by
    intro W o1 c1 q
    have hl := unhide hrl
    obtain ⟨r, rfl⟩ := q.out.some (by omega)
    have hb := q.out.block
    have hne : g ≠ r := by omega
    refine ⟨r, rfl, q.k0, run_idxOwn r _ c1 (show N / 8 < (room8 b N).length by omega) ((N : Int) / 8) (by omega), ?_, q.out.free _, q.k1, fun u => ?_, fun u => ?_⟩
    · rw [mine_cell q.out (show N / 8 < (room8 b N).length by omega), ← unhide HV]
    · rw [World.cell?_of_block (a := ⟨g, 1, none⟩) (w := W) (heap_setCell_other W ⟨r, N / 8, none⟩ g u hne)]; exact q.k1
    · rw [World.frozen?_of_block (a := ⟨g, 1, none⟩) (w := W) (heap_setCell_other W ⟨r, N / 8, none⟩ g u hne)]; exact q.free 1
  have PREP := hide prep
  clear prep
  by_cases h8 : N % 8 = 0
  · have hroom := hide (show room8 b N = b ++ [0] by unfold room8; rw [if_pos h8])
    have h8' : (N : Int) % 8 = 0 := by omega
    have hp1 : X * 2 ^ (N % 8) = X := by rw [h8]; simp
    rw [hp1] at hor key hv
    have k0 := h.q.k0
    have k1 := h.q.k1
    have k1' := cell_later (below_alloc w (.cells #[.int .u8 0] 5)) k1
    have q2 := h.q.later (below_alloc w (.cells #[.int .u8 0] 5))
    have hlt := q2.lt
    have Q2 := hide q2
    clear hp1 h q2 hW hV hXX
    go_enter Tryz.func110, Tryz.ntmps110
    go_wp2_with (at_builtin; refine wpList_appF rfl (.tmp 14) (.tmp 15) rfl (g + 1) oo b.length oc b rfl (unhide Q2).out _ 1 1 [0] rfl (Bs.one w 0 (by omega) (by omega)) (by omega) hlt ?_; intro oo1 c1 w3 hM hgr hsrc; have hg3 : w3.heap[g]? = _ := grown_at hgr hlt (unhide Q2).no; have k0' := (World.cell?_of_block (a := ⟨g, 0, none⟩) hg3).trans (unhide Q2).k0; have f0' := (World.frozen?_of_block (a := ⟨g, 0, none⟩) hg3).trans ((unhide Q2).free 0))
    have told := (unhide Q2).told hM (fr_app hlt hgr hsrc) hg3
    obtain ⟨W2, hW2⟩ : ∃ W2, W2 = w3.setCell ⟨g, 0, none⟩ (.slice oo1 (b.length + 1) c1) := ⟨_, rfl⟩
    rw [← hW2] at told ⊢
    rw [← unhide hroom] at told
    obtain ⟨r, rfl, j0, hix, jc, jf, j1, j1', jf1⟩ := (unhide PREP) W2 oo1 c1 told.1
    have fin := hide ((unhide key) W2 r c1 told.1)
    have FR := hide ((Gb.of (below_alloc w (.cells #[.int .u8 0] 5))).fr oo |>.trans told.2)
    clear told hW2 hM hgr hsrc hg3 k0' f0' k0 k1 k1' hlt
    generalize (room8 b N).length = L at *
    go_region
    all_goals go_wp2_with fail
    all_goals go_end0
    all_goals exact ⟨rfl, some ⟨r, 0, none⟩, c1, (unhide fin).1.later (below_drew _), ((unhide FR).trans (unhide fin).2).drew⟩
  · have h8' : ((N : Int) % 8 == 0) = false := by simp; omega
    have hroom : room8 b N = b := by unfold room8; rw [if_neg h8]
    have q2 : Wq C g w oo oc (room8 b N) N := by rw [hroom]; exact h.q
    clear hW hV hXX h hroom
    obtain ⟨r, rfl, j0, hix, jc, jf, j1, j1', jf1⟩ := (unhide PREP) w oo oc q2
    have fin := hide ((unhide key) w r oc q2)
    generalize hP : X * 2 ^ (N % 8) = PP at *
    clear q2
    generalize (room8 b N).length = L at *
    go_enter Tryz.func110, Tryz.ntmps110
    go_wp2_with fail
    go_region
    all_goals go_wp2_with fail
    all_goals go_end0
    all_goals exact ⟨rfl, some ⟨r, 0, none⟩, oc, (unhide fin).1.later (below_drew _), (unhide fin).2.drew⟩
end
end Go.Proofs.YtnoabdafmgmenaaGreatDoor

namespace Go.Proofs.YtnoabdafmgmenaaGreatDoor
open Go.RowKit
set_option linter.unusedVariables false
set_option linter.unusedSimpArgs false

section
variable {C : Cv} {g : Nat} {oo : Option Addr} {oc : Nat} {b : List Int} {N : Nat}

set_option maxHeartbeats 2000000 in
theorem field_wr (w : World) (x : Int) (n : Nat) (h : Wr C g w oo oc b N) (hN : N + n ≤ 1000000) (hn : n ≤ 20) (X : Int) (hX : X = (n : Int)) :
    Calls Tryz.prog 88 #[.pointer (some ⟨g, 0, none⟩), .int .i64 x, .int .i64 X] w fun e w' => e = .returned (.tuple #[]) ∧ OutW C g w oo (pkF b N (fto x 0 n)) (N + n) w' := by
  subst hX
  obtain ⟨R, hR⟩ : ∃ R, R = pkF b N (fto x 0 n) := ⟨_, rfl⟩
  rw [← hR]
  have HR := hide hR
  have H := hide h
  clear h hR
  go_enter Tryz.func88, Tryz.ntmps88
  go_wp2_with fail
  go_loopw [8] (fun i wr => ∃ (k : Nat) (b' : List Int) (o' : Option Addr) (c' : Nat), k ≤ n ∧ i = .int .i64 (k : Int) ∧ R = pkF b' (N + k) (fto x k (n - k)) ∧ Wr C g wr o' c' b' (N + k) ∧ Fr g oo w o' wr) (fun i _ => n - (intOf i).toNat)
  case atStart => exact ⟨0, b, oo, oc, by omega, rfl, unhide HR, unhide H, Fr.refl _ _ _⟩
  case round =>
    clear HR H
    obtain ⟨k, b', o', c', hk, rfl, hR, hw, hf⟩ := hrel
    by_cases hlt : k < n
    · have hlt' : (k : Int) < (n : Int) := by omega
      obtain ⟨f, hfl⟩ : ∃ f, n - k = f + 1 := ⟨n - k - 1, by omega⟩
      have hnx := hide (show R = pkF (putB b' (N + k) (x / 2 ^ k % 2)) (N + (k + 1)) (fto x (k + 1) (n - (k + 1))) by rw [hR, hfl, show n - (k + 1) = f by omega]; rfl)
      have bc := hide (bit_wr wr (x / 2 ^ k) hw (by omega))
      have HF := hide hf
      clear hR hw hf hfl
      go_wp2_with fail
      refine (unhide bc).mono ?_
      rintro e w1 ⟨rfl, o1, c1, w1r, f1⟩
      go_wp2_with fail
      go_roundw
      case rel => exact ⟨k + 1, _, o1, c1, by omega, by go_num, unhide hnx, w1r, (unhide HF).trans f1⟩
      case measure => simp [intOf]; omega
    · have hkn : k = n := by omega
      subst hkn
      have hfin : R = b' := by rw [hR, Nat.sub_self]; rfl
      have HF := hide hfin
      clear hR hfin
      go_wp2_with fail
      go_end0
      exact ⟨rfl, o', c', by rw [unhide HF]; exact hw, hf⟩

set_option maxHeartbeats 4000000 in
set_option maxRecDepth 20000 in
theorem symbol_wr (w : World) (L : List Int) (s k : Nat) (K : Int) (a0 : Option Addr) (n0 c0 : Nat) (a1 : Option Addr) (n1 c1 : Nat) (hl : ∀ w', Below g w w' → Is w' a0 n0 c0 L ∧ Is w' a1 n1 c1 (cds L)) (hs : s < L.length) (hk : ln L s = (k : Int)) (hk1 : 1 ≤ k) (hk15 : k ≤ 15) (hK : K = (s : Int)) (h : Wr C g w oo oc b N) (hN : N + k ≤ 1000000) :
    Calls Tryz.prog 90 #[.pointer (some ⟨g, 0, none⟩), .agg #[.slice a0 n0 c0, .slice a1 n1 c1], .int .i64 K] w fun e w' => e = .returned (.tuple #[]) ∧ OutW C g w oo (pkF b N (sbits L (s : Int))) (N + k) w' := by
  subst hK
  have hbits : sbits L (s : Int) = bto (code L s) k := by unfold sbits; simp [hk]
  obtain ⟨R, hR⟩ : ∃ R, R = pkF b N (sbits L (s : Int)) := ⟨_, rfl⟩
  rw [← hR]
  rw [hbits] at hR
  have HR := hide hR
  have hgl := h.q.lt
  have i0 := (hl w (Below.refl _ _)).1
  have i1 := (hl w (Below.refl _ _)).2
  have hn0 := i0.len
  have hn1 := i1.len
  rw [cds_len] at hn1
  have le0 := i0.le
  have mx0 := i0.max
  have le1 := i1.le
  have mx1 := i1.max
  have bb := below_alloc w (.cells #[.slice a0 n0 c0, .slice a1 n1 c1] 124)
  have d0 := cell_top w #[.slice a0 n0 c0, .slice a1 n1 c1] 124 0 w.heap.size rfl
  have d1 := cell_top w #[.slice a0 n0 c0, .slice a1 n1 c1] 124 1 w.heap.size rfl
  obtain ⟨ib, io, hix, hcx⟩ := (i0.later bb).idx (show s < n0 by omega) (s : Int) rfl
  rw [show L[s]?.getD 0 = (k : Int) from hk] at hcx
  have h1 := hide (h.later bb)
  have hno : ¬ ob oo w.heap.size := fun q => by have := (h.q.out.ob q).2; omega
  have HNO := hide hno
  obtain ⟨CO, hCO⟩ : ∃ CO, CO = code L s := ⟨_, rfl⟩
  rw [← hCO] at HR
  have hcs : (cds L)[s]?.getD 0 = CO := by rw [hCO]; exact cds_at L hs
  have HCS := hide hcs
  have hsn1 : s < n1 := by omega
  have HL := hide hl
  have hout := hide h.q.out
  clear hR hbits h hl i0 i1 hno hcs hCO hn0 hn1 hk hs
  go_enter Tryz.func90, Tryz.ntmps90
  go_wp2_with fail
  go_loopw [6] (fun i wr => ∃ (j : Nat) (b' : List Int) (o' : Option Addr) (c' : Nat), j ≤ k ∧ i = .int .i64 ((j : Int) - 1) ∧ R = pkF b' (N + (k - j)) (bto CO j) ∧ Wr C g wr o' c' b' (N + (k - j)) ∧ Fr g oo w o' wr ∧ ¬ ob o' w.heap.size ∧ wr.heap[w.heap.size]? = some (.cells #[.slice a0 n0 c0, .slice a1 n1 c1] 124 (0, 0))) (fun i _ => (intOf i + 1).toNat)
  case atStart => exact ⟨k, b, oo, oc, Nat.le_refl _, rfl, by rw [Nat.sub_self]; exact unhide HR, by rw [Nat.sub_self]; exact unhide h1, (Gb.of bb).fr oo, unhide HNO, heap_alloc_new w _⟩
  case round =>
    clear HR h1 HNO d0 d1 hix hcx
    obtain ⟨j, b', o', c', hj, rfl, hR, hw, hf, hno, hst⟩ := hrel
    by_cases h0 : j = 0
    · subst h0
      have HF := hide (show R = b' from hR)
      rw [Nat.sub_zero] at hw
      clear hR
      go_wp2_with fail
      go_end0
      exact ⟨rfl, o', c', by rw [unhide HF]; exact hw, hf⟩
    · obtain ⟨J, rfl⟩ : ∃ J, j = J + 1 := ⟨j - 1, by omega⟩
      rw [show (((J + 1 : Nat) : Int) - 1) = (J : Int) by omega]
      have d1 : wr.cell? ⟨w.heap.size, 1, none⟩ = some (.slice a1 n1 c1) := by rw [cell_of_row wr w.heap.size 1 _ _ _ hst]; rfl
      have bw : Below g w wr := hf.below (unhide hout) hgl
      have is1 := (unhide HL wr bw).2
      obtain ⟨ib, io, hix, hcx⟩ := is1.idx hsn1 (s : Int) rfl
      rw [unhide HCS] at hcx
      have hnx := hide (show R = pkF (putB b' (N + (k - (J + 1))) (CO / 2 ^ J % 2)) (N + (k - J)) (bto CO J) by rw [hR, show N + (k - J) = N + (k - (J + 1)) + 1 by omega]; rfl)
      have bc := hide (bit_wr wr (CO / 2 ^ J) hw (by omega))
      have HF := hide hf
      have hlt : w.heap.size < wr.heap.size := (Array.getElem?_eq_some_iff.1 hst).1
      have HST := hide hst
      have HN := hide hno
      have hJ0 : (0 : Int) ≤ (J : Int) := by omega
      clear hR hw hf hst hno is1 bw h0
      go_wp2_with fail
      refine (unhide bc).mono ?_
      rintro e w1 ⟨rfl, o1, c1', w1r, f1⟩
      have st1 := hide ((f1.block w.heap.size hlt (by omega) (unhide HN)).trans (unhide HST))
      have no1 := hide (fun q => (f1.src w.heap.size q).elim (unhide HN) (fun z => by omega))
      go_wp2_with fail
      go_roundw
      case rel => exact ⟨J, _, o1, c1', by omega, by go_num, unhide hnx, by rw [show N + (k - J) = N + (k - (J + 1)) + 1 by omega]; exact w1r, (unhide HF).trans f1, unhide no1, unhide st1⟩
      case measure => simp [intOf]
end
end Go.Proofs.YtnoabdafmgmenaaGreatDoor

namespace Go.Proofs.YtnoabdafmgmenaaGreatDoor
open Go.RowKit
set_option linter.unusedVariables false
set_option linter.unusedSimpArgs false

theorem two13 {m : Nat} (h : m ≤ 13) : 1 ≤ (2 : Int) ^ m ∧ (2 : Int) ^ m ≤ 8192 := by
  refine ⟨Int.pow_pos (by omega), ?_⟩
  have := Nat.pow_le_pow_right (show 0 < 2 by omega) h
  have h2 : (2 : Int) ^ m ≤ 2 ^ 13 := by exact_mod_cast this
  omega

section
variable {C : Cv} {g : Nat} {oo : Option Addr} {oc : Nat} {b : List Int} {N : Nat}

set_option maxHeartbeats 4000000 in
set_option maxRecDepth 20000 in
theorem within_len (w : World) (n : Nat) (X : Int) (hX : X = (n : Int) - 3) (a0 : Option Addr) (n0 c0 : Nat) (a1 : Option Addr) (n1 c1 : Nat) (hl : ∀ w', Below g w w' → Is w' a0 n0 c0 fixL ∧ Is w' a1 n1 c1 (cds fixL)) (h0 : 3 ≤ n) (h1 : n < 259) (h : Wr C g w oo oc b N) (hN : N + 60 ≤ 1000000) :
    Calls Tryz.prog 112 #[.pointer (some ⟨g, 0, none⟩), .agg #[.slice a0 n0 c0, .slice a1 n1 c1], .int .i64 257, .int .i64 X, .int .i64 4] w fun e w' => e = .returned (.tuple #[]) ∧ ∃ k, k ≤ 27 ∧ lb k ≤ n ∧ n < lb k + 2 ^ lx k ∧ OutW C g w oo (pkF b N (sbits fixL ((257 + k : Nat) : Int) ++ fto ((n : Int) - (lb k : Int)) 0 (lx k))) (N + (sbits fixL ((257 + k : Nat) : Int) ++ fto ((n : Int) - (lb k : Int)) 0 (lx k)).length) w' := by
  subst hX
  have hgl := h.q.lt
  have bb := below_alloc w (.cells #[.slice a0 n0 c0, .slice a1 n1 c1] 124)
  have e0 := cell_top w #[.slice a0 n0 c0, .slice a1 n1 c1] 124 0 w.heap.size rfl
  have e1 := cell_top w #[.slice a0 n0 c0, .slice a1 n1 c1] 124 1 w.heap.size rfl
  have st1 := hide (h.later bb)
  have HL := hide hl
  have hout := hide h.q.out
  have BB := hide bb
  clear h hl bb
  go_enter Tryz.func112, Tryz.ntmps112
  go_wp2_with fail
  obtain ⟨W, hW⟩ : ∃ W, W = w.alloc (.cells #[.slice a0 n0 c0, .slice a1 n1 c1] 124) := ⟨_, rfl⟩
  rw [← hW] at e0 e1 st1 BB
  simp only [← hW]
  have zW : W.heap.size = w.heap.size + 1 := by rw [hW]; simp
  have ZW := hide zW
  clear hW zW
  go_loopw [3, 10, 11] (fun x s bt wr => ∃ k : Nat, k ≤ 27 ∧ x = .int .i64 ((n : Int) - (lb k : Int)) ∧ s = .int .i64 (k : Int) ∧ bt = .int .i64 (lx k : Int) ∧ lb k ≤ n ∧ wr = W) (fun _ s _ _ => 27 - (intOf s).toNat)
  case atStart => exact ⟨0, by omega, rfl, rfl, rfl, h0, rfl⟩
  case round =>
    obtain ⟨k, hk, rfl, rfl, rfl, hkn, rfl⟩ := hrel
    obtain ⟨T, hT⟩ : ∃ T, T = lx k := ⟨_, rfl⟩
    have hT13 : T ≤ 13 := by rw [hT, lx_is k (by omega)]; omega
    obtain ⟨D, hD⟩ : ∃ D : Nat, lb k + D = n := ⟨n - lb k, by omega⟩
    have hx : (n : Int) - (lb k : Int) = (D : Int) := by omega
    rw [hx, ← hT]
    have hp := two13 hT13
    have hpn : ((2 ^ T : Nat) : Int) = (2 : Int) ^ T := by rw [Int.natCast_pow]; rfl
    by_cases hlt : (2 : Int) ^ T ≤ (D : Int)
    · have hkt : k < 27 := by
        by_cases he : k = 27
        · exfalso
          subst he
          have : lb 27 + 2 ^ lx 27 = 259 := by decide
          rw [← hT] at this
          omega
        · omega
      have hstp := lb_step k (by omega)
      rw [← hT] at hstp
      have hnx := hide (show (D : Int) - 2 ^ T = (n : Int) - (lb (k + 1) : Int) ∧ lb (k + 1) ≤ n by omega)
      have htx := hide (lx_is (k + 1) (by omega))
      have hD5 : D ≤ 100000 := by omega
      generalize hP : (2 : Int) ^ T = P at *
      have HS := hide hstp
      have HT := hide hT
      have HD := hide hD
      clear hT hD hx hstp hpn
      by_cases hq : 0 < ((k : Int) + 1) / 4 - 1
      · have hbx := hide (show ((k : Int) + 1) / 4 - 1 = (lx (k + 1) : Int) by rw [unhide htx]; omega)
        go_wp2_with fail
        go_roundw
        case rel => exact ⟨k + 1, by omega, by rw [← (unhide hnx).1], by go_num, by rw [← unhide hbx], (unhide hnx).2, (by first | rfl | trivial)⟩
        case measure => simp [intOf]; omega
      · have hbx := hide (show (0 : Int) = (lx (k + 1) : Int) by rw [unhide htx]; omega)
        go_wp2_with fail
        go_roundw
        case rel => exact ⟨k + 1, by omega, by rw [← (unhide hnx).1], by go_num, by rw [← unhide hbx], (unhide hnx).2, (by first | rfl | trivial)⟩
        case measure => simp [intOf]; omega
    · have hlt2 : (D : Int) < 2 ^ T := by omega
      have hexit := hide (show lb k ≤ n ∧ n < lb k + 2 ^ lx k by rw [← hT]; omega)
      have hsl : 257 + k < fixL.length := by rw [fixL_len]; omega
      obtain ⟨ks, hks, hk1, hk15⟩ : ∃ ks : Nat, ln fixL (257 + k) = (ks : Int) ∧ 1 ≤ ks ∧ ks ≤ 15 := by
        have := ln_fixL (257 + k) (by rw [fixL_len] at hsl; exact hsl)
        exact ⟨(ln fixL (257 + k)).toNat, by omega, by omega, by omega⟩
      have hA := hide (show (sbits fixL ((257 + k : Nat) : Int)).length = ks by rw [sbits_n, hks]; simp)
      have sc := hide (fun (Q : Int) (hQ : Q = ((257 + k : Nat) : Int)) => symbol_wr (oo := oo) (oc := oc) (b := b) (N := N) wr.drew fixL (257 + k) ks Q a0 n0 c0 a1 n1 c1 (fun w' f => (unhide HL) w' ((((unhide BB).mono (Nat.le_of_lt hgl)).trans (show Below g wr wr.drew from ⟨rfl, rfl, rfl, Nat.le_refl _, fun _ _ => rfl⟩)).trans f)) hsl hks hk1 hk15 hQ ((unhide st1).later (below_drew wr)) (by omega))
      have hTD := hide (And.intro hT hx)
      clear hT hD hx hpn hks hsl
      generalize hP : (2 : Int) ^ T = P at *
      go_wp2_with fail
      go_region_with (go_at_call 90; refine ((unhide sc) _ (by first | omega | (rw [IntKind.wrap_i64]; omega))).mono ?_; rintro e w2 ⟨rfl, o2, c2, w2r, f2⟩)
      all_goals have fc := hide (field_wr w2 (D : Int) T w2r (by omega) (by omega) (T : Int) rfl)
      all_goals have F2 := hide f2
      all_goals clear w2r f2
      all_goals go_wp2_with fail
      all_goals refine (unhide fc).mono ?_
      all_goals rintro e w3 ⟨rfl, o3, c3, w3r, f3⟩
      all_goals go_wp2_with fail
      all_goals go_end0
      all_goals refine ⟨rfl, k, hk, (unhide hexit).1, (unhide hexit).2, o3, c3, ?_, ((((Gb.of (unhide BB)).fr oo).trans ((Gb.of (below_drew wr)).fr oo)).trans (unhide F2)).trans f3⟩
      all_goals rw [pkF_app, unhide hA, List.length_append, unhide hA, fto_len, ← (unhide hTD).1, (unhide hTD).2, ← Nat.add_assoc]
      all_goals exact w3r

set_option maxHeartbeats 4000000 in
set_option maxRecDepth 20000 in
theorem within_dst (w : World) (n : Nat) (X : Int) (hX : X = (n : Int) - 1) (a0 : Option Addr) (n0 c0 : Nat) (a1 : Option Addr) (n1 c1 : Nat) (hl : ∀ w', Below g w w' → Is w' a0 n0 c0 fixD ∧ Is w' a1 n1 c1 (cds fixD)) (h0 : 1 ≤ n) (h1 : n < 32769) (h : Wr C g w oo oc b N) (hN : N + 60 ≤ 1000000) :
    Calls Tryz.prog 112 #[.pointer (some ⟨g, 0, none⟩), .agg #[.slice a0 n0 c0, .slice a1 n1 c1], .int .i64 0, .int .i64 X, .int .i64 2] w fun e w' => e = .returned (.tuple #[]) ∧ ∃ k, k ≤ 29 ∧ db k ≤ n ∧ n < db k + 2 ^ dx k ∧ OutW C g w oo (pkF b N (sbits fixD ((0 + k : Nat) : Int) ++ fto ((n : Int) - (db k : Int)) 0 (dx k))) (N + (sbits fixD ((0 + k : Nat) : Int) ++ fto ((n : Int) - (db k : Int)) 0 (dx k)).length) w' := by
  subst hX
  have hgl := h.q.lt
  have bb := below_alloc w (.cells #[.slice a0 n0 c0, .slice a1 n1 c1] 124)
  have e0 := cell_top w #[.slice a0 n0 c0, .slice a1 n1 c1] 124 0 w.heap.size rfl
  have e1 := cell_top w #[.slice a0 n0 c0, .slice a1 n1 c1] 124 1 w.heap.size rfl
  have st1 := hide (h.later bb)
  have HL := hide hl
  have hout := hide h.q.out
  have BB := hide bb
  clear h hl bb
  go_enter Tryz.func112, Tryz.ntmps112
  go_wp2_with fail
  obtain ⟨W, hW⟩ : ∃ W, W = w.alloc (.cells #[.slice a0 n0 c0, .slice a1 n1 c1] 124) := ⟨_, rfl⟩
  rw [← hW] at e0 e1 st1 BB
  simp only [← hW]
  have zW : W.heap.size = w.heap.size + 1 := by rw [hW]; simp
  have ZW := hide zW
  clear hW zW
  go_loopw [3, 10, 11] (fun x s bt wr => ∃ k : Nat, k ≤ 29 ∧ x = .int .i64 ((n : Int) - (db k : Int)) ∧ s = .int .i64 (k : Int) ∧ bt = .int .i64 (dx k : Int) ∧ db k ≤ n ∧ wr = W) (fun _ s _ _ => 29 - (intOf s).toNat)
  case atStart => exact ⟨0, by omega, rfl, rfl, rfl, h0, rfl⟩
  case round =>
    obtain ⟨k, hk, rfl, rfl, rfl, hkn, rfl⟩ := hrel
    obtain ⟨T, hT⟩ : ∃ T, T = dx k := ⟨_, rfl⟩
    have hT13 : T ≤ 13 := by rw [hT, dx_is k (by omega)]; omega
    obtain ⟨D, hD⟩ : ∃ D : Nat, db k + D = n := ⟨n - db k, by omega⟩
    have hx : (n : Int) - (db k : Int) = (D : Int) := by omega
    rw [hx, ← hT]
    have hp := two13 hT13
    have hpn : ((2 ^ T : Nat) : Int) = (2 : Int) ^ T := by rw [Int.natCast_pow]; rfl
    by_cases hlt : (2 : Int) ^ T ≤ (D : Int)
    · have hkt : k < 29 := by
        by_cases he : k = 29
        · exfalso
          subst he
          have : db 29 + 2 ^ dx 29 = 32769 := by decide
          rw [← hT] at this
          omega
        · omega
      have hstp := db_step k (by omega)
      rw [← hT] at hstp
      have hnx := hide (show (D : Int) - 2 ^ T = (n : Int) - (db (k + 1) : Int) ∧ db (k + 1) ≤ n by omega)
      have htx := hide (dx_is (k + 1) (by omega))
      have hD5 : D ≤ 100000 := by omega
      generalize hP : (2 : Int) ^ T = P at *
      have HS := hide hstp
      have HT := hide hT
      have HD := hide hD
      clear hT hD hx hstp hpn
      by_cases hq : 0 < ((k : Int) + 1) / 2 - 1
      · have hbx := hide (show ((k : Int) + 1) / 2 - 1 = (dx (k + 1) : Int) by rw [unhide htx]; omega)
        go_wp2_with fail
        go_roundw
        case rel => exact ⟨k + 1, by omega, by rw [← (unhide hnx).1], by go_num, by rw [← unhide hbx], (unhide hnx).2, (by first | rfl | trivial)⟩
        case measure => simp [intOf]; omega
      · have hbx := hide (show (0 : Int) = (dx (k + 1) : Int) by rw [unhide htx]; omega)
        go_wp2_with fail
        go_roundw
        case rel => exact ⟨k + 1, by omega, by rw [← (unhide hnx).1], by go_num, by rw [← unhide hbx], (unhide hnx).2, (by first | rfl | trivial)⟩
        case measure => simp [intOf]; omega
    · have hlt2 : (D : Int) < 2 ^ T := by omega
      have hexit := hide (show db k ≤ n ∧ n < db k + 2 ^ dx k by rw [← hT]; omega)
      have hsl : 0 + k < fixD.length := by rw [fixD_len]; omega
      obtain ⟨ks, hks, hk1, hk15⟩ : ∃ ks : Nat, ln fixD (0 + k) = (ks : Int) ∧ 1 ≤ ks ∧ ks ≤ 15 := by
        have := ln_fixD (0 + k) (by rw [fixD_len] at hsl; exact hsl)
        exact ⟨(ln fixD (0 + k)).toNat, by omega, by omega, by omega⟩
      have hA := hide (show (sbits fixD ((0 + k : Nat) : Int)).length = ks by rw [sbits_n, hks]; simp)
      have sc := hide (fun (Q : Int) (hQ : Q = ((0 + k : Nat) : Int)) => symbol_wr (oo := oo) (oc := oc) (b := b) (N := N) wr.drew fixD (0 + k) ks Q a0 n0 c0 a1 n1 c1 (fun w' f => (unhide HL) w' ((((unhide BB).mono (Nat.le_of_lt hgl)).trans (show Below g wr wr.drew from ⟨rfl, rfl, rfl, Nat.le_refl _, fun _ _ => rfl⟩)).trans f)) hsl hks hk1 hk15 hQ ((unhide st1).later (below_drew wr)) (by omega))
      have hTD := hide (And.intro hT hx)
      clear hT hD hx hpn hks hsl
      generalize hP : (2 : Int) ^ T = P at *
      go_wp2_with fail
      go_region_with (go_at_call 90; refine ((unhide sc) _ (by first | omega | (rw [IntKind.wrap_i64]; omega))).mono ?_; rintro e w2 ⟨rfl, o2, c2, w2r, f2⟩)
      all_goals have fc := hide (field_wr w2 (D : Int) T w2r (by omega) (by omega) (T : Int) rfl)
      all_goals have F2 := hide f2
      all_goals clear w2r f2
      all_goals go_wp2_with fail
      all_goals refine (unhide fc).mono ?_
      all_goals rintro e w3 ⟨rfl, o3, c3, w3r, f3⟩
      all_goals go_wp2_with fail
      all_goals go_end0
      all_goals refine ⟨rfl, k, hk, (unhide hexit).1, (unhide hexit).2, o3, c3, ?_, ((((Gb.of (unhide BB)).fr oo).trans ((Gb.of (below_drew wr)).fr oo)).trans (unhide F2)).trans f3⟩
      all_goals rw [pkF_app, unhide hA, List.length_append, unhide hA, fto_len, ← (unhide hTD).1, (unhide hTD).2, ← Nat.add_assoc]
      all_goals exact w3r
end
end Go.Proofs.YtnoabdafmgmenaaGreatDoor

namespace Go.Proofs.YtnoabdafmgmenaaGreatDoor
open Go.RowKit
set_option linter.unusedVariables false
set_option linter.unusedSimpArgs false

/-- The bits of a length, of a distance. -/
def ltx (n : Nat) : List Int := sbits fixL ((257 + lix n : Nat) : Int) ++ fto ((n : Int) - (lb (lix n) : Int)) 0 (lx (lix n))
def dtx (n : Nat) : List Int := sbits fixD ((0 + dix n : Nat) : Int) ++ fto ((n : Int) - (db (dix n) : Int)) 0 (dx (dix n))
theorem ptx_copy {l d : Nat} (h : l ≠ 0) (b : Int) : ptx ⟨(l : Int), (d : Int), b⟩ = ltx l ++ dtx d := by
  unfold ptx ltx dtx
  simp only
  rw [if_neg (by omega), Int.toNat_natCast, Int.toNat_natCast, List.append_assoc, Nat.zero_add]
theorem lix_258 : lix 258 = 28 := if_pos rfl
theorem ltx_258 : ltx 258 = sbits fixL (285 : Int) := by
  have h1 : lx 28 = 0 := by decide
  unfold ltx
  rw [lix_258, h1]
  simp [fto]
theorem lst_le (t : List Nat) (n : Nat) : ∀ K, lst t n K ≤ K
  | 0 => Nat.le_refl _
  | K + 1 => by
    simp only [lst]
    split
    · exact Nat.le_refl _
    · exact Nat.le_succ_of_le (lst_le t n K)
theorem lix_le (n : Nat) : lix n ≤ 28 := by
  unfold lix
  split
  · exact Nat.le_refl _
  · have := lst_le lenB n 27; omega
theorem dix_le (n : Nat) : dix n ≤ 29 := lst_le dstB n 29
theorem lx_le : ∀ k, k ≤ 28 → lx k ≤ 5 := by decide
theorem dx_le : ∀ k, k ≤ 29 → dx k ≤ 13 := by decide
theorem ltx_le (n : Nat) : (ltx n).length ≤ 14 := by
  have h1 := lix_le n
  have h2 := ln_fixL (257 + lix n) (by omega)
  have h3 := lx_le (lix n) h1
  unfold ltx
  rw [List.length_append, sbits_n, fto_len]
  omega
theorem dtx_le (n : Nat) : (dtx n).length ≤ 18 := by
  have h1 := dix_le n
  have h2 := ln_fixD (0 + dix n) (by omega)
  have h3 := dx_le (dix n) h1
  unfold dtx
  rw [List.length_append, sbits_n, fto_len]
  omega
theorem byte_le {b : Int} (h0 : 0 ≤ b) (h1 : b ≤ 255) : (sbits fixL b).length ≤ 9 := by
  obtain ⟨B, rfl⟩ := Int.eq_ofNat_of_zero_le h0
  have := ln_fixL B (by omega)
  rw [sbits_n]
  omega
theorem ptx_le {p : Pc} (hm : may p = true) (h0 : 0 ≤ p.b) (h1 : p.b ≤ 255) : (ptx p).length ≤ 40 := by
  obtain ⟨l, d, b⟩ := p
  by_cases hl : l = 0
  · subst hl
    have := byte_le h0 h1
    unfold ptx
    simp only [if_true]
    exact Nat.le_trans this (by omega)
  · have hc := may_copy hm hl
    simp only at hc
    obtain ⟨L, rfl⟩ := Int.eq_ofNat_of_zero_le (show 0 ≤ l by omega)
    obtain ⟨D, rfl⟩ := Int.eq_ofNat_of_zero_le (show 0 ≤ d by omega)
    rw [ptx_copy (by omega), List.length_append]
    have := ltx_le L
    have := dtx_le D
    omega

section
variable {C : Cv} {g : Nat} {oo : Option Addr} {oc : Nat} {b : List Int} {N : Nat}

theorem Wr.lit {w : World} (h : Wr C g w oo oc b N) : ∀ w', Below g w w' → Is w' C.a0 C.n0 C.c0 fixL ∧ Is w' C.a1 C.n1 C.c1 (cds fixL) := fun w' f => ⟨(h.q.cd w' f).l, (h.q.cd w' f).lc⟩
theorem Wr.dist {w : World} (h : Wr C g w oo oc b N) : ∀ w', Below g w w' → Is w' C.a2 C.n2 C.c2 fixD ∧ Is w' C.a3 C.n3 C.c3 (cds fixD) := fun w' f => ⟨(h.q.cd w' f).d, (h.q.cd w' f).dc⟩
/-- A symbol of the literal code. -/
theorem symL (w : World) (s : Nat) (hs : s < 288) (K : Int) (hK : K = (s : Int)) (h : Wr C g w oo oc b N) (hN : N + 15 ≤ 1000000) :
    Calls Tryz.prog 90 #[.pointer (some ⟨g, 0, none⟩), .agg #[.slice C.a0 C.n0 C.c0, .slice C.a1 C.n1 C.c1], .int .i64 K] w fun e w' => e = .returned (.tuple #[]) ∧ OutW C g w oo (pkF b N (sbits fixL (s : Int))) (N + (sbits fixL (s : Int)).length) w' := by
  have hl := ln_fixL s hs
  have e : (sbits fixL (s : Int)).length = (ln fixL s).toNat := sbits_n _ _
  rw [e]
  exact symbol_wr w fixL s (ln fixL s).toNat K C.a0 C.n0 C.c0 C.a1 C.n1 C.c1 h.lit (by rw [fixL_len]; exact hs) (by omega) (by omega) (by omega) hK h (by omega)

set_option maxHeartbeats 2000000 in
set_option maxRecDepth 20000 in
theorem length_wr (w : World) (n : Nat) (h3 : 3 ≤ n) (h258 : n ≤ 258) (h : Wr C g w oo oc b N) (hN : N + 60 ≤ 1000000) :
    Calls Tryz.prog 111 #[.pointer (some ⟨g, 0, none⟩), .int .i64 (n : Int)] w fun e w' => e = .returned (.tuple #[]) ∧ OutW C g w oo (pkF b N (ltx n)) (N + (ltx n).length) w' := by
  have k2 := h.q.k2
  have k3 := h.q.k3
  by_cases hn : n = 258
  · subst hn
    rw [ltx_258]
    have sc := hide (symL w.drew 285 (by omega) 285 rfl (h.later (below_drew w)) (by omega))
    clear h
    go_enter Tryz.func111, Tryz.ntmps111
    go_wp2_with fail
    go_region_with (go_at_call 90; refine (unhide sc).mono ?_; rintro e w2 ⟨rfl, o2, c2, w2r, f2⟩)
    all_goals go_wp2_with fail
    all_goals refine bodyPost_ret (results_none rfl _ _ _) rfl ?_
    all_goals exact ⟨rfl, o2, c2, w2r, ((Gb.of (below_drew w)).fr oo).trans f2⟩
  · have hn' : ((n : Int) == 258) = false := by simp; omega
    have wc := hide (within_len w n ((n : Int) - 3) rfl C.a0 C.n0 C.c0 C.a1 C.n1 C.c1 h.lit h3 (by omega) h hN)
    clear h
    go_enter Tryz.func111, Tryz.ntmps111
    go_wp2_with fail
    refine (unhide wc).mono ?_
    rintro e w2 ⟨rfl, k, hk, h1, h2, o2, c2, w2r, f2⟩
    have hlx := hide (lix_is hk h1 h2 (by omega))
    clear h1 h2
    go_wp2_with fail
    go_end0
    refine ⟨rfl, o2, c2, ?_, f2⟩
    unfold ltx
    rw [unhide hlx]
    exact w2r

set_option maxHeartbeats 2000000 in
set_option maxRecDepth 20000 in
theorem piece_wr (w : World) (l d x : Int) (hm : may ⟨l, d, x⟩ = true) (x0 : 0 ≤ x) (x1 : x ≤ 255) (h : Wr C g w oo oc b N) (hN : N + 200 ≤ 1000000) :
    Calls Tryz.prog 89 #[.pointer (some ⟨g, 0, none⟩), .agg #[.int .i64 l, .int .i64 d, .int .u8 x]] w fun e w' => e = .returned (.tuple #[]) ∧ OutW C g w oo (pkF b N (ptx ⟨l, d, x⟩)) (N + (ptx ⟨l, d, x⟩).length) w' := by
  have bb := below_alloc w (.cells #[.int .i64 l, .int .i64 d, .int .u8 x] 132)
  have h1 := h.later bb
  have k2 := h1.q.k2
  have k3 := h1.q.k3
  have k4 := h1.q.k4
  have k5 := h1.q.k5
  have e0 := cell_top w #[.int .i64 l, .int .i64 d, .int .u8 x] 132 0 w.heap.size rfl
  have e1 := cell_top w #[.int .i64 l, .int .i64 d, .int .u8 x] 132 1 w.heap.size rfl
  have e2 := cell_top w #[.int .i64 l, .int .i64 d, .int .u8 x] 132 2 w.heap.size rfl
  have BB := hide bb
  have hgl := h.q.lt
  have hno : ¬ ob oo w.heap.size := fun q => by have := (h.q.out.ob q).2; omega
  by_cases hl : l = 0
  · subst hl
    obtain ⟨X, rfl⟩ := Int.eq_ofNat_of_zero_le x0
    have hp : ptx ⟨0, d, (X : Int)⟩ = sbits fixL (X : Int) := if_pos rfl
    rw [hp]
    have sc := hide (fun (K : Int) (hK : K = (X : Int)) => symL (w.alloc (.cells #[.int .i64 0, .int .i64 d, .int .u8 (X : Int)] 132)).drew X (by omega) K hK (h1.later (below_drew _)) (by omega))
    clear h h1 hp hm bb
    go_enter Tryz.func89, Tryz.ntmps89
    go_wp2_with fail
    go_region_with (go_at_call 90; refine ((unhide sc) _ (by first | rfl | omega | (rw [IntKind.wrap_i64]; omega))).mono ?_; rintro e w2 ⟨rfl, o2, c2, w2r, f2⟩)
    all_goals go_wp2_with fail
    all_goals refine bodyPost_ret (results_none rfl _ _ _) rfl ?_
    all_goals exact ⟨rfl, o2, c2, w2r, (((Gb.of (unhide BB)).fr oo).trans ((Gb.of (below_drew _)).fr oo)).trans f2⟩
  · have hc := may_copy hm hl
    simp only at hc
    obtain ⟨L, rfl⟩ := Int.eq_ofNat_of_zero_le (show 0 ≤ l by omega)
    obtain ⟨D, rfl⟩ := Int.eq_ofNat_of_zero_le (show 0 ≤ d by omega)
    have hl' : ((L : Int) == 0) = false := by simp; omega
    have hb : 3 ≤ L ∧ L ≤ 258 ∧ 1 ≤ D ∧ D ≤ 32768 := by omega
    have hp := hide (ptx_copy (l := L) (d := D) (show L ≠ 0 by omega) x)
    have lc := hide (length_wr (w.alloc (.cells #[.int .i64 (L : Int), .int .i64 (D : Int), .int .u8 x] 132)) L hb.1 hb.2.1 h1 (by omega))
    have hll := ltx_le L
    have hst := hide (show (w.alloc (.cells #[.int .i64 (L : Int), .int .i64 (D : Int), .int .u8 x] 132)).heap[w.heap.size]? = _ from heap_alloc_new w _)
    clear hc hl hm h h1 bb
    go_enter Tryz.func89, Tryz.ntmps89
    go_wp2_with fail
    refine (unhide lc).mono ?_
    rintro e w2 ⟨rfl, o2, c2, w2r, f2⟩
    have st2 := (f2.block w.heap.size (by simp) (by omega) hno).trans (unhide hst)
    have d1 : w2.cell? ⟨w.heap.size, 1, none⟩ = some (.int .i64 (D : Int)) := by rw [cell_of_row w2 w.heap.size 1 _ _ _ st2]; rfl
    have j4 := w2r.q.k4
    have j5 := w2r.q.k5
    have wc := hide (fun (X : Int) (hX : X = (D : Int) - 1) => within_dst w2.drew D X hX C.a2 C.n2 C.c2 C.a3 C.n3 C.c3 (w2r.later (below_drew w2)).dist hb.2.2.1 (by omega) (w2r.later (below_drew w2)) (by omega))
    have F2 := hide f2
    clear st2 w2r f2
    go_wp2_with fail
    go_region_with (go_at_call 112; refine ((unhide wc) _ (by first | rfl | omega | (rw [IntKind.wrap_i64]; omega))).mono ?_; rintro e w3 ⟨rfl, k, hk, h1, h2, o3, c3, w3r, f3⟩)
    all_goals have hdx := hide (dix_is hk h1 h2)
    all_goals clear h1 h2
    all_goals go_wp2_with fail
    all_goals go_end0
    all_goals refine ⟨rfl, o3, c3, ?_, ((((Gb.of (unhide BB)).fr oo).trans (unhide F2)).trans ((Gb.of (below_drew w2)).fr o2)).trans f3⟩
    all_goals rw [unhide hp, pkF_app, List.length_append, ← Nat.add_assoc]
    all_goals unfold dtx
    all_goals rw [unhide hdx]
    all_goals exact w3r
end
end Go.Proofs.YtnoabdafmgmenaaGreatDoor
