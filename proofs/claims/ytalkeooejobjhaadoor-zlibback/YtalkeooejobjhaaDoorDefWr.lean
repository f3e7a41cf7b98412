/-
  The writer of package deflate in memory, and what its method bit does: a bit is put behind the others. Conditions: at most a million bits.
-/
import Derived.Test.YtalkeooejobjhaaDoorDefBits
import Derived.Test.YtalkeooejobjhaaDoorMMem
import Derived.BigRegion
namespace Go.Proofs.YtalkeooejobjhaaDoor
open Go.RowKit
set_option linter.unusedVariables false
set_option linter.unusedSimpArgs false

/-- The four slices of the two codes. -/
structure Cv where
  a0 : Option Addr
  n0 : Nat
  c0 : Nat
  a1 : Option Addr
  n1 : Nat
  c1 : Nat
  a2 : Option Addr
  n2 : Nat
  c2 : Nat
  a3 : Option Addr
  n3 : Nat
  c3 : Nat
structure Cdw (C : Cv) (w : World) : Prop where
  l : Is w C.a0 C.n0 C.c0 fixL
  lc : Is w C.a1 C.n1 C.c1 (cds fixL)
  d : Is w C.a2 C.n2 C.c2 fixD
  dc : Is w C.a3 C.n3 C.c3 (cds fixD)
def wv (C : Cv) (oo : Option Addr) (on oc N : Nat) : Array Value := #[.slice oo on oc, .int .i64 (N : Int), .slice C.a0 C.n0 C.c0, .slice C.a1 C.n1 C.c1, .slice C.a2 C.n2 C.c2, .slice C.a3 C.n3 C.c3]

/-- Block g is the writer with N bits; its bytes b lie at oo, with room for oc. -/
structure Wq (C : Cv) (g : Nat) (w : World) (oo : Option Addr) (oc : Nat) (b : List Int) (N : Nat) : Prop where
  st : w.heap[g]? = some (.cells (wv C oo b.length oc N) 69 (0, 0))
  out : Mine (g + 1) w oo b.length oc b
  cd : ∀ w', Below g w w' → Cdw C w'
/-- .. just as many bytes as the bits want. -/
structure Wr (C : Cv) (g : Nat) (w : World) (oo : Option Addr) (oc : Nat) (b : List Int) (N : Nat) : Prop where
  q : Wq C g w oo oc b N
  wst : Wst b N

section
variable {C : Cv} {g : Nat} {w w' : World} {oo : Option Addr} {oc : Nat} {b : List Int} {N : Nat}
theorem Wq.lt (h : Wq C g w oo oc b N) : g < w.heap.size := (Array.getElem?_eq_some_iff.1 h.st).1
theorem Wq.free (h : Wq C g w oo oc b N) (i : Nat) : w.frozen? ⟨g, i, none⟩ = false := frozen_of_row w g i _ _ h.st
theorem Wq.k0 (h : Wq C g w oo oc b N) : w.cell? ⟨g, 0, none⟩ = some (.slice oo b.length oc) := by rw [cell_of_row w g 0 _ _ _ h.st]; rfl
theorem Wq.k1 (h : Wq C g w oo oc b N) : w.cell? ⟨g, 1, none⟩ = some (.int .i64 (N : Int)) := by rw [cell_of_row w g 1 _ _ _ h.st]; rfl
theorem Wq.k2 (h : Wq C g w oo oc b N) : w.cell? ⟨g, 2, none⟩ = some (.slice C.a0 C.n0 C.c0) := by rw [cell_of_row w g 2 _ _ _ h.st]; rfl
theorem Wq.k3 (h : Wq C g w oo oc b N) : w.cell? ⟨g, 3, none⟩ = some (.slice C.a1 C.n1 C.c1) := by rw [cell_of_row w g 3 _ _ _ h.st]; rfl
theorem Wq.k4 (h : Wq C g w oo oc b N) : w.cell? ⟨g, 4, none⟩ = some (.slice C.a2 C.n2 C.c2) := by rw [cell_of_row w g 4 _ _ _ h.st]; rfl
theorem Wq.k5 (h : Wq C g w oo oc b N) : w.cell? ⟨g, 5, none⟩ = some (.slice C.a3 C.n3 C.c3) := by rw [cell_of_row w g 5 _ _ _ h.st]; rfl
theorem Wq.cds (h : Wq C g w oo oc b N) : Cdw C w := h.cd w (Below.refl _ _)
theorem Wq.later (h : Wq C g w oo oc b N) (hb : Below w.heap.size w w') : Wq C g w' oo oc b N :=
  ⟨by rw [hb.block g h.lt]; exact h.st, h.out.later hb, fun w1 f => h.cd w1 ((hb.mono (Nat.le_of_lt h.lt)).trans f)⟩
theorem Wq.no (h : Wq C g w oo oc b N) : ¬ ob oo g := fun q => by have := (h.out.ob q).1; omega
theorem Wq.below (h : Wq C g w oo oc b N) {oo' : Option Addr} (f : Fr g oo w oo' w') : Below g w w' :=
  ⟨f.os, f.tape, f.output, f.size, fun k hk => f.block k (by have := h.lt; omega) (by omega) (fun q => by have := (h.out.ob q).1; omega)⟩
/-- Behind an append the slice is stored. -/
theorem Wq.told (h : Wq C g w oo oc b N) {c : Int} {oo1 : Option Addr} {c1 : Nat} {w1 : World} (hM : Mine (g + 1) w1 oo1 (b.length + 1) c1 (b ++ [c])) (f : Fr g oo w oo1 w1) (hg : w1.heap[g]? = w.heap[g]?) :
    Wq C g (w1.setCell ⟨g, 0, none⟩ (.slice oo1 (b.length + 1) c1)) oo1 c1 (b ++ [c]) N ∧ Fr g oo w oo1 (w1.setCell ⟨g, 0, none⟩ (.slice oo1 (b.length + 1) c1)) := by
  have hb : Below g w w1 := h.below f
  have hb2 : Below g w1 (w1.setCell ⟨g, 0, none⟩ (.slice oo1 (b.length + 1) c1)) := (Below.refl g w1).setCell (by simp) _
  have hst : w1.heap[g]? = some (.cells (wv C oo b.length oc N) 69 (0, 0)) := by rw [hg]; exact h.st
  refine ⟨⟨?_, ?_, fun w2 q => h.cd w2 ((hb.trans hb2).trans q)⟩, f.trans (((Gb.refl g w1).set 0 _).fr oo1)⟩
  · rw [heap_setCell_same w1 g 0 _ _ _ hst]
    simp [wv]
  · rw [List.length_append]
    exact hM.keep fun k hk _ => heap_setCell_other w1 ⟨g, 0, none⟩ k _ (by simp; omega)
/-- A byte of the row is written, and a bit more is counted. -/
theorem Wq.bit {r : Nat} {B : List Int} (h : Wq C g w (some ⟨r, 0, none⟩) oc B N) {b : List Int} (hB : B = room8 b N) (hW : Wst b N) {x : Int} (x0 : 0 ≤ x) (x1 : x ≤ 1) :
    Wr C g ((w.setCell ⟨r, N / 8, none⟩ (.int .u8 (B[N / 8]?.getD 0 + x * 2 ^ (N % 8)))).setCell ⟨g, 1, none⟩ (.int .i64 ((N : Int) + 1))) (some ⟨r, 0, none⟩) oc (putB b N x) (N + 1) ∧
    Fr g (some ⟨r, 0, none⟩) w (some ⟨r, 0, none⟩) ((w.setCell ⟨r, N / 8, none⟩ (.int .u8 (B[N / 8]?.getD 0 + x * 2 ^ (N % 8)))).setCell ⟨g, 1, none⟩ (.int .i64 ((N : Int) + 1))) := by
  subst hB
  have hrb := h.out.block
  have hlen : (putB b N x).length = (room8 b N).length := by simp [putB]
  have hb1 : Below g w (w.setCell ⟨r, N / 8, none⟩ (.int .u8 ((room8 b N)[N / 8]?.getD 0 + x * 2 ^ (N % 8)))) := (Below.refl g w).setCell (by simp; omega) _
  have hb2 : Below g (w.setCell ⟨r, N / 8, none⟩ (.int .u8 ((room8 b N)[N / 8]?.getD 0 + x * 2 ^ (N % 8)))) ((w.setCell ⟨r, N / 8, none⟩ (.int .u8 ((room8 b N)[N / 8]?.getD 0 + x * 2 ^ (N % 8)))).setCell ⟨g, 1, none⟩ (.int .i64 ((N : Int) + 1))) := (Below.refl g _).setCell (by simp) _
  have hst : (w.setCell ⟨r, N / 8, none⟩ (.int .u8 ((room8 b N)[N / 8]?.getD 0 + x * 2 ^ (N % 8)))).heap[g]? = some (.cells (wv C (some ⟨r, 0, none⟩) (room8 b N).length oc N) 69 (0, 0)) := by
    rw [heap_setCell_other w ⟨r, N / 8, none⟩ g _ (by simp; omega)]; exact h.st
  refine ⟨⟨⟨?_, ?_, fun w2 q => h.cd w2 ((hb1.trans hb2).trans q)⟩, hW.put x0 x1⟩, ⟨rfl, rfl, rfl, by simp, fun k hk hn ho => ?_, fun k hk => .inl hk⟩⟩
  · rw [heap_setCell_same _ g 1 _ _ _ hst, hlen]
    simp [wv]
  · rw [hlen]
    exact (put_stored hW h.out x0 x1).keep fun k hk _ => heap_setCell_other _ ⟨g, 1, none⟩ k _ (by simp; omega)
  · rw [heap_setCell_other _ ⟨g, 1, none⟩ k _ (by simp; omega), heap_setCell_other _ ⟨r, N / 8, none⟩ k _ (fun e => ho ⟨_, rfl, e.symm⟩)]
theorem Wr.later (h : Wr C g w oo oc b N) (hb : Below w.heap.size w w') : Wr C g w' oo oc b N := ⟨h.q.later hb, h.wst⟩
theorem Fr.below {oo' : Option Addr} (f : Fr g oo w oo' w') {B : List Int} (h : Mine (g + 1) w oo b.length oc B) (hg : g < w.heap.size) : Below g w w' :=
  ⟨f.os, f.tape, f.output, f.size, fun k hk => f.block k (by omega) (by omega) (fun q => by have := (h.ob q).1; omega)⟩
end

/-- The writer has the bits of b and n more behind a call. -/
def OutW (C : Cv) (g : Nat) (w : World) (oo : Option Addr) (b : List Int) (N : Nat) (w' : World) : Prop := ∃ oo' oc', Wr C g w' oo' oc' b N ∧ Fr g oo w oo' w'

section
variable {C : Cv} {g : Nat} {oo : Option Addr} {oc : Nat} {b : List Int} {N : Nat}
set_option maxHeartbeats 4000000 in
set_option maxRecDepth 20000 in
theorem bit_wr (w : World) (x : Int) (h : Wr C g w oo oc b N) (hN : N ≤ 1000000) :
    Calls Tryd.prog 57 #[.pointer (some ⟨g, 0, none⟩), .int .i64 x] w fun e w' => e = .returned (.tuple #[]) ∧ OutW C g w oo (putB b N (x % 2)) (N + 1) w' := by
  have hX : 0 ≤ x % 2 ∧ x % 2 ≤ 1 := by omega
  have hand := and1_i64 x
  have hW := h.wst
  have hv := put_val hW hX.1 hX.2
  have hra := room8_at hW
  have hrl := hide (room8_len hW)
  have hor := or_u8 _ _ (N % 8) (by omega) hra.1 hra.2 hX.1 hX.2
  have hwl := hide hW.len
  have hbl : b.length ≤ 1000000 := by have := hW.len; omega
  obtain ⟨V, hV⟩ : ∃ V, V = (room8 b N)[N / 8]?.getD 0 := ⟨_, rfl⟩
  rw [← hV] at hra hor hv
  have key := hide (fun (W : World) (r c : Nat) (q : Wq C g W (some ⟨r, 0, none⟩) c (room8 b N) N) => q.bit rfl hW hX.1 hX.2)
  rw [← hV] at key
  have HV := hide hV
  generalize hXX : x % 2 = X at *
  have HXX := hide hXX
  -- what the second part of the walk wants
  have prep : ∀ (W : World) (o1 : Option Addr) (c1 : Nat), Wq C g W o1 c1 (room8 b N) N → ∃ r, o1 = some ⟨r, 0, none⟩ ∧ W.cell? ⟨g, 0, none⟩ = some (.slice (some ⟨r, 0, none⟩) (room8 b N).length c1) ∧ (∀ wx, (Instr.indexAt 22 (.slice (some ⟨r, 0, none⟩) (room8 b N).length c1) (.int .i64 ((N : Int) / 8))).run Tryd.prog wx = .ok (.pointer (some ⟨r, N / 8, none⟩)) wx) ∧ W.cell? ⟨r, N / 8, none⟩ = some (.int .u8 V) ∧ W.frozen? ⟨r, N / 8, none⟩ = false ∧ W.cell? ⟨g, 1, none⟩ = some (.int .i64 (N : Int)) ∧ (∀ u, (W.setCell ⟨r, N / 8, none⟩ u).cell? ⟨g, 1, none⟩ = some (.int .i64 (N : Int))) ∧ ∀ u, (W.setCell ⟨r, N / 8, none⟩ u).frozen? ⟨g, 1, none⟩ = false := by
    intro W o1 c1 q
    have hl := unhide hrl
    obtain ⟨r, rfl⟩ := q.out.some (by omega)
    have hb := q.out.block
    have hne : g ≠ r := by omega
    refine ⟨r, rfl, q.k0, run_idxOwn r _ c1 (show N / 8 < (room8 b N).length by omega) ((N : Int) / 8) (by omega), ?_, q.out.free _, q.k1, fun u => ?_, fun u => ?_⟩
    · rw [mine_cell q.out (show N / 8 < (room8 b N).length by omega), ← unhide HV]
    · rw [World.cell?_of_block (a := ⟨g, 1, none⟩) (w := W) (heap_setCell_other W ⟨r, N / 8, none⟩ g u hne)]; exact q.k1
    · rw [World.frozen?_of_block (a := ⟨g, 1, none⟩) (w := W) (heap_setCell_other W ⟨r, N / 8, none⟩ g u hne)]; exact q.free 1
  have PREP := hide prep
  clear prep
  by_cases h8 : N % 8 = 0
  · have hroom := hide (show room8 b N = b ++ [0] by unfold room8; rw [if_pos h8])
    have h8' : (N : Int) % 8 = 0 := by omega
    have hp1 : X * 2 ^ (N % 8) = X := by rw [h8]; simp
    rw [hp1] at hor key hv
    have k0 := h.q.k0
    have k1 := h.q.k1
    have k1' := cell_later (below_alloc w (.cells #[.int .u8 0] 5)) k1
    have q2 := h.q.later (below_alloc w (.cells #[.int .u8 0] 5))
    have hlt := q2.lt
    have Q2 := hide q2
    clear hp1 h q2 hW hV hXX
    go_enter Tryd.func57, Tryd.ntmps57
    go_wp2_with (at_builtin; refine wpList_appF rfl (.tmp 14) (.tmp 15) rfl (g + 1) oo b.length oc b rfl (unhide Q2).out _ 1 1 [0] rfl (Bs.one w 0 (by omega) (by omega)) (by omega) hlt ?_; intro oo1 c1 w3 hM hgr hsrc; have hg3 : w3.heap[g]? = _ := grown_at hgr hlt (unhide Q2).no; have k0' := (World.cell?_of_block (a := ⟨g, 0, none⟩) hg3).trans (unhide Q2).k0; have f0' := (World.frozen?_of_block (a := ⟨g, 0, none⟩) hg3).trans ((unhide Q2).free 0))
    have told := (unhide Q2).told hM (fr_app hlt hgr hsrc) hg3
    obtain ⟨W2, hW2⟩ : ∃ W2, W2 = w3.setCell ⟨g, 0, none⟩ (.slice oo1 (b.length + 1) c1) := ⟨_, rfl⟩
    rw [← hW2] at told ⊢
    rw [← unhide hroom] at told
    obtain ⟨r, rfl, j0, hix, jc, jf, j1, j1', jf1⟩ := (unhide PREP) W2 oo1 c1 told.1
    have fin := hide ((unhide key) W2 r c1 told.1)
    have FR := hide ((Gb.of (below_alloc w (.cells #[.int .u8 0] 5))).fr oo |>.trans told.2)
    clear told hW2 hM hgr hsrc hg3 k0' f0' k0 k1 k1' hlt
    generalize (room8 b N).length = L at *
    go_region
    all_goals go_wp2_with fail
    all_goals go_end0
    all_goals exact ⟨rfl, some ⟨r, 0, none⟩, c1, (unhide fin).1.later (below_drew _), ((unhide FR).trans (unhide fin).2).drew⟩
  · have h8' : ((N : Int) % 8 == 0) = false := by simp; omega
    have hroom : room8 b N = b := by unfold room8; rw [if_neg h8]
    have q2 : Wq C g w oo oc (room8 b N) N := by rw [hroom]; exact h.q
    clear hW hV hXX h hroom
    obtain ⟨r, rfl, j0, hix, jc, jf, j1, j1', jf1⟩ := (unhide PREP) w oo oc q2
    have fin := hide ((unhide key) w r oc q2)
    generalize hP : X * 2 ^ (N % 8) = PP at *
    clear q2
    generalize (room8 b N).length = L at *
    go_enter Tryd.func57, Tryd.ntmps57
    go_wp2_with fail
    go_region
    all_goals go_wp2_with fail
    all_goals go_end0
    all_goals exact ⟨rfl, some ⟨r, 0, none⟩, oc, (unhide fin).1.later (below_drew _), (unhide fin).2.drew⟩
end
end Go.Proofs.YtalkeooejobjhaaDoor
