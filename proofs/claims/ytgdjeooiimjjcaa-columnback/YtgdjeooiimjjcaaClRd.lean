/-
  The reader of columns, which stops at its first error: in memory, and what want, pass, fixed and text of it do. Conditions: the slice can be read; at most 2 to the 40 bytes.
-/
import Derived.Test.YtgdjeooiimjjcaaGpFs
import Derived.Test.YtgdjeooiimjjcaaClPlain
import Derived.Laws.ResultCell
import Derived.BigQuiet
import Derived.BigRegion
namespace Go.Proofs.Ytgdjeooiimjjcaa
open Go.RowKit
set_option linter.unusedVariables false
set_option linter.unusedSimpArgs false

theorem Bs.cut_lo {w : World} {ao : Option Addr} {n c : Nat} {bs : List Int} (h : Bs w ao n c bs) {lo : Nat} (h1 : lo ≤ n) (L : Int) (hL : L = lo) :
    ∃ ao' c', (∀ wx, (Instr.slice 22 (.slice ao n c) (some (.int .i64 L)) none none).run Try.prog wx = .ok (.slice ao' (n - lo) c') wx) ∧ Bs w ao' (n - lo) c' (bs.drop lo) ∧ ∀ k, ob ao' k → ob ao k :=
  ⟨_, _, run_cut_l ao n c lo h1 L hL, by have := h.cut h1 (Nat.le_refl n); rwa [List.take_of_length_le (by simp [h.len])] at this, fun k hk => ob_cut hk⟩

theorem Bs.gb0 {g : Nat} {w w' : World} {ao : Option Addr} {n c : Nat} {bs : List Int} (h : Bs w ao n c bs) (hb : Gb g w w') (hg : n = 0 ∨ ¬ ob ao g) : Bs w' ao n c bs := by
  rcases hg with h0 | h0
  · exact ⟨h.len, h.le, h.max, h.nil, h.byt, .inl h0⟩
  · exact h.gb hb (fun a ha e => h0 ⟨a, ha, e⟩)

/-- Block g is the reader in the state s. -/
structure Fl (g : Nat) (w : World) (bo : Option Addr) (bn bc : Nat) (s : FS) : Prop where
  st : w.heap[g]? = some (.cells #[.slice bo bn bc, .int .i64 s.e] 46 (0, 0))
  bs : Bs w bo bn bc s.b
  ne : bn = 0 ∨ ∀ k, ob bo k → k < g

section
variable {g : Nat} {w : World} {bo : Option Addr} {bn bc : Nat} {s : FS}
theorem Fl.lt (h : Fl g w bo bn bc s) : g < w.heap.size := (Array.getElem?_eq_some_iff.1 h.st).1
theorem Fl.free (h : Fl g w bo bn bc s) (i : Nat) : w.frozen? ⟨g, i, none⟩ = false := frozen_of_row w g i _ _ h.st
theorem Fl.nob (h : Fl g w bo bn bc s) : bn = 0 ∨ ¬ ob bo g := h.ne.imp id (fun q z => Nat.lt_irrefl _ (q _ z))
theorem Fl.c0 (h : Fl g w bo bn bc s) : w.cell? ⟨g, 0, none⟩ = some (.slice bo bn bc) := by rw [cell_of_row w g 0 _ _ _ h.st]; rfl
theorem Fl.c1 (h : Fl g w bo bn bc s) : w.cell? ⟨g, 1, none⟩ = some (.int .i64 s.e) := by rw [cell_of_row w g 1 _ _ _ h.st]; rfl
theorem Fl.later (h : Fl g w bo bn bc s) {w' : World} (hb : Below w.heap.size w w') : Fl g w' bo bn bc s :=
  ⟨by rw [hb.block g h.lt]; exact h.st, h.bs.later hb, h.ne⟩
theorem Fl.drewN (h : Fl g w bo bn bc s) (n : Nat) : Fl g (w.drewN n) bo bn bc s := h.later ⟨rfl, rfl, rfl, Nat.le_refl _, fun _ _ => rfl⟩
theorem Fl.putE (h : Fl g w bo bn bc s) (z : Int) : Fl g (w.setCell ⟨g, 1, none⟩ (.int .i64 z)) bo bn bc { s with e := z } :=
  ⟨by rw [heap_setCell_same w g 1 _ _ _ h.st]; rfl, h.bs.gb0 ((Gb.refl g w).set 1 _) h.nob, h.ne⟩
theorem Fl.putB (h : Fl g w bo bn bc s) {bo' : Option Addr} {bn' bc' : Nat} {l : List Int} (hb : Bs w bo' bn' bc' l) (hn : bn' = 0 ∨ ∀ k, ob bo' k → k < g) : Fl g (w.setCell ⟨g, 0, none⟩ (.slice bo' bn' bc')) bo' bn' bc' { s with b := l } :=
  ⟨by rw [heap_setCell_same w g 0 _ _ _ h.st]; rfl, hb.gb0 ((Gb.refl g w).set 0 _) (hn.imp id (fun q z => Nat.lt_irrefl _ (q _ z))), hn⟩
theorem Fl.cutNe (h : Fl g w bo bn bc s) {yo : Option Addr} (hy : ∀ k, ob yo k → ob bo k) (q : Nat) : bn - q = 0 ∨ ∀ k, ob yo k → k < g := by
  rcases h.ne with h0 | h0
  · exact .inl (by omega)
  · exact .inr (fun k z => h0 k (hy k z))
/-- It stays where its own block stays, and what lies below it. -/
theorem Fl.keep (h : Fl g w bo bn bc s) {w' : World} (hk : ∀ k, k ≤ g → w'.heap[k]? = w.heap[k]?) : Fl g w' bo bn bc s := by
  refine ⟨by rw [hk g (Nat.le_refl _)]; exact h.st, ?_, h.ne⟩
  refine ⟨h.bs.len, h.bs.le, h.bs.max, h.bs.nil, h.bs.byt, ?_⟩
  rcases h.ne with h0 | h0
  · exact .inl h0
  · rcases h.bs.at' with hz | ⟨b', off, e, hc⟩
    · exact .inl hz
    · refine .inr ⟨b', off, e, fun i hi => ?_⟩
      have hlt := h0 b' ⟨_, e, rfl⟩
      rw [← hc i hi]
      exact World.cell?_of_block (w := w) (a := ⟨b', off + i, none⟩) (hk b' (by omega))
/-- Above it anything may change. -/
theorem Fl.above (h : Fl g w bo bn bc s) {w' : World} (hb : Below (g + 1) w w') : Fl g w' bo bn bc s := h.keep fun k hk => hb.block k (by omega)
theorem Bs.under {b : List Int} (h : Bs w bo bn bc b) : bn = 0 ∨ ∀ k, ob bo k → k < w.heap.size := by
  rcases h.at' with h0 | ⟨b', off, e, hc⟩
  · exact .inl h0
  · by_cases hz : bn = 0
    · exact .inl hz
    · right
      rintro k ⟨a, rfl, ha⟩
      have := World.block_lt_of_cell? w _ (hc 0 (by omega))
      simp at e
      subst e
      simp at ha this
      omega
/-- A reader of bytes, ahead of the first. -/
theorem Fl.new {b : List Int} (h : Bs w bo bn bc b) : Fl w.heap.size (w.alloc (.cells #[.slice bo bn bc, .int .i64 0] 46)) bo bn bc ⟨b, 0⟩ :=
  ⟨heap_alloc_new w _, h.later (below_alloc w _), h.under⟩
end

/-- The reader is in the state s behind a call. -/
def OutF (g : Nat) (w : World) (s : FS) (w' : World) : Prop := (∃ bo bn bc, Fl g w' bo bn bc s) ∧ Gb g w w'

theorem Mine.gb {B g : Nat} {w w' : World} {ao : Option Addr} {n c : Nat} {bs : List Int} (h : Mine B w ao n c bs) (hg : g < B) (hb : Gb g w w') : Mine B w' ao n c bs :=
  h.keep fun k hk hl => hb.block k hl (by omega)

set_option maxHeartbeats 400000 in
theorem want_rd (g : Nat) (w : World) (bo : Option Addr) (bn bc : Nat) (s : FS) (ok : Bool) (h : Fl g w bo bn bc s) :
    Calls Try.prog 19 #[.pointer (some ⟨g, 0, none⟩), .bool ok] w fun e w' => e = .returned (.tuple #[]) ∧ Fl g w' bo bn bc (waS s ok) ∧ Gb g w w' := by
  have c1 := h.c1
  have f1 := h.free 1
  have H := hide h
  by_cases he : s.e = 0
  · have he' : (s.e == 0) = true := by simpa using he
    cases ok
    · rw [show waS s false = { s with e := 5 } by unfold waS; rw [if_pos ⟨he, rfl⟩]]
      clear h he
      generalize s.e = E at *
      go_enter Try.func19, Try.ntmps19
      go_wp2_with fail
      refine bodyPost_end (results_none rfl _ _ _) rfl ?_
      exact ⟨rfl, (unhide H).putE 5, (Gb.refl _ _).set _ _⟩
    · rw [show waS s true = s by unfold waS; rw [if_neg (by simp)]]
      clear h he
      generalize s.e = E at *
      go_enter Try.func19, Try.ntmps19
      go_wp2_with fail
      refine bodyPost_end (results_none rfl _ _ _) rfl ?_
      exact ⟨rfl, unhide H, Gb.refl _ _⟩
  · have he' : (s.e == 0) = false := by simpa using he
    rw [show waS s ok = s by unfold waS; rw [if_neg (fun q => he q.1)]]
    clear h he
    generalize s.e = E at *
    go_enter Try.func19, Try.ntmps19
    go_wp2_with fail
    refine bodyPost_end (results_none rfl _ _ _) rfl ?_
    exact ⟨rfl, unhide H, Gb.refl _ _⟩
theorem want_out (g : Nat) (w : World) (bo : Option Addr) (bn bc : Nat) (s : FS) (ok : Bool) (h : Fl g w bo bn bc s) :
    Calls Try.prog 19 #[.pointer (some ⟨g, 0, none⟩), .bool ok] w fun e w' => e = .returned (.tuple #[]) ∧ OutF g w (waS s ok) w' :=
  (want_rd g w bo bn bc s ok h).mono fun _ _ ⟨h1, h2, h3⟩ => ⟨h1, ⟨_, _, _, h2⟩, h3⟩

set_option maxHeartbeats 400000 in
theorem pass_rd (g : Nat) (w : World) (bo : Option Addr) (bn bc : Nat) (s : FS) (n : Nat) (N e : Int) (hN : N = (n : Int)) (h : Fl g w bo bn bc s) (hn : e = 0 → n ≤ bn) :
    Calls Try.prog 40 #[.pointer (some ⟨g, 0, none⟩), .int .i64 N, .int .i64 e] w fun r w' => r = .returned (.tuple #[]) ∧ OutF g w (paS s n e) w' := by
  subst hN
  have c0 := h.c0
  have f0 := h.free 0
  have c1 := h.c1
  have f1 := h.free 1
  have H := hide h
  have hle := h.bs.le
  have hmx := h.bs.max
  by_cases he : e = 0
  · subst he
    have hn' := hn rfl
    rw [show paS s n 0 = { s with b := s.b.drop n } from rfl]
    obtain ⟨yo, yc, hcut2, hyb, hyo⟩ := h.bs.cut_lo (lo := n) hn' (n : Int) rfl
    have HY := hide hyb
    clear h hyb hn
    go_enter Try.func40, Try.ntmps40
    go_wp2_with fail
    refine bodyPost_end (results_none rfl _ _ _) rfl ?_
    exact ⟨rfl, ⟨_, _, _, (unhide H).putB (unhide HY) ((unhide H).cutNe hyo _)⟩, (Gb.refl _ _).set _ _⟩
  · have he' : (e != 0) = true := by simpa using he
    rw [show paS s n e = { s with e := e } by unfold paS; rw [if_neg he]]
    clear h hn he
    generalize s.e = E at c1
    go_enter Try.func40, Try.ntmps40
    go_wp2_with fail
    refine bodyPost_ret (results_none rfl _ _ _) rfl ?_
    exact ⟨rfl, ⟨_, _, _, (unhide H).putE e⟩, (Gb.refl _ _).set _ _⟩

set_option maxHeartbeats 400000 in
set_option maxRecDepth 100000 in
theorem fixed_rd (g : Nat) (w : World) (bo : Option Addr) (bn bc : Nat) (s : FS) (n : Nat) (N : Int) (hN : N = (n : Int)) (hn1 : 1 ≤ n) (hn : n ≤ 8) (h : Fl g w bo bn bc s) :
    Calls Try.prog 22 #[.pointer (some ⟨g, 0, none⟩), .int .i64 N] w fun e w' => e = .returned (.int .u64 (fxA s n)) ∧ OutF g w (fxS s n) w' := by
  have c0 := h.c0
  have c1 := h.c1
  have hlen := h.bs.len
  have H := hide h
  by_cases he : s.e = 0
  · have he' : (s.e != 0) = false := by simpa using he
    have cR := hide (readFixed_any bo bn bc s.b N w h.bs)
    obtain ⟨x, er, hr⟩ : ∃ x er, readFixed s.b N = (x, er) := ⟨_, _, rfl⟩
    have eA := hide (show fxA s n = x by unfold fxA; rw [if_pos he, ← hN, hr])
    have eS := hide (show fxS s n = paS s n er by unfold fxS; rw [if_pos he, ← hN, hr])
    rw [hr] at cR
    have cP := hide (fun wx (hx : Fl g wx bo bn bc s) => pass_rd g wx bo bn bc s n N er hN hx (fun q => by have := readFixed_bd hr (by omega) q; omega))
    subst hN
    clear h he hlen hr
    rw [unhide eA]
    generalize s.e = E at c1 he'
    go_enter Try.func22, Try.ntmps22
    go_wp2_with fail
    refine (unhide cR).mono ?_
    rintro e w2 ⟨rfl, hw2⟩
    have hw3 := hw2.symm
    subst hw3
    clear hw2
    go_wp2_with fail
    refine (unhide cP _ (unhide H)).mono ?_
    rintro e w3 ⟨rfl, ho⟩
    have HO := hide ho
    clear ho
    go_wp2_with fail
    go_ret
    rw [unhide eS]
    exact ⟨rfl, unhide HO⟩
  · have he' : (s.e != 0) = true := by simpa using he
    have eA := hide (show fxA s n = 0 by unfold fxA; rw [if_neg he])
    have eS := hide (show fxS s n = s by unfold fxS; rw [if_neg he])
    subst hN
    clear h he hlen
    generalize s.e = E at c1 he'
    go_enter Try.func22, Try.ntmps22
    go_wp2_with fail
    go_ret
    rw [unhide eA, unhide eS]
    exact ⟨rfl, ⟨_, _, _, unhide H⟩, Gb.refl _ _⟩

set_option maxHeartbeats 400000 in
set_option maxRecDepth 100000 in
theorem text_rd (g : Nat) (w : World) (bo : Option Addr) (bn bc : Nat) (s : FS) (h : Fl g w bo bn bc s) :
    Calls Try.prog 20 #[.pointer (some ⟨g, 0, none⟩)] w fun e w' => e = .returned (.string (txA s)) ∧ OutF g w (txS s) w' := by
  have c0 := h.c0
  have c1 := h.c1
  have hlen := h.bs.len
  have H := hide h
  by_cases he : s.e = 0
  · have he' : (s.e != 0) = false := by simpa using he
    have cR := hide (readText_any bo bn bc s.b w h.bs)
    have bd := readText_bd h.bs.byt
    obtain ⟨x, q, er, hr⟩ : ∃ x q er, readText s.b = (x, q, er) := ⟨_, _, _, rfl⟩
    rw [hr] at cR bd
    simp only at cR bd
    obtain ⟨Q, rfl⟩ := Int.eq_ofNat_of_zero_le bd.1
    have eA := hide (show txA s = x by unfold txA; rw [if_pos he, hr])
    have eS := hide (show txS s = paS s Q er by unfold txS; rw [if_pos he, hr]; rfl)
    have cP := hide (fun wx (hx : Fl g wx bo bn bc s) => pass_rd g wx bo bn bc s Q (Q : Int) er rfl hx (fun q => by omega))
    clear h he hlen hr bd
    rw [unhide eA]
    generalize s.e = E at c1 he'
    go_enter Try.func20, Try.ntmps20
    go_wp2_with fail
    refine (unhide cR).mono ?_
    rintro e w2 ⟨rfl, hw2⟩
    have hw3 := hw2.symm
    subst hw3
    clear hw2
    go_wp2_with fail
    refine (unhide cP _ (unhide H)).mono ?_
    rintro e w3 ⟨rfl, ho⟩
    have HO := hide ho
    clear ho
    go_wp2_with fail
    go_ret
    rw [unhide eS]
    exact ⟨rfl, unhide HO⟩
  · have he' : (s.e != 0) = true := by simpa using he
    have eA := hide (show txA s = ⟨#[]⟩ by unfold txA; rw [if_neg he])
    have eS := hide (show txS s = s by unfold txS; rw [if_neg he])
    clear h he hlen
    generalize s.e = E at c1 he'
    go_enter Try.func20, Try.ntmps20
    go_wp2_with fail
    go_ret
    rw [unhide eA, unhide eS]
    exact ⟨rfl, ⟨_, _, _, unhide H⟩, Gb.refl _ _⟩


/-- The reader in block g is in the state s. -/
def Fx (g : Nat) (w : World) (s : FS) : Prop := (∃ bo bn bc, Fl g w bo bn bc s) ∧ s.b.length ≤ 1099511627776
/-- Behind a call. -/
def OutX (g : Nat) (w : World) (s : FS) (w' : World) : Prop := Fx g w' s ∧ Gb g w w'
section
variable {g : Nat} {w w' : World} {s s' : FS}
theorem Fx.out (h : Fx g w s) (o : OutF g w s' w') (hl : s'.b.length ≤ s.b.length) : OutX g w s' w' := ⟨⟨o.1, Nat.le_trans hl h.2⟩, o.2⟩
theorem Fx.lt (h : Fx g w s) : g < w.heap.size := by obtain ⟨⟨bo, bn, bc, h1⟩, _⟩ := h; exact h1.lt
theorem Fx.above (h : Fx g w s) (hb : Below (g + 1) w w') : Fx g w' s := by obtain ⟨⟨bo, bn, bc, h1⟩, h2⟩ := h; exact ⟨⟨bo, bn, bc, h1.above hb⟩, h2⟩
theorem Fx.later (h : Fx g w s) (hb : Below w.heap.size w w') : Fx g w' s := h.above (hb.mono h.lt)
theorem Fx.byt (h : Fx g w s) : Byt s.b := by obtain ⟨⟨bo, bn, bc, h1⟩, _⟩ := h; exact h1.bs.byt
theorem Fx.c0 (h : Fx g w s) : ∃ bo bn bc, w.cell? ⟨g, 0, none⟩ = some (.slice bo bn bc) ∧ bn = s.b.length ∧ bn ≤ bc ∧ bc ≤ 9223372036854775807 := by obtain ⟨⟨bo, bn, bc, h1⟩, _⟩ := h; exact ⟨bo, bn, bc, h1.c0, h1.bs.len.symm, h1.bs.le, h1.bs.max⟩
theorem Fx.c1 (h : Fx g w s) : w.cell? ⟨g, 1, none⟩ = some (.int .i64 s.e) := by obtain ⟨⟨bo, bn, bc, h1⟩, _⟩ := h; exact h1.c1
theorem Fx.free (h : Fx g w s) (i : Nat) : w.frozen? ⟨g, i, none⟩ = false := by obtain ⟨⟨bo, bn, bc, h1⟩, _⟩ := h; exact h1.free i
end
theorem readText_sz (b : List Int) : (readText b).1.size ≤ b.length := by
  obtain ⟨x, q, er, hr⟩ : ∃ x q er, readInt b = (x, q, er) := ⟨_, _, _, rfl⟩
  by_cases he : er = 0
  · subst he
    by_cases hs : (b.length : Int) - q < x
    · rw [readText_short hr hs]; exact Nat.zero_le _
    · rw [readText_long hr hs]
      simp only
      rw [show (strOfNums ((b.drop q.toNat).take x.toNat)).size = (strOfNums ((b.drop q.toNat).take x.toNat)).data.toList.length by simp, strOfNums_data]
      simp
      omega
  · rw [readText_err hr he]; exact Nat.zero_le _
theorem txA_sz (s : FS) : (txA s).size ≤ s.b.length := by
  unfold txA
  split
  · exact readText_sz _
  · exact Nat.zero_le _
section
variable (g : Nat) (w : World) (s : FS)
theorem want_fx (ok : Bool) (h : Fx g w s) : Calls Try.prog 19 #[.pointer (some ⟨g, 0, none⟩), .bool ok] w fun e w' => e = .returned (.tuple #[]) ∧ OutX g w (waS s ok) w' := by
  obtain ⟨⟨bo, bn, bc, h1⟩, h2⟩ := id h
  exact (want_out g w bo bn bc s ok h1).mono fun _ _ ⟨e, o⟩ => ⟨e, h.out o (waS_le _ _)⟩
theorem text_fx (h : Fx g w s) : Calls Try.prog 20 #[.pointer (some ⟨g, 0, none⟩)] w fun e w' => (e = .returned (.string (txA s)) ∧ (txA s).size ≤ 1099511627776) ∧ OutX g w (txS s) w' := by
  obtain ⟨⟨bo, bn, bc, h1⟩, h2⟩ := id h
  exact (text_rd g w bo bn bc s h1).mono fun _ _ ⟨e, o⟩ => ⟨⟨e, Nat.le_trans (txA_sz s) h2⟩, h.out o (txS_le _)⟩
theorem fixed_fx (n : Nat) (N M : Int) (hN : N = (n : Int)) (hn1 : 1 ≤ n) (hn : n ≤ 8) (hM : (2 : Int) ^ (8 * n) = M) (h : Fx g w s) : Calls Try.prog 22 #[.pointer (some ⟨g, 0, none⟩), .int .i64 N] w fun e w' => (e = .returned (.int .u64 (fxA s n)) ∧ 0 ≤ fxA s n ∧ fxA s n < M) ∧ OutX g w (fxS s n) w' := by
  obtain ⟨⟨bo, bn, bc, h1⟩, h2⟩ := id h
  exact (fixed_rd g w bo bn bc s n N hN hn1 hn h1).mono fun _ _ ⟨e, o⟩ => ⟨⟨e, (fxA_bd h.byt hn1 hn).1, by have := (fxA_bd h.byt hn1 hn).2; rw [hM] at this; exact this⟩, h.out o (fxS_le _ _)⟩
end

/-- A function that reads a column: the result lies in the first new block, the reader in the second, the column in the third. -/
structure Rw (w0 : World) (T : TypeId) (zc cs : Array Value) (w : World) (s : FS) : Prop where
  fx : Fx (w0.heap.size + 1) w s
  bel : Below w0.heap.size w0 w
  res : w.heap[w0.heap.size]? = some (.cells zc T (0, 0))
  loc : w.heap[w0.heap.size + 2]? = some (.cells cs T (0, 0))
section
variable {w0 : World} {T : TypeId} {zc cs : Array Value} {w : World} {s : FS}
theorem Rw.lt (h : Rw w0 T zc cs w s) : w0.heap.size + 2 < w.heap.size := (Array.getElem?_eq_some_iff.1 h.loc).1
theorem Rw.call (h : Rw w0 T zc cs w s) {s' : FS} {w' : World} (o : OutX (w0.heap.size + 1) w s' w') : Rw w0 T zc cs w' s' := by
  have := h.lt
  exact ⟨o.1, h.bel.trans ((o.2.below (by omega)).mono (by omega)), (o.2.block _ (by omega) (by omega)).trans h.res, (o.2.block _ (by omega) (by omega)).trans h.loc⟩
theorem Rw.later (h : Rw w0 T zc cs w s) {w' : World} (hb : Below w.heap.size w w') : Rw w0 T zc cs w' s := by
  have := h.lt
  exact ⟨h.fx.later hb, h.bel.trans (hb.mono (by omega)), (hb.block _ (by omega)).trans h.res, (hb.block _ (by omega)).trans h.loc⟩
theorem Rw.drew (h : Rw w0 T zc cs w s) : Rw w0 T zc cs w.drew s := h.later ⟨rfl, rfl, rfl, Nat.le_refl _, fun _ _ => rfl⟩
theorem Rw.store (h : Rw w0 T zc cs w s) (j : Nat) (v : Value) {cs' : Array Value} (hc : cs.setIfInBounds j v = cs') : Rw w0 T zc cs' (w.setCell ⟨w0.heap.size + 2, j, none⟩ v) s := by
  have := h.lt
  subst hc
  exact ⟨h.fx.above ((Below.refl _ _).setCell (by simp) _), h.bel.setCell (by simp) _, (heap_setCell_other w ⟨w0.heap.size + 2, j, none⟩ _ _ (by simp)).trans h.res, heap_setCell_same w _ j _ _ _ h.loc⟩
theorem Rw.cell (h : Rw w0 T zc cs w s) {j : Nat} {v : Value} (hj : cs[j]? = some v) : w.cell? ⟨w0.heap.size + 2, j, none⟩ = some v := by rw [cell_of_row _ _ j _ _ _ h.loc]; exact hj
theorem Rw.free (h : Rw w0 T zc cs w s) (j : Nat) : w.frozen? ⟨w0.heap.size + 2, j, none⟩ = false := frozen_of_row w _ j _ _ h.loc
theorem Rw.rcell (h : Rw w0 T zc cs w s) {j : Nat} {v : Value} (hj : zc[j]? = some v) : w.cell? ⟨w0.heap.size, j, none⟩ = some v := by rw [cell_of_row _ _ j _ _ _ h.res]; exact hj
theorem Rw.rfree (h : Rw w0 T zc cs w s) (j : Nat) : w.frozen? ⟨w0.heap.size, j, none⟩ = false := frozen_of_row w _ j _ _ h.res
theorem Rw.new {bo : Option Addr} {bn bc : Nat} {b : List Int} (h : Bs w0 bo bn bc b) (hn : bn ≤ 1099511627776) (zc : Array Value) :
    Rw w0 T zc zc (((w0.alloc (.cells zc T)).alloc (.cells #[.slice bo bn bc, .int .i64 0] 46)).alloc (.cells zc T)) ⟨b, 0⟩ := by
  have b1 := below_alloc w0 (.cells zc T)
  have f1 := Fl.new (h.later b1)
  have b2 := below_alloc (w0.alloc (.cells zc T)) (.cells #[.slice bo bn bc, .int .i64 0] 46)
  have b3 := below_alloc ((w0.alloc (.cells zc T)).alloc (.cells #[.slice bo bn bc, .int .i64 0] 46)) (.cells zc T)
  have e1 : (w0.alloc (.cells zc T)).heap.size = w0.heap.size + 1 := by simp
  have e2 : ((w0.alloc (.cells zc T)).alloc (.cells #[.slice bo bn bc, .int .i64 0] 46)).heap.size = w0.heap.size + 2 := by simp
  rw [e1] at f1
  refine ⟨⟨⟨_, _, _, f1.later b3⟩, by rw [h.len]; exact hn⟩, b1.trans ((b2.mono (by omega)).trans (b3.mono (by omega))), ?_, ?_⟩
  · rw [b3.block _ (by omega), b2.block _ (by omega)]
    exact heap_alloc_new w0 _
  · have := heap_alloc_new ((w0.alloc (.cells zc T)).alloc (.cells #[.slice bo bn bc, .int .i64 0] 46)) (.cells zc T)
    rw [e2] at this
    exact this
end
/-- A struct that lies in a block, and a number beside it: what a call returns. -/
theorem results_row_tmp {fn : Func} {p u : Tmp} {ty : TypeId} (h : fn.results = #[.cell p ty, .tmp u]) (tmps : Array Value) (w : World) (g : Nat) (cs : Array Value)
    (hp : tmps.getD p undef = .pointer (some ⟨g, 0, none⟩)) (hl : (loadVar ty ⟨g, 0, none⟩).run Try.prog w = .ok (.agg cs) w) :
    (results fn tmps).run Try.prog w = .ok (.tuple #[.agg cs, tmps.getD u undef]) w := by
  rw [results_cell_tmp h, hp]
  simp only [asAddr, Sem.run_pure, Result.andThen, hl]

theorem drew_row {w : World} {g : Nat} {o : Obj} (h : w.heap[g]? = some o) : w.drew.heap[g]? = some o := h
theorem drewN_row {w : World} {g d : Nat} {o : Obj} (h : w.heap[g]? = some o) : (w.drewN d).heap[g]? = some o := h

end Go.Proofs.Ytgdjeooiimjjcaa
