/-
  The reader of commands, which stops at its first error: as a state, in memory, and what want, fixed, rest, end and take of it do. Conditions: the slice can be read; at most 2 to the 40 bytes are left to read.
-/
import Derived.Test.YtpidlfifipgadaaDoorCmChk
import Derived.Laws.ResultCell
namespace Go.Proofs.YtpidlfifipgadaaDoor
open Go.RowKit
set_option linter.unusedVariables false
set_option linter.unusedSimpArgs false

/-- What is left to read; the first error. -/
structure FS where
  b : List Int
  e : Int

/-- want. -/
def waS (s : FS) (ok : Bool) : FS := if s.e = 0 ∧ ok = false then { s with e := 5 } else s
/-- fixed. -/
def paS (s : FS) (n : Nat) (e : Int) : FS := if e = 0 then { s with b := s.b.drop n } else { s with e := e }
def fxA (s : FS) (n : Nat) : Int := if s.e = 0 then (readFixed s.b n).1 else 0
def fxS (s : FS) (n : Nat) : FS := if s.e = 0 then paS s n (readFixed s.b n).2 else s
/-- rest. -/
def reA (s : FS) : List Int := if s.e = 0 then s.b else []
def reS (s : FS) : FS := if s.e = 0 then { s with b := [] } else s
/-- end. -/
def edS (s : FS) : FS := waS s (decide (s.b.length = 0))

theorem Bs.cut_lo {w : World} {ao : Option Addr} {n c : Nat} {bs : List Int} (h : Bs w ao n c bs) {lo : Nat} (h1 : lo ≤ n) (L : Int) (hL : L = lo) :
    ∃ ao' c', (∀ wx, (Instr.slice 24 (.slice ao n c) (some (.int .i64 L)) none none).run Tryd.prog wx = .ok (.slice ao' (n - lo) c') wx) ∧ Bs w ao' (n - lo) c' (bs.drop lo) ∧ ∀ k, ob ao' k → ob ao k :=
  ⟨_, _, run_cut_l ao n c lo h1 L hL, by have := h.cut h1 (Nat.le_refl n); rwa [List.take_of_length_le (by simp [h.len])] at this, fun k hk => ob_cut hk⟩

theorem Bs.gb0 {g : Nat} {w w' : World} {ao : Option Addr} {n c : Nat} {bs : List Int} (h : Bs w ao n c bs) (hb : Gb g w w') (hg : n = 0 ∨ ¬ ob ao g) : Bs w' ao n c bs := by
  rcases hg with h0 | h0
  · exact ⟨h.len, h.le, h.max, h.nil, h.byt, .inl h0⟩
  · exact h.gb hb (fun a ha e => h0 ⟨a, ha, e⟩)

/-- Block g is the reader in the state s. -/
structure Fl (g : Nat) (w : World) (bo : Option Addr) (bn bc : Nat) (s : FS) : Prop where
  st : w.heap[g]? = some (.cells #[.slice bo bn bc, .int .i64 s.e] 44 (0, 0))
  bs : Bs w bo bn bc s.b
  ne : bn = 0 ∨ ∀ k, ob bo k → k < g

section
variable {g : Nat} {w : World} {bo : Option Addr} {bn bc : Nat} {s : FS}
theorem Fl.lt (h : Fl g w bo bn bc s) : g < w.heap.size := (Array.getElem?_eq_some_iff.1 h.st).1
theorem Fl.free (h : Fl g w bo bn bc s) (i : Nat) : w.frozen? ⟨g, i, none⟩ = false := frozen_of_row w g i _ _ h.st
theorem Fl.nob (h : Fl g w bo bn bc s) : bn = 0 ∨ ¬ ob bo g := h.ne.imp id (fun q z => Nat.lt_irrefl _ (q _ z))
theorem Fl.c0 (h : Fl g w bo bn bc s) : w.cell? ⟨g, 0, none⟩ = some (.slice bo bn bc) := by rw [cell_of_row w g 0 _ _ _ h.st]; rfl
theorem Fl.c1 (h : Fl g w bo bn bc s) : w.cell? ⟨g, 1, none⟩ = some (.int .i64 s.e) := by rw [cell_of_row w g 1 _ _ _ h.st]; rfl
theorem Fl.later (h : Fl g w bo bn bc s) {w' : World} (hb : Below w.heap.size w w') : Fl g w' bo bn bc s :=
  ⟨by rw [hb.block g h.lt]; exact h.st, h.bs.later hb, h.ne⟩
theorem Fl.drewN (h : Fl g w bo bn bc s) (n : Nat) : Fl g (w.drewN n) bo bn bc s := h.later ⟨rfl, rfl, rfl, Nat.le_refl _, fun _ _ => rfl⟩
theorem Fl.putE (h : Fl g w bo bn bc s) (z : Int) : Fl g (w.setCell ⟨g, 1, none⟩ (.int .i64 z)) bo bn bc { s with e := z } :=
  ⟨by rw [heap_setCell_same w g 1 _ _ _ h.st]; rfl, h.bs.gb0 ((Gb.refl g w).set 1 _) h.nob, h.ne⟩
theorem Fl.putB (h : Fl g w bo bn bc s) {bo' : Option Addr} {bn' bc' : Nat} {l : List Int} (hb : Bs w bo' bn' bc' l) (hn : bn' = 0 ∨ ∀ k, ob bo' k → k < g) : Fl g (w.setCell ⟨g, 0, none⟩ (.slice bo' bn' bc')) bo' bn' bc' { s with b := l } :=
  ⟨by rw [heap_setCell_same w g 0 _ _ _ h.st]; rfl, hb.gb0 ((Gb.refl g w).set 0 _) (hn.imp id (fun q z => Nat.lt_irrefl _ (q _ z))), hn⟩
theorem Fl.cutNe (h : Fl g w bo bn bc s) {yo : Option Addr} (hy : ∀ k, ob yo k → ob bo k) (q : Nat) : bn - q = 0 ∨ ∀ k, ob yo k → k < g := by
  rcases h.ne with h0 | h0
  · exact .inl (by omega)
  · exact .inr (fun k z => h0 k (hy k z))
/-- It stays where its own block stays, and what lies below it. -/
theorem Fl.keep (h : Fl g w bo bn bc s) {w' : World} (hk : ∀ k, k ≤ g → w'.heap[k]? = w.heap[k]?) : Fl g w' bo bn bc s := by
  refine ⟨by rw [hk g (Nat.le_refl _)]; exact h.st, ?_, h.ne⟩
  refine ⟨h.bs.len, h.bs.le, h.bs.max, h.bs.nil, h.bs.byt, ?_⟩
  rcases h.ne with h0 | h0
  · exact .inl h0
  · rcases h.bs.at' with hz | ⟨b', off, e, hc⟩
    · exact .inl hz
    · refine .inr ⟨b', off, e, fun i hi => ?_⟩
      have hlt := h0 b' ⟨_, e, rfl⟩
      rw [← hc i hi]
      exact World.cell?_of_block (w := w) (a := ⟨b', off + i, none⟩) (hk b' (by omega))
/-- Above it anything may change. -/
theorem Fl.above (h : Fl g w bo bn bc s) {w' : World} (hb : Below (g + 1) w w') : Fl g w' bo bn bc s := h.keep fun k hk => hb.block k (by omega)
theorem Bs.under {b : List Int} (h : Bs w bo bn bc b) : bn = 0 ∨ ∀ k, ob bo k → k < w.heap.size := by
  rcases h.at' with h0 | ⟨b', off, e, hc⟩
  · exact .inl h0
  · by_cases hz : bn = 0
    · exact .inl hz
    · right
      rintro k ⟨a, rfl, ha⟩
      have := World.block_lt_of_cell? w _ (hc 0 (by omega))
      simp at e
      subst e
      simp at ha this
      omega
/-- A reader of bytes, ahead of the first. -/
theorem Fl.new {b : List Int} (h : Bs w bo bn bc b) : Fl w.heap.size (w.alloc (.cells #[.slice bo bn bc, .int .i64 0] 44)) bo bn bc ⟨b, 0⟩ :=
  ⟨heap_alloc_new w _, h.later (below_alloc w _), h.under⟩
end

/-- The reader is in the state s behind a call. -/
def OutF (g : Nat) (w : World) (s : FS) (w' : World) : Prop := (∃ bo bn bc, Fl g w' bo bn bc s) ∧ Gb g w w'

theorem Mine.gb {B g : Nat} {w w' : World} {ao : Option Addr} {n c : Nat} {bs : List Int} (h : Mine B w ao n c bs) (hg : g < B) (hb : Gb g w w') : Mine B w' ao n c bs :=
  h.keep fun k hk hl => hb.block k hl (by omega)

set_option maxHeartbeats 400000 in
theorem want_rd (g : Nat) (w : World) (bo : Option Addr) (bn bc : Nat) (s : FS) (ok : Bool) (h : Fl g w bo bn bc s) :
    Calls Tryd.prog 37 #[.pointer (some ⟨g, 0, none⟩), .bool ok] w fun e w' => e = .returned (.tuple #[]) ∧ Fl g w' bo bn bc (waS s ok) ∧ Gb g w w' := by
  have c1 := h.c1
  have f1 := h.free 1
  have H := hide h
  by_cases he : s.e = 0
  · have he' : (s.e == 0) = true := by simpa using he
    cases ok
    · rw [show waS s false = { s with e := 5 } by unfold waS; rw [if_pos ⟨he, rfl⟩]]
      clear h he
      generalize s.e = E at *
      go_enter Tryd.func37, Tryd.ntmps37
      go_wp2_with fail
      refine bodyPost_end (results_none rfl _ _ _) rfl ?_
      exact ⟨rfl, (unhide H).putE 5, (Gb.refl _ _).set _ _⟩
    · rw [show waS s true = s by unfold waS; rw [if_neg (by simp)]]
      clear h he
      generalize s.e = E at *
      go_enter Tryd.func37, Tryd.ntmps37
      go_wp2_with fail
      refine bodyPost_end (results_none rfl _ _ _) rfl ?_
      exact ⟨rfl, unhide H, Gb.refl _ _⟩
  · have he' : (s.e == 0) = false := by simpa using he
    rw [show waS s ok = s by unfold waS; rw [if_neg (fun q => he q.1)]]
    clear h he
    generalize s.e = E at *
    go_enter Tryd.func37, Tryd.ntmps37
    go_wp2_with fail
    refine bodyPost_end (results_none rfl _ _ _) rfl ?_
    exact ⟨rfl, unhide H, Gb.refl _ _⟩
theorem want_out (g : Nat) (w : World) (bo : Option Addr) (bn bc : Nat) (s : FS) (ok : Bool) (h : Fl g w bo bn bc s) :
    Calls Tryd.prog 37 #[.pointer (some ⟨g, 0, none⟩), .bool ok] w fun e w' => e = .returned (.tuple #[]) ∧ OutF g w (waS s ok) w' :=
  (want_rd g w bo bn bc s ok h).mono fun _ _ ⟨h1, h2, h3⟩ => ⟨h1, ⟨_, _, _, h2⟩, h3⟩

set_option maxHeartbeats 400000 in
set_option maxRecDepth 100000 in
theorem clone_any (ao : Option Addr) (n c : Nat) (bs : List Int) (w : World) (h : Bs w ao n c bs) (hn : n ≤ 140737488355328) :
    Calls Tryd.prog 38 #[.slice ao n c] w fun e w' => ∃ xo xc, e = .returned (.slice xo n xc) ∧ Mine w.heap.size w' xo n xc bs ∧ Below w.heap.size w w' := by
  cases ao with
  | none =>
    have h1 := h.nil rfl
    have h2 := h.le
    have h3 := h.len
    subst h1
    have hn0 : n = 0 := by omega
    subst hn0
    have hbs : bs = [] := List.eq_nil_of_length_eq_zero h3
    subst hbs
    clear h
    have he : ∀ w : World, (binOp .eql 24 (.slice none 0 0) (.slice none 0 0)).run Tryd.prog w = .ok (.bool true) w := by intro w; kernel_rfl
    go_enter Tryd.func38, Tryd.ntmps38
    go_wp2_with fail
    go_ret
    exact ⟨_, _, rfl, Mine.nought _ _, Below.refl _ _⟩
  | some a =>
    have H := hide h
    have hl := h.le
    clear h
    have he : ∀ w : World, (binOp .eql 24 (.slice (some a) n c) (.slice none 0 0)).run Tryd.prog w = .ok (.bool false) w := by intro w; kernel_rfl
    go_enter Tryd.func38, Tryd.ntmps38
    go_wp2_with (at_builtin; refine wpList_app rfl (.tmp 5) (.tmp 6) rfl w.heap.size _ _ _ _ rfl (Mine.empty w) _ _ _ _ rfl ((unhide H).later (below_alloc w _)) (by omega) (by simp) ?_; intro ao1 c1 w1 hm1 hb1; rw [Nat.zero_add, List.nil_append] at hm1; have M1 := hide hm1; have B1 := hide hb1; clear hm1 hb1)
    go_ret
    exact ⟨_, _, rfl, unhide M1, (below_alloc w _).trans (unhide B1)⟩

theorem readFixed_bd {b : List Int} {k : Int} {x er : Int} (h : readFixed b k = (x, er)) (hk : 1 ≤ k ∧ k ≤ 8) (he : er = 0) : k ≤ b.length := by
  unfold readFixed at h
  rw [if_neg (by omega)] at h
  split at h
  · simp at h
    omega
  · omega
set_option maxHeartbeats 400000 in
set_option maxRecDepth 100000 in
theorem fixed_rd (g : Nat) (w : World) (bo : Option Addr) (bn bc : Nat) (s : FS) (n : Nat) (N : Int) (hN : N = (n : Int)) (hn1 : 1 ≤ n) (hn : n ≤ 8) (h : Fl g w bo bn bc s) :
    Calls Tryd.prog 21 #[.pointer (some ⟨g, 0, none⟩), .int .i64 N] w fun e w' => e = .returned (.int .u64 (fxA s n)) ∧ OutF g w (fxS s n) w' := by
  have c0 := h.c0
  have f0 := h.free 0
  have c1 := h.c1
  have f1 := h.free 1
  have hlen := h.bs.len
  have hle := h.bs.le
  have hmx := h.bs.max
  have H := hide h
  by_cases he : s.e = 0
  · have he' : (s.e != 0) = false := by simpa using he
    have cR := hide (readFixed_any bo bn bc s.b N w h.bs)
    by_cases hs : bn < n
    · have e1 : readFixed s.b N = (0, 4) := by unfold readFixed; rw [if_neg (by omega), if_pos (by omega)]
      have eA := hide (show fxA s n = 0 by unfold fxA; rw [if_pos he, ← hN, e1])
      have eS := hide (show fxS s n = { s with e := 4 } by unfold fxS; rw [if_pos he, ← hN, e1]; rfl)
      rw [e1] at cR
      subst hN
      clear h he hlen e1
      rw [unhide eA]
      generalize s.e = E at c1 he'
      go_enter Tryd.func21, Tryd.ntmps21
      go_wp2_with fail
      refine (unhide cR).mono ?_
      rintro e w2 ⟨rfl, hw2⟩
      have hw3 := hw2.symm
      subst hw3
      clear hw2
      go_wp2_with fail
      go_ret
      rw [unhide eS]
      exact ⟨rfl, ⟨_, _, _, (unhide H).putE 4⟩, (Gb.refl _ _).set _ _⟩
    · have e1 : readFixed s.b N = (val s.b N.toNat, 0) := by unfold readFixed; rw [if_neg (by omega), if_neg (by omega)]
      have eA := hide (show fxA s n = val s.b N.toNat by unfold fxA; rw [if_pos he, ← hN, e1])
      have eS := hide (show fxS s n = { s with b := s.b.drop n } by unfold fxS; rw [if_pos he, ← hN, e1]; rfl)
      rw [e1] at cR
      obtain ⟨yo, yc, hcut2, hyb, hyo⟩ := h.bs.cut_lo (lo := n) (by omega) (n : Int) rfl
      have HY := hide hyb
      subst hN
      clear h he hlen e1 hyb
      rw [unhide eA]
      generalize val s.b (n : Int).toNat = V at *
      generalize s.e = E at c1 he'
      go_enter Tryd.func21, Tryd.ntmps21
      go_wp2_with fail
      refine (unhide cR).mono ?_
      rintro e w2 ⟨rfl, hw2⟩
      have hw3 := hw2.symm
      subst hw3
      clear hw2
      go_wp2_with fail
      go_ret
      rw [unhide eS]
      exact ⟨rfl, ⟨_, _, _, (unhide H).putB (unhide HY) ((unhide H).cutNe hyo _)⟩, (Gb.refl _ _).set _ _⟩
  · have he' : (s.e != 0) = true := by simpa using he
    have eA := hide (show fxA s n = 0 by unfold fxA; rw [if_neg he])
    have eS := hide (show fxS s n = s by unfold fxS; rw [if_neg he])
    subst hN
    clear h he hlen
    generalize s.e = E at c1 he'
    go_enter Tryd.func21, Tryd.ntmps21
    go_wp2_with fail
    go_ret
    rw [unhide eA, unhide eS]
    exact ⟨rfl, ⟨_, _, _, unhide H⟩, Gb.refl _ _⟩

set_option maxHeartbeats 400000 in
theorem rest_rd (g : Nat) (w : World) (bo : Option Addr) (bn bc : Nat) (s : FS) (h : Fl g w bo bn bc s) :
    Calls Tryd.prog 36 #[.pointer (some ⟨g, 0, none⟩)] w fun e w' => ∃ xo xn xc, e = .returned (.slice xo xn xc) ∧ Bs w' xo xn xc (reA s) ∧ xn ≤ bn ∧ OutF g w (reS s) w' := by
  have c0 := h.c0
  have f0 := h.free 0
  have c1 := h.c1
  have H := hide h
  by_cases he : s.e = 0
  · have he' : (s.e != 0) = false := by simpa using he
    have eA := hide (show reA s = s.b by unfold reA; rw [if_pos he])
    have eS := hide (show reS s = { s with b := [] } by unfold reS; rw [if_pos he])
    clear h he
    generalize s.e = E at c1 he'
    go_enter Tryd.func36, Tryd.ntmps36
    go_wp2_with fail
    go_ret
    rw [unhide eA, unhide eS]
    exact ⟨_, _, _, rfl, (unhide H).bs.gb0 ((Gb.refl g w).set 0 _) (unhide H).nob, Nat.le_refl _, ⟨_, _, _, (unhide H).putB (Bs.nought w) (.inl rfl)⟩, (Gb.refl _ _).set _ _⟩
  · have he' : (s.e != 0) = true := by simpa using he
    have eA := hide (show reA s = [] by unfold reA; rw [if_neg he])
    have eS := hide (show reS s = s by unfold reS; rw [if_neg he])
    clear h he
    generalize s.e = E at c1 he'
    go_enter Tryd.func36, Tryd.ntmps36
    go_wp2_with fail
    go_ret
    rw [unhide eA, unhide eS]
    exact ⟨_, _, _, rfl, Bs.nought w, Nat.zero_le _, ⟨_, _, _, unhide H⟩, Gb.refl _ _⟩

theorem readFixed_val {b : List Int} (hb : Byt b) {k : Nat} (h1 : 1 ≤ k) (h8 : k ≤ 8) : 0 ≤ (readFixed b k).1 ∧ (readFixed b k).1 < 2 ^ (8 * k) := by
  unfold readFixed
  rw [if_neg (by omega)]
  split
  · simp only
    exact ⟨Int.le_refl _, Int.pow_pos (by omega)⟩
  · simp only [Int.toNat_natCast]
    exact val_bounds hb k
theorem fxA_bd {s : FS} (hb : Byt s.b) {k : Nat} (h1 : 1 ≤ k) (h8 : k ≤ 8) : 0 ≤ fxA s k ∧ fxA s k < 2 ^ (8 * k) := by
  unfold fxA
  split
  · exact readFixed_val hb h1 h8
  · exact ⟨Int.le_refl _, Int.pow_pos (by omega)⟩
theorem fixed_out (g : Nat) (w : World) (bo : Option Addr) (bn bc : Nat) (s : FS) (n : Nat) (N M : Int) (hN : N = (n : Int)) (hn1 : 1 ≤ n) (hn : n ≤ 8) (hM : (2 : Int) ^ (8 * n) = M) (h : Fl g w bo bn bc s) :
    Calls Tryd.prog 21 #[.pointer (some ⟨g, 0, none⟩), .int .i64 N] w fun e w' => (e = .returned (.int .u64 (fxA s n)) ∧ 0 ≤ fxA s n ∧ fxA s n < M) ∧ OutF g w (fxS s n) w' :=
  (fixed_rd g w bo bn bc s n N hN hn1 hn h).mono fun _ _ ⟨h1, h2⟩ => ⟨⟨h1, (fxA_bd h.bs.byt hn1 hn).1, by have := (fxA_bd h.bs.byt hn1 hn).2; rw [hM] at this; exact this⟩, h2⟩

set_option maxHeartbeats 400000 in
set_option maxRecDepth 100000 in
theorem end_rd (g : Nat) (w : World) (bo : Option Addr) (bn bc : Nat) (s : FS) (h : Fl g w bo bn bc s) :
    Calls Tryd.prog 24 #[.pointer (some ⟨g, 0, none⟩)] w fun e w' => e = .returned (.tuple #[]) ∧ OutF g w (edS s) w' := by
  have c0 := h.c0
  have hle := h.bs.le
  have hmx := h.bs.max
  have hd : edS s = waS s ((bn : Int) == 0) := by
    unfold edS
    rw [h.bs.len]
    congr 1
    rw [Bool.eq_iff_iff]
    simp
  have cW := hide (want_out g w bo bn bc s ((bn : Int) == 0) h)
  rw [← hd] at cW
  clear h hd
  generalize edS s = t at *
  obtain ⟨z, hz⟩ : ∃ z, ((bn : Int) == 0) = z := ⟨_, rfl⟩
  rw [hz] at cW
  go_enter Tryd.func24, Tryd.ntmps24
  go_wp2_with fail
  refine (unhide cW).mono ?_
  rintro e w2 ⟨rfl, ho⟩
  have HO := hide ho
  clear ho
  go_wp2_with fail
  refine bodyPost_end (results_none rfl _ _ _) rfl ?_
  exact ⟨rfl, unhide HO⟩


end Go.Proofs.YtpidlfifipgadaaDoor
