/-
  The reader of logins' packets, which stops at its first error: as a state, in memory, and what want, pass, take, fixed, ended and text of it do. Conditions: the slice can be read.
-/
import Derived.Test.YtkijdkbkbelliaaGpFs
import Derived.Test.YtkijdkbkbelliaaLeWrites2
import Derived.Laws.ResultCell
namespace Go.Proofs.Ytkijdkbkbelliaa
open Go.RowKit
set_option linter.unusedVariables false
set_option linter.unusedSimpArgs false

/-- What is left to read; the first error. -/
structure FS where
  b : List Int
  e : Int

/-- want. -/
def waS (s : FS) (ok : Bool) : FS := if s.e = 0 ∧ ok = false then { s with e := 5 } else s
/-- pass. -/
def paS (s : FS) (n : Nat) (e : Int) : FS := if e = 0 then { s with b := s.b.drop n } else { s with e := e }
/-- take: the bytes, the state behind. -/
def tkA (s : FS) (n : Nat) : List Int := if s.e = 0 ∧ n ≤ s.b.length then s.b.take n else []
def tkS (s : FS) (n : Nat) : FS := if s.e = 0 then (if s.b.length < n then { s with e := 4 } else { s with b := s.b.drop n }) else s
/-- fixed. -/
def fxA (s : FS) (n : Nat) : Int := if s.e = 0 then (readFixed s.b n).1 else 0
def fxS (s : FS) (n : Nat) : FS := if s.e = 0 then paS s n (readFixed s.b n).2 else s
/-- ended. -/
def enA (s : FS) : ByteArray := if s.e = 0 then (readEnded s.b).1 else ⟨#[]⟩
def enS (s : FS) : FS := if s.e = 0 then paS s (readEnded s.b).2.1.toNat (readEnded s.b).2.2 else s
/-- text. -/
def txA (s : FS) : ByteArray := if s.e = 0 then (readText s.b).1 else ⟨#[]⟩
def txS (s : FS) : FS := if s.e = 0 then paS s (readText s.b).2.1.toNat (readText s.b).2.2 else s

theorem Bs.cut_lo {w : World} {ao : Option Addr} {n c : Nat} {bs : List Int} (h : Bs w ao n c bs) {lo : Nat} (h1 : lo ≤ n) (L : Int) (hL : L = lo) :
    ∃ ao' c', (∀ wx, (Instr.slice 22 (.slice ao n c) (some (.int .i64 L)) none none).run Try.prog wx = .ok (.slice ao' (n - lo) c') wx) ∧ Bs w ao' (n - lo) c' (bs.drop lo) ∧ ∀ k, ob ao' k → ob ao k :=
  ⟨_, _, run_cut_l ao n c lo h1 L hL, by have := h.cut h1 (Nat.le_refl n); rwa [List.take_of_length_le (by simp [h.len])] at this, fun k hk => ob_cut hk⟩

theorem Bs.gb0 {g : Nat} {w w' : World} {ao : Option Addr} {n c : Nat} {bs : List Int} (h : Bs w ao n c bs) (hb : Gb g w w') (hg : n = 0 ∨ ¬ ob ao g) : Bs w' ao n c bs := by
  rcases hg with h0 | h0
  · exact ⟨h.len, h.le, h.max, h.nil, h.byt, .inl h0⟩
  · exact h.gb hb (fun a ha e => h0 ⟨a, ha, e⟩)

/-- Block g is the reader in the state s. -/
structure Fl (g : Nat) (w : World) (bo : Option Addr) (bn bc : Nat) (s : FS) : Prop where
  st : w.heap[g]? = some (.cells #[.slice bo bn bc, .int .i64 s.e] 137 (0, 0))
  bs : Bs w bo bn bc s.b
  ne : bn = 0 ∨ ∀ k, ob bo k → k < g

section
variable {g : Nat} {w : World} {bo : Option Addr} {bn bc : Nat} {s : FS}
theorem Fl.lt (h : Fl g w bo bn bc s) : g < w.heap.size := (Array.getElem?_eq_some_iff.1 h.st).1
theorem Fl.free (h : Fl g w bo bn bc s) (i : Nat) : w.frozen? ⟨g, i, none⟩ = false := frozen_of_row w g i _ _ h.st
theorem Fl.nob (h : Fl g w bo bn bc s) : bn = 0 ∨ ¬ ob bo g := h.ne.imp id (fun q z => Nat.lt_irrefl _ (q _ z))
theorem Fl.c0 (h : Fl g w bo bn bc s) : w.cell? ⟨g, 0, none⟩ = some (.slice bo bn bc) := by rw [cell_of_row w g 0 _ _ _ h.st]; rfl
theorem Fl.c1 (h : Fl g w bo bn bc s) : w.cell? ⟨g, 1, none⟩ = some (.int .i64 s.e) := by rw [cell_of_row w g 1 _ _ _ h.st]; rfl
theorem Fl.later (h : Fl g w bo bn bc s) {w' : World} (hb : Below w.heap.size w w') : Fl g w' bo bn bc s :=
  ⟨by rw [hb.block g h.lt]; exact h.st, h.bs.later hb, h.ne⟩
theorem Fl.drewN (h : Fl g w bo bn bc s) (n : Nat) : Fl g (w.drewN n) bo bn bc s := h.later ⟨rfl, rfl, rfl, Nat.le_refl _, fun _ _ => rfl⟩
theorem Fl.putE (h : Fl g w bo bn bc s) (z : Int) : Fl g (w.setCell ⟨g, 1, none⟩ (.int .i64 z)) bo bn bc { s with e := z } :=
  ⟨by rw [heap_setCell_same w g 1 _ _ _ h.st]; rfl, h.bs.gb0 ((Gb.refl g w).set 1 _) h.nob, h.ne⟩
theorem Fl.putB (h : Fl g w bo bn bc s) {bo' : Option Addr} {bn' bc' : Nat} {l : List Int} (hb : Bs w bo' bn' bc' l) (hn : bn' = 0 ∨ ∀ k, ob bo' k → k < g) : Fl g (w.setCell ⟨g, 0, none⟩ (.slice bo' bn' bc')) bo' bn' bc' { s with b := l } :=
  ⟨by rw [heap_setCell_same w g 0 _ _ _ h.st]; rfl, hb.gb0 ((Gb.refl g w).set 0 _) (hn.imp id (fun q z => Nat.lt_irrefl _ (q _ z))), hn⟩
theorem Fl.cutNe (h : Fl g w bo bn bc s) {yo : Option Addr} (hy : ∀ k, ob yo k → ob bo k) (q : Nat) : bn - q = 0 ∨ ∀ k, ob yo k → k < g := by
  rcases h.ne with h0 | h0
  · exact .inl (by omega)
  · exact .inr (fun k z => h0 k (hy k z))
/-- It stays where its own block stays, and what lies below it. -/
theorem Fl.keep (h : Fl g w bo bn bc s) {w' : World} (hk : ∀ k, k ≤ g → w'.heap[k]? = w.heap[k]?) : Fl g w' bo bn bc s := by
  refine ⟨by rw [hk g (Nat.le_refl _)]; exact h.st, ?_, h.ne⟩
  refine ⟨h.bs.len, h.bs.le, h.bs.max, h.bs.nil, h.bs.byt, ?_⟩
  rcases h.ne with h0 | h0
  · exact .inl h0
  · rcases h.bs.at' with hz | ⟨b', off, e, hc⟩
    · exact .inl hz
    · refine .inr ⟨b', off, e, fun i hi => ?_⟩
      have hlt := h0 b' ⟨_, e, rfl⟩
      rw [← hc i hi]
      exact World.cell?_of_block (w := w) (a := ⟨b', off + i, none⟩) (hk b' (by omega))
/-- Above it anything may change. -/
theorem Fl.above (h : Fl g w bo bn bc s) {w' : World} (hb : Below (g + 1) w w') : Fl g w' bo bn bc s := h.keep fun k hk => hb.block k (by omega)
theorem Bs.under {b : List Int} (h : Bs w bo bn bc b) : bn = 0 ∨ ∀ k, ob bo k → k < w.heap.size := by
  rcases h.at' with h0 | ⟨b', off, e, hc⟩
  · exact .inl h0
  · by_cases hz : bn = 0
    · exact .inl hz
    · right
      rintro k ⟨a, rfl, ha⟩
      have := World.block_lt_of_cell? w _ (hc 0 (by omega))
      simp at e
      subst e
      simp at ha this
      omega
/-- A reader of bytes, ahead of the first. -/
theorem Fl.new {b : List Int} (h : Bs w bo bn bc b) : Fl w.heap.size (w.alloc (.cells #[.slice bo bn bc, .int .i64 0] 137)) bo bn bc ⟨b, 0⟩ :=
  ⟨heap_alloc_new w _, h.later (below_alloc w _), h.under⟩
end

/-- The reader is in the state s behind a call. -/
def OutF (g : Nat) (w : World) (s : FS) (w' : World) : Prop := (∃ bo bn bc, Fl g w' bo bn bc s) ∧ Gb g w w'

theorem Mine.gb {B g : Nat} {w w' : World} {ao : Option Addr} {n c : Nat} {bs : List Int} (h : Mine B w ao n c bs) (hg : g < B) (hb : Gb g w w') : Mine B w' ao n c bs :=
  h.keep fun k hk hl => hb.block k hl (by omega)

set_option maxHeartbeats 400000 in
theorem want_rd (g : Nat) (w : World) (bo : Option Addr) (bn bc : Nat) (s : FS) (ok : Bool) (h : Fl g w bo bn bc s) :
    Calls Try.prog 101 #[.pointer (some ⟨g, 0, none⟩), .bool ok] w fun e w' => e = .returned (.tuple #[]) ∧ Fl g w' bo bn bc (waS s ok) ∧ Gb g w w' := by
  have c1 := h.c1
  have f1 := h.free 1
  have H := hide h
  by_cases he : s.e = 0
  · have he' : (s.e == 0) = true := by simpa using he
    cases ok
    · rw [show waS s false = { s with e := 5 } by unfold waS; rw [if_pos ⟨he, rfl⟩]]
      clear h he
      generalize s.e = E at *
      go_enter Try.func101, Try.ntmps101
      go_wp2_with fail
      refine bodyPost_end (results_none rfl _ _ _) rfl ?_
      exact ⟨rfl, (unhide H).putE 5, (Gb.refl _ _).set _ _⟩
    · rw [show waS s true = s by unfold waS; rw [if_neg (by simp)]]
      clear h he
      generalize s.e = E at *
      go_enter Try.func101, Try.ntmps101
      go_wp2_with fail
      refine bodyPost_end (results_none rfl _ _ _) rfl ?_
      exact ⟨rfl, unhide H, Gb.refl _ _⟩
  · have he' : (s.e == 0) = false := by simpa using he
    rw [show waS s ok = s by unfold waS; rw [if_neg (fun q => he q.1)]]
    clear h he
    generalize s.e = E at *
    go_enter Try.func101, Try.ntmps101
    go_wp2_with fail
    refine bodyPost_end (results_none rfl _ _ _) rfl ?_
    exact ⟨rfl, unhide H, Gb.refl _ _⟩
theorem want_out (g : Nat) (w : World) (bo : Option Addr) (bn bc : Nat) (s : FS) (ok : Bool) (h : Fl g w bo bn bc s) :
    Calls Try.prog 101 #[.pointer (some ⟨g, 0, none⟩), .bool ok] w fun e w' => e = .returned (.tuple #[]) ∧ OutF g w (waS s ok) w' :=
  (want_rd g w bo bn bc s ok h).mono fun _ _ ⟨h1, h2, h3⟩ => ⟨h1, ⟨_, _, _, h2⟩, h3⟩

set_option maxHeartbeats 400000 in
theorem pass_rd (g : Nat) (w : World) (bo : Option Addr) (bn bc : Nat) (s : FS) (n : Nat) (N e : Int) (hN : N = (n : Int)) (h : Fl g w bo bn bc s) (hn : e = 0 → n ≤ bn) :
    Calls Try.prog 133 #[.pointer (some ⟨g, 0, none⟩), .int .i64 N, .int .i64 e] w fun r w' => r = .returned (.tuple #[]) ∧ OutF g w (paS s n e) w' := by
  subst hN
  have c0 := h.c0
  have f0 := h.free 0
  have c1 := h.c1
  have f1 := h.free 1
  have H := hide h
  have hle := h.bs.le
  have hmx := h.bs.max
  by_cases he : e = 0
  · subst he
    have hn' := hn rfl
    rw [show paS s n 0 = { s with b := s.b.drop n } from rfl]
    obtain ⟨yo, yc, hcut2, hyb, hyo⟩ := h.bs.cut_lo (lo := n) hn' (n : Int) rfl
    have HY := hide hyb
    clear h hyb hn
    go_enter Try.func133, Try.ntmps133
    go_wp2_with fail
    refine bodyPost_end (results_none rfl _ _ _) rfl ?_
    exact ⟨rfl, ⟨_, _, _, (unhide H).putB (unhide HY) ((unhide H).cutNe hyo _)⟩, (Gb.refl _ _).set _ _⟩
  · have he' : (e != 0) = true := by simpa using he
    rw [show paS s n e = { s with e := e } by unfold paS; rw [if_neg he]]
    clear h hn he
    generalize s.e = E at c1
    go_enter Try.func133, Try.ntmps133
    go_wp2_with fail
    refine bodyPost_ret (results_none rfl _ _ _) rfl ?_
    exact ⟨rfl, ⟨_, _, _, (unhide H).putE e⟩, (Gb.refl _ _).set _ _⟩

set_option maxHeartbeats 400000 in
set_option maxRecDepth 100000 in
theorem clone_any (ao : Option Addr) (n c : Nat) (bs : List Int) (w : World) (h : Bs w ao n c bs) (hn : n ≤ 140737488355328) :
    Calls Try.prog 147 #[.slice ao n c] w fun e w' => ∃ xo xc, e = .returned (.slice xo n xc) ∧ Mine w.heap.size w' xo n xc bs ∧ Below w.heap.size w w' := by
  cases ao with
  | none =>
    have h1 := h.nil rfl
    have h2 := h.le
    have h3 := h.len
    subst h1
    have hn0 : n = 0 := by omega
    subst hn0
    have hbs : bs = [] := List.eq_nil_of_length_eq_zero h3
    subst hbs
    clear h
    have he : ∀ w : World, (binOp .eql 22 (.slice none 0 0) (.slice none 0 0)).run Try.prog w = .ok (.bool true) w := by intro w; kernel_rfl
    go_enter Try.func147, Try.ntmps147
    go_wp2_with fail
    go_ret
    exact ⟨_, _, rfl, Mine.nought _ _, Below.refl _ _⟩
  | some a =>
    have H := hide h
    have hl := h.le
    clear h
    have he : ∀ w : World, (binOp .eql 22 (.slice (some a) n c) (.slice none 0 0)).run Try.prog w = .ok (.bool false) w := by intro w; kernel_rfl
    go_enter Try.func147, Try.ntmps147
    go_wp2_with (at_builtin; refine wpList_app rfl (.tmp 5) (.tmp 6) rfl w.heap.size _ _ _ _ rfl (Mine.empty w) _ _ _ _ rfl ((unhide H).later (below_alloc w _)) (by omega) (by simp) ?_; intro ao1 c1 w1 hm1 hb1; rw [Nat.zero_add, List.nil_append] at hm1; have M1 := hide hm1; have B1 := hide hb1; clear hm1 hb1)
    go_ret
    exact ⟨_, _, rfl, unhide M1, (below_alloc w _).trans (unhide B1)⟩

set_option maxHeartbeats 1000000 in
theorem take_rd (g : Nat) (w : World) (bo : Option Addr) (bn bc : Nat) (s : FS) (n : Nat) (N : Int) (hN : N = (n : Int)) (hn : n ≤ 140737488355328) (h : Fl g w bo bn bc s) :
    Calls Try.prog 134 #[.pointer (some ⟨g, 0, none⟩), .int .i64 N] w fun e w' => ∃ xo xn xc, e = .returned (.slice xo xn xc) ∧ Mine w.heap.size w' xo xn xc (tkA s n) ∧ OutF g w (tkS s n) w' := by
  subst hN
  have c0 := h.c0
  have c1 := h.c1
  have f1 := h.free 1
  have hlen := h.bs.len
  have hle := h.bs.le
  have hmx := h.bs.max
  have hlt := h.lt
  have H := hide h
  by_cases he : s.e = 0
  · have he' : (s.e != 0) = false := by simpa using he
    by_cases hs : bn < n
    · have hs' : ((bn : Int) < (n : Int)) := by omega
      have eA := hide (show tkA s n = [] by unfold tkA; rw [if_neg (fun q => by omega)])
      have eS := hide (show tkS s n = { s with e := 4 } by unfold tkS; rw [if_pos he, if_pos (by omega)])
      clear h he hlen
      generalize s.e = E at c1 he'
      go_enter Try.func134, Try.ntmps134
      go_wp2_with fail
      go_ret
      rw [unhide eA, unhide eS]
      exact ⟨_, _, _, rfl, Mine.nought _ _, ⟨_, _, _, (unhide H).putE 4⟩, (Gb.refl _ _).set _ _⟩
    · have hs' : ¬ ((bn : Int) < (n : Int)) := by omega
      have eA := hide (show tkA s n = s.b.take n by unfold tkA; rw [if_pos ⟨he, by omega⟩])
      have eS := hide (show tkS s n = paS s n 0 by unfold tkS; rw [if_pos he, if_neg (by omega)]; rfl)
      obtain ⟨xo, xc, hcut, hxb⟩ := h.bs.cut_h (hi := n) (by omega) (n : Int) rfl
      have cC := hide (clone_any xo n xc _ w hxb hn)
      clear h he hlen hxb
      generalize s.e = E at c1 he'
      go_enter Try.func134, Try.ntmps134
      go_wp2_with fail
      refine (unhide cC).mono ?_
      rintro e w1 ⟨zo, zc, rfl, m1, b1⟩
      have cP := hide (pass_rd g w1 bo bn bc s n (n : Int) 0 rfl ((unhide H).later b1) (fun _ => by omega))
      have M1 := hide m1
      have B1 := hide b1
      clear m1 b1 cC
      go_wp2_with fail
      refine (unhide cP).mono ?_
      rintro e w2 ⟨rfl, ho, gb⟩
      have HO := hide ho
      have HG := hide gb
      clear ho gb cP
      go_wp2_with fail
      go_ret
      rw [unhide eA, unhide eS]
      exact ⟨_, _, _, rfl, (unhide M1).gb (g := g) hlt (unhide HG), unhide HO, (Gb.of (unhide B1)).trans (unhide HG)⟩
  · have he' : (s.e != 0) = true := by simpa using he
    have eA := hide (show tkA s n = [] by unfold tkA; rw [if_neg (fun q => he q.1)])
    have eS := hide (show tkS s n = s by unfold tkS; rw [if_neg he])
    clear h he hlen
    generalize s.e = E at c1 he'
    go_enter Try.func134, Try.ntmps134
    go_wp2_with fail
    go_ret
    rw [unhide eA, unhide eS]
    exact ⟨_, _, _, rfl, Mine.nought _ _, ⟨_, _, _, unhide H⟩, Gb.refl _ _⟩

theorem readFixed_bd {b : List Int} {k : Int} {x er : Int} (h : readFixed b k = (x, er)) (hk : 1 ≤ k ∧ k ≤ 8) (he : er = 0) : k ≤ b.length := by
  unfold readFixed at h
  rw [if_neg (by omega)] at h
  split at h
  · simp at h
    omega
  · omega
theorem readEnded_bd (b : List Int) : 0 ≤ (readEnded b).2.1 ∧ (readEnded b).2.1 ≤ b.length := by
  have h := idx0_bounds b
  unfold readEnded
  split
  · simp
  · simp
    omega
theorem readText_bd {b : List Int} (hb : Byt b) : 0 ≤ (readText b).2.1 ∧ (readText b).2.1 ≤ b.length := by
  obtain ⟨x, q, er, hr⟩ : ∃ x q er, readInt b = (x, q, er) := ⟨_, _, _, rfl⟩
  by_cases he : er = 0
  · subst he
    have h := readInt_shortest hb hr
    by_cases hs : (b.length : Int) - q < x
    · rw [readText_short hr hs]; simp
    · rw [readText_long hr hs]; simp only; omega
  · rw [readText_err hr he]; simp

set_option maxHeartbeats 400000 in
set_option maxRecDepth 100000 in
theorem fixed_rd (g : Nat) (w : World) (bo : Option Addr) (bn bc : Nat) (s : FS) (n : Nat) (N : Int) (hN : N = (n : Int)) (hn1 : 1 ≤ n) (hn : n ≤ 8) (h : Fl g w bo bn bc s) :
    Calls Try.prog 98 #[.pointer (some ⟨g, 0, none⟩), .int .i64 N] w fun e w' => e = .returned (.int .u64 (fxA s n)) ∧ OutF g w (fxS s n) w' := by
  have c0 := h.c0
  have c1 := h.c1
  have hlen := h.bs.len
  have H := hide h
  by_cases he : s.e = 0
  · have he' : (s.e != 0) = false := by simpa using he
    have cR := hide (readFixed_any bo bn bc s.b N w h.bs)
    obtain ⟨x, er, hr⟩ : ∃ x er, readFixed s.b N = (x, er) := ⟨_, _, rfl⟩
    have eA := hide (show fxA s n = x by unfold fxA; rw [if_pos he, ← hN, hr])
    have eS := hide (show fxS s n = paS s n er by unfold fxS; rw [if_pos he, ← hN, hr])
    rw [hr] at cR
    have cP := hide (fun wx (hx : Fl g wx bo bn bc s) => pass_rd g wx bo bn bc s n N er hN hx (fun q => by have := readFixed_bd hr (by omega) q; omega))
    subst hN
    clear h he hlen hr
    rw [unhide eA]
    generalize s.e = E at c1 he'
    go_enter Try.func98, Try.ntmps98
    go_wp2_with fail
    refine (unhide cR).mono ?_
    rintro e w2 ⟨rfl, hw2⟩
    have hw3 := hw2.symm
    subst hw3
    clear hw2
    go_wp2_with fail
    refine (unhide cP _ (unhide H)).mono ?_
    rintro e w3 ⟨rfl, ho⟩
    have HO := hide ho
    clear ho
    go_wp2_with fail
    go_ret
    rw [unhide eS]
    exact ⟨rfl, unhide HO⟩
  · have he' : (s.e != 0) = true := by simpa using he
    have eA := hide (show fxA s n = 0 by unfold fxA; rw [if_neg he])
    have eS := hide (show fxS s n = s by unfold fxS; rw [if_neg he])
    subst hN
    clear h he hlen
    generalize s.e = E at c1 he'
    go_enter Try.func98, Try.ntmps98
    go_wp2_with fail
    go_ret
    rw [unhide eA, unhide eS]
    exact ⟨rfl, ⟨_, _, _, unhide H⟩, Gb.refl _ _⟩

set_option maxHeartbeats 400000 in
set_option maxRecDepth 100000 in
theorem ended_rd (g : Nat) (w : World) (bo : Option Addr) (bn bc : Nat) (s : FS) (h : Fl g w bo bn bc s) :
    Calls Try.prog 97 #[.pointer (some ⟨g, 0, none⟩)] w fun e w' => e = .returned (.string (enA s)) ∧ OutF g w (enS s) w' := by
  have c0 := h.c0
  have c1 := h.c1
  have hlen := h.bs.len
  have H := hide h
  by_cases he : s.e = 0
  · have he' : (s.e != 0) = false := by simpa using he
    have cR := hide (readEnded_any bo bn bc s.b w h.bs)
    have bd := readEnded_bd s.b
    obtain ⟨x, q, er, hr⟩ : ∃ x q er, readEnded s.b = (x, q, er) := ⟨_, _, _, rfl⟩
    rw [hr] at cR bd
    simp only at cR bd
    obtain ⟨Q, rfl⟩ := Int.eq_ofNat_of_zero_le bd.1
    have eA := hide (show enA s = x by unfold enA; rw [if_pos he, hr])
    have eS := hide (show enS s = paS s Q er by unfold enS; rw [if_pos he, hr]; rfl)
    have cP := hide (fun wx (hx : Fl g wx bo bn bc s) => pass_rd g wx bo bn bc s Q (Q : Int) er rfl hx (fun q => by omega))
    clear h he hlen hr bd
    rw [unhide eA]
    generalize s.e = E at c1 he'
    go_enter Try.func97, Try.ntmps97
    go_wp2_with fail
    refine (unhide cR).mono ?_
    rintro e w2 ⟨rfl, hw2⟩
    have hw3 := hw2.symm
    subst hw3
    clear hw2
    go_wp2_with fail
    refine (unhide cP _ (unhide H)).mono ?_
    rintro e w3 ⟨rfl, ho⟩
    have HO := hide ho
    clear ho
    go_wp2_with fail
    go_ret
    rw [unhide eS]
    exact ⟨rfl, unhide HO⟩
  · have he' : (s.e != 0) = true := by simpa using he
    have eA := hide (show enA s = ⟨#[]⟩ by unfold enA; rw [if_neg he])
    have eS := hide (show enS s = s by unfold enS; rw [if_neg he])
    clear h he hlen
    generalize s.e = E at c1 he'
    go_enter Try.func97, Try.ntmps97
    go_wp2_with fail
    go_ret
    rw [unhide eA, unhide eS]
    exact ⟨rfl, ⟨_, _, _, unhide H⟩, Gb.refl _ _⟩

set_option maxHeartbeats 400000 in
set_option maxRecDepth 100000 in
theorem text_rd (g : Nat) (w : World) (bo : Option Addr) (bn bc : Nat) (s : FS) (h : Fl g w bo bn bc s) :
    Calls Try.prog 110 #[.pointer (some ⟨g, 0, none⟩)] w fun e w' => e = .returned (.string (txA s)) ∧ OutF g w (txS s) w' := by
  have c0 := h.c0
  have c1 := h.c1
  have hlen := h.bs.len
  have H := hide h
  by_cases he : s.e = 0
  · have he' : (s.e != 0) = false := by simpa using he
    have cR := hide (readText_any bo bn bc s.b w h.bs)
    have bd := readText_bd h.bs.byt
    obtain ⟨x, q, er, hr⟩ : ∃ x q er, readText s.b = (x, q, er) := ⟨_, _, _, rfl⟩
    rw [hr] at cR bd
    simp only at cR bd
    obtain ⟨Q, rfl⟩ := Int.eq_ofNat_of_zero_le bd.1
    have eA := hide (show txA s = x by unfold txA; rw [if_pos he, hr])
    have eS := hide (show txS s = paS s Q er by unfold txS; rw [if_pos he, hr]; rfl)
    have cP := hide (fun wx (hx : Fl g wx bo bn bc s) => pass_rd g wx bo bn bc s Q (Q : Int) er rfl hx (fun q => by omega))
    clear h he hlen hr bd
    rw [unhide eA]
    generalize s.e = E at c1 he'
    go_enter Try.func110, Try.ntmps110
    go_wp2_with fail
    refine (unhide cR).mono ?_
    rintro e w2 ⟨rfl, hw2⟩
    have hw3 := hw2.symm
    subst hw3
    clear hw2
    go_wp2_with fail
    refine (unhide cP _ (unhide H)).mono ?_
    rintro e w3 ⟨rfl, ho⟩
    have HO := hide ho
    clear ho
    go_wp2_with fail
    go_ret
    rw [unhide eS]
    exact ⟨rfl, unhide HO⟩
  · have he' : (s.e != 0) = true := by simpa using he
    have eA := hide (show txA s = ⟨#[]⟩ by unfold txA; rw [if_neg he])
    have eS := hide (show txS s = s by unfold txS; rw [if_neg he])
    clear h he hlen
    generalize s.e = E at c1 he'
    go_enter Try.func110, Try.ntmps110
    go_wp2_with fail
    go_ret
    rw [unhide eA, unhide eS]
    exact ⟨rfl, ⟨_, _, _, unhide H⟩, Gb.refl _ _⟩

end Go.Proofs.Ytkijdkbkbelliaa
