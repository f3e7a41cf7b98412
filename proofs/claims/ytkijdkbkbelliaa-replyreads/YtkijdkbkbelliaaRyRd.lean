/-
  The reader of replies, which stops at its first error: in memory, and what want, left, need, pass, fixed, number, text, mark, take, rest and end of it do. Conditions: the slice can be read; at most 2 to the 40 bytes.
-/
import Derived.Test.YtkijdkbkbelliaaGpFs
import Derived.Test.YtkijdkbkbelliaaRyPlain
import Derived.Laws.ResultCell
import Derived.BigQuiet
import Derived.BigRegion
namespace Go.Proofs.Ytkijdkbkbelliaa
open Go.RowKit
set_option linter.unusedVariables false
set_option linter.unusedSimpArgs false

theorem Bs.cut_lo {w : World} {ao : Option Addr} {n c : Nat} {bs : List Int} (h : Bs w ao n c bs) {lo : Nat} (h1 : lo ≤ n) (L : Int) (hL : L = lo) :
    ∃ ao' c', (∀ wx, (Instr.slice 22 (.slice ao n c) (some (.int .i64 L)) none none).run Try.prog wx = .ok (.slice ao' (n - lo) c') wx) ∧ Bs w ao' (n - lo) c' (bs.drop lo) ∧ ∀ k, ob ao' k → ob ao k :=
  ⟨_, _, run_cut_l ao n c lo h1 L hL, by have := h.cut h1 (Nat.le_refl n); rwa [List.take_of_length_le (by simp [h.len])] at this, fun k hk => ob_cut hk⟩

theorem Bs.gb0 {g : Nat} {w w' : World} {ao : Option Addr} {n c : Nat} {bs : List Int} (h : Bs w ao n c bs) (hb : Gb g w w') (hg : n = 0 ∨ ¬ ob ao g) : Bs w' ao n c bs := by
  rcases hg with h0 | h0
  · exact ⟨h.len, h.le, h.max, h.nil, h.byt, .inl h0⟩
  · exact h.gb hb (fun a ha e => h0 ⟨a, ha, e⟩)
theorem Bs.under {w : World} {bo : Option Addr} {bn bc : Nat} {b : List Int} (h : Bs w bo bn bc b) : bn = 0 ∨ ∀ k, ob bo k → k < w.heap.size := by
  rcases h.at' with h0 | ⟨b', off, e, hc⟩
  · exact .inl h0
  · by_cases hz : bn = 0
    · exact .inl hz
    · right
      rintro k ⟨a, rfl, ha⟩
      have := World.block_lt_of_cell? w _ (hc 0 (by omega))
      simp at e
      subst e
      simp at ha this
      omega

/-- Block g is the reader of all of a, at place p, in the state s. -/
structure Fl (g : Nat) (w : World) (bo : Option Addr) (bn bc : Nat) (a : List Int) (p : Nat) (s : FS) : Prop where
  st : w.heap[g]? = some (.cells #[.slice bo bn bc, .int .i64 (p : Int), .int .i64 s.e] 105 (0, 0))
  bs : Bs w bo bn bc a
  le : p ≤ bn
  sb : s.b = a.drop p
  mx : bn ≤ 1099511627776
  ne : bn = 0 ∨ ∀ k, ob bo k → k < g

section
variable {g : Nat} {w : World} {bo : Option Addr} {bn bc : Nat} {a : List Int} {p : Nat} {s : FS}
theorem Fl.lt (h : Fl g w bo bn bc a p s) : g < w.heap.size := (Array.getElem?_eq_some_iff.1 h.st).1
theorem Fl.free (h : Fl g w bo bn bc a p s) (i : Nat) : w.frozen? ⟨g, i, none⟩ = false := frozen_of_row w g i _ _ h.st
theorem Fl.nob (h : Fl g w bo bn bc a p s) : bn = 0 ∨ ¬ ob bo g := h.ne.imp id (fun q z => Nat.lt_irrefl _ (q _ z))
theorem Fl.c0 (h : Fl g w bo bn bc a p s) : w.cell? ⟨g, 0, none⟩ = some (.slice bo bn bc) := by rw [cell_of_row w g 0 _ _ _ h.st]; rfl
theorem Fl.c1 (h : Fl g w bo bn bc a p s) : w.cell? ⟨g, 1, none⟩ = some (.int .i64 (p : Int)) := by rw [cell_of_row w g 1 _ _ _ h.st]; rfl
theorem Fl.c2 (h : Fl g w bo bn bc a p s) : w.cell? ⟨g, 2, none⟩ = some (.int .i64 s.e) := by rw [cell_of_row w g 2 _ _ _ h.st]; rfl
theorem Fl.len (h : Fl g w bo bn bc a p s) : s.b.length = bn - p := by rw [h.sb, List.length_drop, h.bs.len]
theorem Fl.byt (h : Fl g w bo bn bc a p s) : Byt s.b := by rw [h.sb]; exact h.bs.byt.drop p
theorem Fl.later (h : Fl g w bo bn bc a p s) {w' : World} (hb : Below w.heap.size w w') : Fl g w' bo bn bc a p s :=
  ⟨by rw [hb.block g h.lt]; exact h.st, h.bs.later hb, h.le, h.sb, h.mx, h.ne⟩
theorem Fl.putE (h : Fl g w bo bn bc a p s) (z : Int) : Fl g (w.setCell ⟨g, 2, none⟩ (.int .i64 z)) bo bn bc a p { s with e := z } :=
  ⟨by rw [heap_setCell_same w g 2 _ _ _ h.st]; rfl, h.bs.gb0 ((Gb.refl g w).set 2 _) h.nob, h.le, h.sb, h.mx, h.ne⟩
theorem Fl.putP (h : Fl g w bo bn bc a p s) {n q : Nat} (hq : q = p + n) (hn : q ≤ bn) : Fl g (w.setCell ⟨g, 1, none⟩ (.int .i64 (q : Int))) bo bn bc a q { s with b := s.b.drop n } :=
  ⟨by rw [heap_setCell_same w g 1 _ _ _ h.st]; rfl, h.bs.gb0 ((Gb.refl g w).set 1 _) h.nob, hn, by subst hq; simp only [h.sb, List.drop_drop], h.mx, h.ne⟩
/-- It stays where its own block stays, and what lies below it. -/
theorem Fl.keep (h : Fl g w bo bn bc a p s) {w' : World} (hk : ∀ k, k ≤ g → w'.heap[k]? = w.heap[k]?) : Fl g w' bo bn bc a p s := by
  refine ⟨by rw [hk g (Nat.le_refl _)]; exact h.st, ?_, h.le, h.sb, h.mx, h.ne⟩
  refine ⟨h.bs.len, h.bs.le, h.bs.max, h.bs.nil, h.bs.byt, ?_⟩
  rcases h.ne with h0 | h0
  · exact .inl h0
  · rcases h.bs.at' with hz | ⟨b', off, e, hc⟩
    · exact .inl hz
    · refine .inr ⟨b', off, e, fun i hi => ?_⟩
      have hlt := h0 b' ⟨_, e, rfl⟩
      rw [← hc i hi]
      exact World.cell?_of_block (w := w) (a := ⟨b', off + i, none⟩) (hk b' (by omega))
/-- Above it anything may change. -/
theorem Fl.above (h : Fl g w bo bn bc a p s) {w' : World} (hb : Below (g + 1) w w') : Fl g w' bo bn bc a p s := h.keep fun k hk => hb.block k (by omega)
/-- A reader of bytes, ahead of the first. -/
theorem Fl.new {b : List Int} (h : Bs w bo bn bc b) (hm : bn ≤ 1099511627776) : Fl w.heap.size (w.alloc (.cells #[.slice bo bn bc, .int .i64 0, .int .i64 0] 105)) bo bn bc b 0 ⟨b, 0⟩ :=
  ⟨heap_alloc_new w _, h.later (below_alloc w _), Nat.zero_le _, rfl, hm, h.under⟩
end

/-- The reader is in the state s behind a call. -/
def OutF (g : Nat) (w : World) (bo : Option Addr) (bn bc : Nat) (a : List Int) (s : FS) (w' : World) : Prop := (∃ p, Fl g w' bo bn bc a p s) ∧ Gb g w w'

theorem Mine.gb {B g : Nat} {w w' : World} {ao : Option Addr} {n c : Nat} {bs : List Int} (h : Mine B w ao n c bs) (hg : g < B) (hb : Gb g w w') : Mine B w' ao n c bs :=
  h.keep fun k hk hl => hb.block k hl (by omega)

set_option maxHeartbeats 400000 in
theorem want_rd (g : Nat) (w : World) (bo : Option Addr) (bn bc : Nat) (a : List Int) (p : Nat) (s : FS) (ok : Bool) (h : Fl g w bo bn bc a p s) :
    Calls Try.prog 63 #[.pointer (some ⟨g, 0, none⟩), .bool ok] w fun e w' => e = .returned (.tuple #[]) ∧ OutF g w bo bn bc a (waS s ok) w' := by
  have c2 := h.c2
  have f2 := h.free 2
  have H := hide h
  by_cases he : s.e = 0
  · have he' : (s.e == 0) = true := by simpa using he
    cases ok
    · rw [show waS s false = { s with e := 5 } by unfold waS; rw [if_pos ⟨he, rfl⟩]]
      clear h he
      generalize s.e = E at *
      go_enter Try.func63, Try.ntmps63
      go_wp2_with fail
      refine bodyPost_end (results_none rfl _ _ _) rfl ?_
      exact ⟨rfl, ⟨_, (unhide H).putE 5⟩, (Gb.refl _ _).set _ _⟩
    · rw [show waS s true = s by unfold waS; rw [if_neg (by simp)]]
      clear h he
      generalize s.e = E at *
      go_enter Try.func63, Try.ntmps63
      go_wp2_with fail
      refine bodyPost_end (results_none rfl _ _ _) rfl ?_
      exact ⟨rfl, ⟨_, unhide H⟩, Gb.refl _ _⟩
  · have he' : (s.e == 0) = false := by simpa using he
    rw [show waS s ok = s by unfold waS; rw [if_neg (fun q => he q.1)]]
    clear h he
    generalize s.e = E at *
    go_enter Try.func63, Try.ntmps63
    go_wp2_with fail
    refine bodyPost_end (results_none rfl _ _ _) rfl ?_
    exact ⟨rfl, ⟨_, unhide H⟩, Gb.refl _ _⟩

set_option maxHeartbeats 400000 in
theorem left_rd (g : Nat) (w : World) (bo : Option Addr) (bn bc : Nat) (a : List Int) (p : Nat) (s : FS) (h : Fl g w bo bn bc a p s) :
    Calls Try.prog 67 #[.pointer (some ⟨g, 0, none⟩)] w fun e w' => e = .returned (.int .i64 (s.b.length : Int)) ∧ ∃ d, w' = w.drewN d := by
  have c0 := h.c0
  have c1 := h.c1
  have hl := h.len
  have hp := h.le
  have hm := h.mx
  have hle := h.bs.le
  have hmx := h.bs.max
  have HL := hide (show (s.b.length : Int) = (bn : Int) - (p : Int) by omega)
  rw [unhide HL]
  clear h hl HL
  go_enter Try.func67, Try.ntmps67
  go_wp2_with fail
  go_quiet (fail)
  go_wp2_with fail
  go_ret
  exact ⟨rfl, nq, rfl⟩

set_option maxHeartbeats 400000 in
set_option maxRecDepth 100000 in
theorem need_rd (g : Nat) (w : World) (bo : Option Addr) (bn bc : Nat) (a : List Int) (p : Nat) (s : FS) (n : Nat) (N : Int) (hN : N = (n : Int)) (h : Fl g w bo bn bc a p s) :
    Calls Try.prog 71 #[.pointer (some ⟨g, 0, none⟩), .int .i64 N] w fun e w' => e = .returned (.tuple #[]) ∧ OutF g w bo bn bc a (neS s n) w' := by
  subst hN
  have c2 := h.c2
  have f2 := h.free 2
  have H := hide h
  have cL := hide (left_rd g w bo bn bc a p s h)
  by_cases he : s.e = 0
  · have he' : (s.e == 0) = true := by simpa using he
    by_cases hs : s.b.length < n
    · have hs' : decide ((s.b.length : Int) < (n : Int)) = true := by simpa using hs
      have hs2 : ((s.b.length : Int) < (n : Int)) := by omega
      rw [show neS s n = { s with e := 4 } by unfold neS; rw [if_pos ⟨he, hs⟩]]
      have HE := hide he
      clear h he hs
      generalize s.b.length = L at *
      go_enter Try.func71, Try.ntmps71
      go_wp2_with fail
      refine (unhide cL).mono ?_
      rintro e w1 ⟨rfl, d, hw⟩
      have H1 := hide (show Fl g w1 bo bn bc a p s by rw [hw]; exact (unhide H).later (drN_below w d))
      have G1 := hide (show Gb g w w1 by rw [hw]; exact (Gb.refl g w).drewN d)
      have k2 := (unhide H1).c2
      have kf := (unhide H1).free 2
      rw [unhide HE] at k2
      clear hw cL
      go_wp2_with fail
      refine bodyPost_end (results_none rfl _ _ _) rfl ?_
      exact ⟨rfl, ⟨_, (unhide H1).putE 4⟩, (unhide G1).set _ _⟩
    · have hs' : decide ((s.b.length : Int) < (n : Int)) = false := by simpa using hs
      have hs2 : ¬ ((s.b.length : Int) < (n : Int)) := by omega
      rw [show neS s n = s by unfold neS; rw [if_neg (fun q => hs q.2)]]
      have HE := hide he
      clear h he hs
      generalize s.b.length = L at *
      go_enter Try.func71, Try.ntmps71
      go_wp2_with fail
      refine (unhide cL).mono ?_
      rintro e w1 ⟨rfl, d, hw⟩
      have H1 := hide (show Fl g w1 bo bn bc a p s by rw [hw]; exact (unhide H).later (drN_below w d))
      have G1 := hide (show Gb g w w1 by rw [hw]; exact (Gb.refl g w).drewN d)
      clear hw cL
      go_wp2_with fail
      refine bodyPost_end (results_none rfl _ _ _) rfl ?_
      exact ⟨rfl, ⟨_, unhide H1⟩, unhide G1⟩
  · have he' : (s.e == 0) = false := by simpa using he
    rw [show neS s n = s by unfold neS; rw [if_neg (fun q => he q.1)]]
    clear h he cL
    generalize s.e = E at *
    go_enter Try.func71, Try.ntmps71
    go_wp2_with fail
    refine bodyPost_end (results_none rfl _ _ _) rfl ?_
    exact ⟨rfl, ⟨_, unhide H⟩, Gb.refl _ _⟩

set_option maxHeartbeats 400000 in
set_option maxRecDepth 100000 in
theorem pass_rd (g : Nat) (w : World) (bo : Option Addr) (bn bc : Nat) (a : List Int) (p : Nat) (s : FS) (n : Nat) (N E : Int) (hN : N = (n : Int)) (hn : E = 0 → n ≤ s.b.length) (h : Fl g w bo bn bc a p s) :
    Calls Try.prog 121 #[.pointer (some ⟨g, 0, none⟩), .int .i64 N, .int .i64 E] w fun e w' => e = .returned (.tuple #[]) ∧ OutF g w bo bn bc a (paS s n E) w' := by
  subst hN
  have c1 := h.c1
  have f1 := h.free 1
  have c2 := h.c2
  have f2 := h.free 2
  have H := hide h
  have hl := h.len
  have hp := h.le
  have hm := h.mx
  by_cases he : E = 0
  · subst he
    have hn' := hn rfl
    rw [show paS s n 0 = { s with b := s.b.drop n } from rfl]
    have hq : p + n ≤ bn := by omega
    have HQ := hide hq
    have hs : ((p : Int) + (n : Int)) = ((p + n : Nat) : Int) := by omega
    have HS := hide hs
    clear h hn hl hs hn'
    go_enter Try.func121, Try.ntmps121
    go_wp2_with fail
    refine bodyPost_end (results_none rfl _ _ _) rfl ?_
    refine ⟨rfl, ⟨p + n, ?_⟩, (Gb.refl _ _).set _ _⟩
    rw [unhide HS]
    exact (unhide H).putP rfl (unhide HQ)
  · have he' : (E != 0) = true := by simpa using he
    rw [show paS s n E = { s with e := E } by unfold paS; rw [if_neg he]]
    clear h hn he hl
    generalize s.e = E0 at c2
    go_enter Try.func121, Try.ntmps121
    go_wp2_with fail
    refine bodyPost_ret (results_none rfl _ _ _) rfl ?_
    exact ⟨rfl, ⟨_, (unhide H).putE E⟩, (Gb.refl _ _).set _ _⟩

set_option maxHeartbeats 400000 in
set_option maxRecDepth 100000 in
theorem fixed_rd (g : Nat) (w : World) (bo : Option Addr) (bn bc : Nat) (a : List Int) (p : Nat) (s : FS) (n : Nat) (N : Int) (hN : N = (n : Int)) (hn1 : 1 ≤ n) (hn : n ≤ 8) (h : Fl g w bo bn bc a p s) :
    Calls Try.prog 62 #[.pointer (some ⟨g, 0, none⟩), .int .i64 N] w fun e w' => e = .returned (.int .u64 (fxA s n)) ∧ OutF g w bo bn bc a (fxS s n) w' := by
  have c0 := h.c0
  have c1 := h.c1
  have c2 := h.c2
  have H := hide h
  have hp := h.le
  have hm := h.mx
  have hle := h.bs.le
  have hmx := h.bs.max
  by_cases he : s.e = 0
  · have he' : (s.e != 0) = false := by simpa using he
    obtain ⟨yo, yc, hcut, hyb, _⟩ := h.bs.cut_lo (lo := p) hp (p : Int) rfl
    rw [← h.sb] at hyb
    have cR := hide (fun d : Nat => readFixed_any yo (bn - p) yc s.b N (w.drewN d) (hyb.later (drN_below w d)))
    obtain ⟨x, er, hr⟩ : ∃ x er, readFixed s.b N = (x, er) := ⟨_, _, rfl⟩
    have eA := hide (show fxA s n = x by unfold fxA; rw [if_pos he, ← hN, hr])
    have eS := hide (show fxS s n = paS s n er by unfold fxS; rw [if_pos he, ← hN, hr])
    rw [hr] at cR
    have cP := hide (fun wx (hx : Fl g wx bo bn bc a p s) => pass_rd g wx bo bn bc a p s n N er hN (fun q => by have := readFixed_bd hr (by omega) q; omega) hx)
    subst hN
    clear hr
    clear h he hyb
    rw [unhide eA]
    generalize s.e = E at c2 he'
    go_enter Try.func62, Try.ntmps62
    go_wp2_with fail
    go_quiet (first | (go_at_call 120; refine Calls.quiet_of_same (unhide cR _)))
    have HD := hide ((unhide H).later (drN_below w nq))
    have GD := hide ((Gb.refl g w).drewN nq)
    clear cR
    go_wp2_with fail
    refine (unhide cP _ (unhide HD)).mono ?_
    rintro e w3 ⟨rfl, ho, gb⟩
    have HO := hide ho
    have HG := hide ((unhide GD).trans gb)
    clear ho gb
    go_wp2_with fail
    go_ret
    rw [unhide eS]
    exact ⟨rfl, unhide HO, unhide HG⟩
  · have he' : (s.e != 0) = true := by simpa using he
    have eA := hide (show fxA s n = 0 by unfold fxA; rw [if_neg he])
    have eS := hide (show fxS s n = s by unfold fxS; rw [if_neg he])
    subst hN
    clear h he
    generalize s.e = E at c2 he'
    go_enter Try.func62, Try.ntmps62
    go_wp2_with fail
    go_ret
    rw [unhide eA, unhide eS]
    exact ⟨rfl, ⟨_, unhide H⟩, Gb.refl _ _⟩

set_option maxHeartbeats 400000 in
set_option maxRecDepth 100000 in
theorem number_rd (g : Nat) (w : World) (bo : Option Addr) (bn bc : Nat) (a : List Int) (p : Nat) (s : FS) (h : Fl g w bo bn bc a p s) :
    Calls Try.prog 64 #[.pointer (some ⟨g, 0, none⟩)] w fun e w' => e = .returned (.int .u64 (nuA s)) ∧ OutF g w bo bn bc a (nuS s) w' := by
  have c0 := h.c0
  have c1 := h.c1
  have c2 := h.c2
  have H := hide h
  have hp := h.le
  have hm := h.mx
  have hle := h.bs.le
  have hmx := h.bs.max
  by_cases he : s.e = 0
  · have he' : (s.e != 0) = false := by simpa using he
    obtain ⟨yo, yc, hcut, hyb, _⟩ := h.bs.cut_lo (lo := p) hp (p : Int) rfl
    rw [← h.sb] at hyb
    have cR := hide (fun d : Nat => readInt_any yo (bn - p) yc s.b (w.drewN d) (hyb.later (drN_below w d)))
    have bd := readInt_bd h.byt
    obtain ⟨x, q, er, hr⟩ : ∃ x q er, readInt s.b = (x, q, er) := ⟨_, _, _, rfl⟩
    rw [hr] at cR bd
    simp only at cR bd
    obtain ⟨Q, rfl⟩ := Int.eq_ofNat_of_zero_le bd.1
    have eA := hide (show nuA s = x by unfold nuA; rw [if_pos he, hr])
    have eS := hide (show nuS s = paS s Q er by unfold nuS; rw [if_pos he, hr]; rfl)
    have cP := hide (fun wx (hx : Fl g wx bo bn bc a p s) => pass_rd g wx bo bn bc a p s Q (Q : Int) er rfl (fun q => by omega) hx)
    clear hr bd
    clear h he hyb
    rw [unhide eA]
    generalize s.e = E at c2 he'
    go_enter Try.func64, Try.ntmps64
    go_wp2_with fail
    go_quiet (first | (go_at_call 122; refine Calls.quiet_of_same (unhide cR _)))
    have HD := hide ((unhide H).later (drN_below w nq))
    have GD := hide ((Gb.refl g w).drewN nq)
    clear cR
    go_wp2_with fail
    refine (unhide cP _ (unhide HD)).mono ?_
    rintro e w3 ⟨rfl, ho, gb⟩
    have HO := hide ho
    have HG := hide ((unhide GD).trans gb)
    clear ho gb
    go_wp2_with fail
    go_ret
    rw [unhide eS]
    exact ⟨rfl, unhide HO, unhide HG⟩
  · have he' : (s.e != 0) = true := by simpa using he
    have eA := hide (show nuA s = 0 by unfold nuA; rw [if_neg he])
    have eS := hide (show nuS s = s by unfold nuS; rw [if_neg he])
    clear h he
    generalize s.e = E at c2 he'
    go_enter Try.func64, Try.ntmps64
    go_wp2_with fail
    go_ret
    rw [unhide eA, unhide eS]
    exact ⟨rfl, ⟨_, unhide H⟩, Gb.refl _ _⟩

set_option maxHeartbeats 400000 in
set_option maxRecDepth 100000 in
theorem text_rd (g : Nat) (w : World) (bo : Option Addr) (bn bc : Nat) (a : List Int) (p : Nat) (s : FS) (h : Fl g w bo bn bc a p s) :
    Calls Try.prog 66 #[.pointer (some ⟨g, 0, none⟩)] w fun e w' => e = .returned (.string (txA s)) ∧ OutF g w bo bn bc a (txS s) w' := by
  have c0 := h.c0
  have c1 := h.c1
  have c2 := h.c2
  have H := hide h
  have hp := h.le
  have hm := h.mx
  have hle := h.bs.le
  have hmx := h.bs.max
  by_cases he : s.e = 0
  · have he' : (s.e != 0) = false := by simpa using he
    obtain ⟨yo, yc, hcut, hyb, _⟩ := h.bs.cut_lo (lo := p) hp (p : Int) rfl
    rw [← h.sb] at hyb
    have cR := hide (fun d : Nat => readText_any yo (bn - p) yc s.b (w.drewN d) (hyb.later (drN_below w d)))
    have bd := readText_bd h.byt
    obtain ⟨x, q, er, hr⟩ : ∃ x q er, readText s.b = (x, q, er) := ⟨_, _, _, rfl⟩
    rw [hr] at cR bd
    simp only at cR bd
    obtain ⟨Q, rfl⟩ := Int.eq_ofNat_of_zero_le bd.1
    have eA := hide (show txA s = x by unfold txA; rw [if_pos he, hr])
    have eS := hide (show txS s = paS s Q er by unfold txS; rw [if_pos he, hr]; rfl)
    have cP := hide (fun wx (hx : Fl g wx bo bn bc a p s) => pass_rd g wx bo bn bc a p s Q (Q : Int) er rfl (fun q => by omega) hx)
    clear hr bd
    clear h he hyb
    rw [unhide eA]
    generalize s.e = E at c2 he'
    go_enter Try.func66, Try.ntmps66
    go_wp2_with fail
    go_quiet (first | (go_at_call 123; refine Calls.quiet_of_same (unhide cR _)))
    have HD := hide ((unhide H).later (drN_below w nq))
    have GD := hide ((Gb.refl g w).drewN nq)
    clear cR
    go_wp2_with fail
    refine (unhide cP _ (unhide HD)).mono ?_
    rintro e w3 ⟨rfl, ho, gb⟩
    have HO := hide ho
    have HG := hide ((unhide GD).trans gb)
    clear ho gb
    go_wp2_with fail
    go_ret
    rw [unhide eS]
    exact ⟨rfl, unhide HO, unhide HG⟩
  · have he' : (s.e != 0) = true := by simpa using he
    have eA := hide (show txA s = ⟨#[]⟩ by unfold txA; rw [if_neg he])
    have eS := hide (show txS s = s by unfold txS; rw [if_neg he])
    clear h he
    generalize s.e = E at c2 he'
    go_enter Try.func66, Try.ntmps66
    go_wp2_with fail
    go_ret
    rw [unhide eA, unhide eS]
    exact ⟨rfl, ⟨_, unhide H⟩, Gb.refl _ _⟩

set_option maxHeartbeats 400000 in
set_option maxRecDepth 100000 in
theorem mark_rd (g : Nat) (w : World) (bo : Option Addr) (bn bc : Nat) (a : List Int) (p : Nat) (s : FS) (x : Int) (h : Fl g w bo bn bc a p s) :
    Calls Try.prog 69 #[.pointer (some ⟨g, 0, none⟩), .int .u64 x] w fun e w' => e = .returned (.tuple #[]) ∧ OutF g w bo bn bc a (maS s x) w' := by
  have cF := hide (fixed_rd g w bo bn bc a p s 1 1 rfl (by omega) (by omega) h)
  have cW := hide (fun wx (p : Nat) (hx : Fl g wx bo bn bc a p (fxS s 1)) => want_rd g wx bo bn bc a p (fxS s 1) (fxA s 1 == x) hx)
  unfold maS
  generalize fxS s 1 = s1 at *
  generalize fxA s 1 = v1 at *
  clear h
  go_enter Try.func69, Try.ntmps69
  go_wp2_with fail
  refine (unhide cF).mono ?_
  rintro e w1 ⟨rfl, ⟨p1, hf⟩, gb⟩
  have HF := hide hf
  have HG := hide gb
  clear hf gb cF
  go_wp2_with fail
  refine (unhide cW _ _ (unhide HF)).mono ?_
  rintro e w2 ⟨rfl, ho, gb⟩
  have HO := hide ho
  have HG2 := hide ((unhide HG).trans gb)
  clear ho gb
  go_wp2_with fail
  refine bodyPost_end (results_none rfl _ _ _) rfl ?_
  exact ⟨rfl, unhide HO, unhide HG2⟩

set_option maxHeartbeats 400000 in
set_option maxRecDepth 100000 in
theorem take_rd (g : Nat) (w : World) (bo : Option Addr) (bn bc : Nat) (a : List Int) (p : Nat) (s : FS) (n : Nat) (N : Int) (hN : N = (n : Int)) (hn : n ≤ 1099511627776) (h : Fl g w bo bn bc a p s) :
    Calls Try.prog 70 #[.pointer (some ⟨g, 0, none⟩), .int .i64 N] w fun e w' => e = .returned (.string (strOfNums (tkA s n))) ∧ OutF g w bo bn bc a (tkS s n) w' := by
  have cN := hide (need_rd g w bo bn bc a p s n N hN h)
  subst hN
  rw [tkS_ne, tkA_ne]
  have hb := neS_b s n
  have hnl : (neS s n).e = 0 → s.e = 0 ∧ n ≤ s.b.length := by
    unfold neS
    split
    · rename_i q
      intro hq
      simp at hq
    · rename_i q
      intro hq
      exact ⟨hq, by have := fun h0 => q ⟨hq, h0⟩; omega⟩
  obtain ⟨t, ht⟩ : ∃ t, t = neS s n := ⟨_, rfl⟩
  rw [← ht] at cN hb hnl ⊢
  have HSB := hide h.sb
  clear h ht
  by_cases he : t.e = 0
  · have hl := (hnl he).2
    rw [if_pos he, if_pos he]
    have he' : (t.e != 0) = false := by simpa using he
    have HB := hide hb
    have HL := hide hl
    clear hnl hb hl
    go_enter Try.func70, Try.ntmps70
    go_wp2_with fail
    refine (unhide cN).mono ?_
    rintro e w1 ⟨rfl, ⟨p1, hf⟩, gb⟩
    have HF := hide hf
    have HG := hide gb
    have k0 := hf.c0
    have k1 := hf.c1
    have k2 := hf.c2
    have hp := hf.le
    have hm := hf.mx
    have hln := hf.len
    have hle := hf.bs.le
    have hmx := hf.bs.max
    have htb := hf.sb
    rw [unhide HB] at hln
    have hl2 := unhide HL
    have hpn : p1 + n ≤ bn := by omega
    obtain ⟨yo, yc, hcut, hyb⟩ := hf.bs.cut_lh (lo := p1) (hi := p1 + n) (by omega) hpn (p1 : Int) ((p1 : Int) + (n : Int)) rfl (by omega)
    rw [Nat.add_sub_cancel_left] at hcut hyb
    have hstr := fun d : Nat => (hyb.later (drN_below w1 d)).str
    rw [← htb, unhide HB] at hstr
    have cP := hide (fun d : Nat => pass_rd g (w1.drewN d) bo bn bc a p1 t n (n : Int) 0 rfl (fun _ => by rw [unhide HB]; exact hl2) (hf.later (drN_below w1 d)))
    clear hf gb cN hyb htb hln hl2 he
    generalize t.e = E at k2 he'
    go_wp2_with fail
    go_quiet (fail)
    go_wp2_with fail
    refine (unhide cP _).mono ?_
    rintro e w3 ⟨rfl, ho, gb⟩
    have HO := hide ho
    have HG2 := hide (((unhide HG).drewN nq).trans gb)
    clear ho gb
    go_wp2_with fail
    go_ret
    exact ⟨rfl, unhide HO, unhide HG2⟩
  · rw [if_neg he, if_neg he]
    have he' : (t.e != 0) = true := by simpa using he
    clear hnl hb
    go_enter Try.func70, Try.ntmps70
    go_wp2_with fail
    refine (unhide cN).mono ?_
    rintro e w1 ⟨rfl, ⟨p1, hf⟩, gb⟩
    have HF := hide hf
    have HG := hide gb
    have k2 := hf.c2
    clear hf gb cN he
    generalize t.e = E at k2 he'
    go_wp2_with fail
    go_ret
    exact ⟨rfl, ⟨_, unhide HF⟩, unhide HG⟩

set_option maxHeartbeats 400000 in
set_option maxRecDepth 100000 in
theorem rest_rd (g : Nat) (w : World) (bo : Option Addr) (bn bc : Nat) (a : List Int) (p : Nat) (s : FS) (h : Fl g w bo bn bc a p s) :
    Calls Try.prog 65 #[.pointer (some ⟨g, 0, none⟩)] w fun e w' => e = .returned (.string (strOfNums (reA s))) ∧ OutF g w bo bn bc a (reS s) w' := by
  have c0 := h.c0
  have c1 := h.c1
  have f1 := h.free 1
  have c2 := h.c2
  have H := hide h
  have hp := h.le
  have hm := h.mx
  have hle := h.bs.le
  have hmx := h.bs.max
  by_cases he : s.e = 0
  · have he' : (s.e != 0) = false := by simpa using he
    have eA := hide (show reA s = s.b by unfold reA; rw [if_pos he])
    have eS := hide (show reS s = { s with b := s.b.drop (bn - p) } by unfold reS; rw [if_pos he, List.drop_of_length_le (by rw [h.len]; exact Nat.le_refl _)])
    obtain ⟨yo, yc, hcut, hyb⟩ := h.bs.cut_lh (lo := p) (hi := bn) hp (Nat.le_refl _) (p : Int) (bn : Int) rfl rfl
    rw [List.take_of_length_le (by rw [List.length_drop, h.bs.len]; exact Nat.le_refl _), ← h.sb] at hyb
    have hstr := fun d : Nat => (hyb.later (drN_below w d)).str
    have HD := hide (fun d : Nat => h.later (drN_below w d))
    clear h he hyb
    rw [unhide eA]
    generalize s.e = E at c2 he'
    go_enter Try.func65, Try.ntmps65
    go_wp2_with fail
    go_quiet (fail)
    go_wp2_with fail
    go_ret
    rw [unhide eS]
    exact ⟨rfl, ⟨_, (unhide HD _).putP (by omega) (Nat.le_refl _)⟩, ((Gb.refl _ _).drewN _).set _ _⟩
  · have he' : (s.e != 0) = true := by simpa using he
    have eA := hide (show reA s = [] by unfold reA; rw [if_neg he])
    have eS := hide (show reS s = s by unfold reS; rw [if_neg he])
    clear h he
    generalize s.e = E at c2 he'
    go_enter Try.func65, Try.ntmps65
    go_wp2_with fail
    go_ret
    rw [unhide eA, unhide eS]
    exact ⟨rfl, ⟨_, unhide H⟩, Gb.refl _ _⟩

set_option maxHeartbeats 400000 in
set_option maxRecDepth 100000 in
theorem end_rd (g : Nat) (w : World) (bo : Option Addr) (bn bc : Nat) (a : List Int) (p : Nat) (s : FS) (h : Fl g w bo bn bc a p s) :
    Calls Try.prog 68 #[.pointer (some ⟨g, 0, none⟩)] w fun e w' => e = .returned (.int .i64 (edS s).e) ∧ OutF g w bo bn bc a (edS s) w' := by
  have cL := hide (left_rd g w bo bn bc a p s h)
  have hz : ((s.b.length : Int) == 0) = decide (s.b.length = 0) := by rw [Bool.eq_iff_iff]; simp
  have cW := hide (fun wx (hx : Fl g wx bo bn bc a p s) => want_rd g wx bo bn bc a p s (decide (s.b.length = 0)) hx)
  rw [show waS s (decide (s.b.length = 0)) = edS s from rfl, ← hz] at cW
  have H := hide h
  clear h hz
  generalize edS s = t at *
  generalize (s.b.length : Int) = L at *
  go_enter Try.func68, Try.ntmps68
  go_wp2_with fail
  refine (unhide cL).mono ?_
  rintro e w0 ⟨rfl, d, hw⟩
  have H1 := hide (show Fl g w0 bo bn bc a p s by rw [hw]; exact (unhide H).later (drN_below w d))
  have G1 := hide (show Gb g w w0 by rw [hw]; exact (Gb.refl g w).drewN d)
  clear hw cL H
  go_wp2_with fail
  refine (unhide cW _ (unhide H1)).mono ?_
  rintro e w1 ⟨rfl, ⟨p1, hf⟩, gb⟩
  have HF := hide hf
  have HG := hide ((unhide G1).trans gb)
  have k2 := hf.c2
  clear hf gb cW
  go_wp2_with fail
  go_ret
  exact ⟨rfl, ⟨_, unhide HF⟩, unhide HG⟩

end Go.Proofs.Ytkijdkbkbelliaa
