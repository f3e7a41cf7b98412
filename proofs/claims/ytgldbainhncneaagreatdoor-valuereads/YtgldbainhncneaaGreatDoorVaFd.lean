/-
  The fields of the document's own answer, read one behind the other up to the first error: in memory, and what Wrong, Bytes, Byte, Fixed, Text, Zeros and Done do. Conditions: the bytes can be read.
-/
import Derived.Test.YtgldbainhncneaaGreatDoorMA
import Derived.Test.YtgldbainhncneaaGreatDoorMPl
import Derived.Test.YtgldbainhncneaaGreatDoorMLe
import Derived.Laws.ResultCell
import Derived.BigQuiet
import Derived.BigRegion
namespace Go.Proofs.YtgldbainhncneaaGreatDoor
open Go.RowKit
set_option linter.unusedVariables false
set_option linter.unusedSimpArgs false

theorem Bs.cut_lo {w : World} {ao : Option Addr} {n c : Nat} {bs : List Int} (h : Bs w ao n c bs) {lo : Nat} (h1 : lo ≤ n) (L : Int) (hL : L = lo) :
    ∃ ao' c', (∀ wx, (Instr.slice 24 (.slice ao n c) (some (.int .i64 L)) none none).run Tryz.prog wx = .ok (.slice ao' (n - lo) c') wx) ∧ Bs w ao' (n - lo) c' (bs.drop lo) ∧ ∀ k, ob ao' k → ob ao k :=
  ⟨_, _, run_cut_l ao n c lo h1 L hL, by have := h.cut h1 (Nat.le_refl n); rwa [List.take_of_length_le (by simp [h.len])] at this, fun k hk => ob_cut hk⟩
theorem Bs.gb0 {g : Nat} {w w' : World} {ao : Option Addr} {n c : Nat} {bs : List Int} (h : Bs w ao n c bs) (hb : Gb g w w') (hg : n = 0 ∨ ¬ ob ao g) : Bs w' ao n c bs := by
  rcases hg with h0 | h0
  · exact ⟨h.len, h.le, h.max, h.nil, h.byt, .inl h0⟩
  · exact h.gb hb (fun a ha e => h0 ⟨a, ha, e⟩)
section
variable {w : World} {bo : Option Addr} {bn bc : Nat}
theorem Bs.under {b : List Int} (h : Bs w bo bn bc b) : bn = 0 ∨ ∀ k, ob bo k → k < w.heap.size := by
  rcases h.at' with h0 | ⟨b', off, e, hc⟩
  · exact .inl h0
  · by_cases hz : bn = 0
    · exact .inl hz
    · right
      rintro k ⟨a, rfl, ha⟩
      have := World.block_lt_of_cell? w _ (hc 0 (by omega))
      simp at e
      subst e
      simp at ha this
      omega
end
theorem Mine.gb {B g : Nat} {w w' : World} {ao : Option Addr} {n c : Nat} {bs : List Int} (h : Mine B w ao n c bs) (hg : g < B) (hb : Gb g w w') : Mine B w' ao n c bs :=
  h.keep fun k hk hl => hb.block k hl (by omega)
theorem readText_sz (b : List Int) : (readText b).1.size ≤ b.length := by
  obtain ⟨x, q, er, hr⟩ : ∃ x q er, readInt b = (x, q, er) := ⟨_, _, _, rfl⟩
  by_cases he : er = 0
  · subst he
    by_cases hs : (b.length : Int) - q < x
    · rw [readText_short hr hs]; exact Nat.zero_le _
    · rw [readText_long hr hs]
      simp only
      rw [show (strOfNums ((b.drop q.toNat).take x.toNat)).size = (strOfNums ((b.drop q.toNat).take x.toNat)).data.toList.length by simp, strOfNums_data]
      simp
      omega
  · rw [readText_err hr he]; exact Nat.zero_le _
theorem txA_sz (s : FS) : (txA s).size ≤ s.b.length := by
  unfold txA
  split
  · exact readText_sz _
  · exact Nat.zero_le _
theorem results_row_tmp {fn : Func} {p u : Tmp} {ty : TypeId} (h : fn.results = #[.cell p ty, .tmp u]) (tmps : Array Value) (w : World) (g : Nat) (cs : Array Value)
    (hp : tmps.getD p undef = .pointer (some ⟨g, 0, none⟩)) (hl : (loadVar ty ⟨g, 0, none⟩).run Tryz.prog w = .ok (.agg cs) w) :
    (results fn tmps).run Tryz.prog w = .ok (.tuple #[.agg cs, tmps.getD u undef]) w := by
  rw [results_cell_tmp h, hp]
  simp only [asAddr, Sem.run_pure, Result.andThen, hl]
theorem drew_row {w : World} {g : Nat} {o : Obj} (h : w.heap[g]? = some o) : w.drew.heap[g]? = some o := h
theorem drewN_row {w : World} {g d : Nat} {o : Obj} (h : w.heap[g]? = some o) : (w.drewN d).heap[g]? = some o := h
/-- Wrong. -/
def wrS (s : FS) (bad : Bool) : FS := if s.e = 0 ∧ bad = true then { s with e := 5 } else s
/-- Bytes. -/
def byA (s : FS) (n : Nat) : List Int := if s.e = 0 ∧ n ≤ s.b.length then s.b.take n else List.replicate n 0
def byS (s : FS) (n : Nat) : FS := if s.e = 0 then (if s.b.length < n then { s with e := 4 } else { s with b := s.b.drop n }) else s
/-- Zeros. -/
def zeS (s : FS) (n : Nat) : FS := wrS (byS s n) ((byA s n).any fun x => x != 0)
/-- Byte, Fixed. -/
def by1 (s : FS) : Int := (byA s 1)[0]?.getD 0
def fyA (s : FS) (n : Nat) : Int := val (byA s n) n
/-- Done. -/
def doS (s : FS) : FS := wrS s (decide (0 < s.b.length))

theorem byA_len (s : FS) (n : Nat) : (byA s n).length = n := by
  unfold byA
  split
  · rename_i h
    simp
    omega
  · simp

/-- Block g is the fields in the state s. -/
structure Dl (g : Nat) (w : World) (bo : Option Addr) (bn bc : Nat) (s : FS) : Prop where
  st : w.heap[g]? = some (.cells #[.slice bo bn bc, .int .i64 s.e] 55 (0, 0))
  bs : Bs w bo bn bc s.b
  ne : bn = 0 ∨ ∀ k, ob bo k → k < g

section
variable {g : Nat} {w : World} {bo : Option Addr} {bn bc : Nat} {s : FS}
theorem Dl.lt (h : Dl g w bo bn bc s) : g < w.heap.size := (Array.getElem?_eq_some_iff.1 h.st).1
theorem Dl.free (h : Dl g w bo bn bc s) (i : Nat) : w.frozen? ⟨g, i, none⟩ = false := frozen_of_row w g i _ _ h.st
theorem Dl.nob (h : Dl g w bo bn bc s) : bn = 0 ∨ ¬ ob bo g := h.ne.imp id (fun q z => Nat.lt_irrefl _ (q _ z))
theorem Dl.c0 (h : Dl g w bo bn bc s) : w.cell? ⟨g, 0, none⟩ = some (.slice bo bn bc) := by rw [cell_of_row w g 0 _ _ _ h.st]; rfl
theorem Dl.c1 (h : Dl g w bo bn bc s) : w.cell? ⟨g, 1, none⟩ = some (.int .i64 s.e) := by rw [cell_of_row w g 1 _ _ _ h.st]; rfl
theorem Dl.later (h : Dl g w bo bn bc s) {w' : World} (hb : Below w.heap.size w w') : Dl g w' bo bn bc s :=
  ⟨by rw [hb.block g h.lt]; exact h.st, h.bs.later hb, h.ne⟩
theorem Dl.drewN (h : Dl g w bo bn bc s) (n : Nat) : Dl g (w.drewN n) bo bn bc s := h.later ⟨rfl, rfl, rfl, Nat.le_refl _, fun _ _ => rfl⟩
theorem Dl.putE (h : Dl g w bo bn bc s) (z : Int) : Dl g (w.setCell ⟨g, 1, none⟩ (.int .i64 z)) bo bn bc { s with e := z } :=
  ⟨by rw [heap_setCell_same w g 1 _ _ _ h.st]; rfl, h.bs.gb0 ((Gb.refl g w).set 1 _) h.nob, h.ne⟩
theorem Dl.putB (h : Dl g w bo bn bc s) {bo' : Option Addr} {bn' bc' : Nat} {l : List Int} (hb : Bs w bo' bn' bc' l) (hn : bn' = 0 ∨ ∀ k, ob bo' k → k < g) : Dl g (w.setCell ⟨g, 0, none⟩ (.slice bo' bn' bc')) bo' bn' bc' { s with b := l } :=
  ⟨by rw [heap_setCell_same w g 0 _ _ _ h.st]; rfl, hb.gb0 ((Gb.refl g w).set 0 _) (hn.imp id (fun q z => Nat.lt_irrefl _ (q _ z))), hn⟩
theorem Dl.cutNe (h : Dl g w bo bn bc s) {yo : Option Addr} (hy : ∀ k, ob yo k → ob bo k) (q : Nat) : bn - q = 0 ∨ ∀ k, ob yo k → k < g := by
  rcases h.ne with h0 | h0
  · exact .inl (by omega)
  · exact .inr (fun k z => h0 k (hy k z))
/-- Above it anything may change. -/
theorem Dl.above (h : Dl g w bo bn bc s) {w' : World} (hb : Below (g + 1) w w') : Dl g w' bo bn bc s := by
  refine ⟨by rw [hb.block g (by omega)]; exact h.st, ?_, h.ne⟩
  refine ⟨h.bs.len, h.bs.le, h.bs.max, h.bs.nil, h.bs.byt, ?_⟩
  rcases h.ne with h0 | h0
  · exact .inl h0
  · rcases h.bs.at' with hz | ⟨b', off, e, hc⟩
    · exact .inl hz
    · refine .inr ⟨b', off, e, fun i hi => ?_⟩
      have hlt := h0 b' ⟨_, e, rfl⟩
      rw [← hc i hi]
      exact World.cell?_of_block (w := w) (a := ⟨b', off + i, none⟩) (hb.block b' (by omega))
/-- The fields of bytes, ahead of the first. -/
theorem Dl.new {b : List Int} (h : Bs w bo bn bc b) : Dl w.heap.size (w.alloc (.cells #[.slice bo bn bc, .int .i64 0] 55)) bo bn bc ⟨b, 0⟩ := by
  refine ⟨heap_alloc_new w _, h.later (below_alloc w _), ?_⟩
  rcases h.at' with h0 | ⟨b', off, e, hc⟩
  · exact .inl h0
  · by_cases hz : bn = 0
    · exact .inl hz
    · right
      rintro k ⟨a, rfl, ha⟩
      have := World.block_lt_of_cell? w _ (hc 0 (by omega))
      simp at e
      subst e
      simp at ha this
      omega
end

/-- The fields are in the state s behind a call. -/
def OutD (g : Nat) (w : World) (s : FS) (w' : World) : Prop := (∃ bo bn bc, Dl g w' bo bn bc s) ∧ Gb g w w'

set_option maxHeartbeats 400000 in
theorem dwrong_rd (g : Nat) (w : World) (bo : Option Addr) (bn bc : Nat) (s : FS) (bad : Bool) (h : Dl g w bo bn bc s) :
    Calls Tryz.prog 31 #[.pointer (some ⟨g, 0, none⟩), .bool bad] w fun e w' => e = .returned (.tuple #[]) ∧ Dl g w' bo bn bc (wrS s bad) ∧ Gb g w w' := by
  have c1 := h.c1
  have f1 := h.free 1
  have H := hide h
  by_cases he : s.e = 0
  · have he' : (s.e == 0) = true := by simpa using he
    cases bad
    · rw [show wrS s false = s by unfold wrS; rw [if_neg (by simp)]]
      clear h he
      generalize s.e = E at *
      go_enter Tryz.func31, Tryz.ntmps31
      go_wp2_with fail
      refine bodyPost_end (results_none rfl _ _ _) rfl ?_
      exact ⟨rfl, unhide H, Gb.refl _ _⟩
    · rw [show wrS s true = { s with e := 5 } by unfold wrS; rw [if_pos ⟨he, rfl⟩]]
      clear h he
      generalize s.e = E at *
      go_enter Tryz.func31, Tryz.ntmps31
      go_wp2_with fail
      refine bodyPost_end (results_none rfl _ _ _) rfl ?_
      exact ⟨rfl, (unhide H).putE 5, (Gb.refl _ _).set _ _⟩
  · have he' : (s.e == 0) = false := by simpa using he
    rw [show wrS s bad = s by unfold wrS; rw [if_neg (fun q => he q.1)]]
    clear h he
    generalize s.e = E at *
    go_enter Tryz.func31, Tryz.ntmps31
    go_wp2_with fail
    refine bodyPost_end (results_none rfl _ _ _) rfl ?_
    exact ⟨rfl, unhide H, Gb.refl _ _⟩

set_option maxHeartbeats 1000000 in
theorem dbytes_rd (g : Nat) (w : World) (bo : Option Addr) (bn bc : Nat) (s : FS) (n : Nat) (N : Int) (hN : N = (n : Int)) (hn : n ≤ 100000) (h : Dl g w bo bn bc s) :
    Calls Tryz.prog 62 #[.pointer (some ⟨g, 0, none⟩), .int .i64 N] w fun e w' => ∃ xo xc, e = .returned (.slice xo n xc) ∧ Mine w.heap.size w' xo n xc (byA s n) ∧ OutD g w (byS s n) w' := by
  subst hN
  have c0 := h.c0
  have c1 := h.c1
  have f0 := h.free 0
  have f1 := h.free 1
  have hlen := h.bs.len
  have hle := h.bs.le
  have hmx := h.bs.max
  have hlt := h.lt
  have H := hide h
  by_cases he : s.e = 0
  · have he' : (s.e == 0) = true := by simpa using he
    by_cases hs : bn < n
    · have hs' : ((bn : Int) < (n : Int)) := by omega
      have eA := hide (show byA s n = List.replicate n 0 by unfold byA; rw [if_neg (fun q => by omega)])
      have eS := hide (show byS s n = { s with e := 4 } by unfold byS; rw [if_pos he, if_pos (by omega)])
      have H4 := hide (h.putE 4)
      have k1 := (unhide H4).c1
      have G4 := hide ((Gb.refl g w).set 1 (.int .i64 4))
      have z4 : (w.setCell ⟨g, 1, none⟩ (.int .i64 4)).heap.size = w.heap.size := by simp
      clear h he hlen
      generalize s.e = E at *
      go_enter Tryz.func62, Tryz.ntmps62
      go_wp2_with (at_make; refine wpList_mkFull rfl _ _ rfl _ _ _ _ n rfl rfl rfl rfl (by omega) ?_; intro w1 hm1 hb1 hz1)
      go_ret
      rw [unhide eA, unhide eS]
      rw [z4] at hm1
      exact ⟨_, _, rfl, hm1, ⟨_, _, _, (unhide H4).later hb1⟩, (unhide G4).trans (Gb.of hb1)⟩
    · have hs' : ¬ ((bn : Int) < (n : Int)) := by omega
      have eA := hide (show byA s n = s.b.take n by unfold byA; rw [if_pos ⟨he, by omega⟩])
      have eS := hide (show byS s n = { s with b := s.b.drop n } by unfold byS; rw [if_pos he, if_neg (by omega)])
      have hb0 := below_alloc w (.cells #[] 5)
      have hm0 := Mine.empty w
      obtain ⟨xo, xc, hcut, hxb⟩ := h.bs.cut_h (hi := n) (by omega) (n : Int) rfl
      obtain ⟨yo, yc, hcut2, hyb, hyo⟩ := h.bs.cut_lo (lo := n) (by omega) (n : Int) rfl
      have ca0 := (h.later hb0).c0
      have HX := hide (hxb.later hb0)
      have HY := hide hyb
      clear h he hlen hxb hyb
      go_enter Tryz.func62, Tryz.ntmps62
      go_wp2_with (at_builtin; refine wpList_app rfl _ _ rfl w.heap.size _ _ _ _ rfl hm0 _ _ _ _ rfl (unhide HX) (by omega) (by simp) ?_; intro ao1 c1' w1 hm1 hb1; rw [Nat.zero_add, List.nil_append] at hm1; have HF1 := hide ((unhide H).later (hb0.trans hb1)); have HY1 := hide ((unhide HY).later (hb0.trans hb1)); have d0 := (unhide HF1).c0; have df0 := (unhide HF1).free 0)
      go_ret
      rw [unhide eA, unhide eS]
      exact ⟨_, _, rfl, hm1.gb (g := g) hlt ((Gb.refl _ _).set _ _), ⟨_, _, _, (unhide HF1).putB (unhide HY1) ((unhide H).cutNe hyo _)⟩, (Gb.of (hb0.trans hb1)).set _ _⟩
  · have he' : (s.e == 0) = false := by simpa using he
    have he2 : (s.e != 0) = true := by simpa using he
    have eA := hide (show byA s n = List.replicate n 0 by unfold byA; rw [if_neg (fun q => he q.1)])
    have eS := hide (show byS s n = s by unfold byS; rw [if_neg he])
    clear h he hlen
    generalize s.e = E at *
    go_enter Tryz.func62, Tryz.ntmps62
    go_wp2_with (at_make; refine wpList_mkFull rfl _ _ rfl _ _ _ _ n rfl rfl rfl rfl (by omega) ?_; intro w1 hm1 hb1 hz1)
    go_ret
    rw [unhide eA, unhide eS]
    exact ⟨_, _, rfl, hm1, ⟨_, _, _, (unhide H).later hb1⟩, Gb.of hb1⟩

set_option maxHeartbeats 400000 in
set_option maxRecDepth 100000 in
theorem dbyte_rd (g : Nat) (w : World) (bo : Option Addr) (bn bc : Nat) (s : FS) (h : Dl g w bo bn bc s) :
    Calls Tryz.prog 63 #[.pointer (some ⟨g, 0, none⟩)] w fun e w' => e = .returned (.int .u8 (by1 s)) ∧ OutD g w (byS s 1) w' := by
  have cB := hide (dbytes_rd g w bo bn bc s 1 1 rfl (by omega) h)
  obtain ⟨R, hR⟩ : ∃ R, R = by1 s := ⟨_, rfl⟩
  rw [← hR]
  have HR := hide hR
  clear h hR
  go_enter Tryz.func63, Tryz.ntmps63
  go_wp2_with fail
  refine (unhide cB).mono ?_
  rintro e w1 ⟨xo, xc, rfl, hm, ho⟩
  obtain ⟨pb, po, hix, hcx⟩ := hm.bs.idx (i := 0) (by omega) 0 rfl
  have HE := hide (show (byA s 1)[0]?.getD 0 = R by rw [unhide HR]; rfl)
  rw [unhide HE] at hcx
  have HO := hide ho
  clear hm ho HE
  go_wp2_with fail
  go_ret
  exact ⟨rfl, unhide HO⟩

theorem readText_e {b : List Int} {x : ByteArray} {q er : Int} (h : readText b = (x, q, er)) (he : er ≠ 0) : q = 0 := by
  obtain ⟨y, p, e2, hr⟩ : ∃ y p e2, readInt b = (y, p, e2) := ⟨_, _, _, rfl⟩
  by_cases h0 : e2 = 0
  · subst h0
    by_cases hs : (b.length : Int) - p < y
    · rw [readText_short hr hs] at h
      simp at h
      omega
    · rw [readText_long hr hs] at h
      simp at h
      omega
  · rw [readText_err hr h0] at h
    simp at h
    omega
theorem paS_drop {s : FS} {q er : Int} (he : s.e = 0) (h : er ≠ 0 → q = 0) : paS s q.toNat er = ⟨s.b.drop q.toNat, er⟩ := by
  unfold paS
  by_cases h0 : er = 0
  · rw [if_pos h0, h0, he]
  · rw [if_neg h0, h h0]
    rfl

set_option maxHeartbeats 1000000 in
set_option maxRecDepth 100000 in
theorem dtext_rd (g : Nat) (w : World) (bo : Option Addr) (bn bc : Nat) (s : FS) (h : Dl g w bo bn bc s) :
    Calls Tryz.prog 30 #[.pointer (some ⟨g, 0, none⟩)] w fun e w' => e = .returned (.string (txA s)) ∧ OutD g w (txS s) w' := by
  have c0 := h.c0
  have c1 := h.c1
  have f1 := h.free 1
  have hlen := h.bs.len
  have hle := h.bs.le
  have hmx := h.bs.max
  have H := hide h
  by_cases he : s.e = 0
  · have he' : (s.e != 0) = false := by simpa using he
    have cR := hide (readText_ref bo bn bc s.b w h.bs)
    have bd := readText_bd h.bs.byt
    obtain ⟨x, q, er, hr⟩ : ∃ x q er, readText s.b = (x, q, er) := ⟨_, _, _, rfl⟩
    have eA := hide (show txA s = x by unfold txA; rw [if_pos he, hr])
    have eS := hide (show txS s = ⟨s.b.drop q.toNat, er⟩ by unfold txS; rw [if_pos he, hr]; exact paS_drop he (fun hq => readText_e hr hq))
    rw [hr] at cR bd
    simp only at cR bd
    obtain ⟨Q, rfl⟩ := Int.eq_ofNat_of_zero_le bd.1
    have hQ : Q ≤ bn := by omega
    have h2 := h.putE er
    have k0 := h2.c0
    have kf0 := h2.free 0
    obtain ⟨yo, yc, hcut2, hyb, hyo⟩ := h2.bs.cut_lo (lo := Q) hQ (Q : Int) rfl
    have H2 := hide h2
    have HY := hide hyb
    clear h h2 he hlen hyb hr bd
    rw [unhide eA]
    generalize s.e = E at c1 he'
    go_enter Tryz.func30, Tryz.ntmps30
    go_wp2_with fail
    refine (unhide cR).mono ?_
    rintro e w2 ⟨rfl, hw2⟩
    have hw3 := hw2.symm
    subst hw3
    clear hw2
    go_wp2_with fail
    go_ret
    rw [unhide eS, Int.toNat_natCast]
    exact ⟨rfl, ⟨_, _, _, (unhide H2).putB (unhide HY) ((unhide H2).cutNe hyo _)⟩, ((Gb.refl _ _).set _ _).set _ _⟩
  · have he' : (s.e != 0) = true := by simpa using he
    have eA := hide (show txA s = ⟨#[]⟩ by unfold txA; rw [if_neg he])
    have eS := hide (show txS s = s by unfold txS; rw [if_neg he])
    clear h he hlen
    generalize s.e = E at c1 he'
    go_enter Tryz.func30, Tryz.ntmps30
    go_wp2_with fail
    go_ret
    rw [unhide eA, unhide eS]
    exact ⟨rfl, ⟨_, _, _, unhide H⟩, Gb.refl _ _⟩

theorem any_next {l : List Int} {j : Nat} (hj : j < l.length) : (l.take (j + 1)).any (fun x => x != 0) = ((l.take j).any (fun x => x != 0) || (l[j]?.getD 0 != 0)) := by
  rw [List.take_add_one, List.any_append, List.getElem?_eq_getElem hj]
  simp

set_option maxHeartbeats 400000 in
set_option maxRecDepth 100000 in
theorem dfixedR_rd (g : Nat) (w : World) (bo : Option Addr) (bn bc : Nat) (s : FS) (n : Nat) (N : Int) (hN : N = (n : Int)) (hn1 : 1 ≤ n) (hn : n ≤ 8) (h : Dl g w bo bn bc s) :
    Calls Tryz.prog 28 #[.pointer (some ⟨g, 0, none⟩), .int .i64 N] w fun e w' => e = .returned (.int .u64 (fyA s n)) ∧ OutD g w (byS s n) w' := by
  subst hN
  have cB := hide (dbytes_rd g w bo bn bc s n (n : Int) rfl (by omega) h)
  obtain ⟨R, hR⟩ : ∃ R, R = fyA s n := ⟨_, rfl⟩
  rw [← hR]
  have HR := hide hR
  clear h hR
  go_enter Tryz.func28, Tryz.ntmps28
  go_wp2_with fail
  refine (unhide cB).mono ?_
  rintro e w1 ⟨xo, xc, rfl, hm, ho⟩
  have cR := hide (readFixed_ref xo n xc (byA s n) (n : Int) w1 hm.bs)
  have HE := hide (show readFixed (byA s n) (n : Int) = (R, 0) by rw [unhide HR]; unfold readFixed fyA; rw [if_neg (by omega), if_neg (by rw [byA_len]; omega), Int.toNat_natCast])
  rw [unhide HE] at cR
  have HO := hide ho
  clear hm ho HE
  go_wp2_with fail
  refine (unhide cR).mono ?_
  rintro e w2 ⟨rfl, rfl⟩
  go_wp2_with fail
  go_ret
  exact ⟨rfl, unhide HO⟩

theorem dwrong_out (g : Nat) (w : World) (bo : Option Addr) (bn bc : Nat) (s : FS) (bad : Bool) (h : Dl g w bo bn bc s) :
    Calls Tryz.prog 31 #[.pointer (some ⟨g, 0, none⟩), .bool bad] w fun e w' => e = .returned (.tuple #[]) ∧ OutD g w (wrS s bad) w' :=
  (dwrong_rd g w bo bn bc s bad h).mono fun _ _ ⟨h1, h2, h3⟩ => ⟨h1, ⟨_, _, _, h2⟩, h3⟩


/-! By the plain functions of the program's own reader. -/
theorem wrS_wa (s : FS) (x : Bool) : wrS s (!x) = waS s x := by unfold wrS waS; cases x <;> simp
theorem byS_tk (s : FS) (n : Nat) : byS s n = tkS s n := rfl
theorem byS_fx {s : FS} {n : Nat} (h1 : 1 ≤ n) (h8 : n ≤ 8) : byS s n = fxS s n := by
  unfold byS fxS
  by_cases he : s.e = 0
  · rw [if_pos he, if_pos he]
    by_cases hl : s.b.length < n
    · rw [if_pos hl, show readFixed s.b n = (0, 4) by unfold readFixed; rw [if_neg (by omega), if_pos (by omega)]]
      rfl
    · rw [if_neg hl, show readFixed s.b n = (val s.b n, 0) by unfold readFixed; rw [if_neg (by omega), if_neg (by omega), Int.toNat_natCast]]
      rfl
  · rw [if_neg he, if_neg he]
theorem val_zeros (n : Nat) : ∀ m, val (List.replicate n 0) m = 0
  | 0 => rfl
  | m + 1 => by
    show val (List.replicate n 0) m + (List.replicate n (0 : Int)).getD m 0 * 2 ^ (8 * m) = 0
    rw [val_zeros n m]
    simp [List.getElem?_replicate]
    split <;> simp
theorem fyA_fx {s : FS} {n : Nat} (h1 : 1 ≤ n) (h8 : n ≤ 8) : fyA s n = fxA s n := by
  unfold fyA fxA byA
  by_cases he : s.e = 0
  · rw [if_pos he]
    by_cases hl : n ≤ s.b.length
    · rw [if_pos ⟨he, hl⟩, show readFixed s.b n = (val s.b n, 0) by unfold readFixed; rw [if_neg (by omega), if_neg (by omega), Int.toNat_natCast]]
      have h2 := val_append (s.b.take n) (s.b.drop n) n (by simp; omega)
      rw [List.take_append_drop] at h2
      exact h2.symm
    · rw [if_neg (fun q => hl q.2), val_zeros, show readFixed s.b n = (0, 4) by unfold readFixed; rw [if_neg (by omega), if_pos (by omega)]]
  · rw [if_neg (fun q => he q.1), if_neg he, val_zeros]
theorem by1_fx (s : FS) : by1 s = fxA s 1 := by
  rw [← fyA_fx (by omega) (by omega)]
  unfold by1 fyA
  show _ = 0 + (byA s 1).getD 0 0 * 2 ^ (8 * 0)
  rw [List.getD_eq_getElem?_getD]
  simp
theorem zeS_ma (s : FS) : zeS s 1 = maS s 0 := by
  unfold zeS maS
  rw [byS_fx (by omega) (by omega), ← by1_fx, ← wrS_wa]
  congr 1
  unfold by1
  have hl := byA_len s 1
  generalize byA s 1 = l at *
  match l, hl with
  | [x], _ => simp [bne]
theorem byA_byt {s : FS} (h : Byt s.b) (n : Nat) : Byt (byA s n) := by
  unfold byA
  split
  · exact h.take n
  · intro x hx
    have := List.eq_of_mem_replicate hx
    omega
theorem zeS_two {s : FS} (h : Byt s.b) : zeS s 2 = waS (fxS s 2) (fxA s 2 == 0) := by
  unfold zeS
  rw [byS_fx (by omega) (by omega), ← fyA_fx (by omega) (by omega), ← wrS_wa]
  congr 1
  unfold fyA
  have hl := byA_len s 2
  have hb := byA_byt h 2
  generalize byA s 2 = l at *
  match l, hl with
  | [x, y], _ =>
    have hx := hb x (by simp)
    have hy := hb y (by simp)
    have e : val [x, y] 2 = x + y * 256 := by
      show 0 + x * 2 ^ (8 * 0) + y * 2 ^ (8 * 1) = _
      simp
    rw [e, Bool.eq_iff_iff]
    simp [bne]
    omega
theorem doS_ed (s : FS) : doS s = edS s := by
  unfold doS edS
  rw [← wrS_wa]
  congr 1
  by_cases h : s.b.length = 0
  · rw [decide_eq_true h, decide_eq_false (by omega)]; rfl
  · rw [decide_eq_false h, decide_eq_true (by omega)]; rfl

/-- The fields in block g are in the state s. -/
def Dx (g : Nat) (w : World) (s : FS) : Prop := (∃ bo bn bc, Dl g w bo bn bc s) ∧ s.b.length ≤ 1099511627776
def OutY (g : Nat) (w : World) (s : FS) (w' : World) : Prop := Dx g w' s ∧ Gb g w w'
section
variable {g : Nat} {w w' : World} {s s' : FS}
theorem Dx.out (h : Dx g w s) (o : OutD g w s' w') (hl : s'.b.length ≤ s.b.length) : OutY g w s' w' := ⟨⟨o.1, Nat.le_trans hl h.2⟩, o.2⟩
theorem Dx.lt (h : Dx g w s) : g < w.heap.size := by obtain ⟨⟨bo, bn, bc, h1⟩, _⟩ := h; exact h1.lt
theorem Dx.above (h : Dx g w s) (hb : Below (g + 1) w w') : Dx g w' s := by obtain ⟨⟨bo, bn, bc, h1⟩, h2⟩ := h; exact ⟨⟨bo, bn, bc, h1.above hb⟩, h2⟩
theorem Dx.later (h : Dx g w s) (hb : Below w.heap.size w w') : Dx g w' s := h.above (hb.mono h.lt)
theorem Dx.c1 (h : Dx g w s) : w.cell? ⟨g, 1, none⟩ = some (.int .i64 s.e) := by obtain ⟨⟨bo, bn, bc, h1⟩, _⟩ := h; exact h1.c1
theorem Dx.c0 (h : Dx g w s) : ∃ bo bn bc, w.cell? ⟨g, 0, none⟩ = some (.slice bo bn bc) ∧ bn = s.b.length ∧ bn ≤ bc ∧ bc ≤ 9223372036854775807 := by obtain ⟨⟨bo, bn, bc, h1⟩, _⟩ := h; exact ⟨bo, bn, bc, h1.c0, h1.bs.len.symm, h1.bs.le, h1.bs.max⟩
theorem Dx.free (h : Dx g w s) (i : Nat) : w.frozen? ⟨g, i, none⟩ = false := by obtain ⟨⟨bo, bn, bc, h1⟩, _⟩ := h; exact h1.free i
theorem Dx.putE (h : Dx g w s) (z : Int) : Dx g (w.setCell ⟨g, 1, none⟩ (.int .i64 z)) { s with e := z } := by obtain ⟨⟨bo, bn, bc, h1⟩, h2⟩ := h; exact ⟨⟨_, _, _, h1.putE z⟩, h2⟩
theorem Dx.byt (h : Dx g w s) : Byt s.b := by obtain ⟨⟨bo, bn, bc, h1⟩, _⟩ := h; exact h1.bs.byt
end
section
variable (g : Nat) (w : World) (s : FS)
theorem wrong_dx (x : Bool) (y : Bool) (hy : y = !x) (h : Dx g w s) : Calls Tryz.prog 31 #[.pointer (some ⟨g, 0, none⟩), .bool y] w fun e w' => e = .returned (.tuple #[]) ∧ OutY g w (waS s x) w' := by
  obtain ⟨⟨bo, bn, bc, h1⟩, h2⟩ := id h
  subst hy
  have q := dwrong_out g w bo bn bc s (!x) h1
  rw [wrS_wa] at q
  exact q.mono fun _ _ ⟨e, o⟩ => ⟨e, h.out o (waS_le _ _)⟩
theorem byte_dx (h : Dx g w s) : Calls Tryz.prog 63 #[.pointer (some ⟨g, 0, none⟩)] w fun e w' => (e = .returned (.int .u8 (fxA s 1)) ∧ 0 ≤ fxA s 1 ∧ fxA s 1 < 256) ∧ OutY g w (fxS s 1) w' := by
  obtain ⟨⟨bo, bn, bc, h1⟩, h2⟩ := id h
  have q := dbyte_rd g w bo bn bc s h1
  rw [by1_fx, byS_fx (by omega) (by omega)] at q
  exact q.mono fun _ _ ⟨e, o⟩ => ⟨⟨e, (fxA_bd h.byt (by omega) (by omega)).1, by have := (fxA_bd (k := 1) h.byt (by omega) (by omega)).2; simpa using this⟩, h.out o (fxS_le _ _)⟩
theorem fixed_dx (n : Nat) (N M : Int) (hN : N = (n : Int)) (hn1 : 1 ≤ n) (hn : n ≤ 8) (hM : (2 : Int) ^ (8 * n) = M) (h : Dx g w s) : Calls Tryz.prog 28 #[.pointer (some ⟨g, 0, none⟩), .int .i64 N] w fun e w' => (e = .returned (.int .u64 (fxA s n)) ∧ 0 ≤ fxA s n ∧ fxA s n < M) ∧ OutY g w (fxS s n) w' := by
  obtain ⟨⟨bo, bn, bc, h1⟩, h2⟩ := id h
  have q := dfixedR_rd g w bo bn bc s n N hN hn1 hn h1
  rw [fyA_fx hn1 hn, byS_fx hn1 hn] at q
  exact q.mono fun _ _ ⟨e, o⟩ => ⟨⟨e, (fxA_bd h.byt hn1 hn).1, by have := (fxA_bd h.byt hn1 hn).2; rw [hM] at this; exact this⟩, h.out o (fxS_le _ _)⟩
theorem text_dx (h : Dx g w s) : Calls Tryz.prog 30 #[.pointer (some ⟨g, 0, none⟩)] w fun e w' => (e = .returned (.string (txA s)) ∧ (txA s).size ≤ 1099511627776) ∧ OutY g w (txS s) w' := by
  obtain ⟨⟨bo, bn, bc, h1⟩, h2⟩ := id h
  exact (dtext_rd g w bo bn bc s h1).mono fun _ _ ⟨e, o⟩ => ⟨⟨e, Nat.le_trans (txA_sz s) h2⟩, h.out o (txS_le _)⟩
end


end Go.Proofs.YtgldbainhncneaaGreatDoor
