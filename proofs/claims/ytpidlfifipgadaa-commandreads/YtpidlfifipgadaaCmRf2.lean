/-
  The document's own answer for commands: the fields that are read one behind the other, and Read. Conditions: the slice can be read; at most 2 to the 40 bytes.
-/
import Derived.Test.YtpidlfifipgadaaCmRf1
import Derived.Test.YtpidlfifipgadaaCmRead
import Derived.BigQuiet
namespace Go.Proofs.Ytpidlfifipgadaa
open Go.RowKit
set_option linter.unusedVariables false
set_option linter.unusedSimpArgs false

set_option maxHeartbeats 400000 in
set_option maxRecDepth 100000 in
theorem readFixed_ref (ao : Option Addr) (n c : Nat) (bs : List Int) (k : Int) (w : World) (h : Bs w ao n c bs) :
    Calls Try.prog 88 #[.slice ao n c, .int .i64 k] w fun e w' => e = .returned (.tuple #[.int .u64 (readFixed bs k).1, .int .i64 (readFixed bs k).2]) ∧ w' = w := by
  have hlen := h.len
  have hmax := h.max
  have hle := h.le
  by_cases h1 : 1 ≤ k
  · have hd1 : decide (k < 1) = false := by simp; omega
    by_cases h8 : k ≤ 8
    · by_cases h2 : (n : Int) < k
      · have e : readFixed bs k = (0, 4) := by simp [readFixed, h1, h8, hlen, h2]
        rw [e]
        clear e
        go_enter Try.func88, Try.ntmps88
        go_wp2
        go_ret2
        exact ⟨rfl, rfl⟩
      · have e : readFixed bs k = (val bs k.toNat, 0) := by simp [readFixed, h1, h8, hlen, h2]
        rw [e]
        clear e
        rcases h.at' with h0 | ⟨b, off, rfl, hcell⟩
        · omega
        have hby := h.byt
        clear h hlen
        go_enter Try.func88, Try.ntmps88
        go_wp2
        go_loop [6, 7] (fun x i => ∃ m : Nat, (m : Int) ≤ k ∧ i = .int .i64 m ∧ x = .int .u64 (val bs m)) (fun _ i => (k - intOf i).toNat)
        case atStart => exact ⟨0, by omega, rfl, rfl⟩
        case round =>
          obtain ⟨m, hm, rfl, rfl⟩ := hrel
          by_cases hlt : (m : Int) < k
          · have hcc := hcell m (by omega)
            have hb2 := hby.at m
            have hst := hide (or_step hby m (by omega))
            go_wp2
            go_round
            case rel => exact ⟨m + 1, by omega, by go_num, by rw [unhide hst]⟩
            case measure => simp [intOf]; omega
          · have he := hide (show m = k.toNat by omega)
            go_wp2
            go_ret2
            exact ⟨tup2 (by rw [unhide he]) rfl, rfl⟩
    · have hd : decide (8 < k) = true := by simp; omega
      have e : readFixed bs k = (0, 2) := by simp only [readFixed]; rw [if_pos (by omega)]
      rw [e]
      clear e
      go_enter Try.func88, Try.ntmps88
      go_wp2
      go_ret2
      exact ⟨rfl, rfl⟩
  · have hd : decide (k < 1) = true := by simp; omega
    have e : readFixed bs k = (0, 2) := by simp only [readFixed]; rw [if_pos (by omega)]
    rw [e]
    clear e
    go_enter Try.func88, Try.ntmps88
    go_wp2
    go_ret2
    exact ⟨rfl, rfl⟩

/-- Wrong, Bytes, Fixed of the fields. -/
def wrS (s : FS) (bad : Bool) : FS := if s.e = 0 ∧ bad = true then { s with e := 5 } else s
def byA (s : FS) (n : Nat) : List Int := if s.e = 0 ∧ n ≤ s.b.length then s.b.take n else List.replicate n 0
def byS (s : FS) (n : Nat) : FS := if s.e = 0 then (if s.b.length < n then { s with e := 4 } else { s with b := s.b.drop n }) else s
def by1 (s : FS) : Int := (byA s 1)[0]?.getD 0
def gxA (s : FS) (n : Nat) : Int := val (byA s n) n
def doS (s : FS) : FS := wrS s (decide (0 < s.b.length))
theorem byA_len (s : FS) (n : Nat) : (byA s n).length = n := by
  unfold byA
  split
  · rename_i h
    simp
    omega
  · simp

/-- Block g is the fields in the state s. -/
structure Gl (g : Nat) (w : World) (bo : Option Addr) (bn bc : Nat) (s : FS) : Prop where
  st : w.heap[g]? = some (.cells #[.slice bo bn bc, .int .i64 s.e] 85 (0, 0))
  bs : Bs w bo bn bc s.b
  ne : bn = 0 ∨ ∀ k, ob bo k → k < g

section
variable {g : Nat} {w : World} {bo : Option Addr} {bn bc : Nat} {s : FS}
theorem Gl.lt (h : Gl g w bo bn bc s) : g < w.heap.size := (Array.getElem?_eq_some_iff.1 h.st).1
theorem Gl.free (h : Gl g w bo bn bc s) (i : Nat) : w.frozen? ⟨g, i, none⟩ = false := frozen_of_row w g i _ _ h.st
theorem Gl.nob (h : Gl g w bo bn bc s) : bn = 0 ∨ ¬ ob bo g := h.ne.imp id (fun q z => Nat.lt_irrefl _ (q _ z))
theorem Gl.c0 (h : Gl g w bo bn bc s) : w.cell? ⟨g, 0, none⟩ = some (.slice bo bn bc) := by rw [cell_of_row w g 0 _ _ _ h.st]; rfl
theorem Gl.c1 (h : Gl g w bo bn bc s) : w.cell? ⟨g, 1, none⟩ = some (.int .i64 s.e) := by rw [cell_of_row w g 1 _ _ _ h.st]; rfl
theorem Gl.later (h : Gl g w bo bn bc s) {w' : World} (hb : Below w.heap.size w w') : Gl g w' bo bn bc s :=
  ⟨by rw [hb.block g h.lt]; exact h.st, h.bs.later hb, h.ne⟩
theorem Gl.drewN (h : Gl g w bo bn bc s) (n : Nat) : Gl g (w.drewN n) bo bn bc s := h.later ⟨rfl, rfl, rfl, Nat.le_refl _, fun _ _ => rfl⟩
theorem Gl.putE (h : Gl g w bo bn bc s) (z : Int) : Gl g (w.setCell ⟨g, 1, none⟩ (.int .i64 z)) bo bn bc { s with e := z } :=
  ⟨by rw [heap_setCell_same w g 1 _ _ _ h.st]; rfl, h.bs.gb0 ((Gb.refl g w).set 1 _) h.nob, h.ne⟩
theorem Gl.putB (h : Gl g w bo bn bc s) {bo' : Option Addr} {bn' bc' : Nat} {l : List Int} (hb : Bs w bo' bn' bc' l) (hn : bn' = 0 ∨ ∀ k, ob bo' k → k < g) : Gl g (w.setCell ⟨g, 0, none⟩ (.slice bo' bn' bc')) bo' bn' bc' { s with b := l } :=
  ⟨by rw [heap_setCell_same w g 0 _ _ _ h.st]; rfl, hb.gb0 ((Gb.refl g w).set 0 _) (hn.imp id (fun q z => Nat.lt_irrefl _ (q _ z))), hn⟩
theorem Gl.cutNe (h : Gl g w bo bn bc s) {yo : Option Addr} (hy : ∀ k, ob yo k → ob bo k) (q : Nat) : bn - q = 0 ∨ ∀ k, ob yo k → k < g := by
  rcases h.ne with h0 | h0
  · exact .inl (by omega)
  · exact .inr (fun k z => h0 k (hy k z))
/-- Above it anything may change. -/
theorem Gl.above (h : Gl g w bo bn bc s) {w' : World} (hb : Below (g + 1) w w') : Gl g w' bo bn bc s := by
  refine ⟨by rw [hb.block g (by omega)]; exact h.st, ?_, h.ne⟩
  refine ⟨h.bs.len, h.bs.le, h.bs.max, h.bs.nil, h.bs.byt, ?_⟩
  rcases h.ne with h0 | h0
  · exact .inl h0
  · rcases h.bs.at' with hz | ⟨b', off, e, hc⟩
    · exact .inl hz
    · refine .inr ⟨b', off, e, fun i hi => ?_⟩
      have hlt := h0 b' ⟨_, e, rfl⟩
      rw [← hc i hi]
      exact World.cell?_of_block (w := w) (a := ⟨b', off + i, none⟩) (hb.block b' (by omega))
/-- The fields of bytes, ahead of the first. -/
theorem Gl.new {b : List Int} (h : Bs w bo bn bc b) : Gl w.heap.size (w.alloc (.cells #[.slice bo bn bc, .int .i64 0] 85)) bo bn bc ⟨b, 0⟩ := by
  refine ⟨heap_alloc_new w _, h.later (below_alloc w _), ?_⟩
  rcases h.at' with h0 | ⟨b', off, e, hc⟩
  · exact .inl h0
  · by_cases hz : bn = 0
    · exact .inl hz
    · right
      rintro k ⟨a, rfl, ha⟩
      have := World.block_lt_of_cell? w _ (hc 0 (by omega))
      simp at e
      subst e
      simp at ha this
      omega
end

/-- The fields are in the state s behind a call. -/
def OutG (g : Nat) (w : World) (s : FS) (w' : World) : Prop := (∃ bo bn bc, Gl g w' bo bn bc s) ∧ Gb g w w'

set_option maxHeartbeats 400000 in
theorem wrong_rd (g : Nat) (w : World) (bo : Option Addr) (bn bc : Nat) (s : FS) (bad : Bool) (h : Gl g w bo bn bc s) :
    Calls Try.prog 43 #[.pointer (some ⟨g, 0, none⟩), .bool bad] w fun e w' => e = .returned (.tuple #[]) ∧ Gl g w' bo bn bc (wrS s bad) ∧ Gb g w w' := by
  have c1 := h.c1
  have f1 := h.free 1
  have H := hide h
  by_cases he : s.e = 0
  · have he' : (s.e == 0) = true := by simpa using he
    cases bad
    · rw [show wrS s false = s by unfold wrS; rw [if_neg (by simp)]]
      clear h he
      generalize s.e = E at *
      go_enter Try.func43, Try.ntmps43
      go_wp2_with fail
      refine bodyPost_end (results_none rfl _ _ _) rfl ?_
      exact ⟨rfl, unhide H, Gb.refl _ _⟩
    · rw [show wrS s true = { s with e := 5 } by unfold wrS; rw [if_pos ⟨he, rfl⟩]]
      clear h he
      generalize s.e = E at *
      go_enter Try.func43, Try.ntmps43
      go_wp2_with fail
      refine bodyPost_end (results_none rfl _ _ _) rfl ?_
      exact ⟨rfl, (unhide H).putE 5, (Gb.refl _ _).set _ _⟩
  · have he' : (s.e == 0) = false := by simpa using he
    rw [show wrS s bad = s by unfold wrS; rw [if_neg (fun q => he q.1)]]
    clear h he
    generalize s.e = E at *
    go_enter Try.func43, Try.ntmps43
    go_wp2_with fail
    refine bodyPost_end (results_none rfl _ _ _) rfl ?_
    exact ⟨rfl, unhide H, Gb.refl _ _⟩

set_option maxHeartbeats 1000000 in
theorem bytes_rd (g : Nat) (w : World) (bo : Option Addr) (bn bc : Nat) (s : FS) (n : Nat) (N : Int) (hN : N = (n : Int)) (hn : n ≤ 100000) (h : Gl g w bo bn bc s) :
    Calls Try.prog 87 #[.pointer (some ⟨g, 0, none⟩), .int .i64 N] w fun e w' => ∃ xo xc, e = .returned (.slice xo n xc) ∧ Mine w.heap.size w' xo n xc (byA s n) ∧ OutG g w (byS s n) w' := by
  subst hN
  have c0 := h.c0
  have c1 := h.c1
  have f0 := h.free 0
  have f1 := h.free 1
  have hlen := h.bs.len
  have hle := h.bs.le
  have hmx := h.bs.max
  have hlt := h.lt
  have H := hide h
  by_cases he : s.e = 0
  · have he' : (s.e == 0) = true := by simpa using he
    by_cases hs : bn < n
    · have hs' : ((bn : Int) < (n : Int)) := by omega
      have eA := hide (show byA s n = List.replicate n 0 by unfold byA; rw [if_neg (fun q => by omega)])
      have eS := hide (show byS s n = { s with e := 4 } by unfold byS; rw [if_pos he, if_pos (by omega)])
      have H4 := hide (h.putE 4)
      have k1 := (unhide H4).c1
      have G4 := hide ((Gb.refl g w).set 1 (.int .i64 4))
      have z4 : (w.setCell ⟨g, 1, none⟩ (.int .i64 4)).heap.size = w.heap.size := by simp
      clear h he hlen
      generalize s.e = E at *
      go_enter Try.func87, Try.ntmps87
      go_wp2_with (at_make; refine wpList_mkFull rfl _ _ rfl _ _ _ _ n rfl rfl rfl rfl (by omega) ?_; intro w1 hm1 hb1 hz1)
      go_ret
      rw [unhide eA, unhide eS]
      rw [z4] at hm1
      exact ⟨_, _, rfl, hm1, ⟨_, _, _, (unhide H4).later hb1⟩, (unhide G4).trans (Gb.of hb1)⟩
    · have hs' : ¬ ((bn : Int) < (n : Int)) := by omega
      have eA := hide (show byA s n = s.b.take n by unfold byA; rw [if_pos ⟨he, by omega⟩])
      have eS := hide (show byS s n = { s with b := s.b.drop n } by unfold byS; rw [if_pos he, if_neg (by omega)])
      have hb0 := below_alloc w (.cells #[] 5)
      have hm0 := Mine.empty w
      obtain ⟨xo, xc, hcut, hxb⟩ := h.bs.cut_h (hi := n) (by omega) (n : Int) rfl
      obtain ⟨yo, yc, hcut2, hyb, hyo⟩ := h.bs.cut_lo (lo := n) (by omega) (n : Int) rfl
      have ca0 := (h.later hb0).c0
      have HX := hide (hxb.later hb0)
      have HY := hide hyb
      clear h he hlen hxb hyb
      go_enter Try.func87, Try.ntmps87
      go_wp2_with (at_builtin; refine wpList_app rfl _ _ rfl w.heap.size _ _ _ _ rfl hm0 _ _ _ _ rfl (unhide HX) (by omega) (by simp) ?_; intro ao1 c1' w1 hm1 hb1; rw [Nat.zero_add, List.nil_append] at hm1; have HF1 := hide ((unhide H).later (hb0.trans hb1)); have HY1 := hide ((unhide HY).later (hb0.trans hb1)); have d0 := (unhide HF1).c0; have df0 := (unhide HF1).free 0)
      go_ret
      rw [unhide eA, unhide eS]
      exact ⟨_, _, rfl, hm1.gb (g := g) hlt ((Gb.refl _ _).set _ _), ⟨_, _, _, (unhide HF1).putB (unhide HY1) ((unhide H).cutNe hyo _)⟩, (Gb.of (hb0.trans hb1)).set _ _⟩
  · have he' : (s.e == 0) = false := by simpa using he
    have he2 : (s.e != 0) = true := by simpa using he
    have eA := hide (show byA s n = List.replicate n 0 by unfold byA; rw [if_neg (fun q => he q.1)])
    have eS := hide (show byS s n = s by unfold byS; rw [if_neg he])
    clear h he hlen
    generalize s.e = E at *
    go_enter Try.func87, Try.ntmps87
    go_wp2_with (at_make; refine wpList_mkFull rfl _ _ rfl _ _ _ _ n rfl rfl rfl rfl (by omega) ?_; intro w1 hm1 hb1 hz1)
    go_ret
    rw [unhide eA, unhide eS]
    exact ⟨_, _, rfl, hm1, ⟨_, _, _, (unhide H).later hb1⟩, Gb.of hb1⟩

set_option maxHeartbeats 400000 in
set_option maxRecDepth 100000 in
theorem byte_rd (g : Nat) (w : World) (bo : Option Addr) (bn bc : Nat) (s : FS) (h : Gl g w bo bn bc s) :
    Calls Try.prog 39 #[.pointer (some ⟨g, 0, none⟩)] w fun e w' => e = .returned (.int .u8 (by1 s)) ∧ OutG g w (byS s 1) w' := by
  have cB := hide (bytes_rd g w bo bn bc s 1 1 rfl (by omega) h)
  obtain ⟨R, hR⟩ : ∃ R, R = by1 s := ⟨_, rfl⟩
  rw [← hR]
  have HR := hide hR
  clear h hR
  go_enter Try.func39, Try.ntmps39
  go_wp2_with fail
  refine (unhide cB).mono ?_
  rintro e w1 ⟨xo, xc, rfl, hm, ho⟩
  obtain ⟨pb, po, hix, hcx⟩ := hm.bs.idx (i := 0) (by omega) 0 rfl
  have HE := hide (show (byA s 1)[0]?.getD 0 = R by rw [unhide HR]; rfl)
  rw [unhide HE] at hcx
  have HO := hide ho
  clear hm ho HE
  go_wp2_with fail
  go_ret
  exact ⟨rfl, unhide HO⟩

set_option maxHeartbeats 1000000 in
set_option maxRecDepth 100000 in
theorem rest_out (g : Nat) (w : World) (bo : Option Addr) (bn bc : Nat) (s : FS) (h : Gl g w bo bn bc s) (hn : bn ≤ 140737488355328) :
    Calls Try.prog 42 #[.pointer (some ⟨g, 0, none⟩)] w fun e w' => ∃ xo xn xc, e = .returned (.slice xo xn xc) ∧ Mine w.heap.size w' xo xn xc (reA s) ∧ OutG g w (reS s) w' := by
  have c0 := h.c0
  have c1 := h.c1
  have hle := h.bs.le
  have hmx := h.bs.max
  have hlt := h.lt
  have H := hide h
  by_cases he : s.e = 0
  · have he' : (s.e != 0) = false := by simpa using he
    have eA := hide (show reA s = s.b by unfold reA; rw [if_pos he])
    have eS := hide (show reS s = { s with b := [] } by unfold reS; rw [if_pos he])
    have hb0 := below_alloc w (.cells #[] 5)
    have hm0 := Mine.empty w
    have ca0 := (h.later hb0).c0
    have HX := hide (h.bs.later hb0)
    clear h he
    go_enter Try.func42, Try.ntmps42
    go_wp2_with (at_builtin; refine wpList_app rfl _ _ rfl w.heap.size _ _ _ _ rfl hm0 _ _ _ _ rfl (unhide HX) (by omega) (by simp) ?_; intro ao1 c1' w1 hm1 hb1; rw [Nat.zero_add, List.nil_append] at hm1; have HF1 := hide ((unhide H).later (hb0.trans hb1)); have d0 := (unhide HF1).c0; have df0 := (unhide HF1).free 0)
    go_ret
    rw [unhide eA, unhide eS]
    exact ⟨_, _, _, rfl, hm1.gb (g := g) hlt ((Gb.refl _ _).set _ _), ⟨_, _, _, (unhide HF1).putB (Bs.nought _) (.inl rfl)⟩, (Gb.of (hb0.trans hb1)).set _ _⟩
  · have he' : (s.e != 0) = true := by simpa using he
    have eA := hide (show reA s = [] by unfold reA; rw [if_neg he])
    have eS := hide (show reS s = s by unfold reS; rw [if_neg he])
    clear h he
    generalize s.e = E at c1 he'
    go_enter Try.func42, Try.ntmps42
    go_wp2_with fail
    go_ret
    rw [unhide eA, unhide eS]
    exact ⟨_, _, _, rfl, Mine.nought _ _, ⟨_, _, _, unhide H⟩, Gb.refl _ _⟩

set_option maxHeartbeats 400000 in
set_option maxRecDepth 100000 in
theorem fixedR_rd (g : Nat) (w : World) (bo : Option Addr) (bn bc : Nat) (s : FS) (n : Nat) (N : Int) (hN : N = (n : Int)) (hn1 : 1 ≤ n) (hn : n ≤ 8) (h : Gl g w bo bn bc s) :
    Calls Try.prog 41 #[.pointer (some ⟨g, 0, none⟩), .int .i64 N] w fun e w' => e = .returned (.int .u64 (gxA s n)) ∧ OutG g w (byS s n) w' := by
  subst hN
  have cB := hide (bytes_rd g w bo bn bc s n (n : Int) rfl (by omega) h)
  obtain ⟨R, hR⟩ : ∃ R, R = gxA s n := ⟨_, rfl⟩
  rw [← hR]
  have HR := hide hR
  clear h hR
  go_enter Try.func41, Try.ntmps41
  go_wp2_with fail
  refine (unhide cB).mono ?_
  rintro e w1 ⟨xo, xc, rfl, hm, ho⟩
  have cR := hide (readFixed_ref xo n xc (byA s n) (n : Int) w1 hm.bs)
  have HE := hide (show readFixed (byA s n) (n : Int) = (R, 0) by rw [unhide HR]; unfold readFixed gxA; rw [if_neg (by omega), if_neg (by rw [byA_len]; omega), Int.toNat_natCast])
  rw [unhide HE] at cR
  have HO := hide ho
  clear hm ho HE
  go_wp2_with fail
  refine (unhide cR).mono ?_
  rintro e w2 ⟨rfl, rfl⟩
  go_wp2_with fail
  go_ret
  exact ⟨rfl, unhide HO⟩

set_option maxHeartbeats 400000 in
set_option maxRecDepth 100000 in
theorem doneR_rd (g : Nat) (w : World) (bo : Option Addr) (bn bc : Nat) (s : FS) (h : Gl g w bo bn bc s) :
    Calls Try.prog 44 #[.pointer (some ⟨g, 0, none⟩)] w fun e w' => e = .returned (.int .i64 (doS s).e) ∧ OutG g w (doS s) w' := by
  have c0 := h.c0
  have hle := h.bs.le
  have hmx := h.bs.max
  have hd : doS s = wrS s (decide (0 < bn)) := by unfold doS; rw [h.bs.len]
  have cW := hide (wrong_rd g w bo bn bc s (decide (0 < bn)) h)
  rw [← hd] at cW
  clear h hd
  generalize doS s = t at *
  go_enter Try.func44, Try.ntmps44
  go_wp2_with fail
  refine (unhide cW).mono ?_
  rintro e w2 ⟨rfl, hf2, gb2⟩
  have k1 := hf2.c1
  have HF2 := hide hf2
  have HG2 := hide gb2
  clear hf2 gb2 cW
  go_wp2_with fail
  go_ret
  exact ⟨rfl, ⟨_, _, _, unhide HF2⟩, unhide HG2⟩

theorem wrong_out (g : Nat) (w : World) (bo : Option Addr) (bn bc : Nat) (s : FS) (bad : Bool) (h : Gl g w bo bn bc s) :
    Calls Try.prog 43 #[.pointer (some ⟨g, 0, none⟩), .bool bad] w fun e w' => e = .returned (.tuple #[]) ∧ OutG g w (wrS s bad) w' :=
  (wrong_rd g w bo bn bc s bad h).mono fun _ _ ⟨h1, h2, h3⟩ => ⟨h1, ⟨_, _, _, h2⟩, h3⟩


theorem val_zeros (m : Nat) : ∀ n, val (List.replicate m 0) n = 0
  | 0 => rfl
  | n + 1 => by
    simp only [val]
    rw [val_zeros m n]
    have : (List.replicate m (0 : Int)).getD n 0 = 0 := by
      rw [List.getD_eq_getElem?_getD, List.getElem?_replicate]
      split <;> rfl
    rw [this]
    simp
theorem by_fx {s : FS} {n : Nat} (h1 : 1 ≤ n) (h8 : n ≤ 8) : byS s n = fxS s n ∧ gxA s n = fxA s n := by
  unfold byS gxA byA
  by_cases h0 : s.e = 0
  · by_cases hl : n ≤ s.b.length
    · have k := fx_yes h1 h8 h0 hl
      rw [k.1, k.2, if_pos h0, if_neg (by omega), if_pos ⟨h0, hl⟩]
      refine ⟨by rw [← h0], ?_⟩
      have := val_append (s.b.take n) (s.b.drop n) n (by simp; omega)
      rw [List.take_append_drop] at this
      exact this.symm
    · have k := fx_no h1 h8 h0 (by omega)
      rw [if_pos h0, if_pos (by omega), if_neg (fun q => hl q.2)]
      constructor
      · unfold fxS paS
        rw [if_pos h0, readFixed_sh h1 h8 (by omega), if_neg (by decide)]
      · unfold fxA
        rw [if_pos h0, readFixed_sh h1 h8 (by omega)]
        exact val_zeros n n
  · unfold fxS fxA
    rw [if_neg h0, if_neg h0, if_neg h0, if_neg (fun q => h0 q.1)]
    exact ⟨rfl, val_zeros n n⟩
theorem by_one (s : FS) : by1 s = fxA s 1 := by
  rw [← (by_fx (s := s) (n := 1) (by omega) (by omega)).2]
  unfold by1 gxA
  simp [val]
theorem wr_wa (s : FS) (bad : Bool) : wrS s bad = waS s (!bad) := by
  unfold wrS waS
  cases bad <;> simp
theorem do_ed (s : FS) : doS s = edS s := by
  unfold doS edS
  rw [wr_wa]
  congr 1
  by_cases h : s.b.length = 0
  · rw [decide_eq_true h, decide_eq_false (by omega)]; rfl
  · rw [decide_eq_false h, decide_eq_true (by omega)]; rfl

/-- The fields in block g are in the state s. -/
def Gx (g : Nat) (w : World) (s : FS) : Prop := (∃ bo bn bc, Gl g w bo bn bc s) ∧ s.b.length ≤ 1099511627776
theorem Gx.lt {g : Nat} {w : World} {s : FS} (h : Gx g w s) : g < w.heap.size := by obtain ⟨⟨bo, bn, bc, h1⟩, _⟩ := h; exact h1.lt
theorem Gx.above {g : Nat} {w w' : World} {s : FS} (h : Gx g w s) (hb : Below (g + 1) w w') : Gx g w' s := by obtain ⟨⟨bo, bn, bc, h1⟩, h2⟩ := h; exact ⟨⟨bo, bn, bc, h1.above hb⟩, h2⟩
theorem Gx.c1 {g : Nat} {w : World} {s : FS} (h : Gx g w s) : w.cell? ⟨g, 1, none⟩ = some (.int .i64 s.e) := by obtain ⟨⟨bo, bn, bc, h1⟩, _⟩ := h; exact h1.c1

section
variable (g : Nat) (w : World) (s : FS)
theorem byte_g (h : Gx g w s) : Calls Try.prog 39 #[.pointer (some ⟨g, 0, none⟩)] w fun e w' => (e = .returned (.int .u8 (fxA s 1)) ∧ 0 ≤ fxA s 1 ∧ fxA s 1 < 256) ∧ OutG g w (fxS s 1) w' := by
  obtain ⟨⟨bo, bn, bc, h1⟩, _⟩ := h
  refine (byte_rd g w bo bn bc s h1).mono fun _ _ ⟨e, o⟩ => ⟨⟨by rw [e, by_one], ?_⟩, by rw [← (by_fx (s := s) (n := 1) (by omega) (by omega)).1]; exact o⟩
  have := fxA_bd (k := 1) h1.bs.byt (by omega) (by omega)
  exact ⟨this.1, by omega⟩
theorem fixed_g (n : Nat) (N M : Int) (hN : N = (n : Int)) (hn1 : 1 ≤ n) (hn : n ≤ 8) (hM : (2 : Int) ^ (8 * n) = M) (h : Gx g w s) : Calls Try.prog 41 #[.pointer (some ⟨g, 0, none⟩), .int .i64 N] w fun e w' => (e = .returned (.int .u64 (fxA s n)) ∧ 0 ≤ fxA s n ∧ fxA s n < M) ∧ OutG g w (fxS s n) w' := by
  obtain ⟨⟨bo, bn, bc, h1⟩, _⟩ := h
  refine (fixedR_rd g w bo bn bc s n N hN hn1 hn h1).mono fun _ _ ⟨e, o⟩ => ⟨⟨by rw [e, (by_fx hn1 hn).2], ?_⟩, by rw [← (by_fx (s := s) hn1 hn).1]; exact o⟩
  have := fxA_bd (k := n) h1.bs.byt hn1 hn
  rw [hM] at this
  exact this
theorem rest_g (h : Gx g w s) : Calls Try.prog 42 #[.pointer (some ⟨g, 0, none⟩)] w fun e w' => ∃ xo xn xc, e = .returned (.slice xo xn xc) ∧ Mine w.heap.size w' xo xn xc (reA s) ∧ OutG g w (reS s) w' := by
  obtain ⟨⟨bo, bn, bc, h1⟩, h2⟩ := h
  exact rest_out g w bo bn bc s h1 (by rw [← h1.bs.len]; omega)
theorem wrong_g (bad : Bool) (h : Gx g w s) : Calls Try.prog 43 #[.pointer (some ⟨g, 0, none⟩), .bool bad] w fun e w' => e = .returned (.tuple #[]) ∧ OutG g w (waS s (!bad)) w' := by
  obtain ⟨⟨bo, bn, bc, h1⟩, _⟩ := h
  rw [← wr_wa]
  exact wrong_out g w bo bn bc s bad h1
theorem done_g (h : Gx g w s) : Calls Try.prog 44 #[.pointer (some ⟨g, 0, none⟩)] w fun e w' => e = .returned (.int .i64 (edS s).e) ∧ OutG g w (edS s) w' := by
  obtain ⟨⟨bo, bn, bc, h1⟩, _⟩ := h
  rw [← do_ed]
  exact doneR_rd g w bo bn bc s h1
end

/-- A function that reads a command: the result lies in the first new block, the fields in the second, the command in block h. -/
structure Rr (w0 : World) (h : Nat) (w : World) (s : FS) (c : Cm) : Prop where
  gx : Gx (w0.heap.size + 1) w s
  cx : Cx h w c
  res : w.heap[w0.heap.size]? = some (.cells ((cm0 0).cd none 0 0).row 28 (0, 0))
  bel : Below w0.heap.size w0 w
  lt : w0.heap.size + 1 < h
section
variable {w0 : World} {h : Nat} {w : World} {s : FS} {c : Cm}
theorem Rr.call (r : Rr w0 h w s c) {s' : FS} {w' : World} (o : OutG (w0.heap.size + 1) w s' w') (hl : s'.b.length ≤ s.b.length) : Rr w0 h w' s' c := by
  have h1 := r.gx.lt
  exact ⟨⟨o.1, Nat.le_trans hl r.gx.2⟩, r.cx.gb r.lt o.2, (o.2.block _ (by omega) (by omega)).trans r.res, r.bel.trans ((o.2.below (by omega)).mono (by omega)), r.lt⟩
theorem Rr.cell (r : Rr w0 h w s c) (i : Nat) (hi : i < 8) : ∃ v, w.cell? ⟨h, i, none⟩ = some v := by
  obtain ⟨_, _, _, e, _⟩ := r.cx
  refine ⟨_, by rw [cell_of_row _ _ i _ _ _ e]; exact Array.getElem?_eq_getElem (by rw [cd_size]; exact hi)⟩
theorem Rr.free (r : Rr w0 h w s c) (i : Nat) : w.frozen? ⟨h, i, none⟩ = false := by obtain ⟨_, _, _, e, _⟩ := r.cx; exact frozen_of_row w h i _ _ e
theorem Rr.num (r : Rr w0 h w s c) (i : Nat) (v : Value) {c' : Cm} (hd : c'.d = c.d) (hr : ∀ xo xn xc, (c.cd xo xn xc).row.setIfInBounds i v = (c'.cd xo xn xc).row) : Rr w0 h (w.setCell ⟨h, i, none⟩ v) s c' := by
  have h1 := r.lt
  refine ⟨r.gx.above ((Below.refl _ _).setCell (by simp; omega) _), ?_, (heap_setCell_other w ⟨h, i, none⟩ _ _ (by simp; omega)).trans r.res, r.bel.setCell (by simp; omega) _, r.lt⟩
  obtain ⟨xo, xn, xc, e, hb, ho⟩ := r.cx
  refine ⟨xo, xn, xc, by rw [heap_setCell_same w h i _ _ _ e, hr], ?_, ho⟩
  rw [hd]
  exact hb.keepB fun k hk hl => heap_setCell_other w ⟨h, i, none⟩ k v (by have := ho k hk; simp; omega)
theorem Rr.dat (r : Rr w0 h w s c) {yo : Option Addr} {yn yc : Nat} {l : List Int} (hb : Bs w yo yn yc l) (ho : ∀ k, ob yo k → h < k) : Rr w0 h (w.setCell ⟨h, 7, none⟩ (.slice yo yn yc)) s { c with d := l } := by
  have h1 := r.lt
  refine ⟨r.gx.above ((Below.refl _ _).setCell (by simp; omega) _), ?_, (heap_setCell_other w ⟨h, 7, none⟩ _ _ (by simp; omega)).trans r.res, r.bel.setCell (by simp; omega) _, r.lt⟩
  obtain ⟨xo, xn, xc, e, _, _⟩ := r.cx
  refine ⟨yo, yn, yc, by rw [heap_setCell_same w h 7 _ _ _ e]; rfl, ?_, ho⟩
  exact hb.keepB fun k hk hl => heap_setCell_other w ⟨h, 7, none⟩ k _ (by have := ho k hk; simp; omega)
end

theorem flag_bool (V : Int) : (!decide (V > 1)) = decide (V ≤ 1) := by
  by_cases h : V ≤ 1
  · rw [decide_eq_true h, decide_eq_false (by omega)]; rfl
  · rw [decide_eq_false h, decide_eq_true (by omega)]; rfl
theorem once_bool (V : Int) : (!(V != 1)) = (V == 1) := by simp [bne]


end Go.Proofs.Ytpidlfifipgadaa
