/-
  What mark, short, zeros, nonce, plugin and end of the reader of logins' packets do: the state behind, and what was read. Conditions: the slice can be read; at most 100,000 bytes that must be 0; parts of a nonce of at most 20 bytes.
-/
import Derived.Test.YtkijdkbkbelliaaGpLeaf
import Derived.Deep.OwnRows
import Derived.BigRegion
namespace Go.Proofs.Ytkijdkbkbelliaa
open Go.RowKit
set_option linter.unusedVariables false
set_option linter.unusedSimpArgs false

/-- mark. -/
def maS (s : FS) (x : Int) : FS := waS (fxS s 1) (fxA s 1 == x)
/-- short. -/
def shA (s : FS) : List Int := tkA (fxS s 1) (fxA s 1).toNat
def shS (s : FS) : FS := tkS (fxS s 1) (fxA s 1).toNat
/-- zeros. -/
def zeS (s : FS) (n : Nat) : FS := waS (tkS s n) (decide (tkA s n = List.replicate n 0))
/-- nonce. -/
def noS (s : FS) (n : Nat) : FS := waS (tkS s n) ((tkA s n).all okb)
/-- plugin. -/
def plA (s : FS) (c : Int) : ByteArray := if has c 524288 = true then enA s else ⟨#[]⟩
def plS (s : FS) (c : Int) : FS := if has c 524288 = true then enS s else s
/-- end. -/
def edS (s : FS) : FS := waS s (decide (s.b.length = 0))

theorem readFixed_val {b : List Int} (hb : Byt b) {k : Nat} (h1 : 1 ≤ k) (h8 : k ≤ 8) : 0 ≤ (readFixed b k).1 ∧ (readFixed b k).1 < 2 ^ (8 * k) := by
  unfold readFixed
  rw [if_neg (by omega)]
  split
  · simp only
    exact ⟨Int.le_refl _, Int.pow_pos (by omega)⟩
  · simp only [Int.toNat_natCast]
    exact val_bounds hb k
theorem fxA_bd {s : FS} (hb : Byt s.b) {k : Nat} (h1 : 1 ≤ k) (h8 : k ≤ 8) : 0 ≤ fxA s k ∧ fxA s k < 2 ^ (8 * k) := by
  unfold fxA
  split
  · exact readFixed_val hb h1 h8
  · exact ⟨Int.le_refl _, Int.pow_pos (by omega)⟩
theorem tkA_len (s : FS) (n : Nat) : (tkA s n).length ≤ n := by
  unfold tkA
  split
  · simp; omega
  · simp

/-- fixed, with the bounds of what was read. -/
theorem fixed_out (g : Nat) (w : World) (bo : Option Addr) (bn bc : Nat) (s : FS) (n : Nat) (N M : Int) (hN : N = (n : Int)) (hn1 : 1 ≤ n) (hn : n ≤ 8) (hM : (2 : Int) ^ (8 * n) = M) (h : Fl g w bo bn bc s) :
    Calls Try.prog 98 #[.pointer (some ⟨g, 0, none⟩), .int .i64 N] w fun e w' => (e = .returned (.int .u64 (fxA s n)) ∧ 0 ≤ fxA s n ∧ fxA s n < M) ∧ OutF g w (fxS s n) w' :=
  (fixed_rd g w bo bn bc s n N hN hn1 hn h).mono fun _ _ ⟨h1, h2⟩ => ⟨⟨h1, (fxA_bd h.bs.byt hn1 hn).1, by have := (fxA_bd h.bs.byt hn1 hn).2; rw [hM] at this; exact this⟩, h2⟩

set_option maxHeartbeats 400000 in
set_option maxRecDepth 100000 in
theorem mark_rd (g : Nat) (w : World) (bo : Option Addr) (bn bc : Nat) (s : FS) (x : Int) (h : Fl g w bo bn bc s) :
    Calls Try.prog 96 #[.pointer (some ⟨g, 0, none⟩), .int .u64 x] w fun e w' => e = .returned (.tuple #[]) ∧ OutF g w (maS s x) w' := by
  have cF := hide (fixed_rd g w bo bn bc s 1 1 rfl (by omega) (by omega) h)
  have cW := hide (fun wx (bo : Option Addr) (bn bc : Nat) (hx : Fl g wx bo bn bc (fxS s 1)) => want_out g wx bo bn bc (fxS s 1) (fxA s 1 == x) hx)
  unfold maS
  generalize fxS s 1 = s1 at *
  generalize fxA s 1 = v1 at *
  clear h
  go_enter Try.func96, Try.ntmps96
  go_wp2_with fail
  refine (unhide cF).mono ?_
  rintro e w1 ⟨rfl, ⟨bo1, bn1, bc1, hf⟩, gb⟩
  have HF := hide hf
  have HG := hide gb
  clear hf gb cF
  go_wp2_with fail
  refine (unhide cW _ _ _ _ (unhide HF)).mono ?_
  rintro e w2 ⟨rfl, ho, gb⟩
  have HO := hide ho
  have HG2 := hide ((unhide HG).trans gb)
  clear ho gb
  go_wp2_with fail
  refine bodyPost_end (results_none rfl _ _ _) rfl ?_
  exact ⟨rfl, unhide HO, unhide HG2⟩

set_option maxHeartbeats 400000 in
set_option maxRecDepth 100000 in
theorem short_rd (g : Nat) (w : World) (bo : Option Addr) (bn bc : Nat) (s : FS) (h : Fl g w bo bn bc s) :
    Calls Try.prog 111 #[.pointer (some ⟨g, 0, none⟩)] w fun e w' => ∃ xo xn xc, e = .returned (.slice xo xn xc) ∧ Mine w.heap.size w' xo xn xc (shA s) ∧ OutF g w (shS s) w' := by
  have cF := hide (fixed_out g w bo bn bc s 1 1 256 rfl (by omega) (by omega) rfl h)
  have hb := fxA_bd h.bs.byt (k := 1) (by omega) (by omega)
  have hlt := h.lt
  have cT := hide (fun wx (bo : Option Addr) (bn bc : Nat) (hx : Fl g wx bo bn bc (fxS s 1)) => take_rd g wx bo bn bc (fxS s 1) (fxA s 1).toNat (fxA s 1) (by omega) (by have := hb.2; simp at this; omega) hx)
  unfold shA shS
  generalize fxS s 1 = s1 at *
  generalize fxA s 1 = v1 at *
  clear h hb
  go_enter Try.func111, Try.ntmps111
  go_wp2_with fail
  refine (unhide cF).mono ?_
  rintro e w1 ⟨⟨rfl, hv0, hv1⟩, ⟨bo1, bn1, bc1, hf⟩, gb⟩
  have HF := hide hf
  have HG := hide gb
  have hz := gb.size
  clear hf gb cF
  go_wp2_with fail
  refine (unhide cT _ _ _ _ (unhide HF)).mono ?_
  rintro e w2 ⟨xo, xn, xc, rfl, hm, ho, gb⟩
  have HO := hide ho
  have HM := hide (hm.mono hz)
  have HG2 := hide ((unhide HG).trans gb)
  clear ho gb hm
  go_wp2_with fail
  go_ret
  exact ⟨_, _, _, rfl, unhide HM, unhide HO, unhide HG2⟩

set_option maxHeartbeats 400000 in
set_option maxRecDepth 100000 in
theorem nonce_rd (g : Nat) (w : World) (bo : Option Addr) (bn bc : Nat) (s : FS) (n : Nat) (N : Int) (hN : N = (n : Int)) (hn : n ≤ 20) (h : Fl g w bo bn bc s) :
    Calls Try.prog 99 #[.pointer (some ⟨g, 0, none⟩), .int .i64 N] w fun e w' => ∃ xo xn xc, e = .returned (.slice xo xn xc) ∧ Mine w.heap.size w' xo xn xc (tkA s n) ∧ OutF g w (noS s n) w' := by
  have cT := hide (take_rd g w bo bn bc s n N hN (by omega) h)
  have hlt := h.lt
  have htl := tkA_len s n
  subst hN
  unfold noS
  generalize tkS s n = s1 at *
  generalize tkA s n = l at *
  clear h
  go_enter Try.func99, Try.ntmps99
  go_wp2_with fail
  refine (unhide cT).mono ?_
  rintro e w1 ⟨xo, xn, xc, rfl, hm, ⟨bo1, bn1, bc1, hf⟩, gb⟩
  have cP := hide (mayBePart_any xo xn xc l w1 hm.bs (by rw [← hm.len]; omega))
  have HF := hide hf
  have HG := hide gb
  have HM := hide hm
  have hz := gb.size
  clear hf gb cT hm
  go_wp2_with fail
  refine (unhide cP).mono ?_
  rintro e w2 ⟨rfl, b2⟩
  have cW := hide (want_out g w2 bo1 bn1 bc1 s1 (l.all okb) ((unhide HF).later b2))
  have HG2 := hide ((unhide HG).trans (Gb.of b2))
  have HM2 := hide ((unhide HM).later b2)
  clear b2 cP HF HG HM
  go_wp2_with fail
  refine (unhide cW).mono ?_
  rintro e w3 ⟨rfl, ho, gb⟩
  have HO := hide ho
  have HM3 := hide ((unhide HM2).gb (g := g) (by omega) gb)
  have HG3 := hide ((unhide HG2).trans gb)
  clear ho gb
  go_wp2_with fail
  go_ret
  exact ⟨_, _, _, rfl, unhide HM3, unhide HO, unhide HG3⟩

set_option maxHeartbeats 400000 in
set_option maxRecDepth 100000 in
theorem plugin_rd (g : Nat) (w : World) (bo : Option Addr) (bn bc : Nat) (s : FS) (c : Int) (h : Fl g w bo bn bc s) :
    Calls Try.prog 104 #[.pointer (some ⟨g, 0, none⟩), .int .u32 c] w fun e w' => e = .returned (.string (plA s c)) ∧ OutF g w (plS s c) w' := by
  have cE := hide (ended_rd g w bo bn bc s h)
  cases q : (bits .and .u32 c 524288 == 0)
  · rw [show plA s c = enA s by unfold plA has; rw [q]; rfl, show plS s c = enS s by unfold plS has; rw [q]; rfl]
    clear h
    go_enter Try.func104, Try.ntmps104
    go_wp2_with fail
    refine (unhide cE).mono ?_
    rintro e w' ⟨rfl, ho⟩
    have HO := hide ho
    clear ho
    go_wp2_with fail
    go_ret
    exact ⟨rfl, unhide HO⟩
  · rw [show plA s c = ⟨#[]⟩ by unfold plA has; rw [q]; rfl, show plS s c = s by unfold plS has; rw [q]; rfl]
    have H := hide h
    clear h cE
    go_enter Try.func104, Try.ntmps104
    go_wp2_with fail
    go_ret
    exact ⟨rfl, ⟨_, _, _, unhide H⟩, Gb.refl _ _⟩

set_option maxHeartbeats 400000 in
set_option maxRecDepth 100000 in
theorem end_rd (g : Nat) (w : World) (bo : Option Addr) (bn bc : Nat) (s : FS) (h : Fl g w bo bn bc s) :
    Calls Try.prog 105 #[.pointer (some ⟨g, 0, none⟩)] w fun e w' => e = .returned (.tuple #[]) ∧ OutF g w (edS s) w' := by
  have c0 := h.c0
  have hle := h.bs.le
  have hmx := h.bs.max
  have hd : edS s = waS s ((bn : Int) == 0) := by
    unfold edS
    rw [h.bs.len]
    congr 1
    rw [Bool.eq_iff_iff]
    simp
  have cW := hide (want_out g w bo bn bc s ((bn : Int) == 0) h)
  rw [← hd] at cW
  clear h hd
  generalize edS s = t at *
  obtain ⟨z, hz⟩ : ∃ z, ((bn : Int) == 0) = z := ⟨_, rfl⟩
  rw [hz] at cW
  go_enter Try.func105, Try.ntmps105
  go_wp2_with fail
  refine (unhide cW).mono ?_
  rintro e w2 ⟨rfl, ho⟩
  have HO := hide ho
  clear ho
  go_wp2_with fail
  refine bodyPost_end (results_none rfl _ _ _) rfl ?_
  exact ⟨rfl, unhide HO⟩

theorem made_bs (w : World) (n : Nat) (hn : n ≤ 100000) : Bs (w.alloc (.cells (madeCells #[Value.int .u8 0] n) 5)) (some ⟨w.heap.size, 0, none⟩) n n (List.replicate n 0) := by
  refine ⟨by simp, Nat.le_refl _, by omega, (fun e => by cases e), fun x hx => by have := List.eq_of_mem_replicate hx; omega, .inr ⟨w.heap.size, 0, rfl, fun i hi => ?_⟩⟩
  rw [Nat.zero_add, cell_top w _ _ i _ rfl]
  have := congrArg (fun l => l[i]?) (toList_madeCells_one (Value.int .u8 0) n)
  simp only [Array.getElem?_toList] at this
  rw [this]
  simp [List.getElem?_replicate, hi]

theorem below_drew1 (w : World) : Below w.heap.size w w.drew := ⟨rfl, rfl, rfl, Nat.le_refl _, fun _ _ => rfl⟩

set_option maxHeartbeats 1000000 in
set_option maxRecDepth 100000 in
theorem zeros_rd (g : Nat) (w : World) (bo : Option Addr) (bn bc : Nat) (s : FS) (n : Nat) (N : Int) (hN : N = (n : Int)) (hn : n ≤ 100000) (h : Fl g w bo bn bc s) :
    Calls Try.prog 100 #[.pointer (some ⟨g, 0, none⟩), .int .i64 N] w fun e w' => e = .returned (.tuple #[]) ∧ OutF g w (zeS s n) w' := by
  subst hN
  have hlt := h.lt
  have cT := hide (fun wx (bo : Option Addr) (bn bc : Nat) (hx : Fl g wx bo bn bc s) => take_rd g wx bo bn bc s n (n : Int) rfl (by omega) hx)
  have mk : ∀ wx : World, (Instr.makeSlice 22 (.int .i64 (n : Int)) (.int .i64 (n : Int))).run Try.prog wx = .ok (.slice (some ⟨wx.heap.size, 0, none⟩) n n) (wx.alloc (.cells (madeCells #[Value.int .u8 0] n) 5)) :=
    fun wx => run_make_row' (P := Try.prog) 22 5 (.int .u8 0) 1 Try.underlying22 Try.infoByte rfl .i64 .i64 n (by omega) (by omega) wx
  have MB := hide (fun wx => made_bs wx n hn)
  generalize madeCells #[Value.int .u8 0] n = M at *
  unfold zeS
  generalize tkS s n = s1 at *
  generalize tkA s n = l at *
  have cW := hide (fun wx (bo : Option Addr) (bn bc : Nat) (hx : Fl g wx bo bn bc s1) => want_out g wx bo bn bc s1 (decide (l = List.replicate n 0)) hx)
  have H := hide h
  clear h
  go_enter Try.func100, Try.ntmps100
  go_wp2_with fail
  go_region_with (first
    | (go_at_call 134; refine (unhide cT _ _ _ _ (((unhide H).later (below_alloc w (.cells M 5))).later (below_drew1 _))).mono ?_; rintro e w1 ⟨xo, xn, xc, rfl, hm, ⟨bo1, bn1, bc1, hf⟩, gb⟩; have HE := hide (bytesEqual_any xo xn xc l (some ⟨w.heap.size, 0, none⟩) n n (List.replicate n 0) w1 hm.bs (((unhide MB w).later (below_drew1 _)).gb gb (fun a ha e => by cases ha; simp at e; omega))); have HF := hide hf; have HG := hide ((Gb.of (below_alloc w (.cells M 5))).trans ((Gb.of (below_drew1 _)).trans gb)); clear hm hf gb)
    | (go_at_call 134; refine (unhide cT _ _ _ _ ((unhide H).later (below_drew1 _))).mono ?_; rintro e w1 ⟨xo, xn, xc, rfl, hm, ⟨bo1, bn1, bc1, hf⟩, gb⟩; have HE := hide (bytesEqual_any xo xn xc l (some ⟨w1.heap.size, 0, none⟩) n n (List.replicate n 0) (w1.alloc (.cells M 5)) (hm.bs.later (below_alloc w1 _)) (unhide MB w1)); have HF := hide (hf.later (below_alloc w1 (.cells M 5))); have HG := hide (((Gb.of (below_drew1 _)).trans gb).trans (Gb.of (below_alloc w1 (.cells M 5)))); clear hm hf gb)
    | (go_at_call 136; refine same_world (unhide HE) ?_)
    | (go_at_call 101; refine (unhide cW _ _ _ _ (unhide HF)).mono ?_; rintro e w2 ⟨rfl, ho, gb⟩; have HO := hide ho; have HG2 := hide ((unhide HG).trans gb); clear ho gb))
  all_goals go_wp2_with fail
  all_goals refine bodyPost_end (results_none rfl _ _ _) rfl ?_
  all_goals exact ⟨rfl, unhide HO, unhide HG2⟩

end Go.Proofs.Ytkijdkbkbelliaa
