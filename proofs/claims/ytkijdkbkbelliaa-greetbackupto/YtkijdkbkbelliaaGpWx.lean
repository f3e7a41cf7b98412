/-
  The calls of a writer of logins' packets by what it has written, and the memory of a function that writes a packet. Conditions: lengths below 2 to the 40.
-/
import Derived.Test.YtkijdkbkbelliaaGpWrAt
import Derived.Test.YtkijdkbkbelliaaGpPk
namespace Go.Proofs.Ytkijdkbkbelliaa
open Go.RowKit
set_option linter.unusedVariables false
set_option linter.unusedSimpArgs false

/-- The bytes of a text that is ended. -/
def enB (s : ByteArray) : List Int := nums s ++ [0]
/-- The writer in block g has the bytes l. -/
def WX (B g : Nat) (w : World) (l : List Int) : Prop := (∃ ao n c, Wl B g w ao n c l) ∧ B ≤ w.heap.size
def OutWX (B g : Nat) (w : World) (l : List Int) (w' : World) : Prop := WX B g w' l ∧ Below B w w'
theorem OutW.wx {B g : Nat} {w w' : World} {ao : Option Addr} {n c : Nat} {l l' : List Int} (h : Wl B g w ao n c l) (hB : B ≤ w.heap.size) (o : OutW B g w ao l' w') : OutWX B g w l' w' := by
  obtain ⟨ao1, n1, c1, h1, f⟩ := o
  have b := h.below hB f
  exact ⟨⟨⟨_, _, _, h1⟩, Nat.le_trans hB b.size⟩, b⟩
theorem WX.later {B g : Nat} {w w' : World} {l : List Int} (h : WX B g w l) (hb : Below w.heap.size w w') : WX B g w' l := by
  obtain ⟨⟨ao, n, c, h1⟩, h2⟩ := h
  exact ⟨⟨_, _, _, h1.later hb⟩, Nat.le_trans h2 hb.size⟩
theorem WX.cell {B g : Nat} {w : World} {l : List Int} (h : WX B g w l) : ∃ ao n c, w.cell? ⟨g, 0, none⟩ = some (.slice ao n c) ∧ Mine B w ao n c l := by
  obtain ⟨⟨ao, n, c, h1⟩, h2⟩ := h
  exact ⟨_, _, _, h1.c0, h1.own⟩

section
variable (B g : Nat) (w : World) (l : List Int)
theorem raw_wx (fo : Option Addr) (fn fc : Nat) (f : List Int) (hn : l.length + f.length ≤ 1099511627776) (h : WX B g w l) (hf : Bs w fo fn fc f) :
    Calls Try.prog 92 #[.pointer (some ⟨g, 0, none⟩), .slice fo fn fc] w fun e w' => e = .returned (.tuple #[]) ∧ OutWX B g w (l ++ f) w' := by
  obtain ⟨⟨ao, n, c, h1⟩, h2⟩ := h
  exact (raw_any B g w ao n c l h1 h2 fo fn fc f hf (by rw [← h1.own.len, ← hf.len]; exact hn)).mono fun _ _ ⟨e, o⟩ => ⟨e, o.wx h1 h2⟩
theorem wmark_wx (x : Int) (hx0 : 0 ≤ x) (hx1 : x ≤ 255) (hn : l.length + 1 ≤ 1099511627776) (h : WX B g w l) :
    Calls Try.prog 89 #[.pointer (some ⟨g, 0, none⟩), .int .u8 x] w fun e w' => e = .returned (.tuple #[]) ∧ OutWX B g w (l ++ [x]) w' := by
  obtain ⟨⟨ao, n, c, h1⟩, h2⟩ := h
  exact (wmark_any B g w ao n c l h1 h2 x hx0 hx1 (by rw [← h1.own.len]; exact hn)).mono fun _ _ ⟨e, o⟩ => ⟨e, o.wx h1 h2⟩
theorem wzeros_wx (k : Nat) (K : Int) (hK : K = (k : Int)) (hn : l.length + k ≤ 1099511627776) (h : WX B g w l) :
    Calls Try.prog 93 #[.pointer (some ⟨g, 0, none⟩), .int .i64 K] w fun e w' => e = .returned (.tuple #[]) ∧ OutWX B g w (l ++ List.replicate k 0) w' := by
  obtain ⟨⟨ao, n, c, h1⟩, h2⟩ := h
  exact (wzeros_any B g w ao n c l h1 h2 k K hK (by rw [← h1.own.len]; exact hn)).mono fun _ _ ⟨e, o⟩ => ⟨e, o.wx h1 h2⟩
theorem wfixed_wx (x : Int) (k : Nat) (K M : Int) (hK : K = (k : Int)) (hx0 : 0 ≤ x) (hk1 : 1 ≤ k) (hk8 : k ≤ 8) (hM : (2 : Int) ^ (8 * k) = M) (hx : x < M) (hM2 : M ≤ 18446744073709551616) (hn : l.length + k ≤ 1099511627776) (h : WX B g w l) :
    Calls Try.prog 91 #[.pointer (some ⟨g, 0, none⟩), .int .u64 x, .int .i64 K] w fun e w' => e = .returned (.tuple #[]) ∧ OutWX B g w (l ++ le x k) w' := by
  obtain ⟨⟨ao, n, c, h1⟩, h2⟩ := h
  exact (wfixed_any B g w ao n c l h1 h2 x k K hK hx0 (by omega) hk1 hk8 (by rw [hM]; exact hx) (by rw [← h1.own.len]; exact hn)).mono fun _ _ ⟨e, o⟩ => ⟨e, o.wx h1 h2⟩
theorem wended_wx (s : ByteArray) (hs : pln s = true) (hn : l.length + s.size + 1 ≤ 1099511627776) (h : WX B g w l) :
    Calls Try.prog 90 #[.pointer (some ⟨g, 0, none⟩), .string s] w fun e w' => e = .returned (.tuple #[]) ∧ OutWX B g w (l ++ enB s) w' := by
  obtain ⟨⟨ao, n, c, h1⟩, h2⟩ := h
  exact (wended_any B g w ao n c l h1 h2 s (by unfold pln at hs; exact of_decide_eq_true hs) (by rw [← h1.own.len]; exact hn)).mono fun _ _ ⟨e, o⟩ => ⟨e, o.wx h1 h2⟩
theorem wtext_wx (s : ByteArray) (hn : l.length + s.size + 9 ≤ 1099511627776) (h : WX B g w l) :
    Calls Try.prog 107 #[.pointer (some ⟨g, 0, none⟩), .string s] w fun e w' => e = .returned (.tuple #[]) ∧ OutWX B g w (l ++ (form s.size ++ nums s)) w' := by
  obtain ⟨⟨ao, n, c, h1⟩, h2⟩ := h
  exact (wtext_any B g w ao n c l h1 h2 s (by rw [← h1.own.len]; exact hn)).mono fun _ _ ⟨e, o⟩ => ⟨e, o.wx h1 h2⟩
theorem wshort_wx (fo : Option Addr) (fn fc : Nat) (f : List Int) (hl : f.length ≤ 255) (hn : l.length + f.length + 1 ≤ 1099511627776) (h : WX B g w l) (hf : Bs w fo fn fc f) (hfo : fn = 0 ∨ ∀ k, ob fo k → k < B) :
    Calls Try.prog 108 #[.pointer (some ⟨g, 0, none⟩), .slice fo fn fc] w fun e w' => e = .returned (.tuple #[]) ∧ OutWX B g w (l ++ ((f.length : Int) :: f)) w' := by
  obtain ⟨⟨ao, n, c, h1⟩, h2⟩ := h
  rw [hf.len]
  exact (wshort_any B g w ao n c l h1 h2 fo fn fc f hf hfo (by rw [← hf.len]; exact hl) (by rw [← h1.own.len, ← hf.len]; exact hn)).mono fun _ _ ⟨e, o⟩ => ⟨e, o.wx h1 h2⟩
theorem wplugin_wx (cp : Int) (s : ByteArray) (hs : mby cp 524288 s = true) (hn : l.length + s.size + 1 ≤ 1099511627776) (h : WX B g w l) :
    Calls Try.prog 95 #[.pointer (some ⟨g, 0, none⟩), .int .u32 cp, .string s] w fun e w' => e = .returned (.tuple #[]) ∧ OutWX B g w (l ++ plB cp s) w' := by
  obtain ⟨⟨ao, n, c, h1⟩, h2⟩ := h
  exact (wplugin_any B g w ao n c l h1 h2 cp s (fun q => by unfold mby at hs; rw [if_pos q] at hs; unfold pln at hs; exact of_decide_eq_true hs) (by rw [← h1.own.len]; exact hn)).mono fun _ _ ⟨e, o⟩ => ⟨e, o.wx h1 h2⟩
theorem wattrs_wx (cp : Int) (lo : Option Addr) (ln lc : Nat) (ls : List At) (hn : l.length + (aB ls).length + 9 ≤ 1099511627776) (h : WX B g w l) (hA : As w lo ln lc ls) :
    Calls Try.prog 109 #[.pointer (some ⟨g, 0, none⟩), .int .u32 cp, .slice lo ln lc] w fun e w' => e = .returned (.tuple #[]) ∧ OutWX B g w (l ++ atB cp ls) w' := by
  obtain ⟨⟨ao, n, c, h1⟩, h2⟩ := h
  exact (wattrs_any B g w ao n c l h1 h2 cp lo ln lc ls hA (by rw [← h1.own.len]; exact hn)).mono fun _ _ ⟨e, o⟩ => ⟨e, o.wx h1 h2⟩
end
theorem newWriter_wx (bo : Option Addr) (bn bc : Nat) (b : List Int) (w : World) (h : Bs w bo bn bc b) (hn : bn ≤ 1099511627776) :
    Calls Try.prog 88 #[.slice bo bn bc] w fun e w' => ∃ g, e = .returned (.pointer (some ⟨g, 0, none⟩)) ∧ OutWX w.heap.size g w b w' :=
  (newWriter_any bo bn bc b w h hn).mono fun _ _ ⟨g, ao, n, c, e, h1, h2⟩ => ⟨g, e, ⟨⟨_, _, _, h1⟩, h2.size⟩, h2⟩

/-- A function that writes a packet: the packet lies in the first new block, the writer from block B on. -/
structure Ww (w0 : World) (T : TypeId) (cs : Array Value) (B g : Nat) (w : World) (l : List Int) : Prop where
  wx : WX B g w l
  bel : Below w0.heap.size w0 w
  par : w.heap[w0.heap.size]? = some (.cells cs T (0, 0))
  lt : w0.heap.size < B
section
variable {w0 : World} {T : TypeId} {cs : Array Value} {B g : Nat} {w : World} {l : List Int}
theorem Ww.call (h : Ww w0 T cs B g w l) {l' : List Int} {w' : World} (o : OutWX B g w l' w') : Ww w0 T cs B g w' l' :=
  ⟨o.1, h.bel.trans (o.2.mono (Nat.le_of_lt h.lt)), (o.2.block _ h.lt).trans h.par, h.lt⟩
theorem Ww.cell (h : Ww w0 T cs B g w l) {j : Nat} {v : Value} (hj : cs[j]? = some v) : w.cell? ⟨w0.heap.size, j, none⟩ = some v := by rw [cell_of_row _ _ j _ _ _ h.par]; exact hj
theorem Ww.start (w0 : World) (T : TypeId) (cs : Array Value) {w1 w2 : World} {g : Nat} {b : List Int} (hb : Below (w0.heap.size + 1) (w0.alloc (.cells cs T)) w1) (o : OutWX w1.heap.size g w1 b w2) : Ww w0 T cs w1.heap.size g w2 b := by
  have e : (w0.alloc (.cells cs T)).heap.size = w0.heap.size + 1 := by simp
  have hz := hb.size
  rw [e] at hz
  refine ⟨o.1, (below_alloc w0 _).trans ((hb.mono (by omega)).trans (o.2.mono (by omega))), ?_, by omega⟩
  rw [o.2.block _ (by omega), hb.block _ (by omega)]
  exact heap_alloc_new w0 _
end

/-- What a function that writes a packet leaves. -/
def OutP (w : World) (R : Option (List Int)) (e : Ending) (w' : World) : Prop :=
  match R with
  | none => e = .returned (.tuple #[.slice none 0 0, .int .i64 2]) ∧ Below w.heap.size w w'
  | some l => ∃ ao n c, e = .returned (.tuple #[.slice ao n c, .int .i64 0]) ∧ Mine w.heap.size w' ao n c l ∧ Below w.heap.size w w'

end Go.Proofs.Ytkijdkbkbelliaa
