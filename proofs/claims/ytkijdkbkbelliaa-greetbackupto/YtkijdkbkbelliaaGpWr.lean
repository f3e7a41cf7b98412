/-
  The writer of logins' packets: in memory, and what newWriter, raw, mark, zeros, fixed, ended, text, short and plugin of it leave. Conditions: lengths below 2 to the 40.
-/
import Derived.Test.YtkijdkbkbelliaaGpFs
import Derived.Test.YtkijdkbkbelliaaLeWrites2
namespace Go.Proofs.Ytkijdkbkbelliaa
open Go.RowKit
set_option linter.unusedVariables false
set_option linter.unusedSimpArgs false

/-- Block g is a writer that has the bytes l, in a row of the call's own from block B on. -/
structure Wl (B g : Nat) (w : World) (ao : Option Addr) (n c : Nat) (l : List Int) : Prop where
  st : w.heap[g]? = some (.cells #[.slice ao n c] 134 (0, 0))
  own : Mine B w ao n c l
  ge : B ≤ g
/-- The blocks of a writer: its own, and its row's. -/
def wf (g : Nat) (ao : Option Addr) (k : Nat) : Prop := k = g ∨ ob ao k
/-- Behind a call: the writer has the bytes l; nothing else has changed. -/
def OutW (B g : Nat) (w : World) (ao : Option Addr) (l : List Int) (w' : World) : Prop := ∃ ao1 n c, Wl B g w' ao1 n c l ∧ Fs (wf g ao) w (wf g ao1) w'

section
variable {B g : Nat} {w : World} {ao : Option Addr} {n c : Nat} {l : List Int}
theorem Wl.lt (h : Wl B g w ao n c l) : g < w.heap.size := (Array.getElem?_eq_some_iff.1 h.st).1
theorem Wl.free (h : Wl B g w ao n c l) (i : Nat) : w.frozen? ⟨g, i, none⟩ = false := frozen_of_row w g i _ _ h.st
theorem Wl.c0 (h : Wl B g w ao n c l) : w.cell? ⟨g, 0, none⟩ = some (.slice ao n c) := by rw [cell_of_row w g 0 _ _ _ h.st]; rfl
theorem Wl.later (h : Wl B g w ao n c l) {w' : World} (hb : Below w.heap.size w w') : Wl B g w' ao n c l :=
  ⟨by rw [hb.block g h.lt]; exact h.st, h.own.later hb, h.ge⟩
/-- The writer's own block is not its row. -/
theorem Wl.nob (h : Wl B g w ao n c l) : ¬ ob ao g := by
  intro hk
  obtain ⟨a, rfl, ha⟩ := hk
  rcases h.own.own.2 with ⟨hv, _⟩ | ⟨g', cap, cur, hv, hg, hh, _⟩
  · simp at hv
  · simp only [Value.slice.injEq, Option.some.injEq] at hv
    obtain ⟨rfl, _⟩ := hv
    simp only at ha
    subst ha
    have := hh.symm.trans h.st
    simp at this
/-- Bytes were put behind the row. -/
theorem Wl.app (h : Wl B g w ao n c l) {w1 : World} {ao1 : Option Addr} {n1 c1 : Nat} {l1 : List Int} (hm : Mine B w1 ao1 n1 c1 l1) (f : Fs (ob ao) w (ob ao1) w1) :
    w1.cell? ⟨g, 0, none⟩ = some (.slice ao n c) ∧ w1.frozen? ⟨g, 0, none⟩ = false ∧ Wl B g (w1.setCell ⟨g, 0, none⟩ (.slice ao1 n1 c1)) ao1 n1 c1 l1 := by
  have hst : w1.heap[g]? = _ := (f.block g h.lt h.nob).trans h.st
  have hn : ¬ ob ao1 g := fun q => by
    rcases f.src g q with q | q
    · exact h.nob q
    · have := h.lt; omega
  refine ⟨by rw [cell_of_row w1 g 0 _ _ _ hst]; rfl, frozen_of_row w1 g 0 _ _ hst, ⟨by rw [heap_setCell_same w1 g 0 _ _ _ hst]; rfl, ?_, h.ge⟩⟩
  exact hm.keepB fun k hk => heap_setCell_other w1 ⟨g, 0, none⟩ k _ (fun e => hn (by simpa [e] using hk))
theorem Wl.fsApp (h : Wl B g w ao n c l) {w1 : World} {ao1 : Option Addr} (v : Value) (f : Fs (ob ao) w (ob ao1) w1) : Fs (wf g ao) w (wf g ao1) (w1.setCell ⟨g, 0, none⟩ v) :=
  (f.weak (fun k hk => .inr hk) (fun k hk => hk.elim (fun e => .inl (.inl e)) (fun q => .inr q))).set (.inl rfl) 0 v
theorem Wl.ge' (h : Wl B g w ao n c l) {k : Nat} (hk : wf g ao k) : B ≤ k := hk.elim (fun e => e ▸ h.ge) (fun q => (h.own.ob q).1)
theorem Wl.below (h : Wl B g w ao n c l) {w' : World} {ao1 : Option Addr} (hB : B ≤ w.heap.size) (f : Fs (wf g ao) w (wf g ao1) w') : Below B w w' := f.below hB (fun k hk => h.ge' hk)
theorem Fs.same {S : Nat → Prop} {w w' : World} (h : Below w.heap.size w w') : Fs S w S w' := Fs.of h (fun k hk => .inl hk)
end

set_option maxHeartbeats 400000 in
theorem newWriter_any (bo : Option Addr) (bn bc : Nat) (b : List Int) (w : World) (h : Bs w bo bn bc b) (hn : bn ≤ 1099511627776) :
    Calls Try.prog 88 #[.slice bo bn bc] w fun e w' => ∃ g ao n c, e = .returned (.pointer (some ⟨g, 0, none⟩)) ∧ Wl w.heap.size g w' ao n c b ∧ Below w.heap.size w w' := by
  have hle := h.le
  have hmx := h.max
  have H := hide h
  clear h
  go_enter Try.func88, Try.ntmps88
  go_wp2_with (first
    | (at_make; refine wpList_mk rfl _ _ rfl _ _ _ bn rfl rfl rfl (by omega) ?_; intro w1 m1 b1 z1; have M1 := hide m1; have B1 := hide b1; have HX := hide ((unhide H).later b1); clear m1 b1)
    | (at_builtin; refine wpList_app rfl _ _ rfl w.heap.size _ _ _ _ rfl (unhide M1) _ _ _ _ rfl (unhide HX) (by omega) (by omega) ?_; intro ao2 c2 w2 m2 b2; rw [Nat.zero_add, List.nil_append] at m2; have M2 := hide m2; have B2 := hide ((unhide B1).trans b2); clear m2 b2))
  go_ret
  have hz := (unhide B2).size
  exact ⟨w2.heap.size, ao2, bn, c2, rfl, ⟨heap_alloc_new w2 _, (unhide M2).later (below_alloc w2 _), hz⟩, (unhide B2).trans ((below_alloc w2 _).mono hz)⟩

set_option maxHeartbeats 400000 in
theorem raw_any (B g : Nat) (w : World) (ao : Option Addr) (n c : Nat) (l : List Int) (h : Wl B g w ao n c l) (hB : B ≤ w.heap.size) (fo : Option Addr) (fn fc : Nat) (f : List Int) (hf : Bs w fo fn fc f) (hn : n + fn ≤ 1099511627776) :
    Calls Try.prog 92 #[.pointer (some ⟨g, 0, none⟩), .slice fo fn fc] w fun e w' => e = .returned (.tuple #[]) ∧ OutW B g w ao (l ++ f) w' := by
  have c0 := h.c0
  have H := hide h
  have HF := hide hf
  clear h hf
  go_enter Try.func92, Try.ntmps92
  go_wp2_with (at_builtin; refine wpList_appS rfl _ _ rfl B _ _ _ _ rfl (unhide H).own _ _ _ _ rfl (unhide HF) (by omega) hB ?_; intro ao1 c1 w1 m1 f1; have A := (unhide H).app m1 f1; obtain ⟨k0, k1, k2⟩ := A; have K2 := hide k2; have F1 := hide f1; clear k2 f1 m1)
  refine bodyPost_end (results_none rfl _ _ _) rfl ?_
  exact ⟨rfl, _, _, _, unhide K2, (unhide H).fsApp _ (unhide F1)⟩

set_option maxHeartbeats 400000 in
theorem wmark_any (B g : Nat) (w : World) (ao : Option Addr) (n c : Nat) (l : List Int) (h : Wl B g w ao n c l) (hB : B ≤ w.heap.size) (x : Int) (hx0 : 0 ≤ x) (hx1 : x ≤ 255) (hn : n + 1 ≤ 1099511627776) :
    Calls Try.prog 89 #[.pointer (some ⟨g, 0, none⟩), .int .u8 x] w fun e w' => e = .returned (.tuple #[]) ∧ OutW B g w ao (l ++ [x]) w' := by
  have c0 := h.c0
  have b0 := below_alloc w (.cells #[.int .u8 x] 5)
  have H := hide h
  have H1 := hide (h.later b0)
  have HF := hide (Bs.one w x hx0 hx1)
  have hz : (w.alloc (.cells #[.int .u8 x] 5)).heap.size = w.heap.size + 1 := by simp
  have B0 := hide b0
  clear h b0
  go_enter Try.func89, Try.ntmps89
  go_wp2_with (at_builtin; refine wpList_appS rfl _ _ rfl B _ _ _ _ rfl (unhide H1).own _ _ _ _ rfl (unhide HF) (by omega) (by omega) ?_; intro ao1 c1 w1 m1 f1; have A := (unhide H1).app m1 f1; obtain ⟨k0, k1, k2⟩ := A; have K2 := hide k2; have F1 := hide f1; clear k2 f1 m1)
  refine bodyPost_end (results_none rfl _ _ _) rfl ?_
  exact ⟨rfl, _, _, _, unhide K2, (Fs.same (unhide B0)).trans ((unhide H1).fsApp _ (unhide F1))⟩

set_option maxHeartbeats 400000 in
theorem wzeros_any (B g : Nat) (w : World) (ao : Option Addr) (n c : Nat) (l : List Int) (h : Wl B g w ao n c l) (hB : B ≤ w.heap.size) (k : Nat) (K : Int) (hK : K = (k : Int)) (hn : n + k ≤ 1099511627776) :
    Calls Try.prog 93 #[.pointer (some ⟨g, 0, none⟩), .int .i64 K] w fun e w' => e = .returned (.tuple #[]) ∧ OutW B g w ao (l ++ List.replicate k 0) w' := by
  subst hK
  have H := hide h
  clear h
  go_enter Try.func93, Try.ntmps93
  go_wp2_with (at_make; refine wpList_mkFull rfl _ _ rfl _ _ _ _ k rfl rfl rfl rfl (by omega) ?_; intro w1 m1 b1 z1; have C := hide (raw_any B g w1 ao n c l ((unhide H).later b1) (by omega) _ _ _ _ m1.bs hn); have B1 := hide (Fs.same (S := wf g ao) b1); clear m1 b1)
  refine (unhide C).mono ?_
  rintro e w2 ⟨rfl, ao2, n2, c2, ho, hb⟩
  have HO := hide ho
  have HB := hide hb
  clear ho hb C
  go_wp2_with fail
  refine bodyPost_end (results_none rfl _ _ _) rfl ?_
  exact ⟨rfl, _, _, _, unhide HO, (unhide B1).trans (unhide HB)⟩

set_option maxHeartbeats 400000 in
theorem wfixed_any (B g : Nat) (w : World) (ao : Option Addr) (n c : Nat) (l : List Int) (h : Wl B g w ao n c l) (hB : B ≤ w.heap.size) (x : Int) (k : Nat) (K : Int) (hK : K = (k : Int)) (hx0 : 0 ≤ x) (hx1 : x < 18446744073709551616) (hk1 : 1 ≤ k) (hk8 : k ≤ 8) (hx : x < 2 ^ (8 * k)) (hn : n + k ≤ 1099511627776) :
    Calls Try.prog 91 #[.pointer (some ⟨g, 0, none⟩), .int .u64 x, .int .i64 K] w fun e w' => e = .returned (.tuple #[]) ∧ OutW B g w ao (l ++ le x k) w' := by
  subst hK
  have H := hide h
  have cA := hide (appendFixed_ok none 0 0 [] x (k : Int) w (Bs.nought w) hx0 hx1 (by omega) (by omega) (by omega) (by rw [Int.toNat_natCast]; exact hx))
  rw [Int.toNat_natCast] at cA
  clear h hx1 hx
  go_enter Try.func91, Try.ntmps91
  go_wp2_with fail
  refine (unhide cA).mono ?_
  rintro e w1 ⟨ao1, c1, rfl, m1, b1⟩
  rw [List.nil_append] at m1
  obtain ⟨kk, hkk⟩ : ∃ kk, kk = 0 + k := ⟨_, rfl⟩
  rw [← hkk] at m1 ⊢
  have C := hide (raw_any B g w1 ao n c l ((unhide H).later b1) (Nat.le_trans hB b1.size) _ _ _ _ m1.bs (by omega))
  clear hkk
  have B1 := hide (Fs.same (S := wf g ao) b1)
  clear m1 b1 cA
  go_wp2_with fail
  refine (unhide C).mono ?_
  rintro e w2 ⟨rfl, ao2, n2, c2, ho, hb⟩
  have HO := hide ho
  have HB := hide hb
  clear ho hb C
  go_wp2_with fail
  refine bodyPost_end (results_none rfl _ _ _) rfl ?_
  exact ⟨rfl, _, _, _, unhide HO, (unhide B1).trans (unhide HB)⟩

set_option maxHeartbeats 400000 in
theorem wended_any (B g : Nat) (w : World) (ao : Option Addr) (n c : Nat) (l : List Int) (h : Wl B g w ao n c l) (hB : B ≤ w.heap.size) (s : ByteArray) (hs : idx0 (nums s) < 0) (hn : n + s.size + 1 ≤ 1099511627776) :
    Calls Try.prog 90 #[.pointer (some ⟨g, 0, none⟩), .string s] w fun e w' => e = .returned (.tuple #[]) ∧ OutW B g w ao (l ++ (nums s ++ [0])) w' := by
  have H := hide h
  have cA := hide (appendEnded_ok none 0 0 [] s w (Bs.nought w) (by omega) hs)
  clear h hs
  go_enter Try.func90, Try.ntmps90
  go_wp2_with fail
  refine (unhide cA).mono ?_
  rintro e w1 ⟨ao1, c1, rfl, m1, b1⟩
  rw [List.nil_append] at m1
  obtain ⟨kk, hkk⟩ : ∃ kk, kk = 0 + s.size + 1 := ⟨_, rfl⟩
  rw [← hkk] at m1 ⊢
  have C := hide (raw_any B g w1 ao n c l ((unhide H).later b1) (Nat.le_trans hB b1.size) _ _ _ _ m1.bs (by omega))
  clear hkk
  have B1 := hide (Fs.same (S := wf g ao) b1)
  clear m1 b1 cA
  go_wp2_with fail
  refine (unhide C).mono ?_
  rintro e w2 ⟨rfl, ao2, n2, c2, ho, hb⟩
  have HO := hide ho
  have HB := hide hb
  clear ho hb C
  go_wp2_with fail
  refine bodyPost_end (results_none rfl _ _ _) rfl ?_
  exact ⟨rfl, _, _, _, unhide HO, (unhide B1).trans (unhide HB)⟩

set_option maxHeartbeats 400000 in
theorem wtext_any (B g : Nat) (w : World) (ao : Option Addr) (n c : Nat) (l : List Int) (h : Wl B g w ao n c l) (hB : B ≤ w.heap.size) (s : ByteArray) (hn : n + s.size + 9 ≤ 1099511627776) :
    Calls Try.prog 107 #[.pointer (some ⟨g, 0, none⟩), .string s] w fun e w' => e = .returned (.tuple #[]) ∧ OutW B g w ao (l ++ (form s.size ++ nums s)) w' := by
  have H := hide h
  have cA := hide (appendText_any none 0 0 [] s w (Bs.nought w) (by omega))
  have hl := form_length_le (s.size : Int)
  clear h
  go_enter Try.func107, Try.ntmps107
  go_wp2_with fail
  refine (unhide cA).mono ?_
  rintro e w1 ⟨ao1, c1, rfl, m1, b1⟩
  rw [List.nil_append] at m1
  obtain ⟨kk, hkk⟩ : ∃ kk, kk = 0 + (form s.size).length + s.size := ⟨_, rfl⟩
  rw [← hkk] at m1 ⊢
  have C := hide (raw_any B g w1 ao n c l ((unhide H).later b1) (Nat.le_trans hB b1.size) _ _ _ _ m1.bs (by omega))
  clear hkk
  have B1 := hide (Fs.same (S := wf g ao) b1)
  clear m1 b1 cA
  go_wp2_with fail
  refine (unhide C).mono ?_
  rintro e w2 ⟨rfl, ao2, n2, c2, ho, hb⟩
  have HO := hide ho
  have HB := hide hb
  clear ho hb C
  go_wp2_with fail
  refine bodyPost_end (results_none rfl _ _ _) rfl ?_
  exact ⟨rfl, _, _, _, unhide HO, (unhide B1).trans (unhide HB)⟩

set_option maxHeartbeats 400000 in
theorem wshort_any (B g : Nat) (w : World) (ao : Option Addr) (n c : Nat) (l : List Int) (h : Wl B g w ao n c l) (hB : B ≤ w.heap.size) (fo : Option Addr) (fn fc : Nat) (f : List Int) (hf : Bs w fo fn fc f) (hfo : fn = 0 ∨ ∀ k, ob fo k → k < B) (hfn : fn ≤ 255) (hn : n + fn + 1 ≤ 1099511627776) :
    Calls Try.prog 108 #[.pointer (some ⟨g, 0, none⟩), .slice fo fn fc] w fun e w' => e = .returned (.tuple #[]) ∧ OutW B g w ao (l ++ ((fn : Int) :: f)) w' := by
  have cM := hide (wmark_any B g w ao n c l h hB (fn : Int) (by omega) (by omega) (by omega))
  have H := hide h
  have HF := hide hf
  have hln := h.own.len
  clear h hf
  go_enter Try.func108, Try.ntmps108
  go_wp2_with fail
  refine (unhide cM).mono ?_
  rintro e w1 ⟨rfl, ao1, n1, c1, h1, f1⟩
  have b1 := (unhide H).below hB f1
  have hl1 := h1.own.len
  simp at hl1
  have hf1 : Bs w1 fo fn fc f := by
    rcases hfo with h0 | h0
    · exact ⟨(unhide HF).len, (unhide HF).le, (unhide HF).max, (unhide HF).nil, (unhide HF).byt, .inl h0⟩
    · exact (unhide HF).keepB fun k hk hl => b1.block k (h0 k hk)
  have C := hide (raw_any B g w1 ao1 n1 c1 _ h1 (Nat.le_trans hB b1.size) fo fn fc f hf1 (by omega))
  have B1 := hide f1
  clear h1 b1 f1 cM hf1
  rw [List.append_assoc] at C
  go_wp2_with fail
  refine (unhide C).mono ?_
  rintro e w2 ⟨rfl, ao2, n2, c2, ho, hb⟩
  have HO := hide ho
  have HB := hide hb
  clear ho hb C
  go_wp2_with fail
  refine bodyPost_end (results_none rfl _ _ _) rfl ?_
  exact ⟨rfl, _, _, _, unhide HO, (unhide B1).trans (unhide HB)⟩

end Go.Proofs.Ytkijdkbkbelliaa
