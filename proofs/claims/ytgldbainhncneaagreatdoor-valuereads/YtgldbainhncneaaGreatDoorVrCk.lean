/-
  The document's own answer for values: a time of day, read field by field. It changes the fields alone. Conditions: the bytes can be read.
-/
import Derived.Test.YtgldbainhncneaaGreatDoorVaFd
import Derived.Test.YtgldbainhncneaaGreatDoorVrLeaf
import Derived.Test.YtgldbainhncneaaGreatDoorClRow
namespace Go.Proofs.YtgldbainhncneaaGreatDoor
open Go.RowKit
set_option linter.unusedVariables false
set_option linter.unusedSimpArgs false

/-- Two moments of one's own in the blocks A and B, beside the fields in block g. -/
structure Wq (w0 : World) (g A B : Nat) (ca cb : Array Value) (s : FS) (w : World) : Prop where
  d : Dx g w s
  a : w.heap[A]? = some (.cells ca 30 (0, 0))
  b : w.heap[B]? = some (.cells cb 30 (0, 0))
  o : Gb g w0 w
  lt : g < w0.heap.size
  hA : w0.heap.size ≤ A
  hB : w0.heap.size ≤ B
  ne : A ≠ B
theorem gb_up {g : Nat} {w0 w w' : World} (h : Gb g w0 w) (b : Below w.heap.size w w') : Gb g w0 w' :=
  ⟨b.os.trans h.os, b.tape.trans h.tape, b.output.trans h.output, Nat.le_trans h.size b.size, fun k hk hg => (b.block k (Nat.lt_of_lt_of_le hk h.size)).trans (h.block k hk hg)⟩
theorem gb_own {g k : Nat} {w0 w : World} (h : Gb g w0 w) (hk : w0.heap.size ≤ k) (i : Nat) (v : Value) : Gb g w0 (w.setCell ⟨k, i, none⟩ v) :=
  ⟨h.os, h.tape, h.output, by simpa using h.size, fun j hj hg => (heap_setCell_other w ⟨k, i, none⟩ j v (show j ≠ k by omega)).trans (h.block j hj hg)⟩
section
variable {w0 : World} {g A B : Nat} {ca cb : Array Value} {s s' : FS} {w w' : World}
theorem Wq.call (h : Wq w0 g A B ca cb s w) (q : OutY g w s' w') : Wq w0 g A B ca cb s' w' :=
  have h1 := h.lt
  have h2 := h.hA
  have h3 := h.hB
  ⟨q.1, (q.2.block _ (Array.getElem?_eq_some_iff.1 h.a).1 (by omega)).trans h.a, (q.2.block _ (Array.getElem?_eq_some_iff.1 h.b).1 (by omega)).trans h.b, h.o.trans q.2, h.lt, h.hA, h.hB, h.ne⟩
theorem Wq.later (h : Wq w0 g A B ca cb s w) (q : Below w.heap.size w w') : Wq w0 g A B ca cb s w' :=
  ⟨h.d.later q, vrow_later h.a q, vrow_later h.b q, gb_up h.o q, h.lt, h.hA, h.hB, h.ne⟩
theorem dx_own {k : Nat} (h : Dx g w s) (hk : g < k) (i : Nat) (v : Value) : Dx g (w.setCell ⟨k, i, none⟩ v) s :=
  h.above ⟨rfl, rfl, rfl, by simp, fun j hj => heap_setCell_other w ⟨k, i, none⟩ j v (show j ≠ k by omega)⟩
theorem Wq.stA (h : Wq w0 g A B ca cb s w) (i : Nat) (v : Value) {ca' : Array Value} (hc : ca.setIfInBounds i v = ca') : Wq w0 g A B ca' cb s (w.setCell ⟨A, i, none⟩ v) :=
  ⟨dx_own h.d (Nat.lt_of_lt_of_le h.lt h.hA) i v, by rw [← hc]; exact heap_setCell_same _ _ i _ _ _ h.a, (heap_setCell_other w ⟨A, i, none⟩ _ v h.ne.symm).trans h.b, gb_own h.o h.hA i v, h.lt, h.hA, h.hB, h.ne⟩
theorem Wq.stB (h : Wq w0 g A B ca cb s w) (i : Nat) (v : Value) {cb' : Array Value} (hc : cb.setIfInBounds i v = cb') : Wq w0 g A B ca cb' s (w.setCell ⟨B, i, none⟩ v) :=
  ⟨dx_own h.d (Nat.lt_of_lt_of_le h.lt h.hB) i v, (heap_setCell_other w ⟨B, i, none⟩ _ v h.ne).trans h.a, by rw [← hc]; exact heap_setCell_same _ _ i _ _ _ h.b, gb_own h.o h.hB i v, h.lt, h.hA, h.hB, h.ne⟩
theorem Wq.fa (h : Wq w0 g A B ca cb s w) (i : Nat) : w.frozen? ⟨A, i, none⟩ = false := frozen_of_row w _ i _ _ h.a
theorem Wq.fb (h : Wq w0 g A B ca cb s w) (i : Nat) : w.frozen? ⟨B, i, none⟩ = false := frozen_of_row w _ i _ _ h.b
end
theorem Wq.new {g : Nat} {s : FS} {w : World} (h : Dx g w s) (ca cb : Array Value) : Wq w g w.heap.size (w.heap.size + 1) ca cb s ((w.alloc (.cells ca 30)).alloc (.cells cb 30)) := by
  have b1 := below_alloc w (.cells ca 30)
  have b2 := below_alloc (w.alloc (.cells ca 30)) (.cells cb 30)
  have r2 := heap_alloc_new (w.alloc (.cells ca 30)) (.cells cb 30)
  rw [show (w.alloc (.cells ca 30)).heap.size = w.heap.size + 1 by simp] at r2
  exact ⟨(h.later b1).later b2, vrow_later (heap_alloc_new w _) b2, r2, gb_up (gb_up (Gb.refl g w) b1) b2, h.lt, Nat.le_refl _, Nat.le_succ _, by omega⟩
/-- Whole structs: loaded, stored. -/
theorem whC_size (v : Wh) : (Tryz.prog.info? 30).map (·.size) = some (whC v).size := by
  have h : (Tryz.prog.info? 30).map (·.size) = some 8 := by kernel_rfl
  rw [h]
  rfl
theorem whC_one (v : Wh) : (whC v).all (·.oneCell') = true := by simp [whC, Value.oneCell']
theorem gb_row {w0 w w1 : World} {g K : Nat} (h : Gb g w0 w) (h2 : Gb K w w1) (hK : w0.heap.size ≤ K) : Gb g w0 w1 :=
  ⟨h2.os.trans h.os, h2.tape.trans h.tape, h2.output.trans h.output, Nat.le_trans h.size h2.size, fun k hk hg => (h2.block k (Nat.lt_of_lt_of_le hk h.size) (by omega)).trans (h.block k hk hg)⟩
theorem Wq.rowB {w0 : World} {g A B : Nat} {ca cb cb' : Array Value} {s : FS} {w w1 : World} (h : Wq w0 g A B ca cb s w) (h1 : w1.heap[B]? = some (.cells cb' 30 (0, 0))) (h2 : Gb B w w1) : Wq w0 g A B ca cb' s w1 :=
  have q1 := h.lt
  have q2 := h.hB
  have q3 := h.d.lt
  ⟨h.d.above ⟨h2.os, h2.tape, h2.output, h2.size, fun j hj => h2.block j (by omega) (by omega)⟩, (h2.block _ (Array.getElem?_eq_some_iff.1 h.a).1 h.ne).trans h.a, h1, gb_row h.o h2 h.hB, h.lt, h.hA, h.hB, h.ne⟩
theorem Wq.rowA {w0 : World} {g A B : Nat} {ca cb ca' : Array Value} {s : FS} {w w1 : World} (h : Wq w0 g A B ca cb s w) (h1 : w1.heap[A]? = some (.cells ca' 30 (0, 0))) (h2 : Gb A w w1) : Wq w0 g A B ca' cb s w1 :=
  have q1 := h.lt
  have q2 := h.hA
  have q3 := h.d.lt
  ⟨h.d.above ⟨h2.os, h2.tape, h2.output, h2.size, fun j hj => h2.block j (by omega) (by omega)⟩, h1, (h2.block _ (Array.getElem?_eq_some_iff.1 h.b).1 h.ne.symm).trans h.b, gb_row h.o h2 h.hA, h.lt, h.hA, h.hB, h.ne⟩
def ck3 (s : FS) : FS := fxS (fxS (fxS s 1) 1) 1
def ckS (s : FS) (m : Bool) : FS := if m = true then fxS (ck3 s) 4 else ck3 s
def ckO (s : FS) (v : Wh) (m : Bool) : Wh := { v with h := fxA s 1, mi := fxA (fxS s 1) 1, s := fxA (fxS (fxS s 1) 1) 1, mc := if m = true then fxA (ck3 s) 4 else v.mc }

set_option maxHeartbeats 2000000 in
set_option maxRecDepth 100000 in
theorem clockOf_ref (g : Nat) (s0 : FS) (v : Wh) (mb : Bool) (w : World) (hd : Dx g w s0) : Calls Tryz.prog 64 #[.pointer (some ⟨g, 0, none⟩), .agg (whC v), .bool mb] w fun e w' => e = .returned (.agg (whC (ckO s0 v mb))) ∧ OutY g w (ckS s0 mb) w' := by
  have hg0 := hd.lt
  obtain ⟨RES, hRES⟩ : ∃ z, z = whC (ckO s0 v mb) := ⟨_, rfl⟩
  obtain ⟨SR, hSR⟩ : ∃ z, z = ckS s0 mb := ⟨_, rfl⟩
  rw [← hRES, ← hSR]
  have HR := hide hRES
  have HS := hide hSR
  unfold ckO at HR
  unfold ckS at HS
  have SZ := hide whC_size
  clear hRES hSR
  obtain ⟨ng, y, mo, d, h, mi, s, mc⟩ := v
  simp only at HR
  unfold whC ck3 at HR
  unfold ck3 at HS
  unfold whC
  simp only at HR ⊢
  have W0 := hide (Wq.new hd #[.bool ng, .int .i64 y, .int .i64 mo, .int .i64 d, .int .i64 h, .int .i64 mi, .int .i64 s, .int .i64 mc] #[.bool false, .int .i64 0, .int .i64 0, .int .i64 0, .int .i64 0, .int .i64 0, .int .i64 0, .int .i64 0])
  clear hd
  go_enter Tryz.func64, Tryz.ntmps64
  go_wp2_with fail
  refine (byte_dx _ _ _ (unhide W0).d).mono ?_
  rintro e w1 ⟨⟨rfl, a1, c1⟩, o1⟩
  have W1c := (unhide W0).call o1
  obtain ⟨x1, hx1⟩ : ∃ z, z = fxA s0 1 := ⟨_, rfl⟩
  obtain ⟨s1, hs1⟩ : ∃ z, z = fxS s0 1 := ⟨_, rfl⟩
  rw [← hx1] at a1 c1 ⊢
  rw [← hs1] at W1c
  try rw [← hx1] at HR
  try rw [← hs1] at HR
  try rw [← hs1] at HS
  have wx1 : wrap64 x1 = x1 := by unfold wrap64; omega
  have wy1 : IntKind.i64.wrap x1 = x1 := by rw [IntKind.wrap_i64]; omega
  have fz := W1c.fa 4
  have kz := vrow_cell W1c.a (j := 4) (v := .int .i64 h) rfl
  have W1 := hide (W1c.stA 4 (.int .i64 x1) (ca' := #[.bool ng, .int .i64 y, .int .i64 mo, .int .i64 d, .int .i64 x1, .int .i64 mi, .int .i64 s, .int .i64 mc]) rfl)
  clear W1c W0 o1 hx1 hs1
  go_wp2_with fail
  clear fz kz
  refine (byte_dx _ _ _ (unhide W1).d).mono ?_
  rintro e w2 ⟨⟨rfl, a2, c2⟩, o2⟩
  have W2c := (unhide W1).call o2
  obtain ⟨x2, hx2⟩ : ∃ z, z = fxA s1 1 := ⟨_, rfl⟩
  obtain ⟨s2, hs2⟩ : ∃ z, z = fxS s1 1 := ⟨_, rfl⟩
  rw [← hx2] at a2 c2 ⊢
  rw [← hs2] at W2c
  try rw [← hx2] at HR
  try rw [← hs2] at HR
  try rw [← hs2] at HS
  have wx2 : wrap64 x2 = x2 := by unfold wrap64; omega
  have wy2 : IntKind.i64.wrap x2 = x2 := by rw [IntKind.wrap_i64]; omega
  have fz := W2c.fa 5
  have kz := vrow_cell W2c.a (j := 5) (v := .int .i64 mi) rfl
  have W2 := hide (W2c.stA 5 (.int .i64 x2) (ca' := #[.bool ng, .int .i64 y, .int .i64 mo, .int .i64 d, .int .i64 x1, .int .i64 x2, .int .i64 s, .int .i64 mc]) rfl)
  clear W2c W1 o2 hx2 hs2
  go_wp2_with fail
  clear fz kz
  refine (byte_dx _ _ _ (unhide W2).d).mono ?_
  rintro e w3 ⟨⟨rfl, a3, c3⟩, o3⟩
  have W3c := (unhide W2).call o3
  obtain ⟨x3, hx3⟩ : ∃ z, z = fxA s2 1 := ⟨_, rfl⟩
  obtain ⟨s3, hs3⟩ : ∃ z, z = fxS s2 1 := ⟨_, rfl⟩
  rw [← hx3] at a3 c3 ⊢
  rw [← hs3] at W3c
  try rw [← hx3] at HR
  try rw [← hs3] at HR
  try rw [← hs3] at HS
  have wx3 : wrap64 x3 = x3 := by unfold wrap64; omega
  have wy3 : IntKind.i64.wrap x3 = x3 := by rw [IntKind.wrap_i64]; omega
  have fz := W3c.fa 6
  have kz := vrow_cell W3c.a (j := 6) (v := .int .i64 s) rfl
  have W3 := hide (W3c.stA 6 (.int .i64 x3) (ca' := #[.bool ng, .int .i64 y, .int .i64 mo, .int .i64 d, .int .i64 x1, .int .i64 x2, .int .i64 x3, .int .i64 mc]) rfl)
  clear W3c W2 o3 hx3 hs3
  skip
  cases mb
  · have SE := hide (show (Tryz.prog.info? 30).map (·.size) = some (#[.bool ng, .int .i64 y, .int .i64 mo, .int .i64 d, .int .i64 x1, .int .i64 x2, .int .i64 x3, .int .i64 mc] : Array Value).size by kernel_rfl)
    have SO := hide (show (#[.bool ng, .int .i64 y, .int .i64 mo, .int .i64 d, .int .i64 x1, .int .i64 x2, .int .i64 x3, .int .i64 mc] : Array Value).all (·.oneCell') = true by simp [Value.oneCell'])
    go_wp2_with (first | (with_reducible show wpList Tryz.prog _ _ (Oper.mk _ (Op.load 30 _) _ _ _ none :: _) _ _; refine wpList_load_row rfl _ (.tmp 4) rfl w.heap.size (by simp [Act.eval, Act.put]) _ #[.bool ng, .int .i64 y, .int .i64 mo, .int .i64 d, .int .i64 x1, .int .i64 x2, .int .i64 x3, .int .i64 mc] (0, 0) _ (unhide W3).a Tryz.underlying30 rfl (unhide SE) ?_) | (with_reducible show wpList Tryz.prog _ _ (Oper.mk _ (Op.store 30 _ _) _ _ _ none :: _) _ _; refine wpList_stG rfl _ (.tmp 6) (.tmp 24) rfl (w.heap.size + 1) #[.bool ng, .int .i64 y, .int .i64 mo, .int .i64 d, .int .i64 x1, .int .i64 x2, .int .i64 x3, .int .i64 mc] #[.bool false, .int .i64 0, .int .i64 0, .int .i64 0, .int .i64 0, .int .i64 0, .int .i64 0, .int .i64 0] (by simp [Act.eval, Act.put]) (by simp [Act.eval, Act.put]) (unhide W3).b (unhide SE) rfl (unhide SO) ?_; intro wS rS gS zS; have WS := hide ((unhide W3).rowB rS gS); clear rS gS zS))
    refine bodyPost_ret (results_cell_row rfl _ _ (w.heap.size + 1) _ _ _ _ rfl (unhide WS).b Tryz.underlying30 rfl (unhide SE)) rfl ?_
    rw [unhide HR, unhide HS]
    exact ⟨rfl, (unhide WS).d, (unhide WS).o⟩
  · go_wp2_with fail
    clear fz kz
    refine (fixed_dx _ _ _ 4 4 4294967296 rfl (by omega) (by omega) (by decide) (unhide W3).d).mono ?_
    rintro e w4 ⟨⟨rfl, a4, c4⟩, o4⟩
    have W4c := (unhide W3).call o4
    obtain ⟨x4, hx4⟩ : ∃ z, z = fxA s3 4 := ⟨_, rfl⟩
    obtain ⟨s4, hs4⟩ : ∃ z, z = fxS s3 4 := ⟨_, rfl⟩
    rw [← hx4] at a4 c4 ⊢
    rw [← hs4] at W4c
    try rw [← hx4] at HR
    try rw [← hs4] at HR
    try rw [← hs4] at HS
    have wx4 : wrap64 x4 = x4 := by unfold wrap64; omega
    have wy4 : IntKind.i64.wrap x4 = x4 := by rw [IntKind.wrap_i64]; omega
    have fz := W4c.fa 7
    have kz := vrow_cell W4c.a (j := 7) (v := .int .i64 mc) rfl
    have W4 := hide (W4c.stA 7 (.int .i64 x4) (ca' := #[.bool ng, .int .i64 y, .int .i64 mo, .int .i64 d, .int .i64 x1, .int .i64 x2, .int .i64 x3, .int .i64 x4]) rfl)
    clear W4c W3 o4 hx4 hs4
    skip
    have SE := hide (show (Tryz.prog.info? 30).map (·.size) = some (#[.bool ng, .int .i64 y, .int .i64 mo, .int .i64 d, .int .i64 x1, .int .i64 x2, .int .i64 x3, .int .i64 x4] : Array Value).size by kernel_rfl)
    have SO := hide (show (#[.bool ng, .int .i64 y, .int .i64 mo, .int .i64 d, .int .i64 x1, .int .i64 x2, .int .i64 x3, .int .i64 x4] : Array Value).all (·.oneCell') = true by simp [Value.oneCell'])
    go_wp2_with (first | (with_reducible show wpList Tryz.prog _ _ (Oper.mk _ (Op.load 30 _) _ _ _ none :: _) _ _; refine wpList_load_row rfl _ (.tmp 4) rfl w.heap.size (by simp [Act.eval, Act.put]) _ #[.bool ng, .int .i64 y, .int .i64 mo, .int .i64 d, .int .i64 x1, .int .i64 x2, .int .i64 x3, .int .i64 x4] (0, 0) _ (unhide W4).a Tryz.underlying30 rfl (unhide SE) ?_) | (with_reducible show wpList Tryz.prog _ _ (Oper.mk _ (Op.store 30 _ _) _ _ _ none :: _) _ _; refine wpList_stG rfl _ (.tmp 6) (.tmp 24) rfl (w.heap.size + 1) #[.bool ng, .int .i64 y, .int .i64 mo, .int .i64 d, .int .i64 x1, .int .i64 x2, .int .i64 x3, .int .i64 x4] #[.bool false, .int .i64 0, .int .i64 0, .int .i64 0, .int .i64 0, .int .i64 0, .int .i64 0, .int .i64 0] (by simp [Act.eval, Act.put]) (by simp [Act.eval, Act.put]) (unhide W4).b (unhide SE) rfl (unhide SO) ?_; intro wS rS gS zS; have WS := hide ((unhide W4).rowB rS gS); clear rS gS zS))
    refine bodyPost_ret (results_cell_row rfl _ _ (w.heap.size + 1) _ _ _ _ rfl (unhide WS).b Tryz.underlying30 rfl (unhide SE)) rfl ?_
    rw [unhide HR, unhide HS]
    exact ⟨rfl, (unhide WS).d, (unhide WS).o⟩


end Go.Proofs.YtgldbainhncneaaGreatDoor
