/-
  What take of the reader of commands leaves, and what Read returns. Conditions: the slice can be read; at most 2 to the 40 bytes.
-/
import Derived.Test.YtpidlfifipgadaaDoorCmRd
import Derived.Deep.CutRange
import Derived.Deep.DeepCutAuto
namespace Go.Proofs.YtpidlfifipgadaaDoor
open Go.RowKit
set_option linter.unusedVariables false
set_option linter.unusedSimpArgs false

/-- A field is read. -/
def tkP (x : FS × Cm) (F : Int) : FS × Cm :=
  if F = 0 then (reS x.1, { x.2 with t := strOfNums (reA x.1) }) else if F = 1 then (fxS x.1 4, { x.2 with s := fxA x.1 4 }) else if F = 2 then (fxS x.1 2, { x.2 with p := fxA x.1 2 })
  else if F = 3 then (waS (fxS x.1 1) (decide (fxA x.1 1 ≤ 1)), { x.2 with f := fxA x.1 1 }) else if F = 4 then (waS (fxS x.1 4) (fxA x.1 4 == 1), x.2)
  else if F = 5 then (fxS x.1 4, { x.2 with n := fxA x.1 4 }) else if F = 6 then (fxS x.1 2, { x.2 with o := fxA x.1 2 }) else if F = 7 then (reS x.1, { x.2 with d := reA x.1 }) else x
/-- A command of a kind, with nothing else. -/
def cm0 (k : Int) : Cm := ⟨k, ⟨#[]⟩, 0, 0, 0, 0, 0, []⟩
/-- All that is read. -/
def rdQ (b : List Int) : FS × Cm := (fl (fxA ⟨b, 0⟩ 1)).foldl tkP (fxS ⟨b, 0⟩ 1, cm0 (fxA ⟨b, 0⟩ 1))
/-- Read: the command, the error. -/
def rdP (b : List Int) : Cm × Int := if (edS (rdQ b).1).e = 0 then ((rdQ b).2, 0) else (cm0 0, (edS (rdQ b).1).e)

/-- The reader in block g is in the state s. -/
def Fx (g : Nat) (w : World) (s : FS) : Prop := (∃ bo bn bc, Fl g w bo bn bc s) ∧ s.b.length ≤ 1099511627776
theorem Fx.lt {g : Nat} {w : World} {s : FS} (h : Fx g w s) : g < w.heap.size := by obtain ⟨⟨bo, bn, bc, h1⟩, _⟩ := h; exact h1.lt
theorem Fx.above {g : Nat} {w w' : World} {s : FS} (h : Fx g w s) (hb : Below (g + 1) w w') : Fx g w' s := by obtain ⟨⟨bo, bn, bc, h1⟩, h2⟩ := h; exact ⟨⟨bo, bn, bc, h1.above hb⟩, h2⟩
theorem Fx.later {g : Nat} {w w' : World} {s : FS} (h : Fx g w s) (hb : Below w.heap.size w w') : Fx g w' s := h.above (hb.mono h.lt)
theorem Fx.c1 {g : Nat} {w : World} {s : FS} (h : Fx g w s) : w.cell? ⟨g, 1, none⟩ = some (.int .i64 s.e) := by obtain ⟨⟨bo, bn, bc, h1⟩, _⟩ := h; exact h1.c1
theorem Fx.byt {g : Nat} {w : World} {s : FS} (h : Fx g w s) : Byt s.b := by obtain ⟨⟨bo, bn, bc, h1⟩, _⟩ := h; exact h1.bs.byt

theorem paS_le (s : FS) (n : Nat) (e : Int) : (paS s n e).b.length ≤ s.b.length := by unfold paS; split <;> simp
theorem waS_b (s : FS) (x : Bool) : (waS s x).b = s.b := by unfold waS; split <;> rfl
theorem waS_le (s : FS) (x : Bool) : (waS s x).b.length ≤ s.b.length := by rw [waS_b]; exact Nat.le_refl _
theorem fxS_le (s : FS) (n : Nat) : (fxS s n).b.length ≤ s.b.length := by unfold fxS; split; exact paS_le _ _ _; exact Nat.le_refl _
theorem reS_le (s : FS) : (reS s).b.length ≤ s.b.length := by unfold reS; split; exact Nat.zero_le _; exact Nat.le_refl _

/-- The command c lies in block h. -/
def Cx (h : Nat) (w : World) (c : Cm) : Prop := ∃ xo xn xc, w.heap[h]? = some (.cells (c.cd xo xn xc).row 26 (0, 0)) ∧ Bs w xo xn xc c.d ∧ ∀ k, ob xo k → h < k
theorem Cx.lt {h : Nat} {w : World} {c : Cm} (x : Cx h w c) : h < w.heap.size := by obtain ⟨_, _, _, e, _⟩ := x; exact (Array.getElem?_eq_some_iff.1 e).1
theorem Cx.keep {h : Nat} {w w' : World} {c : Cm} (x : Cx h w c) (hk : ∀ k, h ≤ k → k < w.heap.size → w'.heap[k]? = w.heap[k]?) : Cx h w' c := by
  have hl := x.lt
  obtain ⟨xo, xn, xc, e, hb, ho⟩ := x
  exact ⟨xo, xn, xc, (hk h (Nat.le_refl _) hl).trans e, hb.keepB fun k hk' hl' => hk k (Nat.le_of_lt (ho k hk')) hl', ho⟩
theorem Cx.gb {g h : Nat} {w w' : World} {c : Cm} (x : Cx h w c) (hg : g < h) (b : Gb g w w') : Cx h w' c := x.keep fun k hk hl => b.block k hl (by omega)
theorem Cx.later {h : Nat} {w w' : World} {c : Cm} (x : Cx h w c) (b : Below w.heap.size w w') : Cx h w' c := x.keep fun k hk hl => b.block k hl
/-- The two blocks of a read. -/
def two (g h k : Nat) : Prop := k = g ∨ k = h
theorem Fs.gb2 {g h : Nat} {w w' : World} (b : Gb g w w') : Fs (two g h) w (two g h) w' := Fs.gb b (.inl rfl)
/-- What take leaves. -/
def OutT (g h : Nat) (w : World) (x : FS × Cm) (w' : World) : Prop := Fx g w' x.1 ∧ Cx h w' x.2 ∧ Fs (two g h) w (two g h) w'
/-- A number is put into the command's block. -/
theorem OutT.num {g h : Nat} {w w1 : World} {s1 : FS} {c c' : Cm} (hgh : g < h) (hx : Fx g w1 s1) (hc : Cx h w1 c) (f : Fs (two g h) w (two g h) w1) (i : Nat) (v : Value)
    (hd : c'.d = c.d) (hr : ∀ xo xn xc, (c.cd xo xn xc).row.setIfInBounds i v = (c'.cd xo xn xc).row) : OutT g h w (s1, c') (w1.setCell ⟨h, i, none⟩ v) := by
  refine ⟨hx.above ((Below.refl _ _).setCell (by simp; omega) _), ?_, f.set (.inr rfl) _ _⟩
  obtain ⟨xo, xn, xc, e, hb, ho⟩ := hc
  refine ⟨xo, xn, xc, by rw [heap_setCell_same w1 h i _ _ _ e, hr], ?_, ho⟩
  rw [hd]
  exact hb.keepB fun k hk hl => heap_setCell_other w1 ⟨h, i, none⟩ k v (by have := ho k hk; simp; omega)
/-- Its Data is put there. -/
theorem OutT.dat {g h : Nat} {w w1 : World} {s1 : FS} {c : Cm} {yo : Option Addr} {yn yc : Nat} {l : List Int} (hgh : g < h) (hx : Fx g w1 s1) (hc : Cx h w1 c) (f : Fs (two g h) w (two g h) w1) (hb : Bs w1 yo yn yc l) (ho : ∀ k, ob yo k → h < k) :
    OutT g h w (s1, { c with d := l }) (w1.setCell ⟨h, 7, none⟩ (.slice yo yn yc)) := by
  refine ⟨hx.above ((Below.refl _ _).setCell (by simp; omega) _), ?_, f.set (.inr rfl) _ _⟩
  obtain ⟨xo, xn, xc, e, _, _⟩ := hc
  refine ⟨yo, yn, yc, by rw [heap_setCell_same w1 h 7 _ _ _ e]; rfl, ?_, ho⟩
  exact hb.keepB fun k hk hl => heap_setCell_other w1 ⟨h, 7, none⟩ k _ (by have := ho k hk; simp; omega)

set_option maxHeartbeats 2000000 in
set_option maxRecDepth 100000 in
theorem take_any (g h : Nat) (w : World) (s : FS) (c : Cm) (hgh : g < h) (hx : Fx g w s) (hc : Cx h w c) (F : Int) (hF : 0 ≤ F ∧ F ≤ 7) :
    Calls Tryd.prog 23 #[.pointer (some ⟨g, 0, none⟩), .pointer (some ⟨h, 0, none⟩), .int .i64 F] w fun e w' => e = .returned (.tuple #[]) ∧ OutT g h w (tkP (s, c) F) w' := by
  obtain ⟨⟨bo, bn, bc, hf⟩, hsz⟩ := id hx
  have hlen := hf.bs.len
  have HC := hide hc
  have hcase : F = 0 ∨ F = 1 ∨ F = 2 ∨ F = 3 ∨ F = 4 ∨ F = 5 ∨ F = 6 ∨ F = 7 := by omega
  clear hF hc hx
  rcases hcase with rfl | rfl | rfl | rfl | rfl | rfl | rfl | rfl
  · have cc := hide (rest_rd g w bo bn bc s hf)
    have hle1 := reS_le s
    have HT := hide (show tkP (s, c) 0 = (reS s, { c with t := strOfNums (reA s) }) from rfl)
    generalize tkP (s, c) 0 = TT at *
    generalize reS s = s1 at *
    generalize reA s = V at *
    clear hf
    go_enter Tryd.func23, Tryd.ntmps23
    go_wp2_with fail
    refine (unhide cc).mono ?_
    rintro e w1 ⟨xo, xn, xc, rfl, hb1, _, ho⟩
    have hstr := hb1.str
    clear cc hb1
    have HC1 := hide ((unhide HC).gb hgh ho.2)
    have HX1 := hide (show Fx g w1 s1 from ⟨ho.1, Nat.le_trans hle1 hsz⟩)
    have HG1 := hide ho.2
    have kc : ∃ v, w1.cell? ⟨h, 1, none⟩ = some v := by obtain ⟨_, _, _, e, _⟩ := unhide HC1; exact ⟨_, by rw [cell_of_row _ _ 1 _ _ _ e]; rfl⟩
    obtain ⟨kv, kc⟩ := kc
    have kf : w1.frozen? ⟨h, 1, none⟩ = false := by obtain ⟨_, _, _, e, _⟩ := unhide HC1; exact frozen_of_row w1 h 1 _ _ e
    clear ho
    go_wp2_with fail
    refine bodyPost_end (results_none rfl _ _ _) rfl ?_
    refine ⟨rfl, ?_⟩
    rw [unhide HT]
    exact OutT.num hgh (unhide HX1) (unhide HC1) (Fs.gb2 (unhide HG1)) 1 _ rfl (fun _ _ _ => rfl)
  · have cc := hide (fixed_out g w bo bn bc s 4 4 4294967296 rfl (by omega) (by omega) (by decide) hf)
    have hle1 := fxS_le s 4
    have HT := hide (show tkP (s, c) 1 = (fxS s 4, { c with s := fxA s 4 }) from rfl)
    generalize tkP (s, c) 1 = TT at *
    generalize fxS s 4 = s1 at *
    generalize fxA s 4 = V at *
    clear hf hlen
    go_enter Tryd.func23, Tryd.ntmps23
    go_wp2_with fail
    refine (unhide cc).mono ?_
    rintro e w1 ⟨⟨rfl, v0, v1⟩, ho⟩
    clear cc
    have HC1 := hide ((unhide HC).gb hgh ho.2)
    have HX1 := hide (show Fx g w1 s1 from ⟨ho.1, Nat.le_trans hle1 hsz⟩)
    have HG1 := hide ho.2
    have kc : ∃ v, w1.cell? ⟨h, 2, none⟩ = some v := by obtain ⟨_, _, _, e, _⟩ := unhide HC1; exact ⟨_, by rw [cell_of_row _ _ 2 _ _ _ e]; rfl⟩
    obtain ⟨kv, kc⟩ := kc
    have kf : w1.frozen? ⟨h, 2, none⟩ = false := by obtain ⟨_, _, _, e, _⟩ := unhide HC1; exact frozen_of_row w1 h 2 _ _ e
    clear ho
    go_wp2_with fail
    refine bodyPost_end (results_none rfl _ _ _) rfl ?_
    refine ⟨rfl, ?_⟩
    rw [unhide HT]
    exact OutT.num hgh (unhide HX1) (unhide HC1) (Fs.gb2 (unhide HG1)) 2 _ rfl (fun _ _ _ => rfl)
  · have cc := hide (fixed_out g w bo bn bc s 2 2 65536 rfl (by omega) (by omega) (by decide) hf)
    have hle1 := fxS_le s 2
    have HT := hide (show tkP (s, c) 2 = (fxS s 2, { c with p := fxA s 2 }) from rfl)
    generalize tkP (s, c) 2 = TT at *
    generalize fxS s 2 = s1 at *
    generalize fxA s 2 = V at *
    clear hf hlen
    go_enter Tryd.func23, Tryd.ntmps23
    go_wp2_with fail
    refine (unhide cc).mono ?_
    rintro e w1 ⟨⟨rfl, v0, v1⟩, ho⟩
    clear cc
    have HC1 := hide ((unhide HC).gb hgh ho.2)
    have HX1 := hide (show Fx g w1 s1 from ⟨ho.1, Nat.le_trans hle1 hsz⟩)
    have HG1 := hide ho.2
    have kc : ∃ v, w1.cell? ⟨h, 3, none⟩ = some v := by obtain ⟨_, _, _, e, _⟩ := unhide HC1; exact ⟨_, by rw [cell_of_row _ _ 3 _ _ _ e]; rfl⟩
    obtain ⟨kv, kc⟩ := kc
    have kf : w1.frozen? ⟨h, 3, none⟩ = false := by obtain ⟨_, _, _, e, _⟩ := unhide HC1; exact frozen_of_row w1 h 3 _ _ e
    clear ho
    go_wp2_with fail
    refine bodyPost_end (results_none rfl _ _ _) rfl ?_
    refine ⟨rfl, ?_⟩
    rw [unhide HT]
    exact OutT.num hgh (unhide HX1) (unhide HC1) (Fs.gb2 (unhide HG1)) 3 _ rfl (fun _ _ _ => rfl)
  · have cc := hide (fixed_out g w bo bn bc s 1 1 256 rfl (by omega) (by omega) (by decide) hf)
    have hle1 := fxS_le s 1
    have HT := hide (show tkP (s, c) 3 = (waS (fxS s 1) (decide (fxA s 1 ≤ 1)), { c with f := fxA s 1 }) from rfl)
    generalize tkP (s, c) 3 = TT at *
    generalize fxS s 1 = s1 at *
    generalize fxA s 1 = V at *
    clear hf hlen
    go_enter Tryd.func23, Tryd.ntmps23
    go_wp2_with fail
    refine (unhide cc).mono ?_
    rintro e w1 ⟨⟨rfl, v0, v1⟩, ho⟩
    clear cc
    have HC1 := hide ((unhide HC).gb hgh ho.2)
    have HX1 := hide (show Fx g w1 s1 from ⟨ho.1, Nat.le_trans hle1 hsz⟩)
    have HG1 := hide ho.2
    have kc : ∃ v, w1.cell? ⟨h, 4, none⟩ = some v := by obtain ⟨_, _, _, e, _⟩ := unhide HC1; exact ⟨_, by rw [cell_of_row _ _ 4 _ _ _ e]; rfl⟩
    obtain ⟨kv, kc⟩ := kc
    have kf : w1.frozen? ⟨h, 4, none⟩ = false := by obtain ⟨_, _, _, e, _⟩ := unhide HC1; exact frozen_of_row w1 h 4 _ _ e
    clear ho
    have HO2 := hide (show OutT g h w (s1, { c with f := V }) (w1.setCell ⟨h, 4, none⟩ (.int .u8 V)) from OutT.num hgh (unhide HX1) (unhide HC1) (Fs.gb2 (unhide HG1)) 4 _ rfl (fun _ _ _ => rfl))
    have cw := hide (want_out g (w1.setCell ⟨h, 4, none⟩ (.int .u8 V)) (unhide HO2).1.1.choose (unhide HO2).1.1.choose_spec.choose (unhide HO2).1.1.choose_spec.choose_spec.choose s1 (decide (V ≤ 1)) (unhide HO2).1.1.choose_spec.choose_spec.choose_spec)
    go_wp2_with fail
    refine (unhide cw).mono ?_
    rintro e w2 ⟨rfl, ho⟩
    have HO := hide ho
    clear ho cw
    go_wp2_with fail
    refine bodyPost_end (results_none rfl _ _ _) rfl ?_
    refine ⟨rfl, ?_⟩
    rw [unhide HT]
    exact ⟨⟨(unhide HO).1, Nat.le_trans (waS_le _ _) (unhide HO2).1.2⟩, (unhide HO2).2.1.gb hgh (unhide HO).2, (unhide HO2).2.2.trans (Fs.gb2 (unhide HO).2)⟩
  · have cc := hide (fixed_out g w bo bn bc s 4 4 4294967296 rfl (by omega) (by omega) (by decide) hf)
    have hle1 := fxS_le s 4
    have HT := hide (show tkP (s, c) 4 = (waS (fxS s 4) (fxA s 4 == 1), c) from rfl)
    generalize tkP (s, c) 4 = TT at *
    generalize fxS s 4 = s1 at *
    generalize fxA s 4 = V at *
    clear hf hlen
    go_enter Tryd.func23, Tryd.ntmps23
    go_wp2_with fail
    refine (unhide cc).mono ?_
    rintro e w1 ⟨⟨rfl, v0, v1⟩, ⟨bo1, bn1, bc1, hf1⟩, hg1⟩
    have cw := hide (want_out g w1 bo1 bn1 bc1 s1 (V == 1) hf1)
    have HG1 := hide hg1
    clear cc hf1 hg1
    go_wp2_with fail
    refine (unhide cw).mono ?_
    rintro e w2 ⟨rfl, ho⟩
    have HO := hide ho
    clear ho cw
    go_wp2_with fail
    refine bodyPost_end (results_none rfl _ _ _) rfl ?_
    refine ⟨rfl, ?_⟩
    rw [unhide HT]
    exact ⟨⟨(unhide HO).1, Nat.le_trans (waS_le _ _) (Nat.le_trans hle1 hsz)⟩, ((unhide HC).gb hgh (unhide HG1)).gb hgh (unhide HO).2, (Fs.gb2 (unhide HG1)).trans (Fs.gb2 (unhide HO).2)⟩
  · have cc := hide (fixed_out g w bo bn bc s 4 4 4294967296 rfl (by omega) (by omega) (by decide) hf)
    have hle1 := fxS_le s 4
    have HT := hide (show tkP (s, c) 5 = (fxS s 4, { c with n := fxA s 4 }) from rfl)
    generalize tkP (s, c) 5 = TT at *
    generalize fxS s 4 = s1 at *
    generalize fxA s 4 = V at *
    clear hf hlen
    go_enter Tryd.func23, Tryd.ntmps23
    go_wp2_with fail
    refine (unhide cc).mono ?_
    rintro e w1 ⟨⟨rfl, v0, v1⟩, ho⟩
    clear cc
    have HC1 := hide ((unhide HC).gb hgh ho.2)
    have HX1 := hide (show Fx g w1 s1 from ⟨ho.1, Nat.le_trans hle1 hsz⟩)
    have HG1 := hide ho.2
    have kc : ∃ v, w1.cell? ⟨h, 5, none⟩ = some v := by obtain ⟨_, _, _, e, _⟩ := unhide HC1; exact ⟨_, by rw [cell_of_row _ _ 5 _ _ _ e]; rfl⟩
    obtain ⟨kv, kc⟩ := kc
    have kf : w1.frozen? ⟨h, 5, none⟩ = false := by obtain ⟨_, _, _, e, _⟩ := unhide HC1; exact frozen_of_row w1 h 5 _ _ e
    clear ho
    go_wp2_with fail
    refine bodyPost_end (results_none rfl _ _ _) rfl ?_
    refine ⟨rfl, ?_⟩
    rw [unhide HT]
    exact OutT.num hgh (unhide HX1) (unhide HC1) (Fs.gb2 (unhide HG1)) 5 _ rfl (fun _ _ _ => rfl)
  · have cc := hide (fixed_out g w bo bn bc s 2 2 65536 rfl (by omega) (by omega) (by decide) hf)
    have hle1 := fxS_le s 2
    have HT := hide (show tkP (s, c) 6 = (fxS s 2, { c with o := fxA s 2 }) from rfl)
    generalize tkP (s, c) 6 = TT at *
    generalize fxS s 2 = s1 at *
    generalize fxA s 2 = V at *
    clear hf hlen
    go_enter Tryd.func23, Tryd.ntmps23
    go_wp2_with fail
    refine (unhide cc).mono ?_
    rintro e w1 ⟨⟨rfl, v0, v1⟩, ho⟩
    clear cc
    have HC1 := hide ((unhide HC).gb hgh ho.2)
    have HX1 := hide (show Fx g w1 s1 from ⟨ho.1, Nat.le_trans hle1 hsz⟩)
    have HG1 := hide ho.2
    have kc : ∃ v, w1.cell? ⟨h, 6, none⟩ = some v := by obtain ⟨_, _, _, e, _⟩ := unhide HC1; exact ⟨_, by rw [cell_of_row _ _ 6 _ _ _ e]; rfl⟩
    obtain ⟨kv, kc⟩ := kc
    have kf : w1.frozen? ⟨h, 6, none⟩ = false := by obtain ⟨_, _, _, e, _⟩ := unhide HC1; exact frozen_of_row w1 h 6 _ _ e
    clear ho
    go_wp2_with fail
    refine bodyPost_end (results_none rfl _ _ _) rfl ?_
    refine ⟨rfl, ?_⟩
    rw [unhide HT]
    exact OutT.num hgh (unhide HX1) (unhide HC1) (Fs.gb2 (unhide HG1)) 6 _ rfl (fun _ _ _ => rfl)
  · have cc := hide (rest_rd g w bo bn bc s hf)
    have hle1 := reS_le s
    have HT := hide (show tkP (s, c) 7 = (reS s, { c with d := reA s }) from rfl)
    generalize tkP (s, c) 7 = TT at *
    generalize reS s = s1 at *
    generalize reA s = V at *
    clear hf
    go_enter Tryd.func23, Tryd.ntmps23
    go_wp2_with fail
    refine (unhide cc).mono ?_
    rintro e w0 ⟨xo, xn, xc, rfl, hb1, hxn, ho⟩
    have cl := hide (clone_any xo xn xc V w0 hb1 (by omega))
    have HC0 := hide ((unhide HC).gb hgh ho.2)
    have HX0 := hide (show Fx g w0 s1 from ⟨ho.1, Nat.le_trans hle1 hsz⟩)
    have HG0 := hide ho.2
    clear cc hb1 ho
    go_wp2_with fail
    refine (unhide cl).mono ?_
    rintro e w1 ⟨yo, yc, rfl, hm, hb⟩
    have HC1 := hide ((unhide HC0).later hb)
    have HX1 := hide ((unhide HX0).later hb)
    have hlt := (unhide HC0).lt
    have HY := hide hm.bs
    have HK := hide (show ∀ k, ob yo k → h < k from fun k hk => Nat.lt_of_lt_of_le hlt (hm.ob hk).1)
    have HF := hide (show Fs (two g h) w (two g h) w1 from (Fs.gb2 (unhide HG0)).trans (Fs.of hb (fun k hk => .inl hk)))
    have kc : ∃ v, w1.cell? ⟨h, 7, none⟩ = some v := by obtain ⟨_, _, _, e, _⟩ := unhide HC1; exact ⟨_, by rw [cell_of_row _ _ 7 _ _ _ e]; rfl⟩
    obtain ⟨kv, kc⟩ := kc
    have kf : w1.frozen? ⟨h, 7, none⟩ = false := by obtain ⟨_, _, _, e, _⟩ := unhide HC1; exact frozen_of_row w1 h 7 _ _ e
    clear hm hb cl
    go_wp2_with fail
    refine bodyPost_end (results_none rfl _ _ _) rfl ?_
    refine ⟨rfl, ?_⟩
    rw [unhide HT]
    exact OutT.dat hgh (unhide HX1) (unhide HC1) (unhide HF) (unhide HY) (unhide HK)

end Go.Proofs.YtpidlfifipgadaaDoor
