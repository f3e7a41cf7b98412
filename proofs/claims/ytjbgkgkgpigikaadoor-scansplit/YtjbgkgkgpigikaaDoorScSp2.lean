/-
  What Split of package scan returns for any text: the pieces, or the first fault. Conditions: the library's variables read as they were laid.
-/
import Derived.Test.YtjbgkgkgpigikaaDoorScSpl
import Derived.Test.YtjbgkgkgpigikaaDoorScPl3
import Derived.Test.YtjbgkgkgpigikaaDoorScSg
namespace Go.Proofs.YtjbgkgkgpigikaaDoor
open Go.RowKit
set_option linter.unusedVariables false
set_option linter.unusedSimpArgs false

theorem eq_ft (f : Ft) (w : World) : (binOp .eql 26 (.agg (ftC f)) (.agg #[.int .i64 0, .int .i64 0])).run Tryd.prog w = .ok (.bool (decide (f = ok0))) w := by
  obtain ⟨e, a⟩ := f
  unfold ftC ok0
  rw [run_eql_struct, run_equalIn_agg w 9999 _ _ _ (by kernel_rfl) (by kernel_rfl)]
  simp only [Ft.mk.injEq]
  by_cases h1 : e = 0
  · by_cases h2 : a = 0
    · simp [go_sem, Tryd.underlying26, h1, h2]
    · simp [go_sem, Tryd.underlying26, h1, h2]
  · simp [go_sem, Tryd.underlying26, h1]
theorem ne_ft (f : Ft) (w : World) : (binOp .neq 26 (.agg (ftC f)) (.agg #[.int .i64 0, .int .i64 0])).run Tryd.prog w = .ok (.bool (!decide (f = ok0))) w := by
  have h := eq_ft f w
  rw [run_eql_struct] at h
  rw [run_neq_struct]
  generalize (Op.equalIn 10000 26 (.agg (ftC f)) (.agg #[.int .i64 0, .int .i64 0])).run Tryd.prog w = X at h ⊢
  cases X <;> simp_all [Result.andThen]
theorem wpList_ldT {ops : Array Oper} {rest : List Oper} {o : Oper} {a : Act} {w : World} {Q : Exit → Act → World → Prop} (hgd : o.guard = none) (x : Operand) (ho : o.op = .load 26 x)
    (g : Nat) (f : Ft) (hx : a.eval x = .pointer (some ⟨g, 0, none⟩)) (hg : Tb g f w)
    (h : wpList Tryd.prog ops Q rest (a.put o.dst (.agg (ftC f))) w) : wpList Tryd.prog ops Q (o :: rest) a w :=
  wpList_load_row hgd _ x ho g hx _ (ftC f) (0, 0) _ hg Tryd.underlying26 rfl (ftc_info f) h
theorem cell1 {w : World} {g : Nat} {T : TypeId} {v : Value} (h : w.heap[g]? = some (.cells #[v] T (0, 0))) : w.cell? ⟨g, 0, none⟩ = some v := by
  rw [cell_of_row w g 0 _ _ _ h]
  rfl
def OutP (w : World) (R : List ByteArray × Ft) (e : Ending) (w' : World) : Prop := ∃ ao n c, e = .returned (.tuple #[.slice ao n c, .agg (ftC R.2)]) ∧ TMine w.heap.size w' ao n c R.1 ∧ Below w.heap.size w w'
theorem tm_mono {B B' : Nat} {w : World} {ao : Option Addr} {n c : Nat} {ss : List ByteArray} (h : TMine B w ao n c ss) (hb : B' ≤ B) : TMine B' w ao n c ss := by
  refine ⟨h.len, ⟨h.own.1, ?_⟩, h.fit⟩
  rcases h.own.2 with hv | ⟨g, cap, cur, hv, hg, hh, r⟩
  · exact .inl hv
  · exact .inr ⟨g, cap, cur, hv, Nat.le_trans hb hg, hh, r⟩
theorem sp_end {w0 w : World} {a : Act} (R : List ByteArray × Ft) (ao : Option Addr) (n c g : Nat) (hp : a.tmps.getD 3 undef = .pointer (some ⟨g, 0, none⟩)) (h2 : a.tmps.getD 2 undef = .slice ao n c) (hd : a.defers = []) (hT : Tb g R.2 w) (hM : TMine w0.heap.size w ao n c R.1) (hb : Below w0.heap.size w0 w) :
    bodyPost Tryd.prog Tryd.f6 (fun e w' => OutP w0 R e w') .ret a w :=
  bodyPost_ret (results_tmp_cell rfl _ _ g _ hp hT.run) hd ⟨ao, n, c, by rw [h2], hM, hb⟩
/-- A word, in a block of its own. -/
def Wb (g : Nat) (x : Wd) (w : World) : Prop := w.heap[g]? = some (.cells (wdC x) 33 (0, 0))
theorem wb_c {g : Nat} {x : Wd} {w : World} (h : Wb g x w) : w.cell? ⟨g, 0, none⟩ = some (.int .i64 x.k) ∧ w.cell? ⟨g, 1, none⟩ = some (.string x.tx) ∧ w.cell? ⟨g, 2, none⟩ = some (.int .i64 x.at') := ⟨cell_of_row w g 0 _ _ _ h, cell_of_row w g 1 _ _ _ h, cell_of_row w g 2 _ _ _ h⟩
theorem wpList_alWd {ops : Array Oper} {rest : List Oper} {o : Oper} {a : Act} {w : World} {Q : Exit → Act → World → Prop} (hgd : o.guard = none) (ho : o.op = .alloc 33)
    (h : ∀ w1, Wb w.heap.size wd0 w1 → Below w.heap.size w w1 → w1.heap.size = w.heap.size + 1 → wpList Tryd.prog ops Q rest (a.put o.dst (.pointer (some ⟨w.heap.size, 0, none⟩))) w1) : wpList Tryd.prog ops Q (o :: rest) a w :=
  wpList_alN hgd _ ho (wdC wd0) Tryd.zeroValue33 h
theorem wpList_stWd {ops : Array Oper} {rest : List Oper} {o : Oper} {a : Act} {w : World} {Q : Exit → Act → World → Prop} (hgd : o.guard = none) (x y : Operand) (ho : o.op = .store 33 x y)
    (g : Nat) (f f0 : Wd) (hx : a.eval x = .pointer (some ⟨g, 0, none⟩)) (hy : a.eval y = .agg (wdC f)) (hg : Wb g f0 w)
    (h : ∀ w1, Wb g f w1 → Gb g w w1 → w1.heap.size = w.heap.size → wpList Tryd.prog ops Q rest (a.put o.dst undef) w1) : wpList Tryd.prog ops Q (o :: rest) a w :=
  wpList_stG hgd _ x y ho g (wdC f) (wdC f0) hx hy hg (wdc_info f) rfl (wdc_one f) h
theorem spF_semi (s : Bl) (x : Wd) (r : List Wd) (f n : Nat) (ps : List ByteArray) (h : x.k = 5 ∧ x.tx = ba [59]) : spF s (x :: r) f n ps = spF s r (x.at'.toNat + 1) 0 (if 0 < n then ps ++ [ba ((s.drop f).take (x.at'.toNat - f))] else ps) := by simp only [spF, if_pos h]
theorem spF_word (s : Bl) (x : Wd) (r : List Wd) (f n : Nat) (ps : List ByteArray) (h : ¬ (x.k = 5 ∧ x.tx = ba [59])) : spF s (x :: r) f n ps = spF s r f (n + 1) ps := by simp only [spF, if_neg h]
theorem spF_nil (s : Bl) (f n : Nat) (ps : List ByteArray) : spF s [] f n ps = if 0 < n then ps ++ [ba ((s.drop f).take (s.length - f))] else ps := rfl
theorem sp_word {B W P T F : Nat} {s : ByteArray} {nw f n2 : Nat} {ps : List ByteArray} {w : World} (h : Sp B W P T F s nw f ps w) (hWB : W < B) (d1 : W ≠ P) (d2 : W ≠ T) (d3 : W ≠ F) : Sp B W P T F s n2 f ps (w.setCell ⟨W, 0, none⟩ (.int .i64 (n2 : Int))) := by
  have g2 := gb_set w W 0 (.int .i64 (n2 : Int))
  obtain ⟨ao, n, c, hp, hm⟩ := h.cp
  exact ⟨set1 h.cw, by rw [heap_setCell_other _ _ _ _ (Ne.symm d2)]; exact h.ct, by rw [heap_setCell_other _ _ _ _ (Ne.symm d3)]; exact h.cf, ao, n, c, by rw [heap_setCell_other _ _ _ _ (Ne.symm d1)]; exact hp, tm_gb hm g2 hWB⟩
theorem wds_kb {B W P F : Nat} {w w' : World} {ao : Option Addr} {n c C : Nat} {l : List Wd} (h : WdMine C w ao n c l) (hb : Kb B W P F w w') (hk : ∀ k, ob ao k → k < B ∧ k ≠ W ∧ k ≠ P ∧ k ≠ F) : WdMine C w' ao n c l :=
  h.keep fun k q => by
    obtain ⟨h1, h2, h3, h4⟩ := hk k q
    exact hb.block k h1 h2 h3 h4

theorem all_ex (s : ByteArray) (w : World) (hV : Vr w) : Calls Tryd.prog 5 #[.string s] w fun e w' => ∃ ao n c, e = .returned (.tuple #[.slice ao n c, .agg (ftC (alW (bl s)).2)]) ∧ WdMine w.heap.size w' ao n c (alW (bl s)).1 ∧ Below w.heap.size w w' := all_any s w hV
theorem sp_new {B W P T F g : Nat} {s : ByteArray} {nw f : Nat} {ps : List ByteArray} {w w1 w2 : World} (h : Sp B W P T F s nw f ps w) (b : Below w.heap.size w w1) (k : Gb g w1 w2) (hg : w.heap.size ≤ g) : Sp B W P T F s nw f ps w2 := by
  have e : ∀ q, q < w.heap.size → w2.heap[q]? = w.heap[q]? := fun q hq => (k.block q (Nat.lt_of_lt_of_le hq b.size) (by omega)).trans (b.block q hq)
  have hlt : ∀ {k : Nat} {o : Obj}, w.heap[k]? = some o → k < w.heap.size := fun hh => (Array.getElem?_eq_some_iff.1 hh).1
  obtain ⟨ao, n, c, hp, hm⟩ := h.cp
  refine ⟨(e W (hlt h.cw)).trans h.cw, (e T (hlt h.ct)).trans h.ct, (e F (hlt h.cf)).trans h.cf, ao, n, c, (e P (hlt hp)).trans hp, ⟨hm.len, ⟨hm.own.1, ?_⟩, hm.fit⟩⟩
  rcases hm.own.2 with hv | ⟨q, cap, cur, hv, hq, hh, r⟩
  · exact .inl hv
  · exact .inr ⟨q, cap, cur, hv, hq, by rw [e q (hlt hh)]; exact hh, r⟩
theorem sp_start {w : World} {T N : Nat} {s : ByteArray} (hT : w.heap[T]? = some (.cells #[.string s] 9 (0, 0))) (hN : w.heap.size = N) : Sp (N + 3) (N + 2) N T (N + 1) s 0 0 [] (((w.alloc (.cells #[.slice .none 0 0] 29)).alloc (.cells #[.int .i64 0] 3)).alloc (.cells #[.int .i64 0] 3)) := by
  have hlt := (Array.getElem?_eq_some_iff.1 hT).1
  refine ⟨?_, ?_, ?_, .none, 0, 0, ?_, TMine.nought _ _⟩
  · have := heap_alloc_new ((w.alloc (.cells #[.slice .none 0 0] 29)).alloc (.cells #[.int .i64 0] 3)) (.cells #[.int .i64 0] 3)
    rwa [show ((w.alloc (.cells #[.slice .none 0 0] 29)).alloc (.cells #[.int .i64 0] 3)).heap.size = N + 2 by simp; omega] at this
  · rw [heap_alloc_old _ _ (by simp; omega), heap_alloc_old _ _ (by simp; omega), heap_alloc_old _ _ hlt]; exact hT
  · rw [heap_alloc_old _ _ (by simp; omega)]
    have := heap_alloc_new (w.alloc (.cells #[.slice .none 0 0] 29)) (.cells #[.int .i64 0] 3)
    rwa [show (w.alloc (.cells #[.slice .none 0 0] 29)).heap.size = N + 1 by simp; omega] at this
  · rw [heap_alloc_old _ _ (by simp; omega), heap_alloc_old _ _ (by simp; omega)]
    have := heap_alloc_new w (.cells #[.slice .none 0 0] 29)
    rwa [hN] at this
theorem below3 {w0 w : World} (h : Below w0.heap.size w0 w) (a b c : Obj) : Below w0.heap.size w0 (((w.alloc a).alloc b).alloc c) := bt (bt (bt h (below_alloc _ a)) (below_alloc _ b)) (below_alloc _ c)
theorem below3' (w : World) (a b c : Obj) : Below w.heap.size w (((w.alloc a).alloc b).alloc c) := bt (bt (below_alloc _ a) (below_alloc _ b)) (below_alloc _ c)
theorem below_kb {B W P F : Nat} {w0 w w' : World} (h : Below w0.heap.size w0 w) (k : Kb B W P F w w') (h1 : w0.heap.size ≤ B) (h2 : w0.heap.size ≤ W) (h3 : w0.heap.size ≤ P) (h4 : w0.heap.size ≤ F) : Below w0.heap.size w0 w' :=
  ⟨k.os.trans h.os, k.tape.trans h.tape, k.output.trans h.output, Nat.le_trans h.size k.size, fun i hi => (k.block i (by omega) (by omega) (by omega) (by omega)).trans (h.block i hi)⟩
theorem Tb.kb {B W P F g : Nat} {f : Ft} {w w' : World} (h : Tb g f w) (k : Kb B W P F w w') (h1 : g < B) (h2 : g ≠ W) (h3 : g ≠ P) (h4 : g ≠ F) : Tb g f w' := by
  unfold Tb
  rw [k.block g h1 h2 h3 h4]
  exact h

set_option maxHeartbeats 4000000 in
set_option maxRecDepth 20000 in
theorem split_any (s : ByteArray) (w : World) (hV : Vr w) : Calls Tryd.prog 6 #[.string s] w fun e w' => OutP w (spW (bl s)) e w' := by
  have HV := hide hV
  obtain ⟨RES, hR⟩ : ∃ R, R = spW (bl s) := ⟨_, rfl⟩
  rw [← hR]
  unfold spW at hR
  have hpl := alW_pl (bl s)
  rw [bl_len] at hpl
  have hwl := alW_len (bl s)
  have hbig : (alW (bl s)).2 = ok0 → s.size ≤ 2000000 := fun h => by
    by_cases q : 1048576 < s.size
    · unfold alW at h
      rw [if_pos (by rw [bl_len]; exact q)] at h
      cases h
    · omega
  have c0 := fun wx (h : Vr wx) => all_ex s wx h
  generalize alW (bl s) = AW at *
  obtain ⟨ws, ft⟩ := AW
  simp only at hR hpl hwl hbig
  have HC0 := hide c0
  change RES = if ft = ok0 then (spF (bl s) ws 0 0 [], ok0) else ([], ft) at hR
  have hne := ne_ft ft
  clear c0
  by_cases hft : ft = ok0
  · subst hft
    have hs := hbig rfl
    rw [if_pos rfl] at hR
    have HR := hide hR
    have HPL := hide hpl
    simp only [decide_true, Bool.not_true] at hne
    clear hR hpl hbig
    go_enter Tryd.func6, Tryd.ntmps6
    go_wp2_with (first | (go_at_call 5; (with_reducible refine (unhide HC0 w2 ((unhide HV).later b2)).mono ?_); rintro e w3 ⟨ao, n, c, rfl, m3, q3⟩; have r3 := r2.later q3; have b3 := bt b2 q3; have x3 := (q3.block w.heap.size (Array.getElem?_eq_some_iff.1 cx).1).trans cx) | (with_reducible show wpList Tryd.prog _ _ (Oper.mk _ (Op.alloc 26) _ _ _ none :: _) _ _; refine wpList_alT rfl rfl ?_; intro w4 f4 q4 t4; have lt4 := r3.lt; have r4 := r3.later q4; have b4 := bt b3 q4; have x4 := (q4.block w.heap.size (Array.getElem?_eq_some_iff.1 x3).1).trans x3) | (with_reducible show wpList Tryd.prog _ _ (Oper.mk _ (Op.alloc 26) _ _ _ none :: _) _ _; have cx := heap_alloc_new w (.cells #[.string s] 9); refine wpList_alT rfl rfl ?_; intro w2 r2 q2 t2; have b2 := bt (below_alloc w (.cells #[.string s] 9)) q2; have cx := (q2.block w.heap.size (Array.getElem?_eq_some_iff.1 cx).1).trans cx; have cc : w2.cell? ⟨w.heap.size, 0, none⟩ = some (.string s) := cell1 cx) | (with_reducible show wpList Tryd.prog _ _ (Oper.mk _ (Op.store 26 _ _) _ _ _ none :: _) _ _; refine wpList_stT rfl (.tmp 5) (.tmp 16) rfl _ ok0 ⟨0, 0⟩ (by simp [Act.eval, Act.put]) (by simp [Act.eval, Act.put]) f4 ?_; intro w5 f5 g5 t5; have r5 := r4.gb g5 (Nat.ne_of_lt lt4); have b5 := below_gb b4 g5 (by have := b3.size; omega); have x5 := (g5.block w.heap.size (Array.getElem?_eq_some_iff.1 x4).1 (fun h => by have h2 := (below_alloc w (.cells #[.string s] 9)).size; omega)).trans x4) | (with_reducible show wpList Tryd.prog _ _ (Oper.mk _ (Op.load 26 _) _ _ _ none :: _) _ _; refine wpList_ldT rfl (.tmp 5) rfl _ ok0 (by simp [Act.eval, Act.put]) f5 ?_))
    have hN : w5.heap.size = w3.heap.size + 1 := by omega
    have szw : (w.alloc (.cells #[.string s] 9)).heap.size = w.heap.size + 1 := by simp
    rw [szw] at r5 t2
    have hw2 := b2.size
    have hw23 := q3.size
    have S6 := sp_start x5 hN
    have B6 := below3 b5 (.cells #[.slice .none 0 0] 29) (.cells #[.int .i64 0] 3) (.cells #[.int .i64 0] 3)
    have B5 := below3' w5 (.cells #[.slice .none 0 0] 29) (.cells #[.int .i64 0] 3) (.cells #[.int .i64 0] 3)
    have HOB := hide (fun k (hk : ob ao k) => (m3.ob hk).2)
    have M6 := ((m3.later q4).keep (fun k hk => g5.block k (by have := (m3.ob hk).2; omega) (by have := (m3.ob hk).2; omega))).later B5
    have R6 := r5.later B5
    have Z6 : (((w5.alloc (.cells #[.slice .none 0 0] 29)).alloc (.cells #[.int .i64 0] 3)).alloc (.cells #[.int .i64 0] 3)).heap.size = w3.heap.size + 1 + 3 := by simp; omega
    have hnl := M6.len
    have hnle := M6.ss.le
    have hnmx := M6.ss.max
    clear m3 r3 r4 r5 f4 f5 x3 x4 x5 b3 b4 b5 q3 q4 g5 B5
    generalize (((w5.alloc (.cells #[.slice .none 0 0] 29)).alloc (.cells #[.int .i64 0] 3)).alloc (.cells #[.int .i64 0] 3)) = w6 at *
    generalize hM : w3.heap.size + 1 = N at *
    go_loopw [24] (fun iv wr => ∃ (j nw f : Nat) (ps : List ByteArray), j ≤ n ∧ iv = .int .i64 (j : Int) ∧ Sp (N + 3) (N + 2) N w.heap.size (N + 1) s nw f ps wr ∧ Tb (w.heap.size + 1) ⟨0, 0⟩ wr ∧ WdMine w2.heap.size wr ao n c ws ∧ Below w.heap.size w wr ∧ N + 3 ≤ wr.heap.size ∧ Pl f s.size (ws.drop j) ∧ f ≤ s.size ∧ ps.length ≤ j ∧ nw ≤ j ∧ (spF (bl s) (ws.drop j) f nw ps, ok0) = RES) (fun iv _ => n - (intOf iv).toNat)
    case atStart => exact ⟨0, 0, 0, [], by omega, rfl, S6, R6, M6, B6, by omega, by rw [List.drop_zero]; exact unhide HPL, by omega, by simp, by omega, by rw [List.drop_zero]; exact (unhide HR).symm⟩
    case round =>
      clear S6 R6 M6 B6 HR HPL
      obtain ⟨j, nw, f, ps, hj, rfl, hS, hR, hM6, hbw, hsz, hpl, hfs, hpsl, hnwj, hq⟩ := hrel
      have HS := hide hS
      have HM6 := hide hM6
      have HR6 := hide hR
      have HBW := hide hbw
      have HQ := hide hq
      have HPL := hide hpl
      clear hS hR hM6 hbw hq hpl
      by_cases hlt : j < n
      · have hlj : j < ws.length := by rw [hnl]; exact hlt
        have hxj : ws[j]? = some ws[j] := List.getElem?_eq_getElem hlj
        have hdr : ws.drop j = ws[j] :: ws.drop (j + 1) := List.drop_eq_getElem_cons hlj
        obtain ⟨xb, xo, hix, hat⟩ := (unhide HM6).ss.idx hxj (j : Int) rfl
        have hpl := unhide HPL
        have hq := unhide HQ
        rw [hdr] at hpl hq
        generalize ws[j] = X at *
        obtain ⟨k, tx, a⟩ := X
        obtain ⟨i, hai, hfi, his, hpl2⟩ := hpl
        simp only at hai
        subst hai
        have HPL2 := hide hpl2
        have HE := hide (fun wx (h : Sp (N + 3) (N + 2) N w.heap.size (N + 1) s nw f ps wx) (hB : N + 3 ≤ wx.heap.size) => spEnd_any (N + 3) (N + 2) N w.heap.size (N + 1) s nw f i ps wx h (by omega) (by omega) (by omega) (by omega) hB (by omega) (by omega) (by omega) (by omega) (by omega) (by omega) hfi (by omega) hs (by omega))
        clear hxj hdr hpl2
        by_cases hk : k = 5
        · subst hk
          by_cases ht : tx = ba [59]
          · subst ht
            rw [spF_semi _ _ _ _ _ _ ⟨rfl, rfl⟩] at hq
            simp only [Int.toNat_natCast] at hq
            have HQ2 := hide hq
            have hts : (ba [59]).toList = [59] := by rw [Lib.toList_data]; rfl
            clear hq HQ HPL
            go_wp2_with (first | (with_reducible show wpList Tryd.prog _ _ (Oper.mk _ (Op.alloc 33) _ _ _ none :: _) _ _; refine wpList_alWd rfl rfl ?_; intro w7 f7 q7 t7; have r7 := (unhide HR6).later q7; have m7 := (unhide HM6).later q7; have b7 := bt (unhide HBW) q7) | (with_reducible show wpList Tryd.prog _ _ (Oper.mk _ (Op.store 33 _ _) _ _ _ none :: _) _ _; refine wpList_stWd rfl (.tmp 11) (.tmp 27) rfl _ ⟨5, ba [59], (i : Int)⟩ wd0 (by simp [Act.eval, Act.put]) (by simp [Act.eval, Act.put]) f7 ?_; intro w8 f8 g8 t8; have s8 := sp_new (unhide HS) q7 g8 (Nat.le_refl _); have r8 := r7.gb g8 (by omega); have m8 := m7.keep (fun kk hk => g8.block kk (m7.ob hk).2 (by have := unhide HOB kk hk; omega)); have b8 := below_gb b7 g8 (by omega); have z8 : N + 3 ≤ w8.heap.size := (by omega); have c8 := wb_c f8; have k80 := c8.1; have k81 := c8.2.1; have k82 := c8.2.2; have cw : w8.cell? ⟨N + 2, 0, none⟩ = some (.int .i64 (nw : Int)) := cell1 s8.cw; have fw := frozen_of_row w8 (N + 2) 0 _ _ s8.cw) | (with_reducible show wpList Tryd.prog _ _ (Oper.mk _ (Op.load 33 _) _ _ _ none :: _) _ _; refine wpList_ldW rfl (.tmp 26) rfl xb xo (by simp [Act.eval, Act.put]) ⟨5, ba [59], (i : Int)⟩ hat ?_) | (go_at_call 9; (with_reducible refine (unhide HE w8 s8 z8).mono ?_); rintro e w9 ⟨rfl, sp9, kb9⟩; have r9 := r8.kb kb9 (by omega) (by omega) (by omega) (by omega); have m9 := wds_kb m8 kb9 (fun kk hk => by have := unhide HOB kk hk; omega); have b9 := below_kb b8 kb9 (by omega) (by omega) (by omega) (by omega); have z9 := Nat.le_trans z8 kb9.size))
            go_roundw
            case rel => exact ⟨j + 1, 0, i + 1, _, by omega, by go_num, sp9, r9, m9, b9, z9, unhide HPL2, by omega, by split <;> (try simp) <;> omega, by omega, unhide HQ2⟩
            case measure => simp [intOf]; omega
          · rw [spF_word _ _ _ _ _ _ (fun h => ht h.2)] at hq
            have HQ2 := hide hq
            have hts : (tx.toList == [59]) = false := by rw [ls_of]; simpa using (fun h : bl tx = [59] => ht (by rw [← ba_bl tx, h]))
            clear hq HQ HPL
            go_wp2_with (first | (with_reducible show wpList Tryd.prog _ _ (Oper.mk _ (Op.alloc 33) _ _ _ none :: _) _ _; refine wpList_alWd rfl rfl ?_; intro w7 f7 q7 t7; have r7 := (unhide HR6).later q7; have m7 := (unhide HM6).later q7; have b7 := bt (unhide HBW) q7) | (with_reducible show wpList Tryd.prog _ _ (Oper.mk _ (Op.store 33 _ _) _ _ _ none :: _) _ _; refine wpList_stWd rfl (.tmp 11) (.tmp 27) rfl _ ⟨5, tx, (i : Int)⟩ wd0 (by simp [Act.eval, Act.put]) (by simp [Act.eval, Act.put]) f7 ?_; intro w8 f8 g8 t8; have s8 := sp_new (unhide HS) q7 g8 (Nat.le_refl _); have r8 := r7.gb g8 (by omega); have m8 := m7.keep (fun kk hk => g8.block kk (m7.ob hk).2 (by have := unhide HOB kk hk; omega)); have b8 := below_gb b7 g8 (by omega); have z8 : N + 3 ≤ w8.heap.size := (by omega); have c8 := wb_c f8; have k80 := c8.1; have k81 := c8.2.1; have k82 := c8.2.2; have cw : w8.cell? ⟨N + 2, 0, none⟩ = some (.int .i64 (nw : Int)) := cell1 s8.cw; have fw := frozen_of_row w8 (N + 2) 0 _ _ s8.cw) | (with_reducible show wpList Tryd.prog _ _ (Oper.mk _ (Op.load 33 _) _ _ _ none :: _) _ _; refine wpList_ldW rfl (.tmp 26) rfl xb xo (by simp [Act.eval, Act.put]) ⟨5, tx, (i : Int)⟩ hat ?_))
            go_roundw
            case rel => exact ⟨j + 1, nw + 1, f, ps, by omega, by go_num, sp_word (n2 := nw + 1) s8 (by omega) (by omega) (by omega) (by omega), r8.gb (gb_set _ _ 0 _) (by omega), m8.keep (fun kk hk => (gb_set w8 (N + 2) 0 _).block kk (m8.ob hk).2 (by have := unhide HOB kk hk; omega)), below_gb b8 (gb_set _ _ 0 _) (by omega), by simp; omega, (unhide HPL2).low (by omega), hfs, by omega, by omega, unhide HQ2⟩
            case measure => simp [intOf]; omega
        · rw [spF_word _ _ _ _ _ _ (fun h => hk h.1)] at hq
          have HQ2 := hide hq
          have hk2 : (k == 5) = false := by simpa using hk
          clear hq HQ HPL
          go_wp2_with (first | (with_reducible show wpList Tryd.prog _ _ (Oper.mk _ (Op.alloc 33) _ _ _ none :: _) _ _; refine wpList_alWd rfl rfl ?_; intro w7 f7 q7 t7; have r7 := (unhide HR6).later q7; have m7 := (unhide HM6).later q7; have b7 := bt (unhide HBW) q7) | (with_reducible show wpList Tryd.prog _ _ (Oper.mk _ (Op.store 33 _ _) _ _ _ none :: _) _ _; refine wpList_stWd rfl (.tmp 11) (.tmp 27) rfl _ ⟨k, tx, (i : Int)⟩ wd0 (by simp [Act.eval, Act.put]) (by simp [Act.eval, Act.put]) f7 ?_; intro w8 f8 g8 t8; have s8 := sp_new (unhide HS) q7 g8 (Nat.le_refl _); have r8 := r7.gb g8 (by omega); have m8 := m7.keep (fun kk hk => g8.block kk (m7.ob hk).2 (by have := unhide HOB kk hk; omega)); have b8 := below_gb b7 g8 (by omega); have z8 : N + 3 ≤ w8.heap.size := (by omega); have c8 := wb_c f8; have k80 := c8.1; have k81 := c8.2.1; have k82 := c8.2.2; have cw : w8.cell? ⟨N + 2, 0, none⟩ = some (.int .i64 (nw : Int)) := cell1 s8.cw; have fw := frozen_of_row w8 (N + 2) 0 _ _ s8.cw) | (with_reducible show wpList Tryd.prog _ _ (Oper.mk _ (Op.load 33 _) _ _ _ none :: _) _ _; refine wpList_ldW rfl (.tmp 26) rfl xb xo (by simp [Act.eval, Act.put]) ⟨k, tx, (i : Int)⟩ hat ?_))
          go_roundw
          case rel => exact ⟨j + 1, nw + 1, f, ps, by omega, by go_num, sp_word (n2 := nw + 1) s8 (by omega) (by omega) (by omega) (by omega), r8.gb (gb_set _ _ 0 _) (by omega), m8.keep (fun kk hk => (gb_set w8 (N + 2) 0 _).block kk (m8.ob hk).2 (by have := unhide HOB kk hk; omega)), below_gb b8 (gb_set _ _ 0 _) (by omega), by simp; omega, (unhide HPL2).low (by omega), hfs, by omega, by omega, unhide HQ2⟩
          case measure => simp [intOf]; omega
      · have hjn : j = n := by omega
        subst hjn
        have hq := unhide HQ
        rw [List.drop_of_length_le (by omega), spF_nil, bl_len] at hq
        have HQ2 := hide hq
        have HE := hide (fun wx (h : Sp (N + 3) (N + 2) N w.heap.size (N + 1) s nw f ps wx) (hB : N + 3 ≤ wx.heap.size) => spEnd_any (N + 3) (N + 2) N w.heap.size (N + 1) s nw f s.size ps wx h (by omega) (by omega) (by omega) (by omega) hB (by omega) (by omega) (by omega) (by omega) (by omega) (by omega) hfs (Nat.le_refl _) hs (by omega))
        have ct : wr.cell? ⟨w.heap.size, 0, none⟩ = some (.string s) := cell1 (unhide HS).ct
        clear hq HQ HPL
        go_wp2_with (first | (go_at_call 9; (with_reducible refine (unhide HE wr (unhide HS) hsz).mono ?_); rintro e w9 ⟨rfl, sp9, kb9⟩; have r9 := (unhide HR6).kb kb9 (by omega) (by omega) (by omega) (by omega); have b9 := below_kb (unhide HBW) kb9 (by omega) (by omega) (by omega) (by omega); obtain ⟨po, pn, pc, hp9, pm⟩ := sp9.cp; have cp9 : w9.cell? ⟨N, 0, none⟩ = some (.slice po pn pc) := cell1 hp9) | (with_reducible show wpList Tryd.prog _ _ (Oper.mk _ (Op.store 26 _ _) _ _ _ none :: _) _ _; refine wpList_stT rfl (.tmp 3) (.tmp 48) rfl (w.heap.size + 1) ok0 ⟨0, 0⟩ (by simp [Act.eval, Act.put]) (by simp [Act.eval, Act.put, ftC, ok0]) r9 ?_; intro wy ty gy sy))
        exact sp_end _ po pn pc (w.heap.size + 1) rfl rfl rfl (by rw [← unhide HQ2]; exact ty) (by rw [← unhide HQ2]; exact tm_mono (tm_gb pm gy (by omega)) (by omega)) (below_gb b9 gy (by omega))
  · rw [if_neg hft] at hR
    subst hR
    have hne2 : ∀ wx, (binOp .neq 26 (.agg (ftC ft)) (.agg #[.int .i64 0, .int .i64 0])).run Tryd.prog wx = .ok (.bool true) wx := fun wx => by rw [hne wx]; simp [hft]
    clear hne hpl hbig
    go_enter Tryd.func6, Tryd.ntmps6
    go_wp2_with (first | (go_at_call 5; (with_reducible refine (unhide HC0 w2 ((unhide HV).later b2)).mono ?_); rintro e w3 ⟨ao, n, c, rfl, m3, q3⟩; have r3 := r2.later q3; have b3 := bt b2 q3; have x3 := (q3.block w.heap.size (Array.getElem?_eq_some_iff.1 cx).1).trans cx) | (with_reducible show wpList Tryd.prog _ _ (Oper.mk _ (Op.alloc 26) _ _ _ none :: _) _ _; refine wpList_alT rfl rfl ?_; intro w4 f4 q4 t4; have lt4 := r3.lt; have r4 := r3.later q4; have b4 := bt b3 q4; have x4 := (q4.block w.heap.size (Array.getElem?_eq_some_iff.1 x3).1).trans x3) | (with_reducible show wpList Tryd.prog _ _ (Oper.mk _ (Op.alloc 26) _ _ _ none :: _) _ _; have cx := heap_alloc_new w (.cells #[.string s] 9); refine wpList_alT rfl rfl ?_; intro w2 r2 q2 t2; have b2 := bt (below_alloc w (.cells #[.string s] 9)) q2; have cx := (q2.block w.heap.size (Array.getElem?_eq_some_iff.1 cx).1).trans cx; have cc : w2.cell? ⟨w.heap.size, 0, none⟩ = some (.string s) := cell1 cx) | (with_reducible show wpList Tryd.prog _ _ (Oper.mk _ (Op.store 26 _ _) _ _ _ none :: _) _ _; refine wpList_stT rfl (.tmp 5) (.tmp 16) rfl _ ft ⟨0, 0⟩ (by simp [Act.eval, Act.put]) (by simp [Act.eval, Act.put]) f4 ?_; intro w5 f5 g5 t5; have r5 := r4.gb g5 (Nat.ne_of_lt lt4); have b5 := below_gb b4 g5 (by have := b3.size; omega); have x5 := (g5.block w.heap.size (Array.getElem?_eq_some_iff.1 x4).1 (fun h => by have h2 := (below_alloc w (.cells #[.string s] 9)).size; omega)).trans x4) | (with_reducible show wpList Tryd.prog _ _ (Oper.mk _ (Op.load 26 _) _ _ _ none :: _) _ _; refine wpList_ldT rfl (.tmp 5) rfl _ ft (by simp [Act.eval, Act.put]) f5 ?_))
    have szw : (w.alloc (.cells #[.string s] 9)).heap.size = w.heap.size + 1 := by simp
    rw [szw] at r5
    obtain ⟨fe, fa⟩ := ft
    have u0 := tb_e f5
    have u1 := tb_a f5
    have v0 := tb_e r5
    have v1 := tb_a r5
    have p0 := frozen_of_row w5 (w.heap.size + 1) 0 _ _ r5
    have p1 := frozen_of_row w5 (w.heap.size + 1) 1 _ _ r5
    go_region
    go_wp2_with fail
    exact sp_end ([], ⟨fe, fa⟩) .none 0 0 (w.heap.size + 1) rfl rfl rfl (tb_two r5) (TMine.nought _ _) (((b5.setCell (by simp) _).setCell (by simp) _).drew)

end Go.Proofs.YtjbgkgkgpigikaaDoor
