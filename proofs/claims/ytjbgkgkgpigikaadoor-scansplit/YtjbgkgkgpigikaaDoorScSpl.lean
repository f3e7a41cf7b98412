/-
  What the inner function of Split of package scan does: it ends a piece. Conditions: at most 2,000,000 bytes, at most 3,000,000 pieces.
-/
import Derived.Test.YtjbgkgkgpigikaaDoorScAll
import Derived.Test.YtjbgkgkgpigikaaDoorTMem
import Derived.Deep.RegionWith
import Derived.Deep.DeepCutAuto
namespace Go.Proofs.YtjbgkgkgpigikaaDoor
open Go.RowKit
set_option linter.unusedVariables false
set_option linter.unusedSimpArgs false

theorem step_call1 {P : Program} {ops : Array Oper} {o : Oper} {a : Act} {w : World} {K : Act → World → Prop} {Q : Exit → Act → World → Prop} {G : Prop} (hgd : o.guard = none) (f : FuncId) (x : Operand) (t : TypeId)
    (ho : o.op = .call { callee := .value (.func f), args := #[x], argTypes := #[t] }) (eg : ∀ args w, (callFunc f args).run P w = .ok (.enter f args) w)
    (vx : Value) (hx : a.eval x = vx) {R : Ending → World → Prop} (hc : Calls P f #[vx] w R)
    (h : ∀ e w', R e w' → ∃ v, e = .returned v ∧ K (a.put o.dst v) w') :
    if Region.wanted o (yielded ops a.tmps) = true then Oper.wp P o a w K Q else G := by
  have hw : Region.wanted o (yielded ops a.tmps) = true := by simp [Region.wanted, hgd]
  rw [if_pos hw]
  have he : a.eval (.func f) = .func (.func f) #[] #[] := rfl
  unfold Oper.wp
  simp [execOp, ho, resolve, invoke, he, eg, go_sem]
  simp [go_sem] at hx
  rw [hx]
  refine hc.mono ?_
  intro e w' hr
  obtain ⟨v, rfl, hk⟩ := h e w' hr
  simpa [go_sem] using hk
theorem en_clone : ∀ args w, (callFunc 10 args).run Tryd.prog w = .ok (.enter 10 args) w := enters_of Tryd.func10 (by kernel_rfl) rfl
theorem step_tapp {ops : Array Oper} {o : Oper} {a : Act} {w : World} {K : Act → World → Prop} {Q : Exit → Act → World → Prop} {G : Prop} (hgd : o.guard = none) (s x : Operand)
    (ho : o.op = .call { callee := .builtin .append, args := #[s, x], argTypes := #[29, 29] })
    (B : Nat) (ao : Option Addr) (n c : Nat) (ss : List ByteArray) (hs : a.eval s = .slice ao n c) (hm : TMine B w ao n c ss)
    (q : Nat) (v : ByteArray) (hv1 : v.size ≤ 9223372036854775807) (hx : a.eval x = .slice (some ⟨q, 0, none⟩) 1 1) (hc : w.cell? ⟨q, 0, none⟩ = some (.string v)) (hbound : n ≤ 100000000) (hB : B ≤ w.heap.size)
    (h : ∀ ao1 c1 w1, TMine B w1 ao1 (n + 1) c1 (ss ++ [v]) → Below B w w1 → K (a.put o.dst (.slice ao1 (n + 1) c1)) w1) :
    if Region.wanted o (yielded ops a.tmps) = true then Oper.wp Tryd.prog o a w K Q else G := by
  have hw : Region.wanted o (yielded ops a.tmps) = true := by simp [Region.wanted, hgd]
  rw [if_pos hw]
  obtain ⟨i0, hi, hz0, hz1, hz2⟩ := info_parts Tryd.infoStr
  have hlen := hm.len
  obtain ⟨v', w', hr, hown, hgrow, _, hsrc⟩ := run_append_own_at (P := Tryd.prog) w B 29 o.type 9 i0 (.string ByteArray.empty) 1 16 Tryd.underlying29 hi hz0 hz1 hz2 rfl (by decide) _ _ _ hm.own ⟨q, 0, none⟩ 1 1 [.string v] rfl (fun j u hu => by
    have : j = 0 := by have := (List.getElem?_eq_some_iff.1 hu).1; simpa using this
    subst this
    simp at hu
    subst hu
    rw [Addr.add_lit]
    exact hc) (fun u hu => by simp at hu; subst hu; rfl) (by unfold maxLen; omega) (by omega) hB
  have hbel : Below B w w' := (Below.refl B w).grown hgrow hB (fun k hk => (hm.own.lt k hk).1)
  have hex : ∃ ao1 c1, v' = .slice ao1 (n + 1) c1 := by
    rcases hown.2 with ⟨hv, h0⟩ | ⟨g, cap, cur, hv, _⟩
    · omega
    · exact ⟨_, _, hv⟩
  obtain ⟨ao1, c1, hv⟩ := hex
  subst hv
  unfold Oper.wp execOp
  simp only [ho, resolve, invoke, builtin, Sem.run_bind, Sem.run_pure, Result.andThen_ok, List.map_toArray, List.map_cons, List.map_nil, hs, hx, hr]
  refine h ao1 c1 w' ⟨by simp [hlen], by simpa using hown, fun u hu => ?_⟩ hbel
  rcases List.mem_append.1 hu with hu | hu
  · exact hm.fit u hu
  · simp at hu; subst hu; exact hv1

/-- What Split keeps: how many words, the pieces, the text, where the piece begins. -/
structure Sp (B W P T F : Nat) (s : ByteArray) (nw f : Nat) (ps : List ByteArray) (w : World) : Prop where
  cw : w.heap[W]? = some (.cells #[.int .i64 (nw : Int)] 3 (0, 0))
  ct : w.heap[T]? = some (.cells #[.string s] 9 (0, 0))
  cf : w.heap[F]? = some (.cells #[.int .i64 (f : Int)] 3 (0, 0))
  cp : ∃ ao n c, w.heap[P]? = some (.cells #[.slice ao n c] 29 (0, 0)) ∧ TMine B w ao n c ps
theorem Sp.up {B C W P T F : Nat} {s : ByteArray} {nw f : Nat} {ps : List ByteArray} {w w' : World} (h : Sp B W P T F s nw f ps w) (hb : Below C w w') (h1 : W < C) (h2 : P < C) (h3 : T < C) (h4 : F < C) (h5 : w.heap.size ≤ C) : Sp B W P T F s nw f ps w' := by
  obtain ⟨ao, n, c, hp, hm⟩ := h.cp
  have hb2 := hb.mono h5
  exact ⟨by rw [hb.block W h1]; exact h.cw, by rw [hb.block T h3]; exact h.ct, by rw [hb.block F h4]; exact h.cf, ao, n, c, by rw [hb.block P h2]; exact hp, hm.later hb2⟩
/-- All below B are kept, but for three blocks. -/
structure Kb (B W P F : Nat) (w w' : World) : Prop where
  os : w'.os = w.os
  tape : w'.tape = w.tape
  output : w'.output = w.output
  size : w.heap.size ≤ w'.heap.size
  block : ∀ k, k < B → k ≠ W → k ≠ P → k ≠ F → w'.heap[k]? = w.heap[k]?
theorem Kb.refl (B W P F : Nat) (w : World) : Kb B W P F w w := ⟨rfl, rfl, rfl, Nat.le_refl _, fun _ _ _ _ _ => rfl⟩
theorem Kb.below {B W P F : Nat} {a b c : World} (h : Kb B W P F a b) (k : Below B b c) : Kb B W P F a c := ⟨k.os.trans h.os, k.tape.trans h.tape, k.output.trans h.output, Nat.le_trans h.size k.size, fun i h1 h2 h3 h4 => (k.block i h1).trans (h.block i h1 h2 h3 h4)⟩
theorem Kb.trans {B W P F : Nat} {a b c : World} (h : Kb B W P F a b) (k : Kb B W P F b c) : Kb B W P F a c := ⟨k.os.trans h.os, k.tape.trans h.tape, k.output.trans h.output, Nat.le_trans h.size k.size, fun i h1 h2 h3 h4 => (k.block i h1 h2 h3 h4).trans (h.block i h1 h2 h3 h4)⟩
theorem Kb.gb {B W P F g : Nat} {a b c : World} (h : Kb B W P F a b) (k : Gb g b c) (hs : B ≤ b.heap.size) (hg : g = W ∨ g = P ∨ g = F ∨ B ≤ g) : Kb B W P F a c := ⟨k.os.trans h.os, k.tape.trans h.tape, k.output.trans h.output, Nat.le_trans h.size k.size, fun i h1 h2 h3 h4 => (k.block i (by omega) (by rcases hg with rfl | rfl | rfl | hg <;> omega)).trans (h.block i h1 h2 h3 h4)⟩
theorem tm_gb {B g : Nat} {w w' : World} {ao : Option Addr} {n c : Nat} {ss : List ByteArray} (h : TMine B w ao n c ss) (hb : Gb g w w') (hg : g < B) : TMine B w' ao n c ss := by
  refine ⟨h.len, ⟨h.own.1, ?_⟩, h.fit⟩
  rcases h.own.2 with hv | ⟨q, cap, cur, hv, hq, hh, r⟩
  · exact .inl hv
  · exact .inr ⟨q, cap, cur, hv, hq, by rw [hb.block q (Array.getElem?_eq_some_iff.1 hh).1 (by omega)]; exact hh, r⟩
theorem gb_two {w : World} {g j : Nat} {v : Value} : Gb g w (w.setCell ⟨g, j, none⟩ v) := gb_set w g j v
theorem set1 {w : World} {g : Nat} {T : TypeId} {x v : Value} (h : w.heap[g]? = some (.cells #[x] T (0, 0))) : (w.setCell ⟨g, 0, none⟩ v).heap[g]? = some (.cells #[v] T (0, 0)) := heap_setCell_same w g 0 _ _ v h
/-- The end of Split's inner function: the piece's begin and the count are set. -/
theorem sp_sets {B W P T F : Nat} {s : ByteArray} {nw f n2 f2 : Nat} {ps : List ByteArray} {w : World} (h : Sp B W P T F s nw f ps w) (hWB : W < B) (hFB : F < B) (d1 : W ≠ P) (d2 : W ≠ T) (d3 : W ≠ F) (d4 : F ≠ P) (d5 : F ≠ T) :
    Sp B W P T F s n2 f2 ps ((w.setCell ⟨F, 0, none⟩ (.int .i64 (f2 : Int))).setCell ⟨W, 0, none⟩ (.int .i64 (n2 : Int))) := by
  have g1 := gb_set w F 0 (.int .i64 (f2 : Int))
  have g2 := gb_set (w.setCell ⟨F, 0, none⟩ (.int .i64 (f2 : Int))) W 0 (.int .i64 (n2 : Int))
  have hlt : ∀ {k : Nat} {o : Obj}, w.heap[k]? = some o → k < w.heap.size := fun hh => (Array.getElem?_eq_some_iff.1 hh).1
  obtain ⟨ao, n, c, hp, hm⟩ := h.cp
  have e1 : (w.setCell ⟨F, 0, none⟩ (.int .i64 (f2 : Int))).heap[W]? = w.heap[W]? := g1.block W (hlt h.cw) d3
  refine ⟨set1 (e1.trans h.cw), ?_, ?_, ao, n, c, ?_, tm_gb (tm_gb hm g1 hFB) g2 hWB⟩
  · rw [heap_setCell_other _ _ _ _ (Ne.symm d2), heap_setCell_other _ _ _ _ (Ne.symm d5)]; exact h.ct
  · rw [heap_setCell_other _ _ _ _ (Ne.symm d3)]; exact set1 h.cf
  · rw [heap_setCell_other _ _ _ _ (Ne.symm d1), heap_setCell_other _ _ _ _ (Ne.symm d4)]; exact hp

/-- A piece has been appended. -/
theorem sp_app {B W P T F : Nat} {s : ByteArray} {nw f n c1 : Nat} {ao1 : Option Addr} {ps : List ByteArray} {v : ByteArray} {o : Obj} {w w2 w3 : World} (h : Sp B W P T F s nw f ps w) (b2 : Below w.heap.size w w2) (b3 : Below B (w2.alloc o) w3) (m3 : TMine B w3 ao1 (n + 1) c1 (ps ++ [v])) (hWB : W < B) (hPB : P < B) (hTB : T < B) (hFB : F < B) (hB : B ≤ w.heap.size) (d1 : W ≠ P) (d6 : P ≠ T) (d4 : F ≠ P) :
    Sp B W P T F s nw f (ps ++ [v]) (w3.setCell ⟨P, 0, none⟩ (.slice ao1 (n + 1) c1)) ∧ Kb B W P F w (w3.setCell ⟨P, 0, none⟩ (.slice ao1 (n + 1) c1)) ∧ w.heap.size ≤ (w3.setCell ⟨P, 0, none⟩ (.slice ao1 (n + 1) c1)).heap.size := by
  have b4 : Below B w w3 := ((b2.mono hB).trans ((below_alloc w2 o).mono (Nat.le_trans hB b2.size))).trans b3
  have g := gb_set w3 P 0 (.slice ao1 (n + 1) c1)
  have hs3 : B ≤ w3.heap.size := Nat.le_trans hB b4.size
  obtain ⟨_, _, _, hp, _⟩ := h.cp
  have e : ∀ k, k < B → k ≠ P → (w3.setCell ⟨P, 0, none⟩ (.slice ao1 (n + 1) c1)).heap[k]? = w.heap[k]? := fun k hk hn => (g.block k (by omega) hn).trans (b4.block k hk)
  refine ⟨⟨(e W hWB d1).trans h.cw, (e T hTB (Ne.symm d6)).trans h.ct, (e F hFB d4).trans h.cf, ao1, n + 1, c1, set1 ((b4.block P hPB).trans hp), tm_gb m3 g hPB⟩, ((Kb.refl B W P F w).below b4).gb g hs3 (.inr (.inl rfl)), by simp; exact b4.size⟩

set_option maxHeartbeats 4000000 in
set_option maxRecDepth 20000 in
theorem spEnd_any (B W P T F : Nat) (s : ByteArray) (nw f i : Nat) (ps : List ByteArray) (w : World) (h : Sp B W P T F s nw f ps w) (hWB : W < B) (hPB : P < B) (hTB : T < B) (hFB : F < B) (hB : B ≤ w.heap.size)
    (d1 : W ≠ P) (d2 : W ≠ T) (d3 : W ≠ F) (d4 : F ≠ P) (d5 : F ≠ T) (d6 : P ≠ T) (hfi : f ≤ i) (his : i ≤ s.size) (hs : s.size ≤ 2000000) (hps : ps.length ≤ 3000000) :
    Calls Tryd.prog 9 #[.int .i64 (i : Int), .pointer (some ⟨W, 0, none⟩), .pointer (some ⟨P, 0, none⟩), .pointer (some ⟨T, 0, none⟩), .pointer (some ⟨F, 0, none⟩)] w fun e w' => e = .returned (.tuple #[]) ∧ Sp B W P T F s 0 (i + 1) (if 0 < nw then ps ++ [ba (((bl s).drop f).take (i - f))] else ps) w' ∧ Kb B W P F w w' := by
  have H := hide h
  have cw := cell_of_row w W 0 _ _ _ h.cw
  have fw := frozen_of_row w W 0 _ _ h.cw
  have cf := cell_of_row w F 0 _ _ _ h.cf
  have ff := frozen_of_row w F 0 _ _ h.cf
  have ct := cell_of_row w T 0 _ _ _ h.ct
  simp only [List.getElem?_toArray, List.getElem?_cons_zero] at cw cf ct
  have E1 := hide (show ((i : Int) + 1) = ((i + 1 : Nat) : Int) by omega)
  have iw : (i : Int) ≤ 2000000 := by omega
  by_cases hn : 0 < nw
  · rw [if_pos hn]
    obtain ⟨ao, n, c, hp, hm⟩ := h.cp
    have hml := hm.len
    have hmle := hm.ss.le
    have hmmx := hm.ss.max
    have cp := cell_of_row w P 0 _ _ _ hp
    have fp := frozen_of_row w P 0 _ _ hp
    simp only [List.getElem?_toArray, List.getElem?_cons_zero] at cp
    have HP := hide hp
    have HM := hide hm
    have hXs : (s.extract f i).size ≤ 2000000 := by rw [← bl_len, bl_sub, List.length_take, List.length_drop, bl_len]; omega
    rw [← ext_ba s f i]
    have c0 := hide (fun wx => run_stringsClone (s.extract f i) wx (by omega))
    have hsW := (Array.getElem?_eq_some_iff.1 h.cw).1
    have hsP := (Array.getElem?_eq_some_iff.1 hp).1
    clear hp hm h
    go_enter Tryd.func9, Tryd.ntmps9
    go_upto_region 1 with fail
    go_cut [] (fun wx => Sp B W P T F s nw f (ps ++ [s.extract f i]) wx ∧ Kb B W P F w wx ∧ w.heap.size ≤ wx.heap.size)
    case first =>
      go_region_law (first | (refine step_call1 rfl 10 _ _ rfl en_clone (.string (s.extract f i)) (by simp [Act.eval, Act.put]) (unhide c0 _) ?_; rintro e w2 ⟨rfl, b2⟩; have BL2 : Below w.heap.size w w2 := bt (bdr w) b2; have cp2 := cell_later BL2 cp; have M2 := (unhide HM).later BL2; have cp3 := fun o => (cell_under w2 o P 0 (Nat.lt_of_lt_of_le hsP BL2.size)).trans cp2; have sz2 := BL2.size; refine ⟨_, rfl, ?_⟩) | (refine step_tapp rfl (.tmp 8) (.tmp 14) rfl B ao n c ps (by simp [Act.eval, Act.put]) (M2.later (below_alloc w2 _)) w2.heap.size (s.extract f i) (by omega) (by simp [Act.eval, Act.put]) (cell_top w2 _ _ 0 _ rfl) (by omega) (by simp; omega) ?_; intro ao1 c1 w3 m3 b3; have hp4 := ((b3.block P hPB).trans ((below_alloc w2 _).block P (Nat.lt_of_lt_of_le hsP sz2))).trans ((BL2.block P hsP).trans (unhide HP)); have cp4 := cell_of_row w3 P 0 _ _ _ hp4; have fp4 := frozen_of_row w3 P 0 _ _ hp4))
      all_goals
        go_wp2_with fail
        go_meet
        exact sp_app (unhide H) BL2 b3 m3 hWB hPB hTB hFB hB d1 d6 d4
    obtain ⟨H2, KB, hsz⟩ := hcut
    have cw := cell_of_row _ W 0 _ _ _ H2.cw
    have fw := frozen_of_row _ W 0 _ _ H2.cw
    have cf := cell_of_row _ F 0 _ _ _ H2.cf
    have ff := frozen_of_row _ F 0 _ _ H2.cf
    simp only [List.getElem?_toArray, List.getElem?_cons_zero] at cw cf
    have HH2 := hide H2
    have HKB := hide KB
    clear H2 KB
    go_wp2_with fail
    go_end0
    rw [unhide E1]
    exact ⟨rfl, sp_sets (n2 := 0) (f2 := i + 1) (unhide HH2) hWB hFB d1 d2 d3 d4 d5, ((unhide HKB).gb (gb_set _ F 0 _) (by omega) (.inr (.inr (.inl rfl)))).gb (gb_set _ W 0 _) (by simp; omega) (.inl rfl)⟩
  · have hn0 : nw = 0 := by omega
    subst hn0
    rw [if_neg (by omega)]
    clear h
    go_enter Tryd.func9, Tryd.ntmps9
    go_wp2_with fail
    go_end0
    rw [unhide E1]
    exact ⟨rfl, sp_sets (n2 := 0) (f2 := i + 1) (unhide H) hWB hFB d1 d2 d3 d4 d5, ((Kb.refl B W P F w).gb (gb_set _ F 0 _) hB (.inr (.inr (.inl rfl)))).gb (gb_set _ W 0 _) (by simp; omega) (.inl rfl)⟩

end Go.Proofs.YtjbgkgkgpigikaaDoor
