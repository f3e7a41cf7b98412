/-
  What Read of commands returns: the command, its Data in new memory, or an error. Conditions: the slice can be read; at most 2 to the 40 bytes.
-/
import Derived.Test.YtpidlfifipgadaaDoorCmTk
import Derived.BigQuiet
import Derived.BigRegion
namespace Go.Proofs.YtpidlfifipgadaaDoor
open Go.RowKit
set_option linter.unusedVariables false
set_option linter.unusedSimpArgs false

/-- A struct that lies in a block, and a number beside it: what a call returns. -/
theorem results_row_tmp {fn : Func} {p u : Tmp} {ty : TypeId} (h : fn.results = #[.cell p ty, .tmp u]) (tmps : Array Value) (w : World) (g : Nat) (cs : Array Value)
    (hp : tmps.getD p undef = .pointer (some ⟨g, 0, none⟩)) (hl : (loadVar ty ⟨g, 0, none⟩).run Tryd.prog w = .ok (.agg cs) w) :
    (results fn tmps).run Tryd.prog w = .ok (.tuple #[.agg cs, tmps.getD u undef]) w := by
  rw [results_cell_tmp h, hp]
  simp only [asAddr, Sem.run_pure, Result.andThen, hl]
theorem drew_row {w : World} {g : Nat} {x : Option Obj} (h : w.heap[g]? = x) : w.drew.heap[g]? = x := h

/-- What Read leaves. -/
def OutR (w : World) (R : Cm × Int) (e : Ending) (w' : World) : Prop :=
  ∃ xo xn xc, e = .returned (.tuple #[.agg (R.1.cd xo xn xc).row, .int .i64 R.2]) ∧ Bs w' xo xn xc R.1.d ∧ (∀ k, ob xo k → w.heap.size ≤ k) ∧ Below w.heap.size w w'

/-- The command of a kind, in memory. -/
def zrow (k : Int) : Array Value := #[.int .u8 k, .string ⟨#[]⟩, .int .u32 0, .int .u16 0, .int .u8 0, .int .u32 0, .int .u16 0, .slice none 0 0]

theorem Fs.two_below {g h B : Nat} {w w' : World} (f : Fs (two g h) w (two g h) w') (hB : B ≤ w.heap.size) (h1 : B ≤ g) (h2 : B ≤ h) : Below B w w' :=
  f.below hB (fun k hk => hk.elim (fun e => by omega) (fun e => by omega))

set_option maxHeartbeats 4000000 in
set_option maxRecDepth 100000 in
theorem cmRead_any (bo : Option Addr) (bn bc : Nat) (b : List Int) (w : World) (h : Bs w bo bn bc b) (hn : bn ≤ 1099511627776) :
    Calls Tryd.prog 5 #[.slice bo bn bc] w fun e w' => OutR w (rdP b) e w' := by
  have b1 := below_alloc w (.cells #[.int .u8 0, .string ⟨#[]⟩, .int .u32 0, .int .u16 0, .int .u8 0, .int .u32 0, .int .u16 0, .slice none 0 0] 26)
  have hA := heap_alloc_new w (.cells #[.int .u8 0, .string ⟨#[]⟩, .int .u32 0, .int .u16 0, .int .u8 0, .int .u32 0, .int .u16 0, .slice none 0 0] 26)
  have e1 : (w.alloc (.cells #[.int .u8 0, .string ⟨#[]⟩, .int .u32 0, .int .u16 0, .int .u8 0, .int .u32 0, .int .u16 0, .slice none 0 0] 26)).heap.size = w.heap.size + 1 := by simp
  have f1 := Fl.new (h.later b1)
  rw [e1] at f1
  obtain ⟨wA, hwA⟩ : ∃ wA, wA = w.alloc (.cells #[.int .u8 0, .string ⟨#[]⟩, .int .u32 0, .int .u16 0, .int .u8 0, .int .u32 0, .int .u16 0, .slice none 0 0] 26) := ⟨_, rfl⟩
  have b2 := below_alloc (w.alloc (.cells #[.int .u8 0, .string ⟨#[]⟩, .int .u32 0, .int .u16 0, .int .u8 0, .int .u32 0, .int .u16 0, .slice none 0 0] 26)) (.cells #[.slice bo bn bc, .int .i64 0] 44)
  rw [e1] at b2
  have hA2 := (b2.block w.heap.size (by omega)).trans hA
  have B2 := hide (b1.trans (b2.mono (by omega)))
  have HA2 := hide hA2
  have z2 : ((w.alloc (.cells #[.int .u8 0, .string ⟨#[]⟩, .int .u32 0, .int .u16 0, .int .u8 0, .int .u32 0, .int .u16 0, .slice none 0 0] 26)).alloc (.cells #[.slice bo bn bc, .int .i64 0] 44)).heap.size = w.heap.size + 2 := by simp
  have cc := hide (fixed_out (w.heap.size + 1) _ bo bn bc ⟨b, 0⟩ 1 1 256 rfl (by omega) (by omega) (by decide) f1)
  have hbl := h.len
  have hle1 := fxS_le ⟨b, 0⟩ 1
  have HRES := hide (show rdP b = if (edS (rdQ b).1).e = 0 then ((rdQ b).2, 0) else (cm0 0, (edS (rdQ b).1).e) from rfl)
  have HQ := hide (show rdQ b = (fl (fxA ⟨b, 0⟩ 1)).foldl tkP (fxS ⟨b, 0⟩ 1, cm0 (fxA ⟨b, 0⟩ 1)) from rfl)
  generalize rdP b = RR at *
  generalize rdQ b = QQ at *
  generalize fxS ⟨b, 0⟩ 1 = s1 at *
  generalize fxA ⟨b, 0⟩ 1 = V at *
  have cF := hide (fun wx => fields_any V wx)
  have hfl := fl_at V
  have hflen := fl_len V
  obtain ⟨l, hl⟩ : ∃ l, l = fl V := ⟨_, rfl⟩
  rw [← hl] at HQ hfl hflen cF
  simp only at hle1
  clear h f1 b1 hA hwA wA b2 hA2 hl e1
  go_enter Tryd.func5, Tryd.ntmps5
  go_wp2_with fail
  refine (unhide cc).mono ?_
  rintro e w3 ⟨⟨rfl, v0, v1⟩, ho3, hg3⟩
  have z3 := hg3.size
  rw [z2] at z3
  have HA3 := hide ((hg3.block w.heap.size (by omega) (by omega)).trans (unhide HA2))
  have B3 := hide ((unhide B2).trans ((hg3.below (by omega)).mono (by omega)))
  have b4 := below_alloc w3 (.cells #[.int .u8 V, .string ⟨#[]⟩, .int .u32 0, .int .u16 0, .int .u8 0, .int .u32 0, .int .u16 0, .slice none 0 0] 26)
  have HX4 := hide (show Fx (w.heap.size + 1) (w3.alloc (.cells #[.int .u8 V, .string ⟨#[]⟩, .int .u32 0, .int .u16 0, .int .u8 0, .int .u32 0, .int .u16 0, .slice none 0 0] 26)) s1 from Fx.later ⟨ho3, by omega⟩ b4)
  have HC4 := hide (show Cx w3.heap.size (w3.alloc (.cells #[.int .u8 V, .string ⟨#[]⟩, .int .u32 0, .int .u16 0, .int .u8 0, .int .u32 0, .int .u16 0, .slice none 0 0] 26)) (cm0 V) from ⟨none, 0, 0, heap_alloc_new w3 _, Bs.nought _, fun k hk => absurd hk ob_none⟩)
  have HA4 := hide ((b4.block w.heap.size (by omega)).trans (unhide HA3))
  have B4 := hide ((unhide B3).trans (b4.mono (unhide B3).size))
  have z4 : (w3.alloc (.cells #[.int .u8 V, .string ⟨#[]⟩, .int .u32 0, .int .u16 0, .int .u8 0, .int .u32 0, .int .u16 0, .slice none 0 0] 26)).heap.size = w3.heap.size + 1 := by simp
  clear ho3 hg3 cc b4 HA2 HA3 B2 B3
  go_wp2_with fail
  refine (unhide cF _).mono ?_
  rintro e w5 ⟨fo, fc, rfl, hfd, hfo, b5⟩
  rw [z4] at hfo b5
  have HX5 := hide ((unhide HX4).above (b5.mono (by omega)))
  have HC5 := hide ((unhide HC4).later (by rw [z4]; exact b5))
  have HA5 := hide ((b5.block w.heap.size (by omega)).trans (unhide HA4))
  have B5 := hide ((unhide B4).trans (b5.mono (by omega)))
  have HFD := hide hfd
  have HFO := hide hfo
  have z5 := b5.size
  rw [z4] at z5
  clear hfd hfo b5 HX4 HC4 HA4 B4
  go_wp2_with fail
  go_loopw [19] (fun i wr => ∃ (j : Nat), j ≤ l.length ∧ i = .int .i64 (j : Int) ∧ Fx (w.heap.size + 1) wr ((l.take j).foldl tkP (s1, cm0 V)).1 ∧ Cx w3.heap.size wr ((l.take j).foldl tkP (s1, cm0 V)).2 ∧ Fd wr fo l ∧ wr.heap[w.heap.size]? = some (.cells #[.int .u8 0, .string ⟨#[]⟩, .int .u32 0, .int .u16 0, .int .u8 0, .int .u32 0, .int .u16 0, .slice none 0 0] 26 (0, 0)) ∧ Below w.heap.size w wr ∧ w5.heap.size ≤ wr.heap.size) (fun i _ => l.length - (intOf i).toNat)
  case atStart => exact ⟨0, by omega, rfl, unhide HX5, unhide HC5, unhide HFD, unhide HA5, unhide B5, Nat.le_refl _⟩
  case round =>
    obtain ⟨j, hj, rfl, hx, hc, hfd, ha, hbw, hzw⟩ := hrel
    clear HX5 HC5 HFD HA5 B5
    by_cases hlt : j < l.length
    · obtain ⟨bb, i1, i2⟩ := hfd.idx l.length fc rfl hlt (j : Int) rfl
      have hq := hfl j hlt
      have hst := hide (foldl_next tkP (s1, cm0 V) l j (0 : Int) hlt)
      generalize l[j]?.getD 0 = F at *
      generalize (l.take j).foldl tkP (s1, cm0 V) = X at *
      have ct := hide (take_any (w.heap.size + 1) w3.heap.size wr X.1 X.2 (by omega) hx hc F hq)
      have HFD := hide hfd
      have HA := hide ha
      have HB := hide hbw
      clear hx hc hfd ha hbw hq
      go_wp2_with fail
      refine (unhide ct).mono ?_
      rintro e w6 ⟨rfl, hx6, hc6, f6⟩
      have HX6 := hide hx6
      have HC6 := hide hc6
      have HA6 := hide ((f6.block w.heap.size (by omega) (fun q => q.elim (fun e => by omega) (fun e => by omega))).trans (unhide HA))
      have HB6 := hide ((unhide HB).trans (f6.two_below (by omega) (by omega) (by omega)))
      have HFD6 := hide (show Fd w6 fo l from (unhide HFD).lt.elim (fun q => .inl q) (fun q => (unhide HFD).keep fun k hk => f6.block k (q k hk) (fun z => by have := unhide HFO k hk; exact z.elim (fun e => by omega) (fun e => by omega))))
      have z6 := f6.size
      clear hx6 hc6 f6 ct
      go_wp2_with fail
      go_roundw
      case rel =>
        refine ⟨j + 1, by omega, by go_num, ?_, ?_, unhide HFD6, unhide HA6, unhide HB6, by omega⟩
        · rw [unhide hst]; exact unhide HX6
        · rw [unhide hst]; exact unhide HC6
      case measure => simp [intOf]; omega
    · have hjn : j = l.length := by omega
      subst hjn
      rw [List.take_of_length_le (Nat.le_refl _), ← unhide HQ] at hx hc
      have ce := hide (end_rd (w.heap.size + 1) wr _ _ _ QQ.1 hx.1.choose_spec.choose_spec.choose_spec)
      have HC := hide hc
      have HA := hide ha
      have HB := hide hbw
      generalize edS QQ.1 = s9 at *
      generalize QQ.2 = C9 at *
      clear hx hc hfd ha hbw
      go_wp2_with fail
      refine (unhide ce).mono ?_
      rintro e w7 ⟨rfl, ⟨bo7, bn7, bc7, hf7⟩, hg7⟩
      have k1 := hf7.c1
      have HC7 := hide ((unhide HC).gb (by omega) hg7)
      have HA7 := hide ((hg7.block w.heap.size (by omega) (by omega)).trans (unhide HA))
      have HB7 := hide ((unhide HB).trans ((hg7.below (by omega)).mono (by omega)))
      clear hf7 hg7 ce
      by_cases he : s9.e = 0
      · have he' : (s9.e != 0) = false := by simpa using he
        rw [if_pos he] at HRES
        clear he
        generalize s9.e = E at *
        have z7 := (unhide HC7).lt
        obtain ⟨xo, xn, xc, hst7, hbs7, hob7⟩ := unhide HC7
        have HS7 := hide hst7
        have HZ7 := hide (show w7.heap[w.heap.size]? = some (.cells ((cm0 0).cd none 0 0).row 26 (0, 0)) from unhide HA7)
        have HBS := hide hbs7
        have HOB := hide hob7
        clear hst7 hbs7 hob7 HC7
        go_wp2_with (first
          | (with_reducible show wpList Tryd.prog _ _ (Oper.mk _ (Op.load 26 _) _ _ _ none :: _) _ _; refine wpList_loadC rfl (.tmp 5) rfl w3.heap.size (C9.cd xo xn xc) (by simp [Act.eval, Act.put]) (unhide HS7) ?_)
          | (with_reducible show wpList Tryd.prog _ _ (Oper.mk _ (Op.store 26 _ _) _ _ _ none :: _) _ _; refine wpList_storeC rfl (.tmp 2) (.tmp 39) rfl w.heap.size (C9.cd xo xn xc) ((cm0 0).cd none 0 0) (by simp [Act.eval, Act.put]) (by simp [Act.eval, Act.put]) (unhide HZ7) ?_; intro w8 h8 g8 z8; have H8 := hide h8; have G8 := hide g8; clear h8 g8))
        refine bodyPost_ret (results_row_tmp rfl _ _ w.heap.size _ rfl (run_loadVar_row _ w.heap.size _ _ _ _ _ (unhide H8) Tryd.underlying26 rfl (by kernel_rfl))) rfl ?_
        rw [unhide HRES]
        exact ⟨xo, xn, xc, rfl, (unhide HBS).keepB fun k hk hl => (unhide G8).block k hl (by have := unhide HOB k hk; omega), fun k hk => by have := unhide HOB k hk; omega, (unhide HB7).trans ((unhide G8).below (by have := (unhide HB7).size; omega))⟩
      · have he' : (s9.e != 0) = true := by simpa using he
        rw [if_neg he] at HRES
        clear he
        generalize s9.e = E at *
        have u0 : w7.cell? ⟨w.heap.size, 0, none⟩ = some (.int .u8 0) := by rw [cell_of_row _ _ 0 _ _ _ (unhide HA7)]; rfl
        have u1 : w7.cell? ⟨w.heap.size, 1, none⟩ = some (.string ⟨#[]⟩) := by rw [cell_of_row _ _ 1 _ _ _ (unhide HA7)]; rfl
        have u2 : w7.cell? ⟨w.heap.size, 2, none⟩ = some (.int .u32 0) := by rw [cell_of_row _ _ 2 _ _ _ (unhide HA7)]; rfl
        have u3 : w7.cell? ⟨w.heap.size, 3, none⟩ = some (.int .u16 0) := by rw [cell_of_row _ _ 3 _ _ _ (unhide HA7)]; rfl
        have u4 : w7.cell? ⟨w.heap.size, 4, none⟩ = some (.int .u8 0) := by rw [cell_of_row _ _ 4 _ _ _ (unhide HA7)]; rfl
        have u5 : w7.cell? ⟨w.heap.size, 5, none⟩ = some (.int .u32 0) := by rw [cell_of_row _ _ 5 _ _ _ (unhide HA7)]; rfl
        have u6 : w7.cell? ⟨w.heap.size, 6, none⟩ = some (.int .u16 0) := by rw [cell_of_row _ _ 6 _ _ _ (unhide HA7)]; rfl
        have u7 : w7.cell? ⟨w.heap.size, 7, none⟩ = some (.slice none 0 0) := by rw [cell_of_row _ _ 7 _ _ _ (unhide HA7)]; rfl
        have uf : ∀ i, w7.frozen? ⟨w.heap.size, i, none⟩ = false := fun i => frozen_of_row w7 w.heap.size i _ _ (unhide HA7)
        have uf0 := uf 0
        have uf1 := uf 1
        have uf2 := uf 2
        have uf3 := uf 3
        have uf4 := uf 4
        have uf5 := uf 5
        have uf6 := uf 6
        have uf7 := uf 7
        clear uf
        go_wp2_with fail
        go_region
        go_wp2_with fail
        refine bodyPost_ret (results_row_tmp rfl _ _ w.heap.size _ rfl (run_loadVar_row _ w.heap.size _ _ _ _ _ (show _ = some (Obj.cells #[.int .u8 0, .string ⟨#[]⟩, .int .u32 0, .int .u16 0, .int .u8 0, .int .u32 0, .int .u16 0, .slice none 0 0] 26 (0, 0)) from (drew_row (heap_setCell_same _ w.heap.size 7 _ _ _ (heap_setCell_same _ w.heap.size 6 _ _ _ (heap_setCell_same _ w.heap.size 5 _ _ _ (heap_setCell_same _ w.heap.size 4 _ _ _ (heap_setCell_same _ w.heap.size 3 _ _ _ (heap_setCell_same _ w.heap.size 2 _ _ _ (heap_setCell_same _ w.heap.size 1 _ _ _ (heap_setCell_same _ w.heap.size 0 _ _ _ (unhide HA7))))))))))) Tryd.underlying26 rfl (by kernel_rfl))) rfl ?_
        rw [unhide HRES]
        exact ⟨none, 0, 0, rfl, Bs.nought _, fun k hk => absurd hk ob_none, (((((((((unhide HB7).setCell (Nat.le_refl _) _).setCell (Nat.le_refl _) _).setCell (Nat.le_refl _) _).setCell (Nat.le_refl _) _).setCell (Nat.le_refl _) _).setCell (Nat.le_refl _) _).setCell (Nat.le_refl _) _).setCell (Nat.le_refl _) _).drew⟩

end Go.Proofs.YtpidlfifipgadaaDoor
