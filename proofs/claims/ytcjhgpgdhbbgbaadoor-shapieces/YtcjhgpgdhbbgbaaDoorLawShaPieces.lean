/-
  The law ShaPieces returns true for any kind and any pieces: behind each piece the hash so far is that of all bytes. Conditions: the table of constants holds what the program's text says.
-/
import Derived.Test.YtcjhgpgdhbbgbaaDoorShaLives
namespace Go.Proofs.YtcjhgpgdhbbgbaaDoor
open Go.RowKit
set_option linter.unusedVariables false
set_option linter.unusedSimpArgs false

/-- A slice of slices of bytes. -/
structure Bss (w : World) (ao : Option Addr) (n c : Nat) : Prop where
  le : n ≤ c
  max : c ≤ 9223372036854775807
  at' : ∀ i, i < n → ∃ b o ai ni ci bs, (∀ wx, (Instr.indexAt 32 (.slice ao n c) (.int .i64 (i : Int))).run Tryd.prog wx = .ok (.pointer (some ⟨b, o, none⟩)) wx) ∧ w.cell? ⟨b, o, none⟩ = some (.slice ai ni ci) ∧ Bs w ai ni ci bs ∧ ni ≤ 140737488355328
theorem Bss.later {w w' : World} {ao : Option Addr} {n c : Nat} (h : Bss w ao n c) (hb : Below w.heap.size w w') : Bss w' ao n c :=
  ⟨h.le, h.max, fun i hi => by
    obtain ⟨b, o, ai, ni, ci, bs, h1, h2, h3, h4⟩ := h.at' i hi
    exact ⟨b, o, ai, ni, ci, bs, h1, cell_later hb h2, h3.later hb, h4⟩⟩

/-- Block k is the one that a slice lies in. -/
def ob (ao : Option Addr) (k : Nat) : Prop := ∃ a, ao = some a ∧ a.block = k
theorem Mine.ob {B : Nat} {w : World} {ao : Option Addr} {n c : Nat} {bs : List Int} (h : Mine B w ao n c bs) {k : Nat} (hk : ob ao k) : B ≤ k ∧ k < w.heap.size := by
  obtain ⟨a, rfl, rfl⟩ := hk
  rcases h.own.2 with ⟨hv, _⟩ | ⟨g, cap, cur, hv, hg, hh, _⟩
  · simp at hv
  · simp only [Value.slice.injEq, Option.some.injEq] at hv
    obtain ⟨rfl, _⟩ := hv
    exact ⟨hg, (Array.getElem?_eq_some_iff.1 hh).1⟩
theorem Mine.keep {B : Nat} {w w' : World} {ao : Option Addr} {n c : Nat} {bs : List Int} (h : Mine B w ao n c bs) (hk : ∀ k, B ≤ k → k < w.heap.size → w'.heap[k]? = w.heap[k]?) : Mine B w' ao n c bs := by
  refine ⟨h.len, ⟨h.own.1, ?_⟩, h.byt⟩
  rcases h.own.2 with hv | ⟨g, cap, cur, hv, hg, hh, r⟩
  · exact .inl hv
  · exact .inr ⟨g, cap, cur, hv, hg, by rw [hk g hg (Array.getElem?_eq_some_iff.1 hh).1]; exact hh, r⟩
theorem Mine.gb {B g : Nat} {w w' : World} {ao : Option Addr} {n c : Nat} {bs : List Int} (h : Mine B w ao n c bs) (hg : g < B) (hb : Gb g w w') : Mine B w' ao n c bs := h.keep fun k h1 h2 => hb.block k h2 (by omega)
/-- A store into a block that was made later. -/
theorem Mine.under {B b i : Nat} {w : World} {ao : Option Addr} {n c : Nat} {bs : List Int} (h : Mine B w ao n c bs) (hb : ∀ k, Go.Proofs.YtcjhgpgdhbbgbaaDoor.ob ao k → k ≠ b) (u : Value) : Mine B (w.setCell ⟨b, i, none⟩ u) ao n c bs := by
  refine ⟨h.len, ⟨h.own.1, ?_⟩, h.byt⟩
  rcases h.own.2 with hv | ⟨g, cap, cur, hv, hg, hh, r⟩
  · exact .inl hv
  · refine .inr ⟨g, cap, cur, hv, hg, ?_, r⟩
    simp only [Value.slice.injEq] at hv
    rw [heap_setCell_other w ⟨b, i, none⟩ g u (hb g ⟨_, hv.1, rfl⟩)]
    exact hh
theorem Mine.off {B g : Nat} {w : World} {ao : Option Addr} {n c : Nat} {bs : List Int} (h : Mine B w ao n c bs) (hg : g < B) : Off ao n g := by
  intro _ a ha
  have := (h.ob ⟨a, ha, rfl⟩).1
  omega
theorem mine_at {B g : Nat} {w : World} {n c : Nat} {bs : List Int} (h : Mine B w (some ⟨g, 0, none⟩) n c bs) {i : Nat} (hi : i < n) : w.cell? ⟨g, i, none⟩ = some (.int .u8 (ix bs i)) := by
  rcases h.bs.at' with h0 | ⟨b, off, e, hc⟩
  · omega
  · simp only [Option.some.injEq, Addr.mk.injEq, and_true] at e
    obtain ⟨rfl, rfl⟩ := e
    have := hc i hi
    rw [Nat.zero_add] at this
    rw [this]
    simp [ix]
theorem xor_u8_wd (a b : Int) : 0 ≤ bits .xor .u8 a b ∧ bits .xor .u8 a b ≤ 255 := by
  show 0 ≤ IntKind.u8.wrap _ ∧ IntKind.u8.wrap _ ≤ 255
  rw [IntKind.wrap_u8]
  omega

set_option maxHeartbeats 2000000 in
theorem lawPieces0 (k : Int) (lo : Option Addr) (ln lc : Nat) (w : World) (hv : Vars w) (h1 : ¬ k = 1) (h2 : ¬ k = 2) :
    Calls Tryd.prog 5 #[.int .i64 k, .slice lo ln lc] w fun e w' => e = .returned (.bool true) ∧ Below w.heap.size w w' := by
  have lc' := hide (shalives_any w hv)
  have HN := hide (fun wx => new_other k wx h1 h2)
  have k1 : (k != 1) = true := by simpa using h1
  have k2 : (k != 2) = true := by simpa using h2
  clear hv h1 h2
  go_enter Tryd.func5, Tryd.ntmps5
  go_wp2_with fail
  refine (unhide lc').mono ?_
  rintro e w1 ⟨rfl, b1⟩
  go_wp2_with fail
  refine same_world (unhide HN _) ?_
  go_wp2_with fail
  go_ret
  exact ⟨rfl, b1⟩

set_option maxHeartbeats 8000000 in
set_option maxRecDepth 20000 in
theorem lawPieces1 (lo : Option Addr) (ln lc : Nat) (w : World) (hv : Vars w) (hl : Bss w lo ln lc) :
    Calls Tryd.prog 5 #[.int .i64 1, .slice lo ln lc] w fun e w' => e = .returned (.bool true) ∧ Below w.heap.size w w' := by
  have hlle := hl.le
  have hlmx := hl.max
  have HL := hide hl
  have HV := hide hv
  have hsz := hv.size
  have lv := hide (shalives_any w hv)
  clear hv hl
  go_enter Tryd.func5, Tryd.ntmps5
  go_wp2_with fail
  refine (unhide lv).mono ?_
  rintro e w1 ⟨rfl, b1⟩
  have nc := hide (new_any 1 w1 (by omega))
  have hs1 := b1.size
  have B1 := hide b1
  clear b1 lv
  go_wp2_with fail
  refine (unhide nc).mono ?_
  rintro e w2 ⟨g, rfl, hg1, ho2, b2⟩
  have hgs := ho2.lt
  have Ho2 := hide ho2
  have B2 := hide ((unhide B1).trans (b2.mono hs1))
  have hwg : w.heap.size ≤ g := by omega
  have hg : 1 ≤ g := by omega
  clear ho2 b2 nc B1
  go_wp2_with fail
  go_loopw [8, 7, 6] (fun i v e ws => ∃ (j n : Nat) (ao : Option Addr) (c : Nat) (xs : List Int), j ≤ ln ∧ j ≤ 60 ∧ n ≤ 5000 ∧ i = .int .i64 j ∧ v = .slice ao n c ∧ e = .int .i64 0 ∧ Mine w2.heap.size ws ao n c xs ∧ Ho ws g 1 xs ∧ Below w.heap.size w ws ∧ w2.heap.size ≤ ws.heap.size) (fun i _ _ _ => 60 - (intOf i).toNat)
  case atStart => exact ⟨0, 0, none, 0, [], by omega, by omega, by omega, rfl, rfl, rfl, Mine.nought _ _, unhide Ho2, unhide B2, Nat.le_refl _⟩
  case round =>
    clear Ho2 B2
    obtain ⟨j, n, ao, c, xs, hj1, hj2, hn, rfl, rfl, rfl, hM, hH, hB, hws⟩ := hrel
    by_cases t1 : j < ln
    · by_cases t2 : j < 60
      · obtain ⟨pb, po, ai, ni, ci, bs, hix, hcw, hbw, hnb⟩ := (unhide HL).at' j t1
        have hcell := cell_later hB hcw
        have hbs := hbw.later hB
        have HCW := hide hcw
        have HBW0 := hide hbw
        clear hcw hbw
        have hnc := hbs.le
        have hncm := hbs.max
        by_cases t3 : n + ni ≤ 5000
        · have t1' : (j : Int) < (ln : Int) := by omega
          have t2' : (j : Int) < 60 := by omega
          have t3' : (n : Int) + (ni : Int) ≤ 5000 := by omega
          obtain ⟨N, hN⟩ : ∃ N, n + ni = N := ⟨_, rfl⟩
          have HN := hide hN
          have N5 : N ≤ 5000 := by omega
          have hxl := hide hM.len
          have hxb := hide hM.byt
          have hbl := hide hbs.len
          have hbb := hide hbs.byt
          have HM := hide hM
          have HH := hide hH
          have HBw := hide hB
          have HBS := hide hbs
          have hgw : g < wr.heap.size := hH.lt
          have hpb := World.block_lt_of_cell? wr _ hcell
          have HX := hide hix
          have HC := hide hcell
          have ME := hide (Mine.empty wr)
          have BE := hide (hbs.later (below_alloc wr (.cells #[] 5)))
          have zE : wr.heap.size ≤ (wr.alloc (.cells #[] 5)).heap.size := by simp
          have hca := hide (fun (o : Obj) => (show (wr.alloc o).cell? ⟨pb, po, none⟩ = some (.slice ai ni ci) from (cell_under wr o pb po hpb).trans hcell))
          have hcal := unhide hca (.cells #[] 5)
          clear hM hH hB hbs hN t3 hca
          go_wp2_with (first
            | (at_builtin; refine wpList_app rfl (.tmp 58) (.tmp 62) rfl wr.heap.size _ 0 0 _ rfl (unhide ME) _ ni ci _ rfl (unhide BE) (by omega) zE ?_; intro a3 c3 w3 m3 b3; simp only [Nat.zero_add, List.nil_append] at m3 ⊢; have M3 := hide m3; have b3' := (below_alloc wr (.cells #[] 5)).trans b3; have B3 := hide b3'; have HH3 := hide ((unhide HH).later b3'); have HM3 := hide ((unhide HM).later b3'); have BW3 := hide ((unhide HBw).trans (b3'.mono (unhide HBw).size)); have s3 := b3'.size; clear m3 b3 b3'))
          have wc := hide (write_any g 1 xs a3 ni c3 bs w3 (unhide HH3) (by omega) (unhide hxb) (unhide M3).bs ((unhide M3).off hgw) hg ((unhide HV).low (unhide BW3)) (by rw [unhide hxl]; omega))
          clear ME BE zE hcal
          refine (unhide wc).mono ?_
          rintro e w4 ⟨rfl, h4, g4⟩
          have H4 := hide h4
          have M4 := hide ((unhide M3).gb hgw g4)
          have A4 := hide ((unhide HM3).gb hgs g4)
          have BW4 := hide ((unhide BW3).trans ((g4.below (by omega)).mono hwg))
          have s4 := g4.size
          have OB := hide (fun k (hk : ob ao k) => ((unhide HM).ob hk).2)
          have OB2 := hide (fun k (hk : ob a3 k) => ((unhide M3).ob hk).1)
          clear h4 g4 wc M3 HH3 HM3 BW3 HM HH HBw
          go_wp2_with fail
          go_loopw [10] (fun i ws => ∃ (q : Nat) (l : List Int), q ≤ ni ∧ q ≤ 3 ∧ i = .int .i64 q ∧ Mine wr.heap.size ws a3 ni c3 l ∧ Ho ws g 1 (xs ++ bs) ∧ Mine w2.heap.size ws ao n c xs ∧ Below w.heap.size w ws ∧ w4.heap.size ≤ ws.heap.size) (fun i _ => 3 - (intOf i).toNat)
          case atStart => exact ⟨0, bs, by omega, by omega, rfl, unhide M4, unhide H4, unhide A4, unhide BW4, Nat.le_refl _⟩
          case round =>
            clear M4 H4 A4 BW4
            obtain ⟨q, l, hq1, hq2, rfl, hMl, hHl, hAl, hBl, hsl⟩ := hrel
            by_cases u1 : q < ni
            · by_cases u2 : q < 3
              · have u1' : (q : Int) < (ni : Int) := by omega
                have u2' : (q : Int) < 3 := by omega
                obtain ⟨gO, rfl⟩ := hMl.some (by omega)
                have hgO := hMl.block
                have cq := mine_at hMl u1
                have fq := hMl.free q
                have hs8 : IntKind.u8.signed = false := rfl
                have hm8 : IntKind.u8.max = 255 := rfl
                obtain ⟨X0, X1⟩ : 0 ≤ ix l q ∧ ix l q ≤ 255 := hMl.byt.at q
                obtain ⟨V0, V1⟩ := xor_u8_wd 255 (ix l q)
                have iq : 0 ≤ (q : Int) := by omega
                generalize ix l q = X at *
                have AL := hide hAl
                have ML := hide hMl
                have HLo := hide hHl
                clear hAl hMl hHl
                go_wp2_with fail
                go_roundw
                case rel =>
                  refine ⟨q + 1, l.set q (bits .xor .u8 255 X), by omega, by omega, by go_num, (unhide ML).stored q _ V0 V1, (unhide HLo).keep (heap_setCell_other _ _ _ _ (by simp; omega)), (unhide AL).under (fun k hk => by have := unhide OB k hk; omega) _, hBl.setCell (by simp; omega) _, by simpa using hsl⟩
                case measure => simp [intOf]; omega
              · have u1' : (q : Int) < (ni : Int) := by omega
                have u2' : ¬ (q : Int) < 3 := by omega
                have AL := hide hAl
                have HLo := hide hHl
                have HBl := hide hBl
                have cl := cell_later hBl (unhide HCW)
                have BS := hide ((unhide HBW0).later hBl)
                have zz : w2.heap.size ≤ wr.heap.size := by omega
                have hxN := hide (show (xs ++ bs).length = N by rw [List.length_append, unhide hxl, unhide hbl]; exact unhide HN)
                have hXB := hide (show Byt (xs ++ bs) from (unhide hxb).app (unhide hbb))
                clear hAl hHl hBl hMl
                go_wp2_with (first
                  | (at_builtin; refine wpList_app rfl (.tmp 85) (.tmp 89) rfl w2.heap.size ao n c xs rfl (unhide AL) ai ni ci bs rfl (unhide BS) (by omega) zz ?_; intro a5 c5 w5 m5 b5; rw [unhide HN] at m5 ⊢; have M5 := hide m5; have H5 := hide ((unhide HLo).keep (b5.block g hgs)); have B5 := hide ((unhide HBl).trans (b5.mono (by omega))); have s5 := b5.size; clear m5 b5))
                have sc := hide (sum1_any a5 N c5 (xs ++ bs) w5 (unhide M5).bs ((unhide HV).low (unhide B5)) (by omega))
                clear cl BS AL HLo HBl
                refine (unhide sc).mono ?_
                rintro e w6 ⟨a6, n6, c6, rfl, m6, b6⟩
                have WT := hide m6.bs
                have MX := hide ((unhide M5).later b6)
                have HX6 := hide ((unhide H5).later b6)
                have BX := hide ((unhide B5).trans (b6.mono (unhide B5).size))
                have sX := b6.size
                clear m6 b6 sc M5 H5 B5
                go_wp2_with fail
                have le := hide (len_any g 1 (xs ++ bs) w6 (unhide HX6) (by omega))
                rw [unhide hxN] at le
                have su := hide (sum_any g 1 (xs ++ bs) w6 (unhide HX6) (by omega) (unhide hXB) ((unhide HV).low (unhide BX)) (by rw [unhide hxN]; omega))
                refine same_world (unhide le) ?_
                go_wp2_with fail
                refine (unhide su).mono ?_
                rintro e w8 ⟨a8, n8, c8, rfl, m8, b8⟩
                have sb := hide (sameBytes_any a8 n8 c8 _ a6 n6 c6 _ w8 m8.bs ((unhide WT).later b8))
                rw [show decide (sumk 1 (xs ++ bs) = sumk 1 (xs ++ bs)) = true by simp] at sb
                have M8 := hide ((unhide MX).later b8)
                have H8 := hide ((unhide HX6).later b8)
                have B8 := hide ((unhide BX).trans (b8.mono (unhide BX).size))
                have s8 := b8.size
                clear m8 b8 su le MX HX6 BX WT
                go_wp2_with fail
                refine same_world (unhide sb) ?_
                go_wp2_with fail
                go_roundw
                case rel => exact ⟨j + 1, N, a5, c5, xs ++ bs, by omega, by omega, N5, by go_num, rfl, rfl, unhide M8, unhide H8, unhide B8, by omega⟩
                case measure => simp [intOf]; omega
            · have u1' : ¬ (q : Int) < (ni : Int) := by omega
              have AL := hide hAl
              have HLo := hide hHl
              have HBl := hide hBl
              have cl := cell_later hBl (unhide HCW)
              have BS := hide ((unhide HBW0).later hBl)
              have zz : w2.heap.size ≤ wr.heap.size := by omega
              have hxN := hide (show (xs ++ bs).length = N by rw [List.length_append, unhide hxl, unhide hbl]; exact unhide HN)
              have hXB := hide (show Byt (xs ++ bs) from (unhide hxb).app (unhide hbb))
              clear hAl hHl hBl hMl
              go_wp2_with (first
                | (at_builtin; refine wpList_app rfl (.tmp 85) (.tmp 89) rfl w2.heap.size ao n c xs rfl (unhide AL) ai ni ci bs rfl (unhide BS) (by omega) zz ?_; intro a5 c5 w5 m5 b5; rw [unhide HN] at m5 ⊢; have M5 := hide m5; have H5 := hide ((unhide HLo).keep (b5.block g hgs)); have B5 := hide ((unhide HBl).trans (b5.mono (by omega))); have s5 := b5.size; clear m5 b5))
              have sc := hide (sum1_any a5 N c5 (xs ++ bs) w5 (unhide M5).bs ((unhide HV).low (unhide B5)) (by omega))
              clear cl BS AL HLo HBl
              refine (unhide sc).mono ?_
              rintro e w6 ⟨a6, n6, c6, rfl, m6, b6⟩
              have WT := hide m6.bs
              have MX := hide ((unhide M5).later b6)
              have HX6 := hide ((unhide H5).later b6)
              have BX := hide ((unhide B5).trans (b6.mono (unhide B5).size))
              have sX := b6.size
              clear m6 b6 sc M5 H5 B5
              go_wp2_with fail
              have le := hide (len_any g 1 (xs ++ bs) w6 (unhide HX6) (by omega))
              rw [unhide hxN] at le
              have su := hide (sum_any g 1 (xs ++ bs) w6 (unhide HX6) (by omega) (unhide hXB) ((unhide HV).low (unhide BX)) (by rw [unhide hxN]; omega))
              refine same_world (unhide le) ?_
              go_wp2_with fail
              refine (unhide su).mono ?_
              rintro e w8 ⟨a8, n8, c8, rfl, m8, b8⟩
              have sb := hide (sameBytes_any a8 n8 c8 _ a6 n6 c6 _ w8 m8.bs ((unhide WT).later b8))
              rw [show decide (sumk 1 (xs ++ bs) = sumk 1 (xs ++ bs)) = true by simp] at sb
              have M8 := hide ((unhide MX).later b8)
              have H8 := hide ((unhide HX6).later b8)
              have B8 := hide ((unhide BX).trans (b8.mono (unhide BX).size))
              have s8 := b8.size
              clear m8 b8 su le MX HX6 BX WT
              go_wp2_with fail
              refine same_world (unhide sb) ?_
              go_wp2_with fail
              go_roundw
              case rel => exact ⟨j + 1, N, a5, c5, xs ++ bs, by omega, by omega, N5, by go_num, rfl, rfl, unhide M8, unhide H8, unhide B8, by omega⟩
              case measure => simp [intOf]; omega
        · have t1' : (j : Int) < (ln : Int) := by omega
          have t2' : (j : Int) < 60 := by omega
          have t3' : ¬ (n : Int) + (ni : Int) ≤ 5000 := by omega
          have HBw := hide hB
          clear hM hH hB hbs
          go_wp2_with fail
          go_ret
          exact ⟨rfl, unhide HBw⟩
      · have t1' : (j : Int) < (ln : Int) := by omega
        have t2' : ¬ (j : Int) < 60 := by omega
        have HBw := hide hB
        clear hM hH hB
        go_wp2_with fail
        go_ret
        exact ⟨rfl, unhide HBw⟩
    · have t1' : ¬ (j : Int) < (ln : Int) := by omega
      have HBw := hide hB
      clear hM hH hB
      go_wp2_with fail
      go_ret
      exact ⟨rfl, unhide HBw⟩

set_option maxHeartbeats 8000000 in
set_option maxRecDepth 20000 in
theorem lawPieces2 (lo : Option Addr) (ln lc : Nat) (w : World) (hv : Vars w) (hl : Bss w lo ln lc) :
    Calls Tryd.prog 5 #[.int .i64 2, .slice lo ln lc] w fun e w' => e = .returned (.bool true) ∧ Below w.heap.size w w' := by
  have hlle := hl.le
  have hlmx := hl.max
  have HL := hide hl
  have HV := hide hv
  have hsz := hv.size
  have lv := hide (shalives_any w hv)
  clear hv hl
  go_enter Tryd.func5, Tryd.ntmps5
  go_wp2_with fail
  refine (unhide lv).mono ?_
  rintro e w1 ⟨rfl, b1⟩
  have nc := hide (new_any 2 w1 (by omega))
  have hs1 := b1.size
  have B1 := hide b1
  clear b1 lv
  go_wp2_with fail
  refine (unhide nc).mono ?_
  rintro e w2 ⟨g, rfl, hg1, ho2, b2⟩
  have hgs := ho2.lt
  have Ho2 := hide ho2
  have B2 := hide ((unhide B1).trans (b2.mono hs1))
  have hwg : w.heap.size ≤ g := by omega
  have hg : 1 ≤ g := by omega
  clear ho2 b2 nc B1
  go_wp2_with fail
  go_loopw [8, 7, 6] (fun i v e ws => ∃ (j n : Nat) (ao : Option Addr) (c : Nat) (xs : List Int), j ≤ ln ∧ j ≤ 60 ∧ n ≤ 5000 ∧ i = .int .i64 j ∧ v = .slice ao n c ∧ e = .int .i64 0 ∧ Mine w2.heap.size ws ao n c xs ∧ Ho ws g 2 xs ∧ Below w.heap.size w ws ∧ w2.heap.size ≤ ws.heap.size) (fun i _ _ _ => 60 - (intOf i).toNat)
  case atStart => exact ⟨0, 0, none, 0, [], by omega, by omega, by omega, rfl, rfl, rfl, Mine.nought _ _, unhide Ho2, unhide B2, Nat.le_refl _⟩
  case round =>
    clear Ho2 B2
    obtain ⟨j, n, ao, c, xs, hj1, hj2, hn, rfl, rfl, rfl, hM, hH, hB, hws⟩ := hrel
    by_cases t1 : j < ln
    · by_cases t2 : j < 60
      · obtain ⟨pb, po, ai, ni, ci, bs, hix, hcw, hbw, hnb⟩ := (unhide HL).at' j t1
        have hcell := cell_later hB hcw
        have hbs := hbw.later hB
        have HCW := hide hcw
        have HBW0 := hide hbw
        clear hcw hbw
        have hnc := hbs.le
        have hncm := hbs.max
        by_cases t3 : n + ni ≤ 5000
        · have t1' : (j : Int) < (ln : Int) := by omega
          have t2' : (j : Int) < 60 := by omega
          have t3' : (n : Int) + (ni : Int) ≤ 5000 := by omega
          obtain ⟨N, hN⟩ : ∃ N, n + ni = N := ⟨_, rfl⟩
          have HN := hide hN
          have N5 : N ≤ 5000 := by omega
          have hxl := hide hM.len
          have hxb := hide hM.byt
          have hbl := hide hbs.len
          have hbb := hide hbs.byt
          have HM := hide hM
          have HH := hide hH
          have HBw := hide hB
          have HBS := hide hbs
          have hgw : g < wr.heap.size := hH.lt
          have hpb := World.block_lt_of_cell? wr _ hcell
          have HX := hide hix
          have HC := hide hcell
          have ME := hide (Mine.empty wr)
          have BE := hide (hbs.later (below_alloc wr (.cells #[] 5)))
          have zE : wr.heap.size ≤ (wr.alloc (.cells #[] 5)).heap.size := by simp
          have hca := hide (fun (o : Obj) => (show (wr.alloc o).cell? ⟨pb, po, none⟩ = some (.slice ai ni ci) from (cell_under wr o pb po hpb).trans hcell))
          have hcal := unhide hca (.cells #[] 5)
          clear hM hH hB hbs hN t3 hca
          go_wp2_with (first
            | (at_builtin; refine wpList_app rfl (.tmp 58) (.tmp 62) rfl wr.heap.size _ 0 0 _ rfl (unhide ME) _ ni ci _ rfl (unhide BE) (by omega) zE ?_; intro a3 c3 w3 m3 b3; simp only [Nat.zero_add, List.nil_append] at m3 ⊢; have M3 := hide m3; have b3' := (below_alloc wr (.cells #[] 5)).trans b3; have B3 := hide b3'; have HH3 := hide ((unhide HH).later b3'); have HM3 := hide ((unhide HM).later b3'); have BW3 := hide ((unhide HBw).trans (b3'.mono (unhide HBw).size)); have s3 := b3'.size; clear m3 b3 b3'))
          have wc := hide (write_any g 2 xs a3 ni c3 bs w3 (unhide HH3) (by omega) (unhide hxb) (unhide M3).bs ((unhide M3).off hgw) hg ((unhide HV).low (unhide BW3)) (by rw [unhide hxl]; omega))
          clear ME BE zE hcal
          refine (unhide wc).mono ?_
          rintro e w4 ⟨rfl, h4, g4⟩
          have H4 := hide h4
          have M4 := hide ((unhide M3).gb hgw g4)
          have A4 := hide ((unhide HM3).gb hgs g4)
          have BW4 := hide ((unhide BW3).trans ((g4.below (by omega)).mono hwg))
          have s4 := g4.size
          have OB := hide (fun k (hk : ob ao k) => ((unhide HM).ob hk).2)
          have OB2 := hide (fun k (hk : ob a3 k) => ((unhide M3).ob hk).1)
          clear h4 g4 wc M3 HH3 HM3 BW3 HM HH HBw
          go_wp2_with fail
          go_loopw [10] (fun i ws => ∃ (q : Nat) (l : List Int), q ≤ ni ∧ q ≤ 3 ∧ i = .int .i64 q ∧ Mine wr.heap.size ws a3 ni c3 l ∧ Ho ws g 2 (xs ++ bs) ∧ Mine w2.heap.size ws ao n c xs ∧ Below w.heap.size w ws ∧ w4.heap.size ≤ ws.heap.size) (fun i _ => 3 - (intOf i).toNat)
          case atStart => exact ⟨0, bs, by omega, by omega, rfl, unhide M4, unhide H4, unhide A4, unhide BW4, Nat.le_refl _⟩
          case round =>
            clear M4 H4 A4 BW4
            obtain ⟨q, l, hq1, hq2, rfl, hMl, hHl, hAl, hBl, hsl⟩ := hrel
            by_cases u1 : q < ni
            · by_cases u2 : q < 3
              · have u1' : (q : Int) < (ni : Int) := by omega
                have u2' : (q : Int) < 3 := by omega
                obtain ⟨gO, rfl⟩ := hMl.some (by omega)
                have hgO := hMl.block
                have cq := mine_at hMl u1
                have fq := hMl.free q
                have hs8 : IntKind.u8.signed = false := rfl
                have hm8 : IntKind.u8.max = 255 := rfl
                obtain ⟨X0, X1⟩ : 0 ≤ ix l q ∧ ix l q ≤ 255 := hMl.byt.at q
                obtain ⟨V0, V1⟩ := xor_u8_wd 255 (ix l q)
                have iq : 0 ≤ (q : Int) := by omega
                generalize ix l q = X at *
                have AL := hide hAl
                have ML := hide hMl
                have HLo := hide hHl
                clear hAl hMl hHl
                go_wp2_with fail
                go_roundw
                case rel =>
                  refine ⟨q + 1, l.set q (bits .xor .u8 255 X), by omega, by omega, by go_num, (unhide ML).stored q _ V0 V1, (unhide HLo).keep (heap_setCell_other _ _ _ _ (by simp; omega)), (unhide AL).under (fun k hk => by have := unhide OB k hk; omega) _, hBl.setCell (by simp; omega) _, by simpa using hsl⟩
                case measure => simp [intOf]; omega
              · have u1' : (q : Int) < (ni : Int) := by omega
                have u2' : ¬ (q : Int) < 3 := by omega
                have AL := hide hAl
                have HLo := hide hHl
                have HBl := hide hBl
                have cl := cell_later hBl (unhide HCW)
                have BS := hide ((unhide HBW0).later hBl)
                have zz : w2.heap.size ≤ wr.heap.size := by omega
                have hxN := hide (show (xs ++ bs).length = N by rw [List.length_append, unhide hxl, unhide hbl]; exact unhide HN)
                have hXB := hide (show Byt (xs ++ bs) from (unhide hxb).app (unhide hbb))
                clear hAl hHl hBl hMl
                go_wp2_with (first
                  | (at_builtin; refine wpList_app rfl (.tmp 85) (.tmp 89) rfl w2.heap.size ao n c xs rfl (unhide AL) ai ni ci bs rfl (unhide BS) (by omega) zz ?_; intro a5 c5 w5 m5 b5; rw [unhide HN] at m5 ⊢; have M5 := hide m5; have H5 := hide ((unhide HLo).keep (b5.block g hgs)); have B5 := hide ((unhide HBl).trans (b5.mono (by omega))); have s5 := b5.size; clear m5 b5))
                have sc := hide (sum1_any a5 N c5 (xs ++ bs) w5 (unhide M5).bs ((unhide HV).low (unhide B5)) (by omega))
                clear cl BS AL HLo HBl
                refine (unhide sc).mono ?_
                rintro e w6 ⟨a6, n6, c6, rfl, m6, b6⟩
                have M6 := hide ((unhide M5).later b6)
                have H6 := hide ((unhide H5).later b6)
                have B6 := hide ((unhide B5).trans (b6.mono (unhide B5).size))
                have s6 := b6.size
                have sd := hide (sum256_any a5 N c5 (xs ++ bs) w6 (unhide M6).bs ((unhide HV).low (unhide B6)) (by omega))
                clear m6 b6 sc M5 H5 B5
                go_wp2_with fail
                refine (unhide sd).mono ?_
                rintro e w7 ⟨a7, n7, c7, rfl, m7, b7⟩
                have WT := hide m7.bs
                have MX := hide ((unhide M6).later b7)
                have HX6 := hide ((unhide H6).later b7)
                have BX := hide ((unhide B6).trans (b7.mono (unhide B6).size))
                have sX := b7.size
                clear m7 b7 sd M6 H6 B6
                go_wp2_with fail
                have le := hide (len_any g 2 (xs ++ bs) w7 (unhide HX6) (by omega))
                rw [unhide hxN] at le
                have su := hide (sum_any g 2 (xs ++ bs) w7 (unhide HX6) (by omega) (unhide hXB) ((unhide HV).low (unhide BX)) (by rw [unhide hxN]; omega))
                refine same_world (unhide le) ?_
                go_wp2_with fail
                refine (unhide su).mono ?_
                rintro e w8 ⟨a8, n8, c8, rfl, m8, b8⟩
                have sb := hide (sameBytes_any a8 n8 c8 _ a7 n7 c7 _ w8 m8.bs ((unhide WT).later b8))
                rw [show decide (sumk 2 (xs ++ bs) = sumk 2 (xs ++ bs)) = true by simp] at sb
                have M8 := hide ((unhide MX).later b8)
                have H8 := hide ((unhide HX6).later b8)
                have B8 := hide ((unhide BX).trans (b8.mono (unhide BX).size))
                have s8 := b8.size
                clear m8 b8 su le MX HX6 BX WT
                go_wp2_with fail
                refine same_world (unhide sb) ?_
                go_wp2_with fail
                go_roundw
                case rel => exact ⟨j + 1, N, a5, c5, xs ++ bs, by omega, by omega, N5, by go_num, rfl, rfl, unhide M8, unhide H8, unhide B8, by omega⟩
                case measure => simp [intOf]; omega
            · have u1' : ¬ (q : Int) < (ni : Int) := by omega
              have AL := hide hAl
              have HLo := hide hHl
              have HBl := hide hBl
              have cl := cell_later hBl (unhide HCW)
              have BS := hide ((unhide HBW0).later hBl)
              have zz : w2.heap.size ≤ wr.heap.size := by omega
              have hxN := hide (show (xs ++ bs).length = N by rw [List.length_append, unhide hxl, unhide hbl]; exact unhide HN)
              have hXB := hide (show Byt (xs ++ bs) from (unhide hxb).app (unhide hbb))
              clear hAl hHl hBl hMl
              go_wp2_with (first
                | (at_builtin; refine wpList_app rfl (.tmp 85) (.tmp 89) rfl w2.heap.size ao n c xs rfl (unhide AL) ai ni ci bs rfl (unhide BS) (by omega) zz ?_; intro a5 c5 w5 m5 b5; rw [unhide HN] at m5 ⊢; have M5 := hide m5; have H5 := hide ((unhide HLo).keep (b5.block g hgs)); have B5 := hide ((unhide HBl).trans (b5.mono (by omega))); have s5 := b5.size; clear m5 b5))
              have sc := hide (sum1_any a5 N c5 (xs ++ bs) w5 (unhide M5).bs ((unhide HV).low (unhide B5)) (by omega))
              clear cl BS AL HLo HBl
              refine (unhide sc).mono ?_
              rintro e w6 ⟨a6, n6, c6, rfl, m6, b6⟩
              have M6 := hide ((unhide M5).later b6)
              have H6 := hide ((unhide H5).later b6)
              have B6 := hide ((unhide B5).trans (b6.mono (unhide B5).size))
              have s6 := b6.size
              have sd := hide (sum256_any a5 N c5 (xs ++ bs) w6 (unhide M6).bs ((unhide HV).low (unhide B6)) (by omega))
              clear m6 b6 sc M5 H5 B5
              go_wp2_with fail
              refine (unhide sd).mono ?_
              rintro e w7 ⟨a7, n7, c7, rfl, m7, b7⟩
              have WT := hide m7.bs
              have MX := hide ((unhide M6).later b7)
              have HX6 := hide ((unhide H6).later b7)
              have BX := hide ((unhide B6).trans (b7.mono (unhide B6).size))
              have sX := b7.size
              clear m7 b7 sd M6 H6 B6
              go_wp2_with fail
              have le := hide (len_any g 2 (xs ++ bs) w7 (unhide HX6) (by omega))
              rw [unhide hxN] at le
              have su := hide (sum_any g 2 (xs ++ bs) w7 (unhide HX6) (by omega) (unhide hXB) ((unhide HV).low (unhide BX)) (by rw [unhide hxN]; omega))
              refine same_world (unhide le) ?_
              go_wp2_with fail
              refine (unhide su).mono ?_
              rintro e w8 ⟨a8, n8, c8, rfl, m8, b8⟩
              have sb := hide (sameBytes_any a8 n8 c8 _ a7 n7 c7 _ w8 m8.bs ((unhide WT).later b8))
              rw [show decide (sumk 2 (xs ++ bs) = sumk 2 (xs ++ bs)) = true by simp] at sb
              have M8 := hide ((unhide MX).later b8)
              have H8 := hide ((unhide HX6).later b8)
              have B8 := hide ((unhide BX).trans (b8.mono (unhide BX).size))
              have s8 := b8.size
              clear m8 b8 su le MX HX6 BX WT
              go_wp2_with fail
              refine same_world (unhide sb) ?_
              go_wp2_with fail
              go_roundw
              case rel => exact ⟨j + 1, N, a5, c5, xs ++ bs, by omega, by omega, N5, by go_num, rfl, rfl, unhide M8, unhide H8, unhide B8, by omega⟩
              case measure => simp [intOf]; omega
        · have t1' : (j : Int) < (ln : Int) := by omega
          have t2' : (j : Int) < 60 := by omega
          have t3' : ¬ (n : Int) + (ni : Int) ≤ 5000 := by omega
          have HBw := hide hB
          clear hM hH hB hbs
          go_wp2_with fail
          go_ret
          exact ⟨rfl, unhide HBw⟩
      · have t1' : (j : Int) < (ln : Int) := by omega
        have t2' : ¬ (j : Int) < 60 := by omega
        have HBw := hide hB
        clear hM hH hB
        go_wp2_with fail
        go_ret
        exact ⟨rfl, unhide HBw⟩
    · have t1' : ¬ (j : Int) < (ln : Int) := by omega
      have HBw := hide hB
      clear hM hH hB
      go_wp2_with fail
      go_ret
      exact ⟨rfl, unhide HBw⟩

theorem lawShaPieces (k : Int) (lo : Option Addr) (ln lc : Nat) (w : World) (hv : Vars w) (hl : Bss w lo ln lc) :
    Calls Tryd.prog 5 #[.int .i64 k, .slice lo ln lc] w fun e w' => e = .returned (.bool true) ∧ Below w.heap.size w w' := by
  by_cases h1 : k = 1
  · subst h1
    exact lawPieces1 lo ln lc w hv hl
  · by_cases h2 : k = 2
    · subst h2
      exact lawPieces2 lo ln lc w hv hl
    · exact lawPieces0 k lo ln lc w hv h1 h2

end Go.Proofs.YtcjhgpgdhbbgbaaDoor
