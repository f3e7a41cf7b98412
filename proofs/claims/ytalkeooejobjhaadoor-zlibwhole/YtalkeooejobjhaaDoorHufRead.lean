/-
  What bitsFrom, the closure that it answers, and the decoder's method read, of package huffman, return. Conditions: the slices can be read, the lengths are a code, at most a million bytes.
-/
import Derived.Test.YtalkeooejobjhaaDoorHufDec
import Derived.Test.YtalkeooejobjhaaDoorMMem
namespace Go.Proofs.YtalkeooejobjhaaDoor
open Go.RowKit
set_option linter.unusedVariables false
set_option linter.unusedSimpArgs false

/-- Block g is one cell. -/
def One (w : World) (g : Nat) (t : TypeId) (v : Value) : Prop := w.heap[g]? = some (.cells #[v] t (0, 0))
theorem One.lt {w : World} {g : Nat} {t : TypeId} {v : Value} (h : One w g t v) : g < w.heap.size := (Array.getElem?_eq_some_iff.1 h).1
theorem One.later {w w' : World} {g : Nat} {t : TypeId} {v : Value} (h : One w g t v) (hb : Below w.heap.size w w') : One w' g t v := by
  unfold One
  rw [hb.block g h.lt]
  exact h
theorem One.cell {w : World} {g : Nat} {t : TypeId} {v : Value} (h : One w g t v) : w.cell? ⟨g, 0, none⟩ = some v := by
  rw [cell_of_row w g 0 _ _ _ h]; rfl
theorem One.free {w : World} {g : Nat} {t : TypeId} {v : Value} (h : One w g t v) : w.frozen? ⟨g, 0, none⟩ = false := frozen_of_row w g 0 _ _ h
theorem One.stored {w : World} {g : Nat} {t : TypeId} {v : Value} (h : One w g t v) (u : Value) : One (w.setCell ⟨g, 0, none⟩ u) g t u := by
  unfold One
  rw [heap_setCell_same w g 0 _ _ _ h]; rfl

/-- Only block g has changed. -/
structure But (g : Nat) (w w' : World) : Prop where
  os : w'.os = w.os
  tape : w'.tape = w.tape
  output : w'.output = w.output
  size : w'.heap.size = w.heap.size
  block : ∀ k, k ≠ g → w'.heap[k]? = w.heap[k]?
theorem But.refl (g : Nat) (w : World) : But g w w := ⟨rfl, rfl, rfl, rfl, fun _ _ => rfl⟩
theorem But.trans {g : Nat} {a b c : World} (h : But g a b) (k : But g b c) : But g a c :=
  ⟨k.os.trans h.os, k.tape.trans h.tape, k.output.trans h.output, k.size.trans h.size, fun i hi => (k.block i hi).trans (h.block i hi)⟩
theorem But.below {g : Nat} {w w' : World} (h : But g w w') : Below g w w' := ⟨h.os, h.tape, h.output, Nat.le_of_eq h.size.symm, fun k hk => h.block k (by omega)⟩
theorem But.setCell (w : World) (g i : Nat) (u : Value) : But g w (w.setCell ⟨g, i, none⟩ u) :=
  ⟨rfl, rfl, rfl, by simp, fun k hk => heap_setCell_other w ⟨g, i, none⟩ k u hk⟩
theorem One.but {w w' : World} {g p : Nat} {t : TypeId} {v : Value} (h : One w g t v) (hb : But p w w') (hne : g ≠ p) : One w' g t v := by
  unfold One; rw [hb.block g hne]; exact h
theorem Dcr.but {w w' : World} {g p : Nat} {l : List Int} (h : Dcr w g l) (hb : But p w w') (hne : g ≠ p) : Dcr w' g l := by
  unfold Dcr; rw [hb.block g hne]; exact h

theorem shr_bd (v : Int) (k : Nat) (h0 : 0 ≤ v) (h1 : v ≤ 255) : 0 ≤ v / 2 ^ k ∧ v / 2 ^ k ≤ 255 := by
  have hp : (0 : Int) < 2 ^ k := Int.pow_pos (by omega)
  refine ⟨Int.ediv_nonneg h0 (by omega), ?_⟩
  have := Int.ediv_le_self (2 ^ k) h0
  omega

set_option maxHeartbeats 1000000 in
theorem next_short (P Q : Nat) (at_ : Nat) (ao : Option Addr) (n c : Nat) (bs : List Int) (w : World) (hP : One w P 3 (.int .i64 (at_ : Int))) (hQ : One w Q 22 (.slice ao n c)) (h : Bs w ao n c bs) (hn : n ≤ 1000000) (hat : (at_ : Int) ≤ 9223372036854775807) (hs : n ≤ at_ / 8) :
    Calls Tryd.prog 77 #[.pointer (some ⟨P, 0, none⟩), .pointer (some ⟨Q, 0, none⟩)] w fun e w' => e = .returned (.tuple #[.int .i64 0, .bool false]) ∧ w' = w := by
  have c1 := hP.cell
  have c2 := hQ.cell
  have hmax := h.max
  have hle := h.le
  have hs' : (n : Int) ≤ (at_ : Int) / 8 := by omega
  clear h hP hQ hs
  generalize (at_ : Int) = A at *
  go_enter Tryd.func77, Tryd.ntmps77
  go_wp2_with fail
  go_ret2
  exact ⟨rfl, rfl⟩

set_option maxHeartbeats 1000000 in
theorem next_bit (P Q : Nat) (at_ : Nat) (ao : Option Addr) (n c : Nat) (bs : List Int) (w : World) (hP : One w P 3 (.int .i64 (at_ : Int))) (hQ : One w Q 22 (.slice ao n c)) (h : Bs w ao n c bs) (hn : n ≤ 1000000) (hs : at_ / 8 < n) :
    Calls Tryd.prog 77 #[.pointer (some ⟨P, 0, none⟩), .pointer (some ⟨Q, 0, none⟩)] w fun e w' => e = .returned (.tuple #[.int .i64 (bitAt bs at_), .bool true]) ∧ One w' P 3 (.int .i64 ((at_ + 1 : Nat) : Int)) ∧ But P w w' := by
  have c1 := hP.cell
  have f1 := hP.free
  have c2 := hQ.cell
  have hmax := h.max
  have hle := h.le
  obtain ⟨b, o, hix, hcx⟩ := h.idx hs ((at_ : Int) / 8) (by omega)
  have hb := h.byt.at (at_ / 8)
  have HP := hide hP
  have hs' : (at_ : Int) / 8 < (n : Int) := by omega
  obtain ⟨v, hv⟩ : ∃ v, v = bs[at_ / 8]?.getD 0 := ⟨_, rfl⟩
  rw [← hv] at hcx hb
  have hbit := hide (show bitAt bs at_ = v / 2 ^ (at_ % 8) % 2 by unfold bitAt; rw [hv])
  have hy := shr_bd v (at_ % 8) hb.1 hb.2
  have ha := and1_u8 _ hy.1 hy.2
  clear h hP hQ hs hv
  go_enter Tryd.func77, Tryd.ntmps77
  go_wp2_with fail
  go_quiet (fail)
  go_wp2_with fail
  go_ret2
  refine ⟨?_, ?_, ?_⟩
  · rw [unhide hbit]
    rfl
  · have := One.stored (w := w.drewN nq) (unhide HP) (.int .i64 ((at_ : Int) + 1))
    rw [show ((at_ + 1 : Nat) : Int) = (at_ : Int) + 1 by omega]
    exact this
  · have := But.setCell (w.drewN nq) P 0 (.int .i64 ((at_ : Int) + 1))
    exact ⟨this.os, this.tape, this.output, this.size, this.block⟩

set_option maxHeartbeats 1000000 in
theorem bitsFrom_any (ao : Option Addr) (n c : Nat) (at_ : Int) (w : World) :
    Calls Tryd.prog 73 #[.slice ao n c, .int .i64 at_] w fun e w' => e = .returned (.func (.func 77) #[] #[.pointer (some ⟨w.heap.size + 1, 0, none⟩), .pointer (some ⟨w.heap.size, 0, none⟩)]) ∧ One w' w.heap.size 22 (.slice ao n c) ∧ One w' (w.heap.size + 1) 3 (.int .i64 at_) ∧ Below w.heap.size w w' ∧ w'.heap.size = w.heap.size + 2 := by
  go_enter Tryd.func73, Tryd.ntmps73
  go_wp2_with fail
  go_ret
  exact ⟨rfl, heap_alloc2_old w _ _, heap_alloc2_new w _ _, (below_alloc w _).alloc (by simp) _, by simp⟩

set_option maxHeartbeats 2000000 in
set_option maxRecDepth 20000 in
theorem read_any (g P Q at_ : Nat) (ao : Option Addr) (n c : Nat) (bs L o : List Int) (w : World) (hd : Dcr w g (dcl L o (lng L 16 : Nat))) (hO : Ord L o L.length) (hG : Good L)
    (hP : One w P 3 (.int .i64 (at_ : Int))) (hQ : One w Q 22 (.slice ao n c)) (hB : ∀ w', But P w w' → Bs w' ao n c bs) (hgP : g ≠ P) (hQP : Q ≠ P) (hn : n ≤ 1000000) (hat : (at_ : Int) ≤ 9223372036854775807) :
    Calls Tryd.prog 72 #[.pointer (some ⟨g, 0, none⟩), .func (.func 77) #[] #[.pointer (some ⟨P, 0, none⟩), .pointer (some ⟨Q, 0, none⟩)]] w
      fun e w' => e = .returned (.tuple #[.int .i64 (rd L bs at_).1, .int .i64 (rd L bs at_).2.1, .int .i64 (rd L bs at_).2.2]) ∧ But P w w' ∧ ((rd L bs at_).2.2 = 0 → One w' P 3 (.int .i64 ((at_ + (rd L bs at_).2.1.toNat : Nat) : Int))) := by
  have HAT := hide hat
  clear hat
  have hlg := lng_le L 16
  have hbl := hide (hB w (But.refl _ _)).len
  obtain ⟨lg, hlge⟩ : ∃ lg, lg = lng L 16 := ⟨_, rfl⟩
  have hR := hide (show rd L bs at_ = dec L bs at_ lg 0 0 by rw [hlge]; rfl)
  rw [← hlge] at hd hlg
  clear hlge
  generalize hRD : rd L bs at_ = R at *
  have HR := hide hRD
  clear hRD
  obtain ⟨r1, r2, r3⟩ := R
  have HD := hide hd
  have HO := hide hO
  have HG := hide hG
  have HP := hide hP
  have HQ := hide hQ
  have HB := hide hB
  clear hd hO hG hP hQ hB
  go_enter Tryd.func72, Tryd.ntmps72
  go_wp2_with fail
  go_loopw [7, 8, 9, 10] (fun x f p i wr => ∃ (m : Nat) (y : Int), m ≤ lg ∧ x = .int .i64 y ∧ f = .int .i64 (fc L (m + 1)) ∧ p = .int .i64 (pl L (m + 1)) ∧ i = .int .i64 ((m : Int) + 1) ∧ Fl L m ≤ y ∧ y < 2 ^ m ∧ (r1, r2, r3) = dec L bs at_ (lg - m) m y ∧ One wr P 3 (.int .i64 ((at_ + m : Nat) : Int)) ∧ But P w wr ∧ ((at_ + m : Nat) : Int) ≤ 9223372036854775807) (fun _ _ _ i _ => 17 - (intOf i).toNat)
  case atStart => exact ⟨0, 0, by omega, rfl, by rw [fc_succ]; rfl, by simp [pl, cz], rfl, by simp [Fl], by simp, unhide hR, unhide HP, But.refl _ _, unhide HAT⟩
  case round =>
    obtain ⟨m, y, hm, rfl, rfl, rfl, rfl, hy0, hy1, hdec, hone, hbut, hat2⟩ := hrel
    have HAT2 := hide hat2
    clear hat2
    have hd := (unhide HD).but hbut hgP
    have cL := hd.cell (i := 336) (by rw [dcl_len _ _ _ (unhide HO).len]; omega)
    rw [dcl_lng _ _ _ (unhide HO).len] at cL
    have hFn := Fl_nonneg L m
    have hp15 := pow_15 (show m ≤ 15 by omega)
    have y0 : 0 ≤ y := by omega
    have y1 : y < 32768 := by omega
    have HY0 := hide hy0
    have HY1 := hide hy1
    have HDEC := hide hdec
    have HONE := hide hone
    clear hy0 hy1 hdec hone hFn hp15 hd
    by_cases hlt : m < lg
    · obtain ⟨f, hf⟩ : ∃ f, lg - m = f + 1 := ⟨lg - m - 1, by omega⟩
      by_cases hs : (at_ + m) / 8 < n
      · have nb := hide (next_bit P Q (at_ + m) ao n c bs wr (unhide HONE) ((unhide HQ).but hbut hQP) (unhide HB wr hbut) hn hs)
        have hbb := bitAt_bd bs (at_ + m)
        have hnos := hide (show ¬ 8 * bs.length < at_ + m + 1 by rw [unhide hbl]; omega)
        obtain ⟨V, hV⟩ : ∃ V, V = bitAt bs (at_ + m) := ⟨_, rfl⟩
        have HV := hide hV
        rw [← hV] at hbb nb
        clear hV
        have e8 := hide (show lg - m = f + 1 from hf)
        clear hf hs
        have hor := or1_i64 y V y0 (by omega) hbb.1 hbb.2
        have hf0 := fc_nonneg L (m + 1)
        have hf1 := (unhide HG).small (show m + 1 ≤ 15 by omega)
        have hfs := fc_succ L m
        rw [Fl_eq] at hf1
        have hc0 := cz_nonneg L (m + 1)
        have hge : fc L (m + 1) ≤ y * 2 + V := by have := unhide HY0; omega
        have hpl := pl_top (unhide HG) (show m + 1 ≤ 16 by omega)
        have hpl2 := pl_top (unhide HG) (show m + 1 + 1 ≤ 16 by omega)
        have hcb := hide (fun w => behind_any (fc L (m + 1)) (cz L (m + 1)) w hf0 (by omega) hc0 (by omega))
        have hfst := hide (fc_step L (m + 1))
        have hpst := hide (show pl L (m + 1 + 1) = pl L (m + 1) + cz L (m + 1) from rfl)
        have hpst2 : pl L (m + 1) + cz L (m + 1) ≤ 320 := by have := unhide hpst; omega
        have HGE := hide hge
        have HFL := hide (Fl_eq L (m + 1))
        clear hfs hpl2
        have hm2 : (m : Int) < 15 := by omega
        by_cases hh : y * 2 + V - fc L (m + 1) < cz L (m + 1)
        · obtain ⟨i, hfnd, hiL, hp0, hoi⟩ := read_hit (unhide HO) (show m + 1 ≠ 0 by omega) hge hh
          obtain ⟨PP, hPP⟩ : ∃ PP : Nat, pl L (m + 1) + (y * 2 + V) - fc L (m + 1) = (PP : Int) := ⟨(pl L (m + 1) + (y * 2 + V) - fc L (m + 1)).toNat, by omega⟩
          rw [hPP] at hoi
          have hPb : PP < 320 := by omega
          have hans := hide (show (r1, r2, r3) = ((i : Int), ((m + 1 : Nat) : Int), 0) by
            rw [unhide HDEC, unhide e8, dec_hit _ _ _ _ _ _ (unhide hnos) i]
            rw [← unhide HV, Int.mul_comm 2 y]
            exact hfnd)
          have hi320 : (i : Int) < 320 := by have := (unhide HG).len; omega
          simp only [Int.toNat_natCast] at hoi
          have HOI := hide hoi
          clear hfnd hp0 hoi hge hiL
          generalize hF : fc L (m + 1) = F at *
          generalize hX : pl L (m + 1) = X at *
          generalize hZ : cz L (m + 1) = Z at *
          go_wp2_with fail
          refine (unhide nb).mono ?_
          rintro e w2 ⟨rfl, one2, but2⟩
          have d2 := (unhide HD).but (hbut.trans but2) hgP
          have k1 := d2.cell (i := m + 1) (by rw [dcl_len _ _ _ (unhide HO).len]; omega)
          rw [dcl_cts _ _ _ (by omega), hZ] at k1
          have k2 := d2.cell (i := 16 + PP) (by rw [dcl_len _ _ _ (unhide HO).len]; omega)
          rw [dcl_ord _ _ _ (unhide HO).len hPb, unhide HOI] at k2
          have ONE2 := hide one2
          clear d2 one2 hX hZ hF
          go_wp2_with fail
          go_ret3
          have ha := unhide hans
          simp only [Prod.mk.injEq] at ha
          obtain ⟨rfl, rfl, rfl⟩ := ha
          refine ⟨rfl, hbut.trans but2, fun _ => ?_⟩
          have := unhide ONE2
          rw [show at_ + ((m + 1 : Nat) : Int).toNat = at_ + m + 1 by omega]
          exact this
        · have hnone := hide (fnd_none L (show m + 1 ≠ 0 by omega) (x := y * 2 + V) (by have := unhide HFL; omega))
          have hans := hide (show (r1, r2, r3) = dec L bs at_ (lg - (m + 1)) (m + 1) (y * 2 + V) by
            rw [unhide HDEC, unhide e8, dec_miss _ _ _ _ _ _ (unhide hnos)]
            · rw [← unhide HV, Int.mul_comm 2 y, show lg - (m + 1) = f by have := unhide e8; omega]
            · rw [← unhide HV, Int.mul_comm 2 y]
              exact unhide hnone)
          have hy2 := hide (show Fl L (m + 1) ≤ y * 2 + V by have := unhide HFL; omega)
          have hy3 := hide (show y * 2 + V < 2 ^ (m + 1) by have := unhide HY1; rw [Int.pow_succ]; omega)
          clear hge
          generalize hF : fc L (m + 1) = F at *
          generalize hX : pl L (m + 1) = X at *
          generalize hZ : cz L (m + 1) = Z at *
          go_wp2_with fail
          refine (unhide nb).mono ?_
          rintro e w2 ⟨rfl, one2, but2⟩
          have d2 := (unhide HD).but (hbut.trans but2) hgP
          have k1 := d2.cell (i := m + 1) (by rw [dcl_len _ _ _ (unhide HO).len]; omega)
          rw [dcl_cts _ _ _ (by omega), hZ] at k1
          have ONE2 := hide one2
          clear d2 one2 hX hZ hF
          go_wp2_with fail
          refine same_world (unhide hcb _) ?_
          go_wp2_with fail
          go_roundw
          case rel =>
            refine ⟨m + 1, y * 2 + V, by omega, rfl, by rw [unhide hfst], by rw [unhide hpst], by go_num, unhide hy2, unhide hy3, unhide hans, unhide ONE2, hbut.trans but2, ?_⟩
            have := unhide hnos
            rw [unhide hbl] at this
            omega
          case measure => simp [intOf]; omega
      · have ns := hide (next_short P Q (at_ + m) ao n c bs wr (unhide HONE) ((unhide HQ).but hbut hQP) (unhide HB wr hbut) hn (unhide HAT2) (by omega))
        have hans := hide (show (r1, r2, r3) = (0, 0, 4) by
          rw [unhide HDEC, hf, dec_short]
          rw [unhide hbl]
          omega)
        clear hf hs
        generalize fc L (m + 1) = F at *
        generalize pl L (m + 1) = X at *
        go_wp2_with fail
        refine same_world (unhide ns) ?_
        go_wp2_with fail
        go_ret3
        have ha := unhide hans
        simp only [Prod.mk.injEq] at ha
        obtain ⟨rfl, rfl, rfl⟩ := ha
        exact ⟨rfl, hbut, fun q => by omega⟩
    · have hans := hide (show (r1, r2, r3) = (0, 0, 5) by
        rw [unhide HDEC, show lg - m = 0 by omega]
        rfl)
      generalize fc L (m + 1) = F at *
      generalize pl L (m + 1) = X at *
      go_wp2_with fail
      go_ret3
      have ha := unhide hans
      simp only [Prod.mk.injEq] at ha
      obtain ⟨rfl, rfl, rfl⟩ := ha
      exact ⟨rfl, hbut, fun q => by omega⟩

end Go.Proofs.YtalkeooejobjhaaDoor
