/-
  What ReadText of package row returns. It writes nothing that was there. Conditions: the slice can be read, at most 100,000 bytes; at most 4,096 columns.
-/
import Derived.Test.YtkcblnojgonblaaGreatDoorRwTx
namespace Go.Proofs.YtkcblnojgonblaaGreatDoor
open Go.RowKit
set_option linter.unusedVariables false
set_option linter.unusedSimpArgs false

/-- A row read, value by value, up to the first error: the values, what is left, the error. -/
def gst (f : Nat → List Int → Va × List Int × Int) : Nat → List Int → List Va × List Int × Int
  | 0, b => ([], b, 0)
  | j + 1, b => if (gst f j b).2.2 ≠ 0 then gst f j b else if (f j (gst f j b).2.1).2.2 ≠ 0 then ([], (f j (gst f j b).2.1).2.1, (f j (gst f j b).2.1).2.2) else ((gst f j b).1 ++ [(f j (gst f j b).2.1).1], (f j (gst f j b).2.1).2.1, 0)
/-- What gather answers. -/
def gat (f : Nat → List Int → Va × List Int × Int) (n : Nat) (b : List Int) : List Va × Int :=
  if (gst f n b).2.2 ≠ 0 then ([], (gst f n b).2.2) else if (gst f n b).2.1.length ≠ 0 then ([], 5) else ((gst f n b).1, 0)
theorem gst_up {f : Nat → List Int → Va × List Int × Int} {b : List Int} {j : Nat} (h : (gst f j b).2.2 ≠ 0) : ∀ k, gst f (j + k) b = gst f j b
  | 0 => rfl
  | k + 1 => by
    have ih := gst_up h k
    show (if (gst f (j + k) b).2.2 ≠ 0 then gst f (j + k) b else _) = _
    rw [ih, if_pos h]
theorem gst_len {f : Nat → List Int → Va × List Int × Int} {b : List Int} : ∀ {j : Nat}, (gst f j b).2.2 = 0 → (gst f j b).1.length = j
  | 0, _ => rfl
  | j + 1, h => by
    unfold gst at h ⊢
    by_cases h1 : (gst f j b).2.2 ≠ 0
    · rw [if_pos h1] at h; exact absurd h h1
    · rw [if_neg h1] at h ⊢
      by_cases h2 : (f j (gst f j b).2.1).2.2 ≠ 0
      · rw [if_pos h2] at h; exact absurd h h2
      · rw [if_neg h2]
        have := gst_len (j := j) (Classical.byContradiction h1)
        simp [this]
theorem tn_len (b : List Int) : (tn b).2.1.length ≤ b.length := by
  unfold tn rdL
  split <;> simp
theorem tg_len (b : List Int) : ∀ j, (gst (fun _ => tn) j b).2.1.length ≤ b.length
  | 0 => Nat.le_refl _
  | j + 1 => by
    have ih := tg_len b j
    have h2 := tn_len (gst (fun _ => tn) j b).2.1
    unfold gst
    split
    · exact ih
    · split <;> exact Nat.le_trans h2 ih

/-- Values in new memory, and an error; but for block q nothing that was there is changed. -/
def OutV (w : World) (q : Nat) (R : List Va × Int) (e : Ending) (w' : World) : Prop := ∃ ro rn rc, e = .returned (.tuple #[.slice ro rn rc, .int .i64 R.2]) ∧ VMine w.heap.size w' ro rn rc R.1 ∧ Gb q w w'
theorem gb_tr {q : Nat} {a b c : World} (h : Gb q a b) (k : Gb q b c) : Gb q a c :=
  ⟨k.os.trans h.os, k.tape.trans h.tape, k.output.trans h.output, Nat.le_trans h.size k.size, fun i hi hq => (k.block i (Nat.lt_of_lt_of_le hi h.size) hq).trans (h.block i hi hq)⟩
theorem gb_bl {q B : Nat} {a b c : World} (h : Gb q a b) (k : Below B b c) (hB : a.heap.size ≤ B) : Gb q a c :=
  ⟨k.os.trans h.os, k.tape.trans h.tape, k.output.trans h.output, Nat.le_trans h.size k.size, fun i hi hq => (k.block i (by omega)).trans (h.block i hi hq)⟩
theorem Lf.up {q B : Nat} {b : List Int} {w w' : World} (h : Lf q b w) (hb : Below B w w') (hq : q < B) : Lf q b w' := by
  obtain ⟨lo, ln, lc, h1, h2, h3⟩ := h.h
  exact ⟨lo, ln, lc, (hb.block q hq).trans h1, h2.keep0 h3 (fun k hk hl => hb.block k (by omega)), h3⟩

set_option maxHeartbeats 4000000 in
set_option maxRecDepth 100000 in
theorem gatherT_any (n : Nat) (q : Nat) (b : List Int) (w : World) (h : Lf q b w) (hn : n ≤ 4096) (hb : b.length ≤ 100000) (hq : q < w.heap.size) :
    Calls Tryz.prog 22 #[.int .i64 (n : Int), (.func (.func 31) #[] #[.pointer (some ⟨q, 0, none⟩)]), (.func (.func 33) #[] #[.pointer (some ⟨q, 0, none⟩)])] w fun e w' => OutV w q (gat (fun _ => tn) n b) e w' := by
  obtain ⟨RES, hRES⟩ : ∃ z, z = gat (fun _ => tn) n b := ⟨_, rfl⟩
  rw [← hRES]
  have HRES := hide hRES
  have HTL := hide (tg_len b)
  have H0 := hide h
  clear hRES h
  go_enter Tryz.func22, Tryz.ntmps22
  go_wp2_with fail
  go_loopw [13, 8] (fun iv sv ws => ∃ (j : Nat) (ro : Option Addr) (rn rc : Nat), j ≤ n ∧ iv = .int .i64 (j : Int) ∧ sv = .slice ro rn rc ∧ VMine w.heap.size ws ro rn rc (gst (fun _ => tn) j b).1 ∧ (gst (fun _ => tn) j b).2.2 = 0 ∧ Lf q (gst (fun _ => tn) j b).2.1 ws ∧ Gb q w ws) (fun iv _ _ => n - (intOf iv).toNat)
  case atStart => exact ⟨0, none, 0, 0, by omega, rfl, rfl, VMine.nought _ _, rfl, unhide H0, Gb.refl _ _⟩
  case round =>
    clear H0
    obtain ⟨j, ro, rn, rc, hj, rfl, rfl, hM, h0, hL, hG⟩ := hrel
    have hrn : j = rn := by rw [← hM.len]; exact (gst_len h0).symm
    have hsz := hG.size
    have HM := hide hM
    have HG := hide hG
    have HL := hide hL
    have hle := hM.ss.le
    have hmx := hM.ss.max
    clear hM hG hL
    subst hrn
    by_cases hlt : j < n
    · have hlj : ((j : Nat) : Int) < (n : Int) := by omega
      have cN := hide (tnext_any q _ (j : Int) wr (unhide HL) (Nat.le_trans (unhide HTL j) hb))
      have HS : Hid (gst (fun _ => tn) (j + 1) b = if (tn (gst (fun _ => tn) j b).2.1).2.2 ≠ 0 then ([], (tn (gst (fun _ => tn) j b).2.1).2.1, (tn (gst (fun _ => tn) j b).2.1).2.2) else ((gst (fun _ => tn) j b).1 ++ [(tn (gst (fun _ => tn) j b).2.1).1], (tn (gst (fun _ => tn) j b).2.1).2.1, 0)) := hide (by
        show (if (gst (fun _ => tn) j b).2.2 ≠ 0 then _ else _) = _
        rw [if_neg (fun z => z h0)])
      clear HL
      generalize gst (fun _ => tn) j b = ST at *
      generalize tn ST.2.1 = T at *
      obtain ⟨V, L2, E⟩ := T
      simp only at cN HS
      obtain ⟨k, i, b9, tx, ⟨ng, y, mo, d, h, mi, s, mc⟩⟩ := V
      have SV := hide (vac_info ⟨k, i, b9, tx, ⟨ng, y, mo, d, h, mi, s, mc⟩⟩)
      have OV := hide (vac_one ⟨k, i, b9, tx, ⟨ng, y, mo, d, h, mi, s, mc⟩⟩)
      unfold vaC at cN SV OV
      simp only at cN SV OV
      by_cases hE : E = 0
      · subst hE
        have HS' := hide (show gst (fun _ => tn) (j + 1) b = (ST.1 ++ [⟨k, i, b9, tx, ⟨ng, y, mo, d, h, mi, s, mc⟩⟩], L2, 0) by rw [unhide HS]; rfl)
        clear HS HRES
        go_wp2_with (first | (go_at_call 31; (with_reducible refine (unhide cN).mono ?_); rintro e w2 ⟨rfl, l2, g2⟩; have L2' := hide l2; have G2 := hide (gb_tr (unhide HG) g2); have M2 := hide ((unhide HM).gb hq g2); have z2 := g2.size; clear l2 g2) | (with_reducible show wpList Tryz.prog _ _ (Oper.mk _ (Op.store 38 _ _) _ _ _ none :: _) _ _; refine wpList_stN rfl _ (.tmp 10) (.tmp 20) rfl #[.int .i64 k, .int .i64 i, .int .u64 b9, .string tx, .bool ng, .int .i64 y, .int .i64 mo, .int .i64 d, .int .i64 h, .int .i64 mi, .int .i64 s, .int .i64 mc] (by simp [Act.eval, Act.put]) (by simp [Act.eval, Act.put]) (unhide SV) rfl (unhide OV) ?_; intro w3 r3 b3 l3; have R3 := hide r3; have L3 := hide ((unhide L2').later b3); have G3 := hide (gb_bl (unhide G2) b3 (by omega)); have M3 := hide ((unhide M2).later b3); have z3 := b3.size; clear r3 b3 l3) | (with_reducible show wpList Tryz.prog _ _ (Oper.mk _ (Op.load 38 _) _ _ _ none :: _) _ _; refine wpList_load_row rfl _ (.tmp 10) rfl w2.heap.size rfl _ #[.int .i64 k, .int .i64 i, .int .u64 b9, .string tx, .bool ng, .int .i64 y, .int .i64 mo, .int .i64 d, .int .i64 h, .int .i64 mi, .int .i64 s, .int .i64 mc] (0, 0) _ (unhide R3) Tryz.underlying38 rfl (unhide SV) ?_) | (at_builtin; refine wpList_appV rfl (.tmp 25) (.tmp 27) rfl w.heap.size ro j rc _ (by simp [Act.eval, Act.put]) ((unhide M3).later (below_alloc w3 _)) w3.heap.size ⟨k, i, b9, tx, ⟨ng, y, mo, d, h, mi, s, mc⟩⟩ rfl (AtV.of_row (heap_alloc_new w3 _)) (by omega) (by simp; omega) ?_; intro a5 c5 w5 m5 b5; have M5 := hide m5; have L5 := hide (((unhide L3).later (below_alloc w3 _)).up b5 hq); have G5 := hide (gb_bl (gb_bl (unhide G3) (below_alloc w3 _) (by omega)) b5 (Nat.le_refl _)); clear m5 b5))
        go_roundw
        case rel => exact ⟨j + 1, a5, j + 1, c5, by omega, by go_num, rfl, (by rw [unhide HS']; exact unhide M5), (by rw [unhide HS']), (by rw [unhide HS']; exact unhide L5), unhide G5⟩
        case measure => simp [intOf]; omega
      · have hE2 : (E != 0) = true := by simpa using hE
        have HR := hide (show RES = ([], E) by
          rw [unhide HRES]
          have e1 : gst (fun _ => tn) (j + 1) b = ([], L2, E) := by rw [unhide HS, if_pos hE]
          have e2 : gst (fun _ => tn) n b = ([], L2, E) := by
            have := gst_up (f := fun _ => tn) (b := b) (j := j + 1) (by rw [e1]; exact hE) (n - (j + 1))
            rw [show j + 1 + (n - (j + 1)) = n by omega, e1] at this
            exact this
          unfold gat
          rw [e2, if_pos hE])
        clear HS HRES hE
        go_wp2_with (first | (go_at_call 31; (with_reducible refine (unhide cN).mono ?_); rintro e w2 ⟨rfl, l2, g2⟩; have G2 := hide (gb_tr (unhide HG) g2); have z2 := g2.size; clear l2 g2) | (with_reducible show wpList Tryz.prog _ _ (Oper.mk _ (Op.store 38 _ _) _ _ _ none :: _) _ _; refine wpList_stN rfl _ (.tmp 10) (.tmp 20) rfl #[.int .i64 k, .int .i64 i, .int .u64 b9, .string tx, .bool ng, .int .i64 y, .int .i64 mo, .int .i64 d, .int .i64 h, .int .i64 mi, .int .i64 s, .int .i64 mc] (by simp [Act.eval, Act.put]) (by simp [Act.eval, Act.put]) (unhide SV) rfl (unhide OV) ?_; intro w3 r3 b3 l3; have G3 := hide (gb_bl (unhide G2) b3 (by omega)); clear r3 b3 l3))
        go_ret2
        rw [unhide HR]
        exact ⟨none, 0, 0, rfl, VMine.nought _ _, unhide G3⟩
    · have hjn : j = n := by omega
      subst hjn
      have hlj : ¬ ((j : Nat) : Int) < (j : Int) := by omega
      have cE := hide (tend_any q _ wr (unhide HL))
      have HR : Hid (RES = if (gst (fun _ => tn) j b).2.1.length ≠ 0 then ([], 5) else ((gst (fun _ => tn) j b).1, 0)) := hide (by
        rw [unhide HRES]
        unfold gat
        rw [if_neg (fun z => z h0)])
      clear HRES HL HTL
      generalize gst (fun _ => tn) j b = ST at *
      by_cases hz : ST.2.1.length = 0
      · have ez : (ST.2.1.length == 0) = true := by simpa using hz
        rw [ez] at cE
        have HR' := hide (show RES = (ST.1, 0) by rw [unhide HR, if_neg (fun z => z hz)])
        clear HR ez hz
        go_wp2_with (go_at_call 33; refine same_world (unhide cE) ?_)
        go_ret2
        rw [unhide HR']
        exact ⟨ro, _, rc, rfl, unhide HM, unhide HG⟩
      · have ez : (ST.2.1.length == 0) = false := by simpa using hz
        rw [ez] at cE
        have HR' := hide (show RES = ([], 5) by rw [unhide HR, if_pos hz])
        clear HR ez hz
        go_wp2_with (go_at_call 33; refine same_world (unhide cE) ?_)
        go_ret2
        rw [unhide HR']
        exact ⟨none, 0, 0, rfl, VMine.nought _ _, unhide HG⟩

/-- What ReadText answers. -/
def rtR (b : List Int) (n : Int) : List Va × Int := if n < 0 ∨ 4096 < n then ([], 2) else gat (fun _ => tn) n.toNat b
def OutW (w : World) (R : List Va × Int) (e : Ending) (w' : World) : Prop := ∃ ro rn rc, e = .returned (.tuple #[.slice ro rn rc, .int .i64 R.2]) ∧ VMine w.heap.size w' ro rn rc R.1 ∧ Below w.heap.size w w'
theorem bs_under {w : World} {bo : Option Addr} {bn bc : Nat} {b : List Int} (h : Bs w bo bn bc b) : bn = 0 ∨ ∀ k, ob bo k → k < w.heap.size := by
  rcases h.at' with h0 | ⟨b', off, e, hc⟩
  · exact .inl h0
  · by_cases hz : bn = 0
    · exact .inl hz
    · right
      rintro k ⟨a, rfl, ha⟩
      have := World.block_lt_of_cell? w _ (hc 0 (by omega))
      simp at e
      subst e
      simp at ha this
      omega
theorem gb_own1 {w w1 w2 : World} (hb : Below w.heap.size w w1) (h : Gb w.heap.size w1 w2) : Below w.heap.size w w2 :=
  ⟨h.os.trans hb.os, h.tape.trans hb.tape, h.output.trans hb.output, Nat.le_trans hb.size h.size, fun k hk => (h.block k (Nat.lt_of_lt_of_le hk hb.size) (by omega)).trans (hb.block k hk)⟩
theorem VMine.down {B B' : Nat} {w : World} {ao : Option Addr} {n c : Nat} {l : List Va} (h : VMine B w ao n c l) (hB : B' ≤ B) : VMine B' w ao n c l := h.mono hB

set_option maxHeartbeats 4000000 in
set_option maxRecDepth 100000 in
theorem rowText_any (bo : Option Addr) (bn bc : Nat) (b : List Int) (n : Int) (w : World) (hb : Bs w bo bn bc b) (hn : b.length ≤ 100000) :
    Calls Tryz.prog 12 #[.slice bo bn bc, .int .i64 n] w fun e w' => OutW w (rtR b n) e w' := by
  obtain ⟨RES, hRES⟩ : ∃ z, z = rtR b n := ⟨_, rfl⟩
  rw [← hRES]
  by_cases h1 : n < 0
  · have HR := hide (show RES = ([], 2) by rw [hRES]; exact if_pos (Or.inl h1))
    clear hRES hb
    go_enter Tryz.func12, Tryz.ntmps12
    go_wp2_with fail
    go_ret2
    rw [unhide HR]
    exact ⟨none, 0, 0, rfl, VMine.nought _ _, Below.refl _ _⟩
  by_cases h2 : 4096 < n
  · have HR := hide (show RES = ([], 2) by rw [hRES]; exact if_pos (Or.inr h2))
    clear hRES hb
    go_enter Tryz.func12, Tryz.ntmps12
    go_wp2_with fail
    go_ret2
    rw [unhide HR]
    exact ⟨none, 0, 0, rfl, VMine.nought _ _, Below.refl _ _⟩
  obtain ⟨N, rfl⟩ := Int.eq_ofNat_of_zero_le (show 0 ≤ n by omega)
  have HR := hide (show RES = gat (fun _ => tn) N b by rw [hRES]; exact if_neg (by omega))
  have q1 := below_alloc w (.cells #[.slice bo bn bc] 29)
  have r1 := heap_alloc_new w (.cells #[.slice bo bn bc] 29)
  have z1 : (w.alloc (.cells #[.slice bo bn bc] 29)).heap.size = w.heap.size + 1 := by simp
  have cG := hide (gatherT_any N w.heap.size b (w.alloc (.cells #[.slice bo bn bc] 29)) ⟨bo, bn, bc, r1, hb.later q1, bs_under hb⟩ (by omega) hn (by omega))
  have B1 := hide q1
  clear hRES hb q1 r1
  go_enter Tryz.func12, Tryz.ntmps12
  go_wp2_with (go_at_call 22; refine (unhide cG).mono ?_; rintro e w2 ⟨ro, rn, rc, rfl, m2, g2⟩; have M2 := hide m2; have G2 := hide g2; clear m2 g2)
  go_ret2
  rw [unhide HR]
  exact ⟨ro, rn, rc, rfl, (unhide M2).mono (by omega), gb_own1 (unhide B1) (unhide G2)⟩


end Go.Proofs.YtkcblnojgonblaaGreatDoor
