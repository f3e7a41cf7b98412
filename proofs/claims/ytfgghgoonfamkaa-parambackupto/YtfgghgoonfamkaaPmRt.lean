/-
  What readTypes of package param returns: types told anew, what is left, the error. It writes nothing that was there. Conditions: the slice can be read.
-/
import Derived.Test.YtfgghgoonfamkaaPmRd1
namespace Go.Proofs.Ytfgghgoonfamkaa
open Go.RowKit
set_option linter.unusedVariables false
set_option linter.unusedSimpArgs false

/-- Things read one by one, up to the first error: what was read, what is left, the error. -/
def gsA {α : Type} (f : Nat → List Int → α × List Int × Int) : Nat → List Int → List α × List Int × Int
  | 0, b => ([], b, 0)
  | j + 1, b => if (gsA f j b).2.2 ≠ 0 then gsA f j b else if (f j (gsA f j b).2.1).2.2 ≠ 0 then ([], [], (f j (gsA f j b).2.1).2.2) else ((gsA f j b).1 ++ [(f j (gsA f j b).2.1).1], (f j (gsA f j b).2.1).2.1, 0)
theorem gsA_up {α : Type} {f : Nat → List Int → α × List Int × Int} {b : List Int} {j : Nat} (h : (gsA f j b).2.2 ≠ 0) : ∀ k, gsA f (j + k) b = gsA f j b
  | 0 => rfl
  | k + 1 => by
    have ih := gsA_up h k
    show (if (gsA f (j + k) b).2.2 ≠ 0 then gsA f (j + k) b else _) = _
    rw [ih, if_pos h]
theorem gsA_len {α : Type} {f : Nat → List Int → α × List Int × Int} {b : List Int} : ∀ {j : Nat}, (gsA f j b).2.2 = 0 → (gsA f j b).1.length = j
  | 0, _ => rfl
  | j + 1, h => by
    unfold gsA at h ⊢
    by_cases h1 : (gsA f j b).2.2 ≠ 0
    · rw [if_pos h1] at h; exact absurd h h1
    · rw [if_neg h1] at h ⊢
      by_cases h2 : (f j (gsA f j b).2.1).2.2 ≠ 0
      · rw [if_pos h2] at h; exact absurd h h2
      · rw [if_neg h2]
        have := gsA_len (j := j) (Classical.byContradiction h1)
        simp [this]
theorem gsA_next {α : Type} {f : Nat → List Int → α × List Int × Int} {b : List Int} {j : Nat} (h : (gsA f j b).2.2 = 0) : gsA f (j + 1) b = if (f j (gsA f j b).2.1).2.2 ≠ 0 then ([], [], (f j (gsA f j b).2.1).2.2) else ((gsA f j b).1 ++ [(f j (gsA f j b).2.1).1], (f j (gsA f j b).2.1).2.1, 0) := by
  show (if (gsA f j b).2.2 ≠ 0 then _ else _) = _
  rw [if_neg (fun z => z h)]
theorem gsA_bad {α : Type} {f : Nat → List Int → α × List Int × Int} {b : List Int} {j n : Nat} {E : Int} (hj : j < n) (h : (gsA f j b).2.2 = 0) (hE : (f j (gsA f j b).2.1).2.2 = E) (h0 : E ≠ 0) : gsA f n b = ([], [], E) := by
  have e1 : gsA f (j + 1) b = ([], [], E) := by rw [gsA_next h, hE, if_pos h0]
  have := gsA_up (f := f) (b := b) (j := j + 1) (by rw [e1]; exact h0) (n - (j + 1))
  rw [show j + 1 + (n - (j + 1)) = n by omega, e1] at this
  exact this
/-- One type told anew. -/
def ty1 (b : List Int) : Ty × List Int × Int :=
  if b.length = 0 then (ty0, [], 4) else if unk ⟨b[0]?.getD 0, false⟩ = true then (ty0, [], 5) else
  (⟨b[0]?.getD 0, (flg (b.drop 1) 128).1⟩, (flg (b.drop 1) 128).2.1, (flg (b.drop 1) 128).2.2)
def tyS (n : Nat) (b : List Int) : List Ty × List Int × Int := gsA (fun _ => ty1) n b
def OutT (w : World) (bo : Option Addr) (bn bc : Nat) (b : List Int) (R : List Ty × List Int × Int) (e : Ending) (w' : World) : Prop := ∃ xo xn xc lo ln lc, e = .returned (.tuple #[.slice xo xn xc, .slice lo ln lc, .int .i64 R.2.2]) ∧ TyMine w.heap.size w' xo xn xc R.1 ∧ Cut bo bn bc b lo ln lc R.2.1 ∧ Below w.heap.size w w'
theorem ty_row2 {w : World} {g : Nat} {x : Int} {f u : Bool} (h : w.heap[g]? = some (.cells #[.int .u8 x, .bool u] 27 (0, 0))) :
    (w.setCell ⟨g, 1, none⟩ (.bool f)).cell? ⟨g, 0, none⟩ = some (.int .u8 x) ∧ (w.setCell ⟨g, 1, none⟩ (.bool f)).cell? ⟨g, 1, none⟩ = some (.bool f) ∧ w.frozen? ⟨g, 1, none⟩ = false ∧ w.cell? ⟨g, 1, none⟩ = some (.bool u) := by
  have r : (w.setCell ⟨g, 1, none⟩ (.bool f)).heap[g]? = some (.cells #[.int .u8 x, .bool f] 27 (0, 0)) := heap_setCell_same w g 1 _ _ _ h
  exact ⟨vrow_cell r (j := 0) (v := .int .u8 x) rfl, vrow_cell r (j := 1) (v := .bool f) rfl, frozen_of_row _ _ 1 _ _ h, vrow_cell h (j := 1) (v := .bool u) rfl⟩
theorem below_set2 {w0 w : World} {B g i : Nat} {v : Value} (h : Below B w0 w) (hg : B ≤ g) : Below B w0 (w.setCell ⟨g, i, none⟩ v) :=
  ⟨h.os, h.tape, h.output, Nat.le_trans h.size (by simp), fun k hk => (heap_setCell_other _ _ _ _ (by show k ≠ g; omega)).trans (h.block k hk)⟩
theorem tym_set2 {B : Nat} {w : World} {g i : Nat} {v : Value} {ao : Option Addr} {n c : Nat} {l : List Ty} (h : TyMine B w ao n c l) (hg : ∀ k, ob ao k → k ≠ g) : TyMine B (w.setCell ⟨g, i, none⟩ v) ao n c l :=
  h.keep fun k hk => heap_setCell_other _ _ _ _ (hg k hk)

set_option maxHeartbeats 4000000 in
set_option maxRecDepth 100000 in
theorem preadTypes_any (bo : Option Addr) (bn bc : Nat) (b : List Int) (n : Nat) (w : World) (hb : Bs w bo bn bc b) (hn : n ≤ 100000) :
    Calls Try.prog 25 #[.slice bo bn bc, .int .i64 (n : Int)] w fun e w' => OutT w bo bn bc b (tyS n b) e w' := by
  obtain ⟨RES, hRES⟩ : ∃ z, z = tyS n b := ⟨_, rfl⟩
  rw [← hRES]
  have HR := hide (show RES = gsA (fun _ => ty1) n b from hRES)
  have HB0 := hide hb
  have hbl := hb.len
  clear hRES hb
  go_enter Try.func25, Try.ntmps25
  go_wp2_with fail
  go_loopw [10, 4, 5, 6] (fun iv sv lv ev ws => ∃ (j : Nat) (xo : Option Addr) (xc : Nat) (lo : Option Addr) (ln lc : Nat), j ≤ n ∧ iv = .int .i64 (j : Int) ∧ sv = .slice xo j xc ∧ lv = .slice lo ln lc ∧ ev = .int .i64 0 ∧ (gsA (fun _ => ty1) j b).2.2 = 0 ∧ TyMine w.heap.size ws xo j xc (gsA (fun _ => ty1) j b).1 ∧ Cut bo bn bc b lo ln lc (gsA (fun _ => ty1) j b).2.1 ∧ Below w.heap.size w ws) (fun iv _ _ _ _ => n - (intOf iv).toNat)
  case atStart => exact ⟨0, none, 0, bo, bn, bc, by omega, rfl, rfl, rfl, rfl, rfl, TyMine.nought _ _, fun wx h => h, Below.refl _ _⟩
  case round =>
    obtain ⟨j, xo, xc, lo, ln, lc, hj, rfl, rfl, rfl, rfl, h0, hM, hC, hB⟩ := hrel
    have hob := hB.size
    have HB := hide hB
    have HM := hide hM
    have HC := hide hC
    by_cases hlt : j < n
    · have hlj : ((j : Nat) : Int) < (n : Int) := by omega
      have HN := hide (gsA_next h0)
      have HX := hide (fun E hE h1 => gsA_bad (f := fun _ => ty1) (b := b) (E := E) hlt h0 hE h1)
      have hbs := (hC w (unhide HB0)).later hB
      have HSP := hide (fun k (hk : ob xo k) => hM.own.lt k (by obtain ⟨a, rfl, ha⟩ := hk; simp [Value.ownBlock, ha]))
      clear hM hC hB
      generalize gsA (fun _ => ty1) j b = ST at *
      obtain ⟨TL, L, EL⟩ := ST
      simp only at HN HX hbs h0 HM HC
      have hll := hbs.len
      have hle := hbs.le
      have hmx := hbs.max
      by_cases hz : ln = 0
      · have HR2 := hide (show RES = ([], [], 4) by rw [unhide HR]; exact unhide HX 4 (by unfold ty1; rw [if_pos (by omega)]) (by decide))
        subst hz
        clear HX HN hbs HSP hll
        go_wp2_with fail
        refine bodyPost_ret (results_p3 rfl _ _) rfl ?_
        rw [unhide HR2]
        exact ⟨none, 0, 0, none, 0, 0, rfl, TyMine.nought _ _, cut_nil _ _ _ _, unhide HB⟩
      have gz : ((ln : Int) == 0) = false := by rw [beq_eq_false_iff_ne]; omega
      obtain ⟨cb, co, hix, hcx⟩ := hbs.idx (i := 0) (by omega) 0 rfl
      have hX := hbs.byt.at 0
      have HT : Hid (ty1 L = if unk ⟨L[0]?.getD 0, false⟩ = true then (ty0, [], 5) else (⟨L[0]?.getD 0, (flg (L.drop 1) 128).1⟩, (flg (L.drop 1) 128).2.1, (flg (L.drop 1) 128).2.2)) := hide (by unfold ty1; rw [if_neg (by omega)])
      obtain ⟨ao', c', hsl, hcut⟩ := Bs.cutl2 lo ln lc L (lo := 1) (by omega) 1 rfl
      have HCC := hide hcut
      have HBS := hide hbs
      clear hbs hcut hll
      generalize L[0]?.getD 0 = X at *
      have q1 := below_alloc wr (.cells #[.int .u8 X, .bool false] 27)
      have r1 := heap_alloc_new wr (.cells #[.int .u8 X, .bool false] 27)
      have k0 := vrow_cell r1 (j := 0) (v := .int .u8 X) rfl
      have k1 := vrow_cell r1 (j := 1) (v := .bool false) rfl
      have cU := hide (isUnk_any X false (wr.alloc (.cells #[.int .u8 X, .bool false] 27)) (by omega) (by omega))
      have eU : decide (kdV X false < 0) = unk ⟨X, false⟩ := rfl
      rw [eU] at cU
      have cF := hide (fun wx (hx : Below (wr.alloc (.cells #[.int .u8 X, .bool false] 27)).heap.size (wr.alloc (.cells #[.int .u8 X, .bool false] 27)) wx) => preadFlag_any ao' (ln - 1) c' (L.drop 1) 128 wx (unhide HCC wx (((unhide HBS).later q1).later hx)))
      have KR := hide (fun wx (hx : Below (wr.alloc (.cells #[.int .u8 X, .bool false] 27)).heap.size (wr.alloc (.cells #[.int .u8 X, .bool false] 27)) wx) => vrow_later r1 hx)
      have Q1 := hide q1
      clear q1 r1 eU hX
      generalize unk ⟨X, false⟩ = U at *
      cases U
      · have HT2 := hide (show ty1 L = (⟨X, (flg (L.drop 1) 128).1⟩, (flg (L.drop 1) 128).2.1, (flg (L.drop 1) 128).2.2) from unhide HT)
        obtain ⟨FG, hFG⟩ : ∃ z, z = flg (L.drop 1) 128 := ⟨_, rfl⟩
        rw [← hFG] at cF HT2
        clear hFG HT
        obtain ⟨FB, FL, FE⟩ := FG
        simp only at HT2
        have ARM := hide (show True from trivial)
        by_cases hE : FE ≠ 0
        · have HR2 := hide (show RES = ([], [], FE) by rw [unhide HR]; exact unhide HX FE (by rw [unhide HT2]) hE)
          have gE : (FE != 0) = true := by simpa using hE
          clear HX HN hE
          go_wp2_with (first | (go_at_call 46; (with_reducible refine (unhide cU).mono ?_); rintro e w2 ⟨rfl, b2⟩; have B2 := hide b2; clear b2) | (go_at_call 24; (with_reducible refine (unhide cF _ (unhide B2)).mono ?_); rintro e w3 ⟨yo, yn, yc, rfl, hy, b3⟩; have B3 := hide ((unhide B2).trans (b3.mono (unhide B2).size)); have HY := hide hy; obtain ⟨k2, k3, k4, k5⟩ := ty_row2 (f := FB) (unhide KR _ (unhide B3)); clear b3 hy k0 k1))
          refine bodyPost_ret (results_p3 rfl _ _) rfl ?_
          rw [unhide HR2]
          exact ⟨none, 0, 0, none, 0, 0, rfl, TyMine.nought _ _, cut_nil _ _ _ _, below_set2 (vbup (vbup (unhide HB) (unhide Q1)) (unhide B3)) hob⟩
        · have hE := Classical.not_not.1 hE
          subst hE
          have HN2 := hide (show gsA (fun _ => ty1) (j + 1) b = (TL ++ [⟨X, FB⟩], FL, 0) by rw [unhide HN, unhide HT2]; rfl)
          clear HX HN HT2 HR
          go_wp2_with (first | (go_at_call 46; (with_reducible refine (unhide cU).mono ?_); rintro e w2 ⟨rfl, b2⟩; have B2 := hide b2; clear b2) | (go_at_call 24; (with_reducible refine (unhide cF _ (unhide B2)).mono ?_); rintro e w3 ⟨yo, yn, yc, rfl, hy, b3⟩; have B3 := hide ((unhide B2).trans (b3.mono (unhide B2).size)); have HY := hide hy; obtain ⟨k2, k3, k4, k5⟩ := ty_row2 (f := FB) (unhide KR _ (unhide B3)); clear b3 hy k0 k1; have HB3 := hide (below_set2 (g := wr.heap.size) (i := 1) (v := .bool FB) (vbup (vbup (unhide HB) (unhide Q1)) (unhide B3)) hob); have M3 := hide (tym_set2 (g := wr.heap.size) (i := 1) (v := .bool FB) (((unhide HM).later (unhide Q1)).later (unhide B3)) (fun k hk => Nat.ne_of_lt (unhide HSP k hk).2))) | (at_builtin; refine wpList_appT rfl (.tmp 32) (.tmp 34) rfl w.heap.size xo j xc TL (by simp [Act.eval, Act.put]) ((unhide M3).later (below_alloc _ _)) (w3.setCell ⟨wr.heap.size, 1, none⟩ (.bool FB)).heap.size ⟨X, FB⟩ (by simp [Act.eval, Act.put]) (AtT.of_row (heap_alloc_new _ _)) (by omega) (Nat.le_trans (unhide HB3).size (below_alloc _ _).size) ?_; intro a5 c5 w5 m5 b5; have M5 := hide m5; have HB5 := hide ((vbup (unhide HB3) (below_alloc _ _)).trans b5); clear m5 b5))
          go_roundw
          case rel => exact ⟨j + 1, a5, c5, yo, yn, yc, by omega, by go_num, rfl, rfl, rfl, by rw [unhide HN2], by rw [unhide HN2]; exact unhide M5, by rw [unhide HN2]; exact fun wx hx => unhide HY wx (unhide HCC wx (unhide HC wx hx)), unhide HB5⟩
          case measure => simp [intOf]; omega
      · have HR2 := hide (show RES = ([], [], 5) by rw [unhide HR]; exact unhide HX 5 (by rw [unhide HT]; rfl) (by decide))
        clear HX HN HT cF
        go_wp2_with (go_at_call 46; (with_reducible refine (unhide cU).mono ?_); rintro e w2 ⟨rfl, b2⟩; have B2 := hide b2; clear b2)
        refine bodyPost_ret (results_p3 rfl _ _) rfl ?_
        rw [unhide HR2]
        exact ⟨none, 0, 0, none, 0, 0, rfl, TyMine.nought _ _, cut_nil _ _ _ _, vbup (vbup (unhide HB) (unhide Q1)) (unhide B2)⟩
    · have hjn : j = n := by omega
      subst hjn
      have hlj : ¬ ((j : Nat) : Int) < (j : Int) := by omega
      clear hM hC hB
      have HR2 := hide (show RES = ((gsA (fun _ => ty1) j b).1, (gsA (fun _ => ty1) j b).2.1, 0) by rw [unhide HR, ← h0])
      go_wp2_with fail
      refine bodyPost_ret (results_p3 rfl _ _) rfl ?_
      rw [unhide HR2]
      exact ⟨xo, j, xc, lo, ln, lc, rfl, unhide HM, unhide HC, unhide HB⟩


end Go.Proofs.Ytfgghgoonfamkaa
