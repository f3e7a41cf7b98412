/-
  What readFlag, typesAhead and readValue of package param return. They write nothing that was there. Conditions: the slices can be read; types are bytes.
  What readValue of package param returns: a value, what is left behind it, the error. It writes nothing that was there. Conditions: the slice can be read, at most 100,000 bytes; the type is a byte.
  What readMarks of package param returns: the marks, what is left behind their bits, the error. It writes nothing that was there. Conditions: the slices can be read; at most 10 to the 5 parameters.
  What readTypes of package param returns: types told anew, what is left, the error. It writes nothing that was there. Conditions: the slice can be read.
-/
import Derived.Test.YtfgghgoonfamkaaPmLeaf
import Derived.Test.YtfgghgoonfamkaaPmCon
import Derived.Test.YtfgghgoonfamkaaVaRd6
import Derived.Test.YtfgghgoonfamkaaClRow
import Derived.BigQuiet
import Derived.Deep.RegionHeld3
import Derived.BigRegion
namespace Go.Proofs.Ytfgghgoonfamkaa
open Go.RowKit
set_option linter.unusedVariables false
set_option linter.unusedSimpArgs false

/-- What is left behind a part, in whatever world. -/
def Cut (bo : Option Addr) (bn bc : Nat) (b : List Int) (lo : Option Addr) (ln lc : Nat) (L : List Int) : Prop := ∀ wx, Bs wx bo bn bc b → Bs wx lo ln lc L
theorem cut_nil (bo : Option Addr) (bn bc : Nat) (b : List Int) : Cut bo bn bc b none 0 0 [] := fun wx _ => Bs.nought wx
theorem Bs.cutl2 (bo : Option Addr) (bn bc : Nat) (b : List Int) {lo : Nat} (h1 : lo ≤ bn) (L : Int) (hL : L = lo) :
    ∃ ao' c', (∀ wx, (Instr.slice 22 (.slice bo bn bc) (some (.int .i64 L)) none none).run Try.prog wx = .ok (.slice ao' (bn - lo) c') wx) ∧ Cut bo bn bc b ao' (bn - lo) c' (b.drop lo) :=
  ⟨_, _, run_cut_l bo bn bc lo h1 L hL, fun wx h => by have := h.cut h1 (Nat.le_refl bn); rwa [List.take_of_length_le (by simp [h.len])] at this⟩
theorem Bs.cuth2 (bo : Option Addr) (bn bc : Nat) (b : List Int) {hi : Nat} (h1 : hi ≤ bn) (hc : bn ≤ bc) (H : Int) (hH : H = hi) :
    ∃ ao' c', (∀ wx, (Instr.slice 22 (.slice bo bn bc) none (some (.int .i64 H)) none).run Try.prog wx = .ok (.slice ao' hi c') wx) ∧ Cut bo bn bc b ao' hi c' (b.take hi) :=
  ⟨_, _, run_cut_h bo bn bc hi (by omega) H hH, fun wx h => by have := h.cut (Nat.zero_le hi) h1; simpa using this⟩
theorem below_dM (w : World) (n : Nat) : Below w.heap.size w (w.drewN n) := ⟨rfl, rfl, rfl, Nat.le_refl _, fun _ _ => rfl⟩
theorem results_p3 {P : Program} {fn : Func} {p u v : Tmp} (h : fn.results = #[.tmp p, .tmp u, .tmp v]) (tmps : Array Value) (w : World) : (results fn tmps).run P w = .ok (.tuple #[tmps.getD p undef, tmps.getD u undef, tmps.getD v undef]) w := by
  simp [results, h, Sem.run_bind, Result.andThen]
/-- A flag: whether it is the mark, what is left, the error. -/
def flg (b : List Int) (mark : Int) : Bool × List Int × Int :=
  if b.length = 0 then (false, [], 4) else if b[0]?.getD 0 ≠ 0 ∧ b[0]?.getD 0 ≠ mark then (false, [], 5) else (b[0]?.getD 0 == mark, b.drop 1, 0)
def OutF (w : World) (bo : Option Addr) (bn bc : Nat) (b : List Int) (R : Bool × List Int × Int) (e : Ending) (w' : World) : Prop := ∃ lo ln lc, e = .returned (.tuple #[.bool R.1, .slice lo ln lc, .int .i64 R.2.2]) ∧ Cut bo bn bc b lo ln lc R.2.1 ∧ Below w.heap.size w w'

set_option maxHeartbeats 4000000 in
set_option maxRecDepth 100000 in
theorem preadFlag_any (bo : Option Addr) (bn bc : Nat) (b : List Int) (mark : Int) (w : World) (hb : Bs w bo bn bc b) :
    Calls Try.prog 24 #[.slice bo bn bc, .int .u8 mark] w fun e w' => OutF w bo bn bc b (flg b mark) e w' := by
  have hl := hb.len
  have hle := hb.le
  have hmx := hb.max
  obtain ⟨RES, hRES⟩ : ∃ z, z = flg b mark := ⟨_, rfl⟩
  rw [← hRES]
  unfold flg at hRES
  by_cases h0 : bn = 0
  · subst h0
    rw [if_pos (by omega)] at hRES
    have HR := hide hRES
    clear hRES hb hl
    go_enter Try.func24, Try.ntmps24
    go_wp2_with fail
    refine bodyPost_ret (results_p3 rfl _ _) rfl ?_
    rw [unhide HR]
    exact ⟨none, 0, 0, rfl, cut_nil _ _ _ _, Below.refl _ _⟩
  have g0 : ((bn : Int) == 0) = false := by rw [beq_eq_false_iff_ne]; omega
  rw [if_neg (by omega)] at hRES
  obtain ⟨cb, co, hix, hcx⟩ := hb.idx (i := 0) (by omega) 0 rfl
  obtain ⟨ao', c', hsl, hcut⟩ := Bs.cutl2 bo bn bc b (lo := 1) (by omega) 1 rfl
  have HC := hide hcut
  have HR := hide hRES
  clear hRES hb hcut hl
  generalize b[0]?.getD 0 = X at *
  have fin : ∀ (B : Bool), (X == mark) = B → Hid (RES = (B, b.drop 1, 0)) → (X = 0 ∨ X = mark) → Calls Try.prog 24 #[.slice bo bn bc, .int .u8 mark] w fun e w' => OutF w bo bn bc b RES e w' := by
    intro B hB HR2 hX
    by_cases hx0 : X = 0
    · have g1 : (X != 0) = false := by simpa using hx0
      clear hX HR
      rw [hx0] at hB hcx
      clear hx0 g1
      go_enter Try.func24, Try.ntmps24
      go_wp2_with fail
      go_quiet (fail)
      go_wp2_with fail
      refine bodyPost_ret (results_p3 rfl _ _) rfl ?_
      rw [unhide HR2]
      exact ⟨ao', _, c', rfl, unhide HC, below_dM _ _⟩
    · have hxm : X = mark := by rcases hX with q | q; exact absurd q hx0; exact q
      have g1 : (X != 0) = true := by simpa using hx0
      have g2 : (X != X) = false := by simp
      subst hxm
      have hB2 : B = true := by rw [← hB]; simp
      subst hB2
      clear hX hB HR
      go_enter Try.func24, Try.ntmps24
      go_wp2_with fail
      go_quiet (fail)
      go_wp2_with fail
      refine bodyPost_ret (results_p3 rfl _ _) rfl ?_
      rw [unhide HR2]
      exact ⟨ao', _, c', rfl, unhide HC, below_dM _ _⟩
  by_cases hX : X ≠ 0 ∧ X ≠ mark
  · have HR2 := hide (show RES = (false, [], 5) by rw [unhide HR, if_pos hX])
    have g1 : (X != 0) = true := by simpa using hX.1
    have g2 : (X != mark) = true := by simpa using hX.2
    clear fin HR hX HC hsl
    go_enter Try.func24, Try.ntmps24
    go_wp2_with fail
    refine bodyPost_ret (results_p3 rfl _ _) rfl ?_
    rw [unhide HR2]
    exact ⟨none, 0, 0, rfl, cut_nil _ _ _ _, Below.refl _ _⟩
  · exact fin _ rfl (hide (by rw [unhide HR, if_neg hX])) (by by_cases q : X = 0; exact .inl q; exact .inr (Classical.byContradiction fun z => hX ⟨q, z⟩))


/-- The types that were told ahead. -/
def thd (ts : List Ty) (n : Nat) : List Ty × Int := if ts.length < n ∨ (ts.take n).any unk = true then ([], 5) else (ts.take n, 0)
theorem tys_cut (ao : Option Addr) (m c : Nat) (ts : List Ty) {n : Nat} (h1 : n ≤ m) (hc : m ≤ c) (hnil : ao = none → c = 0) (H : Int) (hH : H = n) :
    ∃ xo xc, (∀ wx, (Instr.slice 43 (.slice ao m c) none (some (.int .i64 H)) none).run Try.prog wx = .ok (.slice xo n xc) wx) ∧ ∀ wx, Tys wx ao m c ts → Tys wx xo n xc (ts.take n) := by
  subst hH
  have hs : ∀ w : World, (sizeOf (Try.prog.elem 43)).run Try.prog w = .ok 2 w := by intro w; kernel_rfl
  refine ⟨ao, c, fun wx => ?_, fun wx h => ?_⟩
  · rw [run_slice_h wx 43 ao m c elemT .i64 n (by omega) (by omega), hs]
    simp only [Result.andThen_ok, Int.toNat_natCast, sliced]
    cases ao with
    | none => simp
    | some a => simp [Addr.add]
  · refine ⟨by rw [List.length_take, h.len]; omega, by omega, h.max, h.nil, ?_⟩
    by_cases hz : n = 0
    · exact .inl hz
    · rcases h.at' with q | ⟨b, off, e, hc2⟩
      · omega
      · refine .inr ⟨b, off, e, fun i p hp => hc2 i p ?_⟩
        rw [List.getElem?_take] at hp
        split at hp
        · exact hp
        · cases hp

set_option maxHeartbeats 4000000 in
set_option maxRecDepth 100000 in
theorem ptypesAhead_any (ao : Option Addr) (m c : Nat) (ts : List Ty) (n : Nat) (w : World) (ht : Tys w ao m c ts) (hT : ∀ p ∈ ts, 0 ≤ p.t ∧ p.t < 256) (hn : n ≤ 100000) :
    Calls Try.prog 26 #[.slice ao m c, .int .i64 (n : Int)] w fun e w' => ∃ xo xn xc, e = .returned (.tuple #[.slice xo xn xc, .int .i64 (thd ts n).2]) ∧ Tys w' xo xn xc (thd ts n).1 ∧ Below w.heap.size w w' := by
  have hml := ht.len
  have hle := ht.le
  have hmx := ht.max
  obtain ⟨RES, hRES⟩ : ∃ z, z = thd ts n := ⟨_, rfl⟩
  rw [← hRES]
  unfold thd at hRES
  by_cases hlt : m < n
  · have g1 : (m : Int) < (n : Int) := by omega
    have HR := hide (show RES = ([], 5) by rw [hRES, if_pos (.inl (by omega))])
    clear hRES ht hT hml
    go_enter Try.func26, Try.ntmps26
    go_wp2_with fail
    go_ret2
    rw [unhide HR]
    exact ⟨none, 0, 0, rfl, Tys.nought _, Below.refl _ _⟩
  have g1 : ¬ (m : Int) < (n : Int) := by omega
  obtain ⟨xo, xc, hsl, hcut⟩ := tys_cut ao m c ts (n := n) (by omega) hle ht.nil (n : Int) rfl
  have hx := hcut w ht
  have cC := hide (contains_any xo n xc (ts.take n) w hx (fun p hp => hT p (List.mem_of_mem_take hp)))
  have HX := hide hx
  have HR := hide (show RES = if (ts.take n).any unk = true then ([], 5) else (ts.take n, 0) by
    rw [hRES]
    by_cases q : (ts.take n).any unk = true
    · rw [if_pos (.inr q), if_pos q]
    · rw [if_neg (by intro z; rcases z with z | z; omega; exact q z), if_neg q])
  clear hRES ht hT hml hx hcut
  generalize (ts.take n).any unk = U at *
  cases U
  · have HR2 := hide (show RES = (ts.take n, 0) from unhide HR)
    go_enter Try.func26, Try.ntmps26
    go_wp2_with (go_at_call 47; refine (unhide cC).mono ?_; rintro e w2 ⟨rfl, b2⟩; have B2 := hide b2; clear b2)
    go_ret2
    rw [unhide HR2]
    exact ⟨xo, n, xc, rfl, (unhide HX).later (unhide B2), unhide B2⟩
  · have HR2 := hide (show RES = ([], 5) from unhide HR)
    go_enter Try.func26, Try.ntmps26
    go_wp2_with (go_at_call 47; refine (unhide cC).mono ?_; rintro e w2 ⟨rfl, b2⟩; have B2 := hide b2; clear b2)
    go_ret2
    rw [unhide HR2]
    exact ⟨none, 0, 0, rfl, Tys.nought _, unhide B2⟩


end Go.Proofs.Ytfgghgoonfamkaa

namespace Go.Proofs.Ytfgghgoonfamkaa
open Go.RowKit
set_option linter.unusedVariables false
set_option linter.unusedSimpArgs false

theorem rsets12 {w : World} {g : Nat} {T : TypeId} {z0 z1 z2 z3 z4 z5 z6 z7 z8 z9 z10 z11 v0 v1 v2 v3 v4 v5 v6 v7 v8 v9 v10 v11 : Value} (h : w.heap[g]? = some (.cells #[z0, z1, z2, z3, z4, z5, z6, z7, z8, z9, z10, z11] T (0, 0))) : ((((((((((((w.setCell ⟨g, 0, none⟩ v0).setCell ⟨g, 1, none⟩ v1).setCell ⟨g, 2, none⟩ v2).setCell ⟨g, 3, none⟩ v3).setCell ⟨g, 4, none⟩ v4).setCell ⟨g, 5, none⟩ v5).setCell ⟨g, 6, none⟩ v6).setCell ⟨g, 7, none⟩ v7).setCell ⟨g, 8, none⟩ v8).setCell ⟨g, 9, none⟩ v9).setCell ⟨g, 10, none⟩ v10).setCell ⟨g, 11, none⟩ v11).heap[g]? = some (.cells #[v0, v1, v2, v3, v4, v5, v6, v7, v8, v9, v10, v11] T (0, 0)) := by
  have h0 : (w.setCell ⟨g, 0, none⟩ v0).heap[g]? = some (.cells #[v0, z1, z2, z3, z4, z5, z6, z7, z8, z9, z10, z11] T (0, 0)) := heap_setCell_same _ g 0 _ _ _ h
  have h1 : ((w.setCell ⟨g, 0, none⟩ v0).setCell ⟨g, 1, none⟩ v1).heap[g]? = some (.cells #[v0, v1, z2, z3, z4, z5, z6, z7, z8, z9, z10, z11] T (0, 0)) := heap_setCell_same _ g 1 _ _ _ h0
  have h2 : (((w.setCell ⟨g, 0, none⟩ v0).setCell ⟨g, 1, none⟩ v1).setCell ⟨g, 2, none⟩ v2).heap[g]? = some (.cells #[v0, v1, v2, z3, z4, z5, z6, z7, z8, z9, z10, z11] T (0, 0)) := heap_setCell_same _ g 2 _ _ _ h1
  have h3 : ((((w.setCell ⟨g, 0, none⟩ v0).setCell ⟨g, 1, none⟩ v1).setCell ⟨g, 2, none⟩ v2).setCell ⟨g, 3, none⟩ v3).heap[g]? = some (.cells #[v0, v1, v2, v3, z4, z5, z6, z7, z8, z9, z10, z11] T (0, 0)) := heap_setCell_same _ g 3 _ _ _ h2
  have h4 : (((((w.setCell ⟨g, 0, none⟩ v0).setCell ⟨g, 1, none⟩ v1).setCell ⟨g, 2, none⟩ v2).setCell ⟨g, 3, none⟩ v3).setCell ⟨g, 4, none⟩ v4).heap[g]? = some (.cells #[v0, v1, v2, v3, v4, z5, z6, z7, z8, z9, z10, z11] T (0, 0)) := heap_setCell_same _ g 4 _ _ _ h3
  have h5 : ((((((w.setCell ⟨g, 0, none⟩ v0).setCell ⟨g, 1, none⟩ v1).setCell ⟨g, 2, none⟩ v2).setCell ⟨g, 3, none⟩ v3).setCell ⟨g, 4, none⟩ v4).setCell ⟨g, 5, none⟩ v5).heap[g]? = some (.cells #[v0, v1, v2, v3, v4, v5, z6, z7, z8, z9, z10, z11] T (0, 0)) := heap_setCell_same _ g 5 _ _ _ h4
  have h6 : (((((((w.setCell ⟨g, 0, none⟩ v0).setCell ⟨g, 1, none⟩ v1).setCell ⟨g, 2, none⟩ v2).setCell ⟨g, 3, none⟩ v3).setCell ⟨g, 4, none⟩ v4).setCell ⟨g, 5, none⟩ v5).setCell ⟨g, 6, none⟩ v6).heap[g]? = some (.cells #[v0, v1, v2, v3, v4, v5, v6, z7, z8, z9, z10, z11] T (0, 0)) := heap_setCell_same _ g 6 _ _ _ h5
  have h7 : ((((((((w.setCell ⟨g, 0, none⟩ v0).setCell ⟨g, 1, none⟩ v1).setCell ⟨g, 2, none⟩ v2).setCell ⟨g, 3, none⟩ v3).setCell ⟨g, 4, none⟩ v4).setCell ⟨g, 5, none⟩ v5).setCell ⟨g, 6, none⟩ v6).setCell ⟨g, 7, none⟩ v7).heap[g]? = some (.cells #[v0, v1, v2, v3, v4, v5, v6, v7, z8, z9, z10, z11] T (0, 0)) := heap_setCell_same _ g 7 _ _ _ h6
  have h8 : (((((((((w.setCell ⟨g, 0, none⟩ v0).setCell ⟨g, 1, none⟩ v1).setCell ⟨g, 2, none⟩ v2).setCell ⟨g, 3, none⟩ v3).setCell ⟨g, 4, none⟩ v4).setCell ⟨g, 5, none⟩ v5).setCell ⟨g, 6, none⟩ v6).setCell ⟨g, 7, none⟩ v7).setCell ⟨g, 8, none⟩ v8).heap[g]? = some (.cells #[v0, v1, v2, v3, v4, v5, v6, v7, v8, z9, z10, z11] T (0, 0)) := heap_setCell_same _ g 8 _ _ _ h7
  have h9 : ((((((((((w.setCell ⟨g, 0, none⟩ v0).setCell ⟨g, 1, none⟩ v1).setCell ⟨g, 2, none⟩ v2).setCell ⟨g, 3, none⟩ v3).setCell ⟨g, 4, none⟩ v4).setCell ⟨g, 5, none⟩ v5).setCell ⟨g, 6, none⟩ v6).setCell ⟨g, 7, none⟩ v7).setCell ⟨g, 8, none⟩ v8).setCell ⟨g, 9, none⟩ v9).heap[g]? = some (.cells #[v0, v1, v2, v3, v4, v5, v6, v7, v8, v9, z10, z11] T (0, 0)) := heap_setCell_same _ g 9 _ _ _ h8
  have h10 : (((((((((((w.setCell ⟨g, 0, none⟩ v0).setCell ⟨g, 1, none⟩ v1).setCell ⟨g, 2, none⟩ v2).setCell ⟨g, 3, none⟩ v3).setCell ⟨g, 4, none⟩ v4).setCell ⟨g, 5, none⟩ v5).setCell ⟨g, 6, none⟩ v6).setCell ⟨g, 7, none⟩ v7).setCell ⟨g, 8, none⟩ v8).setCell ⟨g, 9, none⟩ v9).setCell ⟨g, 10, none⟩ v10).heap[g]? = some (.cells #[v0, v1, v2, v3, v4, v5, v6, v7, v8, v9, v10, z11] T (0, 0)) := heap_setCell_same _ g 10 _ _ _ h9
  have h11 : ((((((((((((w.setCell ⟨g, 0, none⟩ v0).setCell ⟨g, 1, none⟩ v1).setCell ⟨g, 2, none⟩ v2).setCell ⟨g, 3, none⟩ v3).setCell ⟨g, 4, none⟩ v4).setCell ⟨g, 5, none⟩ v5).setCell ⟨g, 6, none⟩ v6).setCell ⟨g, 7, none⟩ v7).setCell ⟨g, 8, none⟩ v8).setCell ⟨g, 9, none⟩ v9).setCell ⟨g, 10, none⟩ v10).setCell ⟨g, 11, none⟩ v11).heap[g]? = some (.cells #[v0, v1, v2, v3, v4, v5, v6, v7, v8, v9, v10, v11] T (0, 0)) := heap_setCell_same _ g 11 _ _ _ h10
  exact h11
theorem gsets12 {w : World} {g : Nat} {v0 v1 v2 v3 v4 v5 v6 v7 v8 v9 v10 v11 : Value} : Gb g w ((((((((((((w.setCell ⟨g, 0, none⟩ v0).setCell ⟨g, 1, none⟩ v1).setCell ⟨g, 2, none⟩ v2).setCell ⟨g, 3, none⟩ v3).setCell ⟨g, 4, none⟩ v4).setCell ⟨g, 5, none⟩ v5).setCell ⟨g, 6, none⟩ v6).setCell ⟨g, 7, none⟩ v7).setCell ⟨g, 8, none⟩ v8).setCell ⟨g, 9, none⟩ v9).setCell ⟨g, 10, none⟩ v10).setCell ⟨g, 11, none⟩ v11) := (((((((((((((Gb.refl g w).set 0 v0).set 1 v1).set 2 v2).set 3 v3).set 4 v4).set 5 v5).set 6 v6).set 7 v7).set 8 v8).set 9 v9).set 10 v10).set 11 v11)

theorem rdV_er {b : List Int} {t : Int} {un : Bool} (h : (rdV b t un).2.2 ≠ 0) : rdV b t un = (va0, 0, (rdV b t un).2.2) := by
  unfold rdV at h ⊢
  split
  · rfl
  · rename_i q
    rw [if_neg q] at h
    split
    · rfl
    · rename_i q2
      rw [if_neg q2] at h
      exact absurd rfl h
theorem rdV_bd {b : List Int} {t : Int} {un : Bool} (hb : Byt b) (hl : b.length ≤ 100000) : 0 ≤ (rdV b t un).2.1 ∧ (rdV b t un).2.1 ≤ b.length := by
  by_cases h : (rdV b t un).2.2 = 0
  · obtain ⟨_, _, _, h4, h5⟩ := rdV_ok hb hl h
    omega
  · rw [rdV_er h]
    exact ⟨Int.le_refl _, by show (0 : Int) ≤ _; omega⟩
/-- What is left behind a value. -/
def rdL (b : List Int) (t : Int) (un : Bool) : List Int := b.drop (rdV b t un).2.1.toNat

theorem drew_row1 {w : World} {g : Nat} {o : Obj} (h : w.heap[g]? = some o) : w.drew.heap[g]? = some o := h


/-- A value, what is left, the error. -/
def rvP (b : List Int) (t : Int) (un : Bool) : Va × List Int × Int := if t = 6 then (va0, [], 5) else if (rdV b t un).2.2 ≠ 0 then (va0, [], (rdV b t un).2.2) else ((rdV b t un).1, rdL b t un, 0)
def OutV (w : World) (bo : Option Addr) (bn bc : Nat) (b : List Int) (R : Va × List Int × Int) (e : Ending) (w' : World) : Prop := ∃ lo ln lc, e = .returned (.tuple #[.agg (vaC R.1), .slice lo ln lc, .int .i64 R.2.2]) ∧ Cut bo bn bc b lo ln lc R.2.1 ∧ Below w.heap.size w w'

set_option maxHeartbeats 4000000 in
set_option maxRecDepth 100000 in
theorem preadValue_any (bo : Option Addr) (bn bc : Nat) (b : List Int) (t : Int) (un : Bool) (w : World) (q0 : 0 ≤ t) (q1 : t < 256) (hb : Bs w bo bn bc b) (hn : bn ≤ 100000) :
    Calls Try.prog 48 #[.slice bo bn bc, .agg #[.int .u8 t, .bool un]] w fun e w' => OutV w bo bn bc b (rvP b t un) e w' := by
  obtain ⟨RES, hRES⟩ : ∃ z, z = rvP b t un := ⟨_, rfl⟩
  rw [← hRES]
  unfold rvP at hRES
  have P0 := Pz.new w t un (vaC va0)
  obtain ⟨w2, hw2⟩ : ∃ z, z = (w.alloc (.cells #[.int .u8 t, .bool un] 27)).alloc (.cells (vaC va0) 32) := ⟨_, rfl⟩
  rw [← hw2] at P0
  have cR := hide (read_any bo bn bc b t un w2 q0 q1 (hb.later P0.bl))
  have HW := hide (show (w.alloc (.cells #[.int .u8 t, .bool un] 27)).alloc (.cells #[.int .i64 0, .int .i64 0, .int .u64 0, .string ⟨#[]⟩, .bool false, .int .i64 0, .int .i64 0, .int .i64 0, .int .i64 0, .int .i64 0, .int .i64 0, .int .i64 0] 32) = w2 from hw2.symm)
  have PP := hide P0
  have hbl := hb.len
  have hbm := hb.max
  have hbe := hb.le
  obtain ⟨n0, n1⟩ := rdV_bd (t := t) (un := un) hb.byt (by omega)
  obtain ⟨lo, lc, hcut, hlb⟩ := Bs.cutl2 bo bn bc b (lo := (rdV b t un).2.1.toNat) (by omega) (rdV b t un).2.1 (by omega)
  have HLB := hide (show Cut bo bn bc b lo (bn - (rdV b t un).2.1.toNat) lc (rdL b t un) from hlb)
  obtain ⟨t0, t1⟩ := P0.cells
  have S0 := hide (show (Try.prog.info? 32).map (·.size) = some (#[.int .i64 0, .int .i64 0, .int .u64 0, .string ⟨#[]⟩, .bool false, .int .i64 0, .int .i64 0, .int .i64 0, .int .i64 0, .int .i64 0, .int .i64 0, .int .i64 0] : Array Value).size from vaC_size va0)
  have O0 := hide (show (#[.int .i64 0, .int .i64 0, .int .u64 0, .string ⟨#[]⟩, .bool false, .int .i64 0, .int .i64 0, .int .i64 0, .int .i64 0, .int .i64 0, .int .i64 0, .int .i64 0] : Array Value).all (·.oneCell') = true from vaC_one va0)
  by_cases h6 : t = 6
  · have HR := hide (show RES = (va0, [], 5) by rw [hRES, if_pos h6])
    subst h6
    clear hRES hb hlb hcut n0 n1 cR HLB hw2 P0
    go_enter Try.func48, Try.ntmps48
    go_wp2_with (first | (with_reducible show wpList Try.prog _ _ (Oper.mk _ (Op.store 32 _ _) _ _ _ none :: _) _ _; refine wpList_stG rfl _ (.tmp 4) (.tmp 11) rfl (w.heap.size + 1) #[.int .i64 0, .int .i64 0, .int .u64 0, .string ⟨#[]⟩, .bool false, .int .i64 0, .int .i64 0, .int .i64 0, .int .i64 0, .int .i64 0, .int .i64 0, .int .i64 0] (vaC va0) (by simp [Act.eval, Act.put]) (by simp [Act.eval, Act.put]) (unhide PP).rr (unhide S0) rfl (unhide O0) ?_; intro w4 r4 g4 s4; have P4 := hide ((unhide PP).set r4 g4); clear r4 g4 s4) | (rw [unhide HW]))
    refine bodyPost_ret (results_row_tmp2 rfl _ _ (w.heap.size + 1) _ rfl (run_loadVar_row _ (w.heap.size + 1) _ _ _ _ _ (unhide P4).rr Try.underlying32 rfl (unhide S0))) rfl ?_
    rw [unhide HR]
    exact ⟨none, 0, 0, rfl, cut_nil _ _ _ _, (unhide P4).bl⟩
  rw [if_neg h6] at hRES
  have g6 : (t == 6) = false := by simpa using h6
  clear hw2 P0 hb hlb q0 q1 h6
  generalize rdL b t un = LL at *
  obtain ⟨R, hR⟩ : ∃ z, z = rdV b t un := ⟨_, rfl⟩
  rw [← hR] at cR n0 n1 hcut HLB hRES
  clear hR
  obtain ⟨V, N, E⟩ := R
  simp only at cR n0 n1 hcut HLB hRES
  have SV := hide (vaC_size V)
  have OV := hide (vaC_one V)
  generalize N.toNat = NN at *
  have HR0 := hide hRES
  clear hRES
  by_cases hE : E ≠ 0
  · have HR := hide (show RES = (va0, [], E) by rw [unhide HR0, if_pos hE])
    have gE : (E != 0) = true := by simpa using hE
    clear hcut HLB hE HR0
    go_enter Try.func48, Try.ntmps48
    go_wp2_with (first | (go_at_call 61; rw [unhide HW]; (with_reducible refine (unhide cR).mono ?_); rintro e w3 ⟨rfl, b3⟩; have PP := hide ((unhide PP).later b3); clear t0 t1; obtain ⟨t0, t1⟩ := (unhide PP).cells; clear b3) | (with_reducible show wpList Try.prog _ _ (Oper.mk _ (Op.store 32 _ _) _ _ _ none :: _) _ _; refine wpList_stG rfl _ (.tmp 4) (.tmp 16) rfl (w.heap.size + 1) (vaC V) (vaC va0) (by simp [Act.eval, Act.put]) (by simp [Act.eval, Act.put]) (unhide PP).rr (unhide SV) rfl (unhide OV) ?_; intro w4 r4 g4 s4; have P4 := hide ((unhide PP).set r4 g4); clear r4 g4 s4) | (with_reducible show wpList Try.prog _ _ (Oper.mk _ (Op.store 32 _ _) _ _ _ none :: _) _ _; refine wpList_stG rfl _ (.tmp 4) (.tmp 21) rfl (w.heap.size + 1) #[.int .i64 0, .int .i64 0, .int .u64 0, .string ⟨#[]⟩, .bool false, .int .i64 0, .int .i64 0, .int .i64 0, .int .i64 0, .int .i64 0, .int .i64 0, .int .i64 0] (vaC V) (by simp [Act.eval, Act.put]) (by simp [Act.eval, Act.put]) (unhide P4).rr (unhide S0) rfl (unhide O0) ?_; intro w5 r5 g5 s5; have P5 := hide ((unhide P4).set r5 g5); clear r5 g5 s5))
    refine bodyPost_ret (results_row_tmp2 rfl _ _ (w.heap.size + 1) _ rfl (run_loadVar_row _ (w.heap.size + 1) _ _ _ _ _ (unhide P5).rr Try.underlying32 rfl (unhide S0))) rfl ?_
    rw [unhide HR]
    exact ⟨none, 0, 0, rfl, cut_nil _ _ _ _, (unhide P5).bl⟩
  · have HR := hide (show RES = (V, LL, 0) by rw [unhide HR0, if_neg hE])
    have hE := Classical.not_not.1 hE
    subst hE
    clear HR0
    go_enter Try.func48, Try.ntmps48
    go_upto_region 6 with (first | (go_at_call 61; rw [unhide HW]; (with_reducible refine (unhide cR).mono ?_); rintro e w3 ⟨rfl, b3⟩; have PP := hide ((unhide PP).later b3); clear t0 t1; obtain ⟨t0, t1⟩ := (unhide PP).cells; clear b3) | (with_reducible show wpList Try.prog _ _ (Oper.mk _ (Op.store 32 _ _) _ _ _ none :: _) _ _; refine wpList_stG rfl _ (.tmp 4) (.tmp 16) rfl (w.heap.size + 1) (vaC V) (vaC va0) (by simp [Act.eval, Act.put]) (by simp [Act.eval, Act.put]) (unhide PP).rr (unhide SV) rfl (unhide OV) ?_; intro w4 r4 g4 s4; have P4 := hide ((unhide PP).set r4 g4); clear r4 g4 s4))
    clear cR HW PP
    obtain ⟨k, i, b, tx, ⟨ng, y, mo, d, h, mi, s, mc⟩⟩ := V
    unfold vaC at SV OV P4
    simp only at SV OV P4
    have RV := (unhide P4).rr
    have uf0 := frozen_of_row _ _ 0 _ _ (unhide P4).rr
    have uf1 := frozen_of_row _ _ 1 _ _ (unhide P4).rr
    have uf2 := frozen_of_row _ _ 2 _ _ (unhide P4).rr
    have uf3 := frozen_of_row _ _ 3 _ _ (unhide P4).rr
    have uf4 := frozen_of_row _ _ 4 _ _ (unhide P4).rr
    have uf5 := frozen_of_row _ _ 5 _ _ (unhide P4).rr
    have uf6 := frozen_of_row _ _ 6 _ _ (unhide P4).rr
    have uf7 := frozen_of_row _ _ 7 _ _ (unhide P4).rr
    have uf8 := frozen_of_row _ _ 8 _ _ (unhide P4).rr
    have uf9 := frozen_of_row _ _ 9 _ _ (unhide P4).rr
    have uf10 := frozen_of_row _ _ 10 _ _ (unhide P4).rr
    have uf11 := frozen_of_row _ _ 11 _ _ (unhide P4).rr
    have HS0 := hide (show w4.drew.cell? ⟨w.heap.size + 1, 0, none⟩ = some (.int .i64 k) ∧ w4.drew.cell? ⟨w.heap.size + 1, 1, none⟩ = some (.int .i64 i) ∧ w4.drew.cell? ⟨w.heap.size + 1, 2, none⟩ = some (.int .u64 b) ∧ w4.drew.cell? ⟨w.heap.size + 1, 3, none⟩ = some (.string tx) ∧ w4.drew.cell? ⟨w.heap.size + 1, 4, none⟩ = some (.bool ng) ∧ w4.drew.cell? ⟨w.heap.size + 1, 5, none⟩ = some (.int .i64 y) ∧ w4.drew.cell? ⟨w.heap.size + 1, 6, none⟩ = some (.int .i64 mo) ∧ w4.drew.cell? ⟨w.heap.size + 1, 7, none⟩ = some (.int .i64 d) ∧ w4.drew.cell? ⟨w.heap.size + 1, 8, none⟩ = some (.int .i64 h) ∧ w4.drew.cell? ⟨w.heap.size + 1, 9, none⟩ = some (.int .i64 mi) ∧ w4.drew.cell? ⟨w.heap.size + 1, 10, none⟩ = some (.int .i64 s) ∧ w4.drew.cell? ⟨w.heap.size + 1, 11, none⟩ = some (.int .i64 mc) from ⟨vrow_cell RV (j := 0) (v := .int .i64 k) rfl, vrow_cell RV (j := 1) (v := .int .i64 i) rfl, vrow_cell RV (j := 2) (v := .int .u64 b) rfl, vrow_cell RV (j := 3) (v := .string tx) rfl, vrow_cell RV (j := 4) (v := .bool ng) rfl, vrow_cell RV (j := 5) (v := .int .i64 y) rfl, vrow_cell RV (j := 6) (v := .int .i64 mo) rfl, vrow_cell RV (j := 7) (v := .int .i64 d) rfl, vrow_cell RV (j := 8) (v := .int .i64 h) rfl, vrow_cell RV (j := 9) (v := .int .i64 mi) rfl, vrow_cell RV (j := 10) (v := .int .i64 s) rfl, vrow_cell RV (j := 11) (v := .int .i64 mc) rfl⟩)
    have HS1 := hide (show ((((((((((((w4.setCell ⟨w.heap.size + 1, 0, none⟩ (.int .i64 k)).setCell ⟨w.heap.size + 1, 1, none⟩ (.int .i64 i)).setCell ⟨w.heap.size + 1, 2, none⟩ (.int .u64 b)).setCell ⟨w.heap.size + 1, 3, none⟩ (.string tx)).setCell ⟨w.heap.size + 1, 4, none⟩ (.bool ng)).setCell ⟨w.heap.size + 1, 5, none⟩ (.int .i64 y)).setCell ⟨w.heap.size + 1, 6, none⟩ (.int .i64 mo)).setCell ⟨w.heap.size + 1, 7, none⟩ (.int .i64 d)).setCell ⟨w.heap.size + 1, 8, none⟩ (.int .i64 h)).setCell ⟨w.heap.size + 1, 9, none⟩ (.int .i64 mi)).setCell ⟨w.heap.size + 1, 10, none⟩ (.int .i64 s)).setCell ⟨w.heap.size + 1, 11, none⟩ (.int .i64 mc)).drew.cell? ⟨w.heap.size + 1, 0, none⟩ = some (.int .i64 k) ∧ ((((((((((((w4.setCell ⟨w.heap.size + 1, 0, none⟩ (.int .i64 k)).setCell ⟨w.heap.size + 1, 1, none⟩ (.int .i64 i)).setCell ⟨w.heap.size + 1, 2, none⟩ (.int .u64 b)).setCell ⟨w.heap.size + 1, 3, none⟩ (.string tx)).setCell ⟨w.heap.size + 1, 4, none⟩ (.bool ng)).setCell ⟨w.heap.size + 1, 5, none⟩ (.int .i64 y)).setCell ⟨w.heap.size + 1, 6, none⟩ (.int .i64 mo)).setCell ⟨w.heap.size + 1, 7, none⟩ (.int .i64 d)).setCell ⟨w.heap.size + 1, 8, none⟩ (.int .i64 h)).setCell ⟨w.heap.size + 1, 9, none⟩ (.int .i64 mi)).setCell ⟨w.heap.size + 1, 10, none⟩ (.int .i64 s)).setCell ⟨w.heap.size + 1, 11, none⟩ (.int .i64 mc)).drew.cell? ⟨w.heap.size + 1, 1, none⟩ = some (.int .i64 i) ∧ ((((((((((((w4.setCell ⟨w.heap.size + 1, 0, none⟩ (.int .i64 k)).setCell ⟨w.heap.size + 1, 1, none⟩ (.int .i64 i)).setCell ⟨w.heap.size + 1, 2, none⟩ (.int .u64 b)).setCell ⟨w.heap.size + 1, 3, none⟩ (.string tx)).setCell ⟨w.heap.size + 1, 4, none⟩ (.bool ng)).setCell ⟨w.heap.size + 1, 5, none⟩ (.int .i64 y)).setCell ⟨w.heap.size + 1, 6, none⟩ (.int .i64 mo)).setCell ⟨w.heap.size + 1, 7, none⟩ (.int .i64 d)).setCell ⟨w.heap.size + 1, 8, none⟩ (.int .i64 h)).setCell ⟨w.heap.size + 1, 9, none⟩ (.int .i64 mi)).setCell ⟨w.heap.size + 1, 10, none⟩ (.int .i64 s)).setCell ⟨w.heap.size + 1, 11, none⟩ (.int .i64 mc)).drew.cell? ⟨w.heap.size + 1, 2, none⟩ = some (.int .u64 b) ∧ ((((((((((((w4.setCell ⟨w.heap.size + 1, 0, none⟩ (.int .i64 k)).setCell ⟨w.heap.size + 1, 1, none⟩ (.int .i64 i)).setCell ⟨w.heap.size + 1, 2, none⟩ (.int .u64 b)).setCell ⟨w.heap.size + 1, 3, none⟩ (.string tx)).setCell ⟨w.heap.size + 1, 4, none⟩ (.bool ng)).setCell ⟨w.heap.size + 1, 5, none⟩ (.int .i64 y)).setCell ⟨w.heap.size + 1, 6, none⟩ (.int .i64 mo)).setCell ⟨w.heap.size + 1, 7, none⟩ (.int .i64 d)).setCell ⟨w.heap.size + 1, 8, none⟩ (.int .i64 h)).setCell ⟨w.heap.size + 1, 9, none⟩ (.int .i64 mi)).setCell ⟨w.heap.size + 1, 10, none⟩ (.int .i64 s)).setCell ⟨w.heap.size + 1, 11, none⟩ (.int .i64 mc)).drew.cell? ⟨w.heap.size + 1, 3, none⟩ = some (.string tx) ∧ ((((((((((((w4.setCell ⟨w.heap.size + 1, 0, none⟩ (.int .i64 k)).setCell ⟨w.heap.size + 1, 1, none⟩ (.int .i64 i)).setCell ⟨w.heap.size + 1, 2, none⟩ (.int .u64 b)).setCell ⟨w.heap.size + 1, 3, none⟩ (.string tx)).setCell ⟨w.heap.size + 1, 4, none⟩ (.bool ng)).setCell ⟨w.heap.size + 1, 5, none⟩ (.int .i64 y)).setCell ⟨w.heap.size + 1, 6, none⟩ (.int .i64 mo)).setCell ⟨w.heap.size + 1, 7, none⟩ (.int .i64 d)).setCell ⟨w.heap.size + 1, 8, none⟩ (.int .i64 h)).setCell ⟨w.heap.size + 1, 9, none⟩ (.int .i64 mi)).setCell ⟨w.heap.size + 1, 10, none⟩ (.int .i64 s)).setCell ⟨w.heap.size + 1, 11, none⟩ (.int .i64 mc)).drew.cell? ⟨w.heap.size + 1, 4, none⟩ = some (.bool ng) ∧ ((((((((((((w4.setCell ⟨w.heap.size + 1, 0, none⟩ (.int .i64 k)).setCell ⟨w.heap.size + 1, 1, none⟩ (.int .i64 i)).setCell ⟨w.heap.size + 1, 2, none⟩ (.int .u64 b)).setCell ⟨w.heap.size + 1, 3, none⟩ (.string tx)).setCell ⟨w.heap.size + 1, 4, none⟩ (.bool ng)).setCell ⟨w.heap.size + 1, 5, none⟩ (.int .i64 y)).setCell ⟨w.heap.size + 1, 6, none⟩ (.int .i64 mo)).setCell ⟨w.heap.size + 1, 7, none⟩ (.int .i64 d)).setCell ⟨w.heap.size + 1, 8, none⟩ (.int .i64 h)).setCell ⟨w.heap.size + 1, 9, none⟩ (.int .i64 mi)).setCell ⟨w.heap.size + 1, 10, none⟩ (.int .i64 s)).setCell ⟨w.heap.size + 1, 11, none⟩ (.int .i64 mc)).drew.cell? ⟨w.heap.size + 1, 5, none⟩ = some (.int .i64 y) ∧ ((((((((((((w4.setCell ⟨w.heap.size + 1, 0, none⟩ (.int .i64 k)).setCell ⟨w.heap.size + 1, 1, none⟩ (.int .i64 i)).setCell ⟨w.heap.size + 1, 2, none⟩ (.int .u64 b)).setCell ⟨w.heap.size + 1, 3, none⟩ (.string tx)).setCell ⟨w.heap.size + 1, 4, none⟩ (.bool ng)).setCell ⟨w.heap.size + 1, 5, none⟩ (.int .i64 y)).setCell ⟨w.heap.size + 1, 6, none⟩ (.int .i64 mo)).setCell ⟨w.heap.size + 1, 7, none⟩ (.int .i64 d)).setCell ⟨w.heap.size + 1, 8, none⟩ (.int .i64 h)).setCell ⟨w.heap.size + 1, 9, none⟩ (.int .i64 mi)).setCell ⟨w.heap.size + 1, 10, none⟩ (.int .i64 s)).setCell ⟨w.heap.size + 1, 11, none⟩ (.int .i64 mc)).drew.cell? ⟨w.heap.size + 1, 6, none⟩ = some (.int .i64 mo) ∧ ((((((((((((w4.setCell ⟨w.heap.size + 1, 0, none⟩ (.int .i64 k)).setCell ⟨w.heap.size + 1, 1, none⟩ (.int .i64 i)).setCell ⟨w.heap.size + 1, 2, none⟩ (.int .u64 b)).setCell ⟨w.heap.size + 1, 3, none⟩ (.string tx)).setCell ⟨w.heap.size + 1, 4, none⟩ (.bool ng)).setCell ⟨w.heap.size + 1, 5, none⟩ (.int .i64 y)).setCell ⟨w.heap.size + 1, 6, none⟩ (.int .i64 mo)).setCell ⟨w.heap.size + 1, 7, none⟩ (.int .i64 d)).setCell ⟨w.heap.size + 1, 8, none⟩ (.int .i64 h)).setCell ⟨w.heap.size + 1, 9, none⟩ (.int .i64 mi)).setCell ⟨w.heap.size + 1, 10, none⟩ (.int .i64 s)).setCell ⟨w.heap.size + 1, 11, none⟩ (.int .i64 mc)).drew.cell? ⟨w.heap.size + 1, 7, none⟩ = some (.int .i64 d) ∧ ((((((((((((w4.setCell ⟨w.heap.size + 1, 0, none⟩ (.int .i64 k)).setCell ⟨w.heap.size + 1, 1, none⟩ (.int .i64 i)).setCell ⟨w.heap.size + 1, 2, none⟩ (.int .u64 b)).setCell ⟨w.heap.size + 1, 3, none⟩ (.string tx)).setCell ⟨w.heap.size + 1, 4, none⟩ (.bool ng)).setCell ⟨w.heap.size + 1, 5, none⟩ (.int .i64 y)).setCell ⟨w.heap.size + 1, 6, none⟩ (.int .i64 mo)).setCell ⟨w.heap.size + 1, 7, none⟩ (.int .i64 d)).setCell ⟨w.heap.size + 1, 8, none⟩ (.int .i64 h)).setCell ⟨w.heap.size + 1, 9, none⟩ (.int .i64 mi)).setCell ⟨w.heap.size + 1, 10, none⟩ (.int .i64 s)).setCell ⟨w.heap.size + 1, 11, none⟩ (.int .i64 mc)).drew.cell? ⟨w.heap.size + 1, 8, none⟩ = some (.int .i64 h) ∧ ((((((((((((w4.setCell ⟨w.heap.size + 1, 0, none⟩ (.int .i64 k)).setCell ⟨w.heap.size + 1, 1, none⟩ (.int .i64 i)).setCell ⟨w.heap.size + 1, 2, none⟩ (.int .u64 b)).setCell ⟨w.heap.size + 1, 3, none⟩ (.string tx)).setCell ⟨w.heap.size + 1, 4, none⟩ (.bool ng)).setCell ⟨w.heap.size + 1, 5, none⟩ (.int .i64 y)).setCell ⟨w.heap.size + 1, 6, none⟩ (.int .i64 mo)).setCell ⟨w.heap.size + 1, 7, none⟩ (.int .i64 d)).setCell ⟨w.heap.size + 1, 8, none⟩ (.int .i64 h)).setCell ⟨w.heap.size + 1, 9, none⟩ (.int .i64 mi)).setCell ⟨w.heap.size + 1, 10, none⟩ (.int .i64 s)).setCell ⟨w.heap.size + 1, 11, none⟩ (.int .i64 mc)).drew.cell? ⟨w.heap.size + 1, 9, none⟩ = some (.int .i64 mi) ∧ ((((((((((((w4.setCell ⟨w.heap.size + 1, 0, none⟩ (.int .i64 k)).setCell ⟨w.heap.size + 1, 1, none⟩ (.int .i64 i)).setCell ⟨w.heap.size + 1, 2, none⟩ (.int .u64 b)).setCell ⟨w.heap.size + 1, 3, none⟩ (.string tx)).setCell ⟨w.heap.size + 1, 4, none⟩ (.bool ng)).setCell ⟨w.heap.size + 1, 5, none⟩ (.int .i64 y)).setCell ⟨w.heap.size + 1, 6, none⟩ (.int .i64 mo)).setCell ⟨w.heap.size + 1, 7, none⟩ (.int .i64 d)).setCell ⟨w.heap.size + 1, 8, none⟩ (.int .i64 h)).setCell ⟨w.heap.size + 1, 9, none⟩ (.int .i64 mi)).setCell ⟨w.heap.size + 1, 10, none⟩ (.int .i64 s)).setCell ⟨w.heap.size + 1, 11, none⟩ (.int .i64 mc)).drew.cell? ⟨w.heap.size + 1, 10, none⟩ = some (.int .i64 s) ∧ ((((((((((((w4.setCell ⟨w.heap.size + 1, 0, none⟩ (.int .i64 k)).setCell ⟨w.heap.size + 1, 1, none⟩ (.int .i64 i)).setCell ⟨w.heap.size + 1, 2, none⟩ (.int .u64 b)).setCell ⟨w.heap.size + 1, 3, none⟩ (.string tx)).setCell ⟨w.heap.size + 1, 4, none⟩ (.bool ng)).setCell ⟨w.heap.size + 1, 5, none⟩ (.int .i64 y)).setCell ⟨w.heap.size + 1, 6, none⟩ (.int .i64 mo)).setCell ⟨w.heap.size + 1, 7, none⟩ (.int .i64 d)).setCell ⟨w.heap.size + 1, 8, none⟩ (.int .i64 h)).setCell ⟨w.heap.size + 1, 9, none⟩ (.int .i64 mi)).setCell ⟨w.heap.size + 1, 10, none⟩ (.int .i64 s)).setCell ⟨w.heap.size + 1, 11, none⟩ (.int .i64 mc)).drew.cell? ⟨w.heap.size + 1, 11, none⟩ = some (.int .i64 mc) from (have q := drew_row1 (rsets12 RV (v0 := .int .i64 k) (v1 := .int .i64 i) (v2 := .int .u64 b) (v3 := .string tx) (v4 := .bool ng) (v5 := .int .i64 y) (v6 := .int .i64 mo) (v7 := .int .i64 d) (v8 := .int .i64 h) (v9 := .int .i64 mi) (v10 := .int .i64 s) (v11 := .int .i64 mc)); ⟨vrow_cell q (j := 0) (v := .int .i64 k) rfl, vrow_cell q (j := 1) (v := .int .i64 i) rfl, vrow_cell q (j := 2) (v := .int .u64 b) rfl, vrow_cell q (j := 3) (v := .string tx) rfl, vrow_cell q (j := 4) (v := .bool ng) rfl, vrow_cell q (j := 5) (v := .int .i64 y) rfl, vrow_cell q (j := 6) (v := .int .i64 mo) rfl, vrow_cell q (j := 7) (v := .int .i64 d) rfl, vrow_cell q (j := 8) (v := .int .i64 h) rfl, vrow_cell q (j := 9) (v := .int .i64 mi) rfl, vrow_cell q (j := 10) (v := .int .i64 s) rfl, vrow_cell q (j := 11) (v := .int .i64 mc) rfl⟩))
    obtain ⟨g0, g1, g2, g3, g4, g5, g7, g8, g9, g10, g11, g12⟩ := (show w4.cell? ⟨w.heap.size + 1, 0, none⟩ = some (.int .i64 k) ∧ w4.cell? ⟨w.heap.size + 1, 1, none⟩ = some (.int .i64 i) ∧ w4.cell? ⟨w.heap.size + 1, 2, none⟩ = some (.int .u64 b) ∧ w4.cell? ⟨w.heap.size + 1, 3, none⟩ = some (.string tx) ∧ w4.cell? ⟨w.heap.size + 1, 4, none⟩ = some (.bool ng) ∧ w4.cell? ⟨w.heap.size + 1, 5, none⟩ = some (.int .i64 y) ∧ w4.cell? ⟨w.heap.size + 1, 6, none⟩ = some (.int .i64 mo) ∧ w4.cell? ⟨w.heap.size + 1, 7, none⟩ = some (.int .i64 d) ∧ w4.cell? ⟨w.heap.size + 1, 8, none⟩ = some (.int .i64 h) ∧ w4.cell? ⟨w.heap.size + 1, 9, none⟩ = some (.int .i64 mi) ∧ w4.cell? ⟨w.heap.size + 1, 10, none⟩ = some (.int .i64 s) ∧ w4.cell? ⟨w.heap.size + 1, 11, none⟩ = some (.int .i64 mc) from ⟨vrow_cell RV (j := 0) (v := .int .i64 k) rfl, vrow_cell RV (j := 1) (v := .int .i64 i) rfl, vrow_cell RV (j := 2) (v := .int .u64 b) rfl, vrow_cell RV (j := 3) (v := .string tx) rfl, vrow_cell RV (j := 4) (v := .bool ng) rfl, vrow_cell RV (j := 5) (v := .int .i64 y) rfl, vrow_cell RV (j := 6) (v := .int .i64 mo) rfl, vrow_cell RV (j := 7) (v := .int .i64 d) rfl, vrow_cell RV (j := 8) (v := .int .i64 h) rfl, vrow_cell RV (j := 9) (v := .int .i64 mi) rfl, vrow_cell RV (j := 10) (v := .int .i64 s) rfl, vrow_cell RV (j := 11) (v := .int .i64 mc) rfl⟩)
    go_region_held3 (fun w' => w'.cell? ⟨w.heap.size + 1, 0, none⟩ = some (.int .i64 k) ∧ w'.cell? ⟨w.heap.size + 1, 1, none⟩ = some (.int .i64 i) ∧ w'.cell? ⟨w.heap.size + 1, 2, none⟩ = some (.int .u64 b) ∧ w'.cell? ⟨w.heap.size + 1, 3, none⟩ = some (.string tx) ∧ w'.cell? ⟨w.heap.size + 1, 4, none⟩ = some (.bool ng) ∧ w'.cell? ⟨w.heap.size + 1, 5, none⟩ = some (.int .i64 y) ∧ w'.cell? ⟨w.heap.size + 1, 6, none⟩ = some (.int .i64 mo) ∧ w'.cell? ⟨w.heap.size + 1, 7, none⟩ = some (.int .i64 d) ∧ w'.cell? ⟨w.heap.size + 1, 8, none⟩ = some (.int .i64 h) ∧ w'.cell? ⟨w.heap.size + 1, 9, none⟩ = some (.int .i64 mi) ∧ w'.cell? ⟨w.heap.size + 1, 10, none⟩ = some (.int .i64 s) ∧ w'.cell? ⟨w.heap.size + 1, 11, none⟩ = some (.int .i64 mc)) (first | with_reducible exact unhide HS0 | with_reducible exact unhide HS1 | go_keep) (fail)
    go_wp2_with fail
    refine bodyPost_ret (results_row_tmp2 rfl _ _ (w.heap.size + 1) _ rfl (run_loadVar_row _ (w.heap.size + 1) _ _ _ _ _ (drew_row1 (rsets12 RV)) Try.underlying32 rfl (unhide SV))) rfl ?_
    have B5 := (((unhide P4).set (rsets12 RV (v0 := .int .i64 k) (v1 := .int .i64 i) (v2 := .int .u64 b) (v3 := .string tx) (v4 := .bool ng) (v5 := .int .i64 y) (v6 := .int .i64 mo) (v7 := .int .i64 d) (v8 := .int .i64 h) (v9 := .int .i64 mi) (v10 := .int .i64 s) (v11 := .int .i64 mc)) gsets12).later (below_drew _)).bl
    rw [unhide HR]
    exact ⟨lo, bn - NN, lc, rfl, unhide HLB, B5⟩


end Go.Proofs.Ytfgghgoonfamkaa

namespace Go.Proofs.Ytfgghgoonfamkaa
open Go.RowKit
set_option linter.unusedVariables false
set_option linter.unusedSimpArgs false

/-- May the marks be? -/
def mkP (nl : List Int) (n : Nat) (lg : List Bool) (i : Nat) : Bool := !(bit nl i && (decide (n ≤ i) || lg.getD i false))
def mkOk (nl : List Int) (n : Nat) (lg : List Bool) : Bool := (List.range (8 * nl.length)).all (mkP nl n lg)
def mkE (b : List Int) (n : Nat) (lg : List Bool) : Int := if b.length < (n + 7) / 8 then 4 else if mkOk (b.take ((n + 7) / 8)) n lg = false then 5 else 0
theorem mk_next {nl : List Int} {n : Nat} {lg : List Bool} {j : Nat} : (List.range (j + 1)).all (mkP nl n lg) = ((List.range j).all (mkP nl n lg) && mkP nl n lg j) := by
  rw [List.range_succ, List.all_append]
  simp
theorem mk_no {nl : List Int} {n : Nat} {lg : List Bool} {j m : Nat} (h : mkP nl n lg j = false) (hj : j < m) : (List.range m).all (mkP nl n lg) = false := by
  rw [List.all_eq_false]
  exact ⟨j, List.mem_range.2 hj, by rw [h]; decide⟩
def OutMk (w : World) (bo : Option Addr) (bn bc : Nat) (b : List Int) (n : Nat) (go : Option Addr) (gn gc : Nat) (lg : List Bool) (e : Ending) (w' : World) : Prop :=
  if mkE b n lg = 0 then ∃ no nn nc lo ln lc, e = .returned (.tuple #[.agg #[.slice no nn nc, .slice go gn gc], .slice lo ln lc, .int .i64 0]) ∧ Cut bo bn bc b no nn nc (b.take ((n + 7) / 8)) ∧ Cut bo bn bc b lo ln lc (b.drop ((n + 7) / 8)) ∧ Below w.heap.size w w'
  else e = .returned (.tuple #[.agg #[.slice none 0 0, .slice none 0 0], .slice none 0 0, .int .i64 (mkE b n lg)]) ∧ Below w.heap.size w w'
theorem OutMk.mk0 {w : World} {bo : Option Addr} {bn bc : Nat} {b : List Int} {n : Nat} {go : Option Addr} {gn gc : Nat} {lg : List Bool} {e : Ending} {w' : World} (h : mkE b n lg = 0) (q : ∃ no nn nc lo ln lc, e = .returned (.tuple #[.agg #[.slice no nn nc, .slice go gn gc], .slice lo ln lc, .int .i64 0]) ∧ Cut bo bn bc b no nn nc (b.take ((n + 7) / 8)) ∧ Cut bo bn bc b lo ln lc (b.drop ((n + 7) / 8)) ∧ Below w.heap.size w w') : OutMk w bo bn bc b n go gn gc lg e w' := by
  unfold OutMk
  rwa [if_pos h]
theorem OutMk.mkN {w : World} {bo : Option Addr} {bn bc : Nat} {b : List Int} {n : Nat} {go : Option Addr} {gn gc : Nat} {lg : List Bool} {e : Ending} {w' : World} {E : Int} (h : mkE b n lg = E) (h0 : E ≠ 0) (q : e = .returned (.tuple #[.agg #[.slice none 0 0, .slice none 0 0], .slice none 0 0, .int .i64 E]) ∧ Below w.heap.size w w') : OutMk w bo bn bc b n go gn gc lg e w' := by
  unfold OutMk
  rw [h]
  rwa [if_neg h0]
theorem OutMk.is0 {w : World} {bo : Option Addr} {bn bc : Nat} {b : List Int} {n : Nat} {go : Option Addr} {gn gc : Nat} {lg : List Bool} {e : Ending} {w' : World} (q : OutMk w bo bn bc b n go gn gc lg e w') (h : mkE b n lg = 0) : ∃ no nn nc lo ln lc, e = .returned (.tuple #[.agg #[.slice no nn nc, .slice go gn gc], .slice lo ln lc, .int .i64 0]) ∧ Cut bo bn bc b no nn nc (b.take ((n + 7) / 8)) ∧ Cut bo bn bc b lo ln lc (b.drop ((n + 7) / 8)) ∧ Below w.heap.size w w' := by
  unfold OutMk at q
  rwa [if_pos h] at q
theorem OutMk.isN {w : World} {bo : Option Addr} {bn bc : Nat} {b : List Int} {n : Nat} {go : Option Addr} {gn gc : Nat} {lg : List Bool} {e : Ending} {w' : World} {E : Int} (q : OutMk w bo bn bc b n go gn gc lg e w') (h : mkE b n lg = E) (h0 : E ≠ 0) : e = .returned (.tuple #[.agg #[.slice none 0 0, .slice none 0 0], .slice none 0 0, .int .i64 E]) ∧ Below w.heap.size w w' := by
  unfold OutMk at q
  rw [h] at q
  rwa [if_neg h0] at q
theorem rsets2 {w : World} {g : Nat} {T : TypeId} {z0 z1 v0 v1 : Value} (h : w.heap[g]? = some (.cells #[z0, z1] T (0, 0))) : ((w.setCell ⟨g, 0, none⟩ v0).setCell ⟨g, 1, none⟩ v1).heap[g]? = some (.cells #[v0, v1] T (0, 0)) := by
  have h0 : (w.setCell ⟨g, 0, none⟩ v0).heap[g]? = some (.cells #[v0, z1] T (0, 0)) := heap_setCell_same _ g 0 _ _ _ h
  exact heap_setCell_same _ g 1 _ _ _ h0
theorem below_s2 {w0 w : World} {B g : Nat} {v0 v1 : Value} (h : Below B w0 w) (hg : B ≤ g) : Below B w0 ((w.setCell ⟨g, 0, none⟩ v0).setCell ⟨g, 1, none⟩ v1) :=
  ⟨h.os, h.tape, h.output, Nat.le_trans h.size (by simp), fun k hk => ((heap_setCell_other _ _ _ _ (by show k ≠ g; omega)).trans (heap_setCell_other _ _ _ _ (by show k ≠ g; omega))).trans (h.block k hk)⟩

set_option maxHeartbeats 4000000 in
set_option maxRecDepth 100000 in
theorem preadMarks_any (bo : Option Addr) (bn bc : Nat) (b : List Int) (n : Nat) (go : Option Addr) (gn gc : Nat) (lg : List Bool) (w : World) (hb : Bs w bo bn bc b) (hg : Bls w go gn gc lg) (hn : n ≤ 90000) :
    Calls Try.prog 23 #[.slice bo bn bc, .int .i64 (n : Int), .slice go gn gc] w fun e w' => OutMk w bo bn bc b n go gn gc lg e w' := by
  have hbl := hb.len
  have hle := hb.le
  have hmx := hb.max
  have hgl := hg.le
  have hgx := hg.max
  obtain ⟨SZ, hSZ⟩ : ∃ z, z = (n + 7) / 8 := ⟨_, rfl⟩
  have cNB := hide (fun wx => pnullBytes_any n wx (by omega))
  rw [← hSZ] at cNB
  have HSZ := hide hSZ
  have hs2 : 8 * SZ ≤ 90010 := by omega
  have SM := hide (fun (x y : Value) => show (Try.prog.info? 54).map (·.size) = some (#[x, y] : Array Value).size from (by rw [show (#[x, y] : Array Value).size = 2 from rfl]; kernel_rfl))
  have q1 := below_alloc w (.cells #[.slice none 0 0, .slice none 0 0] 54)
  have r1 := heap_alloc_new w (.cells #[.slice none 0 0, .slice none 0 0] 54)
  by_cases hlt : bn < SZ
  · have g1 : (bn : Int) < (SZ : Int) := by omega
    have HE := hide (show mkE b n lg = 4 by unfold mkE; rw [if_pos (by omega)])
    have Q1 := hide q1
    have R1 := hide r1
    clear hb hg hSZ hbl q1 r1
    go_enter Try.func23, Try.ntmps23
    go_wp2_with (first | (go_at_call 43; (with_reducible refine same_world (unhide cNB _) ?_)) | (with_reducible show wpList Try.prog _ _ (Oper.mk _ (Op.store 54 _ _) _ _ _ none :: _) _ _; refine wpList_stN rfl _ (.tmp 6) (.tmp 17) rfl #[.slice none 0 0, .slice none 0 0] (by simp [Act.eval, Act.put]) (by simp [Act.eval, Act.put]) (unhide SM _ _) rfl (by simp [Value.oneCell']) ?_; intro w2 r2 b2 l2; have R2 := hide r2; have B2 := hide b2; clear r2 b2))
    refine bodyPost_ret (results_row_tmp2 rfl _ _ w.heap.size _ rfl (run_loadVar_row _ w.heap.size _ _ _ _ _ (unhide R2) Try.underlying54 rfl (unhide SM _ _))) rfl ?_
    exact OutMk.mkN (unhide HE) (by decide) ⟨rfl, unhide B2⟩
  have g1 : ¬ (bn : Int) < (SZ : Int) := by omega
  obtain ⟨no, nc, hs1, hc1⟩ := Bs.cuth2 bo bn bc b (hi := SZ) (by omega) hle (SZ : Int) rfl
  obtain ⟨lo, lc, hs3, hc3⟩ := Bs.cutl2 bo bn bc b (lo := SZ) (by omega) (SZ : Int) rfl
  have hx1 := hc1 w hb
  have HX1 := hide hx1
  have hnl := hx1.len
  obtain ⟨NL, hNL⟩ : ∃ z, z = b.take SZ := ⟨_, rfl⟩
  rw [← hNL] at hx1 hnl
  have HE := hide (show mkE b n lg = if mkOk NL n lg = false then 5 else 0 by unfold mkE; rw [if_neg (by omega), ← hSZ, ← hNL])
  have HOKD := hide (show mkOk NL n lg = (List.range (8 * SZ)).all (mkP NL n lg) by unfold mkOk; rw [hnl])
  have HC1 := hide hc1
  have HC3 := hide hc3
  have HG := hide hg
  have HNLB := hide hx1
  obtain ⟨N8, hN8⟩ : ∃ z, z = 8 * SZ := ⟨_, rfl⟩
  have e8 : (8 : Int) * (SZ : Int) = (N8 : Int) := by omega
  have HN8 := hide hN8
  rw [← hN8] at HOKD
  clear hb hg hSZ hbl q1 r1 hx1 hc1 hc3 hnl hN8 hNL HX1
  go_enter Try.func23, Try.ntmps23
  go_wp2_with (first | (go_at_call 43; (with_reducible refine same_world (unhide cNB _) ?_)) | (with_reducible show wpList Try.prog _ _ (Oper.mk _ (Op.store 54 _ _) _ _ _ none :: _) _ _; refine wpList_stN rfl _ (.tmp 6) (.tmp 22) rfl #[.slice no SZ nc, .slice go gn gc] (by simp [Act.eval, Act.put]) (by simp [Act.eval, Act.put]) (unhide SM _ _) rfl (by simp [Value.oneCell']) ?_; intro w2 r2 b2 l2; have R2 := hide r2; have B2 := hide b2; clear r2 b2))
  go_loopw [25] (fun iv ws => ∃ (j : Nat), j ≤ N8 ∧ iv = .int .i64 (j : Int) ∧ ws.heap[w.heap.size]? = some (.cells #[.slice no SZ nc, .slice go gn gc] 54 (0, 0)) ∧ (List.range j).all (mkP NL n lg) = true ∧ Below w.heap.size w ws) (fun iv _ => N8 - (intOf iv).toNat)
  case atStart => exact ⟨0, by omega, rfl, unhide R2, rfl, unhide B2⟩
  case round =>
    clear R2 B2 cNB
    obtain ⟨j, hj, rfl, hR, hQ, hB⟩ := hrel
    have hob := hB.size
    have hgs : w.heap.size < wr.heap.size := (Array.getElem?_eq_some_iff.1 hR).1
    have k0 := vrow_cell hR (j := 0) (v := .slice no SZ nc) rfl
    have k1 := vrow_cell hR (j := 1) (v := .slice go gn gc) rfl
    have HB := hide hB
    have HQ := hide hQ
    have HRW := hide hR
    clear hB hQ hR
    by_cases hlt2 : j < N8
    · have hlj : ((j : Nat) : Int) < (N8 : Int) := by omega
      have hj8 : j / 8 < SZ := by have := unhide HN8; omega
      have hj9 : j ≤ 100000 := by have := unhide HN8; omega
      have cI := hide (mkNull_any go gn gc no SZ nc NL j wr ((unhide HNLB).later (unhide HB)) hj8 hj9)
      have HNX := hide (mk_next (nl := NL) (n := n) (lg := lg) (j := j))
      have HNO := hide (fun (h : mkP NL n lg j = false) => mk_no h hlt2)
      have HP : Hid (mkP NL n lg j = !(bit NL j && (decide (n ≤ j) || lg.getD j false))) := hide rfl
      generalize mkP NL n lg j = PJ at *
      generalize bit NL j = BT at *
      cases BT
      · have HQ2 := hide (show (List.range (j + 1)).all (mkP NL n lg) = true by rw [unhide HNX, unhide HQ, unhide HP]; rfl)
        clear HNX HNO HP
        go_wp2_with (go_at_call 44; (with_reducible refine (unhide cI).mono ?_); rintro e w3 ⟨rfl, b3⟩; have B3 := hide (vbup (unhide HB) b3); have R3 := hide (vrow_later (unhide HRW) b3); clear b3)
        go_roundw
        case rel => exact ⟨j + 1, by omega, by go_num, unhide R3, unhide HQ2, unhide B3⟩
        case measure => simp [intOf]; omega
      · by_cases hnj : n ≤ j
        · have gn1 : ((j : Nat) : Int) ≥ (n : Int) := by omega
          have HE2 := hide (show mkE b n lg = 5 by rw [unhide HE, unhide HOKD, unhide HNO (by rw [unhide HP, decide_eq_true hnj]; rfl)]; rfl)
          clear HNX HNO HP HE HOKD
          go_wp2_with (first | (go_at_call 44; (with_reducible refine (unhide cI).mono ?_); rintro e w3 ⟨rfl, b3⟩; have B3 := hide (vbup (unhide HB) b3); have R3 := hide (vrow_later (unhide HRW) b3); clear b3) | (with_reducible show wpList Try.prog _ _ (Oper.mk _ (Op.store 54 _ _) _ _ _ none :: _) _ _; refine wpList_stG rfl _ (.tmp 6) (.tmp 41) rfl w.heap.size #[.slice none 0 0, .slice none 0 0] #[.slice no SZ nc, .slice go gn gc] (by simp [Act.eval, Act.put]) (by simp [Act.eval, Act.put]) (unhide R3) (unhide SM _ _) rfl (by simp [Value.oneCell']) ?_; intro w4 r4 g4 s4; have R4 := hide r4; have B4 := hide (below_gb' (unhide B3) g4 (unhide B3).size); clear r4 g4 s4))
          refine bodyPost_ret (results_row_tmp2 rfl _ _ w.heap.size _ rfl (run_loadVar_row _ w.heap.size _ _ _ _ _ (unhide R4) Try.underlying54 rfl (unhide SM _ _))) rfl ?_
          exact OutMk.mkN (unhide HE2) (by decide) ⟨rfl, unhide B4⟩
        · have gn1 : ¬ ((j : Nat) : Int) ≥ (n : Int) := by omega
          have cL := hide (fun wx (hx : Below w.heap.size w wx) => mkLong_any go gn gc lg no SZ nc j wx ((unhide HG).later hx) (by omega))
          have HP2 := hide (show PJ = !(lg.getD j false) by rw [unhide HP, decide_eq_false hnj]; simp)
          generalize lg.getD j false = LB at *
          cases LB
          · have HQ2 := hide (show (List.range (j + 1)).all (mkP NL n lg) = true by rw [unhide HNX, unhide HQ, unhide HP2]; rfl)
            clear HNX HNO HP HP2
            go_wp2_with (first | (go_at_call 44; (with_reducible refine (unhide cI).mono ?_); rintro e w3 ⟨rfl, b3⟩; have B3 := hide (vbup (unhide HB) b3); have R3 := hide (vrow_later (unhide HRW) b3); have k2 := vrow_cell (unhide R3) (j := 0) (v := .slice no SZ nc) rfl; have k3 := vrow_cell (unhide R3) (j := 1) (v := .slice go gn gc) rfl; clear b3) | (go_at_call 45; (with_reducible refine (unhide cL _ (unhide B3)).mono ?_); rintro e w4 ⟨rfl, b4⟩; have B4 := hide (vbup (unhide B3) b4); have R4 := hide (vrow_later (unhide R3) b4); clear b4))
            go_roundw
            case rel => exact ⟨j + 1, by omega, by go_num, unhide R4, unhide HQ2, unhide B4⟩
            case measure => simp [intOf]; omega
          · have HE2 := hide (show mkE b n lg = 5 by rw [unhide HE, unhide HOKD, unhide HNO (unhide HP2)]; rfl)
            clear HNX HNO HP HE HOKD HP2
            go_wp2_with (first | (go_at_call 44; (with_reducible refine (unhide cI).mono ?_); rintro e w3 ⟨rfl, b3⟩; have B3 := hide (vbup (unhide HB) b3); have R3 := hide (vrow_later (unhide HRW) b3); have k2 := vrow_cell (unhide R3) (j := 0) (v := .slice no SZ nc) rfl; have k3 := vrow_cell (unhide R3) (j := 1) (v := .slice go gn gc) rfl; clear b3) | (go_at_call 45; (with_reducible refine (unhide cL _ (unhide B3)).mono ?_); rintro e w4 ⟨rfl, b4⟩; have B4 := hide (vbup (unhide B3) b4); have R4 := hide (vrow_later (unhide R3) b4); clear b4) | (with_reducible show wpList Try.prog _ _ (Oper.mk _ (Op.store 54 _ _) _ _ _ none :: _) _ _; refine wpList_stG rfl _ (.tmp 6) (.tmp 41) rfl w.heap.size #[.slice none 0 0, .slice none 0 0] #[.slice no SZ nc, .slice go gn gc] (by simp [Act.eval, Act.put]) (by simp [Act.eval, Act.put]) (unhide R4) (unhide SM _ _) rfl (by simp [Value.oneCell']) ?_; intro w5 r5 g5 s5; have R5 := hide r5; have B5 := hide (below_gb' (unhide B4) g5 (unhide B4).size); clear r5 g5 s5))
            refine bodyPost_ret (results_row_tmp2 rfl _ _ w.heap.size _ rfl (run_loadVar_row _ w.heap.size _ _ _ _ _ (unhide R5) Try.underlying54 rfl (unhide SM _ _))) rfl ?_
            exact OutMk.mkN (unhide HE2) (by decide) ⟨rfl, unhide B5⟩
    · have hjn : j = N8 := by omega
      subst hjn
      have hlj : ¬ ((j : Nat) : Int) < (j : Int) := by omega
      have HE2 := hide (show mkE b n lg = 0 by rw [unhide HE, unhide HOKD, unhide HQ]; rfl)
      have f0 := frozen_of_row _ _ 0 _ _ (unhide HRW)
      have f1 := frozen_of_row _ _ 1 _ _ (unhide HRW)
      clear HE HOKD HQ HN8 e8
      go_wp2_with fail
      go_region
      all_goals go_wp2_with fail
      all_goals
        refine bodyPost_ret (results_row_tmp2 rfl _ _ w.heap.size _ rfl (run_loadVar_row _ w.heap.size _ _ _ _ _ (drew_row1 (rsets2 (unhide HRW))) Try.underlying54 rfl (unhide SM _ _))) rfl ?_
        exact OutMk.mk0 (unhide HE2) ⟨no, SZ, nc, lo, bn - SZ, lc, rfl, by rw [← unhide HSZ]; exact unhide HC1, by rw [← unhide HSZ]; exact unhide HC3, (below_s2 (unhide HB) (Nat.le_refl _)).trans ((below_drew _).mono (by simp; omega))⟩


end Go.Proofs.Ytfgghgoonfamkaa

namespace Go.Proofs.Ytfgghgoonfamkaa
open Go.RowKit
set_option linter.unusedVariables false
set_option linter.unusedSimpArgs false

/-- Things read one by one, up to the first error: what was read, what is left, the error. -/
def gsA {α : Type} (f : Nat → List Int → α × List Int × Int) : Nat → List Int → List α × List Int × Int
  | 0, b => ([], b, 0)
  | j + 1, b => if (gsA f j b).2.2 ≠ 0 then gsA f j b else if (f j (gsA f j b).2.1).2.2 ≠ 0 then ([], [], (f j (gsA f j b).2.1).2.2) else ((gsA f j b).1 ++ [(f j (gsA f j b).2.1).1], (f j (gsA f j b).2.1).2.1, 0)
theorem gsA_up {α : Type} {f : Nat → List Int → α × List Int × Int} {b : List Int} {j : Nat} (h : (gsA f j b).2.2 ≠ 0) : ∀ k, gsA f (j + k) b = gsA f j b
  | 0 => rfl
  | k + 1 => by
    have ih := gsA_up h k
    show (if (gsA f (j + k) b).2.2 ≠ 0 then gsA f (j + k) b else _) = _
    rw [ih, if_pos h]
theorem gsA_len {α : Type} {f : Nat → List Int → α × List Int × Int} {b : List Int} : ∀ {j : Nat}, (gsA f j b).2.2 = 0 → (gsA f j b).1.length = j
  | 0, _ => rfl
  | j + 1, h => by
    unfold gsA at h ⊢
    by_cases h1 : (gsA f j b).2.2 ≠ 0
    · rw [if_pos h1] at h; exact absurd h h1
    · rw [if_neg h1] at h ⊢
      by_cases h2 : (f j (gsA f j b).2.1).2.2 ≠ 0
      · rw [if_pos h2] at h; exact absurd h h2
      · rw [if_neg h2]
        have := gsA_len (j := j) (Classical.byContradiction h1)
        simp [this]
theorem gsA_next {α : Type} {f : Nat → List Int → α × List Int × Int} {b : List Int} {j : Nat} (h : (gsA f j b).2.2 = 0) : gsA f (j + 1) b = if (f j (gsA f j b).2.1).2.2 ≠ 0 then ([], [], (f j (gsA f j b).2.1).2.2) else ((gsA f j b).1 ++ [(f j (gsA f j b).2.1).1], (f j (gsA f j b).2.1).2.1, 0) := by
  show (if (gsA f j b).2.2 ≠ 0 then _ else _) = _
  rw [if_neg (fun z => z h)]
theorem gsA_bad {α : Type} {f : Nat → List Int → α × List Int × Int} {b : List Int} {j n : Nat} {E : Int} (hj : j < n) (h : (gsA f j b).2.2 = 0) (hE : (f j (gsA f j b).2.1).2.2 = E) (h0 : E ≠ 0) : gsA f n b = ([], [], E) := by
  have e1 : gsA f (j + 1) b = ([], [], E) := by rw [gsA_next h, hE, if_pos h0]
  have := gsA_up (f := f) (b := b) (j := j + 1) (by rw [e1]; exact h0) (n - (j + 1))
  rw [show j + 1 + (n - (j + 1)) = n by omega, e1] at this
  exact this
/-- One type told anew. -/
def ty1 (b : List Int) : Ty × List Int × Int :=
  if b.length = 0 then (ty0, [], 4) else if unk ⟨b[0]?.getD 0, false⟩ = true then (ty0, [], 5) else
  (⟨b[0]?.getD 0, (flg (b.drop 1) 128).1⟩, (flg (b.drop 1) 128).2.1, (flg (b.drop 1) 128).2.2)
def tyS (n : Nat) (b : List Int) : List Ty × List Int × Int := gsA (fun _ => ty1) n b
def OutT (w : World) (bo : Option Addr) (bn bc : Nat) (b : List Int) (R : List Ty × List Int × Int) (e : Ending) (w' : World) : Prop := ∃ xo xn xc lo ln lc, e = .returned (.tuple #[.slice xo xn xc, .slice lo ln lc, .int .i64 R.2.2]) ∧ TyMine w.heap.size w' xo xn xc R.1 ∧ Cut bo bn bc b lo ln lc R.2.1 ∧ Below w.heap.size w w'
theorem ty_row2 {w : World} {g : Nat} {x : Int} {f u : Bool} (h : w.heap[g]? = some (.cells #[.int .u8 x, .bool u] 27 (0, 0))) :
    (w.setCell ⟨g, 1, none⟩ (.bool f)).cell? ⟨g, 0, none⟩ = some (.int .u8 x) ∧ (w.setCell ⟨g, 1, none⟩ (.bool f)).cell? ⟨g, 1, none⟩ = some (.bool f) ∧ w.frozen? ⟨g, 1, none⟩ = false ∧ w.cell? ⟨g, 1, none⟩ = some (.bool u) := by
  have r : (w.setCell ⟨g, 1, none⟩ (.bool f)).heap[g]? = some (.cells #[.int .u8 x, .bool f] 27 (0, 0)) := heap_setCell_same w g 1 _ _ _ h
  exact ⟨vrow_cell r (j := 0) (v := .int .u8 x) rfl, vrow_cell r (j := 1) (v := .bool f) rfl, frozen_of_row _ _ 1 _ _ h, vrow_cell h (j := 1) (v := .bool u) rfl⟩
theorem below_set2 {w0 w : World} {B g i : Nat} {v : Value} (h : Below B w0 w) (hg : B ≤ g) : Below B w0 (w.setCell ⟨g, i, none⟩ v) :=
  ⟨h.os, h.tape, h.output, Nat.le_trans h.size (by simp), fun k hk => (heap_setCell_other _ _ _ _ (by show k ≠ g; omega)).trans (h.block k hk)⟩
theorem tym_set2 {B : Nat} {w : World} {g i : Nat} {v : Value} {ao : Option Addr} {n c : Nat} {l : List Ty} (h : TyMine B w ao n c l) (hg : ∀ k, ob ao k → k ≠ g) : TyMine B (w.setCell ⟨g, i, none⟩ v) ao n c l :=
  h.keep fun k hk => heap_setCell_other _ _ _ _ (hg k hk)

set_option maxHeartbeats 4000000 in
set_option maxRecDepth 100000 in
theorem preadTypes_any (bo : Option Addr) (bn bc : Nat) (b : List Int) (n : Nat) (w : World) (hb : Bs w bo bn bc b) (hn : n ≤ 100000) :
    Calls Try.prog 25 #[.slice bo bn bc, .int .i64 (n : Int)] w fun e w' => OutT w bo bn bc b (tyS n b) e w' := by
  obtain ⟨RES, hRES⟩ : ∃ z, z = tyS n b := ⟨_, rfl⟩
  rw [← hRES]
  have HR := hide (show RES = gsA (fun _ => ty1) n b from hRES)
  have HB0 := hide hb
  have hbl := hb.len
  clear hRES hb
  go_enter Try.func25, Try.ntmps25
  go_wp2_with fail
  go_loopw [10, 4, 5, 6] (fun iv sv lv ev ws => ∃ (j : Nat) (xo : Option Addr) (xc : Nat) (lo : Option Addr) (ln lc : Nat), j ≤ n ∧ iv = .int .i64 (j : Int) ∧ sv = .slice xo j xc ∧ lv = .slice lo ln lc ∧ ev = .int .i64 0 ∧ (gsA (fun _ => ty1) j b).2.2 = 0 ∧ TyMine w.heap.size ws xo j xc (gsA (fun _ => ty1) j b).1 ∧ Cut bo bn bc b lo ln lc (gsA (fun _ => ty1) j b).2.1 ∧ Below w.heap.size w ws) (fun iv _ _ _ _ => n - (intOf iv).toNat)
  case atStart => exact ⟨0, none, 0, bo, bn, bc, by omega, rfl, rfl, rfl, rfl, rfl, TyMine.nought _ _, fun wx h => h, Below.refl _ _⟩
  case round =>
    obtain ⟨j, xo, xc, lo, ln, lc, hj, rfl, rfl, rfl, rfl, h0, hM, hC, hB⟩ := hrel
    have hob := hB.size
    have HB := hide hB
    have HM := hide hM
    have HC := hide hC
    by_cases hlt : j < n
    · have hlj : ((j : Nat) : Int) < (n : Int) := by omega
      have HN := hide (gsA_next h0)
      have HX := hide (fun E hE h1 => gsA_bad (f := fun _ => ty1) (b := b) (E := E) hlt h0 hE h1)
      have hbs := (hC w (unhide HB0)).later hB
      have HSP := hide (fun k (hk : ob xo k) => hM.own.lt k (by obtain ⟨a, rfl, ha⟩ := hk; simp [Value.ownBlock, ha]))
      clear hM hC hB
      generalize gsA (fun _ => ty1) j b = ST at *
      obtain ⟨TL, L, EL⟩ := ST
      simp only at HN HX hbs h0 HM HC
      have hll := hbs.len
      have hle := hbs.le
      have hmx := hbs.max
      by_cases hz : ln = 0
      · have HR2 := hide (show RES = ([], [], 4) by rw [unhide HR]; exact unhide HX 4 (by unfold ty1; rw [if_pos (by omega)]) (by decide))
        subst hz
        clear HX HN hbs HSP hll
        go_wp2_with fail
        refine bodyPost_ret (results_p3 rfl _ _) rfl ?_
        rw [unhide HR2]
        exact ⟨none, 0, 0, none, 0, 0, rfl, TyMine.nought _ _, cut_nil _ _ _ _, unhide HB⟩
      have gz : ((ln : Int) == 0) = false := by rw [beq_eq_false_iff_ne]; omega
      obtain ⟨cb, co, hix, hcx⟩ := hbs.idx (i := 0) (by omega) 0 rfl
      have hX := hbs.byt.at 0
      have HT : Hid (ty1 L = if unk ⟨L[0]?.getD 0, false⟩ = true then (ty0, [], 5) else (⟨L[0]?.getD 0, (flg (L.drop 1) 128).1⟩, (flg (L.drop 1) 128).2.1, (flg (L.drop 1) 128).2.2)) := hide (by unfold ty1; rw [if_neg (by omega)])
      obtain ⟨ao', c', hsl, hcut⟩ := Bs.cutl2 lo ln lc L (lo := 1) (by omega) 1 rfl
      have HCC := hide hcut
      have HBS := hide hbs
      clear hbs hcut hll
      generalize L[0]?.getD 0 = X at *
      have q1 := below_alloc wr (.cells #[.int .u8 X, .bool false] 27)
      have r1 := heap_alloc_new wr (.cells #[.int .u8 X, .bool false] 27)
      have k0 := vrow_cell r1 (j := 0) (v := .int .u8 X) rfl
      have k1 := vrow_cell r1 (j := 1) (v := .bool false) rfl
      have cU := hide (isUnk_any X false (wr.alloc (.cells #[.int .u8 X, .bool false] 27)) (by omega) (by omega))
      have eU : decide (kdV X false < 0) = unk ⟨X, false⟩ := rfl
      rw [eU] at cU
      have cF := hide (fun wx (hx : Below (wr.alloc (.cells #[.int .u8 X, .bool false] 27)).heap.size (wr.alloc (.cells #[.int .u8 X, .bool false] 27)) wx) => preadFlag_any ao' (ln - 1) c' (L.drop 1) 128 wx (unhide HCC wx (((unhide HBS).later q1).later hx)))
      have KR := hide (fun wx (hx : Below (wr.alloc (.cells #[.int .u8 X, .bool false] 27)).heap.size (wr.alloc (.cells #[.int .u8 X, .bool false] 27)) wx) => vrow_later r1 hx)
      have Q1 := hide q1
      clear q1 r1 eU hX
      generalize unk ⟨X, false⟩ = U at *
      cases U
      · have HT2 := hide (show ty1 L = (⟨X, (flg (L.drop 1) 128).1⟩, (flg (L.drop 1) 128).2.1, (flg (L.drop 1) 128).2.2) from unhide HT)
        obtain ⟨FG, hFG⟩ : ∃ z, z = flg (L.drop 1) 128 := ⟨_, rfl⟩
        rw [← hFG] at cF HT2
        clear hFG HT
        obtain ⟨FB, FL, FE⟩ := FG
        simp only at HT2
        have ARM := hide (show True from trivial)
        by_cases hE : FE ≠ 0
        · have HR2 := hide (show RES = ([], [], FE) by rw [unhide HR]; exact unhide HX FE (by rw [unhide HT2]) hE)
          have gE : (FE != 0) = true := by simpa using hE
          clear HX HN hE
          go_wp2_with (first | (go_at_call 46; (with_reducible refine (unhide cU).mono ?_); rintro e w2 ⟨rfl, b2⟩; have B2 := hide b2; clear b2) | (go_at_call 24; (with_reducible refine (unhide cF _ (unhide B2)).mono ?_); rintro e w3 ⟨yo, yn, yc, rfl, hy, b3⟩; have B3 := hide ((unhide B2).trans (b3.mono (unhide B2).size)); have HY := hide hy; obtain ⟨k2, k3, k4, k5⟩ := ty_row2 (f := FB) (unhide KR _ (unhide B3)); clear b3 hy k0 k1))
          refine bodyPost_ret (results_p3 rfl _ _) rfl ?_
          rw [unhide HR2]
          exact ⟨none, 0, 0, none, 0, 0, rfl, TyMine.nought _ _, cut_nil _ _ _ _, below_set2 (vbup (vbup (unhide HB) (unhide Q1)) (unhide B3)) hob⟩
        · have hE := Classical.not_not.1 hE
          subst hE
          have HN2 := hide (show gsA (fun _ => ty1) (j + 1) b = (TL ++ [⟨X, FB⟩], FL, 0) by rw [unhide HN, unhide HT2]; rfl)
          clear HX HN HT2 HR
          go_wp2_with (first | (go_at_call 46; (with_reducible refine (unhide cU).mono ?_); rintro e w2 ⟨rfl, b2⟩; have B2 := hide b2; clear b2) | (go_at_call 24; (with_reducible refine (unhide cF _ (unhide B2)).mono ?_); rintro e w3 ⟨yo, yn, yc, rfl, hy, b3⟩; have B3 := hide ((unhide B2).trans (b3.mono (unhide B2).size)); have HY := hide hy; obtain ⟨k2, k3, k4, k5⟩ := ty_row2 (f := FB) (unhide KR _ (unhide B3)); clear b3 hy k0 k1; have HB3 := hide (below_set2 (g := wr.heap.size) (i := 1) (v := .bool FB) (vbup (vbup (unhide HB) (unhide Q1)) (unhide B3)) hob); have M3 := hide (tym_set2 (g := wr.heap.size) (i := 1) (v := .bool FB) (((unhide HM).later (unhide Q1)).later (unhide B3)) (fun k hk => Nat.ne_of_lt (unhide HSP k hk).2))) | (at_builtin; refine wpList_appT rfl (.tmp 32) (.tmp 34) rfl w.heap.size xo j xc TL (by simp [Act.eval, Act.put]) ((unhide M3).later (below_alloc _ _)) (w3.setCell ⟨wr.heap.size, 1, none⟩ (.bool FB)).heap.size ⟨X, FB⟩ (by simp [Act.eval, Act.put]) (AtT.of_row (heap_alloc_new _ _)) (by omega) (Nat.le_trans (unhide HB3).size (below_alloc _ _).size) ?_; intro a5 c5 w5 m5 b5; have M5 := hide m5; have HB5 := hide ((vbup (unhide HB3) (below_alloc _ _)).trans b5); clear m5 b5))
          go_roundw
          case rel => exact ⟨j + 1, a5, c5, yo, yn, yc, by omega, by go_num, rfl, rfl, rfl, by rw [unhide HN2], by rw [unhide HN2]; exact unhide M5, by rw [unhide HN2]; exact fun wx hx => unhide HY wx (unhide HCC wx (unhide HC wx hx)), unhide HB5⟩
          case measure => simp [intOf]; omega
      · have HR2 := hide (show RES = ([], [], 5) by rw [unhide HR]; exact unhide HX 5 (by rw [unhide HT]; rfl) (by decide))
        clear HX HN HT cF
        go_wp2_with (go_at_call 46; (with_reducible refine (unhide cU).mono ?_); rintro e w2 ⟨rfl, b2⟩; have B2 := hide b2; clear b2)
        refine bodyPost_ret (results_p3 rfl _ _) rfl ?_
        rw [unhide HR2]
        exact ⟨none, 0, 0, none, 0, 0, rfl, TyMine.nought _ _, cut_nil _ _ _ _, vbup (vbup (unhide HB) (unhide Q1)) (unhide B2)⟩
    · have hjn : j = n := by omega
      subst hjn
      have hlj : ¬ ((j : Nat) : Int) < (j : Int) := by omega
      clear hM hC hB
      have HR2 := hide (show RES = ((gsA (fun _ => ty1) j b).1, (gsA (fun _ => ty1) j b).2.1, 0) by rw [unhide HR, ← h0])
      go_wp2_with fail
      refine bodyPost_ret (results_p3 rfl _ _) rfl ?_
      rw [unhide HR2]
      exact ⟨xo, j, xc, lo, ln, lc, rfl, unhide HM, unhide HC, unhide HB⟩


end Go.Proofs.Ytfgghgoonfamkaa
