/-
  What readFlag, typesAhead and readValue of package param return. They write nothing that was there. Conditions: the slices can be read; types are bytes.
-/
import Derived.Test.YtfgghgoonfamkaaPmLeaf
import Derived.Test.YtfgghgoonfamkaaPmCon
import Derived.Test.YtfgghgoonfamkaaVaRd6
import Derived.Test.YtfgghgoonfamkaaClRow
import Derived.BigQuiet
namespace Go.Proofs.Ytfgghgoonfamkaa
open Go.RowKit
set_option linter.unusedVariables false
set_option linter.unusedSimpArgs false

/-- What is left behind a part, in whatever world. -/
def Cut (bo : Option Addr) (bn bc : Nat) (b : List Int) (lo : Option Addr) (ln lc : Nat) (L : List Int) : Prop := ∀ wx, Bs wx bo bn bc b → Bs wx lo ln lc L
theorem cut_nil (bo : Option Addr) (bn bc : Nat) (b : List Int) : Cut bo bn bc b none 0 0 [] := fun wx _ => Bs.nought wx
theorem Bs.cutl2 (bo : Option Addr) (bn bc : Nat) (b : List Int) {lo : Nat} (h1 : lo ≤ bn) (L : Int) (hL : L = lo) :
    ∃ ao' c', (∀ wx, (Instr.slice 22 (.slice bo bn bc) (some (.int .i64 L)) none none).run Try.prog wx = .ok (.slice ao' (bn - lo) c') wx) ∧ Cut bo bn bc b ao' (bn - lo) c' (b.drop lo) :=
  ⟨_, _, run_cut_l bo bn bc lo h1 L hL, fun wx h => by have := h.cut h1 (Nat.le_refl bn); rwa [List.take_of_length_le (by simp [h.len])] at this⟩
theorem Bs.cuth2 (bo : Option Addr) (bn bc : Nat) (b : List Int) {hi : Nat} (h1 : hi ≤ bn) (hc : bn ≤ bc) (H : Int) (hH : H = hi) :
    ∃ ao' c', (∀ wx, (Instr.slice 22 (.slice bo bn bc) none (some (.int .i64 H)) none).run Try.prog wx = .ok (.slice ao' hi c') wx) ∧ Cut bo bn bc b ao' hi c' (b.take hi) :=
  ⟨_, _, run_cut_h bo bn bc hi (by omega) H hH, fun wx h => by have := h.cut (Nat.zero_le hi) h1; simpa using this⟩
theorem below_dM (w : World) (n : Nat) : Below w.heap.size w (w.drewN n) := ⟨rfl, rfl, rfl, Nat.le_refl _, fun _ _ => rfl⟩
theorem results_p3 {P : Program} {fn : Func} {p u v : Tmp} (h : fn.results = #[.tmp p, .tmp u, .tmp v]) (tmps : Array Value) (w : World) : (results fn tmps).run P w = .ok (.tuple #[tmps.getD p undef, tmps.getD u undef, tmps.getD v undef]) w := by
  simp [results, h, Sem.run_bind, Result.andThen]
/-- A flag: whether it is the mark, what is left, the error. -/
def flg (b : List Int) (mark : Int) : Bool × List Int × Int :=
  if b.length = 0 then (false, [], 4) else if b[0]?.getD 0 ≠ 0 ∧ b[0]?.getD 0 ≠ mark then (false, [], 5) else (b[0]?.getD 0 == mark, b.drop 1, 0)
def OutF (w : World) (bo : Option Addr) (bn bc : Nat) (b : List Int) (R : Bool × List Int × Int) (e : Ending) (w' : World) : Prop := ∃ lo ln lc, e = .returned (.tuple #[.bool R.1, .slice lo ln lc, .int .i64 R.2.2]) ∧ Cut bo bn bc b lo ln lc R.2.1 ∧ Below w.heap.size w w'

set_option maxHeartbeats 4000000 in
set_option maxRecDepth 100000 in
theorem preadFlag_any (bo : Option Addr) (bn bc : Nat) (b : List Int) (mark : Int) (w : World) (hb : Bs w bo bn bc b) :
    Calls Try.prog 24 #[.slice bo bn bc, .int .u8 mark] w fun e w' => OutF w bo bn bc b (flg b mark) e w' := by
  have hl := hb.len
  have hle := hb.le
  have hmx := hb.max
  obtain ⟨RES, hRES⟩ : ∃ z, z = flg b mark := ⟨_, rfl⟩
  rw [← hRES]
  unfold flg at hRES
  by_cases h0 : bn = 0
  · subst h0
    rw [if_pos (by omega)] at hRES
    have HR := hide hRES
    clear hRES hb hl
    go_enter Try.func24, Try.ntmps24
    go_wp2_with fail
    refine bodyPost_ret (results_p3 rfl _ _) rfl ?_
    rw [unhide HR]
    exact ⟨none, 0, 0, rfl, cut_nil _ _ _ _, Below.refl _ _⟩
  have g0 : ((bn : Int) == 0) = false := by rw [beq_eq_false_iff_ne]; omega
  rw [if_neg (by omega)] at hRES
  obtain ⟨cb, co, hix, hcx⟩ := hb.idx (i := 0) (by omega) 0 rfl
  obtain ⟨ao', c', hsl, hcut⟩ := Bs.cutl2 bo bn bc b (lo := 1) (by omega) 1 rfl
  have HC := hide hcut
  have HR := hide hRES
  clear hRES hb hcut hl
  generalize b[0]?.getD 0 = X at *
  have fin : ∀ (B : Bool), (X == mark) = B → Hid (RES = (B, b.drop 1, 0)) → (X = 0 ∨ X = mark) → Calls Try.prog 24 #[.slice bo bn bc, .int .u8 mark] w fun e w' => OutF w bo bn bc b RES e w' := by
    intro B hB HR2 hX
    by_cases hx0 : X = 0
    · have g1 : (X != 0) = false := by simpa using hx0
      clear hX HR
      rw [hx0] at hB hcx
      clear hx0 g1
      go_enter Try.func24, Try.ntmps24
      go_wp2_with fail
      go_quiet (fail)
      go_wp2_with fail
      refine bodyPost_ret (results_p3 rfl _ _) rfl ?_
      rw [unhide HR2]
      exact ⟨ao', _, c', rfl, unhide HC, below_dM _ _⟩
    · have hxm : X = mark := by rcases hX with q | q; exact absurd q hx0; exact q
      have g1 : (X != 0) = true := by simpa using hx0
      have g2 : (X != X) = false := by simp
      subst hxm
      have hB2 : B = true := by rw [← hB]; simp
      subst hB2
      clear hX hB HR
      go_enter Try.func24, Try.ntmps24
      go_wp2_with fail
      go_quiet (fail)
      go_wp2_with fail
      refine bodyPost_ret (results_p3 rfl _ _) rfl ?_
      rw [unhide HR2]
      exact ⟨ao', _, c', rfl, unhide HC, below_dM _ _⟩
  by_cases hX : X ≠ 0 ∧ X ≠ mark
  · have HR2 := hide (show RES = (false, [], 5) by rw [unhide HR, if_pos hX])
    have g1 : (X != 0) = true := by simpa using hX.1
    have g2 : (X != mark) = true := by simpa using hX.2
    clear fin HR hX HC hsl
    go_enter Try.func24, Try.ntmps24
    go_wp2_with fail
    refine bodyPost_ret (results_p3 rfl _ _) rfl ?_
    rw [unhide HR2]
    exact ⟨none, 0, 0, rfl, cut_nil _ _ _ _, Below.refl _ _⟩
  · exact fin _ rfl (hide (by rw [unhide HR, if_neg hX])) (by by_cases q : X = 0; exact .inl q; exact .inr (Classical.byContradiction fun z => hX ⟨q, z⟩))


/-- The types that were told ahead. -/
def thd (ts : List Ty) (n : Nat) : List Ty × Int := if ts.length < n ∨ (ts.take n).any unk = true then ([], 5) else (ts.take n, 0)
theorem tys_cut (ao : Option Addr) (m c : Nat) (ts : List Ty) {n : Nat} (h1 : n ≤ m) (hc : m ≤ c) (hnil : ao = none → c = 0) (H : Int) (hH : H = n) :
    ∃ xo xc, (∀ wx, (Instr.slice 43 (.slice ao m c) none (some (.int .i64 H)) none).run Try.prog wx = .ok (.slice xo n xc) wx) ∧ ∀ wx, Tys wx ao m c ts → Tys wx xo n xc (ts.take n) := by
  subst hH
  have hs : ∀ w : World, (sizeOf (Try.prog.elem 43)).run Try.prog w = .ok 2 w := by intro w; kernel_rfl
  refine ⟨ao, c, fun wx => ?_, fun wx h => ?_⟩
  · rw [run_slice_h wx 43 ao m c elemT .i64 n (by omega) (by omega), hs]
    simp only [Result.andThen_ok, Int.toNat_natCast, sliced]
    cases ao with
    | none => simp
    | some a => simp [Addr.add]
  · refine ⟨by rw [List.length_take, h.len]; omega, by omega, h.max, h.nil, ?_⟩
    by_cases hz : n = 0
    · exact .inl hz
    · rcases h.at' with q | ⟨b, off, e, hc2⟩
      · omega
      · refine .inr ⟨b, off, e, fun i p hp => hc2 i p ?_⟩
        rw [List.getElem?_take] at hp
        split at hp
        · exact hp
        · cases hp

set_option maxHeartbeats 4000000 in
set_option maxRecDepth 100000 in
theorem ptypesAhead_any (ao : Option Addr) (m c : Nat) (ts : List Ty) (n : Nat) (w : World) (ht : Tys w ao m c ts) (hT : ∀ p ∈ ts, 0 ≤ p.t ∧ p.t < 256) (hn : n ≤ 100000) :
    Calls Try.prog 26 #[.slice ao m c, .int .i64 (n : Int)] w fun e w' => ∃ xo xn xc, e = .returned (.tuple #[.slice xo xn xc, .int .i64 (thd ts n).2]) ∧ Tys w' xo xn xc (thd ts n).1 ∧ Below w.heap.size w w' := by
  have hml := ht.len
  have hle := ht.le
  have hmx := ht.max
  obtain ⟨RES, hRES⟩ : ∃ z, z = thd ts n := ⟨_, rfl⟩
  rw [← hRES]
  unfold thd at hRES
  by_cases hlt : m < n
  · have g1 : (m : Int) < (n : Int) := by omega
    have HR := hide (show RES = ([], 5) by rw [hRES, if_pos (.inl (by omega))])
    clear hRES ht hT hml
    go_enter Try.func26, Try.ntmps26
    go_wp2_with fail
    go_ret2
    rw [unhide HR]
    exact ⟨none, 0, 0, rfl, Tys.nought _, Below.refl _ _⟩
  have g1 : ¬ (m : Int) < (n : Int) := by omega
  obtain ⟨xo, xc, hsl, hcut⟩ := tys_cut ao m c ts (n := n) (by omega) hle ht.nil (n : Int) rfl
  have hx := hcut w ht
  have cC := hide (contains_any xo n xc (ts.take n) w hx (fun p hp => hT p (List.mem_of_mem_take hp)))
  have HX := hide hx
  have HR := hide (show RES = if (ts.take n).any unk = true then ([], 5) else (ts.take n, 0) by
    rw [hRES]
    by_cases q : (ts.take n).any unk = true
    · rw [if_pos (.inr q), if_pos q]
    · rw [if_neg (by intro z; rcases z with z | z; omega; exact q z), if_neg q])
  clear hRES ht hT hml hx hcut
  generalize (ts.take n).any unk = U at *
  cases U
  · have HR2 := hide (show RES = (ts.take n, 0) from unhide HR)
    go_enter Try.func26, Try.ntmps26
    go_wp2_with (go_at_call 47; refine (unhide cC).mono ?_; rintro e w2 ⟨rfl, b2⟩; have B2 := hide b2; clear b2)
    go_ret2
    rw [unhide HR2]
    exact ⟨xo, n, xc, rfl, (unhide HX).later (unhide B2), unhide B2⟩
  · have HR2 := hide (show RES = ([], 5) from unhide HR)
    go_enter Try.func26, Try.ntmps26
    go_wp2_with (go_at_call 47; refine (unhide cC).mono ?_; rintro e w2 ⟨rfl, b2⟩; have B2 := hide b2; clear b2)
    go_ret2
    rw [unhide HR2]
    exact ⟨none, 0, 0, rfl, Tys.nought _, unhide B2⟩


end Go.Proofs.Ytfgghgoonfamkaa
