/-
  What strconv's Atoi, ParseInt and ParseUint, and next of package value return. They write nothing that was there. Conditions: the library's variables read as their initialisers lay them; texts of at most 2^40 bytes.
-/
import Derived.Test.YtgldbainhncneaaGreatDoorVaTx
import Derived.Deep.DeepCutAuto
import Derived.BigQuiet
import Derived.BigRegion
import Derived.Deep.RegionWith
namespace Go.Proofs.YtgldbainhncneaaGreatDoor
open Go.RowKit
set_option linter.unusedVariables false
set_option linter.unusedSimpArgs false

theorem var_later {P : Program} {w w' : World} {n : String} {cs : Array Value} (h : w.var? P n = some cs) (hb : Below w.heap.size w w') : w'.var? P n = some cs := by
  unfold World.var? at *
  cases hg : P.globalNamed n with
  | none => simp [hg] at h
  | some g =>
    simp only [hg, Option.bind_some] at h ⊢
    have hlt : g < w.heap.size := by
      rcases Nat.lt_or_ge g w.heap.size with h' | h'
      · exact h'
      · rw [Array.getElem?_eq_none h'] at h; simp at h
    rw [hb.block g hlt]
    exact h
/-- The library's variables. -/
structure VarZ (w : World) : Prop where
  v : Vars w
  e1 : ∃ tp p, w.var? Tryz.prog "strconv.ErrSyntax" = some #[.iface tp p]
  e2 : ∃ tp p, w.var? Tryz.prog "strconv.ErrRange" = some #[.iface tp p]
theorem VarZ.later {w w' : World} (h : VarZ w) (hb : Below w.heap.size w w') : VarZ w' := by
  obtain ⟨t1, p1, h1⟩ := h.e1
  obtain ⟨t2, p2, h2⟩ := h.e2
  exact ⟨h.v.later hb, ⟨t1, p1, var_later h1 hb⟩, ⟨t2, p2, var_later h2 hb⟩⟩

theorem atoi_any (s : ByteArray) (hs : s.size ≤ 1099511627776) (w : World) (hv : VarZ w) : Calls Tryz.prog 120 #[.string s] w fun e w' => ∃ er, e = .returned (.tuple #[.int .i64 (atV s.data.toList), er]) ∧ Below w.heap.size w w' := by
  obtain ⟨t1, p1, h1⟩ := hv.e1
  obtain ⟨t2, p2, h2⟩ := hv.e2
  unfold atV
  cases h : Lib.atoiAll s.data.toList with
  | ok v =>
    refine (Tryz.strconv_Atoi_ok s (by omega) v h w).mono ?_
    rintro e w' ⟨rfl, hw⟩
    refine ⟨_, rfl, ?_⟩
    rcases hw with rfl | ⟨t, rfl⟩
    · exact Below.refl _ _
    · exact below_bytesWorld _ _ _
  | «syntax» =>
    refine (Tryz.strconv_Atoi_syntax_var s (by omega) h t1 p1 w h1).mono ?_
    rintro e w' ⟨N, rfl, _, _, hb⟩
    exact ⟨_, rfl, hb⟩
  | range =>
    refine (Tryz.strconv_Atoi_range_var s (by omega) h t2 p2 w h2).mono ?_
    rintro e w' ⟨N, rfl, _, _, hb⟩
    exact ⟨_, rfl, hb⟩
theorem parseInt_any (s : ByteArray) (hs : s.size ≤ 1099511627776) (w : World) (hv : VarZ w) : Calls Tryz.prog 56 #[.string s, .int .i64 10, .int .i64 64] w fun e w' => ∃ er, e = .returned (.tuple #[.int .i64 (piV s.data.toList), er]) ∧ Below w.heap.size w w' := by
  obtain ⟨t1, p1, h1⟩ := hv.e1
  obtain ⟨t2, p2, h2⟩ := hv.e2
  unfold piV
  cases h : Lib.parseIntB 64 s.data.toList with
  | ok v =>
    refine (Tryz.strconv_ParseInt_10_at64_ok s (by omega) v h w).mono ?_
    rintro e w' ⟨rfl, hw⟩
    refine ⟨_, rfl, ?_⟩
    first
      | (rcases hw with rfl | ⟨t, rfl⟩
         · exact Below.refl _ _
         · exact below_bytesWorld _ _ _)
      | (subst hw; exact Below.refl _ _)
      | exact hw
  | «syntax» =>
    refine (Tryz.strconv_ParseInt_10_at64_syntax_var s (by omega) h t1 p1 w h1).mono ?_
    rintro e w' ⟨N, rfl, _, _, hb⟩
    exact ⟨_, rfl, hb⟩
  | range =>
    refine (Tryz.strconv_ParseInt_10_at64_range_var s (by omega) h t2 p2 w h2).mono ?_
    rintro e w' ⟨N, rfl, _, _, hb⟩
    exact ⟨_, rfl, hb⟩
theorem parseUint_any (s : ByteArray) (hs : s.size ≤ 1099511627776) (w : World) (hv : VarZ w) : Calls Tryz.prog 57 #[.string s, .int .i64 10, .int .i64 64] w fun e w' => ∃ er, e = .returned (.tuple #[.int .u64 (puV s.data.toList), er]) ∧ Below w.heap.size w w' := by
  obtain ⟨t1, p1, h1⟩ := hv.e1
  obtain ⟨t2, p2, h2⟩ := hv.e2
  unfold puV
  cases h : Lib.parseUintB 64 s.data.toList with
  | ok v =>
    refine (Tryz.strconv_ParseUint_10_at64_ok s (by omega) v h w).mono ?_
    rintro e w' ⟨rfl, hw⟩
    refine ⟨_, rfl, ?_⟩
    first
      | (rcases hw with rfl | ⟨t, rfl⟩
         · exact Below.refl _ _
         · exact below_bytesWorld _ _ _)
      | (subst hw; exact Below.refl _ _)
      | exact hw
  | «syntax» =>
    refine (Tryz.strconv_ParseUint_10_at64_syntax_var s (by omega) h t1 p1 w h1).mono ?_
    rintro e w' ⟨N, rfl, _, _, hb⟩
    exact ⟨_, rfl, hb⟩
  | range =>
    refine (Tryz.strconv_ParseUint_10_at64_range_var s (by omega) h t2 p2 w h2).mono ?_
    rintro e w' ⟨N, rfl, _, _, hb⟩
    exact ⟨_, rfl, hb⟩

theorem tb_self' (s : ByteArray) : tb s.data.toList = s := by
  apply ByteArray.ext
  apply Array.ext'
  simp [tb]
theorem gb_set_drew {g : Nat} {w w' : World} (h : Gb g w w') (i : Nat) (v : Value) : Gb g w (w'.setCell ⟨g, i, none⟩ v).drew :=
  ⟨h.os, h.tape, h.output, by have := h.size; simp; exact this, fun k hk hg => (heap_setCell_other w' ⟨g, i, none⟩ k v hg).trans (h.block k hk hg)⟩
/-- A first part, a last part of a text. -/
theorem str_take (s : ByteArray) (n : Nat) (h : n ≤ s.size) : (s.extract 0 n).data.toList = s.data.toList.take n := by
  simp
theorem str_drop (s : ByteArray) (n : Nat) : (s.extract n s.size).data.toList = s.data.toList.drop n := by
  simp
  apply List.take_of_length_le
  simp

set_option maxHeartbeats 1000000 in
set_option maxRecDepth 100000 in
theorem next_any (g : Nat) (s : ByteArray) (n : Int) (w : World) (hv : VarZ w) (hs : s.size ≤ 1099511627776) (hr : w.heap[g]? = some (.cells #[.string s] 120 (0, 0))) :
    Calls Tryz.prog 95 #[.pointer (some ⟨g, 0, none⟩), .int .i64 n] w fun e w' => e = .returned (.int .i64 (nxA s.data.toList n)) ∧ w'.heap[g]? = some (.cells #[.string (tb (nxS s.data.toList n))] 120 (0, 0)) ∧ Gb g w w' := by
  have k0 := vrow_cell hr (j := 0) (v := .string s) rfl
  have hsl : s.data.toList.length = s.size := by simp
  unfold nxA nxS
  rw [hsl]
  by_cases h0 : n < 0
  · rw [if_pos (.inl h0), if_pos (.inl h0), tb_self']
    have d0 : decide (n < 0) = true := decide_eq_true h0
    have R := hide hr
    clear h0 hr hsl
    go_enter Tryz.func95, Tryz.ntmps95
    go_wp2_with fail
    go_ret
    exact ⟨rfl, unhide R, Gb.refl _ _⟩
  by_cases h1 : (s.size : Int) < n
  · rw [if_pos (.inr h1), if_pos (.inr h1), tb_self']
    have d0 : decide (n < 0) = false := decide_eq_false h0
    have d1 : decide ((s.size : Int) < n) = true := decide_eq_true h1
    have R := hide hr
    clear h0 h1 hr hsl
    go_enter Tryz.func95, Tryz.ntmps95
    go_wp2_with fail
    go_ret
    exact ⟨rfl, unhide R, Gb.refl _ _⟩
  · rw [if_neg (by omega), if_neg (by omega)]
    obtain ⟨N, rfl⟩ := Int.eq_ofNat_of_zero_le (show 0 ≤ n by omega)
    have d0 : decide ((N : Int) < 0) = false := decide_eq_false h0
    have d1 : decide ((s.size : Int) < (N : Int)) = false := decide_eq_false h1
    have hN : N ≤ s.size := by omega
    rw [Int.toNat_natCast]
    have cA := hide (atoi_any (s.extract 0 N) (by simp; omega) w hv)
    rw [str_take s N hN] at cA
    have R := hide hr
    have fz := frozen_of_row w _ 0 _ _ hr
    clear h0 h1 hr hsl hv
    obtain ⟨M, hM⟩ : ∃ M : Nat, M = min (N + 1) s.size := ⟨_, rfl⟩
    have hmin : min ((N : Int) + 1) (s.size : Int) = (M : Int) := by omega
    have hM1 : M ≤ s.size := by omega
    have HT := hide (show tb (s.data.toList.drop (N + 1)) = s.extract M s.size by
      rw [← tb_self' (s.extract M s.size), str_drop]
      congr 1
      by_cases hz : N + 1 ≤ s.size
      · rw [show M = N + 1 by omega]
      · rw [show M = s.size by omega, List.drop_of_length_le (by simp; omega), List.drop_of_length_le (by simp)])
    rw [unhide HT]
    clear hM HT
    generalize atV (s.data.toList.take N) = X at *
    have hlt := (Array.getElem?_eq_some_iff.1 (unhide R)).1
    go_enter Tryz.func95, Tryz.ntmps95
    go_wp2_with fail
    refine (unhide cA).mono ?_
    rintro e w1 ⟨er, rfl, b1⟩
    have R1 := hide (vrow_later (unhide R) b1)
    have G1 := hide (show Gb g w w1 from ⟨b1.os, b1.tape, b1.output, b1.size, fun k hk _ => b1.block k hk⟩)
    clear b1 cA k0 fz
    have k0 := vrow_cell (unhide R1) (j := 0) (v := .string s) rfl
    have fz := frozen_of_row w1 _ 0 _ _ (unhide R1)
    go_wp2_with fail
    go_region
    all_goals
      go_wp2_with fail
      go_ret
      exact ⟨rfl, heap_setCell_same w1 g 0 _ _ _ (unhide R1), gb_set_drew (unhide G1) 0 _⟩

theorem tb_data (l : List UInt8) : (tb l).data.toList = l := by simp [tb]
theorem gb_below' {w0 w w' : World} {g : Nat} (hb : Below w0.heap.size w0 w) (h : Gb g w w') (hg : w0.heap.size ≤ g) : Below w0.heap.size w0 w' :=
  hb.trans ⟨h.os, h.tape, h.output, h.size, fun k hk => h.block k (by have := hb.size; omega) (by omega)⟩
/-- A moment that is told, and what is left of a text, in two blocks of their own. -/
structure Nx (w0 : World) (l : List UInt8) (C : Array Value) (w : World) : Prop where
  rr : w.heap[w0.heap.size]? = some (.cells C 30 (0, 0))
  rp : w.heap[w0.heap.size + 1]? = some (.cells #[.string (tb l)] 120 (0, 0))
  bl : Below w0.heap.size w0 w
  z : VarZ w0
  n : l.length ≤ 1099511627776
theorem nxS_len (l : List UInt8) (n : Int) : (nxS l n).length ≤ l.length := by
  unfold nxS
  split
  · exact Nat.le_refl _
  · simp
theorem next_nx {w0 : World} {l : List UInt8} {C : Array Value} (n : Int) (w : World) (h : Nx w0 l C w) :
    Calls Tryz.prog 95 #[.pointer (some ⟨w0.heap.size + 1, 0, none⟩), .int .i64 n] w fun e w' => e = .returned (.int .i64 (nxA l n)) ∧ Nx w0 (nxS l n) C w' := by
  refine (next_any (w0.heap.size + 1) (tb l) n w (h.z.later h.bl) (by rw [tb_size]; exact h.n) h.rp).mono ?_
  rintro e w' ⟨rfl, hr, hg⟩
  rw [tb_data] at hr ⊢
  exact ⟨rfl, ⟨(hg.block _ (Array.getElem?_eq_some_iff.1 h.rr).1 (by omega)).trans h.rr, hr, gb_below' h.bl hg (Nat.le_succ _), h.z, Nat.le_trans (nxS_len l n) h.n⟩⟩
theorem Nx.set {w0 w w' : World} {l : List UInt8} {C D : Array Value} (h : Nx w0 l C w) (hr : w'.heap[w0.heap.size]? = some (.cells D 30 (0, 0))) (hg : Gb w0.heap.size w w') : Nx w0 l D w' :=
  ⟨hr, (hg.block _ (Array.getElem?_eq_some_iff.1 h.rp).1 (by omega)).trans h.rp, gb_below' h.bl hg (Nat.le_refl _), h.z, h.n⟩

end Go.Proofs.YtgldbainhncneaaGreatDoor
