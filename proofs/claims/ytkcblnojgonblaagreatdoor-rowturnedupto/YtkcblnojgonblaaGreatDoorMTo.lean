/-
  What strconv.FormatUint returns at base 10: the number's decimal digits. It writes nothing that was there. Conditions: the library's table of powers of ten reads as its initialiser lays it.
  What hasText, textOf and Text of package value return. They write nothing that was there. Conditions: the library's table of powers of ten reads as its initialiser lays it; the type is a byte, numbers within their kinds.
-/
import Derived.Test.YtkcblnojgonblaaGreatDoorVaTx
import Derived.Lib.Walk
import Derived.Lib.ItoaMem
import Derived.BigCall
import Derived.BigGuard
import Derived.Test.YtkcblnojgonblaaGreatDoorVaMay
namespace Go.Proofs.YtkcblnojgonblaaGreatDoor
open Go.RowKit Go.Sort
set_option linter.unusedVariables false
set_option linter.unusedSimpArgs false

theorem holds_zero0 (w : World) (T : TypeId) (nd : Nat) (hs : nd ≤ 24) : Holds (fun (b : UInt8) => Value.int .u8 (b.toNat : Int)) (w.alloc (.cells Lib.zeros24 T)) w.heap.size 0 (Array.replicate nd (0 : UInt8)) := fun j hj => by
  have hj' : j < nd := by simpa using hj
  refine ⟨?_, World.frozen?_alloc_new _ _ _ _⟩
  rw [World.cell?_alloc_new, Lib.zeros24_at _ (by omega), getElem!_pos _ j hj]
  simp
theorem fin_pos0 (w : World) (o : Obj) (dk : Array UInt8) (k : Nat) : ∃ os, (putRow (fun (b : UInt8) => Value.int .u8 (b.toNat : Int)) (w.alloc o) w.heap.size 0 dk).drewN k = grow (w.drewN k) os := by
  rw [alloc_eq_grow]
  obtain ⟨os', _, e⟩ := putRow_grow_new (fun (b : UInt8) => Value.int .u8 (b.toNat : Int)) w #[o] w.heap.size 0 dk (Nat.le_refl _)
  exact ⟨os', by rw [e]; rfl⟩

set_option maxHeartbeats 1000000 in
set_option maxRecDepth 100000 in
theorem iformatUint_any (u : Nat) (w : World) (hv : Vars w) (hu64 : u < 18446744073709551616) : Calls Tryz.prog 99 #[.int .u64 u, .int .i64 10] w fun e w' => e = .returned (.string (tb (Lib.itoa u))) ∧ Below w.heap.size w w' := by
  have hi : tb (Lib.itoa u) = ⟨(Lib.decDigits u).toArray⟩ := by rw [Lib.itoa_nonneg]; rfl
  rw [hi]
  by_cases hs : u < 100
  · have cS := hide (fun wx => Tryz.internal_strconv_small u hs wx)
    have hs2 : (u : Int) < 100 := by omega
    have hw : wrap64 (u : Int) = (u : Int) := by unfold wrap64; omega
    go_enter Tryz.func99, Tryz.ntmps99
    go_wp2_with (go_at_call 121; refine (unhide cS _).mono ?_; rintro e w' ⟨rfl, rfl⟩)
    go_ret
    exact ⟨rfl, Below.refl _ _⟩
  · have hu1 : 1 ≤ u := by omega
    have hnd20 : Lib.nDigits u ≤ 20 := by have := Lib.numDigits_eq u hu1 hu64; split at this <;> omega
    have hal : Tryz.prog.arrayLen 133 = 24 := by kernel_rfl
    have hsl1 : ∀ W, (Instr.sliceAt 133 (.pointer (some ⟨w.heap.size, 0, none⟩)) none (some (.int .i64 (Lib.nDigits u : Int))) none).run Tryz.prog W = .ok (.slice (some ⟨w.heap.size, 0, none⟩) (Lib.nDigits u) 24) W := fun W => by
      rw [run_sliceAt_array_h W 133 ⟨w.heap.size, 0, none⟩ (by kernel_rfl) .i64 (Lib.nDigits u : Int) (by omega) (by rw [hal]; omega)]
      rw [hal]
      go_simp
    have hH0 := holds_zero0 w 133 (Lib.nDigits u) (by omega)
    have hfmt := hide (Tryz.internal_strconv_formatBase10 w.heap.size 0 24 u (Array.replicate (Lib.nDigits u) 0) (w.alloc (.cells Lib.zeros24 133)) hH0 (by rw [Array.size_replicate]; exact Lib.lt_pow_nDigits u) hu64 (by rw [Array.size_replicate]; omega))
    rw [Array.size_replicate] at hfmt
    have cN := hide (Tryz.internal_strconv_numDigits u hu1 hu64 (w.alloc (.cells Lib.zeros24 133)) (hv.later (below_alloc w _)))
    have HH0 := hide hH0
    have hs2 : ¬ (u : Int) < 100 := by omega
    clear hH0 hal hi
    go_enter Tryz.func99, Tryz.ntmps99
    go_wp2_with (go_at_call 122; refine (unhide cN).mono ?_; rintro e w' ⟨rfl, rfl⟩)
    go_at_call 123
    refine (unhide hfmt).mono ?_
    rintro e w' ⟨rfl, k, v', dk, rfl, hF⟩
    have hcv : (convert 29 9 (.slice (some ⟨w.heap.size, 0, none⟩) (Lib.nDigits u) 24)).run Tryz.prog ((putRow (fun (b : UInt8) => Value.int .u8 (b.toNat : Int)) (w.alloc (.cells Lib.zeros24 133)) w.heap.size 0 dk).drewN k) = .ok (.string ⟨(Lib.decDigits u).toArray⟩) ((putRow (fun (b : UInt8) => Value.int .u8 (b.toNat : Int)) (w.alloc (.cells Lib.zeros24 133)) w.heap.size 0 dk).drewN k) := by
      have h := run_convert_bytes_back (P := Tryz.prog) ((putRow (fun (b : UInt8) => Value.int .u8 (b.toNat : Int)) (w.alloc (.cells Lib.zeros24 133)) w.heap.size 0 dk).drewN k) 29 9 5 ⟨w.heap.size, 0, none⟩ 24 (Lib.decDigits u) Tryz.underlying29 Tryz.underlying5 Tryz.underlying9 (fun j hj => by
        rw [Lib.row_is_numeral hF j hj, Lib.add_plain, World.cell?_drewN]
        exact cell?_putRow (fun (b : UInt8) => Value.int .u8 (b.toNat : Int)) _ w.heap.size 0 _ dk (unhide HH0) (by rw [hF.size, Array.size_replicate]) j (by rw [hF.size]; rw [Lib.decDigits_length] at hj; exact hj))
      rw [Lib.decDigits_length] at h
      exact h
    obtain ⟨os, eo⟩ := fin_pos0 w (.cells Lib.zeros24 133) dk k
    have B1 := hide (eo ▸ Lib.below_grow w.heap.size w (Nat.le_refl _) k os)
    clear eo
    go_wp2
    go_ret
    exact ⟨rfl, unhide B1⟩
set_option maxHeartbeats 1000000 in
theorem formatUint_any (u : Nat) (w : World) (hv : Vars w) (hu64 : u < 18446744073709551616) : Calls Tryz.prog 71 #[.int .u64 u, .int .i64 10] w fun e w' => e = .returned (.string (tb (Lib.itoa u))) ∧ Below w.heap.size w w' := by
  have c := hide (iformatUint_any u w hv hu64)
  generalize tb (Lib.itoa u) = S at *
  go_enter Tryz.func71, Tryz.ntmps71
  go_wp2_with (go_at_call 99; refine (unhide c).mono ?_; rintro e w' ⟨rfl, b1⟩; have B1 := hide b1; clear b1)
  go_ret
  exact ⟨rfl, unhide B1⟩
theorem formatInt_any (x : Int) (w : World) (hv : Vars w) (hx : i64 x) : Calls Tryz.prog 70 #[.int .i64 x, .int .i64 10] w fun e w' => e = .returned (.string (tb (Lib.itoa x))) ∧ Below w.heap.size w w' := by
  refine (Tryz.strconv_FormatInt_10 x hx.1 hx.2 w hv).mono ?_
  rintro e w1 ⟨rfl, kk, os, rfl⟩
  exact ⟨rfl, Lib.below_grow _ _ (Nat.le_refl _) _ _⟩

end Go.Proofs.YtkcblnojgonblaaGreatDoor

namespace Go.Proofs.YtkcblnojgonblaaGreatDoor
open Go.RowKit
set_option linter.unusedVariables false
set_option linter.unusedSimpArgs false

set_option maxHeartbeats 1000000 in
set_option maxRecDepth 100000 in
theorem hasText_any (k : Int) (w : World) : Calls Tryz.prog 54 #[.int .i64 k] w fun e w' => e = .returned (.bool (hasT k)) ∧ w' = w := by

  by_cases hm1 : k = -1
  · subst hm1
    go_enter Tryz.func54, Tryz.ntmps54
    go_wp2_with fail
    go_ret
    exact ⟨rfl, rfl⟩
  by_cases h0 : k = 0
  · subst h0
    go_enter Tryz.func54, Tryz.ntmps54
    go_wp2_with fail
    go_ret
    exact ⟨rfl, rfl⟩
  by_cases h3 : k = 3
  · subst h3
    go_enter Tryz.func54, Tryz.ntmps54
    go_wp2_with fail
    go_ret
    exact ⟨rfl, rfl⟩
  by_cases h4 : k = 4
  · subst h4
    go_enter Tryz.func54, Tryz.ntmps54
    go_wp2_with fail
    go_ret
    exact ⟨rfl, rfl⟩
  have g1 : (k == -1) = false := by simpa using hm1
  have g0 : (k == 0) = false := by simpa using h0
  have g3 : (k == 3) = false := by simpa using h3
  have g4 : (k == 4) = false := by simpa using h4
  have e : hasT k = true := by unfold hasT; rw [g1, g0, g3, g4]; rfl
  rw [e]
  clear e hm1 h0 h3 h4
  go_enter Tryz.func54, Tryz.ntmps54
  go_wp2_with fail
  go_ret
  exact ⟨rfl, rfl⟩

/-- A value and a type that a function took; the library's table. -/
structure Tv (w0 : World) (v : Va) (t : Int) (un : Bool) (w : World) : Prop where
  p : Pv w0 v t un w
  v : Vars w
theorem Tv.later {w0 w w' : World} {v : Va} {t : Int} {un : Bool} (h : Tv w0 v t un w) (b : Below w.heap.size w w') : Tv w0 v t un w' := ⟨h.p.later b, h.v.later b⟩
theorem Tv.drew {w0 w : World} {v : Va} {t : Int} {un : Bool} (h : Tv w0 v t un w) : Tv w0 v t un w.drew := ⟨h.p.drew, h.v.drew⟩
theorem tb_self (s : ByteArray) : tb s.data.toList = s := by
  apply ByteArray.ext
  apply Array.ext'
  simp [tb]

set_option maxHeartbeats 1000000 in
set_option maxRecDepth 100000 in
theorem textOf_any (v : Va) (t : Int) (un : Bool) (w : World) (hvs : Vars w) (hv : VaK v) (h6 : v.k = 6 → inr v.w.d 34 = true ∧ inr v.w.h 23 = true) : Calls Tryz.prog 55 #[.agg (vaC v), .agg #[.int .u8 t, .bool un]] w fun e w' => e = .returned (.string (tb (vaT v t))) ∧ Below w.heap.size w w' := by
  obtain ⟨w2, hw2⟩ : ∃ z, z = (w.alloc (.cells (vaC v) 38)).alloc (.cells #[.int .u8 t, .bool un] 23) := ⟨_, rfl⟩
  have P0 : Tv w v t un w2 := by
    rw [hw2]
    exact ⟨Pv.box w v t un, (hvs.later (below_alloc w _)).later (below_alloc _ _)⟩
  by_cases h1 : v.k = 1
  · have e1 : vaT v t = Lib.itoa v.i := by unfold vaT; rw [if_pos h1]
    rw [e1]
    have c1 := hide (formatInt_any v.i w2 P0.v hv.i)
    generalize tb (Lib.itoa v.i) = S at *
    clear e1 hv h6 hvs
    obtain ⟨k, i, b, tx, ⟨ng, y, mo, d, h, mi, s, mc⟩⟩ := v
    unfold vaC
    simp only at *
    have PP := hide P0
    obtain ⟨k0, k1, k2, k3, k4, k5, k6, k7, k8, k9, k10, k11, t0, t1⟩ := P0.p.cells
    have HW := hide (show (w.alloc (.cells #[.int .i64 k, .int .i64 i, .int .u64 b, .string tx, .bool ng, .int .i64 y, .int .i64 mo, .int .i64 d, .int .i64 h, .int .i64 mi, .int .i64 s, .int .i64 mc] 38)).alloc (.cells #[.int .u8 t, .bool un] 23) = w2 from hw2.symm)
    subst h1
    clear hw2 P0
    go_enter Tryz.func55, Tryz.ntmps55
    go_wp2_with (go_at_call 70; rw [unhide HW]; refine (unhide c1).mono ?_; rintro e wq ⟨rfl, bq⟩; have BQ := hide ((unhide PP).later bq).p.bl; clear bq)
    go_ret
    exact ⟨rfl, unhide BQ⟩
  by_cases h2 : v.k = 2
  · have e1 : vaT v t = Lib.itoa v.b := by unfold vaT; rw [if_neg h1, if_pos h2]
    rw [e1]
    obtain ⟨u, hu⟩ := Int.eq_ofNat_of_zero_le hv.b.1
    have c1 := hide (formatUint_any u w2 P0.v (by have := hv.b.2; omega))
    rw [← hu] at c1
    generalize tb (Lib.itoa v.b) = S at *
    clear e1 hv h6 hvs hu
    obtain ⟨k, i, b, tx, ⟨ng, y, mo, d, h, mi, s, mc⟩⟩ := v
    unfold vaC
    simp only at *
    have PP := hide P0
    obtain ⟨k0, k1, k2, k3, k4, k5, k6, k7, k8, k9, k10, k11, t0, t1⟩ := P0.p.cells
    have HW := hide (show (w.alloc (.cells #[.int .i64 k, .int .i64 i, .int .u64 b, .string tx, .bool ng, .int .i64 y, .int .i64 mo, .int .i64 d, .int .i64 h, .int .i64 mi, .int .i64 s, .int .i64 mc] 38)).alloc (.cells #[.int .u8 t, .bool un] 23) = w2 from hw2.symm)
    subst h2
    clear hw2 P0 h1
    go_enter Tryz.func55, Tryz.ntmps55
    go_wp2_with (go_at_call 71; rw [unhide HW]; refine (unhide c1).mono ?_; rintro e wq ⟨rfl, bq⟩; have BQ := hide ((unhide PP).later bq).p.bl; clear bq)
    go_ret
    exact ⟨rfl, unhide BQ⟩
  by_cases h5 : v.k = 5
  · have e1 : vaT v t = datT v.w t := by unfold vaT; rw [if_neg h1, if_neg h2, if_pos h5]
    rw [e1]
    have c1 := hide (dateText_any v.w t w2 P0.v hv.w)
    generalize tb (datT v.w t) = S at *
    clear e1 hv h6 hvs
    unfold whC at c1
    obtain ⟨k, i, b, tx, ⟨ng, y, mo, d, h, mi, s, mc⟩⟩ := v
    unfold vaC
    simp only at *
    have PP := hide P0
    obtain ⟨k0, k1, k2, k3, k4, k5, k6, k7, k8, k9, k10, k11, t0, t1⟩ := P0.p.cells
    have HW := hide (show (w.alloc (.cells #[.int .i64 k, .int .i64 i, .int .u64 b, .string tx, .bool ng, .int .i64 y, .int .i64 mo, .int .i64 d, .int .i64 h, .int .i64 mi, .int .i64 s, .int .i64 mc] 38)).alloc (.cells #[.int .u8 t, .bool un] 23) = w2 from hw2.symm)
    subst h5
    clear hw2 P0 h1 h2
    go_enter Tryz.func55, Tryz.ntmps55
    go_wp2_with (go_at_call 72; rw [unhide HW]; refine (unhide c1).mono ?_; rintro e wq ⟨rfl, bq⟩; have BQ := hide ((unhide PP).later bq).p.bl; clear bq)
    go_ret
    exact ⟨rfl, unhide BQ⟩
  by_cases h6' : v.k = 6
  · have e1 : vaT v t = timT v.w := by unfold vaT; rw [if_neg h1, if_neg h2, if_neg h5, if_pos h6']
    rw [e1]
    have c1 := hide (timeText_any v.w w2 P0.v hv.w (h6 h6').1 (h6 h6').2)
    generalize tb (timT v.w) = S at *
    clear e1 hv h6 hvs
    unfold whC at c1
    obtain ⟨k, i, b, tx, ⟨ng, y, mo, d, h, mi, s, mc⟩⟩ := v
    unfold vaC
    simp only at *
    have PP := hide P0
    obtain ⟨k0, k1, k2, k3, k4, k5, k6, k7, k8, k9, k10, k11, t0, t1⟩ := P0.p.cells
    have HW := hide (show (w.alloc (.cells #[.int .i64 k, .int .i64 i, .int .u64 b, .string tx, .bool ng, .int .i64 y, .int .i64 mo, .int .i64 d, .int .i64 h, .int .i64 mi, .int .i64 s, .int .i64 mc] 38)).alloc (.cells #[.int .u8 t, .bool un] 23) = w2 from hw2.symm)
    subst h6'
    clear hw2 P0 h1 h2 h5
    go_enter Tryz.func55, Tryz.ntmps55
    go_wp2_with (go_at_call 73; rw [unhide HW]; refine (unhide c1).mono ?_; rintro e wq ⟨rfl, bq⟩; have BQ := hide ((unhide PP).later bq).p.bl; clear bq)
    go_ret
    exact ⟨rfl, unhide BQ⟩
  have e1 : vaT v t = v.t.data.toList := by unfold vaT; rw [if_neg h1, if_neg h2, if_neg h5, if_neg h6']
  rw [e1, tb_self]
  clear e1 hv h6 hvs
  obtain ⟨k, i, b, tx, ⟨ng, y, mo, d, h, mi, s, mc⟩⟩ := v
  unfold vaC
  simp only at *
  have PP := hide P0
  obtain ⟨k0, k1, k2, k3, k4, k5, k6, k7, k8, k9, k10, k11, t0, t1⟩ := P0.p.cells
  have HW := hide (show (w.alloc (.cells #[.int .i64 k, .int .i64 i, .int .u64 b, .string tx, .bool ng, .int .i64 y, .int .i64 mo, .int .i64 d, .int .i64 h, .int .i64 mi, .int .i64 s, .int .i64 mc] 38)).alloc (.cells #[.int .u8 t, .bool un] 23) = w2 from hw2.symm)
  have g1 : (k == 1) = false := by simpa using h1
  have g2 : (k == 2) = false := by simpa using h2
  have g5 : (k == 5) = false := by simpa using h5
  have g6 : (k == 6) = false := by simpa using h6'
  clear hw2 P0 h1 h2 h5 h6'
  go_enter Tryz.func55, Tryz.ntmps55
  go_wp2_with fail
  go_ret
  rw [unhide HW]
  exact ⟨rfl, (unhide PP).p.bl⟩

theorem ok_six {v : Va} {t : Int} {un : Bool} (h : vOk v t un = true) (hk : v.k = 6) : inr v.w.d 34 = true ∧ inr v.w.h 23 = true := by
  unfold vOk mb at h
  simp only [Bool.and_eq_true, Bool.or_eq_true, decide_eq_true_eq] at h
  rcases h.2 with h | h
  · rw [h] at hk; exact absurd hk (by decide)
  · have := h.2
    unfold fit tmOk clk at this
    rw [if_neg (by omega), if_neg (by omega), if_neg (by omega), if_pos hk] at this
    simp only [Bool.and_eq_true] at this
    exact ⟨this.2.2.2.2.1, this.2.2.2.2.2.1⟩
theorem check_tv {w0 : World} {v : Va} {t : Int} {un : Bool} (q0 : 0 ≤ t) (q1 : t < 256) (hv : VaK v) (w : World) (h : Tv w0 v t un w) : Calls Tryz.prog 46 #[.agg (vaC v), .agg #[.int .u8 t, .bool un]] w fun e w' => e = .returned (.int .i64 (if vOk v t un = true then 0 else 2)) ∧ Tv w0 v t un w' :=
  (check_any v t un w q0 q1 hv).mono fun _ _ ⟨e, b⟩ => ⟨e, h.later b⟩
theorem textOf_tv {w0 : World} {v : Va} {t : Int} {un : Bool} (hv : VaK v) (h6 : v.k = 6 → inr v.w.d 34 = true ∧ inr v.w.h 23 = true) (w : World) (h : Tv w0 v t un w) : Calls Tryz.prog 55 #[.agg (vaC v), .agg #[.int .u8 t, .bool un]] w fun e w' => e = .returned (.string (tb (vaT v t))) ∧ Tv w0 v t un w' :=
  (textOf_any v t un w h.v hv h6).mono fun _ _ ⟨e, b⟩ => ⟨e, h.later b⟩
/-- What Text answers. -/
def txR (v : Va) (t : Int) (un : Bool) : ByteArray × Int := if tOk v t un = true then (tb (vaT v t), 0) else (⟨#[]⟩, 2)

set_option maxHeartbeats 1000000 in
set_option maxRecDepth 100000 in
theorem text_any (v : Va) (t : Int) (un : Bool) (w : World) (q0 : 0 ≤ t) (q1 : t < 256) (hvs : Vars w) (hv : VaK v) : Calls Tryz.prog 29 #[.agg (vaC v), .agg #[.int .u8 t, .bool un]] w fun e w' => e = .returned (.tuple #[.string (txR v t un).1, .int .i64 (txR v t un).2]) ∧ Below w.heap.size w w' := by
  obtain ⟨w2, hw2⟩ : ∃ z, z = (w.alloc (.cells (vaC v) 38)).alloc (.cells #[.int .u8 t, .bool un] 23) := ⟨_, rfl⟩
  have P0 : Tv w v t un w2 := by
    rw [hw2]
    exact ⟨Pv.box w v t un, (hvs.later (below_alloc w _)).later (below_alloc _ _)⟩
  have cC := hide (fun wx (hq : Tv w v t un wx) => check_tv q0 q1 hv wx hq)
  have cH := hide (fun wx => hasText_any v.k wx)
  unfold txR tOk
  cases hO : vOk v t un
  · rw [hO, if_neg (by decide)] at cC
    rw [Bool.false_and, if_neg (by decide)]
    clear hv hvs q0 q1 hO
    unfold vaC at cC
    obtain ⟨k, i, b, tx, ⟨ng, y, mo, d, h, mi, s, mc⟩⟩ := v
    unfold vaC
    simp only at *
    have PP := hide P0
    obtain ⟨k0, k1, k2, k3, k4, k5, k6, k7, k8, k9, k10, k11, t0, t1⟩ := P0.p.cells
    have HW := hide (show (w.alloc (.cells #[.int .i64 k, .int .i64 i, .int .u64 b, .string tx, .bool ng, .int .i64 y, .int .i64 mo, .int .i64 d, .int .i64 h, .int .i64 mi, .int .i64 s, .int .i64 mc] 38)).alloc (.cells #[.int .u8 t, .bool un] 23) = w2 from hw2.symm)
    clear hw2 P0
    go_enter Tryz.func29, Tryz.ntmps29
    go_wp2_with (first | (go_at_call 46; rw [unhide HW]; (with_reducible refine (unhide cC _ (unhide PP)).mono ?_); rintro e wq ⟨rfl, P2⟩; clear k0 k1 k2 k3 k4 k5 k6 k7 k8 k9 k10 k11 t0 t1; obtain ⟨k0, k1, k2, k3, k4, k5, k6, k7, k8, k9, k10, k11, t0, t1⟩ := P2.p.cells; have PP := hide P2; clear P2) | (go_at_call 54; (with_reducible refine same_world (unhide cH _) ?_)) | (go_at_call 55; (with_reducible refine (unhide cT _ (unhide PP)).mono ?_); rintro e wq ⟨rfl, P2⟩; have PP := hide P2; clear P2))
    go_ret2
    exact ⟨rfl, (unhide PP).p.bl⟩
  · have cT := hide (fun wx (hq : Tv w v t un wx) => textOf_tv hv (fun z => ok_six hO z) wx hq)
    rw [hO, if_pos rfl] at cC
    rw [Bool.true_and]
    cases hH : hasT v.k
    · rw [hH] at cH
      rw [if_neg (by decide)]
      clear hv hvs q0 q1 hO hH cT
      unfold vaC at cC
      obtain ⟨k, i, b, tx, ⟨ng, y, mo, d, h, mi, s, mc⟩⟩ := v
      unfold vaC
      simp only at *
      have PP := hide P0
      obtain ⟨k0, k1, k2, k3, k4, k5, k6, k7, k8, k9, k10, k11, t0, t1⟩ := P0.p.cells
      have HW := hide (show (w.alloc (.cells #[.int .i64 k, .int .i64 i, .int .u64 b, .string tx, .bool ng, .int .i64 y, .int .i64 mo, .int .i64 d, .int .i64 h, .int .i64 mi, .int .i64 s, .int .i64 mc] 38)).alloc (.cells #[.int .u8 t, .bool un] 23) = w2 from hw2.symm)
      clear hw2 P0
      go_enter Tryz.func29, Tryz.ntmps29
      go_wp2_with (first | (go_at_call 46; rw [unhide HW]; (with_reducible refine (unhide cC _ (unhide PP)).mono ?_); rintro e wq ⟨rfl, P2⟩; clear k0 k1 k2 k3 k4 k5 k6 k7 k8 k9 k10 k11 t0 t1; obtain ⟨k0, k1, k2, k3, k4, k5, k6, k7, k8, k9, k10, k11, t0, t1⟩ := P2.p.cells; have PP := hide P2; clear P2) | (go_at_call 54; (with_reducible refine same_world (unhide cH _) ?_)) | (go_at_call 55; (with_reducible refine (unhide cT _ (unhide PP)).mono ?_); rintro e wq ⟨rfl, P2⟩; have PP := hide P2; clear P2))
      go_ret2
      exact ⟨rfl, (unhide PP).p.bl⟩
    · rw [hH] at cH
      rw [if_pos rfl]
      generalize tb (vaT v t) = S at *
      clear hv hvs q0 q1 hO hH
      unfold vaC at cC cT
      obtain ⟨k, i, b, tx, ⟨ng, y, mo, d, h, mi, s, mc⟩⟩ := v
      unfold vaC
      simp only at *
      have PP := hide P0
      obtain ⟨k0, k1, k2, k3, k4, k5, k6, k7, k8, k9, k10, k11, t0, t1⟩ := P0.p.cells
      have HW := hide (show (w.alloc (.cells #[.int .i64 k, .int .i64 i, .int .u64 b, .string tx, .bool ng, .int .i64 y, .int .i64 mo, .int .i64 d, .int .i64 h, .int .i64 mi, .int .i64 s, .int .i64 mc] 38)).alloc (.cells #[.int .u8 t, .bool un] 23) = w2 from hw2.symm)
      clear hw2 P0
      go_enter Tryz.func29, Tryz.ntmps29
      go_wp2_with (first | (go_at_call 46; rw [unhide HW]; (with_reducible refine (unhide cC _ (unhide PP)).mono ?_); rintro e wq ⟨rfl, P2⟩; clear k0 k1 k2 k3 k4 k5 k6 k7 k8 k9 k10 k11 t0 t1; obtain ⟨k0, k1, k2, k3, k4, k5, k6, k7, k8, k9, k10, k11, t0, t1⟩ := P2.p.cells; have PP := hide P2; clear P2) | (go_at_call 54; (with_reducible refine same_world (unhide cH _) ?_)) | (go_at_call 55; (with_reducible refine (unhide cT _ (unhide PP)).mono ?_); rintro e wq ⟨rfl, P2⟩; have PP := hide P2; clear P2))
      go_ret2
      exact ⟨rfl, (unhide PP).p.bl⟩


end Go.Proofs.YtkcblnojgonblaaGreatDoor
