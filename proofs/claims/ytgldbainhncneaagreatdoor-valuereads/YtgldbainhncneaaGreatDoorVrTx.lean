/-
  The document's own answer for values: Text. It writes nothing that was there. Conditions: numbers within their kinds.
-/
import Derived.Test.YtgldbainhncneaaGreatDoorMCk
import Derived.Test.YtgldbainhncneaaGreatDoorVrDg
import Derived.Test.YtgldbainhncneaaGreatDoorMTo
import Derived.Test.YtgldbainhncneaaGreatDoorVaBy3
namespace Go.Proofs.YtgldbainhncneaaGreatDoor
open Go.RowKit
set_option linter.unusedVariables false
set_option linter.unusedSimpArgs false

set_option maxHeartbeats 4000000 in
set_option maxRecDepth 100000 in
theorem text_ref (v : Va) (t : Int) (un : Bool) (w : World) (q0 : 0 ≤ t) (q1 : t < 256) (hv : VaK v) : Calls Tryz.prog 33 #[.agg (vaC v), .agg #[.int .u8 t, .bool un]] w fun e w' => e = .returned (.tuple #[.string (txR v t un).1, .int .i64 (txR v t un).2]) ∧ Below w.heap.size w w' := by
  have P0 := Pv.box w v t un
  obtain ⟨w2, hw2⟩ : ∃ z, z = (w.alloc (.cells (vaC v) 32)).alloc (.cells #[.int .u8 t, .bool un] 23) := ⟨_, rfl⟩
  rw [← hw2] at P0
  have cC := hide (fun wx => check_ref v t un wx q0 q1 hv)
  cases hO : vOk v t un
  · have e0 : txR v t un = (⟨#[]⟩, 2) := by unfold txR tOk; rw [hO]; rfl
    rw [e0]
    rw [hO, if_neg (by decide)] at cC
    clear hv q0 q1 hO e0
    obtain ⟨k, i, b, tx, ⟨ng, y, mo, d, h, mi, s, mc⟩⟩ := v
    unfold vaC at cC ⊢
    simp only at *
    have PP := hide P0
    obtain ⟨k0, k1, k2, k3, k4, k5, k6, k7, k8, k9, k10, k11, t0, t1⟩ := P0.cells
    have HW := hide (show (w.alloc (.cells #[.int .i64 k, .int .i64 i, .int .u64 b, .string tx, .bool ng, .int .i64 y, .int .i64 mo, .int .i64 d, .int .i64 h, .int .i64 mi, .int .i64 s, .int .i64 mc] 32)).alloc (.cells #[.int .u8 t, .bool un] 23) = w2 from hw2.symm)
    clear hw2 P0
    go_enter Tryz.func33, Tryz.ntmps33
    go_wp2_with (go_at_call 71; rw [unhide HW]; (with_reducible refine (unhide cC _).mono ?_); rintro e wq ⟨rfl, b3⟩; have P2 := (unhide PP).later b3; clear b3 k0 k1 k2 k3 k4 k5 k6 k7 k8 k9 k10 k11 t0 t1; obtain ⟨k0, k1, k2, k3, k4, k5, k6, k7, k8, k9, k10, k11, t0, t1⟩ := P2.cells; have PP := hide P2; clear P2)
    go_ret2
    exact ⟨rfl, (unhide PP).bl⟩
  rw [hO, if_pos rfl] at cC
  by_cases hno : v.k = 0 ∨ v.k = 3 ∨ v.k = 4
  · have e0 : txR v t un = (⟨#[]⟩, 2) := by
      have : hasT v.k = false := by unfold hasT; rcases hno with q | q | q <;> rw [q] <;> rfl
      unfold txR tOk
      rw [this, Bool.and_false]
      rfl
    rw [e0]
    clear hv q0 q1 hO e0
    obtain ⟨k, i, b, tx, ⟨ng, y, mo, d, h, mi, s, mc⟩⟩ := v
    unfold vaC at cC ⊢
    simp only at *
    rcases hno with h0 | h0 | h0
    · subst h0
      have PP := hide P0
      obtain ⟨k0, k1, k2, k3, k4, k5, k6, k7, k8, k9, k10, k11, t0, t1⟩ := P0.cells
      have HW := hide (show (w.alloc (.cells #[.int .i64 0, .int .i64 i, .int .u64 b, .string tx, .bool ng, .int .i64 y, .int .i64 mo, .int .i64 d, .int .i64 h, .int .i64 mi, .int .i64 s, .int .i64 mc] 32)).alloc (.cells #[.int .u8 t, .bool un] 23) = w2 from hw2.symm)
      clear hw2 P0
      go_enter Tryz.func33, Tryz.ntmps33
      go_wp2_with (go_at_call 71; rw [unhide HW]; (with_reducible refine (unhide cC _).mono ?_); rintro e wq ⟨rfl, b3⟩; have P2 := (unhide PP).later b3; clear b3 k0 k1 k2 k3 k4 k5 k6 k7 k8 k9 k10 k11 t0 t1; obtain ⟨k0, k1, k2, k3, k4, k5, k6, k7, k8, k9, k10, k11, t0, t1⟩ := P2.cells; have PP := hide P2; clear P2)
      go_ret2
      exact ⟨rfl, (unhide PP).bl⟩
    · subst h0
      have PP := hide P0
      obtain ⟨k0, k1, k2, k3, k4, k5, k6, k7, k8, k9, k10, k11, t0, t1⟩ := P0.cells
      have HW := hide (show (w.alloc (.cells #[.int .i64 3, .int .i64 i, .int .u64 b, .string tx, .bool ng, .int .i64 y, .int .i64 mo, .int .i64 d, .int .i64 h, .int .i64 mi, .int .i64 s, .int .i64 mc] 32)).alloc (.cells #[.int .u8 t, .bool un] 23) = w2 from hw2.symm)
      clear hw2 P0
      go_enter Tryz.func33, Tryz.ntmps33
      go_wp2_with (go_at_call 71; rw [unhide HW]; (with_reducible refine (unhide cC _).mono ?_); rintro e wq ⟨rfl, b3⟩; have P2 := (unhide PP).later b3; clear b3 k0 k1 k2 k3 k4 k5 k6 k7 k8 k9 k10 k11 t0 t1; obtain ⟨k0, k1, k2, k3, k4, k5, k6, k7, k8, k9, k10, k11, t0, t1⟩ := P2.cells; have PP := hide P2; clear P2)
      go_ret2
      exact ⟨rfl, (unhide PP).bl⟩
    · subst h0
      have PP := hide P0
      obtain ⟨k0, k1, k2, k3, k4, k5, k6, k7, k8, k9, k10, k11, t0, t1⟩ := P0.cells
      have HW := hide (show (w.alloc (.cells #[.int .i64 4, .int .i64 i, .int .u64 b, .string tx, .bool ng, .int .i64 y, .int .i64 mo, .int .i64 d, .int .i64 h, .int .i64 mi, .int .i64 s, .int .i64 mc] 32)).alloc (.cells #[.int .u8 t, .bool un] 23) = w2 from hw2.symm)
      clear hw2 P0
      go_enter Tryz.func33, Tryz.ntmps33
      go_wp2_with (go_at_call 71; rw [unhide HW]; (with_reducible refine (unhide cC _).mono ?_); rintro e wq ⟨rfl, b3⟩; have P2 := (unhide PP).later b3; clear b3 k0 k1 k2 k3 k4 k5 k6 k7 k8 k9 k10 k11 t0 t1; obtain ⟨k0, k1, k2, k3, k4, k5, k6, k7, k8, k9, k10, k11, t0, t1⟩ := P2.cells; have PP := hide P2; clear P2)
      go_ret2
      exact ⟨rfl, (unhide PP).bl⟩
  have hk8 : v.k = 1 ∨ v.k = 2 ∨ v.k = 5 ∨ v.k = 6 ∨ v.k = 7 := by
    rcases (ok_cases hO) with ⟨q, z | ⟨_, z, _⟩⟩
    · exact absurd (.inl (by rw [z]; rfl)) hno
    · rcases kd_cases t un with y | y | y | y | y | y | y | y | y <;> omega
  have e0 : txR v t un = (tb (vaT v t), 0) := by
    have : hasT v.k = true := by unfold hasT; rcases hk8 with q | q | q | q | q <;> rw [q] <;> rfl
    unfold txR tOk
    rw [hO, this]
    rfl
  rw [e0]
  clear e0 hno
  have cD := hide (fun (x : Int) (n : Nat) (N : Int) (hN : N = (n : Int)) (hx : 0 ≤ x ∧ x < 18446744073709551616) (hn : 1 ≤ n) (hn2 : n ≤ 100) wx (hq : Pv w v t un wx) => digits_pv x n N hN hx hn hn2 wx hq)
  rcases hk8 with h1 | h2 | h5 | h6 | h7
  · have hE : vaT v t = Lib.itoa v.i := by unfold vaT; rw [if_pos h1]
    rw [hE]
    have hi := hv.i
    clear hv q0 q1 hO hE
    obtain ⟨k, i, b, tx, ⟨ng, y, mo, d, h, mi, s, mc⟩⟩ := v
    unfold vaC at cC ⊢
    simp only at *
    subst h1
    by_cases hneg : i < 0
    · have cX := hide (unhide cD (-i) 1 1 rfl ⟨by omega, by have := hi.1; omega⟩ (by omega) (by omega))
      rw [pad_one (by omega)] at cX
      have e2 : tb (Lib.itoa i) = (⟨#[45]⟩ : ByteArray) ++ tb (Lib.itoa (-i)) := by
        obtain ⟨u, rfl⟩ : ∃ u : Nat, i = -(u : Int) := ⟨i.natAbs, by omega⟩
        rw [Lib.itoa_neg u (by omega), Int.neg_neg, Lib.itoa_nonneg, show (⟨#[45]⟩ : ByteArray) = tb [45] from rfl, tb_app]
        rfl
      rw [e2]
      have zA : (tb (Lib.itoa (-i))).size ≤ 22 := by
        rw [tb_size]
        obtain ⟨u, hu⟩ := Int.eq_ofNat_of_zero_le (show 0 ≤ -i by omega)
        rw [hu, Lib.itoa_nonneg, Lib.decDigits_length]
        have := Lib.nDigits_le20 u (by have := hi.1; omega)
        omega
      have m1 : wrap64 (i + 1) = i + 1 := by have := hi.1; have := hi.2; unfold wrap64; omega
      have m2 : wrap64 (-(i + 1)) = -(i + 1) := by have := hi.1; have := hi.2; unfold wrap64; omega
      have m3 : IntKind.u64.wrap (-(i + 1)) = -(i + 1) := by rw [IntKind.wrap_u64]; have := hi.1; omega
      have m4 : IntKind.u64.wrap (-(i + 1) + 1) = -i := by rw [IntKind.wrap_u64]; have := hi.1; omega
      generalize tb (Lib.itoa (-i)) = SA at *
      have u1 : ¬ 9223372036854775807 < 1 + SA.size := by omega
      clear e2 zA cD hi
      have PP := hide P0
      obtain ⟨k0, k1, k2, k3, k4, k5, k6, k7, k8, k9, k10, k11, t0, t1⟩ := P0.cells
      have HW := hide (show (w.alloc (.cells #[.int .i64 1, .int .i64 i, .int .u64 b, .string tx, .bool ng, .int .i64 y, .int .i64 mo, .int .i64 d, .int .i64 h, .int .i64 mi, .int .i64 s, .int .i64 mc] 32)).alloc (.cells #[.int .u8 t, .bool un] 23) = w2 from hw2.symm)
      clear hw2 P0
      go_enter Tryz.func33, Tryz.ntmps33
      go_wp2_with (first | (go_at_call 71; rw [unhide HW]; (with_reducible refine (unhide cC _).mono ?_); rintro e wq ⟨rfl, b3⟩; have P2 := (unhide PP).later b3; clear b3 k0 k1 k2 k3 k4 k5 k6 k7 k8 k9 k10 k11 t0 t1; obtain ⟨k0, k1, k2, k3, k4, k5, k6, k7, k8, k9, k10, k11, t0, t1⟩ := P2.cells; have PP := hide P2; clear P2) | (go_at_call 72; (with_reducible show Calls _ _ #[.int .u64 _, .int .i64 1] _ _); (with_reducible refine (unhide cX _ (unhide PP)).mono ?_); rintro e wq ⟨rfl, P2⟩; clear k0 k1 k2 k3 k4 k5 k6 k7 k8 k9 k10 k11 t0 t1; obtain ⟨k0, k1, k2, k3, k4, k5, k6, k7, k8, k9, k10, k11, t0, t1⟩ := P2.cells; have PP := hide P2; clear P2) | (go_at_call 72; (with_reducible show Calls _ _ #[.int .u64 _, .int .i64 1] _ _); (with_reducible refine (unhide cX _ (unhide PP).drew).mono ?_); rintro e wq ⟨rfl, P2⟩; clear k0 k1 k2 k3 k4 k5 k6 k7 k8 k9 k10 k11 t0 t1; obtain ⟨k0, k1, k2, k3, k4, k5, k6, k7, k8, k9, k10, k11, t0, t1⟩ := P2.cells; have PP := hide P2; clear P2))
      go_ret2
      exact ⟨rfl, (unhide PP).bl⟩
    · have cX := hide (unhide cD i 1 1 rfl ⟨by omega, by have := hi.2; omega⟩ (by omega) (by omega))
      rw [pad_one (by omega)] at cX
      have m1 : IntKind.u64.wrap i = i := by rw [IntKind.wrap_u64]; have := hi.2; omega
      generalize tb (Lib.itoa i) = SA at *
      clear cD hi
      have PP := hide P0
      obtain ⟨k0, k1, k2, k3, k4, k5, k6, k7, k8, k9, k10, k11, t0, t1⟩ := P0.cells
      have HW := hide (show (w.alloc (.cells #[.int .i64 1, .int .i64 i, .int .u64 b, .string tx, .bool ng, .int .i64 y, .int .i64 mo, .int .i64 d, .int .i64 h, .int .i64 mi, .int .i64 s, .int .i64 mc] 32)).alloc (.cells #[.int .u8 t, .bool un] 23) = w2 from hw2.symm)
      clear hw2 P0
      go_enter Tryz.func33, Tryz.ntmps33
      go_wp2_with (first | (go_at_call 71; rw [unhide HW]; (with_reducible refine (unhide cC _).mono ?_); rintro e wq ⟨rfl, b3⟩; have P2 := (unhide PP).later b3; clear b3 k0 k1 k2 k3 k4 k5 k6 k7 k8 k9 k10 k11 t0 t1; obtain ⟨k0, k1, k2, k3, k4, k5, k6, k7, k8, k9, k10, k11, t0, t1⟩ := P2.cells; have PP := hide P2; clear P2) | (go_at_call 72; (with_reducible show Calls _ _ #[.int .u64 _, .int .i64 1] _ _); (with_reducible refine (unhide cX _ (unhide PP)).mono ?_); rintro e wq ⟨rfl, P2⟩; clear k0 k1 k2 k3 k4 k5 k6 k7 k8 k9 k10 k11 t0 t1; obtain ⟨k0, k1, k2, k3, k4, k5, k6, k7, k8, k9, k10, k11, t0, t1⟩ := P2.cells; have PP := hide P2; clear P2) | (go_at_call 72; (with_reducible show Calls _ _ #[.int .u64 _, .int .i64 1] _ _); (with_reducible refine (unhide cX _ (unhide PP).drew).mono ?_); rintro e wq ⟨rfl, P2⟩; clear k0 k1 k2 k3 k4 k5 k6 k7 k8 k9 k10 k11 t0 t1; obtain ⟨k0, k1, k2, k3, k4, k5, k6, k7, k8, k9, k10, k11, t0, t1⟩ := P2.cells; have PP := hide P2; clear P2))
      go_ret2
      exact ⟨rfl, (unhide PP).bl⟩
  · have hE : vaT v t = Lib.itoa v.b := by unfold vaT; rw [if_neg (by omega), if_pos h2]
    rw [hE]
    have cX := hide (unhide cD v.b 1 1 rfl hv.b (by omega) (by omega))
    rw [pad_one hv.b.1] at cX
    generalize tb (Lib.itoa v.b) = SA at *
    clear hv q0 q1 hO hE cD
    obtain ⟨k, i, b, tx, ⟨ng, y, mo, d, h, mi, s, mc⟩⟩ := v
    unfold vaC at cC ⊢
    simp only at *
    subst h2
    have PP := hide P0
    obtain ⟨k0, k1, k2, k3, k4, k5, k6, k7, k8, k9, k10, k11, t0, t1⟩ := P0.cells
    have HW := hide (show (w.alloc (.cells #[.int .i64 2, .int .i64 i, .int .u64 b, .string tx, .bool ng, .int .i64 y, .int .i64 mo, .int .i64 d, .int .i64 h, .int .i64 mi, .int .i64 s, .int .i64 mc] 32)).alloc (.cells #[.int .u8 t, .bool un] 23) = w2 from hw2.symm)
    clear hw2 P0
    go_enter Tryz.func33, Tryz.ntmps33
    go_wp2_with (first | (go_at_call 71; rw [unhide HW]; (with_reducible refine (unhide cC _).mono ?_); rintro e wq ⟨rfl, b3⟩; have P2 := (unhide PP).later b3; clear b3 k0 k1 k2 k3 k4 k5 k6 k7 k8 k9 k10 k11 t0 t1; obtain ⟨k0, k1, k2, k3, k4, k5, k6, k7, k8, k9, k10, k11, t0, t1⟩ := P2.cells; have PP := hide P2; clear P2) | (go_at_call 72; (with_reducible show Calls _ _ #[.int .u64 _, .int .i64 1] _ _); (with_reducible refine (unhide cX _ (unhide PP)).mono ?_); rintro e wq ⟨rfl, P2⟩; clear k0 k1 k2 k3 k4 k5 k6 k7 k8 k9 k10 k11 t0 t1; obtain ⟨k0, k1, k2, k3, k4, k5, k6, k7, k8, k9, k10, k11, t0, t1⟩ := P2.cells; have PP := hide P2; clear P2) | (go_at_call 72; (with_reducible show Calls _ _ #[.int .u64 _, .int .i64 1] _ _); (with_reducible refine (unhide cX _ (unhide PP).drew).mono ?_); rintro e wq ⟨rfl, P2⟩; clear k0 k1 k2 k3 k4 k5 k6 k7 k8 k9 k10 k11 t0 t1; obtain ⟨k0, k1, k2, k3, k4, k5, k6, k7, k8, k9, k10, k11, t0, t1⟩ := P2.cells; have PP := hide P2; clear P2))
    go_ret2
    exact ⟨rfl, (unhide PP).bl⟩
  · have hdt := ok_date hO h5
    obtain ⟨hc, hy, hmo, hd⟩ := dt_bd hdt
    have hE : vaT v t = datT v.w t := by unfold vaT; rw [if_neg (by omega), if_neg (by omega), if_pos h5]
    rw [hE]
    have cK := hide (fun wx (hq : Pv w v t un wx) => (clockText_ref v.w wx hc).mono fun _ _ (q : _ ∧ _) => (show _ ∧ Pv w v t un _ from ⟨q.1, hq.later q.2⟩))
    have zM := minT_size v.w hv.w
    obtain ⟨hh, hmi, hs, hmc⟩ := (by unfold clk inr at hc; simpa only [Bool.and_eq_true, decide_eq_true_eq] using hc : (0 ≤ v.w.h ∧ v.w.h ≤ 23) ∧ (0 ≤ v.w.mi ∧ v.w.mi ≤ 59) ∧ (0 ≤ v.w.s ∧ v.w.s ≤ 59) ∧ (0 ≤ v.w.mc ∧ v.w.mc ≤ 999999))
    have e1 : tb (datT v.w t) = if t = 10 then tb (pad v.w.y 4) ++ tb [45] ++ tb (pad v.w.mo 2) ++ tb [45] ++ tb (pad v.w.d 2) else tb (pad v.w.y 4) ++ tb [45] ++ tb (pad v.w.mo 2) ++ tb [45] ++ tb (pad v.w.d 2) ++ tb [32] ++ tb (pad v.w.h 2) ++ tb ([58] ++ minT v.w) := by
      unfold datT dayT
      split <;> simp [tb_app]
    rw [e1]
    have zM : (tb ([58] ++ minT v.w)).size ≤ 101 := by rw [tb_size] at zM ⊢; simp; omega
    have cA := hide (unhide cD v.w.y 4 4 rfl ⟨by omega, by omega⟩ (by omega) (by omega))
    have cB := hide (unhide cD v.w.mo 2 2 rfl ⟨by omega, by omega⟩ (by omega) (by omega))
    have cE := hide (unhide cD v.w.d 2 2 rfl ⟨by omega, by omega⟩ (by omega) (by omega))
    have cH := hide (unhide cD v.w.h 2 2 rfl ⟨by omega, by omega⟩ (by omega) (by omega))
    have zA := pad_size v.w.y 4 ⟨by omega, by omega⟩
    have zB := pad_size v.w.mo 2 ⟨by omega, by omega⟩
    have zE := pad_size v.w.d 2 ⟨by omega, by omega⟩
    have zH := pad_size v.w.h 2 ⟨by omega, by omega⟩
    have x1 : IntKind.u64.wrap v.w.y = v.w.y := by rw [IntKind.wrap_u64]; omega
    have x2 : IntKind.u64.wrap v.w.mo = v.w.mo := by rw [IntKind.wrap_u64]; omega
    have x3 : IntKind.u64.wrap v.w.d = v.w.d := by rw [IntKind.wrap_u64]; omega
    have x4 : IntKind.u64.wrap v.w.h = v.w.h := by rw [IntKind.wrap_u64]; omega
    generalize tb (pad v.w.y 4) = SA at *
    generalize tb (pad v.w.mo 2) = SB at *
    generalize tb (pad v.w.d 2) = SE at *
    generalize tb (pad v.w.h 2) = SH at *
    generalize tb ([58] ++ minT v.w) = SM at *
    rw [show tb [45] = ⟨#[45]⟩ from rfl, show tb [32] = ⟨#[32]⟩ from rfl]
    obtain ⟨RES, hRES⟩ : ∃ z, z = if t = 10 then SA ++ ⟨#[45]⟩ ++ SB ++ ⟨#[45]⟩ ++ SE else SA ++ ⟨#[45]⟩ ++ SB ++ ⟨#[45]⟩ ++ SE ++ ⟨#[32]⟩ ++ SH ++ SM := ⟨_, rfl⟩
    rw [← hRES]
    have HR := hide hRES
    clear hRES
    clear hv q0 q1 hO hE cD e1 hdt hc hy hmo hd hh hmi hs hmc
    obtain ⟨k, i, b, tx, ⟨ng, y, mo, d, h, mi, s, mc⟩⟩ := v
    unfold vaC at cC ⊢
    unfold whC at cK
    simp only at *
    subst h5
    have u1 : ¬ 9223372036854775807 < SA.size + 1 := by omega
    have u2 : ¬ 9223372036854775807 < SA.size + 1 + SB.size := by omega
    have u3 : ¬ 9223372036854775807 < SA.size + 1 + SB.size + 1 := by omega
    have u4 : ¬ 9223372036854775807 < SA.size + 1 + SB.size + 1 + SE.size := by omega
    have u5 : ¬ 9223372036854775807 < SA.size + 1 + SB.size + 1 + SE.size + 1 := by omega
    have u6 : ¬ 9223372036854775807 < SA.size + 1 + SB.size + 1 + SE.size + 1 + SH.size := by omega
    have u7 : ¬ 9223372036854775807 < SA.size + 1 + SB.size + 1 + SE.size + 1 + SH.size + SM.size := by omega
    clear zA zB zE zH zM
    have PP := hide P0
    obtain ⟨k0, k1, k2, k3, k4, k5, k6, k7, k8, k9, k10, k11, t0, t1⟩ := P0.cells
    have HW := hide (show (w.alloc (.cells #[.int .i64 5, .int .i64 i, .int .u64 b, .string tx, .bool ng, .int .i64 y, .int .i64 mo, .int .i64 d, .int .i64 h, .int .i64 mi, .int .i64 s, .int .i64 mc] 32)).alloc (.cells #[.int .u8 t, .bool un] 23) = w2 from hw2.symm)
    clear hw2 P0
    go_enter Tryz.func33, Tryz.ntmps33
    go_upto_region 11 with (go_at_call 71; rw [unhide HW]; (with_reducible refine (unhide cC _).mono ?_); rintro e wq ⟨rfl, b3⟩; have P2 := (unhide PP).later b3; clear b3 k0 k1 k2 k3 k4 k5 k6 k7 k8 k9 k10 k11 t0 t1; obtain ⟨k0, k1, k2, k3, k4, k5, k6, k7, k8, k9, k10, k11, t0, t1⟩ := P2.cells; have PP := hide P2; clear P2)
    go_cut [6] (fun z wx => z = .string (SA ++ ⟨#[45]⟩ ++ SB ++ ⟨#[45]⟩ ++ SE) ∧ Pv w ⟨5, i, b, tx, ⟨ng, y, mo, d, h, mi, s, mc⟩⟩ t un wx)
    case first =>
      clear cH cK
      go_region_held3 (fun w' => w'.cell? ⟨w.heap.size, 0, none⟩ = some (.int .i64 5) ∧ w'.cell? ⟨w.heap.size, 1, none⟩ = some (.int .i64 i) ∧ w'.cell? ⟨w.heap.size, 2, none⟩ = some (.int .u64 b) ∧ w'.cell? ⟨w.heap.size, 3, none⟩ = some (.string tx) ∧ w'.cell? ⟨w.heap.size, 4, none⟩ = some (.bool ng) ∧ w'.cell? ⟨w.heap.size, 5, none⟩ = some (.int .i64 y) ∧ w'.cell? ⟨w.heap.size, 6, none⟩ = some (.int .i64 mo) ∧ w'.cell? ⟨w.heap.size, 7, none⟩ = some (.int .i64 d) ∧ w'.cell? ⟨w.heap.size, 8, none⟩ = some (.int .i64 h) ∧ w'.cell? ⟨w.heap.size, 9, none⟩ = some (.int .i64 mi) ∧ w'.cell? ⟨w.heap.size, 10, none⟩ = some (.int .i64 s) ∧ w'.cell? ⟨w.heap.size, 11, none⟩ = some (.int .i64 mc) ∧ w'.cell? ⟨w.heap.size + 1, 0, none⟩ = some (.int .u8 t) ∧ w'.cell? ⟨w.heap.size + 1, 1, none⟩ = some (.bool un)) (first | exact (unhide PP).cells | exact (unhide PP).drew.cells | go_keep) (first | (go_at_call 72; (with_reducible show Calls _ _ #[.int .u64 y, .int .i64 4] _ _); (with_reducible refine (unhide cA _ (unhide PP)).mono ?_); rintro e wq ⟨rfl, P2⟩; clear k0 k1 k2 k3 k4 k5 k6 k7 k8 k9 k10 k11 t0 t1; obtain ⟨k0, k1, k2, k3, k4, k5, k6, k7, k8, k9, k10, k11, t0, t1⟩ := P2.cells; have PP := hide P2; clear P2) | (go_at_call 72; (with_reducible show Calls _ _ #[.int .u64 y, .int .i64 4] _ _); (with_reducible refine (unhide cA _ (unhide PP).drew).mono ?_); rintro e wq ⟨rfl, P2⟩; clear k0 k1 k2 k3 k4 k5 k6 k7 k8 k9 k10 k11 t0 t1; obtain ⟨k0, k1, k2, k3, k4, k5, k6, k7, k8, k9, k10, k11, t0, t1⟩ := P2.cells; have PP := hide P2; clear P2) | (go_at_call 72; (with_reducible show Calls _ _ #[.int .u64 mo, .int .i64 2] _ _); (with_reducible refine (unhide cB _ (unhide PP)).mono ?_); rintro e wq ⟨rfl, P2⟩; clear k0 k1 k2 k3 k4 k5 k6 k7 k8 k9 k10 k11 t0 t1; obtain ⟨k0, k1, k2, k3, k4, k5, k6, k7, k8, k9, k10, k11, t0, t1⟩ := P2.cells; have PP := hide P2; clear P2) | (go_at_call 72; (with_reducible show Calls _ _ #[.int .u64 mo, .int .i64 2] _ _); (with_reducible refine (unhide cB _ (unhide PP).drew).mono ?_); rintro e wq ⟨rfl, P2⟩; clear k0 k1 k2 k3 k4 k5 k6 k7 k8 k9 k10 k11 t0 t1; obtain ⟨k0, k1, k2, k3, k4, k5, k6, k7, k8, k9, k10, k11, t0, t1⟩ := P2.cells; have PP := hide P2; clear P2) | (go_at_call 72; (with_reducible show Calls _ _ #[.int .u64 d, .int .i64 2] _ _); (with_reducible refine (unhide cE _ (unhide PP)).mono ?_); rintro e wq ⟨rfl, P2⟩; clear k0 k1 k2 k3 k4 k5 k6 k7 k8 k9 k10 k11 t0 t1; obtain ⟨k0, k1, k2, k3, k4, k5, k6, k7, k8, k9, k10, k11, t0, t1⟩ := P2.cells; have PP := hide P2; clear P2) | (go_at_call 72; (with_reducible show Calls _ _ #[.int .u64 d, .int .i64 2] _ _); (with_reducible refine (unhide cE _ (unhide PP).drew).mono ?_); rintro e wq ⟨rfl, P2⟩; clear k0 k1 k2 k3 k4 k5 k6 k7 k8 k9 k10 k11 t0 t1; obtain ⟨k0, k1, k2, k3, k4, k5, k6, k7, k8, k9, k10, k11, t0, t1⟩ := P2.cells; have PP := hide P2; clear P2))
      all_goals go_wp2_with fail
      all_goals go_meet
      all_goals exact ⟨rfl, unhide PP⟩
    obtain ⟨rfl, P2⟩ := hcut
    clear k0 k1 k2 k3 k4 k5 k6 k7 k8 k9 k10 k11 t0 t1 PP
    obtain ⟨k0, k1, k2, k3, k4, k5, k6, k7, k8, k9, k10, k11, t0, t1⟩ := P2.cells
    have PP := hide P2
    clear P2 cA cB cE
    by_cases hm : t = 10
    · subst hm
      have E := hide (show RES = SA ++ ⟨#[45]⟩ ++ SB ++ ⟨#[45]⟩ ++ SE by rw [unhide HR, if_pos rfl])
      clear HR
      go_wp2_with fail
      go_ret2
      exact ⟨by rw [unhide E] <;> rfl, (unhide PP).bl⟩
    · have E := hide (show RES = SA ++ ⟨#[45]⟩ ++ SB ++ ⟨#[45]⟩ ++ SE ++ ⟨#[32]⟩ ++ SH ++ SM by rw [unhide HR, if_neg hm])
      clear HR
      have hm2 : (t != 10) = true := by simpa using hm
      clear hm
      go_upto_region 13 with fail
      go_cut [6] (fun z wx => z = .string (SA ++ ⟨#[45]⟩ ++ SB ++ ⟨#[45]⟩ ++ SE ++ ⟨#[32]⟩ ++ SH ++ SM) ∧ Pv w ⟨5, i, b, tx, ⟨ng, y, mo, d, h, mi, s, mc⟩⟩ t un wx)
      case first =>
        go_region_held3 (fun w' => w'.cell? ⟨w.heap.size, 0, none⟩ = some (.int .i64 5) ∧ w'.cell? ⟨w.heap.size, 1, none⟩ = some (.int .i64 i) ∧ w'.cell? ⟨w.heap.size, 2, none⟩ = some (.int .u64 b) ∧ w'.cell? ⟨w.heap.size, 3, none⟩ = some (.string tx) ∧ w'.cell? ⟨w.heap.size, 4, none⟩ = some (.bool ng) ∧ w'.cell? ⟨w.heap.size, 5, none⟩ = some (.int .i64 y) ∧ w'.cell? ⟨w.heap.size, 6, none⟩ = some (.int .i64 mo) ∧ w'.cell? ⟨w.heap.size, 7, none⟩ = some (.int .i64 d) ∧ w'.cell? ⟨w.heap.size, 8, none⟩ = some (.int .i64 h) ∧ w'.cell? ⟨w.heap.size, 9, none⟩ = some (.int .i64 mi) ∧ w'.cell? ⟨w.heap.size, 10, none⟩ = some (.int .i64 s) ∧ w'.cell? ⟨w.heap.size, 11, none⟩ = some (.int .i64 mc) ∧ w'.cell? ⟨w.heap.size + 1, 0, none⟩ = some (.int .u8 t) ∧ w'.cell? ⟨w.heap.size + 1, 1, none⟩ = some (.bool un)) (first | exact (unhide PP).cells | exact (unhide PP).drew.cells | go_keep) (first | (go_at_call 72; (with_reducible show Calls _ _ #[.int .u64 h, .int .i64 2] _ _); (with_reducible refine (unhide cH _ (unhide PP)).mono ?_); rintro e wq ⟨rfl, P2⟩; clear k0 k1 k2 k3 k4 k5 k6 k7 k8 k9 k10 k11 t0 t1; obtain ⟨k0, k1, k2, k3, k4, k5, k6, k7, k8, k9, k10, k11, t0, t1⟩ := P2.cells; have PP := hide P2; clear P2) | (go_at_call 72; (with_reducible show Calls _ _ #[.int .u64 h, .int .i64 2] _ _); (with_reducible refine (unhide cH _ (unhide PP).drew).mono ?_); rintro e wq ⟨rfl, P2⟩; clear k0 k1 k2 k3 k4 k5 k6 k7 k8 k9 k10 k11 t0 t1; obtain ⟨k0, k1, k2, k3, k4, k5, k6, k7, k8, k9, k10, k11, t0, t1⟩ := P2.cells; have PP := hide P2; clear P2) | (go_at_call 73; (with_reducible show Calls _ _ #[.agg _] _ _); (with_reducible refine (unhide cK _ (unhide PP)).mono ?_); rintro e wq ⟨rfl, P2⟩; clear k0 k1 k2 k3 k4 k5 k6 k7 k8 k9 k10 k11 t0 t1; obtain ⟨k0, k1, k2, k3, k4, k5, k6, k7, k8, k9, k10, k11, t0, t1⟩ := P2.cells; have PP := hide P2; clear P2) | (go_at_call 73; (with_reducible show Calls _ _ #[.agg _] _ _); (with_reducible refine (unhide cK _ (unhide PP).drew).mono ?_); rintro e wq ⟨rfl, P2⟩; clear k0 k1 k2 k3 k4 k5 k6 k7 k8 k9 k10 k11 t0 t1; obtain ⟨k0, k1, k2, k3, k4, k5, k6, k7, k8, k9, k10, k11, t0, t1⟩ := P2.cells; have PP := hide P2; clear P2))
        all_goals go_wp2_with fail
        all_goals go_meet
        all_goals exact ⟨rfl, unhide PP⟩
      obtain ⟨rfl, P2⟩ := hcut
      clear k0 k1 k2 k3 k4 k5 k6 k7 k8 k9 k10 k11 t0 t1 PP
      have PP := hide P2
      clear P2
      go_wp2_with fail
      go_ret2
      exact ⟨by rw [unhide E] <;> rfl, (unhide PP).bl⟩
  · have htm := ok_time hO h6
    obtain ⟨hc, hd⟩ := tm_bd htm
    have hE : vaT v t = timT v.w := by unfold vaT; rw [if_neg (by omega), if_neg (by omega), if_neg (by omega), if_pos h6]
    rw [hE]
    have cK := hide (fun wx (hq : Pv w v t un wx) => (clockText_ref v.w wx hc).mono fun _ _ (q : _ ∧ _) => (show _ ∧ Pv w v t un _ from ⟨q.1, hq.later q.2⟩))
    have zM := minT_size v.w hv.w
    obtain ⟨hh, hmi, hs, hmc⟩ := (by unfold clk inr at hc; simpa only [Bool.and_eq_true, decide_eq_true_eq] using hc : (0 ≤ v.w.h ∧ v.w.h ≤ 23) ∧ (0 ≤ v.w.mi ∧ v.w.mi ≤ 59) ∧ (0 ≤ v.w.s ∧ v.w.s ≤ 59) ∧ (0 ≤ v.w.mc ∧ v.w.mc ≤ 999999))
    have e1 : tb (timT v.w) = if v.w.ng = true then tb [45] ++ (tb (pad (24 * v.w.d + v.w.h) 2) ++ tb ([58] ++ minT v.w)) else tb (pad (24 * v.w.d + v.w.h) 2) ++ tb ([58] ++ minT v.w) := by
      unfold timT
      split <;> simp [tb_app]
    rw [e1]
    have zM : (tb ([58] ++ minT v.w)).size ≤ 101 := by rw [tb_size] at zM ⊢; simp; omega
    have cA := hide (unhide cD (24 * v.w.d + v.w.h) 2 2 rfl ⟨by omega, by omega⟩ (by omega) (by omega))
    have zA := pad_size (24 * v.w.d + v.w.h) 2 ⟨by omega, by omega⟩
    have x1 : IntKind.i64.wrap (24 * v.w.d) = 24 * v.w.d := by rw [IntKind.wrap_i64]; omega
    have x2 : IntKind.i64.wrap (24 * v.w.d + v.w.h) = 24 * v.w.d + v.w.h := by rw [IntKind.wrap_i64]; omega
    have x3 : IntKind.u64.wrap (24 * v.w.d + v.w.h) = 24 * v.w.d + v.w.h := by rw [IntKind.wrap_u64]; omega
    have x4 : wrap64 (24 * v.w.d) = 24 * v.w.d := by unfold wrap64; omega
    have x5 : wrap64 (24 * v.w.d + v.w.h) = 24 * v.w.d + v.w.h := by unfold wrap64; omega
    generalize tb (pad (24 * v.w.d + v.w.h) 2) = SA at *
    generalize tb ([58] ++ minT v.w) = SM at *
    rw [show tb [45] = ⟨#[45]⟩ from rfl]
    obtain ⟨RES, hRES⟩ : ∃ z, z = if v.w.ng = true then (⟨#[45]⟩ : ByteArray) ++ (SA ++ SM) else SA ++ SM := ⟨_, rfl⟩
    rw [← hRES]
    have HR := hide hRES
    clear hRES
    clear hv q0 q1 hO hE cD e1 htm hc hd hh hmi hs hmc
    obtain ⟨k, i, b, tx, ⟨ng, y, mo, d, h, mi, s, mc⟩⟩ := v
    unfold vaC at cC ⊢
    unfold whC at cK
    simp only at *
    subst h6
    have u1 : ¬ 9223372036854775807 < SA.size + SM.size := by omega
    have u2 : ¬ 9223372036854775807 < 1 + (SA.size + SM.size) := by omega
    clear zA zM
    have PP := hide P0
    obtain ⟨k0, k1, k2, k3, k4, k5, k6, k7, k8, k9, k10, k11, t0, t1⟩ := P0.cells
    have HW := hide (show (w.alloc (.cells #[.int .i64 6, .int .i64 i, .int .u64 b, .string tx, .bool ng, .int .i64 y, .int .i64 mo, .int .i64 d, .int .i64 h, .int .i64 mi, .int .i64 s, .int .i64 mc] 32)).alloc (.cells #[.int .u8 t, .bool un] 23) = w2 from hw2.symm)
    clear hw2 P0
    go_enter Tryz.func33, Tryz.ntmps33
    go_upto_region 16 with (go_at_call 71; rw [unhide HW]; (with_reducible refine (unhide cC _).mono ?_); rintro e wq ⟨rfl, b3⟩; have P2 := (unhide PP).later b3; clear b3 k0 k1 k2 k3 k4 k5 k6 k7 k8 k9 k10 k11 t0 t1; obtain ⟨k0, k1, k2, k3, k4, k5, k6, k7, k8, k9, k10, k11, t0, t1⟩ := P2.cells; have PP := hide P2; clear P2)
    go_cut [7] (fun z wx => z = .string (SA ++ SM) ∧ Pv w ⟨6, i, b, tx, ⟨ng, y, mo, d, h, mi, s, mc⟩⟩ t un wx)
    case first =>
      go_region_held3 (fun w' => w'.cell? ⟨w.heap.size, 0, none⟩ = some (.int .i64 6) ∧ w'.cell? ⟨w.heap.size, 1, none⟩ = some (.int .i64 i) ∧ w'.cell? ⟨w.heap.size, 2, none⟩ = some (.int .u64 b) ∧ w'.cell? ⟨w.heap.size, 3, none⟩ = some (.string tx) ∧ w'.cell? ⟨w.heap.size, 4, none⟩ = some (.bool ng) ∧ w'.cell? ⟨w.heap.size, 5, none⟩ = some (.int .i64 y) ∧ w'.cell? ⟨w.heap.size, 6, none⟩ = some (.int .i64 mo) ∧ w'.cell? ⟨w.heap.size, 7, none⟩ = some (.int .i64 d) ∧ w'.cell? ⟨w.heap.size, 8, none⟩ = some (.int .i64 h) ∧ w'.cell? ⟨w.heap.size, 9, none⟩ = some (.int .i64 mi) ∧ w'.cell? ⟨w.heap.size, 10, none⟩ = some (.int .i64 s) ∧ w'.cell? ⟨w.heap.size, 11, none⟩ = some (.int .i64 mc) ∧ w'.cell? ⟨w.heap.size + 1, 0, none⟩ = some (.int .u8 t) ∧ w'.cell? ⟨w.heap.size + 1, 1, none⟩ = some (.bool un)) (first | exact (unhide PP).cells | exact (unhide PP).drew.cells | go_keep) (first | (go_at_call 72; (with_reducible show Calls _ _ #[.int .u64 _, .int .i64 2] _ _); (with_reducible refine (unhide cA _ (unhide PP)).mono ?_); rintro e wq ⟨rfl, P2⟩; clear k0 k1 k2 k3 k4 k5 k6 k7 k8 k9 k10 k11 t0 t1; obtain ⟨k0, k1, k2, k3, k4, k5, k6, k7, k8, k9, k10, k11, t0, t1⟩ := P2.cells; have PP := hide P2; clear P2) | (go_at_call 72; (with_reducible show Calls _ _ #[.int .u64 _, .int .i64 2] _ _); (with_reducible refine (unhide cA _ (unhide PP).drew).mono ?_); rintro e wq ⟨rfl, P2⟩; clear k0 k1 k2 k3 k4 k5 k6 k7 k8 k9 k10 k11 t0 t1; obtain ⟨k0, k1, k2, k3, k4, k5, k6, k7, k8, k9, k10, k11, t0, t1⟩ := P2.cells; have PP := hide P2; clear P2) | (go_at_call 73; (with_reducible show Calls _ _ #[.agg _] _ _); (with_reducible refine (unhide cK _ (unhide PP)).mono ?_); rintro e wq ⟨rfl, P2⟩; clear k0 k1 k2 k3 k4 k5 k6 k7 k8 k9 k10 k11 t0 t1; obtain ⟨k0, k1, k2, k3, k4, k5, k6, k7, k8, k9, k10, k11, t0, t1⟩ := P2.cells; have PP := hide P2; clear P2) | (go_at_call 73; (with_reducible show Calls _ _ #[.agg _] _ _); (with_reducible refine (unhide cK _ (unhide PP).drew).mono ?_); rintro e wq ⟨rfl, P2⟩; clear k0 k1 k2 k3 k4 k5 k6 k7 k8 k9 k10 k11 t0 t1; obtain ⟨k0, k1, k2, k3, k4, k5, k6, k7, k8, k9, k10, k11, t0, t1⟩ := P2.cells; have PP := hide P2; clear P2))
      all_goals go_wp2_with fail
      all_goals go_meet
      all_goals exact ⟨rfl, unhide PP⟩
    obtain ⟨rfl, P2⟩ := hcut
    clear k0 k1 k2 k3 k4 k5 k6 k7 k8 k9 k10 k11 t0 t1 PP cA cK
    obtain ⟨k0, k1, k2, k3, k4, k5, k6, k7, k8, k9, k10, k11, t0, t1⟩ := P2.cells
    have PP := hide P2
    clear P2
    cases ng
    · have E := hide (show RES = SA ++ SM by rw [unhide HR]; rfl)
      clear HR
      go_wp2_with fail
      go_ret2
      exact ⟨by rw [unhide E] <;> rfl, (unhide PP).bl⟩
    · have E := hide (show RES = (⟨#[45]⟩ : ByteArray) ++ (SA ++ SM) by rw [unhide HR]; rfl)
      clear HR
      go_wp2_with fail
      go_ret2
      exact ⟨by rw [unhide E] <;> rfl, (unhide PP).bl⟩
  · have hE : vaT v t = v.t.data.toList := by unfold vaT; rw [if_neg (by omega), if_neg (by omega), if_neg (by omega), if_neg (by omega)]
    rw [hE, tb_self]
    clear hv q0 q1 hO hE cD
    obtain ⟨k, i, b, tx, ⟨ng, y, mo, d, h, mi, s, mc⟩⟩ := v
    unfold vaC at cC ⊢
    simp only at *
    subst h7
    have PP := hide P0
    obtain ⟨k0, k1, k2, k3, k4, k5, k6, k7, k8, k9, k10, k11, t0, t1⟩ := P0.cells
    have HW := hide (show (w.alloc (.cells #[.int .i64 7, .int .i64 i, .int .u64 b, .string tx, .bool ng, .int .i64 y, .int .i64 mo, .int .i64 d, .int .i64 h, .int .i64 mi, .int .i64 s, .int .i64 mc] 32)).alloc (.cells #[.int .u8 t, .bool un] 23) = w2 from hw2.symm)
    clear hw2 P0
    go_enter Tryz.func33, Tryz.ntmps33
    go_wp2_with (go_at_call 71; rw [unhide HW]; (with_reducible refine (unhide cC _).mono ?_); rintro e wq ⟨rfl, b3⟩; have P2 := (unhide PP).later b3; clear b3 k0 k1 k2 k3 k4 k5 k6 k7 k8 k9 k10 k11 t0 t1; obtain ⟨k0, k1, k2, k3, k4, k5, k6, k7, k8, k9, k10, k11, t0, t1⟩ := P2.cells; have PP := hide P2; clear P2)
    go_ret2
    exact ⟨rfl, (unhide PP).bl⟩


end Go.Proofs.YtgldbainhncneaaGreatDoor
