/-
  The document's own answer for values: Append. It writes nothing that was there. Conditions: numbers within their kinds; lengths below 100,000.
-/
import Derived.Test.YtlicnhlgmnlaoaaVrChk
import Derived.Test.YtlicnhlgmnlaoaaVrMt
import Derived.Test.YtlicnhlgmnlaoaaVrMd
import Derived.Lib.EndianBits
namespace Go.Proofs.Ytlicnhlgmnlaoaa
open Go.RowKit
set_option linter.unusedVariables false
set_option linter.unusedSimpArgs false

theorem mask_u64 (X : Int) (i : Nat) (M : Int) (hM : (2 : Int) ^ i - 1 = M) (hi : i ≤ 64) (h0 : 0 ≤ X) (h1 : X < 18446744073709551616) : bits .and .u64 X M = X % 2 ^ i := by
  rw [← hM]
  exact bits_mask .u64 64 (by decide) wraps_u64 i hi X h0 h1
theorem vtext_rx (l : List Int) (s : ByteArray) (hn : l.length + s.size ≤ 1099511627776) (w : World) (ao : Option Addr) (n c : Nat) (h : Bs w ao n c l) :
    Calls Try.prog 24 #[.slice ao n c, .string s] w fun e w' => ∃ ao' n' c', e = .returned (.slice ao' n' c') ∧ Mine w.heap.size w' ao' n' c' (l ++ txB s) ∧ Below w.heap.size w w' :=
  (appendText_ref ao n c l s w h (by have := h.len; omega)).mono fun _ _ ⟨ao', c', e, hm, hb⟩ => ⟨ao', _, c', e, by unfold txB; rwa [← List.append_assoc], hb⟩
theorem mom_ref (bo : Option Addr) (bn bc : Nat) (b : List Int) (v : Va) (t : Int) (un : Bool) (w : World) (hb : Bs w bo bn bc b) (hsz : b.length ≤ 1000000) (hO : vOk v t un = true) (hk : v.k = 5 ∨ v.k = 6) :
    Calls Try.prog 47 #[.slice bo bn bc, .agg (whC v.w), .int .u8 t] w fun e w' => OutB w (b ++ vaB v t) e w' := by
  rcases hk with hk | hk
  · have h1 := ok_date hO hk
    have h2 : t ≠ 11 := by
      rcases (ok_cases hO).2 with q | ⟨_, q, _⟩
      · rw [q] at hk; exact absurd hk (by decide)
      · exact kd_t5 (un := un) (by omega)
    have e : vaB v t = cntB (datA v.w) (datN v.w) := by unfold vaB; rw [if_neg (by omega), if_neg (by omega), if_pos hk]
    rw [e]
    exact momd_ref bo bn bc b v.w t w hb hsz h1 h2
  · have h1 := ok_time hO hk
    have h2 : t = 11 := by
      rcases (ok_cases hO).2 with q | ⟨_, q, _⟩
      · rw [q] at hk; exact absurd hk (by decide)
      · exact kd_t6 (un := un) (by omega)
    subst h2
    have e : vaB v 11 = cntB (timA v.w) (timN v.w) := by unfold vaB; rw [if_neg (by omega), if_neg (by omega), if_neg (by omega), if_pos hk]
    rw [e]
    cases hg : v.w.ng
    · exact momt_false bo bn bc b v.w w hb hsz h1 hg
    · exact momt_true bo bn bc b v.w w hb hsz h1 hg

set_option maxHeartbeats 4000000 in
set_option maxRecDepth 100000 in
theorem vapp_ref (bo : Option Addr) (bn bc : Nat) (bb : List Int) (v : Va) (t : Int) (un : Bool) (w : World) (q0 : 0 ≤ t) (q1 : t < 256) (hv : VaK v) (hb : Bs w bo bn bc bb) (hsz : bb.length ≤ 1000000) (hts : v.t.size ≤ 1000000) :
    Calls Try.prog 27 #[.slice bo bn bc, .agg (vaC v), .agg #[.int .u8 t, .bool un]] w fun e w' => OutP w (if bOk v t un = true then some (bb ++ vaB v t) else none) e w' := by
  have P0 := Pv.box w v t un
  obtain ⟨w2, hw2⟩ : ∃ z, z = (w.alloc (.cells (vaC v) 44)).alloc (.cells #[.int .u8 t, .bool un] 46) := ⟨_, rfl⟩
  rw [← hw2] at P0
  have hbl := hb.len
  have cC := hide (fun wx => check_ref v t un wx q0 q1 hv)
  have cS := hide (fun wx => vsize_ref t wx)
  have HB0 := hide hb
  cases hO : vOk v t un
  · have e0 : bOk v t un = false := by unfold bOk; rw [hO]; rfl
    rw [e0, if_neg (by decide)]
    rw [hO, if_neg (by decide)] at cC
    clear hv q0 q1 hO hts hsz hb hbl cS e0
    obtain ⟨k, i, b, tx, ⟨ng, y, mo, d, h, mi, s, mc⟩⟩ := v
    unfold vaC at cC ⊢
    simp only at *
    have PP := hide P0
    obtain ⟨k0, k1, k2, k3, k4, k5, k6, k7, k8, k9, k10, k11, t0, t1⟩ := P0.cells
    have HW := hide (show (w.alloc (.cells #[.int .i64 k, .int .i64 i, .int .u64 b, .string tx, .bool ng, .int .i64 y, .int .i64 mo, .int .i64 d, .int .i64 h, .int .i64 mi, .int .i64 s, .int .i64 mc] 44)).alloc (.cells #[.int .u8 t, .bool un] 46) = w2 from hw2.symm)
    clear hw2 P0
    go_enter Try.func27, Try.ntmps27
    go_wp2_with (go_at_call 22; rw [unhide HW]; (with_reducible refine (unhide cC _).mono ?_); rintro e w3 ⟨rfl, b3⟩; have P2 := (unhide PP).later b3; clear b3 k0 k1 k2 k3 k4 k5 k6 k7 k8 k9 k10 k11 t0 t1; obtain ⟨k0, k1, k2, k3, k4, k5, k6, k7, k8, k9, k10, k11, t0, t1⟩ := P2.cells; have PQ := hide P2; have HBB := hide ((unhide HB0).later P2.bl); clear P2)
    go_ret2
    exact ⟨rfl, (unhide PQ).bl⟩
  rw [hO, if_pos rfl] at cC
  by_cases hn : v.k = 0 ∧ t ≠ 6
  · obtain ⟨h0, h6⟩ := hn
    have e0 : bOk v t un = false := by unfold bOk; simp [h0, h6]
    rw [e0, if_neg (by decide)]
    have g0 : (v.k == 0) = true := by simpa using h0
    have g6 : (t != 6) = true := by simpa using h6
    clear hv q0 q1 hO hts hsz hb hbl cS e0 h0 h6
    obtain ⟨k, i, b, tx, ⟨ng, y, mo, d, h, mi, s, mc⟩⟩ := v
    unfold vaC at cC ⊢
    simp only at *
    have PP := hide P0
    obtain ⟨k0, k1, k2, k3, k4, k5, k6, k7, k8, k9, k10, k11, t0, t1⟩ := P0.cells
    have HW := hide (show (w.alloc (.cells #[.int .i64 k, .int .i64 i, .int .u64 b, .string tx, .bool ng, .int .i64 y, .int .i64 mo, .int .i64 d, .int .i64 h, .int .i64 mi, .int .i64 s, .int .i64 mc] 44)).alloc (.cells #[.int .u8 t, .bool un] 46) = w2 from hw2.symm)
    clear hw2 P0
    go_enter Try.func27, Try.ntmps27
    go_wp2_with (go_at_call 22; rw [unhide HW]; (with_reducible refine (unhide cC _).mono ?_); rintro e w3 ⟨rfl, b3⟩; have P2 := (unhide PP).later b3; clear b3 k0 k1 k2 k3 k4 k5 k6 k7 k8 k9 k10 k11 t0 t1; obtain ⟨k0, k1, k2, k3, k4, k5, k6, k7, k8, k9, k10, k11, t0, t1⟩ := P2.cells; have PQ := hide P2; have HBB := hide ((unhide HB0).later P2.bl); clear P2)
    go_ret2
    exact ⟨rfl, (unhide PQ).bl⟩
  have e0 : bOk v t un = true := by
    unfold bOk
    rw [hO, Bool.true_and]
    by_cases h0 : v.k = 0
    · have h6 : t = 6 := by by_cases z : t = 6; exact z; exact absurd ⟨h0, z⟩ hn
      simp [h6]
    · simp [h0]
  rw [e0, if_pos rfl]
  unfold OutP
  simp only
  have hk8 : v.k = 0 ∨ v.k = 1 ∨ (v.k = 2 ∨ v.k = 3 ∨ v.k = 4) ∨ (v.k = 5 ∨ v.k = 6) ∨ v.k = 7 := by
    rcases (ok_cases hO) with ⟨q, z | ⟨_, z, _⟩⟩
    · rw [z]; left; rfl
    · rcases kd_cases t un with y | y | y | y | y | y | y | y | y <;> omega
  clear e0
  rcases hk8 with h0 | h1 | h2 | h5 | h7
  · have h6 : t = 6 := by by_cases z : t = 6; exact z; exact absurd ⟨h0, z⟩ hn
    subst h6
    have hE : vaB v 6 = [] := by unfold vaB; simp [h0]
    rw [hE, List.append_nil]
    clear hv q0 q1 hO hts hb hn hE
    obtain ⟨k, i, b, tx, ⟨ng, y, mo, d, h, mi, s, mc⟩⟩ := v
    unfold vaC at cC ⊢
    simp only at *
    subst h0
    have PP := hide P0
    obtain ⟨k0, k1, k2, k3, k4, k5, k6, k7, k8, k9, k10, k11, t0, t1⟩ := P0.cells
    have HW := hide (show (w.alloc (.cells #[.int .i64 0, .int .i64 i, .int .u64 b, .string tx, .bool ng, .int .i64 y, .int .i64 mo, .int .i64 d, .int .i64 h, .int .i64 mi, .int .i64 s, .int .i64 mc] 44)).alloc (.cells #[.int .u8 6, .bool un] 46) = w2 from hw2.symm)
    clear hw2 P0
    go_enter Try.func27, Try.ntmps27
    go_wp2_with (first | (go_at_call 22; rw [unhide HW]; (with_reducible refine (unhide cC _).mono ?_); rintro e w3 ⟨rfl, b3⟩; have P2 := (unhide PP).later b3; clear b3 k0 k1 k2 k3 k4 k5 k6 k7 k8 k9 k10 k11 t0 t1; obtain ⟨k0, k1, k2, k3, k4, k5, k6, k7, k8, k9, k10, k11, t0, t1⟩ := P2.cells; have PQ := hide P2; have HBB := hide ((unhide HB0).later P2.bl); clear P2) | (go_at_call 43; (with_reducible refine same_world (unhide cS _) ?_)) | (at_builtin; refine wpList_app rfl (.tmp 73) (.tmp 74) rfl w3.heap.size _ 0 0 [] rfl (Mine.empty w3) bo bn bc bb rfl ((unhide HBB).later (below_alloc _ _)) (by omega) (by simp) ?_; intro oa ca wa ma ba; rw [List.nil_append, Nat.zero_add] at ma; have MA := hide ma; have BA := hide ((below_alloc w3 _).trans ba); clear ma ba))
    go_ret2
    exact ⟨_, _, _, rfl, (unhide MA).mono (unhide PQ).bl.size, (unhide PQ).bl.trans ((unhide BA).mono (unhide PQ).bl.size)⟩
  · have hs := ok_num hO h1
    have hq : kdV t un = 1 := by
      rcases (ok_cases hO).2 with z | ⟨_, z, _⟩
      · rw [z] at h1; exact absurd h1 (by decide)
      · omega
    have hV : szP t = szV t := kd_sz (.inl hq)
    have hE : vaB v t = le (uns (v.i % 18446744073709551616) (szP t)) (szP t).toNat := by unfold vaB; rw [if_pos h1]
    rw [hE]
    rw [hV] at hs ⊢
    have hi := hv.i
    have hX : IntKind.u64.wrap v.i = v.i % 18446744073709551616 := by rw [IntKind.wrap_u64]
    have hX0 : 0 ≤ v.i % 18446744073709551616 := Int.emod_nonneg _ (by decide)
    have hX1 : v.i % 18446744073709551616 < 18446744073709551616 := Int.emod_lt_of_pos _ (by decide)
    generalize v.i % 18446744073709551616 = X at *
    generalize szV t = SZ at *
    clear hv q0 q1 hO hts hb hn hE hV hq hi
    obtain ⟨k, i, b, tx, ⟨ng, y, mo, d, h, mi, s, mc⟩⟩ := v
    unfold vaC at cC ⊢
    simp only at *
    subst h1
    rcases hs with hs | hs | hs | hs
    · subst hs
      have cR := hide (fun wx ao m c (hx : Bs wx ao m c bb) => vfix_rx bb (uns X 1) (X % 256) 1 1 256 rfl rfl ⟨by unfold uns; simp; omega, by unfold uns; simp; omega⟩ (by decide) (by decide) (by decide) (by decide) (by omega) wx ao m c hx)
      have z1 : IntKind.u64.wrap (wrap64 8) = 8 := by kernel_rfl
      have z2 : IntKind.u64.wrap 256 = 256 := by kernel_rfl
      have z3 : IntKind.u64.wrap 255 = 255 := by kernel_rfl
      have z4 : bits .and .u64 X 255 = X % 256 := mask_u64 X 8 255 (by decide) (by decide) hX0 hX1
      have PP := hide P0
      obtain ⟨k0, k1, k2, k3, k4, k5, k6, k7, k8, k9, k10, k11, t0, t1⟩ := P0.cells
      have HW := hide (show (w.alloc (.cells #[.int .i64 1, .int .i64 i, .int .u64 b, .string tx, .bool ng, .int .i64 y, .int .i64 mo, .int .i64 d, .int .i64 h, .int .i64 mi, .int .i64 s, .int .i64 mc] 44)).alloc (.cells #[.int .u8 t, .bool un] 46) = w2 from hw2.symm)
      clear hw2 P0
      go_enter Try.func27, Try.ntmps27
      go_wp2_with (first | (go_at_call 22; rw [unhide HW]; (with_reducible refine (unhide cC _).mono ?_); rintro e w3 ⟨rfl, b3⟩; have P2 := (unhide PP).later b3; clear b3 k0 k1 k2 k3 k4 k5 k6 k7 k8 k9 k10 k11 t0 t1; obtain ⟨k0, k1, k2, k3, k4, k5, k6, k7, k8, k9, k10, k11, t0, t1⟩ := P2.cells; have PQ := hide P2; have HBB := hide ((unhide HB0).later P2.bl); clear P2) | (go_at_call 43; (with_reducible refine same_world (unhide cS _) ?_)) | (go_at_call 46; (with_reducible refine (unhide cR w3 bo bn bc (unhide HBB)).mono ?_); rintro e wr ⟨ao, n, c, rfl, mr, br⟩; have MR := hide mr; have BR := hide br; clear mr br))
      go_ret2
      exact ⟨_, _, _, rfl, (unhide MR).mono (unhide PQ).bl.size, (unhide PQ).bl.trans ((unhide BR).mono (unhide PQ).bl.size)⟩
    · subst hs
      have cR := hide (fun wx ao m c (hx : Bs wx ao m c bb) => vfix_rx bb (uns X 2) (X % 65536) 2 2 65536 rfl rfl ⟨by unfold uns; simp; omega, by unfold uns; simp; omega⟩ (by decide) (by decide) (by decide) (by decide) (by omega) wx ao m c hx)
      have z1 : IntKind.u64.wrap (wrap64 16) = 16 := by kernel_rfl
      have z2 : IntKind.u64.wrap 65536 = 65536 := by kernel_rfl
      have z3 : IntKind.u64.wrap 65535 = 65535 := by kernel_rfl
      have z4 : bits .and .u64 X 65535 = X % 65536 := mask_u64 X 16 65535 (by decide) (by decide) hX0 hX1
      have PP := hide P0
      obtain ⟨k0, k1, k2, k3, k4, k5, k6, k7, k8, k9, k10, k11, t0, t1⟩ := P0.cells
      have HW := hide (show (w.alloc (.cells #[.int .i64 1, .int .i64 i, .int .u64 b, .string tx, .bool ng, .int .i64 y, .int .i64 mo, .int .i64 d, .int .i64 h, .int .i64 mi, .int .i64 s, .int .i64 mc] 44)).alloc (.cells #[.int .u8 t, .bool un] 46) = w2 from hw2.symm)
      clear hw2 P0
      go_enter Try.func27, Try.ntmps27
      go_wp2_with (first | (go_at_call 22; rw [unhide HW]; (with_reducible refine (unhide cC _).mono ?_); rintro e w3 ⟨rfl, b3⟩; have P2 := (unhide PP).later b3; clear b3 k0 k1 k2 k3 k4 k5 k6 k7 k8 k9 k10 k11 t0 t1; obtain ⟨k0, k1, k2, k3, k4, k5, k6, k7, k8, k9, k10, k11, t0, t1⟩ := P2.cells; have PQ := hide P2; have HBB := hide ((unhide HB0).later P2.bl); clear P2) | (go_at_call 43; (with_reducible refine same_world (unhide cS _) ?_)) | (go_at_call 46; (with_reducible refine (unhide cR w3 bo bn bc (unhide HBB)).mono ?_); rintro e wr ⟨ao, n, c, rfl, mr, br⟩; have MR := hide mr; have BR := hide br; clear mr br))
      go_ret2
      exact ⟨_, _, _, rfl, (unhide MR).mono (unhide PQ).bl.size, (unhide PQ).bl.trans ((unhide BR).mono (unhide PQ).bl.size)⟩
    · subst hs
      have cR := hide (fun wx ao m c (hx : Bs wx ao m c bb) => vfix_rx bb (uns X 4) (X % 4294967296) 4 4 4294967296 rfl rfl ⟨by unfold uns; simp; omega, by unfold uns; simp; omega⟩ (by decide) (by decide) (by decide) (by decide) (by omega) wx ao m c hx)
      have z1 : IntKind.u64.wrap (wrap64 32) = 32 := by kernel_rfl
      have z2 : IntKind.u64.wrap 4294967296 = 4294967296 := by kernel_rfl
      have z3 : IntKind.u64.wrap 4294967295 = 4294967295 := by kernel_rfl
      have z4 : bits .and .u64 X 4294967295 = X % 4294967296 := mask_u64 X 32 4294967295 (by decide) (by decide) hX0 hX1
      have PP := hide P0
      obtain ⟨k0, k1, k2, k3, k4, k5, k6, k7, k8, k9, k10, k11, t0, t1⟩ := P0.cells
      have HW := hide (show (w.alloc (.cells #[.int .i64 1, .int .i64 i, .int .u64 b, .string tx, .bool ng, .int .i64 y, .int .i64 mo, .int .i64 d, .int .i64 h, .int .i64 mi, .int .i64 s, .int .i64 mc] 44)).alloc (.cells #[.int .u8 t, .bool un] 46) = w2 from hw2.symm)
      clear hw2 P0
      go_enter Try.func27, Try.ntmps27
      go_wp2_with (first | (go_at_call 22; rw [unhide HW]; (with_reducible refine (unhide cC _).mono ?_); rintro e w3 ⟨rfl, b3⟩; have P2 := (unhide PP).later b3; clear b3 k0 k1 k2 k3 k4 k5 k6 k7 k8 k9 k10 k11 t0 t1; obtain ⟨k0, k1, k2, k3, k4, k5, k6, k7, k8, k9, k10, k11, t0, t1⟩ := P2.cells; have PQ := hide P2; have HBB := hide ((unhide HB0).later P2.bl); clear P2) | (go_at_call 43; (with_reducible refine same_world (unhide cS _) ?_)) | (go_at_call 46; (with_reducible refine (unhide cR w3 bo bn bc (unhide HBB)).mono ?_); rintro e wr ⟨ao, n, c, rfl, mr, br⟩; have MR := hide mr; have BR := hide br; clear mr br))
      go_ret2
      exact ⟨_, _, _, rfl, (unhide MR).mono (unhide PQ).bl.size, (unhide PQ).bl.trans ((unhide BR).mono (unhide PQ).bl.size)⟩
    · subst hs
      have cR := hide (fun wx ao m c (hx : Bs wx ao m c bb) => vfix_rx bb (uns X 8) (X) 8 8 18446744073709551616 rfl rfl ⟨by unfold uns; simp; omega, by unfold uns; simp; omega⟩ (by decide) (by decide) (by decide) (by decide) (by omega) wx ao m c hx)
      have PP := hide P0
      obtain ⟨k0, k1, k2, k3, k4, k5, k6, k7, k8, k9, k10, k11, t0, t1⟩ := P0.cells
      have HW := hide (show (w.alloc (.cells #[.int .i64 1, .int .i64 i, .int .u64 b, .string tx, .bool ng, .int .i64 y, .int .i64 mo, .int .i64 d, .int .i64 h, .int .i64 mi, .int .i64 s, .int .i64 mc] 44)).alloc (.cells #[.int .u8 t, .bool un] 46) = w2 from hw2.symm)
      clear hw2 P0
      go_enter Try.func27, Try.ntmps27
      go_wp2_with (first | (go_at_call 22; rw [unhide HW]; (with_reducible refine (unhide cC _).mono ?_); rintro e w3 ⟨rfl, b3⟩; have P2 := (unhide PP).later b3; clear b3 k0 k1 k2 k3 k4 k5 k6 k7 k8 k9 k10 k11 t0 t1; obtain ⟨k0, k1, k2, k3, k4, k5, k6, k7, k8, k9, k10, k11, t0, t1⟩ := P2.cells; have PQ := hide P2; have HBB := hide ((unhide HB0).later P2.bl); clear P2) | (go_at_call 43; (with_reducible refine same_world (unhide cS _) ?_)) | (go_at_call 46; (with_reducible refine (unhide cR w3 bo bn bc (unhide HBB)).mono ?_); rintro e wr ⟨ao, n, c, rfl, mr, br⟩; have MR := hide mr; have BR := hide br; clear mr br))
      go_ret2
      exact ⟨_, _, _, rfl, (unhide MR).mono (unhide PQ).bl.size, (unhide PQ).bl.trans ((unhide BR).mono (unhide PQ).bl.size)⟩
  · obtain ⟨hs, hb0, hb1⟩ := ok_bits hv hO h2
    have hq : kdV t un = v.k := by
      rcases (ok_cases hO).2 with z | ⟨_, z, _⟩
      · rw [z] at h2; exact absurd h2 (by decide)
      · omega
    have hV : szP t = szV t := kd_sz (un := un) (by omega)
    have hE : vaB v t = le v.b (szP t).toNat := by unfold vaB; rw [if_neg (by omega), if_pos h2]
    rw [hE]
    rw [hV] at hs hb1 ⊢
    have cR := hide (fun wx ao m c (hx : Bs wx ao m c bb) => vfix_rx bb v.b v.b (szV t).toNat (szV t) _ rfl (by omega) ⟨hb0, hb1⟩ rfl (by rcases hs with q | q | q | q <;> rw [q] <;> decide) (by omega) (by omega) (by omega) wx ao m c hx)
    generalize szV t = SZ at *
    clear hv q0 q1 hO hts hb hn hE hV hq hs hb0 hb1
    obtain ⟨k, i, b, tx, ⟨ng, y, mo, d, h, mi, s, mc⟩⟩ := v
    unfold vaC at cC ⊢
    simp only at *
    rcases h2 with h2 | h2 | h2
    · subst h2
      have PP := hide P0
      obtain ⟨k0, k1, k2, k3, k4, k5, k6, k7, k8, k9, k10, k11, t0, t1⟩ := P0.cells
      have HW := hide (show (w.alloc (.cells #[.int .i64 2, .int .i64 i, .int .u64 b, .string tx, .bool ng, .int .i64 y, .int .i64 mo, .int .i64 d, .int .i64 h, .int .i64 mi, .int .i64 s, .int .i64 mc] 44)).alloc (.cells #[.int .u8 t, .bool un] 46) = w2 from hw2.symm)
      clear hw2 P0
      go_enter Try.func27, Try.ntmps27
      go_wp2_with (first | (go_at_call 22; rw [unhide HW]; (with_reducible refine (unhide cC _).mono ?_); rintro e w3 ⟨rfl, b3⟩; have P2 := (unhide PP).later b3; clear b3 k0 k1 k2 k3 k4 k5 k6 k7 k8 k9 k10 k11 t0 t1; obtain ⟨k0, k1, k2, k3, k4, k5, k6, k7, k8, k9, k10, k11, t0, t1⟩ := P2.cells; have PQ := hide P2; have HBB := hide ((unhide HB0).later P2.bl); clear P2) | (go_at_call 43; (with_reducible refine same_world (unhide cS _) ?_)) | (go_at_call 46; (with_reducible refine (unhide cR w3 bo bn bc (unhide HBB)).mono ?_); rintro e wr ⟨ao, n, c, rfl, mr, br⟩; have MR := hide mr; have BR := hide br; clear mr br))
      go_ret2
      exact ⟨_, _, _, rfl, (unhide MR).mono (unhide PQ).bl.size, (unhide PQ).bl.trans ((unhide BR).mono (unhide PQ).bl.size)⟩
    · subst h2
      have PP := hide P0
      obtain ⟨k0, k1, k2, k3, k4, k5, k6, k7, k8, k9, k10, k11, t0, t1⟩ := P0.cells
      have HW := hide (show (w.alloc (.cells #[.int .i64 3, .int .i64 i, .int .u64 b, .string tx, .bool ng, .int .i64 y, .int .i64 mo, .int .i64 d, .int .i64 h, .int .i64 mi, .int .i64 s, .int .i64 mc] 44)).alloc (.cells #[.int .u8 t, .bool un] 46) = w2 from hw2.symm)
      clear hw2 P0
      go_enter Try.func27, Try.ntmps27
      go_wp2_with (first | (go_at_call 22; rw [unhide HW]; (with_reducible refine (unhide cC _).mono ?_); rintro e w3 ⟨rfl, b3⟩; have P2 := (unhide PP).later b3; clear b3 k0 k1 k2 k3 k4 k5 k6 k7 k8 k9 k10 k11 t0 t1; obtain ⟨k0, k1, k2, k3, k4, k5, k6, k7, k8, k9, k10, k11, t0, t1⟩ := P2.cells; have PQ := hide P2; have HBB := hide ((unhide HB0).later P2.bl); clear P2) | (go_at_call 43; (with_reducible refine same_world (unhide cS _) ?_)) | (go_at_call 46; (with_reducible refine (unhide cR w3 bo bn bc (unhide HBB)).mono ?_); rintro e wr ⟨ao, n, c, rfl, mr, br⟩; have MR := hide mr; have BR := hide br; clear mr br))
      go_ret2
      exact ⟨_, _, _, rfl, (unhide MR).mono (unhide PQ).bl.size, (unhide PQ).bl.trans ((unhide BR).mono (unhide PQ).bl.size)⟩
    · subst h2
      have PP := hide P0
      obtain ⟨k0, k1, k2, k3, k4, k5, k6, k7, k8, k9, k10, k11, t0, t1⟩ := P0.cells
      have HW := hide (show (w.alloc (.cells #[.int .i64 4, .int .i64 i, .int .u64 b, .string tx, .bool ng, .int .i64 y, .int .i64 mo, .int .i64 d, .int .i64 h, .int .i64 mi, .int .i64 s, .int .i64 mc] 44)).alloc (.cells #[.int .u8 t, .bool un] 46) = w2 from hw2.symm)
      clear hw2 P0
      go_enter Try.func27, Try.ntmps27
      go_wp2_with (first | (go_at_call 22; rw [unhide HW]; (with_reducible refine (unhide cC _).mono ?_); rintro e w3 ⟨rfl, b3⟩; have P2 := (unhide PP).later b3; clear b3 k0 k1 k2 k3 k4 k5 k6 k7 k8 k9 k10 k11 t0 t1; obtain ⟨k0, k1, k2, k3, k4, k5, k6, k7, k8, k9, k10, k11, t0, t1⟩ := P2.cells; have PQ := hide P2; have HBB := hide ((unhide HB0).later P2.bl); clear P2) | (go_at_call 43; (with_reducible refine same_world (unhide cS _) ?_)) | (go_at_call 46; (with_reducible refine (unhide cR w3 bo bn bc (unhide HBB)).mono ?_); rintro e wr ⟨ao, n, c, rfl, mr, br⟩; have MR := hide mr; have BR := hide br; clear mr br))
      go_ret2
      exact ⟨_, _, _, rfl, (unhide MR).mono (unhide PQ).bl.size, (unhide PQ).bl.trans ((unhide BR).mono (unhide PQ).bl.size)⟩
  · have cR := hide (fun wx ao m c (hx : Bs wx ao m c bb) => mom_ref ao m c bb v t un wx hx (by omega) hO h5)
    unfold OutB at cR
    generalize vaB v t = LR at *
    clear hv q0 q1 hO hts hb hn
    obtain ⟨k, i, b, tx, ⟨ng, y, mo, d, h, mi, s, mc⟩⟩ := v
    unfold vaC at cC ⊢
    unfold whC at cR
    simp only at *
    rcases h5 with h5 | h5
    · subst h5
      have PP := hide P0
      obtain ⟨k0, k1, k2, k3, k4, k5, k6, k7, k8, k9, k10, k11, t0, t1⟩ := P0.cells
      have HW := hide (show (w.alloc (.cells #[.int .i64 5, .int .i64 i, .int .u64 b, .string tx, .bool ng, .int .i64 y, .int .i64 mo, .int .i64 d, .int .i64 h, .int .i64 mi, .int .i64 s, .int .i64 mc] 44)).alloc (.cells #[.int .u8 t, .bool un] 46) = w2 from hw2.symm)
      clear hw2 P0
      go_enter Try.func27, Try.ntmps27
      go_wp2_with (first | (go_at_call 22; rw [unhide HW]; (with_reducible refine (unhide cC _).mono ?_); rintro e w3 ⟨rfl, b3⟩; have P2 := (unhide PP).later b3; clear b3 k0 k1 k2 k3 k4 k5 k6 k7 k8 k9 k10 k11 t0 t1; obtain ⟨k0, k1, k2, k3, k4, k5, k6, k7, k8, k9, k10, k11, t0, t1⟩ := P2.cells; have PQ := hide P2; have HBB := hide ((unhide HB0).later P2.bl); clear P2) | (go_at_call 43; (with_reducible refine same_world (unhide cS _) ?_)) | (go_at_call 47; (with_reducible refine (unhide cR w3 bo bn bc (unhide HBB)).mono ?_); rintro e wr ⟨ao, n, c, rfl, mr, br⟩; have MR := hide mr; have BR := hide br; clear mr br))
      go_ret2
      exact ⟨_, _, _, rfl, (unhide MR).mono (unhide PQ).bl.size, (unhide PQ).bl.trans ((unhide BR).mono (unhide PQ).bl.size)⟩
    · subst h5
      have PP := hide P0
      obtain ⟨k0, k1, k2, k3, k4, k5, k6, k7, k8, k9, k10, k11, t0, t1⟩ := P0.cells
      have HW := hide (show (w.alloc (.cells #[.int .i64 6, .int .i64 i, .int .u64 b, .string tx, .bool ng, .int .i64 y, .int .i64 mo, .int .i64 d, .int .i64 h, .int .i64 mi, .int .i64 s, .int .i64 mc] 44)).alloc (.cells #[.int .u8 t, .bool un] 46) = w2 from hw2.symm)
      clear hw2 P0
      go_enter Try.func27, Try.ntmps27
      go_wp2_with (first | (go_at_call 22; rw [unhide HW]; (with_reducible refine (unhide cC _).mono ?_); rintro e w3 ⟨rfl, b3⟩; have P2 := (unhide PP).later b3; clear b3 k0 k1 k2 k3 k4 k5 k6 k7 k8 k9 k10 k11 t0 t1; obtain ⟨k0, k1, k2, k3, k4, k5, k6, k7, k8, k9, k10, k11, t0, t1⟩ := P2.cells; have PQ := hide P2; have HBB := hide ((unhide HB0).later P2.bl); clear P2) | (go_at_call 43; (with_reducible refine same_world (unhide cS _) ?_)) | (go_at_call 47; (with_reducible refine (unhide cR w3 bo bn bc (unhide HBB)).mono ?_); rintro e wr ⟨ao, n, c, rfl, mr, br⟩; have MR := hide mr; have BR := hide br; clear mr br))
      go_ret2
      exact ⟨_, _, _, rfl, (unhide MR).mono (unhide PQ).bl.size, (unhide PQ).bl.trans ((unhide BR).mono (unhide PQ).bl.size)⟩
  · have hE : vaB v t = txB v.t := by unfold vaB; rw [if_neg (by omega), if_neg (by omega), if_neg (by omega), if_neg (by omega), if_pos h7]
    rw [hE]
    have cR := hide (fun wx ao m c (hx : Bs wx ao m c bb) => vtext_rx bb v.t (by omega) wx ao m c hx)
    clear hv q0 q1 hO hts hb hn hE
    obtain ⟨k, i, b, tx, ⟨ng, y, mo, d, h, mi, s, mc⟩⟩ := v
    unfold vaC at cC ⊢
    simp only at *
    subst h7
    have PP := hide P0
    obtain ⟨k0, k1, k2, k3, k4, k5, k6, k7, k8, k9, k10, k11, t0, t1⟩ := P0.cells
    have HW := hide (show (w.alloc (.cells #[.int .i64 7, .int .i64 i, .int .u64 b, .string tx, .bool ng, .int .i64 y, .int .i64 mo, .int .i64 d, .int .i64 h, .int .i64 mi, .int .i64 s, .int .i64 mc] 44)).alloc (.cells #[.int .u8 t, .bool un] 46) = w2 from hw2.symm)
    clear hw2 P0
    go_enter Try.func27, Try.ntmps27
    go_wp2_with (first | (go_at_call 22; rw [unhide HW]; (with_reducible refine (unhide cC _).mono ?_); rintro e w3 ⟨rfl, b3⟩; have P2 := (unhide PP).later b3; clear b3 k0 k1 k2 k3 k4 k5 k6 k7 k8 k9 k10 k11 t0 t1; obtain ⟨k0, k1, k2, k3, k4, k5, k6, k7, k8, k9, k10, k11, t0, t1⟩ := P2.cells; have PQ := hide P2; have HBB := hide ((unhide HB0).later P2.bl); clear P2) | (go_at_call 43; (with_reducible refine same_world (unhide cS _) ?_)) | (go_at_call 24; (with_reducible refine (unhide cR w3 bo bn bc (unhide HBB)).mono ?_); rintro e wr ⟨ao, n, c, rfl, mr, br⟩; have MR := hide mr; have BR := hide br; clear mr br))
    go_ret2
    exact ⟨_, _, _, rfl, (unhide MR).mono (unhide PQ).bl.size, (unhide PQ).bl.trans ((unhide BR).mono (unhide PQ).bl.size)⟩


end Go.Proofs.Ytlicnhlgmnlaoaa
