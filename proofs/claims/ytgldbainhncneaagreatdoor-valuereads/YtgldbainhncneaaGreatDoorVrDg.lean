/-
  The document's own answer for values: digits and clockText. They write nothing that was there. Conditions: numbers that may be.
-/
import Derived.Test.YtgldbainhncneaaGreatDoorVrLeaf
import Derived.Test.YtgldbainhncneaaGreatDoorVaTx
import Derived.Test.YtgldbainhncneaaGreatDoorMA
import Derived.Deep.CutRange
import Derived.Deep.DeepCutAuto
namespace Go.Proofs.YtgldbainhncneaaGreatDoor
open Go.RowKit
set_option linter.unusedVariables false
set_option linter.unusedSimpArgs false

/-- The digits of u, k or more; of 0 just k. -/
def dgF (u k : Nat) : List UInt8 := if u = 0 then List.replicate k 48 else pad (u : Int) k
theorem pad_dec (u n : Nat) : pad (u : Int) n = List.replicate (n - Lib.nDigits u) 48 ++ Lib.decDigits u := by
  unfold pad
  rw [Lib.itoa_nonneg, Lib.decDigits_length]
theorem dgF_step {u k : Nat} (h : 0 < u ∨ 0 < k) : dgF u k = dgF (u / 10) (k - 1) ++ [UInt8.ofNat (48 + u % 10)] := by
  unfold dgF
  by_cases h0 : u = 0
  · subst h0
    rw [if_pos rfl, if_pos (by omega)]
    obtain ⟨k, rfl⟩ : ∃ j, k = j + 1 := ⟨k - 1, by omega⟩
    rw [Nat.add_sub_cancel, List.replicate_succ']
    rfl
  rw [if_neg h0]
  by_cases h1 : u < 10
  · rw [if_pos (by omega), pad_dec, Lib.nDigits_small h1, Lib.decDigits_one h1, Nat.mod_eq_of_lt h1]
  · rw [if_neg (by omega), pad_dec, pad_dec, Lib.nDigits_big h1, Lib.decDigits, dif_neg h1, ← List.append_assoc]
    congr 3
    omega
theorem dgF_pad {u n : Nat} (hn : 1 ≤ n) : dgF u n = pad (u : Int) n := by
  unfold dgF
  split
  · rename_i h
    subst h
    rw [pad_dec, Lib.nDigits_small (by omega), Lib.decDigits_one (by omega)]
    obtain ⟨k, rfl⟩ : ∃ j, n = j + 1 := ⟨n - 1, by omega⟩
    rw [Nat.add_sub_cancel, List.replicate_succ']
    rfl
  · rfl
theorem pad_one {x : Int} (h : 0 ≤ x) : pad x 1 = Lib.itoa x := by
  obtain ⟨u, rfl⟩ := Int.eq_ofNat_of_zero_le h
  rw [pad_dec, Lib.itoa_nonneg]
  have : 1 ≤ Lib.nDigits u := by
    by_cases q : u < 10
    · rw [Lib.nDigits_small q]; exact Nat.le_refl _
    · rw [Lib.nDigits_big q]; omega
  rw [show 1 - Lib.nDigits u = 0 by omega]
  rfl
def strL (v : Value) : Nat := match v with | .string b => b.size | _ => 0
theorem pad_len_le {u n : Nat} (h : u < 18446744073709551616) : (pad (u : Int) n).length ≤ n + 20 := by
  rw [pad_dec]
  have := Lib.nDigits_le20 u h
  simp [Lib.decDigits_length]
  omega
theorem str_tb (d : Nat) (h : d < 10) : strOfNums [48 + (d : Int)] = tb [UInt8.ofNat (48 + d)] := by
  unfold strOfNums tb
  simp only [List.map_cons, List.map_nil]
  rw [show (48 + (d : Int)).toNat = 48 + d by omega]

set_option maxHeartbeats 4000000 in
set_option maxRecDepth 100000 in
theorem digits_ref (x n : Nat) (w : World) (hx : x < 18446744073709551616) (hn : 1 ≤ n) (hn2 : n ≤ 100) : Calls Tryz.prog 72 #[.int .u64 (x : Int), .int .i64 (n : Int)] w fun e w' => e = .returned (.string (tb (pad (x : Int) n))) ∧ Below w.heap.size w w' := by
  obtain ⟨RES, hRES⟩ : ∃ z, z = pad (x : Int) n := ⟨_, rfl⟩
  have hln : RES.length ≤ 120 := by rw [hRES]; have := pad_len_le (n := n) hx; omega
  have hst : dgF x (n - ([] : List UInt8).length) ++ [] = RES := by rw [hRES, List.append_nil]; exact dgF_pad hn
  rw [← hRES]
  clear hRES
  go_enter Tryz.func72, Tryz.ntmps72
  go_wp2_with fail
  go_loopw [0, 5] (fun xv sv wr => ∃ (u : Nat) (l : List UInt8), u < 18446744073709551616 ∧ xv = .int .u64 (u : Int) ∧ sv = .string (tb l) ∧ dgF u (n - l.length) ++ l = RES ∧ Below w.heap.size w wr) (fun xv sv _ => (intOf xv).toNat + (n - strL sv))
  case atStart => exact ⟨x, [], hx, rfl, rfl, hst, Below.refl _ _⟩
  case round =>
    obtain ⟨u, l, hu, rfl, rfl, hl, hb⟩ := hrel
    have hll : l.length ≤ 120 := by rw [← hl] at hln; rw [List.length_append] at hln; omega
    have hts : (tb l).size = l.length := tb_size l
    by_cases hgo : 0 < u ∨ l.length < n
    · have hstep := dgF_step (u := u) (k := n - l.length) (by omega)
      have hl2 : dgF (u / 10) (n - ([UInt8.ofNat (48 + u % 10)] ++ l).length) ++ ([UInt8.ofNat (48 + u % 10)] ++ l) = RES := by
        rw [← hl, hstep, List.append_assoc]
        congr 2 <;> first | (simp; omega) | simp
      have hbs := (Bs.one wr (48 + ((u % 10 : Nat) : Int)) (by omega) (by omega)).str
      rw [str_tb _ (Nat.mod_lt _ (by omega))] at hbs
      have hcat : tb [UInt8.ofNat (48 + u % 10)] ++ tb l = tb ([UInt8.ofNat (48 + u % 10)] ++ l) := tb_app _ _
      have hts2 : (tb [UInt8.ofNat (48 + u % 10)]).size = 1 := tb_size _
      have m1 : (u : Int).tmod 10 = ((u % 10 : Nat) : Int) := by rw [Int.tmod_eq_emod_of_nonneg (by omega)]; simp
      have m2 : (u : Int) % 10 = ((u % 10 : Nat) : Int) := by simp
      have m3 : (u : Int).tdiv 10 = ((u / 10 : Nat) : Int) := by rw [Int.tdiv_eq_ediv_of_nonneg (by omega)]; simp
      have m4 : (u : Int) / 10 = ((u / 10 : Nat) : Int) := by simp
      obtain ⟨D, hD⟩ : ∃ z, z = u % 10 := ⟨_, rfl⟩
      obtain ⟨V, hV⟩ : ∃ z, z = u / 10 := ⟨_, rfl⟩
      have hD9 : D < 10 := by omega
      have hVu : V < 18446744073709551616 := by omega
      have hms : V + (n - (l.length + 1)) < u + (n - l.length) := by omega
      rw [← hD] at hl2 hbs hcat hts2 m1 m2
      rw [← hV] at hl2 m3 m4
      have q1 : IntKind.u64.wrap (D : Int) = D := by rw [IntKind.wrap_u64]; omega
      have q2 : IntKind.u64.wrap (48 + (D : Int)) = 48 + D := by rw [IntKind.wrap_u64]; omega
      have q3 : IntKind.u8.wrap (48 + (D : Int)) = 48 + D := by rw [IntKind.wrap_u8]; omega
      have q4 : IntKind.u64.wrap (V : Int) = V := by rw [IntKind.wrap_u64]; omega
      obtain ⟨S1, hS1⟩ : ∃ z, z = tb [UInt8.ofNat (48 + D)] := ⟨_, rfl⟩
      rw [← hS1] at hbs hcat hts2
      have u1 : ¬ 9223372036854775807 < S1.size + (tb l).size := by omega
      have u2 : ¬ 9223372036854775807 < 1 + (tb l).size := by omega
      have HTS := hide hts
      have gz : l.length < n → (tb l).size < n := fun z => by omega
      have HL2 := hide hl2
      have HC := hide hcat
      have HB := hide (hb.trans ((below_alloc wr (.cells #[.int .u8 (48 + (D : Int))] 5)).mono hb.size))
      have hz10 : ((10 : Int) == 0) = false := rfl
      clear hstep hl hl2 hcat hb hD hV hS1 hst hts
      rcases hgo with hg | hg
      · have g1 : 0 < u := by omega
        go_wp2_with fail
        go_roundw
        case rel => exact ⟨V, [UInt8.ofNat (48 + D)] ++ l, hVu, by first | rfl | go_num, by rw [← unhide HC], unhide HL2, unhide HB⟩
        case measure => (have := unhide HTS; have hz := hts2; simp [intOf, strL]; omega)
      · by_cases hg2 : 0 < u
        · have g1 : 0 < u := by omega
          go_wp2_with fail
          go_roundw
          case rel => exact ⟨V, [UInt8.ofNat (48 + D)] ++ l, hVu, by first | rfl | go_num, by rw [← unhide HC], unhide HL2, unhide HB⟩
          case measure => (have := unhide HTS; have hz := hts2; simp [intOf, strL]; omega)
        · have g1 : ¬ 0 < u := by omega
          have g2 : (tb l).size < n := gz hg
          go_wp2_with fail
          go_roundw
          case rel => exact ⟨V, [UInt8.ofNat (48 + D)] ++ l, hVu, by first | rfl | go_num, by rw [← unhide HC], unhide HL2, unhide HB⟩
          case measure => (have := unhide HTS; have hz := hts2; simp [intOf, strL]; omega)
    · have hu0 : u = 0 := by omega
      have hnl : n - l.length = 0 := by omega
      have hlr : l = RES := by rw [← hl, hnl, hu0]; rfl
      have g1 : ¬ 0 < u := by omega
      have g2 : ¬ (tb l).size < n := by omega
      have HR := hide hlr
      clear hts hlr hu0 hl hnl hgo hst
      go_wp2_with fail
      go_ret
      exact ⟨by rw [unhide HR] <;> rfl, hb⟩

theorem digits_pw {w0 : World} {v : Wh} (x : Int) (n : Nat) (N : Int) (hN : N = (n : Int)) (hx : 0 ≤ x ∧ x < 18446744073709551616) (hn : 1 ≤ n) (hn2 : n ≤ 100) (w : World) (h : Pw w0 v w) : Calls Tryz.prog 72 #[.int .u64 x, .int .i64 N] w fun e w' => e = .returned (.string (tb (pad x n))) ∧ Pw w0 v w' := by
  obtain ⟨u, rfl⟩ := Int.eq_ofNat_of_zero_le hx.1
  subst hN
  exact (digits_ref u n w (by omega) hn hn2).mono fun _ _ ⟨a, b⟩ => ⟨a, h.later b⟩
theorem digits_pv {w0 : World} {v : Va} {t : Int} {un : Bool} (x : Int) (n : Nat) (N : Int) (hN : N = (n : Int)) (hx : 0 ≤ x ∧ x < 18446744073709551616) (hn : 1 ≤ n) (hn2 : n ≤ 100) (w : World) (h : Pv w0 v t un w) : Calls Tryz.prog 72 #[.int .u64 x, .int .i64 N] w fun e w' => e = .returned (.string (tb (pad x n))) ∧ Pv w0 v t un w' := by
  obtain ⟨u, rfl⟩ := Int.eq_ofNat_of_zero_le hx.1
  subst hN
  exact (digits_ref u n w (by omega) hn hn2).mono fun _ _ ⟨a, b⟩ => ⟨a, h.later b⟩

set_option maxHeartbeats 4000000 in
set_option maxRecDepth 100000 in
theorem clockText_ref (v : Wh) (w : World) (hc : clk v = true) : Calls Tryz.prog 73 #[.agg (whC v)] w fun e w' => e = .returned (.string (tb ([58] ++ minT v))) ∧ Below w.heap.size w w' := by
  obtain ⟨ng, y, mo, d, h, mi, s, mc⟩ := v
  unfold clk inr at hc
  simp only [Bool.and_eq_true, decide_eq_true_eq] at hc
  obtain ⟨hh, hmi, hs, hmc⟩ := hc
  have e1 : tb ([58] ++ minT ⟨ng, y, mo, d, h, mi, s, mc⟩) = if mc = 0 then tb [58] ++ tb (pad mi 2) ++ tb [58] ++ tb (pad s 2) else tb [58] ++ tb (pad mi 2) ++ tb [58] ++ tb (pad s 2) ++ tb [46] ++ tb (pad mc 6) := by
    unfold minT
    simp only
    split <;> simp [tb_app]
  rw [e1]
  have cA := hide (fun wx (hq : Pw w ⟨ng, y, mo, d, h, mi, s, mc⟩ wx) => digits_pw mi 2 2 rfl ⟨by omega, by omega⟩ (by omega) (by omega) wx hq)
  have cB := hide (fun wx (hq : Pw w ⟨ng, y, mo, d, h, mi, s, mc⟩ wx) => digits_pw s 2 2 rfl ⟨by omega, by omega⟩ (by omega) (by omega) wx hq)
  have cC := hide (fun wx (hq : Pw w ⟨ng, y, mo, d, h, mi, s, mc⟩ wx) => digits_pw mc 6 6 rfl ⟨by omega, by omega⟩ (by omega) (by omega) wx hq)
  have zA := pad_size mi 2 ⟨by omega, by omega⟩
  have zB := pad_size s 2 ⟨by omega, by omega⟩
  have zC := pad_size mc 6 ⟨by omega, by omega⟩
  have w1' : IntKind.u64.wrap mi = mi := by rw [IntKind.wrap_u64]; omega
  have w2' : IntKind.u64.wrap s = s := by rw [IntKind.wrap_u64]; omega
  have w3' : IntKind.u64.wrap mc = mc := by rw [IntKind.wrap_u64]; omega
  generalize tb (pad mi 2) = SA at *
  generalize tb (pad s 2) = SB at *
  generalize tb (pad mc 6) = SC at *
  rw [show tb [58] = ⟨#[58]⟩ from rfl, show tb [46] = ⟨#[46]⟩ from rfl]
  unfold whC
  try simp only
  obtain ⟨w1, hw1⟩ : ∃ z, z = w.alloc (.cells #[.bool ng, .int .i64 y, .int .i64 mo, .int .i64 d, .int .i64 h, .int .i64 mi, .int .i64 s, .int .i64 mc] 30) := ⟨_, rfl⟩
  have P0 : Pw w ⟨ng, y, mo, d, h, mi, s, mc⟩ w1 := by rw [hw1]; exact Pw.box w _
  have HW := hide hw1
  have PP := hide P0
  obtain ⟨k0, k1, k2, k3, k4, k5, k6, k7⟩ := P0.cells
  clear hw1 P0 e1
  have u1 : ¬ 9223372036854775807 < 1 + SA.size := by omega
  have u2 : ¬ 9223372036854775807 < 1 + SA.size + 1 := by omega
  have u3 : ¬ 9223372036854775807 < 1 + SA.size + 1 + SB.size := by omega
  have u4 : ¬ 9223372036854775807 < 1 + SA.size + 1 + SB.size + 1 := by omega
  have u5 : ¬ 9223372036854775807 < 1 + SA.size + 1 + SB.size + 1 + SC.size := by omega
  clear zA zB zC hh hmi hs hmc
  by_cases hm : mc = 0
  · rw [if_pos hm]
    have hm2 : (mc != 0) = false := by simpa using hm
    clear hm
    go_enter Tryz.func73, Tryz.ntmps73
    go_upto_region 1 with fail
    rw [← unhide HW]
    go_region_held3 (fun w' => w'.cell? ⟨w.heap.size, 0, none⟩ = some (.bool ng) ∧ w'.cell? ⟨w.heap.size, 1, none⟩ = some (.int .i64 y) ∧ w'.cell? ⟨w.heap.size, 2, none⟩ = some (.int .i64 mo) ∧ w'.cell? ⟨w.heap.size, 3, none⟩ = some (.int .i64 d) ∧ w'.cell? ⟨w.heap.size, 4, none⟩ = some (.int .i64 h) ∧ w'.cell? ⟨w.heap.size, 5, none⟩ = some (.int .i64 mi) ∧ w'.cell? ⟨w.heap.size, 6, none⟩ = some (.int .i64 s) ∧ w'.cell? ⟨w.heap.size, 7, none⟩ = some (.int .i64 mc)) (first | exact (unhide PP).cells | exact (unhide PP).drew.cells | go_keep) (first | (go_at_call 72; (with_reducible show Calls _ _ #[.int .u64 mi, .int .i64 2] _ _); (with_reducible refine (unhide cA _ (unhide PP)).mono ?_); rintro e wq ⟨rfl, P2⟩; clear k0 k1 k2 k3 k4 k5 k6 k7; obtain ⟨k0, k1, k2, k3, k4, k5, k6, k7⟩ := P2.cells; have PP := hide P2; clear P2) | (go_at_call 72; (with_reducible show Calls _ _ #[.int .u64 mi, .int .i64 2] _ _); (with_reducible refine (unhide cA _ (unhide PP).drew).mono ?_); rintro e wq ⟨rfl, P2⟩; clear k0 k1 k2 k3 k4 k5 k6 k7; obtain ⟨k0, k1, k2, k3, k4, k5, k6, k7⟩ := P2.cells; have PP := hide P2; clear P2) | (go_at_call 72; (with_reducible show Calls _ _ #[.int .u64 s, .int .i64 2] _ _); (with_reducible refine (unhide cB _ (unhide PP)).mono ?_); rintro e wq ⟨rfl, P2⟩; clear k0 k1 k2 k3 k4 k5 k6 k7; obtain ⟨k0, k1, k2, k3, k4, k5, k6, k7⟩ := P2.cells; have PP := hide P2; clear P2) | (go_at_call 72; (with_reducible show Calls _ _ #[.int .u64 s, .int .i64 2] _ _); (with_reducible refine (unhide cB _ (unhide PP).drew).mono ?_); rintro e wq ⟨rfl, P2⟩; clear k0 k1 k2 k3 k4 k5 k6 k7; obtain ⟨k0, k1, k2, k3, k4, k5, k6, k7⟩ := P2.cells; have PP := hide P2; clear P2))
    all_goals
      go_wp2_with fail
      go_ret
      exact ⟨rfl, (unhide PP).bl⟩
  · rw [if_neg hm]
    have hm2 : (mc != 0) = true := by simpa using hm
    clear hm
    go_enter Tryz.func73, Tryz.ntmps73
    go_upto_region 1 with fail
    rw [← unhide HW]
    go_region_held3 (fun w' => w'.cell? ⟨w.heap.size, 0, none⟩ = some (.bool ng) ∧ w'.cell? ⟨w.heap.size, 1, none⟩ = some (.int .i64 y) ∧ w'.cell? ⟨w.heap.size, 2, none⟩ = some (.int .i64 mo) ∧ w'.cell? ⟨w.heap.size, 3, none⟩ = some (.int .i64 d) ∧ w'.cell? ⟨w.heap.size, 4, none⟩ = some (.int .i64 h) ∧ w'.cell? ⟨w.heap.size, 5, none⟩ = some (.int .i64 mi) ∧ w'.cell? ⟨w.heap.size, 6, none⟩ = some (.int .i64 s) ∧ w'.cell? ⟨w.heap.size, 7, none⟩ = some (.int .i64 mc)) (first | exact (unhide PP).cells | exact (unhide PP).drew.cells | go_keep) (first | (go_at_call 72; (with_reducible show Calls _ _ #[.int .u64 mi, .int .i64 2] _ _); (with_reducible refine (unhide cA _ (unhide PP)).mono ?_); rintro e wq ⟨rfl, P2⟩; clear k0 k1 k2 k3 k4 k5 k6 k7; obtain ⟨k0, k1, k2, k3, k4, k5, k6, k7⟩ := P2.cells; have PP := hide P2; clear P2) | (go_at_call 72; (with_reducible show Calls _ _ #[.int .u64 mi, .int .i64 2] _ _); (with_reducible refine (unhide cA _ (unhide PP).drew).mono ?_); rintro e wq ⟨rfl, P2⟩; clear k0 k1 k2 k3 k4 k5 k6 k7; obtain ⟨k0, k1, k2, k3, k4, k5, k6, k7⟩ := P2.cells; have PP := hide P2; clear P2) | (go_at_call 72; (with_reducible show Calls _ _ #[.int .u64 s, .int .i64 2] _ _); (with_reducible refine (unhide cB _ (unhide PP)).mono ?_); rintro e wq ⟨rfl, P2⟩; clear k0 k1 k2 k3 k4 k5 k6 k7; obtain ⟨k0, k1, k2, k3, k4, k5, k6, k7⟩ := P2.cells; have PP := hide P2; clear P2) | (go_at_call 72; (with_reducible show Calls _ _ #[.int .u64 s, .int .i64 2] _ _); (with_reducible refine (unhide cB _ (unhide PP).drew).mono ?_); rintro e wq ⟨rfl, P2⟩; clear k0 k1 k2 k3 k4 k5 k6 k7; obtain ⟨k0, k1, k2, k3, k4, k5, k6, k7⟩ := P2.cells; have PP := hide P2; clear P2))
    all_goals
      go_wp2_with (first | (go_at_call 72; (with_reducible show Calls _ _ #[.int .u64 mc, .int .i64 6] _ _); (with_reducible refine (unhide cC _ (unhide PP)).mono ?_); rintro e wq ⟨rfl, P2⟩; clear k0 k1 k2 k3 k4 k5 k6 k7; obtain ⟨k0, k1, k2, k3, k4, k5, k6, k7⟩ := P2.cells; have PP := hide P2; clear P2) | (go_at_call 72; (with_reducible show Calls _ _ #[.int .u64 mc, .int .i64 6] _ _); (with_reducible refine (unhide cC _ (unhide PP).drew).mono ?_); rintro e wq ⟨rfl, P2⟩; clear k0 k1 k2 k3 k4 k5 k6 k7; obtain ⟨k0, k1, k2, k3, k4, k5, k6, k7⟩ := P2.cells; have PP := hide P2; clear P2))
      go_ret
      exact ⟨rfl, (unhide PP).bl⟩


end Go.Proofs.YtgldbainhncneaaGreatDoor
