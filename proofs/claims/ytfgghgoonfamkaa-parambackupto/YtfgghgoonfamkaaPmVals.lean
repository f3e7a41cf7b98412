/-
  What valuesOf of package param returns: the values of parameters, one behind the other. It writes nothing that was there. Conditions: as PmMay; at most 60, all of which may be.
-/
import Derived.Test.YtfgghgoonfamkaaPmMay
namespace Go.Proofs.Ytfgghgoonfamkaa
open Go.RowKit
set_option linter.unusedVariables false
set_option linter.unusedSimpArgs false

set_option maxHeartbeats 4000000 in
set_option maxRecDepth 100000 in
theorem pvaluesOf_any (ao : Option Addr) (n c : Nat) (l : List Pa) (w : World) (hl : Pas w ao n c l) (hK : ∀ p ∈ l, VaK p.v ∧ p.v.t.size ≤ 3000 ∧ 0 ≤ p.t.t ∧ p.t.t < 256) (hn : n ≤ 60) (hok : plOk l = true) (hsm : psm l ≤ 3000) :
    Calls Try.prog 41 #[.slice ao n c] w fun e w' => ∃ xo xn xc, e = .returned (.slice xo xn xc) ∧ Mine w.heap.size w' xo xn xc (pvB l) ∧ Below w.heap.size w w' := by
  have hln := hl.len
  have hle := hl.le
  have hmx := hl.max
  have HL := hide hl
  have HK := hide hK

  have HPL := hide (fun j => pvB_sm (l.take j))
  have HPS := hide (fun j => Nat.le_trans (psm_take l j) hsm)
  have HOK := hide (fun p (hp : p ∈ l) => plOk_at hok hp)
  clear hl hK hok hsm
  go_enter Try.func41, Try.ntmps41
  go_wp2_with fail
  go_loopw [10, 3] (fun iv sv ws => ∃ (j : Nat) (oo : Option Addr) (on oc : Nat), j ≤ n ∧ iv = .int .i64 (j : Int) ∧ sv = .slice oo on oc ∧ Mine w.heap.size ws oo on oc (pvB (l.take j)) ∧ Below w.heap.size w ws) (fun iv _ _ => n - (intOf iv).toNat)
  case atStart => exact ⟨0, none, 0, 0, by omega, rfl, rfl, Mine.nought _ _, Below.refl _ _⟩
  case round =>
    obtain ⟨j, oo, on, oc, hj, rfl, rfl, hM, hB⟩ := hrel
    have hon : on ≤ 10000 := by
      have q1 := hM.len
      have q2 := unhide HPL j
      have q3 := unhide HPS j
      rw [List.length_take] at q2
      omega
    have hole := hM.bs.le
    have homx := hM.bs.max
    have hob := hB.size
    have HB := hide hB
    have HM := hide hM
    clear hB hM
    by_cases hlt : j < n
    · have hz := hlt
      clear hz
      obtain ⟨p, hp⟩ : ∃ p, l[j]? = some p := ⟨_, List.getElem?_eq_getElem (by omega)⟩
      have hlj : ((j : Nat) : Int) < (n : Int) := by omega
      obtain ⟨pb, po, hix, hat⟩ := ((unhide HL).later (unhide HB)).idx hp (j : Int) rfl
      have HAT := hide hat
      obtain ⟨hKv, hKs, hp0, hp1⟩ := unhide HK p (List.mem_of_getElem? hp)
      have SV := hide (pac_info p)
      have OV := hide (pac_one p)

      have HN := hide (pvB_next hp)
      have HT : Hid (va1 p = if p.v.k = 0 then [] else vaB p.v p.t.t) := hide rfl
      have cN := hide (fun wx => pisNull_any p wx)
      have cA := hide (fun wx => append_any none 0 0 [] p.v p.t.t p.t.un wx hp0 hp1 hKv (Bs.nought wx) (by simp) (by omega))
      have HVO := hide (show vOk p.v p.t.t p.t.un = true by have := unhide HOK p (List.mem_of_getElem? hp); unfold pOk at this; simp only [Bool.and_eq_true] at this; exact this.1)
      have HBO := hide (fun (hk : ¬ p.v.k = 0) => pb_some (unhide HVO) hk)
      have HVL := hide (vaB_len p.v p.t.t)
      clear hat hp hKv hp0 hp1 HVO
      generalize va1 p = T1 at *
      generalize vaB p.v p.t.t = T2 at *
      generalize bOk p.v p.t.t p.t.un = BO at *
      obtain ⟨⟨pt, pu⟩, lo, ⟨k, i, b, tx, ⟨ng, y, mo, d, h, mi, s, mc⟩⟩⟩ := p
      unfold paC at cN SV OV
      unfold vaC at cA
      simp only at cA cN SV OV HT HBO HVL hKs
      by_cases hk : k = 0
      · have ek : (k == 0) = true := by simpa using hk
        rw [ek] at cN
        have HT' := hide (show T1 = [] by rw [unhide HT, if_pos hk])
        clear HT cA HBO HVL ek hk
        go_wp2_with (first | (with_reducible show wpList Try.prog _ _ (Oper.mk _ (Op.load 34 _) _ _ _ none :: _) _ _; refine wpList_ldP rfl (.tmp 12) rfl pb po rfl ⟨⟨pt, pu⟩, lo, ⟨k, i, b, tx, ⟨ng, y, mo, d, h, mi, s, mc⟩⟩⟩ (unhide HAT) ?_) | (with_reducible show wpList Try.prog _ _ (Oper.mk _ (Op.store 34 _ _) _ _ _ none :: _) _ _; refine wpList_stN rfl _ (.tmp 5) (.tmp 13) rfl #[.int .u8 pt, .bool pu, .bool lo, .int .i64 k, .int .i64 i, .int .u64 b, .string tx, .bool ng, .int .i64 y, .int .i64 mo, .int .i64 d, .int .i64 h, .int .i64 mi, .int .i64 s, .int .i64 mc] (by simp [Act.eval, Act.put]) rfl (unhide SV) rfl (unhide OV) ?_; intro w2 r2 b2 l2; have R2 := hide r2; have B2 := hide b2; obtain ⟨k0, k1, k2, k3, k4, k5, k6, k7, k8, k9, k10, k11, k12, k13, k14⟩ := cells15 r2; clear r2 b2) | (go_at_call 38; (with_reducible refine (unhide cN _).mono ?_); rintro e w3 ⟨rfl, b3⟩; have R3 := hide (vrow_later (unhide R2) b3); have B3 := hide ((unhide B2).trans (b3.mono (unhide B2).size)); obtain ⟨k0, k1, k2, k3, k4, k5, k6, k7, k8, k9, k10, k11, k12, k13, k14⟩ := cells15 (unhide R3); clear b3))
        go_roundw
        case rel => exact ⟨j + 1, oo, on, oc, by omega, by go_num, rfl, (by rw [unhide HN, unhide HT', List.append_nil]; exact (unhide HM).later (unhide B3)), vbup (unhide HB) (unhide B3)⟩
        case measure => simp [intOf]; omega
      · have ek : (k == 0) = false := by simpa using hk
        rw [ek] at cN
        have HT' := hide (show T1 = T2 by rw [unhide HT, if_neg hk])
        rw [unhide HBO hk, if_pos rfl, List.nil_append] at cA
        unfold OutP at cA
        simp only at cA
        have hvl := unhide HVL
        clear HT HBO HVL ek hk
        go_wp2_with (first | (with_reducible show wpList Try.prog _ _ (Oper.mk _ (Op.load 34 _) _ _ _ none :: _) _ _; refine wpList_ldP rfl (.tmp 12) rfl pb po rfl ⟨⟨pt, pu⟩, lo, ⟨k, i, b, tx, ⟨ng, y, mo, d, h, mi, s, mc⟩⟩⟩ (unhide HAT) ?_) | (with_reducible show wpList Try.prog _ _ (Oper.mk _ (Op.store 34 _ _) _ _ _ none :: _) _ _; refine wpList_stN rfl _ (.tmp 5) (.tmp 13) rfl #[.int .u8 pt, .bool pu, .bool lo, .int .i64 k, .int .i64 i, .int .u64 b, .string tx, .bool ng, .int .i64 y, .int .i64 mo, .int .i64 d, .int .i64 h, .int .i64 mi, .int .i64 s, .int .i64 mc] (by simp [Act.eval, Act.put]) rfl (unhide SV) rfl (unhide OV) ?_; intro w2 r2 b2 l2; have R2 := hide r2; have B2 := hide b2; obtain ⟨k0, k1, k2, k3, k4, k5, k6, k7, k8, k9, k10, k11, k12, k13, k14⟩ := cells15 r2; clear r2 b2) | (go_at_call 38; (with_reducible refine (unhide cN _).mono ?_); rintro e w3 ⟨rfl, b3⟩; have R3 := hide (vrow_later (unhide R2) b3); have B3 := hide ((unhide B2).trans (b3.mono (unhide B2).size)); obtain ⟨k0, k1, k2, k3, k4, k5, k6, k7, k8, k9, k10, k11, k12, k13, k14⟩ := cells15 (unhide R3); clear b3) | (go_at_call 59; (with_reducible refine (unhide cA _).mono ?_); rintro e w4 ⟨ax, an, ac, rfl, m4, b4⟩; have han := m4.len; have hale := m4.bs.le; have hamx := m4.bs.max; have MB4 := hide m4.bs; have B4 := hide ((unhide B3).trans (b4.mono (unhide B3).size)); clear m4 b4) | (at_builtin; refine wpList_app rfl (.tmp 24) (.tmp 25) rfl w.heap.size oo on oc _ (by simp [Act.eval, Act.put]) ((unhide HM).later (unhide B4)) ax an ac T2 (by simp [Act.eval, Act.put]) (unhide MB4) (by omega) (Nat.le_trans hob (unhide B4).size) ?_; intro a6 c6 w6 m6 b6; have M6 := hide m6; have HB6 := hide ((vbup (unhide HB) (unhide B4)).trans b6); clear m6 b6))
        go_roundw
        case rel => exact ⟨j + 1, a6, on + an, c6, by omega, by go_num, rfl, (by rw [unhide HN, unhide HT']; exact unhide M6), unhide HB6⟩
        case measure => simp [intOf]; omega
    · have hjn : j = n := by omega
      subst hjn
      have hlj : ¬ ((j : Nat) : Int) < (j : Int) := by omega
      have hm := unhide HM
      rw [List.take_of_length_le (by omega)] at hm
      have HM2 := hide hm
      clear hm HM
      go_wp2_with fail
      go_ret
      exact ⟨_, _, _, rfl, unhide HM2, unhide HB⟩


end Go.Proofs.Ytfgghgoonfamkaa
