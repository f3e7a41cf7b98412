/-
  What typesOf of package param returns: the types of parameters, two bytes each. It writes nothing that was there. Conditions: as PmMay; at most 60.
-/
import Derived.Test.YtfgghgoonfamkaaPmMay
namespace Go.Proofs.Ytfgghgoonfamkaa
open Go.RowKit
set_option linter.unusedVariables false
set_option linter.unusedSimpArgs false

theorem two_bs (w : World) (a b : Int) (a0 : 0 ≤ a) (a1 : a ≤ 255) (b0 : 0 ≤ b) (b1 : b ≤ 255) : Bs (w.alloc (.cells #[.int .u8 a, .int .u8 b] 5)) (some ⟨w.heap.size, 0, none⟩) 2 2 [a, b] :=
  Bs.lit w [a, b] (by intro x hx; simp at hx; omega) (by simp)

set_option maxHeartbeats 4000000 in
set_option maxRecDepth 100000 in
theorem ptypesOf_any (ao : Option Addr) (n c : Nat) (l : List Pa) (w : World) (hl : Pas w ao n c l) (hK : ∀ p ∈ l, VaK p.v ∧ p.v.t.size ≤ 3000 ∧ 0 ≤ p.t.t ∧ p.t.t < 256) (hn : n ≤ 60) :
    Calls Try.prog 42 #[.slice ao n c] w fun e w' => ∃ xo xn xc, e = .returned (.slice xo xn xc) ∧ Mine w.heap.size w' xo xn xc (ptB l) ∧ Below w.heap.size w w' := by
  have hln := hl.len
  have hle := hl.le
  have hmx := hl.max
  have HL := hide hl
  have HK := hide hK

  have HPL := hide (fun j => ptB_len (l.take j))
  clear hl hK
  go_enter Try.func42, Try.ntmps42
  go_wp2_with fail
  go_loopw [9, 3] (fun iv sv ws => ∃ (j : Nat) (oo : Option Addr) (on oc : Nat), j ≤ n ∧ iv = .int .i64 (j : Int) ∧ sv = .slice oo on oc ∧ Mine w.heap.size ws oo on oc (ptB (l.take j)) ∧ Below w.heap.size w ws) (fun iv _ _ => n - (intOf iv).toNat)
  case atStart => exact ⟨0, none, 0, 0, by omega, rfl, rfl, Mine.nought _ _, Below.refl _ _⟩
  case round =>
    obtain ⟨j, oo, on, oc, hj, rfl, rfl, hM, hB⟩ := hrel
    have hon : on ≤ 1000 := by
      have q1 := hM.len
      have q2 := unhide HPL j
      rw [List.length_take] at q2
      omega
    have hole := hM.bs.le
    have homx := hM.bs.max
    have hob := hB.size
    have HB := hide hB
    have HM := hide hM
    clear hB hM
    by_cases hlt : j < n
    · have hz := hlt
      clear hz
      obtain ⟨p, hp⟩ : ∃ p, l[j]? = some p := ⟨_, List.getElem?_eq_getElem (by omega)⟩
      have hlj : ((j : Nat) : Int) < (n : Int) := by omega
      obtain ⟨pb, po, hix, hat⟩ := ((unhide HL).later (unhide HB)).idx hp (j : Int) rfl
      have HAT := hide hat
      obtain ⟨hKv, hKs, hp0, hp1⟩ := unhide HK p (List.mem_of_getElem? hp)
      have SV := hide (pac_info p)
      have OV := hide (pac_one p)

      have HN := hide (ptB_next hp)
      have HT : Hid (ty2 p = [p.t.t, if p.t.un = true then 128 else 0]) := hide rfl
      clear hat hp hKv hKs
      generalize ty2 p = T2 at *
      obtain ⟨⟨pt, pu⟩, lo, ⟨k, i, b, tx, ⟨ng, y, mo, d, h, mi, s, mc⟩⟩⟩ := p
      unfold paC at SV OV
      simp only at SV OV HT hp0 hp1
      cases pu
      · have HT' := hide (show T2 = [pt, 0] from unhide HT)
        clear HT
        go_wp2_with (first | (with_reducible show wpList Try.prog _ _ (Oper.mk _ (Op.load 34 _) _ _ _ none :: _) _ _; refine wpList_ldP rfl (.tmp 11) rfl pb po rfl ⟨⟨pt, false⟩, lo, ⟨k, i, b, tx, ⟨ng, y, mo, d, h, mi, s, mc⟩⟩⟩ (unhide HAT) ?_) | (with_reducible show wpList Try.prog _ _ (Oper.mk _ (Op.store 34 _ _) _ _ _ none :: _) _ _; refine wpList_stN rfl _ (.tmp 5) (.tmp 12) rfl #[.int .u8 pt, .bool false, .bool lo, .int .i64 k, .int .i64 i, .int .u64 b, .string tx, .bool ng, .int .i64 y, .int .i64 mo, .int .i64 d, .int .i64 h, .int .i64 mi, .int .i64 s, .int .i64 mc] (by simp [Act.eval, Act.put]) rfl (unhide SV) rfl (unhide OV) ?_; intro w2 r2 b2 l2; have R2 := hide r2; have B2 := hide b2; obtain ⟨k0, k1, k2, k3, k4, k5, k6, k7, k8, k9, k10, k11, k12, k13, k14⟩ := cells15 r2; clear r2 b2) | (at_builtin; refine wpList_app rfl (.tmp 16) (.tmp 21) rfl w.heap.size oo on oc _ (by simp [Act.eval, Act.put]) (((unhide HM).later (unhide B2)).later (below_alloc w2 _)) _ 2 2 _ rfl (two_bs w2 pt 0 (by omega) (by omega) (by omega) (by omega)) (by omega) (by have := (unhide B2).size; simp; omega) ?_; intro a6 c6 w6 m6 b6; have M6 := hide m6; have HB6 := hide ((vbup (vbup (unhide HB) (unhide B2)) (below_alloc w2 _)).trans b6); clear m6 b6))
        go_roundw
        case rel => exact ⟨j + 1, a6, on + 2, c6, by omega, by go_num, rfl, (by rw [unhide HN, unhide HT']; exact unhide M6), unhide HB6⟩
        case measure => simp [intOf]; omega
      · have HT' := hide (show T2 = [pt, 128] from unhide HT)
        clear HT
        go_wp2_with (first | (with_reducible show wpList Try.prog _ _ (Oper.mk _ (Op.load 34 _) _ _ _ none :: _) _ _; refine wpList_ldP rfl (.tmp 11) rfl pb po rfl ⟨⟨pt, true⟩, lo, ⟨k, i, b, tx, ⟨ng, y, mo, d, h, mi, s, mc⟩⟩⟩ (unhide HAT) ?_) | (with_reducible show wpList Try.prog _ _ (Oper.mk _ (Op.store 34 _ _) _ _ _ none :: _) _ _; refine wpList_stN rfl _ (.tmp 5) (.tmp 12) rfl #[.int .u8 pt, .bool true, .bool lo, .int .i64 k, .int .i64 i, .int .u64 b, .string tx, .bool ng, .int .i64 y, .int .i64 mo, .int .i64 d, .int .i64 h, .int .i64 mi, .int .i64 s, .int .i64 mc] (by simp [Act.eval, Act.put]) rfl (unhide SV) rfl (unhide OV) ?_; intro w2 r2 b2 l2; have R2 := hide r2; have B2 := hide b2; obtain ⟨k0, k1, k2, k3, k4, k5, k6, k7, k8, k9, k10, k11, k12, k13, k14⟩ := cells15 r2; clear r2 b2) | (at_builtin; refine wpList_app rfl (.tmp 16) (.tmp 21) rfl w.heap.size oo on oc _ (by simp [Act.eval, Act.put]) (((unhide HM).later (unhide B2)).later (below_alloc w2 _)) _ 2 2 _ rfl (two_bs w2 pt 128 (by omega) (by omega) (by omega) (by omega)) (by omega) (by have := (unhide B2).size; simp; omega) ?_; intro a6 c6 w6 m6 b6; have M6 := hide m6; have HB6 := hide ((vbup (vbup (unhide HB) (unhide B2)) (below_alloc w2 _)).trans b6); clear m6 b6))
        go_roundw
        case rel => exact ⟨j + 1, a6, on + 2, c6, by omega, by go_num, rfl, (by rw [unhide HN, unhide HT']; exact unhide M6), unhide HB6⟩
        case measure => simp [intOf]; omega
    · have hjn : j = n := by omega
      subst hjn
      have hlj : ¬ ((j : Nat) : Int) < (j : Int) := by omega
      have hm := unhide HM
      rw [List.take_of_length_le (by omega)] at hm
      have HM2 := hide hm
      clear hm HM
      go_wp2_with fail
      go_ret
      exact ⟨_, _, _, rfl, unhide HM2, unhide HB⟩


end Go.Proofs.Ytfgghgoonfamkaa
