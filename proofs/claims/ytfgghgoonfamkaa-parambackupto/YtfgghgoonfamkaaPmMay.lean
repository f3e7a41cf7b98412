/-
  What mayBe of package param returns: whether parameters may be. It writes nothing that was there. Conditions: the slice can be read; numbers within their kinds; types are bytes.
-/
import Derived.Test.YtfgghgoonfamkaaPmPlain
import Derived.Test.YtfgghgoonfamkaaPmLeaf
import Derived.Test.YtfgghgoonfamkaaVaMay
import Derived.Test.YtfgghgoonfamkaaClRow
namespace Go.Proofs.Ytfgghgoonfamkaa
open Go.RowKit
set_option linter.unusedVariables false
set_option linter.unusedSimpArgs false

theorem cells15 {w : World} {g : Nat} {T : TypeId} {v0 v1 v2 v3 v4 v5 v6 v7 v8 v9 v10 v11 v12 v13 v14 : Value} (h : w.heap[g]? = some (.cells #[v0, v1, v2, v3, v4, v5, v6, v7, v8, v9, v10, v11, v12, v13, v14] T (0, 0))) : w.cell? ⟨g, 0, none⟩ = some v0 ∧ w.cell? ⟨g, 1, none⟩ = some v1 ∧ w.cell? ⟨g, 2, none⟩ = some v2 ∧ w.cell? ⟨g, 3, none⟩ = some v3 ∧ w.cell? ⟨g, 4, none⟩ = some v4 ∧ w.cell? ⟨g, 5, none⟩ = some v5 ∧ w.cell? ⟨g, 6, none⟩ = some v6 ∧ w.cell? ⟨g, 7, none⟩ = some v7 ∧ w.cell? ⟨g, 8, none⟩ = some v8 ∧ w.cell? ⟨g, 9, none⟩ = some v9 ∧ w.cell? ⟨g, 10, none⟩ = some v10 ∧ w.cell? ⟨g, 11, none⟩ = some v11 ∧ w.cell? ⟨g, 12, none⟩ = some v12 ∧ w.cell? ⟨g, 13, none⟩ = some v13 ∧ w.cell? ⟨g, 14, none⟩ = some v14 :=
  ⟨vrow_cell h (j := 0) rfl, vrow_cell h (j := 1) rfl, vrow_cell h (j := 2) rfl, vrow_cell h (j := 3) rfl, vrow_cell h (j := 4) rfl, vrow_cell h (j := 5) rfl, vrow_cell h (j := 6) rfl, vrow_cell h (j := 7) rfl, vrow_cell h (j := 8) rfl, vrow_cell h (j := 9) rfl, vrow_cell h (j := 10) rfl, vrow_cell h (j := 11) rfl, vrow_cell h (j := 12) rfl, vrow_cell h (j := 13) rfl, vrow_cell h (j := 14) rfl⟩

set_option maxHeartbeats 4000000 in
set_option maxRecDepth 100000 in
theorem pmayBe_any (ao : Option Addr) (n c : Nat) (l : List Pa) (w : World) (hl : Pas w ao n c l) (hK : ∀ p ∈ l, VaK p.v ∧ p.v.t.size ≤ 3000 ∧ 0 ≤ p.t.t ∧ p.t.t < 256) :
    Calls Try.prog 19 #[.slice ao n c] w fun e w' => e = .returned (.bool (plOk l)) ∧ Below w.heap.size w w' := by
  have hln := hl.len
  have hle := hl.le
  have hmx := hl.max
  have HL := hide hl
  have HK := hide hK

  obtain ⟨RES, hRES⟩ : ∃ z, z = plOk l := ⟨_, rfl⟩
  rw [← hRES]
  have HR := hide hRES
  clear hl hK hRES
  go_enter Try.func19, Try.ntmps19
  go_wp2_with fail
  go_loopw [7] (fun iv ws => ∃ (j : Nat), j ≤ n ∧ iv = .int .i64 (j : Int) ∧ plOk (l.take j) = true ∧ Below w.heap.size w ws) (fun iv _ => n - (intOf iv).toNat)
  case atStart => exact ⟨0, by omega, rfl, rfl, Below.refl _ _⟩
  case round =>
    obtain ⟨j, hj, rfl, hQ, hB⟩ := hrel
    have hob := hB.size
    have HB := hide hB
    have HQ := hide hQ
    clear hB hQ
    by_cases hlt : j < n
    · have hz := hlt
      clear hz
      obtain ⟨p, hp⟩ : ∃ p, l[j]? = some p := ⟨_, List.getElem?_eq_getElem (by omega)⟩
      have hlj : ((j : Nat) : Int) < (n : Int) := by omega
      obtain ⟨pb, po, hix, hat⟩ := ((unhide HL).later (unhide HB)).idx hp (j : Int) rfl
      have HAT := hide hat
      obtain ⟨hKv, hKs, hp0, hp1⟩ := unhide HK p (List.mem_of_getElem? hp)
      have SV := hide (pac_info p)
      have OV := hide (pac_one p)

      have cC := hide (fun wx => check_any p.v p.t.t p.t.un wx hp0 hp1 hKv)
      have cN := hide (fun wx => pisNull_any p wx)
      have HN := hide (plOk_next hp)
      have HX := hide (plOk_no hp)
      have HP : Hid (pOk p = (vOk p.v p.t.t p.t.un && !(p.lo && !(p.v.k == 0)))) := hide rfl
      clear hat hp hKv hKs hp0 hp1
      generalize pOk p = PO at *
      generalize hOK : vOk p.v p.t.t p.t.un = OK at *
      clear hOK
      obtain ⟨⟨pt, pu⟩, lo, ⟨k, i, b, tx, ⟨ng, y, mo, d, h, mi, s, mc⟩⟩⟩ := p
      unfold paC at cN SV OV
      unfold vaC at cC
      simp only at cC cN SV OV HP
      cases OK
      · simp only [if_neg (show ¬ (false = true) by decide)] at cC
        have HR2 := hide (show RES = false by rw [unhide HR, unhide HX (by rw [unhide HP]; rfl)])
        clear HX HN HP
        go_wp2_with (first | (with_reducible show wpList Try.prog _ _ (Oper.mk _ (Op.load 34 _) _ _ _ none :: _) _ _; refine wpList_ldP rfl (.tmp 9) rfl pb po rfl ⟨⟨pt, pu⟩, lo, ⟨k, i, b, tx, ⟨ng, y, mo, d, h, mi, s, mc⟩⟩⟩ (unhide HAT) ?_) | (with_reducible show wpList Try.prog _ _ (Oper.mk _ (Op.store 34 _ _) _ _ _ none :: _) _ _; refine wpList_stN rfl _ (.tmp 4) (.tmp 10) rfl #[.int .u8 pt, .bool pu, .bool lo, .int .i64 k, .int .i64 i, .int .u64 b, .string tx, .bool ng, .int .i64 y, .int .i64 mo, .int .i64 d, .int .i64 h, .int .i64 mi, .int .i64 s, .int .i64 mc] (by simp [Act.eval, Act.put]) rfl (unhide SV) rfl (unhide OV) ?_; intro w2 r2 b2 l2; have R2 := hide r2; have B2 := hide b2; obtain ⟨k0, k1, k2, k3, k4, k5, k6, k7, k8, k9, k10, k11, k12, k13, k14⟩ := cells15 r2; clear r2 b2) | (go_at_call 37; (with_reducible refine (unhide cC _).mono ?_); rintro e w3 ⟨rfl, b3⟩; have R3 := hide (vrow_later (unhide R2) b3); have B3 := hide ((unhide B2).trans (b3.mono (unhide B2).size)); obtain ⟨k0, k1, k2, k3, k4, k5, k6, k7, k8, k9, k10, k11, k12, k13, k14⟩ := cells15 (unhide R3); clear b3))
        go_ret
        exact ⟨by rw [unhide HR2]; rfl, vbup (unhide HB) (unhide B3)⟩
      · simp only [if_pos (show true = true from rfl)] at cC
        cases lo
        · have HN' := hide (show plOk (l.take (j + 1)) = true by rw [unhide HN, unhide HQ, unhide HP]; rfl)
          clear HX HN HP HR
          go_wp2_with (first | (with_reducible show wpList Try.prog _ _ (Oper.mk _ (Op.load 34 _) _ _ _ none :: _) _ _; refine wpList_ldP rfl (.tmp 9) rfl pb po rfl ⟨⟨pt, pu⟩, false, ⟨k, i, b, tx, ⟨ng, y, mo, d, h, mi, s, mc⟩⟩⟩ (unhide HAT) ?_) | (with_reducible show wpList Try.prog _ _ (Oper.mk _ (Op.store 34 _ _) _ _ _ none :: _) _ _; refine wpList_stN rfl _ (.tmp 4) (.tmp 10) rfl #[.int .u8 pt, .bool pu, .bool false, .int .i64 k, .int .i64 i, .int .u64 b, .string tx, .bool ng, .int .i64 y, .int .i64 mo, .int .i64 d, .int .i64 h, .int .i64 mi, .int .i64 s, .int .i64 mc] (by simp [Act.eval, Act.put]) rfl (unhide SV) rfl (unhide OV) ?_; intro w2 r2 b2 l2; have R2 := hide r2; have B2 := hide b2; obtain ⟨k0, k1, k2, k3, k4, k5, k6, k7, k8, k9, k10, k11, k12, k13, k14⟩ := cells15 r2; clear r2 b2) | (go_at_call 37; (with_reducible refine (unhide cC _).mono ?_); rintro e w3 ⟨rfl, b3⟩; have R3 := hide (vrow_later (unhide R2) b3); have B3 := hide ((unhide B2).trans (b3.mono (unhide B2).size)); obtain ⟨k0, k1, k2, k3, k4, k5, k6, k7, k8, k9, k10, k11, k12, k13, k14⟩ := cells15 (unhide R3); clear b3))
          go_roundw
          case rel => exact ⟨j + 1, by omega, by go_num, unhide HN', vbup (unhide HB) (unhide B3)⟩
          case measure => simp [intOf]; omega
        · generalize (k == 0) = KZ at *
          cases KZ
          · have HR2 := hide (show RES = false by rw [unhide HR, unhide HX (by rw [unhide HP]; rfl)])
            clear HX HN HP
            go_wp2_with (first | (with_reducible show wpList Try.prog _ _ (Oper.mk _ (Op.load 34 _) _ _ _ none :: _) _ _; refine wpList_ldP rfl (.tmp 9) rfl pb po rfl ⟨⟨pt, pu⟩, true, ⟨k, i, b, tx, ⟨ng, y, mo, d, h, mi, s, mc⟩⟩⟩ (unhide HAT) ?_) | (with_reducible show wpList Try.prog _ _ (Oper.mk _ (Op.store 34 _ _) _ _ _ none :: _) _ _; refine wpList_stN rfl _ (.tmp 4) (.tmp 10) rfl #[.int .u8 pt, .bool pu, .bool true, .int .i64 k, .int .i64 i, .int .u64 b, .string tx, .bool ng, .int .i64 y, .int .i64 mo, .int .i64 d, .int .i64 h, .int .i64 mi, .int .i64 s, .int .i64 mc] (by simp [Act.eval, Act.put]) rfl (unhide SV) rfl (unhide OV) ?_; intro w2 r2 b2 l2; have R2 := hide r2; have B2 := hide b2; obtain ⟨k0, k1, k2, k3, k4, k5, k6, k7, k8, k9, k10, k11, k12, k13, k14⟩ := cells15 r2; clear r2 b2) | (go_at_call 37; (with_reducible refine (unhide cC _).mono ?_); rintro e w3 ⟨rfl, b3⟩; have R3 := hide (vrow_later (unhide R2) b3); have B3 := hide ((unhide B2).trans (b3.mono (unhide B2).size)); obtain ⟨k0, k1, k2, k3, k4, k5, k6, k7, k8, k9, k10, k11, k12, k13, k14⟩ := cells15 (unhide R3); clear b3) | (go_at_call 38; (with_reducible refine (unhide cN _).mono ?_); rintro e w4 ⟨rfl, b4⟩; have B4 := hide ((unhide B3).trans (b4.mono (unhide B3).size)); clear b4))
            go_ret
            exact ⟨by rw [unhide HR2]; rfl, vbup (unhide HB) (unhide B4)⟩
          · have HN' := hide (show plOk (l.take (j + 1)) = true by rw [unhide HN, unhide HQ, unhide HP]; rfl)
            clear HX HN HP HR
            go_wp2_with (first | (with_reducible show wpList Try.prog _ _ (Oper.mk _ (Op.load 34 _) _ _ _ none :: _) _ _; refine wpList_ldP rfl (.tmp 9) rfl pb po rfl ⟨⟨pt, pu⟩, true, ⟨k, i, b, tx, ⟨ng, y, mo, d, h, mi, s, mc⟩⟩⟩ (unhide HAT) ?_) | (with_reducible show wpList Try.prog _ _ (Oper.mk _ (Op.store 34 _ _) _ _ _ none :: _) _ _; refine wpList_stN rfl _ (.tmp 4) (.tmp 10) rfl #[.int .u8 pt, .bool pu, .bool true, .int .i64 k, .int .i64 i, .int .u64 b, .string tx, .bool ng, .int .i64 y, .int .i64 mo, .int .i64 d, .int .i64 h, .int .i64 mi, .int .i64 s, .int .i64 mc] (by simp [Act.eval, Act.put]) rfl (unhide SV) rfl (unhide OV) ?_; intro w2 r2 b2 l2; have R2 := hide r2; have B2 := hide b2; obtain ⟨k0, k1, k2, k3, k4, k5, k6, k7, k8, k9, k10, k11, k12, k13, k14⟩ := cells15 r2; clear r2 b2) | (go_at_call 37; (with_reducible refine (unhide cC _).mono ?_); rintro e w3 ⟨rfl, b3⟩; have R3 := hide (vrow_later (unhide R2) b3); have B3 := hide ((unhide B2).trans (b3.mono (unhide B2).size)); obtain ⟨k0, k1, k2, k3, k4, k5, k6, k7, k8, k9, k10, k11, k12, k13, k14⟩ := cells15 (unhide R3); clear b3) | (go_at_call 38; (with_reducible refine (unhide cN _).mono ?_); rintro e w4 ⟨rfl, b4⟩; have B4 := hide ((unhide B3).trans (b4.mono (unhide B3).size)); clear b4))
            go_roundw
            case rel => exact ⟨j + 1, by omega, by go_num, unhide HN', vbup (unhide HB) (unhide B4)⟩
            case measure => simp [intOf]; omega
    · have hjn : j = n := by omega
      subst hjn
      have hlj : ¬ ((j : Nat) : Int) < (j : Int) := by omega
      have HR2 := hide (show RES = true by rw [unhide HR, ← unhide HQ, List.take_of_length_le (by omega)])
      go_wp2_with fail
      go_ret
      exact ⟨by rw [unhide HR2]; rfl, unhide HB⟩


end Go.Proofs.Ytfgghgoonfamkaa
