/-
  What nullsOf of package param returns: the bits of parameters. It writes nothing that was there. Conditions: as PmMay; at most 60.
-/
import Derived.Test.YtfgghgoonfamkaaPmMay
namespace Go.Proofs.Ytfgghgoonfamkaa
open Go.RowKit
set_option linter.unusedVariables false
set_option linter.unusedSimpArgs false

/-- Bits of parameters in new memory. -/
def OutZ (w : World) (l : List Pa) (e : Ending) (w' : World) : Prop := ∃ xo xn xc nl, e = .returned (.slice xo xn xc) ∧ Isp l nl ∧ Mine w.heap.size w' xo xn xc nl ∧ Below w.heap.size w w'

set_option maxHeartbeats 4000000 in
set_option maxRecDepth 100000 in
theorem pnullsOf_any (ao : Option Addr) (n c : Nat) (l : List Pa) (w : World) (hl : Pas w ao n c l) (hK : ∀ p ∈ l, VaK p.v ∧ p.v.t.size ≤ 3000 ∧ 0 ≤ p.t.t ∧ p.t.t < 256) (hn : n ≤ 60) :
    Calls Try.prog 40 #[.slice ao n c] w fun e w' => OutZ w l e w' := by
  have hln := hl.len
  have hle := hl.le
  have hmx := hl.max
  have HL := hide hl
  have HK := hide hK

  obtain ⟨NB, hNB⟩ : ∃ z, z = (n + 7) / 8 := ⟨_, rfl⟩
  have cNB := hide (fun wx => pnullBytes_any n wx (by omega))
  rw [← hNB] at cNB
  have hNB2 : NB ≤ 100 := by omega
  have HNB := hide hNB
  clear hl hK hNB
  go_enter Try.func40, Try.ntmps40
  go_wp2_with (first | (go_at_call 43; (with_reducible refine same_world (unhide cNB _) ?_)) | (at_make; refine wpList_mkFull rfl _ _ rfl _ _ _ _ NB rfl rfl (by omega) (by omega) (by omega) ?_; intro w1 m1 b1 z1; have M1 := hide m1; have B1 := hide b1; clear m1 b1 z1))
  go_loopw [12] (fun iv ws => ∃ (j : Nat) (nl : List Int), j ≤ n ∧ iv = .int .i64 (j : Int) ∧ Mine w.heap.size ws (some ⟨w.heap.size, 0, none⟩) NB NB nl ∧ (∀ q, bit nl q = pnb (l.take j) q) ∧ Below w.heap.size w ws) (fun iv _ => n - (intOf iv).toNat)
  case atStart => exact ⟨0, _, by omega, rfl, unhide M1, (fun q => by rw [bit_zero]; simp [pnb]), unhide B1⟩
  case round =>
    clear M1 B1 cNB
    obtain ⟨j, nl, hj, rfl, hM, hbit, hB⟩ := hrel
    have hob := hB.size
    have HB := hide hB
    have HM := hide hM
    have HBT := hide hbit
    clear hB hM hbit
    by_cases hlt : j < n
    · have hz := hlt
      clear hz
      obtain ⟨p, hp⟩ : ∃ p, l[j]? = some p := ⟨_, List.getElem?_eq_getElem (by omega)⟩
      have hlj : ((j : Nat) : Int) < (n : Int) := by omega
      obtain ⟨pb, po, hix, hat⟩ := ((unhide HL).later (unhide HB)).idx hp (j : Int) rfl
      have HAT := hide hat
      obtain ⟨hKv, hKs, hp0, hp1⟩ := unhide HK p (List.mem_of_getElem? hp)
      have SV := hide (pac_info p)
      have OV := hide (pac_one p)

      have cN := hide (fun wx => pisNull_any p wx)
      have HNX := hide (fun q => pnb_next hp q)
      have cS := hide (fun wx (hx : Mine w.heap.size wx (some ⟨w.heap.size, 0, none⟩) NB NB nl) => psetNull_any w.heap.size w.heap.size NB NB nl j wx hx (by rw [unhide HNB]; omega) (by omega))
      clear hat hp hKv hKs hp0 hp1
      obtain ⟨⟨pt, pu⟩, lo, ⟨k, i, b, tx, ⟨ng, y, mo, d, h, mi, s, mc⟩⟩⟩ := p
      unfold paC at cN SV OV
      simp only at cN SV OV HNX
      generalize (k == 0) = KZ at *
      cases KZ
      · clear cS
        go_wp2_with (first | (with_reducible show wpList Try.prog _ _ (Oper.mk _ (Op.load 34 _) _ _ _ none :: _) _ _; refine wpList_ldP rfl (.tmp 15) rfl pb po rfl ⟨⟨pt, pu⟩, lo, ⟨k, i, b, tx, ⟨ng, y, mo, d, h, mi, s, mc⟩⟩⟩ (unhide HAT) ?_) | (with_reducible show wpList Try.prog _ _ (Oper.mk _ (Op.store 34 _ _) _ _ _ none :: _) _ _; refine wpList_stN rfl _ (.tmp 5) (.tmp 16) rfl #[.int .u8 pt, .bool pu, .bool lo, .int .i64 k, .int .i64 i, .int .u64 b, .string tx, .bool ng, .int .i64 y, .int .i64 mo, .int .i64 d, .int .i64 h, .int .i64 mi, .int .i64 s, .int .i64 mc] (by simp [Act.eval, Act.put]) rfl (unhide SV) rfl (unhide OV) ?_; intro w2 r2 b2 l2; have R2 := hide r2; have B2 := hide b2; obtain ⟨k0, k1, k2, k3, k4, k5, k6, k7, k8, k9, k10, k11, k12, k13, k14⟩ := cells15 r2; clear r2 b2) | (go_at_call 38; (with_reducible refine (unhide cN _).mono ?_); rintro e w3 ⟨rfl, b3⟩; have R3 := hide (vrow_later (unhide R2) b3); have B3 := hide ((unhide B2).trans (b3.mono (unhide B2).size)); obtain ⟨k0, k1, k2, k3, k4, k5, k6, k7, k8, k9, k10, k11, k12, k13, k14⟩ := cells15 (unhide R3); clear b3))
        go_roundw
        case rel => exact ⟨j + 1, nl, by omega, by go_num, (unhide HM).later (unhide B3), (fun q => by rw [unhide HBT q, unhide HNX q]; simp), vbup (unhide HB) (unhide B3)⟩
        case measure => simp [intOf]; omega
      · cases lo
        · go_wp2_with (first | (with_reducible show wpList Try.prog _ _ (Oper.mk _ (Op.load 34 _) _ _ _ none :: _) _ _; refine wpList_ldP rfl (.tmp 15) rfl pb po rfl ⟨⟨pt, pu⟩, false, ⟨k, i, b, tx, ⟨ng, y, mo, d, h, mi, s, mc⟩⟩⟩ (unhide HAT) ?_) | (with_reducible show wpList Try.prog _ _ (Oper.mk _ (Op.store 34 _ _) _ _ _ none :: _) _ _; refine wpList_stN rfl _ (.tmp 5) (.tmp 16) rfl #[.int .u8 pt, .bool pu, .bool false, .int .i64 k, .int .i64 i, .int .u64 b, .string tx, .bool ng, .int .i64 y, .int .i64 mo, .int .i64 d, .int .i64 h, .int .i64 mi, .int .i64 s, .int .i64 mc] (by simp [Act.eval, Act.put]) rfl (unhide SV) rfl (unhide OV) ?_; intro w2 r2 b2 l2; have R2 := hide r2; have B2 := hide b2; obtain ⟨k0, k1, k2, k3, k4, k5, k6, k7, k8, k9, k10, k11, k12, k13, k14⟩ := cells15 r2; clear r2 b2) | (go_at_call 38; (with_reducible refine (unhide cN _).mono ?_); rintro e w3 ⟨rfl, b3⟩; have R3 := hide (vrow_later (unhide R2) b3); have B3 := hide ((unhide B2).trans (b3.mono (unhide B2).size)); obtain ⟨k0, k1, k2, k3, k4, k5, k6, k7, k8, k9, k10, k11, k12, k13, k14⟩ := cells15 (unhide R3); clear b3) | (go_at_call 58; (with_reducible refine (unhide cS _ ((unhide HM).later (unhide B3))).mono ?_); rintro e w4 ⟨rfl, nl', n4, bt4, g4⟩; have N4 := hide n4; have BT4 := hide bt4; have HB4 := hide (below_gb' (vbup (unhide HB) (unhide B3)) g4 (Nat.le_trans hob (unhide B3).size)); clear n4 g4 bt4))
          go_roundw
          case rel => exact ⟨j + 1, nl', by omega, by go_num, unhide N4, (fun q => by rw [unhide BT4 q, unhide HBT q, unhide HNX q]; simp), unhide HB4⟩
          case measure => simp [intOf]; omega
        · clear cS
          go_wp2_with (first | (with_reducible show wpList Try.prog _ _ (Oper.mk _ (Op.load 34 _) _ _ _ none :: _) _ _; refine wpList_ldP rfl (.tmp 15) rfl pb po rfl ⟨⟨pt, pu⟩, true, ⟨k, i, b, tx, ⟨ng, y, mo, d, h, mi, s, mc⟩⟩⟩ (unhide HAT) ?_) | (with_reducible show wpList Try.prog _ _ (Oper.mk _ (Op.store 34 _ _) _ _ _ none :: _) _ _; refine wpList_stN rfl _ (.tmp 5) (.tmp 16) rfl #[.int .u8 pt, .bool pu, .bool true, .int .i64 k, .int .i64 i, .int .u64 b, .string tx, .bool ng, .int .i64 y, .int .i64 mo, .int .i64 d, .int .i64 h, .int .i64 mi, .int .i64 s, .int .i64 mc] (by simp [Act.eval, Act.put]) rfl (unhide SV) rfl (unhide OV) ?_; intro w2 r2 b2 l2; have R2 := hide r2; have B2 := hide b2; obtain ⟨k0, k1, k2, k3, k4, k5, k6, k7, k8, k9, k10, k11, k12, k13, k14⟩ := cells15 r2; clear r2 b2) | (go_at_call 38; (with_reducible refine (unhide cN _).mono ?_); rintro e w3 ⟨rfl, b3⟩; have R3 := hide (vrow_later (unhide R2) b3); have B3 := hide ((unhide B2).trans (b3.mono (unhide B2).size)); obtain ⟨k0, k1, k2, k3, k4, k5, k6, k7, k8, k9, k10, k11, k12, k13, k14⟩ := cells15 (unhide R3); clear b3))
          go_roundw
          case rel => exact ⟨j + 1, nl, by omega, by go_num, (unhide HM).later (unhide B3), (fun q => by rw [unhide HBT q, unhide HNX q]; simp), vbup (unhide HB) (unhide B3)⟩
          case measure => simp [intOf]; omega
    · have hjn : j = n := by omega
      subst hjn
      have hlj : ¬ ((j : Nat) : Int) < (j : Int) := by omega
      have hbt := unhide HBT
      rw [List.take_of_length_le (by omega)] at hbt
      have HI := hide (show Isp l nl from ⟨by rw [(unhide HM).len, hln]; exact unhide HNB, (unhide HM).byt, hbt⟩)
      clear hbt HBT
      go_wp2_with fail
      go_ret
      exact ⟨_, _, _, nl, rfl, unhide HI, unhide HM, unhide HB⟩


end Go.Proofs.Ytfgghgoonfamkaa
