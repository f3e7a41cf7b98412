/-
  What stretched1 of package sha returns: the words of the steps. Conditions: sixteen words.
  What stretched256 of package sha returns: the words of the steps. Conditions: sixteen words.
-/
import Derived.Test.YtgbahfadjdincaaGreatDoorMShA
import Derived.BigRegion
import Derived.Deep.RegionLaw
import Derived.Deep.RegionHeld3
namespace Go.Proofs.YtgbahfadjdincaaGreatDoor.Sha
open Go.RowKit
set_option linter.unusedVariables false
set_option linter.unusedSimpArgs false

theorem rs_len (nx : List Int → Int) (b : List Int) (hb : b.length = 16) : ∀ n, (rs nx b n).length = 16 + n
  | 0 => by simp [rs, hb]
  | n + 1 => by simp [rs, rs_len nx b hb n]; omega
/-- The row of the steps' words, the first 16 + n of N laid. -/
def rw' (nx : List Int → Int) (b : List Int) (n m : Nat) : List Int := (rs nx b n).reverse ++ zs m
theorem rw_len (nx : List Int → Int) (b : List Int) (hb : b.length = 16) (n m : Nat) : (rw' nx b n m).length = 16 + n + m := by simp [rw', rs_len nx b hb, zs_len]
theorem rw_at (nx : List Int → Int) (b : List Int) (hb : b.length = 16) (n m j p : Nat) (hp : p + 1 + j = 16 + n) : ix (rw' nx b n m) p = ix (rs nx b n) j := by
  have hl := rs_len nx b hb n
  unfold rw' ix
  rw [List.getElem?_append_left (by simp [hl]; omega), List.getElem?_reverse (by omega), hl]
  congr 2
  omega
theorem zs_succ (m : Nat) : zs (m + 1) = 0 :: zs m := rfl
theorem rw_step (nx : List Int → Int) (b : List Int) (hb : b.length = 16) (n m : Nat) : (rw' nx b n (m + 1)).set (16 + n) (nx (rs nx b n)) = rw' nx b (n + 1) m := by
  have hl := rs_len nx b hb n
  unfold rw'
  rw [List.set_append_right _ _ (by simp [hl]), zs_succ]
  simp [hl, rs]
theorem rw_zero (nx : List Int → Int) (b : List Int) (m : Nat) : rw' nx b 0 m = b ++ zs m := by simp [rw', rs]
theorem rw_all (nx : List Int → Int) (b : List Int) (n : Nat) : rw' nx b n 0 = (rs nx b n).reverse := by simp [rw', zs]
/-- All that is in a row is a word. -/
def Wds (l : List Int) : Prop := ∀ i, Wd (ix l i)
theorem Wds.cons {x : Int} {l : List Int} (hx : Wd x) (h : Wds l) : Wds (x :: l) := by
  intro i
  cases i with
  | zero => exact hx
  | succ i => exact h i
theorem wds_mem {l : List Int} (h : ∀ x ∈ l, Wd x) : Wds l := by
  intro i
  unfold ix
  rcases Nat.lt_or_ge i l.length with hi | hi
  · rw [List.getElem?_eq_getElem hi]
    exact h _ (List.getElem_mem hi)
  · rw [List.getElem?_eq_none hi]
    exact ⟨by decide, by decide⟩
theorem Wds.mem {l : List Int} (h : Wds l) : ∀ x ∈ l, Wd x := by
  intro x hx
  obtain ⟨i, hi, rfl⟩ := List.getElem_of_mem hx
  have := h i
  rwa [ix, List.getElem?_eq_getElem hi] at this
theorem rs_wds (nx : List Int → Int) (hn : ∀ l, Wd (nx l)) (b : List Int) (hb : Wds b) : ∀ n, Wds (rs nx b n)
  | 0 => wds_mem fun x hx => hb.mem x (by simpa [rs] using hx)
  | n + 1 => Wds.cons (hn _) (rs_wds nx hn b hb n)
theorem nx1_wd (l : List Int) : Wd (nx1 l) := rot_wd _ _
theorem nx2_wd (l : List Int) : Wd (nx2 l) := mod_wd _

/-- A row laid over another one's front. -/
theorem splice_front (b : List Int) (k : IntKind) (n : Nat) (hn : b.length ≤ n) : splice ((zs n).map (Value.int k)) 0 (b.map (Value.int k)) = (b ++ zs (n - b.length)).map (Value.int k) := by
  unfold splice zs
  simp [List.map_append, List.drop_replicate]

theorem cells_vk {w : World} {g : Nat} {t : TypeId} {k : IntKind} {l : List Int} (h : Arr w g t k l) : w.heap[g]? = some (.cells (l.map (Value.int k)).toArray t (0, 0)) := h
theorem Arr.news {w : World} {g : Nat} {t : TypeId} {k : IntKind} {l : List Int} (h : Arr w g t k l) : ∀ j v, (l.map (Value.int k))[j]? = some v → w.cell? ((⟨g, 0, none⟩ : Addr).add j) = some v := by
  intro j v hv
  rw [Addr.add_mid, Nat.zero_add, cell_of_row w g j _ _ _ h]
  simpa [vk] using hv

theorem cell_off {w : World} {g p t : Nat} {u v : Value} (h : w.cell? ⟨g, p, none⟩ = some v) (hn : ¬ t = p) : (w.setCell ⟨g, t, none⟩ u).drew.cell? ⟨g, p, none⟩ = some v := by
  show (w.setCell ⟨g, t, none⟩ u).cell? ⟨g, p, none⟩ = some v
  rw [World.cell?_setCell_other _ _ _ _ (by simp [hn])]
  exact h

set_option maxHeartbeats 2000000 in
set_option maxRecDepth 20000 in
theorem stretched1_any (b : List Int) (w : World) (hl : b.length = 16) (hb : Wds b) :
    Calls Tryz.prog 135 #[.agg (vk .u32 b)] w fun e w' => e = .returned (.agg (vk .u32 (sch1 b))) ∧ Below w.heap.size w w' := by
  have HL := hide hl
  have HB := hide hb
  clear hl hb
  go_enter Tryz.func135, Tryz.ntmps135
  go_wp2_with (first
    | (with_reducible show wpList Tryz.prog _ _ (Oper.mk _ (Op.box 114 _) _ _ _ none :: _) _ _; refine wpList_aBox rfl (.tmp 0) rfl b rfl ?_; intro w1 a1 b1 s1; have S1 := hide s1; clear s1)
    | (with_reducible show wpList Tryz.prog _ _ (Oper.mk (some 2) (Op.alloc 121) _ _ _ none :: _) _ _; refine wpList_aAlloc ta80 rfl rfl ?_; intro w2 a2 b2 s2; have S2 := hide s2; clear s2)
    | (with_reducible show wpList Tryz.prog _ _ (Oper.mk (some 3) (Op.alloc 121) _ _ _ none :: _) _ _; refine wpList_aAlloc ta80 rfl rfl ?_; intro w3 a3 b3 s3; have A2 := hide (a2.later b3); have A1 := hide ((a1.later b2).later b3); have A3 := hide a3; have B3 := hide ((b1.trans (b2.mono b1.size)).trans (b3.mono (Nat.le_trans b1.size b2.size))); clear a1 a2 a3 b1 b2 b3 s3))
  have hg2 : w.heap.size < w1.heap.size := by have := unhide S1; omega
  have hg3 : w1.heap.size < w2.heap.size := by have := unhide S2; omega
  go_region_law (refine step_copy_splice rfl (.tmp 5) (.tmp 6) 67 67 rfl 66 Tryz.underlying67 ta16.elem (some ⟨w2.heap.size, 0, none⟩) (some ⟨w.heap.size, 0, none⟩) 80 80 16 16 (by simp [Act.eval, Act.put]) (by simp [Act.eval, Act.put]) w2.heap.size 0 ((zs 80).map (Value.int .u32)) 121 (cells_vk (unhide A3)) (b.map (Value.int .u32)) (by simp [unhide HL]) (fun _ => ⟨rfl, _, rfl, (unhide A1).news⟩) (by simp [unhide HL, zs_len]) (ints_oneCell _ _) w2.heap.size w3 ⟨rfl, rfl, rfl, Nat.le_refl _, fun _ _ => rfl⟩ (Nat.le_refl _) ?_; intro w4 h4 b4)
  have A3' := hide (show Arr w4 w2.heap.size 121 .u32 (rw' nx1 b 0 64) by have q := unhide h4; rw [splice_front b .u32 80 (by rw [unhide HL]; omega), unhide HL] at q; rw [rw_zero]; exact q)
  have A2' := hide (show Arr w4 w1.heap.size 121 .u32 (zs 80) from (unhide A2).keep (b4.block _ hg3))
  have B4 := hide ((unhide B3).trans (b4.mono (by omega)))
  clear h4 b4 A1 A2 A3 B3
  go_wp2_with fail
  go_loopw [4] (fun i ws => ∃ n : Nat, n ≤ 64 ∧ i = .int .i64 ((16 + n : Nat) : Int) ∧ Arr ws w1.heap.size 121 .u32 (zs 80) ∧ Arr ws w2.heap.size 121 .u32 (rw' nx1 b n (64 - n)) ∧ Below w.heap.size w ws) (fun i _ => 80 - (intOf i).toNat)
  case atStart => exact ⟨0, by omega, rfl, unhide A2', unhide A3', unhide B4⟩
  case round =>
    clear A2' A3' B4
    obtain ⟨n, hn, rfl, h2, h3, hb⟩ := hrel
    by_cases hlt : n < 64
    · obtain ⟨t, ht⟩ : ∃ t : Nat, 16 + n = t := ⟨_, rfl⟩
      have hlen := unhide HL
      obtain ⟨m, hm⟩ : ∃ m, 64 - n = m + 1 := ⟨63 - n, by omega⟩
      rw [hm] at h3
      have hst := hide (rw_step nx1 b hlen n m)
      have hll := rw_len nx1 b hlen n (m + 1)
      have c3 := h3.cell (i := t - 3) (by omega)
      have c8 := h3.cell (i := t - 8) (by omega)
      have c14 := h3.cell (i := t - 14) (by omega)
      have c16 := h3.cell (i := t - 16) (by omega)
      rw [rw_at nx1 b hlen n (m + 1) 2 (t - 3) (by omega)] at c3
      rw [rw_at nx1 b hlen n (m + 1) 7 (t - 8) (by omega)] at c8
      rw [rw_at nx1 b hlen n (m + 1) 13 (t - 14) (by omega)] at c14
      rw [rw_at nx1 b hlen n (m + 1) 15 (t - 16) (by omega)] at c16
      have ct := h3.cell (i := t) (by omega)
      have fr := h3.free t
      have hnx := hide (show nx1 (rs nx1 b n) = rot (bits .xor .u32 (bits .xor .u32 (bits .xor .u32 (ix (rs nx1 b n) 2) (ix (rs nx1 b n) 7)) (ix (rs nx1 b n) 13)) (ix (rs nx1 b n) 15)) 1 from rfl)
      rw [ht] at hst
      obtain ⟨p3, hp3⟩ : ∃ p : Nat, t - 3 = p := ⟨_, rfl⟩
      obtain ⟨p8, hp8⟩ : ∃ p : Nat, t - 8 = p := ⟨_, rfl⟩
      obtain ⟨p14, hp14⟩ : ∃ p : Nat, t - 14 = p := ⟨_, rfl⟩
      obtain ⟨p16, hp16⟩ : ∃ p : Nat, t - 16 = p := ⟨_, rfl⟩
      have n3 : ¬ t = p3 := by omega
      have e3 : (t : Int) - 3 = (p3 : Int) := by omega
      have v3 : IntKind.i64.wrap (p3 : Int) = (p3 : Int) := by rw [IntKind.wrap_i64]; omega
      have n8 : ¬ t = p8 := by omega
      have e8 : (t : Int) - 8 = (p8 : Int) := by omega
      have v8 : IntKind.i64.wrap (p8 : Int) = (p8 : Int) := by rw [IntKind.wrap_i64]; omega
      have n14 : ¬ t = p14 := by omega
      have e14 : (t : Int) - 14 = (p14 : Int) := by omega
      have v14 : IntKind.i64.wrap (p14 : Int) = (p14 : Int) := by rw [IntKind.wrap_i64]; omega
      have n16 : ¬ t = p16 := by omega
      have e16 : (t : Int) - 16 = (p16 : Int) := by omega
      have v16 : IntKind.i64.wrap (p16 : Int) = (p16 : Int) := by rw [IntKind.wrap_i64]; omega
      rw [hp3] at c3
      rw [hp8] at c8
      rw [hp14] at c14
      rw [hp16] at c16
      generalize ix (rs nx1 b n) 2 = X3 at *
      generalize ix (rs nx1 b n) 7 = X8 at *
      generalize ix (rs nx1 b n) 13 = X14 at *
      generalize ix (rs nx1 b n) 15 = X16 at *
      generalize ix (rw' nx1 b n (m + 1)) t = X at *
      have rc := hide (fun wx => rol_any (bits .xor .u32 (bits .xor .u32 (bits .xor .u32 X3 X8) X14) X16) 1 1 rfl wx (xor_wd _ _) (by omega) (by omega))
      have H2 := hide h2
      have H3 := hide h3
      have i3 : 0 ≤ (p3 : Int) ∧ (p3 : Int) < 80 := by omega
      have i8 : 0 ≤ (p8 : Int) ∧ (p8 : Int) < 80 := by omega
      have i14 : 0 ≤ (p14 : Int) ∧ (p14 : Int) < 80 := by omega
      have i16 : 0 ≤ (p16 : Int) ∧ (p16 : Int) < 80 := by omega
      have it : 0 ≤ (t : Int) ∧ (t : Int) < 80 := by omega
      have ht1 : t < 80 := by omega
      have HT := hide ht
      rw [show ((16 + n : Nat) : Int) = (t : Int) by omega]
      have HM := hide hm
      clear h2 h3 hp3 hp8 hp14 hp16 hll hm hlen
      clear ht
      go_wp2_with fail
      go_region_held3 (fun w' => w'.cell? ⟨w2.heap.size, p3, none⟩ = some (.int .u32 X3) ∧ w'.cell? ⟨w2.heap.size, p8, none⟩ = some (.int .u32 X8) ∧ w'.cell? ⟨w2.heap.size, p14, none⟩ = some (.int .u32 X14) ∧ w'.cell? ⟨w2.heap.size, p16, none⟩ = some (.int .u32 X16)) (first | exact ⟨cell_off c3 n3, cell_off c8 n8, cell_off c14 n14, cell_off c16 n16⟩ | go_keep) (first | (go_at_call 136; refine same_world (unhide rc _) ?_))
      go_wp2_with fail
      go_roundw
      case rel =>
        refine ⟨n + 1, by omega, by have := unhide HT; go_num, (unhide H2).other _ _ (by simp <;> omega), ?_, (hb.setCell (by simp <;> omega) _).drew⟩
        rw [show 64 - (n + 1) = m by have := unhide HM; omega, ← unhide hst]
        rw [unhide hnx]
        exact (unhide H3).stored t _
      case measure => simp [intOf]; omega
    · have H2 := hide h2
      have H3 := hide (show Arr wr w2.heap.size 121 .u32 (sch1 b) by rw [show n = 64 by omega] at h3; unfold sch1; rw [← rw_all]; exact h3)
      have hsl := hide (show (sch1 b).length = 80 by unfold sch1; rw [List.length_reverse, rs_len nx1 b (unhide HL)])
      have hn64 : ¬ ((16 + n : Nat) : Int) < 80 := by omega
      clear h2 h3
      go_wp2_with (first
        | (with_reducible show wpList Tryz.prog _ _ (Oper.mk _ (Op.load 121 _) _ _ _ none :: _) _ _; refine wpList_aLoad ta80 rfl (.tmp 3) rfl w2.heap.size rfl _ (unhide H3) (unhide hsl) ?_)
        | (with_reducible show wpList Tryz.prog _ _ (Oper.mk _ (Op.store 121 _ _) _ _ _ none :: _) _ _; refine wpList_aStore ta80 rfl (.tmp 2) (.tmp 34) rfl w1.heap.size (sch1 b) _ rfl rfl (unhide H2) (unhide hsl) (zs_len 80) ?_; intro w5 a5 o5 s5 b5))
      refine bodyPost_ret (results_arr ta80 rfl _ _ w1.heap.size _ (unhide hsl) rfl a5) rfl ?_
      exact ⟨rfl, hb.trans (b5.mono (by omega))⟩

end Go.Proofs.YtgbahfadjdincaaGreatDoor.Sha

namespace Go.Proofs.YtgbahfadjdincaaGreatDoor.Sha
open Go.RowKit
set_option linter.unusedVariables false
set_option linter.unusedSimpArgs false

theorem cell_offH {w w' : World} {g p t : Nat} {u v : Value} (h : w.cell? ⟨g, p, none⟩ = some v) (hn : ¬ t = p) (hh : w'.heap = (w.setCell ⟨g, t, none⟩ u).heap) : w'.cell? ⟨g, p, none⟩ = some v := by
  rw [World.cell?_of_block (w := w.setCell ⟨g, t, none⟩ u) (by rw [hh]), World.cell?_setCell_other _ _ _ _ (by simp [hn])]
  exact h

/-- A call that leaves the world, in a region that only reads, behind another one. -/
theorem quiet_on {P : Program} {f : Nat} {args : Array Value} {w : World} {k x : Nat} {v : Value} (h : Calls P f args (w.drewN (k + x)) fun e w' => e = .returned v ∧ w' = w.drewN (k + x)) :
    Calls P f args (w.drewN (k + x)) fun e w' => e = .returned v ∧ ∃ n, w' = w.drewN (k + n) :=
  h.mono fun e w' q => ⟨q.1, x, q.2⟩

set_option maxHeartbeats 2000000 in
set_option maxRecDepth 20000 in
theorem stretched256_any (b : List Int) (w : World) (hl : b.length = 16) (hb : Wds b) :
    Calls Tryz.prog 138 #[.agg (vk .u32 b)] w fun e w' => e = .returned (.agg (vk .u32 (sch2 b))) ∧ Below w.heap.size w w' := by
  have HL := hide hl
  have HB := hide hb
  clear hl hb
  go_enter Tryz.func138, Tryz.ntmps138
  go_wp2_with (first
    | (with_reducible show wpList Tryz.prog _ _ (Oper.mk _ (Op.box 114 _) _ _ _ none :: _) _ _; refine wpList_aBox rfl (.tmp 0) rfl b rfl ?_; intro w1 a1 b1 s1; have S1 := hide s1; clear s1)
    | (with_reducible show wpList Tryz.prog _ _ (Oper.mk (some 2) (Op.alloc 125) _ _ _ none :: _) _ _; refine wpList_aAlloc ta64 rfl rfl ?_; intro w2 a2 b2 s2; have S2 := hide s2; clear s2)
    | (with_reducible show wpList Tryz.prog _ _ (Oper.mk (some 3) (Op.alloc 125) _ _ _ none :: _) _ _; refine wpList_aAlloc ta64 rfl rfl ?_; intro w3 a3 b3 s3; have A2 := hide (a2.later b3); have A1 := hide ((a1.later b2).later b3); have A3 := hide a3; have B3 := hide ((b1.trans (b2.mono b1.size)).trans (b3.mono (Nat.le_trans b1.size b2.size))); clear a1 a2 a3 b1 b2 b3 s3))
  have hg2 : w.heap.size < w1.heap.size := by have := unhide S1; omega
  have hg3 : w1.heap.size < w2.heap.size := by have := unhide S2; omega
  go_region_law (refine step_copy_splice rfl (.tmp 7) (.tmp 8) 67 67 rfl 66 Tryz.underlying67 ta16.elem (some ⟨w2.heap.size, 0, none⟩) (some ⟨w.heap.size, 0, none⟩) 64 64 16 16 (by simp [Act.eval, Act.put]) (by simp [Act.eval, Act.put]) w2.heap.size 0 ((zs 64).map (Value.int .u32)) 125 (cells_vk (unhide A3)) (b.map (Value.int .u32)) (by simp [unhide HL]) (fun _ => ⟨rfl, _, rfl, (unhide A1).news⟩) (by simp [unhide HL, zs_len]) (ints_oneCell _ _) w2.heap.size w3 ⟨rfl, rfl, rfl, Nat.le_refl _, fun _ _ => rfl⟩ (Nat.le_refl _) ?_; intro w4 h4 b4)
  have A3' := hide (show Arr w4 w2.heap.size 125 .u32 (rw' nx2 b 0 48) by have q := unhide h4; rw [splice_front b .u32 64 (by rw [unhide HL]; omega), unhide HL] at q; rw [rw_zero]; exact q)
  have A2' := hide (show Arr w4 w1.heap.size 125 .u32 (zs 64) from (unhide A2).keep (b4.block _ hg3))
  have B4 := hide ((unhide B3).trans (b4.mono (by omega)))
  clear h4 b4 A1 A2 A3 B3
  go_wp2_with fail
  go_loopw [4] (fun i ws => ∃ n : Nat, n ≤ 48 ∧ i = .int .i64 ((16 + n : Nat) : Int) ∧ Arr ws w1.heap.size 125 .u32 (zs 64) ∧ Arr ws w2.heap.size 125 .u32 (rw' nx2 b n (48 - n)) ∧ Below w.heap.size w ws) (fun i _ => 64 - (intOf i).toNat)
  case atStart => exact ⟨0, by omega, rfl, unhide A2', unhide A3', unhide B4⟩
  case round =>
    clear A2' A3' B4
    obtain ⟨n, hn, rfl, h2, h3, hb⟩ := hrel
    by_cases hlt : n < 48
    · obtain ⟨t, ht⟩ : ∃ t : Nat, 16 + n = t := ⟨_, rfl⟩
      have hlen := unhide HL
      obtain ⟨m, hm⟩ : ∃ m, 48 - n = m + 1 := ⟨47 - n, by omega⟩
      rw [hm] at h3
      have hst := hide (rw_step nx2 b hlen n m)
      have hll := rw_len nx2 b hlen n (m + 1)
      have hrw := rs_wds nx2 nx2_wd b (unhide HB) n
      have c2 := h3.cell (i := t - 2) (by omega)
      have c7 := h3.cell (i := t - 7) (by omega)
      have c15 := h3.cell (i := t - 15) (by omega)
      have c16 := h3.cell (i := t - 16) (by omega)
      rw [rw_at nx2 b hlen n (m + 1) 1 (t - 2) (by omega)] at c2
      rw [rw_at nx2 b hlen n (m + 1) 6 (t - 7) (by omega)] at c7
      rw [rw_at nx2 b hlen n (m + 1) 14 (t - 15) (by omega)] at c15
      rw [rw_at nx2 b hlen n (m + 1) 15 (t - 16) (by omega)] at c16
      have ct := h3.cell (i := t) (by omega)
      have fr := h3.free t
      have hnx := hide (show nx2 (rs nx2 b n) = (((sg1 (ix (rs nx2 b n) 1) + ix (rs nx2 b n) 6) % 4294967296 + sg0 (ix (rs nx2 b n) 14)) % 4294967296 + ix (rs nx2 b n) 15) % 4294967296 from rfl)
      rw [ht] at hst
      obtain ⟨p2, hp2⟩ : ∃ p : Nat, t - 2 = p := ⟨_, rfl⟩
      obtain ⟨p7, hp7⟩ : ∃ p : Nat, t - 7 = p := ⟨_, rfl⟩
      obtain ⟨p15, hp15⟩ : ∃ p : Nat, t - 15 = p := ⟨_, rfl⟩
      obtain ⟨p16, hp16⟩ : ∃ p : Nat, t - 16 = p := ⟨_, rfl⟩
      have n7 : ¬ t = p7 := by omega
      have n16 : ¬ t = p16 := by omega
      have e2 : (t : Int) - 2 = (p2 : Int) := by omega
      have e7 : (t : Int) - 7 = (p7 : Int) := by omega
      have e15 : (t : Int) - 15 = (p15 : Int) := by omega
      have e16 : (t : Int) - 16 = (p16 : Int) := by omega
      have v2 : IntKind.i64.wrap (p2 : Int) = (p2 : Int) := by rw [IntKind.wrap_i64]; omega
      have v7 : IntKind.i64.wrap (p7 : Int) = (p7 : Int) := by rw [IntKind.wrap_i64]; omega
      have v15 : IntKind.i64.wrap (p15 : Int) = (p15 : Int) := by rw [IntKind.wrap_i64]; omega
      have v16 : IntKind.i64.wrap (p16 : Int) = (p16 : Int) := by rw [IntKind.wrap_i64]; omega
      rw [hp2] at c2
      rw [hp7] at c7
      rw [hp15] at c15
      rw [hp16] at c16
      obtain ⟨x20, x21⟩ := hrw 1
      obtain ⟨x70, x71⟩ := hrw 6
      obtain ⟨x150, x151⟩ := hrw 14
      obtain ⟨x160, x161⟩ := hrw 15
      clear hrw
      generalize ix (rs nx2 b n) 1 = X2 at *
      generalize ix (rs nx2 b n) 6 = X7 at *
      generalize ix (rs nx2 b n) 14 = X15 at *
      generalize ix (rs nx2 b n) 15 = X16 at *
      generalize ix (rw' nx2 b n (m + 1)) t = X at *
      have r1 := hide (fun wx => ror_any X15 7 7 rfl wx ⟨x150, x151⟩ (by omega) (by omega))
      have r2 := hide (fun wx => ror_any X15 18 18 rfl wx ⟨x150, x151⟩ (by omega) (by omega))
      have r3 := hide (fun wx => ror_any X2 17 17 rfl wx ⟨x20, x21⟩ (by omega) (by omega))
      have r4 := hide (fun wx => ror_any X2 19 19 rfl wx ⟨x20, x21⟩ (by omega) (by omega))
      have g0 := hide (show bits .xor .u32 (bits .xor .u32 (rot X15 25) (rot X15 14)) (X15 / 8) = sg0 X15 from rfl)
      have g1 := hide (show bits .xor .u32 (bits .xor .u32 (rot X2 15) (rot X2 13)) (X2 / 1024) = sg1 X2 from rfl)
      have H2 := hide h2
      have H3 := hide h3
      have i2 : 0 ≤ (p2 : Int) ∧ (p2 : Int) < 64 := by omega
      have i7 : 0 ≤ (p7 : Int) ∧ (p7 : Int) < 64 := by omega
      have i15 : 0 ≤ (p15 : Int) ∧ (p15 : Int) < 64 := by omega
      have i16 : 0 ≤ (p16 : Int) ∧ (p16 : Int) < 64 := by omega
      have it : 0 ≤ (t : Int) ∧ (t : Int) < 64 := by omega
      have ht1 : t < 64 := by omega
      have HT := hide ht
      rw [show ((16 + n : Nat) : Int) = (t : Int) by omega]
      have HM := hide hm
      clear h2 h3 hp2 hp7 hp15 hp16 hll hm hlen
      clear ht
      go_wp2_with fail
      go_quiet (first | (go_at_call 139; first | refine Calls.quiet_of_same (unhide r1 _) | refine Calls.quiet_of_same (unhide r2 _)))
      go_wp2_with fail
      go_quiet (first | (go_at_call 139; first | refine quiet_on (unhide r3 _) | refine quiet_on (unhide r4 _)))
      go_wp2_with fail
      go_region_held3 (fun w' => w'.cell? ⟨w2.heap.size, p7, none⟩ = some (.int .u32 X7) ∧ w'.cell? ⟨w2.heap.size, p16, none⟩ = some (.int .u32 X16)) (first | exact ⟨cell_offH c7 n7 rfl, cell_offH c16 n16 rfl⟩ | go_keep) (fail)
      go_wp2_with fail
      go_roundw
      case rel =>
        refine ⟨n + 1, by omega, by have := unhide HT; go_num, Arr.other (w := wr.drewN _) (unhide H2) _ _ (by simp <;> omega), ?_, (Below.trans hb (c := wr.drewN _) ⟨rfl, rfl, rfl, Nat.le_refl _, fun _ _ => rfl⟩).setCell (by simp <;> omega) _⟩
        rw [show 48 - (n + 1) = m by have := unhide HM; omega, ← unhide hst, unhide hnx, ← unhide g0, ← unhide g1]
        exact Arr.stored (w := wr.drewN _) (unhide H3) t _
      case measure => simp [intOf]; omega
    · have H2 := hide h2
      have H3 := hide (show Arr wr w2.heap.size 125 .u32 (sch2 b) by rw [show n = 48 by omega] at h3; unfold sch2; rw [← rw_all]; exact h3)
      have hsl := hide (show (sch2 b).length = 64 by unfold sch2; rw [List.length_reverse, rs_len nx2 b (unhide HL)])
      have hn64 : ¬ ((16 + n : Nat) : Int) < 64 := by omega
      clear h2 h3
      go_wp2_with (first
        | (with_reducible show wpList Tryz.prog _ _ (Oper.mk _ (Op.load 125 _) _ _ _ none :: _) _ _; refine wpList_aLoad ta64 rfl (.tmp 3) rfl w2.heap.size rfl _ (unhide H3) (unhide hsl) ?_)
        | (with_reducible show wpList Tryz.prog _ _ (Oper.mk _ (Op.store 125 _ _) _ _ _ none :: _) _ _; refine wpList_aStore ta64 rfl (.tmp 2) (.tmp 63) rfl w1.heap.size (sch2 b) _ rfl rfl (unhide H2) (unhide hsl) (zs_len 64) ?_; intro w5 a5 o5 s5 b5))
      refine bodyPost_ret (results_arr ta64 rfl _ _ w1.heap.size _ (unhide hsl) rfl a5) rfl ?_
      exact ⟨rfl, hb.trans (b5.mono (by omega))⟩

end Go.Proofs.YtgbahfadjdincaaGreatDoor.Sha
