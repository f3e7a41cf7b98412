/-
  What hex of package digest returns: bytes in hexadecimal digits. Conditions: at most a thousand bytes.
-/
import Derived.Test.YtgbahfadjdincaaGreatDoorMShE
import Derived.Deep.RegionLaw
import Derived.Maps.AppendAt
namespace Go.Proofs.YtgbahfadjdincaaGreatDoor.Sha
open Go.RowKit
set_option linter.unusedVariables false
set_option linter.unusedSimpArgs false

theorem Bs.str {w : World} {ao : Option Addr} {n c : Nat} {bs : List Int} (h : Bs w ao n c bs) : (convert 32 9 (.slice ao n c)).run Tryz.prog w = .ok (.string (strOfNums bs)) w := by
  have hl := h.len
  rcases h.at' with h0 | ⟨b, off, rfl, hc⟩
  · subst h0
    have hb : bs = [] := List.eq_nil_of_length_eq_zero hl
    subst hb
    cases ao with
    | none => exact run_convert_bytes_nil w 32 5 Tryz.underlying32 Tryz.underlying5 0 c 9 Tryz.underlying9
    | some a =>
      rw [run_convert_bytes_string w 32 9 5 _ 0 c Tryz.underlying32 Tryz.underlying5 Tryz.underlying9, run_bytesToString w a 0 c [] (by simp [loadCells, loadCellsFrom])]
      rfl
  · exact run_convert_bytes_arg w 32 5 Tryz.underlying32 Tryz.underlying5 b off n c bs hl hc 9 Tryz.underlying9

def hexd (i : Int) : Int := if i < 10 then 48 + i else 87 + i
def hex2 (x : Int) : List Int := [hexd (x / 16), hexd (x % 16)]
def hexl (bs : List Int) : List Int := bs.flatMap hex2
theorem hexd_byt {i : Int} (h0 : 0 ≤ i) (h1 : i < 16) : 0 ≤ hexd i ∧ hexd i ≤ 255 := by unfold hexd; split <;> omega
theorem hex2_byt {x : Int} (h0 : 0 ≤ x) (h1 : x ≤ 255) : Byt (hex2 x) := by
  intro y hy
  simp only [hex2, List.mem_cons, List.not_mem_nil, or_false] at hy
  rcases hy with rfl | rfl
  · exact hexd_byt (by omega) (by omega)
  · exact hexd_byt (by omega) (by omega)
theorem hexl_step (bs : List Int) (j : Nat) (h : j < bs.length) : hexl (bs.take (j + 1)) = hexl (bs.take j) ++ hex2 (ix bs j) := by
  unfold hexl ix
  rw [List.take_add_one, List.flatMap_append, List.getElem?_eq_getElem h]
  simp
/-- A digit out of the text of all digits. -/
theorem run_digit (w : World) (i : Int) (h0 : 0 ≤ i) (h1 : i < 16) : (Instr.index 9 (.string { data := #[48, 49, 50, 51, 52, 53, 54, 55, 56, 57, 97, 98, 99, 100, 101, 102] }) (.int .u8 i)).run Tryz.prog w = .ok (.int .u8 (hexd i)) w := by
  rw [run_index_string w 9 _ .u8 i Tryz.underlying9, dif_pos ⟨h0, by simpa [ByteArray.size] using h1⟩]
  obtain ⟨k, rfl⟩ := Int.eq_ofNat_of_zero_le h0
  have hk : k < 16 := by omega
  match k, hk with
  | 0, _ | 1, _ | 2, _ | 3, _ | 4, _ | 5, _ | 6, _ | 7, _ | 8, _ | 9, _ | 10, _ | 11, _ | 12, _ | 13, _ | 14, _ | 15, _ => rfl
attribute [local go_sem ↓] run_digit

/-- 'append(out, xs...)' at a step of a region that draws its order. -/
theorem step_app {ops : Array Oper} {o : Oper} {a : Act} {w : World} {K : Act → World → Prop} {Q : Exit → Act → World → Prop} {G : Prop} (hgd : o.guard = none) (s x : Operand)
    (ho : o.op = .call { callee := .builtin .append, args := #[s, x], argTypes := #[32, 32] })
    (B : Nat) (ao : Option Addr) (n c : Nat) (bs : List Int) (hs : a.eval s = .slice ao n c) (hm : Mine B w ao n c bs)
    (ad : Addr) (m c' : Nat) (cs : List Int) (hx : a.eval x = .slice (some ad) m c') (hb : Bs w (some ad) m c' cs) (hbound : n + m ≤ 140737488355328) (hB : B ≤ w.heap.size)
    (h : ∀ ao1 c1 w1, Mine B w1 ao1 (n + m) c1 (bs ++ cs) → Below B w w1 → K (a.put o.dst (.slice ao1 (n + m) c1)) w1) :
    if Region.wanted o (yielded ops a.tmps) = true then Oper.wp Tryz.prog o a w K Q else G := by
  have hw : Region.wanted o (yielded ops a.tmps) = true := by simp [Region.wanted, hgd]
  rw [if_pos hw]
  obtain ⟨i0, hi, hz0, hz1, hz2⟩ := info_parts Tryz.infoByte
  have hlen := hm.len
  have hlen' := hb.len
  obtain ⟨v', w', hr, hown, hgrow, _, hsrc⟩ := run_append_own_at (P := Tryz.prog) w B 32 o.type 5 i0 (.int .u8 0) 1 1 Tryz.underlying32 hi hz0 hz1 hz2 rfl (by decide) _ _ _ hm.own ad m c' (cs.map (Value.int .u8)) (by simp [hlen']) hb.news (ints_oneCell _ _) (by unfold maxLen; omega) (by omega) hB
  rw [← List.map_append] at hown
  have hex : ∃ ao1 c1, v' = .slice ao1 (n + m) c1 := by
    rcases hown.2 with ⟨hv, h0⟩ | ⟨g, cap, cur, hv, _⟩
    · exact ⟨.none, 0, by rw [hv, h0]⟩
    · exact ⟨_, _, hv⟩
  obtain ⟨ao1, c1, hv⟩ := hex
  subst hv
  unfold Oper.wp execOp
  simp only [ho, resolve, invoke, builtin, Sem.run_bind, Sem.run_pure, Result.andThen_ok, List.map_toArray, List.map_cons, List.map_nil, hs, hx, hr]
  exact h ao1 c1 w' ⟨by simp [hlen, hlen'], hown, hm.byt.app hb.byt⟩ ((Below.refl B w).grown hgrow hB (fun k hk => (hm.own.lt k hk).1))

theorem below_drew (w : World) : Below w.heap.size w w.drew := ⟨rfl, rfl, rfl, Nat.le_refl _, fun _ _ => rfl⟩
theorem Bs.two (w : World) (a b : Int) (h : Byt [a, b]) : Bs (w.alloc (.cells #[.int .u8 a, .int .u8 b] 5)) (some ⟨w.heap.size, 0, none⟩) 2 2 [a, b] := Bs.lit w [a, b] h (by simp)


theorem u8_and15 (x : Int) (h0 : 0 ≤ x) (h1 : x ≤ 255) : bits .and .u8 x 15 = x % 16 := by
  have : ∀ k : Fin 256, bits .and .u8 ((k : Nat) : Int) 15 = ((k : Nat) : Int) % 16 := by decide +kernel
  have h := this ⟨x.toNat, by omega⟩
  simp only at h
  rwa [show ((x.toNat : Nat) : Int) = x by omega] at h
theorem bl_drew {B : Nat} {w x : World} (h : Below B w x) : Below B w x.drew := ⟨h.os, h.tape, h.output, h.size, h.block⟩
theorem bl_drewN {B : Nat} {w x : World} (h : Below B w x) (k : Nat) : Below B w (x.drewN k) := ⟨h.os, h.tape, h.output, h.size, h.block⟩
theorem bl_alloc {B : Nat} {w x : World} {o : Obj} (h : Below B w x) (hB : B ≤ w.heap.size) : Below B w (x.alloc o) := h.trans ((below_alloc x o).mono (Nat.le_trans hB h.size))

set_option maxHeartbeats 4000000 in
set_option maxRecDepth 20000 in
theorem dhex_any (bo : Option Addr) (bn bc : Nat) (bs : List Int) (w : World) (h : Bs w bo bn bc bs) (hbd : bn ≤ 1000) :
    Calls Tryz.prog 20 #[.slice bo bn bc] w fun e w' => e = .returned (.string (strOfNums (hexl bs))) ∧ Below w.heap.size w w' := by
  have H := hide h
  have hlen := hide h.len
  clear h
  go_enter Tryz.func20, Tryz.ntmps20
  go_wp2_with (at_make; refine wpList_mk rfl _ _ rfl .i64 .i64 (2 * (bn : Int)) (2 * bn) (by simp [Act.eval, Act.put]) (by simp [Act.eval, Act.put]) (by omega) (by omega) ?_; intro w1 m1 b1 s1)
  go_loopw [12, 3] (fun i v ws => ∃ (j : Nat) (ao : Option Addr) (c : Nat), j ≤ bn ∧ i = .int .i64 j ∧ v = .slice ao (2 * j) c ∧ Mine w.heap.size ws ao (2 * j) c (hexl (bs.take j)) ∧ Below w.heap.size w ws) (fun i _ _ => bn - (intOf i).toNat)
  case atStart => exact ⟨0, _, 2 * bn, by omega, rfl, rfl, m1, b1⟩
  case round =>
    obtain ⟨j, ao, c, hj, rfl, rfl, hM, hB⟩ := hrel
    by_cases hlt : j < bn
    · obtain ⟨pb, po, hix, hcx⟩ := ((unhide H).later hB).idx hlt (j : Int) rfl
      obtain ⟨X, hX⟩ : ∃ X, bs[j]?.getD 0 = X := ⟨_, rfl⟩
      obtain ⟨X0, X1⟩ : 0 ≤ X ∧ X ≤ 255 := by rw [← hX]; exact (unhide H).byt.at j
      rw [hX] at hcx
      have hst := hide (hexl_step bs j (by rw [unhide hlen]; exact hlt))
      rw [show ix bs j = X from hX] at hst
      obtain ⟨A, hA⟩ : ∃ A, X / 16 = A := ⟨_, rfl⟩
      obtain ⟨D, hD⟩ : ∃ D, X % 16 = D := ⟨_, rfl⟩
      have hA' : X / 16 = A := hA
      have hD' : bits .and .u8 X 15 = D := by rw [u8_and15 X X0 X1, hD]
      have a0 : 0 ≤ A := by omega
      have a1 : A < 16 := by omega
      have d0 : 0 ≤ D := by omega
      have d1 : D < 16 := by omega
      have h2b := hide (show Byt [hexd A, hexd D] by rw [← hA, ← hD]; exact hex2_byt X0 X1)
      have h2e := hide (show hex2 X = [hexd A, hexd D] by rw [← hA, ← hD]; rfl)
      have hwr := hB.size
      have HM := hide hM
      have HB := hide hB
      have hj2 : 2 * j ≤ 10000000 := by omega
      have B2 := hide (Bs.two wr (hexd A) (hexd D) (unhide h2b))
      clear hM hB hX
      go_wp2_with fail
      go_region_law (refine step_app rfl (.tmp 16) (.tmp 23) rfl w.heap.size ao (2 * j) c (hexl (bs.take j)) ?hs ((unhide HM).later (by (repeat' (first | exact Below.refl _ _ | exact Nat.le_refl _ | refine bl_drew ?_ | refine bl_drewN ?_ _ | refine bl_alloc ?_ ?_)) <;> fail)) ⟨wr.heap.size, 0, none⟩ 2 2 [hexd A, hexd D] ?hx ((unhide B2).later (by (repeat' (first | exact Below.refl _ _ | exact Nat.le_refl _ | refine bl_drew ?_ | refine bl_drewN ?_ _ | refine bl_alloc ?_ ?_)) <;> fail)) (by omega) (by simp; omega) ?_; (case hs => simp [Act.eval, Act.put]); (case hx => simp [Act.eval, Act.put]); intro ao2 c2 w3 m3 b3)
      all_goals
        go_wp2_with fail
        go_roundw
        case rel =>
          refine ⟨j + 1, ao2, c2, by omega, by go_num, rfl, ?_, (show Below w.heap.size w _ from (by (repeat' (first | exact unhide HB | exact Nat.le_refl _ | refine bl_drew ?_ | refine bl_drewN ?_ _ | refine bl_alloc ?_ ?_)) <;> fail)).trans b3⟩
          rw [← unhide h2e, ← unhide hst] at m3
          exact m3
        case measure => simp [intOf]; omega
    · have hjn : j = bn := by omega
      subst hjn
      have hs := hM.bs.str
      rw [List.take_of_length_le (by rw [unhide hlen]; omega)] at hs
      have HB := hide hB
      clear hM hB
      go_wp2_with fail
      go_ret
      exact ⟨rfl, unhide HB⟩

end Go.Proofs.YtgbahfadjdincaaGreatDoor.Sha
