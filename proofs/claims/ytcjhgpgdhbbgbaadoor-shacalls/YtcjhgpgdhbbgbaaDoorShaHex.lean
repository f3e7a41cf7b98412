/-
  What hex of the statements returns: bytes in hexadecimal digits. Conditions: fewer than 10 to the 6 bytes.
-/
import Derived.Test.YtcjhgpgdhbbgbaaDoorShaAll
import Derived.Test.YtcjhgpgdhbbgbaaDoorSameB
import Derived.Maps.AppendAt
namespace Go.Proofs.YtcjhgpgdhbbgbaaDoor
open Go.RowKit
set_option linter.unusedVariables false
set_option linter.unusedSimpArgs false

def hexd (i : Int) : Int := if i < 10 then 48 + i else 87 + i
def hex2 (x : Int) : List Int := [hexd (x / 16), hexd (x % 16)]
def hexl (bs : List Int) : List Int := bs.flatMap hex2
theorem hexd_byt {i : Int} (h0 : 0 ≤ i) (h1 : i < 16) : 0 ≤ hexd i ∧ hexd i ≤ 255 := by unfold hexd; split <;> omega
theorem hex2_byt {x : Int} (h0 : 0 ≤ x) (h1 : x ≤ 255) : Byt (hex2 x) := by
  intro y hy
  simp only [hex2, List.mem_cons, List.not_mem_nil, or_false] at hy
  rcases hy with rfl | rfl
  · exact hexd_byt (by omega) (by omega)
  · exact hexd_byt (by omega) (by omega)
theorem hexl_step (bs : List Int) (j : Nat) (h : j < bs.length) : hexl (bs.take (j + 1)) = hexl (bs.take j) ++ hex2 (ix bs j) := by
  unfold hexl ix
  rw [List.take_add_one, List.flatMap_append, List.getElem?_eq_getElem h]
  simp
/-- A digit out of the text of all digits. -/
theorem run_digit (w : World) (i : Int) (h0 : 0 ≤ i) (h1 : i < 16) : (Instr.index 9 (.string { data := #[48, 49, 50, 51, 52, 53, 54, 55, 56, 57, 97, 98, 99, 100, 101, 102] }) (.int .u8 i)).run Tryd.prog w = .ok (.int .u8 (hexd i)) w := by
  rw [run_index_string w 9 _ .u8 i Tryd.underlying9, dif_pos ⟨h0, by simpa [ByteArray.size] using h1⟩]
  obtain ⟨k, rfl⟩ := Int.eq_ofNat_of_zero_le h0
  have hk : k < 16 := by omega
  match k, hk with
  | 0, _ | 1, _ | 2, _ | 3, _ | 4, _ | 5, _ | 6, _ | 7, _ | 8, _ | 9, _ | 10, _ | 11, _ | 12, _ | 13, _ | 14, _ | 15, _ => rfl
attribute [local go_sem ↓] run_digit

/-- 'append(out, xs...)' at a step of a region that draws its order. -/
theorem step_app {ops : Array Oper} {o : Oper} {a : Act} {w : World} {K : Act → World → Prop} {Q : Exit → Act → World → Prop} {G : Prop} (hgd : o.guard = none) (s x : Operand)
    (ho : o.op = .call { callee := .builtin .append, args := #[s, x], argTypes := #[28, 28] })
    (B : Nat) (ao : Option Addr) (n c : Nat) (bs : List Int) (hs : a.eval s = .slice ao n c) (hm : Mine B w ao n c bs)
    (ad : Addr) (m c' : Nat) (cs : List Int) (hx : a.eval x = .slice (some ad) m c') (hb : Bs w (some ad) m c' cs) (hbound : n + m ≤ 140737488355328) (hB : B ≤ w.heap.size)
    (h : ∀ ao1 c1 w1, Mine B w1 ao1 (n + m) c1 (bs ++ cs) → Below B w w1 → K (a.put o.dst (.slice ao1 (n + m) c1)) w1) :
    if Region.wanted o (yielded ops a.tmps) = true then Oper.wp Tryd.prog o a w K Q else G := by
  have hw : Region.wanted o (yielded ops a.tmps) = true := by simp [Region.wanted, hgd]
  rw [if_pos hw]
  obtain ⟨i0, hi, hz0, hz1, hz2⟩ := info_parts Tryd.infoByte
  have hlen := hm.len
  have hlen' := hb.len
  obtain ⟨v', w', hr, hown, hgrow, _, hsrc⟩ := run_append_own_at (P := Tryd.prog) w B 28 o.type 5 i0 (.int .u8 0) 1 1 Tryd.underlying28 hi hz0 hz1 hz2 rfl (by decide) _ _ _ hm.own ad m c' (cs.map (Value.int .u8)) (by simp [hlen']) hb.news (ints_oneCell _ _) (by unfold maxLen; omega) (by omega) hB
  rw [← List.map_append] at hown
  have hex : ∃ ao1 c1, v' = .slice ao1 (n + m) c1 := by
    rcases hown.2 with ⟨hv, h0⟩ | ⟨g, cap, cur, hv, _⟩
    · exact ⟨.none, 0, by rw [hv, h0]⟩
    · exact ⟨_, _, hv⟩
  obtain ⟨ao1, c1, hv⟩ := hex
  subst hv
  unfold Oper.wp execOp
  simp only [ho, resolve, invoke, builtin, Sem.run_bind, Sem.run_pure, Result.andThen_ok, List.map_toArray, List.map_cons, List.map_nil, hs, hx, hr]
  exact h ao1 c1 w' ⟨by simp [hlen, hlen'], hown, hm.byt.app hb.byt⟩ ((Below.refl B w).grown hgrow hB (fun k hk => (hm.own.lt k hk).1))

theorem below_drew (w : World) : Below w.heap.size w w.drew := ⟨rfl, rfl, rfl, Nat.le_refl _, fun _ _ => rfl⟩
theorem Bs.two (w : World) (a b : Int) (h : Byt [a, b]) : Bs (w.alloc (.cells #[.int .u8 a, .int .u8 b] 5)) (some ⟨w.heap.size, 0, none⟩) 2 2 [a, b] := Bs.lit w [a, b] h (by simp)

set_option maxHeartbeats 2000000 in
theorem hex_any (bo : Option Addr) (bn bc : Nat) (bs : List Int) (w : World) (h : Bs w bo bn bc bs) (hbd : bn ≤ 1000000) :
    Calls Tryd.prog 9 #[.slice bo bn bc] w fun e w' => e = .returned (.string (strOfNums (hexl bs))) ∧ Below w.heap.size w w' := by
  have H := hide h
  have hlen := hide h.len
  clear h
  go_enter Tryd.func9, Tryd.ntmps9
  go_wp2_with fail
  go_loopw [4, 3] (fun i v ws => ∃ (j : Nat) (ao : Option Addr) (c : Nat), j ≤ bn ∧ i = .int .i64 j ∧ v = .slice ao (2 * j) c ∧ Mine w.heap.size ws ao (2 * j) c (hexl (bs.take j)) ∧ Below w.heap.size w ws) (fun i _ _ => bn - (intOf i).toNat)
  case atStart => exact ⟨0, none, 0, by omega, rfl, rfl, Mine.nought _ _, Below.refl _ _⟩
  case round =>
    obtain ⟨j, ao, c, hj, rfl, rfl, hM, hB⟩ := hrel
    by_cases hlt : j < bn
    · obtain ⟨pb, po, hix, hcx⟩ := ((unhide H).later hB).idx hlt (j : Int) rfl
      have hcw : w.cell? ⟨pb, po, none⟩ = some (.int .u8 (bs[j]?.getD 0)) := by
        obtain ⟨pb2, po2, hix2, hcx2⟩ := (unhide H).idx hlt (j : Int) rfl
        have e := hix w
        rw [hix2 w] at e
        have e2 := (Result.ok.inj e).1
        simp only [Value.pointer.injEq, Option.some.injEq, Addr.mk.injEq, and_true] at e2
        rw [← e2.1, ← e2.2]
        exact hcx2
      have hpb := World.block_lt_of_cell? w _ hcw
      simp only at hpb
      obtain ⟨X, hX⟩ : ∃ X, bs[j]?.getD 0 = X := ⟨_, rfl⟩
      obtain ⟨X0, X1⟩ : 0 ≤ X ∧ X ≤ 255 := by rw [← hX]; exact (unhide H).byt.at j
      rw [hX] at hcx
      have hst := hide (hexl_step bs j (by rw [unhide hlen]; exact hlt))
      rw [show ix bs j = X from hX] at hst
      obtain ⟨A, hA⟩ : ∃ A, X / 16 = A := ⟨_, rfl⟩
      obtain ⟨D, hD⟩ : ∃ D, X % 16 = D := ⟨_, rfl⟩
      have hA' : IntKind.u8.wrap (X.tdiv 16) = A := by rw [Int.tdiv_eq_ediv_of_nonneg X0, hA, IntKind.wrap_u8]; omega
      have hD' : X.tmod 16 = D := by rw [Int.tmod_eq_emod_of_nonneg X0, hD]
      have a0 : 0 ≤ A := by omega
      have a1 : A < 16 := by omega
      have d0 : 0 ≤ D := by omega
      have d1 : D < 16 := by omega
      have h2b := hide (show Byt [hexd A, hexd D] by rw [← hA, ← hD]; exact hex2_byt X0 X1)
      have h2e := hide (show hex2 X = [hexd A, hexd D] by rw [← hA, ← hD]; rfl)
      have hwr := hB.size
      have HM := hide hM
      have HB := hide hB
      have hj2 : 2 * j ≤ 10000000 := by omega
      have MW := hide (show Mine w.heap.size (wr.alloc (.cells #[.int .u8 (hexd A), .int .u8 (hexd D)] 5)).drew ao (2 * j) c (hexl (bs.take j)) from (((unhide HM).later (below_alloc wr _)).later (below_drew _)))
      have BW := hide (show Bs (wr.alloc (.cells #[.int .u8 (hexd A), .int .u8 (hexd D)] 5)).drew (some ⟨wr.heap.size, 0, none⟩) 2 2 [hexd A, hexd D] from (Bs.two wr (hexd A) (hexd D) (unhide h2b)).later (below_drew _))
      have hBW : w.heap.size ≤ (wr.alloc (.cells #[.int .u8 (hexd A), .int .u8 (hexd D)] 5)).drew.heap.size := by show w.heap.size ≤ (wr.alloc (.cells #[.int .u8 (hexd A), .int .u8 (hexd D)] 5)).heap.size; simp; omega
      have HBW := hide hBW
      have KC := hide (fun (w3 : World) (b3 : Below w.heap.size (wr.alloc (.cells #[.int .u8 (hexd A), .int .u8 (hexd D)] 5)).drew w3) => (show w3.cell? ⟨pb, po, none⟩ = some (.int .u8 X) from (b3.cell (p := ⟨pb, po, none⟩) hpb).trans ((cell_under wr _ pb po (by omega)).trans hcx)))
      clear hM hB hX hcw hBW
      go_wp2_with fail
      go_region_held3 (fun w' => w'.cell? ⟨pb, po, none⟩ = some (.int .u8 X)) (first | exact unhide KC _ b3 | go_keep) (first | (refine step_app rfl (.tmp 11) (.tmp 24) rfl w.heap.size ao (2 * j) c (hexl (bs.take j)) (by simp [Act.eval, Act.put]) (unhide MW) ⟨wr.heap.size, 0, none⟩ 2 2 [hexd A, hexd D] (by simp [Act.eval, Act.put]) (unhide BW) (by omega) (unhide HBW) ?_; intro ao2 c2 w3 m3 b3))
      all_goals have M3 := hide m3
      all_goals have B3 := hide (((unhide HB).trans ((below_alloc wr (.cells #[.int .u8 (hexd A), .int .u8 (hexd D)] 5)).mono hwr)).trans (Below.trans (b := (wr.alloc (.cells #[.int .u8 (hexd A), .int .u8 (hexd D)] 5)).drew) ⟨rfl, rfl, rfl, Nat.le_refl _, fun _ _ => rfl⟩ b3))
      all_goals clear m3 b3
      all_goals go_wp2_with fail
      all_goals go_roundw
      all_goals first
        | (refine ⟨j + 1, ao2, c2, by omega, by go_num, rfl, ?_, unhide B3⟩
           have := unhide M3
           rw [← unhide h2e, ← unhide hst] at this
           exact this)
        | (simp [intOf]; omega)
    · have hjn : j = bn := by omega
      subst hjn
      have hs := hM.bs.str
      rw [List.take_of_length_le (by rw [unhide hlen]; omega)] at hs
      have HB := hide hB
      clear hM hB
      go_wp2_with fail
      go_ret
      exact ⟨rfl, unhide HB⟩

end Go.Proofs.YtcjhgpgdhbbgbaaDoor
