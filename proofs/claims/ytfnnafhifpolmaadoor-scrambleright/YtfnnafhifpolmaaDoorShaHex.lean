/-
  What hex of the statements returns: bytes in hexadecimal digits. Conditions: fewer than 10 to the 6 bytes.
-/
import Derived.Test.YtfnnafhifpolmaaDoorShaAll
import Derived.Test.YtfnnafhifpolmaaDoorSameB
import Derived.Maps.AppendAt
namespace Go.Proofs.YtfnnafhifpolmaaDoor
open Go.RowKit
set_option linter.unusedVariables false
set_option linter.unusedSimpArgs false

def hexd (i : Int) : Int := if i < 10 then 48 + i else 87 + i
def hex2 (x : Int) : List Int := [hexd (x / 16), hexd (x % 16)]
def hexl (bs : List Int) : List Int := bs.flatMap hex2
theorem hexd_byt {i : Int} (h0 : 0 ≤ i) (h1 : i < 16) : 0 ≤ hexd i ∧ hexd i ≤ 255 := by unfold hexd; split <;> omega
theorem hex2_byt {x : Int} (h0 : 0 ≤ x) (h1 : x ≤ 255) : Byt (hex2 x) := by
  intro y hy
  simp only [hex2, List.mem_cons, List.not_mem_nil, or_false] at hy
  rcases hy with rfl | rfl
  · exact hexd_byt (by omega) (by omega)
  · exact hexd_byt (by omega) (by omega)
theorem hexl_step (bs : List Int) (j : Nat) (h : j < bs.length) : hexl (bs.take (j + 1)) = hexl (bs.take j) ++ hex2 (ix bs j) := by
  unfold hexl ix
  rw [List.take_add_one, List.flatMap_append, List.getElem?_eq_getElem h]
  simp
/-- A digit out of the text of all digits. -/
theorem run_digit (w : World) (i : Int) (h0 : 0 ≤ i) (h1 : i < 16) : (Instr.index 9 (.string { data := #[48, 49, 50, 51, 52, 53, 54, 55, 56, 57, 97, 98, 99, 100, 101, 102] }) (.int .u8 i)).run Tryd.prog w = .ok (.int .u8 (hexd i)) w := by
  rw [run_index_string w 9 _ .u8 i Tryd.underlying9, dif_pos ⟨h0, by simpa [ByteArray.size] using h1⟩]
  obtain ⟨k, rfl⟩ := Int.eq_ofNat_of_zero_le h0
  have hk : k < 16 := by omega
  match k, hk with
  | 0, _ | 1, _ | 2, _ | 3, _ | 4, _ | 5, _ | 6, _ | 7, _ | 8, _ | 9, _ | 10, _ | 11, _ | 12, _ | 13, _ | 14, _ | 15, _ => rfl
attribute [local go_sem ↓] run_digit

/-- 'append(out, xs...)' at a step of a region that draws its order. -/
theorem step_app {ops : Array Oper} {o : Oper} {a : Act} {w : World} {K : Act → World → Prop} {Q : Exit → Act → World → Prop} {G : Prop} (hgd : o.guard = none) (s x : Operand)
    (ho : o.op = .call { callee := .builtin .append, args := #[s, x], argTypes := #[22, 22] })
    (B : Nat) (ao : Option Addr) (n c : Nat) (bs : List Int) (hs : a.eval s = .slice ao n c) (hm : Mine B w ao n c bs)
    (ad : Addr) (m c' : Nat) (cs : List Int) (hx : a.eval x = .slice (some ad) m c') (hb : Bs w (some ad) m c' cs) (hbound : n + m ≤ 140737488355328) (hB : B ≤ w.heap.size)
    (h : ∀ ao1 c1 w1, Mine B w1 ao1 (n + m) c1 (bs ++ cs) → Below B w w1 → K (a.put o.dst (.slice ao1 (n + m) c1)) w1) :
    if Region.wanted o (yielded ops a.tmps) = true then Oper.wp Tryd.prog o a w K Q else G := by
  have hw : Region.wanted o (yielded ops a.tmps) = true := by simp [Region.wanted, hgd]
  rw [if_pos hw]
  obtain ⟨i0, hi, hz0, hz1, hz2⟩ := info_parts Tryd.infoByte
  have hlen := hm.len
  have hlen' := hb.len
  obtain ⟨v', w', hr, hown, hgrow, _, hsrc⟩ := run_append_own_at (P := Tryd.prog) w B 22 o.type 5 i0 (.int .u8 0) 1 1 Tryd.underlying22 hi hz0 hz1 hz2 rfl (by decide) _ _ _ hm.own ad m c' (cs.map (Value.int .u8)) (by simp [hlen']) hb.news (ints_oneCell _ _) (by unfold maxLen; omega) (by omega) hB
  rw [← List.map_append] at hown
  have hex : ∃ ao1 c1, v' = .slice ao1 (n + m) c1 := by
    rcases hown.2 with ⟨hv, h0⟩ | ⟨g, cap, cur, hv, _⟩
    · exact ⟨.none, 0, by rw [hv, h0]⟩
    · exact ⟨_, _, hv⟩
  obtain ⟨ao1, c1, hv⟩ := hex
  subst hv
  unfold Oper.wp execOp
  simp only [ho, resolve, invoke, builtin, Sem.run_bind, Sem.run_pure, Result.andThen_ok, List.map_toArray, List.map_cons, List.map_nil, hs, hx, hr]
  exact h ao1 c1 w' ⟨by simp [hlen, hlen'], hown, hm.byt.app hb.byt⟩ ((Below.refl B w).grown hgrow hB (fun k hk => (hm.own.lt k hk).1))

theorem below_drew (w : World) : Below w.heap.size w w.drew := ⟨rfl, rfl, rfl, Nat.le_refl _, fun _ _ => rfl⟩
theorem Bs.two (w : World) (a b : Int) (h : Byt [a, b]) : Bs (w.alloc (.cells #[.int .u8 a, .int .u8 b] 5)) (some ⟨w.heap.size, 0, none⟩) 2 2 [a, b] := Bs.lit w [a, b] h (by simp)

end Go.Proofs.YtfnnafhifpolmaaDoor
