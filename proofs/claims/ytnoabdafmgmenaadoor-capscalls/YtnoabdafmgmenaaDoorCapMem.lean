/-
  The names of capabilities and of a status' bits, as tables; and what lies in memory of the program's tables. Conditions: none.
-/
import Derived.Test.YtnoabdafmgmenaaDoorCapPlain
import Derived.Test.YtnoabdafmgmenaaDoorTMem
import Derived.Deep.WholeRow
namespace Go.Proofs.YtnoabdafmgmenaaDoor
open Go.RowKit
set_option linter.unusedVariables false
set_option linter.unusedSimpArgs false

def capL : List ByteArray := [⟨#[108, 111, 110, 103, 45, 112, 97, 115, 115, 119, 111, 114, 100]⟩, ⟨#[102, 111, 117, 110, 100, 45, 114, 111, 119, 115]⟩, ⟨#[108, 111, 110, 103, 45, 102, 108, 97, 103]⟩, ⟨#[99, 111, 110, 110, 101, 99, 116, 45, 119, 105, 116, 104, 45, 100, 98]⟩, ⟨#[110, 111, 45, 115, 99, 104, 101, 109, 97]⟩, ⟨#[99, 111, 109, 112, 114, 101, 115, 115]⟩, ⟨#[111, 100, 98, 99]⟩, ⟨#[108, 111, 99, 97, 108, 45, 102, 105, 108, 101, 115]⟩, ⟨#[105, 103, 110, 111, 114, 101, 45, 115, 112, 97, 99, 101]⟩, ⟨#[112, 114, 111, 116, 111, 99, 111, 108, 45, 52, 49]⟩, ⟨#[105, 110, 116, 101, 114, 97, 99, 116, 105, 118, 101]⟩, ⟨#[115, 115, 108]⟩, ⟨#[105, 103, 110, 111, 114, 101, 45, 115, 105, 103, 112, 105, 112, 101]⟩, ⟨#[116, 114, 97, 110, 115, 97, 99, 116, 105, 111, 110, 115]⟩, ⟨#[114, 101, 115, 101, 114, 118, 101, 100]⟩, ⟨#[115, 101, 99, 117, 114, 101]⟩, ⟨#[109, 117, 108, 116, 105, 45, 115, 116, 97, 116, 101, 109, 101, 110, 116]⟩, ⟨#[109, 117, 108, 116, 105, 45, 114, 101, 115, 117, 108, 116, 115]⟩, ⟨#[112, 115, 45, 109, 117, 108, 116, 105, 45, 114, 101, 115, 117, 108, 116, 115]⟩, ⟨#[112, 108, 117, 103, 105, 110, 45, 97, 117, 116, 104]⟩, ⟨#[99, 111, 110, 110, 101, 99, 116, 45, 97, 116, 116, 114, 115]⟩, ⟨#[108, 101, 110, 101, 110, 99, 45, 97, 117, 116, 104]⟩, ⟨#[101, 120, 112, 105, 114, 101, 100]⟩, ⟨#[115, 101, 115, 115, 105, 111, 110, 45, 116, 114, 97, 99, 107]⟩, ⟨#[100, 101, 112, 114, 101, 99, 97, 116, 101, 45, 101, 111, 102]⟩, ⟨#[98, 105, 116, 45, 50, 53]⟩, ⟨#[98, 105, 116, 45, 50, 54]⟩, ⟨#[98, 105, 116, 45, 50, 55]⟩, ⟨#[98, 105, 116, 45, 50, 56]⟩, ⟨#[98, 105, 116, 45, 50, 57]⟩, ⟨#[98, 105, 116, 45, 51, 48]⟩, ⟨#[98, 105, 116, 45, 51, 49]⟩]
def staL : List ByteArray := [⟨#[105, 110, 45, 116, 114, 97, 110, 115]⟩, ⟨#[97, 117, 116, 111, 99, 111, 109, 109, 105, 116]⟩, ⟨#[98, 105, 116, 45, 50]⟩, ⟨#[109, 111, 114, 101, 45, 114, 101, 115, 117, 108, 116, 115]⟩, ⟨#[98, 105, 116, 45, 52]⟩, ⟨#[98, 105, 116, 45, 53]⟩, ⟨#[99, 117, 114, 115, 111, 114]⟩, ⟨#[108, 97, 115, 116, 45, 114, 111, 119]⟩, ⟨#[98, 105, 116, 45, 56]⟩, ⟨#[98, 105, 116, 45, 57]⟩, ⟨#[98, 105, 116, 45, 49, 48]⟩, ⟨#[98, 105, 116, 45, 49, 49]⟩, ⟨#[98, 105, 116, 45, 49, 50]⟩, ⟨#[105, 110, 45, 116, 114, 97, 110, 115, 45, 114, 101, 97, 100]⟩, ⟨#[115, 116, 97, 116, 101, 45, 99, 104, 97, 110, 103, 101, 100]⟩, ⟨#[98, 105, 116, 45, 49, 53]⟩]
def cnm (i : Nat) : ByteArray := capL.getD i ByteArray.empty
def snm (i : Nat) : ByteArray := staL.getD i ByteArray.empty
theorem cnm_injB : ∀ i j : Fin 32, cnm i.val = cnm j.val → i = j := by decide +kernel
theorem cnm_inj : ∀ i j, i < 32 → j < 32 → cnm i = cnm j → i = j := fun i j hi hj h => congrArg Fin.val (cnm_injB ⟨i, hi⟩ ⟨j, hj⟩ h)
theorem cnm_fitB : ∀ i : Fin 32, (cnm i.val).size ≤ 100 := by decide +kernel
theorem snm_fitB : ∀ i : Fin 16, (snm i.val).size ≤ 100 := by decide +kernel
theorem cnm_fit (i : Nat) (h : i < 32) : (cnm i).size ≤ 9223372036854775807 := by have := cnm_fitB ⟨i, h⟩; simp at this; omega
theorem snm_fit (i : Nat) (h : i < 16) : (snm i).size ≤ 9223372036854775807 := by have := snm_fitB ⟨i, h⟩; simp at this; omega

def capV : Array Value := (capL.map Value.string).toArray
def staV : Array Value := (staL.map Value.string).toArray
theorem capV_at (i : Nat) (h : i < 32) : capV[i]? = some (.string (cnm i)) := by
  have hl : capL.length = 32 := rfl
  simp [capV, cnm, hl, h]
theorem staV_at (i : Nat) (h : i < 16) : staV[i]? = some (.string (snm i)) := by
  have hl : staL.length = 16 := rfl
  simp [staV, snm, hl, h]

/-- The program's tables in memory. -/
structure Vars (w : World) : Prop where
  cap : ∃ t fr, w.heap[0]? = some (.cells capV t fr)
  prs : ∃ b off c, w.cell? ⟨2, 0, none⟩ = some (.slice (some ⟨b, off, none⟩) 3 c) ∧ w.cell? ⟨b, off, none⟩ = some (.int .u32 29294760) ∧ w.cell? ⟨b, off + 1, none⟩ = some (.int .u32 512) ∧ w.cell? ⟨b, off + 2, none⟩ = some (.int .u32 3145728) ∧ w.cell? ⟨b, off + 3, none⟩ = some (.int .u32 524288) ∧ w.cell? ⟨b, off + 4, none⟩ = some (.int .u32 65536) ∧ w.cell? ⟨b, off + 5, none⟩ = some (.int .u32 131072)
theorem Vars.later {w w' : World} (h : Vars w) (hb : Below w.heap.size w w') : Vars w' := by
  obtain ⟨t, fr, h0⟩ := h.cap
  obtain ⟨b, off, c, h1, h2, h3, h4, h5, h6, h7⟩ := h.prs
  exact ⟨⟨t, fr, by rw [hb.block 0 (Array.getElem?_eq_some_iff.1 h0).1]; exact h0⟩, b, off, c, cell_later hb h1, cell_later hb h2, cell_later hb h3, cell_later hb h4, cell_later hb h5, cell_later hb h6, cell_later hb h7⟩
structure Stat (w : World) : Prop where
  sta : ∃ t fr, w.heap[1]? = some (.cells staV t fr)
theorem Stat.later {w w' : World} (h : Stat w) (hb : Below w.heap.size w w') : Stat w' := by
  obtain ⟨t, fr, h0⟩ := h.sta
  exact ⟨t, fr, by rw [hb.block 1 (Array.getElem?_eq_some_iff.1 h0).1]; exact h0⟩

theorem gCap : Tryd.prog.globalNamed "sluicegate/caps.capNames" = some 0 := by kernel_rfl
theorem gSta : Tryd.prog.globalNamed "sluicegate/caps.statusNames" = some 1 := by kernel_rfl
theorem gPrs : Tryd.prog.globalNamed "sluicegate/caps.pairs" = some 2 := by kernel_rfl

/-- An array of texts by value, at a place. -/
theorem run_sIndex {t : TypeId} {n : Nat} (hu : Tryd.prog.underlying t = some (.array n 9)) (C : Array Value) (i : Nat) (hi : i < n) (s : ByteArray) (hc : C[i]? = some (.string s)) (I : Int) (hI : I = i) (w : World) :
    (Instr.index t (.agg C) (.int .i64 I)).run Tryd.prog w = .ok (.string s) w := by
  subst hI
  have hf : ∀ w, (isAgg 9).run Tryd.prog w = .ok false w := fun w => by kernel_rfl
  have he : (Tryd.prog.info? 9).map (·.size) = some 1 := by kernel_rfl
  cases hq : Tryd.prog.info? 9 with
  | none => simp [hq] at he
  | some i0 =>
    have hs : i0.size = 1 := by simpa [hq] using he
    simp [Instr.index, run_underlying hu, sizeOf, typeInfo, hq, hs, part, hf, hc, hi, asIntOf]

end Go.Proofs.YtnoabdafmgmenaaDoor
