/-
  A slice of slices of bytes that came in: what lies in its cells, and that each is no longer than the form's own reach. Conditions: none.
-/
import Derived.Test.YtcjhgpgdhbbgbaaDoorLawShaPieces
import Derived.ProofKit
import Derived.OpenShut
import Derived.Deep.Slices
import Derived.ChangeArms
namespace Go.Proofs.YtcjhgpgdhbbgbaaDoor
open Go.ChangeShapes Go.WideShapes Go.ChangeAt Go.RowKit
set_option linter.unusedVariables false
set_option linter.unusedSimpArgs false

theorem mem_weightsAll {H : Type} (P : Program) (e : TypeId) {d : DataW H} {y : Nat} : ∀ {l : List (DataW H)}, d ∈ l → y ∈ d.weights P e → y ∈ DataW.weightsAll P e l
  | x :: r, h, hy => by
    rw [DataW.weightsAll]
    rcases List.mem_cons.1 h with rfl | h
    · exact List.mem_append.2 (.inl hy)
    · exact List.mem_append.2 (.inr (mem_weightsAll P e h hy))

theorem Tryd.elemBB : Tryd.prog.underlying 32 = some (.slice (Tryd.prog.elem 32)) := by kernel_rfl
theorem Tryd.sizeBB (w : World) : (sizeOf (Tryd.prog.elem 32)).run Tryd.prog w = .ok 1 w := by kernel_rfl

theorem bss_of {H : Type} {enc : TypeId × Value → H} {W : World} {base fuel : Nat} {a : Option Addr} {len cap : Nat} {x : DataW H × List MemPlace} (h : DataW.trod enc Tryd.prog W base (fun _ => true) true fuel 32 (Value.slice a len cap).cells.toList = some x)
    (hw : (x.1.weights Tryd.prog 32).all (· ≤ reachBytes) = true) : Bss W a len cap := by
  rcases Deep.open_slice1 Tryd.underlying32 (by kernel_rfl) h with ⟨hcs, _⟩ | ⟨ad, l, c, m, n, V, D, Pl, hcs, hb, hl, hm, hmm, hx, hel⟩
  · simp [Value.cells] at hcs
    obtain ⟨rfl, rfl, rfl⟩ := hcs
    exact ⟨Nat.le_refl _, by omega, fun i hi => by omega⟩
  · simp [Value.cells] at hcs
    obtain ⟨rfl, rfl, rfl⟩ := hcs
    simp only [if_true] at hmm
    subst hmm
    unfold maxLen at hm
    refine ⟨hl, by omega, fun i hi => ?_⟩
    obtain ⟨hc, ht⟩ := hel i (by omega)
    obtain ⟨b, off, spot⟩ := ad
    have hspot : spot = none := by simpa [Addr.add] using World.cell?_spot (hel 0 (by omega)).1
    subst hspot
    rw [Addr.add_lit] at hc
    have hix : ∀ wx, (Instr.indexAt 32 (.slice (some ⟨b, off, none⟩) len m) (.int .i64 (i : Int))).run Tryd.prog wx = .ok (.pointer (some ⟨b, off + i, none⟩)) wx := by
      intro wx
      rw [run_indexAt_slice wx 32 _ len m .i64 (i : Int) Tryd.elemBB]
      simp [Tryd.sizeBB, hi, Addr.add_lit, Result.andThen]
    rcases open_ints Tryd.underlying28 Tryd.underlying5 (by kernel_rfl) ht with ⟨hv, _⟩ | ⟨a', l', c', zs, hv, _, hl', hm', hz, hD, hcell, hwz⟩
    · have hv' : V i = .slice none 0 0 := by simpa using hv
      rw [hv'] at hc
      exact ⟨b, off + i, none, 0, 0, [], hix, hc, Bs.nought W, by omega⟩
    · have hv' : V i = .slice (some a') l' c' := by simpa using hv
      rw [hv'] at hc
      simp only [if_true] at hz
      refine ⟨b, off + i, some a', l', c', zs.take l', hix, hc, bs_of_row (.inr ⟨a', rfl, hl', hm', hz, hcell, hwz⟩), ?_⟩
      have hDi : D i = .slice (lits .u8 (zs.take l')) (lits .u8 (zs.drop l')) := congrArg Prod.fst hD
      have hmem : D i ∈ (List.range len).map D := List.mem_map.2 ⟨i, by simpa using hi, rfl⟩
      have hy : zs.length ∈ (D i).weights Tryd.prog 28 := by
        rw [hDi, DataW.weights, Tryd.underlying28]
        have hb1 : Tryd.prog.bytesOf 5 = 1 := by kernel_rfl
        simp only [hb1, Nat.mul_one, List.mem_cons]
        left
        simp [lits]
        omega
      have hin : zs.length ∈ x.1.weights Tryd.prog 32 := by
        rw [hx]
        simp only [DataW.weights, Tryd.underlying32]
        exact List.mem_cons.2 (.inr (List.mem_append.2 (.inl (mem_weightsAll _ _ hmem hy))))
      have h3 : zs.length ≤ reachBytes := of_decide_eq_true (List.all_eq_true.1 hw _ hin)
      have h4 : reachBytes = 140737488351232 := rfl
      omega

end Go.Proofs.YtcjhgpgdhbbgbaaDoor
