/-
  What Deflate, of package deflate, answers for any bytes. It writes nothing that was there. Conditions: at most 2,000 bytes.
-/
import Derived.Test.YtalkeooejobjhaaDoorDefFix
import Derived.Test.YtalkeooejobjhaaDoorDefSto
namespace Go.Proofs.YtalkeooejobjhaaDoor
open Go.RowKit
set_option linter.unusedVariables false
set_option linter.unusedSimpArgs false

/-- The shorter one of the two streams. -/
def dfl (bs : List Int) : List Int := if (fxs (pieces bs)).length ≤ (sto bs).length then fxs (pieces bs) else sto bs

theorem pcs_le (bs : List Int) : ∀ f A, A ≤ bs.length → (pcs bs f A).length + A ≤ bs.length
  | 0, A, h => by simp [pcs]; exact h
  | f + 1, A, h => by
    by_cases hlt : A < bs.length
    · have h1 := pce_sz bs A hlt
      have := pcs_le bs f (A + sz (pce bs A)) h1.2
      rw [pcs_on hlt, List.length_cons]
      omega
    · rw [pcs_end hlt]; simpa using h
theorem pieces_le (bs : List Int) : (pieces bs).length ≤ bs.length := by
  have := pcs_le bs (bs.length + 1) 0 (Nat.zero_le _)
  unfold pieces
  omega
theorem pieces_may (bs : List Int) (hn : bs.length ≤ 32768) : ∀ p ∈ pieces bs, may p = true :=
  chk_may (pieces bs) 0 (xpd_pcs bs hn (bs.length + 1) 0 (Nat.zero_le _) (by omega)).1

set_option maxHeartbeats 1000000 in
theorem deflate_any (w : World) (bo : Option Addr) (bn bc : Nat) (bs : List Int) (hb : Bs w bo bn bc bs) (hn : bn ≤ 2000) :
    Calls Tryd.prog 15 #[.slice bo bn bc] w fun e w' => ∃ ao n c, e = .returned (.slice ao n c) ∧ Mine w.heap.size w' ao n c (dfl bs) ∧ Below w.heap.size w w' := by
  have pc := hide (pieces_any w bo bn bc bs hb (by omega))
  have hpl := pieces_le bs
  have hpm := hide (pieces_may bs (by have := hb.len; omega))
  have hlen := hide hb.len
  have HB := hide hb
  have hpl2 : (pieces bs).length ≤ 2000 := by have := hb.len; omega
  clear hb hpl
  go_enter Tryd.func15, Tryd.ntmps15
  go_wp2_with fail
  refine (unhide pc).mono ?_
  rintro e w1 ⟨ao, n, c, rfl, m1, b1⟩
  have fc := hide (fixedStream_any w1 ao n c (pieces bs) m1.ps (by rw [← m1.len]; exact hpl2) (unhide hpm))
  have z1 := b1.size
  clear m1
  go_wp2_with fail
  refine (unhide fc).mono ?_
  rintro e w2 ⟨ao2, n2, c2, rfl, m2, b2⟩
  have bw2 := b1.trans (b2.mono z1)
  have sc := hide (stored_bs w2 bo bn bc bs ((unhide HB).later bw2) (by omega))
  have M2 := hide m2
  have BW2 := hide bw2
  have l2 := m2.len
  have mx2 := m2.bs.max
  have le2 := m2.bs.le
  clear b2 b1 bw2 m2
  go_wp2_with fail
  refine (unhide sc).mono ?_
  rintro e w3 ⟨ao3, n3, c3, rfl, m3, b3⟩
  have M2' := hide ((unhide M2).later b3)
  have BW3 := hide ((unhide BW2).trans (b3.mono (unhide BW2).size))
  have l3 := m3.len
  have mx3 := m3.bs.max
  have le3 := m3.bs.le
  have M3 := hide m3
  have z2 := (unhide BW2).size
  clear m3 b3
  by_cases hc : n2 ≤ n3
  · have hr := hide (show dfl bs = fxs (pieces bs) by unfold dfl; rw [l2, l3, if_pos hc])
    have hc' : (n2 : Int) ≤ (n3 : Int) := by omega
    have L := hide (And.intro l2 l3)
    clear l2 l3
    go_wp2_with fail
    go_ret
    rw [unhide hr]
    exact ⟨ao2, n2, c2, rfl, (unhide M2').mono z1, unhide BW3⟩
  · have hr := hide (show dfl bs = sto bs by unfold dfl; rw [l2, l3, if_neg hc])
    have hc' : ¬ (n2 : Int) ≤ (n3 : Int) := by omega
    have L := hide (And.intro l2 l3)
    clear l2 l3
    go_wp2_with fail
    go_ret
    rw [unhide hr]
    exact ⟨ao3, n3, c3, rfl, (unhide M3).mono z2, unhide BW3⟩
end Go.Proofs.YtalkeooejobjhaaDoor
