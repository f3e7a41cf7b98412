/-
  The statement on one changed byte returns true for any bytes, place and change, and writes nothing that was there. Conditions: none but that the arguments can be read.
-/
import Derived.Test.YtmndgdclcompjaaAdlLives
namespace Go.Proofs.Ytmndgdclcompjaa
open Go.RowKit
set_option linter.unusedVariables false
set_option linter.unusedSimpArgs false

theorem xor_change (x y : Int) (x0 : 0 ≤ x) (x1 : x ≤ 255) (y0 : 0 ≤ y) (y1 : y ≤ 255) (h : y ≠ 0) :
    0 ≤ bits BinOp.xor IntKind.u8 x y ∧ bits BinOp.xor IntKind.u8 x y ≤ 255 ∧ bits BinOp.xor IntKind.u8 x y ≠ x := by
  rw [u8_xor x y x0 (by omega) y0 (by omega)]
  have hlt : x.toNat ^^^ y.toNat < 2 ^ 8 := Nat.xor_lt_two_pow (by omega) (by omega)
  refine ⟨by omega, by omega, fun he => ?_⟩
  have e2 : x.toNat ^^^ y.toNat = x.toNat := by omega
  have e3 : x.toNat ^^^ (x.toNat ^^^ y.toNat) = x.toNat ^^^ x.toNat := by rw [e2]
  rw [← Nat.xor_assoc, Nat.xor_self, Nat.zero_xor] at e3
  omega

theorem sum_set (bs : List Int) (hby : Byt bs) (i : Nat) (hi : i < bs.length) (v : Int) (v0 : 0 ≤ v) (v1 : v ≤ 255) (hne : v ≠ bs[i]?.getD 0) : sumOf (bs.set i v) ≠ sumOf bs := by
  have hx := hby.at i
  have e1 : bs = bs.take i ++ bs[i]?.getD 0 :: bs.drop (i + 1) := by
    rw [List.getElem?_eq_getElem hi]
    simp
  have e2 : bs.set i v = bs.take i ++ v :: bs.drop (i + 1) := by
    rw [List.set_eq_take_append_cons_drop, if_pos hi]
  intro h
  rw [e2] at h
  have h2 : sumOf (bs.take i ++ v :: bs.drop (i + 1)) = sumOf (bs.take i ++ bs[i]?.getD 0 :: bs.drop (i + 1)) := by rw [← e1]; exact h
  exact sum_changed _ _ _ _ hx ⟨v0, v1⟩ hne h2

set_option maxHeartbeats 1000000 in
theorem lawByte (ao : Option Addr) (n c : Nat) (bs : List Int) (i y : Int) (w : World) (h : Bs w ao n c bs) (y0 : 0 ≤ y) (y1 : y ≤ 255) :
    Calls Try.prog 7 #[.slice ao n c, .int .i64 i, .int .u8 y] w fun e w' => e = .returned (.bool true) ∧ Below w.heap.size w w' := by
  have hmax := h.max
  have hle := h.le
  have hby := h.byt
  have hlen := hide h.len
  have H := hide h
  clear h
  by_cases h1 : (20000 : Int) < (n : Int)
  · have g1 : decide ((20000 : Int) < (n : Int)) = true := by simpa using h1
    go_enter Try.func7, Try.ntmps7
    go_wp2_with (go_at_call 10; refine (lives_any _).mono ?_; rintro e w1 ⟨rfl, hb1⟩)
    go_ret
    exact ⟨rfl, hb1⟩
  have g1 : decide ((20000 : Int) < (n : Int)) = false := by simpa using h1
  by_cases h2 : i < 0
  · have g2 : decide (i < 0) = true := by simpa using h2
    go_enter Try.func7, Try.ntmps7
    go_wp2_with (go_at_call 10; refine (lives_any _).mono ?_; rintro e w1 ⟨rfl, hb1⟩)
    go_ret
    exact ⟨rfl, hb1⟩
  have g2 : decide (i < 0) = false := by simpa using h2
  by_cases h3 : (n : Int) ≤ i
  · have g3 : decide ((n : Int) ≤ i) = true := by simpa using h3
    go_enter Try.func7, Try.ntmps7
    go_wp2_with (go_at_call 10; refine (lives_any _).mono ?_; rintro e w1 ⟨rfl, hb1⟩)
    go_ret
    exact ⟨rfl, hb1⟩
  have g3 : decide ((n : Int) ≤ i) = false := by simpa using h3
  by_cases h4 : y = 0
  · subst h4
    go_enter Try.func7, Try.ntmps7
    go_wp2_with (go_at_call 10; refine (lives_any _).mono ?_; rintro e w1 ⟨rfl, hb1⟩)
    go_ret
    exact ⟨rfl, hb1⟩
  have g4 : (y == 0) = false := by simpa using h4
  obtain ⟨I, rfl⟩ := Int.eq_ofNat_of_zero_le (show 0 ≤ i by omega)
  have hI : I < n := by omega
  have hx := hby.at I
  obtain ⟨x, hxe⟩ : ∃ x, x = bs[I]?.getD 0 := ⟨_, rfl⟩
  rw [← hxe] at hx
  obtain ⟨v, hv⟩ : ∃ v, v = bits BinOp.xor IntKind.u8 x y := ⟨_, rfl⟩
  obtain ⟨v0, v1, v2⟩ := xor_change x y hx.1 hx.2 y0 y1 h4
  rw [← hv] at v0 v1 v2
  have hs : (sumOf (bs.set I v) != sumOf bs) = true := by
    have := sum_set bs hby I (by rw [unhide hlen]; exact hI) v v0 v1 (by rw [← hxe]; exact v2)
    simpa using this
  have HS := hide hs
  have HXE := hide hxe
  have HV := hv.symm
  clear hs hxe hby h4 hv v2
  go_enter Try.func7, Try.ntmps7
  go_wp2_with fail
  refine (lives_any _).mono ?_
  rintro e w1 ⟨rfl, hb1⟩
  have hz1 := hb1.size
  have e1 := below_alloc w1 (.cells #[] 5)
  have A1 := hide (((unhide H).later hb1).later e1)
  have M1 := hide (Mine.empty w1)
  have key : ∀ ao2 c2 w2, Mine w1.heap.size w2 ao2 (0 + n) c2 ([] ++ bs) → Below w1.heap.size (w1.alloc (.cells #[] 5)) w2 → ∃ g, ao2 = some ⟨g, 0, none⟩ ∧ w2.frozen? ⟨g, I, none⟩ = false ∧ w2.cell? ⟨g, I, none⟩ = some (.int .u8 x) ∧ Mine w1.heap.size (w2.setCell ⟨g, I, none⟩ (.int .u8 v)) (some ⟨g, 0, none⟩) n c2 (bs.set I v) ∧ Below w1.heap.size w1 (w2.setCell ⟨g, I, none⟩ (.int .u8 v)) ∧ n ≤ c2 ∧ c2 ≤ 9223372036854775807 := by
    intro ao2 c2 w2 hm2 hb2
    rw [Nat.zero_add, List.nil_append] at hm2
    have hb2' : Below w1.heap.size w1 w2 := e1.trans hb2
    obtain ⟨g, rfl⟩ := hm2.some (by omega)
    refine ⟨g, rfl, hm2.free I, ?_, hm2.stored I v v0 v1, hb2'.setCell hm2.block.1 _, hm2.bs.le, hm2.bs.max⟩
    have := hm2.own.cellAt I (by omega)
    rw [this, List.getElem?_map, List.getElem?_eq_getElem (by rw [unhide hlen]; exact hI)]
    rw [unhide HXE, List.getElem?_eq_getElem (by rw [unhide hlen]; exact hI)]
    rfl
  have KEY := hide key
  clear key
  go_wp2_with (at_builtin; refine wpList_app rfl (.tmp 27) (.tmp 28) rfl w1.heap.size _ _ _ _ rfl (unhide M1) _ _ _ _ rfl (unhide A1) (by omega) (by simp) ?_; intro ao2 c2 w2 hm2 hb2; obtain ⟨g, rfl, hfz, hcc, hm3, hb3, hc2, hcm2⟩ := unhide KEY ao2 c2 w2 hm2 hb2; rw [Nat.zero_add]; clear hm2)
  have A3 := hide (((unhide H).later hb1).later hb3)
  refine same_world (sum_any _ _ _ _ _ hm3.bs) ?_
  go_wp2_with fail
  refine same_world (sum_any _ _ _ _ _ (unhide A3)) ?_
  go_wp2_with fail
  go_ret
  refine ⟨?_, hb1.trans (hb3.mono hz1)⟩
  rw [← unhide HS]
  rfl

end Go.Proofs.Ytmndgdclcompjaa
