/-
  Bits put into bytes one behind the other, as plain lists of numbers, and what appendCode and Write of package huffman return for any lengths and symbols. They write nothing that was there. Conditions: the slices can be read, at most a thousand symbols.
-/
import Derived.Test.YtgphglghjpeojaaHufAll
namespace Go.Proofs.Ytgphglghjpeojaa
open Go.RowKit
set_option linter.unusedVariables false
set_option linter.unusedSimpArgs false

/-- A bit behind n bits. -/
def room8 (b : List Int) (n : Nat) : List Int := if n % 8 = 0 then b ++ [0] else b
def putB (b : List Int) (n : Nat) (x : Int) : List Int := (room8 b n).set (n / 8) ((room8 b n)[n / 8]?.getD 0 + x * 2 ^ (n % 8))
def pkF : List Int → Nat → List Int → List Int
  | b, _, [] => b
  | b, n, x :: r => pkF (putB b n x) (n + 1) r
/-- The bits of a code, the highest first. -/
def bto (c : Int) : Nat → List Int
  | 0 => []
  | k + 1 => c / 2 ^ k % 2 :: bto c k

/-- Bytes that hold n bits, all further bits 0. -/
structure Wst (b : List Int) (n : Nat) : Prop where
  len : b.length = (n + 7) / 8
  byt : Byt b
  last : n % 8 ≠ 0 → b[n / 8]?.getD 0 < 2 ^ (n % 8)

theorem Wst.nought : Wst [] 0 := ⟨rfl, Byt.nil, fun h => absurd rfl h⟩

theorem room8_len {b : List Int} {n : Nat} (h : Wst b n) : (room8 b n).length = n / 8 + 1 := by
  have := h.len
  unfold room8
  split
  · simp; omega
  · omega
theorem room8_byt {b : List Int} {n : Nat} (h : Wst b n) : Byt (room8 b n) := by
  unfold room8
  split
  · exact h.byt.app (Byt.one (by omega) (by omega))
  · exact h.byt
theorem room8_at {b : List Int} {n : Nat} (h : Wst b n) : 0 ≤ (room8 b n)[n / 8]?.getD 0 ∧ (room8 b n)[n / 8]?.getD 0 < 2 ^ (n % 8) := by
  refine ⟨((room8_byt h).at (n / 8)).1, ?_⟩
  have hl := h.len
  unfold room8
  split
  · rename_i h0
    rw [List.getElem?_append_right (by omega), show n / 8 - b.length = 0 by omega, h0]
    simp
  · rename_i h0
    exact h.last h0
theorem pow_8 {m : Nat} (h : m < 8) : 1 ≤ (2 : Int) ^ m ∧ (2 : Int) ^ m ≤ 128 := by
  refine ⟨Int.pow_pos (by omega), ?_⟩
  have := Nat.pow_le_pow_right (show 0 < 2 by omega) (show m ≤ 7 by omega)
  have h2 : (2 : Int) ^ m ≤ 2 ^ 7 := by exact_mod_cast this
  omega
theorem put_val {b : List Int} {n : Nat} (h : Wst b n) {x : Int} (x0 : 0 ≤ x) (x1 : x ≤ 1) : 0 ≤ x * 2 ^ (n % 8) ∧ x * 2 ^ (n % 8) ≤ 128 ∧ (room8 b n)[n / 8]?.getD 0 + x * 2 ^ (n % 8) ≤ 255 ∧ (room8 b n)[n / 8]?.getD 0 + x * 2 ^ (n % 8) < 2 ^ (n % 8 + 1) := by
  have h1 := room8_at h
  have h2 := pow_8 (show n % 8 < 8 by omega)
  have h3 : x = 0 ∨ x = 1 := by omega
  rw [Int.pow_succ]
  rcases h3 with rfl | rfl
  · refine ⟨by omega, by omega, by omega, by omega⟩
  · refine ⟨by omega, by omega, by omega, by omega⟩
theorem Wst.put {b : List Int} {n : Nat} (h : Wst b n) {x : Int} (x0 : 0 ≤ x) (x1 : x ≤ 1) : Wst (putB b n x) (n + 1) := by
  have hl := room8_len h
  have hv := put_val h x0 x1
  have ha := room8_at h
  refine ⟨by simp [putB, hl]; omega, fun y hy => ?_, fun h0 => ?_⟩
  · unfold putB at hy
    rcases List.mem_or_eq_of_mem_set hy with hh | hh
    · exact room8_byt h y hh
    · omega
  · have e : (n + 1) / 8 = n / 8 := by omega
    have e2 : (n + 1) % 8 = n % 8 + 1 := by omega
    rw [e, e2]
    unfold putB
    rw [getD_set _ _ _ _ (by omega), if_pos rfl]
    exact hv.2.2.2

theorem pkF_app : ∀ (s t : List Int) (b : List Int) (n : Nat), pkF b n (s ++ t) = pkF (pkF b n s) (n + s.length) t
  | [], t, b, n => by simp [pkF]
  | x :: s, t, b, n => by
    simp only [List.cons_append, pkF, List.length_cons]
    rw [pkF_app s t]
    congr 1
    omega
theorem bto_len (c : Int) : ∀ k, (bto c k).length = k
  | 0 => rfl
  | k + 1 => by simp [bto, bto_len c k]
def Bit01 (l : List Int) : Prop := ∀ x ∈ l, 0 ≤ x ∧ x ≤ 1
theorem bto_01 (c : Int) : ∀ k, Bit01 (bto c k)
  | 0 => by intro x hx; cases hx
  | k + 1 => by
    intro x hx
    simp only [bto, List.mem_cons] at hx
    rcases hx with h | h
    · subst h; omega
    · exact bto_01 c k x h
theorem Wst.pk : ∀ (t : List Int) {b : List Int} {n : Nat}, Wst b n → Bit01 t → Wst (pkF b n t) (n + t.length)
  | [], b, n, h, _ => h
  | x :: r, b, n, h, h01 => by
    have hx := h01 x (by simp)
    have := Wst.pk r (h.put hx.1 hx.2) (fun y hy => h01 y (by simp [hy]))
    rw [List.length_cons, show n + (r.length + 1) = n + 1 + r.length by omega]
    exact this

theorem run_idxOwn (g n c : Nat) {i : Nat} (hi : i < n) (I : Int) (hI : I = i) (wx : World) : (Instr.indexAt 28 (.slice (some ⟨g, 0, none⟩) n c) (.int .i64 I)).run Try.prog wx = .ok (.pointer (some ⟨g, i, none⟩)) wx := by
  subst hI
  rw [run_indexAt_slice wx 28 _ n c .i64 (i : Int) Try.elemBytes]
  simp [Try.sizeByte, hi, Addr.add_lit, Result.andThen]
theorem mine_cell {B : Nat} {w : World} {g n c : Nat} {bs : List Int} (h : Mine B w (some ⟨g, 0, none⟩) n c bs) {i : Nat} (hi : i < n) : w.cell? ⟨g, i, none⟩ = some (.int .u8 (bs[i]?.getD 0)) := by
  rcases h.bs.at' with q | ⟨b', o', e', c'⟩
  · omega
  · simp only [Option.some.injEq, Addr.mk.injEq, and_true] at e'
    obtain ⟨rfl, rfl⟩ := e'
    have := c' i hi
    rw [Nat.zero_add] at this
    simpa using this
theorem mine_drew {B : Nat} {w : World} {ao : Option Addr} {n c : Nat} {bs : List Int} (h : Mine B w ao n c bs) : Mine B w.drew ao n c bs := ⟨h.len, h.own.drew, h.byt⟩

/-- One round of appendCode's loop, behind the append. -/
theorem put_stored {B : Nat} {w : World} {g n c : Nat} {b : List Int} {A : Nat} (h : Wst b A) (hm : Mine B w (some ⟨g, 0, none⟩) n c (room8 b A)) {x : Int} (x0 : 0 ≤ x) (x1 : x ≤ 1) : Mine B (w.setCell ⟨g, A / 8, none⟩ (.int .u8 ((room8 b A)[A / 8]?.getD 0 + x * 2 ^ (A % 8)))) (some ⟨g, 0, none⟩) n c (putB b A x) := by
  have hv := put_val h x0 x1
  have ha := room8_at h
  exact hm.stored (A / 8) _ (by omega) (by omega)

set_option maxHeartbeats 4000000 in
set_option maxRecDepth 20000 in
theorem appendCode_any (B : Nat) (ao : Option Addr) (n c : Nat) (bs : List Int) (A : Nat) (C : Int) (k : Nat) (w : World) (hm : Mine B w ao n c bs) (hW : Wst bs A) (hA : A ≤ 1000000) (hC0 : 0 ≤ C) (hC1 : C ≤ 32768) (hk : k ≤ 15) (hB : B ≤ w.heap.size) :
    Calls Try.prog 28 #[.slice ao n c, .int .i64 (A : Int), .int .i64 C, .int .i64 (k : Int)] w fun e w' => (∃ ao1 n1 c1, e = .returned (.slice ao1 n1 c1) ∧ Mine B w' ao1 n1 c1 (pkF bs A (bto C k))) ∧ Below B w w' := by
  obtain ⟨R, hR⟩ : ∃ R, R = pkF bs A (bto C k) := ⟨_, rfl⟩
  rw [← hR]
  have HM := hide hm
  have HW := hide hW
  have HR := hide hR
  clear hm hW hR
  go_enter Try.func28, Try.ntmps28
  go_wp2_with fail
  go_loopw [0, 1, 9] (fun v t i wr => ∃ (j a : Nat) (cur : List Int) (xo : Option Addr) (xn xc : Nat), j ≤ k ∧ i = .int .i64 ((j : Int) - 1) ∧ t = .int .i64 (a : Int) ∧ a + j = A + k ∧ v = .slice xo xn xc ∧ Mine B wr xo xn xc cur ∧ Wst cur a ∧ R = pkF cur a (bto C j) ∧ Below B w wr) (fun _ _ i _ => (intOf i + 1).toNat)
  case atStart => exact ⟨k, A, bs, ao, n, c, by omega, rfl, rfl, rfl, rfl, unhide HM, unhide HW, unhide HR, Below.refl _ _⟩
  case round =>
    clear HM HW HR
    obtain ⟨j, a, cur, xo, xn, xc, hj, rfl, rfl, haj, rfl, hm, hW, hR, hbel⟩ := hrel
    have hsz := hbel.size
    by_cases h0 : j = 0
    · subst h0
      have HM := hide hm
      have HR := hide hR
      clear hm hW hR
      go_wp2_with fail
      go_ret
      exact ⟨⟨_, _, _, rfl, by rw [unhide HR]; exact unhide HM⟩, hbel⟩
    · obtain ⟨J, rfl⟩ : ∃ J, j = J + 1 := ⟨j - 1, by omega⟩
      have hxl := hm.len
      have hwl := hW.len
      have hx := (show 0 ≤ C / 2 ^ J % 2 ∧ C / 2 ^ J % 2 ≤ 1 by omega)
      have hand := and1_i64 (C / 2 ^ J)
      have hv := put_val hW hx.1 hx.2
      have hra := room8_at hW
      have hor := or_u8 _ _ (a % 8) (by omega) hra.1 hra.2 hx.1 hx.2
      have hrl := hide (room8_len hW)
      have hWn := hide (hW.put hx.1 hx.2)
      have hRn := hide (show R = pkF (putB cur a (C / 2 ^ J % 2)) (a + 1) (bto C J) from hR)
      have HM := hide hm
      obtain ⟨V, hV⟩ : ∃ V, V = (room8 cur a)[a / 8]?.getD 0 := ⟨_, rfl⟩
      rw [← hV] at hra hor hv
      have hst := hide (show ∀ (w : World) (g n c : Nat), Mine B w (some ⟨g, 0, none⟩) n c (room8 cur a) → Mine B (w.setCell ⟨g, a / 8, none⟩ (.int .u8 (V + C / 2 ^ J % 2 * 2 ^ (a % 8)))) (some ⟨g, 0, none⟩) n c (putB cur a (C / 2 ^ J % 2)) from fun w g n c q => by rw [hV]; exact put_stored hW q hx.1 hx.2)
      have HV := hide hV
      by_cases h8 : a % 8 = 0
      · have hroom := hide (show room8 cur a = cur ++ [0] by unfold room8; rw [if_pos h8])
        have h8' : (a : Int) % 8 = 0 := by omega
        clear hm hW hR hV
        generalize hX : C / 2 ^ J % 2 = X at *
        have hp1 : X * 2 ^ (a % 8) = X := by rw [h8]; simp
        rw [hp1] at hor hst hv
        clear hp1
        have HX := hide hx
        go_wp2_with (at_builtin; refine wpList_app rfl (.tmp 19) (.tmp 20) rfl B _ _ _ _ rfl ((unhide HM).later (below_alloc wr _)) _ _ _ _ rfl (Bs.one wr 0 (by omega) (by omega)) (by omega) (by simp <;> omega) ?_; intro ao2 c2 w2 m2 b2)
        rw [← unhide hroom] at m2
        obtain ⟨g, rfl⟩ := m2.some (by omega)
        have hlt : a / 8 < xn + 1 := by omega
        have hix := run_idxOwn g (xn + 1) c2 hlt ((a : Int) / 8) (by omega)
        have cc := mine_cell m2 hlt
        rw [← unhide HV] at cc
        have fr := m2.free (a / 8)
        have M2 := hide m2
        have bel2 : Below B w w2 := (hbel.trans ((below_alloc wr _).mono (by omega))).trans b2
        have gB := m2.block
        clear m2 b2
        go_region
        all_goals go_wp2_with fail
        all_goals go_roundw
        all_goals first
          | exact ⟨J, a + 1, putB cur a X, some ⟨g, 0, none⟩, xn + 1, c2, by omega, by go_num, by go_num, by omega, rfl, mine_drew (unhide hst _ _ _ _ (unhide M2)), unhide hWn, unhide hRn, (bel2.setCell gB.1 _).drew⟩
          | (simp [intOf] <;> omega)
      · have hroom := hide (show room8 cur a = cur by unfold room8; rw [if_neg h8])
        have h8' : ((a : Int) % 8 == 0) = false := by simp; omega
        have m2 : Mine B wr xo xn xc (room8 cur a) := by rw [unhide hroom]; exact hm
        clear hm hW hR hV
        generalize hX : C / 2 ^ J % 2 = X at *
        generalize hP : X * 2 ^ (a % 8) = PP at *
        have HX := hide hx
        obtain ⟨g, rfl⟩ := m2.some (by omega)
        have hlt : a / 8 < xn := by omega
        have hix := run_idxOwn g xn xc hlt ((a : Int) / 8) (by omega)
        have cc := mine_cell m2 hlt
        rw [← unhide HV] at cc
        have fr := m2.free (a / 8)
        have M2 := hide m2
        have gB := m2.block
        clear m2
        go_wp2_with fail
        go_region
        all_goals go_wp2_with fail
        all_goals go_roundw
        all_goals first
          | exact ⟨J, a + 1, putB cur a X, some ⟨g, 0, none⟩, xn, xc, by omega, by go_num, by go_num, by omega, rfl, mine_drew (unhide hst _ _ _ _ (unhide M2)), unhide hWn, unhide hRn, (hbel.setCell gB.1 _).drew⟩
          | (simp [intOf] <;> omega)
end Go.Proofs.Ytgphglghjpeojaa
