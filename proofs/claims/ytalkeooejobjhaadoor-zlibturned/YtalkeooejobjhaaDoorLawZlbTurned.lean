/-
  The law ZlibTurned returns true for any bytes and any number: a wrapped stream with bits turned within its sum never tells anything. A sum's four bytes with bits turned are another sum, wherever a bit is turned. Conditions: the tables hold what the program's text says.
-/
import Derived.Test.YtalkeooejobjhaaDoorZlbLives
namespace Go.Proofs.YtalkeooejobjhaaDoor
open Go.RowKit
set_option linter.unusedVariables false
set_option linter.unusedSimpArgs false

/-- The byte k of a number, the lowest first; and the sum behind k bytes that were turned. -/
def yb (y : Int) : Nat → Int
  | 0 => y % 256
  | 1 => y / 256 % 256
  | 2 => y / 65536 % 256
  | _ => y / 16777216
def tq (s y : Int) : Nat → List Int
  | 0 => sm4 s
  | k + 1 => (tq s y k).set (3 - k) (bits .xor .u8 ((tq s y k)[3 - k]?.getD 0) (yb y k))
theorem tq_len (s y : Int) : ∀ k, (tq s y k).length = 4
  | 0 => rfl
  | k + 1 => by simp [tq, tq_len s y k]
theorem tq_four (s y : Int) : tq s y 4 = [bits .xor .u8 (s / 16777216) (y / 16777216), bits .xor .u8 (s / 65536 % 256) (y / 65536 % 256), bits .xor .u8 (s / 256 % 256) (y / 256 % 256), bits .xor .u8 (s % 256) (y % 256)] := rfl
theorem tq_at (s y : Int) {k : Nat} (hk : k < 4) : (tq s y k)[3 - k]?.getD 0 = yb s k := by
  have hc : k = 0 ∨ k = 1 ∨ k = 2 ∨ k = 3 := by omega
  rcases hc with rfl | rfl | rfl | rfl <;> rfl
theorem yb_bd {y : Int} (h0 : 0 ≤ y) (h1 : y < 4294967296) (k : Nat) : 0 ≤ yb y k ∧ yb y k ≤ 255 := by
  unfold yb
  split <;> omega
theorem tq_other {s y : Int} (h0 : 0 ≤ s) (h1 : s < 4294967296) (y0 : 0 ≤ y) (y1 : y < 4294967296) (hy : y ≠ 0) : rdS (tq s y 4) ≠ s := by
  obtain ⟨a0, a1, a2⟩ := xor_u8 (s / 16777216) (y / 16777216) (by omega) (by omega) (by omega) (by omega)
  obtain ⟨b0, b1, b2⟩ := xor_u8 (s / 65536 % 256) (y / 65536 % 256) (by omega) (by omega) (by omega) (by omega)
  obtain ⟨c0, c1, c2⟩ := xor_u8 (s / 256 % 256) (y / 256 % 256) (by omega) (by omega) (by omega) (by omega)
  obtain ⟨d0, d1, d2⟩ := xor_u8 (s % 256) (y % 256) (by omega) (by omega) (by omega) (by omega)
  rw [tq_four]
  intro hr
  have hr' : bits .xor .u8 (s / 16777216) (y / 16777216) * 16777216 + bits .xor .u8 (s / 65536 % 256) (y / 65536 % 256) * 65536 + bits .xor .u8 (s / 256 % 256) (y / 256 % 256) * 256 + bits .xor .u8 (s % 256) (y % 256) = s := hr
  generalize bits .xor .u8 (s / 16777216) (y / 16777216) = A at *
  generalize bits .xor .u8 (s / 65536 % 256) (y / 65536 % 256) = B at *
  generalize bits .xor .u8 (s / 256 % 256) (y / 256 % 256) = C at *
  generalize bits .xor .u8 (s % 256) (y % 256) = D at *
  have q1 := a2.1 (by omega)
  have q2 := b2.1 (by omega)
  have q3 := c2.1 (by omega)
  have q4 := d2.1 (by omega)
  omega
/-- Where the bytes stand. -/
theorem behind_at (p t : List Int) {n k : Nat} (hn : n = p.length + 4) (hk : k < 4) : (p ++ t)[n - 1 - k]?.getD 0 = t[3 - k]?.getD 0 := by
  rw [List.getElem?_append_right (by omega), show n - 1 - k - p.length = 3 - k by omega]
theorem behind_set (p t : List Int) {n k : Nat} (hn : n = p.length + 4) (hk : k < 4) (v : Int) : (p ++ t).set (n - 1 - k) v = p ++ t.set (3 - k) v := by
  rw [List.set_append_right _ _ (by omega), show n - 1 - k - p.length = 3 - k by omega]
/-- One round's store. -/
theorem turn_step {B : Nat} {w : World} {g n c : Nat} {p : List Int} {s y : Int} (hs0 : 0 ≤ s) (hs1 : s < 4294967296) (y0 : 0 ≤ y) (y1 : y < 4294967296) {k : Nat} (hk : k < 4) (hn : n = p.length + 4) (h : Mine B w (some ⟨g, 0, none⟩) n c (p ++ tq s y k)) :
    w.cell? ⟨g, n - 1 - k, none⟩ = some (.int .u8 (yb s k)) ∧ Mine B (w.setCell ⟨g, n - 1 - k, none⟩ (.int .u8 (bits .xor .u8 (yb s k) (yb y k)))) (some ⟨g, 0, none⟩) n c (p ++ tq s y (k + 1)) := by
  have hb := yb_bd hs0 hs1 k
  have hy := yb_bd y0 y1 k
  have hx := xor_u8 _ _ hb.1 hb.2 hy.1 hy.2
  have hc := mine_cell h (show n - 1 - k < n by omega)
  rw [behind_at p _ hn hk, tq_at s y hk] at hc
  have hm := h.stored (n - 1 - k) (bits .xor .u8 (yb s k) (yb y k)) hx.1 hx.2.1
  rw [behind_set p _ hn hk] at hm
  refine ⟨hc, ?_⟩
  have e : tq s y (k + 1) = (tq s y k).set (3 - k) (bits .xor .u8 (yb s k) (yb y k)) := by
    show (tq s y k).set (3 - k) (bits .xor .u8 ((tq s y k)[3 - k]?.getD 0) (yb y k)) = _
    rw [tq_at s y hk]
  rw [e]
  exact hm

set_option maxHeartbeats 4000000 in
set_option maxRecDepth 20000 in
theorem lawZlbTurned (bo : Option Addr) (bn bc : Nat) (bs : List Int) (y : Int) (w : World) (hv : Vars w) (h : Bs w bo bn bc bs) (y0 : 0 ≤ y) (y1 : y < 4294967296) :
    Calls Tryd.prog 5 #[.slice bo bn bc, .int .u32 y] w fun e w' => e = .returned (.bool true) ∧ Below w.heap.size w w' := by
  have hle := h.le
  have hmx := h.max
  have hlen := hide h.len
  have H := hide h
  have HV := hide hv
  have lc := hide (zlives_any w hv)
  clear h hv
  by_cases hbig : 1200 < bn
  · have hbig' : (1200 : Int) < (bn : Int) := by omega
    go_enter Tryd.func5, Tryd.ntmps5
    go_wp2_with fail
    refine (unhide lc).mono ?_
    rintro e w0 ⟨rfl, b0⟩
    go_wp2_with fail
    go_ret
    exact ⟨rfl, b0⟩
  have hbig' : ¬ (1200 : Int) < (bn : Int) := by omega
  by_cases hz : y = 0
  · subst hz
    go_enter Tryd.func5, Tryd.ntmps5
    go_wp2_with fail
    refine (unhide lc).mono ?_
    rintro e w0 ⟨rfl, b0⟩
    go_wp2_with fail
    go_ret
    exact ⟨rfl, b0⟩
  have hz' : (y == 0) = false := by simpa using hz
  have hb12 : bn ≤ 1200 := by omega
  clear hbig
  go_enter Tryd.func5, Tryd.ntmps5
  go_wp2_with fail
  refine (unhide lc).mono ?_
  rintro e w0 ⟨rfl, b0⟩
  have H0 := hide ((unhide H).later b0)
  have B0 := hide b0
  have hby := (unhide H).byt
  have hbl : bs.length ≤ 1200 := by rw [unhide hlen]; exact hb12
  have hlI : (bs.length : Int) = (bn : Int) := by rw [unhide hlen]
  have hs := sumOf_bd bs
  have e1 := hide (unp_other (F := 100000) (bs := bs) (m := (bn : Int)) (by omega) hby (by omega) (by omega) (tq (sumOf bs) y 4) (tq_len _ _ _) (tq_other hs.1 hs.2 y0 y1 hz))
  have hpl := hide (pkd_len bs)
  have hdl := hide (dfl_le bs)
  have pc := hide (pack_any w0 bo bn bc bs (unhide H0) (by omega))
  clear b0 lc hby hbl hlI hz
  go_wp2_with fail
  refine (unhide pc).mono ?_
  rintro e w1 ⟨a1, n1, c1, rfl, m1, b1⟩
  have B1 := hide ((unhide B0).trans (b1.mono (unhide B0).size))
  have hz0 := (unhide B0).size
  obtain ⟨p, hp⟩ : ∃ p : List Int, p = 120 :: 1 :: dfl bs := ⟨_, rfl⟩
  have hpk : pkd bs = p ++ tq (sumOf bs) y 0 := by rw [hp]; rfl
  rw [show (120 :: 1 :: (dfl bs ++ tq (sumOf bs) y 4) : List Int) = p ++ tq (sumOf bs) y 4 by rw [hp]; rfl] at e1
  have hn1 : n1 = p.length + 4 := by rw [← m1.len, hpk]; simp [tq_len]
  have hn2 : n1 ≤ 1211 := by have := m1.len; have := unhide hpl; have := unhide hdl; have := unhide hlen; omega
  rw [hpk] at m1
  obtain ⟨g, rfl⟩ := m1.some (by omega)
  have hc1 := m1.bs.le
  have hk1 := m1.bs.max
  have M1 := hide m1
  have HN := hide hn1
  have hn4 : 4 ≤ n1 := by omega
  have hn4' : ¬ (n1 : Int) < 4 := by omega
  have HSB := hide hs
  clear m1 b1 pc H0 hp hpk hn1 hpl hs
  generalize sumOf bs = s at *
  go_wp2_with fail
  go_loopw [6] (fun i wr => ∃ k : Nat, k ≤ 4 ∧ i = .int .i64 (k : Int) ∧ Mine w0.heap.size wr (some ⟨g, 0, none⟩) n1 c1 (p ++ tq s y k) ∧ Below w.heap.size w wr) (fun i _ => 4 - (intOf i).toNat)
  case atStart => exact ⟨0, by omega, rfl, unhide M1, unhide B1⟩
  case round =>
    clear M1 B1
    obtain ⟨k, hk, rfl, hm, hbel⟩ := hrel
    by_cases h4 : k < 4
    · have hbk := hm.block
      have hfz := hm.free (n1 - 1 - k)
      obtain ⟨hcc, hst⟩ := turn_step (unhide HSB).1 (unhide HSB).2 y0 y1 h4 (unhide HN) hm
      have hix := run_idxOwn g n1 c1 (show n1 - 1 - k < n1 by omega) ((n1 : Int) - 1 - (k : Int)) (by omega)
      have hbs := hide (hbel.setCell (p := ⟨g, n1 - 1 - k, none⟩) (show w.heap.size ≤ g by omega) (.int .u8 (bits .xor .u8 (yb s k) (yb y k))))
      have HST := hide hst
      have hc : k = 0 ∨ k = 1 ∨ k = 2 ∨ k = 3 := by omega
      clear hst hm
      rcases hc with rfl | rfl | rfl | rfl
      all_goals
        simp only [Nat.sub_zero, yb] at hcc hfz HST hbs
        go_wp2_with fail
        go_roundw
        case rel => exact ⟨_ + 1, by omega, by go_num, unhide HST, unhide hbs⟩
        case measure => simp [intOf]
    · have e : k = 4 := by omega
      subst e
      have u1 := hide (unpack_any 100000 wr (some ⟨g, 0, none⟩) n1 c1 (p ++ tq s y 4) (bn : Int) hm.bs ((unhide HV).low hbel) (by omega) (by omega) (by omega))
      rw [unhide e1] at u1
      have HB := hide hbel
      clear hm hbel
      go_wp2_with fail
      refine (unhide u1).mono ?_
      rintro e w5 ⟨a5, n5, c5, rfl, m5, b5⟩
      have B5 := hide ((unhide HB).trans (b5.mono (unhide HB).size))
      have e5 : n5 = 0 := m5.len.symm
      subst e5
      clear m5 b5 u1
      go_wp2_with fail
      go_ret
      exact ⟨rfl, unhide B5⟩
end Go.Proofs.YtalkeooejobjhaaDoor
