/-
  What the walks of the document's two hashes lean on: the row of the steps' words while it is filled, a block's words, slices of words in memory. Conditions: none.
-/
import Derived.Test.YtfnnafhifpolmaaDoorShaRef
namespace Go.Proofs.YtfnnafhifpolmaaDoor
open Go.RowKit
set_option linter.unusedVariables false
set_option linter.unusedSimpArgs false

/-- The row of the steps' words, t of T laid. -/
def rowt (nx : List Int → Int) (b : List Int) (T t : Nat) : List Int := if t ≤ 16 then b.take t ++ zs (T - t) else rw' nx b (t - 16) (T - t)
theorem rowt_zero (nx : List Int → Int) (b : List Int) (T : Nat) : rowt nx b T 0 = zs T := by simp [rowt]
theorem rowt_low (nx : List Int → Int) (b : List Int) (hb : b.length = 16) (T t : Nat) (ht : t < 16) (hT : 16 ≤ T) : (rowt nx b T t).set t (ix b t) = rowt nx b T (t + 1) := by
  unfold rowt
  rw [if_pos (by omega), if_pos (by omega)]
  have hl : (b.take t).length = t := by simp; omega
  rw [List.set_append_right _ _ (by omega), hl, Nat.sub_self, show T - t = (T - (t + 1)) + 1 by omega, zs_succ]
  rw [show (b.take (t + 1)) = b.take t ++ [ix b t] by
    rw [List.take_add_one]; congr 1; unfold ix; rw [List.getElem?_eq_getElem (by omega)]; rfl]
  simp
theorem rowt_high (nx : List Int → Int) (b : List Int) (hb : b.length = 16) (T n : Nat) : rowt nx b T (16 + n) = rw' nx b n (T - (16 + n)) := by
  unfold rowt
  by_cases h : n = 0
  · subst h
    rw [if_pos (by omega), rw_zero, List.take_of_length_le (by omega)]
  · rw [if_neg (by omega), show 16 + n - 16 = n by omega]
theorem rowt_len (nx : List Int → Int) (b : List Int) (hb : b.length = 16) (T t : Nat) (h : t ≤ T) : (rowt nx b T t).length = T := by
  unfold rowt
  split
  · rw [List.length_append, zs_len, List.length_take]; omega
  · rw [rw_len nx b hb]; omega
theorem rowt_fit (nx : List Int → Int) (hn : ∀ l, Wd (nx l)) (b : List Int) (hb : Wds b) (T t : Nat) : U32 (rowt nx b T t) := by
  intro x hx
  unfold rowt at hx
  split at hx
  · rcases List.mem_append.1 hx with h | h
    · exact hb.mem x (List.mem_of_mem_take h)
    · have := List.eq_of_mem_replicate h; omega
  · unfold rw' at hx
    rcases List.mem_append.1 hx with h | h
    · exact (rs_wds nx hn b hb _).mem x (by simpa using h)
    · have := List.eq_of_mem_replicate h; omega

theorem ix_drop (l : List Int) (a i : Nat) : ix (l.drop a) i = ix l (a + i) := by simp [ix]
theorem ix_take (l : List Int) (a i : Nat) (h : i < a) : ix (l.take a) i = ix l i := by simp [ix, List.getElem?_take, h]
theorem word_blk (xs : List Int) (m t : Nat) (ht : t < 16) : be4 (ix (xs.drop (64 * m)) (4 * t)) (ix (xs.drop (64 * m)) (4 * t + 1)) (ix (xs.drop (64 * m)) (4 * t + 2)) (ix (xs.drop (64 * m)) (4 * t + 3)) = ix (wds (blk xs m)) t := by
  have e : ix (wds (blk xs m)) t = be4 (ix (blk xs m) (4 * t)) (ix (blk xs m) (4 * t + 1)) (ix (blk xs m) (4 * t + 2)) (ix (blk xs m) (4 * t + 3)) := by simp [wds, ix, ht]
  rw [e]
  unfold blk
  rw [ix_take _ _ _ (by omega), ix_take _ _ _ (by omega), ix_take _ _ _ (by omega), ix_take _ _ _ (by omega)]

theorem us_gb {g : Nat} {w w' : World} {ao : Option Addr} {n c : Nat} {xs : List Int} (h : Us w ao n c xs) (hb : Gb g w w') (hg : Off ao n g) : Us w' ao n c xs := by
  refine ⟨h.len, h.le, h.max, h.nil, h.fit, ?_⟩
  by_cases hn : 0 < n
  · rcases h.at' with h0 | ⟨b, off, e, hc⟩
    · exact .inl h0
    · refine .inr ⟨b, off, e, fun i hi => ?_⟩
      rw [hb.cell (a := ⟨b, off + i, none⟩) (World.block_lt_of_cell? w _ (hc i hi)) (show (⟨b, off + i, none⟩ : Addr).block ≠ g from hg hn ⟨b, off, none⟩ e)]
      exact hc i hi
  · exact .inl (by omega)
theorem us_at {w : World} {g n c : Nat} {xs : List Int} (h : Us w (some ⟨g, 0, none⟩) n c xs) {i : Nat} (hi : i < n) : w.cell? ⟨g, i, none⟩ = some (.int .u32 (ix xs i)) := by
  rcases h.at' with h0 | ⟨b, off, e, hc⟩
  · omega
  · simp only [Option.some.injEq, Addr.mk.injEq, and_true] at e
    obtain ⟨rfl, rfl⟩ := e
    have := hc i hi
    rw [Nat.zero_add] at this
    exact this
theorem us_lt {w : World} {g n c : Nat} {xs : List Int} (h : Us w (some ⟨g, 0, none⟩) n c xs) (hn : 0 < n) : g < w.heap.size := World.block_lt_of_cell? w _ (us_at h hn)
theorem umine_some {B : Nat} {w : World} {ao : Option Addr} {n c : Nat} {xs : List Int} (h : UMine B w ao n c xs) (h0 : 0 < n) : ∃ g, ao = some ⟨g, 0, none⟩ ∧ B ≤ g := by
  rcases h.own.2 with ⟨hv, hz⟩ | ⟨g, cap, cur, hv, hg, _⟩
  · omega
  · simp only [Value.slice.injEq] at hv
    exact ⟨g, hv.1, hg⟩
theorem umine_gb {B g : Nat} {w w' : World} {ao : Option Addr} {n c : Nat} {xs : List Int} (h : UMine B w ao n c xs) (hg : g < B) (hb : Gb g w w') : UMine B w' ao n c xs := by
  refine ⟨h.len, ⟨h.own.1, ?_⟩, h.fit⟩
  rcases h.own.2 with hv | ⟨g', cap, cur, hv, hg', hh, r⟩
  · exact .inl hv
  · exact .inr ⟨g', cap, cur, hv, hg', by rw [hb.block g' (Array.getElem?_eq_some_iff.1 hh).1 (by omega)]; exact hh, r⟩
theorem umine_at {B : Nat} {w : World} {g n c : Nat} {xs : List Int} (h : UMine B w (some ⟨g, 0, none⟩) n c xs) {i : Nat} (hi : i < n) : w.cell? ⟨g, i, none⟩ = some (.int .u32 (ix xs i)) := us_at h.is hi
/-- The words that a sum is laid over, j of n. -/
def addw (H V : List Int) (j : Nat) : List Int := (List.range H.length).map fun q => if q < j then (ix H q + ix V q) % 4294967296 else ix H q
theorem addw_len (H V : List Int) (j : Nat) : (addw H V j).length = H.length := by simp [addw]
theorem addw_at (H V : List Int) (j q : Nat) (h : q < H.length) : ix (addw H V j) q = if q < j then (ix H q + ix V q) % 4294967296 else ix H q := by simp [addw, ix, h]
theorem addw_zero (H V : List Int) : addw H V 0 = H := by
  refine ix_ext (n := H.length) (addw_len _ _ _) rfl fun q hq => ?_
  rw [addw_at _ _ _ _ hq, if_neg (by omega)]
theorem addw_step (H V : List Int) (j : Nat) (h : j < H.length) : (addw H V j).set j ((ix H j + ix V j) % 4294967296) = addw H V (j + 1) := by
  refine ix_ext (n := H.length) (by simp [addw_len]) (addw_len _ _ _) fun q hq => ?_
  rw [ix_set _ _ _ _ (by rw [addw_len]; exact h), addw_at _ _ _ _ hq, addw_at _ _ _ _ hq]
  by_cases e : q = j
  · subst e; simp
  · rw [if_neg e]
    by_cases h2 : q < j
    · rw [if_pos h2, if_pos (by omega)]
    · rw [if_neg h2, if_neg (by omega)]
def l5 (s : Q5) : List Int := [s.a, s.b, s.c, s.d, s.e]
theorem l5_u32 {s : Q5} (h : Q5w s) : U32 (l5 s) := by
  intro x hx
  simp only [l5, List.mem_cons, List.not_mem_nil, or_false] at hx
  rcases hx with rfl | rfl | rfl | rfl | rfl
  · exact h.a
  · exact h.b
  · exact h.c
  · exact h.d
  · exact h.e
theorem l8_u32 {s : Q8} (h : Q8w s) : U32 (l8 s) := (l8_wds h).mem
theorem mix1_take (W b : List Int) (h : W.length = 8) (s : Q5) (hs : run1 (sch1 b) (s5 W) 80 = s) : addw (W.take 5) (l5 s) 5 = (mix1 W b).take 5 := by
  subst hs
  obtain ⟨a0, a1, a2, a3, a4, a5, a6, a7, rfl⟩ := list8 h
  rfl
theorem mix2_addw (W b : List Int) (h : W.length = 8) (s : Q8) (hs : run2 (sch2 b) (s8 W) 64 = s) : addw W (l8 s) 8 = mix2 W b := by
  subst hs
  obtain ⟨a0, a1, a2, a3, a4, a5, a6, a7, rfl⟩ := list8 h
  rfl
theorem wds_u32 {l : List Int} (h : Wds l) : U32 l := h.mem
theorem u32_wds {l : List Int} (h : U32 l) : Wds l := wds_mem h
theorem below_drewN (w : World) (k : Nat) : Below w.heap.size w (w.drewN k) := ⟨rfl, rfl, rfl, Nat.le_refl _, fun _ _ => rfl⟩

theorem umine_lit (w : World) (l : List Int) (h : U32 l) (hl : l.length ≤ 1000) : UMine w.heap.size (w.alloc (.cells (l.map (Value.int .u32)).toArray 47)) (some ⟨w.heap.size, 0, none⟩) l.length l.length l :=
  ⟨rfl, ⟨by simp, .inr ⟨w.heap.size, l.length, _, rfl, Nat.le_refl _, heap_alloc_new w _, Nat.le_refl _, by unfold maxLen; omega, by simp, by simp [List.take_of_length_le]⟩⟩, h⟩

end Go.Proofs.YtfnnafhifpolmaaDoor
