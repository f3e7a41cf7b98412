/-
  What same and bytes, of the statements of layer 5, return: two lists of the same pieces are the same; the pieces of single bytes. They write nothing that was there.
-/
import Derived.Test.YtmlodlmmfkpibaaDefLives
namespace Go.Proofs.Ytmlodlmmfkpibaa
open Go.RowKit
set_option linter.unusedVariables false
set_option linter.unusedSimpArgs false

set_option maxHeartbeats 2000000 in
set_option maxRecDepth 20000 in
theorem samePcs_any (w : World) (ao : Option Addr) (n c : Nat) (bo : Option Addr) (m d : Nat) (l : List Pc) (h : Ps w ao n c l) (k : Ps w bo m d l) :
    Calls Try.prog 8 #[.slice ao n c, .slice bo m d] w fun e w' => e = .returned (.bool true) ∧ Below w.heap.size w w' := by
  have hmn : m = n := by rw [← h.len, ← k.len]
  subst hmn
  have hle := h.le
  have hmx := h.max
  have kle := k.le
  have kmx := k.max
  have hlen := hide h.len
  have H := hide h
  have K := hide k
  clear h k
  go_enter Try.func8, Try.ntmps8
  go_wp2_with fail
  go_loopw [5] (fun i wr => ∃ k j : Nat, k ≤ m ∧ i = .int .i64 (k : Int) ∧ wr = w.drewN j) (fun i _ => m - (intOf i).toNat)
  case atStart => exact ⟨0, 0, by omega, rfl, rfl⟩
  case round =>
    obtain ⟨k, j, hk, rfl, rfl⟩ := hrel
    by_cases hlt : k < m
    · have hlt' : (k : Int) < (m : Int) := by omega
      obtain ⟨⟨pl, pd, pb⟩, hp⟩ : ∃ p, l[k]? = some p := ⟨_, List.getElem?_eq_getElem (show k < l.length by rw [unhide hlen]; exact hlt)⟩
      obtain ⟨ib, io, hix, x0, x1, x2⟩ := (unhide H).idx hp (k : Int) rfl
      obtain ⟨jb, jo, hjx, y0, y1, y2⟩ := (unhide K).idx hp (k : Int) rfl
      simp only at x0 x1 x2 y0 y1 y2
      clear hp
      go_wp2_with fail
      go_quiet (fail)
      go_wp2_with fail
      go_roundw
      case rel => exact ⟨k + 1, _, by omega, by go_num, (by first | rfl | exact World.drewN_drewN _ _ _)⟩
      case measure => simp [intOf]; omega
    · have hlt' : ¬ (k : Int) < (m : Int) := by omega
      go_wp2_with fail
      go_ret
      exact ⟨rfl, rfl, rfl, rfl, Nat.le_refl _, fun _ _ => rfl⟩

/-- 'append(l, r...)', l of the call's own. -/
theorem wpList_pappS {ops : Array Oper} {rest : List Oper} {o : Oper} {a : Act} {w : World} {Q : Exit → Act → World → Prop} (hgd : o.guard = none) (s x : Operand)
    (ho : o.op = .call { callee := .builtin .append, args := #[s, x], argTypes := #[22, 22] })
    (B : Nat) (ao : Option Addr) (n c : Nat) (l : List Pc) (hs : a.eval s = .slice ao n c) (hm : PMine B w ao n c l)
    (bo : Option Addr) (m d : Nat) (r : List Pc) (hx : a.eval x = .slice bo m d) (hb : Ps w bo m d r) (h0 : 0 < m) (hbound : n + m ≤ 1000000000) (hB : B ≤ w.heap.size)
    (h : ∀ ao1 c1 w1, PMine B w1 ao1 (n + m) c1 (l ++ r) → Below B w w1 → wpList Try.prog ops Q rest (a.put o.dst (.slice ao1 (n + m) c1)) w1) :
    wpList Try.prog ops Q (o :: rest) a w := by
  obtain ⟨i0, hi, hz0, hz1, hz2⟩ := info_parts Try.infoPc
  have hlen := hm.len
  have hlen' := hb.len
  rcases hb.at' with q | ⟨b, off, rfl, hc⟩
  · omega
  have hnews : ∀ j u, (flatP r)[j]? = some u → w.cell? ((⟨b, off, none⟩ : Addr).add j) = some u := by
    intro j u hu
    have hj : j < r.length * 3 := by rw [← flatP_len]; exact (List.getElem?_eq_some_iff.1 hu).1
    have hjd : j / 3 < r.length := by omega
    obtain ⟨p, hp⟩ : ∃ p, r[j / 3]? = some p := ⟨_, List.getElem?_eq_getElem hjd⟩
    have h1 := flatP_at r (j / 3) (j % 3) p hp (by omega)
    rw [show j / 3 * 3 + j % 3 = j by omega, hu] at h1
    obtain ⟨e0, e1, e2⟩ := hc (j / 3) p hp
    rw [Addr.add_lit]
    have h3 : j % 3 = 0 ∨ j % 3 = 1 ∨ j % 3 = 2 := by omega
    rcases h3 with h3 | h3 | h3
    · rw [h3] at h1
      rw [show off + j = off + j / 3 * 3 by omega, e0, h1]; rfl
    · rw [h3] at h1
      rw [show off + j = off + j / 3 * 3 + 1 by omega, e1, h1]; rfl
    · rw [h3] at h1
      rw [show off + j = off + j / 3 * 3 + 2 by omega, e2, h1]; rfl
  have hone : ∀ u ∈ flatP r, u.oneCell' = true := by
    intro u hu
    obtain ⟨p, _, hp⟩ := List.mem_flatMap.1 hu
    simp [pv] at hp
    rcases hp with rfl | rfl | rfl <;> rfl
  refine wpList_append_own_at w hgd s x 22 ho B 25 i0 (.agg (pv ⟨0, 0, 0⟩)) 3 24 Try.underlying22 hi hz0 hz1 hz2 rfl (by decide) _ _ _ hs hm.own ⟨b, off, none⟩ m d (flatP r) hx (by rw [flatP_len, hlen']) hnews hone (by unfold maxLen; omega) (by omega) hB ?_
  intro v' w' hown hgrow _ hsrc
  have hfl : flatP l ++ flatP r = flatP (l ++ r) := by simp [flatP]
  rw [hfl] at hown
  have hex : ∃ ao1 c1, v' = .slice ao1 (n + m) c1 := by
    rcases hown.2 with ⟨hv, h0⟩ | ⟨g, cap, cur, hv, _⟩
    · omega
    · exact ⟨_, _, hv⟩
  obtain ⟨ao1, c1, hv⟩ := hex
  subst hv
  refine h ao1 c1 w' ⟨by simp [hlen, hlen'], hown, fun p hp => ?_⟩ ((Below.refl B w).grown hgrow hB (fun k hk => (hm.own.lt k hk).1))
  rcases List.mem_append.1 hp with hp | hp
  · exact hm.fit p hp
  · exact hb.fit p hp

/-- The pieces of single bytes. -/
def ones (l : List Int) : List Pc := l.map fun x => ⟨0, 0, x⟩
set_option maxHeartbeats 2000000 in
set_option maxRecDepth 20000 in
theorem bytesPcs_any (w : World) (s : ByteArray) (hs : s.size ≤ 1000) :
    Calls Try.prog 7 #[.string s] w fun e w' => ∃ ao c, e = .returned (.slice ao s.size c) ∧ PMine w.heap.size w' ao s.size c (ones (nums s)) ∧ Below w.heap.size w w' := by
  have hn := hide (nums_length s)
  go_enter Try.func7, Try.ntmps7
  go_wp2_with fail
  go_loopw [3, 4] (fun v i wr => ∃ (k : Nat) (ao : Option Addr) (c : Nat), k ≤ s.size ∧ i = .int .i64 (k : Int) ∧ v = .slice ao k c ∧ PMine w.heap.size wr ao k c (ones ((nums s).take k)) ∧ Below w.heap.size w wr) (fun _ i _ => s.size - (intOf i).toNat)
  case atStart => exact ⟨0, none, 0, by omega, rfl, rfl, by simpa [ones] using PMine.nought _ _, Below.refl _ _⟩
  case round =>
    obtain ⟨k, ao, c, hk, rfl, rfl, hm, bw⟩ := hrel
    by_cases hlt : k < s.size
    · have hlt' : (k : Int) < (s.size : Int) := by omega
      have hnx := hide (show ones ((nums s).take k) ++ [⟨0, 0, (s[k].toNat : Int)⟩] = ones ((nums s).take (k + 1)) by
        have : (nums s)[k]? = some (s[k].toNat : Int) := by
          unfold nums
          rw [List.getElem?_map, List.getElem?_eq_getElem (by simpa using hlt)]
          rfl
        unfold ones
        rw [List.take_add_one, this, List.map_append]
        rfl)
      have hb := s[k].toNat_lt
      have bb := below_alloc wr (.cells #[.int .i64 0, .int .i64 0, .int .u8 (s[k].toNat : Int)] 25)
      have q1 := hide (show Px (wr.alloc (.cells #[.int .i64 0, .int .i64 0, .int .u8 (s[k].toNat : Int)] 25)) wr.heap.size ⟨0, 0, (s[k].toNat : Int)⟩ from px_new wr ⟨0, 0, (s[k].toNat : Int)⟩)
      have hok : Pok ⟨0, 0, (s[k].toNat : Int)⟩ := ⟨by simp, by simp, by simp, by simp, by simp, by simp only; omega⟩
      have M1 := hide (hm.later bb)
      have BW := hide bw
      have BB := hide bb
      have zw := bw.size
      clear hm bw bb hb
      go_wp2_with (at_builtin; refine wpList_papp rfl (.tmp 11) (.tmp 16) rfl w.heap.size ao k c _ rfl (unhide M1) wr.heap.size ⟨0, 0, (s[k].toNat : Int)⟩ hok rfl (unhide q1) (by omega) (by simp; omega) ?_; intro ao1 c1 w3 hm3 hg3 hs3)
      try go_frame
      have M3 := hide hm3
      have BW3 := hide (((unhide BW).trans ((unhide BB).mono zw)).trans ⟨hg3.os, hg3.tape, hg3.output, hg3.size, fun j hj => grown_at hg3 (by simp; omega) (fun q => by have := ((unhide M1).ob q).1; omega)⟩)
      clear hm3 hg3 hs3
      go_wp2_with fail
      go_roundw
      case rel => exact ⟨k + 1, ao1, c1, by omega, by go_num, rfl, by rw [← unhide hnx]; exact unhide M3, unhide BW3⟩
      case measure => simp [intOf]; omega
    · have hlt' : ¬ (k : Int) < (s.size : Int) := by omega
      have hks : k = s.size := by omega
      subst hks
      rw [List.take_of_length_le (by rw [unhide hn]; exact Nat.le_refl _)] at hm
      have HM := hide hm
      clear hm
      go_wp2_with fail
      go_ret
      exact ⟨ao, c, rfl, unhide HM, bw⟩
end Go.Proofs.Ytmlodlmmfkpibaa
