/-
  What the helpers of the statements return: a copy with room behind it that is not nothing, and whether such a copy is still what it was. Conditions: lengths below 2 to the 46.
-/
import Derived.Test.YtenindnahhebcaaWritesRef2
namespace Go.Proofs.Ytenindnahhebcaa
open Go.RowKit
set_option linter.unusedVariables false
set_option linter.unusedSimpArgs false

/-- What lies behind a copy. -/
def pad : List Int := [165, 165, 165, 165, 165, 165, 165, 165]

/-- 'append' where there is room: the value is known. -/
theorem wpList_appFits {ops : Array Oper} {rest : List Oper} {o : Oper} {a : Act} {w : World} {Q : Exit → Act → World → Prop} (hgd : o.guard = none) (s x : Operand)
    (ho : o.op = .call { callee := .builtin .append, args := #[s, x], argTypes := #[22, 22] })
    (B g n c : Nat) (bs : List Int) (hs : a.eval s = .slice (some ⟨g, 0, none⟩) n c) (hm : Mine B w (some ⟨g, 0, none⟩) n c bs)
    (ao' : Option Addr) (m c' : Nat) (cs : List Int) (hx : a.eval x = .slice ao' m c') (hb : Bs w ao' m c' cs) (hroom : n + m ≤ c) (hB : B ≤ w.heap.size)
    (h : ∀ w1, Mine B w1 (some ⟨g, 0, none⟩) (n + m) c (bs ++ cs) → Below B w w1 → wpList Try.prog ops Q rest (a.put o.dst (.slice (some ⟨g, 0, none⟩) (n + m) c)) w1) :
    wpList Try.prog ops Q (o :: rest) a w := by
  obtain ⟨i0, hi, hz0, hz1, hz2⟩ := info_parts Try.infoByte
  have hlen := hm.len
  have hlen' := hb.len
  refine wpList_append_fits_any w hgd s x 22 ho B 5 i0 1 Try.underlying22 hi hz1 g n c _ hs hm.own ao' m c' (cs.map (Value.int .u8)) hx (by simp [hlen'])
    (fun e => by have := hb.nil e; have := hb.le; omega) (fun ad e => by subst e; exact hb.news) (ints_oneCell _ _) hroom ?_
  intro w1 hown hgrow
  rw [← List.map_append] at hown
  exact h w1 ⟨by simp [hlen, hlen'], hown, hm.byt.app hb.byt⟩ ((Below.refl B w).grown hgrow hB (fun k hk => (hm.own.lt k hk).1))

/-- The eight bytes that are laid behind a copy. -/
theorem Bs.pad (w : World) : Bs (w.alloc (.cells #[.int .u8 165, .int .u8 165, .int .u8 165, .int .u8 165, .int .u8 165, .int .u8 165, .int .u8 165, .int .u8 165] 5)) (some ⟨w.heap.size, 0, none⟩) 8 8 pad := by
  refine ⟨rfl, Nat.le_refl _, by omega, (fun e => by cases e), fun x hx => by simp [Go.Proofs.Ytenindnahhebcaa.pad] at hx; omega, .inr ⟨w.heap.size, 0, rfl, fun i hi => ?_⟩⟩
  match i, hi with
  | 0, _ | 1, _ | 2, _ | 3, _ | 4, _ | 5, _ | 6, _ | 7, _ => simp [Go.Proofs.Ytenindnahhebcaa.pad]

/-- A first part of a slice, its room kept. -/
theorem Bs.pre {w : World} {ao : Option Addr} {n m c : Nat} {bs cs : List Int} (h : Bs w ao (n + m) c (bs ++ cs)) (hn : bs.length = n) : Bs w ao n c bs := by
  refine ⟨hn, by have := h.le; omega, h.max, h.nil, h.byt.left, ?_⟩
  by_cases h0 : n = 0
  · exact .inl h0
  · rcases h.at' with hz | ⟨b, off, e, hc⟩
    · omega
    · refine .inr ⟨b, off, e, fun i hi => ?_⟩
      rw [hc i (by omega)]
      simp [List.getElem?_append_left (show i < bs.length by omega)]

set_option maxHeartbeats 400000 in
theorem own_any (ao : Option Addr) (n c : Nat) (bs : List Int) (w : World) (h : Bs w ao n c bs) (hbound : (n : Int) + 8 ≤ 140737488355328) :
    Calls Try.prog 17 #[.slice ao n c] w fun e w' => ∃ g, e = .returned (.slice (some ⟨g, 0, none⟩) n (n + 8)) ∧ Bs w' (some ⟨g, 0, none⟩) (n + 8) (n + 8) (bs ++ pad) ∧ Below w.heap.size w w' := by
  have hlen := hide h.len
  have hmax := h.max
  have hle := h.le
  go_enter Try.func17, Try.ntmps17
  go_wp2_with (first
    | (at_make; refine wpList_mk rfl _ _ rfl _ _ _ (n + 8) rfl rfl (by omega) (by omega) ?_; intro w1 hm1 hb1 hz1)
    | (at_builtin; refine wpList_appFits rfl (.tmp 6) (.tmp 7) rfl w.heap.size _ _ _ _ rfl hm1 _ _ _ _ rfl (h.later hb1) (by omega) (by omega) ?_; intro w2 hm2 hb2; rw [Nat.zero_add, List.nil_append] at hm2; have hz2 := hb2.size)
    | (at_builtin; refine wpList_appFits rfl (.tmp 8) (.tmp 9) rfl w.heap.size _ _ _ _ rfl (hm2.later (below_alloc w2 _)) _ _ _ _ rfl (Bs.pad w2) (by omega) (by simp; omega) ?_; intro w3 hm3 hb3))
  go_ret
  exact ⟨w.heap.size, rfl, hm3.bs, ((hb1.trans hb2).trans ((below_alloc w2 _).mono (by omega))).trans hb3⟩

set_option maxHeartbeats 400000 in
theorem kept_any (g n c : Nat) (bo : Option Addr) (bs : List Int) (w : World) (h : Bs w (some ⟨g, 0, none⟩) (n + 8) (n + 8) (bs ++ pad)) (hb : Bs w bo n c bs) (hbound : (n : Int) + 8 ≤ 140737488355328) :
    Calls Try.prog 28 #[.slice (some ⟨g, 0, none⟩) n (n + 8), .slice bo n c] w fun e w' => e = .returned (.bool true) ∧ w' = w := by
  have cS := hide (sameBytes_any _ _ _ _ _ _ _ _ w (h.pre hb.len) hb)
  rw [show decide (bs = bs) = true by simp] at cS
  have hmax := hb.max
  have hle := hb.le
  have hcell : ∀ i, i < 8 → w.cell? ⟨g, n + i, none⟩ = some (.int .u8 165) := by
    intro i hi
    rcases h.at' with hz | ⟨b, off, e, hc⟩
    · omega
    · simp only [Option.some.injEq, Addr.mk.injEq, and_true] at e
      obtain ⟨rfl, rfl⟩ := e
      have := hc (n + i) (by omega)
      rw [Nat.zero_add] at this
      rw [this]
      have hl := hb.len
      have e2 : (bs ++ pad).getD (n + i) 0 = pad.getD i 0 := by
        simp [List.getElem?_append_right (show bs.length ≤ n + i by omega), hl]
      rw [e2]
      match i, hi with
      | 0, _ | 1, _ | 2, _ | 3, _ | 4, _ | 5, _ | 6, _ | 7, _ => rfl
  clear h hb
  have HC := hide hcell
  clear hcell
  go_enter Try.func28, Try.ntmps28
  go_wp2_with (go_at_call 10; refine (unhide cS).mono ?_; rintro e w' ⟨rfl, hw'⟩; have hw'' := hw'.symm; subst hw'')
  go_loop [6] (fun i => ∃ m : Int, 0 ≤ m ∧ m ≤ 8 ∧ i = .int .i64 m) (fun i => (8 - intOf i).toNat)
  case atStart => exact ⟨0, by omega, by omega, rfl⟩
  case round =>
    obtain ⟨m, hm0, hm, rfl⟩ := hrel
    by_cases hlt : m < 8
    · have hcc := unhide HC m.toNat (by omega)
      go_wp2
      go_round
      case rel => exact ⟨m + 1, by omega, by omega, rfl⟩
      case measure => simp [intOf]; omega
    · go_wp2
      go_ret
      exact ⟨rfl, rfl⟩

/-- A slice that is written out in the program's text. -/
theorem Bs.lit (w : World) (l : List Int) (h : Byt l) (hl : l.length ≤ 1000) : Bs (w.alloc (.cells (l.map (Value.int .u8)).toArray 5)) (some ⟨w.heap.size, 0, none⟩) l.length l.length l := by
  refine ⟨rfl, Nat.le_refl _, by omega, (fun e => by cases e), h, .inr ⟨w.heap.size, 0, rfl, fun i hi => ?_⟩⟩
  rw [Nat.zero_add]
  simp [hi]

end Go.Proofs.Ytenindnahhebcaa
