/-
  What the small functions of package adler, and those that give the document's answer, return: none of them touches memory. Conditions: a number fits its kind.
  What Sum, More, Joined and Rolled of package adler, and the document's own answers, return for any bytes and numbers: the plain functions of the text AdlPlain. They write nothing. Conditions: the slice can be read, a number fits its kind.
-/
import Derived.Test.YtnoabdafmgmenaaGreatDoorMMem
import Derived.Test.YtnoabdafmgmenaaGreatDoorMPlain
namespace Go.Proofs.YtnoabdafmgmenaaGreatDoor
open Go.RowKit
set_option linter.unusedVariables false
set_option linter.unusedSimpArgs false

theorem and_low (s : Int) (h0 : 0 ≤ s) (h1 : s < 4294967296) : bits BinOp.and IntKind.u32 s 65535 = s % 65536 := by
  rw [u32_and s 65535 h0 h1 (by omega) (by omega)]
  have : s.toNat &&& (65535 : Int).toNat = s.toNat % 65536 := Nat.and_two_pow_sub_one_eq_mod s.toNat 16
  rw [this]
  omega

theorem or_high (l h : Int) (h0 : 0 ≤ l) (h1 : l < 65536) (h2 : 0 ≤ h) (h3 : h < 65536) : bits BinOp.or IntKind.u32 (h * 65536) l = h * 65536 + l := by
  rw [u32_or _ _ (by omega) (by omega) h0 (by omega), nat_join 16 _ _ (by omega) (by omega)]
  omega

set_option maxHeartbeats 400000 in
theorem lowOf_any (s : Int) (w : World) (h0 : 0 ≤ s) (h1 : s < 4294967296) :
    Calls Tryz.prog 73 #[.int .u32 s] w fun e w' => e = .returned (.int .u32 (s % 65536)) ∧ w' = w := by
  have hb := hide (and_low s h0 h1)
  go_enter Tryz.func73, Tryz.ntmps73
  go_wp2
  go_ret
  exact ⟨by rw [← unhide hb]; rfl, rfl⟩

set_option maxHeartbeats 400000 in
theorem highOf_any (s : Int) (w : World) (h0 : 0 ≤ s) (h1 : s < 4294967296) :
    Calls Tryz.prog 74 #[.int .u32 s] w fun e w' => e = .returned (.int .u32 (s / 65536)) ∧ w' = w := by
  go_enter Tryz.func74, Tryz.ntmps74
  go_wp2
  go_ret
  exact ⟨rfl, rfl⟩

set_option maxHeartbeats 400000 in
theorem together_any (l h : Int) (w : World) (h0 : 0 ≤ l) (h1 : l < 65536) (h2 : 0 ≤ h) (h3 : h < 65536) :
    Calls Tryz.prog 75 #[.int .u32 l, .int .u32 h] w fun e w' => e = .returned (.int .u32 (pack (l, h))) ∧ w' = w := by
  have hb := or_high l h h0 h1 h2 h3
  go_enter Tryz.func75, Tryz.ntmps75
  go_wp2
  go_ret
  exact ⟨rfl, rfl⟩





end Go.Proofs.YtnoabdafmgmenaaGreatDoor

namespace Go.Proofs.YtnoabdafmgmenaaGreatDoor
open Go.RowKit
set_option linter.unusedVariables false
set_option linter.unusedSimpArgs false

theorem run_at {bs : List Int} (p : Int × Int) (m : Nat) (h : m < bs.length) : run p (bs.take (m + 1)) = step (run p (bs.take m)) (bs[m]?.getD 0) := by
  rw [List.take_add_one, List.getElem?_eq_getElem h]
  simp only [Option.toList_some, Option.getD_some]
  exact run_snoc _ _ _

set_option maxHeartbeats 400000 in
theorem more_any (s : Int) (ao : Option Addr) (n c : Nat) (bs : List Int) (w : World) (h : Bs w ao n c bs) (h0 : 0 ≤ s) (h1 : s < 4294967296) :
    Calls Tryz.prog 57 #[.int .u32 s, .slice ao n c] w fun e w' => e = .returned (.int .u32 (more s bs)) ∧ w' = w := by
  have hlen := h.len
  have hmax := h.max
  have hle := h.le
  have hby := h.byt
  have c1 := hide (fun w => lowOf_any s w h0 h1)
  have c2 := hide (fun w => highOf_any s w h0 h1)
  obtain ⟨p, hp⟩ : ∃ p : Int × Int, p = (s % 65536 % 65521, s / 65536 % 65521) := ⟨_, rfl⟩
  have hbd : ∀ l, 0 ≤ (run p l).1 ∧ (run p l).1 < 65521 ∧ 0 ≤ (run p l).2 ∧ (run p l).2 < 65521 := fun l => by rw [hp]; exact run_bounds l _ _ (by omega) (by omega) (by omega) (by omega)
  have HP := hide hp
  have HL := hide hlen
  clear hp hlen
  have hm : more s bs = pack (run p bs) := by rw [unhide HP]; rfl
  rw [hm]
  clear hm
  have hcell : ∀ i, i < n → ∃ b off, ao = some ⟨b, off, none⟩ ∧ w.cell? ⟨b, off + i, none⟩ = some (.int .u8 (bs.getD i 0)) := by
    intro i hi
    rcases h.at' with h0 | ⟨b, off, e, hc⟩
    · omega
    · exact ⟨b, off, e, hc i hi⟩
  clear h
  go_enter Tryz.func57, Tryz.ntmps57
  go_wp2_with fail
  refine same_world (unhide c1 _) ?_
  go_wp2_with fail
  refine same_world (unhide c2 _) ?_
  go_wp2_with fail
  go_loop [5, 6, 17] (fun l g i => ∃ m : Nat, m ≤ n ∧ i = .int .i64 m ∧ l = .int .u32 (run p (bs.take m)).1 ∧ g = .int .u32 (run p (bs.take m)).2) (fun _ _ i => n - (intOf i).toNat)
  case atStart => exact ⟨0, by omega, rfl, by rw [unhide HP]; rfl, by rw [unhide HP]; rfl⟩
  case round =>
    obtain ⟨m, hm, rfl, rfl, rfl⟩ := hrel
    have hr := hbd (bs.take m)
    by_cases hlt : m < n
    · obtain ⟨b, off, rfl, hcc⟩ := hcell m hlt
      have hb2 := hby.at m
      have hst := hide (run_at p m (show m < bs.length by rw [unhide HL]; exact hlt))
      generalize run p (bs.take m) = q at *
      obtain ⟨x, y⟩ := q
      obtain ⟨r1, r2, r3, r4⟩ := hr
      simp only at r1 r2 r3 r4
      go_wp2
      go_round
      case rel => exact ⟨m + 1, by omega, by go_num, by rw [unhide hst]; rfl, by rw [unhide hst]; rfl⟩
      case measure => simp [intOf]; omega
    · have e : m = n := by omega
      subst e
      rw [List.take_of_length_le (by rw [unhide HL]; omega)] at hr ⊢
      obtain ⟨x, y, hq⟩ : ∃ x y, run p bs = (x, y) := ⟨_, _, rfl⟩
      rw [hq] at hr ⊢
      have HQ := hide hq
      clear hq
      obtain ⟨r1, r2, r3, r4⟩ := hr
      simp only at r1 r2 r3 r4
      go_wp2_with fail
      refine same_world (together_any x y _ r1 (by omega) r3 (by omega)) ?_
      go_wp2_with fail
      go_ret
      exact ⟨by rw [unhide HQ]; rfl, rfl⟩

set_option maxHeartbeats 400000 in
theorem more_ref (s : Int) (ao : Option Addr) (n c : Nat) (bs : List Int) (w : World) (h : Bs w ao n c bs) (h0 : 0 ≤ s) (h1 : s < 4294967296) :
    Calls Tryz.prog 46 #[.int .u32 s, .slice ao n c] w fun e w' => e = .returned (.int .u32 (more s bs)) ∧ w' = w := by
  have hlen := h.len
  have hmax := h.max
  have hle := h.le
  have hby := h.byt
  obtain ⟨p, hp⟩ : ∃ p : Int × Int, p = (s % 65536 % 65521, s / 65536 % 65521) := ⟨_, rfl⟩
  have hbd : ∀ l, 0 ≤ (run p l).1 ∧ (run p l).1 < 65521 ∧ 0 ≤ (run p l).2 ∧ (run p l).2 < 65521 := fun l => by rw [hp]; exact run_bounds l _ _ (by omega) (by omega) (by omega) (by omega)
  have HP := hide hp
  have HL := hide hlen
  clear hp hlen
  have hm : more s bs = pack (run p bs) := by rw [unhide HP]; rfl
  rw [hm]
  clear hm
  have hcell : ∀ i, i < n → ∃ b off, ao = some ⟨b, off, none⟩ ∧ w.cell? ⟨b, off + i, none⟩ = some (.int .u8 (bs.getD i 0)) := by
    intro i hi
    rcases h.at' with h0 | ⟨b, off, e, hc⟩
    · omega
    · exact ⟨b, off, e, hc i hi⟩
  clear h
  go_enter Tryz.func46, Tryz.ntmps46
  go_wp2_with fail
  go_loop [5, 6, 7] (fun l g i => ∃ m : Nat, m ≤ n ∧ i = .int .i64 m ∧ l = .int .u32 (run p (bs.take m)).1 ∧ g = .int .u32 (run p (bs.take m)).2) (fun _ _ i => n - (intOf i).toNat)
  case atStart => exact ⟨0, by omega, rfl, by rw [unhide HP]; rfl, by rw [unhide HP]; rfl⟩
  case round =>
    obtain ⟨m, hm, rfl, rfl, rfl⟩ := hrel
    have hr := hbd (bs.take m)
    by_cases hlt : m < n
    · obtain ⟨b, off, rfl, hcc⟩ := hcell m hlt
      have hb2 := hby.at m
      have hst := hide (run_at p m (show m < bs.length by rw [unhide HL]; exact hlt))
      generalize run p (bs.take m) = q at *
      obtain ⟨x, y⟩ := q
      obtain ⟨r1, r2, r3, r4⟩ := hr
      simp only at r1 r2 r3 r4
      go_wp2
      go_round
      case rel => exact ⟨m + 1, by omega, by go_num, by rw [unhide hst]; rfl, by rw [unhide hst]; rfl⟩
      case measure => simp [intOf]; omega
    · have e : m = n := by omega
      subst e
      rw [List.take_of_length_le (by rw [unhide HL]; omega)] at hr ⊢
      obtain ⟨x, y, hq⟩ : ∃ x y, run p bs = (x, y) := ⟨_, _, rfl⟩
      rw [hq] at hr ⊢
      have HQ := hide hq
      clear hq
      obtain ⟨r1, r2, r3, r4⟩ := hr
      simp only at r1 r2 r3 r4
      go_wp2_with fail
      go_ret
      exact ⟨by rw [unhide HQ]; rfl, rfl⟩

set_option maxHeartbeats 400000 in
theorem adsum_any (ao : Option Addr) (n c : Nat) (bs : List Int) (w : World) (h : Bs w ao n c bs) :
    Calls Tryz.prog 44 #[.slice ao n c] w fun e w' => e = .returned (.int .u32 (sumOf bs)) ∧ w' = w := by
  have cc := hide (more_any 1 ao n c bs w h (by omega) (by omega))
  clear h
  go_enter Tryz.func44, Tryz.ntmps44
  go_wp2_with fail
  refine same_world (unhide cc) ?_
  go_wp2_with fail
  go_ret
  exact ⟨rfl, rfl⟩

set_option maxHeartbeats 400000 in
theorem sum_ref (ao : Option Addr) (n c : Nat) (bs : List Int) (w : World) (h : Bs w ao n c bs) :
    Calls Tryz.prog 37 #[.slice ao n c] w fun e w' => e = .returned (.int .u32 (sumOf bs)) ∧ w' = w := by
  have cc := hide (more_ref 1 ao n c bs w h (by omega) (by omega))
  clear h
  go_enter Tryz.func37, Tryz.ntmps37
  go_wp2_with fail
  refine same_world (unhide cc) ?_
  go_wp2_with fail
  go_ret
  exact ⟨rfl, rfl⟩

end Go.Proofs.YtnoabdafmgmenaaGreatDoor
