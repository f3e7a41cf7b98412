/-
  What putLength, shorter and putFrame of package squeeze return: the bytes of the plain functions. Conditions: pieces of at most 2,000 bytes; what is appended to is the call's own, and lies apart from the piece.
-/
import Derived.Test.YtnoabdafmgmenaaGreatDoorSqW
import Derived.Test.YtnoabdafmgmenaaGreatDoorMMem
import Derived.Test.YtnoabdafmgmenaaGreatDoorLenFix
namespace Go.Proofs.YtnoabdafmgmenaaGreatDoor
open Go.RowKit
set_option linter.unusedVariables false
set_option linter.unusedSimpArgs false

/-- The slice pa lies apart from the row ao. -/
def Apart (w : World) (pa ao : Option Addr) : Prop := ∀ k, ob pa k → ¬ ob ao k ∧ k < w.heap.size
theorem Apart.fs {w w' : World} {pa ao ao' : Option Addr} (h : Apart w pa ao) (f : Fs (ob ao) w (ob ao') w') : Apart w' pa ao' := fun k hk => by
  have := h k hk
  refine ⟨fun q => ?_, Nat.lt_of_lt_of_le this.2 f.size⟩
  rcases f.src k q with q | q
  · exact this.1 q
  · omega
theorem Apart.bs {w w' : World} {pa ao ao' : Option Addr} {n c : Nat} {bs : List Int} (h : Apart w pa ao) (f : Fs (ob ao) w (ob ao') w') (hb : Bs w pa n c bs) : Bs w' pa n c bs := hb.fs f fun k hk => (h k hk).1
theorem Apart.later {w w' : World} {pa ao : Option Addr} (h : Apart w pa ao) (hs : w.heap.size ≤ w'.heap.size) : Apart w' pa ao := fun k hk => ⟨(h k hk).1, Nat.lt_of_lt_of_le (h k hk).2 hs⟩

set_option maxHeartbeats 1000000 in
theorem putLength_any (B : Nat) (ao : Option Addr) (n c : Nat) (bs : List Int) (L : Int) (w : World) (h : Mine B w ao n c bs) (hB : B ≤ w.heap.size) (L0 : 0 ≤ L) (L1 : L ≤ 16777215) (hn : n ≤ 1000000000) :
    Calls Tryz.prog 32 #[.slice ao n c, .int .i64 L] w fun e w' => ∃ ao' c', e = .returned (.slice ao' (n + 3) c') ∧ Mine B w' ao' (n + 3) c' (bs ++ le L 3) ∧ Fs (ob ao) w (ob ao') w' := by
  have cA := hide (appendFixed_ok none 0 0 [] L 3 w (Bs.nought w) L0 (by omega) (by omega) (by omega) (by omega) (by rw [show (3 : Int).toNat = 3 from rfl, show (2 : Int) ^ (8 * 3) = 16777216 by decide]; omega))
  rw [show (3 : Int).toNat = 3 from rfl, Nat.zero_add, List.nil_append] at cA
  have HM := hide h
  have hmx := h.bs.max
  have hle := h.bs.le
  clear h
  go_enter Tryz.func32, Tryz.ntmps32
  go_wp2_with (first
    | (go_at_call 39; refine (unhide cA).mono ?_; rintro e w1 ⟨a1, c1, rfl, m1, b1⟩; have M1 := hide m1; have B1 := hide b1; clear m1 b1)
    | (at_builtin; refine wpList_appS rfl (.tmp 13) (.tmp 14) rfl B _ _ _ _ rfl ((unhide HM).later (unhide B1)) _ _ _ _ rfl (unhide M1).bs (by omega) (by have := (unhide B1).size; omega) ?_; intro a2 c2 w2 m2 f2))
  go_ret
  exact ⟨a2, c2, rfl, m2, (Fs.of (S' := ob ao) (unhide B1) (fun k q => .inl q)).trans f2⟩

/-- Behind shorter. -/
def OutSh (w : World) (po : Option Addr) (r : List Int × Nat) (e : Ending) (w' : World) : Prop :=
  ∃ pa pc', e = .returned (.tuple #[.slice pa r.1.length pc', .int .i64 (r.2 : Int)]) ∧ Bs w' pa r.1.length pc' r.1 ∧ (∀ k, ob pa k → ob po k ∨ w.heap.size ≤ k ∧ k < w'.heap.size) ∧ Below w.heap.size w w'

set_option maxHeartbeats 1000000 in
theorem shorter_any (po : Option Addr) (n c : Nat) (p : List Int) (T : Int) (w : World) (h : Bs w po n c p) (hn : n ≤ 2000) :
    Calls Tryz.prog 31 #[.slice po n c, .int .i64 T] w fun e w' => OutSh w po (shr T p) e w' := by
  have hlen := h.len
  have HB := hide h
  have cP := hide (pack_any w po n c p h hn)
  have S := hide (show shr T p = if (n : Int) < T then (p, 0) else if n ≤ (pkd p).length then (p, 0) else (pkd p, n) by rw [← hlen]; rfl)
  have HL := hide hlen
  have pl := pkd_len p
  have pl5 := dfl_len5 p
  have hpk : (pkd p).length ≤ 3000 := by omega
  clear h hlen pl pl5
  generalize shr T p = R at *
  by_cases a1 : (n : Int) < T
  · have hR : R = (p, 0) := by rw [unhide S, if_pos a1]
    clear S
    go_enter Tryz.func31, Tryz.ntmps31
    go_wp2_with fail
    go_ret2
    rw [hR]
    exact ⟨po, c, by simp only; rw [unhide HL]; rfl, by simp only; rw [unhide HL]; exact unhide HB, fun k q => .inl q, Below.refl _ _⟩
  · by_cases a2 : n ≤ (pkd p).length
    · have hR : R = (p, 0) := by rw [unhide S, if_neg a1, if_pos a2]
      clear S
      generalize pkd p = K at *
      go_enter Tryz.func31, Tryz.ntmps31
      go_wp2_with fail
      refine (unhide cP).mono ?_
      rintro e w1 ⟨a1', n1, c1, rfl, m1, b1⟩
      have hn1 := m1.len
      have a2' : (n : Int) ≤ (n1 : Int) := by omega
      clear m1
      go_wp2_with fail
      go_ret2
      rw [hR]
      exact ⟨po, c, by simp only; rw [unhide HL]; rfl, by simp only; rw [unhide HL]; exact (unhide HB).later b1, fun k q => .inl q, b1⟩
    · have hR : R = (pkd p, n) := by rw [unhide S, if_neg a1, if_neg a2]
      clear S
      generalize pkd p = K at *
      go_enter Tryz.func31, Tryz.ntmps31
      go_wp2_with fail
      refine (unhide cP).mono ?_
      rintro e w1 ⟨a1', n1, c1, rfl, m1, b1⟩
      have hn1 := m1.len
      have a2' : ¬ (n : Int) ≤ (n1 : Int) := by omega
      have M1 := hide m1
      have HN := hide hn1
      clear m1 hn1 a2 hpk
      go_wp2_with fail
      go_ret2
      rw [hR]
      refine ⟨a1', c1, by simp only; rw [unhide HN]; rfl, by simp only; rw [unhide HN]; exact (unhide M1).bs, fun k q => .inr ((unhide M1).ob q), b1⟩

set_option maxHeartbeats 2000000 in
theorem putFrame_any (B : Nat) (ao : Option Addr) (n c : Nat) (bs : List Int) (po : Option Addr) (pn pcc : Nat) (p : List Int) (q T : Int) (w : World) (h : Mine B w ao n c bs) (hB : B ≤ w.heap.size) (hp : Bs w po pn pcc p) (hpn : pn ≤ 2000) (hA : Apart w po ao) (q0 : 0 ≤ q) (q1 : q ≤ 255) (hn : n ≤ 900000000) :
    Calls Tryz.prog 25 #[.slice ao n c, .slice po pn pcc, .int .u8 q, .int .i64 T] w fun e w' => ∃ ao' c', e = .returned (.slice ao' (n + (sqF T q p).length) c') ∧ Mine B w' ao' (n + (sqF T q p).length) c' (bs ++ sqF T q p) ∧ Fs (ob ao) w (ob ao') w' := by
  have hsl := sqF_len T q p
  have hle := shr_le T p
  have hpl := hp.len
  have hF := hide (show bs ++ sqF T q p = ((bs ++ le ((shr T p).1.length : Int) 3) ++ [q]) ++ le ((shr T p).2 : Int) 3 ++ (shr T p).1 by simp [sqF])
  have cS := hide (shorter_any po pn pcc p T w hp hpn)
  have HM := hide h
  have HA := hide hA
  rw [hsl]
  clear h hp hA hsl
  generalize sqF T q p = F at *
  generalize shr T p = R at *
  obtain ⟨r1, r2⟩ := R
  simp only at hle hF ⊢
  go_enter Tryz.func25, Tryz.ntmps25
  go_wp2_with fail
  refine (unhide cS).mono ?_
  rintro e w1 ⟨pa, pc', rfl, hb1, ho1, b1⟩
  have A1 := hide (show Apart w1 pa ao from fun k hk => by
    have := b1.size
    rcases ho1 k hk with q | q
    · exact ⟨(unhide HA k q).1, by have := (unhide HA k q).2; omega⟩
    · exact ⟨fun z => by have := ((unhide HM).ob z).2; omega, q.2⟩)
  have M1 := hide ((unhide HM).later b1)
  have F1 := hide (Fs.of (S := ob ao) (S' := ob ao) b1 (fun k q => .inl q))
  have z1 : B ≤ w1.heap.size := by have := b1.size; omega
  have hr1 := hb1.max
  have hr2 := hb1.le
  have PB := hide hb1
  have c1 := hide (putLength_any B ao n c bs (r1.length : Int) w1 (unhide M1) z1 (by omega) (by omega) (by omega))
  clear hb1 ho1 b1 cS HA HM
  generalize hRL : r1.length = RL at *
  go_wp2_with fail
  refine (unhide c1).mono ?_
  rintro e w2 ⟨a2, c2, rfl, m2, f2⟩
  have A2 := hide ((unhide A1).fs f2)
  have P2 := hide ((unhide A1).bs f2 (unhide PB))
  have F2 := hide ((unhide F1).trans f2)
  have z2 : B ≤ w2.heap.size := by have := f2.size; omega
  have M2 := hide m2
  clear m2 f2 c1 A1 PB F1 M1
  have ba := below_alloc w2 (.cells #[.int .u8 q] 5)
  have one := hide (Bs.one w2 q q0 q1)
  have M2a := hide ((unhide M2).later ba)
  have A2a := hide ((unhide A2).later (w' := w2.alloc (.cells #[.int .u8 q] 5)) ba.size)
  have P2a := hide ((unhide P2).later ba)
  have F2a := hide ((unhide F2).trans (Fs.of (S := ob a2) (S' := ob a2) ba (fun k q => .inl q)))
  have z2a := ba.size
  clear ba A2 P2 F2 M2
  go_wp2_with (at_builtin; refine wpList_appS rfl (.tmp 21) (.tmp 23) rfl B _ _ _ _ rfl (unhide M2a) _ _ _ _ rfl (unhide one) (by omega) (by omega) ?_; intro a3 c3 w3 m3 f3; have A3 := hide ((unhide A2a).fs f3); have P3 := hide ((unhide A2a).bs f3 (unhide P2a)); have F3 := hide ((unhide F2a).trans f3); have z3 := f3.size; have M3 := hide m3; clear m3 f3)
  have c4 := hide (putLength_any B a3 _ c3 _ (r2 : Int) w3 (unhide M3) (by omega) (by omega) (by omega) (by omega))
  clear A2a P2a F2a M2a one
  go_wp2_with fail
  refine (unhide c4).mono ?_
  rintro e w4 ⟨a4, c4', rfl, m4, f4⟩
  have A4 := hide ((unhide A3).fs f4)
  have P4 := hide ((unhide A3).bs f4 (unhide P3))
  have F4 := hide ((unhide F3).trans f4)
  have z4 := f4.size
  have M4 := hide m4
  clear m4 f4 c4 A3 P3 F3 M3
  go_wp2_with (at_builtin; refine wpList_appS rfl (.tmp 28) (.tmp 29) rfl B _ _ _ _ rfl (unhide M4) _ _ _ _ rfl (unhide P4) (by omega) (by omega) ?_; intro a5 c5 w5 m5 f5; have F5 := hide ((unhide F4).trans f5); have M5 := hide m5; clear m5 f5)
  go_ret
  have m5 := unhide M5
  rw [← unhide hF] at m5
  rw [hRL, show n + (7 + RL) = n + 3 + 1 + 3 + RL by omega]
  exact ⟨a5, c5, rfl, m5, unhide F5⟩
end Go.Proofs.YtnoabdafmgmenaaGreatDoor
