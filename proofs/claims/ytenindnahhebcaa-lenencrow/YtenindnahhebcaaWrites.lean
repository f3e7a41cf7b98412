/-
  What the writing functions of package lenenc leave: a slice in new memory. Conditions: lengths together below 2 to the 46.
-/
import Derived.Test.YtenindnahhebcaaEnded
import Derived.Lib.ConvBytes
namespace Go.Proofs.Ytenindnahhebcaa
open Go.RowKit
set_option linter.unusedVariables false
set_option linter.unusedSimpArgs false

/-- 'make([]byte, 0, n)'. -/
theorem wpList_mk {ops : Array Oper} {rest : List Oper} {o : Oper} {a : Act} {w : World} {Q : Exit → Act → World → Prop} (hgd : o.guard = none) (l c : Operand)
    (ho : o.op = Op.makeSlice 22 l c) (kl kc : IntKind) (C : Int) (n : Nat) (hl : a.eval l = .int kl 0) (hc : a.eval c = .int kc C) (hC : C = (n : Int)) (hbound : n ≤ 140737488355328)
    (h : ∀ w1, Mine w.heap.size w1 (some ⟨w.heap.size, 0, none⟩) 0 n [] → Below w.heap.size w w1 → w.heap.size < w1.heap.size → wpList Try.prog ops Q rest (a.put o.dst (.slice (some ⟨w.heap.size, 0, none⟩) 0 n)) w1) :
    wpList Try.prog ops Q (o :: rest) a w := by
  obtain ⟨i0, hi, hz0, hz1, hz2⟩ := info_parts Try.infoByte
  refine wpList_make_own w hgd l c 22 ho w.heap.size 5 i0 (.int .u8 0) 1 Try.underlying22 hi hz0 hz1 kl kc C n hl hc hC (by rw [hz2]; omega) (by unfold maxLen; omega) (Nat.le_refl _) ?_
  intro w1 hown hgrow
  have hm : Mine w.heap.size w1 (some ⟨w.heap.size, 0, none⟩) 0 n [] := ⟨rfl, hown, Byt.nil⟩
  have hlt : w.heap.size < w1.heap.size := (hown.lt w.heap.size rfl).2
  exact h w1 hm ((Below.refl _ w).grown hgrow (Nat.le_refl _) (fun k hk => by cases hk)) hlt

/-- What withRoom leaves. -/
theorem withRoom_any (ao : Option Addr) (n c : Nat) (bs : List Int) (r : Int) (w : World) (h : Bs w ao n c bs) (hr : 0 ≤ r) (hbound : (n : Int) + r ≤ 140737488355328) :
    Calls Try.prog 32 #[.slice ao n c, .int .i64 r] w fun e w' => ∃ ao' c', e = .returned (.slice ao' n c') ∧ Mine w.heap.size w' ao' n c' bs ∧ Below w.heap.size w w' := by
  obtain ⟨R, rfl⟩ := Int.eq_ofNat_of_zero_le hr
  have hlen := hide h.len
  have hmax := h.max
  have hle := h.le
  go_enter Try.func32, Try.ntmps32
  go_wp2_with (first | (at_make; refine wpList_mk rfl _ _ rfl _ _ _ (n + R) rfl rfl (by omega) (by omega) ?_; intro w1 hm1 hb1 hz1) | (at_builtin; refine wpList_app rfl _ _ rfl _ _ _ _ _ rfl hm1 _ _ _ _ rfl (h.later hb1) (by omega) (by omega) ?_; intro ao1 c1 w2 hm2 hb2))
  go_ret
  rw [Nat.zero_add, List.nil_append] at hm2
  exact ⟨ao1, c1, rfl, hm2, hb1.trans hb2⟩

/-- A new block is above all that was there. -/
theorem below_alloc (w : World) (o : Obj) : Below w.heap.size w (w.alloc o) := (Below.refl _ _).alloc (Nat.le_refl _) o

/-- The slice of one byte that 'append(out, b)' lays first. -/
theorem Bs.one (w : World) (v : Int) (h0 : 0 ≤ v) (h1 : v ≤ 255) : Bs (w.alloc (.cells #[.int .u8 v] 5)) (some ⟨w.heap.size, 0, none⟩) 1 1 [v] := by
  refine ⟨rfl, Nat.le_refl _, by omega, (fun e => by cases e), Byt.one h0 h1, .inr ⟨w.heap.size, 0, rfl, fun i hi => ?_⟩⟩
  have : i = 0 := by omega
  subst this
  simp

set_option maxHeartbeats 400000 in
theorem putFixed_any (B : Nat) (ao : Option Addr) (n c : Nat) (bs : List Int) (x k : Int) (w : World) (h : Mine B w ao n c bs) (hB : B ≤ w.heap.size)
    (hk0 : 0 ≤ k) (hk8 : k ≤ 8) (hbound : (n : Int) + k ≤ 140737488355328) :
    Calls Try.prog 36 #[.slice ao n c, .int .u64 x, .int .i64 k] w fun e w' => ∃ ao' c', e = .returned (.slice ao' (n + k.toNat) c') ∧ Mine B w' ao' (n + k.toNat) c' (bs ++ le x k.toNat) ∧ Below B w w' := by
  obtain ⟨K, rfl⟩ := Int.eq_ofNat_of_zero_le hk0
  rw [Int.toNat_natCast]
  have hm0 : Mine B w ao (n + 0) c (bs ++ le x 0) := by simpa [le] using h
  clear h
  go_enter Try.func36, Try.ntmps36
  go_wp2
  go_loopw [0, 9] (fun v i wr => ∃ (m : Nat) (ao1 : Option Addr) (c1 : Nat), m ≤ K ∧ i = .int .i64 m ∧ v = .slice ao1 (n + m) c1 ∧ Mine B wr ao1 (n + m) c1 (bs ++ le x m) ∧ Below B w wr) (fun _ i _ => K - (intOf i).toNat)
  case atStart => exact ⟨0, ao, c, Nat.zero_le _, rfl, rfl, hm0, Below.refl _ _⟩
  case round =>
    obtain ⟨m, ao1, c1, hm, rfl, rfl, hmine, hbel⟩ := hrel
    by_cases hlt : m < K
    · have hsz := hbel.size
      have hb0 := below_alloc wr (.cells #[.int .u8 (x / 2 ^ (8 * m) % 256)] 5)
      have hs1 := Bs.one wr (x / 2 ^ (8 * m) % 256) (by omega) (by omega)
      have hm1 := hmine.later hb0
      have hsh := shr_step x m
      go_wp2_with (at_builtin; refine wpList_app rfl _ _ rfl B _ _ _ _ rfl hm1 _ _ _ _ rfl hs1 (by omega) (by simp; omega) ?_; intro ao2 c2 w2 hm2 hb2)
      have hm3 : Mine B w2 ao2 (n + (m + 1)) c2 (bs ++ le x (m + 1)) := by rw [List.append_assoc] at hm2; exact hm2
      have hb3 : Below B w w2 := (hbel.trans (hb0.mono (by omega))).trans hb2
      go_roundw
      case rel => exact ⟨m + 1, ao2, c2, by omega, by go_num, rfl, hm3, hb3⟩
      case measure => simp [intOf]; omega
    · have e : m = K := by omega
      subst e
      go_wp2
      go_ret
      exact ⟨ao1, c1, rfl, hmine, hbel⟩

theorem form_len (x : Int) : (form x).length = 1 + (widthOf (firstOf x)).toNat := by simp [form, le_length]; omega

set_option maxHeartbeats 400000 in
theorem putInt_any (B : Nat) (ao : Option Addr) (n c : Nat) (bs : List Int) (x : Int) (w : World) (h : Mine B w ao n c bs) (hB : B ≤ w.heap.size)
    (hx0 : 0 ≤ x) (hx1 : x < 18446744073709551616) (hbound : (n : Int) + 9 ≤ 140737488355328) :
    Calls Try.prog 31 #[.slice ao n c, .int .u64 x] w fun e w' => ∃ ao' c', e = .returned (.slice ao' (n + (form x).length) c') ∧ Mine B w' ao' (n + (form x).length) c' (bs ++ form x) ∧ Below B w w' := by
  have cF := hide (fun w => firstByte_any x w hx0 hx1)
  have hfb := firstOf_byt hx0
  have hw := widthOf_cases (firstOf x)
  have hl := hide (form_len x)
  have hf := hide (show form x = [firstOf x] ++ le x (widthOf (firstOf x)).toNat from rfl)
  obtain ⟨f, hfe⟩ : ∃ f, f = firstOf x := ⟨_, rfl⟩
  rw [← hfe] at cF hfb hw hl hf
  obtain ⟨k, hke⟩ : ∃ k, k = widthOf f := ⟨_, rfl⟩
  have cW := hide (fun w => widthBehind_any f w)
  rw [← hke] at cW hw hl hf
  obtain ⟨hf0, hf1⟩ := hfb
  have hk0 : 0 ≤ k := by omega
  have hk8 : k ≤ 8 := by omega
  clear hfe hke hw hx0 hx1
  have hb0 := below_alloc w (.cells #[.int .u8 f] 5)
  have hs1 := Bs.one w f hf0 hf1
  have hm1 := h.later hb0
  go_enter Try.func31, Try.ntmps31
  go_wp2_with (first
    | (go_at_call 39; refine (unhide cF _).mono ?_; rintro e w' ⟨rfl, hw'⟩; have hw'' := hw'.symm; subst hw'')
    | (at_builtin; refine wpList_app rfl _ _ rfl B _ _ _ _ rfl hm1 _ _ _ _ rfl hs1 (by omega) (by simp; omega) ?_; intro ao2 c2 w2 hm2 hb2)
    | (go_at_call 33; refine (unhide cW _).mono ?_; rintro e w' ⟨rfl, hw'⟩; have hw'' := hw'.symm; subst hw''))
  refine (putFixed_any B ao2 (n + 1) c2 _ x k _ hm2 ?_ hk0 hk8 (by omega)).mono ?_
  · have := hb2.size
    simp at this
    omega
  rintro e w3 ⟨ao3, c3, rfl, hm3, hb3⟩
  go_wp2
  go_ret
  rw [unhide hf]
  rw [List.append_assoc] at hm3
  have e1 : n + 1 + k.toNat = n + (form x).length := by rw [unhide hl]; omega
  rw [e1] at hm3
  have hbb : Below B w w3 := ((hb0.mono hB).trans hb2).trans hb3
  rw [← unhide hf]
  rw [← unhide hf] at hm3
  exact ⟨ao3, c3, by rw [← e1]; rfl, hm3, hbb⟩

set_option maxHeartbeats 400000 in
theorem appendInt_any (ao : Option Addr) (n c : Nat) (bs : List Int) (x : Int) (w : World) (h : Bs w ao n c bs)
    (hx0 : 0 ≤ x) (hx1 : x < 18446744073709551616) (hbound : (n : Int) + 9 ≤ 140737488355328) :
    Calls Try.prog 9 #[.slice ao n c, .int .u64 x] w fun e w' => ∃ ao' c', e = .returned (.slice ao' (n + (form x).length) c') ∧ Mine w.heap.size w' ao' (n + (form x).length) c' (bs ++ form x) ∧ Below w.heap.size w w' := by
  have cS := hide (fun w => size_any x w hx0 hx1)
  have hl := form_length_le x
  have HX := hide hx1
  clear hx1
  go_enter Try.func9, Try.ntmps9
  go_wp2_with (first
    | (go_at_call 22; refine (unhide cS _).mono ?_; rintro e w' ⟨rfl, hw'⟩; have hw'' := hw'.symm; subst hw'')
    | (go_at_call 32; refine (withRoom_any _ _ _ _ _ _ h (by omega) (by omega)).mono ?_; rintro e w1 ⟨ao1, c1, rfl, hm1, hb1⟩))
  refine (putInt_any w.heap.size ao1 n c1 bs x _ hm1 hb1.size hx0 (unhide HX) hbound).mono ?_
  rintro e w2 ⟨ao2, c2, rfl, hm2, hb2⟩
  go_wp2
  go_ret
  exact ⟨ao2, c2, rfl, hm2, hb1.trans hb2⟩

end Go.Proofs.Ytenindnahhebcaa
