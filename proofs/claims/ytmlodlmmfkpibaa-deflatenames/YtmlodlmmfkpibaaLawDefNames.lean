/-
  The law DeflateNames returns true: the chapter's worked examples come out as they are written.
-/
import Derived.Test.YtmlodlmmfkpibaaDefSame
namespace Go.Proofs.Ytmlodlmmfkpibaa
open Go.RowKit
set_option linter.unusedVariables false
set_option linter.unusedSimpArgs false

def lAbc : List Pc := [⟨0, 0, 97⟩, ⟨0, 0, 98⟩, ⟨0, 0, 99⟩, ⟨6, 3, 0⟩, ⟨0, 0, 100⟩]
def lAaaa : List Pc := [⟨0, 0, 97⟩, ⟨3, 1, 0⟩]
def lAaa : List Pc := [⟨0, 0, 97⟩, ⟨0, 0, 97⟩, ⟨0, 0, 97⟩]
theorem nx1 : pieces [97, 98, 99, 97, 98, 99, 97, 98, 99, 100] = lAbc := by kernel_rfl
theorem nx2 : pieces [97, 97, 97, 97] = lAaaa := by kernel_rfl
theorem nx3 : pieces [97, 97, 97] = lAaa := by kernel_rfl
theorem nx4 : dfl [] = [3, 0] := by kernel_rfl
theorem nx5 : dfl [97] = [75, 4, 0] := by kernel_rfl
theorem nx6 : sto [] = [1, 0, 0, 255, 255] := by kernel_rfl
theorem nx7 : exq [⟨3, 1, 0⟩] = ([], 5) := by kernel_rfl
theorem nx8 : exq [⟨2, 1, 0⟩] = ([], 2) := by kernel_rfl
theorem st1 : ones (nums { data := #[97, 98, 99] }) = [⟨0, 0, 97⟩, ⟨0, 0, 98⟩, ⟨0, 0, 99⟩] := by kernel_rfl
theorem st2 : ones (nums { data := #[100] }) = [⟨0, 0, 100⟩] := by kernel_rfl
theorem st3 : ones (nums { data := #[97] }) = [⟨0, 0, 97⟩] := by kernel_rfl
theorem st4 : ones (nums { data := #[97, 97, 97] }) = lAaa := by kernel_rfl

/-- Pieces of bytes that are written out. -/
theorem pieces_const (w : World) (C : Array Value) (m : Nat × Nat) (l : List Int) (hC : C = (l.map (Value.int .u8)).toArray) (h : Byt l) (hl : l.length ≤ 1000) (n : Nat) (hn : n = l.length) (r : List Pc) (hr : pieces l = r) :
    Calls Try.prog 9 #[.slice (some ⟨w.heap.size, 0, none⟩) n n] (w.alloc (.cells C 5 m)) fun e w' => ∃ ao n c, e = .returned (.slice ao n c) ∧ Ps w' ao n c r ∧ Below w.heap.size w w' := by
  subst hC hn hr
  refine (pieces_any _ _ _ _ l (Bs.const w m l h hl) (by omega)).mono ?_
  rintro e w' ⟨ao, n, c, rfl, hm, hb⟩
  exact ⟨ao, n, c, rfl, hm.ps, (below_alloc w _).trans (hb.mono (by simp))⟩
theorem deflate_const (w : World) (C : Array Value) (m : Nat × Nat) (l : List Int) (hC : C = (l.map (Value.int .u8)).toArray) (h : Byt l) (hl : l.length ≤ 1000) (n : Nat) (hn : n = l.length) (r : List Int) (hr : dfl l = r) :
    Calls Try.prog 11 #[.slice (some ⟨w.heap.size, 0, none⟩) n n] (w.alloc (.cells C 5 m)) fun e w' => ∃ ao n c, e = .returned (.slice ao n c) ∧ Bs w' ao n c r ∧ Below w.heap.size w w' := by
  subst hC hn hr
  refine (deflate_any _ _ _ _ l (Bs.const w m l h hl) (by omega)).mono ?_
  rintro e w' ⟨ao, n, c, rfl, hm, hb⟩
  exact ⟨ao, n, c, rfl, hm.bs, (below_alloc w _).trans (hb.mono (by simp))⟩
/-- Are bytes those that are written out? -/
theorem same_lit (w : World) (ao : Option Addr) (n c : Nat) (l : List Int) (hb : Bs w ao n c l) (C : Array Value) (hC : C = (l.map (Value.int .u8)).toArray) (h : Byt l) (hl : l.length ≤ 1000) (k : Nat) (hk : k = l.length) :
    Calls Try.prog 10 #[.slice ao n c, .slice (some ⟨w.heap.size, 0, none⟩) k k] (w.alloc (.cells C 5)) fun e w' => e = .returned (.bool true) ∧ Below w.heap.size w w' := by
  subst hC hk
  refine (sameBytes_any ao n c l _ _ _ l _ (hb.later (below_alloc w _)) (Bs.lit w l h hl)).mono ?_
  rintro e w' ⟨rfl, rfl⟩
  exact ⟨by simp, below_alloc w _⟩
theorem expand_lit (w : World) (l d : Int) (b : Int) (hp : Pok ⟨l, d, b⟩) (r : Int) (hr : exq [⟨l, d, b⟩] = ([], r)) :
    Calls Try.prog 13 #[.slice (some ⟨w.heap.size, 0, none⟩) 1 1] (w.alloc (.cells #[.int .i64 l, .int .i64 d, .int .u8 b] 25)) fun e w' => ∃ bo bn bc, e = .returned (.tuple #[.slice bo bn bc, .int .i64 r]) ∧ Below w.heap.size w w' := by
  have q := px_new w ⟨l, d, b⟩
  have ps : Ps (w.alloc (.cells #[.int .i64 l, .int .i64 d, .int .u8 b] 25)) (some ⟨w.heap.size, 0, none⟩) 1 1 [⟨l, d, b⟩] := by
    refine ⟨rfl, Nat.le_refl _, by omega, (fun e => by cases e), fun p hp' => by simp at hp'; subst hp'; exact hp, .inr ⟨w.heap.size, 0, rfl, fun i p hi => ?_⟩⟩
    cases i with
    | zero =>
      simp at hi
      subst hi
      exact ⟨q.c0, q.c1, q.c2⟩
    | succ i => simp at hi
  have := expand_any _ _ 1 1 [⟨l, d, b⟩] ps (by omega)
  rw [hr] at this
  refine this.mono ?_
  rintro e w' ⟨bo, bn, bc, rfl, _, hb⟩
  exact ⟨bo, bn, bc, rfl, (below_alloc w _).trans (hb.mono (by simp))⟩

set_option maxHeartbeats 8000000 in
set_option maxRecDepth 20000 in
theorem lawNames (w : World) : Calls Try.prog 3 #[] w fun e w' => e = .returned (.bool true) ∧ Below w.heap.size w w' := by
  have kc := run_const
  go_enter Try.func3, Try.ntmps3
  go_wp2_with fail
  refine (bytesPcs_any w { data := #[97, 98, 99] } (by decide)).mono ?_
  rw [st1]
  rintro e w1 ⟨a1, c1, rfl, m1, b1⟩
  have bb1 := below_alloc w1 (.cells #[.int .i64 6, .int .i64 3, .int .u8 0] 25)
  have M1 := hide (m1.later bb1)
  have q1 := hide (show Px (w1.alloc (.cells #[.int .i64 6, .int .i64 3, .int .u8 0] 25)) w1.heap.size ⟨6, 3, 0⟩ from px_new w1 ⟨6, 3, 0⟩)
  have BW1 := hide (b1.trans (bb1.mono b1.size))
  clear m1 b1 bb1
  go_wp2_with (at_builtin; refine wpList_papp rfl (.tmp 9) (.tmp 11) rfl w.heap.size a1 3 c1 _ rfl (unhide M1) w1.heap.size ⟨6, 3, 0⟩ ⟨by decide, by decide, by decide, by decide, by decide, by decide⟩ rfl (unhide q1) (by omega) (unhide BW1).size ?_; intro a2 c2 w2 m2 g2 s2; have M2 := hide m2; have BW2 := hide ((unhide BW1).trans (show Below w.heap.size _ w2 from ⟨g2.os, g2.tape, g2.output, g2.size, fun j hj => grown_at g2 (by have := (unhide BW1).size; omega) (fun q => by have := ((unhide M1).ob q).1; omega)⟩)); clear m2 g2 s2)
  refine (bytesPcs_any w2 { data := #[100] } (by decide)).mono ?_
  rw [st2]
  rintro e w3 ⟨a3, c3, rfl, m3, b3⟩
  have M3 := hide ((unhide M2).later b3)
  have P3 := hide m3.ps
  have BW3 := hide ((unhide BW2).trans (b3.mono (unhide BW2).size))
  clear m3 b3
  go_wp2_with (at_builtin; refine wpList_pappS rfl (.tmp 12) (.tmp 13) rfl w.heap.size a2 4 c2 _ rfl (unhide M3) a3 1 c3 _ rfl (unhide P3) (by omega) (by omega) (unhide BW3).size ?_; intro a4 c4 w4 m4 b4; have M4 := hide m4; have BW4 := hide ((unhide BW3).trans b4); clear m4 b4)
  have P4 := hide (show Ps w4 a4 5 c4 lAbc from (unhide M4).ps)
  clear M4 M3 P3 M2 BW3 BW2 q1 M1 BW1
  refine (bytesPcs_any w4 { data := #[97] } (by decide)).mono ?_
  rw [st3]
  rintro e w5 ⟨a5, c5, rfl, m5, b5⟩
  have bb5 := below_alloc w5 (.cells #[.int .i64 3, .int .i64 1, .int .u8 0] 25)
  have M5 := hide (m5.later bb5)
  have P5 := hide (((unhide P4).later b5).later bb5)
  have q5 := hide (show Px (w5.alloc (.cells #[.int .i64 3, .int .i64 1, .int .u8 0] 25)) w5.heap.size ⟨3, 1, 0⟩ from px_new w5 ⟨3, 1, 0⟩)
  have BL5 := hide (b5.trans (bb5.mono b5.size))
  have BW5 := hide ((unhide BW4).trans ((b5.trans (bb5.mono b5.size)).mono (unhide BW4).size))
  clear m5 b5 bb5
  go_wp2_with (at_builtin; refine wpList_papp rfl (.tmp 15) (.tmp 17) rfl w4.heap.size a5 1 c5 _ rfl (unhide M5) w5.heap.size ⟨3, 1, 0⟩ ⟨by decide, by decide, by decide, by decide, by decide, by decide⟩ rfl (unhide q5) (by omega) (unhide BL5).size ?_; intro a6 c6 w6 m6 g6 s6; have M6 := hide m6; have BL6 := hide (show Below w4.heap.size _ w6 from ⟨g6.os, g6.tape, g6.output, g6.size, fun j hj => grown_at g6 (by have := (unhide BL5).size; omega) (fun q => by have := ((unhide M5).ob q).1; omega)⟩); clear m6 g6 s6)
  have P6 := hide (show Ps w6 a6 2 c6 lAaaa from (unhide M6).ps)
  have bl46 := (unhide BL5).trans (unhide BL6)
  have P6a := hide ((unhide P4).later bl46)
  have BW6 := hide ((unhide BW4).trans (bl46.mono (unhide BW4).size))
  clear bl46 M6 BL6 BL5 q5 P5 M5 BW5 BW4 P4
  refine (pieces_const w6 _ _ [97, 98, 99, 97, 98, 99, 97, 98, 99, 100] rfl (byt8 (by decide)) (by decide) 10 rfl _ nx1).mono ?_
  rintro e w7 ⟨a7, n7, c7, rfl, p7, b7⟩
  have s7 := hide (samePcs_any w7 a7 n7 c7 a4 5 c4 lAbc p7 ((unhide P6a).later b7))
  have P7 := hide ((unhide P6).later b7)
  have BW7 := hide ((unhide BW6).trans (b7.mono (unhide BW6).size))
  clear p7 b7 P6 P6a BW6
  go_wp2_with fail
  refine (unhide s7).mono ?_
  rintro e w8 ⟨rfl, b8⟩
  have P8 := hide ((unhide P7).later b8)
  have BW8 := hide ((unhide BW7).trans (b8.mono (unhide BW7).size))
  clear b8 s7 P7 BW7
  go_wp2_with fail
  refine (pieces_const w8 _ _ [97, 97, 97, 97] rfl (byt8 (by decide)) (by decide) 4 rfl _ nx2).mono ?_
  rintro e w9 ⟨a9, n9, c9, rfl, p9, b9⟩
  have s9 := hide (samePcs_any w9 a9 n9 c9 a6 2 c6 lAaaa p9 ((unhide P8).later b9))
  have BW9 := hide ((unhide BW8).trans (b9.mono (unhide BW8).size))
  clear p9 b9 P8 BW8
  go_wp2_with fail
  refine (unhide s9).mono ?_
  rintro e w10 ⟨rfl, b10⟩
  have BW10 := hide ((unhide BW9).trans (b10.mono (unhide BW9).size))
  clear b10 s9 BW9
  go_wp2_with fail
  refine (pieces_const w10 _ _ [97, 97, 97] rfl (byt8 (by decide)) (by decide) 3 rfl _ nx3).mono ?_
  rintro e w11 ⟨a11, n11, c11, rfl, p11, b11⟩
  have BW11 := hide ((unhide BW10).trans (b11.mono (unhide BW10).size))
  have P11 := hide p11
  clear p11 b11 BW10
  go_wp2_with fail
  refine (bytesPcs_any w11 { data := #[97, 97, 97] } (by decide)).mono ?_
  rw [st4]
  rintro e w12 ⟨a12, c12, rfl, m12, b12⟩
  have s12 := hide (samePcs_any w12 a11 n11 c11 a12 _ c12 lAaa ((unhide P11).later b12) m12.ps)
  have BW12 := hide ((unhide BW11).trans (b12.mono (unhide BW11).size))
  clear m12 b12 P11 BW11
  go_wp2_with fail
  refine (unhide s12).mono ?_
  rintro e w13 ⟨rfl, b13⟩
  have BW13 := hide ((unhide BW12).trans (b13.mono (unhide BW12).size))
  clear b13 s12 BW12
  go_wp2_with fail
  have d13 := hide (deflate_any w13 none 0 0 [] (Bs.nought w13) (by omega))
  rw [nx4] at d13
  refine (unhide d13).mono ?_
  rintro e w14 ⟨a14, n14, c14, rfl, m14, b14⟩
  have s14 := hide (same_lit w14 a14 n14 c14 [3, 0] m14.bs _ rfl (byt8 (by decide)) (by decide) 2 rfl)
  have BW14 := hide ((unhide BW13).trans (b14.mono (unhide BW13).size))
  clear m14 b14 d13 BW13
  go_wp2_with fail
  refine (unhide s14).mono ?_
  rintro e w15 ⟨rfl, b15⟩
  have BW15 := hide ((unhide BW14).trans (b15.mono (unhide BW14).size))
  clear b15 s14 BW14
  go_wp2_with fail
  refine (deflate_const w15 _ _ [97] rfl (byt8 (by decide)) (by decide) 1 rfl _ nx5).mono ?_
  rintro e w16 ⟨a16, n16, c16, rfl, m16, b16⟩
  have s16 := hide (same_lit w16 a16 n16 c16 [75, 4, 0] m16 _ rfl (byt8 (by decide)) (by decide) 3 rfl)
  have BW16 := hide ((unhide BW15).trans (b16.mono (unhide BW15).size))
  clear m16 b16 BW15
  go_wp2_with fail
  refine (unhide s16).mono ?_
  rintro e w17 ⟨rfl, b17⟩
  have BW17 := hide ((unhide BW16).trans (b17.mono (unhide BW16).size))
  clear b17 s16 BW16
  go_wp2_with fail
  have d17 := hide (stored_bs w17 none 0 0 [] (Bs.nought w17) (by omega))
  rw [nx6] at d17
  refine (unhide d17).mono ?_
  rintro e w18 ⟨a18, n18, c18, rfl, m18, b18⟩
  have s18 := hide (same_lit w18 a18 n18 c18 [1, 0, 0, 255, 255] m18.bs _ rfl (byt8 (by decide)) (by decide) 5 rfl)
  have BW18 := hide ((unhide BW17).trans (b18.mono (unhide BW17).size))
  clear m18 b18 d17 BW17
  go_wp2_with fail
  refine (unhide s18).mono ?_
  rintro e w19 ⟨rfl, b19⟩
  have BW19 := hide ((unhide BW18).trans (b19.mono (unhide BW18).size))
  clear b19 s18 BW18
  go_wp2_with fail
  refine (expand_lit w19 3 1 0 ⟨by decide, by decide, by decide, by decide, by decide, by decide⟩ 5 nx7).mono ?_
  rintro e w20 ⟨a20, n20, c20, rfl, b20⟩
  have BW20 := hide ((unhide BW19).trans (b20.mono (unhide BW19).size))
  clear b20 BW19
  go_wp2_with fail
  refine (expand_lit w20 2 1 0 ⟨by decide, by decide, by decide, by decide, by decide, by decide⟩ 2 nx8).mono ?_
  rintro e w21 ⟨a21, n21, c21, rfl, b21⟩
  have BW21 := hide ((unhide BW20).trans (b21.mono (unhide BW20).size))
  clear b21 BW20
  go_wp2_with fail
  refine (dlives_any w21).mono ?_
  rintro e w22 ⟨rfl, b22⟩
  have BW22 := hide ((unhide BW21).trans (b22.mono (unhide BW21).size))
  clear b22 BW21
  go_wp2_with fail
  go_ret
  exact ⟨rfl, unhide BW22⟩
end Go.Proofs.Ytmlodlmmfkpibaa
