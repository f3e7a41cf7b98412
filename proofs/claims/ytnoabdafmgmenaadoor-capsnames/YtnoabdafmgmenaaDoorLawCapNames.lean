/-
  The walk of the statement CapsNames. Conditions: the program's tables lie in memory.
-/
import Derived.Test.YtnoabdafmgmenaaDoorCapLives
namespace Go.Proofs.YtnoabdafmgmenaaDoor
open Go.RowKit
set_option linter.unusedVariables false
set_option linter.unusedSimpArgs false

theorem of_one (w : World) (hV : Vars w) (b : Nat) (hb : b = w.heap.size) (s : ByteArray) (hs : s.size ≤ 100) (r : Nat × Nat × Nat) (hr : ofA cnm [s] 0 0 = r) : Calls Tryd.prog 7 #[.slice (some ⟨b, 0, none⟩) 1 1] (w.alloc (.cells #[.string s] 9)) fun e w' => e = .returned (ofV r) ∧ Below (w.heap.size + 1) (w.alloc (.cells #[.string s] 9)) w' := by
  subst hb
  have h := of_any (some ⟨w.heap.size, 0, none⟩) 1 1 [s] _ (Ss.lit w [s] (by simp; omega) (by simp)) (hV.later (below_alloc w _))
  rw [hr] at h
  simpa using h
theorem check_lit (C R : Int) (c : Nat) (w : World) (hc : c < 4294967296) (hC : C = (c : Int)) (hR : chkE c = R) : Calls Tryd.prog 14 #[.int .u32 C] w fun e w' => e = .returned (.int .i64 R) ∧ w' = w := by
  subst hC hR
  exact check_any c w hc
theorem names_lit (C : Int) (c : Nat) (l : List ByteArray) (w : World) (hc : c < 4294967296) (hC : C = (c : Int)) (hl : nms cnm c 32 = l) (hV : Vars w) : Calls Tryd.prog 9 #[.int .u32 C] w fun e w' => OutT w l e w' := by
  subst hC hl
  exact names_any c w hc hV
theorem status_lit (C : Int) (c : Nat) (l : List ByteArray) (w : World) (hc : c < 65536) (hC : C = (c : Int)) (hl : nms snm c 16 = l) (hV : Stat w) : Calls Tryd.prog 10 #[.int .u16 C] w fun e w' => OutT w l e w' := by
  subst hC hl
  exact status_any c w hc hV
def n3 : List ByteArray := [⟨#[108, 111, 110, 103, 45, 112, 97, 115, 115, 119, 111, 114, 100]⟩, ⟨#[99, 111, 109, 112, 114, 101, 115, 115]⟩, ⟨#[98, 105, 116, 45, 51, 48]⟩]
def s3 : List ByteArray := [⟨#[97, 117, 116, 111, 99, 111, 109, 109, 105, 116]⟩, ⟨#[98, 105, 116, 45, 50]⟩, ⟨#[115, 116, 97, 116, 101, 45, 99, 104, 97, 110, 103, 101, 100]⟩]
theorem n3_is : nms cnm 1073741857 32 = n3 := by decide +kernel
theorem n0_is : nms cnm 0 32 = [] := by decide +kernel
theorem s3_is : nms snm 16390 16 = s3 := by decide +kernel
theorem lit_n3 (w : World) : Ss (w.alloc (.cells #[.string ⟨#[108, 111, 110, 103, 45, 112, 97, 115, 115, 119, 111, 114, 100]⟩, .string ⟨#[99, 111, 109, 112, 114, 101, 115, 115]⟩, .string ⟨#[98, 105, 116, 45, 51, 48]⟩] 9)) (some ⟨w.heap.size, 0, none⟩) 3 3 n3 := Ss.lit w n3 (by decide) (by decide)
theorem lit_s3 (w : World) : Ss (w.alloc (.cells #[.string ⟨#[97, 117, 116, 111, 99, 111, 109, 109, 105, 116]⟩, .string ⟨#[98, 105, 116, 45, 50]⟩, .string ⟨#[115, 116, 97, 116, 101, 45, 99, 104, 97, 110, 103, 101, 100]⟩] 9)) (some ⟨w.heap.size, 0, none⟩) 3 3 s3 := Ss.lit w s3 (by decide) (by decide)
theorem same_self (ao : Option Addr) (n c : Nat) (bo : Option Addr) (m d : Nat) (l : List ByteArray) (w : World) (h : Ss w ao n c l) (k : Ss w bo m d l) : Calls Tryd.prog 8 #[.slice ao n c, .slice bo m d] w fun e w' => e = .returned (.bool true) ∧ Below w.heap.size w w' := by
  have q := sameTexts_any ao n c l bo m d l w h k
  simpa using q
/-- A block that is made stays, with its two cells. -/
theorem two_later {v : World} {x y : Value} {t : TypeId} {ws : World} (hb : Below (v.heap.size + 1) (v.alloc (.cells #[x, y] t)) ws) : ws.cell? ⟨v.heap.size, 0, none⟩ = some x ∧ ws.cell? ⟨v.heap.size, 1, none⟩ = some y := by
  rw [hb.cell (p := ⟨v.heap.size, 0, none⟩) (by simp), hb.cell (p := ⟨v.heap.size, 1, none⟩) (by simp)]
  simp
theorem up {w v : World} (h : Below w.heap.size w v) (o : Obj) : Below w.heap.size w (v.alloc o) := h.alloc h.size o
theorem upto {w v v' : World} (h : Below w.heap.size w v) (k : Below v.heap.size v v') : Below w.heap.size w v' := h.trans (k.mono h.size)
theorem upto1 {w v v' : World} {o : Obj} (h : Below w.heap.size w v) (k : Below (v.heap.size + 1) (v.alloc o) v') : Below w.heap.size w v' := (up h o).trans (k.mono (by have := h.size; omega))
theorem above {v v' v'' : World} {o : Obj} (h : Below (v.heap.size + 1) (v.alloc o) v') (k : Below v'.heap.size v' v'') : Below (v.heap.size + 1) (v.alloc o) v'' := h.trans (k.mono (by simpa using h.size))
theorem above1 {v v' : World} {o : Obj} (h : Below (v.heap.size + 1) (v.alloc o) v') (o' : Obj) : Below (v.heap.size + 1) (v.alloc o) (v'.alloc o') := h.alloc (by simpa using h.size) o'
theorem above2 {v v' v'' : World} {o o' : Obj} (h : Below (v.heap.size + 1) (v.alloc o) v') (k : Below (v'.heap.size + 1) (v'.alloc o') v'') : Below (v.heap.size + 1) (v.alloc o) v'' := (above1 h o').trans (k.mono (by have := h.size; simp at this; omega))

set_option maxHeartbeats 4000000 in
theorem lawCapNames (w : World) (hV : Vars w ∧ Stat w) :
    Calls Tryd.prog 3 #[] w fun e w' => e = .returned (.bool true) ∧ Below w.heap.size w w' := by
  have HV := hide (fun ws (hb : Below w.heap.size w ws) => hV.1.later hb)
  have HS := hide (fun ws (hb : Below w.heap.size w ws) => hV.2.later hb)
  have cl := hide (fun w1 hv => lives_any w1 hv)
  have ev : ofV (0, 2, 0) = .tuple #[.int .u32 0, .agg #[.int .i64 2, .int .i64 0]] := rfl
  have o1 := hide (by have q := fun w1 hv b hb => of_one w1 hv b hb ⟨#[83, 101, 99, 117, 114, 101]⟩ (by decide) (0, 2, 0) (by decide +kernel); rw [ev] at q; exact q)
  have o2 := hide (by have q := fun w1 hv b hb => of_one w1 hv b hb ⟨#[98, 105, 116, 45, 50, 52]⟩ (by decide) (0, 2, 0) (by decide +kernel); rw [ev] at q; exact q)
  have n1 := hide (fun w1 hv => names_lit 1073741857 1073741857 n3 w1 (by omega) (by omega) n3_is hv)
  have n2 := hide (fun w1 hv => names_lit 0 0 [] w1 (by omega) (by omega) n0_is hv)
  have s1 := hide (fun w1 hv => status_lit 16390 16390 s3 w1 (by omega) (by omega) s3_is hv)
  have cb := hide (fun w1 hv => both_lit 29353903 32 0 29353903 32 w1 (by omega) (by omega) (by omega) (by omega) (by kernel_rfl) hv)
  have k1 := hide (fun w1 => check_lit 565760 0 565760 w1 (by omega) (by omega) (by kernel_rfl))
  have k2 := hide (fun w1 => check_lit 532992 5 532992 w1 (by omega) (by omega) (by kernel_rfl))
  have hb0 : Below w.heap.size w w := Below.refl _ _
  clear hV ev
  go_enter Tryd.func3, Tryd.ntmps3
  go_wp2_with (first
    | (go_at_call 7; refine (unhide o1 _ (unhide HV _ hb0) w.heap.size rfl).mono ?_; rintro e w1 ⟨rfl, hb1'⟩; have hb1 := upto1 hb0 hb1'; clear hb1' hb0; have b1 := up hb1 (.cells #[.int .i64 2, .int .i64 0] 26); have d1 : Below (w1.heap.size + 1) (w1.alloc (.cells #[.int .i64 2, .int .i64 0] 26)) (w1.alloc (.cells #[.int .i64 2, .int .i64 0] 26)) := Below.refl _ _)
    | (go_at_call 7; refine (unhide o2 _ (unhide HV _ b1) (w1.heap.size + 1) (by simp)).mono ?_; rintro e w2 ⟨rfl, hb2'⟩; have hb2 := upto1 b1 hb2'; have d2 := above1 (above2 d1 hb2') (.cells #[.int .i64 2, .int .i64 0] 26); clear hb2' b1 hb1 d1; have b2 := up hb2 (.cells #[.int .i64 2, .int .i64 0] 26); have g2 : Below (w2.heap.size + 1) (w2.alloc (.cells #[.int .i64 2, .int .i64 0] 26)) (w2.alloc (.cells #[.int .i64 2, .int .i64 0] 26)) := Below.refl _ _)
    | (go_at_call 9; refine (unhide n1 _ (unhide HV _ b2)).mono ?_; rintro e w3 ho; obtain ⟨xo, xn, xc, rfl, t3, hb3'⟩ := OutT.of ho; clear ho; have hb3 := upto b2 hb3'; have d3 := above d2 hb3'; have g3 := above g2 hb3'; clear hb3' b2 hb2 d2 g2)
    | (go_at_call 8; refine (same_self _ _ _ _ _ _ _ _ (t3.later (below_alloc w3 _)).ss (lit_n3 w3)).mono ?_; rintro e w4 ⟨rfl, hb4'⟩; have hb4 := upto (up hb3 _) hb4'; have d4 := above (above1 d3 _) hb4'; have g4 := above (above1 g3 _) hb4'; clear hb4' hb3 d3 g3 t3)
    | (go_at_call 9; refine (unhide n2 _ (unhide HV _ hb4)).mono ?_; rintro e w5 ho; obtain ⟨yo, yn, yc, rfl, t5, hb5'⟩ := OutT.of ho; clear ho; have hy : yn = 0 := t5.len.symm; subst hy; clear t5; have hb5 := upto hb4 hb5'; have d5 := above d4 hb5'; have g5 := above g4 hb5'; clear hb5' hb4 d4 g4)
    | (go_at_call 10; refine (unhide s1 _ (unhide HS _ hb5)).mono ?_; rintro e w6 ho; obtain ⟨zo, zn, zc, rfl, t6, hb6'⟩ := OutT.of ho; clear ho; have hb6 := upto hb5 hb6'; have d6 := above d5 hb6'; have g6 := above g5 hb6'; clear hb6' hb5 d5 g5)
    | (go_at_call 8; refine (same_self _ _ _ _ _ _ _ _ (t6.later (below_alloc w6 _)).ss (lit_s3 w6)).mono ?_; rintro e w7 ⟨rfl, hb7'⟩; have hb7 := upto (up hb6 _) hb7'; have d7 := above (above1 d6 _) hb7'; have g7 := above (above1 g6 _) hb7'; clear hb7' hb6 d6 g6 t6)
    | (go_at_call 11; refine (unhide cl _ (unhide HV _ hb7)).mono ?_; rintro e w8 ⟨rfl, hb8'⟩; have hb8 := upto hb7 hb8'; have d8 := above d7 hb8'; have g8 := above g7 hb8'; clear hb8' hb7 d7 g7)
    | (go_at_call 13; refine same_world (offered_any _) ?_)
    | (go_at_call 12; refine (unhide cb _ (unhide HV _ hb8)).mono ?_; rintro e w9 ⟨rfl, hb9'⟩; have hb9 := upto hb8 hb9'; have d9 := two_later (above d8 hb9'); have g9 := two_later (above g8 hb9'); obtain ⟨d90, d91⟩ := d9; obtain ⟨g90, g91⟩ := g9; clear hb9' hb8 d8 g8)
    | (go_at_call 15; refine same_world (needed_any _) ?_)
    | (go_at_call 14; with_reducible show Calls _ _ #[.int .u32 565760] _ _; refine same_world (unhide k1 _) ?_)
    | (go_at_call 14; refine same_world (unhide k2 _) ?_))
  go_ret
  exact ⟨rfl, hb9⟩

end Go.Proofs.YtnoabdafmgmenaaDoor
