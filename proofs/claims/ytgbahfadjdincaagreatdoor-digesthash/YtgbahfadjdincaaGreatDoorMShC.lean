/-
  What mixed1 of package sha returns: SHA-1's words behind a block. Conditions: eight words, a block of sixteen.
  What mixed256 of package sha returns: SHA-256's words behind a block. Conditions: eight words, a block of sixteen; the table of constants holds what the program's text says.
-/
import Derived.Test.YtgbahfadjdincaaGreatDoorMShB
namespace Go.Proofs.YtgbahfadjdincaaGreatDoor.Sha
open Go.RowKit
set_option linter.unusedVariables false
set_option linter.unusedSimpArgs false

theorem k1_wd (t : Nat) : Wd (k1 t) := by
  unfold k1 Wd
  split
  · omega
  · split
    · omega
    · split <;> omega
theorem f1_wd (t : Nat) (b c d : Int) : Wd (f1 t b c d) := by
  unfold f1
  split
  · exact chs_wd _ _ _
  · split
    · exact par_wd _ _ _
    · split
      · exact maj_wd _ _ _
      · exact par_wd _ _ _
structure Q5w (s : Q5) : Prop where
  a : Wd s.a
  b : Wd s.b
  c : Wd s.c
  d : Wd s.d
  e : Wd s.e
theorem rd1_wd (t : Nat) (w : Int) {s : Q5} (h : Q5w s) : Q5w (rd1 t w s) := ⟨mod_wd _, h.a, rot_wd _ _, h.c, h.d⟩
theorem run1_wd (W : List Int) {s : Q5} (h : Q5w s) : ∀ n, Q5w (run1 W s n)
  | 0 => h
  | n + 1 => rd1_wd _ _ (run1_wd W h n)
def s5 (W : List Int) : Q5 := ⟨ix W 0, ix W 1, ix W 2, ix W 3, ix W 4⟩
theorem s5_wd {W : List Int} (h : Wds W) : Q5w (s5 W) := ⟨h 0, h 1, h 2, h 3, h 4⟩
theorem list8 {l : List Int} (h : l.length = 8) : ∃ a0 a1 a2 a3 a4 a5 a6 a7, l = [a0, a1, a2, a3, a4, a5, a6, a7] := by
  match l, h with
  | [a0, a1, a2, a3, a4, a5, a6, a7], _ => exact ⟨a0, a1, a2, a3, a4, a5, a6, a7, rfl⟩
theorem mix1_set (W b : List Int) (h : W.length = 8) (s : Q5) (hs : run1 (sch1 b) (s5 W) 80 = s) :
    mix1 W b = ((((W.set 0 ((ix W 0 + s.a) % 4294967296)).set 1 ((ix W 1 + s.b) % 4294967296)).set 2 ((ix W 2 + s.c) % 4294967296)).set 3 ((ix W 3 + s.d) % 4294967296)).set 4 ((ix W 4 + s.e) % 4294967296) := by
  subst hs
  obtain ⟨a0, a1, a2, a3, a4, a5, a6, a7, rfl⟩ := list8 h
  rfl
theorem mix1_len (W b : List Int) : (mix1 W b).length = 8 := rfl
theorem sch1_len (b : List Int) (h : b.length = 16) : (sch1 b).length = 80 := by unfold sch1; rw [List.length_reverse, rs_len nx1 b h]
theorem sch1_wds (b : List Int) (h : Wds b) : Wds (sch1 b) := wds_mem fun x hx => (rs_wds nx1 nx1_wd b h 64).mem x (by simpa [sch1] using hx)

set_option maxHeartbeats 2000000 in
set_option maxRecDepth 20000 in
theorem mixed1_any (W b : List Int) (w : World) (hW : W.length = 8) (hWw : Wds W) (hl : b.length = 16) (hb : Wds b) :
    Calls Tryz.prog 126 #[.agg (vk .u32 W), .agg (vk .u32 b)] w fun e w' => e = .returned (.agg (vk .u32 (mix1 W b))) ∧ Below w.heap.size w w' := by
  have HW := hide hW
  have HWw := hide hWw
  have HL := hide hl
  have HB := hide hb
  clear hl hb hW hWw
  go_enter Tryz.func126, Tryz.ntmps126
  go_wp2_with (first
    | (with_reducible show wpList Tryz.prog _ _ (Oper.mk _ (Op.box 76 _) _ _ _ none :: _) _ _; refine wpList_aBox rfl (.tmp 0) rfl W rfl ?_; intro w1 a1 b1 s1; have S1 := hide s1; clear s1)
    | (with_reducible show wpList Tryz.prog _ _ (Oper.mk _ (Op.box 114 _) _ _ _ none :: _) _ _; refine wpList_aBox rfl (.tmp 1) rfl b rfl ?_; intro w2 a2 b2 s2; have S2 := hide s2; clear s2)
    | (with_reducible show wpList Tryz.prog _ _ (Oper.mk _ (Op.alloc 76) _ _ _ none :: _) _ _; refine wpList_aAlloc ta8 rfl rfl ?_; intro w3 a3 b3 s3; have A2 := hide (a2.later b3); have A1 := hide ((a1.later b2).later b3); have A3 := hide a3; have B3 := hide ((b1.trans (b2.mono b1.size)).trans (b3.mono (Nat.le_trans b1.size b2.size))); have S3 := hide s3; clear a1 a2 a3 b1 b2 b3 s3))
  have hg2 : w.heap.size < w1.heap.size := by have := unhide S1; omega
  have hg3 : w1.heap.size < w2.heap.size := by have := unhide S2; omega
  have hg4 : w2.heap.size < w3.heap.size := by have := unhide S3; omega
  have c0 := (unhide A1).cell (i := 0) (by rw [unhide HW]; omega)
  have c1 := (unhide A1).cell (i := 1) (by rw [unhide HW]; omega)
  have c2 := (unhide A1).cell (i := 2) (by rw [unhide HW]; omega)
  have c3 := (unhide A1).cell (i := 3) (by rw [unhide HW]; omega)
  have c4 := (unhide A1).cell (i := 4) (by rw [unhide HW]; omega)
  go_quiet (fail)
  clear c0 c1 c2 c3 c4
  obtain ⟨wq, hwq⟩ : ∃ wq, wq = w3.drewN nq := ⟨_, rfl⟩
  rw [← hwq]
  have A1q := hide (show Arr wq w.heap.size 76 .u32 W by rw [hwq]; exact unhide A1)
  have A2q := hide (show Arr wq w1.heap.size 114 .u32 b by rw [hwq]; exact unhide A2)
  have A3q := hide (show Arr wq w2.heap.size 76 .u32 (zs 8) by rw [hwq]; exact unhide A3)
  have B3q := hide (show Below w.heap.size w wq by rw [hwq]; exact (unhide B3).trans ⟨rfl, rfl, rfl, Nat.le_refl _, fun _ _ => rfl⟩)
  have hsq : w2.heap.size < wq.heap.size := by rw [hwq]; exact hg4
  have sc := hide (stretched1_any b wq (unhide HL) (unhide HB))
  clear hwq A1 A2 A3 B3 hg4
  go_wp2_with (first
    | (with_reducible show wpList Tryz.prog _ _ (Oper.mk _ (Op.load 114 _) _ _ _ none :: _) _ _; refine wpList_aLoad ta16 rfl (.tmp 3) rfl w1.heap.size rfl b (unhide A2q) (unhide HL) ?_))
  refine (unhide sc).mono ?_
  rintro e w4 ⟨rfl, b4⟩
  have A1 := hide ((unhide A1q).later b4)
  have A3 := hide ((unhide A3q).later b4)
  have B4 := hide ((unhide B3q).trans (b4.mono (unhide B3q).size))
  have HS := hide (sch1_len b (unhide HL))
  have HQ := hide (s5_wd (unhide HWw))
  clear b4 A1q A2q A3q B3q sc
  go_wp2_with fail
  go_loop [25, 5, 6, 7, 8, 9] (fun i x1 x2 x3 x4 x5 => ∃ n : Nat, n ≤ 80 ∧ i = .int .i64 n ∧ x1 = .int .u32 (run1 (sch1 b) (s5 W) n).a ∧ x2 = .int .u32 (run1 (sch1 b) (s5 W) n).b ∧ x3 = .int .u32 (run1 (sch1 b) (s5 W) n).c ∧ x4 = .int .u32 (run1 (sch1 b) (s5 W) n).d ∧ x5 = .int .u32 (run1 (sch1 b) (s5 W) n).e) (fun i _ _ _ _ _ => 80 - (intOf i).toNat)
  case atStart => exact ⟨0, by omega, rfl, rfl, rfl, rfl, rfl, rfl⟩
  case round =>
    obtain ⟨n, hn, rfl, rfl, rfl, rfl, rfl, rfl⟩ := hrel
    have hq := run1_wd (sch1 b) (unhide HQ) n
    have hnx : run1 (sch1 b) (s5 W) (n + 1) = rd1 n (ix (sch1 b) n) (run1 (sch1 b) (s5 W) n) := rfl
    have h80 := hide (mix1_set W b (unhide HW) _ rfl)
    by_cases hlt : n < 80
    · have hix := run_aIndex ta80 (sch1 b) (unhide HS) n hlt (n : Int) rfl
      have hxw := sch1_wds b (unhide HB) n
      have HN := hide hnx
      generalize run1 (sch1 b) (s5 W) n = s at *
      obtain ⟨a, b', c, d, e⟩ := s
      obtain ⟨⟨a0, a1⟩, ⟨b0, b1⟩, ⟨c0, c1⟩, ⟨d0, d1⟩, ⟨e0, e1⟩⟩ := hq
      obtain ⟨x0, x1⟩ := hxw
      simp only at *
      have r1 := hide (rol_any a 5 5 rfl w4 ⟨a0, a1⟩ (by omega) (by omega))
      have r2 := hide (rol_any b' 30 30 rfl w4 ⟨b0, b1⟩ (by omega) (by omega))
      have j1 := hide (joined1_any (n : Int) n rfl b' c d w4)
      have key := hide (show ∀ x : Int, (((rot a 5 + (f1 n b' c d + k1 n) % 4294967296) % 4294967296 + e) % 4294967296 + x) % 4294967296 = (rot a 5 + f1 n b' c d + e + k1 n + x) % 4294967296 by intro x; omega)
      obtain ⟨p0, p1⟩ := rot_wd a 5
      obtain ⟨y0, y1⟩ := rot_wd b' 30
      obtain ⟨q0, q1⟩ := mod_wd (f1 n b' c d + k1 n)
      generalize ix (sch1 b) n = X at *
      clear hnx h80
      go_wp2_with fail
      refine same_world (unhide r1) ?_
      go_wp2_with fail
      refine same_world (unhide j1) ?_
      go_wp2_with fail
      refine same_world (unhide r2) ?_
      go_wp2_with fail
      go_round
      case rel =>
        refine ⟨n + 1, by omega, by go_num, ?_, ?_, ?_, ?_, ?_⟩
        all_goals rw [unhide HN]
        · show Value.int .u32 _ = Value.int .u32 ((rot a 5 + f1 n b' c d + e + k1 n + X) % 4294967296)
          congr 1
          omega
        all_goals rfl
      case measure => simp [intOf]; omega
    · have hn80 : n = 80 := by omega
      subst hn80
      have h0 := (unhide A1).cell (i := 0) (by rw [unhide HW]; omega)
      have h1 := (unhide A1).cell (i := 1) (by rw [unhide HW]; omega)
      have h2 := (unhide A1).cell (i := 2) (by rw [unhide HW]; omega)
      have h3 := (unhide A1).cell (i := 3) (by rw [unhide HW]; omega)
      have h4 := (unhide A1).cell (i := 4) (by rw [unhide HW]; omega)
      have f0 := (unhide A1).free 0
      have f1 := (unhide A1).free 1
      have f2 := (unhide A1).free 2
      have f3 := (unhide A1).free 3
      have f4 := (unhide A1).free 4
      clear hnx
      generalize run1 (sch1 b) (s5 W) 80 = s at *
      obtain ⟨a, b', c, d, e⟩ := s
      obtain ⟨⟨a0, a1⟩, ⟨b0, b1⟩, ⟨c0, c1⟩, ⟨d0, d1⟩, ⟨e0, e1⟩⟩ := hq
      simp only at *
      obtain ⟨w00, w01⟩ := (unhide HWw) 0
      obtain ⟨w10, w11⟩ := (unhide HWw) 1
      obtain ⟨w20, w21⟩ := (unhide HWw) 2
      obtain ⟨w30, w31⟩ := (unhide HWw) 3
      obtain ⟨w40, w41⟩ := (unhide HWw) 4
      have M := hide (mix1_len W b)
      generalize ix W 0 = W0 at *
      generalize ix W 1 = W1 at *
      generalize ix W 2 = W2 at *
      generalize ix W 3 = W3 at *
      generalize ix W 4 = W4 at *
      go_wp2_with (first
        | (with_reducible show wpList Tryz.prog _ _ (Oper.mk _ (Op.load 76 _) _ _ _ none :: _) _ _; refine wpList_aLoad ta8 rfl (.tmp 2) rfl w.heap.size rfl (mix1 W b) (by rw [unhide h80]; exact (((((unhide A1).stored 0 _).stored 1 _).stored 2 _).stored 3 _).stored 4 _) (unhide M) ?_)
        | (with_reducible show wpList Tryz.prog _ _ (Oper.mk _ (Op.store 76 _ _) _ _ _ none :: _) _ _; refine wpList_aStore ta8 rfl (.tmp 4) (.tmp 73) rfl w2.heap.size (mix1 W b) (zs 8) rfl rfl ((((((unhide A3).other _ _ (by simp <;> omega)).other _ _ (by simp <;> omega)).other _ _ (by simp <;> omega)).other _ _ (by simp <;> omega)).other _ _ (by simp <;> omega)) (unhide M) (zs_len 8) ?_; intro w5 a5 o5 s5 b5))
      refine bodyPost_ret (results_arr ta8 rfl _ _ w2.heap.size _ (unhide M) rfl a5) rfl ?_
      exact ⟨rfl, ((((((unhide B4).setCell (by simp) _).setCell (by simp) _).setCell (by simp) _).setCell (by simp) _).setCell (by simp) _).trans (b5.mono (by omega))⟩

end Go.Proofs.YtgbahfadjdincaaGreatDoor.Sha

namespace Go.Proofs.YtgbahfadjdincaaGreatDoor.Sha
open Go.RowKit
set_option linter.unusedVariables false
set_option linter.unusedSimpArgs false

/-- The table holds what the program's text says. -/
structure Vars (w : World) : Prop where
  roots : ∀ i, i < 64 → w.cell? ⟨0, i, none⟩ = some (.int .u32 (ix kk i))
  size : 1 ≤ w.heap.size
theorem Vars.later {w w' : World} {B : Nat} (h : Vars w) (hB : 1 ≤ B) (hb : Below B w w') : Vars w' :=
  ⟨fun i hi => by rw [hb.cell (p := ⟨0, i, none⟩) (by simp; omega)]; exact h.roots i hi, Nat.le_trans h.size hb.size⟩
theorem Vars.low {w w' : World} (h : Vars w) (hb : Below w.heap.size w w') : Vars w' := h.later h.size hb

structure Q8w (s : Q8) : Prop where
  a : Wd s.a
  b : Wd s.b
  c : Wd s.c
  d : Wd s.d
  e : Wd s.e
  f : Wd s.f
  g : Wd s.g
  h : Wd s.h
theorem rd2_wd (t : Nat) (w : Int) {s : Q8} (h : Q8w s) : Q8w (rd2 t w s) := ⟨mod_wd _, h.a, h.b, h.c, mod_wd _, h.e, h.f, h.g⟩
theorem run2_wd (W : List Int) {s : Q8} (h : Q8w s) : ∀ n, Q8w (run2 W s n)
  | 0 => h
  | n + 1 => rd2_wd _ _ (run2_wd W h n)
def s8 (W : List Int) : Q8 := ⟨ix W 0, ix W 1, ix W 2, ix W 3, ix W 4, ix W 5, ix W 6, ix W 7⟩
theorem s8_wd {W : List Int} (h : Wds W) : Q8w (s8 W) := ⟨h 0, h 1, h 2, h 3, h 4, h 5, h 6, h 7⟩
theorem kk_wd : Wds kk := by
  refine wds_mem fun x hx => ?_
  have : kk.all (fun x => decide (0 ≤ x) && decide (x ≤ 4294967295)) = true := by decide
  have h := List.all_eq_true.1 this x hx
  simpa [Wd] using h
theorem sch2_len (b : List Int) (h : b.length = 16) : (sch2 b).length = 64 := by unfold sch2; rw [List.length_reverse, rs_len nx2 b h]
theorem sch2_wds (b : List Int) (h : Wds b) : Wds (sch2 b) := wds_mem fun x hx => (rs_wds nx2 nx2_wd b h 48).mem x (by simpa [sch2] using hx)
/-- The first i of eight words, each with its letter. -/
def addp (W S : List Int) (i : Nat) : List Int := (List.range 8).map fun q => if q < i then (ix W q + ix S q) % 4294967296 else ix W q
theorem addp_len (W S : List Int) (i : Nat) : (addp W S i).length = 8 := by simp [addp]
theorem addp_at (W S : List Int) (i q : Nat) (h : q < 8) : ix (addp W S i) q = if q < i then (ix W q + ix S q) % 4294967296 else ix W q := by simp [addp, ix, h]
theorem addp_zero (W S : List Int) (h : W.length = 8) : addp W S 0 = W := by
  obtain ⟨a0, a1, a2, a3, a4, a5, a6, a7, rfl⟩ := list8 h
  rfl
theorem addp_step (W S : List Int) (i : Nat) (h : i < 8) : (addp W S i).set i ((ix W i + ix S i) % 4294967296) = addp W S (i + 1) := by
  refine ix_ext (n := 8) (by simp [addp_len]) (addp_len _ _ _) fun q hq => ?_
  rw [ix_set _ _ _ _ (by rw [addp_len]; exact h), addp_at _ _ _ _ hq, addp_at _ _ _ _ hq]
  by_cases e : q = i
  · subst e; simp
  · rw [if_neg e]
    by_cases h2 : q < i
    · rw [if_pos h2, if_pos (by omega)]
    · rw [if_neg h2, if_neg (by omega)]
def l8 (s : Q8) : List Int := [s.a, s.b, s.c, s.d, s.e, s.f, s.g, s.h]
theorem mix2_add' (W b : List Int) (s : Q8) (hs : run2 (sch2 b) (s8 W) 64 = s) : addp W (l8 s) 8 = mix2 W b := by subst hs; rfl
theorem l8_len (s : Q8) : (l8 s).length = 8 := rfl
theorem l8_wds {s : Q8} (h : Q8w s) : Wds (l8 s) := by
  refine wds_mem fun x hx => ?_
  simp only [l8, List.mem_cons, List.not_mem_nil, or_false] at hx
  rcases hx with rfl | rfl | rfl | rfl | rfl | rfl | rfl | rfl
  · exact h.a
  · exact h.b
  · exact h.c
  · exact h.d
  · exact h.e
  · exact h.f
  · exact h.g
  · exact h.h
theorem mix2_len (W b : List Int) : (mix2 W b).length = 8 := rfl
theorem built8c (a b c d e f g h : Int) : Tryz.prog.built 76 [(0, .int .u32 a), (1, .int .u32 b), (2, .int .u32 c), (3, .int .u32 d), (4, .int .u32 e), (5, .int .u32 f), (6, .int .u32 g), (7, .int .u32 h)] = some (vk .u32 (l8 ⟨a, b, c, d, e, f, g, h⟩)) := by kernel_rfl

set_option maxHeartbeats 8000000 in
set_option maxRecDepth 20000 in
theorem mixed256_any (W b : List Int) (w : World) (hv : Vars w) (hW : W.length = 8) (hWw : Wds W) (hl : b.length = 16) (hb : Wds b) :
    Calls Tryz.prog 127 #[.agg (vk .u32 W), .agg (vk .u32 b)] w fun e w' => e = .returned (.agg (vk .u32 (mix2 W b))) ∧ Below w.heap.size w w' := by
  have HV := hide hv
  have HW := hide hW
  have HWw := hide hWw
  have HL := hide hl
  have HB := hide hb
  clear hl hb hW hWw hv
  go_enter Tryz.func127, Tryz.ntmps127
  go_wp2_with (first
    | (with_reducible show wpList Tryz.prog _ _ (Oper.mk _ (Op.box 76 _) _ _ _ none :: _) _ _; refine wpList_aBox rfl (.tmp 0) rfl W rfl ?_; intro w1 a1 b1 s1; have S1 := hide s1; clear s1)
    | (with_reducible show wpList Tryz.prog _ _ (Oper.mk _ (Op.box 114 _) _ _ _ none :: _) _ _; refine wpList_aBox rfl (.tmp 1) rfl b rfl ?_; intro w2 a2 b2 s2; have S2 := hide s2; clear s2)
    | (with_reducible show wpList Tryz.prog _ _ (Oper.mk _ (Op.alloc 76) _ _ _ none :: _) _ _; refine wpList_aAlloc ta8 rfl rfl ?_; intro w3 a3 b3 s3; have A2 := hide (a2.later b3); have A1 := hide ((a1.later b2).later b3); have A3 := hide a3; have B3 := hide ((b1.trans (b2.mono b1.size)).trans (b3.mono (Nat.le_trans b1.size b2.size))); have S3 := hide s3; clear a1 a2 a3 b1 b2 b3 s3))
  have hg2 : w.heap.size < w1.heap.size := by have := unhide S1; omega
  have hg3 : w1.heap.size < w2.heap.size := by have := unhide S2; omega
  have hg4 : w2.heap.size < w3.heap.size := by have := unhide S3; omega
  have c0 := (unhide A1).cell (i := 0) (by rw [unhide HW]; omega)
  have c1 := (unhide A1).cell (i := 1) (by rw [unhide HW]; omega)
  have c2 := (unhide A1).cell (i := 2) (by rw [unhide HW]; omega)
  have c3 := (unhide A1).cell (i := 3) (by rw [unhide HW]; omega)
  go_quiet (fail)
  clear c0 c1 c2 c3
  obtain ⟨wp, hwp⟩ : ∃ wp, wp = w3.drewN nq := ⟨_, rfl⟩
  rw [← hwp]
  have A1p := hide (show Arr wp w.heap.size 76 .u32 W by rw [hwp]; exact unhide A1)
  have A2p := hide (show Arr wp w1.heap.size 114 .u32 b by rw [hwp]; exact unhide A2)
  have A3p := hide (show Arr wp w2.heap.size 76 .u32 (zs 8) by rw [hwp]; exact unhide A3)
  have B3p := hide (show Below w.heap.size w wp by rw [hwp]; exact (unhide B3).trans ⟨rfl, rfl, rfl, Nat.le_refl _, fun _ _ => rfl⟩)
  have hsp : w2.heap.size < wp.heap.size := by rw [hwp]; exact hg4
  clear hwp A1 A2 A3 B3 hg4 nq
  have c4 := (unhide A1p).cell (i := 4) (by rw [unhide HW]; omega)
  have c5 := (unhide A1p).cell (i := 5) (by rw [unhide HW]; omega)
  have c6 := (unhide A1p).cell (i := 6) (by rw [unhide HW]; omega)
  have c7 := (unhide A1p).cell (i := 7) (by rw [unhide HW]; omega)
  go_wp2_with fail
  go_quiet (fail)
  clear c4 c5 c6 c7
  obtain ⟨wq, hwq⟩ : ∃ wq, wq = wp.drewN nq := ⟨_, rfl⟩
  rw [← hwq]
  have A1q := hide (show Arr wq w.heap.size 76 .u32 W by rw [hwq]; exact unhide A1p)
  have A2q := hide (show Arr wq w1.heap.size 114 .u32 b by rw [hwq]; exact unhide A2p)
  have A3q := hide (show Arr wq w2.heap.size 76 .u32 (zs 8) by rw [hwq]; exact unhide A3p)
  have B3q := hide (show Below w.heap.size w wq by rw [hwq]; exact (unhide B3p).trans ⟨rfl, rfl, rfl, Nat.le_refl _, fun _ _ => rfl⟩)
  have hsq : w2.heap.size < wq.heap.size := by rw [hwq]; exact hsp
  have sc := hide (stretched256_any b wq (unhide HL) (unhide HB))
  clear hwq A1p A2p A3p B3p hsp nq
  go_wp2_with (first
    | (with_reducible show wpList Tryz.prog _ _ (Oper.mk _ (Op.load 114 _) _ _ _ none :: _) _ _; refine wpList_aLoad ta16 rfl (.tmp 3) rfl w1.heap.size rfl b (unhide A2q) (unhide HL) ?_))
  refine (unhide sc).mono ?_
  rintro e w4 ⟨rfl, b4⟩
  have A1 := hide ((unhide A1q).later b4)
  have A3 := hide ((unhide A3q).later b4)
  have B4 := hide ((unhide B3q).trans (b4.mono (unhide B3q).size))
  have HS := hide (sch2_len b (unhide HL))
  have HQ := hide (s8_wd (unhide HWw))
  have hsz := (unhide HV).size
  clear b4 A1q A2q A3q B3q sc
  go_wp2_with fail
  go_loopw [37, 5, 6, 7, 8, 9, 10, 11, 12] (fun i x1 x2 x3 x4 x5 x6 x7 x8 ws => ∃ n : Nat, n ≤ 64 ∧ i = .int .i64 n ∧ x1 = .int .u32 (run2 (sch2 b) (s8 W) n).a ∧ x2 = .int .u32 (run2 (sch2 b) (s8 W) n).b ∧ x3 = .int .u32 (run2 (sch2 b) (s8 W) n).c ∧ x4 = .int .u32 (run2 (sch2 b) (s8 W) n).d ∧ x5 = .int .u32 (run2 (sch2 b) (s8 W) n).e ∧ x6 = .int .u32 (run2 (sch2 b) (s8 W) n).f ∧ x7 = .int .u32 (run2 (sch2 b) (s8 W) n).g ∧ x8 = .int .u32 (run2 (sch2 b) (s8 W) n).h ∧ Arr ws w.heap.size 76 .u32 W ∧ Arr ws w2.heap.size 76 .u32 (zs 8) ∧ Below w.heap.size w ws) (fun i _ _ _ _ _ _ _ _ _ => 64 - (intOf i).toNat)
  case atStart => exact ⟨0, by omega, rfl, rfl, rfl, rfl, rfl, rfl, rfl, rfl, rfl, unhide A1, unhide A3, unhide B4⟩
  case round =>
    clear A1 A3 B4
    obtain ⟨n, hn, rfl, rfl, rfl, rfl, rfl, rfl, rfl, rfl, rfl, hA1, hA3, hB⟩ := hrel
    have hq := run2_wd (sch2 b) (unhide HQ) n
    have hnx : run2 (sch2 b) (s8 W) (n + 1) = rd2 n (ix (sch2 b) n) (run2 (sch2 b) (s8 W) n) := rfl
    have A1 := hide hA1
    have A3 := hide hA3
    have HB4 := hide hB
    by_cases hlt : n < 64
    · have hix := run_aIndex ta64 (sch2 b) (unhide HS) n hlt (n : Int) rfl
      have hxw := sch2_wds b (unhide HB) n
      have hk := ((unhide HV).later hsz hB).roots n hlt
      have hkw := kk_wd n
      have HN := hide hnx
      generalize run2 (sch2 b) (s8 W) n = s at *
      obtain ⟨a, b', c, d, e, f, g, h⟩ := s
      obtain ⟨⟨a0, a1⟩, ⟨b0, b1⟩, ⟨c0, c1⟩, ⟨d0, d1⟩, ⟨e0, e1⟩, ⟨f0, f1⟩, ⟨g0, g1⟩, ⟨h0, h1⟩⟩ := hq
      obtain ⟨x0, x1⟩ := hxw
      obtain ⟨k0, k1⟩ := hkw
      simp only at *
      have r1 := hide (fun wx => ror_any e 6 6 rfl wx ⟨e0, e1⟩ (by omega) (by omega))
      have r2 := hide (fun wx => ror_any e 11 11 rfl wx ⟨e0, e1⟩ (by omega) (by omega))
      have r3 := hide (fun wx => ror_any e 25 25 rfl wx ⟨e0, e1⟩ (by omega) (by omega))
      have r4 := hide (fun wx => chosen_any e f g wx)
      have r5 := hide (fun wx => ror_any a 2 2 rfl wx ⟨a0, a1⟩ (by omega) (by omega))
      have r6 := hide (fun wx => ror_any a 13 13 rfl wx ⟨a0, a1⟩ (by omega) (by omega))
      have r7 := hide (fun wx => ror_any a 22 22 rfl wx ⟨a0, a1⟩ (by omega) (by omega))
      have r8 := hide (fun wx => most_any a b' c wx)
      have hrd := hide (show ∀ X : Int, rd2 n X ⟨a, b', c, d, e, f, g, h⟩ = ⟨(xx n X ⟨a, b', c, d, e, f, g, h⟩ + yy ⟨a, b', c, d, e, f, g, h⟩) % 4294967296, a, b', c, (d + xx n X ⟨a, b', c, d, e, f, g, h⟩) % 4294967296, e, f, g⟩ from fun _ => rfl)
      have hxx := hide (show ∀ X : Int, xx n X ⟨a, b', c, d, e, f, g, h⟩ = (((((h + bits .xor .u32 (bits .xor .u32 (rot e 26) (rot e 21)) (rot e 7)) % 4294967296 + chs e f g) % 4294967296) + ix kk n) % 4294967296 + X) % 4294967296 from fun _ => rfl)
      have hyy := hide (show yy ⟨a, b', c, d, e, f, g, h⟩ = (bits .xor .u32 (bits .xor .u32 (rot a 30) (rot a 19)) (rot a 10) + maj a b' c) % 4294967296 from rfl)
      generalize ix (sch2 b) n = X at *
      generalize ix kk n = Kn at *
      have it : 0 ≤ (n : Int) ∧ (n : Int) < 64 := by omega
      clear hnx hA1 hA3 hB
      go_wp2_with fail
      go_quiet (first | (go_at_call 139; first | refine Calls.quiet_of_same (unhide r1 _) | refine Calls.quiet_of_same (unhide r2 _) | refine Calls.quiet_of_same (unhide r3 _)) | (go_at_call 140; refine Calls.quiet_of_same (unhide r4 _)))
      obtain ⟨xv, hxv⟩ : ∃ xv, xv = xx n X ⟨a, b', c, d, e, f, g, h⟩ := ⟨_, rfl⟩
      have hx1 : ((h + bits .xor .u32 (bits .xor .u32 (rot e 26) (rot e 21)) (rot e 7) + chs e f g + Kn) % 4294967296 + X) % 4294967296 = xv := by rw [hxv, unhide hxx]; omega
      have xv0 : 0 ≤ xv := by rw [← hx1]; omega
      have xv1 : xv ≤ 4294967295 := by rw [← hx1]; omega
      rw [hx1]
      have HRD := hide (unhide hrd X)
      rw [← hxv, unhide hyy] at HRD
      obtain ⟨wz, hwz⟩ : ∃ wz, wz = wr.drewN nq := ⟨_, rfl⟩
      rw [← hwz]
      have A1z := hide (show Arr wz w.heap.size 76 .u32 W by rw [hwz]; exact unhide A1)
      have A3z := hide (show Arr wz w2.heap.size 76 .u32 (zs 8) by rw [hwz]; exact unhide A3)
      have Bz := hide (show Below w.heap.size w wz by rw [hwz]; exact (unhide HB4).trans ⟨rfl, rfl, rfl, Nat.le_refl _, fun _ _ => rfl⟩)
      clear hwz A1 A3 HB4 hx1 hxv hxx hyy hrd nq hk hix r1 r2 r3 r4
      go_wp2_with fail
      refine same_world (unhide r5 _) ?_
      go_wp2_with fail
      refine same_world (unhide r6 _) ?_
      go_wp2_with fail
      refine same_world (unhide r7 _) ?_
      go_wp2_with fail
      refine same_world (unhide r8 _) ?_
      go_wp2_with fail
      go_roundw
      case rel =>
        refine ⟨n + 1, by omega, by go_num, ?_, ?_, ?_, ?_, ?_, ?_, ?_, ?_, unhide A1z, unhide A3z, unhide Bz⟩
        all_goals rw [unhide HN, unhide HRD]
      case measure => simp [intOf]; omega
    · have hn64 : n = 64 := by omega
      obtain ⟨s, hs⟩ : ∃ s, run2 (sch2 b) (s8 W) n = s := ⟨_, rfl⟩
      have hmx := hide (mix2_add' W b s (by rw [← hn64]; exact hs))
      have hg : ¬ (n : Int) < 64 := by omega
      rw [hs] at hq
      have HQ8 := hide (l8_wds hq)
      rw [hs]
      have hl8 := hide (l8_len s)
      have hvk : (#[Value.int .u32 s.a, Value.int .u32 s.b, Value.int .u32 s.c, Value.int .u32 s.d, Value.int .u32 s.e, Value.int .u32 s.f, Value.int .u32 s.g, Value.int .u32 s.h] : Array Value) = vk .u32 (l8 s) := rfl
      have hA0 := hide (addp_zero W (l8 s) (unhide HW))
      clear hA1 hA3 hB hq hnx hs hn64 hlt hn
      go_wp2_with fail
      clear hvk
      go_loopw [97] (fun i ws => ∃ q : Nat, q ≤ 8 ∧ i = .int .i64 q ∧ Arr ws w.heap.size 76 .u32 (addp W (l8 s) q) ∧ Arr ws w2.heap.size 76 .u32 (zs 8) ∧ Below w.heap.size w ws) (fun i _ => 8 - (intOf i).toNat)
      case atStart => exact ⟨0, by omega, rfl, by rw [unhide hA0]; exact unhide A1, unhide A3, unhide HB4⟩
      case round =>
        clear A1 A3 HB4
        obtain ⟨q, hq8, rfl, hA1, hA3, hB⟩ := hrel
        by_cases hlt2 : q < 8
        · have hix := run_aIndex ta8 (l8 s) (unhide hl8) q hlt2 (q : Int) rfl
          have cc := hA1.cell (i := q) (by rw [addp_len]; exact hlt2)
          have fr := hA1.free q
          have hst := hide (addp_step W (l8 s) q hlt2)
          rw [addp_at _ _ _ _ hlt2, if_neg (by omega)] at cc
          obtain ⟨y0, y1⟩ := (unhide HQ8) q
          obtain ⟨z0, z1⟩ := (unhide HWw) q
          generalize ix W q = Y at *
          generalize ix (l8 s) q = Z at *
          have i1 : 0 ≤ (q : Int) ∧ (q : Int) < 8 := by omega
          have A1 := hide hA1
          have A3 := hide hA3
          clear hA1 hA3
          go_wp2_with fail
          go_roundw
          case rel =>
            refine ⟨q + 1, by omega, by go_num, ?_, (unhide A3).other _ _ (by simp <;> omega), hB.setCell (by simp) _⟩
            rw [← unhide hst]
            exact (unhide A1).stored q _
          case measure => simp [intOf]; omega
        · have A1 := hide (show Arr wr w.heap.size 76 .u32 (mix2 W b) by rw [← unhide hmx, show (8 : Nat) = q by omega]; exact hA1)
          have A3 := hide hA3
          have M := hide (mix2_len W b)
          clear hA1 hA3
          obtain ⟨R, hR⟩ : ∃ R, mix2 W b = R := ⟨_, rfl⟩
          rw [hR] at A1 M
          have HR := hide hR
          have hg2 : ¬ (q : Int) < 8 := by omega
          clear hR hlt2
          go_wp2_with (first
            | (with_reducible show wpList Tryz.prog _ _ (Oper.mk _ (Op.load 76 _) _ _ _ none :: _) _ _; refine wpList_aLoad ta8 rfl (.tmp 2) rfl w.heap.size rfl R (unhide A1) (unhide M) ?_)
            | (with_reducible show wpList Tryz.prog _ _ (Oper.mk _ (Op.store 76 _ _) _ _ _ none :: _) _ _; refine wpList_aStore ta8 rfl (.tmp 4) (.tmp 108) rfl w2.heap.size R (zs 8) rfl rfl (unhide A3) (unhide M) (zs_len 8) ?_; intro w5 a5 o5 s5 b5))
          refine bodyPost_ret (results_arr ta8 rfl _ _ w2.heap.size _ (unhide M) rfl a5) rfl ?_
          exact ⟨by rw [unhide HR], hB.trans (b5.mono (by omega))⟩

end Go.Proofs.YtgbahfadjdincaaGreatDoor.Sha
