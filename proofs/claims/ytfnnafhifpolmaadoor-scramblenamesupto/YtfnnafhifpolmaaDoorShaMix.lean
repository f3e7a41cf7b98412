/-
  What mixed1 of package sha returns: SHA-1's words behind a block. Conditions: eight words, a block of sixteen.
-/
import Derived.Test.YtfnnafhifpolmaaDoorShaStr
namespace Go.Proofs.YtfnnafhifpolmaaDoor
open Go.RowKit
set_option linter.unusedVariables false
set_option linter.unusedSimpArgs false

theorem k1_wd (t : Nat) : Wd (k1 t) := by
  unfold k1 Wd
  split
  · omega
  · split
    · omega
    · split <;> omega
theorem f1_wd (t : Nat) (b c d : Int) : Wd (f1 t b c d) := by
  unfold f1
  split
  · exact chs_wd _ _ _
  · split
    · exact par_wd _ _ _
    · split
      · exact maj_wd _ _ _
      · exact par_wd _ _ _
structure Q5w (s : Q5) : Prop where
  a : Wd s.a
  b : Wd s.b
  c : Wd s.c
  d : Wd s.d
  e : Wd s.e
theorem rd1_wd (t : Nat) (w : Int) {s : Q5} (h : Q5w s) : Q5w (rd1 t w s) := ⟨mod_wd _, h.a, rot_wd _ _, h.c, h.d⟩
theorem run1_wd (W : List Int) {s : Q5} (h : Q5w s) : ∀ n, Q5w (run1 W s n)
  | 0 => h
  | n + 1 => rd1_wd _ _ (run1_wd W h n)
def s5 (W : List Int) : Q5 := ⟨ix W 0, ix W 1, ix W 2, ix W 3, ix W 4⟩
theorem s5_wd {W : List Int} (h : Wds W) : Q5w (s5 W) := ⟨h 0, h 1, h 2, h 3, h 4⟩
theorem list8 {l : List Int} (h : l.length = 8) : ∃ a0 a1 a2 a3 a4 a5 a6 a7, l = [a0, a1, a2, a3, a4, a5, a6, a7] := by
  match l, h with
  | [a0, a1, a2, a3, a4, a5, a6, a7], _ => exact ⟨a0, a1, a2, a3, a4, a5, a6, a7, rfl⟩
theorem mix1_set (W b : List Int) (h : W.length = 8) (s : Q5) (hs : run1 (sch1 b) (s5 W) 80 = s) :
    mix1 W b = ((((W.set 0 ((ix W 0 + s.a) % 4294967296)).set 1 ((ix W 1 + s.b) % 4294967296)).set 2 ((ix W 2 + s.c) % 4294967296)).set 3 ((ix W 3 + s.d) % 4294967296)).set 4 ((ix W 4 + s.e) % 4294967296) := by
  subst hs
  obtain ⟨a0, a1, a2, a3, a4, a5, a6, a7, rfl⟩ := list8 h
  rfl
theorem mix1_len (W b : List Int) : (mix1 W b).length = 8 := rfl
theorem sch1_len (b : List Int) (h : b.length = 16) : (sch1 b).length = 80 := by unfold sch1; rw [List.length_reverse, rs_len nx1 b h]
theorem sch1_wds (b : List Int) (h : Wds b) : Wds (sch1 b) := wds_mem fun x hx => (rs_wds nx1 nx1_wd b h 64).mem x (by simpa [sch1] using hx)

set_option maxHeartbeats 2000000 in
theorem mixed1_any (W b : List Int) (w : World) (hW : W.length = 8) (hWw : Wds W) (hl : b.length = 16) (hb : Wds b) :
    Calls Tryd.prog 56 #[.agg (vk .u32 W), .agg (vk .u32 b)] w fun e w' => e = .returned (.agg (vk .u32 (mix1 W b))) ∧ Below w.heap.size w w' := by
  have HW := hide hW
  have HWw := hide hWw
  have HL := hide hl
  have HB := hide hb
  clear hl hb hW hWw
  go_enter Tryd.func56, Tryd.ntmps56
  go_wp2_with (first
    | (with_reducible show wpList Tryd.prog _ _ (Oper.mk _ (Op.box 48 _) _ _ _ none :: _) _ _; refine wpList_aBox rfl (.tmp 0) rfl W rfl ?_; intro w1 a1 b1 s1; have S1 := hide s1; clear s1)
    | (with_reducible show wpList Tryd.prog _ _ (Oper.mk _ (Op.box 66 _) _ _ _ none :: _) _ _; refine wpList_aBox rfl (.tmp 1) rfl b rfl ?_; intro w2 a2 b2 s2; have S2 := hide s2; clear s2)
    | (with_reducible show wpList Tryd.prog _ _ (Oper.mk _ (Op.alloc 48) _ _ _ none :: _) _ _; refine wpList_aAlloc ta8 rfl rfl ?_; intro w3 a3 b3 s3; have A2 := hide (a2.later b3); have A1 := hide ((a1.later b2).later b3); have A3 := hide a3; have B3 := hide ((b1.trans (b2.mono b1.size)).trans (b3.mono (Nat.le_trans b1.size b2.size))); have S3 := hide s3; clear a1 a2 a3 b1 b2 b3 s3))
  have hg2 : w.heap.size < w1.heap.size := by have := unhide S1; omega
  have hg3 : w1.heap.size < w2.heap.size := by have := unhide S2; omega
  have hg4 : w2.heap.size < w3.heap.size := by have := unhide S3; omega
  have c0 := (unhide A1).cell (i := 0) (by rw [unhide HW]; omega)
  have c1 := (unhide A1).cell (i := 1) (by rw [unhide HW]; omega)
  have c2 := (unhide A1).cell (i := 2) (by rw [unhide HW]; omega)
  have c3 := (unhide A1).cell (i := 3) (by rw [unhide HW]; omega)
  have c4 := (unhide A1).cell (i := 4) (by rw [unhide HW]; omega)
  go_quiet (fail)
  clear c0 c1 c2 c3 c4
  obtain ⟨wq, hwq⟩ : ∃ wq, wq = w3.drewN nq := ⟨_, rfl⟩
  rw [← hwq]
  have A1q := hide (show Arr wq w.heap.size 48 .u32 W by rw [hwq]; exact unhide A1)
  have A2q := hide (show Arr wq w1.heap.size 66 .u32 b by rw [hwq]; exact unhide A2)
  have A3q := hide (show Arr wq w2.heap.size 48 .u32 (zs 8) by rw [hwq]; exact unhide A3)
  have B3q := hide (show Below w.heap.size w wq by rw [hwq]; exact (unhide B3).trans ⟨rfl, rfl, rfl, Nat.le_refl _, fun _ _ => rfl⟩)
  have hsq : w2.heap.size < wq.heap.size := by rw [hwq]; exact hg4
  have sc := hide (stretched1_any b wq (unhide HL) (unhide HB))
  clear hwq A1 A2 A3 B3 hg4
  go_wp2_with (first
    | (with_reducible show wpList Tryd.prog _ _ (Oper.mk _ (Op.load 66 _) _ _ _ none :: _) _ _; refine wpList_aLoad ta16 rfl (.tmp 3) rfl w1.heap.size rfl b (unhide A2q) (unhide HL) ?_))
  refine (unhide sc).mono ?_
  rintro e w4 ⟨rfl, b4⟩
  have A1 := hide ((unhide A1q).later b4)
  have A3 := hide ((unhide A3q).later b4)
  have B4 := hide ((unhide B3q).trans (b4.mono (unhide B3q).size))
  have HS := hide (sch1_len b (unhide HL))
  have HQ := hide (s5_wd (unhide HWw))
  clear b4 A1q A2q A3q B3q sc
  go_wp2_with fail
  go_loop [25, 5, 6, 7, 8, 9] (fun i x1 x2 x3 x4 x5 => ∃ n : Nat, n ≤ 80 ∧ i = .int .i64 n ∧ x1 = .int .u32 (run1 (sch1 b) (s5 W) n).a ∧ x2 = .int .u32 (run1 (sch1 b) (s5 W) n).b ∧ x3 = .int .u32 (run1 (sch1 b) (s5 W) n).c ∧ x4 = .int .u32 (run1 (sch1 b) (s5 W) n).d ∧ x5 = .int .u32 (run1 (sch1 b) (s5 W) n).e) (fun i _ _ _ _ _ => 80 - (intOf i).toNat)
  case atStart => exact ⟨0, by omega, rfl, rfl, rfl, rfl, rfl, rfl⟩
  case round =>
    obtain ⟨n, hn, rfl, rfl, rfl, rfl, rfl, rfl⟩ := hrel
    have hq := run1_wd (sch1 b) (unhide HQ) n
    have hnx : run1 (sch1 b) (s5 W) (n + 1) = rd1 n (ix (sch1 b) n) (run1 (sch1 b) (s5 W) n) := rfl
    have h80 := hide (mix1_set W b (unhide HW) _ rfl)
    by_cases hlt : n < 80
    · have hix := run_aIndex ta80 (sch1 b) (unhide HS) n hlt (n : Int) rfl
      have hxw := sch1_wds b (unhide HB) n
      have HN := hide hnx
      generalize run1 (sch1 b) (s5 W) n = s at *
      obtain ⟨a, b', c, d, e⟩ := s
      obtain ⟨⟨a0, a1⟩, ⟨b0, b1⟩, ⟨c0, c1⟩, ⟨d0, d1⟩, ⟨e0, e1⟩⟩ := hq
      obtain ⟨x0, x1⟩ := hxw
      simp only at *
      have r1 := hide (rol_any a 5 5 rfl w4 ⟨a0, a1⟩ (by omega) (by omega))
      have r2 := hide (rol_any b' 30 30 rfl w4 ⟨b0, b1⟩ (by omega) (by omega))
      have j1 := hide (joined1_any (n : Int) n rfl b' c d w4)
      have key := hide (show ∀ x : Int, (((rot a 5 + (f1 n b' c d + k1 n) % 4294967296) % 4294967296 + e) % 4294967296 + x) % 4294967296 = (rot a 5 + f1 n b' c d + e + k1 n + x) % 4294967296 by intro x; omega)
      obtain ⟨p0, p1⟩ := rot_wd a 5
      obtain ⟨y0, y1⟩ := rot_wd b' 30
      obtain ⟨q0, q1⟩ := mod_wd (f1 n b' c d + k1 n)
      generalize ix (sch1 b) n = X at *
      clear hnx h80
      go_wp2_with fail
      refine same_world (unhide r1) ?_
      go_wp2_with fail
      refine same_world (unhide j1) ?_
      go_wp2_with fail
      refine same_world (unhide r2) ?_
      go_wp2_with fail
      go_round
      case rel =>
        refine ⟨n + 1, by omega, by go_num, ?_, ?_, ?_, ?_, ?_⟩
        all_goals rw [unhide HN]
        · show Value.int .u32 _ = Value.int .u32 ((rot a 5 + f1 n b' c d + e + k1 n + X) % 4294967296)
          congr 1
          omega
        all_goals rfl
      case measure => simp [intOf]; omega
    · have hn80 : n = 80 := by omega
      subst hn80
      have h0 := (unhide A1).cell (i := 0) (by rw [unhide HW]; omega)
      have h1 := (unhide A1).cell (i := 1) (by rw [unhide HW]; omega)
      have h2 := (unhide A1).cell (i := 2) (by rw [unhide HW]; omega)
      have h3 := (unhide A1).cell (i := 3) (by rw [unhide HW]; omega)
      have h4 := (unhide A1).cell (i := 4) (by rw [unhide HW]; omega)
      have f0 := (unhide A1).free 0
      have f1 := (unhide A1).free 1
      have f2 := (unhide A1).free 2
      have f3 := (unhide A1).free 3
      have f4 := (unhide A1).free 4
      clear hnx
      generalize run1 (sch1 b) (s5 W) 80 = s at *
      obtain ⟨a, b', c, d, e⟩ := s
      obtain ⟨⟨a0, a1⟩, ⟨b0, b1⟩, ⟨c0, c1⟩, ⟨d0, d1⟩, ⟨e0, e1⟩⟩ := hq
      simp only at *
      obtain ⟨w00, w01⟩ := (unhide HWw) 0
      obtain ⟨w10, w11⟩ := (unhide HWw) 1
      obtain ⟨w20, w21⟩ := (unhide HWw) 2
      obtain ⟨w30, w31⟩ := (unhide HWw) 3
      obtain ⟨w40, w41⟩ := (unhide HWw) 4
      have M := hide (mix1_len W b)
      generalize ix W 0 = W0 at *
      generalize ix W 1 = W1 at *
      generalize ix W 2 = W2 at *
      generalize ix W 3 = W3 at *
      generalize ix W 4 = W4 at *
      go_wp2_with (first
        | (with_reducible show wpList Tryd.prog _ _ (Oper.mk _ (Op.load 48 _) _ _ _ none :: _) _ _; refine wpList_aLoad ta8 rfl (.tmp 2) rfl w.heap.size rfl (mix1 W b) (by rw [unhide h80]; exact (((((unhide A1).stored 0 _).stored 1 _).stored 2 _).stored 3 _).stored 4 _) (unhide M) ?_)
        | (with_reducible show wpList Tryd.prog _ _ (Oper.mk _ (Op.store 48 _ _) _ _ _ none :: _) _ _; refine wpList_aStore ta8 rfl (.tmp 4) (.tmp 73) rfl w2.heap.size (mix1 W b) (zs 8) rfl rfl ((((((unhide A3).other _ _ (by simp <;> omega)).other _ _ (by simp <;> omega)).other _ _ (by simp <;> omega)).other _ _ (by simp <;> omega)).other _ _ (by simp <;> omega)) (unhide M) (zs_len 8) ?_; intro w5 a5 o5 s5 b5))
      refine bodyPost_ret (results_arr ta8 rfl _ _ w2.heap.size _ (unhide M) rfl a5) rfl ?_
      exact ⟨rfl, ((((((unhide B4).setCell (by simp) _).setCell (by simp) _).setCell (by simp) _).setCell (by simp) _).setCell (by simp) _).trans (b5.mono (by omega))⟩

end Go.Proofs.YtfnnafhifpolmaaDoor
