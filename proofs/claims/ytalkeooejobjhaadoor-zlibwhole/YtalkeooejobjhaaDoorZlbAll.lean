/-
  What Pack and Unpack, of package zlib, answer for any bytes and any limit. They write nothing that was there. Conditions: the tables hold what the program's text says; at most 2,000 bytes are wrapped, at most 1,000,000 read, and told.
-/
import Derived.Test.YtalkeooejobjhaaDoorZlbLeaf
import Derived.Test.YtalkeooejobjhaaDoorZlbPlain
namespace Go.Proofs.YtalkeooejobjhaaDoor
open Go.RowKit
set_option linter.unusedVariables false
set_option linter.unusedSimpArgs false

theorem Mine.lit (w : World) (l : List Int) (h : Byt l) (hl : l.length ≤ 1000) : Mine w.heap.size (w.alloc (.cells (l.map (Value.int .u8)).toArray 5)) (Option.some ⟨w.heap.size, 0, none⟩) l.length l.length l :=
  ⟨rfl, ⟨by simp, .inr ⟨w.heap.size, l.length, _, rfl, Nat.le_refl _, heap_alloc_new w _, Nat.le_refl _, by unfold maxLen; omega, by simp, by simp [List.take_of_length_le]⟩⟩, h⟩

set_option maxHeartbeats 1000000 in
theorem pack_any (w : World) (bo : Option Addr) (bn bc : Nat) (bs : List Int) (hb : Bs w bo bn bc bs) (hn : bn ≤ 2000) :
    Calls Tryd.prog 10 #[.slice bo bn bc] w fun e w' => ∃ ao n c, e = .returned (.slice ao n c) ∧ Mine w.heap.size w' ao n c (pkd bs) ∧ Below w.heap.size w w' := by
  have HB := hide hb
  have hlen := hide hb.len
  have hpk := hide (show pkd bs = [120, 1] ++ dfl bs ++ sm4 (sumOf bs) by simp [pkd])
  have hsb := sumOf_bd bs
  have bb := below_alloc w (.cells #[.int .u8 120, .int .u8 1] 5)
  have M0 := hide (show Mine w.heap.size (w.alloc (.cells #[.int .u8 120, .int .u8 1] 5)) (some ⟨w.heap.size, 0, none⟩) 2 2 [120, 1] from Mine.lit w [120, 1] (Byt.cons (by decide) (by decide) (Byt.one (by decide) (by decide))) (by decide))
  have BB := hide bb
  have dc := hide (deflate_any _ bo bn bc bs (hb.later bb) hn)
  have hdl := hide (dfl_le bs)
  clear hb bb
  go_enter Tryd.func10, Tryd.ntmps10
  go_wp2_with fail
  refine (unhide dc).mono ?_
  rintro e w1 ⟨a1, n1, c1, rfl, m1, b1⟩
  have B1 := hide ((unhide BB).trans (b1.mono (unhide BB).size))
  have M1 := hide ((unhide M0).later b1)
  have D1 := hide m1.bs
  have hn1 : n1 ≤ 3000 := by have := m1.len; have := unhide hdl; have := unhide hlen; omega
  clear m1 b1 dc BB M0
  go_wp2_with (at_builtin; refine wpList_app rfl (.tmp 4) (.tmp 6) rfl w.heap.size _ 2 2 _ rfl (unhide M1) a1 n1 c1 _ rfl (unhide D1) (by omega) (unhide B1).size ?_; intro a2 c2 w2 m2 b2)
  have B2 := hide ((unhide B1).trans b2)
  have M2 := hide m2
  have sc := hide (adsum_any bo bn bc bs w2 ((unhide HB).later (unhide B2)))
  clear m2 b2
  go_wp2_with fail
  refine same_world (unhide sc) ?_
  have ac := hide (appendSum_any w.heap.size w2 a2 (2 + n1) c2 _ (sumOf bs) (unhide M2) (by omega) (unhide B2).size hsb.1 hsb.2)
  clear sc M1 D1 M2 B1
  go_wp2_with fail
  refine (unhide ac).mono ?_
  rintro e w3 ⟨a3, c3, rfl, m3, b3⟩
  rw [← unhide hpk] at m3
  have M3 := hide m3
  have B3 := hide ((unhide B2).trans b3)
  clear m3 b3 ac B2
  go_wp2_with fail
  go_ret
  exact ⟨a3, _, c3, rfl, unhide M3, unhide B3⟩

def OutU (w : World) (r : List Int × Int) (e : Ending) (w' : World) : Prop :=
  ∃ ao n c, e = .returned (.tuple #[.slice ao n c, .int .i64 r.2]) ∧ Mine w.heap.size w' ao n c r.1 ∧ Below w.heap.size w w'

set_option maxHeartbeats 2000000 in
theorem unpack_any (F : Nat) (w : World) (bo : Option Addr) (bn bc : Nat) (bs : List Int) (m : Int) (hb : Bs w bo bn bc bs) (hv : Vars w) (hn : bn ≤ 1000000) (m1 : m ≤ 1000000) (hF : 8 * bn + 1 ≤ F) :
    Calls Tryd.prog 7 #[.slice bo bn bc, .int .i64 m] w fun e w' => OutU w (unp F bs m) e w' := by
  have HB := hide hb
  have HV := hide hv
  have h3 := hv.size
  have hle := hb.le
  have hmx := hb.max
  have hlen := hide hb.len
  have hc := hide (head_any w bo bn bc bs hb)
  clear hv
  by_cases m0 : m < 0
  · have hr := hide (show unp F bs m = ([], 2) by unfold unp; rw [if_pos m0])
    clear hb
    go_enter Tryd.func7, Tryd.ntmps7
    go_wp2_with fail
    go_ret2
    rw [unhide hr]
    exact ⟨none, 0, 0, rfl, Mine.nought _ _, Below.refl _ _⟩
  by_cases he : hdE bs = 0
  case neg =>
    have hr := hide (show unp F bs m = ([], hdE bs) by unfold unp; rw [if_neg m0, if_pos he])
    have he' : (hdE bs != 0) = true := by simpa using he
    clear hb he
    generalize hdE bs = E at *
    go_enter Tryd.func7, Tryd.ntmps7
    go_wp2_with fail
    refine (unhide hc).mono ?_
    rintro e w1 ⟨rfl, b1⟩
    go_wp2_with fail
    go_ret2
    rw [unhide hr]
    exact ⟨none, 0, 0, rfl, Mine.nought _ _, b1⟩
  have h2 : 2 ≤ bn := by
    unfold hdE at he
    have := unhide hlen
    by_cases q : bs.length < 2
    · rw [if_pos q] at he; exact absurd he (by decide)
    · omega
  have hr0 := hide (show unp F bs m = unpE (bs.drop 2) (infR (infS F (bs.drop 2) m)) by unfold unp; rw [if_neg m0, if_neg (by rw [he]; decide)])
  rw [he] at hc
  obtain ⟨a2, k2, hc2, hi2⟩ := hb.cut_l h2 2 rfl
  have HI := hide hi2
  clear hb he hi2
  have m0' : 0 ≤ m := by omega
  go_enter Tryd.func7, Tryd.ntmps7
  go_wp2_with fail
  refine (unhide hc).mono ?_
  rintro e w1 ⟨rfl, b1⟩
  have z1 := b1.size
  have B1 := hide b1
  have I1 := hide ((unhide HI).later b1)
  have ic := hide (inflate_any F w1 a2 (bn - 2) k2 (bs.drop 2) m (unhide I1) ((unhide HV).later (Nat.le_refl 3) (b1.mono h3)) (by omega) m0' m1 (by omega))
  have dl := (unhide I1).len
  clear b1 hc HI
  obtain ⟨ds, hds⟩ : ∃ ds, ds = bs.drop 2 := ⟨_, rfl⟩
  rw [← hds] at dl ic I1 hr0
  by_cases ie : (infS F ds m).2.e = 0
  · have up := inf_up (F := F) (b := ds) (m := m) (by omega) m0' ie
    rw [infR_ok ie] at ic hr0
    obtain ⟨N, hN⟩ : ∃ N, N = ((infS F ds m).2.p + 7) / 8 := ⟨_, rfl⟩
    have hNi : (((infS F ds m).2.p : Int) + 7) / 8 = (N : Int) := by omega
    rw [hNi] at ic hr0
    have hN2 : N ≤ bn - 2 := by omega
    obtain ⟨a3, k3, hc3, hi3⟩ := (unhide I1).cut_l hN2 (N : Int) rfl
    have H3 := hide hi3
    clear hi3 hNi hN up ie dl
    generalize (infS F ds m).2.o = o at *
    go_wp2_with fail
    refine (unhide ic).mono ?_
    rintro e w2 ⟨a4, n4, k4, rfl, m4, b2⟩
    have M4 := hide m4
    have B2 := hide ((unhide B1).trans (b2.mono z1))
    have sc := hide (fun j => adsum_any a4 n4 k4 o (w2.drewN j) (m4.bs.drewN j))
    have cc := hide (fun j => checkEnd_any (w2.drewN j) a3 (bn - 2 - N) k3 (ds.drop N) (sumOf o) (((unhide H3).later b2).drewN j))
    clear m4 b2 ic H3
    by_cases ke : ckE (ds.drop N) (sumOf o) = 0
    · have hr := hide (show unp F bs m = (o, 0) by
        rw [unhide hr0]; unfold unpE
        simp only [Int.toNat_natCast]
        rw [if_neg (by decide), if_neg (by simpa using ke)])
      rw [ke] at cc
      clear ke hr0
      generalize sumOf o = S at *
      go_wp2_with fail
      go_quiet (first | (go_at_call 14; refine Calls.quiet_of_same (unhide sc _)) | (go_at_call 13; refine Calls.quiet_of_same (unhide cc _)))
      go_wp2_with fail
      go_ret2
      rw [unhide hr]
      exact ⟨a4, n4, k4, rfl, ((unhide M4).later (below_drewN _ nq)).mono z1, (unhide B2).trans ((below_drewN w2 nq).mono (unhide B2).size)⟩
    · have hr := hide (show unp F bs m = ([], ckE (ds.drop N) (sumOf o)) by
        rw [unhide hr0]; unfold unpE
        simp only [Int.toNat_natCast]
        rw [if_neg (by decide), if_pos (by simpa using ke)])
      have ke' : (ckE (ds.drop N) (sumOf o) != 0) = true := by simpa using ke
      clear ke hr0
      generalize ckE (ds.drop N) (sumOf o) = E at *
      generalize sumOf o = S at *
      go_wp2_with fail
      go_quiet (first | (go_at_call 14; refine Calls.quiet_of_same (unhide sc _)) | (go_at_call 13; refine Calls.quiet_of_same (unhide cc _)))
      go_wp2_with fail
      go_ret2
      rw [unhide hr]
      exact ⟨none, 0, 0, rfl, Mine.nought _ _, (unhide B2).trans ((below_drewN w2 nq).mono (unhide B2).size)⟩
  · rw [infR_no ie] at ic hr0
    have ie' : ((infS F ds m).2.e != 0) = true := by simpa using ie
    have hr := hide (show unp F bs m = ([], (infS F ds m).2.e) by
      rw [unhide hr0]; unfold unpE
      simp only
      rw [if_pos ie])
    clear hr0 ie
    generalize (infS F ds m).2.e = E at *
    go_wp2_with fail
    refine (unhide ic).mono ?_
    rintro e w2 ⟨a4, n4, k4, rfl, m4, b2⟩
    have B2 := hide ((unhide B1).trans (b2.mono z1))
    clear m4 b2 ic
    go_wp2_with fail
    go_ret2
    rw [unhide hr]
    exact ⟨none, 0, 0, rfl, Mine.nought _ _, unhide B2⟩
end Go.Proofs.YtalkeooejobjhaaDoor
