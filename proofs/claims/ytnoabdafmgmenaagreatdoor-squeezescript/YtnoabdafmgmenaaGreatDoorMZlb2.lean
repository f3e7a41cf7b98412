/-
  Plain facts on wrapped streams: what is wrapped is read back, with a smaller limit it is too long, no other four bytes behind it are its sum, each first part is too short, and with a byte behind it is bad. No memory is named here. Conditions: bytes, at most 2,000.
  What Unpack, of package zlib, answers for any bytes and any limit. It writes nothing that was there. Conditions: the tables hold what the program's text says; at most 1,000,000 bytes are read, and told.
-/
import Derived.Test.YtnoabdafmgmenaaGreatDoorMBack
import Derived.Test.YtnoabdafmgmenaaGreatDoorMZlb
namespace Go.Proofs.YtnoabdafmgmenaaGreatDoor
set_option linter.unusedVariables false
set_option linter.unusedSimpArgs false

/-- What Unpack answers. -/
def unpE (b : List Int) (r : List Int × Int × Int) : List Int × Int :=
  if r.2.2 ≠ 0 then ([], r.2.2) else if ckE (b.drop r.2.1.toNat) (sumOf r.1) ≠ 0 then ([], ckE (b.drop r.2.1.toNat) (sumOf r.1)) else (r.1, 0)
def unp (F : Nat) (b : List Int) (m : Int) : List Int × Int :=
  if m < 0 then ([], 2) else if hdE b ≠ 0 then ([], hdE b) else unpE (b.drop 2) (infR (infS F (b.drop 2) m))

theorem rdS_sm4 {s : Int} (r : List Int) (h0 : 0 ≤ s) (h1 : s < 4294967296) : rdS (sm4 s ++ r) = s := by
  simp [rdS, sm4]
  omega

theorem hdE_fine (r : List Int) : hdE (120 :: 1 :: r) = 0 := by
  unfold hdE
  rw [if_neg (by simp), if_pos (by simp [Fine])]

section
variable {F : Nat} {bs : List Int} {m : Int} (hF : bs.length + 2 ≤ F) (h : Byt bs) (hn : bs.length ≤ 2000) (hm : (bs.length : Int) ≤ m)
include hF h hn hm

/-- How the stream is read, alone. -/
theorem dfl_st : (infS F (dfl bs) m).2.e = 0 ∧ (infS F (dfl bs) m).2.o = bs ∧ ((infS F (dfl bs) m).2.p + 7) / 8 = (dfl bs).length := by
  have e := inf_dfl hF h hn hm
  by_cases q : (infS F (dfl bs) m).2.e = 0
  · rw [infR_ok q, Prod.mk.injEq, Prod.mk.injEq] at e
    exact ⟨q, e.1, by omega⟩
  · rw [infR_no q, Prod.mk.injEq, Prod.mk.injEq] at e
    exact absurd e.2.2 q
/-- And with other bytes behind. -/
theorem dfl_more (r : List Int) : infS F (dfl bs ++ r) m = infS F (dfl bs) m := by
  obtain ⟨e, o, p⟩ := dfl_st hF h hn hm
  refine (nice_inf F).loc (dfl bs) m _ _ ⟨0, 0, []⟩ rfl e ⟨?_, fun i hi => ?_⟩ ?_
  · show (infS F (dfl bs) m).2.p ≤ _
    simp
    omega
  · have hi' : i < (infS F (dfl bs) m).2.p := hi
    have : i / 8 < (dfl bs).length := by omega
    unfold bitAt
    rw [List.getElem?_append_left this]
  · show ((infS F (dfl bs) m).2.o.length : Int) ≤ m
    rw [o]
    exact hm
theorem infR_more (r : List Int) : infR (infS F (dfl bs ++ r) m) = (bs, ((dfl bs).length : Int), 0) := by
  rw [dfl_more hF h hn hm r]
  exact inf_dfl hF h hn hm
/-- Whatever stands behind the stream. -/
theorem unp_behind (r : List Int) : unp F (120 :: 1 :: (dfl bs ++ r)) m = if ckE r (sumOf bs) ≠ 0 then ([], ckE r (sumOf bs)) else (bs, 0) := by
  have hc := hdE_fine (dfl bs ++ r)
  have hr := infR_more hF h hn hm r
  unfold unp
  rw [if_neg (by omega), if_neg (by rw [hc]; decide)]
  simp only [List.drop_succ_cons, List.drop_zero]
  rw [hr]
  unfold unpE
  simp only [Int.toNat_natCast, List.drop_left]
  rw [if_neg (by decide)]
theorem unp_back : unp F (pkd bs) m = (bs, 0) := by
  have hs := sumOf_bd bs
  unfold pkd
  rw [unp_behind hF h hn hm]
  have : ckE (sm4 (sumOf bs)) (sumOf bs) = 0 := by
    have e := rdS_sm4 (s := sumOf bs) [] hs.1 hs.2
    rw [List.append_nil] at e
    unfold ckE
    rw [if_neg (by rw [sm4_len]; omega), if_neg (by rw [e]; simp), if_neg (by rw [sm4_len]; omega)]
  rw [if_neg (by rw [this]; simp)]
/-- With one byte more it is bad. -/
theorem unp_over (x : Int) : unp F (pkd bs ++ [x]) m = ([], 5) := by
  have hs := sumOf_bd bs
  have e : pkd bs ++ [x] = 120 :: 1 :: (dfl bs ++ (sm4 (sumOf bs) ++ [x])) := by simp [pkd]
  rw [e, unp_behind hF h hn hm]
  have : ckE (sm4 (sumOf bs) ++ [x]) (sumOf bs) = 5 := by
    unfold ckE
    rw [if_neg (by simp [sm4_len]), if_neg (by rw [rdS_sm4 _ hs.1 hs.2]; simp), if_pos (by simp [sm4_len])]
  rw [this]
  simp
/-- Other four bytes are not its sum. -/
theorem unp_other (t : List Int) (ht : t.length = 4) (hr : rdS t ≠ sumOf bs) : unp F (120 :: 1 :: (dfl bs ++ t)) m = ([], 8) := by
  rw [unp_behind hF h hn hm]
  have : ckE t (sumOf bs) = 8 := by
    unfold ckE
    rw [if_neg (by omega), if_pos hr]
  rw [this]
  simp
/-- Each first part is too short. -/
theorem unp_first (i : Nat) (hi : i < (pkd bs).length) : unp F ((pkd bs).take i) m = ([], 4) := by
  have hl := pkd_len bs
  rcases i with _ | i
  · rw [List.take_zero]
    unfold unp
    rw [if_neg (by omega)]
    rfl
  rcases i with _ | k
  · unfold unp
    rw [if_neg (by omega)]
    simp [pkd, hdE]
  have e0 : (pkd bs).take (k + 2) = 120 :: 1 :: (dfl bs ++ sm4 (sumOf bs)).take k := by simp [pkd]
  by_cases hk : k < (dfl bs).length
  · obtain ⟨e, o, p⟩ := dfl_st hF h hn hm
    have m0 : 0 ≤ m := by omega
    have ek : (dfl bs ++ sm4 (sumOf bs)).take k = (dfl bs).take k := by rw [List.take_append_of_le_length (by omega)]
    have key : (infS F ((dfl bs).take k) m).2.e = 4 := by
      rcases (nice_inf F).cut 4 (dfl bs) m ((dfl bs).take k) m ⟨0, 0, []⟩ (.inl ⟨rfl, rfl, k, rfl⟩) rfl e with q | q
      · exfalso
        have q' : infS F ((dfl bs).take k) m = infS F (dfl bs) m := q
        have h2 : (infS F ((dfl bs).take k) m).2.e = 0 := by rw [q']; exact e
        have u := (inf_up (by omega) m0 h2).2.1
        rw [q'] at u
        simp at u
        omega
      · exact q
    rw [e0, ek]
    have hc := hdE_fine ((dfl bs).take k)
    unfold unp
    rw [if_neg (by omega), if_neg (by rw [hc]; decide)]
    simp only [List.drop_succ_cons, List.drop_zero]
    rw [infR_no (by rw [key]; decide), key]
    unfold unpE
    simp
  · have ek : (dfl bs ++ sm4 (sumOf bs)).take k = dfl bs ++ (sm4 (sumOf bs)).take (k - (dfl bs).length) := by rw [List.take_append, List.take_of_length_le (by omega)]
    rw [e0, ek, unp_behind hF h hn hm]
    have : ckE ((sm4 (sumOf bs)).take (k - (dfl bs).length)) (sumOf bs) = 4 := by
      unfold ckE
      rw [if_pos (by simp [sm4_len]; omega)]
    rw [this]
    simp
end

/-- With a smaller limit it is too long. -/
theorem unp_long {F : Nat} {bs : List Int} {m : Int} (hF : bs.length + 2 ≤ F) (h : Byt bs) (hn : bs.length ≤ 2000) (m0 : 0 ≤ m) (hm : m < (bs.length : Int)) : unp F (pkd bs) m = ([], 3) := by
  obtain ⟨e, o, p⟩ := dfl_st (m := (bs.length : Int)) hF h hn (Int.le_refl _)
  have hmo := dfl_more (m := (bs.length : Int)) hF h hn (Int.le_refl _) (sm4 (sumOf bs))
  have key := inf_long (F := F) (b := dfl bs ++ sm4 (sumOf bs)) (m := (bs.length : Int)) (m' := m) (by omega) m0 (by rw [hmo]; exact e) (by rw [hmo, o]; exact hm) (by omega)
  have hc := hdE_fine (dfl bs ++ sm4 (sumOf bs))
  unfold pkd unp
  rw [if_neg (by omega), if_neg (by rw [hc]; decide)]
  simp only [List.drop_succ_cons, List.drop_zero]
  rw [infR_no (by rw [key]; decide), key]
  unfold unpE
  simp
end Go.Proofs.YtnoabdafmgmenaaGreatDoor

namespace Go.Proofs.YtnoabdafmgmenaaGreatDoor
open Go.RowKit
set_option linter.unusedVariables false
set_option linter.unusedSimpArgs false

def OutU (w : World) (r : List Int × Int) (e : Ending) (w' : World) : Prop :=
  ∃ ao n c, e = .returned (.tuple #[.slice ao n c, .int .i64 r.2]) ∧ Mine w.heap.size w' ao n c r.1 ∧ Below w.heap.size w w'

set_option maxHeartbeats 2000000 in
theorem unpack_any (F : Nat) (w : World) (bo : Option Addr) (bn bc : Nat) (bs : List Int) (m : Int) (hb : Bs w bo bn bc bs) (hv : Vars w) (hn : bn ≤ 1000000) (m1 : m ≤ 1000000) (hF : 8 * bn + 1 ≤ F) :
    Calls Tryz.prog 34 #[.slice bo bn bc, .int .i64 m] w fun e w' => OutU w (unp F bs m) e w' := by
  have HB := hide hb
  have HV := hide hv
  have h3 := hv.size
  have hle := hb.le
  have hmx := hb.max
  have hlen := hide hb.len
  have hc := hide (head_any w bo bn bc bs hb)
  clear hv
  by_cases m0 : m < 0
  · have hr := hide (show unp F bs m = ([], 2) by unfold unp; rw [if_pos m0])
    clear hb
    go_enter Tryz.func34, Tryz.ntmps34
    go_wp2_with fail
    go_ret2
    rw [unhide hr]
    exact ⟨none, 0, 0, rfl, Mine.nought _ _, Below.refl _ _⟩
  by_cases he : hdE bs = 0
  case neg =>
    have hr := hide (show unp F bs m = ([], hdE bs) by unfold unp; rw [if_neg m0, if_pos he])
    have he' : (hdE bs != 0) = true := by simpa using he
    clear hb he
    generalize hdE bs = E at *
    go_enter Tryz.func34, Tryz.ntmps34
    go_wp2_with fail
    refine (unhide hc).mono ?_
    rintro e w1 ⟨rfl, b1⟩
    go_wp2_with fail
    go_ret2
    rw [unhide hr]
    exact ⟨none, 0, 0, rfl, Mine.nought _ _, b1⟩
  have h2 : 2 ≤ bn := by
    unfold hdE at he
    have := unhide hlen
    by_cases q : bs.length < 2
    · rw [if_pos q] at he; exact absurd he (by decide)
    · omega
  have hr0 := hide (show unp F bs m = unpE (bs.drop 2) (infR (infS F (bs.drop 2) m)) by unfold unp; rw [if_neg m0, if_neg (by rw [he]; decide)])
  rw [he] at hc
  obtain ⟨a2, k2, hc2, hi2⟩ := hb.cut_l h2 2 rfl
  have HI := hide hi2
  clear hb he hi2
  have m0' : 0 ≤ m := by omega
  go_enter Tryz.func34, Tryz.ntmps34
  go_wp2_with fail
  refine (unhide hc).mono ?_
  rintro e w1 ⟨rfl, b1⟩
  have z1 := b1.size
  have B1 := hide b1
  have I1 := hide ((unhide HI).later b1)
  have ic := hide (inflate_any F w1 a2 (bn - 2) k2 (bs.drop 2) m (unhide I1) ((unhide HV).later (Nat.le_refl 3) (b1.mono h3)) (by omega) m0' m1 (by omega))
  have dl := (unhide I1).len
  clear b1 hc HI
  obtain ⟨ds, hds⟩ : ∃ ds, ds = bs.drop 2 := ⟨_, rfl⟩
  rw [← hds] at dl ic I1 hr0
  by_cases ie : (infS F ds m).2.e = 0
  · have up := inf_up (F := F) (b := ds) (m := m) (by omega) m0' ie
    rw [infR_ok ie] at ic hr0
    obtain ⟨N, hN⟩ : ∃ N, N = ((infS F ds m).2.p + 7) / 8 := ⟨_, rfl⟩
    have hNi : (((infS F ds m).2.p : Int) + 7) / 8 = (N : Int) := by omega
    rw [hNi] at ic hr0
    have hN2 : N ≤ bn - 2 := by omega
    obtain ⟨a3, k3, hc3, hi3⟩ := (unhide I1).cut_l hN2 (N : Int) rfl
    have H3 := hide hi3
    clear hi3 hNi hN up ie dl
    generalize (infS F ds m).2.o = o at *
    go_wp2_with fail
    refine (unhide ic).mono ?_
    rintro e w2 ⟨a4, n4, k4, rfl, m4, b2⟩
    have M4 := hide m4
    have B2 := hide ((unhide B1).trans (b2.mono z1))
    have sc := hide (fun j => adsum_any a4 n4 k4 o (w2.drewN j) (m4.bs.drewN j))
    have cc := hide (fun j => checkEnd_any (w2.drewN j) a3 (bn - 2 - N) k3 (ds.drop N) (sumOf o) (((unhide H3).later b2).drewN j))
    clear m4 b2 ic H3
    by_cases ke : ckE (ds.drop N) (sumOf o) = 0
    · have hr := hide (show unp F bs m = (o, 0) by
        rw [unhide hr0]; unfold unpE
        simp only [Int.toNat_natCast]
        rw [if_neg (by decide), if_neg (by simpa using ke)])
      rw [ke] at cc
      clear ke hr0
      generalize sumOf o = S at *
      go_wp2_with fail
      go_quiet (first | (go_at_call 44; refine Calls.quiet_of_same (unhide sc _)) | (go_at_call 43; refine Calls.quiet_of_same (unhide cc _)))
      go_wp2_with fail
      go_ret2
      rw [unhide hr]
      exact ⟨a4, n4, k4, rfl, ((unhide M4).later (below_drewN _ nq)).mono z1, (unhide B2).trans ((below_drewN w2 nq).mono (unhide B2).size)⟩
    · have hr := hide (show unp F bs m = ([], ckE (ds.drop N) (sumOf o)) by
        rw [unhide hr0]; unfold unpE
        simp only [Int.toNat_natCast]
        rw [if_neg (by decide), if_pos (by simpa using ke)])
      have ke' : (ckE (ds.drop N) (sumOf o) != 0) = true := by simpa using ke
      clear ke hr0
      generalize ckE (ds.drop N) (sumOf o) = E at *
      generalize sumOf o = S at *
      go_wp2_with fail
      go_quiet (first | (go_at_call 44; refine Calls.quiet_of_same (unhide sc _)) | (go_at_call 43; refine Calls.quiet_of_same (unhide cc _)))
      go_wp2_with fail
      go_ret2
      rw [unhide hr]
      exact ⟨none, 0, 0, rfl, Mine.nought _ _, (unhide B2).trans ((below_drewN w2 nq).mono (unhide B2).size)⟩
  · rw [infR_no ie] at ic hr0
    have ie' : ((infS F ds m).2.e != 0) = true := by simpa using ie
    have hr := hide (show unp F bs m = ([], (infS F ds m).2.e) by
      rw [unhide hr0]; unfold unpE
      simp only
      rw [if_pos ie])
    clear hr0 ie
    generalize (infS F ds m).2.e = E at *
    go_wp2_with fail
    refine (unhide ic).mono ?_
    rintro e w2 ⟨a4, n4, k4, rfl, m4, b2⟩
    have B2 := hide ((unhide B1).trans (b2.mono z1))
    clear m4 b2 ic
    go_wp2_with fail
    go_ret2
    rw [unhide hr]
    exact ⟨none, 0, 0, rfl, Mine.nought _ _, unhide B2⟩
end Go.Proofs.YtnoabdafmgmenaaGreatDoor
