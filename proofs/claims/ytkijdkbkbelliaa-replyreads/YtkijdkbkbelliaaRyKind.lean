/-
  What hasTrack, okFirst, First and Last of package reply return, and the same of the document's own answer: none of them writes anything. Conditions: the slice can be read.
-/
import Derived.Test.YtkijdkbkbelliaaRyRw
namespace Go.Proofs.Ytkijdkbkbelliaa
open Go.RowKit
set_option linter.unusedVariables false
set_option linter.unusedSimpArgs false

set_option maxHeartbeats 400000 in
theorem hasTrack_any (c t : Int) (w : World) :
    Calls Try.prog 54 #[.int .u32 c, .int .u16 t] w fun e w' => e = .returned (.bool (trk c t)) ∧ w' = w := by
  unfold trk has
  cases q : (bits .and .u32 c 8388608 != 0)
  · rw [Bool.false_and]
    go_enter Try.func54, Try.ntmps54
    go_wp2_with fail
    go_ret
    exact ⟨rfl, rfl⟩
  · rw [Bool.true_and]
    go_enter Try.func54, Try.ntmps54
    go_wp2_with fail
    go_ret
    exact ⟨rfl, rfl⟩

set_option maxHeartbeats 400000 in
theorem okFirst_any (l : Bool) (w : World) :
    Calls Try.prog 57 #[.bool l] w fun e w' => e = .returned (.int .u8 (if l then 254 else 0)) ∧ w' = w := by
  cases l
  · go_enter Try.func57, Try.ntmps57
    go_wp2_with fail
    go_ret
    exact ⟨rfl, rfl⟩
  · go_enter Try.func57, Try.ntmps57
    go_wp2_with fail
    go_ret
    exact ⟨rfl, rfl⟩

set_option maxHeartbeats 400000 in
theorem has_ref (c x : Int) (w : World) :
    Calls Try.prog 75 #[.int .u32 c, .int .u32 x] w fun e w' => e = .returned (.bool (has c x)) ∧ w' = w := by
  go_enter Try.func75, Try.ntmps75
  go_wp2
  go_ret
  exact ⟨rfl, rfl⟩

set_option maxHeartbeats 400000 in
theorem track_ref (c t : Int) (w : World) :
    Calls Try.prog 72 #[.int .u32 c, .int .u16 t] w fun e w' => e = .returned (.bool (trk c t)) ∧ w' = w := by
  have h1 := hide (has_ref c 8388608 w)
  unfold trk
  cases q : has c 8388608
  · rw [q] at h1
    rw [Bool.false_and]
    go_enter Try.func72, Try.ntmps72
    go_wp2_with fail
    refine same_world (unhide h1) ?_
    go_wp2_with fail
    go_ret
    exact ⟨rfl, rfl⟩
  · rw [q] at h1
    rw [Bool.true_and]
    go_enter Try.func72, Try.ntmps72
    go_wp2_with fail
    refine same_world (unhide h1) ?_
    go_wp2_with fail
    go_ret
    exact ⟨rfl, rfl⟩

set_option maxHeartbeats 1000000 in
set_option maxRecDepth 100000 in
theorem first_any (bo : Option Addr) (bn bc : Nat) (b : List Int) (c : Int) (w : World) (h : Bs w bo bn bc b) :
    Calls Try.prog 18 #[.slice bo bn bc, .int .u32 c] w fun e w' => e = .returned (.int .i64 (fiK b c)) ∧ w' = w := by
  have hlen := h.len
  have hle := h.le
  have hmx := h.max
  cases b with
  | nil =>
    have hn : bn = 0 := by simpa using hlen.symm
    subst hn
    clear h hlen
    rw [show fiK [] c = 0 from rfl]
    go_enter Try.func18, Try.ntmps18
    go_wp2_with fail
    go_ret
    exact ⟨rfl, rfl⟩
  | cons x r =>
    have hn : bn = r.length + 1 := by simpa using hlen.symm
    have hne : ((bn : Int) == 0) = false := by simp; omega
    obtain ⟨pb, po, hix, hcx⟩ := h.idx (i := 0) (by omega) 0 rfl
    rw [show (x :: r)[0]?.getD 0 = x from rfl] at hcx
    have HR := hide (show fiK (x :: r) c = _ from rfl)
    clear h hlen
    have HN := hide hn
    clear hn
    by_cases x0 : x = 0
    · subst x0
      have KV := hide (show fiK (0 :: r) c = 1 by show fiX _ c = _; unfold fiX; rw [if_pos rfl])
      rw [unhide KV]
      clear KV HR HN
      go_enter Try.func18, Try.ntmps18
      go_wp2_with fail
      go_ret
      exact ⟨rfl, rfl⟩
    · by_cases x1 : x = 255
      · subst x1
        have KV := hide (show fiK (255 :: r) c = 2 by show fiX _ c = _; unfold fiX; rw [if_neg (by decide), if_pos rfl])
        rw [unhide KV]
        clear KV HR HN
        go_enter Try.func18, Try.ntmps18
        go_wp2_with fail
        go_ret
        exact ⟨rfl, rfl⟩
      · have y0 : (x == 0) = false := by simpa using x0
        have y1 : (x == 255) = false := by simpa using x1
        by_cases x2 : x = 251
        · subst x2
          cases q : has c 128
          · have KV := hide (show fiK (251 :: r) c = 0 by show fiX _ c = _; unfold fiX; rw [if_neg (by decide), if_neg (by decide), if_neg (fun u => by rw [q] at u; exact absurd u.2 (by decide))])
            have q1 : (bits .and .u32 c 128 != 0) = false := q
            clear q
            rw [unhide KV]
            clear KV HR HN
            go_enter Try.func18, Try.ntmps18
            go_wp2_with fail
            go_ret
            exact ⟨rfl, rfl⟩
          · have KV := hide (show fiK (251 :: r) c = 4 by show fiX _ c = _; unfold fiX; rw [if_neg (by decide), if_neg (by decide), if_pos ⟨rfl, q⟩])
            have q1 : (bits .and .u32 c 128 != 0) = true := q
            clear q
            rw [unhide KV]
            clear KV HR HN
            go_enter Try.func18, Try.ntmps18
            go_wp2_with fail
            go_ret
            exact ⟨rfl, rfl⟩
        · have y2 : (x == 251) = false := by simpa using x2
          have KV := hide (show fiK (x :: r) c = 0 by show fiX _ c = _; unfold fiX; rw [if_neg x0, if_neg x1, if_neg (fun u => x2 u.1)])
          clear x0 x1 x2
          rw [unhide KV]
          clear KV HR HN
          go_enter Try.func18, Try.ntmps18
          go_wp2_with fail
          go_ret
          exact ⟨rfl, rfl⟩

set_option maxHeartbeats 1000000 in
set_option maxRecDepth 100000 in
theorem first_ref (bo : Option Addr) (bn bc : Nat) (b : List Int) (c : Int) (w : World) (h : Bs w bo bn bc b) :
    Calls Try.prog 36 #[.slice bo bn bc, .int .u32 c] w fun e w' => e = .returned (.int .i64 (fiK b c)) ∧ w' = w := by
  have hlen := h.len
  have hle := h.le
  have hmx := h.max
  cases b with
  | nil =>
    have hn : bn = 0 := by simpa using hlen.symm
    subst hn
    clear h hlen
    rw [show fiK [] c = 0 from rfl]
    go_enter Try.func36, Try.ntmps36
    go_wp2_with fail
    go_ret
    exact ⟨rfl, rfl⟩
  | cons x r =>
    have hn : bn = r.length + 1 := by simpa using hlen.symm
    have hne : ((bn : Int) == 0) = false := by simp; omega
    obtain ⟨pb, po, hix, hcx⟩ := h.idx (i := 0) (by omega) 0 rfl
    rw [show (x :: r)[0]?.getD 0 = x from rfl] at hcx
    have HR := hide (show fiK (x :: r) c = _ from rfl)
    clear h hlen
    have HN := hide hn
    clear hn
    have cH := hide (has_ref c 128 w)
    by_cases x0 : x = 0
    · subst x0
      have KV := hide (show fiK (0 :: r) c = 1 by show fiX _ c = _; unfold fiX; rw [if_pos rfl])
      rw [unhide KV]
      clear KV HR HN
      go_enter Try.func36, Try.ntmps36
      go_wp2_with (go_at_call 75; refine same_world (unhide cH) ?_)
      go_ret
      exact ⟨rfl, rfl⟩
    · by_cases x1 : x = 255
      · subst x1
        have KV := hide (show fiK (255 :: r) c = 2 by show fiX _ c = _; unfold fiX; rw [if_neg (by decide), if_pos rfl])
        rw [unhide KV]
        clear KV HR HN
        go_enter Try.func36, Try.ntmps36
        go_wp2_with (go_at_call 75; refine same_world (unhide cH) ?_)
        go_ret
        exact ⟨rfl, rfl⟩
      · have y0 : (x == 0) = false := by simpa using x0
        have y1 : (x == 255) = false := by simpa using x1
        by_cases x2 : x = 251
        · subst x2
          cases q : has c 128
          · have KV := hide (show fiK (251 :: r) c = 0 by show fiX _ c = _; unfold fiX; rw [if_neg (by decide), if_neg (by decide), if_neg (fun u => by rw [q] at u; exact absurd u.2 (by decide))])
            rw [q] at cH
            clear q
            rw [unhide KV]
            clear KV HR HN
            go_enter Try.func36, Try.ntmps36
            go_wp2_with (go_at_call 75; refine same_world (unhide cH) ?_)
            go_ret
            exact ⟨rfl, rfl⟩
          · have KV := hide (show fiK (251 :: r) c = 4 by show fiX _ c = _; unfold fiX; rw [if_neg (by decide), if_neg (by decide), if_pos ⟨rfl, q⟩])
            rw [q] at cH
            clear q
            rw [unhide KV]
            clear KV HR HN
            go_enter Try.func36, Try.ntmps36
            go_wp2_with (go_at_call 75; refine same_world (unhide cH) ?_)
            go_ret
            exact ⟨rfl, rfl⟩
        · have y2 : (x == 251) = false := by simpa using x2
          have KV := hide (show fiK (x :: r) c = 0 by show fiX _ c = _; unfold fiX; rw [if_neg x0, if_neg x1, if_neg (fun u => x2 u.1)])
          clear x0 x1 x2
          rw [unhide KV]
          clear KV HR HN
          go_enter Try.func36, Try.ntmps36
          go_wp2_with (go_at_call 75; refine same_world (unhide cH) ?_)
          go_ret
          exact ⟨rfl, rfl⟩

set_option maxHeartbeats 1000000 in
set_option maxRecDepth 100000 in
theorem last_any (bo : Option Addr) (bn bc : Nat) (b : List Int) (c : Int) (w : World) (h : Bs w bo bn bc b) :
    Calls Try.prog 16 #[.slice bo bn bc, .int .u32 c] w fun e w' => e = .returned (.int .i64 (laK b c)) ∧ w' = w := by
  have hlen := h.len
  have hle := h.le
  have hmx := h.max
  cases b with
  | nil =>
    have hn : bn = 0 := by simpa using hlen.symm
    subst hn
    clear h hlen
    rw [show laK [] c = 0 from rfl]
    go_enter Try.func16, Try.ntmps16
    go_wp2_with fail
    go_ret
    exact ⟨rfl, rfl⟩
  | cons x r =>
    have hn : bn = r.length + 1 := by simpa using hlen.symm
    have hne : ((bn : Int) == 0) = false := by simp; omega
    obtain ⟨pb, po, hix, hcx⟩ := h.idx (i := 0) (by omega) 0 rfl
    rw [show (x :: r)[0]?.getD 0 = x from rfl] at hcx
    have HR := hide (show laK (x :: r) c = _ from rfl)
    clear h hlen
    have HN := hide hn
    by_cases x1 : x = 255
    · subst x1
      clear hn
      have KV := hide (show laK (255 :: r) c = 2 by show laX _ c _ = _; unfold laX; rw [if_pos rfl])
      rw [unhide KV]
      clear KV HR HN
      go_enter Try.func16, Try.ntmps16
      go_wp2_with fail
      go_ret
      exact ⟨rfl, rfl⟩
    · have y1 : (x == 255) = false := by simpa using x1
      by_cases x2 : x = 254
      · subst x2
        cases q : has c 16777216
        · by_cases x5 : bn = 5
          · have KV := hide (show laK (254 :: r) c = 3 by show laX _ c _ = _; unfold laX; rw [if_neg (by decide), if_pos rfl, if_neg (by rw [q]; decide), if_pos (by omega)])
            have q1 : (bits .and .u32 c 16777216 != 0) = false := q
            have y5 : ((bn : Int) == 5) = true := by simp; omega
            subst x5
            clear q hn
            rw [unhide KV]
            clear KV HR HN
            go_enter Try.func16, Try.ntmps16
            go_wp2_with fail
            go_ret
            exact ⟨rfl, rfl⟩
          · have KV := hide (show laK (254 :: r) c = 0 by show laX _ c _ = _; unfold laX; rw [if_neg (by decide), if_pos rfl, if_neg (by rw [q]; decide), if_neg (by omega)])
            have q1 : (bits .and .u32 c 16777216 != 0) = false := q
            have y5 : ((bn : Int) == 5) = false := by simp; omega
            clear q hn x5
            rw [unhide KV]
            clear KV HR HN
            go_enter Try.func16, Try.ntmps16
            go_wp2_with fail
            go_ret
            exact ⟨rfl, rfl⟩
        · by_cases x5 : bn < 16777215
          · have KV := hide (show laK (254 :: r) c = 1 by show laX _ c _ = _; unfold laX; rw [if_neg (by decide), if_pos rfl, if_pos q, if_pos (by omega)])
            have q1 : (bits .and .u32 c 16777216 != 0) = true := q
            have y5 : decide ((bn : Int) < 16777215) = true := by simp; omega
            have y6 : (bn : Int) < 16777215 := by omega
            clear q hn x5
            rw [unhide KV]
            clear KV HR HN
            go_enter Try.func16, Try.ntmps16
            go_wp2_with fail
            go_ret
            exact ⟨rfl, rfl⟩
          · have KV := hide (show laK (254 :: r) c = 0 by show laX _ c _ = _; unfold laX; rw [if_neg (by decide), if_pos rfl, if_pos q, if_neg (by omega)])
            have q1 : (bits .and .u32 c 16777216 != 0) = true := q
            have y5 : decide ((bn : Int) < 16777215) = false := by simp; omega
            have y6 : ¬ (bn : Int) < 16777215 := by omega
            clear q hn x5
            rw [unhide KV]
            clear KV HR HN
            go_enter Try.func16, Try.ntmps16
            go_wp2_with fail
            go_ret
            exact ⟨rfl, rfl⟩
      · have y2 : (x == 254) = false := by simpa using x2
        have y3 : (x != 254) = true := by simpa using x2
        have KV := hide (show laK (x :: r) c = 0 by show laX _ c _ = _; unfold laX; rw [if_neg x1, if_neg x2])
        clear x1 x2 hn
        rw [unhide KV]
        clear KV HR HN
        go_enter Try.func16, Try.ntmps16
        go_wp2_with fail
        go_ret
        exact ⟨rfl, rfl⟩

set_option maxHeartbeats 1000000 in
set_option maxRecDepth 100000 in
theorem last_ref (bo : Option Addr) (bn bc : Nat) (b : List Int) (c : Int) (w : World) (h : Bs w bo bn bc b) :
    Calls Try.prog 37 #[.slice bo bn bc, .int .u32 c] w fun e w' => e = .returned (.int .i64 (laK b c)) ∧ w' = w := by
  have hlen := h.len
  have hle := h.le
  have hmx := h.max
  cases b with
  | nil =>
    have hn : bn = 0 := by simpa using hlen.symm
    subst hn
    clear h hlen
    rw [show laK [] c = 0 from rfl]
    go_enter Try.func37, Try.ntmps37
    go_wp2_with fail
    go_ret
    exact ⟨rfl, rfl⟩
  | cons x r =>
    have hn : bn = r.length + 1 := by simpa using hlen.symm
    have hne : ((bn : Int) == 0) = false := by simp; omega
    obtain ⟨pb, po, hix, hcx⟩ := h.idx (i := 0) (by omega) 0 rfl
    rw [show (x :: r)[0]?.getD 0 = x from rfl] at hcx
    have HR := hide (show laK (x :: r) c = _ from rfl)
    clear h hlen
    have HN := hide hn
    have cH := hide (has_ref c 16777216 w)
    by_cases x1 : x = 255
    · subst x1
      clear hn
      have KV := hide (show laK (255 :: r) c = 2 by show laX _ c _ = _; unfold laX; rw [if_pos rfl])
      rw [unhide KV]
      clear KV HR HN
      go_enter Try.func37, Try.ntmps37
      go_wp2_with (go_at_call 75; refine same_world (unhide cH) ?_)
      go_ret
      exact ⟨rfl, rfl⟩
    · have y1 : (x == 255) = false := by simpa using x1
      by_cases x2 : x = 254
      · subst x2
        cases q : has c 16777216
        · by_cases x5 : bn = 5
          · have KV := hide (show laK (254 :: r) c = 3 by show laX _ c _ = _; unfold laX; rw [if_neg (by decide), if_pos rfl, if_neg (by rw [q]; decide), if_pos (by omega)])
            rw [q] at cH
            have y5 : ((bn : Int) == 5) = true := by simp; omega
            subst x5
            clear q hn
            rw [unhide KV]
            clear KV HR HN
            go_enter Try.func37, Try.ntmps37
            go_wp2_with (go_at_call 75; refine same_world (unhide cH) ?_)
            go_ret
            exact ⟨rfl, rfl⟩
          · have KV := hide (show laK (254 :: r) c = 0 by show laX _ c _ = _; unfold laX; rw [if_neg (by decide), if_pos rfl, if_neg (by rw [q]; decide), if_neg (by omega)])
            rw [q] at cH
            have y5 : ((bn : Int) == 5) = false := by simp; omega
            clear q hn x5
            rw [unhide KV]
            clear KV HR HN
            go_enter Try.func37, Try.ntmps37
            go_wp2_with (go_at_call 75; refine same_world (unhide cH) ?_)
            go_ret
            exact ⟨rfl, rfl⟩
        · by_cases x5 : bn < 16777215
          · have KV := hide (show laK (254 :: r) c = 1 by show laX _ c _ = _; unfold laX; rw [if_neg (by decide), if_pos rfl, if_pos q, if_pos (by omega)])
            rw [q] at cH
            have y5 : decide ((bn : Int) < 16777215) = true := by simp; omega
            have y6 : (bn : Int) < 16777215 := by omega
            clear q hn x5
            rw [unhide KV]
            clear KV HR HN
            go_enter Try.func37, Try.ntmps37
            go_wp2_with (go_at_call 75; refine same_world (unhide cH) ?_)
            go_ret
            exact ⟨rfl, rfl⟩
          · have KV := hide (show laK (254 :: r) c = 0 by show laX _ c _ = _; unfold laX; rw [if_neg (by decide), if_pos rfl, if_pos q, if_neg (by omega)])
            rw [q] at cH
            have y5 : decide ((bn : Int) < 16777215) = false := by simp; omega
            have y6 : ¬ (bn : Int) < 16777215 := by omega
            clear q hn x5
            rw [unhide KV]
            clear KV HR HN
            go_enter Try.func37, Try.ntmps37
            go_wp2_with (go_at_call 75; refine same_world (unhide cH) ?_)
            go_ret
            exact ⟨rfl, rfl⟩
      · have y2 : (x == 254) = false := by simpa using x2
        have y3 : (x != 254) = true := by simpa using x2
        have KV := hide (show laK (x :: r) c = 0 by show laX _ c _ = _; unfold laX; rw [if_neg x1, if_neg x2])
        clear x1 x2 hn
        rw [unhide KV]
        clear KV HR HN
        go_enter Try.func37, Try.ntmps37
        go_wp2_with (go_at_call 75; refine same_world (unhide cH) ?_)
        go_ret
        exact ⟨rfl, rfl⟩

end Go.Proofs.Ytkijdkbkbelliaa
