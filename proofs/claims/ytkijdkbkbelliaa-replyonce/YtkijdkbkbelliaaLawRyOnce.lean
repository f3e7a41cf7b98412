/-
  ReplyOnce answers true: no packet is two things at once. Conditions: the slice can be read.
-/
import Derived.Test.YtkijdkbkbelliaaRyLives
import Derived.BigQuiet
namespace Go.Proofs.Ytkijdkbkbelliaa
open Go.RowKit
set_option linter.unusedVariables false
set_option linter.unusedSimpArgs false

set_option maxHeartbeats 8000000 in
set_option maxRecDepth 100000 in
theorem lawRyOnce (bo : Option Addr) (bn bc : Nat) (b : List Int) (c : Int) (w : World) (h : Bs w bo bn bc b) :
    Calls Try.prog 7 #[.slice bo bn bc, .int .u32 c] w fun e w' => e = .returned (.bool true) ∧ Below w.heap.size w w' := by
  have cL := hide (lives_any w)
  have hlen := h.len
  have hle := h.le
  have hmx := h.max
  by_cases hbig : 3000 < bn
  · clear h hlen
    go_enter Try.func7, Try.ntmps7
    go_wp2_with fail
    refine (unhide cL).mono ?_
    rintro e w1 ⟨rfl, b1⟩
    have B1 := hide b1
    clear b1 cL
    go_wp2_with fail
    go_ret
    exact ⟨rfl, unhide B1⟩
  have cF := hide (fun wx (hx : Bs wx bo bn bc b) => first_any bo bn bc b c wx hx)
  have cA := hide (fun wx (hx : Bs wx bo bn bc b) => last_any bo bn bc b c wx hx)
  have H := hide h
  clear h
  cases b with
  | nil =>
    have hn : bn = 0 := by simpa using hlen.symm
    subst hn
    rw [show fiK [] c = 0 from rfl] at cF
    rw [show laK [] c = 0 from rfl] at cA
    clear hlen
    go_enter Try.func7, Try.ntmps7
    go_wp2_with fail
    refine (unhide cL).mono ?_
    rintro e w1 ⟨rfl, b1⟩
    have B1 := hide b1
    have H1 := hide ((unhide H).later b1)
    clear b1 cL H
    go_wp2_with (first | (go_at_call 18; refine same_world (unhide cF _ (unhide H1)) ?_) | (go_at_call 16; refine same_world (unhide cA _ (unhide H1)) ?_))
    go_ret
    exact ⟨rfl, unhide B1⟩
  | cons x r =>
    have hn : bn = r.length + 1 := by simpa using hlen.symm
    have hne : ((bn : Int) == 0) = false := by simp; omega
    have HI := hide (fun wx (hx : Bs wx bo bn bc (x :: r)) => hx.idx (i := 0) (by omega) 0 rfl)
    rw [show (x :: r)[0]?.getD 0 = x from rfl] at HI
    rw [show fiK (x :: r) c = fiX x c from rfl] at cF
    rw [show laK (x :: r) c = laX x c bn by rw [hn]; rfl] at cA
    clear hlen hn
    have q24 : ∀ z, has c 16777216 = z → (bits .and .u32 c 16777216 != 0) = z := fun z hz => hz
    have q7 : ∀ z, has c 128 = z → (bits .and .u32 c 128 == 0) = !z := fun z hz => by rw [← hz]; unfold has; simp [bne]
    by_cases x0 : x = 0
    · subst x0
      rw [show fiX 0 c = 1 by unfold fiX; rw [if_pos rfl]] at cF
      rw [show laX 0 c bn = 0 by unfold laX; rw [if_neg (by decide), if_neg (by decide)]] at cA
      cases q : has c 16777216
      · have y24 := q24 _ q
        clear q q24 q7
        go_enter Try.func7, Try.ntmps7
        go_wp2_with fail
        refine (unhide cL).mono ?_
        rintro e w1 ⟨rfl, b1⟩
        have B1 := hide b1
        have H1 := hide ((unhide H).later b1)
        obtain ⟨pb, po, hix, hcx⟩ := unhide HI w1 (unhide H1)
        clear b1 cL H HI
        go_wp2_with (first | (go_at_call 18; refine same_world (unhide cF _ (unhide H1)) ?_) | (go_at_call 16; refine same_world (unhide cA _ (unhide H1)) ?_))
        go_ret
        exact ⟨rfl, unhide B1⟩
      · have y24 := q24 _ q
        clear q q24 q7
        go_enter Try.func7, Try.ntmps7
        go_wp2_with fail
        refine (unhide cL).mono ?_
        rintro e w1 ⟨rfl, b1⟩
        have B1 := hide b1
        have H1 := hide ((unhide H).later b1)
        obtain ⟨pb, po, hix, hcx⟩ := unhide HI w1 (unhide H1)
        clear b1 cL H HI
        go_wp2_with (first | (go_at_call 18; refine same_world (unhide cF _ (unhide H1)) ?_) | (go_at_call 16; refine same_world (unhide cA _ (unhide H1)) ?_))
        go_ret
        exact ⟨rfl, unhide B1⟩
    by_cases x1 : x = 255
    · subst x1
      rw [show fiX 255 c = 2 by unfold fiX; rw [if_neg (by decide), if_pos rfl]] at cF
      rw [show laX 255 c bn = 2 by unfold laX; rw [if_pos rfl]] at cA
      cases q : has c 16777216
      · have y24 := q24 _ q
        clear q q24 q7
        go_enter Try.func7, Try.ntmps7
        go_wp2_with fail
        refine (unhide cL).mono ?_
        rintro e w1 ⟨rfl, b1⟩
        have B1 := hide b1
        have H1 := hide ((unhide H).later b1)
        obtain ⟨pb, po, hix, hcx⟩ := unhide HI w1 (unhide H1)
        clear b1 cL H HI
        go_wp2_with (first | (go_at_call 18; refine same_world (unhide cF _ (unhide H1)) ?_) | (go_at_call 16; refine same_world (unhide cA _ (unhide H1)) ?_))
        go_ret
        exact ⟨rfl, unhide B1⟩
      · have y24 := q24 _ q
        clear q q24 q7
        go_enter Try.func7, Try.ntmps7
        go_wp2_with fail
        refine (unhide cL).mono ?_
        rintro e w1 ⟨rfl, b1⟩
        have B1 := hide b1
        have H1 := hide ((unhide H).later b1)
        obtain ⟨pb, po, hix, hcx⟩ := unhide HI w1 (unhide H1)
        clear b1 cL H HI
        go_wp2_with (first | (go_at_call 18; refine same_world (unhide cF _ (unhide H1)) ?_) | (go_at_call 16; refine same_world (unhide cA _ (unhide H1)) ?_))
        go_ret
        exact ⟨rfl, unhide B1⟩
    by_cases x2 : x = 251
    · subst x2
      rw [show laX 251 c bn = 0 by unfold laX; rw [if_neg (by decide), if_neg (by decide)]] at cA
      cases p : has c 128
      · rw [show fiX 251 c = 0 by unfold fiX; rw [if_neg (by decide), if_neg (by decide), if_neg (fun u => by rw [p] at u; exact absurd u.2 (by decide))]] at cF
        have y7 := q7 _ p
        clear p
        cases q : has c 16777216
        · have y24 := q24 _ q
          clear q q24 q7
          go_enter Try.func7, Try.ntmps7
          go_wp2_with fail
          refine (unhide cL).mono ?_
          rintro e w1 ⟨rfl, b1⟩
          have B1 := hide b1
          have H1 := hide ((unhide H).later b1)
          obtain ⟨pb, po, hix, hcx⟩ := unhide HI w1 (unhide H1)
          clear b1 cL H HI
          go_wp2_with (first | (go_at_call 18; refine same_world (unhide cF _ (unhide H1)) ?_) | (go_at_call 16; refine same_world (unhide cA _ (unhide H1)) ?_))
          go_ret
          exact ⟨rfl, unhide B1⟩
        · have y24 := q24 _ q
          clear q q24 q7
          go_enter Try.func7, Try.ntmps7
          go_wp2_with fail
          refine (unhide cL).mono ?_
          rintro e w1 ⟨rfl, b1⟩
          have B1 := hide b1
          have H1 := hide ((unhide H).later b1)
          obtain ⟨pb, po, hix, hcx⟩ := unhide HI w1 (unhide H1)
          clear b1 cL H HI
          go_wp2_with (first | (go_at_call 18; refine same_world (unhide cF _ (unhide H1)) ?_) | (go_at_call 16; refine same_world (unhide cA _ (unhide H1)) ?_))
          go_ret
          exact ⟨rfl, unhide B1⟩
      · rw [show fiX 251 c = 4 by unfold fiX; rw [if_neg (by decide), if_neg (by decide), if_pos ⟨rfl, p⟩]] at cF
        have y7 := q7 _ p
        clear p
        cases q : has c 16777216
        · have y24 := q24 _ q
          clear q q24 q7
          go_enter Try.func7, Try.ntmps7
          go_wp2_with fail
          refine (unhide cL).mono ?_
          rintro e w1 ⟨rfl, b1⟩
          have B1 := hide b1
          have H1 := hide ((unhide H).later b1)
          obtain ⟨pb, po, hix, hcx⟩ := unhide HI w1 (unhide H1)
          clear b1 cL H HI
          go_wp2_with (first | (go_at_call 18; refine same_world (unhide cF _ (unhide H1)) ?_) | (go_at_call 16; refine same_world (unhide cA _ (unhide H1)) ?_))
          go_ret
          exact ⟨rfl, unhide B1⟩
        · have y24 := q24 _ q
          clear q q24 q7
          go_enter Try.func7, Try.ntmps7
          go_wp2_with fail
          refine (unhide cL).mono ?_
          rintro e w1 ⟨rfl, b1⟩
          have B1 := hide b1
          have H1 := hide ((unhide H).later b1)
          obtain ⟨pb, po, hix, hcx⟩ := unhide HI w1 (unhide H1)
          clear b1 cL H HI
          go_wp2_with (first | (go_at_call 18; refine same_world (unhide cF _ (unhide H1)) ?_) | (go_at_call 16; refine same_world (unhide cA _ (unhide H1)) ?_))
          go_ret
          exact ⟨rfl, unhide B1⟩
    by_cases x3 : x = 254
    · subst x3
      rw [show fiX 254 c = 0 by unfold fiX; rw [if_neg (by decide), if_neg (by decide), if_neg (fun u => absurd u.1 (by decide))]] at cF
      cases q : has c 16777216
      · by_cases x5 : bn = 5
        · have y24 := q24 _ q
          rw [show laX 254 c bn = 3 by unfold laX; rw [if_neg (by decide), if_pos rfl, if_neg (by rw [q]; decide), if_pos x5]] at cA
          have y5 : ((bn : Int) == 5) = true := by simp; omega
          subst x5
          clear q q24 q7
          go_enter Try.func7, Try.ntmps7
          go_wp2_with fail
          refine (unhide cL).mono ?_
          rintro e w1 ⟨rfl, b1⟩
          have B1 := hide b1
          have H1 := hide ((unhide H).later b1)
          obtain ⟨pb, po, hix, hcx⟩ := unhide HI w1 (unhide H1)
          clear b1 cL H HI
          go_wp2_with (first | (go_at_call 18; refine same_world (unhide cF _ (unhide H1)) ?_) | (go_at_call 16; refine same_world (unhide cA _ (unhide H1)) ?_))
          go_ret
          exact ⟨rfl, unhide B1⟩
        · have y24 := q24 _ q
          rw [show laX 254 c bn = 0 by unfold laX; rw [if_neg (by decide), if_pos rfl, if_neg (by rw [q]; decide), if_neg x5]] at cA
          have y5 : ((bn : Int) == 5) = false := by simp; omega
          clear q q24 q7 x5
          go_enter Try.func7, Try.ntmps7
          go_wp2_with fail
          refine (unhide cL).mono ?_
          rintro e w1 ⟨rfl, b1⟩
          have B1 := hide b1
          have H1 := hide ((unhide H).later b1)
          obtain ⟨pb, po, hix, hcx⟩ := unhide HI w1 (unhide H1)
          clear b1 cL H HI
          go_wp2_with (first | (go_at_call 18; refine same_world (unhide cF _ (unhide H1)) ?_) | (go_at_call 16; refine same_world (unhide cA _ (unhide H1)) ?_))
          go_ret
          exact ⟨rfl, unhide B1⟩
      · have y24 := q24 _ q
        rw [show laX 254 c bn = 1 by unfold laX; rw [if_neg (by decide), if_pos rfl, if_pos q, if_pos (by omega)]] at cA
        clear q q24 q7
        go_enter Try.func7, Try.ntmps7
        go_wp2_with fail
        refine (unhide cL).mono ?_
        rintro e w1 ⟨rfl, b1⟩
        have B1 := hide b1
        have H1 := hide ((unhide H).later b1)
        obtain ⟨pb, po, hix, hcx⟩ := unhide HI w1 (unhide H1)
        clear b1 cL H HI
        go_wp2_with (first | (go_at_call 18; refine same_world (unhide cF _ (unhide H1)) ?_) | (go_at_call 16; refine same_world (unhide cA _ (unhide H1)) ?_))
        go_ret
        exact ⟨rfl, unhide B1⟩
    rw [show fiX x c = 0 by unfold fiX; rw [if_neg x0, if_neg x1, if_neg (fun u => x2 u.1)]] at cF
    rw [show laX x c bn = 0 by unfold laX; rw [if_neg x1, if_neg x3]] at cA
    have y0 : (x != 0) = true := by simpa using x0
    have y1 : (x == 255) = false := by simpa using x1
    have y2 : (x != 251) = true := by simpa using x2
    have y3 : (x == 254) = false := by simpa using x3
    clear x0 x1 x2 x3
    cases q : has c 16777216
    · have y24 := q24 _ q
      clear q q24 q7
      go_enter Try.func7, Try.ntmps7
      go_wp2_with fail
      refine (unhide cL).mono ?_
      rintro e w1 ⟨rfl, b1⟩
      have B1 := hide b1
      have H1 := hide ((unhide H).later b1)
      obtain ⟨pb, po, hix, hcx⟩ := unhide HI w1 (unhide H1)
      clear b1 cL H HI
      go_wp2_with (first | (go_at_call 18; refine same_world (unhide cF _ (unhide H1)) ?_) | (go_at_call 16; refine same_world (unhide cA _ (unhide H1)) ?_))
      go_ret
      exact ⟨rfl, unhide B1⟩
    · have y24 := q24 _ q
      clear q q24 q7
      go_enter Try.func7, Try.ntmps7
      go_wp2_with fail
      refine (unhide cL).mono ?_
      rintro e w1 ⟨rfl, b1⟩
      have B1 := hide b1
      have H1 := hide ((unhide H).later b1)
      obtain ⟨pb, po, hix, hcx⟩ := unhide HI w1 (unhide H1)
      clear b1 cL H HI
      go_wp2_with (first | (go_at_call 18; refine same_world (unhide cF _ (unhide H1)) ?_) | (go_at_call 16; refine same_world (unhide cA _ (unhide H1)) ?_))
      go_ret
      exact ⟨rfl, unhide B1⟩

end Go.Proofs.Ytkijdkbkbelliaa
