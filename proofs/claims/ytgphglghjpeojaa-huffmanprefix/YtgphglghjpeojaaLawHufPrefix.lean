/-
  The statement on codes of which none begins another returns true for any lengths and any bits, and writes nothing that was there. Conditions: none but that the arguments can be read.
-/
import Derived.Test.YtgphglghjpeojaaHufLives
import Derived.Test.YtgphglghjpeojaaHufBack
namespace Go.Proofs.Ytgphglghjpeojaa
open Go.RowKit
set_option linter.unusedVariables false
set_option linter.unusedSimpArgs false

theorem whole_is {L : List Int} (h : whole L = true) : cer L = 0 ∧ Fl L 15 = 32768 := by
  simpa [whole] using h
theorem rdq_whole {L b : List Int} (h : whole L = true) (hb : 2 ≤ b.length) : (rdq L b 0).2.2 = 0 := by
  obtain ⟨h1, h2⟩ := whole_is h
  unfold rdq
  rw [if_pos h1, if_neg (by omega)]
  exact rd_whole (good_of h1) h2 hb

set_option maxHeartbeats 8000000 in
set_option maxRecDepth 20000 in
theorem lawPrefix (ao : Option Addr) (n c : Nat) (L : List Int) (N : Int) (w : World) (h : Is w ao n c L) (hN0 : 0 ≤ N) (hN1 : N ≤ 65535) :
    Calls Try.prog 7 #[.slice ao n c, .int .u16 N] w fun e w' => e = .returned (.bool true) ∧ Below w.heap.size w w' := by
  have H := hide h
  have hlen := hide h.len
  have hmax := h.max
  have hle := h.le
  clear h
  go_enter Try.func7, Try.ntmps7
  go_wp2_with fail
  refine (lives_any _).mono ?_
  rintro e w1 ⟨rfl, b1⟩
  have z1 := b1.size
  go_wp2_with fail
  refine (codes_any _ _ _ _ _ ((unhide H).later b1)).mono ?_
  rintro e w2 ⟨⟨ko, kn, kc, rfl, hk⟩, b2⟩
  have bb2 : Below w.heap.size w w2 := b1.trans (b2.mono z1)
  have z2 := bb2.size
  have HK := hide hk
  have kl := hk.len
  clear hk
  go_wp2_with fail
  refine (check_any _ _ _ _ _ ((unhide H).later bb2)).mono ?_
  rintro e w3 ⟨rfl, b3⟩
  have bb3 : Below w.heap.size w w3 := bb2.trans (b3.mono z2)
  have z3 := bb3.size
  have K3 := hide ((unhide HK).later b3)
  by_cases he : cer L = 0
  · have hG := hide (good_of he)
    have hcd : cdd L = cds L := by unfold cdd; rw [he]; rfl
    rw [hcd, cds_len, unhide hlen] at kl
    subst kl
    have K4 := hide (show Is w3 ko n kc (cds L) by rw [← hcd]; exact unhide K3)
    have hn : n ≤ 320 := by have := (unhide hG).len; rw [unhide hlen] at this; exact this
    rw [he]
    clear he hcd K3 HK
    obtain ⟨B, hB⟩ : ∃ B, B = whole L := ⟨_, rfl⟩
    rw [← hB]
    have HB := hide hB
    clear hB
    go_wp2_with fail
    go_loopw [9] (fun i wr => ∃ k : Nat, k ≤ n ∧ i = .int .i64 k ∧ Below w3.heap.size w3 wr) (fun i _ => n - (intOf i).toNat)
    case atStart => exact ⟨0, by omega, rfl, Below.refl _ _⟩
    case round =>
      obtain ⟨i, hi, rfl, hbel⟩ := hrel
      by_cases hlt : i < n
      · have bw : Below w.heap.size w wr := bb3.trans (hbel.mono z3)
        have hiL := hide (show i < L.length by rw [unhide hlen]; exact hlt)
        obtain ⟨b5, o5, i5, c5w⟩ := (unhide H).idx hlt (i : Int) rfl
        obtain ⟨b6, o6, i6, c6w⟩ := (unhide K4).idx hlt (i : Int) rfl
        rw [cds_at L (unhide hiL)] at c6w
        have fit := (unhide hG).fit _ (ln_mem (unhide hiL))
        have cb := code_bd (unhide hG) (unhide hiL)
        have cp := code_pow (unhide hG) (unhide hiL)
        have cn := code_neg (L := L) (unhide hiL) fit.1
        obtain ⟨x, hx⟩ : ∃ x, x = ln L i := ⟨_, rfl⟩
        obtain ⟨y, hy⟩ : ∃ y, y = code L i := ⟨_, rfl⟩
        rw [show L[i]?.getD 0 = x from hx.symm] at c5w
        rw [← hy] at c6w cb cp cn
        rw [← hx] at fit cp cn
        have HX := hide hx
        have HY := hide hy
        clear hx hy
        obtain ⟨a, rfl⟩ : ∃ a : Nat, x = (a : Int) := ⟨x.toNat, by omega⟩
        simp only [Int.toNat_natCast] at cp
        obtain ⟨P, hP⟩ : ∃ P, (2 : Int) ^ a = P := ⟨_, rfl⟩
        have p15 := pow_15 (show a ≤ 15 by omega)
        have p1 : (1 : Int) ≤ 2 ^ a := Int.pow_pos (by omega)
        rw [hP] at cp p15 p1
        obtain ⟨β, q1, q2⟩ : ∃ β, ((a : Int) == 0) = β ∧ (y == -1) = β := by
          by_cases h0 : (a : Int) = 0
          · exact ⟨true, by simpa using h0, by simpa using cn.1 h0⟩
          · exact ⟨false, by simpa using h0, by simpa using mt cn.2 h0⟩
        have t2 : decide (P ≤ y) = false := by simp; omega
        have c5 := cell_later bw c5w
        have c6 := cell_later hbel c6w
        have C5 := hide c5w
        have C6 := hide c6w
        clear cn c5w c6w
        go_wp2_with fail
        go_quiet (fail)
        go_wp2_with fail
        clear c5 c6
        have hbq := below_drewN hbel nq
        clear bw
        go_loopw [10] (fun t ws => ∃ k : Nat, k ≤ n ∧ t = .int .i64 k ∧ Below w3.heap.size w3 ws) (fun t _ => n - (intOf t).toNat)
        case atStart => exact ⟨0, by omega, rfl, hbq⟩
        case round =>
          clear hbq hbel q1 q2 t2 cp
          obtain ⟨j, hj, rfl, hbel⟩ := hrel
          have bw : Below w.heap.size w wr := bb3.trans (hbel.mono z3)
          have c5 := cell_later bw (unhide C5)
          have c6 := cell_later hbel (unhide C6)
          by_cases hjlt : j < n
          · by_cases hij : i = j
            · subst hij
              have t1 : ((i : Int) != (i : Int)) = false := by simp
              go_wp2_with fail
              go_quiet (fail)
              go_wp2_with fail
              go_roundw
              case rel => exact ⟨i + 1, by omega, by go_num, below_drewN hbel nq⟩
              case measure => simp [intOf]; omega
            · have t1 : ((i : Int) != (j : Int)) = true := by simp; omega
              by_cases ha0 : a = 0
              · have t3 : decide (0 < (a : Int)) = false := by simp; omega
                go_wp2_with fail
                go_quiet (fail)
                go_wp2_with fail
                go_roundw
                case rel => exact ⟨j + 1, by omega, by go_num, below_drewN hbel nq⟩
                case measure => simp [intOf]; omega
              · have t3 : 0 < (a : Int) := by omega
                have t3n : 0 < a := by omega
                have hjL := hide (show j < L.length by rw [unhide hlen]; exact hjlt)
                obtain ⟨b7, o7, i7, c7⟩ := ((unhide H).later bw).idx hjlt (j : Int) rfl
                obtain ⟨b8, o8, i8, c8⟩ := ((unhide K4).later hbel).idx hjlt (j : Int) rfl
                rw [cds_at L (unhide hjL)] at c8
                have fit2 := (unhide hG).fit _ (ln_mem (unhide hjL))
                have cb2 := code_bd (unhide hG) (unhide hjL)
                obtain ⟨x2, hx2⟩ : ∃ x, x = ln L j := ⟨_, rfl⟩
                obtain ⟨y2, hy2⟩ : ∃ y, y = code L j := ⟨_, rfl⟩
                rw [show L[j]?.getD 0 = x2 from hx2.symm] at c7
                rw [← hy2] at c8 cb2
                rw [← hx2] at fit2
                have HX2 := hide hx2
                have HY2 := hide hy2
                clear hx2 hy2
                obtain ⟨b, rfl⟩ : ∃ b : Nat, x2 = (b : Int) := ⟨x2.toNat, by omega⟩
                by_cases hab : (a : Int) ≤ (b : Int)
                · have hnp := no_prefix (unhide hG) (unhide hiL) (unhide hjL) hij (by rw [← unhide HX]; exact t3) (by rw [← unhide HX, ← unhide HX2]; exact hab)
                  rw [← unhide HY, ← unhide HY2, ← unhide HX, ← unhide HX2, show ((b : Int) - (a : Int)).toNat = b - a by omega] at hnp
                  obtain ⟨Q, hQ⟩ : ∃ Q, y2 / 2 ^ (b - a) = Q := ⟨_, rfl⟩
                  rw [hQ] at hnp
                  have t4 : (Q == y) = false := by simpa using hnp
                  have habn : a ≤ b := by omega
                  clear hnp
                  go_wp2_with fail
                  go_quiet (fail)
                  go_wp2_with fail
                  go_roundw
                  case rel => exact ⟨j + 1, by omega, by go_num, below_drewN hbel nq⟩
                  case measure => simp [intOf]; omega
                · have t4 : decide ((a : Int) ≤ (b : Int)) = false := by simp; omega
                  have t5 : decide (a ≤ b) = false := by simp; omega
                  go_wp2_with fail
                  go_quiet (fail)
                  go_wp2_with fail
                  go_roundw
                  case rel => exact ⟨j + 1, by omega, by go_num, below_drewN hbel nq⟩
                  case measure => simp [intOf]; omega
          · go_wp2_with fail
            go_roundw
            case rel => exact ⟨i + 1, by omega, by go_num, hbel⟩
            case measure => simp [intOf]; omega
      · have bw : Below w.heap.size w wr := bb3.trans (hbel.mono z3)
        go_wp2_with fail
        have lb : Bs (wr.alloc (.cells #[.int .u8 (N % 256), .int .u8 (N / 256)] 5)) (some ⟨wr.heap.size, 0, none⟩) 2 2 [N % 256, N / 256] :=
          lit_bs (w := wr) [N % 256, N / 256] rfl (Byt.cons (by omega) (by omega) (Byt.one (by omega) (by omega))) (by simp) 2 rfl (Below.refl _ _)
        refine (readq_any _ _ _ _ _ _ _ _ 0 _ (((unhide H).later bw).later (below_alloc wr _)) lb (by decide) (by decide)).mono ?_
        rintro e w5 ⟨rfl, b5⟩
        have bw5 : Below w.heap.size w w5 := (bw.trans ((below_alloc wr _).mono bw.size)).trans (b5.mono (by have := bw.size; simp <;> omega))
        by_cases hwh : B = true
        · have hz := rdq_whole (L := L) (b := [N % 256, N / 256]) (by rw [← unhide HB]; exact hwh) (by simp)
          rw [hz, hwh]
          clear hz
          subst hwh
          go_wp2_with fail
          go_ret
          exact ⟨rfl, bw5⟩
        · have hwf : B = false := by simpa using hwh
          subst hwf
          go_wp2_with fail
          go_ret
          exact ⟨rfl, bw5⟩
  · have he' : (cer L != 0) = true := by simpa using he
    have hcd : cdd L = [] := by unfold cdd; rw [if_neg he]
    rw [hcd] at kl
    have kl0 : kn = 0 := by simpa using kl.symm
    subst kl0
    have t0 : (cer L != cer L) = false := by simp
    clear kl hcd he
    go_wp2_with fail
    go_ret
    exact ⟨rfl, bb3⟩

end Go.Proofs.Ytgphglghjpeojaa
