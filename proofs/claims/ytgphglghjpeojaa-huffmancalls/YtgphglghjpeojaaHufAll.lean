/-
  What Read and All of package huffman return for any lengths, bytes and numbers. They write nothing that was there. Conditions: the slices can be read, at most a million bytes, at most a thousand million symbols.
-/
import Derived.Test.YtgphglghjpeojaaHufRead
namespace Go.Proofs.Ytgphglghjpeojaa
open Go.RowKit
set_option linter.unusedVariables false
set_option linter.unusedSimpArgs false

/-- What Read answers. -/
def rdq (L bs : List Int) (at_ : Int) : Int × Int × Int := if cer L = 0 then (if at_ < 0 then (0, 0, 2) else rd L bs at_.toNat) else (0, 0, cer L)

set_option maxHeartbeats 2000000 in
set_option maxRecDepth 20000 in
theorem readq_any (ao : Option Addr) (n c : Nat) (L : List Int) (bo : Option Addr) (m d : Nat) (bs : List Int) (at_ : Int) (w : World) (h : Is w ao n c L) (hb : Bs w bo m d bs) (hm : m ≤ 1000000) (hat : at_ ≤ 9223372036854775807) :
    Calls Try.prog 9 #[.slice ao n c, .slice bo m d, .int .i64 at_] w fun e w' => e = .returned (.tuple #[.int .i64 (rdq L bs at_).1, .int .i64 (rdq L bs at_).2.1, .int .i64 (rdq L bs at_).2.2]) ∧ Below w.heap.size w w' := by
  have H := hide h
  have HB := hide hb
  have HAT := hide hat
  clear h hb hat
  generalize hR : rdq L bs at_ = R
  obtain ⟨r1, r2, r3⟩ := R
  have HR := hide hR
  clear hR
  go_enter Try.func9, Try.ntmps9
  go_wp2_with fail
  refine (counted_any _ _ _ _ _ (unhide H)).mono ?_
  rintro e w1 ⟨rfl, b1⟩
  have z1 := b1.size
  by_cases he : cer L = 0
  · have hc := hide (show ctd L = cts L by unfold ctd; rw [he]; rfl)
    have hg := hide (good_of he)
    have HE := hide he
    rw [unhide hc, he]
    clear he
    by_cases hneg : at_ < 0
    · have hans := hide (show (r1, r2, r3) = (0, 0, 2) by rw [← unhide HR]; unfold rdq; rw [if_pos (unhide HE), if_pos hneg])
      go_wp2_with (first
        | (with_reducible show wpList Try.prog _ _ (Oper.mk _ (Op.store 43 _ _) _ _ _ none :: _) _ _; refine wpList_arrStore rfl (.tmp 9) (.tmp 13) rfl w1.heap.size (cts L) zero16 rfl rfl a2 (cts_len L) zero16_len ?_; intro w3 a3 o3 s3 b3)
        | (with_reducible show wpList Try.prog _ _ (Oper.mk _ (Op.alloc 43) _ _ _ none :: _) _ _; refine wpList_arrAlloc rfl rfl ?_; intro w2 a2 b2 s2))
      go_ret3
      have ha := unhide hans
      simp only [Prod.mk.injEq] at ha
      obtain ⟨rfl, rfl, rfl⟩ := ha
      exact ⟨rfl, (b1.trans (b2.mono z1)).trans (b3.mono z1)⟩
    · obtain ⟨A, hA⟩ : ∃ A : Nat, at_ = (A : Int) := ⟨at_.toNat, by omega⟩
      subst hA
      have hans := hide (show (r1, r2, r3) = rd L bs A by rw [← unhide HR]; unfold rdq; rw [if_pos (unhide HE), if_neg hneg]; simp)
      go_wp2_with (first
        | (with_reducible show wpList Try.prog _ _ (Oper.mk _ (Op.store 43 _ _) _ _ _ none :: _) _ _; refine wpList_arrStore rfl (.tmp 9) (.tmp 13) rfl w1.heap.size (cts L) zero16 rfl rfl a2 (cts_len L) zero16_len ?_; intro w3 a3 o3 s3 b3)
        | (with_reducible show wpList Try.prog _ _ (Oper.mk _ (Op.alloc 43) _ _ _ none :: _) _ _; refine wpList_arrAlloc rfl rfl ?_; intro w2 a2 b2 s2)
        | (with_reducible show wpList Try.prog _ _ (Oper.mk _ (Op.load 43 _) _ _ _ none :: _) _ _; refine wpList_arrLoad rfl (.tmp 9) rfl w1.heap.size rfl (cts L) a3 (cts_len L) ?_))
      have bb3 : Below w.heap.size w w3 := (b1.trans (b2.mono z1)).trans (b3.mono z1)
      have z3 := bb3.size
      refine (decoderOf_any _ _ _ L w3 ((unhide H).later bb3) (unhide hg)).mono ?_
      rintro e w4 ⟨g, o, rfl, hgw, hd4, hO, b4⟩
      have bb4 : Below w.heap.size w w4 := bb3.trans (b4.mono z3)
      have z4 := bb4.size
      have HD := hide hd4
      have HO := hide hO
      have hg4 := hd4.lt
      clear hd4 hO a2 a3 o3 b2 b3 s2 s3 b4
      go_wp2_with fail
      refine (bitsFrom_any _ _ _ _ w4).mono ?_
      rintro e w5 ⟨rfl, q5, p5, b5, s5⟩
      have bb5 : Below w.heap.size w w5 := bb4.trans (b5.mono z4)
      have rdc := hide (read_any g (w4.heap.size + 1) w4.heap.size A bo m d bs L o w5 ((unhide HD).later b5) (unhide HO) (unhide hg) p5 q5 (fun w' hw => (unhide HB).later (bb5.trans (hw.below.mono (by omega)))) (by omega) (by omega) hm (unhide HAT))
      rw [← unhide hans] at rdc
      clear p5 q5
      go_wp2_with fail
      refine (unhide rdc).mono ?_
      rintro e w6 ⟨rfl, b6, _⟩
      go_wp2_with fail
      go_ret3
      exact ⟨rfl, bb5.trans (b6.below.mono (by omega))⟩
  · have he' : (cer L != 0) = true := by simpa using he
    have hans := hide (show (r1, r2, r3) = (0, 0, cer L) by rw [← unhide HR]; unfold rdq; rw [if_neg he])
    clear he
    go_wp2_with (first
      | (with_reducible show wpList Try.prog _ _ (Oper.mk _ (Op.store 43 _ _) _ _ _ none :: _) _ _; refine wpList_arrStore rfl (.tmp 9) (.tmp 13) rfl w1.heap.size (ctd L) zero16 rfl rfl a2 (ctd_len L) zero16_len ?_; intro w3 a3 o3 s3 b3)
      | (with_reducible show wpList Try.prog _ _ (Oper.mk _ (Op.alloc 43) _ _ _ none :: _) _ _; refine wpList_arrAlloc rfl rfl ?_; intro w2 a2 b2 s2))
    go_ret3
    have ha := unhide hans
    simp only [Prod.mk.injEq] at ha
    obtain ⟨rfl, rfl, rfl⟩ := ha
    exact ⟨rfl, (b1.trans (b2.mono z1)).trans (b3.mono z1)⟩

theorem One.under {w w' : World} {g B : Nat} {t : TypeId} {v : Value} (h : One w g t v) (hb : Below B w w') (hg : g < B) : One w' g t v := by
  unfold One; rw [hb.block g hg]; exact h

/-- What All answers. -/
def alq (L bs : List Int) (n : Int) : List Int × Int × Int := if cer L = 0 then (if n < 0 then ([], 0, 2) else alls L bs n.toNat 0 []) else ([], 0, cer L)

theorem alls_ok (L b : List Int) (n at_ : Nat) (acc : List Int) (h : (rd L b at_).2.2 = 0) : alls L b (n + 1) at_ acc = alls L b n (at_ + (rd L b at_).2.1.toNat) (acc ++ [(rd L b at_).1]) := by
  simp only [alls]
  rw [if_pos h]
theorem alls_no (L b : List Int) (n at_ : Nat) (acc : List Int) (h : ¬ (rd L b at_).2.2 = 0) : alls L b (n + 1) at_ acc = ([], 0, (rd L b at_).2.2) := by
  simp only [alls]
  rw [if_neg h]

set_option maxHeartbeats 4000000 in
set_option maxRecDepth 20000 in
theorem all_any (ao : Option Addr) (n c : Nat) (L : List Int) (bo : Option Addr) (m d : Nat) (bs : List Int) (N : Int) (w : World) (h : Is w ao n c L) (hb : Bs w bo m d bs) (hm : m ≤ 1000000) (hN : N ≤ 1000000000) :
    Calls Try.prog 16 #[.slice ao n c, .slice bo m d, .int .i64 N] w fun e w' => (∃ ao1 n1 c1, e = .returned (.tuple #[.slice ao1 n1 c1, .int .i64 (alq L bs N).2.1, .int .i64 (alq L bs N).2.2]) ∧ Is w' ao1 n1 c1 (alq L bs N).1) ∧ Below w.heap.size w w' := by
  have H := hide h
  have HB := hide hb
  have hblen := hide hb.len
  clear h hb
  generalize hR : alq L bs N = R
  obtain ⟨r1, r2, r3⟩ := R
  have HR := hide hR
  clear hR
  go_enter Try.func16, Try.ntmps16
  go_wp2_with fail
  refine (counted_any _ _ _ _ _ (unhide H)).mono ?_
  rintro e w1 ⟨rfl, b1⟩
  have z1 := b1.size
  by_cases he : cer L = 0
  · have hc := hide (show ctd L = cts L by unfold ctd; rw [he]; rfl)
    have hg := hide (good_of he)
    have HE := hide he
    rw [unhide hc, he]
    clear he
    by_cases hneg : N < 0
    · have hans := hide (show (r1, r2, r3) = ([], 0, 2) by rw [← unhide HR]; unfold alq; rw [if_pos (unhide HE), if_pos hneg])
      go_wp2_with (first
        | (with_reducible show wpList Try.prog _ _ (Oper.mk _ (Op.store 43 _ _) _ _ _ none :: _) _ _; refine wpList_arrStore rfl (.tmp 9) (.tmp 18) rfl w1.heap.size (cts L) zero16 rfl rfl a2 (cts_len L) zero16_len ?_; intro w3 a3 o3 s3 b3)
        | (with_reducible show wpList Try.prog _ _ (Oper.mk _ (Op.alloc 43) _ _ _ none :: _) _ _; refine wpList_arrAlloc rfl rfl ?_; intro w2 a2 b2 s2))
      go_ret3
      have ha := unhide hans
      simp only [Prod.mk.injEq] at ha
      obtain ⟨rfl, rfl, rfl⟩ := ha
      exact ⟨⟨_, _, _, rfl, Is.nought _⟩, (b1.trans (b2.mono z1)).trans (b3.mono z1)⟩
    · obtain ⟨A, hA⟩ : ∃ A : Nat, N = (A : Int) := ⟨N.toNat, by omega⟩
      subst hA
      have hans := hide (show (r1, r2, r3) = alls L bs A 0 [] by rw [← unhide HR]; unfold alq; rw [if_pos (unhide HE), if_neg hneg]; simp)
      go_wp2_with (first
        | (with_reducible show wpList Try.prog _ _ (Oper.mk _ (Op.store 43 _ _) _ _ _ none :: _) _ _; refine wpList_arrStore rfl (.tmp 9) (.tmp 18) rfl w1.heap.size (cts L) zero16 rfl rfl a2 (cts_len L) zero16_len ?_; intro w3 a3 o3 s3 b3)
        | (with_reducible show wpList Try.prog _ _ (Oper.mk _ (Op.alloc 43) _ _ _ none :: _) _ _; refine wpList_arrAlloc rfl rfl ?_; intro w2 a2 b2 s2)
        | (with_reducible show wpList Try.prog _ _ (Oper.mk _ (Op.load 43 _) _ _ _ none :: _) _ _; refine wpList_arrLoad rfl (.tmp 9) rfl w1.heap.size rfl (cts L) a3 (cts_len L) ?_))
      have bb3 : Below w.heap.size w w3 := (b1.trans (b2.mono z1)).trans (b3.mono z1)
      have z3 := bb3.size
      refine (decoderOf_any _ _ _ L w3 ((unhide H).later bb3) (unhide hg)).mono ?_
      rintro e w4 ⟨g, o, rfl, hgw, hd4, hO, b4⟩
      have bb4 : Below w.heap.size w w4 := bb3.trans (b4.mono z3)
      have z4 := bb4.size
      have HD := hide hd4
      have HO := hide hO
      have hg4 := hd4.lt
      clear hd4 hO a2 a3 o3 b2 b3 s2 s3 b4
      go_wp2_with fail
      refine (bitsFrom_any _ _ _ _ w4).mono ?_
      rintro e w5 ⟨rfl, q5, p5, b5, s5⟩
      have Q5 := hide q5
      have P5 := hide p5
      clear q5 p5 b1 bb3 z3 hgw z1
      clear w3
      go_wp2_with fail
      go_loopw [6, 7, 31] (fun v t i wr => ∃ (k at_ : Nat) (acc : List Int) (xo : Option Addr) (xc : Nat), k ≤ A ∧ i = .int .i64 k ∧ t = .int .i64 (at_ : Int) ∧ v = .slice xo acc.length xc ∧ IMine (w4.heap.size + 2) wr xo acc.length xc acc ∧ acc.length = k ∧ (r1, r2, r3) = alls L bs (A - k) at_ acc ∧ One wr w4.heap.size 28 (.slice bo m d) ∧ One wr (w4.heap.size + 1) 3 (.int .i64 (at_ : Int)) ∧ Below w4.heap.size w4 wr ∧ w4.heap.size + 2 ≤ wr.heap.size ∧ at_ ≤ 8 * m) (fun _ _ i _ => A - (intOf i).toNat)
      case atStart => exact ⟨0, 0, [], none, 0, by omega, rfl, rfl, rfl, IMine.nought _ _, rfl, unhide hans, unhide Q5, unhide P5, b5, by omega, by omega⟩
      case round =>
        clear b5 s5
        obtain ⟨k, at_, acc, xo, xc, hk, rfl, rfl, rfl, hmine, hal, hans2, q, p, hbel, hsz, hat8⟩ := hrel
        have HANS := hide hans2
        have HM := hide hmine
        have HQ := hide q
        have HP := hide p
        have HAL := hide hal
        clear hans2 hmine q p hal
        by_cases hlt : k < A
        · have rdc := hide (read_any g (w4.heap.size + 1) w4.heap.size at_ bo m d bs L o wr ((unhide HD).later hbel) (unhide HO) (unhide hg) (unhide HP) (unhide HQ) (fun w' hw => (unhide HB).later ((bb4.trans (hbel.mono z4)).trans (hw.below.mono (by omega)))) (by omega) (by omega) hm (by omega))
          obtain ⟨f, hf⟩ : ∃ f, A - k = f + 1 := ⟨A - k - 1, by omega⟩
          have hok := hide (dec_ok L bs at_ (lng L 16) 0 0)
          have herr := hide (dec_err L bs at_ (lng L 16) 0 0)
          have hnext := hide (show (rd L bs at_).2.2 = 0 → (r1, r2, r3) = alls L bs (A - (k + 1)) (at_ + (rd L bs at_).2.1.toNat) (acc ++ [(rd L bs at_).1]) from fun q => by
            rw [unhide HANS, hf, alls_ok _ _ _ _ _ q, show A - (k + 1) = f by omega])
          have hstop := hide (show ¬ (rd L bs at_).2.2 = 0 → (r1, r2, r3) = ([], 0, (rd L bs at_).2.2) from fun q => by
            rw [unhide HANS, hf, alls_no _ _ _ _ _ q])
          by_cases hz : (rd L bs at_).2.2 = 0
          · obtain ⟨i, j, e1, hi1, hi2, hi3, hi4, hi5⟩ := unhide hok hz
            have e2 : rd L bs at_ = ((i : Int), (j : Int), 0) := e1
            have hn2 := hide (unhide hnext hz)
            rw [e2] at rdc hn2
            simp only [Int.toNat_natCast] at hn2
            have hj15 : j ≤ 15 := by have := lng_le L 16; omega
            have hi320 : i ≤ 320 := by have := (unhide hg).len; omega
            have hj8 : at_ + j ≤ 8 * m := by rw [← unhide hblen]; exact hi5
            clear e1 e2 hz hi1 hi2 hi3 hi4 hi5 hf
            go_wp2_with fail
            refine (unhide rdc).mono ?_
            rintro e w6 ⟨rfl, b6, hone⟩
            have P6 := hide (show One w6 (w4.heap.size + 1) 3 (.int .i64 ((at_ + j : Nat) : Int)) by have := hone (by trivial); simpa using this)
            have m6 := hide ((unhide HM).keep (w' := w6) (fun k hk => b6.block k (by omega)))
            have Q6 := hide ((unhide HQ).but b6 (by omega))
            have bel6 : Below w4.heap.size w4 w6 := hbel.trans (b6.below.mono (by omega))
            have sz6 : w4.heap.size + 2 ≤ w6.heap.size := by rw [b6.size]; exact hsz
            clear hone b6
            go_wp2_with (at_builtin; refine wpList_iapp rfl (.tmp 43) (.tmp 45) rfl (w4.heap.size + 2) _ _ _ _ rfl ((unhide m6).later (below_alloc w6 _)) _ _ _ _ rfl (Is.one w6 (i : Int) (by omega) (by omega)) (by have := unhide HAL; omega) (by simp <;> omega) ?_; intro ao7 c7 w7 m7 b7)
            have b67 : Below (w4.heap.size + 2) w6 w7 := ((below_alloc w6 _).mono sz6).trans b7
            have z67 := b67.size
            go_roundw
            case rel =>
              refine ⟨k + 1, at_ + j, acc ++ [(i : Int)], ao7, c7, by omega, by go_num, by go_num, by simp, by simpa using m7, by have := unhide HAL; simp; omega, unhide hn2, (unhide Q6).under b67 (by omega), (unhide P6).under b67 (by omega), bel6.trans (b67.mono (by omega)), by omega, hj8⟩
            case measure => simp [intOf]; omega
          · have hn2 := hide (unhide hstop hz)
            have hE := hide hz
            have hE2 : ((rd L bs at_).2.2 != 0) = true := by simpa using hz
            clear hz hf
            generalize rd L bs at_ = RR at *
            obtain ⟨q1, q2, q3⟩ := RR
            go_wp2_with fail
            refine (unhide rdc).mono ?_
            rintro e w6 ⟨rfl, b6, hone⟩
            clear hone
            go_wp2_with fail
            go_ret3
            have ha := unhide hn2
            simp only [Prod.mk.injEq] at ha
            obtain ⟨rfl, rfl, rfl⟩ := ha
            exact ⟨⟨_, _, _, rfl, Is.nought _⟩, bb4.trans ((hbel.trans (b6.below.mono (by omega))).mono z4)⟩
        · have ha := unhide HANS
          rw [show A - k = 0 by omega] at ha
          simp only [alls, Prod.mk.injEq] at ha
          obtain ⟨rfl, rfl, rfl⟩ := ha
          go_wp2_with fail
          go_ret3
          exact ⟨⟨_, _, _, rfl, (unhide HM).is⟩, bb4.trans (hbel.mono z4)⟩
  · have he' : (cer L != 0) = true := by simpa using he
    have hans := hide (show (r1, r2, r3) = ([], 0, cer L) by rw [← unhide HR]; unfold alq; rw [if_neg he])
    clear he
    go_wp2_with (first
      | (with_reducible show wpList Try.prog _ _ (Oper.mk _ (Op.store 43 _ _) _ _ _ none :: _) _ _; refine wpList_arrStore rfl (.tmp 9) (.tmp 18) rfl w1.heap.size (ctd L) zero16 rfl rfl a2 (ctd_len L) zero16_len ?_; intro w3 a3 o3 s3 b3)
      | (with_reducible show wpList Try.prog _ _ (Oper.mk _ (Op.alloc 43) _ _ _ none :: _) _ _; refine wpList_arrAlloc rfl rfl ?_; intro w2 a2 b2 s2))
    go_ret3
    have ha := unhide hans
    simp only [Prod.mk.injEq] at ha
    obtain ⟨rfl, rfl, rfl⟩ := ha
    exact ⟨⟨_, _, _, rfl, Is.nought _⟩, (b1.trans (b2.mono z1)).trans (b3.mono z1)⟩

end Go.Proofs.Ytgphglghjpeojaa
