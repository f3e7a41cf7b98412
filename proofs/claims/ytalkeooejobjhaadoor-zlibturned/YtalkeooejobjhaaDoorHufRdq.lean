/-
  What Read of package huffman returns for any lengths, bytes and place. It writes nothing that was there. Conditions: the slices can be read, at most a million bytes.
-/
import Derived.Test.YtalkeooejobjhaaDoorHufRead
namespace Go.Proofs.YtalkeooejobjhaaDoor
open Go.RowKit
set_option linter.unusedVariables false
set_option linter.unusedSimpArgs false

/-- What Read answers. -/
def rdq (L bs : List Int) (at_ : Int) : Int × Int × Int := if cer L = 0 then (if at_ < 0 then (0, 0, 2) else rd L bs at_.toNat) else (0, 0, cer L)

set_option maxHeartbeats 2000000 in
set_option maxRecDepth 20000 in
theorem readq_any (ao : Option Addr) (n c : Nat) (L : List Int) (bo : Option Addr) (m d : Nat) (bs : List Int) (at_ : Int) (w : World) (h : Is w ao n c L) (hb : Bs w bo m d bs) (hm : m ≤ 1000000) (hat : at_ ≤ 9223372036854775807) :
    Calls Tryd.prog 65 #[.slice ao n c, .slice bo m d, .int .i64 at_] w fun e w' => e = .returned (.tuple #[.int .i64 (rdq L bs at_).1, .int .i64 (rdq L bs at_).2.1, .int .i64 (rdq L bs at_).2.2]) ∧ Below w.heap.size w w' := by
  have H := hide h
  have HB := hide hb
  have HAT := hide hat
  clear h hb hat
  generalize hR : rdq L bs at_ = R
  obtain ⟨r1, r2, r3⟩ := R
  have HR := hide hR
  clear hR
  go_enter Tryd.func65, Tryd.ntmps65
  go_wp2_with fail
  refine (counted_any _ _ _ _ _ (unhide H)).mono ?_
  rintro e w1 ⟨rfl, b1⟩
  have z1 := b1.size
  by_cases he : cer L = 0
  · have hc := hide (show ctd L = cts L by unfold ctd; rw [he]; rfl)
    have hg := hide (good_of he)
    have HE := hide he
    rw [unhide hc, he]
    clear he
    by_cases hneg : at_ < 0
    · have hans := hide (show (r1, r2, r3) = (0, 0, 2) by rw [← unhide HR]; unfold rdq; rw [if_pos (unhide HE), if_pos hneg])
      go_wp2_with (first
        | (with_reducible show wpList Tryd.prog _ _ (Oper.mk _ (Op.store 111 _ _) _ _ _ none :: _) _ _; refine wpList_arrStore rfl (.tmp 9) (.tmp 13) rfl w1.heap.size (cts L) zero16 rfl rfl a2 (cts_len L) zero16_len ?_; intro w3 a3 o3 s3 b3)
        | (with_reducible show wpList Tryd.prog _ _ (Oper.mk _ (Op.alloc 111) _ _ _ none :: _) _ _; refine wpList_arrAlloc rfl rfl ?_; intro w2 a2 b2 s2))
      go_ret3
      have ha := unhide hans
      simp only [Prod.mk.injEq] at ha
      obtain ⟨rfl, rfl, rfl⟩ := ha
      exact ⟨rfl, (b1.trans (b2.mono z1)).trans (b3.mono z1)⟩
    · obtain ⟨A, hA⟩ : ∃ A : Nat, at_ = (A : Int) := ⟨at_.toNat, by omega⟩
      subst hA
      have hans := hide (show (r1, r2, r3) = rd L bs A by rw [← unhide HR]; unfold rdq; rw [if_pos (unhide HE), if_neg hneg]; simp)
      go_wp2_with (first
        | (with_reducible show wpList Tryd.prog _ _ (Oper.mk _ (Op.store 111 _ _) _ _ _ none :: _) _ _; refine wpList_arrStore rfl (.tmp 9) (.tmp 13) rfl w1.heap.size (cts L) zero16 rfl rfl a2 (cts_len L) zero16_len ?_; intro w3 a3 o3 s3 b3)
        | (with_reducible show wpList Tryd.prog _ _ (Oper.mk _ (Op.alloc 111) _ _ _ none :: _) _ _; refine wpList_arrAlloc rfl rfl ?_; intro w2 a2 b2 s2)
        | (with_reducible show wpList Tryd.prog _ _ (Oper.mk _ (Op.load 111 _) _ _ _ none :: _) _ _; refine wpList_arrLoad rfl (.tmp 9) rfl w1.heap.size rfl (cts L) a3 (cts_len L) ?_))
      have bb3 : Below w.heap.size w w3 := (b1.trans (b2.mono z1)).trans (b3.mono z1)
      have z3 := bb3.size
      refine (decoderOf_any _ _ _ L w3 ((unhide H).later bb3) (unhide hg)).mono ?_
      rintro e w4 ⟨g, o, rfl, hgw, hd4, hO, b4⟩
      have bb4 : Below w.heap.size w w4 := bb3.trans (b4.mono z3)
      have z4 := bb4.size
      have HD := hide hd4
      have HO := hide hO
      have hg4 := hd4.lt
      clear hd4 hO a2 a3 o3 b2 b3 s2 s3 b4
      go_wp2_with fail
      refine (bitsFrom_any _ _ _ _ w4).mono ?_
      rintro e w5 ⟨rfl, q5, p5, b5, s5⟩
      have bb5 : Below w.heap.size w w5 := bb4.trans (b5.mono z4)
      have rdc := hide (read_any g (w4.heap.size + 1) w4.heap.size A bo m d bs L o w5 ((unhide HD).later b5) (unhide HO) (unhide hg) p5 q5 (fun w' hw => (unhide HB).later (bb5.trans (hw.below.mono (by omega)))) (by omega) (by omega) hm (unhide HAT))
      rw [← unhide hans] at rdc
      clear p5 q5
      go_wp2_with fail
      refine (unhide rdc).mono ?_
      rintro e w6 ⟨rfl, b6, _⟩
      go_wp2_with fail
      go_ret3
      exact ⟨rfl, bb5.trans (b6.below.mono (by omega))⟩
  · have he' : (cer L != 0) = true := by simpa using he
    have hans := hide (show (r1, r2, r3) = (0, 0, cer L) by rw [← unhide HR]; unfold rdq; rw [if_neg he])
    clear he
    go_wp2_with (first
      | (with_reducible show wpList Tryd.prog _ _ (Oper.mk _ (Op.store 111 _ _) _ _ _ none :: _) _ _; refine wpList_arrStore rfl (.tmp 9) (.tmp 13) rfl w1.heap.size (ctd L) zero16 rfl rfl a2 (ctd_len L) zero16_len ?_; intro w3 a3 o3 s3 b3)
      | (with_reducible show wpList Tryd.prog _ _ (Oper.mk _ (Op.alloc 111) _ _ _ none :: _) _ _; refine wpList_arrAlloc rfl rfl ?_; intro w2 a2 b2 s2))
    go_ret3
    have ha := unhide hans
    simp only [Prod.mk.injEq] at ha
    obtain ⟨rfl, rfl, rfl⟩ := ha
    exact ⟨rfl, (b1.trans (b2.mono z1)).trans (b3.mono z1)⟩

theorem One.under {w w' : World} {g B : Nat} {t : TypeId} {v : Value} (h : One w g t v) (hb : Below B w w') (hg : g < B) : One w' g t v := by
  unfold One; rw [hb.block g hg]; exact h

end Go.Proofs.YtalkeooejobjhaaDoor
