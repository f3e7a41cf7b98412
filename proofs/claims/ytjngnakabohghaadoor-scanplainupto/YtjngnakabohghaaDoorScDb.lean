/-
  What doubled, Name and Quote of the document's own answers return for any text. Conditions: at most 2,000,000 bytes.
-/
import Derived.Test.YtjngnakabohghaaDoorScQt
import Derived.Test.YtjngnakabohghaaDoorScNum2
import Derived.Test.YtjngnakabohghaaDoorSameW
namespace Go.Proofs.YtjngnakabohghaaDoor
open Go.RowKit
set_option linter.unusedVariables false
set_option linter.unusedSimpArgs false

/-- Bytes, each once more for each time that it stands in T. -/
def db2 (T l : Bl) : Bl := l.flatMap fun x => List.replicate (T.count x) x ++ [x]
theorem db2_nil (T : Bl) : db2 T [] = [] := rfl
theorem db2_cons (T : Bl) (x : UInt8) (l : Bl) : db2 T (x :: l) = (List.replicate (T.count x) x ++ [x]) ++ db2 T l := rfl
theorem db2_app (T a b : Bl) : db2 T (a ++ b) = db2 T a ++ db2 T b := by simp [db2]
theorem db2_one (T : Bl) (x : UInt8) : db2 T [x] = List.replicate (T.count x) x ++ [x] := by simp [db2]
theorem db2_len (T : Bl) (hT : T.length ≤ 2) : ∀ l : Bl, (db2 T l).length ≤ 3 * l.length
  | [] => by simp [db2_nil]
  | x :: l => by
    have := db2_len T hT l
    have := List.count_le_length (a := x) (l := T)
    rw [db2_cons, List.length_append, List.length_append, List.length_replicate, List.length_cons, List.length_cons, List.length_nil]
    omega
theorem dbl_app (c : UInt8) (a b : Bl) : dbl c (a ++ b) = dbl c a ++ dbl c b := by simp [dbl]
theorem db2_tick : ∀ l : Bl, db2 [96] l = dbl 96 l
  | [] => rfl
  | x :: l => by
    rw [db2_cons, dbl_cons, db2_tick l]
    by_cases h : x = 96
    · subst h; rfl
    · have h2 : ¬ 96 = x := fun e => h e.symm
      simp [List.count_cons, h, h2]
theorem db2_quote : ∀ l : Bl, db2 [39, 92] l = dbl 39 (dbl 92 l)
  | [] => rfl
  | x :: l => by
    rw [db2_cons, dbl_cons, dbl_app, db2_quote l]
    by_cases h : x = 92
    · subst h; rfl
    · by_cases h3 : x = 39
      · subst h3; rfl
      · have h2 : ¬ 92 = x := fun e => h e.symm
        have h4 : ¬ 39 = x := fun e => h3 e.symm
        simp [List.count_cons, h, h2, h3, h4, dbl]
theorem take_at (s : ByteArray) (j : Nat) (h : j < s.size) : (bl s).take (j + 1) = (bl s).take j ++ [(bl s).getD j 0] := by
  have h2 : j < (bl s).length := by rw [bl_len]; exact h
  rw [List.take_add_one, List.getElem?_eq_getElem h2, List.getD_eq_getElem?_getD, List.getElem?_eq_getElem h2]
  rfl
theorem ext_one (s : ByteArray) (j : Nat) (h : j < s.size) : bl (s.extract j (j + 1)) = [(bl s).getD j 0] := by
  have h2 : j < (bl s).length := by rw [bl_len]; exact h
  rw [bl_sub, show j + 1 - j = 1 by omega, List.drop_eq_getElem_cons h2, List.getD_eq_getElem?_getD, List.getElem?_eq_getElem h2]
  rfl
theorem take_all (s : ByteArray) (j : Nat) (h : ¬ j < s.size) (h2 : j ≤ s.size) : (bl s).take j = bl s := List.take_of_length_le (by rw [bl_len]; omega)
theorem str_ba {o : ByteArray} {l : Bl} (h : bl o = l) : o = ba l := by rw [← h, ba_bl]

set_option maxHeartbeats 2000000 in
set_option maxRecDepth 20000 in
theorem doubled_any (s Q T : ByteArray) (w : World) (hs : s.size ≤ 2000000) (hQ : Q.size ≤ 10) (hT : T.size ≤ 2) :
    Calls Tryd.prog 35 #[.string s, .string Q, .string T] w fun e w' => e = .returned (.string (ba (bl Q ++ db2 (bl T) (bl s) ++ bl Q))) ∧ Below w.heap.size w w' := by
  have hTl : (bl T).length ≤ 2 := by rw [bl_len]; exact hT
  have HTL := hide hTl
  clear hTl
  go_enter Tryd.func35, Tryd.ntmps35
  go_wp2_with fail
  go_loopw [7, 8] (fun ov iv wr => ∃ (j : Nat) (o : ByteArray), j ≤ s.size ∧ ov = .string o ∧ iv = .int .i64 (j : Int) ∧ bl o = bl Q ++ db2 (bl T) ((bl s).take j) ∧ Below w.heap.size w wr) (fun _ iv _ => s.size - (intOf iv).toNat)
  case atStart => exact ⟨0, Q, by omega, rfl, rfl, by simp [db2], Below.refl _ _⟩
  case round =>
    obtain ⟨j, o, hj, rfl, rfl, ho, hb⟩ := hrel
    have hoz : o.size ≤ 10 + 3 * j := by
      have h1 := db2_len (bl T) (unhide HTL) ((bl s).take j)
      have h2 : (bl o).length = (bl Q).length + (db2 (bl T) ((bl s).take j)).length := by rw [ho, List.length_append]
      have h3 : ((bl s).take j).length ≤ j := by rw [List.length_take]; omega
      rw [bl_len, bl_len] at h2
      omega
    have HO := hide ho
    clear ho
    by_cases hlt : j < s.size
    · have hgj := bl_at s j hlt
      have htk := hide (take_at s j hlt)
      have hex := hide (ext_one s j hlt)
      have hez : (s.extract j (j + 1)).size = 1 := by rw [← bl_len, ext_one s j hlt]; rfl
      obtain ⟨x, hx⟩ : ∃ x, x = (bl s).getD j 0 := ⟨_, rfl⟩
      rw [← hx] at hgj htk hex
      obtain ⟨X, hX⟩ : ∃ X, (x.toNat : Int) = X := ⟨_, rfl⟩
      have x0 : 0 ≤ X := by omega
      have x1 : X ≤ 255 := by have := x.toNat_lt; omega
      clear hx
      go_wp2_with fail
      go_loopw [7, 9] (fun ov kv wi => ∃ (m : Nat) (o2 : ByteArray), m ≤ T.size ∧ ov = .string o2 ∧ kv = .int .i64 (m : Int) ∧ bl o2 = bl o ++ List.replicate (((bl T).take m).count x) x ∧ Below w.heap.size w wi) (fun _ kv _ => T.size - (intOf kv).toNat)
      case atStart => exact ⟨0, o, by omega, rfl, rfl, by simp, hb⟩
      case round =>
        obtain ⟨m, o2, hm, rfl, rfl, ho2, hb2⟩ := hrel
        have hoz2 : o2.size ≤ 12 + 3 * j := by
          have h1 : ((bl T).take m).count x ≤ ((bl T).take m).length := List.count_le_length
          have h2 : (bl o2).length = (bl o).length + ((bl T).take m).count x := by rw [ho2, List.length_append, List.length_replicate]
          have h3 : ((bl T).take m).length ≤ 2 := by have := unhide HTL; rw [List.length_take]; omega
          rw [bl_len, bl_len] at h2
          omega
        have HO2 := hide ho2
        clear ho2
        have g1 : ¬ 9223372036854775807 < o2.size + (s.extract j (j + 1)).size := by omega
        by_cases hmt : m < T.size
        · have hgm := bl_at T m hmt
          have htm := hide (take_at T m hmt)
          obtain ⟨t, ht⟩ : ∃ t, t = (bl T).getD m 0 := ⟨_, rfl⟩
          rw [← ht] at hgm htm
          obtain ⟨Y, hY⟩ : ∃ Y, (t.toNat : Int) = Y := ⟨_, rfl⟩
          have y0 : 0 ≤ Y := by omega
          have y1 : Y ≤ 255 := by have := t.toNat_lt; omega
          clear ht
          by_cases he : X = Y
          · have HE := hide (show x = t by apply UInt8.toNat_inj.1; omega)
            subst he
            go_wp2_with fail
            go_quiet (fail)
            go_wp2_with fail
            go_roundw
            case rel =>
              refine ⟨m + 1, _, by omega, rfl, by go_num, ?_, below_drewN hb2 nq⟩
              rw [bl_app, unhide HO2, unhide hex, unhide htm, List.count_append, ← unhide HE]
              simp [List.replicate_succ']
            case measure => simp [intOf]; omega
          · have HE := hide (show ¬ t = x by rintro rfl; exact he (by omega))
            go_wp2_with fail
            go_quiet (fail)
            go_wp2_with fail
            go_roundw
            case rel =>
              refine ⟨m + 1, o2, by omega, rfl, by go_num, ?_, below_drewN hb2 nq⟩
              rw [unhide HO2, unhide htm, List.count_append]
              simp [List.count_cons, unhide HE]
            case measure => simp [intOf]; omega
        · have hall := hide (take_all T m hmt hm)
          go_wp2_with fail
          go_roundw
          case rel =>
            refine ⟨j + 1, _, by omega, rfl, by go_num, ?_, hb2⟩
            rw [bl_app, unhide HO2, unhide hex, unhide hall, unhide HO, unhide htk, db2_app, db2_one]
            simp
          case measure => simp [intOf]; omega
    · have hall := hide (take_all s j hlt hj)
      have g2 : ¬ 9223372036854775807 < o.size + Q.size := by omega
      go_wp2_with fail
      go_ret
      exact ⟨by rw [str_ba (show bl (o ++ Q) = _ by rw [bl_app, unhide HO, unhide hall])]; rfl, hb⟩
theorem rName_any (s : ByteArray) (w : World) (hs : s.size ≤ 2000000) : Calls Tryd.prog 58 #[.string s] w fun e w' => e = .returned (.string (ba (btw 96 (bl s)))) ∧ Below w.heap.size w w' := by
  have c0 := hide (doubled_any s ⟨#[96]⟩ ⟨#[96]⟩ w hs (by decide) (by decide))
  have hE : ([96] : Bl) ++ db2 [96] (bl s) ++ [96] = btw 96 (bl s) := by rw [db2_tick]; rfl
  change Hid (Calls Tryd.prog _ _ w fun e w' => e = .returned (.string (ba (([96] : Bl) ++ db2 [96] (bl s) ++ [96]))) ∧ Below w.heap.size w w') at c0
  rw [hE] at c0
  go_enter Tryd.func58, Tryd.ntmps58
  go_wp2_with (go_at_call 35; refine (unhide c0).mono ?_; rintro e w1 ⟨rfl, b1⟩)
  go_ret
  exact ⟨rfl, b1⟩
theorem rQuote_any (s : ByteArray) (w : World) (hs : s.size ≤ 2000000) : Calls Tryd.prog 20 #[.string s] w fun e w' => e = .returned (.string (ba (qto (bl s)))) ∧ Below w.heap.size w w' := by
  have c0 := hide (doubled_any s ⟨#[39]⟩ ⟨#[39, 92]⟩ w hs (by decide) (by decide))
  have hE : ([39] : Bl) ++ db2 [39, 92] (bl s) ++ [39] = qto (bl s) := by rw [db2_quote]; rfl
  change Hid (Calls Tryd.prog _ _ w fun e w' => e = .returned (.string (ba (([39] : Bl) ++ db2 [39, 92] (bl s) ++ [39]))) ∧ Below w.heap.size w w') at c0
  rw [hE] at c0
  go_enter Tryd.func20, Tryd.ntmps20
  go_wp2_with (go_at_call 35; refine (unhide c0).mono ?_; rintro e w1 ⟨rfl, b1⟩)
  go_ret
  exact ⟨rfl, b1⟩

end Go.Proofs.YtjngnakabohghaaDoor
