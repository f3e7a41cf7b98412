/-
  What Append of commands returns: the bytes behind b in new memory, or an error. Conditions: the numbers fit; the slices can be read; lengths below 2 to the 40.
-/
import Derived.Test.YtpidlfifipgadaaDoorCmWr
namespace Go.Proofs.YtpidlfifipgadaaDoor
open Go.RowKit
set_option linter.unusedVariables false
set_option linter.unusedSimpArgs false

theorem le_len (x : Int) (n : Nat) : (le x n).length = n := le_length x n
theorem fb_len (C : Cm) (F : Int) : (fb C F).length ≤ C.t.size + C.d.length + 4 := by
  unfold fb
  split
  · rw [nums_length]; omega
  split
  · rw [le_length]; omega
  split
  · rw [le_length]; omega
  split
  · simp
  split
  · rw [le_length]; omega
  split
  · rw [le_length]; omega
  split
  · rw [le_length]; omega
  split
  · omega
  · simp
theorem flat_len (C : Cm) : ∀ l : List Int, (l.flatMap (fb C)).length ≤ l.length * (C.t.size + C.d.length + 4)
  | [] => by simp
  | x :: r => by
    have := flat_len C r
    have h2 := fb_len C x
    rw [List.flatMap_cons, List.length_append, List.length_cons, Nat.add_mul, Nat.one_mul]
    omega
theorem flat_next (C : Cm) (l : List Int) (j : Nat) (h : j < l.length) : (l.take (j + 1)).flatMap (fb C) = (l.take j).flatMap (fb C) ++ fb C (l[j]?.getD 0) := by
  rw [List.take_add_one, List.getElem?_eq_getElem h, List.flatMap_append]
  simp

/-- What a function that writes leaves. -/
def OutP (w : World) (R : Option (List Int)) (er : Int) (e : Ending) (w' : World) : Prop :=
  match R with
  | none => e = .returned (.tuple #[.slice none 0 0, .int .i64 er]) ∧ Below w.heap.size w w'
  | some l => ∃ ao n c, e = .returned (.tuple #[.slice ao n c, .int .i64 0]) ∧ Mine w.heap.size w' ao n c l ∧ Below w.heap.size w w'

theorem ckC_two (c : Cd) : ckC c = 0 ∨ ckC c = 2 := by
  unfold ckC
  split
  · exact .inr rfl
  · split
    · exact .inl rfl
    · exact .inr rfl

set_option maxHeartbeats 4000000 in
set_option maxRecDepth 100000 in
theorem cmAppend_any (bo : Option Addr) (bn bc : Nat) (b : List Int) (C : Cm) (xo : Option Addr) (xn xc : Nat) (w : World) (hb : Bs w bo bn bc b) (hC : C.ok) (hd : Bs w xo xn xc C.d) (hsz : bn + 8 * (C.t.size + xn) + 1000 ≤ 1099511627776) :
    Calls Tryd.prog 12 #[.slice bo bn bc, .agg (C.cd xo xn xc).row] w fun e w' => OutP w (if ckC (C.cd xo xn xc) = 0 then some (b ++ cmB C) else none) 2 e w' := by
  have cK := hide (cmCheck_any (C.cd xo xn xc) (w.alloc (.cells (C.cd xo xn xc).row 26)))
  have hk : (C.cd xo xn xc).k = C.k := rfl
  have hkb := hC.k
  obtain ⟨D, hD⟩ : ∃ D, D = C.cd xo xn xc := ⟨_, rfl⟩
  rw [← hD] at cK hk ⊢
  have cP := hide (fun B g wx ao n c l (hx : Wl B g wx ao n c l) hB hdx F hF hn => put_any B g wx ao n c l hx hB C hC xo xn xc hdx F hF hn)
  rw [← hD] at cP
  have b0 := below_alloc w (.cells D.row 26)
  have h0 := heap_alloc_new w (.cells D.row 26)
  have z0 : (w.alloc (.cells D.row 26)).heap.size = w.heap.size + 1 := by simp
  have hbx : ∀ wx : World, (Instr.box 26 (.agg D.row)).run Tryd.prog wx = .ok (.pointer (some ⟨wx.heap.size, 0, none⟩)) (wx.alloc (.cells D.row 26)) := by intro wx; rfl
  have H0 := hide h0
  have B0 := hide b0
  clear hD h0 b0
  rcases ckC_two D with q | q
  rotate_left
  · rw [q] at cK
    rw [if_neg (by omega)]
    clear hb hC hd cP q
    go_enter Tryd.func12, Tryd.ntmps12
    go_wp2_with (with_reducible show wpList Tryd.prog _ _ (Oper.mk _ (Op.load 26 _) _ _ _ none :: _) _ _; refine wpList_loadC rfl (.tmp 3) rfl w.heap.size D (by simp [Act.eval, Act.put]) (unhide H0) ?_)
    refine (unhide cK).mono ?_
    rintro e w1 ⟨rfl, b1⟩
    have B1 := hide ((unhide B0).trans (b1.mono (by rw [z0]; omega)))
    clear b1 cK B0
    go_wp2_with fail
    go_ret2
    exact ⟨rfl, unhide B1⟩
  · rw [q] at cK
    rw [if_pos q]
    have hbl := hb.len
    have hdl := hd.len
    have HRES := hide (show b ++ cmB C = (b ++ [C.k]) ++ (fl C.k).flatMap (fb C) by unfold cmB; simp)
    have hfl := fl_at C.k
    have hflen := fl_len C.k
    have cF := hide (fun wx => fields_any C.k wx)
    obtain ⟨l, hl⟩ : ∃ l, l = fl C.k := ⟨_, rfl⟩
    rw [← hl] at HRES hfl hflen cF
    have HBB := hide hb
    have HDD := hide hd
    generalize b ++ cmB C = RR at *
    have hk' : D.k = C.k := hk
    clear hb hd hC q hl
    go_enter Tryd.func12, Tryd.ntmps12
    go_wp2_with (with_reducible show wpList Tryd.prog _ _ (Oper.mk _ (Op.load 26 _) _ _ _ none :: _) _ _; refine wpList_loadC rfl (.tmp 3) rfl w.heap.size D (by simp [Act.eval, Act.put]) (unhide H0) ?_)
    refine (unhide cK).mono ?_
    rintro e w1 ⟨rfl, b1⟩
    rw [z0] at b1
    have B1 := hide ((unhide B0).trans (b1.mono (by omega)))
    have z1 := b1.size
    rw [z0] at z1
    have H1 := hide ((b1.block _ (by omega)).trans (unhide H0))
    have cN := hide (newWriter_any bo bn bc b w1 ((unhide HBB).later (unhide B1)) (by omega))
    clear b1 cK B0 H0
    go_wp2_with fail
    refine (unhide cN).mono ?_
    rintro e w2 ⟨g, ao2, n2, c2, rfl, hw, b2⟩
    have z2 := b2.size
    have hn2 := hw.own.len
    have H2 := hide ((b2.block w.heap.size (by omega)).trans (unhide H1))
    have k2 : w2.cell? ⟨w.heap.size, 0, none⟩ = some (.int .u8 C.k) := by rw [cell_of_row _ _ 0 _ _ _ (unhide H2), ← hk']; rfl
    have cM := hide (wmark_any w1.heap.size g w2 ao2 n2 c2 b hw z2 C.k hkb.1 hkb.2 (by omega))
    have B2 := hide ((unhide B1).trans (b2.mono (unhide B1).size))
    have hgg := hw.ge
    clear hw b2 cN
    go_wp2_with fail
    refine (unhide cM).mono ?_
    rintro e w3 ⟨rfl, ⟨ao3, n3, c3, hw⟩, b3, kp3⟩
    have H3 := hide ((b3.block w.heap.size (by omega)).trans (unhide H2))
    have k3 : w3.cell? ⟨w.heap.size, 0, none⟩ = some (.int .u8 C.k) := by rw [cell_of_row _ _ 0 _ _ _ (unhide H3), ← hk']; rfl
    have B3 := hide ((unhide B2).trans (b3.mono (by omega)))
    have z3 := b3.size
    have HW := hide hw
    have hg3 := hw.lt
    clear hw b3 kp3 cM k2
    go_wp2_with fail
    refine (unhide cF w3).mono ?_
    rintro e w4 ⟨fo, fc, rfl, hfd, hfo, b4⟩
    have H4 := hide ((b4.block w.heap.size (by omega)).trans (unhide H3))
    have HW4 := hide ((unhide HW).later b4)
    have B4 := hide ((unhide B3).trans (b4.mono (by omega)))
    have HFD := hide hfd
    have HFO := hide hfo
    clear hfd hfo b4 HW k3
    go_wp2_with fail
    go_loopw [25] (fun i wr => ∃ (j : Nat), j ≤ l.length ∧ i = .int .i64 (j : Int) ∧ (∃ ao n c, Wl w1.heap.size g wr ao n c ((b ++ [C.k]) ++ (l.take j).flatMap (fb C))) ∧ wr.heap[w.heap.size]? = some (.cells D.row 26 (0, 0)) ∧ Fd wr fo l ∧ Below w.heap.size w wr) (fun i _ => l.length - (intOf i).toNat)
    case atStart => exact ⟨0, by omega, rfl, ⟨_, _, _, by simpa using unhide HW4⟩, unhide H4, unhide HFD, unhide B4⟩
    case round =>
      obtain ⟨j, hj, rfl, ⟨ao, n, c, hw⟩, hh, hfd, hbw⟩ := hrel
      clear HW4 H4 HFD B4
      have hnl := hw.own.len
      have hgl := hw.lt
      by_cases hlt : j < l.length
      · obtain ⟨bb, i1, i2⟩ := hfd.idx l.length fc rfl hlt (j : Int) rfl
        have hq := hfl j hlt
        have hst := hide (flat_next C l j hlt)
        generalize l[j]?.getD 0 = F at *
        have hle : ((l.take j).flatMap (fb C)).length ≤ 4 * (C.t.size + C.d.length + 4) := Nat.le_trans (flat_len C _) (Nat.mul_le_mul_right _ (by simp; omega))
        have cc := hide (unhide cP w1.heap.size g wr ao n c _ hw (by omega) ((unhide HDD).later hbw) F hq (by rw [List.length_append, List.length_append, List.length_singleton] at hnl; omega))
        have HH := hide hh
        have HFD := hide hfd
        have HB := hide hbw
        clear hw hh hfd hbw hnl hle hq
        go_wp2_with (with_reducible show wpList Tryd.prog _ _ (Oper.mk _ (Op.load 26 _) _ _ _ none :: _) _ _; refine wpList_loadC rfl (.tmp 3) rfl w.heap.size D (by simp [Act.eval, Act.put]) (unhide HH) ?_)
        refine (unhide cc).mono ?_
        rintro e w5 ⟨rfl, ⟨ao5, n5, c5, hw5⟩, b5, k5⟩
        have HW5 := hide hw5
        have H5 := hide ((b5.block w.heap.size (by omega)).trans (unhide HH))
        have HFD5 := hide ((unhide HFD).kp k5 (fun x hx => by have := unhide HFO x hx; omega))
        have HB5 := hide ((unhide HB).trans (b5.mono (by omega)))
        clear hw5 b5 k5 cc
        go_wp2_with fail
        go_roundw
        case rel =>
          refine ⟨j + 1, by omega, by go_num, ⟨ao5, n5, c5, ?_⟩, unhide H5, unhide HFD5, unhide HB5⟩
          rw [unhide hst, ← List.append_assoc]
          exact unhide HW5
        case measure => simp [intOf]; omega
      · have hjn : j = l.length := by omega
        subst hjn
        rw [List.take_of_length_le (Nat.le_refl _), ← unhide HRES] at hw
        have kk := hw.c0
        have HW := hide hw
        have HB := hide hbw
        clear hw hbw hh hfd hnl
        go_wp2_with fail
        go_ret2
        exact ⟨_, _, _, rfl, (unhide HW).own.mono (by omega), unhide HB⟩

end Go.Proofs.YtpidlfifipgadaaDoor
