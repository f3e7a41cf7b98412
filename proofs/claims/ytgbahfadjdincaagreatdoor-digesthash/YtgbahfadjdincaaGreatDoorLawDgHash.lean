/-
  DigestHash of layer 21, for the walk: it returns true for any text. Conditions: the text fits in memory; the library's variables, and sha's table, read as they were laid.
-/
import Derived.Test.YtgbahfadjdincaaGreatDoorDgOf
import Derived.Test.YtgbahfadjdincaaGreatDoorDgLaid
import Derived.Test.YtgbahfadjdincaaGreatDoorLawDgNames
import Derived.BigQuiet
namespace Go.Proofs.YtgbahfadjdincaaGreatDoor
open Go.RowKit
set_option linter.unusedVariables false
set_option linter.unusedSimpArgs false

theorem hexl_get : ∀ (l : List Int) (k : Nat), k < l.length → (Sha.hexl l)[2 * k]? = some (Sha.hexd (l[k]?.getD 0 / 16)) ∧ (Sha.hexl l)[2 * k + 1]? = some (Sha.hexd (l[k]?.getD 0 % 16))
  | [], k, h => by simp at h
  | x :: r, 0, h => ⟨rfl, rfl⟩
  | x :: r, k + 1, h => by
    have ih := hexl_get r k (by simpa using h)
    have e : Sha.hexl (x :: r) = Sha.hexd (x / 16) :: Sha.hexd (x % 16) :: Sha.hexl r := rfl
    rw [e, show 2 * (k + 1) = 2 * k + 1 + 1 by omega]
    exact ih
theorem hexl_len : ∀ l : List Int, (Sha.hexl l).length = 2 * l.length
  | [] => rfl
  | x :: r => by
    have e : Sha.hexl (x :: r) = Sha.hexd (x / 16) :: Sha.hexd (x % 16) :: Sha.hexl r := rfl
    rw [e, List.length_cons, List.length_cons, hexl_len r, List.length_cons]
    omega
theorem str_at (L : List Int) (i : Nat) (v : Int) (h : L[i]? = some v) (h0 : 0 ≤ v) (h1 : v ≤ 255) (w : World) : (Instr.index 9 (.string (strOfNums L)) (.int .i64 (i : Int))).run Tryz.prog w = .ok (.int .u8 v) w := by
  obtain ⟨hl, hv⟩ := List.getElem?_eq_some_iff.1 h
  have hs : i < (strOfNums L).size := by rw [strOfNums_size]; exact hl
  rw [run_index_string w 9 _ .i64 i Tryz.underlying9, dif_pos ⟨by omega, by omega⟩]
  have e : (strOfNums L)[((i : Nat) : Int).toNat]'(by simpa using hs) = UInt8.ofNat v.toNat := by
    show (strOfNums L).data[i]'hs = _
    have := strOfNums_data L
    rw [← Array.getElem_toList]
    simp only [this, List.getElem_map, hv]
  rw [e]
  have e2 : (UInt8.ofNat v.toNat).toNat = v.toNat := by
    simp only [UInt8.toNat_ofNat']
    omega
  rw [e2, show ((v.toNat : Nat) : Int) = v by omega]
theorem ne_same (f : Ft) (w : World) : (binOp .neq 25 (.agg (ftC f)) (.agg (ftC f))).run Tryz.prog w = .ok (.bool false) w := by
  have h : (binOp .eql 25 (.agg (ftC f)) (.agg (ftC f))).run Tryz.prog w = .ok (.bool true) w := by
    obtain ⟨e, a⟩ := f
    unfold ftC
    rw [run_eql_struct, run_equalIn_agg w 9999 _ _ _ (by kernel_rfl) (by kernel_rfl)]
    simp [go_sem, Tryz.underlying25]
  rw [run_eql_struct] at h
  rw [run_neq_struct]
  generalize (Op.equalIn 10000 25 (.agg (ftC f)) (.agg (ftC f))).run Tryz.prog w = X at h ⊢
  cases X <;> simp_all [Result.andThen]

set_option maxHeartbeats 8000000 in
set_option maxRecDepth 20000 in
theorem lawDgHash (s : ByteArray) (w : World) (hV : Vb w) (hss : s.size ≤ 9223372036854775807) :
    Calls Tryz.prog 5 #[.string s] w (OutB w true) := by
  have HV := hide hV.r
  have HS := hide hV.s
  have L7 := hide (dglives_any w hV.r)
  clear hV
  by_cases hbig : 2000 < s.size
  · have hb : (2000 : Int) < (s.size : Int) := by omega
    clear hbig
    go_enter Tryz.func5, Tryz.ntmps5
    go_wp2_with (go_at_call 6; refine (unhide L7).mono ?_; rintro e w1 ⟨rfl, b1⟩)
    go_ret
    exact ⟨rfl, b1⟩
  have hb : ¬ (2000 : Int) < (s.size : Int) := by omega
  have CO := hide (fun wx (h : Vr wx) (k : Sha.Vars wx) => dOf_any s wx h k (by omega))
  have CT := hide (fun wx (h : Vr wx) => dText_any s wx h (by omega))
  have hln := dTx_len (bl s) (by rw [bl_len]; omega)
  have hT0 : (dTx (bl s)).2 ≠ ok0 → (dTx (bl s)).1 = [] := by
    unfold dTx
    intro h
    split
    · rename_i h2
      rw [if_pos h2] at h
      exact absurd rfl h
    · rfl
  unfold dOf at CO
  obtain ⟨⟨T, f⟩, hT⟩ : ∃ R, R = dTx (bl s) := ⟨_, rfl⟩
  rw [← hT] at CO CT hln hT0
  simp only at CO hln hT0
  have hne := ne_ft f
  have hns := ne_same f
  clear hT hbig
  by_cases hf : f = ok0
  · rw [if_pos hf] at CO
    rw [← hf] at CO
    rw [decide_eq_true hf, Bool.not_true] at hne
    have tb := Sha.run_toBytes (ba T)
    have hz : (ba T).size ≤ 100000000 := by rw [ba_size]; exact hln
    have CS := hide (fun wx (h : Sha.Vars wx) => Sha.sum256_any (some ⟨wx.heap.size, 0, none⟩) (ba T).size (grownCap wx (ba T).size 0 5) (Sha.nums (ba T)) (Lib.bytesWorld wx 5 (ba T)) (Sha.bs_bytesWorld wx (ba T) (by omega)) (h.low (Sha.below_bytesWorld wx 5 (ba T))) (by omega))
    have BB := hide (fun wx => Sha.below_bytesWorld wx 5 (ba T))
    have HL := hide (Sha.sum_len (Sha.nums (ba T)))
    unfold shT at CO
    generalize Sha.sumk 2 (Sha.nums (ba T)) = S at *
    have hxz : (strOfNums (Sha.hexl (S.take 8))).size = 16 := by rw [strOfNums_size, hexl_len, List.length_take, unhide HL]; rfl
    have hxi : (((strOfNums (Sha.hexl (S.take 8))).size : Nat) : Int) = 16 := by rw [hxz]; rfl
    have HG := hide (fun k (hk : k < 8) => hexl_get (S.take 8) k (by rw [List.length_take, unhide HL]; exact hk))
    have HA := hide (fun i v h h0 h1 wx => str_at (Sha.hexl (S.take 8)) i v h h0 h1 wx)
    generalize hX : strOfNums (Sha.hexl (S.take 8)) = X at *
    clear hln hz hT0 hf hX
    go_enter Tryz.func5, Tryz.ntmps5
    go_wp2_with (first | (go_at_call 6; refine (unhide L7).mono ?_; rintro e w1 ⟨rfl, b1⟩) | (go_at_call 9; (with_reducible refine (unhide CO w1 ((unhide HV).later b1) ((unhide HS).low b1)).mono ?_); rintro e w2 ⟨rfl, q2⟩; have b2 := belT b1 q2) | (with_reducible show wpList Tryz.prog _ _ (Oper.mk _ (Op.alloc 25) _ _ _ none :: _) _ _; refine wpList_alT rfl rfl ?_; intro w6 f6 q6 t6; clear t6; have f6' := f5.later q6; have b6 := belT b5 q6) | (with_reducible show wpList Tryz.prog _ _ (Oper.mk _ (Op.alloc 25) _ _ _ none :: _) _ _; refine wpList_alT rfl rfl ?_; intro w3 f3 q3 t3; clear t3; have b3 := belT b2 q3) | (with_reducible show wpList Tryz.prog _ _ (Oper.mk _ (Op.store 25 _ _) _ _ _ none :: _) _ _; refine wpList_stT rfl (.tmp 4) _ rfl w2.heap.size f ⟨0, 0⟩ (by simp [Act.eval, Act.put]) (by simp [Act.eval, Act.put]) f3 ?_; intro w4 f4 g4 t4; clear t4; have b4 := belowG b3 g4 b2.size b3.size) | (go_at_call 7; (with_reducible refine (unhide CT w4 ((unhide HV).later b4)).mono ?_); rintro e w5 ⟨rfl, q5⟩; have b5 := belT b4 q5; have f5 := f4.later q5) | (with_reducible show wpList Tryz.prog _ _ (Oper.mk _ (Op.store 25 _ _) _ _ _ none :: _) _ _; refine wpList_stT rfl (.tmp 6) _ rfl w5.heap.size f ⟨0, 0⟩ (by simp [Act.eval, Act.put]) (by simp [Act.eval, Act.put]) f6 ?_; intro w7 f7 g7 t7; clear t7; have f7' := f6'.gb g7 (Nat.ne_of_lt f5.lt); have b7 := belowG b6 g7 b5.size b6.size) | (with_reducible show wpList Tryz.prog _ _ (Oper.mk _ (Op.load 25 _) _ _ _ none :: _) _ _; refine wpList_ldT rfl (.tmp 4) rfl w2.heap.size f (by simp [Act.eval, Act.put]) f7' ?_) | (with_reducible show wpList Tryz.prog _ _ (Oper.mk _ (Op.load 25 _) _ _ _ none :: _) _ _; refine wpList_ldT rfl (.tmp 6) rfl w5.heap.size f (by simp [Act.eval, Act.put]) f7 ?_) | (go_at_call 14; (with_reducible refine (unhide CS w7 ((unhide HS).low b7)).mono ?_); rintro e w8 ⟨so, sn, sc, rfl, m8, q8⟩; have bB := unhide BB w7; have q78 := belT bB q8; have b8 := belT b7 q78; have hsn : sn = 32 := (by rw [← m8.len]; exact unhide HL); subst hsn; have M8 := hide m8))
    have hs8 := b8.size
    go_loopw [8] (fun iv wr => ∃ (j : Nat), j ≤ 16 ∧ iv = .int .i64 (j : Int) ∧ Below w8.heap.size w8 wr) (fun iv _ => 16 - (intOf iv).toNat)
    case atStart => exact ⟨0, by omega, rfl, Below.refl _ _⟩
    case round =>
      obtain ⟨j, hj, rfl, hbj⟩ := hrel
      by_cases hlt : j < 16
      · have hlt2 : ((j : Nat) : Int) < 16 := by omega
        obtain ⟨b1', o1, i1, c1⟩ := ((unhide M8).bs.later hbj).idx (i := j / 2) (by omega) ((j : Int) / 2) (by omega)
        have hby := (unhide M8).byt.at (j / 2)
        obtain ⟨g1, g2⟩ := unhide HG (j / 2) (by omega)
        have et : (S.take 8)[j / 2]? = S[j / 2]? := List.getElem?_take_of_lt (by omega)
        rw [et] at g1 g2
        obtain ⟨Y, hY⟩ : ∃ Y, S[j / 2]?.getD 0 = Y := ⟨_, rfl⟩
        rw [hY] at c1 hby g1 g2
        obtain ⟨Y0, Y1⟩ := hby
        obtain ⟨A, hA⟩ : ∃ A, Y / 16 = A := ⟨_, rfl⟩
        obtain ⟨D, hD⟩ : ∃ D, Y % 16 = D := ⟨_, rfl⟩
        have hA' : IntKind.u8.wrap (Y.tdiv 16) = A := by rw [Int.tdiv_eq_ediv_of_nonneg Y0, hA, IntKind.wrap_u8]; omega
        have hA2 : Y.tdiv 16 = A := by rw [Int.tdiv_eq_ediv_of_nonneg Y0, hA]
        have hA3 : IntKind.u8.wrap (Y / 16) = A := by rw [hA, IntKind.wrap_u8]; omega
        have hA4 : Y / 16 = A := hA
        have hD4 : Y % 16 = D := hD
        have hD' : Y.tmod 16 = D := by rw [Int.tmod_eq_emod_of_nonneg Y0, hD]
        have a0 : 0 ≤ A := by omega
        have a1 : A < 16 := by omega
        have d0 : 0 ≤ D := by omega
        have d1 : D < 16 := by omega
        rw [hA] at g1
        rw [hD] at g2
        have hq : IntKind.i64.wrap ((j : Int).tdiv 2) = ((j / 2 : Nat) : Int) := by rw [Int.tdiv_eq_ediv_of_nonneg (by omega), IntKind.wrap_i64]; omega
        have hq2 : (j : Int).tdiv 2 = ((j / 2 : Nat) : Int) := by rw [Int.tdiv_eq_ediv_of_nonneg (by omega)]; omega
        clear et hY hA hD
        by_cases hp : j % 2 = 1
        · have hr : (j : Int).tmod 2 = 1 := by rw [Int.tmod_eq_emod_of_nonneg (by omega)]; omega
          have hr2 : ((j : Int).tmod 2 == 1) = true := by rw [hr]; rfl
          have hr3 : (j : Int) % 2 = 1 := by omega
          have hr4 : ((j : Int) % 2 == 1) = true := by rw [hr3]; rfl
          have hx1 := fun wx => unhide HA j (Sha.hexd D) (by rw [show j = 2 * (j / 2) + 1 by omega]; exact g2) (Sha.hexd_byt d0 d1).1 (Sha.hexd_byt d0 d1).2 wx
          have hx2 := fun wx => Sha.run_digit wx D d0 d1
          have hx3 : (Sha.hexd D != Sha.hexd D) = false := by simp
          clear g1 g2 hp hq
          generalize Sha.hexd D = Z at *
          go_wp2_with fail
          go_quiet (fail)
          go_wp2_with fail
          go_roundw
          case rel => exact ⟨j + 1, by omega, by go_num, hbj.trans ((show Below w8.heap.size wr _ from ⟨rfl, rfl, rfl, Nat.le_refl _, fun _ _ => rfl⟩))⟩
          case measure => simp [intOf]; omega
        · have hr : (j : Int).tmod 2 = 0 := by rw [Int.tmod_eq_emod_of_nonneg (by omega)]; omega
          have hr2 : ((j : Int).tmod 2 == 1) = false := by rw [hr]; rfl
          have hr3 : (j : Int) % 2 = 0 := by omega
          have hr4 : ((j : Int) % 2 == 1) = false := by rw [hr3]; rfl
          have hx1 := fun wx => unhide HA j (Sha.hexd A) (by rw [show j = 2 * (j / 2) by omega]; exact g1) (Sha.hexd_byt a0 a1).1 (Sha.hexd_byt a0 a1).2 wx
          have hx2 := fun wx => Sha.run_digit wx A a0 a1
          have hx3 : (Sha.hexd A != Sha.hexd A) = false := by simp
          clear g1 g2 hp hq
          generalize Sha.hexd A = Z at *
          go_wp2_with fail
          go_quiet (fail)
          go_wp2_with fail
          go_roundw
          case rel => exact ⟨j + 1, by omega, by go_num, hbj.trans ((show Below w8.heap.size wr _ from ⟨rfl, rfl, rfl, Nat.le_refl _, fun _ _ => rfl⟩))⟩
          case measure => simp [intOf]; omega
      · have hlt2 : ¬ ((j : Nat) : Int) < 16 := by omega
        go_wp2_with fail
        go_ret
        exact ⟨rfl, b8.trans (hbj.mono hs8)⟩
  · rw [if_neg hf] at CO
    rw [decide_eq_false hf, Bool.not_false] at hne
    obtain rfl := hT0 hf
    have e0 : ((ba []).toList == []) = true := by decide +kernel
    have e1 : (ba []).toList = [] := by decide +kernel
    clear hln hT0 hf
    go_enter Tryz.func5, Tryz.ntmps5
    go_wp2_with (first | (go_at_call 6; refine (unhide L7).mono ?_; rintro e w1 ⟨rfl, b1⟩) | (go_at_call 9; (with_reducible refine (unhide CO w1 ((unhide HV).later b1) ((unhide HS).low b1)).mono ?_); rintro e w2 ⟨rfl, q2⟩; have b2 := belT b1 q2) | (with_reducible show wpList Tryz.prog _ _ (Oper.mk _ (Op.alloc 25) _ _ _ none :: _) _ _; refine wpList_alT rfl rfl ?_; intro w6 f6 q6 t6; clear t6; have f6' := f5.later q6; have b6 := belT b5 q6) | (with_reducible show wpList Tryz.prog _ _ (Oper.mk _ (Op.alloc 25) _ _ _ none :: _) _ _; refine wpList_alT rfl rfl ?_; intro w3 f3 q3 t3; clear t3; have b3 := belT b2 q3) | (with_reducible show wpList Tryz.prog _ _ (Oper.mk _ (Op.store 25 _ _) _ _ _ none :: _) _ _; refine wpList_stT rfl (.tmp 4) _ rfl w2.heap.size f ⟨0, 0⟩ (by simp [Act.eval, Act.put]) (by simp [Act.eval, Act.put]) f3 ?_; intro w4 f4 g4 t4; clear t4; have b4 := belowG b3 g4 b2.size b3.size) | (go_at_call 7; (with_reducible refine (unhide CT w4 ((unhide HV).later b4)).mono ?_); rintro e w5 ⟨rfl, q5⟩; have b5 := belT b4 q5; have f5 := f4.later q5) | (with_reducible show wpList Tryz.prog _ _ (Oper.mk _ (Op.store 25 _ _) _ _ _ none :: _) _ _; refine wpList_stT rfl (.tmp 6) _ rfl w5.heap.size f ⟨0, 0⟩ (by simp [Act.eval, Act.put]) (by simp [Act.eval, Act.put]) f6 ?_; intro w7 f7 g7 t7; clear t7; have f7' := f6'.gb g7 (Nat.ne_of_lt f5.lt); have b7 := belowG b6 g7 b5.size b6.size) | (with_reducible show wpList Tryz.prog _ _ (Oper.mk _ (Op.load 25 _) _ _ _ none :: _) _ _; refine wpList_ldT rfl (.tmp 4) rfl w2.heap.size f (by simp [Act.eval, Act.put]) f7' ?_) | (with_reducible show wpList Tryz.prog _ _ (Oper.mk _ (Op.load 25 _) _ _ _ none :: _) _ _; refine wpList_ldT rfl (.tmp 6) rfl w5.heap.size f (by simp [Act.eval, Act.put]) f7 ?_))
    go_ret
    exact ⟨rfl, b7⟩

end Go.Proofs.YtgbahfadjdincaaGreatDoor
