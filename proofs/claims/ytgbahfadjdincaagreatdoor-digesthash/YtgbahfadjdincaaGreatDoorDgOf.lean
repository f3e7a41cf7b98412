/-
  What Of of package digest returns: a plain function of a text's bytes. Conditions: at most 2,000 bytes; the library's variables, and sha's table, read as they were laid.
-/
import Derived.Test.YtgbahfadjdincaaGreatDoorDgTx
import Derived.Test.YtgbahfadjdincaaGreatDoorDgHx
namespace Go.Proofs.YtgbahfadjdincaaGreatDoor
open Go.RowKit
set_option linter.unusedVariables false
set_option linter.unusedSimpArgs false

theorem Sha.sum_len (xs : List Int) : (Sha.sumk 2 xs).length = 32 := by
  unfold Sha.sumk
  rw [Sha.told_len _ _ (by rw [Sha.wf_len]; unfold Sha.nk; split <;> omega)]
  unfold Sha.nk
  rw [if_neg (by decide)]
theorem Sha.Bs.head {w : World} {ao : Option Addr} {n c : Nat} {bs : List Int} (h : Sha.Bs w ao n c bs) {hi : Nat} (hh : hi ≤ n) : Sha.Bs w ao hi c (bs.take hi) := by
  have hl := h.len
  have hle := h.le
  refine ⟨by rw [List.length_take]; omega, by omega, h.max, h.nil, h.byt.take hi, ?_⟩
  rcases h.at' with h0 | ⟨b, off, e, hc⟩
  · exact .inl (by omega)
  · refine .inr ⟨b, off, e, fun i hi2 => ?_⟩
    have := hc i (by omega)
    rw [List.getD_eq_getElem?_getD] at this ⊢
    rw [List.getElem?_take_of_lt hi2]
    exact this
theorem tolds_len : ∀ (xs : List Wd) (O : Bl) (j : Nat), (∀ x ∈ xs, x.tx.size ≤ 2000) → (tolds O j xs).length ≤ O.length + 8005 * xs.length
  | [], O, j, h => by simp [tolds]
  | x :: r, O, j, h => by
    have h1 := told_len x
    have h2 := h x (by simp)
    have ih := tolds_len r ((if 0 < j then O ++ [32] else O) ++ told x) (j + 1) (fun y hy => h y (List.mem_cons_of_mem _ hy))
    have h3 : (if 0 < j then O ++ [32] else O).length ≤ O.length + 1 := by split <;> simp
    simp only [tolds, List.length_cons]
    simp only [List.length_append] at ih h3
    omega
theorem dTx_len (s : Bl) (hs : s.length ≤ 2000) : (dTx s).1.length ≤ 100000000 := by
  unfold dTx
  split
  · have h1 := dalW_cnt s (by omega)
    have h2 := dgW_few (alW s).1
    have h3 := tolds_len (dgW (alW s).1) [] 0 (dgW_mem (fun x => x.tx.size ≤ 2000) _ (fun x hx => by
      have : x.tx.size ≤ 2000 := by
        rw [alW_ws s (by omega)] at hx
        split at hx
        · have := dwsF_tx _ _ _ x hx
          omega
        · cases hx
      unfold dpar
      split
      · exact Nat.zero_le _
      · exact this))
    simp only [List.length_nil, Nat.zero_add] at h3
    simp only
    omega
  · simp
/-- The hash of a text. -/
def shT (t : Bl) : List Int := Sha.sumk 2 (Sha.nums (ba t))
/-- What Of tells. -/
def dOf (s : Bl) : ByteArray × Ft := if (dTx s).2 = ok0 then (strOfNums (Sha.hexl ((shT (dTx s).1).take 8)), ok0) else (ba [], (dTx s).2)
def OutOf (w : World) (R : ByteArray × Ft) (e : Ending) (w' : World) : Prop := e = .returned (.tuple #[.string R.1, .agg (ftC R.2)]) ∧ Below w.heap.size w w'
theorem of_end {w0 w : World} {a : Act} (R : ByteArray × Ft) (hp : a.tmps.getD 3 undef = .pointer (some ⟨w0.heap.size, 0, none⟩)) (h2 : a.tmps.getD 2 undef = .string R.1) (hd : a.defers = []) (hT : Tb w0.heap.size R.2 w) (hb : Below w0.heap.size w0 w) :
    bodyPost Tryz.prog Tryz.f9 (fun e w' => OutOf w0 R e w') .ret a w :=
  bodyPost_ret (results_tmp_cell rfl _ _ w0.heap.size _ hp hT.run) hd ⟨by rw [h2], hb⟩

set_option maxHeartbeats 8000000 in
set_option maxRecDepth 20000 in
theorem dOf_any (s : ByteArray) (w : World) (hV : Vr w) (hS : Sha.Vars w) (hs : s.size ≤ 2000) : Calls Tryz.prog 9 #[.string s] w (OutOf w (dOf (bl s))) := by
  have HV := hide hV
  have HS := hide hS
  have hln := dTx_len (bl s) (by rw [bl_len]; exact hs)
  have CT := hide (fun wx (h : Vr wx) => dText_any s wx h hs)
  unfold dOf
  obtain ⟨⟨T, f⟩, hT⟩ : ∃ R, R = dTx (bl s) := ⟨_, rfl⟩
  rw [← hT] at hln CT ⊢
  simp only at hln ⊢
  clear hV hS hT
  have hne := ne_ft f
  by_cases hf : f = ok0
  · subst hf
    rw [if_pos rfl]
    simp only [decide_true, Bool.not_true] at hne
    have tb := Sha.run_toBytes (ba T)
    have hz : (ba T).size ≤ 100000000 := by rw [ba_size]; exact hln
    have CS := hide (fun wx (h : Sha.Vars wx) => Sha.sum256_any (some ⟨wx.heap.size, 0, none⟩) (ba T).size (grownCap wx (ba T).size 0 5) (Sha.nums (ba T)) (Lib.bytesWorld wx 5 (ba T)) (Sha.bs_bytesWorld wx (ba T) (by omega)) (h.low (Sha.below_bytesWorld wx 5 (ba T))) (by omega))
    have BB := hide (fun wx => Sha.below_bytesWorld wx 5 (ba T))
    have HL := hide (Sha.sum_len (Sha.nums (ba T)))
    unfold shT
    generalize Sha.sumk 2 (Sha.nums (ba T)) = S at *
    clear hln hz
    go_enter Tryz.func9, Tryz.ntmps9
    go_wp2_with (first
      | (with_reducible show wpList Tryz.prog _ _ (Oper.mk _ (Op.alloc 25) _ _ _ none :: _) _ _; refine wpList_alT rfl rfl ?_; intro wf rf qf tf; clear tf; have yf := rz1.later qf; have bf := belT b1 qf)
      | (with_reducible show wpList Tryz.prog _ _ (Oper.mk _ (Op.alloc 25) _ _ _ none :: _) _ _; refine wpList_alT rfl rfl ?_; intro wz rz bz tz; clear tz)
      | (go_at_call 7; (with_reducible refine (unhide CT wz ((unhide HV).later bz)).mono ?_); rintro e wa ⟨rfl, ca⟩; have b1 := belT bz ca; have rz1 := rz.later ca)
      | (with_reducible show wpList Tryz.prog _ _ (Oper.mk _ (Op.store 25 _ _) _ _ _ none :: _) _ _; refine wpList_stT rfl (.tmp 5) _ rfl wa.heap.size ok0 ⟨0, 0⟩ (by simp [Act.eval, Act.put]) (by simp [Act.eval, Act.put]) rf ?_; intro wg rg gg tg; clear tg; have yg := yf.gb gg (Nat.ne_of_lt rz1.lt); have bg := belowG bf gg b1.size bf.size)
      | (with_reducible show wpList Tryz.prog _ _ (Oper.mk _ (Op.load 25 _) _ _ _ none :: _) _ _; refine wpList_ldT rfl _ rfl wa.heap.size ok0 (by simp [Act.eval, Act.put]) rg ?_)
      | (go_at_call 14; (with_reducible refine (unhide CS wg ((unhide HS).low bg)).mono ?_); rintro e wh ⟨so, sn, sc, rfl, mh, bh⟩; have bB := unhide BB wg; have bh1 := belT bB bh; have yh := yg.later bh1; have bh2 := belT bg bh1; have hsn : sn = 32 := (by rw [← mh.len]; exact unhide HL); have hkb := mh.bs.head (hi := 8) (by omega); have hle9 := mh.bs.le; have hsc : (8 : Int) ≤ (sc : Int) := (by omega))
      | (go_at_call 20; (with_reducible refine (Sha.dhex_any so 8 sc (S.take 8) wh hkb (by omega)).mono ?_); rintro e wi ⟨rfl, bi⟩; have yi := yh.later bi; have bi2 := belT bh2 bi)
      | (with_reducible show wpList Tryz.prog _ _ (Oper.mk _ (Op.store 25 _ _) _ _ _ none :: _) _ _; refine wpList_stT rfl (.tmp 3) _ rfl w.heap.size ok0 ⟨0, 0⟩ (by simp [Act.eval, Act.put]) (by simp [Act.eval, Act.put, ftC, ok0]) yi ?_; intro wj rj gj tj; clear tj; have bj := belowG bi2 gj (Nat.le_refl _) bi2.size))
    exact of_end (strOfNums (Sha.hexl (S.take 8)), ok0) rfl rfl rfl rj bj
  · rw [if_neg hf]
    rw [decide_eq_false hf, Bool.not_false] at hne
    obtain ⟨fe, fa⟩ := f
    clear hf
    go_enter Tryz.func9, Tryz.ntmps9
    go_wp2_with (first
      | (with_reducible show wpList Tryz.prog _ _ (Oper.mk _ (Op.alloc 25) _ _ _ none :: _) _ _; refine wpList_alT rfl rfl ?_; intro wf rf qf tf; clear tf; have yf := rz1.later qf; have bf := belT b1 qf)
      | (with_reducible show wpList Tryz.prog _ _ (Oper.mk _ (Op.alloc 25) _ _ _ none :: _) _ _; refine wpList_alT rfl rfl ?_; intro wz rz bz tz; clear tz)
      | (go_at_call 7; (with_reducible refine (unhide CT wz ((unhide HV).later bz)).mono ?_); rintro e wa ⟨rfl, ca⟩; have b1 := belT bz ca; have rz1 := rz.later ca)
      | (with_reducible show wpList Tryz.prog _ _ (Oper.mk _ (Op.store 25 _ _) _ _ _ none :: _) _ _; refine wpList_stT rfl (.tmp 5) _ rfl wa.heap.size ⟨fe, fa⟩ ⟨0, 0⟩ (by simp [Act.eval, Act.put]) (by simp [Act.eval, Act.put]) rf ?_; intro wg rg gg tg; clear tg; have yg := yf.gb gg (Nat.ne_of_lt rz1.lt); have bg := belowG bf gg b1.size bf.size)
      | (with_reducible show wpList Tryz.prog _ _ (Oper.mk _ (Op.load 25 _) _ _ _ none :: _) _ _; refine wpList_ldT rfl _ rfl wa.heap.size ⟨fe, fa⟩ (by simp [Act.eval, Act.put]) rg ?_))
    have u0 := tb_e rg
    have u1 := tb_a rg
    have v0 := tb_e yg
    have v1 := tb_a yg
    have p0 := frozen_of_row wg w.heap.size 0 _ _ yg
    have p1 := frozen_of_row wg w.heap.size 1 _ _ yg
    go_region
    all_goals go_wp2_with fail
    all_goals exact of_end (ba [], ⟨fe, fa⟩) rfl rfl rfl (tb_two yg) ((((bg.setCell (Nat.le_refl _) _).setCell (Nat.le_refl _) _).drew))

end Go.Proofs.YtgbahfadjdincaaGreatDoor
