/-
  What Text of package digest returns: a plain function of a text's bytes. Conditions: at most 2,000 bytes; the library's variables read as they were laid.
-/
import Derived.Test.YtgbahfadjdincaaGreatDoorDgW
import Derived.Test.YtgbahfadjdincaaGreatDoorScTp
import Derived.Test.YtgbahfadjdincaaGreatDoorScAll
import Derived.Test.YtgbahfadjdincaaGreatDoorScFt
namespace Go.Proofs.YtgbahfadjdincaaGreatDoor
open Go.RowKit
set_option linter.unusedVariables false
set_option linter.unusedSimpArgs false

theorem dwsF_tx : ∀ (m : Nat) (l : Bl) (i : Nat), ∀ x ∈ (wsF m l i).1, x.tx.size ≤ l.length
  | 0, l, i, x, hx => by cases hx
  | m + 1, l, i, x, hx => by
    simp only [wsF] at hx
    split at hx
    · cases hx
    · rename_i hl
      split at hx
      · cases hx
      · split at hx
        · have h1 : 1 ≤ l.length := by
            cases l with
            | nil => exact absurd rfl hl
            | cons a r => simp
          rcases List.mem_append.1 hx with hx | hx
          · split at hx
            · cases hx
            · simp only [List.mem_singleton] at hx
              subst hx
              exact (nxF_fits l h1).2
          · have := dwsF_tx m _ _ x hx
            rw [List.length_drop] at this
            omega
        · cases hx
theorem dalW_tx (l : Bl) : ∀ x ∈ (alW l).1, x.tx.size ≤ 1048576 := by
  intro x hx
  by_cases h : l.length ≤ 1048576
  · rw [alW_ws l h] at hx
    split at hx
    · exact Nat.le_trans (dwsF_tx _ _ _ x hx) h
    · cases hx
  · unfold alW at hx
    rw [if_pos (by omega)] at hx
    cases hx

theorem dwsF_few : ∀ (m : Nat) (l : Bl) (i : Nat), (wsF m l i).1.length ≤ m
  | 0, l, i => by simp [wsF]
  | m + 1, l, i => by
    have ih := dwsF_few m (l.drop (nxF l).n) (i + (nxF l).n)
    simp only [wsF]
    split
    · simp
    · split
      · simp
      · split
        · split
          · simp only [List.nil_append]; omega
          · simp only [List.cons_append, List.nil_append, List.length_cons]; omega
        · simp
theorem dalW_cnt (l : Bl) (h : l.length ≤ 1048576) : (alW l).1.length ≤ l.length := by
  have := dwsF_few l.length l 0
  rw [alW_ws l h]
  split
  · exact this
  · simp
theorem dwo_mem (P : List Wd → List Wd → Nat) (q : Wd → Prop) : ∀ (l : List Wd) (s : Nat) (k : List Wd), (∀ x ∈ k, q x) → (∀ x ∈ l, q x) → ∀ x ∈ dwo P s k l, q x
  | [], s, k, hk, hl => by rw [dwo_nil]; exact hk
  | y :: r, s + 1, k, hk, hl => dwo_mem P q r s k hk (fun x hx => hl x (List.mem_cons_of_mem _ hx))
  | y :: r, 0, k, hk, hl => by
    have hr : ∀ x ∈ r, q x := fun x hx => hl x (List.mem_cons_of_mem _ hx)
    show ∀ x ∈ (if P k (y :: r) = 0 then _ else _ : List Wd), q x
    split
    · refine dwo_mem P q r 0 (k ++ [y]) ?_ hr
      intro x hx
      rcases List.mem_append.1 hx with h | h
      · exact hk x h
      · rw [List.mem_singleton.1 h]
        exact hl y (by simp)
    · exact dwo_mem P q r _ k hk hr
theorem dwo_few (P : List Wd → List Wd → Nat) : ∀ (l : List Wd) (s : Nat) (k : List Wd), (dwo P s k l).length ≤ k.length + l.length
  | [], s, k => by rw [dwo_nil]; simp
  | x :: r, s + 1, k => by
    have := dwo_few P r s k
    simp only [dwo]
    simp
    omega
  | x :: r, 0, k => by
    by_cases h0 : P k (x :: r) = 0
    · rw [dwo_stay h0]
      have := dwo_few P r 0 (k ++ [x])
      simp at this ⊢
      omega
    · show (if P k (x :: r) = 0 then _ else _ : List Wd).length ≤ _
      rw [if_neg h0]
      have := dwo_few P r (P k (x :: r) - 1) k
      simp at this ⊢
      omega
theorem dgW_mem (q : Wd → Prop) (l : List Wd) (hl : ∀ x ∈ l, q (dpar x)) : ∀ x ∈ dgW l, q x := by
  intro x hx
  unfold dgW dre at hx
  have hm := List.mem_of_mem_take hx
  have h0 : ∀ x ∈ l.map dpar, q x := by
    intro x hx
    obtain ⟨y, hy, rfl⟩ := List.mem_map.1 hx
    exact hl y hy
  have n0 : ∀ x ∈ ([] : List Wd), q x := fun x h => by cases h
  exact dwo_mem _ q _ 0 [] n0 (dwo_mem _ q _ 0 [] n0 (dwo_mem _ q _ 0 [] n0 (dwo_mem _ q _ 0 [] n0 h0))) x hm
theorem dgW_few (l : List Wd) : (dgW l).length ≤ l.length := by
  unfold dgW dre
  rw [List.length_take]
  have h1 := dwo_few dP1 (l.map dpar) 0 []
  have h2 := dwo_few dP2 (dwo dP1 0 [] (l.map dpar)) 0 []
  have h3 := dwo_few dP3 (dwo dP2 0 [] (dwo dP1 0 [] (l.map dpar))) 0 []
  have h4 := dwo_few dP4 (dwo dP3 0 [] (dwo dP2 0 [] (dwo dP1 0 [] (l.map dpar)))) 0 []
  simp only [List.length_map, List.length_nil, Nat.zero_add] at h1 h2 h3 h4
  omega
/-- What Text tells. -/
def dTx (s : Bl) : Bl × Ft := if (alW s).2 = ok0 then (tolds [] 0 (dgW (alW s).1), ok0) else ([], (alW s).2)
def OutTx (w : World) (R : Bl × Ft) (e : Ending) (w' : World) : Prop := e = .returned (.tuple #[.string (ba R.1), .agg (ftC R.2)]) ∧ Below w.heap.size w w'
theorem tx_end {w0 w : World} {a : Act} (R : Bl × Ft) (hp : a.tmps.getD 3 undef = .pointer (some ⟨w0.heap.size, 0, none⟩)) (h2 : a.tmps.getD 2 undef = .string (ba R.1)) (hd : a.defers = []) (hT : Tb w0.heap.size R.2 w) (hb : Below w0.heap.size w0 w) :
    bodyPost Tryz.prog Tryz.f7 (fun e w' => OutTx w0 R e w') .ret a w :=
  bodyPost_ret (results_tmp_cell rfl _ _ w0.heap.size _ hp hT.run) hd ⟨by rw [h2], hb⟩

set_option maxHeartbeats 8000000 in
set_option maxRecDepth 20000 in
theorem dText_any (s : ByteArray) (w : World) (hV : Vr w) (hs : s.size ≤ 2000) : Calls Tryz.prog 7 #[.string s] w (OutTx w (dTx (bl s))) := by
  have HV := hide hV
  have hcn := dalW_cnt (bl s) (by rw [bl_len]; omega)
  have htx : ∀ x ∈ (alW (bl s)).1, x.tx.size ≤ 2000 := by
    intro x hx
    have hle : (bl s).length ≤ 1048576 := by rw [bl_len]; omega
    rw [alW_ws (bl s) hle] at hx
    split at hx
    · have := dwsF_tx _ _ _ x hx
      rw [bl_len] at this
      omega
    · cases hx
  rw [bl_len] at hcn
  unfold dTx
  obtain ⟨⟨ws, f⟩, hW⟩ : ∃ R, R = alW (bl s) := ⟨_, rfl⟩
  rw [← hW] at hcn htx ⊢
  simp only at hcn htx ⊢
  have CA := hide (show ∀ wx, Vr wx → Calls Tryz.prog 11 #[.string s] wx (OutL wx (ws, f)) from fun wx h => by rw [hW]; exact all_any s wx h)
  have HTX := hide htx
  clear hV hW htx
  have hne := ne_ft f
  by_cases hf : f = ok0
  · subst hf
    rw [if_pos rfl]
    simp only [decide_true, Bool.not_true] at hne
    have HN := hide (show ws.length ≤ 2000 by omega)
    have HD1 := hide (dgW_few ws)
    have HD2 := hide (dgW_mem (fun x => x.tx.size ≤ 2000) ws (fun x hx => by
      unfold dpar
      split
      · exact Nat.zero_le _
      · exact unhide HTX x hx))
    obtain ⟨D, hD⟩ : ∃ D, D = dgW ws := ⟨_, rfl⟩
    have HD := hide hD
    rw [← hD] at HD1 HD2 ⊢
    obtain ⟨T, hT⟩ : ∃ T, T = tolds [] 0 D := ⟨_, rfl⟩
    have HT := hide hT
    rw [← hT]
    clear hD hT hcn
    go_enter Tryz.func7, Tryz.ntmps7
    go_wp2_with (first
      | (with_reducible show wpList Tryz.prog _ _ (Oper.mk _ (Op.alloc 25) _ _ _ none :: _) _ _; refine wpList_alT rfl rfl ?_; intro wf rf qf tf; clear tf; have yf := rz1.later qf; have bf := belT b1 qf; have mf := ma.later qf)
      | (with_reducible show wpList Tryz.prog _ _ (Oper.mk _ (Op.alloc 25) _ _ _ none :: _) _ _; refine wpList_alT rfl rfl ?_; intro wz rz bz tz; clear tz)
      | (go_at_call 11; refine (unhide CA wz ((unhide HV).later bz)).mono ?_; rintro e wa ⟨ao, n, c, rfl, ma, ca⟩; have b1 := belT bz ca; have rz1 := rz.later ca)
      | (with_reducible show wpList Tryz.prog _ _ (Oper.mk _ (Op.store 25 _ _) _ _ _ none :: _) _ _; refine wpList_stT rfl (.tmp 5) _ rfl wa.heap.size ok0 ⟨0, 0⟩ (by simp [Act.eval, Act.put]) (by simp [Act.eval, Act.put]) rf ?_; intro wg rg gg tg; clear tg; have yg := yf.gb gg (Nat.ne_of_lt rz1.lt); have bg := belowG bf gg b1.size bf.size; have mg := mf.keep (fun k hk => gg.block k (mf.ob hk).2 (Nat.ne_of_lt (ma.ob hk).2)))
      | (with_reducible show wpList Tryz.prog _ _ (Oper.mk _ (Op.load 25 _) _ _ _ none :: _) _ _; refine wpList_ldT rfl _ rfl wa.heap.size ok0 (by simp [Act.eval, Act.put]) rg ?_)
      | (go_at_call 16; (with_reducible refine (words_any ao n c ws wg mg.ss (by rw [← ma.len]; have := unhide HN; omega) (fun x hx => Nat.le_trans (unhide HTX x hx) (by omega))).mono ?_); rintro e wh ⟨m, rfl, mh, bh⟩; rw [← unhide HD] at mh; have yh := yg.later bh; have bh2 := belT bg bh)
      | (go_at_call 12; (with_reducible refine (scPlain_any _ m n D wh ((unhide HV).later bh2) mh.ss (by rw [← mh.len]; have := unhide HN; have := unhide HD1; omega) (unhide HD2)).mono ?_); rintro e wi ⟨rfl, bi⟩; have yi := yh.later bi; have bi2 := belT bh2 bi)
      | (with_reducible show wpList Tryz.prog _ _ (Oper.mk _ (Op.store 25 _ _) _ _ _ none :: _) _ _; refine wpList_stT rfl (.tmp 3) _ rfl w.heap.size ok0 ⟨0, 0⟩ (by simp [Act.eval, Act.put]) (by simp [Act.eval, Act.put, ftC, ok0]) yi ?_; intro wj rj gj tj; clear tj; have bj := belowG bi2 gj (Nat.le_refl _) bi2.size))
    exact tx_end (T, ok0) rfl (by rw [unhide HT]; rfl) rfl rj bj
  · rw [if_neg hf]
    rw [decide_eq_false hf, Bool.not_false] at hne
    obtain ⟨fe, fa⟩ := f
    clear hf
    go_enter Tryz.func7, Tryz.ntmps7
    go_wp2_with (first
      | (with_reducible show wpList Tryz.prog _ _ (Oper.mk _ (Op.alloc 25) _ _ _ none :: _) _ _; refine wpList_alT rfl rfl ?_; intro wf rf qf tf; clear tf; have yf := rz1.later qf; have bf := belT b1 qf)
      | (with_reducible show wpList Tryz.prog _ _ (Oper.mk _ (Op.alloc 25) _ _ _ none :: _) _ _; refine wpList_alT rfl rfl ?_; intro wz rz bz tz; clear tz)
      | (go_at_call 11; refine (unhide CA wz ((unhide HV).later bz)).mono ?_; rintro e wa ⟨ao, n, c, rfl, ma, ca⟩; have b1 := belT bz ca; have rz1 := rz.later ca)
      | (with_reducible show wpList Tryz.prog _ _ (Oper.mk _ (Op.store 25 _ _) _ _ _ none :: _) _ _; refine wpList_stT rfl (.tmp 5) _ rfl wa.heap.size ⟨fe, fa⟩ ⟨0, 0⟩ (by simp [Act.eval, Act.put]) (by simp [Act.eval, Act.put]) rf ?_; intro wg rg gg tg; clear tg; have yg := yf.gb gg (Nat.ne_of_lt rz1.lt); have bg := belowG bf gg b1.size bf.size)
      | (with_reducible show wpList Tryz.prog _ _ (Oper.mk _ (Op.load 25 _) _ _ _ none :: _) _ _; refine wpList_ldT rfl _ rfl wa.heap.size ⟨fe, fa⟩ (by simp [Act.eval, Act.put]) rg ?_))
    have u0 := tb_e rg
    have u1 := tb_a rg
    have v0 := tb_e yg
    have v1 := tb_a yg
    have p0 := frozen_of_row wg w.heap.size 0 _ _ yg
    have p1 := frozen_of_row wg w.heap.size 1 _ _ yg
    go_region
    all_goals go_wp2_with fail
    all_goals exact tx_end ([], ⟨fe, fa⟩) rfl rfl rfl (tb_two yg) ((((bg.setCell (Nat.le_refl _) _).setCell (Nat.le_refl _) _).drew))

end Go.Proofs.YtgbahfadjdincaaGreatDoor
