/-
  What a set and a use tell of a statement's words, plain: how long their names and values are, what names may be; and that the statement which says a class anew is of that class. Conditions: the words say at most 2,000 bytes each.
  What Anew and Pins of package classify return. Conditions: a name of at most 2,000 bytes, a value of at most 2,001 where the class is one of a set or a use; the library's variables read as they were laid.
-/
import Derived.Test.YtaboepnginbjfaaGreatDoorMPl
import Derived.Test.YtaboepnginbjfaaGreatDoorMLoc
import Derived.Deep.RegionWith
namespace Go.Proofs.YtaboepnginbjfaaGreatDoor
open Go.RowKit
set_option linter.unusedVariables false
set_option linter.unusedSimpArgs false

/-- Words that say little, what was passed over. -/
structure QS (S : WS) : Prop where
  tx : ∀ x ∈ S.left, x.tx.size ≤ 2000
  nm : S.nm.size ≤ 2000
  va : S.va.size ≤ 2001
def Kp (a : St) : Prop := ∀ S, QS S → QS (a S).2
theorem thn_kp {a b : St} (ha : Kp a) (hb : Kp b) : Kp (thn a b) := fun S h => by
  unfold thn
  split
  · exact hb _ (ha S h)
  · exact ha S h
theorem els_kp {a b : St} (ha : Kp a) (hb : Kp b) : Kp (els a b) := fun S h => by
  unfold els
  split
  · exact ha S h
  · exact hb _ (ha S h)
theorem tog_kp {a : St} (ha : Kp a) : Kp (tog a) := fun S h => by
  unfold tog
  split
  · exact ha S h
  · exact h
theorem naS_kp (ss : List ByteArray) : Kp (naS ss) := fun S h => by
  unfold naS
  split
  · exact ⟨fun x hx => h.tx x (List.mem_of_mem_drop hx), h.nm, h.va⟩
  · exact h
theorem peS_kp (ss : List ByteArray) : Kp (peS ss) := fun S h => naS_kp ss S h
theorem enS_kp : Kp enS := fun S h => h
theorem siS_kp (s : ByteArray) : Kp (siS s) := fun S h => by
  unfold siS
  split
  · exact h
  · rename_i w r e
    split
    · exact ⟨fun x hx => h.tx x (by rw [e]; exact List.mem_cons_of_mem _ hx), h.nm, h.va⟩
    · exact h
theorem wnS_kp (ks : List Int) : Kp (wnS ks) := fun S h => by
  unfold wnS
  split
  · exact h
  · rename_i w r e
    split
    · exact ⟨fun x hx => h.tx x (by rw [e]; exact List.mem_cons_of_mem _ hx), h.tx w (by rw [e]; simp), h.va⟩
    · exact h
theorem wvS_kp (ks : List Int) : Kp (wvS ks) := fun S h => by
  unfold wvS
  split
  · exact h
  · rename_i w r e
    split
    · exact ⟨fun x hx => h.tx x (by rw [e]; exact List.mem_cons_of_mem _ hx), h.nm, Nat.le_trans (h.tx w (by rw [e]; simp)) (by omega)⟩
    · exact h
/-- A value that was just passed over is a word's. -/
theorem wvS_va (ks : List Int) (S : WS) (h : QS S) (hb : (wvS ks S).1 = true) : (wvS ks S).2.va.size ≤ 2000 := by
  unfold wvS at hb ⊢
  split at hb
  · cases hb
  · rename_i w r e
    split at hb
    · rename_i hk
      simp only [e, if_pos hk]
      exact h.tx w (by rw [e]; simp)
    · cases hb
theorem sgnS_kp (s : ByteArray) (hs : s.size ≤ 1) : Kp (sgnS s) := fun S h => by
  unfold sgnS
  split
  · rename_i hb
    have h2 := tog_kp (thn_kp (siS_kp s) (wvS_kp [4])) S h
    refine ⟨h2.tx, h2.nm, ?_⟩
    simp only
    rw [ba_size, List.length_append, bl_len, bl_len]
    have h3 : (tog (thn (siS s) (wvS [4])) S).2.va.size ≤ 2000 := by
      unfold tog at hb ⊢
      split at hb
      · rename_i ht
        rw [if_pos ht]
        unfold thn at ht ⊢
        split at ht
        · rename_i h4
          rw [if_pos h4]
          exact wvS_va [4] _ (siS_kp s S h) ht
        · cases ht
      · cases hb
    omega
  · exact tog_kp (thn_kp (siS_kp s) (wvS_kp [4])) S h
theorem liS_kp : Kp liS := els_kp (els_kp (wvS_kp _) (sgnS_kp _ (by decide))) (sgnS_kp _ (by decide))
theorem bare_len (l : Bl) : (bare l).length ≤ l.length := by
  unfold bare
  split
  · simp
  · split <;> simp
theorem unS_kp : Kp unS := fun S h => ⟨h.tx, by
  show (ba (bare (bl S.nm))).size ≤ 2000
  have := bare_len (bl S.nm)
  rw [bl_len] at this
  rw [ba_size]
  exact Nat.le_trans this h.nm, h.va⟩
theorem vaS_kp : Kp vaS := tog_kp (thn_kp (els_kp (naS_kp _) (peS_kp _)) (wnS_kp _))
theorem syS_kp : Kp syS := tog_kp (thn_kp (wnS_kp _) unS_kp)
theorem qs0 {l : List Wd} (h : ∀ x ∈ l, x.tx.size ≤ 2000) : QS (ws0 l) := ⟨h, by simp [ws0, ba_size], by simp [ws0, ba_size]⟩

/-- Steps that leave the name; that leave the value. -/
def Kn (a : St) : Prop := ∀ S, (a S).2.nm = S.nm
def Kv (a : St) : Prop := ∀ S, (a S).2.va = S.va
theorem thn_kn {a b : St} (ha : Kn a) (hb : Kn b) : Kn (thn a b) := fun S => by
  unfold thn
  split
  · rw [hb, ha]
  · exact ha S
theorem els_kn {a b : St} (ha : Kn a) (hb : Kn b) : Kn (els a b) := fun S => by
  unfold els
  split
  · exact ha S
  · rw [hb, ha]
theorem tog_kn {a : St} (ha : Kn a) : Kn (tog a) := fun S => by
  unfold tog
  split
  · exact ha S
  · rfl
theorem thn_kv {a b : St} (ha : Kv a) (hb : Kv b) : Kv (thn a b) := fun S => by
  unfold thn
  split
  · rw [hb, ha]
  · exact ha S
theorem naS_kn (ss : List ByteArray) : Kn (naS ss) := fun S => by unfold naS; split <;> rfl
theorem naS_kv (ss : List ByteArray) : Kv (naS ss) := fun S => by unfold naS; split <;> rfl
theorem enS_kn : Kn enS := fun S => rfl
theorem enS_kv : Kv enS := fun S => rfl
theorem siS_kn (s : ByteArray) : Kn (siS s) := fun S => by
  unfold siS
  split
  · rfl
  · split <;> rfl
theorem wvS_kn (ks : List Int) : Kn (wvS ks) := fun S => by
  unfold wvS
  split
  · rfl
  · split <;> rfl
theorem wnS_kv (ks : List Int) : Kv (wnS ks) := fun S => by
  unfold wnS
  split
  · rfl
  · split <;> rfl
theorem sgnS_kn (s : ByteArray) : Kn (sgnS s) := fun S => by
  unfold sgnS
  split
  · exact tog_kn (thn_kn (siS_kn s) (wvS_kn [4])) S
  · exact tog_kn (thn_kn (siS_kn s) (wvS_kn [4])) S
theorem liS_kn : Kn liS := els_kn (els_kn (wvS_kn _) (sgnS_kn _)) (sgnS_kn _)

theorem fou_k {k : Int} {r : Bool × WS} (h : (fou k r).2 = true) : (fou k r).1 = ⟨k, r.2.nm, r.2.va⟩ := by
  unfold fou at h ⊢
  split at h
  · rename_i h2
    rw [if_pos h2]
  · cases h
/-- A name that may be set. -/
structure GoodNm (n : ByteArray) : Prop where
  lw : ba (low (bl n)) = n
  sp : memB kSpec n = false
  lg : (bl (⟨#[115, 113, 108, 95, 108, 111, 103]⟩ : ByteArray)).isPrefixOf (bl n) = false
theorem lwB_twice : ∀ c : UInt8, lwB (lwB c) = lwB c := by
  have h : ∀ k : Fin 256, lwB (lwB (UInt8.ofNat k.val)) = lwB (UInt8.ofNat k.val) := by decide +kernel
  intro c
  have := h ⟨c.toNat, c.toNat_lt⟩
  simpa using this
theorem low_twice (l : Bl) : low (low l) = low l := by
  unfold low
  rw [List.map_map]
  apply List.map_congr_left
  intro c _
  exact lwB_twice c
theorem low_len (l : Bl) : (low l).length = l.length := by simp [low]
/-- What is known of a class of a set or a use. -/
structure GoodCl (c : Cl) : Prop where
  s5 : c.k = 5 → c.nm = (⟨#[110, 97, 109, 101, 115]⟩ : ByteArray) ∨ GoodNm c.nm
  s6 : c.k = 6 → c.va = ba []
  nm : c.k = 5 ∨ c.k = 6 → c.nm.size ≤ 2000
  va : c.k = 5 ∨ c.k = 6 → c.va.size ≤ 2001
theorem good_other {k : Int} {r : Bool × WS} (h : (fou k r).2 = true) (h5 : k ≠ 5) (h6 : k ≠ 6) : GoodCl (fou k r).1 := by
  rw [fou_k h]
  exact ⟨fun e => absurd e h5, fun e => absurd e h6, fun e => absurd e (by simp only; omega), fun e => absurd e (by simp only; omega)⟩
theorem good_13 : GoodCl (kl 13) := ⟨fun e => (by cases e), fun e => (by cases e), fun e => (by rcases e with e | e <;> cases e), fun e => (by rcases e with e | e <;> cases e)⟩
theorem setF_good {l : List Wd} (hl : ∀ x ∈ l, x.tx.size ≤ 2000) (h : (setF l).2 = true) : GoodCl (setF l).1 := by
  unfold setF at h ⊢
  have hq := thn_kp (thn_kp (thn_kp (thn_kp (naS_kp [(⟨#[115, 101, 116]⟩ : ByteArray)]) (els_kp vaS_kp syS_kp)) (siS_kp (ba [61]))) liS_kp) enS_kp (ws0 l) (qs0 hl)
  generalize thn (thn (thn (thn (naS [(⟨#[115, 101, 116]⟩ : ByteArray)]) (els vaS syS)) (siS (ba [61]))) liS) enS (ws0 l) = r at *
  unfold setG at h ⊢
  by_cases h2 : (fou 5 r).2 = true
  · simp only [h2, if_true] at h ⊢
    split
    · exact good_13
    · rename_i h3
      have h4 : memB kSpec (ba (low (bl (fou 5 r).1.nm))) = false ∧ (bl (⟨#[115, 113, 108, 95, 108, 111, 103]⟩ : ByteArray)).isPrefixOf (low (bl (fou 5 r).1.nm)) = false := by
        rw [Bool.not_eq_true, Bool.or_eq_false_iff] at h3
        exact h3
      rw [fou_k h2] at h4 ⊢
      refine ⟨fun _ => .inr ⟨?_, h4.1, h4.2⟩, fun e => (by cases e), fun _ => ?_, fun _ => hq.va⟩
      · rw [bl_ba, low_twice]
      · rw [ba_size, low_len, bl_len]
        exact hq.nm
  · simp only [h2] at h
    cases h
theorem setnF_good {l : List Wd} (hl : ∀ x ∈ l, x.tx.size ≤ 2000) (h : (setnF l).2 = true) : GoodCl (setnF l).1 := by
  unfold setnF at h ⊢
  have hq := thn_kp (thn_kp (naS_kp [(⟨#[115, 101, 116]⟩ : ByteArray), (⟨#[110, 97, 109, 101, 115]⟩ : ByteArray)]) liS_kp) enS_kp ⟨l, (⟨#[110, 97, 109, 101, 115]⟩ : ByteArray), ba []⟩ ⟨hl, (by show ((⟨#[110, 97, 109, 101, 115]⟩ : ByteArray) : ByteArray).size ≤ 2000; decide), by simp [ba_size]⟩
  have hn := thn_kn (thn_kn (naS_kn [(⟨#[115, 101, 116]⟩ : ByteArray), (⟨#[110, 97, 109, 101, 115]⟩ : ByteArray)]) liS_kn) enS_kn ⟨l, (⟨#[110, 97, 109, 101, 115]⟩ : ByteArray), ba []⟩
  generalize thn (thn (naS [(⟨#[115, 101, 116]⟩ : ByteArray), (⟨#[110, 97, 109, 101, 115]⟩ : ByteArray)]) liS) enS ⟨l, (⟨#[110, 97, 109, 101, 115]⟩ : ByteArray), ba []⟩ = r at *
  rw [fou_k h]
  exact ⟨fun _ => .inl hn, fun e => (by cases e), fun _ => hq.nm, fun _ => hq.va⟩
theorem useF_good {l : List Wd} (hl : ∀ x ∈ l, x.tx.size ≤ 2000) (h : (useF l).2 = true) : GoodCl (useF l).1 := by
  unfold useF at h ⊢
  have hq := thn_kp (thn_kp (naS_kp [(⟨#[117, 115, 101]⟩ : ByteArray)]) (wnS_kp [1, 2])) enS_kp (ws0 l) (qs0 hl)
  have hv := thn_kv (thn_kv (naS_kv [(⟨#[117, 115, 101]⟩ : ByteArray)]) (wnS_kv [1, 2])) enS_kv (ws0 l)
  change QS (thn (thn (naS [(⟨#[117, 115, 101]⟩ : ByteArray)]) nmS) enS (ws0 l)).2 at hq
  change (thn (thn (naS [(⟨#[117, 115, 101]⟩ : ByteArray)]) nmS) enS (ws0 l)).2.va = _ at hv
  generalize thn (thn (naS [(⟨#[117, 115, 101]⟩ : ByteArray)]) nmS) enS (ws0 l) = r at *
  rw [fou_k h]
  exact ⟨fun e => (by cases e), fun _ => hv, fun _ => hq.nm, fun _ => hq.va⟩
theorem firF_of : ∀ (xs : List (Cl × Bool)), (firF xs).2 = true → ∃ x ∈ xs, x.2 = true ∧ (firF xs).1 = x.1
  | [], h => by cases h
  | x :: r, h => by
    unfold firF at h ⊢
    by_cases hx : x.2 = true
    · simp only [hx, if_true] at h ⊢
      exact ⟨x, by simp, hx, rfl⟩
    · simp only [hx] at h ⊢
      obtain ⟨y, h1, h2, h3⟩ := firF_of r h
      exact ⟨y, List.mem_cons_of_mem _ h1, h2, h3⟩
theorem clsF_good {l : List Wd} (hl : ∀ x ∈ l, x.tx.size ≤ 2000) : GoodCl (clsF l) := by
  unfold clsF
  split
  · exact good_13
  · split
    · rename_i h
      obtain ⟨x, h1, h2, h3⟩ := firF_of _ h
      rw [h3]
      simp only [List.mem_cons, List.not_mem_nil, or_false] at h1
      rcases h1 with rfl | rfl | rfl
      · exact good_other h2 (by decide) (by decide)
      · exact good_other h2 (by decide) (by decide)
      · exact good_other h2 (by decide) (by decide)
    · split
      · exact good_13
      · split
        · rename_i h
          obtain ⟨x, h1, h2, h3⟩ := firF_of _ h
          rw [h3]
          simp only [List.mem_cons, List.not_mem_nil, or_false] at h1
          rcases h1 with rfl | rfl | rfl | rfl | rfl | rfl | rfl | rfl | rfl | rfl | rfl
          · exact good_other h2 (by decide) (by decide)
          · exact good_other h2 (by decide) (by decide)
          · exact good_other h2 (by decide) (by decide)
          · exact setF_good hl h2
          · exact setnF_good hl h2
          · exact useF_good hl h2
          · exact good_other h2 (by decide) (by decide)
          · exact good_other h2 (by decide) (by decide)
          · exact good_other h2 (by decide) (by decide)
          · exact good_other h2 (by decide) (by decide)
          · exact good_other h2 (by decide) (by decide)
        · exact good_13
theorem stmF_mem : ∀ (l acc : List Wd) (q : Wd → Prop), (∀ x ∈ l, q x) → (∀ x ∈ acc, q x) → ∀ s ∈ stmF l acc, ∀ x ∈ s, q x
  | [], acc, q, hl, ha, s, hs, x, hx => by
    unfold stmF at hs
    split at hs
    · cases hs
    · rw [List.mem_singleton.1 hs] at hx
      exact ha x hx
  | w :: r, acc, q, hl, ha, s, hs, x, hx => by
    have hr : ∀ x ∈ r, q x := fun x h => hl x (List.mem_cons_of_mem _ h)
    unfold stmF at hs
    split at hs
    · split at hs
      · exact stmF_mem r [] q hr (fun x h => by cases h) s hs x hx
      · rcases List.mem_cons.1 hs with rfl | hs
        · exact ha x hx
        · exact stmF_mem r [] q hr (fun x h => by cases h) s hs x hx
    · refine stmF_mem r (acc ++ [w]) q hr ?_ s hs x hx
      intro y hy
      rcases List.mem_append.1 hy with h | h
      · exact ha y h
      · rw [List.mem_singleton.1 h]
        exact hl w (by simp)
theorem ofF_good {s : Bl} (hs : s.length ≤ 2000) : ∀ c ∈ (ofF s).1, GoodCl c := by
  have htx : ∀ x ∈ (alW s).1, x.tx.size ≤ 2000 := by
    intro x hx
    rw [alW_ws s (by omega)] at hx
    split at hx
    · exact Nat.le_trans (wsF_tx _ _ _ x hx) hs
    · cases hx
  intro c hc
  unfold ofF at hc
  split at hc
  · simp only [ofW, List.mem_map] at hc
    obtain ⟨st, h1, rfl⟩ := hc
    exact clsF_good (fun x hx => stmF_mem _ [] (fun x => x.tx.size ≤ 2000) htx (fun x h => by cases h) st h1 x hx)
  · cases hc

/-! ### said anew -/
theorem lx_of {t : Bl} {ws : List Wd} (hl : t.length ≤ 1048576) (h : Lx t (ws.map stp)) (hn : ws ≠ []) (he : ∀ x ∈ ws, isE x = false) : ofF t = ([clsF ws], ok0) := by
  obtain ⟨h1, h2⟩ := lx_alW hl h
  unfold ofF
  rw [if_pos (show (alW t).2 = (⟨0, 0⟩ : Ft) from h1), ofW_stp (m := ws) h2, ofW_none ws hn he]
  rfl
theorem nx_set : nxF [115, 101, 116] = ⟨1, (⟨#[115, 101, 116]⟩ : ByteArray), 3, 0⟩ := by decide +kernel
theorem nx_sess : nxF [115, 101, 115, 115, 105, 111, 110] = ⟨1, sSess, 7, 0⟩ := by decide +kernel
theorem nx_names : nxF [110, 97, 109, 101, 115] = ⟨1, (⟨#[110, 97, 109, 101, 115]⟩ : ByteArray), 5, 0⟩ := by decide +kernel
theorem nx_use : nxF [117, 115, 101] = ⟨1, (⟨#[117, 115, 101]⟩ : ByteArray), 3, 0⟩ := by decide +kernel
theorem nx_eq : nxF [61] = ⟨5, ba [61], 1, 0⟩ := by decide +kernel
theorem btw_op (c : UInt8) (x : Bl) (h : c = 96 ∨ c = 39) : opL (btw c x) = false := by rcases h with rfl | rfl <;> simp [opL, btw, pre, List.isPrefixOf]

def wSet (nm va : ByteArray) : List Wd := [⟨1, (⟨#[115, 101, 116]⟩ : ByteArray), 0⟩, ⟨1, sSess, 0⟩, ⟨2, nm, 0⟩, ⟨5, ba [61], 0⟩, ⟨3, va, 0⟩]
def wNms (va : ByteArray) : List Wd := [⟨1, (⟨#[115, 101, 116]⟩ : ByteArray), 0⟩, ⟨1, (⟨#[110, 97, 109, 101, 115]⟩ : ByteArray), 0⟩, ⟨3, va, 0⟩]
def wUse (nm : ByteArray) : List Wd := [⟨1, (⟨#[117, 115, 101]⟩ : ByteArray), 0⟩, ⟨2, nm, 0⟩]

theorem cls_set (nm va : ByteArray) (h : GoodNm nm) : clsF (wSet nm va) = ⟨5, nm, va⟩ := by
  have e1 : oddL (wSet nm va) = false := by kernel_rfl
  have e2 : lockF (wSet nm va) = (cl0, false) := by kernel_rfl
  have e2b : lotaF (wSet nm va) = (cl0, false) := by kernel_rfl
  have e2c : unloF (wSet nm va) = (cl0, false) := by kernel_rfl
  have e3 : (wSet nm va).any (inS kLock) = false := by kernel_rfl
  have e4 : begiF (wSet nm va) = (cl0, false) := by kernel_rfl
  have e5 : endF (wSet nm va) = (cl0, false) := by kernel_rfl
  have e6 : setuF (wSet nm va) = (cl0, false) := by kernel_rfl
  have e7 : setF (wSet nm va) = (⟨5, nm, va⟩, true) := by
    have e : setF (wSet nm va) = setG (⟨5, nm, va⟩, true) := by kernel_rfl
    have hl : low (bl nm) = bl nm := by
      have := congrArg bl h.lw
      rwa [bl_ba] at this
    rw [e]
    unfold setG
    simp only [if_true, hl, ba_bl, h.sp, h.lg]
    simp
  unfold clsF
  simp only [e1, e2, e2b, e2c, e3, e4, e5, e6, e7, firF, Bool.false_eq_true, if_false, if_true]
theorem cls_nms (va : ByteArray) : clsF (wNms va) = ⟨5, (⟨#[110, 97, 109, 101, 115]⟩ : ByteArray), va⟩ := by
  have e1 : oddL (wNms va) = false := by kernel_rfl
  have e2 : lockF (wNms va) = (cl0, false) := by kernel_rfl
  have e2b : lotaF (wNms va) = (cl0, false) := by kernel_rfl
  have e2c : unloF (wNms va) = (cl0, false) := by kernel_rfl
  have e3 : (wNms va).any (inS kLock) = false := by kernel_rfl
  have e4 : begiF (wNms va) = (cl0, false) := by kernel_rfl
  have e5 : endF (wNms va) = (cl0, false) := by kernel_rfl
  have e6 : setuF (wNms va) = (cl0, false) := by kernel_rfl
  have e7 : setF (wNms va) = (cl0, false) := by kernel_rfl
  have e8 : setnF (wNms va) = (⟨5, (⟨#[110, 97, 109, 101, 115]⟩ : ByteArray), va⟩, true) := by kernel_rfl
  unfold clsF
  simp only [e1, e2, e2b, e2c, e3, e4, e5, e6, e7, e8, firF, Bool.false_eq_true, if_false, if_true]
theorem cls_use (nm : ByteArray) : clsF (wUse nm) = ⟨6, nm, ba []⟩ := by
  have e1 : oddL (wUse nm) = false := by kernel_rfl
  have e2 : lockF (wUse nm) = (cl0, false) := by kernel_rfl
  have e2b : lotaF (wUse nm) = (cl0, false) := by kernel_rfl
  have e2c : unloF (wUse nm) = (cl0, false) := by kernel_rfl
  have e3 : (wUse nm).any (inS kLock) = false := by kernel_rfl
  have e4 : begiF (wUse nm) = (cl0, false) := by kernel_rfl
  have e5 : endF (wUse nm) = (cl0, false) := by kernel_rfl
  have e6 : setuF (wUse nm) = (cl0, false) := by kernel_rfl
  have e7 : setF (wUse nm) = (cl0, false) := by kernel_rfl
  have e8 : setnF (wUse nm) = (cl0, false) := by kernel_rfl
  have e9 : useF (wUse nm) = (⟨6, nm, ba []⟩, true) := by kernel_rfl
  unfold clsF
  simp only [e1, e2, e2b, e2c, e3, e4, e5, e6, e7, e8, e9, firF, Bool.false_eq_true, if_false, if_true]

def sSetB : Bl := [115, 101, 116]
def sSesB : Bl := [115, 101, 115, 115, 105, 111, 110]
def sNamB : Bl := [110, 97, 109, 101, 115]
def sUseB : Bl := [117, 115, 101]
theorem btw_ne (c : UInt8) (x : Bl) : btw c x ≠ [] := by simp [btw]
theorem btw_dash (x : Bl) : btw 96 x ≠ [45, 45] := by simp [btw]
theorem lx_set (x v : Bl) : Lx (sSetB ++ 32 :: (sSesB ++ 32 :: (btw 96 x ++ 32 :: ([61] ++ 32 :: qto v)))) ((wSet (ba x) (ba v)).map stp) :=
  Lx.word nx_set rfl rfl (by decide) (by decide) (by decide) (Lx.word nx_sess rfl rfl (by decide) (by decide) (by decide) (Lx.word (nx_btw x) rfl rfl (btw_ne _ _) (btw_dash x) (btw_op 96 x (.inl rfl)) (Lx.word nx_eq rfl rfl (by decide) (by decide) (by decide) (Lx.last (nx_qto v) rfl rfl (btw_ne _ _)))))
theorem lx_nms (v : Bl) : Lx (sSetB ++ 32 :: (sNamB ++ 32 :: qto v)) ((wNms (ba v)).map stp) :=
  Lx.word nx_set rfl rfl (by decide) (by decide) (by decide) (Lx.word nx_names rfl rfl (by decide) (by decide) (by decide) (Lx.last (nx_qto v) rfl rfl (btw_ne _ _)))
theorem lx_use (x : Bl) : Lx (sUseB ++ 32 :: btw 96 x) ((wUse (ba x)).map stp) :=
  Lx.word nx_use rfl rfl (by decide) (by decide) (by decide) (Lx.last (nx_btw x) rfl rfl (btw_ne _ _))
/-- A class of a set or a use, said anew, is that class. -/
theorem anew_back (c : Cl) (h : GoodCl c) (hk : c.k = 5 ∨ c.k = 6) : ofF (bl (anF c).1) = ([c], ok0) := by
  have hn := h.nm hk
  have hv := h.va hk
  have h1 := btw_len 96 (bl c.nm)
  have h2 := qto_len (bl c.va)
  rw [bl_len] at h1 h2
  obtain ⟨k, nm, va⟩ := c
  simp only at hk hn hv h1 h2
  by_cases h5 : k = 5
  · subst h5
    by_cases hm : nm = (⟨#[110, 97, 109, 101, 115]⟩ : ByteArray)
    · have e : bl (anF ⟨5, nm, va⟩).1 = sSetB ++ 32 :: (sNamB ++ 32 :: qto (bl va)) := by
        unfold anF
        rw [if_pos ⟨rfl, hm⟩]
        simp only [bl_app, bl_ba]
        rfl
      rw [e]
      have := lx_of (t := sSetB ++ 32 :: (sNamB ++ 32 :: qto (bl va))) (by simp [sSetB, sNamB]; omega) (lx_nms (bl va)) (by simp [wNms]) (by intro x hx; simp only [wNms, List.mem_cons, List.not_mem_nil, or_false] at hx; rcases hx with rfl | rfl | rfl <;> rfl)
      rw [this, ba_bl, cls_nms, hm]
    · have hg : GoodNm nm := by
        rcases h.s5 rfl with q | q
        · exact absurd q hm
        · exact q
      have e : bl (anF ⟨5, nm, va⟩).1 = sSetB ++ 32 :: (sSesB ++ 32 :: (btw 96 (bl nm) ++ 32 :: ([61] ++ 32 :: qto (bl va)))) := by
        unfold anF
        rw [if_neg (fun q => hm q.2), if_pos rfl]
        simp only [bl_app, bl_ba, List.append_assoc]
        rfl
      rw [e]
      have := lx_of (t := sSetB ++ 32 :: (sSesB ++ 32 :: (btw 96 (bl nm) ++ 32 :: ([61] ++ 32 :: qto (bl va))))) (by simp [sSetB, sSesB]; omega) (lx_set (bl nm) (bl va)) (by simp [wSet]) (by intro x hx; simp only [wSet, List.mem_cons, List.not_mem_nil, or_false] at hx; rcases hx with rfl | rfl | rfl | rfl | rfl <;> first | rfl | (simp [isE, sgW]; decide))
      rw [this, ba_bl, ba_bl, cls_set nm va hg]
  · obtain rfl : k = 6 := by omega
    have e : bl (anF ⟨6, nm, va⟩).1 = sUseB ++ 32 :: btw 96 (bl nm) := by
      unfold anF
      rw [if_neg (fun q => h5 q.1), if_neg h5, if_pos rfl]
      simp only [bl_app, bl_ba]
      rfl
    rw [e]
    have := lx_of (t := sUseB ++ 32 :: btw 96 (bl nm)) (by simp [sUseB]; omega) (lx_use (bl nm)) (by simp [wUse]) (by intro x hx; simp only [wUse, List.mem_cons, List.not_mem_nil, or_false] at hx; rcases hx with rfl | rfl <;> rfl)
    have h7 : va = ba [] := h.s6 rfl
    rw [this, ba_bl, cls_use, h7]

end Go.Proofs.YtaboepnginbjfaaGreatDoor

namespace Go.Proofs.YtaboepnginbjfaaGreatDoor
open Go.RowKit
set_option linter.unusedVariables false
set_option linter.unusedSimpArgs false

theorem abl_drew {B : Nat} {w x : World} (h : Below B w x) : Below B w x.drew := ⟨h.os, h.tape, h.output, h.size, h.block⟩
theorem abl_drewN {B : Nat} {w x : World} (h : Below B w x) (k : Nat) : Below B w (x.drewN k) := ⟨h.os, h.tape, h.output, h.size, h.block⟩
theorem pins_5 (w : World) : Calls Tryz.prog 7 #[.int .i64 5] w (OutB w false) := by
  go_enter Tryz.func7, Tryz.ntmps7
  go_wp2_with fail
  go_ret
  exact ⟨rfl, Below.refl _ _⟩
theorem pins_6 (w : World) : Calls Tryz.prog 7 #[.int .i64 6] w (OutB w false) := by
  go_enter Tryz.func7, Tryz.ntmps7
  go_wp2_with fail
  go_ret
  exact ⟨rfl, Below.refl _ _⟩

set_option maxHeartbeats 4000000 in
set_option maxRecDepth 20000 in
theorem anew_any (c : Cl) (w : World) (hV : Vr w) (hn : c.k = 5 ∨ c.k = 6 → c.nm.size ≤ 2000) (hv : c.k = 5 ∨ c.k = 6 → c.va.size ≤ 2001) : Calls Tryz.prog 6 #[.agg (clC c)] w fun e w' => e = .returned (.tuple #[.string (anF c).1, .bool (anF c).2]) ∧ Below w.heap.size w w' := by
  obtain ⟨k, nm, va⟩ := c
  simp only at hn hv
  have b0 := below_alloc w (.cells #[.int .i64 k, .string nm, .string va] 32)
  have r0 := heap_alloc_new w (.cells #[.int .i64 k, .string nm, .string va] 32)
  have x0 := cell_of_row _ _ 0 _ _ _ r0
  have x1 := cell_of_row _ _ 1 _ _ _ r0
  have x2 := cell_of_row _ _ 2 _ _ _ r0
  have HB0 := hide b0
  unfold anF clC
  simp only
  clear b0 r0
  by_cases h5 : k = 5
  · subst h5
    have hva := hv (.inl rfl)
    have hnm := hn (.inl rfl)
    have HQ := hide (fun wx (h : Below w.heap.size w wx) => quote_any va wx (hV.later h) (by omega))
    have HN := hide (fun wx (h : Below w.heap.size w wx) => kqName_any nm wx (hV.later h) hnm)
    have zq : (ba (qto (bl va))).size ≤ 10000 := by
      have := qto_len (bl va)
      rw [bl_len] at this
      rw [ba_size]
      omega
    have zn : (ba (btw 96 (bl nm))).size ≤ 10000 := by
      have := btw_len 96 (bl nm)
      rw [bl_len] at this
      rw [ba_size]
      omega
    generalize ba (qto (bl va)) = Z at *
    generalize ba (btw 96 (bl nm)) = Y at *
    clear hn hv hV
    by_cases hm : nm = (⟨#[110, 97, 109, 101, 115]⟩ : ByteArray)
    · have e9 : (nm.toList == [110, 97, 109, 101, 115]) = true := by rw [hm]; decide +kernel
      rw [if_pos ⟨rfl, hm⟩]
      have k1 : ¬ 9223372036854775807 < (⟨#[115, 101, 116, 32, 110, 97, 109, 101, 115, 32]⟩ : ByteArray).size + Z.size := by have : (⟨#[115, 101, 116, 32, 110, 97, 109, 101, 115, 32]⟩ : ByteArray).size = 10 := rfl; omega
      have k2 : ¬ 9223372036854775807 < 10 + Z.size := by omega
      clear hm
      go_enter Tryz.func6, Tryz.ntmps6
      go_wp2_with (go_at_call 15; (with_reducible refine (unhide HQ _ (unhide HB0)).mono ?_); rintro e w1 ⟨rfl, b1⟩)
      go_ret2
      exact ⟨rfl, belT (unhide HB0) b1⟩
    · have e9 : (nm.toList == [110, 97, 109, 101, 115]) = false := by
        have h1 := str_neK hm
        rwa [show ((⟨#[110, 97, 109, 101, 115]⟩ : ByteArray) : ByteArray).toList = [110, 97, 109, 101, 115] by decide +kernel] at h1
      rw [if_neg (fun q => hm q.2), if_pos rfl]
      have k1 : ¬ 9223372036854775807 < (⟨#[115, 101, 116, 32, 115, 101, 115, 115, 105, 111, 110, 32]⟩ : ByteArray).size + Y.size := by have : (⟨#[115, 101, 116, 32, 115, 101, 115, 115, 105, 111, 110, 32]⟩ : ByteArray).size = 12 := rfl; omega
      have k2 : ¬ 9223372036854775807 < 12 + Y.size := by omega
      have k3 : ¬ 9223372036854775807 < 12 + Y.size + 3 := by omega
      have s1 : ((⟨#[115, 101, 116, 32, 115, 101, 115, 115, 105, 111, 110, 32]⟩ : ByteArray) ++ Y).size = 12 + Y.size := by rw [ByteArray.size_append]; rfl
      have s2 : ((⟨#[115, 101, 116, 32, 115, 101, 115, 115, 105, 111, 110, 32]⟩ : ByteArray) ++ Y ++ ⟨#[32, 61, 32]⟩).size = 12 + Y.size + 3 := by rw [ByteArray.size_append, s1]; rfl
      have k4 : ¬ 9223372036854775807 < ((⟨#[115, 101, 116, 32, 115, 101, 115, 115, 105, 111, 110, 32]⟩ : ByteArray) ++ Y).size + (⟨#[32, 61, 32]⟩ : ByteArray).size := by rw [s1]; have : (⟨#[32, 61, 32]⟩ : ByteArray).size = 3 := rfl; omega
      have k5 : ¬ 9223372036854775807 < ((⟨#[115, 101, 116, 32, 115, 101, 115, 115, 105, 111, 110, 32]⟩ : ByteArray) ++ Y ++ ⟨#[32, 61, 32]⟩).size + Z.size := by rw [s2]; omega
      have k6 : ¬ 9223372036854775807 < 12 + Y.size + 3 + Z.size := by omega
      clear hm
      go_enter Tryz.func6, Tryz.ntmps6
      go_wp2_with fail
      go_region_with (first | (go_at_call 16; (with_reducible refine (unhide HN _ (by (repeat' (first | exact unhide HB0 | exact QB | refine abl_drew ?_ | refine abl_drewN ?_ _)) <;> fail)).mono ?_); rintro e wA ⟨rfl, qA⟩; have QA : Below w.heap.size w wA := belT (show Below w.heap.size w _ from (by (repeat' (first | exact unhide HB0 | exact QB | refine abl_drew ?_ | refine abl_drewN ?_ _)) <;> fail)) qA; have a2 : wA.cell? ⟨w.heap.size, 2, none⟩ = some (.string va) := cell_later qA (by assumption); have a1 : wA.cell? ⟨w.heap.size, 1, none⟩ = some (.string nm) := cell_later qA (by assumption)) | (go_at_call 15; (with_reducible refine (unhide HQ _ (by (repeat' (first | exact unhide HB0 | exact QA | refine abl_drew ?_ | refine abl_drewN ?_ _)) <;> fail)).mono ?_); rintro e wB ⟨rfl, qB⟩; have QB : Below w.heap.size w wB := belT (show Below w.heap.size w _ from (by (repeat' (first | exact unhide HB0 | exact QA | refine abl_drew ?_ | refine abl_drewN ?_ _)) <;> fail)) qB; have c2 : wB.cell? ⟨w.heap.size, 2, none⟩ = some (.string va) := cell_later qB (by assumption); have c1 : wB.cell? ⟨w.heap.size, 1, none⟩ = some (.string nm) := cell_later qB (by assumption)))
      all_goals go_wp2_with fail
      all_goals go_ret2
      all_goals exact ⟨rfl, by first | exact QA | exact QB⟩
  · rw [if_neg (fun q => h5 q.1), if_neg h5]
    have e5 : (k == 5) = false := by simpa using h5
    by_cases h6 : k = 6
    · subst h6
      have hnm := hn (.inr rfl)
      have HN := hide (fun wx (h : Below w.heap.size w wx) => kqName_any nm wx (hV.later h) hnm)
      have zn : (ba (btw 96 (bl nm))).size ≤ 10000 := by
        have := btw_len 96 (bl nm)
        rw [bl_len] at this
        rw [ba_size]
        omega
      generalize ba (btw 96 (bl nm)) = Y at *
      have k1 : ¬ 9223372036854775807 < (⟨#[117, 115, 101, 32]⟩ : ByteArray).size + Y.size := by have : (⟨#[117, 115, 101, 32]⟩ : ByteArray).size = 4 := rfl; omega
      have k2 : ¬ 9223372036854775807 < 4 + Y.size := by omega
      rw [if_pos rfl]
      clear hn hv hV h5
      go_enter Tryz.func6, Tryz.ntmps6
      go_wp2_with (go_at_call 16; (with_reducible refine (unhide HN _ (unhide HB0)).mono ?_); rintro e w1 ⟨rfl, b1⟩)
      go_ret2
      exact ⟨rfl, belT (unhide HB0) b1⟩
    · rw [if_neg h6]
      have e6 : (k == 6) = false := by simpa using h6
      clear hn hv hV h5 h6
      go_enter Tryz.func6, Tryz.ntmps6
      go_wp2_with fail
      go_ret2
      exact ⟨rfl, unhide HB0⟩

end Go.Proofs.YtaboepnginbjfaaGreatDoor
