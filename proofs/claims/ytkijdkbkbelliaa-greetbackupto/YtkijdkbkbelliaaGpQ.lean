/-
  The packets of logins: what is written is read back as it was; each part of it is too short, with bytes behind it it is wrong; what is read may be written again, and is no longer then. No memory is named here. Conditions: lengths below 2 to the 40.
-/
import Derived.Test.YtkijdkbkbelliaaGpFld2
namespace Go.Proofs.Ytkijdkbkbelliaa
open Go.RowKit
set_option linter.unusedVariables false
set_option linter.unusedSimpArgs false

/-- One field, then the rest, which may hang on what was read. -/
def Bnd {α β : Type} (f : FS → FS) (v : FS → α) (G : α → FS → β × FS) : FS → β × FS := fun s => G (v s) (f s)
/-- The last: nothing may be left. -/
def fin {β : Type} (x : β) : FS → β × FS := fun s => (x, edS s)
/-- The bytes l are read as x; what stands behind them is left; each part of them is too short. -/
structure Okq {β : Type} (Q : FS → β × FS) (l : List Int) (x : β) : Prop where
  ok : ∀ r, Q ⟨l ++ r, 0⟩ = (x, edS ⟨r, 0⟩)
  sh : ∀ k, k < l.length → (Q ⟨l.take k, 0⟩).2.e = 4
/-- Behind an error it stays. -/
def Stq {β : Type} (Q : FS → β × FS) : Prop := ∀ s, s.e ≠ 0 → (Q s).2.e = s.e
def Agq {β : Type} (Q : FS → β × FS) (T : List Int → β → Prop) : Prop := ∀ s, Byt s.b → (Q s).2.e = 0 → s.e = 0 ∧ T s.b (Q s).1

theorem ed_stk : Stk edS := fun s h => by unfold edS; rw [waS_keep _ h]
theorem fin_stq {β : Type} (x : β) : Stq (fin x) := fun s h => ed_stk s h
theorem Stq.bnd {α β : Type} {f : FS → FS} {v : FS → α} {G : α → FS → β × FS} (hf : Stk f) (hG : ∀ a, Stq (G a)) : Stq (Bnd f v G) := fun s h => by
  have e := hf s h
  show (G (v s) (f s)).2.e = s.e
  rw [hG (v s) (f s) (by rw [e]; exact h), e]
theorem fin_ok {β : Type} (x : β) : Okq (fin x) [] x := ⟨fun r => rfl, fun k h => by simp at h⟩
theorem Okq.bnd {α β : Type} {f : FS → FS} {v : FS → α} {G : α → FS → β × FS} {l1 l2 : List Int} {a : α} {x : β} (F : Fld f v l1 a) (hS : ∀ a', Stq (G a')) (K : Okq (G a) l2 x) : Okq (Bnd f v G) (l1 ++ l2) x := by
  refine ⟨fun r => ?_, fun k hk => ?_⟩
  · show G (v _) (f _) = _
    rw [List.append_assoc, F.va, F.ok]
    exact K.ok r
  · show (G (v _) (f _)).2.e = 4
    by_cases h : k < l1.length
    · rw [List.take_append_of_le_length (by omega)]
      have e := F.sh k h
      rw [hS _ _ (by rw [e]; decide), e]
    · rw [List.take_append, List.take_of_length_le (by omega), F.va, F.ok]
      exact K.sh _ (by simp at hk; omega)
theorem fin_ag {β : Type} (x : β) : Agq (fin x) (fun b y => b = [] ∧ y = x) := fun s hb h => by
  have q := waS_e0 (s := s) (x := decide (s.b.length = 0)) h
  exact ⟨q.1, List.eq_nil_of_length_eq_zero (of_decide_eq_true q.2), rfl⟩
theorem Agq.bnd {α β : Type} {f : FS → FS} {v : FS → α} {G : α → FS → β × FS} {S : List Int → α → List Int → Prop} {T : α → List Int → β → Prop} (hf : Stk f) (B : Bak f v S) (hS : ∀ a, Stq (G a)) (hG : ∀ a, Agq (G a) (T a)) :
    Agq (Bnd f v G) (fun b x => ∃ a b', S b a b' ∧ T a b' x) := fun s hb h => by
  have h' : (G (v s) (f s)).2.e = 0 := h
  have e0 : s.e = 0 := by
    by_cases q : s.e = 0
    · exact q
    · have := Stq.bnd (v := v) hf hS s q
      rw [h] at this
      exact this.symm
  have e1 : (f s).e = 0 := by
    by_cases q : (f s).e = 0
    · exact q
    · have := hS (v s) (f s) q
      rw [h'] at this
      exact this.symm
  have b := B s hb e0 e1
  exact ⟨e0, v s, (f s).b, b.1, (hG (v s) (f s) b.2 h').2⟩

/-- With a byte more it is wrong; alone it is right. -/
theorem ed_nil : edS ⟨[], 0⟩ = ⟨[], 0⟩ := rfl
theorem ed_more (x : Int) : (edS ⟨[x], 0⟩).e = 5 := rfl

/-! The readers, field by field. -/
def swC : FS → Sw × FS := Bnd (fun s => maS s 254) (fun _ => ()) fun _ => Bnd enS enA fun pl => Bnd (fun s => noS s 20) (fun s => tkA s 20) fun no => Bnd (fun s => zeS s 1) (fun _ => ()) fun _ => fin ⟨pl, no⟩
theorem swC_eq (b : List Int) : swQ b = swC ⟨b, 0⟩ := rfl
def cuC (c : Int) : FS → Cu × FS := Bnd (fun s => maS s 17) (fun _ => ()) fun _ => Bnd (fun s => waS s (cor c)) (fun _ => ()) fun _ => Bnd enS enA fun us => Bnd shS shA fun re => Bnd enS enA fun sc => Bnd (fun s => waS s (mby c 8 sc)) (fun _ => ()) fun _ => Bnd (fun s => fxS s 2) (fun s => fxA s 2) fun ch => Bnd (fun s => plS s c) (fun s => plA s c) fun pl => Bnd (fun s => atS s c) (fun s => atA s c) fun a => fin ⟨us, re, sc, ch, pl, a⟩
theorem cuC_eq (b : List Int) (c : Int) : cuQ b c = cuC c ⟨b, 0⟩ := rfl
def anC : FS → An × FS := Bnd (fun s => fxS s 4) (fun s => fxA s 4) fun c => Bnd (fun s => waS s (cor c)) (fun _ => ()) fun _ => Bnd (fun s => fxS s 4) (fun s => fxA s 4) fun mo => Bnd (fun s => fxS s 1) (fun s => fxA s 1) fun ch => Bnd (fun s => zeS s 23) (fun _ => ()) fun _ => Bnd enS enA fun us => Bnd (fun s => rsS s c) (fun s => rsA s c) fun re => Bnd (fun s => scS s c) (fun s => scA s c) fun sc => Bnd (fun s => plS s c) (fun s => plA s c) fun pl => Bnd (fun s => atS s c) (fun s => atA s c) fun a => fin ⟨c, mo, ch, us, re, sc, pl, a⟩
theorem anC_eq (b : List Int) : anQ b = anC ⟨b, 0⟩ := rfl
def grC : FS → Gr × FS := Bnd (fun s => maS s 10) (fun _ => ()) fun _ => Bnd enS enA fun ve => Bnd (fun s => fxS s 4) (fun s => fxA s 4) fun th => Bnd (fun s => noS s 8) (fun s => tkA s 8) fun n1 => Bnd (fun s => zeS s 1) (fun _ => ()) fun _ => Bnd (fun s => fxS s 2) (fun s => fxA s 2) fun lo => Bnd (fun s => waS s (cor lo)) (fun _ => ()) fun _ => Bnd (fun s => fxS s 1) (fun s => fxA s 1) fun ch => Bnd (fun s => fxS s 2) (fun s => fxA s 2) fun st => Bnd (fun s => fxS s 2) (fun s => fxA s 2) fun hi => Bnd (fun s => fxS s 1) (fun s => fxA s 1) fun z => Bnd (fun s => waS s (z == nsz (bits .or .u32 lo (hi * 65536)))) (fun _ => ()) fun _ => Bnd (fun s => zeS s 10) (fun _ => ()) fun _ => Bnd (fun s => noS s 12) (fun s => tkA s 12) fun n2 => Bnd (fun s => zeS s 1) (fun _ => ()) fun _ => Bnd (fun s => plS s (bits .or .u32 lo (hi * 65536))) (fun s => plA s (bits .or .u32 lo (hi * 65536))) fun pl => fin ⟨ve, th, n1 ++ n2, bits .or .u32 lo (hi * 65536), ch, st, pl⟩
theorem grC_eq (b : List Int) : grQ b = grC ⟨b, 0⟩ := rfl

/-! Written, then read. -/
theorem swC_ok {p : Sw} (h : sOk p = true) : Okq swC (swB p) p := by
  unfold sOk at h
  simp only [Bool.and_eq_true, beq_iff_eq] at h
  have hn : p.no.length = 20 ∧ p.no.all okb = true := by have := h.2; unfold nck at this; split at this; assumption; omega
  rw [show swB p = [254] ++ (enB p.pl ++ (p.no ++ (List.replicate 1 0 ++ []))) by simp [swB]]
  refine Okq.bnd (ma_fld (by omega) (by omega)) (fun _ => Stq.bnd en_stk (fun _ => Stq.bnd (no_stk _) (fun _ => Stq.bnd (ze_stk _) (fun _ => fin_stq _)))) (Okq.bnd (en_fld h.1) (fun _ => Stq.bnd (no_stk _) (fun _ => Stq.bnd (ze_stk _) (fun _ => fin_stq _))) (Okq.bnd (no_fld hn.1 hn.2) (fun _ => Stq.bnd (ze_stk _) (fun _ => fin_stq _)) (Okq.bnd (ze_fld 1) (fun _ => fin_stq _) (fin_ok _))))
theorem cuC_ok {c : Int} {p : Cu} (h : cOk c p = true) (hK : CuK p) (hz : (aB p.at').length ≤ 1099511627776) : Okq (cuC c) (cuB c p) p := by
  unfold cOk aOk at h
  simp only [Bool.and_eq_true] at h
  rw [show cuB c p = [17] ++ ([] ++ (enB p.us ++ (((p.re.length : Int) :: p.re) ++ (enB p.sc ++ ([] ++ (le p.ch 2 ++ (plB c p.pl ++ (atB c p.at' ++ [])))))))) by simp [cuB]]
  unfold cuC
  rw [h.1]
  refine Okq.bnd (ma_fld (by omega) (by omega)) (fun _ => Stq.bnd (waS_stk _) (fun _ => Stq.bnd en_stk (fun _ => Stq.bnd sh_stk (fun _ => Stq.bnd en_stk (fun _ => Stq.bnd (waS_stk _) (fun _ => Stq.bnd (fx_stk _) (fun _ => Stq.bnd (pl_stk _) (fun _ => Stq.bnd (at_stk _) (fun _ => fin_stq _))))))))) (Okq.bnd wa_fld (fun _ => Stq.bnd en_stk (fun _ => Stq.bnd sh_stk (fun _ => Stq.bnd en_stk (fun _ => Stq.bnd (waS_stk _) (fun _ => Stq.bnd (fx_stk _) (fun _ => Stq.bnd (pl_stk _) (fun _ => Stq.bnd (at_stk _) (fun _ => fin_stq _)))))))) (Okq.bnd (en_fld h.2.1) (fun _ => Stq.bnd sh_stk (fun _ => Stq.bnd en_stk (fun _ => Stq.bnd (waS_stk _) (fun _ => Stq.bnd (fx_stk _) (fun _ => Stq.bnd (pl_stk _) (fun _ => Stq.bnd (at_stk _) (fun _ => fin_stq _))))))) (Okq.bnd (sh_fld (of_decide_eq_true h.2.2.1)) (fun _ => Stq.bnd en_stk (fun _ => Stq.bnd (waS_stk _) (fun _ => Stq.bnd (fx_stk _) (fun _ => Stq.bnd (pl_stk _) (fun _ => Stq.bnd (at_stk _) (fun _ => fin_stq _)))))) (Okq.bnd (en_fld (mby_pln h.2.2.2.1)) (fun _ => Stq.bnd (waS_stk _) (fun _ => Stq.bnd (fx_stk _) (fun _ => Stq.bnd (pl_stk _) (fun _ => Stq.bnd (at_stk _) (fun _ => fin_stq _))))) ?_))))
  rw [h.2.2.2.1]
  refine Okq.bnd wa_fld (fun _ => Stq.bnd (fx_stk _) (fun _ => Stq.bnd (pl_stk _) (fun _ => Stq.bnd (at_stk _) (fun _ => fin_stq _)))) (Okq.bnd (fx_fld (by omega) (by omega) hK.ch.1 (by have := hK.ch.2; simpa using this)) (fun _ => Stq.bnd (pl_stk _) (fun _ => Stq.bnd (at_stk _) (fun _ => fin_stq _))) (Okq.bnd (pl_fld h.2.2.2.2.1) (fun _ => Stq.bnd (at_stk _) (fun _ => fin_stq _)) (Okq.bnd (at_fld h.2.2.2.2.2 hz) (fun _ => fin_stq _) (fin_ok _))))
theorem anC_ok {p : An} (h : aOk p = true) (hK : AnK p) (hb : Byt p.re) (hz : (aB p.at').length ≤ 1099511627776) : Okq anC (anB p) p := by
  unfold aOk at h
  simp only [Bool.and_eq_true] at h
  rw [show anB p = le p.ca 4 ++ ([] ++ (le p.mo 4 ++ (le p.ch 1 ++ (List.replicate 23 0 ++ (enB p.us ++ (rsB p.ca p.re ++ (scB p.ca p.sc ++ (plB p.ca p.pl ++ (atB p.ca p.at' ++ []))))))))) by simp [anB]]
  unfold anC
  refine Okq.bnd (fx_fld (by omega) (by omega) hK.ca.1 (by have := hK.ca.2; simpa using this)) (fun _ => Stq.bnd (waS_stk _) (fun _ => Stq.bnd (fx_stk _) (fun _ => Stq.bnd (fx_stk _) (fun _ => Stq.bnd (ze_stk _) (fun _ => Stq.bnd en_stk (fun _ => Stq.bnd (rs_stk _) (fun _ => Stq.bnd (sc_stk _) (fun _ => Stq.bnd (pl_stk _) (fun _ => Stq.bnd (at_stk _) (fun _ => fin_stq _)))))))))) ?_
  rw [h.1]
  refine Okq.bnd wa_fld (fun _ => Stq.bnd (fx_stk _) (fun _ => Stq.bnd (fx_stk _) (fun _ => Stq.bnd (ze_stk _) (fun _ => Stq.bnd en_stk (fun _ => Stq.bnd (rs_stk _) (fun _ => Stq.bnd (sc_stk _) (fun _ => Stq.bnd (pl_stk _) (fun _ => Stq.bnd (at_stk _) (fun _ => fin_stq _))))))))) (Okq.bnd (fx_fld (by omega) (by omega) hK.mo.1 (by have := hK.mo.2; simpa using this)) (fun _ => Stq.bnd (fx_stk _) (fun _ => Stq.bnd (ze_stk _) (fun _ => Stq.bnd en_stk (fun _ => Stq.bnd (rs_stk _) (fun _ => Stq.bnd (sc_stk _) (fun _ => Stq.bnd (pl_stk _) (fun _ => Stq.bnd (at_stk _) (fun _ => fin_stq _)))))))) (Okq.bnd (fx_fld (by omega) (by omega) hK.ch.1 (by have := hK.ch.2; simpa using this)) (fun _ => Stq.bnd (ze_stk _) (fun _ => Stq.bnd en_stk (fun _ => Stq.bnd (rs_stk _) (fun _ => Stq.bnd (sc_stk _) (fun _ => Stq.bnd (pl_stk _) (fun _ => Stq.bnd (at_stk _) (fun _ => fin_stq _))))))) (Okq.bnd (ze_fld 23) (fun _ => Stq.bnd en_stk (fun _ => Stq.bnd (rs_stk _) (fun _ => Stq.bnd (sc_stk _) (fun _ => Stq.bnd (pl_stk _) (fun _ => Stq.bnd (at_stk _) (fun _ => fin_stq _)))))) (Okq.bnd (en_fld h.2.1) (fun _ => Stq.bnd (rs_stk _) (fun _ => Stq.bnd (sc_stk _) (fun _ => Stq.bnd (pl_stk _) (fun _ => Stq.bnd (at_stk _) (fun _ => fin_stq _))))) (Okq.bnd (rs_fld (of_decide_eq_true h.2.2.1) hb) (fun _ => Stq.bnd (sc_stk _) (fun _ => Stq.bnd (pl_stk _) (fun _ => Stq.bnd (at_stk _) (fun _ => fin_stq _)))) (Okq.bnd (sc_fld h.2.2.2.1) (fun _ => Stq.bnd (pl_stk _) (fun _ => Stq.bnd (at_stk _) (fun _ => fin_stq _))) (Okq.bnd (pl_fld h.2.2.2.2.1) (fun _ => Stq.bnd (at_stk _) (fun _ => fin_stq _)) (Okq.bnd (at_fld h.2.2.2.2.2 hz) (fun _ => fin_stq _) (fin_ok _)))))))))
theorem all_take {l : List Int} (h : l.all okb = true) (n : Nat) : (l.take n).all okb = true := List.all_eq_true.2 fun x hx => List.all_eq_true.1 h x (List.mem_of_mem_take hx)
theorem all_drop {l : List Int} (h : l.all okb = true) (n : Nat) : (l.drop n).all okb = true := List.all_eq_true.2 fun x hx => List.all_eq_true.1 h x (List.mem_of_mem_drop hx)
theorem grC_ok {p : Gr} (h : gOk p = true) (hK : GrK p) : Okq grC (grB p) p := by
  unfold gOk at h
  simp only [Bool.and_eq_true, beq_iff_eq] at h
  have hn : p.no.length = 20 ∧ p.no.all okb = true := by have := h.2.2.1; unfold nck at this; split at this; assumption; omega
  have hc := hK.ca
  have hj : bits .or .u32 (p.ca % 65536) (p.ca / 65536 * 65536) = p.ca := by rw [or_join (by omega) (by omega) (by omega) (by omega)]; omega
  rw [show grB p = [10] ++ (enB p.ve ++ (le p.th 4 ++ (p.no.take 8 ++ (List.replicate 1 0 ++ (le (p.ca % 65536) 2 ++ ([] ++ (le p.ch 1 ++ (le p.st 2 ++ (le (p.ca / 65536) 2 ++ (le (nsz p.ca) 1 ++ ([] ++ (List.replicate 10 0 ++ (p.no.drop 8 ++ (List.replicate 1 0 ++ (plB p.ca p.pl ++ []))))))))))))))) by simp [grB]]
  unfold grC
  refine Okq.bnd (ma_fld (by omega) (by omega)) (fun _ => Stq.bnd en_stk (fun _ => Stq.bnd (fx_stk _) (fun _ => Stq.bnd (no_stk _) (fun _ => Stq.bnd (ze_stk _) (fun _ => Stq.bnd (fx_stk _) (fun _ => Stq.bnd (waS_stk _) (fun _ => Stq.bnd (fx_stk _) (fun _ => Stq.bnd (fx_stk _) (fun _ => Stq.bnd (fx_stk _) (fun _ => Stq.bnd (fx_stk _) (fun _ => Stq.bnd (waS_stk _) (fun _ => Stq.bnd (ze_stk _) (fun _ => Stq.bnd (no_stk _) (fun _ => Stq.bnd (ze_stk _) (fun _ => Stq.bnd (pl_stk _) (fun _ => fin_stq _)))))))))))))))) (Okq.bnd (en_fld h.2.1) (fun _ => Stq.bnd (fx_stk _) (fun _ => Stq.bnd (no_stk _) (fun _ => Stq.bnd (ze_stk _) (fun _ => Stq.bnd (fx_stk _) (fun _ => Stq.bnd (waS_stk _) (fun _ => Stq.bnd (fx_stk _) (fun _ => Stq.bnd (fx_stk _) (fun _ => Stq.bnd (fx_stk _) (fun _ => Stq.bnd (fx_stk _) (fun _ => Stq.bnd (waS_stk _) (fun _ => Stq.bnd (ze_stk _) (fun _ => Stq.bnd (no_stk _) (fun _ => Stq.bnd (ze_stk _) (fun _ => Stq.bnd (pl_stk _) (fun _ => fin_stq _))))))))))))))) (Okq.bnd (fx_fld (by omega) (by omega) hK.th.1 (by have := hK.th.2; simpa using this)) (fun _ => Stq.bnd (no_stk _) (fun _ => Stq.bnd (ze_stk _) (fun _ => Stq.bnd (fx_stk _) (fun _ => Stq.bnd (waS_stk _) (fun _ => Stq.bnd (fx_stk _) (fun _ => Stq.bnd (fx_stk _) (fun _ => Stq.bnd (fx_stk _) (fun _ => Stq.bnd (fx_stk _) (fun _ => Stq.bnd (waS_stk _) (fun _ => Stq.bnd (ze_stk _) (fun _ => Stq.bnd (no_stk _) (fun _ => Stq.bnd (ze_stk _) (fun _ => Stq.bnd (pl_stk _) (fun _ => fin_stq _)))))))))))))) (Okq.bnd (no_fld (by simp; omega) (all_take hn.2 8)) (fun _ => Stq.bnd (ze_stk _) (fun _ => Stq.bnd (fx_stk _) (fun _ => Stq.bnd (waS_stk _) (fun _ => Stq.bnd (fx_stk _) (fun _ => Stq.bnd (fx_stk _) (fun _ => Stq.bnd (fx_stk _) (fun _ => Stq.bnd (fx_stk _) (fun _ => Stq.bnd (waS_stk _) (fun _ => Stq.bnd (ze_stk _) (fun _ => Stq.bnd (no_stk _) (fun _ => Stq.bnd (ze_stk _) (fun _ => Stq.bnd (pl_stk _) (fun _ => fin_stq _))))))))))))) (Okq.bnd (ze_fld 1) (fun _ => Stq.bnd (fx_stk _) (fun _ => Stq.bnd (waS_stk _) (fun _ => Stq.bnd (fx_stk _) (fun _ => Stq.bnd (fx_stk _) (fun _ => Stq.bnd (fx_stk _) (fun _ => Stq.bnd (fx_stk _) (fun _ => Stq.bnd (waS_stk _) (fun _ => Stq.bnd (ze_stk _) (fun _ => Stq.bnd (no_stk _) (fun _ => Stq.bnd (ze_stk _) (fun _ => Stq.bnd (pl_stk _) (fun _ => fin_stq _)))))))))))) (Okq.bnd (fx_fld (by omega) (by omega) (x := p.ca % 65536) (by omega) (by have : p.ca % 65536 < 65536 := (by omega); simpa using this)) (fun _ => Stq.bnd (waS_stk _) (fun _ => Stq.bnd (fx_stk _) (fun _ => Stq.bnd (fx_stk _) (fun _ => Stq.bnd (fx_stk _) (fun _ => Stq.bnd (fx_stk _) (fun _ => Stq.bnd (waS_stk _) (fun _ => Stq.bnd (ze_stk _) (fun _ => Stq.bnd (no_stk _) (fun _ => Stq.bnd (ze_stk _) (fun _ => Stq.bnd (pl_stk _) (fun _ => fin_stq _))))))))))) ?_)))))
  rw [cor_low hc.1 hc.2, h.1]
  refine Okq.bnd wa_fld (fun _ => Stq.bnd (fx_stk _) (fun _ => Stq.bnd (fx_stk _) (fun _ => Stq.bnd (fx_stk _) (fun _ => Stq.bnd (fx_stk _) (fun _ => Stq.bnd (waS_stk _) (fun _ => Stq.bnd (ze_stk _) (fun _ => Stq.bnd (no_stk _) (fun _ => Stq.bnd (ze_stk _) (fun _ => Stq.bnd (pl_stk _) (fun _ => fin_stq _)))))))))) (Okq.bnd (fx_fld (by omega) (by omega) hK.ch.1 (by have := hK.ch.2; simpa using this)) (fun _ => Stq.bnd (fx_stk _) (fun _ => Stq.bnd (fx_stk _) (fun _ => Stq.bnd (fx_stk _) (fun _ => Stq.bnd (waS_stk _) (fun _ => Stq.bnd (ze_stk _) (fun _ => Stq.bnd (no_stk _) (fun _ => Stq.bnd (ze_stk _) (fun _ => Stq.bnd (pl_stk _) (fun _ => fin_stq _))))))))) (Okq.bnd (fx_fld (by omega) (by omega) hK.st.1 (by have := hK.st.2; simpa using this)) (fun _ => Stq.bnd (fx_stk _) (fun _ => Stq.bnd (fx_stk _) (fun _ => Stq.bnd (waS_stk _) (fun _ => Stq.bnd (ze_stk _) (fun _ => Stq.bnd (no_stk _) (fun _ => Stq.bnd (ze_stk _) (fun _ => Stq.bnd (pl_stk _) (fun _ => fin_stq _)))))))) (Okq.bnd (fx_fld (by omega) (by omega) (x := p.ca / 65536) (by omega) (by have : p.ca / 65536 < 65536 := (by omega); simpa using this)) (fun _ => Stq.bnd (fx_stk _) (fun _ => Stq.bnd (waS_stk _) (fun _ => Stq.bnd (ze_stk _) (fun _ => Stq.bnd (no_stk _) (fun _ => Stq.bnd (ze_stk _) (fun _ => Stq.bnd (pl_stk _) (fun _ => fin_stq _))))))) ?_)))
  rw [hj]
  refine Okq.bnd (fx_fld (by omega) (by omega) (x := nsz p.ca) (nsz_bd _).1 (by have := (nsz_bd p.ca).2; simpa using this)) (fun _ => Stq.bnd (waS_stk _) (fun _ => Stq.bnd (ze_stk _) (fun _ => Stq.bnd (no_stk _) (fun _ => Stq.bnd (ze_stk _) (fun _ => Stq.bnd (pl_stk _) (fun _ => fin_stq _)))))) ?_
  rw [beq_self_eq_true]
  refine Okq.bnd wa_fld (fun _ => Stq.bnd (ze_stk _) (fun _ => Stq.bnd (no_stk _) (fun _ => Stq.bnd (ze_stk _) (fun _ => Stq.bnd (pl_stk _) (fun _ => fin_stq _))))) (Okq.bnd (ze_fld 10) (fun _ => Stq.bnd (no_stk _) (fun _ => Stq.bnd (ze_stk _) (fun _ => Stq.bnd (pl_stk _) (fun _ => fin_stq _)))) (Okq.bnd (no_fld (by simp; omega) (all_drop hn.2 8)) (fun _ => Stq.bnd (ze_stk _) (fun _ => Stq.bnd (pl_stk _) (fun _ => fin_stq _))) (Okq.bnd (ze_fld 1) (fun _ => Stq.bnd (pl_stk _) (fun _ => fin_stq _)) (Okq.bnd (pl_fld h.2.2.2) (fun _ => fin_stq _) ?_))))
  rw [List.take_append_drop]
  exact fin_ok _

/-! Read, then written. -/
theorem swC_ag (b : List Int) (hb : Byt b) (h : (swC ⟨b, 0⟩).2.e = 0) : b = swB (swC ⟨b, 0⟩).1 ∧ sOk (swC ⟨b, 0⟩).1 = true := by
  have A := (Agq.bnd (ma_stk 254) (ma_bak (by omega) (by omega)) (fun _ => Stq.bnd en_stk (fun _ => Stq.bnd (no_stk _) (fun _ => Stq.bnd (ze_stk _) (fun _ => fin_stq _)))) (fun _ => Agq.bnd en_stk en_bak (fun _ => Stq.bnd (no_stk _) (fun _ => Stq.bnd (ze_stk _) (fun _ => fin_stq _))) (fun pl => Agq.bnd (no_stk 20) (no_bak 20) (fun _ => Stq.bnd (ze_stk _) (fun _ => fin_stq _)) (fun no => Agq.bnd (ze_stk 1) (ze_bak 1) (fun _ => fin_stq _) (fun _ => fin_ag (⟨pl, no⟩ : Sw))))) ⟨b, 0⟩ hb h).2
  obtain ⟨_, b1, e1, pl, b2, ⟨e2, hp⟩, no, b3, ⟨e3, hl, ha, _⟩, _, b4, e4, e5, e6⟩ := A
  change (swC ⟨b, 0⟩).1 = _ at e6
  rw [e6]
  simp only at e1
  subst e5
  constructor
  · rw [e1, e2, e3, e4]
    simp [swB]
  · unfold sOk nck
    rw [hp, if_pos ⟨hl, ha⟩]
    rfl
theorem cuC_ag (b : List Int) (c : Int) (hb : Byt b) (h : (cuC c ⟨b, 0⟩).2.e = 0) : (cuB c (cuC c ⟨b, 0⟩).1).length ≤ b.length ∧ cOk c (cuC c ⟨b, 0⟩).1 = true ∧ CuK (cuC c ⟨b, 0⟩).1 := by
  have A := (Agq.bnd (ma_stk 17) (ma_bak (by omega) (by omega)) (fun _ => Stq.bnd (waS_stk _) (fun _ => Stq.bnd en_stk (fun _ => Stq.bnd sh_stk (fun _ => Stq.bnd en_stk (fun _ => Stq.bnd (waS_stk _) (fun _ => Stq.bnd (fx_stk _) (fun _ => Stq.bnd (pl_stk _) (fun _ => Stq.bnd (at_stk _) (fun _ => fin_stq _))))))))) (fun _ => Agq.bnd (waS_stk (cor c)) (wa_bak (cor c)) (fun _ => Stq.bnd en_stk (fun _ => Stq.bnd sh_stk (fun _ => Stq.bnd en_stk (fun _ => Stq.bnd (waS_stk _) (fun _ => Stq.bnd (fx_stk _) (fun _ => Stq.bnd (pl_stk _) (fun _ => Stq.bnd (at_stk _) (fun _ => fin_stq _)))))))) (fun _ => Agq.bnd en_stk en_bak (fun _ => Stq.bnd sh_stk (fun _ => Stq.bnd en_stk (fun _ => Stq.bnd (waS_stk _) (fun _ => Stq.bnd (fx_stk _) (fun _ => Stq.bnd (pl_stk _) (fun _ => Stq.bnd (at_stk _) (fun _ => fin_stq _))))))) (fun us => Agq.bnd sh_stk sh_bak (fun _ => Stq.bnd en_stk (fun _ => Stq.bnd (waS_stk _) (fun _ => Stq.bnd (fx_stk _) (fun _ => Stq.bnd (pl_stk _) (fun _ => Stq.bnd (at_stk _) (fun _ => fin_stq _)))))) (fun re => Agq.bnd en_stk en_bak (fun _ => Stq.bnd (waS_stk _) (fun _ => Stq.bnd (fx_stk _) (fun _ => Stq.bnd (pl_stk _) (fun _ => Stq.bnd (at_stk _) (fun _ => fin_stq _))))) (fun sc => Agq.bnd (waS_stk (mby c 8 sc)) (wa_bak (mby c 8 sc)) (fun _ => Stq.bnd (fx_stk _) (fun _ => Stq.bnd (pl_stk _) (fun _ => Stq.bnd (at_stk _) (fun _ => fin_stq _)))) (fun _ => Agq.bnd (fx_stk 2) (fx_bak (n := 2) (by omega) (by omega)) (fun _ => Stq.bnd (pl_stk _) (fun _ => Stq.bnd (at_stk _) (fun _ => fin_stq _))) (fun ch => Agq.bnd (pl_stk c) (pl_bak c) (fun _ => Stq.bnd (at_stk _) (fun _ => fin_stq _)) (fun pl => Agq.bnd (at_stk c) (at_bak c) (fun _ => fin_stq _) (fun a => fin_ag (⟨us, re, sc, ch, pl, a⟩ : Cu)))))))))) ⟨b, 0⟩ hb h).2
  obtain ⟨_, b1, e1, _, b2, ⟨e2, hc⟩, us, b3, ⟨e3, hus⟩, re, b4, ⟨e4, hre, _⟩, sc, b5, ⟨e5, hsc⟩, _, b6, ⟨e6, hmb⟩, ch, b7, ⟨e7, hch0, hch1⟩, pl, b8, ⟨e8, hpl⟩, a, b9, ⟨e9, hat⟩, e10, e11⟩ := A
  change (cuC c ⟨b, 0⟩).1 = _ at e11
  rw [e11]
  simp only at e1
  refine ⟨?_, ?_, ⟨hch0, by simpa using hch1⟩⟩
  · rw [e1, ← e2, e3, e4, e5, ← e6, e7, e8]
    unfold cuB
    simp only [List.length_append]
    omega
  · unfold cOk aOk
    simp only [Bool.and_eq_true]
    exact ⟨hc, hus, decide_eq_true hre, hmb, hpl, hat⟩
theorem anC_ag (b : List Int) (hb : Byt b) (h : (anC ⟨b, 0⟩).2.e = 0) : (anB (anC ⟨b, 0⟩).1).length ≤ b.length ∧ aOk (anC ⟨b, 0⟩).1 = true ∧ AnK (anC ⟨b, 0⟩).1 ∧ Byt (anC ⟨b, 0⟩).1.re := by
  have A := (Agq.bnd (fx_stk 4) (fx_bak (n := 4) (by omega) (by omega)) (fun _ => Stq.bnd (waS_stk _) (fun _ => Stq.bnd (fx_stk _) (fun _ => Stq.bnd (fx_stk _) (fun _ => Stq.bnd (ze_stk _) (fun _ => Stq.bnd en_stk (fun _ => Stq.bnd (rs_stk _) (fun _ => Stq.bnd (sc_stk _) (fun _ => Stq.bnd (pl_stk _) (fun _ => Stq.bnd (at_stk _) (fun _ => fin_stq _)))))))))) (fun c => Agq.bnd (waS_stk (cor c)) (wa_bak (cor c)) (fun _ => Stq.bnd (fx_stk _) (fun _ => Stq.bnd (fx_stk _) (fun _ => Stq.bnd (ze_stk _) (fun _ => Stq.bnd en_stk (fun _ => Stq.bnd (rs_stk _) (fun _ => Stq.bnd (sc_stk _) (fun _ => Stq.bnd (pl_stk _) (fun _ => Stq.bnd (at_stk _) (fun _ => fin_stq _))))))))) (fun _ => Agq.bnd (fx_stk 4) (fx_bak (n := 4) (by omega) (by omega)) (fun _ => Stq.bnd (fx_stk _) (fun _ => Stq.bnd (ze_stk _) (fun _ => Stq.bnd en_stk (fun _ => Stq.bnd (rs_stk _) (fun _ => Stq.bnd (sc_stk _) (fun _ => Stq.bnd (pl_stk _) (fun _ => Stq.bnd (at_stk _) (fun _ => fin_stq _)))))))) (fun mo => Agq.bnd (fx_stk 1) (fx_bak (n := 1) (by omega) (by omega)) (fun _ => Stq.bnd (ze_stk _) (fun _ => Stq.bnd en_stk (fun _ => Stq.bnd (rs_stk _) (fun _ => Stq.bnd (sc_stk _) (fun _ => Stq.bnd (pl_stk _) (fun _ => Stq.bnd (at_stk _) (fun _ => fin_stq _))))))) (fun ch => Agq.bnd (ze_stk 23) (ze_bak 23) (fun _ => Stq.bnd en_stk (fun _ => Stq.bnd (rs_stk _) (fun _ => Stq.bnd (sc_stk _) (fun _ => Stq.bnd (pl_stk _) (fun _ => Stq.bnd (at_stk _) (fun _ => fin_stq _)))))) (fun _ => Agq.bnd en_stk en_bak (fun _ => Stq.bnd (rs_stk _) (fun _ => Stq.bnd (sc_stk _) (fun _ => Stq.bnd (pl_stk _) (fun _ => Stq.bnd (at_stk _) (fun _ => fin_stq _))))) (fun us => Agq.bnd (rs_stk c) (rs_bak c) (fun _ => Stq.bnd (sc_stk _) (fun _ => Stq.bnd (pl_stk _) (fun _ => Stq.bnd (at_stk _) (fun _ => fin_stq _)))) (fun re => Agq.bnd (sc_stk c) (sc_bak c) (fun _ => Stq.bnd (pl_stk _) (fun _ => Stq.bnd (at_stk _) (fun _ => fin_stq _))) (fun sc => Agq.bnd (pl_stk c) (pl_bak c) (fun _ => Stq.bnd (at_stk _) (fun _ => fin_stq _)) (fun pl => Agq.bnd (at_stk c) (at_bak c) (fun _ => fin_stq _) (fun a => fin_ag (⟨c, mo, ch, us, re, sc, pl, a⟩ : An))))))))))) ⟨b, 0⟩ hb h).2
  obtain ⟨c, b1, ⟨e1, hc0, hc1⟩, _, b2, ⟨e2, hc⟩, mo, b3, ⟨e3, hmo0, hmo1⟩, ch, b4, ⟨e4, hch0, hch1⟩, _, b5, e5, us, b6, ⟨e6, hus⟩, re, b7, ⟨e7, hre, hby⟩, sc, b8, ⟨e8, hsc⟩, pl, b9, ⟨e9, hpl⟩, a, b10, ⟨e10, hat⟩, e11, e12⟩ := A
  change (anC ⟨b, 0⟩).1 = _ at e12
  rw [e12]
  simp only at e1
  refine ⟨?_, ?_, ⟨⟨hc0, by simpa using hc1⟩, ⟨hmo0, by simpa using hmo1⟩, ⟨hch0, by simpa using hch1⟩⟩, hby⟩
  · rw [e1, ← e2, e3, e4, e5, e6]
    rw [e8, e9] at e7
    unfold anB
    simp only [List.length_append] at e7 ⊢
    omega
  · unfold aOk
    simp only [Bool.and_eq_true]
    exact ⟨hc, hus, decide_eq_true hre, hsc, hpl, hat⟩
theorem grC_ag (b : List Int) (hb : Byt b) (h : (grC ⟨b, 0⟩).2.e = 0) : b = grB (grC ⟨b, 0⟩).1 ∧ gOk (grC ⟨b, 0⟩).1 = true ∧ GrK (grC ⟨b, 0⟩).1 := by
  have A := (Agq.bnd (ma_stk 10) (ma_bak (by omega) (by omega)) (fun _ => Stq.bnd en_stk (fun _ => Stq.bnd (fx_stk _) (fun _ => Stq.bnd (no_stk _) (fun _ => Stq.bnd (ze_stk _) (fun _ => Stq.bnd (fx_stk _) (fun _ => Stq.bnd (waS_stk _) (fun _ => Stq.bnd (fx_stk _) (fun _ => Stq.bnd (fx_stk _) (fun _ => Stq.bnd (fx_stk _) (fun _ => Stq.bnd (fx_stk _) (fun _ => Stq.bnd (waS_stk _) (fun _ => Stq.bnd (ze_stk _) (fun _ => Stq.bnd (no_stk _) (fun _ => Stq.bnd (ze_stk _) (fun _ => Stq.bnd (pl_stk _) (fun _ => fin_stq _)))))))))))))))) (fun _ => Agq.bnd en_stk en_bak (fun _ => Stq.bnd (fx_stk _) (fun _ => Stq.bnd (no_stk _) (fun _ => Stq.bnd (ze_stk _) (fun _ => Stq.bnd (fx_stk _) (fun _ => Stq.bnd (waS_stk _) (fun _ => Stq.bnd (fx_stk _) (fun _ => Stq.bnd (fx_stk _) (fun _ => Stq.bnd (fx_stk _) (fun _ => Stq.bnd (fx_stk _) (fun _ => Stq.bnd (waS_stk _) (fun _ => Stq.bnd (ze_stk _) (fun _ => Stq.bnd (no_stk _) (fun _ => Stq.bnd (ze_stk _) (fun _ => Stq.bnd (pl_stk _) (fun _ => fin_stq _))))))))))))))) (fun ve => Agq.bnd (fx_stk 4) (fx_bak (n := 4) (by omega) (by omega)) (fun _ => Stq.bnd (no_stk _) (fun _ => Stq.bnd (ze_stk _) (fun _ => Stq.bnd (fx_stk _) (fun _ => Stq.bnd (waS_stk _) (fun _ => Stq.bnd (fx_stk _) (fun _ => Stq.bnd (fx_stk _) (fun _ => Stq.bnd (fx_stk _) (fun _ => Stq.bnd (fx_stk _) (fun _ => Stq.bnd (waS_stk _) (fun _ => Stq.bnd (ze_stk _) (fun _ => Stq.bnd (no_stk _) (fun _ => Stq.bnd (ze_stk _) (fun _ => Stq.bnd (pl_stk _) (fun _ => fin_stq _)))))))))))))) (fun th => Agq.bnd (no_stk 8) (no_bak 8) (fun _ => Stq.bnd (ze_stk _) (fun _ => Stq.bnd (fx_stk _) (fun _ => Stq.bnd (waS_stk _) (fun _ => Stq.bnd (fx_stk _) (fun _ => Stq.bnd (fx_stk _) (fun _ => Stq.bnd (fx_stk _) (fun _ => Stq.bnd (fx_stk _) (fun _ => Stq.bnd (waS_stk _) (fun _ => Stq.bnd (ze_stk _) (fun _ => Stq.bnd (no_stk _) (fun _ => Stq.bnd (ze_stk _) (fun _ => Stq.bnd (pl_stk _) (fun _ => fin_stq _))))))))))))) (fun n1 => Agq.bnd (ze_stk 1) (ze_bak 1) (fun _ => Stq.bnd (fx_stk _) (fun _ => Stq.bnd (waS_stk _) (fun _ => Stq.bnd (fx_stk _) (fun _ => Stq.bnd (fx_stk _) (fun _ => Stq.bnd (fx_stk _) (fun _ => Stq.bnd (fx_stk _) (fun _ => Stq.bnd (waS_stk _) (fun _ => Stq.bnd (ze_stk _) (fun _ => Stq.bnd (no_stk _) (fun _ => Stq.bnd (ze_stk _) (fun _ => Stq.bnd (pl_stk _) (fun _ => fin_stq _)))))))))))) (fun _ => Agq.bnd (fx_stk 2) (fx_bak (n := 2) (by omega) (by omega)) (fun _ => Stq.bnd (waS_stk _) (fun _ => Stq.bnd (fx_stk _) (fun _ => Stq.bnd (fx_stk _) (fun _ => Stq.bnd (fx_stk _) (fun _ => Stq.bnd (fx_stk _) (fun _ => Stq.bnd (waS_stk _) (fun _ => Stq.bnd (ze_stk _) (fun _ => Stq.bnd (no_stk _) (fun _ => Stq.bnd (ze_stk _) (fun _ => Stq.bnd (pl_stk _) (fun _ => fin_stq _))))))))))) (fun lo => Agq.bnd (waS_stk (cor lo)) (wa_bak (cor lo)) (fun _ => Stq.bnd (fx_stk _) (fun _ => Stq.bnd (fx_stk _) (fun _ => Stq.bnd (fx_stk _) (fun _ => Stq.bnd (fx_stk _) (fun _ => Stq.bnd (waS_stk _) (fun _ => Stq.bnd (ze_stk _) (fun _ => Stq.bnd (no_stk _) (fun _ => Stq.bnd (ze_stk _) (fun _ => Stq.bnd (pl_stk _) (fun _ => fin_stq _)))))))))) (fun _ => Agq.bnd (fx_stk 1) (fx_bak (n := 1) (by omega) (by omega)) (fun _ => Stq.bnd (fx_stk _) (fun _ => Stq.bnd (fx_stk _) (fun _ => Stq.bnd (fx_stk _) (fun _ => Stq.bnd (waS_stk _) (fun _ => Stq.bnd (ze_stk _) (fun _ => Stq.bnd (no_stk _) (fun _ => Stq.bnd (ze_stk _) (fun _ => Stq.bnd (pl_stk _) (fun _ => fin_stq _))))))))) (fun ch => Agq.bnd (fx_stk 2) (fx_bak (n := 2) (by omega) (by omega)) (fun _ => Stq.bnd (fx_stk _) (fun _ => Stq.bnd (fx_stk _) (fun _ => Stq.bnd (waS_stk _) (fun _ => Stq.bnd (ze_stk _) (fun _ => Stq.bnd (no_stk _) (fun _ => Stq.bnd (ze_stk _) (fun _ => Stq.bnd (pl_stk _) (fun _ => fin_stq _)))))))) (fun st => Agq.bnd (fx_stk 2) (fx_bak (n := 2) (by omega) (by omega)) (fun _ => Stq.bnd (fx_stk _) (fun _ => Stq.bnd (waS_stk _) (fun _ => Stq.bnd (ze_stk _) (fun _ => Stq.bnd (no_stk _) (fun _ => Stq.bnd (ze_stk _) (fun _ => Stq.bnd (pl_stk _) (fun _ => fin_stq _))))))) (fun hi => Agq.bnd (fx_stk 1) (fx_bak (n := 1) (by omega) (by omega)) (fun _ => Stq.bnd (waS_stk _) (fun _ => Stq.bnd (ze_stk _) (fun _ => Stq.bnd (no_stk _) (fun _ => Stq.bnd (ze_stk _) (fun _ => Stq.bnd (pl_stk _) (fun _ => fin_stq _)))))) (fun z => Agq.bnd (waS_stk (z == nsz (bits .or .u32 lo (hi * 65536)))) (wa_bak (z == nsz (bits .or .u32 lo (hi * 65536)))) (fun _ => Stq.bnd (ze_stk _) (fun _ => Stq.bnd (no_stk _) (fun _ => Stq.bnd (ze_stk _) (fun _ => Stq.bnd (pl_stk _) (fun _ => fin_stq _))))) (fun _ => Agq.bnd (ze_stk 10) (ze_bak 10) (fun _ => Stq.bnd (no_stk _) (fun _ => Stq.bnd (ze_stk _) (fun _ => Stq.bnd (pl_stk _) (fun _ => fin_stq _)))) (fun _ => Agq.bnd (no_stk 12) (no_bak 12) (fun _ => Stq.bnd (ze_stk _) (fun _ => Stq.bnd (pl_stk _) (fun _ => fin_stq _))) (fun n2 => Agq.bnd (ze_stk 1) (ze_bak 1) (fun _ => Stq.bnd (pl_stk _) (fun _ => fin_stq _)) (fun _ => Agq.bnd (pl_stk (bits .or .u32 lo (hi * 65536))) (pl_bak (bits .or .u32 lo (hi * 65536))) (fun _ => fin_stq _) (fun pl => fin_ag (⟨ve, th, n1 ++ n2, bits .or .u32 lo (hi * 65536), ch, st, pl⟩ : Gr))))))))))))))))) ⟨b, 0⟩ hb h).2
  obtain ⟨_, b1, e1, ve, b2, ⟨e2, hve⟩, th, b3, ⟨e3, hth0, hth1⟩, n1, b4, ⟨e4, hl1, ha1, _⟩, _, b5, e5, lo, b6, ⟨e6, hlo0, hlo1⟩, _, b7, ⟨e7, hcor⟩, ch, b8, ⟨e8, hch0, hch1⟩, st, b9, ⟨e9, hst0, hst1⟩, hi, b10, ⟨e10, hhi0, hhi1⟩, z, b11, ⟨e11, _, _⟩, _, b12, ⟨e12, hz⟩, _, b13, e13, n2, b14, ⟨e14, hl2, ha2, _⟩, _, b15, e15, pl, b16, ⟨e16, hpl⟩, e17, e18⟩ := A
  change (grC ⟨b, 0⟩).1 = _ at e18
  rw [e18]
  simp only at e1
  have hlo1' : lo < 65536 := by simpa using hlo1
  have hhi1' : hi < 65536 := by simpa using hhi1
  have hj := or_join hlo0 hlo1' hhi0 hhi1'
  rw [hj] at hz e16 hpl ⊢
  have m1 : (lo + hi * 65536) % 65536 = lo := by omega
  have m2 : (lo + hi * 65536) / 65536 = hi := by omega
  have hz' : z = nsz (lo + hi * 65536) := by simpa using hz
  have hc1 : lo + hi * 65536 < 4294967296 := by omega
  refine ⟨?_, ?_, ⟨⟨hth0, by simpa using hth1⟩, ⟨by simp only; omega, hc1⟩, ⟨hch0, by simpa using hch1⟩, ⟨hst0, by simpa using hst1⟩⟩⟩
  · rw [e1, e2, e3, e4, e5, e6, ← e7, e8, e9, e10, e11, ← e12, e13, e14, e15, e16, e17]
    unfold grB
    simp only [m1, m2, hz', List.append_assoc, List.append_nil]
    rw [List.take_append_of_le_length (by omega), List.take_of_length_le (by omega), List.drop_append_of_le_length (by omega), List.drop_of_length_le (by omega), List.nil_append]
  · unfold gOk nck
    simp only [Bool.and_eq_true]
    refine ⟨?_, hve, ?_, hpl⟩
    · rw [← cor_low (by omega) hc1, m1]
      exact hcor
    · rw [if_pos ⟨by simp; omega, by rw [List.all_append, ha1, ha2]; rfl⟩]
      rfl

end Go.Proofs.Ytkijdkbkbelliaa
