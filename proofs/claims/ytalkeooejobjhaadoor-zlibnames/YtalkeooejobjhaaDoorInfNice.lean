/-
  What every step of the reading keeps to: behind an error nothing changes; what is read goes on, and stays within the bytes and the limit; other bytes behind what was read, or a greater limit, do not count; fewer bytes, or a smaller limit, give the same or just that error. No program and no memory is named here.
-/
import Derived.Test.YtalkeooejobjhaaDoorInfPlain3
namespace Go.Proofs.YtalkeooejobjhaaDoor
set_option linter.unusedVariables false
set_option linter.unusedSimpArgs false

/-- b' has the bits of b up to n. -/
def Agree (b b' : List Int) (n : Nat) : Prop := n ≤ 8 * b'.length ∧ ∀ i, i < n → bitAt b' i = bitAt b i
theorem Agree.mono {b b' : List Int} {n k : Nat} (h : Agree b b' n) (hk : k ≤ n) : Agree b b' k := ⟨Nat.le_trans hk h.1, fun i hi => h.2 i (by omega)⟩
/-- Fewer bytes (the error is 4), or a smaller limit (it is 3). -/
def Cut (z : Int) (b : List Int) (m : Int) (b' : List Int) (m' : Int) : Prop := (z = 4 ∧ m' = m ∧ ∃ k, b' = b.take k) ∨ (z = 3 ∧ b' = b ∧ m' ≤ m)
theorem Cut.ne {z : Int} {b : List Int} {m : Int} {b' : List Int} {m' : Int} (h : Cut z b m b' m') : z ≠ 0 := by
  rcases h with ⟨rfl, _⟩ | ⟨rfl, _⟩ <;> omega

structure Nice {α : Type} (f : List Int → Int → PS → α × PS) : Prop where
  dead : ∀ b m s, s.e ≠ 0 → (f b m s).2 = s
  up : ∀ b m s, s.e = 0 → (f b m s).2.e = 0 → s.p ≤ (f b m s).2.p ∧ s.o.length ≤ (f b m s).2.o.length ∧ (s.p ≤ 8 * b.length → (f b m s).2.p ≤ 8 * b.length) ∧ ((s.o.length : Int) ≤ m → ((f b m s).2.o.length : Int) ≤ m)
  loc : ∀ b m b' m' s, s.e = 0 → (f b m s).2.e = 0 → Agree b b' (f b m s).2.p → ((f b m s).2.o.length : Int) ≤ m' → f b' m' s = f b m s
  cut : ∀ z b m b' m' s, Cut z b m b' m' → s.e = 0 → (f b m s).2.e = 0 → f b' m' s = f b m s ∨ (f b' m' s).2.e = z

theorem Nice.live {α : Type} {f : List Int → Int → PS → α × PS} (h : Nice f) {b : List Int} {m : Int} {s : PS} (he : (f b m s).2.e = 0) : s.e = 0 :=
  Decidable.byContradiction fun q => by have := h.dead b m s q; rw [this] at he; exact q he

theorem Nice.bind {α β : Type} {f : List Int → Int → PS → α × PS} {g : α → List Int → Int → PS → β × PS} (hf : Nice f) (hg : ∀ x, Nice (g x)) : Nice (fun b m s => g (f b m s).1 b m (f b m s).2) := by
  refine ⟨fun b m s h => ?_, fun b m s h he => ?_, fun b m b' m' s h he ha hm => ?_, fun z b m b' m' s hc h he => ?_⟩
  · have h1 := hf.dead b m s h
    have h2 := (hg (f b m s).1).dead b m (f b m s).2 (by rw [h1]; exact h)
    show (g (f b m s).1 b m (f b m s).2).2 = s
    rw [h2, h1]
  · have h1 := (hg _).live he
    have u1 := hf.up b m s h h1
    have u2 := (hg _).up b m _ h1 he
    exact ⟨Nat.le_trans u1.1 u2.1, Nat.le_trans u1.2.1 u2.2.1, fun q => u2.2.2.1 (u1.2.2.1 q), fun q => u2.2.2.2 (u1.2.2.2 q)⟩
  · show g (f b' m' s).1 b' m' (f b' m' s).2 = g (f b m s).1 b m (f b m s).2
    have h1 := (hg _).live he
    have u2 := (hg _).up b m _ h1 he
    have e1 := hf.loc b m b' m' s h h1 (ha.mono u2.1) (by have := u2.2.1; omega)
    rw [e1]
    exact (hg _).loc b m b' m' _ h1 he ha hm
  · show g (f b' m' s).1 b' m' (f b' m' s).2 = g (f b m s).1 b m (f b m s).2 ∨ (g (f b' m' s).1 b' m' (f b' m' s).2).2.e = z
    have h1 := (hg _).live he
    rcases hf.cut z b m b' m' s hc h h1 with e1 | e1
    · rw [e1]
      exact (hg _).cut z b m b' m' _ hc h1 he
    · right
      rw [(hg _).dead b' m' _ (by rw [e1]; exact hc.ne)]
      exact e1
theorem Nice.map {α β : Type} {f : List Int → Int → PS → α × PS} (h : α → β) (hf : Nice f) : Nice (fun b m s => (h (f b m s).1, (f b m s).2)) := by
  refine ⟨fun b m s q => hf.dead b m s q, fun b m s q he => hf.up b m s q he, fun b m b' m' s q he ha hm => ?_, fun z b m b' m' s hc q he => ?_⟩
  · show (h (f b' m' s).1, (f b' m' s).2) = _
    rw [hf.loc b m b' m' s q he ha hm]
  · rcases hf.cut z b m b' m' s hc q he with e1 | e1
    · left
      show (h (f b' m' s).1, (f b' m' s).2) = _
      rw [e1]
    · exact .inr e1
/-- A step that does not ask for the bytes and the limit. -/
theorem Nice.free {α : Type} {f : PS → α × PS} (h1 : ∀ s, s.e ≠ 0 → (f s).2 = s) (h2 : ∀ s, s.e = 0 → (f s).2.e = 0 → s.p ≤ (f s).2.p ∧ (f s).2.o = s.o ∧ ∀ n, s.p ≤ 8 * n → (f s).2.p ≤ 8 * n) : Nice (fun _ _ s => f s) := by
  refine ⟨fun b m s q => h1 s q, fun b m s q he => ?_, fun b m b' m' s q he ha hm => rfl, fun z b m b' m' s hc q he => .inl rfl⟩
  obtain ⟨a1, a2, a3⟩ := h2 s q he
  simp only [a2]
  exact ⟨a1, Nat.le_refl _, a3 b.length, fun q => q⟩
theorem Nice.pure {α : Type} (v : α) : Nice (fun _ _ s => (v, s)) := Nice.free (f := fun s => (v, s)) (fun _ _ => rfl) (fun _ _ _ => ⟨Nat.le_refl _, rfl, fun _ q => q⟩)
theorem Nice.stop {α : Type} (v : α) (z : Int) (hz : z ≠ 0) : Nice (fun _ _ s => (v, stopS z s)) :=
  Nice.free (f := fun s => (v, stopS z s)) (fun s q => stopS_dead q) (fun s _ he => absurd he (stopS_e z s hz))
theorem Nice.iteS {α : Type} {f g : List Int → Int → PS → α × PS} (P : PS → Prop) [DecidablePred P] (hf : Nice f) (hg : Nice g) : Nice (fun b m s => if P s then f b m s else g b m s) := by
  refine ⟨fun b m s q => ?_, fun b m s q he => ?_, fun b m b' m' s q he ha hm => ?_, fun z b m b' m' s hc q he => ?_⟩
  all_goals by_cases hp : P s
  all_goals try simp only [hp, if_true, if_false] at *
  · exact hf.dead b m s q
  · exact hg.dead b m s q
  · exact hf.up b m s q he
  · exact hg.up b m s q he
  · exact hf.loc b m b' m' s q he ha hm
  · exact hg.loc b m b' m' s q he ha hm
  · exact hf.cut z b m b' m' s hc q he
  · exact hg.cut z b m b' m' s hc q he
theorem Nice.ite {α : Type} {f g : List Int → Int → PS → α × PS} (c : Prop) [Decidable c] (hf : Nice f) (hg : Nice g) : Nice (fun b m s => if c then f b m s else g b m s) :=
  Nice.iteS (fun _ => c) hf hg

theorem bitAt_take (b : List Int) (k i : Nat) (h : i / 8 < (b.take k).length) : bitAt (b.take k) i = bitAt b i := by
  unfold bitAt
  rw [List.getElem?_take_of_lt (by simp at h; omega)]
theorem nice_bit : Nice (fun b _ s => bitS b s) := by
  refine ⟨fun b m s q => by simp only [bitS_dead q], fun b m s q he => ?_, fun b m b' m' s q he ha hm => ?_, fun z b m b' m' s hc q he => ?_⟩
  all_goals try simp only at he ⊢
  all_goals by_cases hs : s.p / 8 < b.length
  all_goals first
    | (rw [bitS_short q hs] at he; simp at he)
    | skip
  · rw [bitS_live q hs]
    exact ⟨by simp, by simp, fun _ => by simp only; omega, fun q => q⟩
  · simp only [bitS_live q hs] at ha ⊢
    rw [bitS_live q (show s.p / 8 < b'.length by have := ha.1; omega), ha.2 s.p (by omega)]
  · rcases hc with ⟨rfl, rfl, k, rfl⟩ | ⟨rfl, rfl, _⟩
    · by_cases hs2 : s.p / 8 < (b.take k).length
      · left
        rw [bitS_live q hs, bitS_live q hs2, bitAt_take b k _ hs2]
      · right
        rw [bitS_short q hs2]
    · exact .inl rfl
theorem nice_fld : ∀ n, Nice (fun b _ s => fldN b n s)
  | 0 => Nice.pure (0 : Int)
  | n + 1 => Nice.bind (g := fun x b m s => (x + (bitS b s).1 * 2 ^ n, (bitS b s).2)) (nice_fld n) (fun x => Nice.map (fun y => x + y * 2 ^ n) nice_bit)

theorem dec_loc (L b b' : List Int) (at_ : Nat) : ∀ (f n : Nat) (x : Int), (dec L b at_ f n x).2.2 = 0 → Agree b b' (at_ + (dec L b at_ f n x).2.1.toNat) → dec L b' at_ f n x = dec L b at_ f n x
  | 0, n, x, h, _ => by simp [dec] at h
  | f + 1, n, x, h, ha => by
    by_cases hs : 8 * b.length < at_ + n + 1
    · rw [dec_short L b at_ f n x hs] at h
      simp at h
    · obtain ⟨i, k, hd, _, _, hk, _, _⟩ := dec_ok L b at_ (f + 1) n x h
      rw [hd] at ha
      simp only [Int.toNat_natCast] at ha
      have hs' : ¬ 8 * b'.length < at_ + n + 1 := by have := ha.1; omega
      have hb : bitAt b' (at_ + n) = bitAt b (at_ + n) := ha.2 _ (by omega)
      cases hf : fnd L (n + 1) (2 * x + bitAt b (at_ + n)) with
      | some j => rw [dec_hit L b at_ f n x hs j hf, dec_hit L b' at_ f n x hs' j (by rw [hb]; exact hf)]
      | none =>
        have e1 := dec_miss L b at_ f n x hs hf
        have e2 := dec_miss L b' at_ f n x hs' (by rw [hb]; exact hf)
        rw [e1] at h hd ⊢
        rw [e2, hb]
        exact dec_loc L b b' at_ f (n + 1) _ h (by rw [hd]; simpa using ha)
theorem dec_cut (L b : List Int) (k at_ : Nat) : ∀ (f n : Nat) (x : Int), dec L (b.take k) at_ f n x = dec L b at_ f n x ∨ (dec L (b.take k) at_ f n x).2.2 = 4
  | 0, n, x => .inl rfl
  | f + 1, n, x => by
    by_cases hs : 8 * (b.take k).length < at_ + n + 1
    · right
      rw [dec_short L _ at_ f n x hs]
    · have hs' : ¬ 8 * b.length < at_ + n + 1 := by simp at hs; omega
      have hb : bitAt (b.take k) (at_ + n) = bitAt b (at_ + n) := bitAt_take b k _ (by omega)
      cases hf : fnd L (n + 1) (2 * x + bitAt b (at_ + n)) with
      | some j => left; rw [dec_hit L b at_ f n x hs' j hf, dec_hit L _ at_ f n x hs j (by rw [hb]; exact hf)]
      | none =>
        rw [dec_miss L b at_ f n x hs' hf, dec_miss L _ at_ f n x hs (by rw [hb]; exact hf), hb]
        exact dec_cut L b k at_ f (n + 1) _
theorem rdq_rd {L : List Int} (hc : cer L = 0) (b : List Int) (p : Nat) : rdq L b p = dec L b p (lng L 16) 0 0 := by
  unfold rdq
  rw [if_pos hc, if_neg (by omega)]
  rfl
theorem nice_sym (L : List Int) : Nice (fun b _ s => symS L b s) := by
  refine ⟨fun b m s q => by simp only [symS_dead q], fun b m s q he => ?_, fun b m b' m' s q he ha hm => ?_, fun z b m b' m' s hc q he => ?_⟩
  · simp only [symS_live q] at he ⊢
    obtain ⟨i, k, h1, h2, h3, h4, _⟩ := rdq_ok L b s.p he
    rw [h1]
    exact ⟨by simp, by simp, fun _ => by simpa using h4, fun q => q⟩
  · simp only [symS_live q] at he ha ⊢
    have hr : rdq L b' s.p = rdq L b s.p := by
      obtain ⟨_, _, _, _, _, _, hc⟩ := rdq_ok L b s.p he
      rw [rdq_rd hc] at he ha ⊢
      rw [rdq_rd hc]
      exact dec_loc L b b' _ _ _ _ he ha
    rw [hr]
  · rcases hc with ⟨rfl, rfl, k, rfl⟩ | ⟨rfl, rfl, _⟩
    · simp only [symS_live q] at he ⊢
      obtain ⟨_, _, _, _, _, _, hc⟩ := rdq_ok L b s.p he
      have hr : rdq L (b.take k) s.p = rdq L b s.p ∨ (rdq L (b.take k) s.p).2.2 = 4 := by
        rw [rdq_rd hc, rdq_rd hc]
        exact dec_cut L b k _ _ _ _
      rcases hr with hr | hr
      · left; rw [hr]
      · exact .inr hr
    · exact .inl rfl
theorem nice_tel {c : PS → Int} : Nice (fun _ m s => ((), telS m (c s) s)) := by
  refine ⟨fun b m s q => by simp only [telS_dead q], fun b m s q he => ?_, fun b m b' m' s q he ha hm => ?_, fun z b m b' m' s hc q he => ?_⟩
  all_goals try simp only at he ⊢
  all_goals by_cases hs : (s.o.length : Int) < m
  all_goals first
    | (rw [telS_full q hs] at he; simp at he)
    | skip
  · rw [telS_live q hs]
    exact ⟨by simp, by simp, fun q => q, fun _ => by simp; omega⟩
  · simp only [telS_live q hs] at hm ⊢
    rw [telS_live q (by simp at hm; omega)]
  · rcases hc with ⟨rfl, rfl, k, rfl⟩ | ⟨rfl, rfl, hm⟩
    · exact .inl rfl
    · by_cases hs2 : (s.o.length : Int) < m'
      · left; rw [telS_live q hs, telS_live q hs2]
      · right; rw [telS_full q hs2]

theorem nice_wth (base bits : Nat) : Nice (fun b _ s => wthS b base bits s) := Nice.map (fun x => (base : Int) + x) (nice_fld bits)
theorem nice_dsy (x : Int) : Nice (fun b _ s => dsyS b x s) := Nice.ite (x < 30) (nice_wth _ _) (Nice.stop 0 5 (by omega))
theorem nice_dst (D : List Int) : Nice (fun b _ s => dstS D b s) := Nice.bind (g := fun x b _ s => dsyS b x s) (nice_sym D) nice_dsy
theorem nice_lth (x : Int) : Nice (fun b _ s => lthS b x s) := nice_wth _ _
theorem nice_cpyL (d : Nat) : ∀ n, Nice (fun _ m s => ((), cpyL m d n s))
  | 0 => Nice.pure ()
  | n + 1 => Nice.bind (f := fun _ m s => ((), bckS m d s)) (g := fun _ _ m s => ((), cpyL m d n s)) (nice_tel (c := fun s => s.o[s.o.length - d]?.getD 0)) (fun _ => nice_cpyL d n)
theorem nice_far (d : Nat) : Nice (fun _ _ s => ((), farS d s)) := by
  have h : Nice (fun _ _ s => if s.o.length < d then ((), stopS 5 s) else ((), s)) := Nice.iteS (fun s => s.o.length < d) (Nice.stop () 5 (by omega)) (Nice.pure ())
  have e : (fun (_ : List Int) (_ : Int) (s : PS) => ((), farS d s)) = (fun _ _ s => if s.o.length < d then ((), stopS 5 s) else ((), s)) := by
    funext b m s
    unfold farS
    split <;> rfl
  rw [e]
  exact h
theorem nice_cpy (n d : Nat) : Nice (fun _ m s => ((), cpyS m n d s)) := Nice.bind (f := fun _ _ s => ((), farS d s)) (g := fun _ _ m s => ((), cpyL m d n s)) (nice_far d) (fun _ => nice_cpyL d n)
theorem nice_cpx (D : List Int) (x : Int) : Nice (fun b m s => ((), cpxS D b m x s)) :=
  Nice.bind (f := fun b _ s => lthS b x s) (g := fun l b m s => ((), cpyS m l.toNat (dstS D b s).1.toNat (dstS D b s).2)) (nice_lth x) (fun l =>
    Nice.bind (f := fun b _ s => dstS D b s) (g := fun d b m s => ((), cpyS m l.toNat d.toNat s)) (nice_dst D) (fun d => nice_cpy _ _))
/-- What comes behind a symbol x. -/
def cdX (L D b : List Int) (m : Int) (f : Nat) (x : Int) (s : PS) : PS :=
  if x < 256 then cdS L D b m f (telS m x s) else if x = 256 then s else if x < 286 then cdS L D b m f (cpxS D b m x s) else cdS L D b m f (stopS 5 s)
theorem cdS_live {L D b : List Int} {m : Int} {f : Nat} {s : PS} (h : s.e = 0) : cdS L D b m (f + 1) s = cdX L D b m f (symS L b s).1 (symS L b s).2 := by
  simp only [cdS]
  rw [if_pos h]
  rfl
theorem nice_cd (L D : List Int) : ∀ f, Nice (fun b m s => ((), cdS L D b m f s))
  | 0 => Nice.pure ()
  | f + 1 => by
    have ih := nice_cd L D f
    have hx : ∀ x, Nice (fun b m s => ((), cdX L D b m f x s)) := fun x => by
      have h : Nice (fun b m s => if x < 256 then ((), cdS L D b m f (telS m x s)) else if x = 256 then ((), s) else if x < 286 then ((), cdS L D b m f (cpxS D b m x s)) else ((), cdS L D b m f (stopS 5 s))) :=
        Nice.ite _ (Nice.bind (f := fun _ m s => ((), telS m x s)) (g := fun _ b m s => ((), cdS L D b m f s)) (nice_tel (c := fun _ => x)) (fun _ => ih))
          (Nice.ite _ (Nice.pure ()) (Nice.ite _ (Nice.bind (f := fun b m s => ((), cpxS D b m x s)) (g := fun _ b m s => ((), cdS L D b m f s)) (nice_cpx D x) (fun _ => ih))
            (Nice.bind (f := fun _ _ s => ((), stopS 5 s)) (g := fun _ b m s => ((), cdS L D b m f s)) (Nice.stop () 5 (by omega)) (fun _ => ih))))
      have e : (fun (b : List Int) (m : Int) (s : PS) => ((), cdX L D b m f x s)) = (fun b m s => if x < 256 then ((), cdS L D b m f (telS m x s)) else if x = 256 then ((), s) else if x < 286 then ((), cdS L D b m f (cpxS D b m x s)) else ((), cdS L D b m f (stopS 5 s))) := by
        funext b m s
        unfold cdX
        split
        · rfl
        · split
          · rfl
          · split <;> rfl
      rw [e]
      exact h
    have h : Nice (fun b m s => if s.e = 0 then ((), cdX L D b m f (symS L b s).1 (symS L b s).2) else ((), s)) :=
      Nice.iteS (fun s => s.e = 0) (Nice.bind (f := fun b _ s => symS L b s) (g := fun x b m s => ((), cdX L D b m f x s)) (nice_sym L) hx) (Nice.pure ())
    have e : (fun (b : List Int) (m : Int) (s : PS) => ((), cdS L D b m (f + 1) s)) = (fun b m s => if s.e = 0 then ((), cdX L D b m f (symS L b s).1 (symS L b s).2) else ((), s)) := by
      funext b m s
      by_cases q : s.e = 0
      · rw [cdS_live q, if_pos q]
      · rw [cdS_dead q, if_neg q]
    rw [e]
    exact h
theorem nice_stoL : ∀ n, Nice (fun b m s => ((), stoL b m n s))
  | 0 => Nice.pure ()
  | n + 1 => Nice.bind (f := fun b _ s => fldN b 8 s) (g := fun x b m s => ((), stoL b m n (telS m x s))) (nice_fld 8) (fun x =>
      Nice.bind (f := fun _ m s => ((), telS m x s)) (g := fun _ b m s => ((), stoL b m n s)) (nice_tel (c := fun _ => x)) (fun _ => nice_stoL n))
theorem nice_tob : Nice (fun _ _ s => ((), tobS s)) := by
  refine Nice.free (f := fun s => ((), tobS s)) (fun s q => if_neg q) (fun s q he => ?_)
  have e : tobS s = { s with p := (s.p + 7) / 8 * 8 } := if_pos q
  simp only [e]
  exact ⟨by omega, trivial, fun n hn => by omega⟩
theorem nice_stt (c t : Int) : Nice (fun b m s => ((), sttS b m c t s)) := by
  have h : Nice (fun b m s => if t = 65535 - c then ((), stoL b m c.toNat s) else ((), stoL b m c.toNat (stopS 5 s))) :=
    Nice.ite _ (nice_stoL _) (Nice.bind (f := fun _ _ s => ((), stopS 5 s)) (g := fun _ b m s => ((), stoL b m c.toNat s)) (Nice.stop () 5 (by omega)) (fun _ => nice_stoL _))
  have e : (fun (b : List Int) (m : Int) (s : PS) => ((), sttS b m c t s)) = (fun b m s => if t = 65535 - c then ((), stoL b m c.toNat s) else ((), stoL b m c.toNat (stopS 5 s))) := by
    funext b m s
    unfold sttS
    split <;> rfl
  rw [e]
  exact h
theorem nice_sto : Nice (fun b m s => ((), stoS b m s)) :=
  Nice.bind (f := fun _ _ s => ((), tobS s)) (g := fun _ b m s => ((), sttS b m (fldN b 16 s).1 (fldN b 16 (fldN b 16 s).2).1 (fldN b 16 (fldN b 16 s).2).2)) nice_tob (fun _ =>
    Nice.bind (f := fun b _ s => fldN b 16 s) (g := fun c b m s => ((), sttS b m c (fldN b 16 s).1 (fldN b 16 s).2)) (nice_fld 16) (fun c =>
      Nice.bind (f := fun b _ s => fldN b 16 s) (g := fun t b m s => ((), sttS b m c t s)) (nice_fld 16) (fun t => nice_stt c t)))
theorem nice_cnt (least most : Int) : Nice (fun b _ s => cntS b least most s) := by
  have h : Nice (fun b (_ : Int) s => (fun x (_ : List Int) (_ : Int) (t : PS) => if least + x ≤ most then (least + x, t) else (least + x, stopS 5 t)) (fldN b 5 s).1 b 0 (fldN b 5 s).2) :=
    Nice.bind (f := fun b _ s => fldN b 5 s) (g := fun x (_ : List Int) (_ : Int) (t : PS) => if least + x ≤ most then (least + x, t) else (least + x, stopS 5 t)) (nice_fld 5) (fun x => Nice.ite _ (Nice.pure _) (Nice.stop _ 5 (by omega)))
  have e : (fun (b : List Int) (_ : Int) (s : PS) => cntS b least most s) = (fun b _ s => (fun x (_ : List Int) (_ : Int) (t : PS) => if least + x ≤ most then (least + x, t) else (least + x, stopS 5 t)) (fldN b 5 s).1 b 0 (fldN b 5 s).2) := by
    funext b m s
    unfold cntS
    simp only
    split <;> rfl
  rw [e]
  exact h
theorem nice_colN : ∀ i, Nice (fun b _ s => colN b i s)
  | 0 => Nice.pure _
  | i + 1 => Nice.bind (f := fun b _ s => colN b i s) (g := fun l b _ s => (l.set (ordL[i]?.getD 0) (fldN b 3 s).1, (fldN b 3 s).2)) (nice_colN i) (fun l => Nice.map (fun x => l.set (ordL[i]?.getD 0) x) (nice_fld 3))
theorem nice_col : Nice (fun b _ s => colS b s) := by
  have hc : ∀ l : List Int, Nice (fun (_ : List Int) (_ : Int) s => colC (l, s)) := fun l => by
    have h : Nice (fun (_ : List Int) (_ : Int) s => if whole l = true then (l, s) else (l, stopS 5 s)) := Nice.ite _ (Nice.pure _) (Nice.stop _ 5 (by omega))
    have e : (fun (_ : List Int) (_ : Int) s => colC (l, s)) = (fun (_ : List Int) (_ : Int) (s : PS) => if whole l = true then (l, s) else (l, stopS 5 s)) := by
      funext b m s
      unfold colC
      simp only
      split <;> rfl
    rw [e]
    exact h
  exact Nice.bind (f := fun b _ s => fldN b 4 s) (g := fun x b _ s => colC (colN b (4 + x).toNat s)) (nice_fld 4) (fun x =>
    Nice.bind (f := fun b _ s => colN b (4 + x).toNat s) (g := fun l (_ : List Int) (_ : Int) s => colC (l, s)) (nice_colN _) hc)
theorem nice_agn (a : List Int) : Nice (fun b _ s => agnS b a s) := Nice.ite (a.length = 0) (Nice.stop _ 5 (by omega)) (Nice.map (fun x : Int => a ++ List.replicate (3 + x).toNat (a[a.length - 1]?.getD 0)) (nice_fld 2))
theorem nice_nne (a : List Int) (k n : Nat) : Nice (fun b _ s => nneS b a k n s) := Nice.map (fun x : Int => a ++ List.replicate ((k : Int) + x).toNat 0) (nice_fld n)
theorem nice_lex (a : List Int) (x : Int) : Nice (fun b _ s => lexS b a x s) := Nice.ite _ (nice_agn a) (Nice.ite _ (nice_nne a 3 3) (Nice.ite _ (nice_nne a 11 7) (Nice.pure _)))
theorem nice_lenL (C : List Int) (N : Nat) : ∀ f a, Nice (fun b _ s => lenL C b N f a s)
  | 0, a => Nice.pure a
  | f + 1, a => Nice.iteS (fun s => a.length < N ∧ s.e = 0) (Nice.bind (f := fun b _ s => symS C b s) (g := fun x b _ s => lenL C b N f (lexS b a x s).1 (lexS b a x s).2) (nice_sym C) (fun x =>
      Nice.bind (f := fun b _ s => lexS b a x s) (g := fun l b _ s => lenL C b N f l s) (nice_lex a x) (fun l => nice_lenL C N f l))) (Nice.pure a)
theorem nice_len (C : List Int) (N : Nat) : Nice (fun b _ s => lenS C b N s) := by
  have hc : ∀ l : List Int, Nice (fun (_ : List Int) (_ : Int) s => lenC N (l, s)) := fun l => by
    have h : Nice (fun (_ : List Int) (_ : Int) s => if l.length ≤ N then (l, s) else (l, stopS 5 s)) := Nice.ite _ (Nice.pure _) (Nice.stop _ 5 (by omega))
    have e : (fun (_ : List Int) (_ : Int) s => lenC N (l, s)) = (fun (_ : List Int) (_ : Int) (s : PS) => if l.length ≤ N then (l, s) else (l, stopS 5 s)) := by
      funext b m s
      unfold lenC
      simp only
      split <;> rfl
    rw [e]
    exact h
  exact Nice.bind (f := fun b _ s => lenL C b N (N + 1) [] s) (g := fun l (_ : List Int) (_ : Int) s => lenC N (l, s)) (nice_lenL C N _ _) hc
theorem nice_two (l : Nat) (A : List Int) : Nice (fun (_ : List Int) (_ : Int) s => twoS l (A, s)) := by
  have h : Nice (fun (_ : List Int) (_ : Int) (s : PS) => if s.e = 0 then (if (lits (A.take l) && dsts (A.drop l)) = true then ((A.take l, A.drop l), s) else ((A.take l, A.drop l), stopS 5 s)) else (([], []), s)) :=
    Nice.iteS (fun s => s.e = 0) (Nice.ite _ (Nice.pure _) (Nice.stop _ 5 (by omega))) (Nice.pure _)
  have e : (fun (_ : List Int) (_ : Int) s => twoS l (A, s)) = (fun (_ : List Int) (_ : Int) (s : PS) => if s.e = 0 then (if (lits (A.take l) && dsts (A.drop l)) = true then ((A.take l, A.drop l), s) else ((A.take l, A.drop l), stopS 5 s)) else (([], []), s)) := by
    funext b m s
    unfold twoS
    simp only
    split
    · split <;> rfl
    · rfl
  rw [e]
  exact h
theorem nice_cos : Nice (fun b _ s => cosS b s) :=
  Nice.bind (f := fun b _ s => cntS b 257 286 s) (g := fun l b _ s => co2S b l (cntS b 1 30 s)) (nice_cnt _ _) (fun l =>
    Nice.bind (f := fun b _ s => cntS b 1 30 s) (g := fun d b _ s => co3S b l d (colS b s)) (nice_cnt _ _) (fun d =>
      Nice.bind (f := fun b _ s => colS b s) (g := fun C b _ s => twoS l.toNat (lenS C b (l + d).toNat s)) nice_col (fun C =>
        Nice.bind (f := fun b _ s => lenS C b (l + d).toNat s) (g := fun A (_ : List Int) (_ : Int) s => twoS l.toNat (A, s)) (nice_len _ _) (fun A => nice_two _ A))))
theorem nice_knd (F : Nat) (k : Int) : Nice (fun b m s => ((), knds F b m k s)) := by
  have h : Nice (fun b m s => if k = 0 then ((), stoS b m s) else if k = 1 then ((), cdS fixL fixD b m F s) else if k = 2 then ((), cdS (cosS b s).1.1 (cosS b s).1.2 b m F (cosS b s).2) else ((), stopS 5 s)) :=
    Nice.ite _ nice_sto (Nice.ite _ (nice_cd _ _ F) (Nice.ite _ (Nice.bind (f := fun b _ s => cosS b s) (g := fun (c : List Int × List Int) b m s => ((), cdS c.1 c.2 b m F s)) nice_cos (fun c => nice_cd _ _ F)) (Nice.stop () 5 (by omega))))
  have e : (fun (b : List Int) (m : Int) (s : PS) => ((), knds F b m k s)) = (fun b m s => if k = 0 then ((), stoS b m s) else if k = 1 then ((), cdS fixL fixD b m F s) else if k = 2 then ((), cdS (cosS b s).1.1 (cosS b s).1.2 b m F (cosS b s).2) else ((), stopS 5 s)) := by
    funext b m s
    unfold knds
    split
    · rfl
    · split
      · rfl
      · split <;> rfl
  rw [e]
  exact h
/-- A block: its kind, whether it is the last one. -/
def blkN (F : Nat) (b : List Int) (m : Int) (s : PS) : (Int × Int) × PS := (((hd1 b s).1, (hd2 b s).1), blkS F b m s)
theorem nice_blk (F : Nat) : Nice (blkN F) :=
  Nice.bind (f := fun b _ s => fldN b 1 s) (g := fun x b m s => ((x, (fldN b 2 s).1), knds F b m (fldN b 2 s).1 (fldN b 2 s).2)) (nice_fld 1) (fun x =>
    Nice.bind (f := fun b _ s => fldN b 2 s) (g := fun k b m s => ((x, k), knds F b m k s)) (nice_fld 2) (fun k => Nice.map (fun _ => (x, k)) (nice_knd F k)))

end Go.Proofs.YtalkeooejobjhaaDoor
