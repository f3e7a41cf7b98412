/-
  Where a stream ends: with anything behind it, or with a limit that is just met, it is the same; without its last byte, or with a smaller limit, it is just that error. No program and no memory is named here.
-/
import Derived.Test.YtalkeooejobjhaaDoorInfAll
namespace Go.Proofs.YtalkeooejobjhaaDoor
set_option linter.unusedVariables false
set_option linter.unusedSimpArgs false

theorem nice_blkB (F : Nat) : Nice (fun b m s => (blkV F b m s, blkS F b m s)) := by
  have h := nice_blk F
  have key : ∀ b m b' m' s, blkN F b' m' s = blkN F b m s → (blkV F b' m' s, blkS F b' m' s) = (blkV F b m s, blkS F b m s) := by
    intro b m b' m' s e
    have e1 : (hd1 b' s).1 = (hd1 b s).1 := congrArg (fun x => x.1.1) e
    have e2 : (hd2 b' s).1 = (hd2 b s).1 := congrArg (fun x => x.1.2) e
    have e3 : blkS F b' m' s = blkS F b m s := congrArg (fun x => x.2) e
    unfold blkV
    rw [e1, e2, e3]
  refine ⟨fun b m s q => h.dead b m s q, fun b m s q he => h.up b m s q he, fun b m b' m' s q he ha hm => key b m b' m' s (h.loc b m b' m' s q he ha hm), fun z b m b' m' s hc q he => ?_⟩
  rcases h.cut z b m b' m' s hc q he with e | e
  · exact .inl (key b m b' m' s e)
  · exact .inr e
theorem nice_all (F : Nat) : ∀ f ov l, Nice (fun b m s => allS F b m f ov l s)
  | 0, ov, l => Nice.pure l
  | f + 1, ov, l => Nice.iteS (fun s => ov = false ∧ s.e = 0) (Nice.bind (f := fun b m s => (blkV F b m s, blkS F b m s)) (g := fun x b m s => allS F b m f x.last (l ++ [x]) s) (nice_blkB F) (fun x => nice_all F f _ _)) (Nice.pure l)
theorem nice_inf (F : Nat) : Nice (fun b m s => allS F b m F false [] s) := nice_all F F false []

theorem inf_up {F : Nat} {b : List Int} {m : Int} (hF : 1 ≤ F) (m0 : 0 ≤ m) (h : (infS F b m).2.e = 0) : 3 ≤ (infS F b m).2.p ∧ (infS F b m).2.p ≤ 8 * b.length ∧ ((infS F b m).2.o.length : Int) ≤ m := by
  have u := (nice_inf F).up b m ⟨0, 0, []⟩ rfl h
  refine ⟨?_, u.2.2.1 (by simp), u.2.2.2 (by simpa using m0)⟩
  obtain ⟨f, rfl⟩ : ∃ f, F = f + 1 := ⟨F - 1, by omega⟩
  unfold infS at h ⊢
  rw [allS_on rfl rfl f] at h ⊢
  have hb : (blkS (f + 1) b m ⟨0, 0, []⟩).e = 0 := (nice_all (f + 1) f _ _).live h
  have h1 := (blk_p hb).2.2.2.1
  have h2 := ((nice_all (f + 1) f (blkV (f + 1) b m ⟨0, 0, []⟩).last ([] ++ [blkV (f + 1) b m ⟨0, 0, []⟩])).up b m _ hb h).1
  have h3 : (⟨0, 0, []⟩ : PS).p = 0 := rfl
  omega
/-- Of how many bytes a bit was read. -/
theorem inf_same {F : Nat} {b : List Int} {m : Int} (n : Nat) (behind : List Int) (h : (infS F b m).2.e = 0) (hn : n = ((infS F b m).2.p + 7) / 8) (hl : n ≤ b.length) : infS F (b.take n ++ behind) ((infS F b m).2.o.length : Int) = infS F b m := by
  refine (nice_inf F).loc b m _ _ ⟨0, 0, []⟩ rfl h ⟨?_, fun i hi => ?_⟩ (Int.le_refl _)
  · have : (infS F b m).2.p ≤ 8 * n := by omega
    show (infS F b m).2.p ≤ _
    simp
    omega
  · have hi' : i < (infS F b m).2.p := hi
    have : i / 8 < n := by omega
    unfold bitAt
    rw [List.getElem?_append_left (by simp; omega), List.getElem?_take_of_lt this]
theorem inf_short {F : Nat} {b : List Int} {m : Int} (hF : 1 ≤ F) (m0 : 0 ≤ m) (n : Nat) (h : (infS F b m).2.e = 0) (hn : n = ((infS F b m).2.p + 7) / 8) : (infS F (b.take (n - 1)) m).2.e = 4 := by
  rcases (nice_inf F).cut 4 b m (b.take (n - 1)) m ⟨0, 0, []⟩ (.inl ⟨rfl, rfl, n - 1, rfl⟩) rfl h with e | e
  · exfalso
    have e' : infS F (b.take (n - 1)) m = infS F b m := e
    have h2 : (infS F (b.take (n - 1)) m).2.e = 0 := by rw [e']; exact h
    have u := (inf_up hF m0 h2).2.1
    have u1 := (inf_up hF m0 h).1
    rw [e'] at u
    simp at u
    omega
  · exact e
theorem inf_long {F : Nat} {b : List Int} {m m' : Int} (hF : 1 ≤ F) (m0 : 0 ≤ m') (h : (infS F b m).2.e = 0) (hm : m' < ((infS F b m).2.o.length : Int)) (hm2 : m' ≤ m) : (infS F b m').2.e = 3 := by
  rcases (nice_inf F).cut 3 b m b m' ⟨0, 0, []⟩ (.inr ⟨rfl, rfl, hm2⟩) rfl h with e | e
  · exfalso
    have e' : infS F b m' = infS F b m := e
    have h2 : (infS F b m').2.e = 0 := by rw [e']; exact h
    have u := (inf_up hF m0 h2).2.2
    rw [e'] at u
    omega
  · exact e
theorem infR_e (r : List Blk × PS) : (infR r).2.2 = r.2.e := by
  unfold infR
  split
  · rename_i h; exact h.symm
  · rfl
theorem infR_ok {r : List Blk × PS} (h : r.2.e = 0) : infR r = (r.2.o, ((r.2.p : Int) + 7) / 8, 0) := if_pos h
theorem infR_no {r : List Blk × PS} (h : r.2.e ≠ 0) : infR r = ([], 0, r.2.e) := if_neg h

end Go.Proofs.YtalkeooejobjhaaDoor
