/-
  What bytes that come in pieces leave: the words behind the whole blocks, and what is no whole block; and what the bytes with their end make. No program and no memory is named here.
-/
import Derived.Test.YtfnnafhifpolmaaDoorShaEnd
namespace Go.Proofs.YtfnnafhifpolmaaDoor
open Go
set_option linter.unusedVariables false
set_option linter.unusedSimpArgs false

/-- The words behind the whole blocks of xs; what is no whole block, and noughts behind it. -/
def wst (k : Int) (xs : List Int) : List Int := wf k xs (xs.length / 64)
def tls (xs : List Int) : List Int := xs.drop (64 * (xs.length / 64))
def rst (xs : List Int) : List Int := tls xs ++ zs (64 - xs.length % 64)
theorem tls_len (xs : List Int) : (tls xs).length = xs.length % 64 := by unfold tls; rw [List.length_drop]; omega
theorem rst_len (xs : List Int) : (rst xs).length = 64 := by unfold rst; rw [List.length_append, tls_len, zs_len]; omega
theorem rst_byt {xs : List Int} (h : Byt xs) : Byt (rst xs) := (h.drop _).app (zs_byt _)

theorem wf_len (k : Int) (xs : List Int) : ∀ n, (wf k xs n).length = 8
  | 0 => fwk_len k
  | n + 1 => mixk_len _ _ _
theorem fwk_wds (k : Int) : Wds (fwk k) := by
  refine wds_mem fun x hx => ?_
  unfold fwk at hx
  split at hx
  · simp only [List.mem_cons, List.not_mem_nil, or_false] at hx
    unfold Wd
    omega
  · simp only [List.mem_cons, List.not_mem_nil, or_false] at hx
    unfold Wd
    omega
theorem wf_wds (k : Int) (xs : List Int) : ∀ n, Wds (wf k xs n)
  | 0 => fwk_wds k
  | n + 1 => mixk_wds _ _ _ (wf_wds k xs n)

theorem blk_app (xs ys : List Int) (n : Nat) (h : 64 * (n + 1) ≤ xs.length) : blk (xs ++ ys) n = blk xs n := by
  unfold blk
  rw [List.drop_append_of_le_length (by omega), List.take_append_of_le_length (by rw [List.length_drop]; omega)]
theorem wf_app (k : Int) (xs ys : List Int) : ∀ n, 64 * n ≤ xs.length → wf k (xs ++ ys) n = wf k xs n
  | 0, _ => rfl
  | n + 1, h => by simp only [wf]; rw [wf_app k xs ys n (by omega), blk_app xs ys n h]

theorem splice_rst (xs ys : List Int) (h : xs.length % 64 + ys.length ≤ 64) : splice (rst xs) (xs.length % 64) ys = tls xs ++ (ys ++ zs (64 - xs.length % 64 - ys.length)) := by
  have ht := tls_len xs
  unfold splice rst
  rw [List.take_append_of_le_length (by omega), List.take_of_length_le (by omega), List.drop_append, List.drop_of_length_le (by omega), List.nil_append]
  unfold zs
  rw [List.drop_replicate, ht, show 64 - xs.length % 64 - (xs.length % 64 + ys.length - xs.length % 64) = 64 - xs.length % 64 - ys.length by omega]
theorem tls_app (xs ys : List Int) : (xs ++ ys).drop (64 * (xs.length / 64)) = tls xs ++ ys := by
  unfold tls
  rw [List.drop_append_of_le_length (by omega)]
/-- A piece that does not fill the block. -/
theorem rst_part (xs ys : List Int) (h : xs.length % 64 + ys.length < 64) : splice (rst xs) (xs.length % 64) ys = rst (xs ++ ys) := by
  rw [splice_rst xs ys (by omega)]
  unfold rst
  rw [show tls (xs ++ ys) = tls xs ++ ys by
    rw [← tls_app xs ys]; unfold tls; rw [List.length_append, show (xs.length + ys.length) / 64 = xs.length / 64 by omega], List.length_append, List.append_assoc]
  congr 3
  omega
theorem wst_part (k : Int) (xs ys : List Int) (h : xs.length % 64 + ys.length < 64) : wst k (xs ++ ys) = wst k xs := by
  unfold wst
  rw [List.length_append, show (xs.length + ys.length) / 64 = xs.length / 64 by omega, wf_app k xs ys _ (by omega)]
/-- A piece that fills it. -/
theorem rst_full (xs ys : List Int) (h : xs.length % 64 + ys.length = 64) : splice (rst xs) (xs.length % 64) ys = blk (xs ++ ys) (xs.length / 64) ∧ rst (xs ++ ys) = zs 64 := by
  have ht := tls_len xs
  constructor
  · rw [splice_rst xs ys (by omega), show 64 - xs.length % 64 - ys.length = 0 by omega]
    unfold blk
    rw [tls_app, List.take_of_length_le (by rw [List.length_append]; omega)]
    simp [zs]
  · unfold rst tls
    rw [List.length_append, show (xs.length + ys.length) % 64 = 0 by omega, List.drop_of_length_le (by rw [List.length_append]; omega)]
    rfl
theorem wst_full (k : Int) (xs ys : List Int) (h : xs.length % 64 + ys.length = 64) : wst k (xs ++ ys) = mixk k (wst k xs) (wds (blk (xs ++ ys) (xs.length / 64))) := by
  unfold wst
  rw [List.length_append, show (xs.length + ys.length) / 64 = xs.length / 64 + 1 by omega]
  simp only [wf]
  rw [wf_app k xs ys _ (by omega)]
theorem wst_nil (k : Int) : wst k [] = fwk k := rfl
theorem rst_nil : rst [] = zs 64 := rfl

/-- The last j of eight bytes, noughts ahead of them. -/
def bp (N : Int) (j : Nat) : List Int := zs (8 - j) ++ (be8 N).drop (8 - j)
theorem be8_len (N : Int) : (be8 N).length = 8 := by simp [be8]
theorem bp_zero (N : Int) : bp N 0 = zs 8 := by unfold bp; rw [List.drop_of_length_le (by rw [be8_len]; omega)]; simp
theorem bp_all (N : Int) : bp N 8 = be8 N := by simp [bp, zs]
theorem bp_step (N : Int) (j : Nat) (h : j < 8) : (bp N j).set (7 - j) (N / 256 ^ j % 256) = bp N (j + 1) := by
  match j, h with
  | 0, _ => rfl
  | 1, _ => rfl
  | 2, _ => rfl
  | 3, _ => rfl
  | 4, _ => rfl
  | 5, _ => rfl
  | 6, _ => rfl
  | 7, _ => rfl
theorem be8_byt (N : Int) : Byt (be8 N) := by
  intro x hx
  simp only [be8, List.mem_map] at hx
  obtain ⟨i, _, rfl⟩ := hx
  omega
theorem bp_byt (N : Int) (j : Nat) : Byt (bp N j) := (zs_byt _).app ((be8_byt N).drop _)
theorem bp_len (N : Int) (j : Nat) (h : j ≤ 8) : (bp N j).length = 8 := by unfold bp; rw [List.length_append, zs_len, List.length_drop, be8_len]; omega
theorem pow_next (N : Int) (j : Nat) : N / 256 ^ j / 256 = N / 256 ^ (j + 1) := by rw [Int.ediv_ediv_of_nonneg (by exact Int.pow_nonneg (by decide)), Int.pow_succ]

/-- The end put behind what is no whole block. -/
theorem rst_mark (xs : List Int) : (rst xs).set (xs.length % 64) 128 = tls xs ++ (128 :: zs (63 - xs.length % 64)) := by
  have ht := tls_len xs
  unfold rst
  rw [List.set_append_right _ _ (by omega), ht, Nat.sub_self, show 64 - xs.length % 64 = (63 - xs.length % 64) + 1 by omega]
  rfl
theorem pd_len (xs : List Int) : (pd xs).length = xs.length + 1 + pdz xs.length + 8 := by simp [pd, be8_len]; omega
theorem zs_app (a b : Nat) : zs a ++ zs b = zs (a + b) := by simp [zs]
/-- There is room for the length. -/
theorem pd_one (xs : List Int) (h : xs.length % 64 < 56) : tls xs ++ (128 :: zs (55 - xs.length % 64)) ++ be8 (8 * xs.length) = blk (pd xs) (xs.length / 64) ∧ (pd xs).length / 64 = xs.length / 64 + 1 := by
  have ht := tls_len xs
  have hz : pdz xs.length = 55 - xs.length % 64 := by unfold pdz; omega
  constructor
  · unfold blk pd
    rw [tls_app, hz, List.take_of_length_le (by simp [ht, be8_len]; omega)]
    simp [zs]
  · rw [pd_len, hz]; omega
theorem pd_two (xs : List Int) (h : 56 ≤ xs.length % 64) : tls xs ++ (128 :: zs (63 - xs.length % 64)) = blk (pd xs) (xs.length / 64) ∧ zs 56 ++ be8 (8 * xs.length) = blk (pd xs) (xs.length / 64 + 1) ∧ (pd xs).length / 64 = xs.length / 64 + 2 := by
  have ht := tls_len xs
  have hz : pdz xs.length = (63 - xs.length % 64) + 56 := by unfold pdz; omega
  have e : (pd xs).drop (64 * (xs.length / 64)) = (tls xs ++ (128 :: zs (63 - xs.length % 64))) ++ (zs 56 ++ be8 (8 * xs.length)) := by
    unfold pd
    rw [tls_app, hz, show List.replicate (63 - xs.length % 64 + 56) (0 : Int) = zs (63 - xs.length % 64) ++ zs 56 by rw [zs_app]; rfl]
    simp
  have el : (tls xs ++ (128 :: zs (63 - xs.length % 64))).length = 64 := by simp [ht, zs_len]; omega
  refine ⟨?_, ?_, ?_⟩
  · unfold blk
    rw [e, List.take_append_of_le_length (by omega), List.take_of_length_le (by omega)]
  · unfold blk
    rw [show 64 * (xs.length / 64 + 1) = 64 * (xs.length / 64) + 64 by omega, ← List.drop_drop, e, List.drop_append_of_le_length (by omega), List.drop_of_length_le (by omega), List.nil_append, List.take_of_length_le (by simp [be8_len, zs_len])]
  · rw [pd_len, hz]; omega
theorem wf_pd (k : Int) (xs : List Int) : wf k (pd xs) (xs.length / 64) = wst k xs := by
  unfold wst pd
  exact wf_app k xs _ _ (by omega)
theorem pd_byt {xs : List Int} (h : Byt xs) : Byt (pd xs) := h.app (Byt.cons (by decide) (by decide) ((zs_byt _).app (be8_byt _)))
theorem blk_byt {xs : List Int} (h : Byt xs) (n : Nat) : Byt (blk xs n) := (h.drop _).take _

end Go.Proofs.YtfnnafhifpolmaaDoor
