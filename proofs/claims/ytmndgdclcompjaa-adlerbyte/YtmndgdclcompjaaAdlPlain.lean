/-
  Plain facts on the checksum of streams: its two halves in closed form, how the sums of two pieces make the sum of both, what a window that moves by one byte does to it, and that one byte that changes, changes it. No program and no memory is named here.
-/
import Derived.Test.YtmndgdclcompjaaByt
namespace Go.Proofs.Ytmndgdclcompjaa

/-- The two halves behind one byte more. -/
def step (p : Int × Int) (b : Int) : Int × Int := ((p.1 + b) % 65521, (p.2 + (p.1 + b) % 65521) % 65521)
/-- The halves behind all of the bytes. -/
def run (p : Int × Int) (bs : List Int) : Int × Int := bs.foldl step p
/-- The halves as one number. -/
def pack (p : Int × Int) : Int := p.2 * 65536 + p.1
def more (s : Int) (bs : List Int) : Int := pack (run (s % 65536 % 65521, s / 65536 % 65521) bs)
def sumOf (bs : List Int) : Int := more 1 bs

/-- All bytes together; and each as often as it is part of a low. -/
def tot : List Int → Int
  | [] => 0
  | b :: r => b + tot r
def wei : List Int → Int
  | [] => 0
  | b :: r => ((r.length : Int) + 1) * b + wei r

theorem tot_append (a b : List Int) : tot (a ++ b) = tot a + tot b := by
  induction a with
  | nil => simp [tot]
  | cons x r ih => simp only [List.cons_append, tot, ih]; omega

theorem wei_append (a b : List Int) : wei (a ++ b) = wei a + (b.length : Int) * tot a + wei b := by
  induction a with
  | nil => simp [tot, wei]
  | cons x r ih =>
    simp only [List.cons_append, tot, wei, ih, List.length_append, Int.natCast_add]
    have e1 : ((r.length : Int) + (b.length : Int) + 1) * x = ((r.length : Int) + 1) * x + (b.length : Int) * x := by rw [← Int.add_mul]; congr 1; omega
    have e2 : (b.length : Int) * (x + tot r) = (b.length : Int) * x + (b.length : Int) * tot r := Int.mul_add _ _ _
    rw [e1, e2]
    omega

theorem run_closed : ∀ (bs : List Int) (l h : Int), 0 ≤ l → l < 65521 → 0 ≤ h → h < 65521 →
    run (l, h) bs = ((l + tot bs) % 65521, (h + (bs.length : Int) * l + wei bs) % 65521)
  | [], l, h, h1, h2, h3, h4 => by
    simp only [run, List.foldl_nil, tot, wei, List.length_nil]
    rw [Prod.mk.injEq]
    constructor
    · omega
    · rw [show ((0 : Nat) : Int) = 0 from rfl, Int.zero_mul]; omega
  | b :: r, l, h, h1, h2, h3, h4 => by
    have ih := run_closed r ((l + b) % 65521) ((h + (l + b) % 65521) % 65521) (by omega) (by omega) (by omega) (by omega)
    show run ((l + b) % 65521, (h + (l + b) % 65521) % 65521) r = _
    rw [ih, Prod.mk.injEq]
    simp only [tot, wei, List.length_cons]
    obtain ⟨q, hq⟩ : ∃ q, (l + b) % 65521 = l + b - 65521 * q := ⟨(l + b) / 65521, by omega⟩
    obtain ⟨t, ht⟩ : ∃ t, (h + (l + b) % 65521) % 65521 = h + (l + b) % 65521 - 65521 * t := ⟨(h + (l + b) % 65521) / 65521, by omega⟩
    rw [ht, hq]
    constructor
    · omega
    · have e1 : (r.length : Int) * (l + b - 65521 * q) = (r.length : Int) * l + (r.length : Int) * b - 65521 * ((r.length : Int) * q) := by
        rw [Int.mul_sub, Int.mul_add, Int.mul_left_comm]
      have e2 : (((r.length + 1 : Nat) : Int)) * l = (r.length : Int) * l + l := by
        rw [Int.natCast_add, Int.add_mul]; simp
      have e3 : ((r.length : Int) + 1) * b = (r.length : Int) * b + b := by rw [Int.add_mul]; simp
      rw [e1, e2, e3]
      generalize (r.length : Int) * l = A
      generalize (r.length : Int) * b = B
      generalize (r.length : Int) * q = C
      omega

theorem run_bounds (bs : List Int) (l h : Int) (h1 : 0 ≤ l) (h2 : l < 65521) (h3 : 0 ≤ h) (h4 : h < 65521) :
    0 ≤ (run (l, h) bs).1 ∧ (run (l, h) bs).1 < 65521 ∧ 0 ≤ (run (l, h) bs).2 ∧ (run (l, h) bs).2 < 65521 := by
  rw [run_closed bs l h h1 h2 h3 h4]
  refine ⟨?_, ?_, ?_, ?_⟩ <;> simp only <;> omega

theorem run_append (p : Int × Int) (a b : List Int) : run p (a ++ b) = run (run p a) b := by simp [run]

theorem run_snoc (p : Int × Int) (a : List Int) (x : Int) : run p (a ++ [x]) = step (run p a) x := by simp [run]

/-- The halves of a sum. -/
theorem sumOf_eq (bs : List Int) : sumOf bs = pack ((1 + tot bs) % 65521, ((bs.length : Int) + wei bs) % 65521) := by
  unfold sumOf more
  rw [show (1 : Int) % 65536 % 65521 = 1 by decide, show (1 : Int) / 65536 % 65521 = 0 by decide, run_closed bs 1 0 (by omega) (by omega) (by omega) (by omega)]
  simp

theorem pack_low {l h : Int} (h1 : 0 ≤ l) (h2 : l < 65536) : pack (l, h) % 65536 = l := by unfold pack; simp only; omega
theorem pack_high {l h : Int} (h1 : 0 ≤ l) (h2 : l < 65536) : pack (l, h) / 65536 = h := by unfold pack; simp only; omega

theorem sumOf_low (bs : List Int) : sumOf bs % 65536 = (1 + tot bs) % 65521 := by rw [sumOf_eq, pack_low (by omega) (by omega)]
theorem sumOf_high (bs : List Int) : sumOf bs / 65536 = ((bs.length : Int) + wei bs) % 65521 := by rw [sumOf_eq, pack_high (by omega) (by omega)]

theorem more_bounds (s : Int) (bs : List Int) : 0 ≤ more s bs ∧ more s bs < 4294967296 := by
  have := run_bounds bs (s % 65536 % 65521) (s / 65536 % 65521) (by omega) (by omega) (by omega) (by omega)
  unfold more pack
  omega

/-- Are both halves remainders? -/
def isSum (s : Int) : Prop := s % 65536 < 65521 ∧ s / 65536 < 65521
instance (s : Int) : Decidable (isSum s) := inferInstanceAs (Decidable (_ ∧ _))

theorem more_isSum (s : Int) (bs : List Int) : isSum (more s bs) := by
  have := run_bounds bs (s % 65536 % 65521) (s / 65536 % 65521) (by omega) (by omega) (by omega) (by omega)
  unfold more isSum pack
  omega

theorem more_more (s : Int) (a b : List Int) : more (more s a) b = more s (a ++ b) := by
  have := run_bounds a (s % 65536 % 65521) (s / 65536 % 65521) (by omega) (by omega) (by omega) (by omega)
  rw [more, more, more, run_append]
  congr 2
  unfold pack
  generalize run (s % 65536 % 65521, s / 65536 % 65521) a = r at *
  obtain ⟨x, y⟩ := r
  simp only at this ⊢
  rw [Prod.mk.injEq]
  omega

/-- What Joined returns. -/
def joined (a b n : Int) : Int × Int :=
  if n < 0 ∨ ¬ isSum a ∨ ¬ isSum b then (0, 2)
  else (pack ((a % 65536 + b % 65536 - 1) % 65521, (a / 65536 + b / 65536 + n * (a % 65536 - 1)) % 65521), 0)

/-- What Rolled returns. -/
def rolled (s o i n : Int) : Int × Int :=
  if n < 1 ∨ ¬ isSum s then (0, 2)
  else (pack ((s % 65536 - o + i) % 65521, (s / 65536 - n * o + (s % 65536 - o + i) - 1) % 65521), 0)

theorem mul_mod (n x q : Int) : ∃ k, n * (x - 65521 * q) = n * x - 65521 * k := ⟨n * q, by rw [Int.mul_sub, Int.mul_left_comm]⟩

/-- The sum of two pieces, one behind the other. -/
theorem joined_sum (a b : List Int) : joined (sumOf a) (sumOf b) (b.length : Int) = (sumOf (a ++ b), 0) := by
  have ha : isSum (sumOf a) := more_isSum 1 a
  have hb : isSum (sumOf b) := more_isSum 1 b
  unfold joined
  rw [if_neg (by rintro (h | h | h); omega; exact h ha; exact h hb), sumOf_low, sumOf_low, sumOf_high, sumOf_high, sumOf_eq (a ++ b), tot_append, wei_append, List.length_append]
  congr 2
  rw [Prod.mk.injEq]
  constructor
  · omega
  · obtain ⟨q, hq⟩ : ∃ q, (1 + tot a) % 65521 = 1 + tot a - 65521 * q := ⟨(1 + tot a) / 65521, by omega⟩
    rw [hq, show 1 + tot a - 65521 * q - 1 = tot a - 65521 * q by omega]
    obtain ⟨k, hk⟩ := mul_mod (b.length : Int) (tot a) q
    rw [hk]
    generalize (b.length : Int) * tot a = M
    omega

/-- A window that moves by one byte. -/
theorem rolled_sum (x y : Int) (r : List Int) : rolled (sumOf (x :: r)) x y ((r.length : Int) + 1) = (sumOf (r ++ [y]), 0) := by
  have ha : isSum (sumOf (x :: r)) := more_isSum 1 _
  unfold rolled
  rw [if_neg (by rintro (h | h); omega; exact h ha), sumOf_low, sumOf_high, sumOf_eq (r ++ [y]), tot_append, wei_append, List.length_append]
  congr 2
  simp only [tot, wei, List.length_cons, List.length_nil, Int.natCast_add]
  rw [Prod.mk.injEq]
  constructor
  · omega
  · generalize ((r.length : Int) + 1) * x = M
    simp only [Int.natCast_one, Int.natCast_zero]
    omega

/-- One byte that changes, changes the sum. -/
theorem sum_changed (a r : List Int) (x y : Int) (hx : 0 ≤ x ∧ x ≤ 255) (hy : 0 ≤ y ∧ y ≤ 255) (hne : y ≠ x) : sumOf (a ++ y :: r) ≠ sumOf (a ++ x :: r) := by
  intro h
  have := congrArg (· % 65536) h
  simp only [sumOf_low, tot_append, tot] at this
  omega

theorem tot_rep (n : Nat) (b : Int) : tot (List.replicate n b) = (n : Int) * b := by
  induction n with
  | zero => simp [tot]
  | succ n ih => simp only [List.replicate_succ, tot, ih, Int.natCast_add, Int.add_mul]; omega
theorem wei_rep (n : Nat) : 2 * wei (List.replicate n 255) = 255 * ((n : Int) * (n : Int) + n) := by
  induction n with
  | zero => simp [wei]
  | succ n ih =>
    simp only [List.replicate_succ, wei, List.length_replicate, Int.mul_add, ih, Int.natCast_add, Int.add_mul]
    generalize (n : Int) * (n : Int) = M
    omega

theorem sum_full : sumOf (List.replicate 6000 255) = 2761382378 := by
  have h1 := tot_rep 6000 255
  have h2 := wei_rep 6000
  rw [sumOf_eq, h1, List.length_replicate]
  unfold pack
  simp only
  omega

/-- The code's remainders. -/
theorem joined_high (h k n x : Int) : (h + k + n % 65521 * (x % 65521)) % 65521 = (h + k + n * x) % 65521 := by
  rw [Int.add_emod, Int.add_emod (h + k) (n * x), Int.mul_emod n x]

theorem mul_rem (n x : Int) : n % 65521 * x % 65521 = n * x % 65521 := by
  rw [Int.mul_emod, Int.emod_emod_of_dvd _ (Int.dvd_refl _), ← Int.mul_emod]

end Go.Proofs.Ytmndgdclcompjaa
