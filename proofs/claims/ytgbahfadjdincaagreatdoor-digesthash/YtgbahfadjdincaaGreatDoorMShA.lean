/-
  The two hashes as functions of lists of numbers: a word's bits turned, the words of the steps, the steps, a block, all blocks, the bytes with their end. No program and no memory is named here.
  What the small functions of package sha, and those that give the document's answer, return: none of them touches memory. Conditions: a number fits its kind.
  Arrays of numbers in memory, each in a block of its own, and a hash: one block that holds its kind, its words, what is no whole block, and how many bytes there were. Conditions: none.
  What firstWords and wordsOf of package sha return. Conditions: the block is 64 bytes.
-/
import Derived.Test.YtgbahfadjdincaaGreatDoorMShM
import Derived.BigQuiet
import Derived.Deep.WholeRow
import Derived.Deep.MidRow
import Derived.Laws.CopyOwn
namespace Go.Proofs.YtgbahfadjdincaaGreatDoor.Sha
open Go
set_option linter.unusedVariables false
set_option linter.unusedSimpArgs false

/-- A number that is a word's. -/
def Wd (x : Int) : Prop := 0 ≤ x ∧ x ≤ 4294967295

theorem wrap_wd (z : Int) : Wd (IntKind.u32.wrap z) := by
  rw [IntKind.wrap_u32]
  unfold Wd
  omega
theorem xor_wd (a b : Int) : Wd (bits .xor .u32 a b) := wrap_wd _
theorem and_wd (a b : Int) : Wd (bits .and .u32 a b) := wrap_wd _
theorem or_wd (a b : Int) : Wd (bits .or .u32 a b) := wrap_wd _
theorem mod_wd (a : Int) : Wd (a % 4294967296) := by unfold Wd; omega

/-- x turned by n bits to the left. -/
def rot (x : Int) (n : Nat) : Int := bits .or .u32 (x * 2 ^ n % 4294967296) (x / 2 ^ (32 - n))
theorem rot_wd (x : Int) (n : Nat) : Wd (rot x n) := or_wd _ _
def chs (x y z : Int) : Int := bits .xor .u32 (bits .and .u32 x y) (bits .and .u32 (bits .xor .u32 4294967295 x) z)
def maj (x y z : Int) : Int := bits .xor .u32 (bits .xor .u32 (bits .and .u32 x y) (bits .and .u32 x z)) (bits .and .u32 y z)
def par (x y z : Int) : Int := bits .xor .u32 (bits .xor .u32 x y) z
theorem chs_wd (x y z : Int) : Wd (chs x y z) := xor_wd _ _
theorem maj_wd (x y z : Int) : Wd (maj x y z) := xor_wd _ _
theorem par_wd (x y z : Int) : Wd (par x y z) := xor_wd _ _

/-- The i-th one. -/
def ix (l : List Int) (i : Nat) : Int := l[i]?.getD 0

/-- SHA-1's next word, out of those ahead of it, the last one first. -/
def nx1 (l : List Int) : Int := rot (bits .xor .u32 (bits .xor .u32 (bits .xor .u32 (ix l 2) (ix l 7)) (ix l 13)) (ix l 15)) 1
def sg0 (y : Int) : Int := bits .xor .u32 (bits .xor .u32 (rot y 25) (rot y 14)) (y / 8)
def sg1 (x : Int) : Int := bits .xor .u32 (bits .xor .u32 (rot x 15) (rot x 13)) (x / 1024)
/-- SHA-256's next word. -/
def nx2 (l : List Int) : Int := (((sg1 (ix l 1) + ix l 6) % 4294967296 + sg0 (ix l 14)) % 4294967296 + ix l 15) % 4294967296
/-- The words of the steps, the last one first. -/
def rs (nx : List Int → Int) (b : List Int) : Nat → List Int
  | 0 => b.reverse
  | n + 1 => nx (rs nx b n) :: rs nx b n
def sch1 (b : List Int) : List Int := (rs nx1 b 64).reverse
def sch2 (b : List Int) : List Int := (rs nx2 b 48).reverse

/-- Five letters; eight. -/
structure Q5 where
  a : Int
  b : Int
  c : Int
  d : Int
  e : Int
structure Q8 where
  a : Int
  b : Int
  c : Int
  d : Int
  e : Int
  f : Int
  g : Int
  h : Int

def f1 (t : Nat) (b c d : Int) : Int := if t < 20 then chs b c d else if t < 40 then par b c d else if t < 60 then maj b c d else par b c d
def k1 (t : Nat) : Int := if t < 20 then 1518500249 else if t < 40 then 1859775393 else if t < 60 then 2400959708 else 3395469782
def rd1 (t : Nat) (w : Int) (s : Q5) : Q5 :=
  ⟨(rot s.a 5 + f1 t s.b s.c s.d + s.e + k1 t + w) % 4294967296, s.a, rot s.b 30, s.c, s.d⟩
def run1 (W : List Int) (s : Q5) : Nat → Q5
  | 0 => s
  | n + 1 => rd1 n (ix W n) (run1 W s n)

def bs0 (x : Int) : Int := bits .xor .u32 (bits .xor .u32 (rot x 30) (rot x 19)) (rot x 10)
def bs1 (x : Int) : Int := bits .xor .u32 (bits .xor .u32 (rot x 26) (rot x 21)) (rot x 7)
def kk : List Int := [
  1116352408, 1899447441, 3049323471, 3921009573, 961987163, 1508970993, 2453635748, 2870763221,
  3624381080, 310598401, 607225278, 1426881987, 1925078388, 2162078206, 2614888103, 3248222580,
  3835390401, 4022224774, 264347078, 604807628, 770255983, 1249150122, 1555081692, 1996064986,
  2554220882, 2821834349, 2952996808, 3210313671, 3336571891, 3584528711, 113926993, 338241895,
  666307205, 773529912, 1294757372, 1396182291, 1695183700, 1986661051, 2177026350, 2456956037,
  2730485921, 2820302411, 3259730800, 3345764771, 3516065817, 3600352804, 4094571909, 275423344,
  430227734, 506948616, 659060556, 883997877, 958139571, 1322822218, 1537002063, 1747873779,
  1955562222, 2024104815, 2227730452, 2361852424, 2428436474, 2756734187, 3204031479, 3329325298]
def xx (t : Nat) (w : Int) (s : Q8) : Int := (((((s.h + bs1 s.e) % 4294967296 + chs s.e s.f s.g) % 4294967296) + ix kk t) % 4294967296 + w) % 4294967296
def yy (s : Q8) : Int := (bs0 s.a + maj s.a s.b s.c) % 4294967296
def rd2 (t : Nat) (w : Int) (s : Q8) : Q8 := ⟨(xx t w s + yy s) % 4294967296, s.a, s.b, s.c, (s.d + xx t w s) % 4294967296, s.e, s.f, s.g⟩
def run2 (W : List Int) (s : Q8) : Nat → Q8
  | 0 => s
  | n + 1 => rd2 n (ix W n) (run2 W s n)

/-- The words behind a block. -/
def mix1 (W b : List Int) : List Int :=
  let s := run1 (sch1 b) ⟨ix W 0, ix W 1, ix W 2, ix W 3, ix W 4⟩ 80
  [(ix W 0 + s.a) % 4294967296, (ix W 1 + s.b) % 4294967296, (ix W 2 + s.c) % 4294967296, (ix W 3 + s.d) % 4294967296, (ix W 4 + s.e) % 4294967296, ix W 5, ix W 6, ix W 7]
def mix2 (W b : List Int) : List Int :=
  let s := run2 (sch2 b) ⟨ix W 0, ix W 1, ix W 2, ix W 3, ix W 4, ix W 5, ix W 6, ix W 7⟩ 64
  [(ix W 0 + s.a) % 4294967296, (ix W 1 + s.b) % 4294967296, (ix W 2 + s.c) % 4294967296, (ix W 3 + s.d) % 4294967296, (ix W 4 + s.e) % 4294967296, (ix W 5 + s.f) % 4294967296, (ix W 6 + s.g) % 4294967296, (ix W 7 + s.h) % 4294967296]
def mixk (k : Int) (W b : List Int) : List Int := if k = 1 then mix1 W b else mix2 W b
def fwk (k : Int) : List Int := if k = 1 then [1732584193, 4023233417, 2562383102, 271733878, 3285377520, 0, 0, 0] else [1779033703, 3144134277, 1013904242, 2773480762, 1359893119, 2600822924, 528734635, 1541459225]

/-- A block's words. -/
def be4 (a b c d : Int) : Int := a * 16777216 + b * 65536 + c * 256 + d
def wds (B : List Int) : List Int := (List.range 16).map fun i => be4 (ix B (4 * i)) (ix B (4 * i + 1)) (ix B (4 * i + 2)) (ix B (4 * i + 3))
/-- The n-th block. -/
def blk (xs : List Int) (n : Nat) : List Int := (xs.drop (64 * n)).take 64
/-- The words behind n blocks. -/
def wf (k : Int) (xs : List Int) : Nat → List Int
  | 0 => fwk k
  | n + 1 => mixk k (wf k xs n) (wds (blk xs n))

/-- A number as eight bytes. -/
def be8 (N : Int) : List Int := (List.range 8).map fun i => N / 2 ^ (8 * (7 - i)) % 256
/-- The padded bytes. -/
def pdz (n : Nat) : Nat := (119 - n % 64) % 64
def pd (xs : List Int) : List Int := xs ++ (128 :: (List.replicate (pdz xs.length) 0 ++ be8 (8 * xs.length)))

def sm4 (x : Int) : List Int := [x / 16777216, x / 65536 % 256, x / 256 % 256, x % 256]
def nk (k : Int) : Nat := if k = 1 then 5 else 8
def told (n : Nat) (W : List Int) : List Int := (W.take n).flatMap sm4
/-- The hash of all bytes. -/
def sumk (k : Int) (xs : List Int) : List Int := told (nk k) (wf k (pd xs) ((pd xs).length / 64))

end Go.Proofs.YtgbahfadjdincaaGreatDoor.Sha

namespace Go.Proofs.YtgbahfadjdincaaGreatDoor.Sha
open Go.RowKit
set_option linter.unusedVariables false
set_option linter.unusedSimpArgs false

theorem and31 (m : Nat) (h1 : m < 32) : bits .and .u64 (m : Int) 31 = (m : Int) := by
  have : ∀ k : Fin 32, bits .and .u64 ((k : Nat) : Int) 31 = ((k : Nat) : Int) := by decide
  exact this ⟨m, h1⟩
theorem and31' (m : Nat) (h0 : 0 < m) (h1 : m < 32) : bits .and .u64 (IntKind.u64.wrap (-(m : Int))) 31 = 32 - (m : Int) := by
  have : ∀ k : Fin 32, 0 < (k : Nat) → bits .and .u64 (IntKind.u64.wrap (-((k : Nat) : Int))) 31 = 32 - ((k : Nat) : Int) := by decide
  exact this ⟨m, h1⟩ h0

set_option maxHeartbeats 400000 in
set_option maxRecDepth 20000 in
theorem rotLeft_any (x n : Int) (m : Nat) (hm : n = (m : Int)) (w : World) (hx : Wd x) (h0 : 0 < m) (h1 : m < 32) :
    Calls Tryz.prog 150 #[.int .u32 x, .int .i64 n] w fun e w' => e = .returned (.int .u32 (rot x m)) ∧ w' = w := by
  have hb : bits .and .u64 n 31 = n := by rw [hm]; exact and31 m h1
  obtain ⟨x0, x1⟩ := hx
  have n0 : 0 < n := by omega
  have n1 : n < 32 := by omega
  have e1 := hide (show n.toNat = m by omega)
  have e2 := hide (show (32 - n).toNat = 32 - m by omega)
  have hm' := hide hm
  clear hm
  go_enter Tryz.func150, Tryz.ntmps150
  go_wp2
  go_ret
  refine ⟨?_, rfl⟩
  unfold rot
  rw [← unhide e2, ← unhide e1]
  rfl

set_option maxHeartbeats 400000 in
set_option maxRecDepth 20000 in
theorem rotRight_any (x n : Int) (m : Nat) (hm : n = -(m : Int)) (w : World) (hx : Wd x) (h0 : 0 < m) (h1 : m < 32) :
    Calls Tryz.prog 150 #[.int .u32 x, .int .i64 n] w fun e w' => e = .returned (.int .u32 (rot x (32 - m))) ∧ w' = w := by
  obtain ⟨s, hs⟩ : ∃ s : Int, s = 32 - (m : Int) := ⟨_, rfl⟩
  have hb : bits .and .u64 (IntKind.u64.wrap n) 31 = s := by rw [hm, hs]; exact and31' m h0 h1
  obtain ⟨x0, x1⟩ := hx
  have n0 : 0 < s := by omega
  have n1 : s < 32 := by omega
  have e1 := hide (show s.toNat = 32 - m by omega)
  have e2 := hide (show (32 - s).toNat = 32 - (32 - m) by omega)
  have q1 : n < 0 := by omega
  have q2 : -32 < n := by omega
  clear hm hs
  go_enter Tryz.func150, Tryz.ntmps150
  go_wp2
  go_ret
  refine ⟨?_, rfl⟩
  unfold rot
  rw [← unhide e2, ← unhide e1]
  rfl

set_option maxHeartbeats 400000 in
set_option maxRecDepth 20000 in
theorem rol_any (x n : Int) (m : Nat) (hm : n = (m : Int)) (w : World) (hx : Wd x) (h0 : 0 < m) (h1 : m < 32) :
    Calls Tryz.prog 136 #[.int .u32 x, .int .i64 n] w fun e w' => e = .returned (.int .u32 (rot x m)) ∧ w' = w := by
  have c := hide (rotLeft_any x n m hm w hx h0 h1)
  clear hm hx
  go_enter Tryz.func136, Tryz.ntmps136
  go_wp2_with fail
  refine same_world (unhide c) ?_
  go_wp2_with fail
  go_ret
  exact ⟨rfl, rfl⟩
set_option maxHeartbeats 400000 in
set_option maxRecDepth 20000 in
theorem ror_any (x n : Int) (m : Nat) (hm : n = (m : Int)) (w : World) (hx : Wd x) (h0 : 0 < m) (h1 : m < 32) :
    Calls Tryz.prog 139 #[.int .u32 x, .int .i64 n] w fun e w' => e = .returned (.int .u32 (rot x (32 - m))) ∧ w' = w := by
  have c := hide (rotRight_any x (-n) m (by omega) w hx h0 h1)
  have n0 : 0 < n := by omega
  have n1 : n < 32 := by omega
  clear hm hx
  go_enter Tryz.func139, Tryz.ntmps139
  go_wp2_with fail
  refine same_world (unhide c) ?_
  go_wp2_with fail
  go_ret
  exact ⟨rfl, rfl⟩
set_option maxHeartbeats 400000 in
set_option maxRecDepth 20000 in
theorem rol_ref (x n : Int) (m : Nat) (hm : n = (m : Int)) (w : World) (hx : Wd x) (h0 : 0 < m) (h1 : m < 32) :
    Calls Tryz.prog 47 #[.int .u32 x, .int .u64 n] w fun e w' => e = .returned (.int .u32 (rot x m)) ∧ w' = w := by
  obtain ⟨x0, x1⟩ := hx
  have n0 : 0 < n := by omega
  have n1 : n < 32 := by omega
  have e1 := hide (show n.toNat = m by omega)
  have e2 := hide (show (32 - n).toNat = 32 - m by omega)
  clear hm
  go_enter Tryz.func47, Tryz.ntmps47
  go_wp2
  go_ret
  refine ⟨?_, rfl⟩
  unfold rot
  rw [← unhide e2, ← unhide e1]
  rfl

set_option maxHeartbeats 400000 in
set_option maxRecDepth 20000 in
theorem chosen_any (x y z : Int) (w : World) :
    Calls Tryz.prog 140 #[.int .u32 x, .int .u32 y, .int .u32 z] w fun e w' => e = .returned (.int .u32 (chs x y z)) ∧ w' = w := by
  have hs : IntKind.u32.signed = false := rfl
  have hm : IntKind.u32.max = 4294967295 := rfl
  go_enter Tryz.func140, Tryz.ntmps140
  go_wp2
  go_ret
  exact ⟨rfl, rfl⟩
set_option maxHeartbeats 400000 in
set_option maxRecDepth 20000 in
theorem most_any (x y z : Int) (w : World) :
    Calls Tryz.prog 141 #[.int .u32 x, .int .u32 y, .int .u32 z] w fun e w' => e = .returned (.int .u32 (maj x y z)) ∧ w' = w := by
  go_enter Tryz.func141, Tryz.ntmps141
  go_wp2
  go_ret
  exact ⟨rfl, rfl⟩

set_option maxHeartbeats 400000 in
set_option maxRecDepth 20000 in
theorem joined1_any (t : Int) (m : Nat) (ht : t = (m : Int)) (b c d : Int) (w : World) :
    Calls Tryz.prog 137 #[.int .i64 t, .int .u32 b, .int .u32 c, .int .u32 d] w fun e w' => e = .returned (.int .u32 ((f1 m b c d + k1 m) % 4294967296)) ∧ w' = w := by
  have c1 := hide (chosen_any b c d w)
  have c2 := hide (most_any b c d w)
  have cw := chs_wd b c d
  have mw := maj_wd b c d
  obtain ⟨cw0, cw1⟩ := cw
  obtain ⟨mw0, mw1⟩ := mw
  by_cases h1 : m < 20
  · have t1 : t < 20 := by omega
    have hf := hide (show f1 m b c d = chs b c d by simp [f1, h1])
    have hk := hide (show k1 m = 1518500249 by simp [k1, h1])
    clear ht h1
    go_enter Tryz.func137, Tryz.ntmps137
    go_wp2_with fail
    refine same_world (unhide c1) ?_
    go_wp2_with fail
    go_ret
    exact ⟨by rw [unhide hf, unhide hk]; rfl, rfl⟩
  · by_cases h2 : m < 40
    · have t1 : ¬ t < 20 := by omega
      have t2 : t < 40 := by omega
      have hf := hide (show f1 m b c d = par b c d by simp [f1, h1, h2])
      have hk := hide (show k1 m = 1859775393 by simp [k1, h1, h2])
      clear ht h1 h2
      go_enter Tryz.func137, Tryz.ntmps137
      go_wp2_with fail
      go_ret
      exact ⟨by rw [unhide hf, unhide hk]; rfl, rfl⟩
    · by_cases h3 : m < 60
      · have t1 : ¬ t < 20 := by omega
        have t2 : ¬ t < 40 := by omega
        have t3 : t < 60 := by omega
        have hf := hide (show f1 m b c d = maj b c d by simp [f1, h1, h2, h3])
        have hk := hide (show k1 m = 2400959708 by simp [k1, h1, h2, h3])
        clear ht h1 h2 h3
        go_enter Tryz.func137, Tryz.ntmps137
        go_wp2_with fail
        refine same_world (unhide c2) ?_
        go_wp2_with fail
        go_ret
        exact ⟨by rw [unhide hf, unhide hk]; rfl, rfl⟩
      · have t1 : ¬ t < 20 := by omega
        have t2 : ¬ t < 40 := by omega
        have t3 : ¬ t < 60 := by omega
        have hf := hide (show f1 m b c d = par b c d by simp [f1, h1, h2, h3])
        have hk := hide (show k1 m = 3395469782 by simp [k1, h1, h2, h3])
        clear ht h1 h2 h3
        go_enter Tryz.func137, Tryz.ntmps137
        go_wp2_with fail
        go_ret
        exact ⟨by rw [unhide hf, unhide hk]; rfl, rfl⟩

/-- Four bytes, one behind the other. -/
theorem or4 (a b c d : Int) (a0 : 0 ≤ a) (a1 : a ≤ 255) (b0 : 0 ≤ b) (b1 : b ≤ 255) (c0 : 0 ≤ c) (c1 : c ≤ 255) (d0 : 0 ≤ d) (d1 : d ≤ 255) :
    bits .or .u32 (a * 16777216) (b * 65536) = a * 16777216 + b * 65536 ∧ bits .or .u32 (a * 16777216 + b * 65536) (c * 256) = a * 16777216 + b * 65536 + c * 256 ∧ bits .or .u32 (a * 16777216 + b * 65536 + c * 256) d = be4 a b c d := by
  refine ⟨?_, ?_, ?_⟩
  · rw [u32_or _ _ (by omega) (by omega) (by omega) (by omega), nat_join 24 _ _ (by omega) (by omega)]; omega
  · rw [u32_or _ _ (by omega) (by omega) (by omega) (by omega), nat_join 16 _ _ (by omega) (by omega)]; omega
  · rw [u32_or _ _ (by omega) (by omega) (by omega) (by omega), nat_join 8 _ _ (by omega) (by omega)]; unfold be4; omega
theorem or8 (x d : Int) (a0 : 0 ≤ x) (a1 : x ≤ 16777215) (d0 : 0 ≤ d) (d1 : d ≤ 255) : bits .or .u32 (x * 256) d = x * 256 + d := by
  rw [u32_or _ _ (by omega) (by omega) (by omega) (by omega), nat_join 8 _ _ (by omega) (by omega)]; omega

set_option maxHeartbeats 1000000 in
set_option maxRecDepth 20000 in
theorem word_ref (ao : Option Addr) (n c : Nat) (bs : List Int) (i : Int) (m : Nat) (hi : i = (m : Int)) (w : World) (h : Bs w ao n c bs) (hm : 4 * m + 3 < n) (hm2 : m < 100000) :
    Calls Tryz.prog 46 #[.slice ao n c, .int .i64 i] w fun e w' => e = .returned (.int .u32 (be4 (ix bs (4 * m)) (ix bs (4 * m + 1)) (ix bs (4 * m + 2)) (ix bs (4 * m + 3)))) ∧ ∃ k, w' = w.drewN k := by
  obtain ⟨p0, o0, i0, q0⟩ := h.idx (i := 4 * m) (by omega) (4 * i) (by omega)
  obtain ⟨p1, o1, i1, q1⟩ := h.idx (i := 4 * m + 1) (by omega) (4 * i + 1) (by omega)
  obtain ⟨p2, o2, i2, q2⟩ := h.idx (i := 4 * m + 2) (by omega) (4 * i + 2) (by omega)
  obtain ⟨p3, o3, i3, q3⟩ := h.idx (i := 4 * m + 3) (by omega) (4 * i + 3) (by omega)
  obtain ⟨a0, a1⟩ := h.byt.at (4 * m)
  obtain ⟨b0, b1⟩ := h.byt.at (4 * m + 1)
  obtain ⟨c0, c1⟩ := h.byt.at (4 * m + 2)
  obtain ⟨d0, d1⟩ := h.byt.at (4 * m + 3)
  unfold ix
  generalize bs[4 * m]?.getD 0 = X0 at *
  generalize bs[4 * m + 1]?.getD 0 = X1 at *
  generalize bs[4 * m + 2]?.getD 0 = X2 at *
  generalize bs[4 * m + 3]?.getD 0 = X3 at *
  obtain ⟨r1, r2, r3⟩ := or4 X0 X1 X2 X3 a0 a1 b0 b1 c0 c1 d0 d1
  have t0 : 0 ≤ i := by omega
  have t1 : i < 100000 := by omega
  clear h hm hi hm2
  go_enter Tryz.func46, Tryz.ntmps46
  go_wp2_with fail
  go_quiet (fail)
  go_wp2_with fail
  go_ret
  exact ⟨rfl, _, rfl⟩

end Go.Proofs.YtgbahfadjdincaaGreatDoor.Sha

namespace Go.Proofs.YtgbahfadjdincaaGreatDoor.Sha
open Go.RowKit
set_option linter.unusedVariables false
set_option linter.unusedSimpArgs false

/-- The values of a row of numbers. -/
def vk (k : IntKind) (l : List Int) : Array Value := (l.map (Value.int k)).toArray
theorem vk_size (k : IntKind) (l : List Int) : (vk k l).size = l.length := by simp [vk]
theorem vk_at (k : IntKind) (l : List Int) {i : Nat} (h : i < l.length) : (vk k l)[i]? = some (.int k (ix l i)) := by
  simp [vk, ix, List.getElem?_eq_getElem h]
theorem vk_set (k : IntKind) (l : List Int) (i : Nat) (v : Int) : (vk k l).setIfInBounds i (.int k v) = vk k (l.set i v) := by simp [vk]
theorem vk_one (k : IntKind) (l : List Int) : (vk k l).all (·.oneCell') = true := by
  rw [Array.all_eq_true_iff_forall_mem]
  intro v hv
  simp [vk] at hv
  obtain ⟨x, _, rfl⟩ := hv
  rfl

/-- Block g is the array l. -/
def Arr (w : World) (g : Nat) (t : TypeId) (k : IntKind) (l : List Int) : Prop := w.heap[g]? = some (.cells (vk k l) t (0, 0))

theorem Arr.lt {w : World} {g : Nat} {t : TypeId} {k : IntKind} {l : List Int} (h : Arr w g t k l) : g < w.heap.size := (Array.getElem?_eq_some_iff.1 h).1
theorem Arr.keep {w w' : World} {g : Nat} {t : TypeId} {k : IntKind} {l : List Int} (h : Arr w g t k l) (hb : w'.heap[g]? = w.heap[g]?) : Arr w' g t k l := by
  unfold Arr
  rw [hb]
  exact h
theorem Arr.later {w w' : World} {g : Nat} {t : TypeId} {k : IntKind} {l : List Int} (h : Arr w g t k l) (hb : Below w.heap.size w w') : Arr w' g t k l := h.keep (hb.block g h.lt)
theorem Arr.cell {w : World} {g : Nat} {t : TypeId} {k : IntKind} {l : List Int} (h : Arr w g t k l) {i : Nat} (hi : i < l.length) : w.cell? ⟨g, i, none⟩ = some (.int k (ix l i)) := by
  rw [cell_of_row w g i _ _ _ h, vk_at k l hi]
theorem Arr.free {w : World} {g : Nat} {t : TypeId} {k : IntKind} {l : List Int} (h : Arr w g t k l) (i : Nat) : w.frozen? ⟨g, i, none⟩ = false := frozen_of_row w g i _ _ h
theorem Arr.stored {w : World} {g : Nat} {t : TypeId} {k : IntKind} {l : List Int} (h : Arr w g t k l) (i : Nat) (v : Int) : Arr (w.setCell ⟨g, i, none⟩ (.int k v)) g t k (l.set i v) := by
  unfold Arr
  rw [heap_setCell_same w g i _ _ _ h, vk_set]
theorem Arr.other {w : World} {g : Nat} {t : TypeId} {k : IntKind} {l : List Int} (h : Arr w g t k l) (a : Addr) (v : Value) (hne : g ≠ a.block) : Arr (w.setCell a v) g t k l := h.keep (heap_setCell_other w a g v hne)

/-- What is known of an array's type. -/
structure TA (t : TypeId) (n : Nat) (e : TypeId) (k : IntKind) : Prop where
  und : Tryz.prog.underlying t = some (.array n e)
  elem : (Tryz.prog.info? e).map (·.size) = some 1
  flat : ∀ w, (isAgg e).run Tryz.prog w = .ok false w
  zero : (Tryz.prog.info? t).map (fun i => (i.zero, i.size)) = some (some (.agg (vk k (List.replicate n 0))), n)
theorem TA.size {t e : TypeId} {n : Nat} {k : IntKind} (h : TA t n e k) : (Tryz.prog.info? t).map (·.size) = some n := (zero_of_info h.zero).2

theorem ta8 : TA 76 8 66 .u32 := ⟨by kernel_rfl, by kernel_rfl, fun w => by kernel_rfl, by kernel_rfl⟩
theorem ta16 : TA 114 16 66 .u32 := ⟨by kernel_rfl, by kernel_rfl, fun w => by kernel_rfl, by kernel_rfl⟩
theorem ta64 : TA 125 64 66 .u32 := ⟨by kernel_rfl, by kernel_rfl, fun w => by kernel_rfl, by kernel_rfl⟩
theorem ta80 : TA 121 80 66 .u32 := ⟨by kernel_rfl, by kernel_rfl, fun w => by kernel_rfl, by kernel_rfl⟩
theorem tb64 : TA 78 64 5 .u8 := ⟨by kernel_rfl, by kernel_rfl, fun w => by kernel_rfl, by kernel_rfl⟩

/-- Noughts. -/
def zs (n : Nat) : List Int := List.replicate n 0
theorem zs_len (n : Nat) : (zs n).length = n := by simp [zs]

theorem wpList_aAlloc {ops : Array Oper} {rest : List Oper} {o : Oper} {a : Act} {w : World} {Q : Exit → Act → World → Prop} {t e : TypeId} {n : Nat} {k : IntKind} (T : TA t n e k) (hgd : o.guard = none) (ho : o.op = .alloc t)
    (h : ∀ w1, Arr w1 w.heap.size t k (zs n) → Below w.heap.size w w1 → w1.heap.size = w.heap.size + 1 → wpList Tryz.prog ops Q rest (a.put o.dst (.pointer (some ⟨w.heap.size, 0, none⟩))) w1) : wpList Tryz.prog ops Q (o :: rest) a w := by
  refine wpList_plain hgd fun K hK' => ?_
  have hz := (zero_of_info T.zero).1
  unfold Oper.wp
  simp [execOp, ho, Instr.alloc, hz, Result.andThen]
  exact hK' _ _ (h _ (heap_alloc_new w _) (below_alloc w _) (by simp))
theorem wpList_aBox {ops : Array Oper} {rest : List Oper} {o : Oper} {a : Act} {w : World} {Q : Exit → Act → World → Prop} {t : TypeId} {k : IntKind} (hgd : o.guard = none) (x : Operand) (ho : o.op = .box t x)
    (l : List Int) (hx : a.eval x = .agg (vk k l))
    (h : ∀ w1, Arr w1 w.heap.size t k l → Below w.heap.size w w1 → w1.heap.size = w.heap.size + 1 → wpList Tryz.prog ops Q rest (a.put o.dst (.pointer (some ⟨w.heap.size, 0, none⟩))) w1) : wpList Tryz.prog ops Q (o :: rest) a w := by
  refine wpList_plain hgd fun K hK' => ?_
  unfold Oper.wp
  simp [execOp, ho, Instr.box, hx, Result.andThen]
  exact hK' _ _ (h _ (heap_alloc_new w _) (below_alloc w _) (by simp))
theorem wpList_aLoad {ops : Array Oper} {rest : List Oper} {o : Oper} {a : Act} {w : World} {Q : Exit → Act → World → Prop} {t e : TypeId} {n : Nat} {k : IntKind} (T : TA t n e k) (hgd : o.guard = none) (x : Operand) (ho : o.op = .load t x)
    (g : Nat) (hx : a.eval x = .pointer (some ⟨g, 0, none⟩)) (l : List Int) (hg : Arr w g t k l) (hl : l.length = n)
    (h : wpList Tryz.prog ops Q rest (a.put o.dst (.agg (vk k l))) w) : wpList Tryz.prog ops Q (o :: rest) a w :=
  wpList_load_row hgd _ x ho g hx _ (vk k l) (0, 0) _ hg T.und rfl (by rw [vk_size, hl]; exact T.size) h
theorem wpList_aStore {ops : Array Oper} {rest : List Oper} {o : Oper} {a : Act} {w : World} {Q : Exit → Act → World → Prop} {t e : TypeId} {n : Nat} {k : IntKind} (T : TA t n e k) (hgd : o.guard = none) (x y : Operand) (ho : o.op = .store t x y)
    (g : Nat) (l old : List Int) (hx : a.eval x = .pointer (some ⟨g, 0, none⟩)) (hy : a.eval y = .agg (vk k l)) (hg : Arr w g t k old) (hl : l.length = n) (hold : old.length = n)
    (h : ∀ w1, Arr w1 g t k l → (∀ j, j ≠ g → w1.heap[j]? = w.heap[j]?) → w1.heap.size = w.heap.size → Below g w w1 → wpList Tryz.prog ops Q rest (a.put o.dst undef) w1) : wpList Tryz.prog ops Q (o :: rest) a w := by
  refine wpList_store_row hgd _ x y ho g (vk k l) hx hy _ (vk k old) hg (by rw [vk_size, hl]; exact T.size) (by rw [vk_size, vk_size, hl, hold]) (vk_one k l) ?_
  refine h _ (setRow_heap w g _ _ _ _ hg) (fun j hj => setRow_other w g j _ hj) (by simp) ⟨rfl, rfl, rfl, by simp, fun j hj => setRow_other w g j _ (by omega)⟩
theorem results_arr {fn : Func} {p : Tmp} {t e : TypeId} {n : Nat} {k : IntKind} (T : TA t n e k) (h : fn.results = #[.cell p t]) (tmps : Array Value) (w : World) (g : Nat) (l : List Int) (hl : l.length = n)
    (hp : tmps.getD p undef = .pointer (some ⟨g, 0, none⟩)) (hg : Arr w g t k l) :
    (results fn tmps).run Tryz.prog w = .ok (.agg (vk k l)) w :=
  results_cell_row h tmps w g _ (vk k l) (0, 0) _ hp hg T.und rfl (by rw [vk_size, hl]; exact T.size)

/-- 'l[i]' of an array by value, for the walk. -/
theorem run_aIndex {t e : TypeId} {n : Nat} {k : IntKind} (T : TA t n e k) (l : List Int) (hl : l.length = n) (i : Nat) (hi : i < n) (I : Int) (hI : I = i) (w : World) :
    (Instr.index t (.agg (vk k l)) (.int .i64 I)).run Tryz.prog w = .ok (.int k (ix l i)) w := by
  subst hI
  have ha := vk_at k l (i := i) (by omega)
  have hf := T.flat
  cases hq : Tryz.prog.info? e with
  | none => have := T.elem; simp [hq] at this
  | some i0 =>
    have hs : i0.size = 1 := by have := T.elem; simpa [hq] using this
    simp [Instr.index, run_underlying T.und, sizeOf, typeInfo, hq, hs, part, hf, ha, hi, asIntOf]

end Go.Proofs.YtgbahfadjdincaaGreatDoor.Sha

namespace Go.Proofs.YtgbahfadjdincaaGreatDoor.Sha
open Go.RowKit
set_option linter.unusedVariables false
set_option linter.unusedSimpArgs false

theorem fwk_len (k : Int) : (fwk k).length = 8 := by unfold fwk; split <;> rfl

theorem built8a : Tryz.prog.built 76 [(0, .int .u32 1732584193), (1, .int .u32 4023233417), (2, .int .u32 2562383102), (3, .int .u32 271733878), (4, .int .u32 3285377520)] = some (vk .u32 (fwk 1)) := by kernel_rfl
theorem built8b : Tryz.prog.built 76 [(0, .int .u32 1779033703), (1, .int .u32 3144134277), (2, .int .u32 1013904242), (3, .int .u32 2773480762), (4, .int .u32 1359893119), (5, .int .u32 2600822924), (6, .int .u32 528734635), (7, .int .u32 1541459225)] = some (vk .u32 (fwk 2)) := by kernel_rfl

/-- A build whose cells are known. -/
theorem wpList_bld {ops : Array Oper} {rest : List Oper} {o : Oper} {a : Act} {w : World} {Q : Exit → Act → World → Prop} (hgd : o.guard = none) (t : TypeId) (parts : Array (Nat × Operand)) (ho : o.op = .build t parts)
    (C : Array Value) (hb : Tryz.prog.built t (parts.map fun (i, x) => (i, a.eval x)).toList = some C)
    (h : wpList Tryz.prog ops Q rest (a.put o.dst (.agg C)) w) : wpList Tryz.prog ops Q (o :: rest) a w := by
  refine wpList_build hgd _ _ ho (by rw [hb]; rfl) ?_
  rw [hb]
  exact h

set_option maxHeartbeats 400000 in
set_option maxRecDepth 20000 in
theorem firstWords_any (k : Int) (w : World) (hk : k = 1 ∨ k = 2) :
    Calls Tryz.prog 63 #[.int .i64 k] w fun e w' => e = .returned (.agg (vk .u32 (fwk k))) ∧ Below w.heap.size w w' := by
  rcases hk with rfl | rfl
  · go_enter Tryz.func63, Tryz.ntmps63
    go_wp2_with (first
      | (with_reducible show wpList Tryz.prog _ _ (Oper.mk _ (Op.alloc 76) _ _ _ none :: _) _ _; refine wpList_aAlloc ta8 rfl rfl ?_; intro w1 a1 b1 s1)
      | (with_reducible show wpList Tryz.prog _ _ (Oper.mk _ (Op.build 76 _) _ _ _ none :: _) _ _; refine wpList_bld rfl _ _ rfl _ built8a ?_)
      | (with_reducible show wpList Tryz.prog _ _ (Oper.mk _ (Op.store 76 _ _) _ _ _ none :: _) _ _; refine wpList_aStore ta8 rfl (.tmp 2) (.tmp 5) rfl w.heap.size (fwk 1) _ rfl rfl a1 (fwk_len 1) (zs_len 8) ?_; intro w2 a2 o2 s2 b2))
    refine bodyPost_ret (results_arr ta8 rfl _ _ w.heap.size _ (fwk_len 1) rfl a2) rfl ?_
    exact ⟨rfl, b1.trans b2⟩
  · go_enter Tryz.func63, Tryz.ntmps63
    go_wp2_with (first
      | (with_reducible show wpList Tryz.prog _ _ (Oper.mk _ (Op.alloc 76) _ _ _ none :: _) _ _; refine wpList_aAlloc ta8 rfl rfl ?_; intro w1 a1 b1 s1)
      | (with_reducible show wpList Tryz.prog _ _ (Oper.mk _ (Op.build 76 _) _ _ _ none :: _) _ _; refine wpList_bld rfl _ _ rfl _ built8b ?_)
      | (with_reducible show wpList Tryz.prog _ _ (Oper.mk _ (Op.store 76 _ _) _ _ _ none :: _) _ _; refine wpList_aStore ta8 rfl (.tmp 2) (.tmp 6) rfl w.heap.size (fwk 2) _ rfl rfl a1 (fwk_len 2) (zs_len 8) ?_; intro w2 a2 o2 s2 b2))
    refine bodyPost_ret (results_arr ta8 rfl _ _ w.heap.size _ (fwk_len 2) rfl a2) rfl ?_
    exact ⟨rfl, b1.trans b2⟩

/-- The first r bytes of a block's word q. -/
def pwd (B : List Int) (q : Nat) : Nat → Int
  | 0 => 0
  | r + 1 => pwd B q r * 256 + ix B (4 * q + r)
def wdp (B : List Int) (j : Nat) : List Int := (List.range 16).map fun q => pwd B q (min 4 (j - 4 * q))
theorem wdp_len (B : List Int) (j : Nat) : (wdp B j).length = 16 := by simp [wdp]
theorem wdp_at (B : List Int) (j q : Nat) (h : q < 16) : ix (wdp B j) q = pwd B q (min 4 (j - 4 * q)) := by simp [wdp, ix, h]
theorem wdp_zero (B : List Int) : wdp B 0 = zs 16 := by
  unfold wdp
  simp [pwd]
  rfl
theorem wds_len (B : List Int) : (wds B).length = 16 := by simp [wds]
theorem wdp_all (B : List Int) : wdp B 64 = wds B := by
  unfold wdp wds
  refine List.map_congr_left fun q hq => ?_
  have hq' : q < 16 := by simpa using hq
  rw [show min 4 (64 - 4 * q) = 4 by omega]
  simp only [pwd, be4, Nat.add_zero]
  omega
theorem ix_ext {a b : List Int} {n : Nat} (ha : a.length = n) (hb : b.length = n) (h : ∀ i, i < n → ix a i = ix b i) : a = b := by
  apply List.ext_getElem (by rw [ha, hb])
  intro i h1 h2
  have := h i (by omega)
  simpa [ix, List.getElem?_eq_getElem h1, List.getElem?_eq_getElem h2] using this
theorem ix_set (l : List Int) (i j : Nat) (v : Int) (h : j < l.length) : ix (l.set j v) i = if i = j then v else ix l i := by
  unfold ix
  rw [List.getElem?_set]
  by_cases e : j = i
  · subst e; simp [h]
  · rw [if_neg e, if_neg (fun h => e h.symm)]
theorem wdp_step (B : List Int) (j : Nat) (h : j < 64) : (wdp B j).set (j / 4) (pwd B (j / 4) (j % 4) * 256 + ix B j) = wdp B (j + 1) := by
  refine ix_ext (n := 16) (by simp [wdp_len]) (wdp_len _ _) fun q hq => ?_
  rw [ix_set _ _ _ _ (by rw [wdp_len]; omega), wdp_at _ _ _ hq, wdp_at _ _ _ hq]
  by_cases e : q = j / 4
  · subst e
    rw [if_pos rfl, show min 4 (j + 1 - 4 * (j / 4)) = j % 4 + 1 by omega, pwd, show 4 * (j / 4) + j % 4 = j by omega]
  · rw [if_neg e]
    congr 1
    omega
theorem pwd_wd (B : List Int) (hB : Byt B) (q : Nat) : ∀ r, r ≤ 3 → 0 ≤ pwd B q r ∧ pwd B q r ≤ 16777215 := by
  have hb : ∀ i, 0 ≤ ix B i ∧ ix B i ≤ 255 := fun i => hB.at i
  intro r hr
  have h0 := hb (4 * q)
  have h1 := hb (4 * q + 1)
  have h2 := hb (4 * q + 2)
  match r, hr with
  | 0, _ => simp [pwd]
  | 1, _ => simp only [pwd, Nat.add_zero]; omega
  | 2, _ => simp only [pwd, Nat.add_zero]; omega
  | 3, _ => simp only [pwd, Nat.add_zero]; omega

set_option maxHeartbeats 1000000 in
set_option maxRecDepth 20000 in
theorem wordsOf_any (B : List Int) (w : World) (hl : B.length = 64) (hB : Byt B) :
    Calls Tryz.prog 125 #[.agg (vk .u8 B)] w fun e w' => e = .returned (.agg (vk .u32 (wds B))) ∧ Below w.heap.size w w' := by
  have HL := hide hl
  have HB := hide hB
  clear hl hB
  go_enter Tryz.func125, Tryz.ntmps125
  go_wp2_with (first
    | (with_reducible show wpList Tryz.prog _ _ (Oper.mk _ (Op.box 78 _) _ _ _ none :: _) _ _; refine wpList_aBox rfl (.tmp 0) rfl B rfl ?_; intro w1 a1 b1 s1)
    | (with_reducible show wpList Tryz.prog _ _ (Oper.mk (some 2) (Op.alloc 114) _ _ _ none :: _) _ _; refine wpList_aAlloc ta16 rfl rfl ?_; intro w2 a2 b2 s2)
    | (with_reducible show wpList Tryz.prog _ _ (Oper.mk (some 3) (Op.alloc 114) _ _ _ none :: _) _ _; refine wpList_aAlloc ta16 rfl rfl ?_; intro w3 a3 b3 s3; have A2 := hide (a2.later b3); have A1 := hide ((a1.later b2).later b3); have A3 := hide a3; have B3 := hide ((b1.trans (b2.mono b1.size)).trans (b3.mono (Nat.le_trans b1.size b2.size))); clear a1 a2 a3 b1 b2 b3)
    | (with_reducible show wpList Tryz.prog _ _ (Oper.mk _ (Op.load 78 _) _ _ _ none :: _) _ _; refine wpList_aLoad tb64 rfl (.tmp 1) rfl w.heap.size rfl B (unhide A1) (unhide HL) ?_))
  rw [s1] at A2 s2
  rw [s2] at A3 s3
  clear s1 s2 s3
  go_loopw [7] (fun i ws => ∃ j : Nat, j ≤ 64 ∧ i = .int .i64 j ∧ Arr ws (w.heap.size + 1) 114 .u32 (zs 16) ∧ Arr ws (w.heap.size + 1 + 1) 114 .u32 (wdp B j) ∧ Below w.heap.size w ws) (fun i _ => 64 - (intOf i).toNat)
  case atStart => exact ⟨0, by omega, rfl, unhide A2, by rw [wdp_zero]; exact unhide A3, unhide B3⟩
  case round =>
    clear A1 A2 A3 B3
    obtain ⟨j, hj, rfl, h2, h3, hb⟩ := hrel
    by_cases hlt : j < 64
    · obtain ⟨q, hq⟩ : ∃ q : Nat, j / 4 = q := ⟨_, rfl⟩
      have hqI : (j : Int) / 4 = (q : Int) := by omega
      have hq16 : q < 16 := by omega
      have hix := run_aIndex tb64 B (unhide HL) j hlt (j : Int) rfl
      have cc := h3.cell (i := q) (by rw [wdp_len]; exact hq16)
      have fr := h3.free q
      rw [wdp_at _ _ _ hq16, show min 4 (j - 4 * q) = j % 4 by omega] at cc
      have hst := hide (wdp_step B j hlt)
      rw [hq] at hst
      obtain ⟨X0, X1⟩ := pwd_wd B (unhide HB) q (j % 4) (by omega)
      obtain ⟨d0, d1⟩ : 0 ≤ ix B j ∧ ix B j ≤ 255 := (unhide HB).at j
      generalize pwd B q (j % 4) = X at *
      generalize ix B j = D at *
      have ho := or8 X D X0 X1 d0 d1
      have H2 := hide h2
      have H3 := hide h3
      have i1 : 0 ≤ (q : Int) ∧ (q : Int) < 16 := by omega
      clear h2 h3 hq
      go_wp2_with fail
      go_roundw
      case rel =>
        refine ⟨j + 1, by omega, by go_num, (unhide H2).other _ _ (by simp <;> omega), ?_, hb.setCell (by simp <;> omega) _⟩
        rw [← unhide hst]
        exact (unhide H3).stored q _
      case measure => simp [intOf]; omega
    · have H2 := hide h2
      have H3 := hide (show Arr wr (w.heap.size + 1 + 1) 114 .u32 (wds B) by rw [← wdp_all, show (64 : Nat) = j by omega]; exact h3)
      clear h2 h3
      go_wp2_with (first
        | (with_reducible show wpList Tryz.prog _ _ (Oper.mk _ (Op.load 114 _) _ _ _ none :: _) _ _; refine wpList_aLoad ta16 rfl (.tmp 3) rfl (w.heap.size + 1 + 1) rfl _ (unhide H3) (wds_len B) ?_)
        | (with_reducible show wpList Tryz.prog _ _ (Oper.mk _ (Op.store 114 _ _) _ _ _ none :: _) _ _; refine wpList_aStore ta16 rfl (.tmp 2) (.tmp 23) rfl (w.heap.size + 1) (wds B) _ rfl rfl (unhide H2) (wds_len B) (zs_len 16) ?_; intro w5 a5 o5 s5 b5))
      refine bodyPost_ret (results_arr ta16 rfl _ _ (w.heap.size + 1) _ (wds_len B) rfl a5) rfl ?_
      exact ⟨rfl, hb.trans (b5.mono (by omega))⟩

end Go.Proofs.YtgbahfadjdincaaGreatDoor.Sha
