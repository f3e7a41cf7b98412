/-
  The two hashes as functions of lists of numbers: a word's bits turned, the words of the steps, the steps, a block, all blocks, the bytes with their end. No program and no memory is named here.
-/
import Derived.Test.YtfnnafhifpolmaaDoorBitK
namespace Go.Proofs.YtfnnafhifpolmaaDoor
open Go
set_option linter.unusedVariables false
set_option linter.unusedSimpArgs false

/-- A number that is a word's. -/
def Wd (x : Int) : Prop := 0 ≤ x ∧ x ≤ 4294967295

theorem wrap_wd (z : Int) : Wd (IntKind.u32.wrap z) := by
  rw [IntKind.wrap_u32]
  unfold Wd
  omega
theorem xor_wd (a b : Int) : Wd (bits .xor .u32 a b) := wrap_wd _
theorem and_wd (a b : Int) : Wd (bits .and .u32 a b) := wrap_wd _
theorem or_wd (a b : Int) : Wd (bits .or .u32 a b) := wrap_wd _
theorem mod_wd (a : Int) : Wd (a % 4294967296) := by unfold Wd; omega

/-- x turned by n bits to the left. -/
def rot (x : Int) (n : Nat) : Int := bits .or .u32 (x * 2 ^ n % 4294967296) (x / 2 ^ (32 - n))
theorem rot_wd (x : Int) (n : Nat) : Wd (rot x n) := or_wd _ _
def chs (x y z : Int) : Int := bits .xor .u32 (bits .and .u32 x y) (bits .and .u32 (bits .xor .u32 4294967295 x) z)
def maj (x y z : Int) : Int := bits .xor .u32 (bits .xor .u32 (bits .and .u32 x y) (bits .and .u32 x z)) (bits .and .u32 y z)
def par (x y z : Int) : Int := bits .xor .u32 (bits .xor .u32 x y) z
theorem chs_wd (x y z : Int) : Wd (chs x y z) := xor_wd _ _
theorem maj_wd (x y z : Int) : Wd (maj x y z) := xor_wd _ _
theorem par_wd (x y z : Int) : Wd (par x y z) := xor_wd _ _

/-- The i-th one. -/
def ix (l : List Int) (i : Nat) : Int := l[i]?.getD 0

/-- SHA-1's next word, out of those ahead of it, the last one first. -/
def nx1 (l : List Int) : Int := rot (bits .xor .u32 (bits .xor .u32 (bits .xor .u32 (ix l 2) (ix l 7)) (ix l 13)) (ix l 15)) 1
def sg0 (y : Int) : Int := bits .xor .u32 (bits .xor .u32 (rot y 25) (rot y 14)) (y / 8)
def sg1 (x : Int) : Int := bits .xor .u32 (bits .xor .u32 (rot x 15) (rot x 13)) (x / 1024)
/-- SHA-256's next word. -/
def nx2 (l : List Int) : Int := (((sg1 (ix l 1) + ix l 6) % 4294967296 + sg0 (ix l 14)) % 4294967296 + ix l 15) % 4294967296
/-- The words of the steps, the last one first. -/
def rs (nx : List Int → Int) (b : List Int) : Nat → List Int
  | 0 => b.reverse
  | n + 1 => nx (rs nx b n) :: rs nx b n
def sch1 (b : List Int) : List Int := (rs nx1 b 64).reverse
def sch2 (b : List Int) : List Int := (rs nx2 b 48).reverse

/-- Five letters; eight. -/
structure Q5 where
  a : Int
  b : Int
  c : Int
  d : Int
  e : Int
structure Q8 where
  a : Int
  b : Int
  c : Int
  d : Int
  e : Int
  f : Int
  g : Int
  h : Int

def f1 (t : Nat) (b c d : Int) : Int := if t < 20 then chs b c d else if t < 40 then par b c d else if t < 60 then maj b c d else par b c d
def k1 (t : Nat) : Int := if t < 20 then 1518500249 else if t < 40 then 1859775393 else if t < 60 then 2400959708 else 3395469782
def rd1 (t : Nat) (w : Int) (s : Q5) : Q5 :=
  ⟨(rot s.a 5 + f1 t s.b s.c s.d + s.e + k1 t + w) % 4294967296, s.a, rot s.b 30, s.c, s.d⟩
def run1 (W : List Int) (s : Q5) : Nat → Q5
  | 0 => s
  | n + 1 => rd1 n (ix W n) (run1 W s n)

def bs0 (x : Int) : Int := bits .xor .u32 (bits .xor .u32 (rot x 30) (rot x 19)) (rot x 10)
def bs1 (x : Int) : Int := bits .xor .u32 (bits .xor .u32 (rot x 26) (rot x 21)) (rot x 7)
def kk : List Int := [
  1116352408, 1899447441, 3049323471, 3921009573, 961987163, 1508970993, 2453635748, 2870763221,
  3624381080, 310598401, 607225278, 1426881987, 1925078388, 2162078206, 2614888103, 3248222580,
  3835390401, 4022224774, 264347078, 604807628, 770255983, 1249150122, 1555081692, 1996064986,
  2554220882, 2821834349, 2952996808, 3210313671, 3336571891, 3584528711, 113926993, 338241895,
  666307205, 773529912, 1294757372, 1396182291, 1695183700, 1986661051, 2177026350, 2456956037,
  2730485921, 2820302411, 3259730800, 3345764771, 3516065817, 3600352804, 4094571909, 275423344,
  430227734, 506948616, 659060556, 883997877, 958139571, 1322822218, 1537002063, 1747873779,
  1955562222, 2024104815, 2227730452, 2361852424, 2428436474, 2756734187, 3204031479, 3329325298]
def xx (t : Nat) (w : Int) (s : Q8) : Int := (((((s.h + bs1 s.e) % 4294967296 + chs s.e s.f s.g) % 4294967296) + ix kk t) % 4294967296 + w) % 4294967296
def yy (s : Q8) : Int := (bs0 s.a + maj s.a s.b s.c) % 4294967296
def rd2 (t : Nat) (w : Int) (s : Q8) : Q8 := ⟨(xx t w s + yy s) % 4294967296, s.a, s.b, s.c, (s.d + xx t w s) % 4294967296, s.e, s.f, s.g⟩
def run2 (W : List Int) (s : Q8) : Nat → Q8
  | 0 => s
  | n + 1 => rd2 n (ix W n) (run2 W s n)

/-- The words behind a block. -/
def mix1 (W b : List Int) : List Int :=
  let s := run1 (sch1 b) ⟨ix W 0, ix W 1, ix W 2, ix W 3, ix W 4⟩ 80
  [(ix W 0 + s.a) % 4294967296, (ix W 1 + s.b) % 4294967296, (ix W 2 + s.c) % 4294967296, (ix W 3 + s.d) % 4294967296, (ix W 4 + s.e) % 4294967296, ix W 5, ix W 6, ix W 7]
def mix2 (W b : List Int) : List Int :=
  let s := run2 (sch2 b) ⟨ix W 0, ix W 1, ix W 2, ix W 3, ix W 4, ix W 5, ix W 6, ix W 7⟩ 64
  [(ix W 0 + s.a) % 4294967296, (ix W 1 + s.b) % 4294967296, (ix W 2 + s.c) % 4294967296, (ix W 3 + s.d) % 4294967296, (ix W 4 + s.e) % 4294967296, (ix W 5 + s.f) % 4294967296, (ix W 6 + s.g) % 4294967296, (ix W 7 + s.h) % 4294967296]
def mixk (k : Int) (W b : List Int) : List Int := if k = 1 then mix1 W b else mix2 W b
def fwk (k : Int) : List Int := if k = 1 then [1732584193, 4023233417, 2562383102, 271733878, 3285377520, 0, 0, 0] else [1779033703, 3144134277, 1013904242, 2773480762, 1359893119, 2600822924, 528734635, 1541459225]

/-- A block's words. -/
def be4 (a b c d : Int) : Int := a * 16777216 + b * 65536 + c * 256 + d
def wds (B : List Int) : List Int := (List.range 16).map fun i => be4 (ix B (4 * i)) (ix B (4 * i + 1)) (ix B (4 * i + 2)) (ix B (4 * i + 3))
/-- The n-th block. -/
def blk (xs : List Int) (n : Nat) : List Int := (xs.drop (64 * n)).take 64
/-- The words behind n blocks. -/
def wf (k : Int) (xs : List Int) : Nat → List Int
  | 0 => fwk k
  | n + 1 => mixk k (wf k xs n) (wds (blk xs n))

/-- A number as eight bytes. -/
def be8 (N : Int) : List Int := (List.range 8).map fun i => N / 2 ^ (8 * (7 - i)) % 256
/-- The padded bytes. -/
def pdz (n : Nat) : Nat := (119 - n % 64) % 64
def pd (xs : List Int) : List Int := xs ++ (128 :: (List.replicate (pdz xs.length) 0 ++ be8 (8 * xs.length)))

def sm4 (x : Int) : List Int := [x / 16777216, x / 65536 % 256, x / 256 % 256, x % 256]
def nk (k : Int) : Nat := if k = 1 then 5 else 8
def told (n : Nat) (W : List Int) : List Int := (W.take n).flatMap sm4
/-- The hash of all bytes. -/
def sumk (k : Int) (xs : List Int) : List Int := told (nk k) (wf k (pd xs) ((pd xs).length / 64))

end Go.Proofs.YtfnnafhifpolmaaDoor
