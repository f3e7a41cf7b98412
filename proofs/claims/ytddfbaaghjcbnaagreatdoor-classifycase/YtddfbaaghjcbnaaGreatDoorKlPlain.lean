/-
  What a statement does, as plain functions on words: what the functions of package classify return, said without a program. No program and no memory is named here.
-/
import Derived.Test.YtddfbaaghjcbnaaGreatDoorScPlain
namespace Go.Proofs.YtddfbaaghjcbnaaGreatDoor
set_option linter.unusedVariables false
set_option linter.unusedSimpArgs false

/-- A class: its kind, its name, its value. -/
structure Cl where
  k : Int
  nm : ByteArray
  va : ByteArray
deriving DecidableEq
def cl0 : Cl := ⟨0, ba [], ba []⟩
def kl (k : Int) : Cl := ⟨k, ba [], ba []⟩
/-- What is left of a statement's words, and what was passed over. -/
structure WS where
  left : List Wd
  nm : ByteArray
  va : ByteArray
def ws0 (l : List Wd) : WS := ⟨l, ba [], ba []⟩

/-- Is a word such a sign? -/
def sgW (w : Wd) (s : ByteArray) : Bool := decide (w.k = 5) && decide (w.tx = s)
/-- Is a word such a name without quotes? -/
def nmW (w : Wd) (s : ByteArray) : Bool := decide (w.k = 1) && decide (w.tx = s)
/-- Are the first words some names? -/
def begL : List Wd → List ByteArray → Bool
  | _, [] => true
  | [], _ :: _ => false
  | w :: l, s :: ss => nmW w s && begL l ss
/-- Are the last words some names? -/
def endL (l : List Wd) (ss : List ByteArray) : Bool := decide (ss.length ≤ l.length) && begL (l.drop (l.length - ss.length)) ss
/-- Is a text one of some? -/
def memB (ks : List ByteArray) (t : ByteArray) : Bool := ks.any fun k => decide (t = k)
/-- Is a word a name of a set? -/
def inS (ks : List ByteArray) (w : Wd) : Bool := decide (w.k = 1) && memB ks w.tx
def firS (ks : List ByteArray) (l : List Wd) : Bool := match l with
  | [] => false
  | w :: _ => inS ks w

abbrev St := WS → Bool × WS
/-- One step behind the other, as '&&' does them. -/
def thn (a b : St) : St := fun S => if (a S).1 then b (a S).2 else (false, (a S).2)
/-- One step, or, if it fails, another one from where the first left it. -/
def els (a b : St) : St := fun S => if (a S).1 then (true, (a S).2) else b (a S).2
/-- All of it, or nothing. -/
def tog (a : St) : St := fun S => if (a S).1 then (true, (a S).2) else (false, S)
def enS : St := fun S => (decide (S.left = []), S)
def naS (ss : List ByteArray) : St := fun S => if begL S.left ss then (true, { S with left := S.left.drop ss.length }) else (false, S)
def peS (ss : List ByteArray) : St := fun S => (true, (naS ss S).2)
def siS (s : ByteArray) : St := fun S => match S.left with
  | [] => (false, S)
  | w :: r => if sgW w s then (true, { S with left := r }) else (false, S)
/-- A word of some kinds: what it says becomes the name. -/
def wnS (ks : List Int) : St := fun S => match S.left with
  | [] => (false, S)
  | w :: r => if w.k ∈ ks then (true, ⟨r, w.tx, S.va⟩) else (false, S)
/-- A word of some kinds: what it says becomes the value. -/
def wvS (ks : List Int) : St := fun S => match S.left with
  | [] => (false, S)
  | w :: r => if w.k ∈ ks then (true, ⟨r, S.nm, w.tx⟩) else (false, S)
/-- A word of some kinds: what it says is not kept. -/
def wxS (ks : List Int) : St := fun S => match S.left with
  | [] => (false, S)
  | w :: r => if w.k ∈ ks then (true, ⟨r, S.nm, S.va⟩) else (false, S)
def nuS : St := wxS [4]
def nmS : St := wnS [1, 2]
/-- A point and a name. -/
def ptS : St := thn (siS (ba [46])) nmS
def taS : St := fun S => if (nmS S).1 then (if (tog ptS (nmS S).2).1 then (true, { (tog ptS (nmS S).2).2 with nm := ba (bl (nmS S).2.nm ++ [46] ++ bl (tog ptS (nmS S).2).2.nm) }) else (true, (tog ptS (nmS S).2).2)) else (false, (nmS S).2)

def sSess : ByteArray := ba [115, 101, 115, 115, 105, 111, 110]
def sLocal : ByteArray := ba [108, 111, 99, 97, 108]
def vaS : St := tog (thn (els (naS [sSess]) (peS [sLocal])) nmS)
def sSessP : Bl := [115, 101, 115, 115, 105, 111, 110, 46]
def sLocalP : Bl := [108, 111, 99, 97, 108, 46]
/-- A system variable's name without its scope. -/
def bare (l : Bl) : Bl := if sSessP.isPrefixOf l then l.drop 8 else if sLocalP.isPrefixOf l then l.drop 6 else l
def digB (c : UInt8) : Bool := decide (48 ≤ c.toNat) && decide (c.toNat ≤ 57)
/-- Has a name a letter, and no point? -/
def goodN (l : Bl) : Bool := l.any (fun c => !digB c) && !l.contains 46
def unS : St := fun S => (goodN (bare (bl S.nm)), { S with nm := ba (bare (bl S.nm)) })
def syS : St := tog (thn (wnS [7]) unS)
def sgnS (s : ByteArray) : St := fun S => if (tog (thn (siS s) (wvS [4])) S).1 then (true, { (tog (thn (siS s) (wvS [4])) S).2 with va := ba (bl s ++ bl (tog (thn (siS s) (wvS [4])) S).2.va) }) else (false, (tog (thn (siS s) (wvS [4])) S).2)
def liS : St := els (els (wvS [3, 4, 1, 2]) (sgnS (ba [43]))) (sgnS (ba [45]))

/-- What 'found' tells of a step. -/
def fou (k : Int) (r : Bool × WS) : Cl × Bool := if r.1 then (⟨k, r.2.nm, r.2.va⟩, true) else (cl0, false)

def kOdd : List ByteArray := [(⟨#[108, 97, 115, 116, 95, 105, 110, 115, 101, 114, 116, 95, 105, 100]⟩ : ByteArray), (⟨#[102, 111, 117, 110, 100, 95, 114, 111, 119, 115]⟩ : ByteArray), (⟨#[114, 111, 119, 95, 99, 111, 117, 110, 116]⟩ : ByteArray), (⟨#[99, 111, 110, 110, 101, 99, 116, 105, 111, 110, 95, 105, 100]⟩ : ByteArray), (⟨#[103, 101, 116, 95, 100, 105, 97, 103, 110, 111, 115, 116, 105, 99, 115]⟩ : ByteArray), (⟨#[119, 97, 114, 110, 105, 110, 103, 115]⟩ : ByteArray), (⟨#[101, 114, 114, 111, 114, 115]⟩ : ByteArray), (⟨#[112, 114, 111, 102, 105, 108, 101]⟩ : ByteArray), (⟨#[112, 114, 111, 102, 105, 108, 101, 115]⟩ : ByteArray), (⟨#[105, 110, 116, 111]⟩ : ByteArray), (⟨#[111, 117, 116, 102, 105, 108, 101]⟩ : ByteArray), (⟨#[100, 117, 109, 112, 102, 105, 108, 101]⟩ : ByteArray), (⟨#[112, 114, 101, 112, 97, 114, 101]⟩ : ByteArray), (⟨#[101, 120, 101, 99, 117, 116, 101]⟩ : ByteArray), (⟨#[100, 101, 97, 108, 108, 111, 99, 97, 116, 101]⟩ : ByteArray), (⟨#[104, 97, 110, 100, 108, 101, 114]⟩ : ByteArray), (⟨#[99, 97, 108, 108]⟩ : ByteArray), (⟨#[120, 97]⟩ : ByteArray), (⟨#[100, 111]⟩ : ByteArray), (⟨#[115, 113, 108, 95, 99, 97, 108, 99, 95, 102, 111, 117, 110, 100, 95, 114, 111, 119, 115]⟩ : ByteArray)]
def kLock : List ByteArray := [(⟨#[103, 101, 116, 95, 108, 111, 99, 107]⟩ : ByteArray), (⟨#[105, 115, 95, 117, 115, 101, 100, 95, 108, 111, 99, 107]⟩ : ByteArray), (⟨#[105, 115, 95, 102, 114, 101, 101, 95, 108, 111, 99, 107]⟩ : ByteArray), (⟨#[114, 101, 108, 101, 97, 115, 101, 95, 108, 111, 99, 107]⟩ : ByteArray), (⟨#[114, 101, 108, 101, 97, 115, 101, 95, 97, 108, 108, 95, 108, 111, 99, 107, 115]⟩ : ByteArray)]
def kSpec : List ByteArray := [(⟨#[97, 117, 116, 111, 99, 111, 109, 109, 105, 116]⟩ : ByteArray), (⟨#[116, 114, 97, 110, 115, 97, 99, 116, 105, 111, 110]⟩ : ByteArray), (⟨#[112, 97, 115, 115, 119, 111, 114, 100]⟩ : ByteArray), (⟨#[114, 111, 108, 101]⟩ : ByteArray)]
def kWrit : List ByteArray := [(⟨#[105, 110, 115, 101, 114, 116]⟩ : ByteArray), (⟨#[117, 112, 100, 97, 116, 101]⟩ : ByteArray), (⟨#[100, 101, 108, 101, 116, 101]⟩ : ByteArray), (⟨#[114, 101, 112, 108, 97, 99, 101]⟩ : ByteArray), (⟨#[99, 114, 101, 97, 116, 101]⟩ : ByteArray), (⟨#[100, 114, 111, 112]⟩ : ByteArray), (⟨#[97, 108, 116, 101, 114]⟩ : ByteArray), (⟨#[116, 114, 117, 110, 99, 97, 116, 101]⟩ : ByteArray), (⟨#[114, 101, 110, 97, 109, 101]⟩ : ByteArray), (⟨#[103, 114, 97, 110, 116]⟩ : ByteArray), (⟨#[114, 101, 118, 111, 107, 101]⟩ : ByteArray), (⟨#[97, 110, 97, 108, 121, 122, 101]⟩ : ByteArray), (⟨#[111, 112, 116, 105, 109, 105, 122, 101]⟩ : ByteArray)]
def kRead : List ByteArray := [(⟨#[115, 101, 108, 101, 99, 116]⟩ : ByteArray), (⟨#[115, 104, 111, 119]⟩ : ByteArray), (⟨#[101, 120, 112, 108, 97, 105, 110]⟩ : ByteArray), (⟨#[100, 101, 115, 99, 114, 105, 98, 101]⟩ : ByteArray), (⟨#[100, 101, 115, 99]⟩ : ByteArray), (⟨#[116, 97, 98, 108, 101]⟩ : ByteArray), (⟨#[118, 97, 108, 117, 101, 115]⟩ : ByteArray), (⟨#[119, 105, 116, 104]⟩ : ByteArray), (⟨#[115, 97, 118, 101, 112, 111, 105, 110, 116]⟩ : ByteArray)]

def filL (l : List Wd) : Bool := begL l [(⟨#[108, 111, 97, 100]⟩ : ByteArray), (⟨#[100, 97, 116, 97]⟩ : ByteArray), (⟨#[108, 111, 99, 97, 108]⟩ : ByteArray), (⟨#[105, 110, 102, 105, 108, 101]⟩ : ByteArray)]
/-- Does an 'into' at a place tell where rows go in? -/
def intL (l : List Wd) (i : Nat) (tx : ByteArray) : Bool := decide (tx = (⟨#[105, 110, 116, 111]⟩ : ByteArray)) && ((decide (i = 1) && (begL l [(⟨#[105, 110, 115, 101, 114, 116]⟩ : ByteArray)] || begL l [(⟨#[114, 101, 112, 108, 97, 99, 101]⟩ : ByteArray)])) || filL l)
def oddW (l : List Wd) (i : Nat) (w : Wd) : Bool := (decide (w.k = 9) || sgW w (ba [58, 61])) || (inS kOdd w && !intL l i w.tx)
def oddF (l : List Wd) : List Wd → Nat → Bool
  | [], _ => false
  | w :: r, i => oddW l i w || oddF l r (i + 1)
def oddL (l : List Wd) : Bool := oddF l l 0

def lockF (l : List Wd) : Cl × Bool := fou 10 (thn (thn (thn (thn (thn (thn (naS [(⟨#[115, 101, 108, 101, 99, 116]⟩ : ByteArray), (⟨#[103, 101, 116, 95, 108, 111, 99, 107]⟩ : ByteArray)]) (siS (ba [40]))) (wnS [3])) (siS (ba [44]))) nuS) (siS (ba [41]))) enS (ws0 l))
def lotaF (l : List Wd) : Cl × Bool := fou 10 (thn (els (naS [(⟨#[108, 111, 99, 107]⟩ : ByteArray), (⟨#[116, 97, 98, 108, 101]⟩ : ByteArray)]) (naS [(⟨#[108, 111, 99, 107]⟩ : ByteArray), (⟨#[116, 97, 98, 108, 101, 115]⟩ : ByteArray)])) taS (ws0 l))
def unloF (l : List Wd) : Cl × Bool := fou 11 (thn (els (els (naS [(⟨#[117, 110, 108, 111, 99, 107]⟩ : ByteArray), (⟨#[116, 97, 98, 108, 101]⟩ : ByteArray)]) (naS [(⟨#[117, 110, 108, 111, 99, 107]⟩ : ByteArray), (⟨#[116, 97, 98, 108, 101, 115]⟩ : ByteArray)])) (thn (thn (naS [(⟨#[115, 101, 108, 101, 99, 116]⟩ : ByteArray), (⟨#[114, 101, 108, 101, 97, 115, 101, 95, 97, 108, 108, 95, 108, 111, 99, 107, 115]⟩ : ByteArray)]) (siS (ba [40]))) (siS (ba [41])))) enS (ws0 l))
def begiF (l : List Wd) : Cl × Bool := fou 3 (els (naS [(⟨#[115, 116, 97, 114, 116]⟩ : ByteArray), (⟨#[116, 114, 97, 110, 115, 97, 99, 116, 105, 111, 110]⟩ : ByteArray)]) (thn (thn (naS [(⟨#[98, 101, 103, 105, 110]⟩ : ByteArray)]) (peS [(⟨#[119, 111, 114, 107]⟩ : ByteArray)])) enS) (ws0 l))
def endF (l : List Wd) : Cl × Bool := fou 4 (thn (thn (els (naS [(⟨#[99, 111, 109, 109, 105, 116]⟩ : ByteArray)]) (naS [(⟨#[114, 111, 108, 108, 98, 97, 99, 107]⟩ : ByteArray)])) (peS [(⟨#[119, 111, 114, 107]⟩ : ByteArray)])) enS (ws0 l))
def setuF (l : List Wd) : Cl × Bool := fou 7 (thn (thn (thn (thn (naS [(⟨#[115, 101, 116]⟩ : ByteArray)]) (wnS [6])) (siS (ba [61]))) liS) enS (ws0 l))
/-- What a set of a variable tells, where it may be told. -/
def setG (r : Cl × Bool) : Cl × Bool :=
  if r.2 then (if memB kSpec (ba (low (bl r.1.nm))) || (bl (⟨#[115, 113, 108, 95, 108, 111, 103]⟩ : ByteArray)).isPrefixOf (low (bl r.1.nm)) then (kl 13, true) else (⟨r.1.k, ba (low (bl r.1.nm)), r.1.va⟩, true)) else (cl0, false)
def setF (l : List Wd) : Cl × Bool := setG (fou 5 (thn (thn (thn (thn (naS [(⟨#[115, 101, 116]⟩ : ByteArray)]) (els vaS syS)) (siS (ba [61]))) liS) enS (ws0 l)))
def setnF (l : List Wd) : Cl × Bool := fou 5 (thn (thn (naS [(⟨#[115, 101, 116]⟩ : ByteArray), (⟨#[110, 97, 109, 101, 115]⟩ : ByteArray)]) liS) enS ⟨l, (⟨#[110, 97, 109, 101, 115]⟩ : ByteArray), ba []⟩)
def useF (l : List Wd) : Cl × Bool := fou 6 (thn (thn (naS [(⟨#[117, 115, 101]⟩ : ByteArray)]) nmS) enS (ws0 l))
def mateF (l : List Wd) : Cl × Bool := fou 8 (thn (thn (naS [(⟨#[99, 114, 101, 97, 116, 101]⟩ : ByteArray), (⟨#[116, 101, 109, 112, 111, 114, 97, 114, 121]⟩ : ByteArray), (⟨#[116, 97, 98, 108, 101]⟩ : ByteArray)]) (peS [(⟨#[105, 102]⟩ : ByteArray), (⟨#[110, 111, 116]⟩ : ByteArray), (⟨#[101, 120, 105, 115, 116, 115]⟩ : ByteArray)])) taS (ws0 l))
def drteF (l : List Wd) : Cl × Bool := fou 9 (thn (thn (thn (naS [(⟨#[100, 114, 111, 112]⟩ : ByteArray), (⟨#[116, 101, 109, 112, 111, 114, 97, 114, 121]⟩ : ByteArray), (⟨#[116, 97, 98, 108, 101]⟩ : ByteArray)]) (peS [(⟨#[105, 102]⟩ : ByteArray), (⟨#[101, 120, 105, 115, 116, 115]⟩ : ByteArray)])) taS) enS (ws0 l))
def fileF (l : List Wd) : Cl × Bool := fou 12 (filL l, ws0 l)
def writF (l : List Wd) : Cl × Bool := fou 2 (((begL l [(⟨#[115, 101, 108, 101, 99, 116]⟩ : ByteArray)] && ((endL l [(⟨#[102, 111, 114]⟩ : ByteArray), (⟨#[117, 112, 100, 97, 116, 101]⟩ : ByteArray)] || endL l [(⟨#[102, 111, 114]⟩ : ByteArray), (⟨#[115, 104, 97, 114, 101]⟩ : ByteArray)]) || endL l [(⟨#[108, 111, 99, 107]⟩ : ByteArray), (⟨#[105, 110]⟩ : ByteArray), (⟨#[115, 104, 97, 114, 101]⟩ : ByteArray), (⟨#[109, 111, 100, 101]⟩ : ByteArray)])) || firS kWrit l) || begL l [(⟨#[115, 101, 116]⟩ : ByteArray), (⟨#[103, 108, 111, 98, 97, 108]⟩ : ByteArray)], ws0 l)
def readF (l : List Wd) : Cl × Bool := fou 1 (els (els (els (naS [(⟨#[114, 101, 108, 101, 97, 115, 101]⟩ : ByteArray), (⟨#[115, 97, 118, 101, 112, 111, 105, 110, 116]⟩ : ByteArray)]) (naS [(⟨#[114, 111, 108, 108, 98, 97, 99, 107]⟩ : ByteArray), (⟨#[116, 111]⟩ : ByteArray)])) (naS [(⟨#[114, 111, 108, 108, 98, 97, 99, 107]⟩ : ByteArray), (⟨#[119, 111, 114, 107]⟩ : ByteArray), (⟨#[116, 111]⟩ : ByteArray)])) (fun S => if firS kRead l then (true, S) else thn (siS (ba [40])) (naS [(⟨#[115, 101, 108, 101, 99, 116]⟩ : ByteArray)]) S) (ws0 l))
/-- The class that the first of some finds. -/
def firF : List (Cl × Bool) → Cl × Bool
  | [] => (cl0, false)
  | x :: r => if x.2 then (x.1, true) else firF r
def clsF (l : List Wd) : Cl :=
  if oddL l then kl 13
  else if (firF [lockF l, lotaF l, unloF l]).2 then (firF [lockF l, lotaF l, unloF l]).1
  else if l.any (inS kLock) then kl 13
  else if (firF [begiF l, endF l, setuF l, setF l, setnF l, useF l, mateF l, drteF l, fileF l, writF l, readF l]).2 then (firF [begiF l, endF l, setuF l, setF l, setnF l, useF l, mateF l, drteF l, fileF l, writF l, readF l]).1
  else kl 13

def isE (w : Wd) : Bool := sgW w (ba [59])
/-- The statements of words. -/
def stmF : List Wd → List Wd → List (List Wd)
  | [], acc => if acc = [] then [] else [acc]
  | w :: r, acc => if isE w then (if acc = [] then stmF r [] else acc :: stmF r []) else stmF r (acc ++ [w])
def ofW (l : List Wd) : List Cl := (stmF l []).map clsF
/-- What Of tells. -/
def ofF (s : Bl) : List Cl × Ft := if (alW s).2 = ⟨0, 0⟩ then (ofW (alW s).1, ⟨0, 0⟩) else ([], (alW s).2)
def oneF (l : List Wd) : Cl := if l.any isE then kl 13 else clsF l

end Go.Proofs.YtddfbaaghjcbnaaGreatDoor
