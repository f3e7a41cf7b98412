/-
  RowCalls walked: any row is written, as texts and as binary values, as the document's own answer does, or refused. Conditions: the slices can be read; numbers within their kinds; texts of at most 2 to the 40 bytes.
-/
import Derived.Test.YtlicnhlgmnlaoaaRwLives
import Derived.Test.YtlicnhlgmnlaoaaRwRt
import Derived.Test.YtlicnhlgmnlaoaaRwRb
import Derived.Test.YtlicnhlgmnlaoaaKit
namespace Go.Proofs.Ytlicnhlgmnlaoaa
open Go.RowKit
set_option linter.unusedVariables false
set_option linter.unusedSimpArgs false

theorem outP_any {w w' : World} {R : Option (List Int)} {e : Ending} (h : OutP w R e w') : ∃ ao n c, e = .returned (.tuple #[.slice ao n c, .int .i64 (if R.isSome = true then 0 else 2)]) ∧ Bs w' ao n c (R.getD []) ∧ Below w.heap.size w w' := by
  cases R with
  | none => exact ⟨none, 0, 0, h.1, Bs.nought w', h.2⟩
  | some l =>
    obtain ⟨ao, n, c, h1, h2, h3⟩ := h
    exact ⟨ao, n, c, h1, h2.bs, h3⟩
theorem outN_f {w w' : World} {bb : List Int} {l : List Va} {z : List (Va × Ty)} {e : Ending} (h : OutN w false bb l z e w') : e = .returned (.tuple #[.slice none 0 0, .int .i64 2]) ∧ Below w.heap.size w w' := h
theorem outN_t {w w' : World} {bb : List Int} {l : List Va} {z : List (Va × Ty)} {e : Ending} (h : OutN w true bb l z e w') : ∃ nl ao n c, Isn l nl ∧ e = .returned (.tuple #[.slice ao n c, .int .i64 0]) ∧ Bs w' ao n c (bb ++ [0] ++ nl ++ rbB z) ∧ Below w.heap.size w w' := by
  obtain ⟨nl, ao, n, c, h1, h2, h3, h4⟩ := h
  exact ⟨nl, ao, n, c, h1, h2, h3.bs, h4⟩
/-- What stands through the walk. -/
structure Rws (w0 : World) (bo : Option Addr) (bn bc : Nat) (b : List Int) (ao : Option Addr) (n c : Nat) (l : List Va) (tyo : Option Addr) (m tc : Nat) (ts : List Ty) (w : World) : Prop where
  hb : Bs w bo bn bc b
  hl : Vs w ao n c l
  ht : Tys w tyo m tc ts
  bel : Below w0.heap.size w0 w
theorem Rws.later {w0 : World} {bo : Option Addr} {bn bc : Nat} {b : List Int} {ao : Option Addr} {n c : Nat} {l : List Va} {tyo : Option Addr} {m tc : Nat} {ts : List Ty} {w w' : World} (h : Rws w0 bo bn bc b ao n c l tyo m tc ts w) (q : Below w.heap.size w w') : Rws w0 bo bn bc b ao n c l tyo m tc ts w' := ⟨h.hb.later q, h.hl.later q, h.ht.later q, h.bel.trans (q.mono h.bel.size)⟩

set_option maxHeartbeats 4000000 in
set_option maxRecDepth 100000 in
theorem lawRwCalls (bo : Option Addr) (bn bc : Nat) (b : List Int) (ao : Option Addr) (n c : Nat) (l : List Va) (tyo : Option Addr) (m tc : Nat) (ts : List Ty) (w : World) (hb : Bs w bo bn bc b) (hl : Vs w ao n c l) (ht : Tys w tyo m tc ts) (hK : ∀ v ∈ l, VaK v ∧ v.t.size ≤ 1099511627776) (hT : ∀ p ∈ ts, 0 ≤ p.t ∧ p.t < 256) :
    Calls Try.prog 3 #[.slice bo bn bc, .slice ao n c, .slice tyo m tc] w fun e w' => e = .returned (.bool true) ∧ Below w.heap.size w w' := by
  have cL := hide (rwLives_any w)
  have hble := hb.le
  have hbmx := hb.max
  have hbl := hb.len
  have R0 := hide (show Rws w bo bn bc b ao n c l tyo m tc ts w from ⟨hb, hl, ht, Below.refl _ _⟩)
  have cS := hide (fun wx (hx : Rws w bo bn bc b ao n c l tyo m tc ts wx) => rwSmall_any ao n c l tyo m tc ts wx hx.hl hx.ht (fun v hv => (hK v hv).2))
  have HK := hide (fun v hv => (hK v hv).1)
  have HT := hide hT
  clear hb hl ht hK hT
  by_cases hbig : 3000 < bn
  · have q1 : (3000 : Int) < (bn : Int) := by omega
    go_enter Try.func3, Try.ntmps3
    go_wp2_with fail
    refine (unhide cL).mono ?_
    rintro e w1 ⟨rfl, b1⟩
    have B1 := hide b1
    clear b1 cL cS
    go_wp2_with fail
    go_ret
    exact ⟨rfl, unhide B1⟩
  have q1 : ¬ ((3000 : Int) < (bn : Int)) := by omega
  go_enter Try.func3, Try.ntmps3
  go_wp2_with fail
  refine (unhide cL).mono ?_
  rintro e w1 ⟨rfl, b1⟩
  have R1 := hide ((unhide R0).later b1)
  clear b1 cL R0
  go_wp2_with fail
  refine (unhide cS _ (unhide R1)).mono ?_
  rintro e w2 ⟨⟨bv, rfl, hbv⟩, rfl⟩
  cases bv
  · clear cS hbv
    go_wp2_with fail
    go_ret
    exact ⟨rfl, (unhide R1).bel⟩
  obtain ⟨hn, hm, hsz⟩ := hbv rfl
  have HK3 : ∀ v ∈ l, VaK v ∧ v.t.size ≤ 3000 := fun v hv => ⟨unhide HK v hv, hsz v hv⟩
  have cO := hide (fun wx (hx : Rws w bo bn bc b ao n c l tyo m tc ts wx) => own_any bo bn bc b wx hx.hb (by omega))
  have cT := hide (fun wx g (hx : Rws w bo bn bc b ao n c l tyo m tc ts wx) (ho : Bs wx (some ⟨g, 0, none⟩) (bn + 8) (bn + 8) (b ++ kpad)) => appText_any (some ⟨g, 0, none⟩) bn (bn + 8) b ao n c l wx (ho.pre hbl) hx.hl HK3 hn (by omega))
  have rT := hide (fun wx (hx : Rws w bo bn bc b ao n c l tyo m tc ts wx) => appText_ref bo bn bc b ao n c l wx hx.hb hx.hl HK3 hn (by omega))
  have cB := hide (fun wx g (hx : Rws w bo bn bc b ao n c l tyo m tc ts wx) (ho : Bs wx (some ⟨g, 0, none⟩) (bn + 8) (bn + 8) (b ++ kpad)) => appBin_any (some ⟨g, 0, none⟩) bn (bn + 8) b ao n c l tyo m tc ts wx (ho.pre hbl) hx.hl hx.ht HK3 (unhide HT) hn hm (by omega))
  have rB := hide (fun wx (hx : Rws w bo bn bc b ao n c l tyo m tc ts wx) => appBin_ref bo bn bc b ao n c l tyo m tc ts wx hx.hb hx.hl hx.ht HK3 (unhide HT) hn hm (by omega))
  generalize (if rtOk l = true then some (b ++ rtB l) else none) = RT at *
  obtain ⟨XT, hXT⟩ : ∃ z, z = RT.getD [] := ⟨_, rfl⟩
  obtain ⟨ET, hET⟩ : ∃ z : Int, z = (if RT.isSome = true then 0 else 2) := ⟨_, rfl⟩
  have cT' := hide (fun wx g hx ho => (unhide cT wx g hx ho).mono (fun _ _ h => outP_any h))
  have rT' := hide (fun wx hx => (unhide rT wx hx).mono (fun _ _ h => outP_any h))
  rw [← hXT, ← hET] at cT' rT'
  generalize (decide (l.length = ts.length) && rbOk (l.zip ts)) = OKB at *
  clear cT rT hXT hET HK3 hsz hbv cS
  go_wp2_with fail
  refine (unhide cO _ (unhide R1)).mono ?_
  rintro e w3 ⟨g, rfl, o3, b3⟩
  have R3 := hide ((unhide R1).later b3)
  have O3 := hide o3
  clear b3 o3 R1
  go_wp2_with fail
  refine (unhide cT' _ g (unhide R3) (unhide O3)).mono ?_
  rintro e w4 ⟨xo, xn, xc, rfl, x4, b4⟩
  have R4 := hide ((unhide R3).later b4)
  have X4 := hide x4
  clear b4 x4 R3 O3 cT'
  go_wp2_with fail
  refine (unhide rT' _ (unhide R4)).mono ?_
  rintro e w5 ⟨yo, yn, yc, rfl, y5, b5⟩
  have R5 := hide ((unhide R4).later b5)
  have cQ := hide (sameBytes_any xo xn xc XT yo yn yc XT w5 ((unhide X4).later b5) y5)
  rw [decide_eq_true rfl] at cQ
  clear b5 y5 R4 X4 rT'
  go_wp2_with fail
  refine same_world (unhide cQ) ?_
  clear cQ
  go_wp2_with fail
  refine (unhide cO _ (unhide R5)).mono ?_
  rintro e w6 ⟨g2, rfl, o6, b6⟩
  have R6 := hide ((unhide R5).later b6)
  have O6 := hide o6
  clear b6 o6 R5 cO
  go_wp2_with fail
  refine (unhide cB _ g2 (unhide R6) (unhide O6)).mono ?_
  cases OKB
  · intro e w7 h7
    obtain ⟨rfl, b7⟩ := outN_f h7
    have R7 := hide ((unhide R6).later b7)
    clear b7 h7 R6 O6 cB
    go_wp2_with fail
    refine (unhide rB _ (unhide R7)).mono ?_
    intro e w8 h8
    obtain ⟨rfl, b8⟩ := outN_f h8
    have R8 := hide ((unhide R7).later b8)
    have cQ := hide (sameBytes_any none 0 0 [] none 0 0 [] w8 (Bs.nought w8) (Bs.nought w8))
    rw [decide_eq_true rfl] at cQ
    clear b8 h8 R7 rB
    go_wp2_with fail
    refine same_world (unhide cQ) ?_
    go_wp2_with fail
    go_ret
    exact ⟨rfl, (unhide R8).bel⟩
  · intro e w7 h7
    obtain ⟨nl, zo, zn, zc, i7, rfl, z7, b7⟩ := outN_t h7
    have R7 := hide ((unhide R6).later b7)
    have Z7 := hide z7
    have I7 := hide i7
    clear b7 h7 z7 i7 R6 O6 cB
    go_wp2_with fail
    refine (unhide rB _ (unhide R7)).mono ?_
    intro e w8 h8
    obtain ⟨nl2, uo, un, uc, i8, rfl, u8, b8⟩ := outN_t h8
    have hnl := (unhide I7).one i8
    subst hnl
    have R8 := hide ((unhide R7).later b8)
    have cQ := hide (sameBytes_any zo zn zc _ uo un uc _ w8 ((unhide Z7).later b8) u8)
    rw [decide_eq_true rfl] at cQ
    clear b8 h8 R7 rB i8 u8 Z7 I7
    go_wp2_with fail
    refine same_world (unhide cQ) ?_
    go_wp2_with fail
    go_ret
    exact ⟨rfl, (unhide R8).bel⟩


end Go.Proofs.Ytlicnhlgmnlaoaa
