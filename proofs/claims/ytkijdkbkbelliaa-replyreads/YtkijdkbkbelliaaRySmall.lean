/-
  The statements' helpers of layer 14: are replies gone through, are two OKs the same; the replies that a statement takes, in memory. Conditions: the slices can be read.
-/
import Derived.Test.YtkijdkbkbelliaaRyRow
import Derived.Test.YtkijdkbkbelliaaRyBack
import Derived.Deep.CutRange
import Derived.Deep.DeepCutAuto
namespace Go.Proofs.Ytkijdkbkbelliaa
open Go.RowKit
set_option linter.unusedVariables false
set_option linter.unusedSimpArgs false

/-- One of each. -/
structure Rp where
  ok : Ok
  la : Bool
  er : Er
  eo : Eo
  pr : Pr
  fi : ByteArray
/-- .. within their kinds. -/
structure RpK (r : Rp) : Prop where
  ok : OkK r.ok
  er : 0 ≤ r.er.co ∧ r.er.co < 65536
  eo : EoK r.eo
  pr : PrK r.pr
/-- The replies' cells. -/
def Rp.row (r : Rp) (xo : Option Addr) (xn xc : Nat) : Array Value :=
  #[.int .u64 r.ok.af, .int .u64 r.ok.ins, .int .u16 r.ok.st, .int .u16 r.ok.wa, .string r.ok.info, .slice xo xn xc, .bool r.la, .int .u16 r.er.co, .string r.er.st, .string r.er.tx, .int .u16 r.eo.wa, .int .u16 r.eo.st, .int .u32 r.pr.id, .int .u16 r.pr.co, .int .u16 r.pr.pa, .int .u16 r.pr.wa, .string r.fi]
/-- Are they gone through? -/
def sml (r : Rp) (xn : Nat) : Bool := decide (r.ok.info.size ≤ 3000) && (decide (xn ≤ 3000) && (decide (r.er.st.size ≤ 3000) && (decide (r.er.tx.size ≤ 3000) && decide (r.fi.size ≤ 3000))))
theorem Try.rpSize (r : Rp) (xo : Option Addr) (xn xc : Nat) : (Try.prog.info? 50).map (·.size) = some (r.row xo xn xc).size := by
  show _ = some 17
  kernel_rfl

/-- The replies lie in the first new block, whatever was made behind it. -/
structure Pk (w0 : World) (cs : Array Value) (w : World) : Prop where
  bel : Below w0.heap.size w0 w
  par : w.heap[w0.heap.size]? = some (.cells cs 50 (0, 0))
section
variable {w0 w w' : World} {cs : Array Value}
theorem Pk.lt (h : Pk w0 cs w) : w0.heap.size < w.heap.size := row_lt h.par
theorem Pk.later (h : Pk w0 cs w) (hb : Below w.heap.size w w') : Pk w0 cs w' := ⟨bup h.bel hb, row_later h.par hb⟩
theorem Pk.cell (h : Pk w0 cs w) {j : Nat} {v : Value} (hj : cs[j]? = some v) : w.cell? ⟨w0.heap.size, j, none⟩ = some v := row_cell h.par hj
theorem Pk.new (w0 : World) (cs : Array Value) : Pk w0 cs (w0.alloc (.cells cs 50)) := ⟨below_alloc w0 _, heap_alloc_new w0 _⟩
end

set_option maxHeartbeats 2000000 in
set_option maxRecDepth 100000 in
theorem small_any (r : Rp) (xo : Option Addr) (xn xc : Nat) (w : World) (hm : xn ≤ 9223372036854775807) :
    Calls Try.prog 19 #[.agg (r.row xo xn xc)] w fun e w' => e = .returned (.bool (sml r xn)) ∧ Below w.heap.size w w' := by
  have B0 := hide (Pk.new w (r.row xo xn xc)).bel
  have HS := hide (show sml r xn = _ from rfl)
  obtain ⟨R, hR⟩ : ∃ z, z = sml r xn := ⟨_, rfl⟩
  have HR := hide hR
  rw [← hR]
  clear hR HS
  obtain ⟨⟨af, ins, st, wa, info, tr⟩, la, ⟨co, es, et⟩, ⟨ew, est⟩, ⟨pi, pc, pp, pw⟩, fi⟩ := r
  simp only [Rp.row] at B0 ⊢
  simp only [sml] at HR
  by_cases h1 : info.size ≤ 3000
  rotate_left
  · have e1 := hide (show R = false by rw [unhide HR, decide_eq_false h1, Bool.false_and])
    rw [unhide e1]
    have h1' : ¬ ((info.size : Int) ≤ 3000) := by omega
    clear HR h1
    go_enter Try.func19, Try.ntmps19
    go_wp2_with fail
    go_ret
    exact ⟨rfl, unhide B0⟩
  by_cases h2 : xn ≤ 3000
  rotate_left
  · have e1 := hide (show R = false by rw [unhide HR, decide_eq_false h2, Bool.false_and, Bool.and_false])
    rw [unhide e1]
    have h1' : ((info.size : Int) ≤ 3000) := by omega
    have h2' : ¬ ((xn : Int) ≤ 3000) := by omega
    clear HR h1 h2
    go_enter Try.func19, Try.ntmps19
    go_wp2_with fail
    go_ret
    exact ⟨rfl, unhide B0⟩
  by_cases h3 : es.size ≤ 3000
  rotate_left
  · have e1 := hide (show R = false by rw [unhide HR, decide_eq_false h3, Bool.false_and, Bool.and_false, Bool.and_false])
    rw [unhide e1]
    have h1' : ((info.size : Int) ≤ 3000) := by omega
    have h2' : ((xn : Int) ≤ 3000) := by omega
    have h3' : ¬ ((es.size : Int) ≤ 3000) := by omega
    clear HR h1 h2 h3
    go_enter Try.func19, Try.ntmps19
    go_wp2_with fail
    go_ret
    exact ⟨rfl, unhide B0⟩
  by_cases h4 : et.size ≤ 3000
  rotate_left
  · have e1 := hide (show R = false by rw [unhide HR, decide_eq_false h4, Bool.false_and, Bool.and_false, Bool.and_false, Bool.and_false])
    rw [unhide e1]
    have h1' : ((info.size : Int) ≤ 3000) := by omega
    have h2' : ((xn : Int) ≤ 3000) := by omega
    have h3' : ((es.size : Int) ≤ 3000) := by omega
    have h4' : ¬ ((et.size : Int) ≤ 3000) := by omega
    clear HR h1 h2 h3 h4
    go_enter Try.func19, Try.ntmps19
    go_wp2_with fail
    go_ret
    exact ⟨rfl, unhide B0⟩
  have e1 := hide (show R = decide ((fi.size : Int) ≤ 3000) by rw [unhide HR, decide_eq_true h1, decide_eq_true h2, decide_eq_true h3, decide_eq_true h4, Bool.true_and, Bool.true_and, Bool.true_and, Bool.true_and, decide_eq_decide]; omega)
  rw [unhide e1]
  have h1' : ((info.size : Int) ≤ 3000) := by omega
  have h2' : ((xn : Int) ≤ 3000) := by omega
  have h3' : ((es.size : Int) ≤ 3000) := by omega
  have h4' : ((et.size : Int) ≤ 3000) := by omega
  obtain ⟨zz, hz⟩ : ∃ zz, decide ((fi.size : Int) ≤ 3000) = zz := ⟨_, rfl⟩
  clear HR h1 h2 h3 h4 e1
  rw [hz]
  go_enter Try.func19, Try.ntmps19
  go_wp2_with fail
  go_ret
  exact ⟨rfl, unhide B0⟩

/-- An OK's cells. -/
def Ok.row (p : Ok) (xo : Option Addr) (xn xc : Nat) : Array Value := #[.int .u64 p.af, .int .u64 p.ins, .int .u16 p.st, .int .u16 p.wa, .string p.info, .slice xo xn xc]

set_option maxHeartbeats 2000000 in
set_option maxRecDepth 100000 in
/-- Two OKs that are the same. -/
theorem sameOk_self (p : Ok) (xo : Option Addr) (xn xc : Nat) (yo : Option Addr) (yn yc : Nat) (w : World) (hx : Bs w xo xn xc p.tr) (hy : Bs w yo yn yc p.tr) :
    Calls Try.prog 29 #[.agg (p.row xo xn xc), .agg (p.row yo yn yc)] w fun e w' => e = .returned (.bool true) ∧ Below w.heap.size w w' := by
  obtain ⟨af, ins, st, wa, info, tr⟩ := p
  simp only [Ok.row] at *
  have b1 := below_alloc w (.cells #[.int .u64 af, .int .u64 ins, .int .u16 st, .int .u16 wa, .string info, .slice xo xn xc] 31)
  have b2 := below_alloc (w.alloc (.cells #[.int .u64 af, .int .u64 ins, .int .u16 st, .int .u16 wa, .string info, .slice xo xn xc] 31)) (.cells #[.int .u64 af, .int .u64 ins, .int .u16 st, .int .u16 wa, .string info, .slice yo yn yc] 31)
  have b3 := bup b1 b2
  have cS := hide (sameBytes_any xo xn xc tr yo yn yc tr _ (hx.later b3) (hy.later b3))
  rw [decide_eq_true rfl] at cS
  have B3 := hide b3
  clear hx hy b1 b2 b3
  go_enter Try.func29, Try.ntmps29
  go_wp2_with fail
  refine same_world (unhide cS) ?_
  go_wp2_with fail
  go_ret
  exact ⟨rfl, unhide B3⟩

end Go.Proofs.Ytkijdkbkbelliaa
