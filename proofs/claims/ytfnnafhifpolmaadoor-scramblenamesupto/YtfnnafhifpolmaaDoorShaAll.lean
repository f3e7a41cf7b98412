/-
  What the exported functions of package sha, and the methods of a hash, return. Conditions: a hash is one that New made, one of no kind, or none; the table of constants holds what the program's text says; fewer than 10 to the 12 bytes.
-/
import Derived.Test.YtfnnafhifpolmaaDoorShaTold
namespace Go.Proofs.YtfnnafhifpolmaaDoor
open Go.RowKit
set_option linter.unusedVariables false
set_option linter.unusedSimpArgs false

theorem wpList_hBuild {ops : Array Oper} {rest : List Oper} {o : Oper} {a : Act} {w : World} {Q : Exit → Act → World → Prop} (hgd : o.guard = none) (x y : Operand) (ho : o.op = .build 52 #[(0, x), (1, y)])
    (k : Int) (W : List Int) (hW : W.length = 8) (hx : a.eval x = .int .i64 k) (hy : a.eval y = .agg (vk .u32 W))
    (h : wpList Tryd.prog ops Q rest (a.put o.dst (.agg (hv k W (zs 64) 0))) w) : wpList Tryd.prog ops Q (o :: rest) a w := by
  have hb : Tryd.prog.built 52 (#[(0, x), (1, y)].map fun (i, x) => (i, a.eval x)).toList = some (hv k W (zs 64) 0) := by
    simp only [List.map_toArray, List.map_cons, List.map_nil, hx, hy]
    exact hBuilt k W hW
  refine wpList_build hgd _ _ ho (by rw [hb]; rfl) ?_
  rw [hb]
  exact h
theorem ho_nil {w : World} {g : Nat} {k : Int} (h : Hs w g k (fwk k) (zs 64) 0) : Ho w g k [] := h
theorem ho_of {w : World} {g : Nat} {k : Int} {xs : List Int} (h : Hs w g k (wst k xs) (rst xs) (xs.length : Nat)) : Ho w g k xs := h
theorem Ho.later {w w' : World} {g : Nat} {k : Int} {xs : List Int} (h : Ho w g k xs) (hb : Below w.heap.size w w') : Ho w' g k xs := Hs.later h hb
theorem Ho.lt {w : World} {g : Nat} {k : Int} {xs : List Int} (h : Ho w g k xs) : g < w.heap.size := Hs.lt h
theorem Ho.keep {w w' : World} {g : Nat} {k : Int} {xs : List Int} (h : Ho w g k xs) (hb : w'.heap[g]? = w.heap[g]?) : Ho w' g k xs := Hs.keep h hb

set_option maxHeartbeats 2000000 in
theorem sumOf_any (k : Int) (bo : Option Addr) (bn bc : Nat) (bs : List Int) (w : World) (hk : k = 1 ∨ k = 2) (hb : Bs w bo bn bc bs) (hv : Vars w) (hbd : bn ≤ 1000000000000) :
    Calls Tryd.prog 34 #[.int .i64 k, .slice bo bn bc] w fun e w' => OutB w (sumk k bs) e w' := by
  have HK := hide hk
  have HB := hide hb
  have HV := hide hv
  have fc := hide (firstWords_any k w hk)
  clear hk hb hv
  go_enter Tryd.func34, Tryd.ntmps34
  go_wp2_with fail
  refine (unhide fc).mono ?_
  rintro e w1 ⟨rfl, b1⟩
  have B1 := hide b1
  have hs1 := b1.size
  have hsz := (unhide HV).size
  clear b1 fc
  go_wp2_with (first
    | (with_reducible show wpList Tryd.prog _ _ (Oper.mk _ (Op.build 52 _) _ _ _ none :: _) _ _; refine wpList_hBuild rfl (.tmp 6) (.tmp 8) rfl k (fwk k) (fwk_len k) rfl rfl ?_)
    | (with_reducible show wpList Tryd.prog _ _ (Oper.mk _ (Op.alloc 52) _ _ _ none :: _) _ _; refine wpList_hAlloc rfl rfl ?_; intro w2 h2 b2 s2; have S2 := hide s2; clear s2)
    | (with_reducible show wpList Tryd.prog _ _ (Oper.mk _ (Op.store 52 _ _) _ _ _ none :: _) _ _; refine wpList_hStore rfl (.tmp 5) (.tmp 9) rfl w1.heap.size k _ (fwk k) (zs 64) _ _ 0 _ rfl rfl h2 (fwk_len k) (zs_len 64) ?_; intro w3 h3 g3 s3; have H3 := hide (ho_nil h3); have B3 := hide (((unhide B1).trans (b2.mono hs1)).trans ((g3.below (by have := unhide S2; omega)).mono hs1)); clear h2 b2 h3 g3 s3))
  have hlt3 := (unhide H3).lt
  have tk := hide (take_any w1.heap.size k [] bo bn bc bs w3 (unhide H3) (unhide HK) Byt.nil ((unhide HB).later (unhide B3)) ((unhide HB).off hs1) (by omega) ((unhide HV).later hsz (unhide B3)) (by simpa using hbd))
  clear S2 H3
  go_wp2_with fail
  refine (unhide tk).mono ?_
  rintro e w4 ⟨rfl, h4, g4⟩
  rw [List.nil_append] at h4
  have hlt4 := h4.lt
  have hw3 : w1.heap.size < w3.heap.size := hlt3
  have B4 := hide ((unhide B3).trans ((g4.below (by omega)).mono hs1))
  have pc := hide (pad_any w1.heap.size k bs w4 h4 (unhide HK) (unhide HB).byt (by omega) ((unhide HV).later hsz (unhide B4)) (by rw [(unhide HB).len]; exact hbd))
  clear h4 g4 tk
  go_wp2_with fail
  refine (unhide pc).mono ?_
  rintro e w5 ⟨rfl, h5, g5⟩
  have B5 := hide ((unhide B4).trans ((g5.below (by omega)).mono hs1))
  have tc := hide (told_any w1.heap.size k _ _ _ w5 h5 (unhide HK) (wf_wds k _ _))
  have hs5 := (unhide B5).size
  clear h5 g5 pc
  go_wp2_with fail
  refine (unhide tc).mono ?_
  rintro e w6 ⟨ao, n, c, rfl, m6, b6⟩
  have M6 := hide (m6.mono hs5)
  have B6 := hide ((unhide B5).trans (b6.mono hs5))
  clear m6 b6 tc
  go_wp2_with fail
  go_ret
  exact ⟨ao, n, c, rfl, unhide M6, unhide B6⟩

set_option maxHeartbeats 400000 in
theorem sum1_any (bo : Option Addr) (bn bc : Nat) (bs : List Int) (w : World) (hb : Bs w bo bn bc bs) (hv : Vars w) (hbd : bn ≤ 1000000000000) :
    Calls Tryd.prog 24 #[.slice bo bn bc] w fun e w' => OutB w (sumk 1 bs) e w' := by
  have c := hide (sumOf_any 1 bo bn bc bs w (.inl rfl) hb hv hbd)
  clear hb hv hbd
  go_enter Tryd.func24, Tryd.ntmps24
  go_wp2_with fail
  refine (unhide c).mono ?_
  rintro e w6 ⟨ao, n, c, rfl, m6, b6⟩
  go_wp2_with fail
  go_ret
  exact ⟨ao, n, c, rfl, m6, b6⟩
set_option maxHeartbeats 400000 in
theorem sum256_any (bo : Option Addr) (bn bc : Nat) (bs : List Int) (w : World) (hb : Bs w bo bn bc bs) (hv : Vars w) (hbd : bn ≤ 1000000000000) :
    Calls Tryd.prog 37 #[.slice bo bn bc] w fun e w' => OutB w (sumk 2 bs) e w' := by
  have c := hide (sumOf_any 2 bo bn bc bs w (.inr rfl) hb hv hbd)
  clear hb hv hbd
  go_enter Tryd.func37, Tryd.ntmps37
  go_wp2_with fail
  refine (unhide c).mono ?_
  rintro e w6 ⟨ao, n, c, rfl, m6, b6⟩
  go_wp2_with fail
  go_ret
  exact ⟨ao, n, c, rfl, m6, b6⟩

end Go.Proofs.YtfnnafhifpolmaaDoor
