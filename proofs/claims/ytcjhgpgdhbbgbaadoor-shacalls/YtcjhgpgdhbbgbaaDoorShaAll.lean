/-
  What the exported functions of package sha, and the methods of a hash, return. Conditions: a hash is one that New made, one of no kind, or none; the table of constants holds what the program's text says; fewer than 10 to the 12 bytes.
-/
import Derived.Test.YtcjhgpgdhbbgbaaDoorShaTold
namespace Go.Proofs.YtcjhgpgdhbbgbaaDoor
open Go.RowKit
set_option linter.unusedVariables false
set_option linter.unusedSimpArgs false

theorem wpList_hBuild {ops : Array Oper} {rest : List Oper} {o : Oper} {a : Act} {w : World} {Q : Exit → Act → World → Prop} (hgd : o.guard = none) (x y : Operand) (ho : o.op = .build 41 #[(0, x), (1, y)])
    (k : Int) (W : List Int) (hW : W.length = 8) (hx : a.eval x = .int .i64 k) (hy : a.eval y = .agg (vk .u32 W))
    (h : wpList Tryd.prog ops Q rest (a.put o.dst (.agg (hv k W (zs 64) 0))) w) : wpList Tryd.prog ops Q (o :: rest) a w := by
  have hb : Tryd.prog.built 41 (#[(0, x), (1, y)].map fun (i, x) => (i, a.eval x)).toList = some (hv k W (zs 64) 0) := by
    simp only [List.map_toArray, List.map_cons, List.map_nil, hx, hy]
    exact hBuilt k W hW
  refine wpList_build hgd _ _ ho (by rw [hb]; rfl) ?_
  rw [hb]
  exact h
theorem ho_nil {w : World} {g : Nat} {k : Int} (h : Hs w g k (fwk k) (zs 64) 0) : Ho w g k [] := h
theorem ho_of {w : World} {g : Nat} {k : Int} {xs : List Int} (h : Hs w g k (wst k xs) (rst xs) (xs.length : Nat)) : Ho w g k xs := h
theorem Ho.later {w w' : World} {g : Nat} {k : Int} {xs : List Int} (h : Ho w g k xs) (hb : Below w.heap.size w w') : Ho w' g k xs := Hs.later h hb
theorem Ho.lt {w : World} {g : Nat} {k : Int} {xs : List Int} (h : Ho w g k xs) : g < w.heap.size := Hs.lt h
theorem Ho.keep {w w' : World} {g : Nat} {k : Int} {xs : List Int} (h : Ho w g k xs) (hb : w'.heap[g]? = w.heap[g]?) : Ho w' g k xs := Hs.keep h hb

set_option maxHeartbeats 400000 in
theorem isMade_nil (w : World) : Calls Tryd.prog 28 #[.pointer none] w fun e w' => e = .returned (.bool false) ∧ w' = w := by
  go_enter Tryd.func28, Tryd.ntmps28
  go_wp2
  go_ret
  exact ⟨rfl, rfl⟩
set_option maxHeartbeats 400000 in
theorem isMade_any (g : Nat) (k : Int) (W R : List Int) (c : Int) (w : World) (h : Hs w g k W R c) (β : Bool) (hβ : decide (k ≠ 0) = β) :
    Calls Tryd.prog 28 #[.pointer (some ⟨g, 0, none⟩)] w fun e w' => e = .returned (.bool β) ∧ w' = w := by
  have kc := h.kind
  clear h
  by_cases hk : k = 0
  · subst hk
    have : β = false := by simpa using hβ.symm
    subst this
    clear hβ
    go_enter Tryd.func28, Tryd.ntmps28
    go_wp2
    go_ret
    exact ⟨rfl, rfl⟩
  · have : β = true := by rw [← hβ]; simpa using hk
    subst this
    clear hβ
    have hk' : (k == 0) = false := by simpa using hk
    have hk2 : (k != 0) = true := by simpa using hk
    go_enter Tryd.func28, Tryd.ntmps28
    go_wp2
    go_ret
    exact ⟨rfl, rfl⟩

set_option maxHeartbeats 2000000 in
theorem sumOf_any (k : Int) (bo : Option Addr) (bn bc : Nat) (bs : List Int) (w : World) (hk : k = 1 ∨ k = 2) (hb : Bs w bo bn bc bs) (hv : Vars w) (hbd : bn ≤ 1000000000000) :
    Calls Tryd.prog 21 #[.int .i64 k, .slice bo bn bc] w fun e w' => OutB w (sumk k bs) e w' := by
  have HK := hide hk
  have HB := hide hb
  have HV := hide hv
  have fc := hide (firstWords_any k w hk)
  clear hk hb hv
  go_enter Tryd.func21, Tryd.ntmps21
  go_wp2_with fail
  refine (unhide fc).mono ?_
  rintro e w1 ⟨rfl, b1⟩
  have B1 := hide b1
  have hs1 := b1.size
  have hsz := (unhide HV).size
  clear b1 fc
  go_wp2_with (first
    | (with_reducible show wpList Tryd.prog _ _ (Oper.mk _ (Op.build 41 _) _ _ _ none :: _) _ _; refine wpList_hBuild rfl (.tmp 6) (.tmp 8) rfl k (fwk k) (fwk_len k) rfl rfl ?_)
    | (with_reducible show wpList Tryd.prog _ _ (Oper.mk _ (Op.alloc 41) _ _ _ none :: _) _ _; refine wpList_hAlloc rfl rfl ?_; intro w2 h2 b2 s2; have S2 := hide s2; clear s2)
    | (with_reducible show wpList Tryd.prog _ _ (Oper.mk _ (Op.store 41 _ _) _ _ _ none :: _) _ _; refine wpList_hStore rfl (.tmp 5) (.tmp 9) rfl w1.heap.size k _ (fwk k) (zs 64) _ _ 0 _ rfl rfl h2 (fwk_len k) (zs_len 64) ?_; intro w3 h3 g3 s3; have H3 := hide (ho_nil h3); have B3 := hide (((unhide B1).trans (b2.mono hs1)).trans ((g3.below (by have := unhide S2; omega)).mono hs1)); clear h2 b2 h3 g3 s3))
  have hlt3 := (unhide H3).lt
  have tk := hide (take_any w1.heap.size k [] bo bn bc bs w3 (unhide H3) (unhide HK) Byt.nil ((unhide HB).later (unhide B3)) ((unhide HB).off hs1) (by omega) ((unhide HV).later hsz (unhide B3)) (by simpa using hbd))
  clear S2 H3
  go_wp2_with fail
  refine (unhide tk).mono ?_
  rintro e w4 ⟨rfl, h4, g4⟩
  rw [List.nil_append] at h4
  have hlt4 := h4.lt
  have hw3 : w1.heap.size < w3.heap.size := hlt3
  have B4 := hide ((unhide B3).trans ((g4.below (by omega)).mono hs1))
  have pc := hide (pad_any w1.heap.size k bs w4 h4 (unhide HK) (unhide HB).byt (by omega) ((unhide HV).later hsz (unhide B4)) (by rw [(unhide HB).len]; exact hbd))
  clear h4 g4 tk
  go_wp2_with fail
  refine (unhide pc).mono ?_
  rintro e w5 ⟨rfl, h5, g5⟩
  have B5 := hide ((unhide B4).trans ((g5.below (by omega)).mono hs1))
  have tc := hide (told_any w1.heap.size k _ _ _ w5 h5 (unhide HK) (wf_wds k _ _))
  have hs5 := (unhide B5).size
  clear h5 g5 pc
  go_wp2_with fail
  refine (unhide tc).mono ?_
  rintro e w6 ⟨ao, n, c, rfl, m6, b6⟩
  have M6 := hide (m6.mono hs5)
  have B6 := hide ((unhide B5).trans (b6.mono hs5))
  clear m6 b6 tc
  go_wp2_with fail
  go_ret
  exact ⟨ao, n, c, rfl, unhide M6, unhide B6⟩

set_option maxHeartbeats 400000 in
theorem sum1_any (bo : Option Addr) (bn bc : Nat) (bs : List Int) (w : World) (hb : Bs w bo bn bc bs) (hv : Vars w) (hbd : bn ≤ 1000000000000) :
    Calls Tryd.prog 10 #[.slice bo bn bc] w fun e w' => OutB w (sumk 1 bs) e w' := by
  have c := hide (sumOf_any 1 bo bn bc bs w (.inl rfl) hb hv hbd)
  clear hb hv hbd
  go_enter Tryd.func10, Tryd.ntmps10
  go_wp2_with fail
  refine (unhide c).mono ?_
  rintro e w6 ⟨ao, n, c, rfl, m6, b6⟩
  go_wp2_with fail
  go_ret
  exact ⟨ao, n, c, rfl, m6, b6⟩
set_option maxHeartbeats 400000 in
theorem sum256_any (bo : Option Addr) (bn bc : Nat) (bs : List Int) (w : World) (hb : Bs w bo bn bc bs) (hv : Vars w) (hbd : bn ≤ 1000000000000) :
    Calls Tryd.prog 11 #[.slice bo bn bc] w fun e w' => OutB w (sumk 2 bs) e w' := by
  have c := hide (sumOf_any 2 bo bn bc bs w (.inr rfl) hb hv hbd)
  clear hb hv hbd
  go_enter Tryd.func11, Tryd.ntmps11
  go_wp2_with fail
  refine (unhide c).mono ?_
  rintro e w6 ⟨ao, n, c, rfl, m6, b6⟩
  go_wp2_with fail
  go_ret
  exact ⟨ao, n, c, rfl, m6, b6⟩

set_option maxHeartbeats 400000 in
theorem new_other (k : Int) (w : World) (h1 : ¬ k = 1) (h2 : ¬ k = 2) :
    Calls Tryd.prog 7 #[.int .i64 k] w fun e w' => e = .returned (.tuple #[.pointer none, .int .i64 2]) ∧ w' = w := by
  have k1 : (k != 1) = true := by simpa using h1
  have k2 : (k != 2) = true := by simpa using h2
  clear h1 h2
  go_enter Tryd.func7, Tryd.ntmps7
  go_wp2
  go_ret2
  exact ⟨rfl, rfl⟩
set_option maxHeartbeats 1000000 in
theorem new_any (k : Int) (w : World) (hk : k = 1 ∨ k = 2) :
    Calls Tryd.prog 7 #[.int .i64 k] w fun e w' => ∃ g, e = .returned (.tuple #[.pointer (some ⟨g, 0, none⟩), .int .i64 0]) ∧ w.heap.size ≤ g ∧ Ho w' g k [] ∧ Below w.heap.size w w' := by
  have fc := hide (firstWords_any k w hk)
  rcases hk with rfl | rfl
  · go_enter Tryd.func7, Tryd.ntmps7
    go_wp2_with fail
    refine (unhide fc).mono ?_
    rintro e w1 ⟨rfl, b1⟩
    have B1 := hide b1
    have hs1 := b1.size
    clear b1 fc
    go_wp2_with (first
      | (with_reducible show wpList Tryd.prog _ _ (Oper.mk _ (Op.build 41 _) _ _ _ none :: _) _ _; refine wpList_hBuild rfl (.tmp 10) (.tmp 12) rfl 1 (fwk 1) (fwk_len 1) rfl rfl ?_)
      | (with_reducible show wpList Tryd.prog _ _ (Oper.mk _ (Op.box 41 _) _ _ _ none :: _) _ _; refine wpList_hBox rfl (.tmp 13) rfl 1 (fwk 1) (zs 64) 0 (fwk_len 1) (zs_len 64) rfl ?_; intro w2 h2 b2 s2; have H2 := hide (ho_nil h2); have B2 := hide ((unhide B1).trans (b2.mono hs1)); clear h2 b2 s2))
    go_ret2
    exact ⟨_, rfl, hs1, unhide H2, unhide B2⟩
  · go_enter Tryd.func7, Tryd.ntmps7
    go_wp2_with fail
    refine (unhide fc).mono ?_
    rintro e w1 ⟨rfl, b1⟩
    have B1 := hide b1
    have hs1 := b1.size
    clear b1 fc
    go_wp2_with (first
      | (with_reducible show wpList Tryd.prog _ _ (Oper.mk _ (Op.build 41 _) _ _ _ none :: _) _ _; refine wpList_hBuild rfl (.tmp 10) (.tmp 12) rfl 2 (fwk 2) (fwk_len 2) rfl rfl ?_)
      | (with_reducible show wpList Tryd.prog _ _ (Oper.mk _ (Op.box 41 _) _ _ _ none :: _) _ _; refine wpList_hBox rfl (.tmp 13) rfl 2 (fwk 2) (zs 64) 0 (fwk_len 2) (zs_len 64) rfl ?_; intro w2 h2 b2 s2; have H2 := hide (ho_nil h2); have B2 := hide ((unhide B1).trans (b2.mono hs1)); clear h2 b2 s2))
    go_ret2
    exact ⟨_, rfl, hs1, unhide H2, unhide B2⟩

theorem kind_on {k : Int} (hk : k = 1 ∨ k = 2) : decide (k ≠ 0) = true := by rcases hk with rfl | rfl <;> rfl

set_option maxHeartbeats 1000000 in
theorem write_any (g : Nat) (k : Int) (xs : List Int) (bo : Option Addr) (bn bc : Nat) (bs : List Int) (w : World) (h : Ho w g k xs) (hk : k = 1 ∨ k = 2) (hxs : Byt xs) (hb : Bs w bo bn bc bs) (hoff : Off bo bn g) (hg : 1 ≤ g) (hv : Vars w) (hbd : xs.length + bn ≤ 1000000000000) :
    Calls Tryd.prog 17 #[.pointer (some ⟨g, 0, none⟩), .slice bo bn bc] w fun e w' => e = .returned (.int .i64 0) ∧ Ho w' g k (xs ++ bs) ∧ Gb g w w' := by
  have ic := hide (isMade_any g k _ _ _ w h true (kind_on hk))
  have tc := hide (take_any g k xs bo bn bc bs w h hk hxs hb hoff hg hv hbd)
  clear h hk hxs hb hoff hv hbd hg
  go_enter Tryd.func17, Tryd.ntmps17
  go_wp2_with fail
  refine same_world (unhide ic) ?_
  go_wp2_with fail
  refine (unhide tc).mono ?_
  rintro e w1 ⟨rfl, h1, g1⟩
  go_wp2_with fail
  go_ret
  exact ⟨rfl, h1, g1⟩
set_option maxHeartbeats 1000000 in
theorem len_any (g : Nat) (k : Int) (xs : List Int) (w : World) (h : Ho w g k xs) (hk : k = 1 ∨ k = 2) :
    Calls Tryd.prog 18 #[.pointer (some ⟨g, 0, none⟩)] w fun e w' => e = .returned (.int .i64 (xs.length : Nat)) ∧ w' = w := by
  have ic := hide (isMade_any g k _ _ _ w h true (kind_on hk))
  have cc := Hs.count h
  clear h hk
  go_enter Tryd.func18, Tryd.ntmps18
  go_wp2_with fail
  refine same_world (unhide ic) ?_
  go_wp2_with fail
  go_ret
  exact ⟨rfl, rfl⟩
set_option maxHeartbeats 1000000 in
theorem sum_any (g : Nat) (k : Int) (xs : List Int) (w : World) (h : Ho w g k xs) (hk : k = 1 ∨ k = 2) (hxs : Byt xs) (hv : Vars w) (hbd : xs.length ≤ 1000000000000) :
    Calls Tryd.prog 19 #[.pointer (some ⟨g, 0, none⟩)] w fun e w' => OutB w (sumk k xs) e w' := by
  have ic := hide (isMade_any g k _ _ _ w h true (kind_on hk))
  have h' : Hs w g k (wst k xs) (rst xs) (xs.length : Nat) := h
  have H := hide h'
  have hlt := h.lt
  have HK := hide hk
  have HX := hide hxs
  have HV := hide hv
  have hsz := hv.size
  clear h h' hk hxs hv
  go_enter Tryd.func19, Tryd.ntmps19
  go_wp2_with fail
  refine same_world (unhide ic) ?_
  go_wp2_with (first
    | (with_reducible show wpList Tryd.prog _ _ (Oper.mk _ (Op.load 41 _) _ _ _ none :: _) _ _; refine wpList_hLoad rfl (.tmp 8) rfl g rfl k _ _ _ (unhide H) ?_)
    | (with_reducible show wpList Tryd.prog _ _ (Oper.mk _ (Op.alloc 41) _ _ _ none :: _) _ _; refine wpList_hAlloc rfl rfl ?_; intro w2 h2 b2 s2; have S2 := hide s2; clear s2)
    | (with_reducible show wpList Tryd.prog _ _ (Oper.mk _ (Op.store 41 _ _) _ _ _ none :: _) _ _; refine wpList_hStore rfl (.tmp 3) (.tmp 9) rfl w.heap.size k _ (wst k xs) (rst xs) _ _ ((xs.length : Nat) : Int) _ rfl rfl h2 (unhide H).wl (unhide H).rl ?_; intro w3 h3 g3 s3; have H3 := hide (ho_of h3); have B3 := hide (b2.trans (g3.below (by have := unhide S2; omega))); clear h2 b2 h3 g3 s3))
  have hlt3 : w.heap.size < w3.heap.size := (unhide H3).lt
  have pc := hide (pad_any w.heap.size k xs w3 (unhide H3) (unhide HK) (unhide HX) hsz ((unhide HV).later hsz (unhide B3)) hbd)
  clear S2 H3 ic
  go_wp2_with fail
  refine (unhide pc).mono ?_
  rintro e w5 ⟨rfl, h5, g5⟩
  have B5 := hide ((unhide B3).trans (g5.below (by omega)))
  have tc := hide (told_any w.heap.size k _ _ _ w5 h5 (unhide HK) (wf_wds k _ _))
  have hs5 := (unhide B5).size
  clear h5 g5 pc
  go_wp2_with fail
  refine (unhide tc).mono ?_
  rintro e w6 ⟨ao, n, c, rfl, m6, b6⟩
  have M6 := hide (m6.mono hs5)
  have B6 := hide ((unhide B5).trans (b6.mono hs5))
  clear m6 b6 tc
  go_wp2_with fail
  go_ret
  exact ⟨ao, n, c, rfl, unhide M6, unhide B6⟩

/-- A hash that is not there, or that nobody made. -/
def Nobody (w : World) (p : Option Addr) : Prop := p = none ∨ ∃ g W R c, p = some ⟨g, 0, none⟩ ∧ Hs w g 0 W R c
theorem isMade_no (p : Option Addr) (w : World) (h : Nobody w p) : Calls Tryd.prog 28 #[.pointer p] w fun e w' => e = .returned (.bool false) ∧ w' = w := by
  rcases h with rfl | ⟨g, W, R, c, rfl, h⟩
  · exact isMade_nil w
  · exact isMade_any g 0 W R c w h false rfl
set_option maxHeartbeats 1000000 in
theorem write_no (p : Option Addr) (b : Value) (w : World) (h : Nobody w p) : Calls Tryd.prog 17 #[.pointer p, b] w fun e w' => e = .returned (.int .i64 1) ∧ w' = w := by
  have ic := hide (isMade_no p w h)
  clear h
  go_enter Tryd.func17, Tryd.ntmps17
  go_wp2_with fail
  refine same_world (unhide ic) ?_
  go_wp2_with fail
  go_ret
  exact ⟨rfl, rfl⟩
set_option maxHeartbeats 1000000 in
theorem len_no (p : Option Addr) (w : World) (h : Nobody w p) : Calls Tryd.prog 18 #[.pointer p] w fun e w' => e = .returned (.int .i64 0) ∧ w' = w := by
  have ic := hide (isMade_no p w h)
  clear h
  go_enter Tryd.func18, Tryd.ntmps18
  go_wp2_with fail
  refine same_world (unhide ic) ?_
  go_wp2_with fail
  go_ret
  exact ⟨rfl, rfl⟩
set_option maxHeartbeats 1000000 in
theorem sum_no (p : Option Addr) (w : World) (h : Nobody w p) : Calls Tryd.prog 19 #[.pointer p] w fun e w' => e = .returned (.slice none 0 0) ∧ w' = w := by
  have ic := hide (isMade_no p w h)
  clear h
  go_enter Tryd.func19, Tryd.ntmps19
  go_wp2_with fail
  refine same_world (unhide ic) ?_
  go_wp2_with fail
  go_ret
  exact ⟨rfl, rfl⟩

end Go.Proofs.YtcjhgpgdhbbgbaaDoor
