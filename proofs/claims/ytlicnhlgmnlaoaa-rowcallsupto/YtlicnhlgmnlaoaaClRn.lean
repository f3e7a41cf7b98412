/-
  The document's own names of types: name and Known. They write nothing that was there. Conditions: none.
-/
import Derived.Test.YtlicnhlgmnlaoaaClNm
namespace Go.Proofs.Ytlicnhlgmnlaoaa
open Go.RowKit
set_option linter.unusedVariables false
set_option linter.unusedSimpArgs false

def n14 : Array Value := #[.string ⟨#[100, 101, 99, 105, 109, 97, 108]⟩, .string ⟨#[116, 105, 110, 121]⟩, .string ⟨#[115, 104, 111, 114, 116]⟩, .string ⟨#[108, 111, 110, 103]⟩, .string ⟨#[102, 108, 111, 97, 116]⟩, .string ⟨#[100, 111, 117, 98, 108, 101]⟩, .string ⟨#[110, 117, 108, 108]⟩, .string ⟨#[116, 105, 109, 101, 115, 116, 97, 109, 112]⟩, .string ⟨#[108, 111, 110, 103, 45, 108, 111, 110, 103]⟩, .string ⟨#[105, 110, 116, 50, 52]⟩, .string ⟨#[100, 97, 116, 101]⟩, .string ⟨#[116, 105, 109, 101]⟩, .string ⟨#[100, 97, 116, 101, 45, 116, 105, 109, 101]⟩, .string ⟨#[121, 101, 97, 114]⟩]
def n11 : Array Value := #[.string ⟨#[106, 115, 111, 110]⟩, .string ⟨#[110, 101, 119, 45, 100, 101, 99, 105, 109, 97, 108]⟩, .string ⟨#[101, 110, 117, 109]⟩, .string ⟨#[115, 101, 116]⟩, .string ⟨#[116, 105, 110, 121, 45, 98, 108, 111, 98]⟩, .string ⟨#[109, 101, 100, 105, 117, 109, 45, 98, 108, 111, 98]⟩, .string ⟨#[108, 111, 110, 103, 45, 98, 108, 111, 98]⟩, .string ⟨#[98, 108, 111, 98]⟩, .string ⟨#[118, 97, 114, 45, 115, 116, 114, 105, 110, 103]⟩, .string ⟨#[115, 116, 114, 105, 110, 103]⟩, .string ⟨#[103, 101, 111, 109, 101, 116, 114, 121]⟩]
theorem knS_mid {k : Int} (h0 : 17 ≤ k) (h1 : k ≤ 244) : knS k = ⟨#[]⟩ := by
  unfold knS
  rw [if_neg (show ¬ k = 0 by omega), if_neg (show ¬ k = 1 by omega), if_neg (show ¬ k = 2 by omega), if_neg (show ¬ k = 3 by omega), if_neg (show ¬ k = 4 by omega), if_neg (show ¬ k = 5 by omega), if_neg (show ¬ k = 6 by omega), if_neg (show ¬ k = 7 by omega), if_neg (show ¬ k = 8 by omega), if_neg (show ¬ k = 9 by omega), if_neg (show ¬ k = 10 by omega), if_neg (show ¬ k = 11 by omega), if_neg (show ¬ k = 12 by omega), if_neg (show ¬ k = 13 by omega), if_neg (show ¬ k = 15 by omega), if_neg (show ¬ k = 16 by omega), if_neg (show ¬ k = 245 by omega), if_neg (show ¬ k = 246 by omega), if_neg (show ¬ k = 247 by omega), if_neg (show ¬ k = 248 by omega), if_neg (show ¬ k = 249 by omega), if_neg (show ¬ k = 250 by omega), if_neg (show ¬ k = 251 by omega), if_neg (show ¬ k = 252 by omega), if_neg (show ¬ k = 253 by omega), if_neg (show ¬ k = 254 by omega), if_neg (show ¬ k = 255 by omega)]
theorem n14_at : ∀ {k : Nat}, k < 14 → n14[k]? = some (.string (knS (k : Int)))
  | 0, _ => rfl
  | 1, _ => rfl
  | 2, _ => rfl
  | 3, _ => rfl
  | 4, _ => rfl
  | 5, _ => rfl
  | 6, _ => rfl
  | 7, _ => rfl
  | 8, _ => rfl
  | 9, _ => rfl
  | 10, _ => rfl
  | 11, _ => rfl
  | 12, _ => rfl
  | 13, _ => rfl
  | k + 14, h => by omega
theorem n11_at : ∀ {k : Nat}, k < 11 → n11[k]? = some (.string (knS ((k : Int) + 245)))
  | 0, _ => rfl
  | 1, _ => rfl
  | 2, _ => rfl
  | 3, _ => rfl
  | 4, _ => rfl
  | 5, _ => rfl
  | 6, _ => rfl
  | 7, _ => rfl
  | 8, _ => rfl
  | 9, _ => rfl
  | 10, _ => rfl
  | k + 11, h => by omega
set_option maxHeartbeats 4000000 in
set_option maxRecDepth 100000 in
theorem name_ref (k : Int) (w : World) (q0 : 0 ≤ k) (q1 : k < 256) : Calls Try.prog 80 #[.int .u8 k] w fun e w' => e = .returned (.string (knS k)) ∧ Below w.heap.size w w' := by
  have b0 := below_alloc w (.cells #[.string ⟨#[100, 101, 99, 105, 109, 97, 108]⟩, .string ⟨#[116, 105, 110, 121]⟩, .string ⟨#[115, 104, 111, 114, 116]⟩, .string ⟨#[108, 111, 110, 103]⟩, .string ⟨#[102, 108, 111, 97, 116]⟩, .string ⟨#[100, 111, 117, 98, 108, 101]⟩, .string ⟨#[110, 117, 108, 108]⟩, .string ⟨#[116, 105, 109, 101, 115, 116, 97, 109, 112]⟩, .string ⟨#[108, 111, 110, 103, 45, 108, 111, 110, 103]⟩, .string ⟨#[105, 110, 116, 50, 52]⟩, .string ⟨#[100, 97, 116, 101]⟩, .string ⟨#[116, 105, 109, 101]⟩, .string ⟨#[100, 97, 116, 101, 45, 116, 105, 109, 101]⟩, .string ⟨#[121, 101, 97, 114]⟩] 9)
  have b1 := b0.trans ((below_alloc (w.alloc (.cells #[.string ⟨#[100, 101, 99, 105, 109, 97, 108]⟩, .string ⟨#[116, 105, 110, 121]⟩, .string ⟨#[115, 104, 111, 114, 116]⟩, .string ⟨#[108, 111, 110, 103]⟩, .string ⟨#[102, 108, 111, 97, 116]⟩, .string ⟨#[100, 111, 117, 98, 108, 101]⟩, .string ⟨#[110, 117, 108, 108]⟩, .string ⟨#[116, 105, 109, 101, 115, 116, 97, 109, 112]⟩, .string ⟨#[108, 111, 110, 103, 45, 108, 111, 110, 103]⟩, .string ⟨#[105, 110, 116, 50, 52]⟩, .string ⟨#[100, 97, 116, 101]⟩, .string ⟨#[116, 105, 109, 101]⟩, .string ⟨#[100, 97, 116, 101, 45, 116, 105, 109, 101]⟩, .string ⟨#[121, 101, 97, 114]⟩] 9)) (.cells #[.string ⟨#[106, 115, 111, 110]⟩, .string ⟨#[110, 101, 119, 45, 100, 101, 99, 105, 109, 97, 108]⟩, .string ⟨#[101, 110, 117, 109]⟩, .string ⟨#[115, 101, 116]⟩, .string ⟨#[116, 105, 110, 121, 45, 98, 108, 111, 98]⟩, .string ⟨#[109, 101, 100, 105, 117, 109, 45, 98, 108, 111, 98]⟩, .string ⟨#[108, 111, 110, 103, 45, 98, 108, 111, 98]⟩, .string ⟨#[98, 108, 111, 98]⟩, .string ⟨#[118, 97, 114, 45, 115, 116, 114, 105, 110, 103]⟩, .string ⟨#[115, 116, 114, 105, 110, 103]⟩, .string ⟨#[103, 101, 111, 109, 101, 116, 114, 121]⟩] 9)).mono (by simp))
  have B0 := hide b0
  have B1 := hide b1
  clear b0 b1
  by_cases h0 : k < 14
  · obtain ⟨K, rfl⟩ := Int.eq_ofNat_of_zero_le q0
    have hK : K < 14 := by omega
    have hc : (w.alloc (.cells #[.string ⟨#[100, 101, 99, 105, 109, 97, 108]⟩, .string ⟨#[116, 105, 110, 121]⟩, .string ⟨#[115, 104, 111, 114, 116]⟩, .string ⟨#[108, 111, 110, 103]⟩, .string ⟨#[102, 108, 111, 97, 116]⟩, .string ⟨#[100, 111, 117, 98, 108, 101]⟩, .string ⟨#[110, 117, 108, 108]⟩, .string ⟨#[116, 105, 109, 101, 115, 116, 97, 109, 112]⟩, .string ⟨#[108, 111, 110, 103, 45, 108, 111, 110, 103]⟩, .string ⟨#[105, 110, 116, 50, 52]⟩, .string ⟨#[100, 97, 116, 101]⟩, .string ⟨#[116, 105, 109, 101]⟩, .string ⟨#[100, 97, 116, 101, 45, 116, 105, 109, 101]⟩, .string ⟨#[121, 101, 97, 114]⟩] 9)).cell? ⟨w.heap.size, K, none⟩ = some (.string (knS (K : Int))) := by rw [cell_top w _ _ K _ rfl]; exact n14_at hK
    generalize knS (K : Int) = R at *
    go_enter Try.func80, Try.ntmps80
    go_wp2_with fail
    go_ret
    exact ⟨rfl, unhide B0⟩
  by_cases h15 : k = 15
  · subst h15
    go_enter Try.func80, Try.ntmps80
    go_wp2_with fail
    go_ret
    exact ⟨rfl, unhide B0⟩
  by_cases h16 : k = 16
  · subst h16
    go_enter Try.func80, Try.ntmps80
    go_wp2_with fail
    go_ret
    exact ⟨rfl, unhide B0⟩
  have g2 : (k == 15) = false := by simpa using h15
  have g3 : (k == 16) = false := by simpa using h16
  by_cases h245 : 245 ≤ k
  · obtain ⟨J, hJ⟩ := Int.eq_ofNat_of_zero_le (show 0 ≤ k - 245 by omega)
    obtain rfl : k = (J : Int) + 245 := by omega
    have hK : J < 11 := by omega
    have hc : ((w.alloc (.cells #[.string ⟨#[100, 101, 99, 105, 109, 97, 108]⟩, .string ⟨#[116, 105, 110, 121]⟩, .string ⟨#[115, 104, 111, 114, 116]⟩, .string ⟨#[108, 111, 110, 103]⟩, .string ⟨#[102, 108, 111, 97, 116]⟩, .string ⟨#[100, 111, 117, 98, 108, 101]⟩, .string ⟨#[110, 117, 108, 108]⟩, .string ⟨#[116, 105, 109, 101, 115, 116, 97, 109, 112]⟩, .string ⟨#[108, 111, 110, 103, 45, 108, 111, 110, 103]⟩, .string ⟨#[105, 110, 116, 50, 52]⟩, .string ⟨#[100, 97, 116, 101]⟩, .string ⟨#[116, 105, 109, 101]⟩, .string ⟨#[100, 97, 116, 101, 45, 116, 105, 109, 101]⟩, .string ⟨#[121, 101, 97, 114]⟩] 9)).alloc (.cells #[.string ⟨#[106, 115, 111, 110]⟩, .string ⟨#[110, 101, 119, 45, 100, 101, 99, 105, 109, 97, 108]⟩, .string ⟨#[101, 110, 117, 109]⟩, .string ⟨#[115, 101, 116]⟩, .string ⟨#[116, 105, 110, 121, 45, 98, 108, 111, 98]⟩, .string ⟨#[109, 101, 100, 105, 117, 109, 45, 98, 108, 111, 98]⟩, .string ⟨#[108, 111, 110, 103, 45, 98, 108, 111, 98]⟩, .string ⟨#[98, 108, 111, 98]⟩, .string ⟨#[118, 97, 114, 45, 115, 116, 114, 105, 110, 103]⟩, .string ⟨#[115, 116, 114, 105, 110, 103]⟩, .string ⟨#[103, 101, 111, 109, 101, 116, 114, 121]⟩] 9)).cell? ⟨w.heap.size + 1, J, none⟩ = some (.string (knS ((J : Int) + 245))) := by rw [cell_top _ _ _ J _ (by simp)]; exact n11_at hK
    generalize knS ((J : Int) + 245) = R at *
    clear hJ h15 h16
    go_enter Try.func80, Try.ntmps80
    go_wp2_with fail
    go_ret
    exact ⟨rfl, unhide B1⟩
  by_cases h14 : k = 14
  · subst h14
    go_enter Try.func80, Try.ntmps80
    go_wp2_with fail
    go_ret
    exact ⟨rfl, unhide B1⟩
  have z0 : 17 ≤ k := by omega
  have z1 : k ≤ 244 := by omega
  rw [knS_mid z0 z1]
  have g1 : ¬ k < 14 := by omega
  have g4 : ¬ (245 : Int) ≤ k := by omega
  clear q0 q1 h0 h15 h16 h245 z0 z1 h14
  go_enter Try.func80, Try.ntmps80
  go_wp2_with fail
  go_ret
  exact ⟨rfl, unhide B1⟩

set_option maxHeartbeats 1000000 in
set_option maxRecDepth 100000 in
theorem known_ref (k : Int) (w : World) (h0 : 0 ≤ k) (h1 : k < 256) : Calls Try.prog 64 #[.int .u8 k] w fun e w' => e = .returned (.bool (kn k)) ∧ Below w.heap.size w w' := by
  have cN := hide (name_ref k w h0 h1)
  have e1 : (knS k).toList.isEmpty = !(kn k) := by
    rw [ba_isEmpty]
    unfold kn
    cases q : decide ((knS k).size = 0)
    · simp at q; simp [q]
    · simp at q; simp [q]
  generalize knS k = R at *
  generalize kn k = B at *
  go_enter Try.func64, Try.ntmps64
  go_wp2_with fail
  refine (unhide cN).mono ?_
  rintro e w1 ⟨rfl, hb⟩
  have HB := hide hb
  clear hb cN
  go_wp2_with fail
  go_ret
  exact ⟨by simp [e1], unhide HB⟩

end Go.Proofs.Ytlicnhlgmnlaoaa
