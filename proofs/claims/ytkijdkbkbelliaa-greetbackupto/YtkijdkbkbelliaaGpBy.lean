/-
  The bytes of the packets of logins. No memory is named here.
-/
import Derived.Test.YtkijdkbkbelliaaGpMb
namespace Go.Proofs.Ytkijdkbkbelliaa
open Go.RowKit
set_option linter.unusedVariables false
set_option linter.unusedSimpArgs false

def swB (p : Sw) : List Int := [254] ++ (enB p.pl ++ (p.no ++ List.replicate 1 0))
def grB (p : Gr) : List Int := [10] ++ (enB p.ve ++ (le p.th 4 ++ (p.no.take 8 ++ (List.replicate 1 0 ++ (le (p.ca % 65536) 2 ++ (le p.ch 1 ++ (le p.st 2 ++ (le (p.ca / 65536) 2 ++ (le (nsz p.ca) 1 ++ (List.replicate 10 0 ++ (p.no.drop 8 ++ (List.replicate 1 0 ++ plB p.ca p.pl))))))))))))
def rsB (c : Int) (l : List Int) : List Int := if has c 2097152 = true then form (l.length : Int) ++ l else (l.length : Int) :: l
def scB (c : Int) (s : ByteArray) : List Int := if has c 8 = true then enB s else []
def anB (p : An) : List Int := le p.ca 4 ++ (le p.mo 4 ++ (le p.ch 1 ++ (List.replicate 23 0 ++ (enB p.us ++ (rsB p.ca p.re ++ (scB p.ca p.sc ++ (plB p.ca p.pl ++ atB p.ca p.at')))))))
def cuB (c : Int) (p : Cu) : List Int := [17] ++ (enB p.us ++ (((p.re.length : Int) :: p.re) ++ (enB p.sc ++ (le p.ch 2 ++ (plB c p.pl ++ atB c p.at')))))

theorem enB_len (s : ByteArray) : (enB s).length = s.size + 1 := by simp [enB, nums_length]
theorem plB_len (c : Int) (s : ByteArray) : (plB c s).length ≤ s.size + 1 := by unfold plB; split <;> simp [nums_length]
theorem atB_len (c : Int) (l : List At) : (atB c l).length ≤ (aB l).length + 9 := by
  unfold atB
  split
  · have := form_length_le ((aB l).length : Int)
    simp
    omega
  · simp
theorem scB_len (c : Int) (s : ByteArray) : (scB c s).length ≤ s.size + 1 := by unfold scB; split <;> simp [enB_len]
theorem rsB_len (c : Int) (l : List Int) : (rsB c l).length ≤ l.length + 9 := by
  unfold rsB
  split
  · have := form_length_le (l.length : Int)
    simp
    omega
  · simp
theorem and_low {c : Int} (h0 : 0 ≤ c) (h1 : c < 4294967296) : bits .and .u32 c 65535 = c % 65536 := by
  rw [u32_and c 65535 h0 h1 (by omega) (by omega)]
  have e : (65535 : Int).toNat = 2 ^ 16 - 1 := by decide
  rw [e, Nat.and_two_pow_sub_one_eq_mod]
  omega
theorem nsz_bd (c : Int) : 0 ≤ nsz c ∧ nsz c < 256 := by unfold nsz; split <;> omega
theorem mby_pln {c x : Int} {s : ByteArray} (h : mby c x s = true) : pln s = true := by
  unfold mby at h
  split at h
  · exact h
  · have h0 : s.size = 0 := of_decide_eq_true h
    have : nums s = [] := List.eq_nil_of_length_eq_zero (by rw [nums_length]; exact h0)
    unfold pln
    rw [this]
    decide
theorem str_size (l : List Int) : (strOfNums l).size = l.length := by
  rw [show (strOfNums l).size = (strOfNums l).data.toList.length by simp, strOfNums_data]
  simp
/-- Numbers that a greeting, an answer, a change of user may have. -/
structure GrK (p : Gr) : Prop where
  th : 0 ≤ p.th ∧ p.th < 4294967296
  ca : 0 ≤ p.ca ∧ p.ca < 4294967296
  ch : 0 ≤ p.ch ∧ p.ch < 256
  st : 0 ≤ p.st ∧ p.st < 65536
structure AnK (p : An) : Prop where
  ca : 0 ≤ p.ca ∧ p.ca < 4294967296
  mo : 0 ≤ p.mo ∧ p.mo < 4294967296
  ch : 0 ≤ p.ch ∧ p.ch < 256
structure CuK (p : Cu) : Prop where
  ch : 0 ≤ p.ch ∧ p.ch < 65536

end Go.Proofs.Ytkijdkbkbelliaa
