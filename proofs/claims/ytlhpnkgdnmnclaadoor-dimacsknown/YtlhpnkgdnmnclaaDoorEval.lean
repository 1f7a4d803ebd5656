/- The texts that the statements' own trial names, read and printed. -/
import Derived.Test.YtlhpnkgdnmnclaaDoorPrint
import Derived.Test.YtlhpnkgdnmnclaaDoorVals16
namespace Dim
set_option linter.unusedVariables false
def text1 : List Int := [99, 32, 120, 10, 112, 32, 99, 110, 102, 32, 50, 32, 50, 10, 49, 32, 45, 50, 32, 48, 32, 50, 10, 48, 10]
def text2 : List Int := [112, 32, 99, 110, 102, 32, 50, 32, 49, 10, 51, 32, 48, 10]

theorem lines_one (b l r : List Int) (h : b ≠ []) (h1 : cutL b = l) (h2 : cutR b = r) : lines b = l :: lines r := by rw [lines_cons b h, h1, h2]

theorem head_text1 : headT 0 text1 = ([112, 32, 99, 110, 102, 32, 50, 32, 50], [49, 32, 45, 50, 32, 48, 32, 50, 10, 48, 10], 2) := by
  rw [headT_skip 0 text1 (by decide) (by decide), headT_stop _ _ (by decide) (by decide)]
  decide
theorem head_text2 : headT 0 text2 = ([112, 32, 99, 110, 102, 32, 50, 32, 49], [51, 32, 48, 10], 1) := by
  rw [headT_stop _ _ (by decide) (by decide)]
  decide
theorem lines_text1 : lines [49, 32, 45, 50, 32, 48, 32, 50, 10, 48, 10] = [[49, 32, 45, 50, 32, 48, 32, 50], [48]] := by
  rw [lines_one _ [49, 32, 45, 50, 32, 48, 32, 50] [48, 10] (by decide) (by decide) (by decide), lines_one _ [48] [] (by decide) (by decide) (by decide), lines_nil]
theorem lines_text2 : lines [51, 32, 48, 10] = [[51, 32, 48]] := by
  rw [lines_one _ [51, 32, 48] [] (by decide) (by decide) (by decide), lines_nil]

theorem parse_text1 : parse text1 = ⟨0, 0, 2, [[1, -2], [2]]⟩ := by
  unfold parse
  rw [head_text1]
  simp only [lines_text1]
  rfl
theorem parse_text2 : parse text2 = ⟨22, 2, 0, []⟩ := by
  unfold parse
  rw [head_text2]
  simp only [lines_text2]
  rfl
theorem itoa_0 : Go.Lib.itoa 0 = [48] := (Go.Lib.itoa_nonneg 0).trans (Go.Lib.decDigits_one (by decide))
theorem itoa_1 : Go.Lib.itoa 1 = [49] := (Go.Lib.itoa_nonneg 1).trans (Go.Lib.decDigits_one (by decide))
theorem itoa_2 : Go.Lib.itoa 2 = [50] := (Go.Lib.itoa_nonneg 2).trans (Go.Lib.decDigits_one (by decide))
theorem itoa_n2 : Go.Lib.itoa (-2) = [45, 50] := (Go.Lib.itoa_neg 2 (by decide)).trans (by rw [Go.Lib.decDigits_one (by decide)]; rfl)
theorem print_text1 : printB 2 [[1, -2], [2]] = [112, 32, 99, 110, 102, 32, 50, 32, 50, 10, 49, 32, 45, 50, 32, 48, 10, 50, 32, 48, 10] := by
  simp [printB, headB, clauseB, litB, itoa_1, itoa_2, itoa_n2]
theorem ints_two : valInts [true, false] ++ [0] = [1, -2, 0] := by decide
theorem values_two : valuesB [true, false] = [118, 32, 49, 32, 45, 50, 32, 48, 10] := by
  unfold valuesB
  rw [ints_two]
  simp [pages, putX, putL, itoa_0, itoa_1, itoa_n2]
end Dim
