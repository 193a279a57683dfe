/-
  Many functions: each number from 250 to 265, computed by the kernel.
-/
import Derived.Test.YtnnjpegeefoecaaGreatDoorJm31
namespace Go.Proofs.YtnnjpegeefoecaaGreatDoor
set_option linter.unusedVariables false
set_option linter.unusedSimpArgs false

set_option maxRecDepth 1000000 in
theorem mn_250 : mnOK 250 = true := by kernel_rfl
set_option maxRecDepth 1000000 in
theorem mn_251 : mnOK 251 = true := by kernel_rfl
set_option maxRecDepth 1000000 in
theorem mn_252 : mnOK 252 = true := by kernel_rfl
set_option maxRecDepth 1000000 in
theorem mn_253 : mnOK 253 = true := by kernel_rfl
set_option maxRecDepth 1000000 in
theorem mn_254 : mnOK 254 = true := by kernel_rfl
set_option maxRecDepth 1000000 in
theorem mn_255 : mnOK 255 = true := by kernel_rfl
set_option maxRecDepth 1000000 in
theorem mn_256 : mnOK 256 = true := by kernel_rfl
set_option maxRecDepth 1000000 in
theorem mn_257 : mnOK 257 = true := by kernel_rfl
set_option maxRecDepth 1000000 in
theorem mn_258 : mnOK 258 = true := by kernel_rfl
set_option maxRecDepth 1000000 in
theorem mn_259 : mnOK 259 = true := by kernel_rfl
set_option maxRecDepth 1000000 in
theorem mn_260 : mnOK 260 = true := by kernel_rfl
set_option maxRecDepth 1000000 in
theorem mn_261 : mnOK 261 = true := by kernel_rfl
set_option maxRecDepth 1000000 in
theorem mn_262 : mnOK 262 = true := by kernel_rfl
set_option maxRecDepth 1000000 in
theorem mn_263 : mnOK 263 = true := by kernel_rfl
set_option maxRecDepth 1000000 in
theorem mn_264 : mnOK 264 = true := by kernel_rfl
set_option maxRecDepth 1000000 in
theorem mn_265 : mnOK 265 = true := by kernel_rfl
theorem mn_all (i : Nat) (h : i < 16) : mnOK (250 + i) = true := by
  have hc : i = 0 ∨ i = 1 ∨ i = 2 ∨ i = 3 ∨ i = 4 ∨ i = 5 ∨ i = 6 ∨ i = 7 ∨ i = 8 ∨ i = 9 ∨ i = 10 ∨ i = 11 ∨ i = 12 ∨ i = 13 ∨ i = 14 ∨ i = 15 := by omega
  rcases hc with rfl | rfl | rfl | rfl | rfl | rfl | rfl | rfl | rfl | rfl | rfl | rfl | rfl | rfl | rfl | rfl
  · exact mn_250
  · exact mn_251
  · exact mn_252
  · exact mn_253
  · exact mn_254
  · exact mn_255
  · exact mn_256
  · exact mn_257
  · exact mn_258
  · exact mn_259
  · exact mn_260
  · exact mn_261
  · exact mn_262
  · exact mn_263
  · exact mn_264
  · exact mn_265
end Go.Proofs.YtnnjpegeefoecaaGreatDoor
