/-
  Plain mathematics of fronts on rings: all rows of three to six fronts, gone through (slow: its own text).
-/
import Derived.Test.YtdpkacpeednnoaaRA
namespace Go.Proofs.Ytdpkacpeednnoaa
namespace Nt

set_option maxRecDepth 100000 in
theorem rows_step : ∀ n, n < 6 → 3 ≤ n → (rows n).all chkStep = true := by decide +kernel

set_option maxRecDepth 100000 in
theorem rows_end : ∀ n, n < 6 → 3 ≤ n → (rows n).all chkEnd = true := by decide +kernel

set_option maxRecDepth 100000 in
theorem rows_step_mm : ((rows 4).all fun r => chkStep (-1 :: -1 :: r)) = true := by decide +kernel

set_option maxRecDepth 100000 in
theorem rows_step_mz : ((rows 4).all fun r => chkStep (-1 :: 0 :: r)) = true := by decide +kernel

set_option maxRecDepth 100000 in
theorem rows_step_mp : ((rows 4).all fun r => chkStep (-1 :: 1 :: r)) = true := by decide +kernel

set_option maxRecDepth 100000 in
theorem rows_step_zm : ((rows 4).all fun r => chkStep (0 :: -1 :: r)) = true := by decide +kernel

set_option maxRecDepth 100000 in
theorem rows_step_zz : ((rows 4).all fun r => chkStep (0 :: 0 :: r)) = true := by decide +kernel

set_option maxRecDepth 100000 in
theorem rows_step_zp : ((rows 4).all fun r => chkStep (0 :: 1 :: r)) = true := by decide +kernel

set_option maxRecDepth 100000 in
theorem rows_step_pm : ((rows 4).all fun r => chkStep (1 :: -1 :: r)) = true := by decide +kernel

set_option maxRecDepth 100000 in
theorem rows_step_pz : ((rows 4).all fun r => chkStep (1 :: 0 :: r)) = true := by decide +kernel

set_option maxRecDepth 100000 in
theorem rows_step_pp : ((rows 4).all fun r => chkStep (1 :: 1 :: r)) = true := by decide +kernel

set_option maxRecDepth 100000 in
theorem rows_end_mm : ((rows 4).all fun r => chkEnd (-1 :: -1 :: r)) = true := by decide +kernel

set_option maxRecDepth 100000 in
theorem rows_end_mz : ((rows 4).all fun r => chkEnd (-1 :: 0 :: r)) = true := by decide +kernel

set_option maxRecDepth 100000 in
theorem rows_end_mp : ((rows 4).all fun r => chkEnd (-1 :: 1 :: r)) = true := by decide +kernel

set_option maxRecDepth 100000 in
theorem rows_end_zm : ((rows 4).all fun r => chkEnd (0 :: -1 :: r)) = true := by decide +kernel

set_option maxRecDepth 100000 in
theorem rows_end_zz : ((rows 4).all fun r => chkEnd (0 :: 0 :: r)) = true := by decide +kernel

set_option maxRecDepth 100000 in
theorem rows_end_zp : ((rows 4).all fun r => chkEnd (0 :: 1 :: r)) = true := by decide +kernel

set_option maxRecDepth 100000 in
theorem rows_end_pm : ((rows 4).all fun r => chkEnd (1 :: -1 :: r)) = true := by decide +kernel

set_option maxRecDepth 100000 in
theorem rows_end_pz : ((rows 4).all fun r => chkEnd (1 :: 0 :: r)) = true := by decide +kernel

set_option maxRecDepth 100000 in
theorem rows_end_pp : ((rows 4).all fun r => chkEnd (1 :: 1 :: r)) = true := by decide +kernel

theorem three {a : Int} (h1 : -1 ≤ a) (h2 : a ≤ 1) : a = -1 ∨ a = 0 ∨ a = 1 := by omega
theorem fronts_step {fs : List Int} (h : Fr fs) : chkStep fs = true := rows_all rows_step (fun a b a1 a2 b1 b2 => by
  rcases three a1 a2 with rfl | rfl | rfl <;> rcases three b1 b2 with rfl | rfl | rfl
  · exact rows_step_mm
  · exact rows_step_mz
  · exact rows_step_mp
  · exact rows_step_zm
  · exact rows_step_zz
  · exact rows_step_zp
  · exact rows_step_pm
  · exact rows_step_pz
  · exact rows_step_pp) h
theorem fronts_end {fs : List Int} (h : Fr fs) : chkEnd fs = true := rows_all rows_end (fun a b a1 a2 b1 b2 => by
  rcases three a1 a2 with rfl | rfl | rfl <;> rcases three b1 b2 with rfl | rfl | rfl
  · exact rows_end_mm
  · exact rows_end_mz
  · exact rows_end_mp
  · exact rows_end_zm
  · exact rows_end_zz
  · exact rows_end_zp
  · exact rows_end_pm
  · exact rows_end_pz
  · exact rows_end_pp) h

end Nt
end Go.Proofs.Ytdpkacpeednnoaa
