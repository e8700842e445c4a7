/- Plain: the rules of fields, and where they stand. · Plain: what the law's awake asks (scullerylaw11). -/
import Derived.Test.YtpifbgefkbhopaaGreatDoorZMMoP
import Derived.Test.YtpifbgefkbhopaaGreatDoorZLgH
import Derived.Test.YtpifbgefkbhopaaGreatDoorZMMbkA
import Derived.Test.YtpifbgefkbhopaaGreatDoorZMItmC

namespace Go.Proofs.YtpifbgefkbhopaaGreatDoor
open Go.RowKit

/-- The name of the targeted field. -/
def nCdn : List UInt8 := [99, 100, 110, 45, 99, 97, 99, 104, 101, 45, 99, 111, 110, 116, 114, 111, 108]
/-- The rules of fields, and where they stand. -/
def chsA (fs : List Fld) : Value :=
  if 0 < (allH fs nCdn).length ∧ (modL (joinH (allH fs nCdn))).isSome = true then .tuple #[rulO (modL (joinH (allH fs nCdn))), .int .i64 2]
  else if 0 < (allH fs nCtl).length then .tuple #[rulV (ctlD fs), .int .i64 1]
  else .tuple #[rulV [], .int .i64 0]

end Go.Proofs.YtpifbgefkbhopaaGreatDoor

namespace Go.Proofs.YtpifbgefkbhopaaGreatDoor
open Go.RowKit

def am1 : List UInt8 := [109, 97, 120, 45, 97, 103, 101, 61, 54, 48, 44, 32, 110, 111, 45, 115, 116, 111, 114, 101, 61, 63, 48, 44, 32, 105, 109, 109, 117, 116, 97, 98, 108, 101, 59, 120]
def am2 : List UInt8 := [109, 97, 120, 45, 97, 103, 101, 61, 54, 48, 44]
def am3 : List UInt8 := [109, 97, 120, 45, 97, 103, 101, 61, 55]
def amF : List Fld := [(nCtl, [109, 97, 120, 45, 97, 103, 101, 61, 53]), (nCdn, [109, 97, 120, 45, 97, 103, 101, 61, 55])]
def amE : List Ent := [⟨nMaxAge, ⟨false, ⟨1, 60, [], []⟩, [], []⟩⟩, ⟨nNoStore, ⟨false, ⟨6, 0, [], []⟩, [], []⟩⟩, ⟨nImmut, ⟨false, ⟨6, 1, [], [⟨[120], 6, 1, []⟩]⟩, [], []⟩⟩]
def am7 : List Ent := [⟨nMaxAge, ⟨false, ⟨1, 7, [], []⟩, [], []⟩⟩]
set_option maxRecDepth 100000 in
theorem am_t1 : dcT amE = some am1 := by kernel_rfl
set_option maxRecDepth 100000 in
theorem am_t3 : dcT am7 = some am3 := by kernel_rfl
theorem am_1 : modL am1 = some amE := modL_yes (dict_back _ _ am_t1) (by decide)
theorem am_3 : modL am3 = some am7 := modL_yes (dict_back _ _ am_t3) (by decide)
theorem am_r1 : rulM amE = .agg #[.bool false, .bool false, .bool false, .bool false, .bool false, .bool false, .bool true, .bool false, .int .i64 60, .int .i64 (-1), .int .i64 (-1), .int .i64 (-1), .int .i64 (-1)] := by rfl
theorem am_r3 : rulM am7 = .agg #[.bool false, .bool false, .bool false, .bool false, .bool false, .bool false, .bool false, .bool false, .int .i64 7, .int .i64 (-1), .int .i64 (-1), .int .i64 (-1), .int .i64 (-1)] := by rfl
theorem am_2 : modL am2 = none := by
  refine modL_none ?_
  have h1 : itmL [54, 48, 44] = some (⟨1, 60, [], 2⟩, [], 2) := by
    rw [itmL, show readL [54, 48, 44] = some ⟨1, 60, [], 2⟩ by kernel_rfl]
    dsimp only
    rw [psL_end _ _ _ (by decide)]
  have hk : klen am2 = 7 := by kernel_rfl
  have hv : valM (am2.drop 7) = some (⟨false, ⟨1, 60, [], []⟩, [], []⟩, [44]) := by
    rw [valM, if_pos (by decide)]
    show memL [54, 48, 44] = _
    rw [memL, if_neg (by decide), h1]
    rfl
  have he : entL am2 = some (⟨nMaxAge, ⟨false, ⟨1, 60, [], []⟩, [], []⟩⟩, [44]) := by
    rw [entL, hk, if_neg (by decide), hv]
    rfl
  have hs : sepL entL am2 = none := by
    rw [sepL, if_neg (by decide)]
    show sepF entL 12 am2 [] = _
    rw [sepF_more entL 11 _ _ _ _ he (by decide) (by decide)]
    exact sepF_none entL 10 _ _ (by rfl)
  rw [dicL, hs]
  rfl
theorem am_f : chsA amF = .tuple #[.agg #[.bool false, .bool false, .bool false, .bool false, .bool false, .bool false, .bool false, .bool false, .int .i64 7, .int .i64 (-1), .int .i64 (-1), .int .i64 (-1), .int .i64 (-1)], .int .i64 2] := by
  have h1 : allH amF nCdn = [am3] := by decide
  rw [chsA, h1, show joinH [am3] = am3 by rfl, am_3, if_pos ⟨by decide, rfl⟩, rulO, am_r3]
theorem am_ok : FldsOk amF ∧ ∀ n, (joinH (allH amF n)).length ≤ 90000 := by
  refine ⟨⟨by decide, by decide⟩, fun n => ?_⟩
  by_cases h1 : nCtl = n
  · by_cases h2 : nCdn = n
    · exact absurd (h2.trans h1.symm) (by decide)
    · rw [show allH amF n = [[109, 97, 120, 45, 97, 103, 101, 61, 53]] by simp [allH, amF, h1, h2]]; decide
  · by_cases h2 : nCdn = n
    · rw [show allH amF n = [[109, 97, 120, 45, 97, 103, 101, 61, 55]] by simp [allH, amF, h1, h2]]; decide
    · rw [show allH amF n = [] by simp [allH, amF, h1, h2]]; decide

end Go.Proofs.YtpifbgefkbhopaaGreatDoor
