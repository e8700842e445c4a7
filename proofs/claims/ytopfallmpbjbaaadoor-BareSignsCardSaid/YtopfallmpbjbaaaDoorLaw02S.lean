/- The walk of the law BareSigns. -/
import Derived.Test.YtopfallmpbjbaaaDoorAwake02
import Derived.Test.YtopfallmpbjbaaaDoorBarR
namespace Go.Proofs.YtopfallmpbjbaaaDoor
open Go.RowKit

set_option maxRecDepth 100000 in
set_option maxHeartbeats 4000000 in
theorem signs_walk (p q : List UInt8) (w : World) (hA : Alph w) (hP : Pow w) (hp : p.length ≤ maxLen) (hq : q.length ≤ maxLen) :
    Calls Tryd.prog 5 #[.string (strB p), .string (strB q)] w fun e w' => e = .returned (.bool true) ∧ Below w.heap.size w w' := by
  have cA := awake_any w hA hP
  have HA := Lib.hid hA
  clear hA hP
  unfold maxLen at hp hq
  have hb := strB_size p
  have hs := strB_size q
  by_cases h1 : 300 < p.length
  · have l1 : 300 < (strB p).size := by omega
    clear hb hs
    go_enter Tryd.func5, Tryd.ntmps5
    go_wp2_with (go_at_call 9; refine cA.mono ?_; rintro e w1 ⟨rfl, hb1⟩)
    go_ret
    exact ⟨rfl, hb1⟩
  · by_cases h2 : 300 < q.length
    · have l1 : (strB p).size ≤ 300 := by omega
      have l2 : 300 < (strB q).size := by omega
      clear hb hs
      go_enter Tryd.func5, Tryd.ntmps5
      go_wp2_with (go_at_call 9; refine cA.mono ?_; rintro e w1 ⟨rfl, hb1⟩)
      go_ret
      exact ⟨rfl, hb1⟩
    · have l1 : (strB p).size ≤ 300 := by omega
      have l2 : (strB q).size ≤ 300 := by omega
      have hx : (strB (encL p)).size = ((strB p).size + 2) / 3 * 4 := by rw [strB_size, strB_size, encL_len]
      have cE := fun W hW => encode_any (strB p) W (by omega) hW
      have cD := fun W hW => decode_any (strB (encL p)) W (by omega) hW
      have cD2 := fun W hW => decode_any (strB q) W (by omega) hW
      rw [strB_data] at cE cD cD2
      rw [decL_encL, decV] at cD
      have n1 : ((((strB (encL p)).size : Int)) != (((strB p).size : Int) + 2) / 3 * 4) = false := by
        rw [hx]; simp
      have hlx : (strB (encL p)).size ≤ 2000 := by omega
      clear hb hs hx
      generalize hB : strB p = B at *
      generalize hX : strB (encL p) = X at *
      generalize hS : strB q = S at *
      have HS := Lib.hid hS
      clear hB hX hS
      cases hd : decL q with
      | none =>
        rw [hd, decV] at cD2
        clear hd
        go_enter Tryd.func5, Tryd.ntmps5
        go_wp2_with fail
        refine cA.mono ?_
        rintro e w1 ⟨rfl, hb1⟩
        go_wp2_with fail
        refine (cE _ (HA.out.below hb1)).mono ?_
        rintro e w2 ⟨rfl, hb2⟩
        replace hb2 := hb1.trans (hb2.mono hb1.size)
        clear hb1
        go_wp2_with fail
        refine (cD _ (HA.out.below hb2)).mono ?_
        rintro e w3 ⟨rfl, hb3⟩
        replace hb3 := hb2.trans (hb3.mono hb2.size)
        clear hb2
        go_wp2_with fail
        refine (cD2 _ (HA.out.below hb3)).mono ?_
        rintro e w4 ⟨rfl, hb4⟩
        replace hb4 := hb3.trans (hb4.mono hb3.size)
        clear hb3
        go_wp2_with fail
        go_ret
        exact ⟨rfl, hb4⟩
      | some d =>
        have hed := decL_some q d hd
        have hdl : d.length ≤ 2000 := by
          have := congrArg List.length hed
          rw [encL_len] at this; omega
        have cE2 := fun W hW => encode_any (strB d) W (by rw [strB_size]; omega) hW
        rw [strB_data, hed, HS.out] at cE2
        rw [hd, decV] at cD2
        clear hd hed
        go_enter Tryd.func5, Tryd.ntmps5
        go_wp2_with fail
        refine cA.mono ?_
        rintro e w1 ⟨rfl, hb1⟩
        go_wp2_with fail
        refine (cE _ (HA.out.below hb1)).mono ?_
        rintro e w2 ⟨rfl, hb2⟩
        replace hb2 := hb1.trans (hb2.mono hb1.size)
        clear hb1
        go_wp2_with fail
        refine (cD _ (HA.out.below hb2)).mono ?_
        rintro e w3 ⟨rfl, hb3⟩
        replace hb3 := hb2.trans (hb3.mono hb2.size)
        clear hb2
        go_wp2_with fail
        refine (cD2 _ (HA.out.below hb3)).mono ?_
        rintro e w4 ⟨rfl, hb4⟩
        replace hb4 := hb3.trans (hb4.mono hb3.size)
        clear hb3
        go_wp2_with fail
        refine (cE2 _ (HA.out.below hb4)).mono ?_
        rintro e w5 ⟨rfl, hb5⟩
        replace hb5 := hb4.trans (hb5.mono hb4.size)
        clear hb4
        go_wp2_with fail
        go_ret
        exact ⟨rfl, hb5⟩

end Go.Proofs.YtopfallmpbjbaaaDoor
