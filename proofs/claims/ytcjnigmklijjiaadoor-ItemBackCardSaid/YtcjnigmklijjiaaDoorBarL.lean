/- The contract of bare.readNumber. -/
import Derived.Test.YtcjnigmklijjiaaDoorBarK
namespace Go.Proofs.YtcjnigmklijjiaaDoor
open Go.RowKit

/-- A number read behind its sign, which is b bytes long. -/
def numTail (b : Nat) (sg : Int) (l : List UInt8) : Option Got :=
  if (ldig (l.drop b)).length = 0 ∨ 15 < (ldig (l.drop b)).length then none
  else if (l.drop (b + (ldig (l.drop b)).length)).head? = some 46 then
    if 12 < (ldig (l.drop b)).length ∨ (ldig (l.drop (b + (ldig (l.drop b)).length + 1))).length = 0 ∨ 3 < (ldig (l.drop (b + (ldig (l.drop b)).length + 1))).length then none
    else some ⟨2, sg * numL (ldig (l.drop b) ++ (ldig (l.drop (b + (ldig (l.drop b)).length + 1)) ++ [48, 48]).take 3), [], b + (ldig (l.drop b)).length + 1 + (ldig (l.drop (b + (ldig (l.drop b)).length + 1))).length⟩
  else some ⟨1, sg * numL (ldig (l.drop b)), [], b + (ldig (l.drop b)).length⟩

def readNumL (l : List UInt8) : Option Got := if l.head? = some 45 then numTail 1 (-1) l else numTail 0 1 l

theorem ldig_all (l : List UInt8) : (ldig l).all (fun c => digI c.toNat) = true := by
  unfold ldig
  rw [List.all_eq_true]
  intro x hx
  exact List.all_eq_true.1 (List.all_takeWhile) x hx

theorem ldig_len_le (l : List UInt8) : (ldig l).length ≤ l.length := takeWhile_len_le _ l

theorem emp_of_size {z : ByteArray} : z.toList.isEmpty = decide (z.size = 0) := by
  rw [Lib.toList_data, Lib.size_eq]
  cases z.data.toList <;> simp

theorem head_at (s : ByteArray) (k : Nat) (h : k < s.size) : (s.data.toList.drop k).head? = some s[k] := by rw [drop_cons_at s k h]; rfl

theorem i64_mul_sign (b : Nat) (sg m : Int) (hb : (b = 0 ∧ sg = 1) ∨ (b = 1 ∧ sg = -1)) (h0 : 0 ≤ m) (h1 : m < 1000000000000000) : -1000000000000000 < sg * m ∧ sg * m < 1000000000000000 := by
  rcases hb with ⟨_, rfl⟩ | ⟨_, rfl⟩ <;> omega

theorem numTail_none {b : Nat} {sg : Int} {l z : List UInt8} (hz : ldig (l.drop b) = z) (h : z.length = 0 ∨ 15 < z.length) : numTail b sg l = none := by
  rw [numTail, hz, if_pos h]
theorem numTail_int {b : Nat} {sg : Int} {l z : List UInt8} (hz : ldig (l.drop b) = z) (h1 : 1 ≤ z.length) (h2 : z.length ≤ 15) (h3 : (l.drop (b + z.length)).head? ≠ some 46) : numTail b sg l = some ⟨1, sg * numL z, [], b + z.length⟩ := by
  rw [numTail, hz, if_neg (by omega), if_neg h3]
theorem numTail_bad {b : Nat} {sg : Int} {l z p : List UInt8} (hz : ldig (l.drop b) = z) (h1 : 1 ≤ z.length) (h2 : z.length ≤ 15) (h3 : (l.drop (b + z.length)).head? = some 46) (hp : ldig (l.drop (b + z.length + 1)) = p) (h : 12 < z.length ∨ p.length = 0 ∨ 3 < p.length) : numTail b sg l = none := by
  rw [numTail, hz, if_neg (by omega), if_pos h3, hp, if_pos h]
theorem numTail_dec {b : Nat} {sg : Int} {l z p : List UInt8} (hz : ldig (l.drop b) = z) (h1 : 1 ≤ z.length) (h2 : z.length ≤ 12) (h3 : (l.drop (b + z.length)).head? = some 46) (hp : ldig (l.drop (b + z.length + 1)) = p) (h4 : 1 ≤ p.length) (h5 : p.length ≤ 3) : numTail b sg l = some ⟨2, sg * numL (z ++ (p ++ [48, 48]).take 3), [], b + z.length + 1 + p.length⟩ := by
  rw [numTail, hz, if_neg (by omega), if_pos h3, hp, if_neg (by omega)]

theorem pad_all (p : List UInt8) (h : p.all (fun c => digI c.toNat) = true) : ((p ++ [48, 48]).take 3).all (fun c => digI c.toNat) = true := by
  rw [List.all_eq_true]
  intro x hx
  have hx2 := List.mem_of_mem_take hx
  rcases List.mem_append.1 hx2 with h1 | h1
  · exact List.all_eq_true.1 h x h1
  · simp at h1; subst h1; decide

set_option maxRecDepth 100000 in
set_option maxHeartbeats 4000000 in
theorem numMain (s : ByteArray) (w : World) (h0 : 0 < s.size) (hs : s.size ≤ 100000) (b : Nat) (sg : Int) (t : ByteArray)
    (hbt : (b = 0 ∧ sg = 1 ∧ t = s ∧ (((s[0]'h0).toNat : Int) == 45) = false) ∨ (b = 1 ∧ sg = -1 ∧ t = s.extract 1 s.size ∧ (((s[0]'h0).toNat : Int) == 45) = true)) :
    Calls Tryd.prog 68 #[.string s] w (gotPost (gotV (numTail b sg s.data.toList)) w) := by
  have cN := fun W => noItem_any W
  have hb0 : Below w.heap.size w (w.alloc zeroBare) := (Below.refl _ _).alloc (Nat.le_refl _) _
  have htl : t.data.toList = s.data.toList.drop b := by
    rcases hbt with ⟨rfl, _, rfl, _⟩ | ⟨rfl, _, rfl, _⟩
    · simp
    · exact Lib.extract_to_end s 1
  have htz : t.size = s.size - b := by rw [Lib.size_eq, htl, List.length_drop, ← Lib.size_eq]
  have cL := fun W => leadingDigits_any t W (by unfold maxLen; omega)
  rw [htl] at cL
  have zall := ldig_all (s.data.toList.drop b)
  have zle := ldig_len_le (s.data.toList.drop b)
  rw [List.length_drop, ← Lib.size_eq] at zle
  have hbs : b ≤ 1 := by rcases hbt with ⟨rfl, _⟩ | ⟨rfl, _⟩ <;> omega
  generalize hz : ldig (s.data.toList.drop b) = z at cL zall zle
  generalize hZe : strB z = Z at cL
  have hZ : Z.size = z.length := by rw [← hZe]; exact strB_size z
  have hZd : Z.data.toList = z := by rw [← hZe]; rfl
  have hemp : Z.toList.isEmpty = decide (Z.size = 0) := emp_of_size
  by_cases hA : z.length = 0
  · rw [numTail_none hz (.inl hA)]
    rw [hZ, hA] at hemp
    simp only [decide_true] at hemp
    clear hz zall hA zle hZ htl htz hbs hZe hZd
    rcases hbt with ⟨rfl, rfl, rfl, hm⟩ | ⟨rfl, rfl, rfl, hm⟩
    all_goals
      go_enter Tryd.func68, Tryd.ntmps68
      go_wp2_with fail
      refine (cL _).mono ?_
      rintro e w1 ⟨rfl, rfl⟩
      go_wp2_with fail
      refine (cN _).mono ?_
      rintro e w2 ⟨rfl, hb2⟩
      obtain ⟨⟨p0, p1, p2⟩, f0, f1, f2⟩ := no_cells w w2 hb2
      have hb3 := hb0.trans (hb2.mono hb0.size)
      clear hb2
      simp only [gotV]
      go_wp2
      exact bodyPost_ret (v := gotV none) (by simp [results, Tryd.results68, go_sem, gotV, p0, p1, p2]) rfl ⟨rfl, ((hb3.setCell (by simp) _).setCell (by simp) _).setCell (by simp) _⟩
  · have hemp2 : Z.toList.isEmpty = false := by rw [hemp, hZ]; simpa using hA
    clear hemp
    by_cases hB : 15 < z.length
    · rw [numTail_none hz (.inr hB)]
      rw [← hZ] at hB
      clear hz zall hA zle hZ htl htz hbs hZe hZd
      rcases hbt with ⟨rfl, rfl, rfl, hm⟩ | ⟨rfl, rfl, rfl, hm⟩
      all_goals
        go_enter Tryd.func68, Tryd.ntmps68
        go_wp2_with fail
        refine (cL _).mono ?_
        rintro e w1 ⟨rfl, rfl⟩
        go_wp2_with fail
        refine (cN _).mono ?_
        rintro e w2 ⟨rfl, hb2⟩
        obtain ⟨⟨p0, p1, p2⟩, f0, f1, f2⟩ := no_cells w w2 hb2
        have hb3 := hb0.trans (hb2.mono hb0.size)
        clear hb2
        simp only [gotV]
        go_wp2
        exact bodyPost_ret (v := gotV none) (by simp [results, Tryd.results68, go_sem, gotV, p0, p1, p2]) rfl ⟨rfl, ((hb3.setCell (by simp) _).setCell (by simp) _).setCell (by simp) _⟩
    · have hz15 : z.length ≤ 15 := by omega
      have hz1 : 1 ≤ z.length := by omega
      obtain ⟨m0, m1⟩ := numL_in z zall hz15
      have cM := fun W => number_any Z W (by omega) (by rw [hZd]; exact zall)
      rw [hZd] at cM
      clear hA hB
      clear hZe
      by_cases hE : b + Z.size < s.size
      · cases hd : (((s[b + Z.size]'hE).toNat : Int) == 46)
        · have h3 : (s.data.toList.drop (b + z.length)).head? ≠ some 46 := by
            rw [← hZ, head_at s _ hE]
            intro e
            rw [Option.some.inj e] at hd
            exact absurd hd (by decide)
          rw [numTail_int hz hz1 hz15 h3]
          clear h3 hz zall hZd
          generalize numL z = m at *
          rw [← hZ] at hz15 hz1 zle ⊢
          clear hZ htl htz
          rcases hbt with ⟨rfl, rfl, ht, hm⟩ | ⟨rfl, rfl, ht, hm⟩
          · subst ht
            simp only [Nat.zero_add, Int.one_mul] at hE hd ⊢
            have q1 : ((Z.size : Int) == (t.size : Int)) = false := by simp; omega
            have q2 : (((t[Z.size]'hE).toNat : Int) != 46) = true := by rw [bne, hd]; rfl
            clear hd
            go_enter Tryd.func68, Tryd.ntmps68
            go_wp2_with fail
            refine (cL _).mono ?_
            rintro e w1 ⟨rfl, rfl⟩
            go_wp2_with fail
            refine (cM _).mono ?_
            rintro e w1 ⟨rfl, rfl⟩
            go_wp2
            exact bodyPost_ret (v := gotV (some ⟨1, m, [], Z.size⟩)) (by simp [results, Tryd.results68, go_sem, gotV, strB]) rfl ⟨rfl, (Below.refl _ _).alloc (Nat.le_refl _) _⟩
          · subst ht
            have q1 : ((1 + (Z.size : Int)) == (s.size : Int)) = false := by simp; omega
            have q2 : (((s[1 + Z.size]'hE).toNat : Int) != 46) = true := by rw [bne, hd]; rfl
            clear hd
            go_enter Tryd.func68, Tryd.ntmps68
            go_wp2_with fail
            refine (cL _).mono ?_
            rintro e w1 ⟨rfl, rfl⟩
            go_wp2_with fail
            refine (cM _).mono ?_
            rintro e w1 ⟨rfl, rfl⟩
            go_wp2
            exact bodyPost_ret (v := gotV (some ⟨1, -1 * m, [], 1 + Z.size⟩)) (by simp [results, Tryd.results68, go_sem, gotV, strB]) rfl ⟨rfl, (Below.refl _ _).alloc (Nat.le_refl _) _⟩
        · have h3 : (s.data.toList.drop (b + z.length)).head? = some 46 := by
            rw [← hZ, head_at s _ hE]
            congr 1
            have := byte_beq (s[b + Z.size]'hE) 46
            rw [show ((46 : UInt8).toNat : Int) = 46 from rfl, hd] at this
            simpa using this.symm
          have hx2 : (s.extract (b + Z.size + 1) s.size).data.toList = s.data.toList.drop (b + z.length + 1) := by rw [Lib.extract_to_end s (b + Z.size + 1), hZ]
          have hx2z : (s.extract (b + Z.size + 1) s.size).size ≤ 100000 := by rw [Lib.size_eq, hx2, List.length_drop, ← Lib.size_eq]; omega
          have cP := fun W => leadingDigits_any (s.extract (b + Z.size + 1) s.size) W (by unfold maxLen; omega)
          rw [hx2] at cP
          have pall := ldig_all (s.data.toList.drop (b + z.length + 1))
          have ple := ldig_len_le (s.data.toList.drop (b + z.length + 1))
          rw [List.length_drop, ← Lib.size_eq] at ple
          generalize hp : ldig (s.data.toList.drop (b + z.length + 1)) = p at cP pall ple
          generalize hPe : strB p = P at cP
          have hP : P.size = p.length := by rw [← hPe]; exact strB_size p
          have hPd : P.data.toList = p := by rw [← hPe]; rfl
          have hPemp : P.toList.isEmpty = decide (P.size = 0) := emp_of_size
          clear hPe hx2 hx2z
          by_cases d1 : 12 < z.length
          · rw [numTail_bad hz hz1 hz15 h3 hp (.inl d1)]
            rw [← hZ] at d1 hz15 hz1 zle
            have q3 : decide (12 < (Z.size : Int)) = true := by simp; omega
            clear hz hp h3 zall pall hZd hPd htl htz ple hP hPemp hZ d1
            rcases hbt with ⟨rfl, rfl, ht, hm⟩ | ⟨rfl, rfl, ht, hm⟩
            · subst ht
              simp only [Nat.zero_add] at hE hd cP ⊢
              have q1 : ((Z.size : Int) == (t.size : Int)) = false := by simp; omega
              have q2 : (((t[Z.size]'hE).toNat : Int) != 46) = false := by rw [bne, hd]; rfl
              clear hd
              go_enter Tryd.func68, Tryd.ntmps68
              go_wp2_with fail
              refine (cL _).mono ?_
              rintro e w1 ⟨rfl, rfl⟩
              go_wp2_with fail
              refine (cP _).mono ?_
              rintro e w1 ⟨rfl, rfl⟩
              go_wp2_with fail
              refine (cN _).mono ?_
              rintro e w2 ⟨rfl, hb2⟩
              obtain ⟨⟨p0, p1, p2⟩, f0, f1, f2⟩ := no_cells w w2 hb2
              have hb3 := hb0.trans (hb2.mono hb0.size)
              clear hb2
              simp only [gotV]
              go_wp2
              exact bodyPost_ret (v := gotV none) (by simp [results, Tryd.results68, go_sem, gotV, p0, p1, p2]) rfl ⟨rfl, ((hb3.setCell (by simp) _).setCell (by simp) _).setCell (by simp) _⟩
            · subst ht
              have q1 : ((1 + (Z.size : Int)) == (s.size : Int)) = false := by simp; omega
              have q2 : (((s[1 + Z.size]'hE).toNat : Int) != 46) = false := by rw [bne, hd]; rfl
              clear hd
              go_enter Tryd.func68, Tryd.ntmps68
              go_wp2_with fail
              refine (cL _).mono ?_
              rintro e w1 ⟨rfl, rfl⟩
              go_wp2_with fail
              refine (cP _).mono ?_
              rintro e w1 ⟨rfl, rfl⟩
              go_wp2_with fail
              refine (cN _).mono ?_
              rintro e w2 ⟨rfl, hb2⟩
              obtain ⟨⟨p0, p1, p2⟩, f0, f1, f2⟩ := no_cells w w2 hb2
              have hb3 := hb0.trans (hb2.mono hb0.size)
              clear hb2
              simp only [gotV]
              go_wp2
              exact bodyPost_ret (v := gotV none) (by simp [results, Tryd.results68, go_sem, gotV, p0, p1, p2]) rfl ⟨rfl, ((hb3.setCell (by simp) _).setCell (by simp) _).setCell (by simp) _⟩
          · have q3 : decide (12 < (Z.size : Int)) = false := by simp; omega
            by_cases d2 : p.length = 0
            · rw [numTail_bad hz hz1 hz15 h3 hp (.inr (.inl d2))]
              rw [hP, d2] at hPemp
              simp only [decide_true] at hPemp
              rw [← hZ] at hz15 hz1 zle
              clear hz hp h3 zall pall hZd hPd htl htz ple hP hZ d1
              rcases hbt with ⟨rfl, rfl, ht, hm⟩ | ⟨rfl, rfl, ht, hm⟩
              · subst ht
                simp only [Nat.zero_add] at hE hd cP ⊢
                have q1 : ((Z.size : Int) == (t.size : Int)) = false := by simp; omega
                have q2 : (((t[Z.size]'hE).toNat : Int) != 46) = false := by rw [bne, hd]; rfl
                clear hd
                go_enter Tryd.func68, Tryd.ntmps68
                go_wp2_with fail
                refine (cL _).mono ?_
                rintro e w1 ⟨rfl, rfl⟩
                go_wp2_with fail
                refine (cP _).mono ?_
                rintro e w1 ⟨rfl, rfl⟩
                go_wp2_with fail
                refine (cN _).mono ?_
                rintro e w2 ⟨rfl, hb2⟩
                obtain ⟨⟨p0, p1, p2⟩, f0, f1, f2⟩ := no_cells w w2 hb2
                have hb3 := hb0.trans (hb2.mono hb0.size)
                clear hb2
                simp only [gotV]
                go_wp2
                exact bodyPost_ret (v := gotV none) (by simp [results, Tryd.results68, go_sem, gotV, p0, p1, p2]) rfl ⟨rfl, ((hb3.setCell (by simp) _).setCell (by simp) _).setCell (by simp) _⟩
              · subst ht
                have q1 : ((1 + (Z.size : Int)) == (s.size : Int)) = false := by simp; omega
                have q2 : (((s[1 + Z.size]'hE).toNat : Int) != 46) = false := by rw [bne, hd]; rfl
                clear hd
                go_enter Tryd.func68, Tryd.ntmps68
                go_wp2_with fail
                refine (cL _).mono ?_
                rintro e w1 ⟨rfl, rfl⟩
                go_wp2_with fail
                refine (cP _).mono ?_
                rintro e w1 ⟨rfl, rfl⟩
                go_wp2_with fail
                refine (cN _).mono ?_
                rintro e w2 ⟨rfl, hb2⟩
                obtain ⟨⟨p0, p1, p2⟩, f0, f1, f2⟩ := no_cells w w2 hb2
                have hb3 := hb0.trans (hb2.mono hb0.size)
                clear hb2
                simp only [gotV]
                go_wp2
                exact bodyPost_ret (v := gotV none) (by simp [results, Tryd.results68, go_sem, gotV, p0, p1, p2]) rfl ⟨rfl, ((hb3.setCell (by simp) _).setCell (by simp) _).setCell (by simp) _⟩
            · have q4 : P.toList.isEmpty = false := by rw [hPemp, hP]; simpa using d2
              clear hPemp
              by_cases d3 : 3 < p.length
              · rw [numTail_bad hz hz1 hz15 h3 hp (.inr (.inr d3))]
                have q5 : decide (3 < (P.size : Int)) = true := by simp; omega
                rw [← hZ] at hz15 hz1 zle
                clear hz hp h3 zall pall hZd hPd htl htz hZ d1
                rcases hbt with ⟨rfl, rfl, ht, hm⟩ | ⟨rfl, rfl, ht, hm⟩
                · subst ht
                  simp only [Nat.zero_add] at hE hd cP ⊢
                  have q1 : ((Z.size : Int) == (t.size : Int)) = false := by simp; omega
                  have q2 : (((t[Z.size]'hE).toNat : Int) != 46) = false := by rw [bne, hd]; rfl
                  clear hd
                  go_enter Tryd.func68, Tryd.ntmps68
                  go_wp2_with fail
                  refine (cL _).mono ?_
                  rintro e w1 ⟨rfl, rfl⟩
                  go_wp2_with fail
                  refine (cP _).mono ?_
                  rintro e w1 ⟨rfl, rfl⟩
                  go_wp2_with fail
                  refine (cN _).mono ?_
                  rintro e w2 ⟨rfl, hb2⟩
                  obtain ⟨⟨p0, p1, p2⟩, f0, f1, f2⟩ := no_cells w w2 hb2
                  have hb3 := hb0.trans (hb2.mono hb0.size)
                  clear hb2
                  simp only [gotV]
                  go_wp2
                  exact bodyPost_ret (v := gotV none) (by simp [results, Tryd.results68, go_sem, gotV, p0, p1, p2]) rfl ⟨rfl, ((hb3.setCell (by simp) _).setCell (by simp) _).setCell (by simp) _⟩
                · subst ht
                  have q1 : ((1 + (Z.size : Int)) == (s.size : Int)) = false := by simp; omega
                  have q2 : (((s[1 + Z.size]'hE).toNat : Int) != 46) = false := by rw [bne, hd]; rfl
                  clear hd
                  go_enter Tryd.func68, Tryd.ntmps68
                  go_wp2_with fail
                  refine (cL _).mono ?_
                  rintro e w1 ⟨rfl, rfl⟩
                  go_wp2_with fail
                  refine (cP _).mono ?_
                  rintro e w1 ⟨rfl, rfl⟩
                  go_wp2_with fail
                  refine (cN _).mono ?_
                  rintro e w2 ⟨rfl, hb2⟩
                  obtain ⟨⟨p0, p1, p2⟩, f0, f1, f2⟩ := no_cells w w2 hb2
                  have hb3 := hb0.trans (hb2.mono hb0.size)
                  clear hb2
                  simp only [gotV]
                  go_wp2
                  exact bodyPost_ret (v := gotV none) (by simp [results, Tryd.results68, go_sem, gotV, p0, p1, p2]) rfl ⟨rfl, ((hb3.setCell (by simp) _).setCell (by simp) _).setCell (by simp) _⟩
              · have q5 : decide (3 < (P.size : Int)) = false := by simp; omega
                rw [numTail_dec hz hz1 (by omega) h3 hp (by omega) (by omega)]
                have hY : (Z ++ (P ++ (⟨#[48, 48]⟩ : ByteArray)).extract 0 3).data.toList = z ++ (p ++ [48, 48]).take 3 := by
                  rw [append_data, extract_take, append_data, hZd, hPd]
                have hYs : (Z ++ (P ++ (⟨#[48, 48]⟩ : ByteArray)).extract 0 3).size ≤ 15 := by
                  rw [Lib.size_eq, hY, List.length_append, List.length_take]; omega
                have yall : (z ++ (p ++ [48, 48]).take 3).all (fun c => digI c.toNat) = true := by
                  rw [List.all_append, zall, pad_all p pall]; rfl
                have cM2 := fun W => number_any (Z ++ (P ++ (⟨#[48, 48]⟩ : ByteArray)).extract 0 3) W hYs (by rw [hY]; exact yall)
                rw [hY] at cM2
                obtain ⟨y0, y1⟩ := numL_in _ yall (by rw [← hY, ← Lib.size_eq]; exact hYs)
                generalize numL (z ++ (p ++ [48, 48]).take 3) = m2 at *
                have hp1 : 1 ≤ P.size := by omega
                have hp3 : P.size ≤ 3 := by omega
                rw [← hZ] at hz15 hz1 zle ⊢
                rw [← hP]
                have hz12 : Z.size ≤ 12 := by omega
                clear hz hp h3 zall pall hZd hPd htl htz hZ d1 d2 d3 hY hYs yall ple hP cM m0 m1 cN
                rcases hbt with ⟨rfl, rfl, ht, hm⟩ | ⟨rfl, rfl, ht, hm⟩
                · subst ht
                  simp only [Nat.zero_add, Int.one_mul] at hE hd cP ⊢
                  have q1 : ((Z.size : Int) == (t.size : Int)) = false := by simp; omega
                  have q2 : (((t[Z.size]'hE).toNat : Int) != 46) = false := by rw [bne, hd]; rfl
                  clear hd
                  go_enter Tryd.func68, Tryd.ntmps68
                  go_wp2_with fail
                  refine (cL _).mono ?_
                  rintro e w1 ⟨rfl, rfl⟩
                  go_wp2_with fail
                  refine (cP _).mono ?_
                  rintro e w1 ⟨rfl, rfl⟩
                  go_wp2_with fail
                  refine (cM2 _).mono ?_
                  rintro e w1 ⟨rfl, rfl⟩
                  go_wp2
                  exact bodyPost_ret (v := gotV (some ⟨2, m2, [], Z.size + 1 + P.size⟩)) (by simp [results, Tryd.results68, go_sem, gotV, strB]) rfl ⟨rfl, (Below.refl _ _).alloc (Nat.le_refl _) _⟩
                · subst ht
                  have q1 : ((1 + (Z.size : Int)) == (s.size : Int)) = false := by simp; omega
                  have q2 : (((s[1 + Z.size]'hE).toNat : Int) != 46) = false := by rw [bne, hd]; rfl
                  clear hd
                  go_enter Tryd.func68, Tryd.ntmps68
                  go_wp2_with fail
                  refine (cL _).mono ?_
                  rintro e w1 ⟨rfl, rfl⟩
                  go_wp2_with fail
                  refine (cP _).mono ?_
                  rintro e w1 ⟨rfl, rfl⟩
                  go_wp2_with fail
                  refine (cM2 _).mono ?_
                  rintro e w1 ⟨rfl, rfl⟩
                  go_wp2
                  exact bodyPost_ret (v := gotV (some ⟨2, -1 * m2, [], 1 + Z.size + 1 + P.size⟩)) (by simp [results, Tryd.results68, go_sem, gotV, strB]) rfl ⟨rfl, (Below.refl _ _).alloc (Nat.le_refl _) _⟩
      · have h3 : (s.data.toList.drop (b + z.length)).head? ≠ some 46 := by
          rw [List.drop_of_length_le (by rw [← Lib.size_eq]; omega)]
          simp
        rw [numTail_int hz hz1 hz15 h3]
        clear h3 hz zall hZd
        generalize numL z = m at *
        rw [← hZ] at hz15 hz1 zle ⊢
        clear hZ htl htz
        rcases hbt with ⟨rfl, rfl, ht, hm⟩ | ⟨rfl, rfl, ht, hm⟩
        · subst ht
          simp only [Nat.zero_add, Int.one_mul] at hE ⊢
          have q1 : ((Z.size : Int) == (t.size : Int)) = true := by simp; omega
          go_enter Tryd.func68, Tryd.ntmps68
          go_wp2_with fail
          refine (cL _).mono ?_
          rintro e w1 ⟨rfl, rfl⟩
          go_wp2_with fail
          refine (cM _).mono ?_
          rintro e w1 ⟨rfl, rfl⟩
          go_wp2
          exact bodyPost_ret (v := gotV (some ⟨1, m, [], Z.size⟩)) (by simp [results, Tryd.results68, go_sem, gotV, strB]) rfl ⟨rfl, (Below.refl _ _).alloc (Nat.le_refl _) _⟩
        · subst ht
          have q1 : ((1 + (Z.size : Int)) == (s.size : Int)) = true := by simp; omega
          go_enter Tryd.func68, Tryd.ntmps68
          go_wp2_with fail
          refine (cL _).mono ?_
          rintro e w1 ⟨rfl, rfl⟩
          go_wp2_with fail
          refine (cM _).mono ?_
          rintro e w1 ⟨rfl, rfl⟩
          go_wp2
          exact bodyPost_ret (v := gotV (some ⟨1, -1 * m, [], 1 + Z.size⟩)) (by simp [results, Tryd.results68, go_sem, gotV, strB]) rfl ⟨rfl, (Below.refl _ _).alloc (Nat.le_refl _) _⟩

theorem readNumber_any (s : ByteArray) (w : World) (h0 : 0 < s.size) (hs : s.size ≤ 100000) :
    Calls Tryd.prog 68 #[.string s] w (gotPost (gotV (readNumL s.data.toList)) w) := by
  have hh : s.data.toList.head? = some (s[0]'h0) := by have := head_at s 0 h0; rwa [List.drop_zero] at this
  have hb : (((s[0]'h0).toNat : Int) == 45) = (s[0]'h0 == 45) := byte_beq _ 45
  cases hm : (((s[0]'h0).toNat : Int) == 45)
  · have hr : readNumL s.data.toList = numTail 0 1 s.data.toList := by
      rw [hm] at hb
      have : ¬ s[0]'h0 = 45 := by simpa using hb.symm
      rw [readNumL, hh, if_neg (by simpa using this)]
    rw [hr]
    exact numMain s w h0 hs 0 1 s (.inl ⟨rfl, rfl, rfl, hm⟩)
  · have hr : readNumL s.data.toList = numTail 1 (-1) s.data.toList := by
      rw [hm] at hb
      have : s[0]'h0 = 45 := by simpa using hb.symm
      rw [readNumL, hh, if_pos (by rw [this])]
    rw [hr]
    exact numMain s w h0 hs 1 (-1) _ (.inr ⟨rfl, rfl, rfl, hm⟩)

end Go.Proofs.YtcjnigmklijjiaaDoor
