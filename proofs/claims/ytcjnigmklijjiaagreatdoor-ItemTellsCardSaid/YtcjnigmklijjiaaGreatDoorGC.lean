/- The contract of bare.readNumber. · The contract of bare.readString. · The contract of bare.Read. · The cells of a boxed api.Bare, behind whatever was made later. · Plain facts about bare items: digits, base64 there and back. No program is walked. · Plain facts about bare items: what is printed is read, and what is read may be. No program is walked. · Plain facts about bare items: what is read may be, and lies within the text. No program is walked. -/
import Derived.Test.YtcjnigmklijjiaaGreatDoorGB

namespace Go.Proofs.YtcjnigmklijjiaaGreatDoor
open Go.RowKit

/-- A number read behind its sign, which is b bytes long. -/
def numTail (b : Nat) (sg : Int) (l : List UInt8) : Option Got :=
  if (ldig (l.drop b)).length = 0 ∨ 15 < (ldig (l.drop b)).length then none
  else if (l.drop (b + (ldig (l.drop b)).length)).head? = some 46 then
    if 12 < (ldig (l.drop b)).length ∨ (ldig (l.drop (b + (ldig (l.drop b)).length + 1))).length = 0 ∨ 3 < (ldig (l.drop (b + (ldig (l.drop b)).length + 1))).length then none
    else some ⟨2, sg * numL (ldig (l.drop b) ++ (ldig (l.drop (b + (ldig (l.drop b)).length + 1)) ++ [48, 48]).take 3), [], b + (ldig (l.drop b)).length + 1 + (ldig (l.drop (b + (ldig (l.drop b)).length + 1))).length⟩
  else some ⟨1, sg * numL (ldig (l.drop b)), [], b + (ldig (l.drop b)).length⟩

def readNumL (l : List UInt8) : Option Got := if l.head? = some 45 then numTail 1 (-1) l else numTail 0 1 l

theorem ldig_all (l : List UInt8) : (ldig l).all (fun c => digI c.toNat) = true := by
  unfold ldig
  rw [List.all_eq_true]
  intro x hx
  exact List.all_eq_true.1 (List.all_takeWhile) x hx

theorem ldig_len_le (l : List UInt8) : (ldig l).length ≤ l.length := takeWhile_len_le _ l

theorem emp_of_size {z : ByteArray} : z.toList.isEmpty = decide (z.size = 0) := by
  rw [Lib.toList_data, Lib.size_eq]
  cases z.data.toList <;> simp

theorem head_at (s : ByteArray) (k : Nat) (h : k < s.size) : (s.data.toList.drop k).head? = some s[k] := by rw [drop_cons_at s k h]; rfl

theorem i64_mul_sign (b : Nat) (sg m : Int) (hb : (b = 0 ∧ sg = 1) ∨ (b = 1 ∧ sg = -1)) (h0 : 0 ≤ m) (h1 : m < 1000000000000000) : -1000000000000000 < sg * m ∧ sg * m < 1000000000000000 := by
  rcases hb with ⟨_, rfl⟩ | ⟨_, rfl⟩ <;> omega

theorem numTail_none {b : Nat} {sg : Int} {l z : List UInt8} (hz : ldig (l.drop b) = z) (h : z.length = 0 ∨ 15 < z.length) : numTail b sg l = none := by
  rw [numTail, hz, if_pos h]
theorem numTail_int {b : Nat} {sg : Int} {l z : List UInt8} (hz : ldig (l.drop b) = z) (h1 : 1 ≤ z.length) (h2 : z.length ≤ 15) (h3 : (l.drop (b + z.length)).head? ≠ some 46) : numTail b sg l = some ⟨1, sg * numL z, [], b + z.length⟩ := by
  rw [numTail, hz, if_neg (by omega), if_neg h3]
theorem numTail_bad {b : Nat} {sg : Int} {l z p : List UInt8} (hz : ldig (l.drop b) = z) (h1 : 1 ≤ z.length) (h2 : z.length ≤ 15) (h3 : (l.drop (b + z.length)).head? = some 46) (hp : ldig (l.drop (b + z.length + 1)) = p) (h : 12 < z.length ∨ p.length = 0 ∨ 3 < p.length) : numTail b sg l = none := by
  rw [numTail, hz, if_neg (by omega), if_pos h3, hp, if_pos h]
theorem numTail_dec {b : Nat} {sg : Int} {l z p : List UInt8} (hz : ldig (l.drop b) = z) (h1 : 1 ≤ z.length) (h2 : z.length ≤ 12) (h3 : (l.drop (b + z.length)).head? = some 46) (hp : ldig (l.drop (b + z.length + 1)) = p) (h4 : 1 ≤ p.length) (h5 : p.length ≤ 3) : numTail b sg l = some ⟨2, sg * numL (z ++ (p ++ [48, 48]).take 3), [], b + z.length + 1 + p.length⟩ := by
  rw [numTail, hz, if_neg (by omega), if_pos h3, hp, if_neg (by omega)]

theorem pad_all (p : List UInt8) (h : p.all (fun c => digI c.toNat) = true) : ((p ++ [48, 48]).take 3).all (fun c => digI c.toNat) = true := by
  rw [List.all_eq_true]
  intro x hx
  have hx2 := List.mem_of_mem_take hx
  rcases List.mem_append.1 hx2 with h1 | h1
  · exact List.all_eq_true.1 h x h1
  · simp at h1; subst h1; decide

set_option maxRecDepth 100000 in
set_option maxHeartbeats 4000000 in
theorem numMain (s : ByteArray) (w : World) (h0 : 0 < s.size) (hs : s.size ≤ 100000) (b : Nat) (sg : Int) (t : ByteArray)
    (hbt : (b = 0 ∧ sg = 1 ∧ t = s ∧ (((s[0]'h0).toNat : Int) == 45) = false) ∨ (b = 1 ∧ sg = -1 ∧ t = s.extract 1 s.size ∧ (((s[0]'h0).toNat : Int) == 45) = true)) :
    Calls Tryz.prog 141 #[.string s] w (gotPost (gotV (numTail b sg s.data.toList)) w) := by
  have cN := fun W => noItem_any W
  have hb0 : Below w.heap.size w (w.alloc zeroBare) := (Below.refl _ _).alloc (Nat.le_refl _) _
  have htl : t.data.toList = s.data.toList.drop b := by
    rcases hbt with ⟨rfl, _, rfl, _⟩ | ⟨rfl, _, rfl, _⟩
    · simp
    · exact Lib.extract_to_end s 1
  have htz : t.size = s.size - b := by rw [Lib.size_eq, htl, List.length_drop, ← Lib.size_eq]
  have cL := fun W => leadingDigits_any t W (by unfold maxLen; omega)
  rw [htl] at cL
  have zall := ldig_all (s.data.toList.drop b)
  have zle := ldig_len_le (s.data.toList.drop b)
  rw [List.length_drop, ← Lib.size_eq] at zle
  have hbs : b ≤ 1 := by rcases hbt with ⟨rfl, _⟩ | ⟨rfl, _⟩ <;> omega
  generalize hz : ldig (s.data.toList.drop b) = z at cL zall zle
  generalize hZe : strB z = Z at cL
  have hZ : Z.size = z.length := by rw [← hZe]; exact strB_size z
  have hZd : Z.data.toList = z := by rw [← hZe]; rfl
  have hemp : Z.toList.isEmpty = decide (Z.size = 0) := emp_of_size
  by_cases hA : z.length = 0
  · rw [numTail_none hz (.inl hA)]
    rw [hZ, hA] at hemp
    simp only [decide_true] at hemp
    clear hz zall hA zle hZ htl htz hbs hZe hZd
    rcases hbt with ⟨rfl, rfl, rfl, hm⟩ | ⟨rfl, rfl, rfl, hm⟩
    all_goals
      go_enter Tryz.func141, Tryz.ntmps141
      go_wp2_with fail
      refine (cL _).mono ?_
      rintro e w1 ⟨rfl, rfl⟩
      go_wp2_with fail
      refine (cN _).mono ?_
      rintro e w2 ⟨rfl, hb2⟩
      obtain ⟨⟨p0, p1, p2⟩, f0, f1, f2⟩ := no_cells w w2 hb2
      have hb3 := hb0.trans (hb2.mono hb0.size)
      clear hb2
      simp only [gotV]
      go_wp2
      exact bodyPost_ret (v := gotV none) (by simp [results, Tryz.results141, go_sem, gotV, p0, p1, p2]) rfl ⟨rfl, ((hb3.setCell (by simp) _).setCell (by simp) _).setCell (by simp) _⟩
  · have hemp2 : Z.toList.isEmpty = false := by rw [hemp, hZ]; simpa using hA
    clear hemp
    by_cases hB : 15 < z.length
    · rw [numTail_none hz (.inr hB)]
      rw [← hZ] at hB
      clear hz zall hA zle hZ htl htz hbs hZe hZd
      rcases hbt with ⟨rfl, rfl, rfl, hm⟩ | ⟨rfl, rfl, rfl, hm⟩
      all_goals
        go_enter Tryz.func141, Tryz.ntmps141
        go_wp2_with fail
        refine (cL _).mono ?_
        rintro e w1 ⟨rfl, rfl⟩
        go_wp2_with fail
        refine (cN _).mono ?_
        rintro e w2 ⟨rfl, hb2⟩
        obtain ⟨⟨p0, p1, p2⟩, f0, f1, f2⟩ := no_cells w w2 hb2
        have hb3 := hb0.trans (hb2.mono hb0.size)
        clear hb2
        simp only [gotV]
        go_wp2
        exact bodyPost_ret (v := gotV none) (by simp [results, Tryz.results141, go_sem, gotV, p0, p1, p2]) rfl ⟨rfl, ((hb3.setCell (by simp) _).setCell (by simp) _).setCell (by simp) _⟩
    · have hz15 : z.length ≤ 15 := by omega
      have hz1 : 1 ≤ z.length := by omega
      obtain ⟨m0, m1⟩ := numL_in z zall hz15
      have cM := fun W => number_any Z W (by omega) (by rw [hZd]; exact zall)
      rw [hZd] at cM
      clear hA hB
      clear hZe
      by_cases hE : b + Z.size < s.size
      · cases hd : (((s[b + Z.size]'hE).toNat : Int) == 46)
        · have h3 : (s.data.toList.drop (b + z.length)).head? ≠ some 46 := by
            rw [← hZ, head_at s _ hE]
            intro e
            rw [Option.some.inj e] at hd
            exact absurd hd (by decide)
          rw [numTail_int hz hz1 hz15 h3]
          clear h3 hz zall hZd
          generalize numL z = m at *
          rw [← hZ] at hz15 hz1 zle ⊢
          clear hZ htl htz
          rcases hbt with ⟨rfl, rfl, ht, hm⟩ | ⟨rfl, rfl, ht, hm⟩
          · subst ht
            simp only [Nat.zero_add, Int.one_mul] at hE hd ⊢
            have q1 : ((Z.size : Int) == (t.size : Int)) = false := by simp; omega
            have q2 : (((t[Z.size]'hE).toNat : Int) != 46) = true := by rw [bne, hd]; rfl
            clear hd
            go_enter Tryz.func141, Tryz.ntmps141
            go_wp2_with fail
            refine (cL _).mono ?_
            rintro e w1 ⟨rfl, rfl⟩
            go_wp2_with fail
            refine (cM _).mono ?_
            rintro e w1 ⟨rfl, rfl⟩
            go_wp2
            exact bodyPost_ret (v := gotV (some ⟨1, m, [], Z.size⟩)) (by simp [results, Tryz.results141, go_sem, gotV, strB]) rfl ⟨rfl, (Below.refl _ _).alloc (Nat.le_refl _) _⟩
          · subst ht
            have q1 : ((1 + (Z.size : Int)) == (s.size : Int)) = false := by simp; omega
            have q2 : (((s[1 + Z.size]'hE).toNat : Int) != 46) = true := by rw [bne, hd]; rfl
            clear hd
            go_enter Tryz.func141, Tryz.ntmps141
            go_wp2_with fail
            refine (cL _).mono ?_
            rintro e w1 ⟨rfl, rfl⟩
            go_wp2_with fail
            refine (cM _).mono ?_
            rintro e w1 ⟨rfl, rfl⟩
            go_wp2
            exact bodyPost_ret (v := gotV (some ⟨1, -1 * m, [], 1 + Z.size⟩)) (by simp [results, Tryz.results141, go_sem, gotV, strB]) rfl ⟨rfl, (Below.refl _ _).alloc (Nat.le_refl _) _⟩
        · have h3 : (s.data.toList.drop (b + z.length)).head? = some 46 := by
            rw [← hZ, head_at s _ hE]
            congr 1
            have := byte_beq (s[b + Z.size]'hE) 46
            rw [show ((46 : UInt8).toNat : Int) = 46 from rfl, hd] at this
            simpa using this.symm
          have hx2 : (s.extract (b + Z.size + 1) s.size).data.toList = s.data.toList.drop (b + z.length + 1) := by rw [Lib.extract_to_end s (b + Z.size + 1), hZ]
          have hx2z : (s.extract (b + Z.size + 1) s.size).size ≤ 100000 := by rw [Lib.size_eq, hx2, List.length_drop, ← Lib.size_eq]; omega
          have cP := fun W => leadingDigits_any (s.extract (b + Z.size + 1) s.size) W (by unfold maxLen; omega)
          rw [hx2] at cP
          have pall := ldig_all (s.data.toList.drop (b + z.length + 1))
          have ple := ldig_len_le (s.data.toList.drop (b + z.length + 1))
          rw [List.length_drop, ← Lib.size_eq] at ple
          generalize hp : ldig (s.data.toList.drop (b + z.length + 1)) = p at cP pall ple
          generalize hPe : strB p = P at cP
          have hP : P.size = p.length := by rw [← hPe]; exact strB_size p
          have hPd : P.data.toList = p := by rw [← hPe]; rfl
          have hPemp : P.toList.isEmpty = decide (P.size = 0) := emp_of_size
          clear hPe hx2 hx2z
          by_cases d1 : 12 < z.length
          · rw [numTail_bad hz hz1 hz15 h3 hp (.inl d1)]
            rw [← hZ] at d1 hz15 hz1 zle
            have q3 : decide (12 < (Z.size : Int)) = true := by simp; omega
            clear hz hp h3 zall pall hZd hPd htl htz ple hP hPemp hZ d1
            rcases hbt with ⟨rfl, rfl, ht, hm⟩ | ⟨rfl, rfl, ht, hm⟩
            · subst ht
              simp only [Nat.zero_add] at hE hd cP ⊢
              have q1 : ((Z.size : Int) == (t.size : Int)) = false := by simp; omega
              have q2 : (((t[Z.size]'hE).toNat : Int) != 46) = false := by rw [bne, hd]; rfl
              clear hd
              go_enter Tryz.func141, Tryz.ntmps141
              go_wp2_with fail
              refine (cL _).mono ?_
              rintro e w1 ⟨rfl, rfl⟩
              go_wp2_with fail
              refine (cP _).mono ?_
              rintro e w1 ⟨rfl, rfl⟩
              go_wp2_with fail
              refine (cN _).mono ?_
              rintro e w2 ⟨rfl, hb2⟩
              obtain ⟨⟨p0, p1, p2⟩, f0, f1, f2⟩ := no_cells w w2 hb2
              have hb3 := hb0.trans (hb2.mono hb0.size)
              clear hb2
              simp only [gotV]
              go_wp2
              exact bodyPost_ret (v := gotV none) (by simp [results, Tryz.results141, go_sem, gotV, p0, p1, p2]) rfl ⟨rfl, ((hb3.setCell (by simp) _).setCell (by simp) _).setCell (by simp) _⟩
            · subst ht
              have q1 : ((1 + (Z.size : Int)) == (s.size : Int)) = false := by simp; omega
              have q2 : (((s[1 + Z.size]'hE).toNat : Int) != 46) = false := by rw [bne, hd]; rfl
              clear hd
              go_enter Tryz.func141, Tryz.ntmps141
              go_wp2_with fail
              refine (cL _).mono ?_
              rintro e w1 ⟨rfl, rfl⟩
              go_wp2_with fail
              refine (cP _).mono ?_
              rintro e w1 ⟨rfl, rfl⟩
              go_wp2_with fail
              refine (cN _).mono ?_
              rintro e w2 ⟨rfl, hb2⟩
              obtain ⟨⟨p0, p1, p2⟩, f0, f1, f2⟩ := no_cells w w2 hb2
              have hb3 := hb0.trans (hb2.mono hb0.size)
              clear hb2
              simp only [gotV]
              go_wp2
              exact bodyPost_ret (v := gotV none) (by simp [results, Tryz.results141, go_sem, gotV, p0, p1, p2]) rfl ⟨rfl, ((hb3.setCell (by simp) _).setCell (by simp) _).setCell (by simp) _⟩
          · have q3 : decide (12 < (Z.size : Int)) = false := by simp; omega
            by_cases d2 : p.length = 0
            · rw [numTail_bad hz hz1 hz15 h3 hp (.inr (.inl d2))]
              rw [hP, d2] at hPemp
              simp only [decide_true] at hPemp
              rw [← hZ] at hz15 hz1 zle
              clear hz hp h3 zall pall hZd hPd htl htz ple hP hZ d1
              rcases hbt with ⟨rfl, rfl, ht, hm⟩ | ⟨rfl, rfl, ht, hm⟩
              · subst ht
                simp only [Nat.zero_add] at hE hd cP ⊢
                have q1 : ((Z.size : Int) == (t.size : Int)) = false := by simp; omega
                have q2 : (((t[Z.size]'hE).toNat : Int) != 46) = false := by rw [bne, hd]; rfl
                clear hd
                go_enter Tryz.func141, Tryz.ntmps141
                go_wp2_with fail
                refine (cL _).mono ?_
                rintro e w1 ⟨rfl, rfl⟩
                go_wp2_with fail
                refine (cP _).mono ?_
                rintro e w1 ⟨rfl, rfl⟩
                go_wp2_with fail
                refine (cN _).mono ?_
                rintro e w2 ⟨rfl, hb2⟩
                obtain ⟨⟨p0, p1, p2⟩, f0, f1, f2⟩ := no_cells w w2 hb2
                have hb3 := hb0.trans (hb2.mono hb0.size)
                clear hb2
                simp only [gotV]
                go_wp2
                exact bodyPost_ret (v := gotV none) (by simp [results, Tryz.results141, go_sem, gotV, p0, p1, p2]) rfl ⟨rfl, ((hb3.setCell (by simp) _).setCell (by simp) _).setCell (by simp) _⟩
              · subst ht
                have q1 : ((1 + (Z.size : Int)) == (s.size : Int)) = false := by simp; omega
                have q2 : (((s[1 + Z.size]'hE).toNat : Int) != 46) = false := by rw [bne, hd]; rfl
                clear hd
                go_enter Tryz.func141, Tryz.ntmps141
                go_wp2_with fail
                refine (cL _).mono ?_
                rintro e w1 ⟨rfl, rfl⟩
                go_wp2_with fail
                refine (cP _).mono ?_
                rintro e w1 ⟨rfl, rfl⟩
                go_wp2_with fail
                refine (cN _).mono ?_
                rintro e w2 ⟨rfl, hb2⟩
                obtain ⟨⟨p0, p1, p2⟩, f0, f1, f2⟩ := no_cells w w2 hb2
                have hb3 := hb0.trans (hb2.mono hb0.size)
                clear hb2
                simp only [gotV]
                go_wp2
                exact bodyPost_ret (v := gotV none) (by simp [results, Tryz.results141, go_sem, gotV, p0, p1, p2]) rfl ⟨rfl, ((hb3.setCell (by simp) _).setCell (by simp) _).setCell (by simp) _⟩
            · have q4 : P.toList.isEmpty = false := by rw [hPemp, hP]; simpa using d2
              clear hPemp
              by_cases d3 : 3 < p.length
              · rw [numTail_bad hz hz1 hz15 h3 hp (.inr (.inr d3))]
                have q5 : decide (3 < (P.size : Int)) = true := by simp; omega
                rw [← hZ] at hz15 hz1 zle
                clear hz hp h3 zall pall hZd hPd htl htz hZ d1
                rcases hbt with ⟨rfl, rfl, ht, hm⟩ | ⟨rfl, rfl, ht, hm⟩
                · subst ht
                  simp only [Nat.zero_add] at hE hd cP ⊢
                  have q1 : ((Z.size : Int) == (t.size : Int)) = false := by simp; omega
                  have q2 : (((t[Z.size]'hE).toNat : Int) != 46) = false := by rw [bne, hd]; rfl
                  clear hd
                  go_enter Tryz.func141, Tryz.ntmps141
                  go_wp2_with fail
                  refine (cL _).mono ?_
                  rintro e w1 ⟨rfl, rfl⟩
                  go_wp2_with fail
                  refine (cP _).mono ?_
                  rintro e w1 ⟨rfl, rfl⟩
                  go_wp2_with fail
                  refine (cN _).mono ?_
                  rintro e w2 ⟨rfl, hb2⟩
                  obtain ⟨⟨p0, p1, p2⟩, f0, f1, f2⟩ := no_cells w w2 hb2
                  have hb3 := hb0.trans (hb2.mono hb0.size)
                  clear hb2
                  simp only [gotV]
                  go_wp2
                  exact bodyPost_ret (v := gotV none) (by simp [results, Tryz.results141, go_sem, gotV, p0, p1, p2]) rfl ⟨rfl, ((hb3.setCell (by simp) _).setCell (by simp) _).setCell (by simp) _⟩
                · subst ht
                  have q1 : ((1 + (Z.size : Int)) == (s.size : Int)) = false := by simp; omega
                  have q2 : (((s[1 + Z.size]'hE).toNat : Int) != 46) = false := by rw [bne, hd]; rfl
                  clear hd
                  go_enter Tryz.func141, Tryz.ntmps141
                  go_wp2_with fail
                  refine (cL _).mono ?_
                  rintro e w1 ⟨rfl, rfl⟩
                  go_wp2_with fail
                  refine (cP _).mono ?_
                  rintro e w1 ⟨rfl, rfl⟩
                  go_wp2_with fail
                  refine (cN _).mono ?_
                  rintro e w2 ⟨rfl, hb2⟩
                  obtain ⟨⟨p0, p1, p2⟩, f0, f1, f2⟩ := no_cells w w2 hb2
                  have hb3 := hb0.trans (hb2.mono hb0.size)
                  clear hb2
                  simp only [gotV]
                  go_wp2
                  exact bodyPost_ret (v := gotV none) (by simp [results, Tryz.results141, go_sem, gotV, p0, p1, p2]) rfl ⟨rfl, ((hb3.setCell (by simp) _).setCell (by simp) _).setCell (by simp) _⟩
              · have q5 : decide (3 < (P.size : Int)) = false := by simp; omega
                rw [numTail_dec hz hz1 (by omega) h3 hp (by omega) (by omega)]
                have hY : (Z ++ (P ++ (⟨#[48, 48]⟩ : ByteArray)).extract 0 3).data.toList = z ++ (p ++ [48, 48]).take 3 := by
                  rw [append_data, extract_take, append_data, hZd, hPd]
                have hYs : (Z ++ (P ++ (⟨#[48, 48]⟩ : ByteArray)).extract 0 3).size ≤ 15 := by
                  rw [Lib.size_eq, hY, List.length_append, List.length_take]; omega
                have yall : (z ++ (p ++ [48, 48]).take 3).all (fun c => digI c.toNat) = true := by
                  rw [List.all_append, zall, pad_all p pall]; rfl
                have cM2 := fun W => number_any (Z ++ (P ++ (⟨#[48, 48]⟩ : ByteArray)).extract 0 3) W hYs (by rw [hY]; exact yall)
                rw [hY] at cM2
                obtain ⟨y0, y1⟩ := numL_in _ yall (by rw [← hY, ← Lib.size_eq]; exact hYs)
                generalize numL (z ++ (p ++ [48, 48]).take 3) = m2 at *
                have hp1 : 1 ≤ P.size := by omega
                have hp3 : P.size ≤ 3 := by omega
                rw [← hZ] at hz15 hz1 zle ⊢
                rw [← hP]
                have hz12 : Z.size ≤ 12 := by omega
                clear hz hp h3 zall pall hZd hPd htl htz hZ d1 d2 d3 hY hYs yall ple hP cM m0 m1 cN
                rcases hbt with ⟨rfl, rfl, ht, hm⟩ | ⟨rfl, rfl, ht, hm⟩
                · subst ht
                  simp only [Nat.zero_add, Int.one_mul] at hE hd cP ⊢
                  have q1 : ((Z.size : Int) == (t.size : Int)) = false := by simp; omega
                  have q2 : (((t[Z.size]'hE).toNat : Int) != 46) = false := by rw [bne, hd]; rfl
                  clear hd
                  go_enter Tryz.func141, Tryz.ntmps141
                  go_wp2_with fail
                  refine (cL _).mono ?_
                  rintro e w1 ⟨rfl, rfl⟩
                  go_wp2_with fail
                  refine (cP _).mono ?_
                  rintro e w1 ⟨rfl, rfl⟩
                  go_wp2_with fail
                  refine (cM2 _).mono ?_
                  rintro e w1 ⟨rfl, rfl⟩
                  go_wp2
                  exact bodyPost_ret (v := gotV (some ⟨2, m2, [], Z.size + 1 + P.size⟩)) (by simp [results, Tryz.results141, go_sem, gotV, strB]) rfl ⟨rfl, (Below.refl _ _).alloc (Nat.le_refl _) _⟩
                · subst ht
                  have q1 : ((1 + (Z.size : Int)) == (s.size : Int)) = false := by simp; omega
                  have q2 : (((s[1 + Z.size]'hE).toNat : Int) != 46) = false := by rw [bne, hd]; rfl
                  clear hd
                  go_enter Tryz.func141, Tryz.ntmps141
                  go_wp2_with fail
                  refine (cL _).mono ?_
                  rintro e w1 ⟨rfl, rfl⟩
                  go_wp2_with fail
                  refine (cP _).mono ?_
                  rintro e w1 ⟨rfl, rfl⟩
                  go_wp2_with fail
                  refine (cM2 _).mono ?_
                  rintro e w1 ⟨rfl, rfl⟩
                  go_wp2
                  exact bodyPost_ret (v := gotV (some ⟨2, -1 * m2, [], 1 + Z.size + 1 + P.size⟩)) (by simp [results, Tryz.results141, go_sem, gotV, strB]) rfl ⟨rfl, (Below.refl _ _).alloc (Nat.le_refl _) _⟩
      · have h3 : (s.data.toList.drop (b + z.length)).head? ≠ some 46 := by
          rw [List.drop_of_length_le (by rw [← Lib.size_eq]; omega)]
          simp
        rw [numTail_int hz hz1 hz15 h3]
        clear h3 hz zall hZd
        generalize numL z = m at *
        rw [← hZ] at hz15 hz1 zle ⊢
        clear hZ htl htz
        rcases hbt with ⟨rfl, rfl, ht, hm⟩ | ⟨rfl, rfl, ht, hm⟩
        · subst ht
          simp only [Nat.zero_add, Int.one_mul] at hE ⊢
          have q1 : ((Z.size : Int) == (t.size : Int)) = true := by simp; omega
          go_enter Tryz.func141, Tryz.ntmps141
          go_wp2_with fail
          refine (cL _).mono ?_
          rintro e w1 ⟨rfl, rfl⟩
          go_wp2_with fail
          refine (cM _).mono ?_
          rintro e w1 ⟨rfl, rfl⟩
          go_wp2
          exact bodyPost_ret (v := gotV (some ⟨1, m, [], Z.size⟩)) (by simp [results, Tryz.results141, go_sem, gotV, strB]) rfl ⟨rfl, (Below.refl _ _).alloc (Nat.le_refl _) _⟩
        · subst ht
          have q1 : ((1 + (Z.size : Int)) == (s.size : Int)) = true := by simp; omega
          go_enter Tryz.func141, Tryz.ntmps141
          go_wp2_with fail
          refine (cL _).mono ?_
          rintro e w1 ⟨rfl, rfl⟩
          go_wp2_with fail
          refine (cM _).mono ?_
          rintro e w1 ⟨rfl, rfl⟩
          go_wp2
          exact bodyPost_ret (v := gotV (some ⟨1, -1 * m, [], 1 + Z.size⟩)) (by simp [results, Tryz.results141, go_sem, gotV, strB]) rfl ⟨rfl, (Below.refl _ _).alloc (Nat.le_refl _) _⟩

theorem readNumber_any (s : ByteArray) (w : World) (h0 : 0 < s.size) (hs : s.size ≤ 100000) :
    Calls Tryz.prog 141 #[.string s] w (gotPost (gotV (readNumL s.data.toList)) w) := by
  have hh : s.data.toList.head? = some (s[0]'h0) := by have := head_at s 0 h0; rwa [List.drop_zero] at this
  have hb : (((s[0]'h0).toNat : Int) == 45) = (s[0]'h0 == 45) := byte_beq _ 45
  cases hm : (((s[0]'h0).toNat : Int) == 45)
  · have hr : readNumL s.data.toList = numTail 0 1 s.data.toList := by
      rw [hm] at hb
      have : ¬ s[0]'h0 = 45 := by simpa using hb.symm
      rw [readNumL, hh, if_neg (by simpa using this)]
    rw [hr]
    exact numMain s w h0 hs 0 1 s (.inl ⟨rfl, rfl, rfl, hm⟩)
  · have hr : readNumL s.data.toList = numTail 1 (-1) s.data.toList := by
      rw [hm] at hb
      have : s[0]'h0 = 45 := by simpa using hb.symm
      rw [readNumL, hh, if_pos (by rw [this])]
    rw [hr]
    exact numMain s w h0 hs 1 (-1) _ (.inr ⟨rfl, rfl, rfl, hm⟩)

end Go.Proofs.YtcjnigmklijjiaaGreatDoor

namespace Go.Proofs.YtcjnigmklijjiaaGreatDoor
open Go.RowKit

/-- A String from behind its first quote on: what was read of it, what is left, where that stands. -/
def rsL : List UInt8 → List UInt8 → Nat → Option Got
  | [], _, _ => none
  | c :: r, acc, m =>
    if c == 34 then some ⟨3, 0, acc, m + 1⟩
    else if c == 92 then
      match r with
      | [] => none
      | d :: q => if escI d.toNat then rsL q (acc ++ [d]) (m + 2) else none
    else if prI c.toNat then rsL r (acc ++ [c]) (m + 1) else none

def readStrL (l : List UInt8) : Option Got := rsL (l.drop 1) [] 1

theorem rsL_quote (r acc : List UInt8) (m : Nat) : rsL (34 :: r) acc m = some ⟨3, 0, acc, m + 1⟩ := by rw [rsL.eq_def]; rfl
theorem rsL_esc_end (acc : List UInt8) (m : Nat) : rsL [92] acc m = none := by rw [rsL.eq_def]; rfl
theorem rsL_esc (d : UInt8) (r acc : List UInt8) (m : Nat) : rsL (92 :: d :: r) acc m = if escI d.toNat then rsL r (acc ++ [d]) (m + 2) else none := by
  rw [rsL.eq_def]; rfl
theorem rsL_other (c : UInt8) (r acc : List UInt8) (m : Nat) (h1 : c ≠ 34) (h2 : c ≠ 92) : rsL (c :: r) acc m = if prI c.toNat then rsL r (acc ++ [c]) (m + 1) else none := by
  rw [rsL.eq_def]
  dsimp only
  rw [if_neg (by simpa using h1), if_neg (by simpa using h2)]

theorem no_cells2 (w w1 : World) (hb : Below (w.heap.size + 1) (w.alloc zeroBare) w1) : (w1.cell? ⟨w.heap.size, 0, none⟩ = some (.int .i64 0) ∧ w1.cell? ⟨w.heap.size, 1, none⟩ = some (.int .i64 0) ∧ w1.cell? ⟨w.heap.size, 2, none⟩ = some (.string ⟨#[]⟩)) ∧ (w1.frozen? ⟨w.heap.size, 0, none⟩ = false ∧ w1.frozen? ⟨w.heap.size, 1, none⟩ = false ∧ w1.frozen? ⟨w.heap.size, 2, none⟩ = false) :=
  no_cells w w1 (by simpa using hb)

set_option maxRecDepth 100000 in
set_option maxHeartbeats 4000000 in
theorem readString_any (s : ByteArray) (w : World) (h0 : 0 < s.size) (hs : s.size ≤ 100000) :
    Calls Tryz.prog 142 #[.string s] w (gotPost (gotV (readStrL s.data.toList)) w) := by
  obtain ⟨i0, hi, hz0, hz1, hz2⟩ := info_parts info_u8
  have cN := fun W => noItem_any W
  have hb0 : Below w.heap.size w (w.alloc zeroBare) := (Below.refl _ _).alloc (Nat.le_refl _) _
  have Hb0 := Lib.hid hb0
  have Hs0 : Hid ((w.alloc zeroBare).heap.size = w.heap.size + 1) := Lib.hid (by simp)
  clear hb0
  go_enter Tryz.func142, Tryz.ntmps142
  go_wp2
  go_loopw [5, 6] (fun v i wr => ∃ (k : Nat) (acc : List UInt8), i = .int .i64 k ∧ 1 ≤ k ∧ k ≤ s.size ∧ acc.length ≤ k ∧ Hid (readStrL s.data.toList = rsL (s.data.toList.drop k) acc k) ∧ wr.ownsRow (w.heap.size + 1) 5 1 v acc.length (acc.map u8V) ∧ Below (w.heap.size + 1) (w.alloc zeroBare) wr) (fun _ i _ => s.size - (intOf i).toNat)
  case atStart => exact ⟨1, [], rfl, by omega, by omega, by simp, Lib.hid rfl, World.ownsRow_nil _ _ _ _, Below.refl _ _⟩
  case round =>
    obtain ⟨k, acc, rfl, hk1, hk, hal, H, hown, hb⟩ := hrel
    have hsz : w.heap.size + 1 ≤ wr.heap.size := by have := hb.size; rw [Hs0.out] at this; exact this
    by_cases hlt : k < s.size
    · have hdr := drop_cons_at s k hlt
      cases h1 : (((s[k]'hlt).toNat : Int) == 34)
      · have n1 : s[k]'hlt ≠ 34 := by
          intro e; rw [e] at h1; exact absurd h1 (by decide)
        cases h2 : (((s[k]'hlt).toNat : Int) == 92)
        · have n2 : s[k]'hlt ≠ 92 := by
            intro e; rw [e] at h2; exact absurd h2 (by decide)
          rw [hdr, rsL_other _ _ _ _ n1 n2] at H
          have cP := fun W => inString_any ((s[k]'hlt).toNat : Int) W
          cases hp : prI ((s[k]'hlt).toNat : Int)
          · have HR : Hid (readStrL s.data.toList = none) := Lib.hid (by rw [H.out, hp]; rfl)
            rw [hp] at cP
            clear hp hdr n1 n2 H
            go_wp2_with fail
            refine (cP _).mono ?_
            rintro e w1 ⟨rfl, rfl⟩
            go_wp2_with fail
            refine (cN _).mono ?_
            rintro e w2 ⟨rfl, hb2⟩
            have hb3 := hb.trans (hb2.mono hsz)
            obtain ⟨⟨p0, p1, p2⟩, f0, f1, f2⟩ := no_cells2 w w2 hb3
            have hb4 := Hb0.out.trans (hb3.mono (Nat.le_succ _))
            clear hb2 hb3
            simp only [gotV]
            go_wp2
            exact bodyPost_ret (v := gotV none) (by simp [results, Tryz.results142, go_sem, gotV, p0, p1, p2]) rfl ⟨by rw [HR.out], ((hb4.setCell (by simp) _).setCell (by simp) _).setCell (by simp) _⟩
          · have HR : Hid (readStrL s.data.toList = rsL (s.data.toList.drop (k + 1)) (acc ++ [s[k]'hlt]) (k + 1)) := Lib.hid (by rw [H.out, hp]; rfl)
            rw [hp] at cP
            clear hp hdr n1 n2 H
            go_wp2_with (first | (go_at_call 150; refine (cP _).mono ?_; rintro e w' ⟨rfl, rfl⟩) | (at_builtin; refine wpList_append_own _ rfl _ _ 118 rfl (w.heap.size + 1) 5 i0 (.int .u8 0) 1 1 Tryz.underlying118 hi hz0 hz1 hz2 rfl (by decide) _ _ _ rfl (hown.alloc _) ⟨_, 0, none⟩ 1 1 [.int .u8 (s[k].toNat : Int)] rfl rfl (cells_new _ _ _) (by simp [Value.oneCell']) (by unfold maxLen; omega) (by omega) (by simp; omega) ?_; intro v' w2 hown' hgrow _))
            go_roundw
            case rel =>
              refine ⟨k + 1, acc ++ [s[k]], by go_num, by omega, by omega, by simp; omega, Lib.hid HR.out, by simpa [u8V] using hown', ?_⟩
              exact (hb.alloc (by omega) _).grown hgrow (by simp; omega) (fun k e => (World.ownsRow.lt hown k e).1)
            case measure => simp [intOf]; omega
        · have e2 : s[k]'hlt = 92 := by
            have := byte_beq (s[k]'hlt) 92
            rw [show ((92 : UInt8).toNat : Int) = 92 from rfl, h2] at this
            simpa using this.symm
          by_cases hlt2 : k + 1 < s.size
          · rw [hdr, e2, drop_cons_at s (k + 1) hlt2, rsL_esc] at H
            have q1 : (((k : Int) + 1) == (s.size : Int)) = false := by simp; omega
            have cE := fun W => isEscaped_any ((s[k + 1]'hlt2).toNat : Int) W
            cases hp : escI ((s[k + 1]'hlt2).toNat : Int)
            · have HR : Hid (readStrL s.data.toList = none) := Lib.hid (by rw [H.out, hp]; rfl)
              rw [hp] at cE
              clear hp hdr n1 e2 H
              go_wp2_with fail
              refine (cE _).mono ?_
              rintro e w1 ⟨rfl, rfl⟩
              go_wp2_with fail
              refine (cN _).mono ?_
              rintro e w2 ⟨rfl, hb2⟩
              have hb3 := hb.trans (hb2.mono hsz)
              obtain ⟨⟨p0, p1, p2⟩, f0, f1, f2⟩ := no_cells2 w w2 hb3
              have hb4 := Hb0.out.trans (hb3.mono (Nat.le_succ _))
              clear hb2 hb3
              simp only [gotV]
              go_wp2
              exact bodyPost_ret (v := gotV none) (by simp [results, Tryz.results142, go_sem, gotV, p0, p1, p2]) rfl ⟨by rw [HR.out], ((hb4.setCell (by simp) _).setCell (by simp) _).setCell (by simp) _⟩
            · have HR : Hid (readStrL s.data.toList = rsL (s.data.toList.drop (k + 1 + 1)) (acc ++ [s[k + 1]'hlt2]) (k + 2)) := Lib.hid (by rw [H.out, hp]; rfl)
              rw [hp] at cE
              clear hp hdr n1 e2 H
              go_wp2_with (first | (go_at_call 132; refine (cE _).mono ?_; rintro e w' ⟨rfl, rfl⟩) | (at_builtin; refine wpList_append_own _ rfl _ _ 118 rfl (w.heap.size + 1) 5 i0 (.int .u8 0) 1 1 Tryz.underlying118 hi hz0 hz1 hz2 rfl (by decide) _ _ _ rfl (hown.alloc _) ⟨_, 0, none⟩ 1 1 [.int .u8 (s[k + 1].toNat : Int)] rfl rfl (cells_new _ _ _) (by simp [Value.oneCell']) (by unfold maxLen; omega) (by omega) (by simp; omega) ?_; intro v' w2 hown' hgrow _))
              go_roundw
              case rel =>
                refine ⟨k + 2, acc ++ [s[k + 1]], by go_num, by omega, by omega, by simp; omega, Lib.hid HR.out, by simpa [u8V] using hown', ?_⟩
                exact (hb.alloc (by omega) _).grown hgrow (by simp; omega) (fun k e => (World.ownsRow.lt hown k e).1)
              case measure => simp [intOf]; omega
          · have hd1 : s.data.toList.drop (k + 1) = [] := List.drop_of_length_le (by rw [← Lib.size_eq]; omega)
            rw [hdr, e2, hd1, rsL_esc_end] at H
            have q1 : (((k : Int) + 1) == (s.size : Int)) = true := by simp; omega
            clear hdr n1 e2 hd1
            go_wp2_with fail
            refine (cN _).mono ?_
            rintro e w2 ⟨rfl, hb2⟩
            have hb3 := hb.trans (hb2.mono hsz)
            obtain ⟨⟨p0, p1, p2⟩, f0, f1, f2⟩ := no_cells2 w w2 hb3
            have hb4 := Hb0.out.trans (hb3.mono (Nat.le_succ _))
            clear hb2 hb3
            simp only [gotV]
            go_wp2
            exact bodyPost_ret (v := gotV none) (by simp [results, Tryz.results142, go_sem, gotV, p0, p1, p2]) rfl ⟨by rw [H.out], ((hb4.setCell (by simp) _).setCell (by simp) _).setCell (by simp) _⟩
      · have e1 : s[k]'hlt = 34 := by
          have := byte_beq (s[k]'hlt) 34
          rw [show ((34 : UInt8).toNat : Int) = 34 from rfl, h1] at this
          simpa using this.symm
        rw [hdr, e1, rsL_quote] at H
        clear hdr e1
        have hcv := run_owned_str (P := Tryz.prog) Tryz.underlying118 Tryz.underlying5 Tryz.underlying9 hown
        obtain ⟨⟨p0, p1, p2⟩, f0, f1, f2⟩ := no_cells2 w wr hb
        have hb4 := Hb0.out.trans (hb.mono (Nat.le_succ _))
        go_wp2
        exact bodyPost_ret (v := gotV (some ⟨3, 0, acc, k + 1⟩)) (by simp [results, Tryz.results142, go_sem, gotV, p0, p1, p2]) rfl ⟨by rw [H.out], ((hb4.setCell (by simp) _).setCell (by simp) _).setCell (by simp) _⟩
    · have hd1 : s.data.toList.drop k = [] := List.drop_of_length_le (by rw [← Lib.size_eq]; omega)
      rw [hd1, rsL] at H
      clear hd1
      go_wp2_with fail
      refine (cN _).mono ?_
      rintro e w2 ⟨rfl, hb2⟩
      have hb3 := hb.trans (hb2.mono hsz)
      obtain ⟨⟨p0, p1, p2⟩, f0, f1, f2⟩ := no_cells2 w w2 hb3
      have hb4 := Hb0.out.trans (hb3.mono (Nat.le_succ _))
      clear hb2 hb3
      simp only [gotV]
      go_wp2
      exact bodyPost_ret (v := gotV none) (by simp [results, Tryz.results142, go_sem, gotV, p0, p1, p2]) rfl ⟨by rw [H.out], ((hb4.setCell (by simp) _).setCell (by simp) _).setCell (by simp) _⟩

end Go.Proofs.YtcjnigmklijjiaaGreatDoor

namespace Go.Proofs.YtcjnigmklijjiaaGreatDoor
open Go.RowKit

/-- The bare item with which a text begins. -/
def readL (l : List UInt8) : Option Got := match l with
  | [] => none
  | c :: _ =>
    if c == 45 || digI c.toNat then readNumL l
    else if c == 34 then readStrL l
    else if btI c.toNat then some ⟨4, 0, l.take (tlen l), tlen l⟩
    else if c == 58 then readBytesL l
    else if c == 63 then readBoolL l
    else none

theorem gotV_is (o : Option Got) : ∃ (a b : Int) (t : ByteArray) (m e : Int), gotV o = .tuple #[.agg #[.int .i64 a, .int .i64 b, .string t], .int .i64 m, .int .i64 e] := by
  cases o with
  | none => exact ⟨_, _, _, _, _, rfl⟩
  | some g => exact ⟨_, _, _, _, _, rfl⟩

theorem readL_at (s : ByteArray) (h0 : 0 < s.size) : readL s.data.toList = if ((s[0]'h0).toNat : Int) == 45 || digI (s[0]'h0).toNat then readNumL s.data.toList
    else if ((s[0]'h0).toNat : Int) == 34 then readStrL s.data.toList
    else if btI (s[0]'h0).toNat then some ⟨4, 0, s.data.toList.take (tlen s.data.toList), tlen s.data.toList⟩
    else if ((s[0]'h0).toNat : Int) == 58 then readBytesL s.data.toList
    else if ((s[0]'h0).toNat : Int) == 63 then readBoolL s.data.toList
    else none := by
  have hb := fun d => byte_beq (s[0]'h0) d
  have b45 := hb 45
  have b34 := hb 34
  have b58 := hb 58
  have b63 := hb 63
  rw [show ((45 : UInt8).toNat : Int) = 45 from rfl] at b45
  rw [show ((34 : UInt8).toNat : Int) = 34 from rfl] at b34
  rw [show ((58 : UInt8).toNat : Int) = 58 from rfl] at b58
  rw [show ((63 : UInt8).toNat : Int) = 63 from rfl] at b63
  rw [b45, b34, b58, b63]
  have e0 := drop_cons_at s 0 h0
  rw [List.drop_zero] at e0
  generalize hl : s.data.toList = l at *
  rw [e0, readL]

set_option maxRecDepth 100000 in
set_option maxHeartbeats 4000000 in
theorem read_any (s : ByteArray) (w : World) (hs : s.size ≤ 100000) (hA : Alph w) :
    Calls Tryz.prog 119 #[.string s] w (gotPost (gotV (readL s.data.toList)) w) := by
  have HA := Lib.hid hA
  clear hA
  have cN := fun W => noItem_any W
  have hb0 : Below w.heap.size w (w.alloc zeroBare) := (Below.refl _ _).alloc (Nat.le_refl _) _
  by_cases h0 : 0 < s.size
  · have hemp : s.toList.isEmpty = false := by rw [Lib.toList_data]; exact isEmpty_false_of s h0
    have hr := readL_at s h0
    have cD := fun W => isDigit_any ((s[0]'h0).toNat : Int) W
    have cB := fun W => beginsToken_any ((s[0]'h0).toNat : Int) W
    have cM := fun W => readNumber_any s W h0 hs
    have cS := fun W => readString_any s W h0 hs
    have cT := fun W => tokenLength_any s W (by unfold maxLen; omega)
    have cY := fun W hW => readBytes_any s W h0 hs hW
    have cO := fun W => readBoolean_any s W hs
    cases g1 : (((s[0]'h0).toNat : Int) == 45)
    · cases g2 : digI ((s[0]'h0).toNat : Int)
      · rw [g1, g2] at hr
        simp only [Bool.or_false, if_false, Bool.false_eq_true] at hr
        rw [g2] at cD
        cases g3 : (((s[0]'h0).toNat : Int) == 34)
        · rw [g3] at hr
          simp only [Bool.false_eq_true, ite_false] at hr
          cases g4 : btI ((s[0]'h0).toNat : Int)
          · rw [g4] at hr cB
            simp only [Bool.false_eq_true, ite_false] at hr
            cases g5 : (((s[0]'h0).toNat : Int) == 58)
            · rw [g5] at hr
              simp only [Bool.false_eq_true, ite_false] at hr
              cases g6 : (((s[0]'h0).toNat : Int) == 63)
              · rw [g6] at hr
                simp only [Bool.false_eq_true, ite_false] at hr
                rw [hr]
                clear hr g2 g4 cM cS cT cY cO
                go_enter Tryz.func119, Tryz.ntmps119
                go_wp2_with fail
                refine (cD _).mono ?_
                rintro e w1 ⟨rfl, rfl⟩
                go_wp2_with fail
                refine (cB _).mono ?_
                rintro e w1 ⟨rfl, rfl⟩
                go_wp2_with fail
                refine (cN _).mono ?_
                rintro e w2 ⟨rfl, hb2⟩
                obtain ⟨⟨p0, p1, p2⟩, f0, f1, f2⟩ := no_cells w w2 hb2
                have hb3 := hb0.trans (hb2.mono hb0.size)
                clear hb2
                simp only [gotV]
                go_wp2
                exact bodyPost_ret (v := gotV none) (by simp [results, Tryz.results119, go_sem, gotV, p0, p1, p2]) rfl ⟨rfl, ((hb3.setCell (by simp) _).setCell (by simp) _).setCell (by simp) _⟩
              · rw [g6] at hr
                simp only [ite_true] at hr
                rw [hr]
                obtain ⟨a, b, t, m, x, hv⟩ := gotV_is (readBoolL s.data.toList)
                rw [hv] at cO ⊢
                clear hr hv g2 g4 cM cS cT cY cN
                go_enter Tryz.func119, Tryz.ntmps119
                go_wp2_with fail
                refine (cD _).mono ?_
                rintro e w1 ⟨rfl, rfl⟩
                go_wp2_with fail
                refine (cB _).mono ?_
                rintro e w1 ⟨rfl, rfl⟩
                go_wp2_with fail
                refine (cO _).mono ?_
                rintro e w2 ⟨rfl, hb2⟩
                obtain ⟨⟨p0, p1, p2⟩, f0, f1, f2⟩ := no_cells w w2 hb2
                have hb3 := hb0.trans (hb2.mono hb0.size)
                clear hb2
                go_wp2
                exact bodyPost_ret (v := .tuple #[.agg #[.int .i64 a, .int .i64 b, .string t], .int .i64 m, .int .i64 x]) (by simp [results, Tryz.results119, go_sem, p0, p1, p2]) rfl ⟨rfl, ((hb3.setCell (by simp) _).setCell (by simp) _).setCell (by simp) _⟩
            · rw [g5] at hr
              simp only [ite_true] at hr
              rw [hr]
              obtain ⟨a, b, t, m, x, hv⟩ := gotV_is (readBytesL s.data.toList)
              rw [hv] at cY ⊢
              clear hr hv g2 g4 cM cS cT cO cN
              go_enter Tryz.func119, Tryz.ntmps119
              go_wp2_with fail
              refine (cD _).mono ?_
              rintro e w1 ⟨rfl, rfl⟩
              go_wp2_with fail
              refine (cB _).mono ?_
              rintro e w1 ⟨rfl, rfl⟩
              go_wp2_with fail
              refine (cY _ (HA.out.below hb0)).mono ?_
              rintro e w2 ⟨rfl, hb2⟩
              obtain ⟨⟨p0, p1, p2⟩, f0, f1, f2⟩ := no_cells w w2 hb2
              have hb3 := hb0.trans (hb2.mono hb0.size)
              clear hb2
              go_wp2
              exact bodyPost_ret (v := .tuple #[.agg #[.int .i64 a, .int .i64 b, .string t], .int .i64 m, .int .i64 x]) (by simp [results, Tryz.results119, go_sem, p0, p1, p2]) rfl ⟨rfl, ((hb3.setCell (by simp) _).setCell (by simp) _).setCell (by simp) _⟩
          · rw [g4] at hr cB
            simp only [ite_true] at hr
            have hn := tlen_le s.data.toList
            rw [← Lib.size_eq] at hn
            have hx : strB (s.data.toList.take (tlen s.data.toList)) = s.extract 0 (tlen s.data.toList) := by rw [← extract_take, strB_of]
            have HR : Hid (gotV (readL s.data.toList) = .tuple #[.agg #[.int .i64 4, .int .i64 0, .string (s.extract 0 (tlen s.data.toList))], .int .i64 (tlen s.data.toList : Nat), .int .i64 0]) := Lib.hid (by rw [hr, gotV, hx])
            clear hr hx g2 g4 cM cS cY cO cN
            rw [HR.out]
            clear HR
            generalize tlen s.data.toList = n at cT hn
            go_enter Tryz.func119, Tryz.ntmps119
            go_wp2_with fail
            refine (cD _).mono ?_
            rintro e w1 ⟨rfl, rfl⟩
            go_wp2_with fail
            refine (cB _).mono ?_
            rintro e w1 ⟨rfl, rfl⟩
            go_wp2_with fail
            refine (cT _).mono ?_
            rintro e w1 ⟨rfl, rfl⟩
            go_wp2
            exact bodyPost_ret (v := .tuple #[.agg #[.int .i64 4, .int .i64 0, .string (s.extract 0 n)], .int .i64 (n : Int), .int .i64 0]) (by simp [results, Tryz.results119, go_sem]) rfl ⟨rfl, (Below.refl _ _).alloc (Nat.le_refl _) _⟩
        · rw [g3] at hr
          simp only [ite_true] at hr
          rw [hr]
          obtain ⟨a, b, t, m, x, hv⟩ := gotV_is (readStrL s.data.toList)
          rw [hv] at cS ⊢
          clear hr hv g2 cM cB cT cY cO cN
          go_enter Tryz.func119, Tryz.ntmps119
          go_wp2_with fail
          refine (cD _).mono ?_
          rintro e w1 ⟨rfl, rfl⟩
          go_wp2_with fail
          refine (cS _).mono ?_
          rintro e w2 ⟨rfl, hb2⟩
          obtain ⟨⟨p0, p1, p2⟩, f0, f1, f2⟩ := no_cells w w2 hb2
          have hb3 := hb0.trans (hb2.mono hb0.size)
          clear hb2
          go_wp2
          exact bodyPost_ret (v := .tuple #[.agg #[.int .i64 a, .int .i64 b, .string t], .int .i64 m, .int .i64 x]) (by simp [results, Tryz.results119, go_sem, p0, p1, p2]) rfl ⟨rfl, ((hb3.setCell (by simp) _).setCell (by simp) _).setCell (by simp) _⟩
      · rw [g1, g2] at hr
        simp only [Bool.or_true, ite_true] at hr
        rw [g2] at cD
        rw [hr]
        obtain ⟨a, b, t, m, x, hv⟩ := gotV_is (readNumL s.data.toList)
        rw [hv] at cM ⊢
        clear hr hv g2 cS cB cT cY cO cN
        go_enter Tryz.func119, Tryz.ntmps119
        go_wp2_with fail
        refine (cD _).mono ?_
        rintro e w1 ⟨rfl, rfl⟩
        go_wp2_with fail
        refine (cM _).mono ?_
        rintro e w2 ⟨rfl, hb2⟩
        obtain ⟨⟨p0, p1, p2⟩, f0, f1, f2⟩ := no_cells w w2 hb2
        have hb3 := hb0.trans (hb2.mono hb0.size)
        clear hb2
        go_wp2
        exact bodyPost_ret (v := .tuple #[.agg #[.int .i64 a, .int .i64 b, .string t], .int .i64 m, .int .i64 x]) (by simp [results, Tryz.results119, go_sem, p0, p1, p2]) rfl ⟨rfl, ((hb3.setCell (by simp) _).setCell (by simp) _).setCell (by simp) _⟩
    · rw [g1] at hr
      simp only [Bool.true_or, ite_true] at hr
      rw [hr]
      obtain ⟨a, b, t, m, x, hv⟩ := gotV_is (readNumL s.data.toList)
      rw [hv] at cM ⊢
      clear hr hv cD cS cB cT cY cO cN
      go_enter Tryz.func119, Tryz.ntmps119
      go_wp2_with fail
      refine (cM _).mono ?_
      rintro e w2 ⟨rfl, hb2⟩
      obtain ⟨⟨p0, p1, p2⟩, f0, f1, f2⟩ := no_cells w w2 hb2
      have hb3 := hb0.trans (hb2.mono hb0.size)
      clear hb2
      go_wp2
      exact bodyPost_ret (v := .tuple #[.agg #[.int .i64 a, .int .i64 b, .string t], .int .i64 m, .int .i64 x]) (by simp [results, Tryz.results119, go_sem, p0, p1, p2]) rfl ⟨rfl, ((hb3.setCell (by simp) _).setCell (by simp) _).setCell (by simp) _⟩
  · have he : s.data.toList = [] := List.eq_nil_of_length_eq_zero (by rw [← Lib.size_eq]; omega)
    have hemp : s.toList.isEmpty = true := by rw [Lib.toList_data, he]; rfl
    rw [he]
    show Calls _ _ _ _ (gotPost (gotV none) w)
    clear he
    go_enter Tryz.func119, Tryz.ntmps119
    go_wp2_with fail
    refine (cN _).mono ?_
    rintro e w2 ⟨rfl, hb2⟩
    obtain ⟨⟨p0, p1, p2⟩, f0, f1, f2⟩ := no_cells w w2 hb2
    have hb3 := hb0.trans (hb2.mono hb0.size)
    clear hb2
    simp only [gotV]
    go_wp2
    exact bodyPost_ret (v := gotV none) (by simp [results, Tryz.results119, go_sem, gotV, p0, p1, p2]) rfl ⟨rfl, ((hb3.setCell (by simp) _).setCell (by simp) _).setCell (by simp) _⟩

end Go.Proofs.YtcjnigmklijjiaaGreatDoor

namespace Go.Proofs.YtcjnigmklijjiaaGreatDoor
open Go.RowKit

theorem bare_cells (w : World) (a b : Int) (t : ByteArray) (W : World) (hb : Below (w.heap.size + 1) (w.alloc (.cells #[.int .i64 a, .int .i64 b, .string t] 23)) W) :
    (W.cell? ⟨w.heap.size, 0, none⟩ = some (.int .i64 a) ∧ W.cell? ⟨w.heap.size, 1, none⟩ = some (.int .i64 b) ∧ W.cell? ⟨w.heap.size, 2, none⟩ = some (.string t)) := by
  refine ⟨?_, ?_, ?_⟩
  · rw [hb.cell (p := ⟨w.heap.size, 0, none⟩) (by simp)]; simp
  · rw [hb.cell (p := ⟨w.heap.size, 1, none⟩) (by simp)]; simp
  · rw [hb.cell (p := ⟨w.heap.size, 2, none⟩) (by simp)]; simp

end Go.Proofs.YtcjnigmklijjiaaGreatDoor

namespace Go.Proofs.YtcjnigmklijjiaaGreatDoor

theorem digit_nat (i : Nat) (h : i < 10) : (UInt8.ofNat (48 + i)).toNat = 48 + i := by
  rw [UInt8.toNat_ofNat']; omega

theorem digit_digI (i : Nat) (h : i < 10) : digI ((UInt8.ofNat (48 + i)).toNat : Int) = true := by
  rw [digit_nat i h]
  exact (digI_iff _).2 (by omega)

theorem decDigits_all (u : Nat) : (Lib.decDigits u).all (fun c => digI c.toNat) = true := by
  induction u using Nat.strongRecOn with
  | _ u ih =>
    by_cases h : u < 10
    · rw [Lib.decDigits, dif_pos h]
      simp only [List.all_cons, List.all_nil, Bool.and_true]
      exact digit_digI u h
    · rw [Lib.decDigits, dif_neg h, List.all_append, ih _ (by omega)]
      simp only [List.all_cons, List.all_nil, Bool.and_true, Bool.true_and]
      exact digit_digI _ (by omega)

theorem decDigits_num (u : Nat) : numL (Lib.decDigits u) = (u : Int) := by
  induction u using Nat.strongRecOn with
  | _ u ih =>
    by_cases h : u < 10
    · rw [Lib.decDigits, dif_pos h]
      simp only [numL, List.foldl_cons, List.foldl_nil]
      rw [digit_nat u h]; omega
    · rw [Lib.decDigits, dif_neg h, numL_snoc, ih _ (by omega), digit_nat _ (by omega)]
      omega

theorem nDigits_lt : ∀ (k u : Nat), 1 ≤ k → u < 10 ^ k → Lib.nDigits u ≤ k
  | 0, _, h, _ => absurd h (by omega)
  | k + 1, u, _, h => by
    by_cases h1 : u < 10
    · rw [Lib.nDigits_small h1]; omega
    · rw [Lib.nDigits_big h1]
      rcases Nat.eq_zero_or_pos k with rfl | hk
      · exact absurd h (by omega)
      · have := nDigits_lt k (u / 10) hk (by rw [Nat.pow_succ] at h; omega)
        omega

theorem decDigits_15 (u : Nat) (h : u < 1000000000000000) : (Lib.decDigits u).length ≤ 15 := by
  rw [Lib.decDigits_length]; exact nDigits_lt 15 u (by omega) h
theorem decDigits_12 (u : Nat) (h : u < 1000000000000) : (Lib.decDigits u).length ≤ 12 := by
  rw [Lib.decDigits_length]; exact nDigits_lt 12 u (by omega) h
theorem decDigits_1 (u : Nat) : 1 ≤ (Lib.decDigits u).length := by
  rw [Lib.decDigits_length]; exact Lib.nDigits_pos u

theorem numL_zeros (z : Nat) (l : List UInt8) : numL (List.replicate z 48 ++ l) = numL l := by
  induction z with
  | zero => rfl
  | succ z ih =>
    rw [List.replicate_succ, List.cons_append]
    unfold numL at ih ⊢
    rw [List.foldl_cons]
    exact ih

theorem numL_three (z : List UInt8) (a b c : UInt8) : numL (z ++ [a, b, c]) = 1000 * numL z + 100 * ((a.toNat : Int) - 48) + 10 * ((b.toNat : Int) - 48) + ((c.toNat : Int) - 48) := by
  simp only [numL, List.foldl_append, List.foldl_cons, List.foldl_nil]
  omega

/-- What may stand behind a value: nothing, or a byte that no token has. -/
def ends : List UInt8 → Bool
  | [] => true
  | c :: _ => !ttI c.toNat

theorem digit_tt (c : UInt8) : (!digI c.toNat || ttI c.toNat) = true := all_bytes (fun c => !digI c.toNat || ttI c.toNat) (by decide +kernel) c

theorem ldig_ends (t : List UInt8) (h : ends t = true) : ldig t = [] := by
  cases t with
  | nil => rfl
  | cons c t =>
    have := digit_tt c
    simp only [ends, Bool.not_eq_true'] at h
    rw [h, Bool.or_false, Bool.not_eq_true'] at this
    rw [ldig, List.takeWhile_cons, this]; rfl

theorem takeWhile_all (p : UInt8 → Bool) : ∀ (z t : List UInt8), z.all p = true → (z ++ t).takeWhile p = z ++ t.takeWhile p
  | [], _, _ => rfl
  | c :: z, t, h => by
    rw [List.all_cons, Bool.and_eq_true] at h
    rw [List.cons_append, List.takeWhile_cons, h.1, takeWhile_all p z t h.2]; rfl

theorem ldig_app (z t : List UInt8) (h : z.all (fun c => digI c.toNat) = true) (ht : ldig t = []) : ldig (z ++ t) = z := by
  rw [ldig, takeWhile_all _ _ _ h]
  rw [ldig] at ht
  rw [ht, List.append_nil]

theorem ends_not46 (t : List UInt8) (h : ends t = true) : t.head? ≠ some 46 := by
  cases t with
  | nil => simp
  | cons c t =>
    intro e
    simp only [List.head?_cons, Option.some.injEq] at e
    subst e
    exact absurd h (by rw [ends]; decide)

theorem numTail_of (b : Nat) (sg : Int) (l z t : List UInt8) (hd : l.drop b = z ++ t) (hz : z.all (fun c => digI c.toNat) = true) (h1 : 1 ≤ z.length) (h2 : z.length ≤ 15) (ht : ends t = true) :
    numTail b sg l = some ⟨1, sg * numL z, [], b + z.length⟩ := by
  refine numTail_int ?_ h1 h2 ?_
  · rw [hd, ldig_app z t hz (ldig_ends t ht)]
  · rw [← List.drop_drop, hd, List.drop_left]
    exact ends_not46 t ht

theorem numTail_dec_of (b : Nat) (sg : Int) (l z p t : List UInt8) (hd : l.drop b = z ++ 46 :: (p ++ t)) (hz : z.all (fun c => digI c.toNat) = true) (h1 : 1 ≤ z.length) (h2 : z.length ≤ 12)
    (hp : p.all (fun c => digI c.toNat) = true) (h3 : 1 ≤ p.length) (h4 : p.length ≤ 3) (ht : ends t = true) :
    numTail b sg l = some ⟨2, sg * numL (z ++ (p ++ [48, 48]).take 3), [], b + z.length + 1 + p.length⟩ := by
  refine numTail_dec ?_ h1 h2 ?_ ?_ h3 h4
  · rw [hd, ldig_app z _ hz]
    rw [ldig, List.takeWhile_cons]; rfl
  · rw [← List.drop_drop, hd, List.drop_left]; rfl
  · rw [Nat.add_assoc, ← List.drop_drop, hd, ← List.drop_drop, List.drop_left, List.drop_one, List.tail_cons, ldig_app p t hp (ldig_ends t ht)]

/-! ### base64 -/

/-- The characters ahead of what fills the last group up. -/
def encU : List UInt8 → List UInt8
  | x :: y :: z :: r => c0 x y z :: c1 x y z :: c2 x y z :: c3 x y z :: encU r
  | [x, y] => [c0 x y 0, c1 x y 0, c2 x y 0]
  | [x] => [c0 x 0 0, c1 x 0 0]
  | [] => []

theorem encL_pad : ∀ l : List UInt8, encL l = encU l ∨ encL l = encU l ++ [61] ∨ encL l = encU l ++ [61, 61]
  | [] => .inl rfl
  | [_] => .inr (.inr rfl)
  | [_, _] => .inr (.inl rfl)
  | x :: y :: z :: r => by
    rcases encL_pad r with h | h | h
    · exact .inl (by rw [encL, encU, h])
    · exact .inr (.inl (by rw [encL, encU, h]; rfl))
    · exact .inr (.inr (by rw [encL, encU, h]; rfl))

theorem alp_fin : ∀ i : Fin 64, alp i.val ≠ 61 ∧ alp i.val ≠ 58 ∧ valB (alp i.val) = i.val := by decide +kernel
theorem alp_none (n : Nat) (h : ¬ n < 64) : alp n = 0 := by
  rw [alp, List.getD_eq_getElem?_getD, List.getElem?_eq_none (by simpa [alphL] using h)]; rfl
theorem alp_61 (n : Nat) : alp n ≠ 61 ∧ alp n ≠ 58 := by
  by_cases h : n < 64
  · exact ⟨(alp_fin ⟨n, h⟩).1, (alp_fin ⟨n, h⟩).2.1⟩
  · rw [alp_none n h]; decide
theorem valB_alp (n : Nat) (h : n < 64) : valB (alp n) = n := (alp_fin ⟨n, h⟩).2.2

theorem encU_mem : ∀ (l : List UInt8) (c : UInt8), c ∈ encU l → c ≠ 61 ∧ c ≠ 58
  | [], _, h => by simp [encU] at h
  | [x], c, h => by
    simp only [encU, List.mem_cons, List.not_mem_nil, or_false] at h
    rcases h with rfl | rfl <;> exact alp_61 _
  | [x, y], c, h => by
    simp only [encU, List.mem_cons, List.not_mem_nil, or_false] at h
    rcases h with rfl | rfl | rfl <;> exact alp_61 _
  | x :: y :: z :: r, c, h => by
    simp only [encU, List.mem_cons] at h
    rcases h with rfl | rfl | rfl | rfl | h
    · exact alp_61 _
    · exact alp_61 _
    · exact alp_61 _
    · exact alp_61 _
    · exact encU_mem r c h

theorem trim_snoc (u : List UInt8) (c : UInt8) : Lib.trimRightB (u ++ [c]) c = Lib.trimRightB u c := by
  simp [Lib.trimRightB]
theorem trim_none (u : List UInt8) (c : UInt8) (h : ∀ x ∈ u, x ≠ c) : Lib.trimRightB u c = u := by
  rw [Lib.trimRightB_take u c u.length (Nat.le_refl _)]
  · simp
  · intro j b hj hb
    rw [List.getElem?_eq_none hj] at hb; cases hb
  · intro b _ hb
    exact h b (List.mem_of_getElem? hb)
theorem trim_enc (l : List UInt8) : Lib.trimRightB (encL l) 61 = encU l := by
  have h := trim_none (encU l) 61 (fun x hx => (encU_mem l x hx).1)
  rcases encL_pad l with e | e | e
  · rw [e, h]
  · rw [e, trim_snoc, h]
  · rw [e, show encU l ++ [61, 61] = (encU l ++ [61]) ++ [61] by simp, trim_snoc, trim_snoc, h]

theorem gN_four (a b c d : UInt8) : gN [a, b, c, d] 4 = ((valB a * 64 + valB b) * 64 + valB c) * 64 + valB d := by
  simp [gN, vAt]
theorem gN_three (a b c : UInt8) : gN [a, b, c] 4 = ((valB a * 64 + valB b) * 64 + valB c) * 64 := by
  simp [gN, vAt]
theorem gN_two (a b : UInt8) : gN [a, b] 4 = (valB a * 64 + valB b) * 64 * 64 := by
  simp [gN, vAt]

theorem val_c0 (x y z : UInt8) : valB (c0 x y z) = (65536 * x.toNat + 256 * y.toNat + z.toNat) / 262144 := by
  have h1 := x.toNat_lt
  have h2 := y.toNat_lt
  have h3 := z.toNat_lt
  exact valB_alp _ (by omega)
theorem val_c1 (x y z : UInt8) : valB (c1 x y z) = (65536 * x.toNat + 256 * y.toNat + z.toNat) / 4096 % 64 := valB_alp _ (by omega)
theorem val_c2 (x y z : UInt8) : valB (c2 x y z) = (65536 * x.toNat + 256 * y.toNat + z.toNat) / 64 % 64 := valB_alp _ (by omega)
theorem val_c3 (x y z : UInt8) : valB (c3 x y z) = (65536 * x.toNat + 256 * y.toNat + z.toNat) % 64 := valB_alp _ (by omega)

theorem by3_of (x y z : UInt8) (n : Nat) (h : n = 65536 * x.toNat + 256 * y.toNat + z.toNat) : by3 n = [x, y, z] := by
  have h1 := x.toNat_lt
  have h2 := y.toNat_lt
  have h3 := z.toNat_lt
  have e0 : UInt8.ofNat (n / 65536) = x := by
    apply UInt8.toNat_inj.1
    rw [UInt8.toNat_ofNat']; omega
  have e1 : UInt8.ofNat (n / 256) = y := by
    apply UInt8.toNat_inj.1
    rw [UInt8.toNat_ofNat']; omega
  have e2 : UInt8.ofNat n = z := by
    apply UInt8.toNat_inj.1
    rw [UInt8.toNat_ofNat']; omega
  rw [by3, b0, b1, b2, e0, e1, e2]

theorem z0 : (0 : UInt8).toNat = 0 := rfl

theorem rawG_encU : ∀ l : List UInt8, (∃ t, rawG (encU l) = l ++ t) ∧ (encU l).length * 3 / 4 = l.length
  | [] => ⟨⟨[], rfl⟩, rfl⟩
  | [x] => by
    have h1 := x.toNat_lt
    refine ⟨⟨[0, 0], ?_⟩, by simp [encU]⟩
    rw [encU, rawG_step _ (by simp)]
    simp only [List.take_succ_cons, List.take_nil, List.drop_succ_cons, List.drop_nil]
    rw [gN_two, by3_of x 0 0 _ (by rw [val_c0, val_c1, z0]; omega)]
    rfl
  | [x, y] => by
    have h1 := x.toNat_lt
    have h2 := y.toNat_lt
    refine ⟨⟨[0], ?_⟩, by simp [encU]⟩
    rw [encU, rawG_step _ (by simp)]
    simp only [List.take_succ_cons, List.take_nil, List.drop_succ_cons, List.drop_nil]
    rw [gN_three, by3_of x y 0 _ (by rw [val_c0, val_c1, val_c2, z0]; omega)]
    rfl
  | x :: y :: z :: r => by
    have h1 := x.toNat_lt
    have h2 := y.toNat_lt
    have h3 := z.toNat_lt
    obtain ⟨⟨t, ht⟩, hl⟩ := rawG_encU r
    refine ⟨⟨t, ?_⟩, ?_⟩
    · rw [encU, rawG_step _ (by simp)]
      simp only [List.take_succ_cons, List.take_zero, List.drop_succ_cons, List.drop_zero]
      rw [gN_four, by3_of x y z _ (by rw [val_c0, val_c1, val_c2, val_c3]; omega), ht]
      rfl
    · rw [encU]
      simp only [List.length_cons]
      omega

theorem rawL_encU (l : List UInt8) : rawL (encU l) = l := by
  obtain ⟨⟨t, ht⟩, hl⟩ := rawG_encU l
  rw [rawL, ht, hl, List.take_left]

/-- What was encoded is decoded. -/
theorem decL_encL (l : List UInt8) : decL (encL l) = some l := by
  rw [decL, trim_enc, rawL_encU, if_pos rfl]
theorem decL_some (s d : List UInt8) (h : decL s = some d) : encL d = s := by
  unfold decL at h
  split at h
  · rename_i e
    rw [← Option.some.inj h]; exact e
  · cases h

theorem encL_58 (l : List UInt8) (c : UInt8) (h : c ∈ encL l) : c ≠ 58 := by
  rcases encL_pad l with e | e | e
  all_goals
    rw [e] at h
    first
    | exact (encU_mem l c h).2
    | (rw [List.mem_append] at h
       rcases h with h | h
       · exact (encU_mem l c h).2
       · simp only [List.mem_cons, List.not_mem_nil, or_false, or_self] at h
         subst h
         decide)

theorem indexByte_at (c : UInt8) (t : List UInt8) : ∀ u : List UInt8, (∀ x ∈ u, x ≠ c) → Lib.indexByte (u ++ c :: t) c = (u.length : Int)
  | [], _ => by simp [Lib.indexByte]
  | x :: u, h => by
    have hx : (x == c) = false := by simpa using h x (List.mem_cons_self ..)
    have ih := indexByte_at c t u (fun y hy => h y (List.mem_cons_of_mem _ hy))
    have hn : ((u.length : Int) == -1) = false := by simp
    rw [List.cons_append, Lib.indexByte, hx, ih, hn]
    simp

end Go.Proofs.YtcjnigmklijjiaaGreatDoor

namespace Go.Proofs.YtcjnigmklijjiaaGreatDoor

theorem readL_num (c : UInt8) (r : List UInt8) (h : c = 45 ∨ digI c.toNat = true) : readL (c :: r) = readNumL (c :: r) := by
  unfold readL
  rcases h with rfl | h
  · rfl
  · simp only [h, Bool.or_true, if_true]

theorem decDigits_cons (m : Nat) : ∃ c r, Lib.decDigits m = c :: r ∧ digI c.toNat = true := by
  have h1 := decDigits_1 m
  have h2 := decDigits_all m
  match h : Lib.decDigits m with
  | [] => rw [h] at h1; simp at h1
  | c :: r =>
    rw [h, List.all_cons, Bool.and_eq_true] at h2
    exact ⟨c, r, rfl, h2.1⟩

theorem digit_not45 (c : UInt8) (h : digI c.toNat = true) : c ≠ 45 := by
  intro e; subst e; exact absurd h (by decide)

/-- A number behind its sign, where digits come first. -/
theorem readL_plus (c : UInt8) (r : List UInt8) (h : digI c.toNat = true) : readL (c :: r) = numTail 0 1 (c :: r) := by
  rw [readL_num c r (.inr h), readNumL, if_neg]
  simpa using digit_not45 c h
theorem readL_minus (r : List UInt8) : readL (45 :: r) = numTail 1 (-1) (45 :: r) := by
  rw [readL_num 45 r (.inl rfl), readNumL, if_pos (by simp)]

theorem read_int (m : Nat) (h : m < 1000000000000000) (t : List UInt8) (ht : ends t = true) :
    readL (Lib.decDigits m ++ t) = some ⟨1, (m : Int), [], (Lib.decDigits m).length⟩ ∧ readL (45 :: (Lib.decDigits m ++ t)) = some ⟨1, -(m : Int), [], (Lib.decDigits m).length + 1⟩ := by
  refine ⟨?_, ?_⟩
  · obtain ⟨c, r, e, hc⟩ := decDigits_cons m
    have := numTail_of 0 1 (Lib.decDigits m ++ t) (Lib.decDigits m) t (List.drop_zero ..) (decDigits_all m) (decDigits_1 m) (decDigits_15 m h) ht
    rw [decDigits_num] at this
    rw [← Int.one_mul (m : Int), ← Nat.zero_add (Lib.decDigits m).length, ← this, e]
    exact readL_plus c (r ++ t) hc
  · rw [readL_minus, numTail_of 1 (-1) (45 :: (Lib.decDigits m ++ t)) (Lib.decDigits m) t rfl (decDigits_all m) (decDigits_1 m) (decDigits_15 m h) ht, decDigits_num, Nat.add_comm, Int.neg_one_mul]

theorem trim_two (a b : UInt8) : ∃ q, Lib.trimRightB [a, b] 48 = q ∧ q.length ≤ 2 ∧ (∀ x, x ∈ q → x = a ∨ x = b) ∧ (q ++ [48, 48]).take 2 = [a, b] := by
  by_cases hb : b = 48
  · subst hb
    by_cases ha : a = 48
    · subst ha
      exact ⟨[], by decide, by simp, by simp, rfl⟩
    · refine ⟨[a], ?_, by simp, by simp, rfl⟩
      have : (a == 48) = false := by simpa using ha
      simp [Lib.trimRightB, this]
  · refine ⟨[a, b], ?_, by simp, by simp, rfl⟩
    have : (b == 48) = false := by simpa using hb
    simp [Lib.trimRightB, this]

theorem decN_is (m : Nat) : ∃ p, decN m = Lib.decDigits (m / 1000) ++ 46 :: p ∧ 1 ≤ p.length ∧ p.length ≤ 3 ∧ p.all (fun c => digI c.toNat) = true ∧ numL (Lib.decDigits (m / 1000) ++ (p ++ [48, 48]).take 3) = (m : Int) := by
  obtain ⟨q, h1, h2, h3, h4⟩ := trim_two (UInt8.ofNat (48 + m % 1000 / 10 % 10)) (UInt8.ofNat (48 + m % 1000 % 10))
  refine ⟨UInt8.ofNat (48 + m % 1000 / 100) :: q, by rw [decN, h1], by simp, by simp; omega, ?_, ?_⟩
  · rw [List.all_cons, digit_digI _ (by omega), Bool.true_and, List.all_eq_true]
    intro x hx
    rcases h3 x hx with rfl | rfl
    · exact digit_digI _ (by omega)
    · exact digit_digI _ (by omega)
  · rw [List.cons_append, List.take_succ_cons, h4, numL_three, decDigits_num, digit_nat _ (by omega), digit_nat _ (by omega), digit_nat _ (by omega)]
    omega

theorem read_dec (m : Nat) (h : m < 1000000000000000) (t : List UInt8) (ht : ends t = true) :
    readL (decN m ++ t) = some ⟨2, (m : Int), [], (decN m).length⟩ ∧ readL (45 :: (decN m ++ t)) = some ⟨2, -(m : Int), [], (decN m).length + 1⟩ := by
  obtain ⟨p, e, p1, p3, pa, pn⟩ := decN_is m
  obtain ⟨c, r, ec, hc⟩ := decDigits_cons (m / 1000)
  rw [e]
  refine ⟨?_, ?_⟩
  · have := numTail_dec_of 0 1 (Lib.decDigits (m / 1000) ++ 46 :: p ++ t) (Lib.decDigits (m / 1000)) p t (by simp) (decDigits_all _) (decDigits_1 _) (decDigits_12 _ (by omega)) pa p1 p3 ht
    rw [pn] at this
    have h2 : readL (Lib.decDigits (m / 1000) ++ 46 :: p ++ t) = numTail 0 1 (Lib.decDigits (m / 1000) ++ 46 :: p ++ t) := by
      rw [ec]; exact readL_plus c _ hc
    rw [h2, this, Int.one_mul, List.length_append, List.length_cons]
    congr 2; omega
  · rw [readL_minus, numTail_dec_of 1 (-1) (45 :: (Lib.decDigits (m / 1000) ++ 46 :: p ++ t)) (Lib.decDigits (m / 1000)) p t (by simp) (decDigits_all _) (decDigits_1 _) (decDigits_12 _ (by omega)) pa p1 p3 ht, pn, Int.neg_one_mul, List.length_append, List.length_cons]
    congr 2; omega

theorem escI_cases (c : UInt8) (h : escI c.toNat = true) : c = 34 ∨ c = 92 := by
  have := all_bytes (fun c => !escI c.toNat || (c == 34 || c == 92)) (by decide +kernel) c
  rw [h] at this
  simpa using this
theorem escI_none (c : UInt8) (h : escI c.toNat = false) : c ≠ 34 ∧ c ≠ 92 := by
  refine ⟨?_, ?_⟩ <;> (intro e; subst e; exact absurd h (by decide))

theorem rsL_print (t : List UInt8) : ∀ (s acc : List UInt8) (m : Nat), prL s = true → rsL (escL s ++ 34 :: t) acc m = some ⟨3, 0, acc ++ s, m + (escL s).length + 1⟩
  | [], acc, m, _ => by rw [escL, List.nil_append, rsL_quote, List.append_nil]; rfl
  | c :: s, acc, m, h => by
    rw [prL, List.all_cons, Bool.and_eq_true] at h
    have ih := fun a b => rsL_print t s a b h.2
    unfold escL
    cases he : escI c.toNat
    · obtain ⟨n1, n2⟩ := escI_none c he
      rw [if_neg (by simp), List.cons_append, rsL_other _ _ _ _ n1 n2, if_pos h.1, ih]
      simp only [List.append_assoc, List.length_cons, List.cons_append, List.nil_append]
      congr 2; omega
    · rw [if_pos rfl, List.cons_append, List.cons_append, rsL_esc, if_pos he, ih]
      simp only [List.append_assoc, List.length_cons, List.cons_append, List.nil_append]
      congr 2; omega

theorem read_str (s t : List UInt8) (h : prL s = true) : readL (strT s ++ t) = some ⟨3, 0, s, (strT s).length⟩ := by
  have h1 : strT s ++ t = 34 :: (escL s ++ 34 :: t) := by simp [strT]
  have h2 : readL (34 :: (escL s ++ 34 :: t)) = readStrL (34 :: (escL s ++ 34 :: t)) := rfl
  rw [h1, h2, readStrL, List.drop_one, List.tail_cons, rsL_print t s [] 1 h, strT]
  simp only [List.length_cons, List.length_append, List.length_nil, List.nil_append]
  congr 2; omega

theorem btI_facts (c : UInt8) (h : btI c.toNat = true) : (c == 45 || digI c.toNat) = false ∧ (c == 34) = false := by
  have := all_bytes (fun c => !btI c.toNat || (!(c == 45 || digI c.toNat) && !(c == 34))) (by decide +kernel) c
  rw [h, Bool.not_true, Bool.false_or, Bool.and_eq_true, Bool.not_eq_true', Bool.not_eq_true'] at this
  exact this

theorem readL_tok (c : UInt8) (r : List UInt8) (h : btI c.toNat = true) : readL (c :: r) = some ⟨4, 0, (c :: r).take (tlen (c :: r)), tlen (c :: r)⟩ := by
  obtain ⟨h1, h2⟩ := btI_facts c h
  unfold readL
  simp only [h1, h2, h, if_true, if_false, Bool.false_eq_true]

theorem takeWhile_len (p : UInt8 → Bool) : ∀ l : List UInt8, (l.takeWhile p).length = l.length → l.all p = true
  | [], _ => rfl
  | c :: l, h => by
    rw [List.takeWhile_cons] at h
    split at h
    · rename_i hc
      simp only [List.length_cons, Nat.add_right_cancel_iff] at h
      rw [List.all_cons, hc, takeWhile_len p l h]; rfl
    · simp at h

theorem tlen_app (s t : List UInt8) (h0 : s ≠ []) (h : tlen s = s.length) (ht : ends t = true) : ∃ c r, s = c :: r ∧ btI c.toNat = true ∧ tlen (s ++ t) = s.length := by
  match s, h0 with
  | c :: r, _ =>
    rw [tlen] at h
    split at h
    · rename_i hc
      simp only [List.length_cons] at h
      have hr := takeWhile_len (fun c => ttI c.toNat) r (by omega)
      refine ⟨c, r, rfl, hc, ?_⟩
      rw [List.cons_append, tlen, if_pos hc, takeWhile_all _ r t hr]
      have : t.takeWhile (fun c => ttI c.toNat) = [] := by
        cases t with
        | nil => rfl
        | cons d t =>
          simp only [ends, Bool.not_eq_true'] at ht
          rw [List.takeWhile_cons, ht]; rfl
      rw [this, List.append_nil, List.length_cons]; omega
    · simp at h

theorem read_tok (s t : List UInt8) (h0 : s ≠ []) (h : tlen s = s.length) (ht : ends t = true) : readL (s ++ t) = some ⟨4, 0, s, s.length⟩ := by
  obtain ⟨c, r, rfl, hc, hl⟩ := tlen_app s t h0 h ht
  have := readL_tok c (r ++ t) hc
  rw [List.cons_append] at hl ⊢
  rw [this, hl, ← List.cons_append, List.take_left]

theorem read_bytes (s t : List UInt8) : readL (58 :: (encL s ++ [58]) ++ t) = some ⟨5, 0, s, (58 :: (encL s ++ [58])).length⟩ := by
  have h1 : 58 :: (encL s ++ [58]) ++ t = 58 :: (encL s ++ 58 :: t) := by simp
  have h2 : readL (58 :: (encL s ++ 58 :: t)) = readBytesL (58 :: (encL s ++ 58 :: t)) := rfl
  have h3 := indexByte_at 58 t (encL s) (fun x hx => encL_58 s x hx)
  rw [h1, h2, readBytesL, List.drop_one, List.tail_cons, h3, if_neg (by omega), Int.toNat_natCast, List.take_left, decL_encL]
  simp only [List.length_cons, List.length_append, List.length_nil]

theorem read_bool (n : Int) (h : n = 0 ∨ n = 1) (t : List UInt8) : readL (63 :: Lib.itoa n ++ t) = some ⟨6, n, [], (63 :: Lib.itoa n).length⟩ := by
  rcases h with rfl | rfl
  · have : Lib.itoa 0 = [48] := by simp [Lib.itoa, Lib.decDigits_one]
    rw [this]; rfl
  · have : Lib.itoa 1 = [49] := by simp [Lib.itoa, Lib.decDigits_one]
    rw [this]; rfl

/-- What was printed is read, whatever stands behind it that ends it. -/
theorem readL_text (k n : Int) (s t : List UInt8) (h : rightL k n s = true) (ht : ends t = true) : readL (textL k n s ++ t) = some ⟨k, n, s, (textL k n s).length⟩ := by
  rcases right_kind k n s h with ⟨rfl | rfl, rfl, g0, g1⟩ | ⟨rfl, rfl, g0⟩ | ⟨rfl, rfl, g0⟩ | ⟨rfl, rfl, g0, g1⟩ | ⟨rfl, rfl⟩
  · show readL (Lib.itoa n ++ t) = some ⟨1, n, [], (Lib.itoa n).length⟩
    obtain ⟨m, hm⟩ : ∃ m : Nat, n.natAbs = m := ⟨_, rfl⟩
    obtain ⟨r1, r2⟩ := read_int m (by omega) t ht
    by_cases hn : n < 0
    · have e1 : Lib.itoa n = 45 :: Lib.decDigits m := by rw [Lib.itoa, if_pos hn, hm]
      rw [e1, List.cons_append, r2, List.length_cons]
      congr 2; omega
    · have e1 : Lib.itoa n = Lib.decDigits m := by rw [Lib.itoa, if_neg hn, show n.toNat = m by omega]
      rw [e1, r1]
      congr 2; omega
  · show readL (decT n ++ t) = some ⟨2, n, [], (decT n).length⟩
    obtain ⟨m, hm⟩ : ∃ m : Nat, n.natAbs = m := ⟨_, rfl⟩
    obtain ⟨r1, r2⟩ := read_dec m (by omega) t ht
    by_cases hn : n < 0
    · have e1 : decT n = 45 :: decN m := by rw [decT, if_pos hn, hm]
      rw [e1, List.cons_append, r2, List.length_cons]
      congr 2; omega
    · have e1 : decT n = decN m := by rw [decT, if_neg hn, hm]
      rw [e1, r1]
      congr 2; omega
  · exact read_bool n g0 t
  · exact read_str s t g0
  · exact read_tok s t g0 g1 ht
  · exact read_bytes s t

end Go.Proofs.YtcjnigmklijjiaaGreatDoor

namespace Go.Proofs.YtcjnigmklijjiaaGreatDoor

theorem numTail_right (b : Nat) (sg : Int) (l : List UInt8) (g : Got) (hb : (b = 0 ∧ sg = 1) ∨ (b = 1 ∧ sg = -1)) (hl : b ≤ l.length) (h : numTail b sg l = some g) :
    rightL g.k g.n g.s = true ∧ 1 ≤ g.m ∧ g.m ≤ l.length ∧ g.s = [] := by
  have za := ldig_all (l.drop b)
  have zl := ldig_len_le (l.drop b)
  rw [List.length_drop] at zl
  unfold numTail at h
  generalize ldig (l.drop b) = z at *
  split at h
  · cases h
  · rename_i hz
    split at h
    · have pa := ldig_all (l.drop (b + z.length + 1))
      have pl := ldig_len_le (l.drop (b + z.length + 1))
      rw [List.length_drop] at pl
      generalize ldig (l.drop (b + z.length + 1)) = p at *
      split at h
      · cases h
      · rename_i hp
        obtain rfl := Option.some.inj h
        obtain ⟨n0, n1⟩ := numL_in (z ++ (p ++ [48, 48]).take 3) (by rw [List.all_append, za, pad_all p pa]; rfl) (by rw [List.length_append, List.length_take]; omega)
        obtain ⟨s0, s1⟩ := i64_mul_sign b sg _ hb n0 n1
        refine ⟨?_, ?_, ?_, rfl⟩
        · rw [right_num _ _ _ (.inr rfl), inNum]
          simp [s0, s1]
        · show 1 ≤ _ + 1 + p.length
          omega
        · show _ + 1 + p.length ≤ l.length
          omega
    · obtain rfl := Option.some.inj h
      obtain ⟨n0, n1⟩ := numL_in z za (by omega)
      obtain ⟨s0, s1⟩ := i64_mul_sign b sg _ hb n0 n1
      refine ⟨?_, ?_, ?_, rfl⟩
      · rw [right_num _ _ _ (.inl rfl), inNum]
        simp [s0, s1]
      · show 1 ≤ b + z.length
        omega
      · show b + z.length ≤ l.length
        omega

theorem readNumL_right (l : List UInt8) (g : Got) (h : readNumL l = some g) : rightL g.k g.n g.s = true ∧ 1 ≤ g.m ∧ g.m ≤ l.length ∧ g.s = [] := by
  unfold readNumL at h
  split at h
  · rename_i hh
    exact numTail_right 1 (-1) l g (.inr ⟨rfl, rfl⟩) (by cases l with | nil => simp at hh | cons c r => simp) h
  · exact numTail_right 0 1 l g (.inl ⟨rfl, rfl⟩) (Nat.zero_le _) h

theorem esc_pr (c : UInt8) (h : escI c.toNat = true) : prI c.toNat = true := by
  have := all_bytes (fun c => !escI c.toNat || prI c.toNat) (by decide +kernel) c
  rw [h] at this
  exact this

theorem prL_snoc (acc : List UInt8) (c : UInt8) (h1 : prL acc = true) (h2 : prI c.toNat = true) : prL (acc ++ [c]) = true := by
  rw [prL] at *
  rw [List.all_append, h1, Bool.true_and, List.all_cons, h2]; rfl

theorem rsL_right : ∀ (l acc : List UInt8) (m : Nat) (g : Got), prL acc = true → rsL l acc m = some g → g.k = 3 ∧ g.n = 0 ∧ prL g.s = true ∧ m + 1 ≤ g.m ∧ g.m ≤ m + l.length ∧ g.s.length ≤ acc.length + l.length
  | [], _, _, _, _, h => by rw [rsL.eq_def] at h; cases h
  | [c], acc, m, g, ha, h => by
    by_cases h1 : c = 34
    · subst h1
      rw [rsL_quote] at h
      obtain rfl := Option.some.inj h
      exact ⟨rfl, rfl, ha, Nat.le_refl _, by simp, by simp⟩
    · by_cases h2 : c = 92
      · subst h2
        rw [rsL_esc_end] at h; cases h
      · rw [rsL_other _ _ _ _ h1 h2] at h
        split at h
        · rw [rsL.eq_def] at h; cases h
        · cases h
  | c :: d :: q, acc, m, g, ha, h => by
    by_cases h1 : c = 34
    · subst h1
      rw [rsL_quote] at h
      obtain rfl := Option.some.inj h
      exact ⟨rfl, rfl, ha, Nat.le_refl _, by simp, by simp⟩
    · by_cases h2 : c = 92
      · subst h2
        rw [rsL_esc] at h
        split at h
        · rename_i he
          obtain ⟨r1, r2, r3, r4, r5, r6⟩ := rsL_right q (acc ++ [d]) (m + 2) g (prL_snoc acc d ha (esc_pr d he)) h
          simp only [List.length_append, List.length_cons, List.length_nil] at r6 ⊢
          exact ⟨r1, r2, r3, by omega, by omega, by omega⟩
        · cases h
      · rw [rsL_other _ _ _ _ h1 h2] at h
        split at h
        · rename_i he
          obtain ⟨r1, r2, r3, r4, r5, r6⟩ := rsL_right (d :: q) (acc ++ [c]) (m + 1) g (prL_snoc acc c ha he) h
          simp only [List.length_append, List.length_cons, List.length_nil] at r5 r6 ⊢
          exact ⟨r1, r2, r3, by omega, by omega, by omega⟩
        · cases h

theorem takeWhile_again (p : UInt8 → Bool) : ∀ l : List UInt8, (l.takeWhile p).takeWhile p = l.takeWhile p
  | [] => rfl
  | c :: l => by
    rw [List.takeWhile_cons]
    split
    · rename_i h
      rw [List.takeWhile_cons, h, takeWhile_again p l]; rfl
    · rfl

theorem tok_right (c : UInt8) (r : List UInt8) (h : btI c.toNat = true) : rightL 4 0 ((c :: r).take (tlen (c :: r))) = true ∧ 1 ≤ tlen (c :: r) := by
  have e : tlen (c :: r) = (r.takeWhile (fun c => ttI c.toNat)).length + 1 := by rw [tlen, if_pos h]; omega
  rw [e, List.take_succ_cons, take_takeWhile, right_tok]
  have e2 : tlen (c :: r.takeWhile (fun c => ttI c.toNat)) = (r.takeWhile (fun c => ttI c.toNat)).length + 1 := by rw [tlen, if_pos h, takeWhile_again]; omega
  rw [e2]
  simp

/-- What is read may be, and lies within the text. -/
theorem readL_right (l : List UInt8) (g : Got) (h : readL l = some g) : rightL g.k g.n g.s = true ∧ 1 ≤ g.m ∧ g.m ≤ l.length ∧ g.s.length ≤ l.length := by
  cases l with
  | nil => cases h
  | cons c r =>
    unfold readL at h
    dsimp only at h
    split at h
    · obtain ⟨h1, h2, h3, h4⟩ := readNumL_right _ g h
      exact ⟨h1, h2, h3, by rw [h4]; simp⟩
    · split at h
      · rw [readStrL, List.drop_one, List.tail_cons] at h
        obtain ⟨r1, r2, r3, r4, r5, r6⟩ := rsL_right r [] 1 g rfl h
        simp only [List.length_cons, List.length_nil] at r6 ⊢
        exact ⟨by rw [r1, r2, right_str, r3]; rfl, by omega, by omega, by omega⟩
      · split at h
        · rename_i hb
          obtain rfl := Option.some.inj h
          obtain ⟨h1, h2⟩ := tok_right c r hb
          have h3 := tlen_le (c :: r)
          refine ⟨h1, h2, h3, ?_⟩
          show ((c :: r).take _).length ≤ _
          rw [List.length_take]; omega
        · split at h
          · unfold readBytesL at h
            rw [List.drop_one, List.tail_cons] at h
            split at h
            · cases h
            · rename_i hi
              obtain ⟨i0, i1⟩ := index_le _ _ hi
              split at h
              · cases h
              · rename_i b hb
                obtain rfl := Option.some.inj h
                have e := congrArg List.length (decL_some _ _ hb)
                rw [encL_len, List.length_take] at e
                refine ⟨by rw [right_bytes]; rfl, ?_, ?_, ?_⟩
                · show 1 ≤ _ + 2
                  omega
                · show _ + 2 ≤ _
                  simp only [List.length_cons]; omega
                · show b.length ≤ _
                  simp only [List.length_cons]; omega
          · split at h
            · unfold readBoolL at h
              split at h
              · rename_i c d q he
                split at h
                · rename_i hd
                  obtain rfl := Option.some.inj h
                  rw [List.cons.injEq] at he
                  obtain ⟨_, rfl⟩ := he
                  simp only [Bool.or_eq_true, beq_iff_eq] at hd
                  refine ⟨?_, by simp, by simp, by simp⟩
                  rw [right_bool]
                  rcases hd with rfl | rfl <;> decide
                · cases h
              · cases h
            · cases h

theorem right_n (k n : Int) (s : List UInt8) (h : rightL k n s = true) : -1000000000000000 < n ∧ n < 1000000000000000 := by
  rcases right_kind k n s h with ⟨_, _, g0, g1⟩ | ⟨_, _, g0⟩ | ⟨_, rfl, _⟩ | ⟨_, rfl, _, _⟩ | ⟨_, rfl⟩
  · exact ⟨g0, g1⟩
  · omega
  · decide
  · decide
  · decide

/-- How long a text is at most. -/
theorem textL_len (k n : Int) (s : List UInt8) (h : rightL k n s = true) : (textL k n s).length ≤ 2 * s.length + 20 := by
  rcases right_kind k n s h with ⟨rfl | rfl, rfl, g0, g1⟩ | ⟨rfl, rfl, g0⟩ | ⟨rfl, rfl, g0⟩ | ⟨rfl, rfl, g0, g1⟩ | ⟨rfl, rfl⟩
  · show (Lib.itoa n).length ≤ _
    unfold Lib.itoa
    split
    · have := decDigits_15 n.natAbs (by omega)
      simp only [List.length_cons]; omega
    · have := decDigits_15 n.toNat (by omega)
      omega
  · show (decT n).length ≤ _
    obtain ⟨p, e, _, p3, _, _⟩ := decN_is n.natAbs
    have := decDigits_12 (n.natAbs / 1000) (by omega)
    have hl : (decN n.natAbs).length ≤ 16 := by
      rw [e, List.length_append, List.length_cons]; omega
    unfold decT
    split
    · simp only [List.length_cons]; omega
    · omega
  · show (63 :: Lib.itoa n).length ≤ _
    rcases g0 with rfl | rfl
    · simp [Lib.itoa, Lib.decDigits_one]
    · simp [Lib.itoa, Lib.decDigits_one]
  · show (strT s).length ≤ _
    have := escL_len s
    simp only [strT, List.length_cons, List.length_append, List.length_nil]; omega
  · show s.length ≤ _
    omega
  · show (58 :: (encL s ++ [58])).length ≤ _
    have := encL_len s
    simp only [List.length_cons, List.length_append, List.length_nil]; omega

end Go.Proofs.YtcjnigmklijjiaaGreatDoor
