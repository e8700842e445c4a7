/- TargetSame walked. -/
import Derived.Test.YtbbdifcmhoobaaaDoorAwk9
import Derived.Test.YtbbdifcmhoobaaaDoorTgU
import Derived.Laws.BytesArg
import Derived.Deep.RegionHeld3
import Derived.Laws.BitsLemmas
namespace Go.Proofs.YtbbdifcmhoobaaaDoor
open Go.RowKit Go.Shelf Go.Lib

/-- A text whose first bytes are great letters. -/
def subTo (l : List UInt8) (k : Nat) : List UInt8 := (l.take k).map (fun c => c - 32) ++ l.drop k
theorem subTo_length (l : List UInt8) (k : Nat) : (subTo l k).length = l.length := by
  simp [subTo]; omega
theorem subTo_zero (l : List UInt8) : subTo l 0 = l := by simp [subTo]
theorem subTo_end (l : List UInt8) (k : Nat) (h : l.length ≤ k) : subTo l k = l.map (fun c => c - 32) := by
  simp [subTo, List.take_of_length_le h, List.drop_of_length_le h]
theorem subTo_at (l : List UInt8) (k : Nat) (h : k < l.length) : (subTo l k).getD k 0 = l[k] := by
  have h1 : ((l.take k).map (fun c : UInt8 => c - 32)).length = k := by simp; omega
  rw [subTo, List.getD_eq_getElem?_getD, List.getElem?_append_right (by omega), h1]
  simp [h]
theorem subTo_succ (l : List UInt8) (k : Nat) (h : k < l.length) : subTo l (k + 1) = (subTo l k).set k (l[k] - 32) := by
  have h1 : ((l.take k).map (fun c : UInt8 => c - 32)).length = k := by simp; omega
  rw [subTo, subTo, List.set_append_right _ _ (by omega), h1, Nat.sub_self, List.take_succ_eq_append_getElem h, List.drop_eq_getElem_cons h, List.map_append, List.set_cons_zero, List.append_assoc]
  rfl
theorem sub32 (c : UInt8) (h : 97 ≤ c.toNat) : ((c - 32).toNat : Int) = (c.toNat : Int) - 32 := by
  have : ∀ x : Fin 256, 97 ≤ x.val.toUInt8.toNat → ((x.val.toUInt8 - 32).toNat : Int) = (x.val.toUInt8.toNat : Int) - 32 := by decide +kernel
  have h2 := this ⟨c.toNat, UInt8.toNat_lt c⟩
  simpa using h2 (by simpa using h)
/-- The signs of numbers by sixteen, in small letters. -/
def hexT : List UInt8 := [48, 49, 50, 51, 52, 53, 54, 55, 56, 57, 97, 98, 99, 100, 101, 102]
theorem hexT_num (k : Nat) (h : k < 16) : hxN (hexT.getD k 0) = k := by
  have : ∀ j : Fin 16, hxN (hexT.getD j.val 0) = j.val := by decide +kernel
  exact this ⟨k, h⟩
def smlB (c : UInt8) : Bool := decide (97 ≤ c.toNat) && decide (c.toNat ≤ 122)

theorem hexT_cut (k : Nat) (h : k < 16) : ((⟨#[48, 49, 50, 51, 52, 53, 54, 55, 56, 57, 97, 98, 99, 100, 101, 102]⟩ : ByteArray).extract k (k + 1)).data.toList = [hexT.getD k 0] := by
  have : ∀ j : Fin 16, ((⟨#[48, 49, 50, 51, 52, 53, 54, 55, 56, 57, 97, 98, 99, 100, 101, 102]⟩ : ByteArray).extract j.val (j.val + 1)).data.toList = [hexT.getD j.val 0] := by decide
  exact this ⟨k, h⟩

/-- What the great letters' row tells, in a world behind w. -/
abbrev heldG (w0 : World) (b n cap : Nat) (G : ByteArray) (l : List UInt8) : World → Prop := fun W => (Go.convert 30 9 (.slice (some ⟨b, 0, none⟩) n cap)).run Tryd.prog W = .ok (.string G) W ∧ RowIs W b l ∧ Below w0.heap.size w0 W ∧ b < W.heap.size
theorem heldG_next {w0 W W' : World} {b n cap : Nat} {G : ByteArray} {l : List UInt8} (hC : ∀ V : World, RowIs V b l → (Go.convert 30 9 (.slice (some ⟨b, 0, none⟩) n cap)).run Tryd.prog V = .ok (.string G) V)
    (h : heldG w0 b n cap G l W) (hb : Below W.heap.size W W') : heldG w0 b n cap G l W' := by
  obtain ⟨_, h2, h3, h4⟩ := h
  have hR : RowIs W' b l := fun j hj => by
    obtain ⟨a, c⟩ := h2 j hj
    exact ⟨(hb.cell (p := ⟨_, j, none⟩) h4).trans a, (World.frozen?_of_block (a := ⟨b, j, none⟩) (hb.block _ h4)).trans c⟩
  exact ⟨hC _ hR, hR, h3.trans (hb.mono h3.size), Nat.lt_of_lt_of_le h4 hb.size⟩

set_option maxRecDepth 100000 in
set_option maxHeartbeats 4000000 in
theorem same_main (s1 s2 : ByteArray) (c : UInt8) (w : World) (z1 : s1.size ≤ 100) (z2 : s2.size ≤ 200) (hc : 97 ≤ c.toNat ∧ c.toNat ≤ 122) (hE : Errs w) :
    Calls Tryd.prog 5 #[.string s1, .string s2, .int .u8 (c.toNat : Int)] w fun e w' => e = .returned (.bool true) ∧ Below w.heap.size w w' := by
  have g1 : ¬ (100 < (s1.size : Int)) := by omega
  have g2 : ¬ (200 < (s2.size : Int)) := by omega
  have hc1 := hc.1
  have hc2 := hc.2
  have g3 : ¬ ((c.toNat : Int) < 97) := by omega
  have g4 : ¬ (122 < (c.toNat : Int)) := by omega
  have cA := awake9_any w hE
  have HE := Lib.hid hE
  clear hE hc
  go_enter Tryd.func5, Tryd.ntmps5
  go_wp2_with fail
  refine cA.mono ?_
  rintro e w1 ⟨rfl, hb1⟩
  have HB1 := Lib.hid hb1
  clear hb1 cA
  go_wp2_with fail
  go_loop [8] (fun i => ∃ k : Nat, k ≤ s1.size ∧ i = .int .i64 k ∧ Hid (∀ x ∈ s1.data.toList.take k, 97 ≤ x.toNat ∧ x.toNat ≤ 122)) (fun i => s1.size - (intOf i).toNat)
  case atStart => exact ⟨0, Nat.zero_le _, rfl, Lib.hid (by simp)⟩
  case round =>
    obtain ⟨k, hk, rfl, H⟩ := hrel
    by_cases hlt : k < s1.size
    · cases h1 : decide (((s1[k]'hlt).toNat : Int) < 97)
      · cases h2 : decide (122 < ((s1[k]'hlt).toNat : Int))
        · have Hn : Hid (∀ x ∈ s1.data.toList.take (k + 1), 97 ≤ x.toNat ∧ x.toNat ≤ 122) := Lib.hid (by
            intro x hx
            rw [take_snoc s1 k hlt] at hx
            rcases List.mem_append.1 hx with hx | hx
            · exact H.out x hx
            · rw [List.mem_singleton] at hx
              subst hx
              have := of_decide_eq_false h1
              have := of_decide_eq_false h2
              omega)
          go_wp2
          go_round
          case rel => exact ⟨k + 1, by omega, by go_num, Hn⟩
          case measure => simp [intOf]; omega
        · go_wp2
          go_ret
          exact ⟨rfl, HB1.out⟩
      · go_wp2
        go_ret
        exact ⟨rfl, HB1.out⟩
    · have c2 : ¬ (k : Int) < (s1.size : Int) := by omega
      have H2 := H.out
      rw [take_all s1 k (by omega)] at H2
      have HL := Lib.hid H2
      clear H H2 hlt
      by_cases h0 : s1.size = 0
      · have he : s1.toList.isEmpty = true := by
          have hnil : s1.data.toList = [] := List.eq_nil_of_length_eq_zero (by rw [← Lib.size_eq]; exact h0)
          rw [Lib.toList_data, hnil]
          rfl
        go_wp2
        go_ret
        exact ⟨rfl, HB1.out⟩
      · have hne : s1.data.toList ≠ [] := fun h => h0 (by rw [Lib.size_eq, h]; rfl)
        have he : s1.toList.isEmpty = false := by
          rw [Lib.toList_data]
          cases h : s1.data.toList with
          | nil => exact absurd h hne
          | cons a b => rfl
        have HNE := Lib.hid hne
        clear hne
        have hcap := grownCap_ge w1 s1.size 0 5
        have hconv := run_bytes_of_string (P := Tryd.prog) w1 9 30 5 s1 Tryd.underlying9 Tryd.underlying30 Tryd.underlying5
        have R0 := RowIs.of_bytes w1 s1 _ 5 hcap
        have hb0 : Below w1.heap.size w1 (w1.drew.alloc (.cells (bytesRow s1 (grownCap w1 s1.size 0 5)) 5 ((bytesRow s1 (grownCap w1 s1.size 0 5)).size, (bytesRow s1 (grownCap w1 s1.size 0 5)).size + 1))) := (Below.refl _ _).drew.alloc (Nat.le_refl _) _
        have hsz0 : w1.heap.size < (w1.drew.alloc (.cells (bytesRow s1 (grownCap w1 s1.size 0 5)) 5 ((bytesRow s1 (grownCap w1 s1.size 0 5)).size, (bytesRow s1 (grownCap w1 s1.size 0 5)).size + 1))).heap.size := by simp
        generalize grownCap w1 s1.size 0 5 = cap at hcap hconv R0 hb0 hsz0
        generalize (Obj.cells (bytesRow s1 cap) 5 ((bytesRow s1 cap).size, (bytesRow s1 cap).size + 1)) = ob at hconv R0 hb0 hsz0
        go_wp2_with fail
        go_loopw [10] (fun i wr => ∃ j : Nat, j ≤ s1.size ∧ i = .int .i64 j ∧ RowIs wr w1.heap.size (subTo s1.data.toList j) ∧ Below w1.heap.size w1 wr ∧ w1.heap.size < wr.heap.size) (fun i _ => s1.size - (intOf i).toNat)
        case atStart => exact ⟨0, by omega, rfl, by rw [subTo_zero]; exact R0, hb0, hsz0⟩
        case round =>
          obtain ⟨j, hj, rfl, R, hb, hbz⟩ := hrel
          clear hconv R0 hb0 hsz0
          have hsz := Lib.size_eq s1
          by_cases hjl : j < s1.size
          · have hlk : j < (subTo s1.data.toList j).length := by rw [subTo_length]; omega
            have hkl : j < s1.data.toList.length := by omega
            clear hsz
            have hcell := (R j hlk).1
            have hfrz := (R j hlk).2
            rw [subTo_at _ _ hkl] at hcell
            have Hsu := Lib.hid (subTo_succ s1.data.toList j hkl)
            have hx := HL.out _ (List.getElem_mem hkl)
            have Hlow := Lib.hid (sub32 _ hx.1)
            generalize s1.data.toList[j] = x at hcell Hsu hx Hlow
            obtain ⟨hx1, hx2⟩ := hx
            go_wp2
            go_roundw
            case rel => exact ⟨j + 1, by omega, by go_num, by rw [Hsu.out]; exact R.set j _ _ Hlow.out, hb.setCell (Nat.le_refl _) _, by simp; exact hbz⟩
            case measure => simp [intOf]; omega
          · have c3 : ¬ (j : Int) < (s1.size : Int) := by omega
            have hjj : s1.data.toList.length ≤ j := by omega
            rw [subTo_end _ _ hjj] at R
            have HR := Lib.hid R
            have HB := Lib.hid (HB1.out.trans (hb.mono HB1.out.size))
            clear R hb hjj hsz hjl
            have hl97 := HL.out
            obtain ⟨sm1, sm2⟩ := norm_same s1.data.toList s2.data.toList [120] c (hexT.getD (c.toNat / 16) 0) (hexT.getD (c.toNat % 16) 0) hl97 HNE.out ⟨hc1, hc2⟩ (hexT_num _ (by omega)) (hexT_num _ (by omega))
            obtain ⟨q, hq⟩ : ∃ q, c.toNat / 16 = q := ⟨_, rfl⟩
            obtain ⟨m, hm⟩ : ∃ m, c.toNat % 16 = m := ⟨_, rfl⟩
            have hq16 : q < 8 := by omega
            have hm16 : m < 16 := by omega
            have hlen := Lib.size_eq s1
            have hlen2 := Lib.size_eq s2
            obtain ⟨A, E, hAE⟩ := errV_form (normL s1.data.toList (47 :: c :: s2.data.toList))
            obtain ⟨CC, hCC⟩ : ∃ CC : ByteArray, ⟨[c].toArray⟩ = CC := ⟨_, rfl⟩
            have hCd : CC.data.toList = [c] := by rw [← hCC]
            have cN1 : ∀ W, Errs W → Calls Tryd.prog 9 #[.string s1, .string ((⟨#[47]⟩ : ByteArray) ++ CC ++ s2)] W fun e w' => e = .returned (.tuple #[.string A, .int .i64 E]) ∧ Below W.heap.size W w' := by
              intro W hW
              have hd : ((⟨#[47]⟩ : ByteArray) ++ CC ++ s2).data.toList = 47 :: c :: s2.data.toList := by
                rw [append_data, append_data, hCd]
                rfl
              have hz : ((⟨#[47]⟩ : ByteArray) ++ CC ++ s2).size ≤ 100000 := by rw [Lib.size_eq, hd]; simp only [List.length_cons]; omega
              have := normal_any s1 _ W (by omega) hz hW
              unfold errPost at this
              rw [hd, hAE] at this
              exact this
            obtain ⟨G, hG⟩ : ∃ G : ByteArray, ⟨(s1.data.toList.map (fun c => c - 32)).toArray⟩ = G := ⟨_, rfl⟩
            have hGd : G.data.toList = s1.data.toList.map (fun c => c - 32) := by rw [← hG]
            have cN2 : ∀ W, Errs W → Calls Tryd.prog 9 #[.string (G ++ (⟨#[58, 56, 48]⟩ : ByteArray)), .string ((⟨#[47, 37]⟩ : ByteArray) ++ (⟨#[48, 49, 50, 51, 52, 53, 54, 55, 56, 57, 97, 98, 99, 100, 101, 102]⟩ : ByteArray).extract q (q + 1) ++ (⟨#[48, 49, 50, 51, 52, 53, 54, 55, 56, 57, 97, 98, 99, 100, 101, 102]⟩ : ByteArray).extract m (m + 1) ++ s2)] W fun e w' => e = .returned (.tuple #[.string A, .int .i64 E]) ∧ Below W.heap.size W w' := by
              intro W hW
              have hd : ((⟨#[47, 37]⟩ : ByteArray) ++ (⟨#[48, 49, 50, 51, 52, 53, 54, 55, 56, 57, 97, 98, 99, 100, 101, 102]⟩ : ByteArray).extract q (q + 1) ++ (⟨#[48, 49, 50, 51, 52, 53, 54, 55, 56, 57, 97, 98, 99, 100, 101, 102]⟩ : ByteArray).extract m (m + 1) ++ s2).data.toList = 47 :: 37 :: hexT.getD q 0 :: hexT.getD m 0 :: s2.data.toList := by
                rw [append_data, append_data, append_data, hexT_cut q (by omega), hexT_cut m hm16]
                rfl
              have hdg : (G ++ (⟨#[58, 56, 48]⟩ : ByteArray)).data.toList = s1.data.toList.map (fun c => c - 32) ++ [58, 56, 48] := by
                rw [append_data, hGd]
              have hz : (G ++ (⟨#[58, 56, 48]⟩ : ByteArray)).size ≤ 100000 := by rw [Lib.size_eq, hdg]; simp only [List.length_append, List.length_map, List.length_cons, List.length_nil]; omega
              have hz2 : ((⟨#[47, 37]⟩ : ByteArray) ++ (⟨#[48, 49, 50, 51, 52, 53, 54, 55, 56, 57, 97, 98, 99, 100, 101, 102]⟩ : ByteArray).extract q (q + 1) ++ (⟨#[48, 49, 50, 51, 52, 53, 54, 55, 56, 57, 97, 98, 99, 100, 101, 102]⟩ : ByteArray).extract m (m + 1) ++ s2).size ≤ 100000 := by rw [Lib.size_eq, hd]; simp only [List.length_cons]; omega
              have := normal_any _ _ W hz hz2 hW
              unfold errPost at this
              rw [hd, hdg] at this
              rw [hq, hm] at sm1
              rw [sm1, hAE] at this
              exact this
            have cN3 : ∀ W, Errs W → Calls Tryd.prog 9 #[.string ⟨#[120]⟩, .string ((⟨#[72, 84, 84, 80, 58, 47, 47]⟩ : ByteArray) ++ s1 ++ (⟨#[58, 47]⟩ : ByteArray) ++ CC ++ s2)] W fun e w' => e = .returned (.tuple #[.string A, .int .i64 E]) ∧ Below W.heap.size W w' := by
              intro W hW
              have hd : ((⟨#[72, 84, 84, 80, 58, 47, 47]⟩ : ByteArray) ++ s1 ++ (⟨#[58, 47]⟩ : ByteArray) ++ CC ++ s2).data.toList = [72, 84, 84, 80, 58, 47, 47] ++ s1.data.toList ++ [58] ++ 47 :: c :: s2.data.toList := by
                rw [append_data, append_data, append_data, append_data, hCd]
                simp
              have hz : ((⟨#[72, 84, 84, 80, 58, 47, 47]⟩ : ByteArray) ++ s1 ++ (⟨#[58, 47]⟩ : ByteArray) ++ CC ++ s2).size ≤ 100000 := by rw [Lib.size_eq, hd]; simp only [List.length_append, List.length_cons, List.length_nil]; omega
              have := normal_any ⟨#[120]⟩ _ W (by decide) hz hW
              unfold errPost at this
              rw [hd, show (⟨#[120]⟩ : ByteArray).data.toList = [120] from rfl, sm2, hAE] at this
              exact this
            have conv1 : ∀ W : World, (Go.convert 30 9 (.slice (some ⟨W.heap.size, 0, none⟩) 1 1)).run Tryd.prog (W.alloc (.cells #[.int .u8 (c.toNat : Int)] 5)) = .ok (.string CC) (W.alloc (.cells #[.int .u8 (c.toNat : Int)] 5)) := by
              intro W
              have := run_convert_bytes_back (P := Tryd.prog) (W.alloc (.cells #[.int .u8 (c.toNat : Int)] 5)) 30 9 5 ⟨W.heap.size, 0, none⟩ 1 [c] Tryd.underlying30 Tryd.underlying5 Tryd.underlying9 (by
                intro j hj
                match j, hj with
                | 0, _ => rw [add_none]; simp)
              rw [hCC] at this
              exact this
            have convG : ∀ W : World, RowIs W w1.heap.size (s1.data.toList.map (fun c => c - 32)) → (Go.convert 30 9 (.slice (some ⟨w1.heap.size, 0, none⟩) s1.size cap)).run Tryd.prog W = .ok (.string G) W := by
              intro W hR
              have := run_convert_bytes_back (P := Tryd.prog) W 30 9 5 ⟨w1.heap.size, 0, none⟩ cap (s1.data.toList.map (fun c => c - 32)) Tryd.underlying30 Tryd.underlying5 Tryd.underlying9 (by
                intro j hj
                have := (hR j hj).1
                rw [add_none, this, List.getD_eq_getElem?_getD, List.getElem?_eq_getElem hj]
                rfl)
              rw [List.length_map, ← Lib.size_eq, hG] at this
              exact this
            have k1 := conv1 wr
            have zC : CC.size ≤ 1 := by rw [Lib.size_eq, hCd]; exact Nat.le_refl _
            have zG : G.size ≤ 100 := by rw [Lib.size_eq, hGd, List.length_map]; omega
            have zq : ((⟨#[48, 49, 50, 51, 52, 53, 54, 55, 56, 57, 97, 98, 99, 100, 101, 102]⟩ : ByteArray).extract q (q + 1)).size ≤ 1 := by rw [Lib.size_eq, hexT_cut q (by omega)]; exact Nat.le_refl _
            have zm : ((⟨#[48, 49, 50, 51, 52, 53, 54, 55, 56, 57, 97, 98, 99, 100, 101, 102]⟩ : ByteArray).extract m (m + 1)).size ≤ 1 := by rw [Lib.size_eq, hexT_cut m hm16]; exact Nat.le_refl _
            have HC1 := Lib.hid conv1
            have HCG := Lib.hid convG
            have HQ : Hid ((c.toNat : Int).tdiv 16 = (q : Int) ∧ (c.toNat : Int) / 16 = (q : Int) ∧ (c.toNat : Int).tmod 16 = (m : Int) ∧ (c.toNat : Int) % 16 = (m : Int)) := Lib.hid ⟨by rw [Int.tdiv_eq_ediv_of_nonneg (by omega)]; omega, by omega, by rw [Int.tmod_eq_emod_of_nonneg (by omega)]; omega, by omega⟩
            clear conv1 convG sm1 sm2 hq hm hAE hCC hCd hG hGd hl97 hlen hlen2 HL HNE
            go_wp2_with fail
            refine (cN1 _ ?e1).mono ?_
            case e1 => exact HE.out.below (HB.out.alloc HB.out.size _)
            rintro e w2 ⟨rfl, hb2⟩
            have hbA := (Below.refl wr.heap.size wr).alloc (Nat.le_refl _) (.cells #[.int .u8 (c.toNat : Int)] 5)
            have hb02 : Below wr.heap.size wr w2 := hbA.trans (hb2.mono hbA.size)
            have HB2 := Lib.hid (HB.out.trans (hb02.mono HB.out.size))
            have HR2 : Hid (RowIs w2 w1.heap.size (s1.data.toList.map (fun c => c - 32))) := Lib.hid (fun j hj => by
              obtain ⟨a, b⟩ := HR.out j hj
              exact ⟨(hb02.cell (p := ⟨_, j, none⟩) hbz).trans a, (World.frozen?_of_block (a := ⟨w1.heap.size, j, none⟩) (hb02.block _ hbz)).trans b⟩)
            have hz2 : w1.heap.size < w2.heap.size := Nat.lt_of_lt_of_le hbz hb02.size
            clear hb2 hbA hb02 cN1 k1
            go_wp2_with fail
            have cG2 : ∀ W, heldG w w1.heap.size s1.size cap G (s1.data.toList.map (fun c => c - 32)) W → Calls Tryd.prog 9 #[.string (G ++ (⟨#[58, 56, 48]⟩ : ByteArray)), .string ((⟨#[47, 37]⟩ : ByteArray) ++ (⟨#[48, 49, 50, 51, 52, 53, 54, 55, 56, 57, 97, 98, 99, 100, 101, 102]⟩ : ByteArray).extract q (q + 1) ++ (⟨#[48, 49, 50, 51, 52, 53, 54, 55, 56, 57, 97, 98, 99, 100, 101, 102]⟩ : ByteArray).extract m (m + 1) ++ s2)] W fun e w' => e = .returned (.tuple #[.string A, .int .i64 E]) ∧ heldG w w1.heap.size s1.size cap G (s1.data.toList.map (fun c => c - 32)) w' := fun W hW => (cN2 W (HE.out.below hW.2.2.1)).mono fun e w' h => ⟨h.1, heldG_next HCG.out hW h.2⟩
            have hS0 : heldG w w1.heap.size s1.size cap G (s1.data.toList.map (fun c => c - 32)) w2 := ⟨HCG.out w2 HR2.out, HR2.out, HB2.out, hz2⟩
            have hS1 := heldG_next HCG.out hS0 (Below.refl _ _).drew
            clear hS0 cN2 hz2 HR2
            obtain ⟨q1, q2, q3, q4⟩ := HQ.out
            have w1q : IntKind.u8.wrap (q : Int) = (q : Int) := by rw [IntKind.wrap_u8]; omega
            have w1m : IntKind.u8.wrap (m : Int) = (m : Int) := by rw [IntKind.wrap_u8]; omega
            have w2q : IntKind.u8.wrap ((q : Int) + 1) = (q : Int) + 1 := by rw [IntKind.wrap_u8]; omega
            have w2m : IntKind.u8.wrap ((m : Int) + 1) = (m : Int) + 1 := by rw [IntKind.wrap_u8]; omega
            have t1 : ((q : Int) + 1).toNat = q + 1 := by omega
            have t2 : ((m : Int) + 1).toNat = m + 1 := by omega
            have l1 : (0 : Int) ≤ (q : Int) + 1 := by omega
            have l2 : (0 : Int) ≤ (m : Int) + 1 := by omega
            have l3 : (q : Int) + 1 ≤ 16 := by omega
            have l4 : (m : Int) + 1 ≤ 16 := by omega
            have l5 : (q : Int) ≤ (q : Int) + 1 := by omega
            have l6 : (m : Int) ≤ (m : Int) + 1 := by omega
            have n1 : ¬ 9223372036854775807 < G.size + 3 := by omega
            have n2 : ¬ 9223372036854775807 < 2 + (min (q + 1) 16 - q) := by omega
            have n3 : ¬ 9223372036854775807 < 2 + (min (q + 1) 16 - q) + (min (m + 1) 16 - m) := by omega
            have n4 : ¬ 9223372036854775807 < 2 + (min (q + 1) 16 - q) + (min (m + 1) 16 - m) + s2.size := by omega
            go_region_held3 (fun W => (Go.convert 30 9 (.slice (some ⟨w1.heap.size, 0, none⟩) s1.size cap)).run Tryd.prog W = .ok (.string G) W ∧ RowIs W w1.heap.size (s1.data.toList.map (fun c => c - 32)) ∧ Below w.heap.size w W ∧ w1.heap.size < W.heap.size) (with_reducible assumption) (first | (go_at_call 9; with_reducible refine (cG2 _ (by with_reducible assumption)).mono ?_; rintro e w' ⟨rfl, hh⟩))
            all_goals
              have r1 : (A.toList == A.toList) = true := beq_self_eq_true _
              have r2 : (E == E) = true := beq_self_eq_true _
              obtain ⟨_, _, hbF, _⟩ := hh
              have HBF := Lib.hid hbF
              have k3 := HC1.out w'
              clear hbF cG2 hS1
              have HBG := Lib.hid (HBF.out.alloc HBF.out.size (.cells #[.int .u8 (c.toNat : Int)] 5))
              go_wp2_with fail
              refine (cN3 _ ?e2).mono ?_
              case e2 => exact HE.out.below HBG.out
              rintro e w5 ⟨rfl, hb5⟩
              have HB5 := Lib.hid (HBG.out.trans (hb5.mono HBG.out.size))
              clear hb5
              go_wp2_with fail
              go_ret
              exact ⟨rfl, HB5.out⟩

set_option maxRecDepth 100000 in
set_option maxHeartbeats 4000000 in
/-- A byte that is no small letter: nothing is asked. -/
theorem same_none (s1 s2 : ByteArray) (c : UInt8) (w : World) (z1 : s1.size ≤ 100) (z2 : s2.size ≤ 200) (hc : (c.toNat : Int) < 97 ∨ (122 < (c.toNat : Int) ∧ ¬ (c.toNat : Int) < 97)) (hE : Errs w) :
    Calls Tryd.prog 5 #[.string s1, .string s2, .int .u8 (c.toNat : Int)] w fun e w' => e = .returned (.bool true) ∧ Below w.heap.size w w' := by
  have g1 : ¬ (100 < (s1.size : Int)) := by omega
  have g2 : ¬ (200 < (s2.size : Int)) := by omega
  have cA := awake9_any w hE
  rcases hc with hc | ⟨hc, hc2⟩
  all_goals
    go_enter Tryd.func5, Tryd.ntmps5
    go_wp2_with fail
    refine cA.mono ?_
    rintro e w1 ⟨rfl, hb1⟩
    have HB1 := Lib.hid hb1
    clear hb1 cA
    go_wp2_with fail
    go_loop [8] (fun i => ∃ k : Nat, k ≤ s1.size ∧ i = .int .i64 k) (fun i => s1.size - (intOf i).toNat)
    case atStart => exact ⟨0, Nat.zero_le _, rfl⟩
    case round =>
      obtain ⟨k, hk, rfl⟩ := hrel
      by_cases hlt : k < s1.size
      · cases h1 : decide (((s1[k]'hlt).toNat : Int) < 97)
        · cases h2 : decide (122 < ((s1[k]'hlt).toNat : Int))
          · go_wp2
            go_round
            case rel => exact ⟨k + 1, by omega, by go_num⟩
            case measure => simp [intOf]; omega
          · go_wp2
            go_ret
            exact ⟨rfl, HB1.out⟩
        · go_wp2
          go_ret
          exact ⟨rfl, HB1.out⟩
      · have c2 : ¬ (k : Int) < (s1.size : Int) := by omega
        clear hlt
        cases he : s1.toList.isEmpty
        · go_wp2
          go_ret
          exact ⟨rfl, HB1.out⟩
        · go_wp2
          go_ret
          exact ⟨rfl, HB1.out⟩

set_option maxRecDepth 100000 in
set_option maxHeartbeats 4000000 in
theorem same_walk (s1 s2 : ByteArray) (c : UInt8) (w : World) (hE : Errs w) :
    Calls Tryd.prog 5 #[.string s1, .string s2, .int .u8 (c.toNat : Int)] w fun e w' => e = .returned (.bool true) ∧ Below w.heap.size w w' := by
  have cA := awake9_any w hE
  by_cases z1 : s1.size ≤ 100
  · have g1 : ¬ (100 < (s1.size : Int)) := by omega
    by_cases z2 : s2.size ≤ 200
    · by_cases h1 : 97 ≤ c.toNat
      · by_cases h2 : c.toNat ≤ 122
        · exact same_main s1 s2 c w z1 z2 ⟨h1, h2⟩ hE
        · exact same_none s1 s2 c w z1 z2 (.inr ⟨by omega, by omega⟩) hE
      · exact same_none s1 s2 c w z1 z2 (.inl (by omega)) hE
    · have g2 : (200 < (s2.size : Int)) := by omega
      go_enter Tryd.func5, Tryd.ntmps5
      go_wp2_with fail
      refine cA.mono ?_
      rintro e w1 ⟨rfl, hb1⟩
      go_wp2_with fail
      go_ret
      exact ⟨rfl, hb1⟩
  · have g1 : (100 < (s1.size : Int)) := by omega
    go_enter Tryd.func5, Tryd.ntmps5
    go_wp2_with fail
    refine cA.mono ?_
    rintro e w1 ⟨rfl, hb1⟩
    go_wp2_with fail
    go_ret
    exact ⟨rfl, hb1⟩

end Go.Proofs.YtbbdifcmhoobaaaDoor
