/- The document's own Percent (sculleryref09). -/
import Derived.Test.YtbbdifcmhoobaaaGreatDoorRnA
import Derived.Test.YtbbdifcmhoobaaaGreatDoorBytP
import Derived.Test.YtbbdifcmhoobaaaGreatDoorErvP
import Derived.Test.YtbbdifcmhoobaaaGreatDoorTgW
import Derived.Laws.BytesArg
import Derived.Laws.AppendOwn
import Derived.StillTailTactics
import Derived.Deep.AppendLies
import Derived.Deep.RegionLaw
import Derived.Laws.BitsLemmas
namespace Go.Proofs.YtbbdifcmhoobaaaGreatDoor
open Go.RowKit Go.Lib

theorem info_bytR : (Tryz.prog.info? 5).map (fun i => (i.zero, i.size, i.bytes)) = some (some (.int .u8 0), 1, 1) := by kernel_rfl
/-- What is told so far. -/
def pcI (l : List UInt8) (k : Nat) (acc : List UInt8) : Prop := acc.length ≤ k ∧ pctL l = (pctL (l.drop k)).map (acc ++ ·)
theorem pcI_start (l : List UInt8) : pcI l 0 [] := ⟨Nat.le_refl _, by rw [List.drop_zero]; cases pctL l <;> rfl⟩
theorem pcI_end {l acc : List UInt8} (h : pcI l l.length acc) : pctL l = some acc := by
  rw [h.2, List.drop_length, pctL_nil, Option.map_some, List.append_nil]
theorem pcI_none {l acc : List UInt8} {k : Nat} {c : UInt8} (h : pcI l k acc) (hd : l.drop k = c :: l.drop (k + 1)) (hc : pctB c = false) : pctL l = none := by
  have h37 : c ≠ 37 := fun e => by rw [e] at hc; exact absurd hc (by decide)
  rw [h.2, hd, pctL_cons _ _ h37, hc, if_pos rfl]
  rfl
theorem pcI_plain {l acc : List UInt8} {k : Nat} {c : UInt8} (h : pcI l k acc) (hd : l.drop k = c :: l.drop (k + 1)) (hc : pctB c = true) (h37 : c ≠ 37) : pcI l (k + 1) (acc ++ [c]) := by
  refine ⟨by rw [List.length_append, List.length_singleton]; have := h.1; omega, ?_⟩
  rw [h.2, hd, pctL_cons _ _ h37, hc, if_neg (by decide)]
  cases pctL (l.drop (k + 1)) <;> simp
theorem pcI_bad {l acc : List UInt8} {k : Nat} (h : pcI l k acc) (hd : l.drop k = 37 :: l.drop (k + 1)) (hx : hx2 (l.drop (k + 1)) = false) : pctL l = none := by
  rw [h.2, hd, pctL_pct, hx]
  rfl
theorem pcI_pct {l acc : List UInt8} {k : Nat} {a b : UInt8} (h : pcI l k acc) (hd : l.drop k = 37 :: l.drop (k + 1)) (hr : l.drop (k + 1) = a :: b :: l.drop (k + 3)) (ha : hxN a < 16) (hb : hxN b < 16) : pcI l (k + 3) (acc ++ pctU a b) := by
  have hU : (pctU a b).length ≤ 3 := by
    rw [pctU]
    split <;> simp
  refine ⟨by rw [List.length_append]; have := h.1; omega, ?_⟩
  have hx : hx2 (l.drop (k + 1)) = true := by rw [hr]; simp [hx2, ha, hb]
  rw [h.2, hd, pctL_pct, hx, if_pos rfl, hr, show (a :: b :: l.drop (k + 3)).getD 0 0 = a from rfl, show (a :: b :: l.drop (k + 3)).getD 1 0 = b from rfl, show (a :: b :: l.drop (k + 3)).drop 2 = l.drop (k + 3) from rfl]
  cases pctL (l.drop (k + 3)) <;> simp
theorem hexS_up (k : Nat) (h : k < 16) : hexS.getD k 0 = hxU k := by
  have : ∀ j : Fin 16, hexS.getD j.val 0 = hxU j.val := by decide +kernel
  exact this ⟨k, h⟩
theorem hexS_get (k : Nat) (h : k < 16) : (⟨#[48, 49, 50, 51, 52, 53, 54, 55, 56, 57, 65, 66, 67, 68, 69, 70]⟩ : ByteArray)[k]'h = hexS.getD k 0 := by
  have : ∀ j : Fin 16, (⟨#[48, 49, 50, 51, 52, 53, 54, 55, 56, 57, 65, 66, 67, 68, 69, 70]⟩ : ByteArray)[j.val]'j.isLt = hexS.getD j.val 0 := by decide
  exact this ⟨k, h⟩
theorem pctI2_of (c : UInt8) : pctB c = (!decide ((c.toNat : Int) < 33) && !decide (126 < (c.toNat : Int)) && !((c.toNat : Int) == 35)) := by
  have h1 : ((c.toNat : Int) == 35) = (c == 35) := byte_beq c 35
  have h2 : decide ((c.toNat : Int) < 33) = !decide (33 ≤ c.toNat) := by
    by_cases h : 33 ≤ c.toNat
    · rw [decide_eq_true h, decide_eq_false (by omega)]; rfl
    · rw [decide_eq_false h, decide_eq_true (by omega)]; rfl
  have h3 : decide (126 < (c.toNat : Int)) = !decide (c.toNat ≤ 126) := by
    by_cases h : c.toNat ≤ 126
    · rw [decide_eq_true h, decide_eq_false (by omega)]; rfl
    · rw [decide_eq_false h, decide_eq_true (by omega)]; rfl
  rw [pctB, h1, h2, h3, Bool.not_not, Bool.not_not]
  rfl
theorem bytV_snoc (acc : List UInt8) (c : UInt8) : acc.map bytV ++ [.int .u8 (c.toNat : Int)] = (acc ++ [c]).map bytV := by simp [bytV]

set_option maxRecDepth 100000 in
set_option maxHeartbeats 4000000 in
theorem npercent_any (s : ByteArray) (w : World) (hs : s.size ≤ 100000) :
    Calls Tryz.prog 8 #[.string s] w (errPost (pctL s.data.toList) w) := by
  obtain ⟨i0, hi, hz0, hz1, hz2⟩ := info_parts info_bytR
  have hz := Lib.hid (Lib.size_eq s)
  go_enter Tryz.func8, Tryz.ntmps8
  go_wp2_with fail
  go_loopw [4, 5] (fun v i wr => ∃ (k : Nat) (acc : List UInt8), k ≤ s.size ∧ i = .int .i64 k ∧ Hid (pcI s.data.toList k acc) ∧ wr.ownsRow w.heap.size 5 1 v acc.length (acc.map bytV) ∧ Below w.heap.size w wr) (fun _ i _ => s.size - (intOf i).toNat)
  case atStart => exact ⟨0, [], Nat.zero_le _, rfl, Lib.hid (pcI_start _), World.ownsRow_made _ _ _ (Nat.le_refl _) (by decide) rfl, (Below.refl _ _).alloc (Nat.le_refl _) _⟩
  case round =>
    obtain ⟨k, acc, hk, rfl, H, hown, hb⟩ := hrel
    have hal : acc.length ≤ 100000 := Nat.le_trans H.out.1 (Nat.le_trans hk hs)
    by_cases hlt : k < s.size
    · have hd := Lib.hid (drop_cons_at s k hlt)
      have hp := pctI2_of (s[k]'hlt)
      have Hnn : Hid (pctB (s[k]'hlt) = false → errV (pctL s.data.toList) = .tuple #[.string ⟨#[]⟩, .int .i64 2]) := Lib.hid (fun h => by rw [pcI_none H.out hd.out h]; rfl)
      cases h1 : decide (((s[k]'hlt).toNat : Int) < 33)
      · cases h2 : decide (126 < ((s[k]'hlt).toNat : Int))
        · cases h3 : (((s[k]'hlt).toNat : Int) == 35)
          · have hpc : pctB (s[k]'hlt) = true := by rw [hp, h1, h2, h3]; rfl
            have e37 : (((s[k]'hlt).toNat : Int) == 37) = ((s[k]'hlt) == 37) := byte_beq _ 37
            cases h4 : ((s[k]'hlt) == 37)
            · rw [h4] at e37
              have e37b : (((s[k]'hlt).toNat : Int) != 37) = true := by rw [bne, e37]; rfl
              have HN := Lib.hid (pcI_plain H.out hd.out hpc (by simpa using h4))
              have Hsn := Lib.hid (bytV_snoc acc (s[k]'hlt))
              clear hp Hnn hpc
              go_wp2_with (at_builtin; refine wpList_append_own _ rfl _ _ 36 rfl w.heap.size 5 i0 (.int .u8 0) 1 1 Tryz.underlying36 hi hz0 hz1 hz2 rfl (by decide) _ _ _ rfl (hown.alloc _) ⟨_, 0, none⟩ 1 1 [.int .u8 ((s[k]'hlt).toNat : Int)] rfl rfl (cell_one_new _ _ _) (by intro u hu; simp at hu; subst hu; rfl) (by unfold maxLen; omega) (by omega) (by have := hb.size; simp; omega) ?_; intro v' w1 hown' hgrow _)
              go_roundw
              case rel =>
                refine ⟨k + 1, acc ++ [s[k]'hlt], by omega, by go_num, HN, ?_, (hb.alloc hb.size _).grown hgrow (by have := hb.size; simp; omega) (fun k e => (World.ownsRow.lt hown k e).1)⟩
                rw [← Hsn.out, List.length_append]
                exact hown'
              case measure => simp [intOf]; omega
            · rw [h4] at e37
              have e37b : (((s[k]'hlt).toNat : Int) != 37) = false := by rw [bne, e37]; rfl
              have hc37 : s[k]'hlt = 37 := beq_iff_eq.1 h4
              have hd37 := hd.out
              rw [hc37] at hd37
              have HD := Lib.hid hd37
              clear hp Hnn hpc hd37 h4
              by_cases hl2 : k + 2 < s.size
              · have q1 : k + 1 < s.size := by omega
                have c1 : ¬ ((s.size : Int) ≤ (k : Int) + 2) := by omega
                have c2 : (k : Int) + 1 < (s.size : Int) := by omega
                have c3 : (k : Int) + 2 < (s.size : Int) := by omega
                have Hr : Hid (s.data.toList.drop (k + 1) = (s[k + 1]'q1) :: (s[k + 2]'hl2) :: s.data.toList.drop (k + 3)) := Lib.hid (by rw [drop_cons_at s (k + 1) q1, drop_cons_at s (k + 2) hl2])
                have cA := fun W => nhex_any (s[k + 1]'q1) W
                have cB := fun W => nhex_any (s[k + 2]'hl2) W
                by_cases ha : hxN (s[k + 1]'q1) < 16
                · have ea : hxI (s[k + 1]'q1) = (hxN (s[k + 1]'q1) : Int) := by rw [hxI, if_pos ha]
                  rw [ea] at cA
                  have n1 : ¬ ((hxN (s[k + 1]'q1) : Int) < 0) := by omega
                  by_cases hbx : hxN (s[k + 2]'hl2) < 16
                  · have eb : hxI (s[k + 2]'hl2) = (hxN (s[k + 2]'hl2) : Int) := by rw [hxI, if_pos hbx]
                    rw [eb] at cB
                    have n2 : ¬ ((hxN (s[k + 2]'hl2) : Int) < 0) := by omega
                    have HN := Lib.hid (pcI_pct H.out HD.out Hr.out ha hbx)
                    have hUd : pctU (s[k + 1]'q1) (s[k + 2]'hl2) = if plnB (UInt8.ofNat (16 * hxN (s[k + 1]'q1) + hxN (s[k + 2]'hl2))) = true then [UInt8.ofNat (16 * hxN (s[k + 1]'q1) + hxN (s[k + 2]'hl2))] else [37, hxU (hxN (s[k + 1]'q1)), hxU (hxN (s[k + 2]'hl2))] := rfl
                    have hsa := hexS_up _ ha
                    have hsb := hexS_up _ hbx
                    generalize pctU (s[k + 1]'q1) (s[k + 2]'hl2) = U at *
                    generalize hna : hxN (s[k + 1]'q1) = na at *
                    generalize hnb : hxN (s[k + 2]'hl2) = nb at *
                    have hwr : IntKind.u8.wrap (16 * (na : Int) + (nb : Int)) = (((UInt8.ofNat (16 * na + nb)).toNat : Nat) : Int) := by
                      rw [IntKind.wrap_u8, UInt8.toNat_ofNat']
                      omega
                    have hwr2 : (16 * (na : Int) + (nb : Int)) % 256 = (((UInt8.ofNat (16 * na + nb)).toNat : Nat) : Int) := by
                      rw [UInt8.toNat_ofNat']
                      omega
                    have cP := fun W => nplain_any (UInt8.ofNat (16 * na + nb)) W
                    have HU := Lib.hid hUd
                    have HSA := Lib.hid hsa
                    have HSB := Lib.hid hsb
                    clear hUd hsa hsb ea eb hna hnb Hr HD
                    have ja : (na : Int) < 16 := by omega
                    have jb : (nb : Int) < 16 := by omega
                    have HB := Lib.hid hb
                    have hsz := hb.size
                    cases hpl : plnB (UInt8.ofNat (16 * na + nb))
                    · rw [hpl] at cP
                      have hls : na < (⟨#[48, 49, 50, 51, 52, 53, 54, 55, 56, 57, 65, 66, 67, 68, 69, 70]⟩ : ByteArray).size := ha
                      have hlt2 : nb < (⟨#[48, 49, 50, 51, 52, 53, 54, 55, 56, 57, 65, 66, 67, 68, 69, 70]⟩ : ByteArray).size := hbx
                      have hga : (⟨#[48, 49, 50, 51, 52, 53, 54, 55, 56, 57, 65, 66, 67, 68, 69, 70]⟩ : ByteArray)[na]'hls = hxU na := (hexS_get na ha).trans HSA.out
                      have hgb : (⟨#[48, 49, 50, 51, 52, 53, 54, 55, 56, 57, 65, 66, 67, 68, 69, 70]⟩ : ByteArray)[nb]'hlt2 = hxU nb := (hexS_get nb hbx).trans HSB.out
                      have HU2 : Hid (U = [37, hxU na, hxU nb]) := Lib.hid (by rw [HU.out, hpl, if_neg (by decide)])
                      clear hpl HU
                      generalize UInt8.ofNat (16 * na + nb) = cN at *
                      go_wp2_with fail
                      refine (cA _).mono ?_
                      rintro e w1 ⟨rfl, rfl⟩
                      go_wp2_with fail
                      refine (cB _).mono ?_
                      rintro e w1 ⟨rfl, rfl⟩
                      go_wp2_with fail
                      refine (cA _).mono ?_
                      rintro e w1 ⟨rfl, rfl⟩
                      go_wp2_with fail
                      refine (cB _).mono ?_
                      rintro e w1 ⟨rfl, rfl⟩
                      go_wp2_with fail
                      refine (cP _).mono ?_
                      rintro e w1 ⟨rfl, rfl⟩
                      go_wp2_with fail
                      have HO1 := Lib.hid ((ownsRow_later hown (Below.refl wr.heap.size wr).drew).alloc (.cells #[.int .u8 37, .int .u8 ((hxU na).toNat : Int), .int .u8 ((hxU nb).toNat : Int)] 5))
                      have HN1 := Lib.hid (World.news_of_block (heap_alloc_new wr.drew (.cells #[.int .u8 37, .int .u8 ((hxU na).toNat : Int), .int .u8 ((hxU nb).toNat : Int)] 5)))
                      have HC1 : Hid (∀ u ∈ [Value.int .u8 37, .int .u8 ((hxU na).toNat : Int), .int .u8 ((hxU nb).toNat : Int)], u.oneCell' = true) := Lib.hid (by intro u hu; simp at hu; rcases hu with rfl | rfl | rfl <;> rfl)
                      have hbD := (Below.refl wr.heap.size wr).drew.alloc (Nat.le_refl _) (.cells #[.int .u8 37, .int .u8 ((hxU na).toNat : Int), .int .u8 ((hxU nb).toNat : Int)] 5)
                      have hz3 : w.heap.size ≤ (wr.drew.alloc (.cells #[.int .u8 37, .int .u8 ((hxU na).toNat : Int), .int .u8 ((hxU nb).toNat : Int)] 5)).heap.size := Nat.le_trans hsz hbD.size
                      have HBD := Lib.hid (hb.trans (hbD.mono hb.size))
                      have Hsn : Hid (acc.map bytV ++ [.int .u8 37, .int .u8 ((hxU na).toNat : Int), .int .u8 ((hxU nb).toNat : Int)] = (acc ++ U).map bytV) := Lib.hid (by rw [HU2.out]; simp [bytV])
                      have Hul : Hid (acc.length + 3 = (acc ++ U).length) := Lib.hid (by rw [HU2.out, List.length_append]; rfl)
                      have HOW := Lib.hid hown
                      clear hbD hown hb
                      go_region_law (refine step_append_lies _ rfl (.tmp 81) (.tmp 88) 36 rfl w.heap.size 5 i0 (.int .u8 0) 1 1 Tryz.underlying36 hi hz0 hz1 hz2 rfl (by decide) _ acc.length (acc.map bytV) (by simp [Act.eval]) HO1.out ⟨wr.heap.size, 0, none⟩ 3 3 [.int .u8 37, .int .u8 ((hxU na).toNat : Int), .int .u8 ((hxU nb).toNat : Int)] (by simp [Act.eval]) rfl HN1.out HC1.out (by decide) (by unfold maxLen; omega) (by omega) hz3 _ rfl ?_; intro g cap3 w5 hown5 hgrow5 hor5 hlt5)
                      all_goals
                        go_wp2_with fail
                        go_roundw
                        case rel =>
                          refine ⟨k + 3, acc ++ U, by omega, by go_num, HN, ?_, HBD.out.grown hgrow5 hz3 (fun k e => (World.ownsRow.lt HOW.out k e).1)⟩
                          rw [← Hsn.out, ← Hul.out]
                          exact hown5
                        case measure => simp [intOf]; omega
                    · rw [hpl] at cP
                      have HU2 : Hid (U = [UInt8.ofNat (16 * na + nb)]) := Lib.hid (by rw [HU.out, hpl, if_pos rfl])
                      have Hsn : Hid (acc.map bytV ++ [.int .u8 ((UInt8.ofNat (16 * na + nb)).toNat : Int)] = (acc ++ U).map bytV) := Lib.hid (by rw [HU2.out]; simp [bytV])
                      have Hul : Hid (acc.length + 1 = (acc ++ U).length) := Lib.hid (by rw [HU2.out, List.length_append]; rfl)
                      clear hpl HU HU2
                      generalize UInt8.ofNat (16 * na + nb) = cN at *
                      go_wp2_with fail
                      refine (cA _).mono ?_
                      rintro e w1 ⟨rfl, rfl⟩
                      go_wp2_with fail
                      refine (cB _).mono ?_
                      rintro e w1 ⟨rfl, rfl⟩
                      go_wp2_with fail
                      refine (cA _).mono ?_
                      rintro e w1 ⟨rfl, rfl⟩
                      go_wp2_with fail
                      refine (cB _).mono ?_
                      rintro e w1 ⟨rfl, rfl⟩
                      go_wp2_with fail
                      refine (cP _).mono ?_
                      rintro e w1 ⟨rfl, rfl⟩
                      go_wp2_with (at_builtin; refine wpList_append_own _ rfl _ _ 36 rfl w.heap.size 5 i0 (.int .u8 0) 1 1 Tryz.underlying36 hi hz0 hz1 hz2 rfl (by decide) _ _ _ rfl (hown.alloc _) ⟨_, 0, none⟩ 1 1 [.int .u8 (cN.toNat : Int)] rfl rfl (cell_one_new _ _ _) (by intro u hu; simp at hu; subst hu; rfl) (by unfold maxLen; omega) (by omega) (by simp; omega) ?_; intro v' w1 hown' hgrow _)
                      go_roundw
                      case rel =>
                        refine ⟨k + 3, acc ++ U, by omega, by go_num, HN, ?_, (hb.alloc hb.size _).grown hgrow (by simp; omega) (fun k e => (World.ownsRow.lt hown k e).1)⟩
                        rw [← Hsn.out, ← Hul.out]
                        exact hown'
                      case measure => simp [intOf]; omega
                  · have eb : hxI (s[k + 2]'hl2) = -1 := by rw [hxI, if_neg hbx]
                    rw [eb] at cB
                    have hx : hx2 (s.data.toList.drop (k + 1)) = false := by
                      rw [Hr.out]
                      simp [hx2, hbx]
                    have HR : Hid (errV (pctL s.data.toList) = .tuple #[.string ⟨#[]⟩, .int .i64 2]) := Lib.hid (by rw [pcI_bad H.out HD.out hx]; rfl)
                    have HB := Lib.hid hb
                    clear hx eb hbx Hr HD hown hb ea
                    go_wp2_with fail
                    refine (cA _).mono ?_
                    rintro e w1 ⟨rfl, rfl⟩
                    go_wp2_with fail
                    refine (cB _).mono ?_
                    rintro e w1 ⟨rfl, rfl⟩
                    go_wp2_with fail
                    refine bodyPost_ret (v := .tuple #[.string ⟨#[]⟩, .int .i64 2]) (by simp [results, Tryz.results8, go_sem]) rfl ⟨by rw [HR.out] <;> rfl, HB.out⟩
                · have ea : hxI (s[k + 1]'q1) = -1 := by rw [hxI, if_neg ha]
                  rw [ea] at cA
                  have hx : hx2 (s.data.toList.drop (k + 1)) = false := by
                    rw [Hr.out]
                    simp [hx2, ha]
                  have HR : Hid (errV (pctL s.data.toList) = .tuple #[.string ⟨#[]⟩, .int .i64 2]) := Lib.hid (by rw [pcI_bad H.out HD.out hx]; rfl)
                  have HB := Lib.hid hb
                  clear hx ea ha Hr HD hown hb cB
                  go_wp2_with fail
                  refine (cA _).mono ?_
                  rintro e w1 ⟨rfl, rfl⟩
                  go_wp2_with fail
                  refine bodyPost_ret (v := .tuple #[.string ⟨#[]⟩, .int .i64 2]) (by simp [results, Tryz.results8, go_sem]) rfl ⟨by rw [HR.out] <;> rfl, HB.out⟩
              · have c1 : (s.size : Int) ≤ (k : Int) + 2 := by omega
                have hx : hx2 (s.data.toList.drop (k + 1)) = false := by
                  have hl : (s.data.toList.drop (k + 1)).length < 2 := by rw [List.length_drop, ← hz.out]; omega
                  rw [hx2, decide_eq_false (by omega)]
                  rfl
                have HR : Hid (errV (pctL s.data.toList) = .tuple #[.string ⟨#[]⟩, .int .i64 2]) := Lib.hid (by rw [pcI_bad H.out HD.out hx]; rfl)
                have HB := Lib.hid hb
                clear hx HD hown hb
                go_wp2_with fail
                refine bodyPost_ret (v := .tuple #[.string ⟨#[]⟩, .int .i64 2]) (by simp [results, Tryz.results8, go_sem]) rfl ⟨by rw [HR.out] <;> rfl, HB.out⟩
          · have HR := Lib.hid (Hnn.out (by rw [hp, h1, h2, h3]; rfl))
            have HB := Lib.hid hb
            clear hp Hnn hown hb
            go_wp2_with fail
            refine bodyPost_ret (v := .tuple #[.string ⟨#[]⟩, .int .i64 2]) (by simp [results, Tryz.results8, go_sem]) rfl ⟨by rw [HR.out] <;> rfl, HB.out⟩
        · have HR := Lib.hid (Hnn.out (by rw [hp, h1, h2]; rfl))
          have HB := Lib.hid hb
          clear hp Hnn hown hb
          go_wp2_with fail
          refine bodyPost_ret (v := .tuple #[.string ⟨#[]⟩, .int .i64 2]) (by simp [results, Tryz.results8, go_sem]) rfl ⟨by rw [HR.out] <;> rfl, HB.out⟩
      · have HR := Lib.hid (Hnn.out (by rw [hp, h1]; rfl))
        have HB := Lib.hid hb
        clear hp Hnn hown hb
        go_wp2_with fail
        refine bodyPost_ret (v := .tuple #[.string ⟨#[]⟩, .int .i64 2]) (by simp [results, Tryz.results8, go_sem]) rfl ⟨by rw [HR.out] <;> rfl, HB.out⟩
    · have c9 : ¬ (k : Int) < (s.size : Int) := by omega
      have hke : k = s.data.toList.length := by rw [← hz.out]; omega
      have hend := H.out
      rw [hke] at hend
      have HO : Hid (errV (pctL s.data.toList) = .tuple #[.string (strB acc), .int .i64 0]) := Lib.hid (by rw [pcI_end hend]; rfl)
      have HB := Lib.hid hb
      have hnil : strB [] = ByteArray.empty := rfl
      clear hend hke H
      rcases hown.2 with ⟨hv, hz9⟩ | ⟨g, cap, cur, hv, _, hh, _⟩
      · have hacc : acc = [] := List.eq_nil_of_length_eq_zero hz9
        have hback := run_convert_bytes_nil (P := Tryz.prog) wr 36 5 Tryz.underlying36 Tryz.underlying5 0 0 9 Tryz.underlying9
        have HO2 : Hid (errV (pctL s.data.toList) = .tuple #[.string ByteArray.empty, .int .i64 0]) := Lib.hid (by rw [HO.out, hacc]; rfl)
        rw [hv]
        clear hown hv hz9 hb hacc
        go_wp2
        refine bodyPost_ret (v := .tuple #[.string ByteArray.empty, .int .i64 0]) (by simp [results, Tryz.results8, go_sem]) rfl ⟨by rw [HO2.out] <;> rfl, HB.out⟩
      · have hback := run_convert_bytes_back (P := Tryz.prog) wr 36 9 5 ⟨g, 0, none⟩ cap acc Tryz.underlying36 Tryz.underlying5 Tryz.underlying9 (by
          intro j hj
          exact World.ownsRow.cells hown (g := g) (by rw [hv]; rfl) j _ (by rw [List.getElem?_map, List.getElem?_eq_getElem hj]; rfl))
        rw [hv]
        clear hown hv hh hb
        go_wp2
        refine bodyPost_ret (v := .tuple #[.string ⟨acc.toArray⟩, .int .i64 0]) (by simp [results, Tryz.results8, go_sem]) rfl ⟨by rw [HO.out] <;> rfl, HB.out⟩

end Go.Proofs.YtbbdifcmhoobaaaGreatDoor
