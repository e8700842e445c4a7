/- The contract of head.fieldOf. -/
import Derived.Test.YtfhpgobdnhlpcaaDoorHdC
namespace Go.Proofs.YtfhpgobdnhlpcaaDoor
open Go.RowKit Go.Shelf Go.Lib

/-- The field that a line is: its name and its value. -/
def fldL (l : List UInt8) : Option (List UInt8 × List UInt8) :=
  if Lib.indexByte l 58 = -1 then none
  else if tokL (l.take (Lib.indexByte l 58).toNat) = true ∧ txtL (trimL (l.drop ((Lib.indexByte l 58).toNat + 1))) = true then some (lowL (l.take (Lib.indexByte l 58).toNat), trimL (l.drop ((Lib.indexByte l 58).toNat + 1)))
  else none
def fldV (o : Option (List UInt8 × List UInt8)) : Value := match o with
  | none => .tuple #[.agg #[.string ⟨#[]⟩, .string ⟨#[]⟩], .int .i64 2]
  | some p => .tuple #[.agg #[.string (strB p.1), .string (strB p.2)], .int .i64 0]

abbrev zeroF : Obj := .cells #[.string ⟨#[]⟩, .string ⟨#[]⟩] 42
structure Res2 (W : World) (c : Nat) : Prop where
  r0 : W.cell? ⟨c, 0, none⟩ = some (.string ⟨#[]⟩)
  r1 : W.cell? ⟨c, 1, none⟩ = some (.string ⟨#[]⟩)
  g0 : W.frozen? ⟨c, 0, none⟩ = false
  g1 : W.frozen? ⟨c, 1, none⟩ = false
theorem Res2.made (w : World) : Res2 (w.alloc zeroF) w.heap.size := ⟨by simp, by simp, by simp, by simp⟩
theorem Res2.lt {W : World} {c : Nat} (h : Res2 W c) : c < W.heap.size := lt_of_cell h.r0
theorem Res2.next {W W1 : World} {c : Nat} (h : Res2 W c) (hb : Below W.heap.size W W1) : Res2 W1 c :=
  ⟨(hb.cell (p := ⟨c, 0, none⟩) h.lt).trans h.r0, (hb.cell (p := ⟨c, 1, none⟩) h.lt).trans h.r1, (hb.frozen (p := ⟨c, 0, none⟩) h.lt).trans h.g0, (hb.frozen (p := ⟨c, 1, none⟩) h.lt).trans h.g1⟩

theorem dropWhile_le (p : UInt8 → Bool) : ∀ l : List UInt8, (l.dropWhile p).length ≤ l.length
  | [] => Nat.le_refl _
  | c :: l => by
    have := dropWhile_le p l
    rw [List.dropWhile_cons]
    split
    · simp only [List.length_cons]; omega
    · exact Nat.le_refl _

theorem trimL_le (l : List UInt8) : (trimL l).length ≤ l.length := by
  unfold trimL trL tlL
  have h1 := dropWhile_le blkB (List.dropWhile blkB l).reverse
  have h2 := dropWhile_le blkB l
  simp only [List.length_reverse] at h1 ⊢
  omega

set_option maxHeartbeats 4000000 in
theorem fieldOf_any (s : ByteArray) (w : World) (hs : s.size ≤ 100000) (hT : Tabs w) :
    Calls Tryd.prog 30 #[.string s] w fun e w' => e = .returned (fldV (fldL s.data.toList)) ∧ Below w.heap.size w w' := by
  have hb0 : Below w.heap.size w (w.alloc zeroF) := (Below.refl _ _).alloc (Nat.le_refl _) _
  have cC := cut_any s 58 (w.alloc zeroF) hs
  have HR0 := Lib.hid (Res2.made w)
  have HT := Lib.hid hT
  have HB0 := Lib.hid hb0
  have hsz := Lib.size_eq s
  unfold cutV at cC
  clear hb0 hT
  by_cases h : Lib.indexByte s.data.toList 58 = -1
  · rw [if_pos h] at cC
    have HL : Hid (fldL s.data.toList = none) := Lib.hid (by rw [fldL, if_pos h])
    have cM := fun W hW => trim_any ⟨#[]⟩ W (by decide) hW
    rw [show trimL (⟨#[]⟩ : ByteArray).data.toList = [] from rfl] at cM
    clear h hsz
    generalize strB s.data.toList = B at *
    go_enter Tryd.func30, Tryd.ntmps30
    go_wp2_with fail
    refine cC.mono ?_
    rintro e w1 ⟨rfl, hb1⟩
    have HB1 := Lib.hid (HB0.out.trans (hb1.mono HB0.out.size))
    have HR1 := Lib.hid (HR0.out.next hb1)
    clear hb1 cC
    go_wp2_with fail
    refine (cM _ (Utf8Tabs_below HT.out HB1.out)).mono ?_
    rintro e w2 ⟨rfl, hb2⟩
    have HB2 := Lib.hid (HB1.out.trans (hb2.mono HB1.out.size))
    have HR2 := Lib.hid (HR1.out.next hb2)
    clear hb2 cM
    obtain ⟨r0, r1, g0, g1⟩ := HR2.out
    have hlt := HR2.out.lt
    go_wp2_with fail
    refine bodyPost_ret (v := .tuple #[.agg #[.string ⟨#[]⟩, .string ⟨#[]⟩], .int .i64 2]) (by simp [results, Tryd.results30, go_sem, r0, r1]) rfl ⟨by rw [HL.out]; rfl, ?_⟩
    repeat (first | with_reducible refine Below.setCell ?_ (by simp) _)
    exact HB2.out
  · rw [if_neg h] at cC
    obtain ⟨k, hk⟩ : ∃ k, (Lib.indexByte s.data.toList 58).toNat = k := ⟨_, rfl⟩
    rw [hk] at cC
    have hL : fldL s.data.toList = if tokL (s.data.toList.take k) = true ∧ txtL (trimL (s.data.toList.drop (k + 1))) = true then some (lowL (s.data.toList.take k), trimL (s.data.toList.drop (k + 1))) else none := by rw [fldL, if_neg h, hk]
    have h1 : (s.data.toList.take k).length ≤ 100000 := by rw [List.length_take]; omega
    have h2 : (s.data.toList.drop (k + 1)).length ≤ 100000 := by rw [List.length_drop]; omega
    obtain ⟨O, hO⟩ : ∃ O, fldL s.data.toList = O := ⟨_, rfl⟩
    rw [hO] at hL ⊢
    clear hO
    generalize s.data.toList.take k = N at *
    generalize s.data.toList.drop (k + 1) = D at *
    have h3 : (trimL D).length ≤ 100000 := Nat.le_trans (trimL_le D) h2
    have cM := fun W hW => trim_any (strB D) W (by rw [strB_size]; unfold maxLen; omega) hW
    have cK := fun W => token_any (strB N) W (by rw [strB_size]; unfold maxLen; omega)
    have cX := fun W hW => text_any (strB (trimL D)) W (by rw [strB_size]; unfold maxLen; omega) hW
    have cW := fun W => lower_any (strB N) W (by rw [strB_size]; unfold maxLen; omega)
    rw [strB_data] at cM cK cX cW
    rw [show (⟨(trimL D).toArray⟩ : ByteArray) = strB (trimL D) from rfl] at cM
    rw [show (⟨(lowL N).toArray⟩ : ByteArray) = strB (lowL N) from rfl] at cW
    generalize trimL D = V at *
    have HL := Lib.hid hL
    clear h hk h1 h2 h3 hL hsz
    obtain ⟨SN, hSN⟩ : ∃ SN, strB N = SN := ⟨_, rfl⟩
    obtain ⟨SD, hSD⟩ : ∃ SD, strB D = SD := ⟨_, rfl⟩
    obtain ⟨SV, hSV⟩ : ∃ SV, strB V = SV := ⟨_, rfl⟩
    obtain ⟨SL, hSL⟩ : ∃ SL, strB (lowL N) = SL := ⟨_, rfl⟩
    obtain ⟨a, ha⟩ : ∃ a, tokL N = a := ⟨_, rfl⟩
    obtain ⟨b, hb⟩ : ∃ b, txtL V = b := ⟨_, rfl⟩
    rw [hSL] at cW
    rw [hSN] at cK cC cW
    rw [hSD] at cM cC
    rw [hSV] at cM cX
    rw [ha] at cK HL
    rw [hb] at cX HL
    have HSV := Lib.hid hSV
    have HSL := Lib.hid hSL
    clear ha hb hSN hSD hSV hSL
    cases a
    · have HN : Hid (O = none) := Lib.hid (by rw [HL.out, if_neg (by simp)])
      go_enter Tryd.func30, Tryd.ntmps30
      go_wp2_with fail
      refine cC.mono ?_
      rintro e w1 ⟨rfl, hb1⟩
      have HB1 := Lib.hid (HB0.out.trans (hb1.mono HB0.out.size))
      have HR1 := Lib.hid (HR0.out.next hb1)
      clear hb1 cC
      go_wp2_with fail
      refine (cM _ (Utf8Tabs_below HT.out HB1.out)).mono ?_
      rintro e w2 ⟨rfl, hb2⟩
      have HB2 := Lib.hid (HB1.out.trans (hb2.mono HB1.out.size))
      have HR2 := Lib.hid (HR1.out.next hb2)
      clear hb2 cM
      obtain ⟨r0, r1, g0, g1⟩ := HR2.out
      have hlt := HR2.out.lt
      go_wp2_with (go_at_call 51; refine (cK _).mono ?_; rintro e w' ⟨rfl, rfl⟩)
      refine bodyPost_ret (v := .tuple #[.agg #[.string ⟨#[]⟩, .string ⟨#[]⟩], .int .i64 2]) (by simp [results, Tryd.results30, go_sem, r0, r1]) rfl ⟨by rw [HN.out]; rfl, ?_⟩
      repeat (first | with_reducible refine Below.setCell ?_ (by simp) _)
      exact HB2.out
    · cases b
      · have HN : Hid (O = none) := Lib.hid (by rw [HL.out, if_neg (by simp)])
        go_enter Tryd.func30, Tryd.ntmps30
        go_wp2_with fail
        refine cC.mono ?_
        rintro e w1 ⟨rfl, hb1⟩
        have HB1 := Lib.hid (HB0.out.trans (hb1.mono HB0.out.size))
        have HR1 := Lib.hid (HR0.out.next hb1)
        clear hb1 cC
        go_wp2_with fail
        refine (cM _ (Utf8Tabs_below HT.out HB1.out)).mono ?_
        rintro e w2 ⟨rfl, hb2⟩
        have HB2 := Lib.hid (HB1.out.trans (hb2.mono HB1.out.size))
        have HR2 := Lib.hid (HR1.out.next hb2)
        clear hb2 cM
        go_wp2_with (first | (go_at_call 51; refine (cK _).mono ?_; rintro e w' ⟨rfl, rfl⟩) | (go_at_call 52; refine (cX _ (Utf8Tabs_below HT.out HB2.out)).mono ?_; rintro e w3 ⟨rfl, hb3⟩; have hB3 := HB2.out.trans (hb3.mono HB2.out.size); have hR3 := HR2.out.next hb3; have hlt := hR3.lt; obtain ⟨r0, r1, g0, g1⟩ := hR3))
        refine bodyPost_ret (v := .tuple #[.agg #[.string ⟨#[]⟩, .string ⟨#[]⟩], .int .i64 2]) (by simp [results, Tryd.results30, go_sem, r0, r1]) rfl ⟨by rw [HN.out]; rfl, ?_⟩
        repeat (first | with_reducible refine Below.setCell ?_ (by simp) _)
        exact hB3
      · have HN : Hid (O = some (lowL N, V)) := Lib.hid (by rw [HL.out, if_pos (by simp)])
        go_enter Tryd.func30, Tryd.ntmps30
        go_wp2_with fail
        refine cC.mono ?_
        rintro e w1 ⟨rfl, hb1⟩
        have HB1 := Lib.hid (HB0.out.trans (hb1.mono HB0.out.size))
        have HR1 := Lib.hid (HR0.out.next hb1)
        clear hb1 cC
        go_wp2_with fail
        refine (cM _ (Utf8Tabs_below HT.out HB1.out)).mono ?_
        rintro e w2 ⟨rfl, hb2⟩
        have HB2 := Lib.hid (HB1.out.trans (hb2.mono HB1.out.size))
        have HR2 := Lib.hid (HR1.out.next hb2)
        clear hb2 cM
        go_wp2_with (first | (go_at_call 51; refine (cK _).mono ?_; rintro e w' ⟨rfl, rfl⟩) | (go_at_call 52; refine (cX _ (Utf8Tabs_below HT.out HB2.out)).mono ?_; rintro e w3 ⟨rfl, hb3⟩; have HB3 := Lib.hid (HB2.out.trans (hb3.mono HB2.out.size)); have HR3 := Lib.hid (HR2.out.next hb3)) | (go_at_call 53; refine (cW _).mono ?_; rintro e w4 ⟨rfl, hb4⟩; have hB4 := HB3.out.trans (hb4.mono HB3.out.size); have hR4 := HR3.out.next hb4; have hlt := hR4.lt; obtain ⟨r0, r1, g0, g1⟩ := hR4))
        refine bodyPost_ret (v := .tuple #[.agg #[.string SL, .string SV], .int .i64 0]) (by simp [results, Tryd.results30, go_sem, r0, r1]) rfl ⟨by rw [HN.out, fldV, HSL.out, HSV.out], ?_⟩
        repeat (first | with_reducible refine Below.setCell ?_ (by simp) _)
        exact hB4

end Go.Proofs.YtfhpgobdnhlpcaaDoor
