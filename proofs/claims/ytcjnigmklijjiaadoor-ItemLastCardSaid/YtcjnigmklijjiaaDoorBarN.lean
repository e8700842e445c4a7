/- The contract of bare.Read. -/
import Derived.Test.YtcjnigmklijjiaaDoorBarL
import Derived.Test.YtcjnigmklijjiaaDoorBarM
namespace Go.Proofs.YtcjnigmklijjiaaDoor
open Go.RowKit

/-- The bare item with which a text begins. -/
def readL (l : List UInt8) : Option Got := match l with
  | [] => none
  | c :: _ =>
    if c == 45 || digI c.toNat then readNumL l
    else if c == 34 then readStrL l
    else if btI c.toNat then some ⟨4, 0, l.take (tlen l), tlen l⟩
    else if c == 58 then readBytesL l
    else if c == 63 then readBoolL l
    else none

theorem gotV_is (o : Option Got) : ∃ (a b : Int) (t : ByteArray) (m e : Int), gotV o = .tuple #[.agg #[.int .i64 a, .int .i64 b, .string t], .int .i64 m, .int .i64 e] := by
  cases o with
  | none => exact ⟨_, _, _, _, _, rfl⟩
  | some g => exact ⟨_, _, _, _, _, rfl⟩

theorem readL_at (s : ByteArray) (h0 : 0 < s.size) : readL s.data.toList = if ((s[0]'h0).toNat : Int) == 45 || digI (s[0]'h0).toNat then readNumL s.data.toList
    else if ((s[0]'h0).toNat : Int) == 34 then readStrL s.data.toList
    else if btI (s[0]'h0).toNat then some ⟨4, 0, s.data.toList.take (tlen s.data.toList), tlen s.data.toList⟩
    else if ((s[0]'h0).toNat : Int) == 58 then readBytesL s.data.toList
    else if ((s[0]'h0).toNat : Int) == 63 then readBoolL s.data.toList
    else none := by
  have hb := fun d => byte_beq (s[0]'h0) d
  have b45 := hb 45
  have b34 := hb 34
  have b58 := hb 58
  have b63 := hb 63
  rw [show ((45 : UInt8).toNat : Int) = 45 from rfl] at b45
  rw [show ((34 : UInt8).toNat : Int) = 34 from rfl] at b34
  rw [show ((58 : UInt8).toNat : Int) = 58 from rfl] at b58
  rw [show ((63 : UInt8).toNat : Int) = 63 from rfl] at b63
  rw [b45, b34, b58, b63]
  have e0 := drop_cons_at s 0 h0
  rw [List.drop_zero] at e0
  generalize hl : s.data.toList = l at *
  rw [e0, readL]

set_option maxRecDepth 100000 in
set_option maxHeartbeats 4000000 in
theorem read_any (s : ByteArray) (w : World) (hs : s.size ≤ 100000) (hA : Alph w) :
    Calls Tryd.prog 52 #[.string s] w (gotPost (gotV (readL s.data.toList)) w) := by
  have HA := Lib.hid hA
  clear hA
  have cN := fun W => noItem_any W
  have hb0 : Below w.heap.size w (w.alloc zeroBare) := (Below.refl _ _).alloc (Nat.le_refl _) _
  by_cases h0 : 0 < s.size
  · have hemp : s.toList.isEmpty = false := by rw [Lib.toList_data]; exact isEmpty_false_of s h0
    have hr := readL_at s h0
    have cD := fun W => isDigit_any ((s[0]'h0).toNat : Int) W
    have cB := fun W => beginsToken_any ((s[0]'h0).toNat : Int) W
    have cM := fun W => readNumber_any s W h0 hs
    have cS := fun W => readString_any s W h0 hs
    have cT := fun W => tokenLength_any s W (by unfold maxLen; omega)
    have cY := fun W hW => readBytes_any s W h0 hs hW
    have cO := fun W => readBoolean_any s W hs
    cases g1 : (((s[0]'h0).toNat : Int) == 45)
    · cases g2 : digI ((s[0]'h0).toNat : Int)
      · rw [g1, g2] at hr
        simp only [Bool.or_false, if_false, Bool.false_eq_true] at hr
        rw [g2] at cD
        cases g3 : (((s[0]'h0).toNat : Int) == 34)
        · rw [g3] at hr
          simp only [Bool.false_eq_true, ite_false] at hr
          cases g4 : btI ((s[0]'h0).toNat : Int)
          · rw [g4] at hr cB
            simp only [Bool.false_eq_true, ite_false] at hr
            cases g5 : (((s[0]'h0).toNat : Int) == 58)
            · rw [g5] at hr
              simp only [Bool.false_eq_true, ite_false] at hr
              cases g6 : (((s[0]'h0).toNat : Int) == 63)
              · rw [g6] at hr
                simp only [Bool.false_eq_true, ite_false] at hr
                rw [hr]
                clear hr g2 g4 cM cS cT cY cO
                go_enter Tryd.func52, Tryd.ntmps52
                go_wp2_with fail
                refine (cD _).mono ?_
                rintro e w1 ⟨rfl, rfl⟩
                go_wp2_with fail
                refine (cB _).mono ?_
                rintro e w1 ⟨rfl, rfl⟩
                go_wp2_with fail
                refine (cN _).mono ?_
                rintro e w2 ⟨rfl, hb2⟩
                obtain ⟨⟨p0, p1, p2⟩, f0, f1, f2⟩ := no_cells w w2 hb2
                have hb3 := hb0.trans (hb2.mono hb0.size)
                clear hb2
                simp only [gotV]
                go_wp2
                exact bodyPost_ret (v := gotV none) (by simp [results, Tryd.results52, go_sem, gotV, p0, p1, p2]) rfl ⟨rfl, ((hb3.setCell (by simp) _).setCell (by simp) _).setCell (by simp) _⟩
              · rw [g6] at hr
                simp only [ite_true] at hr
                rw [hr]
                obtain ⟨a, b, t, m, x, hv⟩ := gotV_is (readBoolL s.data.toList)
                rw [hv] at cO ⊢
                clear hr hv g2 g4 cM cS cT cY cN
                go_enter Tryd.func52, Tryd.ntmps52
                go_wp2_with fail
                refine (cD _).mono ?_
                rintro e w1 ⟨rfl, rfl⟩
                go_wp2_with fail
                refine (cB _).mono ?_
                rintro e w1 ⟨rfl, rfl⟩
                go_wp2_with fail
                refine (cO _).mono ?_
                rintro e w2 ⟨rfl, hb2⟩
                obtain ⟨⟨p0, p1, p2⟩, f0, f1, f2⟩ := no_cells w w2 hb2
                have hb3 := hb0.trans (hb2.mono hb0.size)
                clear hb2
                go_wp2
                exact bodyPost_ret (v := .tuple #[.agg #[.int .i64 a, .int .i64 b, .string t], .int .i64 m, .int .i64 x]) (by simp [results, Tryd.results52, go_sem, p0, p1, p2]) rfl ⟨rfl, ((hb3.setCell (by simp) _).setCell (by simp) _).setCell (by simp) _⟩
            · rw [g5] at hr
              simp only [ite_true] at hr
              rw [hr]
              obtain ⟨a, b, t, m, x, hv⟩ := gotV_is (readBytesL s.data.toList)
              rw [hv] at cY ⊢
              clear hr hv g2 g4 cM cS cT cO cN
              go_enter Tryd.func52, Tryd.ntmps52
              go_wp2_with fail
              refine (cD _).mono ?_
              rintro e w1 ⟨rfl, rfl⟩
              go_wp2_with fail
              refine (cB _).mono ?_
              rintro e w1 ⟨rfl, rfl⟩
              go_wp2_with fail
              refine (cY _ (HA.out.below hb0)).mono ?_
              rintro e w2 ⟨rfl, hb2⟩
              obtain ⟨⟨p0, p1, p2⟩, f0, f1, f2⟩ := no_cells w w2 hb2
              have hb3 := hb0.trans (hb2.mono hb0.size)
              clear hb2
              go_wp2
              exact bodyPost_ret (v := .tuple #[.agg #[.int .i64 a, .int .i64 b, .string t], .int .i64 m, .int .i64 x]) (by simp [results, Tryd.results52, go_sem, p0, p1, p2]) rfl ⟨rfl, ((hb3.setCell (by simp) _).setCell (by simp) _).setCell (by simp) _⟩
          · rw [g4] at hr cB
            simp only [ite_true] at hr
            have hn := tlen_le s.data.toList
            rw [← Lib.size_eq] at hn
            have hx : strB (s.data.toList.take (tlen s.data.toList)) = s.extract 0 (tlen s.data.toList) := by rw [← extract_take, strB_of]
            have HR : Hid (gotV (readL s.data.toList) = .tuple #[.agg #[.int .i64 4, .int .i64 0, .string (s.extract 0 (tlen s.data.toList))], .int .i64 (tlen s.data.toList : Nat), .int .i64 0]) := Lib.hid (by rw [hr, gotV, hx])
            clear hr hx g2 g4 cM cS cY cO cN
            rw [HR.out]
            clear HR
            generalize tlen s.data.toList = n at cT hn
            go_enter Tryd.func52, Tryd.ntmps52
            go_wp2_with fail
            refine (cD _).mono ?_
            rintro e w1 ⟨rfl, rfl⟩
            go_wp2_with fail
            refine (cB _).mono ?_
            rintro e w1 ⟨rfl, rfl⟩
            go_wp2_with fail
            refine (cT _).mono ?_
            rintro e w1 ⟨rfl, rfl⟩
            go_wp2
            exact bodyPost_ret (v := .tuple #[.agg #[.int .i64 4, .int .i64 0, .string (s.extract 0 n)], .int .i64 (n : Int), .int .i64 0]) (by simp [results, Tryd.results52, go_sem]) rfl ⟨rfl, (Below.refl _ _).alloc (Nat.le_refl _) _⟩
        · rw [g3] at hr
          simp only [ite_true] at hr
          rw [hr]
          obtain ⟨a, b, t, m, x, hv⟩ := gotV_is (readStrL s.data.toList)
          rw [hv] at cS ⊢
          clear hr hv g2 cM cB cT cY cO cN
          go_enter Tryd.func52, Tryd.ntmps52
          go_wp2_with fail
          refine (cD _).mono ?_
          rintro e w1 ⟨rfl, rfl⟩
          go_wp2_with fail
          refine (cS _).mono ?_
          rintro e w2 ⟨rfl, hb2⟩
          obtain ⟨⟨p0, p1, p2⟩, f0, f1, f2⟩ := no_cells w w2 hb2
          have hb3 := hb0.trans (hb2.mono hb0.size)
          clear hb2
          go_wp2
          exact bodyPost_ret (v := .tuple #[.agg #[.int .i64 a, .int .i64 b, .string t], .int .i64 m, .int .i64 x]) (by simp [results, Tryd.results52, go_sem, p0, p1, p2]) rfl ⟨rfl, ((hb3.setCell (by simp) _).setCell (by simp) _).setCell (by simp) _⟩
      · rw [g1, g2] at hr
        simp only [Bool.or_true, ite_true] at hr
        rw [g2] at cD
        rw [hr]
        obtain ⟨a, b, t, m, x, hv⟩ := gotV_is (readNumL s.data.toList)
        rw [hv] at cM ⊢
        clear hr hv g2 cS cB cT cY cO cN
        go_enter Tryd.func52, Tryd.ntmps52
        go_wp2_with fail
        refine (cD _).mono ?_
        rintro e w1 ⟨rfl, rfl⟩
        go_wp2_with fail
        refine (cM _).mono ?_
        rintro e w2 ⟨rfl, hb2⟩
        obtain ⟨⟨p0, p1, p2⟩, f0, f1, f2⟩ := no_cells w w2 hb2
        have hb3 := hb0.trans (hb2.mono hb0.size)
        clear hb2
        go_wp2
        exact bodyPost_ret (v := .tuple #[.agg #[.int .i64 a, .int .i64 b, .string t], .int .i64 m, .int .i64 x]) (by simp [results, Tryd.results52, go_sem, p0, p1, p2]) rfl ⟨rfl, ((hb3.setCell (by simp) _).setCell (by simp) _).setCell (by simp) _⟩
    · rw [g1] at hr
      simp only [Bool.true_or, ite_true] at hr
      rw [hr]
      obtain ⟨a, b, t, m, x, hv⟩ := gotV_is (readNumL s.data.toList)
      rw [hv] at cM ⊢
      clear hr hv cD cS cB cT cY cO cN
      go_enter Tryd.func52, Tryd.ntmps52
      go_wp2_with fail
      refine (cM _).mono ?_
      rintro e w2 ⟨rfl, hb2⟩
      obtain ⟨⟨p0, p1, p2⟩, f0, f1, f2⟩ := no_cells w w2 hb2
      have hb3 := hb0.trans (hb2.mono hb0.size)
      clear hb2
      go_wp2
      exact bodyPost_ret (v := .tuple #[.agg #[.int .i64 a, .int .i64 b, .string t], .int .i64 m, .int .i64 x]) (by simp [results, Tryd.results52, go_sem, p0, p1, p2]) rfl ⟨rfl, ((hb3.setCell (by simp) _).setCell (by simp) _).setCell (by simp) _⟩
  · have he : s.data.toList = [] := List.eq_nil_of_length_eq_zero (by rw [← Lib.size_eq]; omega)
    have hemp : s.toList.isEmpty = true := by rw [Lib.toList_data, he]; rfl
    rw [he]
    show Calls _ _ _ _ (gotPost (gotV none) w)
    clear he
    go_enter Tryd.func52, Tryd.ntmps52
    go_wp2_with fail
    refine (cN _).mono ?_
    rintro e w2 ⟨rfl, hb2⟩
    obtain ⟨⟨p0, p1, p2⟩, f0, f1, f2⟩ := no_cells w w2 hb2
    have hb3 := hb0.trans (hb2.mono hb0.size)
    clear hb2
    simp only [gotV]
    go_wp2
    exact bodyPost_ret (v := gotV none) (by simp [results, Tryd.results52, go_sem, gotV, p0, p1, p2]) rfl ⟨rfl, ((hb3.setCell (by simp) _).setCell (by simp) _).setCell (by simp) _⟩

end Go.Proofs.YtcjnigmklijjiaaDoor
