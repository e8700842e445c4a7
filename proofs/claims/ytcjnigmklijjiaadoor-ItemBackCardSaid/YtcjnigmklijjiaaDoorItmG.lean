/- The contract of the parser's item. -/
import Derived.Test.YtcjnigmklijjiaaDoorItmF
namespace Go.Proofs.YtcjnigmklijjiaaDoor
open Go.RowKit

abbrev zeroItem : Obj := .cells #[.int .i64 0, .int .i64 0, .string ⟨#[]⟩, .slice none 0 0] 26
/-- The cells of an item that is none yet. -/
structure ResI (W : World) (c : Nat) : Prop where
  r0 : W.cell? ⟨c, 0, none⟩ = some (.int .i64 0)
  r1 : W.cell? ⟨c, 1, none⟩ = some (.int .i64 0)
  r2 : W.cell? ⟨c, 2, none⟩ = some (.string ⟨#[]⟩)
  r3 : W.cell? ⟨c, 3, none⟩ = some (.slice none 0 0)
  g0 : W.frozen? ⟨c, 0, none⟩ = false
  g1 : W.frozen? ⟨c, 1, none⟩ = false
  g2 : W.frozen? ⟨c, 2, none⟩ = false
  g3 : W.frozen? ⟨c, 3, none⟩ = false
theorem ResI.made (w : World) : ResI (w.alloc zeroItem) w.heap.size := ⟨by simp, by simp, by simp, by simp, by simp, by simp, by simp, by simp⟩
theorem ResI.lt {W : World} {c : Nat} (h : ResI W c) : c < W.heap.size := lt_of_cell h.r0
theorem ResI.moved {W W1 : World} {b c : Nat} (h : ResI W c) (hm : Moved b W W1) (hc : c ≠ b) : ResI W1 c :=
  ⟨(hm.cell (p := ⟨c, 0, none⟩) h.lt hc).trans h.r0, (hm.cell (p := ⟨c, 1, none⟩) h.lt hc).trans h.r1, (hm.cell (p := ⟨c, 2, none⟩) h.lt hc).trans h.r2, (hm.cell (p := ⟨c, 3, none⟩) h.lt hc).trans h.r3, (hm.frozen (p := ⟨c, 0, none⟩) h.lt hc).trans h.g0, (hm.frozen (p := ⟨c, 1, none⟩) h.lt hc).trans h.g1, (hm.frozen (p := ⟨c, 2, none⟩) h.lt hc).trans h.g2, (hm.frozen (p := ⟨c, 3, none⟩) h.lt hc).trans h.g3⟩

/-- The item with which a text begins, and how long it is. -/
def itmL (l : List UInt8) : Option (Got × List Prm × Nat) := match readL l with
  | none => none
  | some g => match psL (l.drop g.m) [] 0 with
    | none => none
    | some (ps, m) => some (g, ps, g.m + m)

def itmPost (o : Option (Got × List Prm × Nat)) (b : Nat) (t : ByteArray) (k : Nat) (w : World) (e : Ending) (w' : World) : Prop :=
  Moved b w w' ∧ match o with
    | none => e = .returned (.tuple #[.agg #[.int .i64 0, .int .i64 0, .string ⟨#[]⟩, .slice none 0 0], .int .i64 2])
    | some (g, ps, m) => ∃ v, e = .returned (.tuple #[.agg #[.int .i64 g.k, .int .i64 g.n, .string (strB g.s), v], .int .i64 0]) ∧ w'.ownsRow w.heap.size 41 4 v ps.length (rowP ps) ∧ Par w' b t (k + m)

set_option maxRecDepth 100000 in
set_option maxHeartbeats 2000000 in
theorem item_any (b : Nat) (t : ByteArray) (k : Nat) (w : World) (h : Par w b t k) (ht : t.size ≤ 100000) (hk : k ≤ t.size) (hA : Alph w) (hAb : 0 ≠ b) :
    Calls Tryd.prog 17 #[.pointer (some ⟨b, 0, none⟩)] w (itmPost (itmL (t.data.toList.drop k)) b t k w) := by
  have hbl := h.lt
  have hbn : b ≠ w.heap.size := by omega
  have HA := Lib.hid hA
  have HM0 := Lib.hid ((Moved.refl b w).alloc zeroItem)
  have HR0 := Lib.hid (ResI.made w)
  have cV := value_any b t k (w.alloc zeroItem) (h.alloc _) ht hk (hA.moved HM0.out hAb)
  have ho : ∀ g, readL (t.data.toList.drop k) = some g → k + g.m ≤ t.size := by
    intro g hg
    have := (readL_right _ g hg).2.2.1
    rw [List.length_drop, ← Lib.size_eq] at this
    omega
  clear hA h
  cases hrd : readL (t.data.toList.drop k) with
  | none =>
    have hI : itmL (t.data.toList.drop k) = none := by rw [itmL, hrd]
    rw [hI]
    rw [hrd] at cV
    simp only [valV] at cV
    clear hrd ho hI
    go_enter Tryd.func17, Tryd.ntmps17
    go_wp2_with fail
    refine cV.mono ?_
    rintro e w1 ⟨rfl, _, hM1⟩
    have hMw := HM0.out.trans hM1
    have hR1 := HR0.out.moved hM1 (Ne.symm hbn)
    have hlt1 := hR1.lt
    obtain ⟨r0, r1, r2, r3, g0, g1, g2, g3⟩ := hR1
    clear cV hM1 HM0 HR0
    go_wp2_with fail
    refine bodyPost_ret (v := .tuple #[.agg #[.int .i64 0, .int .i64 0, .string ⟨#[]⟩, .slice none 0 0], .int .i64 2]) (by simp [results, Tryd.results17, go_sem, r0, r1, r2, r3, hlt1]) rfl ⟨?_, rfl⟩
    repeat (first | with_reducible refine Moved.alloc ?_ _ | (with_reducible refine Moved.setNew ?_ (by omega) _) | with_reducible refine Moved.setCell ?_ _)
    exact hMw
  | some g =>
    have hg2 := ho g hrd
    obtain ⟨gk, gn, gs, gm⟩ := g
    simp only at hg2
    rw [hrd] at cV
    simp only [valV, advL] at cV
    have hI : itmL (t.data.toList.drop k) = match psL (t.data.toList.drop (k + gm)) [] 0 with
        | none => none
        | some (ps, m) => some (⟨gk, gn, gs, gm⟩, ps, gm + m) := by rw [itmL, hrd]; simp only [List.drop_drop]
    rw [hI]
    clear hI hrd ho
    obtain ⟨S, hS⟩ : ∃ S, strB gs = S := ⟨_, rfl⟩
    have HS := Lib.hid hS
    rw [hS] at cV
    clear hS
    cases hps : psL (t.data.toList.drop (k + gm)) [] 0 with
    | none =>
      go_enter Tryd.func17, Tryd.ntmps17
      go_wp2_with fail
      refine cV.mono ?_
      rintro e w1 ⟨rfl, hP1, hM1⟩
      have hMw := HM0.out.trans hM1
      have hR1 := HR0.out.moved hM1 (Ne.symm hbn)
      have cS := params_any b t (k + gm) (w1.alloc (.cells #[.int .i64 gk, .int .i64 gn, .string S] 23)) (hP1.alloc _) ht hg2 (HA.out.moved (hMw.alloc _) hAb) hAb
      rw [hps] at cS
      have HM1 := Lib.hid hMw
      have HR1 := Lib.hid hR1
      clear cV hM1 HM0 HR0 hps hMw hR1 hP1
      go_wp2_with fail
      refine cS.mono ?_
      rintro e w2 ⟨hM2, rfl⟩
      have hMw := (HM1.out.alloc _).trans hM2
      have hR2 := (HR1.out.moved ((Moved.refl b w1).alloc _) (Ne.symm hbn)).moved hM2 (Ne.symm hbn)
      have hlt2 := hR2.lt
      obtain ⟨r0, r1, r2, r3, g0, g1, g2, g3⟩ := hR2
      clear cS hM2 HM1 HR1
      go_wp2_with fail
      refine bodyPost_ret (v := .tuple #[.agg #[.int .i64 0, .int .i64 0, .string ⟨#[]⟩, .slice none 0 0], .int .i64 2]) (by simp [results, Tryd.results17, go_sem, r0, r1, r2, r3, hlt2]) rfl ⟨?_, rfl⟩
      repeat (first | with_reducible refine Moved.alloc ?_ _ | (with_reducible refine Moved.setNew ?_ (by omega) _) | with_reducible refine Moved.setCell ?_ _)
      exact hMw
    | some pm =>
      obtain ⟨ps, m⟩ := pm
      go_enter Tryd.func17, Tryd.ntmps17
      go_wp2_with fail
      refine cV.mono ?_
      rintro e w1 ⟨rfl, hP1, hM1⟩
      have hMw := HM0.out.trans hM1
      have hR1 := HR0.out.moved hM1 (Ne.symm hbn)
      have cS := params_any b t (k + gm) (w1.alloc (.cells #[.int .i64 gk, .int .i64 gn, .string S] 23)) (hP1.alloc _) ht hg2 (HA.out.moved (hMw.alloc _) hAb) hAb
      rw [hps] at cS
      have HM1 := Lib.hid hMw
      have HR1 := Lib.hid hR1
      have hlt1 : w.heap.size < w1.heap.size := hR1.lt
      clear cV hM1 HM0 HR0 hps hMw hR1 hP1
      go_wp2_with fail
      refine cS.mono ?_
      rintro e w2 ⟨hM2, v, rfl, hown, hP2⟩
      have hMw := (HM1.out.alloc _).trans hM2
      have hR2 := (HR1.out.moved ((Moved.refl b w1).alloc _) (Ne.symm hbn)).moved hM2 (Ne.symm hbn)
      have hlt2 := hR2.lt
      have hcb := hM2.cell (p := ⟨w1.heap.size, 0, none⟩) (by simp) (by have := hM2; simp; omega)
      have hcb1 := hM2.cell (p := ⟨w1.heap.size, 1, none⟩) (by simp) (by simp; omega)
      have hcb2 := hM2.cell (p := ⟨w1.heap.size, 2, none⟩) (by simp) (by simp; omega)
      simp at hcb hcb1 hcb2
      obtain ⟨r0, r1, r2, r3, g0, g1, g2, g3⟩ := hR2
      obtain ⟨ao, cap, rfl⟩ := owns_form hown
      have HO := Lib.hid hown
      have HP2 := Lib.hid hP2
      clear cS hM2 HM1 HR1 hown hP2
      go_wp2_with fail
      refine bodyPost_ret (v := .tuple #[.agg #[.int .i64 gk, .int .i64 gn, .string S, .slice ao ps.length cap], .int .i64 0]) (by simp [results, Tryd.results17, go_sem, r0, r1, r2, r3, hlt2]) rfl ?_
      refine ⟨?_, _, by rw [HS.out], ?_, ?_⟩
      · repeat (first | with_reducible refine Moved.alloc ?_ _ | (with_reducible refine Moved.setNew ?_ (by omega) _) | with_reducible refine Moved.setCell ?_ _)
        exact hMw
      · refine ownsRow_low (ownsRow_moved HO.out (b := w.heap.size) ?_ (by simp; omega)) (by simp; omega)
        repeat (with_reducible refine Moved.setCell ?_ _)
        exact Moved.refl _ _
      · repeat (with_reducible refine Par.other ?_ (by omega) _)
        rw [← Nat.add_assoc]
        exact HP2.out

end Go.Proofs.YtcjnigmklijjiaaDoor
