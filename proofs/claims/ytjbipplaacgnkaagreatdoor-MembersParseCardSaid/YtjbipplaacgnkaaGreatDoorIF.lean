/- The contracts of the document's Dict and List (sculleryref04). -/
import Derived.Test.YtjbipplaacgnkaaGreatDoorIE

namespace Go.Proofs.YtjbipplaacgnkaaGreatDoor
open Go.RowKit Go.Maps

theorem sepF_val : ∀ (f : Nat) (l : List UInt8) (acc : List Ent) (xs : List Mem), acc.map Ent.val = xs → (sepF (entK false) f l acc).map (List.map Ent.val) = sepF memL f l xs
  | 0, l, acc, xs, _ => rfl
  | f + 1, l, acc, xs, h => by
    have hE : entK false l = (memL l).map (fun p => (⟨[], p.1⟩, p.2)) := rfl
    cases hr : memL l with
    | none =>
      rw [sepF_none memL f l xs hr, sepF_none (entK false) f l acc (by rw [hE, hr] <;> rfl)] <;> rfl
    | some x =>
      obtain ⟨M, r⟩ := x
      have he : entK false l = some (⟨[], M⟩, r) := by rw [hE, hr] <;> rfl
      have hs : (acc ++ [(⟨[], M⟩ : Ent)]).map Ent.val = xs ++ [M] := by rw [List.map_append, h] <;> rfl
      by_cases hb : blD r = []
      · rw [sepF_end memL f l r xs M hr hb, sepF_end (entK false) f l r acc _ he hb, Option.map_some, hs]
      · by_cases hc : (blD r).head? = some 44
        · rw [sepF_more memL f l r xs M hr hb hc, sepF_more (entK false) f l r acc _ he hb hc]
          exact sepF_val f _ _ _ hs
        · rw [sepF_bad memL f l r xs M hr hb hc, sepF_bad (entK false) f l r acc _ he hb hc] <;> rfl
theorem sepL_val (l : List UInt8) : (sepL (entK false) l).map (List.map Ent.val) = sepL memL l := by
  unfold sepL
  split
  · rfl
  · exact sepF_val _ _ _ _ rfl

set_option maxRecDepth 100000 in
set_option maxHeartbeats 2000000 in
theorem rdict_any (s : ByteArray) (w : World) (hs : s.size ≤ 100000) :
    Calls Tryz.prog 11 #[.string s] w (rparPost (dicL s.data.toList) w) := by
  have cP := rparse_on s w hs
  have hd : (sepL (entK true) s.data.toList).map (shK true) = dicL s.data.toList := rfl
  rw [hd] at cP
  clear hd
  cases hx : dicL s.data.toList with
  | none =>
    rw [hx] at cP
    clear hx
    go_enter Tryz.func11, Tryz.ntmps11
    go_wp2_with fail
    refine cP.mono ?_
    rintro e w1 ⟨hb, rfl⟩
    go_wp2_with fail
    exact bodyPost_ret (v := .tuple #[.slice none 0 0, .int .i64 2]) (by simp [results, Tryz.results11, go_sem]) rfl ⟨hb, rfl⟩
  | some xs =>
    rw [hx] at cP
    clear hx
    go_enter Tryz.func11, Tryz.ntmps11
    go_wp2_with fail
    refine cP.mono ?_
    rintro e w1 ⟨hb, v, rfl, hv⟩
    obtain ⟨ao, cap, rfl, hc⟩ := hv
    go_wp2_with fail
    exact bodyPost_ret (v := .tuple #[.slice ao xs.length cap, .int .i64 0]) (by simp [results, Tryz.results11, go_sem]) rfl ⟨hb, _, rfl, ao, cap, rfl, hc⟩

def rlstPost (o : Option (List Mem)) (w : World) (e : Ending) (w' : World) : Prop :=
  Below w.heap.size w w' ∧ match o with
    | none => e = .returned (.tuple #[.slice none 0 0, .int .i64 2])
    | some xs => ∃ v, e = .returned (.tuple #[v, .int .i64 0]) ∧ GOff memR 0 none w' v xs

set_option maxRecDepth 100000 in
set_option maxHeartbeats 4000000 in
theorem rlist_any (s : ByteArray) (w : World) (hs : s.size ≤ 100000) :
    Calls Tryz.prog 9 #[.string s] w (rlstPost (sepL memL s.data.toList) w) := by
  obtain ⟨i0, hi, hz0, hz1, hz2⟩ := info_parts info_rmem
  have cP := rparse_off s w hs
  have hd : (sepL (entK false) s.data.toList).map (shK false) = sepL (entK false) s.data.toList := by cases sepL (entK false) s.data.toList <;> rfl
  rw [hd] at cP
  have hv := sepL_val s.data.toList
  clear hd
  cases hx : sepL (entK false) s.data.toList with
  | none =>
    rw [hx] at cP hv
    have HV := Lib.hid hv
    clear hx hv
    go_enter Tryz.func9, Tryz.ntmps9
    go_wp2_with fail
    refine cP.mono ?_
    rintro e w1 ⟨hb, rfl⟩
    have HB := Lib.hid hb
    clear hb cP
    go_wp2_with fail
    go_loopw [6, 7] (fun v i wr => v = .slice none 0 0 ∧ i = .int .i64 0 ∧ wr = w1) (fun _ _ _ => 0)
    case atStart => exact ⟨rfl, rfl, rfl⟩
    case round =>
      obtain ⟨rfl, rfl, rfl⟩ := hrel
      go_wp2_with fail
      refine bodyPost_ret (v := .tuple #[.slice none 0 0, .int .i64 2]) (by simp [results, Tryz.results9, go_sem]) rfl ⟨HB.out, ?_⟩
      rw [← HV.out]
      rfl
  | some es =>
    rw [hx] at cP hv
    have HV : Hid (sepL memL s.data.toList = some (es.map Ent.val)) := Lib.hid hv.symm
    have hlen : es.length ≤ 100001 := by
      have h1 : (sepL memL s.data.toList) = some (es.map Ent.val) := hv.symm
      have h2 := (list_in (N := 100000) s.data.toList _ (by rw [← Lib.size_eq]; exact hs) h1).1
      rw [List.length_map, ← Lib.size_eq] at h2
      omega
    clear hx hv
    go_enter Tryz.func9, Tryz.ntmps9
    go_wp2_with fail
    refine cP.mono ?_
    rintro e w1 ⟨hb, v, rfl, hg⟩
    obtain ⟨ao, ac, rfl, hc⟩ := hg
    have HC := Lib.hid hc
    have HB := Lib.hid hb
    clear hb cP hc
    go_wp2_with fail
    go_loopw [6, 7] (fun v i wr => ∃ (j : Nat) (av : Option Addr) (cv : Nat) (us : List (Value × Value × Value)), v = .slice av j cv ∧ i = .int .i64 j ∧ j ≤ es.length ∧ us.length = j ∧ wr.ownsRow w1.heap.size 57 7 (.slice av j cv) j (rowG memR (((es.map Ent.val).take j).zip us)) ∧ Hid (∀ (i : Nat) (u : Value × Value × Value) (x : Mem), us[i]? = some u → (es.map Ent.val)[i]? = some x → memR.F 0 none w1 x u) ∧ Below w1.heap.size w1 wr) (fun _ i _ => es.length - (intOf i).toNat)
    case atStart => exact ⟨0, none, 0, [], rfl, rfl, Nat.zero_le _, rfl, World.ownsRow_nil _ _ _ _, Lib.hid (fun i u x hu => by cases hu), Below.refl _ _⟩
    case round =>
      obtain ⟨j, av, cv, us, rfl, rfl, hj, hul, hown, HF, hb⟩ := hrel
      have HBr := Lib.hid hb
      have HO := Lib.hid hown
      clear hown hb
      by_cases hlt : j < es.length
      · rcases HC.out with hnil | ⟨B, off, rfl, _, _, hB, hcell⟩
        · exfalso
          rw [hnil] at hlt
          simp at hlt
        · obtain ⟨E, hE⟩ : ∃ E, es[j]? = some E := ⟨_, List.getElem?_eq_getElem hlt⟩
          obtain ⟨⟨t1, t2, t3⟩, hpc, hFE⟩ := hcell j E hE
          obtain ⟨_, y1, y2, y3, y4, y5, y6, y7⟩ := ent8 hpc
          have x1 := cell_next HBr.out y1
          have x2 := cell_next HBr.out y2
          have x3 := cell_next HBr.out y3
          have x4 := cell_next HBr.out y4
          have x5 := cell_next HBr.out y5
          have x6 := cell_next HBr.out y6
          have x7 := cell_next HBr.out y7
          simp only [show entR.size = 8 from rfl] at x1 x2 x3 x4 x5 x6 x7
          have jI : (j : Int) < (es.length : Int) := by omega
          have j0 : (0 : Int) ≤ (j : Int) := by omega
          have hMj : (es.map Ent.val)[j]? = some E.val := by rw [List.getElem?_map, hE] <;> rfl
          have HTk : Hid ((es.map Ent.val).take j ++ [E.val] = (es.map Ent.val).take (j + 1)) := Lib.hid (by rw [List.take_add_one, hMj] <;> rfl)
          have hTL : ((es.map Ent.val).take j).length = us.length := by rw [List.length_take, List.length_map]; omega
          have HTL := Lib.hid hTL
          have HFn : Hid (∀ (i : Nat) (u : Value × Value × Value) (x : Mem), (us ++ [(t1, t2, t3)])[i]? = some u → (es.map Ent.val)[i]? = some x → memR.F 0 none w1 x u) := Lib.hid (fun i u x hu hx => by
            rw [List.getElem?_append] at hu
            by_cases h : i < us.length
            · rw [if_pos h] at hu
              exact HF.out i u x hu hx
            · rw [if_neg h] at hu
              have h0 : i - us.length = 0 := by
                have := (List.getElem?_eq_some_iff.1 hu).1
                simp only [List.length_singleton] at this
                omega
              rw [h0] at hu
              obtain rfl := Option.some.inj hu
              have hij : i = j := by omega
              rw [hij, hMj] at hx
              obtain rfl := Option.some.inj hx
              exact hFE)
          obtain ⟨pa1, pb1, h1⟩ := hFE.1.form
          obtain ⟨pa2, pb2, h2⟩ := hFE.2.1.form
          obtain ⟨pa3, pb3, h3⟩ := hFE.2.2.form
          dsimp only at h1 h2 h3
          subst h1 h2 h3
          have hOW := HO.out.alloc (rmemO E.val.inner E.val.it.k E.val.it.n (strB E.val.it.s) (.slice pa1 E.val.it.ps.length pb1) (.slice pa2 E.val.its.length pb2) (.slice pa3 E.val.ps.length pb3))
          have hnew := cells_new wr (memR.cells E.val (.slice pa1 E.val.it.ps.length pb1, .slice pa2 E.val.its.length pb2, .slice pa3 E.val.ps.length pb3)) 57
          have HNew := Lib.hid hnew
          have hzr := HBr.out.size
          clear hnew y1 y2 y3 y4 y5 y6 y7 hcell hpc hFE hE hMj hTL hB
          go_wp2_with (at_builtin; refine wpList_append_lies _ rfl _ _ 27 rfl w1.heap.size 57 i0 (.agg #[.bool false, .int .i64 0, .int .i64 0, .string ⟨#[]⟩, .slice none 0 0, .slice none 0 0, .slice none 0 0]) 7 112 Tryz.underlying27 hi hz0 hz1 hz2 rfl (by decide) (.slice av j cv) j (rowG memR (((es.map Ent.val).take j).zip us)) rfl hOW ⟨_, 0, none⟩ 1 1 (memR.cells E.val (.slice pa1 E.val.it.ps.length pb1, .slice pa2 E.val.its.length pb2, .slice pa3 E.val.ps.length pb3)) rfl rfl HNew.out (by simp [Value.oneCell', memR]) (by decide) (by unfold maxLen; omega) (by omega) (by simp; omega) _ rfl ?_; intro g5 cap5 w5 hown5 hgrow5 hat5 hlt5)
          have hbw5 : Below w1.heap.size w1 w5 := (HBr.out.alloc hzr _).grown hgrow5 (by simp; omega) (fun k e => (World.ownsRow.lt HO.out k e).1)
          have hN : w5.ownsRow w1.heap.size 57 7 (.slice (some ⟨g5, 0, none⟩) (j + 1) cap5) (j + 1) (rowG memR (((es.map Ent.val).take (j + 1)).zip (us ++ [(.slice pa1 E.val.it.ps.length pb1, .slice pa2 E.val.its.length pb2, .slice pa3 E.val.ps.length pb3)]))) := by
            rw [← HTk.out, List.zip_append HTL.out]
            show w5.ownsRow _ _ _ _ _ (rowG memR (((es.map Ent.val).take j).zip us ++ [(E.val, (.slice pa1 E.val.it.ps.length pb1, .slice pa2 E.val.its.length pb2, .slice pa3 E.val.ps.length pb3))]))
            rw [rowG_snoc]
            exact hown5
          go_roundw
          case rel => exact ⟨j + 1, some ⟨g5, 0, none⟩, cap5, _, rfl, by go_num, by omega, by rw [List.length_append]; simp; omega, hN, HFn, hbw5⟩
          case measure => simp [intOf]; omega
      · obtain rfl : j = es.length := by omega
        clear hlt
        go_wp2_with fail
        refine bodyPost_ret (v := .tuple #[.slice av es.length cv, .int .i64 0]) (by simp [results, Tryz.results9, go_sem]) rfl ⟨HB.out.trans (HBr.out.mono HB.out.size), ?_⟩
        rw [HV.out]
        refine ⟨_, rfl, ?_⟩
        have ho := HO.out
        have hlm : (es.map Ent.val).length = es.length := List.length_map _
        rw [← hlm, List.take_length] at ho
        have hres := GOff.of_row (R := memR) (lo := 0) (by rw [hlm]; exact hul) ho (fun k u x hu hx => memR.below (HF.out k u x hu hx) HBr.out) (Nat.zero_le _)
        rw [hlm] at hres
        exact hres

end Go.Proofs.YtjbipplaacgnkaaGreatDoor
