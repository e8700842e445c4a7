/- The document's own Parse (sculleryref10). -/
import Derived.Test.YtjnagifolheloaaDoorMRoB
import Derived.Test.YtjnagifolheloaaDoorMRjS
import Derived.Test.YtjnagifolheloaaDoorMDirQ
import Derived.Laws.AppendOwn

namespace Go.Proofs.YtjnagifolheloaaDoor
open Go.RowKit Go.Lib

theorem info_rdir2 : (Tryd.prog.info? 48).map (fun i => (i.zero, i.size, i.bytes)) = some (some (.agg #[.string ⟨#[]⟩, .string ⟨#[]⟩, .bool false]), 3, 40) := by kernel_rfl

set_option maxRecDepth 100000 in
set_option maxHeartbeats 4000000 in
theorem rparse_any (s : ByteArray) (w : World) (hs : s.size ≤ 100000) :
    Calls Tryd.prog 11 #[.string s] w fun e w' => (∃ u, e = .returned u ∧ Dirs w.heap.size w' u (dirsL s.data.toList)) ∧ Below w.heap.size w w' := by
  obtain ⟨i0, hi, hz0, hz1, hz2⟩ := info_parts info_rdir2
  have cS := rsplit_any s w (by omega)
  obtain ⟨hn1, hn2⟩ := splitL_small _ s.data.toList (Nat.le_refl _)
  rw [← Lib.size_eq] at hn1 hn2
  have HD : Hid (dirsL s.data.toList = (splitL s.data.toList).filterMap oneL) := Lib.hid rfl
  generalize dirsL s.data.toList = DS at *
  generalize splitL s.data.toList = ps at *
  have HN2 := Lib.hid hn2
  clear hn2
  go_enter Tryd.func11, Tryd.ntmps11
  go_wp2_with fail
  refine cS.mono ?_
  rintro e w1 ⟨vs, rfl, hown, hb1⟩
  have HS1 := Lib.hid hown
  have HB1 := Lib.hid hb1
  obtain ⟨sa, sc, rfl⟩ := owns_formF hown
  clear hown hb1 cS
  go_wp2_with fail
  go_loopw [3, 5] (fun r i wr => ∃ (j : Nat) (acc : List Dir) (av : Option Addr) (cv : Nat), r = .slice av acc.length cv ∧ i = .int .i64 j ∧ j ≤ ps.length ∧ acc.length ≤ j ∧ Hid (acc = (ps.take j).filterMap oneL) ∧ Hid (wr.ownsRow w1.heap.size 48 3 (.slice av acc.length cv) acc.length (rowD acc)) ∧ Hid (Below w1.heap.size w1 wr)) (fun _ i _ => ps.length - (intOf i).toNat)
  case atStart => exact ⟨0, [], none, 0, rfl, rfl, Nat.zero_le _, by simp, Lib.hid rfl, Lib.hid (World.ownsRow_nil _ _ _ _), Lib.hid (Below.refl _ _)⟩
  case round =>
    obtain ⟨j, acc, av, cv, rfl, rfl, hj, hal, HA, HO, HB⟩ := hrel
    by_cases hlt : j < ps.length
    · obtain ⟨p, hp⟩ : ∃ p, ps[j]? = some p := ⟨_, List.getElem?_eq_getElem hlt⟩
      have Htk : Hid ((ps.take (j + 1)).filterMap oneL = (ps.take j).filterMap oneL ++ (oneL p).toList) := Lib.hid (by
        rw [List.take_add_one, hp, List.filterMap_append]
        cases h : oneL p <;> simp [h])
      have hpl : p.length ≤ 100000 := Nat.le_trans (HN2.out p (List.mem_of_getElem? hp)) hs
      have cO := fun W => rone_any (strB p) W (by rw [Lib.size_eq, strB_data]; exact hpl)
      rw [strB_data] at cO
      obtain ⟨g, cap2, hv, hg, hgl, _⟩ := owns_sliceF HS1.out (Nat.lt_of_le_of_lt (Nat.zero_le _) hlt)
      obtain ⟨rfl, _, rfl⟩ := Value.slice.inj hv
      have a0 := (HB.out.cell (p := ⟨g, j, none⟩) hgl).trans (owns_cellsF HS1.out j (.string (strB p)) (by rw [List.getElem?_map, hp]; rfl))
      have hjI : (j : Int) < (ps.length : Int) := by omega
      have hj0 : (0 : Int) ≤ (j : Int) := by omega
      have HP := Lib.hid hp
      have hz := HB.out.size
      clear hv hp hpl
      cases ho : oneL p with
      | none =>
        have HN : Hid ((ps.take (j + 1)).filterMap oneL = (ps.take j).filterMap oneL) := Lib.hid (by rw [Htk.out, ho]; simp)
        have cO1 : ∀ W, Calls Tryd.prog 21 #[.string (strB p)] W (fun e w' => (∃ N V H, e = .returned (.tuple #[.agg #[.string (strB N), .string (strB V), .bool H], .bool false])) ∧ Below W.heap.size W w') := fun W => (cO W).mono fun e w' h => by
          rw [ho] at h
          obtain ⟨⟨N, V, H, he, _⟩, hb⟩ := h
          exact ⟨⟨N, V, H, he⟩, hb⟩
        clear cO ho Htk
        go_wp2_with (go_at_call 21; refine (cO1 _).mono ?_; rintro e w2 ⟨⟨N, V, H, rfl⟩, hb2⟩; have HX := Lib.hid (HB.out.trans (hb2.mono hz)); have HO2 := Lib.hid (ownsRow_later HO.out hb2))
        go_roundw
        case rel => exact ⟨j + 1, acc, av, cv, rfl, by go_num, by omega, by omega, Lib.hid (by rw [HN.out]; exact HA.out), Lib.hid (HO2.out.alloc _), Lib.hid (HX.out.alloc HX.out.size _)⟩
        case measure => simp [intOf]; omega
      | some d =>
        have HN : Hid ((ps.take (j + 1)).filterMap oneL = (ps.take j).filterMap oneL ++ [d]) := Lib.hid (by rw [Htk.out, ho]; rfl)
        obtain ⟨N, V, H⟩ := d
        have cO1 : ∀ W, Calls Tryd.prog 21 #[.string (strB p)] W (fun e w' => e = .returned (.tuple #[.agg #[.string (strB N), .string (strB V), .bool H], .bool true]) ∧ Below W.heap.size W w') := fun W => (cO W).mono fun e w' h => by
          rw [ho] at h
          obtain ⟨⟨N', V', H', he, hd⟩, hb⟩ := h
          have hd := hd _ rfl
          simp only [Prod.mk.injEq] at hd
          obtain ⟨rfl, rfl, rfl⟩ := hd
          exact ⟨he, hb⟩
        clear cO ho Htk
        have HC := Lib.hid (show cellsD (N, V, H) = [.string (strB N), .string (strB V), .bool H] from rfl)
        have HRS := Lib.hid (rowD_snoc acc (N, V, H))
        go_wp2_with (first | (go_at_call 21; refine (cO1 _).mono ?_; rintro e w2 ⟨rfl, hb2⟩; have HX := Lib.hid (HB.out.trans (hb2.mono hz)); have HO2 := Lib.hid (ownsRow_later HO.out hb2)) | (at_builtin; refine wpList_append_own _ rfl _ _ 25 rfl w1.heap.size 48 i0 (.agg #[.string ⟨#[]⟩, .string ⟨#[]⟩, .bool false]) 3 40 Tryd.underlying25 hi hz0 hz1 hz2 rfl (by decide) (.slice av acc.length cv) acc.length (rowD acc) rfl ((HO2.out.alloc _).alloc _) ⟨_, 0, none⟩ 1 1 (cellsD (N, V, H)) rfl rfl (fun j u h => by have e := cells_newF (w2.alloc (.cells #[.string (strB N), .string (strB V), .bool H] 48)) (cellsD (N, V, H)) 48 j u h; rw [show (w2.alloc (.cells #[.string (strB N), .string (strB V), .bool H] 48)).heap.size = w2.heap.size + 1 by simp] at e; exact e) (by simp [Value.oneCell', cellsD]) (by unfold maxLen; omega) (by omega) (by have := HX.out.size; simp <;> omega) ?_; intro v' w5 hown5 hgrow5 _; obtain ⟨a5, c5, rfl⟩ := owns_formF hown5))
        go_roundw
        case rel =>
          refine ⟨j + 1, acc ++ [(N, V, H)], a5, c5, by rw [List.length_append]; rfl, by go_num, by omega, by simp; omega, Lib.hid (by rw [HN.out, HA.out]), Lib.hid (by rw [List.length_append, HRS.out]; exact hown5), Lib.hid ?_⟩
          exact ((HX.out.alloc HX.out.size _).alloc (by have := HX.out.size; simp <;> omega) _).grown hgrow5 (by have := HX.out.size; simp <;> omega) (fun k e => (World.ownsRow.lt HO2.out k e).1)
        case measure => simp [intOf]; omega
    · obtain rfl : j = ps.length := by omega
      have HR : Hid (acc = DS) := Lib.hid (by have := HA.out; rw [List.take_length] at this; rw [HD.out]; exact this)
      have HX := Lib.hid (HB1.out.trans (HB.out.mono HB1.out.size))
      have HF := Lib.hid (Dirs.of_own HO.out HB1.out.size)
      go_wp2_with fail
      refine bodyPost_ret (v := .slice av acc.length cv) (by simp [results, Tryd.results11, go_sem]) rfl ⟨⟨_, rfl, by rw [← HR.out]; exact HF.out⟩, HX.out⟩

end Go.Proofs.YtjnagifolheloaaDoor
