/- The contract of legacy.byName. -/
import Derived.Test.YtjnagifolheloaaDoorMapD
import Derived.Laws.AppendOwn
import Derived.WalkKit
import Derived.WalkSpells
import Derived.WalkLawsBesides
namespace Go.Proofs.YtjnagifolheloaaDoor
open Go.RowKit Go.Maps Go.Lib
open Go.WideMaps (keyOf_string_mk)

theorem zeroDirL (W : World) : (zeroValue 43).run Tryd.prog W = .ok (dirV ([], [], false)) W := by kernel_rfl

set_option maxRecDepth 100000 in
set_option maxHeartbeats 4000000 in
theorem byName_any (lo : Nat) (v : Value) (ds : List Dir) (w : World) (hv : Dirs lo w v ds) (hok : DirsOk ds) :
    Calls Tryd.prog 22 #[v] w fun e w' => (e = .returned (.map (some w.heap.size)) ∧ ∃ n D, w'.ownsMap Tryd.prog 9 readD w.heap.size n D ∧ FstOf D ds) ∧ Below w.heap.size w w' := by
  obtain ⟨ao, cap, rfl, hc⟩ := hv
  have HC := Lib.hid hc
  have HK := Lib.hid hok.2
  have hl := hok.1
  clear hc hok
  have hmm := @run_makeMap Tryd.prog
  have Hmap0 := Lib.hid (World.ownsMap_made (H := Unit) w Tryd.prog 9 readD)
  have HB0 := Lib.hid ((Below.refl w.heap.size w).alloc (Nat.le_refl _) (.map #[] 0))
  go_enter Tryd.func22, Tryd.ntmps22
  go_wp2_with fail
  clear hmm
  go_loopw [11] (fun i wr => ∃ (k : Nat) (D : DataW Unit), k ≤ ds.length ∧ i = .int .i64 k ∧ Hid (wr.ownsMap Tryd.prog 9 readD w.heap.size k D) ∧ Hid (FstOf D (ds.take k)) ∧ Hid (Below w.heap.size w wr)) (fun i _ => ds.length - (intOf i).toNat)
  case atStart => exact ⟨0, .map [], Nat.zero_le _, rfl, Hmap0, Lib.hid (by rw [List.take_zero]; exact fstOf_nil), HB0⟩
  case round =>
    obtain ⟨k, D, hk, rfl, HM, HF, HB⟩ := hrel
    clear Hmap0 HB0
    by_cases hlt : k < ds.length
    · rcases HC.out with hnil | ⟨c, off, rfl, _, hcl, hcell⟩
      · exfalso
        rw [hnil] at hlt
        simp at hlt
      · obtain ⟨p, hp⟩ : ∃ p, ds[k]? = some p := ⟨_, List.getElem?_eq_getElem hlt⟩
        have HT : Hid (ds.take (k + 1) = ds.take k ++ [p]) := Lib.hid (by rw [List.take_add_one, hp]; rfl)
        obtain ⟨x0, x1, x2⟩ := hcell k p hp
        have a0 := (HB.out.cell (p := ⟨c, off + k * 3, none⟩) hcl).trans x0
        have a1 := (HB.out.cell (p := ⟨c, off + k * 3 + 1, none⟩) hcl).trans x1
        have a2 := (HB.out.cell (p := ⟨c, off + k * 3 + 2, none⟩) hcl).trans x2
        have hkI : (k : Int) < (ds.length : Int) := by omega
        obtain ⟨hkN, hkV⟩ := HK.out p (List.mem_of_getElem? hp)
        have hz := HB.out.size
        obtain ⟨N, V, H⟩ := p
        dsimp only at a0 a1 a2 hkN hkV
        clear hcell x0 x1 x2 hp
        have HM1 := Lib.hid (HM.out.alloc (.cells #[.string (strB N), .string (strB V), .bool H] 43))
        have hb1 : Below w.heap.size w (wr.alloc (.cells #[.string (strB N), .string (strB V), .bool H] 43)) := HB.out.alloc hz _
        have HB1 := Lib.hid hb1
        clear hb1
        cases hf : fstN (ds.take k) N with
        | some d =>
          obtain ⟨N2, V2, H2⟩ := d
          have HF2 := Lib.hid (fstOf_skip HF.out (N, V, H) _ hf)
          have e1 := Lib.hid (show (fstN (ds.take k) N).getD ([], [], false) = (N2, V2, H2) by rw [hf]; rfl)
          have e2 := Lib.hid (show hasN (ds.take k) N = true by rw [hasN, hf]; rfl)
          clear hf
          go_wp2_with (at_lookup; refine wpList_lookup_dir _ rfl _ _ rfl Tryd.underlying55 zeroDirL w.heap.size k D (ds.take k) rfl HM1.out HF.out N rfl hkN N2 V2 H2 true e1.out e2.out ?_)
          go_roundw
          case rel => exact ⟨k + 1, D, by omega, by go_num, Lib.hid ((HM1.out.alloc _).mono (Nat.le_succ _)), Lib.hid (by rw [HT.out]; exact HF2.out), Lib.hid (HB1.out.alloc (by have := HB1.out.size; omega) _)⟩
          case measure => simp [intOf]; omega
        | none =>
          have HF2 := Lib.hid (fstOf_put HF.out (N, V, H) hf)
          have e1 := Lib.hid (show (fstN (ds.take k) N).getD ([], [], false) = ([], [], false) by rw [hf]; rfl)
          have e2 := Lib.hid (show hasN (ds.take k) N = false by rw [hasN, hf]; rfl)
          have hkey := Lib.hid (show keyOf Tryd.prog 9 (.string (strB N)) = some (.string N) from keyOf_string_mk Tryd.underlying9 (by rw [strB_size]; unfold maxLen; omega))
          clear hf
          go_wp2_with (first | (at_lookup; refine wpList_lookup_dir _ rfl _ _ rfl Tryd.underlying55 zeroDirL w.heap.size k D (ds.take k) rfl HM1.out HF.out N rfl hkN [] [] false false e1.out e2.out ?_) | (at_mapUpdate; refine wpList_mapUpdate_own _ rfl _ _ _ 55 rfl 9 43 keyStrD Tryd.underlying55 readD w.heap.size k D rfl (HM1.out.alloc _) (by unfold maxLen; omega) _ _ _ rfl rfl hkey.out (datD (N, V, H)) [] (readD_mk (N, V, H)) ?_; intro w4 hmap4 hgrow4))
          go_roundw
          case rel => exact ⟨k + 1, D.put (.string N) (datD (N, V, H)), by omega, by go_num, Lib.hid hmap4, Lib.hid (by rw [HT.out]; exact HF2.out), Lib.hid ((HB1.out.alloc (by have := HB1.out.size; omega) _).grown hgrow4 (by have := HB1.out.size; simp; omega) (fun j e => by cases e; exact Nat.le_refl _))⟩
          case measure => simp [intOf]; omega
    · obtain rfl : k = ds.length := by omega
      have hkI : ¬ (ds.length : Int) < (ds.length : Int) := by omega
      have HF2 := Lib.hid HF.out
      rw [List.take_length] at HF2
      go_wp2_with fail
      refine bodyPost_ret (v := .map (some w.heap.size)) (by simp [results, Tryd.results22, go_sem]) rfl ⟨⟨rfl, ds.length, D, HM.out, HF2.out⟩, HB.out⟩

end Go.Proofs.YtjnagifolheloaaDoor
