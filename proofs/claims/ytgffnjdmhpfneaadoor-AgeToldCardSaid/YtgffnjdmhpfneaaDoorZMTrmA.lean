/- The contract of ascii.Trim (for a seat on BasP). · The contracts of strings.Cut at one byte, and of head.endless, firstLine, fieldOf. · The contract of head.fieldOf. · The contract of head.Parse. · Fields in memory, behind head.Parse. · The contract of head.Without. -/
import Derived.Test.YtgffnjdmhpfneaaDoorShelf
import Derived.Test.YtgffnjdmhpfneaaDoorZIrnA
import Derived.Test.YtgffnjdmhpfneaaDoorRows
import Derived.Test.YtgffnjdmhpfneaaDoorZMBasP
import Derived.Test.YtgffnjdmhpfneaaDoorZTrimP
import Derived.Test.YtgffnjdmhpfneaaDoorZMLowA
import Derived.Test.YtgffnjdmhpfneaaDoorZAscPlain
import Derived.Test.YtgffnjdmhpfneaaDoorZAscN
import Derived.Test.YtgffnjdmhpfneaaDoorZCutP
import Derived.Test.YtgffnjdmhpfneaaDoorZMTrmP
import Derived.Test.YtgffnjdmhpfneaaDoorZMFldP
import Derived.WalkKit
import Derived.WalkSpells
import Derived.WalkLawsBesides
import Derived.Lib.Hide
import Derived.Deep.LoopGhost
import Derived.BigQuiet
import Derived.Deep.QuietTactic
import Derived.Lib.OthersKept
import Derived.Shelf.Strings.FuncGrows
import Derived.Lib.IndexLaws
import Derived.IntWalk
import Derived.Laws.AppendOwn

namespace Go.Proofs.YtgffnjdmhpfneaaDoor
open Go.RowKit

theorem blank_ascii : ∀ x : Fin 128, decide (0 ≤ Lib.indexByte [32, 9] x.val.toUInt8) = blkR x.val := by decide

theorem trimF_eq (s : ByteArray) : Lib.trimF blkR s = ⟨(trimL s.data.toList).toArray⟩ := by
  rw [← trimF_is, Lib.mk_data]

end Go.Proofs.YtgffnjdmhpfneaaDoor

namespace Go.Proofs.YtgffnjdmhpfneaaDoor
open Go.RowKit Go.Shelf Go.Lib

/-- The first line, without its end, or why there is none. -/
def lineL (l : List UInt8) : List UInt8 × Int :=
  if Lib.indexByte l 10 = -1 then ([], if 2002 < l.length then 4 else 3)
  else if Lib.hasSuffix (l.take (Lib.indexByte l 10).toNat) [13] = false then ([], 2)
  else if 2000 < (Lib.trimSuffix (l.take (Lib.indexByte l 10).toNat) [13]).length then ([], 4)
  else (Lib.trimSuffix (l.take (Lib.indexByte l 10).toNat) [13], 0)
def lineV (p : List UInt8 × Int) : Value := .tuple #[.string (strB p.1), .int .i64 p.2]

end Go.Proofs.YtgffnjdmhpfneaaDoor

namespace Go.Proofs.YtgffnjdmhpfneaaDoor
open Go.RowKit Go.Shelf Go.Lib

/-- The field that a line is: its name and its value. -/
def fldL (l : List UInt8) : Option (List UInt8 × List UInt8) :=
  if Lib.indexByte l 58 = -1 then none
  else if tokL (l.take (Lib.indexByte l 58).toNat) = true ∧ txtL (trimL (l.drop ((Lib.indexByte l 58).toNat + 1))) = true then some (lowL (l.take (Lib.indexByte l 58).toNat), trimL (l.drop ((Lib.indexByte l 58).toNat + 1)))
  else none
def fldV (o : Option (List UInt8 × List UInt8)) : Value := match o with
  | none => .tuple #[.agg #[.string ⟨#[]⟩, .string ⟨#[]⟩], .int .i64 2]
  | some p => .tuple #[.agg #[.string (strB p.1), .string (strB p.2)], .int .i64 0]

abbrev zeroF : Obj := .cells #[.string ⟨#[]⟩, .string ⟨#[]⟩] 39
structure Res2 (W : World) (c : Nat) : Prop where
  r0 : W.cell? ⟨c, 0, none⟩ = some (.string ⟨#[]⟩)
  r1 : W.cell? ⟨c, 1, none⟩ = some (.string ⟨#[]⟩)
  g0 : W.frozen? ⟨c, 0, none⟩ = false
  g1 : W.frozen? ⟨c, 1, none⟩ = false
theorem Res2.made (w : World) : Res2 (w.alloc zeroF) w.heap.size := ⟨by simp, by simp, by simp, by simp⟩
theorem Res2.lt {W : World} {c : Nat} (h : Res2 W c) : c < W.heap.size := lt_of_cell h.r0
theorem Res2.next {W W1 : World} {c : Nat} (h : Res2 W c) (hb : Below W.heap.size W W1) : Res2 W1 c :=
  ⟨(hb.cell (p := ⟨c, 0, none⟩) h.lt).trans h.r0, (hb.cell (p := ⟨c, 1, none⟩) h.lt).trans h.r1, (hb.frozen (p := ⟨c, 0, none⟩) h.lt).trans h.g0, (hb.frozen (p := ⟨c, 1, none⟩) h.lt).trans h.g1⟩


end Go.Proofs.YtgffnjdmhpfneaaDoor

namespace Go.Proofs.YtgffnjdmhpfneaaDoor
open Go.RowKit Go.Shelf Go.Lib

/-- The fields with which a text begins, from a place on, behind some, and where they end; or the error. By so many rounds. -/
def parH : Nat → List UInt8 → Nat → List Fld → Except Int (List Fld × Nat)
  | 0, _, _, _ => .error 4
  | f + 1, l, K, acc =>
    if (lineL (l.drop K)).2 ≠ 0 then .error (lineL (l.drop K)).2
    else if (lineL (l.drop K)).1 = [] then .ok (acc, K + (lineL (l.drop K)).1.length + 2)
    else if acc.length = 64 then .error 4
    else match fldL (lineL (l.drop K)).1 with
      | none => .error 2
      | some p => parH f l (K + (lineL (l.drop K)).1.length + 2) (acc ++ [p])
def parseH (l : List UInt8) : Except Int (List Fld × Nat) := parH 65 l 0 []

/-- A line that is, with its end, lies within the text. -/
theorem lineL_le (l : List UInt8) (h : (lineL l).2 = 0) : (lineL l).1.length + 2 ≤ l.length := by
  unfold lineL at h ⊢
  by_cases h1 : Lib.indexByte l 10 = -1
  · rw [if_pos h1] at h
    simp only at h
    split at h <;> cases h
  · rw [if_neg h1] at h ⊢
    obtain ⟨h0, hk⟩ := index_le l 10 h1
    by_cases h2 : Lib.hasSuffix (l.take (Lib.indexByte l 10).toNat) [13] = false
    · rw [if_pos h2] at h
      cases h
    · rw [if_neg h2] at h ⊢
      have h2' : Lib.hasSuffix (l.take (Lib.indexByte l 10).toNat) [13] = true := by simpa using h2
      by_cases h3 : 2000 < (Lib.trimSuffix (l.take (Lib.indexByte l 10).toNat) [13]).length
      · rw [if_pos h3] at h
        cases h
      · rw [if_neg h3]
        dsimp only
        have h4 : [(13 : UInt8)].length ≤ (List.take (Lib.indexByte l 10).toNat l).length := by
          have h5 := h2'
          unfold Lib.hasSuffix at h5
          exact (List.isSuffixOf_iff_suffix.1 h5).length_le
        unfold Lib.trimSuffix
        rw [if_pos h2', List.length_take, List.length_take]
        rw [List.length_take] at h4
        simp only [List.length_singleton] at h4 ⊢
        omega

def headPost (o : Except Int (List Fld × Nat)) (w : World) (e : Ending) (w' : World) : Prop :=
  Below w.heap.size w w' ∧ match o with
    | .error n => e = .returned (.tuple #[.slice none 0 0, .int .i64 0, .int .i64 n])
    | .ok (fs, n) => ∃ v, e = .returned (.tuple #[v, .int .i64 (n : Int), .int .i64 0]) ∧ w'.ownsRow w.heap.size 39 2 v fs.length (rowF fs)

end Go.Proofs.YtgffnjdmhpfneaaDoor



namespace Go.Proofs.YtgffnjdmhpfneaaDoor
open Go.RowKit Go.Maps
open Go.WideMaps (keyOf_string_mk)

theorem zeroUnit (w : World) : (zeroValue 52).run Tryd.prog w = .ok (.agg #[]) w := by kernel_rfl
set_option maxRecDepth 100000 in
set_option maxHeartbeats 4000000 in
theorem hwithout_any (lo : Nat) (v v2 : Value) (fs : List Fld) (ns : List (List UInt8)) (w : World) (h : Flds lo w v fs) (h2 : StrsF w v2 ns) (hk : FldsOk fs) (hn : ns.length ≤ 100000) (hnl : ∀ q ∈ ns, q.length ≤ maxLen) :
    Calls Tryd.prog 18 #[v, v2] w fun e w' => (∃ u, e = .returned u ∧ w'.ownsRow w.heap.size 39 2 u (withoutH fs ns).length (rowF (withoutH fs ns))) ∧ Below w.heap.size w w' := by
  obtain ⟨i0, hi, hz0, hz1, hz2⟩ := info_parts info_field
  obtain ⟨ao, cap, rfl, hc⟩ := h
  obtain ⟨ao2, cap2, rfl, hc2⟩ := h2
  have hl := hk.1
  have Hmap0 := Lib.hid (World.ownsMap_made (H := Unit) w Tryd.prog 9 unitElem)
  have HB0 : Hid (Below w.heap.size w (w.alloc (.map #[] 0))) := Lib.hid ((Below.refl _ _).alloc (Nat.le_refl _) _)
  have hmm := @run_makeMap Tryd.prog
  have HK := Lib.hid hk
  have HC := Lib.hid hc
  have HC2 := Lib.hid hc2
  have HNL := Lib.hid hnl
  clear hk hc hc2 hnl
  go_enter Tryd.func18, Tryd.ntmps18
  go_wp2_with fail
  clear hmm
  go_loopw [16] (fun i wr => ∃ (j : Nat) (D : DataW Unit), i = .int .i64 j ∧ j ≤ ns.length ∧ wr.ownsMap Tryd.prog 9 unitElem w.heap.size j D ∧ Hid (KsetF D (ns.take j)) ∧ Below w.heap.size w wr) (fun i _ => ns.length - (intOf i).toNat)
  case atStart => exact ⟨0, .map [], rfl, Nat.zero_le _, Hmap0.out, Lib.hid ksetF_none, HB0.out⟩
  case round =>
    obtain ⟨j, D, rfl, hj, hmap, HD, hb⟩ := hrel
    clear Hmap0 HB0
    by_cases hlt : j < ns.length
    · rcases HC2.out with hnil | ⟨c, off, rfl, hcl, hcell⟩
      · exfalso
        rw [hnil] at hlt
        simp at hlt
      · obtain ⟨p, hp⟩ : ∃ p, ns[j]? = some p := ⟨_, List.getElem?_eq_getElem hlt⟩
        have a0 := (hb.cell (p := ⟨c, off + j, none⟩) hcl).trans (hcell j p hp)
        have hkl := HNL.out p (List.mem_of_getElem? hp)
        have Hkey : Hid (keyOf Tryd.prog 9 (.string (strB p)) = some (.string p)) := Lib.hid (keyOf_string_mk Tryd.underlying9 (by rw [strB_size]; exact hkl))
        have Htk : Hid (ns.take (j + 1) = ns.take j ++ [p]) := Lib.hid (by rw [List.take_add_one, hp] <;> rfl)
        have HB := Lib.hid hb
        have HM := Lib.hid hmap
        clear hcell hp hb hmap hkl
        go_wp2_with (at_mapUpdate; refine wpList_mapUpdate_own _ rfl _ _ _ 51 rfl 9 _ keyStrF Tryd.underlying51 _ w.heap.size j _ rfl HM.out (by unfold maxLen; omega) _ _ _ rfl rfl Hkey.out _ [] (unitElem_mk (H := Unit)) ?_; intro w4 hmap4 hgrow4)
        go_roundw
        case rel =>
          refine ⟨j + 1, D.put (.string p) (.agg []), by go_num, by omega, hmap4, Lib.hid ?_, ?_⟩
          · rw [Htk.out]; exact ksetF_put HD.out _ _
          · exact HB.out.grown hgrow4 HB.out.size (fun k e => by cases e; exact Nat.le_refl _)
        case measure => simp [intOf]; omega
    · obtain rfl : j = ns.length := by omega
      have hks := HD.out
      rw [List.take_length] at hks
      have Hmap := Lib.hid hmap
      have HKS := Lib.hid hks.2.1
      have HB := Lib.hid hb
      clear hks hmap hb HD
      rename World => W1
      go_wp2_with fail
      go_loopw [8, 26] (fun r i wr => ∃ (j : Nat) (acc : List Fld) (av : Option Addr) (cv : Nat), r = .slice av acc.length cv ∧ i = .int .i64 j ∧ j ≤ fs.length ∧ acc.length ≤ j ∧ Hid (acc = withoutH (fs.take j) ns) ∧ wr.ownsRow (w.heap.size + 1) 39 2 (.slice av acc.length cv) acc.length (rowF acc) ∧ wr.ownsMap Tryd.prog 9 unitElem w.heap.size ns.length D ∧ Below w.heap.size w wr) (fun _ i _ => fs.length - (intOf i).toNat)
      case atStart => exact ⟨0, [], none, 0, rfl, rfl, Nat.zero_le _, by simp, Lib.hid rfl, World.ownsRow_nil _ _ _ _, Hmap.out, HB.out⟩
      case round =>
        obtain ⟨k, acc, av, cv, rfl, rfl, hkl, hal, HA, hown, hmap, hb⟩ := hrel
        clear Hmap HB
        by_cases hlt2 : k < fs.length
        · rcases HC.out with hnil | ⟨c, off, rfl, _, hcl, hcell⟩
          · exfalso
            rw [hnil] at hlt2
            simp at hlt2
          · obtain ⟨p, hp⟩ : ∃ p, fs[k]? = some p := ⟨_, List.getElem?_eq_getElem hlt2⟩
            have Htk : Hid (fs.take (k + 1) = fs.take k ++ [p]) := Lib.hid (by rw [List.take_add_one, hp] <;> rfl)
            obtain ⟨x0, x1⟩ := hcell k p hp
            have a0 := (hb.cell (p := ⟨c, off + k * 2, none⟩) hcl).trans x0
            have a1 := (hb.cell (p := ⟨c, off + k * 2 + 1, none⟩) hcl).trans x1
            have hpl := (HK.out.2 p (List.mem_of_getElem? hp)).1
            have Hkey : Hid (keyOf Tryd.prog 9 (.string (strB p.1)) = some (.string p.1)) := Lib.hid (keyOf_string_mk Tryd.underlying9 (by rw [strB_size]; unfold maxLen; omega))
            have hhas := HKS.out p.1
            have hb1 := hb.alloc hb.size (.cells #[.string (strB p.1), .string (strB p.2)] 39)
            have HM1 := Lib.hid (hmap.alloc (.cells #[.string (strB p.1), .string (strB p.2)] 39))
            have HO := Lib.hid hown
            have HMp := Lib.hid hmap
            have HB := Lib.hid hb
            have hml : w.heap.size < wr.heap.size := hmap.lt
            by_cases hmem : p.1 ∈ ns
            · rw [decide_eq_true hmem] at hhas
              have HH := Lib.hid hhas
              have HN : Hid (withoutH (fs.take (k + 1)) ns = withoutH (fs.take k) ns) := Lib.hid (by rw [Htk.out]; exact withoutH_yes _ _ _ hmem)
              clear hcell x0 x1 hp hb hown hmap hb1 hhas hpl hmem
              go_wp2_with (at_lookup; refine wpList_lookup_own_unit _ rfl _ _ 51 rfl 9 52 keyStrF Tryd.underlying51 (zeroUnit _) w.heap.size ns.length D rfl HM1.out _ _ rfl Hkey.out ?_; rw [HH.out])
              go_roundw
              case rel =>
                exact ⟨k + 1, acc, av, cv, rfl, by go_num, by omega, by omega, Lib.hid (by rw [HN.out]; exact HA.out), (HO.out.alloc _).alloc _, (HMp.out.alloc _).alloc _, (HB.out.alloc HB.out.size _).alloc (by simp; omega) _⟩
              case measure => simp [intOf]; omega
            · rw [decide_eq_false hmem] at hhas
              have HH := Lib.hid hhas
              have HN : Hid (withoutH (fs.take (k + 1)) ns = withoutH (fs.take k) ns ++ [p]) := Lib.hid (by rw [Htk.out]; exact withoutH_no _ _ _ hmem)
              have hnew := cells_newF ((wr.alloc (.cells #[.string (strB p.1), .string (strB p.2)] 39)).alloc (.cells #[] 52)) (cellsF p) 39
              rw [show ((wr.alloc (.cells #[.string (strB p.1), .string (strB p.2)] 39)).alloc (.cells #[] 52)).heap.size = wr.heap.size + 2 by simp] at hnew
              have HNew := Lib.hid hnew
              clear hnew
              clear hcell x0 x1 hp hb hown hmap hb1 hhas hpl hmem
              go_wp2_with (first | (at_lookup; refine wpList_lookup_own_unit _ rfl _ _ 51 rfl 9 52 keyStrF Tryd.underlying51 (zeroUnit _) w.heap.size ns.length D rfl HM1.out _ _ rfl Hkey.out ?_; rw [HH.out]) | (at_builtin; refine wpList_append_own _ rfl _ _ 22 rfl (w.heap.size + 1) 39 i0 (.agg #[.string ⟨#[]⟩, .string ⟨#[]⟩]) 2 32 Tryd.underlying22 hi hz0 hz1 hz2 rfl (by decide) (.slice av acc.length cv) acc.length (rowF acc) rfl (((HO.out.alloc _).alloc _).alloc _) ⟨wr.heap.size + 2, 0, none⟩ 1 1 (cellsF p) rfl rfl HNew.out (by simp [Value.oneCell', cellsF]) (by unfold maxLen; omega) (by omega) (by simp; omega) ?_; intro v' w5 hown5 hgrow5 _; obtain ⟨a5, c5, rfl⟩ := owns_formF hown5))
              go_roundw
              case rel =>
                refine ⟨k + 1, acc ++ [p], a5, c5, by rw [List.length_append] <;> rfl, by go_num, by omega, by simp; omega, Lib.hid (by rw [HN.out, HA.out]), by rw [List.length_append, rowF_snoc]; exact hown5, ?_, ?_⟩
                · exact (((HMp.out.alloc _).alloc _).alloc _).kept hgrow5 (own_neF HO.out (Nat.lt_succ_self _))
                · exact (((HB.out.alloc HB.out.size _).alloc (by simp; omega) _).alloc (by simp; omega) _).grown hgrow5 (by simp; omega) (fun k e => by have := (World.ownsRow.lt HO.out k e).1; omega)
              case measure => simp [intOf]; omega
        · obtain rfl : k = fs.length := by omega
          have HR : Hid (acc = withoutH fs ns) := Lib.hid (by have := HA.out; rwa [List.take_length] at this)
          have HO := Lib.hid (ownsRow_lowF hown (Nat.le_succ w.heap.size))
          have HB := Lib.hid hb
          clear hown hmap hb HA
          go_wp2_with fail
          go_ret
          refine ⟨⟨_, rfl, ?_⟩, HB.out⟩
          rw [← HR.out]
          exact HO.out

end Go.Proofs.YtgffnjdmhpfneaaDoor
