/- What package members calls of package strings: TrimLeft, CutPrefix, HasPrefix; endsItem. -/
import Derived.Test.YtfaedmbfabfmeaaGreatDoorYMItmC
import Derived.Shelf.Strings.SlTrimAscii
namespace Go.Proofs.YtfaedmbfabfmeaaGreatDoor
open Go.RowKit
def spD (l:List UInt8):List UInt8:=l.dropWhile (·==32)
def blD (l:List UInt8):List UInt8:=l.dropWhile (fun c=>c==32||c==9)
theorem spD_le (l:List UInt8):(spD l).length≤l.length:=(List.dropWhile_sublist _).length_le
theorem blD_le (l:List UInt8):(blD l).length≤l.length:=(List.dropWhile_sublist _).length_le
theorem trimL1_any (s:ByteArray) (w:World) :
  Calls Tryz.prog 126 #[.string s,.string ⟨#[32]⟩] w fun e w'=>e=.returned (.string (strB (spD s.data.toList)))∧Below w.heap.size w w':=by
 refine(Tryz.strings_TrimLeft_one s 32 (by decide) w).mono ?_
 rintro e w' ⟨rfl,rfl⟩
 exact⟨rfl,Below.refl _ _⟩
theorem trimL2_any (s:ByteArray) (w:World) :
  Calls Tryz.prog 126 #[.string s,.string ⟨#[32,9]⟩] w fun e w'=>e=.returned (.string (strB (blD s.data.toList)))∧Below w.heap.size w w':=by
 refine(Any.strings_TrimLeft_laid Tryz.lays161 (by kernel_rfl) s ⟨#[32,9]⟩ w (by decide) ?_).mono ?_
 ·intro j b h
  have hj:j<2:=(List.getElem?_eq_some_iff.1 h).1
  rcases(show j=0∨j=1 by omega)with rfl | rfl
  ·obtain rfl:=Option.some.inj h;decide
  ·obtain rfl:=Option.some.inj h;decide
 ·intro e w' h
  have hd:Lib.trimLeftS s.data.toList [32,9]=blD s.data.toList:=by
   unfold Lib.trimLeftS blD
   congr 1
   funext c
   simp only [List.contains,List.elem]
   cases c==32<;>cases c==9<;>rfl
  rw [show(⟨#[32,9]⟩:ByteArray).data.toList=[32,9]from rfl,hd]at h
  exact h
theorem cut_yes (s:ByteArray) (c:UInt8) (w:World) (h:s.data.toList.head? = some c) :
  Calls Tryz.prog 127 #[.string s,.string ⟨#[c]⟩] w fun e w'=>e=.returned (.tuple #[.string (strB (s.data.toList.drop 1)),.bool true])∧w=w':=by
 refine(Tryz.strings_CutPrefix s ⟨#[c]⟩ w).mono ?_
 rintro e w' ⟨rfl,rfl⟩
 have hp:Lib.hasPrefix s.data.toList [c]=true:=by
  cases hl:s.data.toList with
  | nil=>rw [hl]at h;cases h
  | cons d r =>
   rw [hl]at h
   obtain rfl:=Option.some.inj h
   simp [Lib.hasPrefix]
 rw [show(⟨#[c]⟩:ByteArray).data.toList=[c]from rfl,Lib.trimPrefix,hp]
 exact⟨rfl,rfl⟩
theorem cut_no (s:ByteArray) (c:UInt8) (w:World) (h:s.data.toList.head?≠some c) :
  Calls Tryz.prog 127 #[.string s,.string ⟨#[c]⟩] w fun e w'=>e=.returned (.tuple #[.string s,.bool false])∧w=w':=by
 refine(Tryz.strings_CutPrefix s ⟨#[c]⟩ w).mono ?_
 rintro e w' ⟨rfl,rfl⟩
 have hp:Lib.hasPrefix s.data.toList [c]=false:=by
  cases hl:s.data.toList with
  | nil=>rfl
  | cons d r =>
   rw [hl]at h
   simp only [List.head?_cons,ne_eq,Option.some.injEq]at h
   unfold Lib.hasPrefix
   simp only [List.isPrefixOf,Bool.and_true,beq_eq_false_iff_ne,ne_eq]
   exact fun e=>h e.symm
 rw [show(⟨#[c]⟩:ByteArray).data.toList=[c]from rfl,Lib.trimPrefix,hp]
 exact⟨rfl,rfl⟩
theorem hasPrefix_any (s:ByteArray) (c:UInt8) (w:World) :
  Calls Tryz.prog 215 #[.string s,.string ⟨#[c]⟩] w fun e w'=>e=.returned (.bool (s.data.toList.head? == some c))∧w=w':=by
 refine(Tryz.strings_HasPrefix s ⟨#[c]⟩ w).mono ?_
 rintro e w' ⟨rfl,rfl⟩
 refine⟨?_,rfl⟩
 congr 2
 rw [show(⟨#[c]⟩:ByteArray).data.toList=[c]from rfl]
 cases hl:s.data.toList with
 | nil=>rfl
 | cons d r =>
  unfold Lib.hasPrefix
  rw [Bool.eq_iff_iff]
  simp only [List.isPrefixOf,Bool.and_true,beq_iff_eq,List.head?_cons,Option.some.injEq]
  exact eq_comm
def endI (l:List UInt8):Bool:=l.head? == some 32||l.head? == some 41
theorem endsItem_any (s:ByteArray) (w:World) :
  Calls Tryz.prog 235 #[.string s] w fun e w'=>e=.returned (.bool (endI s.data.toList))∧w=w':=by
 have c1:=fun W=>hasPrefix_any s 32 W
 have c2:=fun W=>hasPrefix_any s 41 W
 unfold endI
 cases h1:s.data.toList.head? == some 32
 ·rw [h1]at c1
  go_enter Tryz.func235,Tryz.ntmps235
  go_wp2_with fail
  refine(c1 _).mono ?_
  rintro e w1 ⟨rfl,rfl⟩
  go_wp2_with fail
  refine(c2 _).mono ?_
  rintro e w1 ⟨rfl,rfl⟩
  go_wp2_with fail
  go_ret
  exact⟨by simp,rfl⟩
 ·rw [h1]at c1
  go_enter Tryz.func235,Tryz.ntmps235
  go_wp2_with fail
  refine(c1 _).mono ?_
  rintro e w1 ⟨rfl,rfl⟩
  go_wp2_with fail
  go_ret
  exact⟨by simp,rfl⟩
end Go.Proofs.YtfaedmbfabfmeaaGreatDoor
