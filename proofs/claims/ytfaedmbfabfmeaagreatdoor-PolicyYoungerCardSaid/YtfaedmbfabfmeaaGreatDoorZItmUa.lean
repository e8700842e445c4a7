/- What stays of cells and rows where a row grows: for walks that own items. -/
import Derived.Test.YtfaedmbfabfmeaaGreatDoorZMItmC
import Derived.Deep.RegionLaw
import Derived.Deep.AppendLies
namespace Go.Proofs.YtfaedmbfabfmeaaGreatDoor
open Go.RowKit Go.Maps
theorem cell_later {w:World} {b i:Nat} {v:Value} (o:Obj) (h:w.cell? ⟨b,i,none⟩=some v):(w.alloc o).cell? ⟨b,i,none⟩=some v:=
 (((Below.refl w.heap.size w).alloc (zR _) o).cell (p:=⟨b,i,none⟩) (lt_of_cell h)).trans h
theorem frozen_later {w:World} {b i:Nat} (o:Obj) (hb:b<w.heap.size) (h:w.frozen? ⟨b,i,none⟩=false):(w.alloc o).frozen? ⟨b,i,none⟩=false:=
 (((Below.refl w.heap.size w).alloc (zR _) o).frozen (p:=⟨b,i,none⟩) hb).trans h
theorem ResI.later {w:World} {c:Nat} (o:Obj) (h:ResI w c):ResI (w.alloc o) c:=
 ⟨cell_later o h.r0,cell_later o h.r1,cell_later o h.r2,cell_later o h.r3,frozen_later o h.lt h.g0,frozen_later o h.lt h.g1,frozen_later o h.lt h.g2,frozen_later o h.lt h.g3⟩
end Go.Proofs.YtfaedmbfabfmeaaGreatDoor
