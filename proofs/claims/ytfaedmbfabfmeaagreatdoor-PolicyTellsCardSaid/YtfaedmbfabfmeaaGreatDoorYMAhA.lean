/- The document's own Clamp, Sum, Told, Date, behind, Current (sculleryref13). · The document's own Date and Current (sculleryref13). -/
import Derived.Test.YtfaedmbfabfmeaaGreatDoorYMHdS
import Derived.Test.YtfaedmbfabfmeaaGreatDoorYMBasP
import Derived.Test.YtfaedmbfabfmeaaGreatDoorYMHdU
import Derived.Test.YtfaedmbfabfmeaaGreatDoorYMRdE
import Derived.Test.YtfaedmbfabfmeaaGreatDoorYMAscN
import Derived.Test.YtfaedmbfabfmeaaGreatDoorYAscPlain
import Derived.Test.YtfaedmbfabfmeaaGreatDoorRows
import Derived.IntWalk
import Derived.BigQuiet
import Derived.Deep.QuietTactic
import Derived.WalkKit
import Derived.WalkSpells
import Derived.WalkLawsBesides
import Derived.Lib.Hide
set_option linter.unusedSimpArgs false
set_option maxRecDepth 100000
set_option maxHeartbeats 2000000
namespace Go.Proofs.YtfaedmbfabfmeaaGreatDoor
open Go.RowKit Go.Lib
theorem rclamp_any (n:Int) (w:World) :
  Calls Tryz.prog 76 #[.int .i64 n] w fun e w'=>e=.returned (.int .i64 (clA n))∧w=w':=by
 unfold clA
 go_enter Tryz.func76,Tryz.ntmps76
 go_wp2_with fail
 go_ret
 exact⟨rfl,rfl⟩
theorem rsum_any (v:Value) (xs:List Int) (w:World) (h:IntsF w v xs) (hl:xs.length≤1000) :
  Calls Tryz.prog 45 #[v] w fun e w'=>e=.returned (.int .i64 (sumA xs))∧w=w':=by
 obtain⟨ao,cap,rfl,hc⟩:=h
 have HC:=zH hc
 clear hc
 go_enter Tryz.func45,Tryz.ntmps45
 go_wp2_with fail
 go_loopw [3,4] (fun nv iv wr=>∃(j:Nat) (Z:Int),nv=.int .i64 Z∧iv=.int .i64 j∧j≤xs.length∧Hid (Z=suA (xs.take j))∧wr=w) (fun _ iv _=>xs.length-(RowKit.intOf iv).toNat)
 case atStart=>exact⟨0,0,rfl,rfl,Nat.zero_le _,zH (by simp [suA]),rfl⟩
 case round =>
  obtain⟨j,Z,rfl,rfl,hj,HZ,rfl⟩:=hrel
  have hbd:=suA_bd (xs.take j)
  rw [← HZ.out]at hbd
  have htl:(xs.take j).length≤1000:=by rw [List.length_take];omega
  have hz0:-1099511627776000≤Z:=by omega
  have hz1:Z≤1099511627776000:=by omega
  clear hbd htl
  by_cases hlt:j<xs.length
  ·rcases HC.out with hnil | ⟨c,off,rfl,hcl,hcell⟩
   ·exfalso
    rw [hnil]at hlt
    simp at hlt
   obtain⟨x,hx⟩:∃x,xs[j]? = some x:=⟨_,List.getElem?_eq_getElem hlt⟩
   have a0:=hcell j x hx
   have jI:(j:Int)<(xs.length:Int):=by omega
   have j0:(0:Int)≤(j:Int):=by omega
   have HN:Hid (Z+min (max x (-1099511627776)) 1099511627776=suA (xs.take (j+1))):=zH (by
    rw [List.take_add_one,hx]
    show _=suA (xs.take j++[x])
    rw [suA_snoc,HZ.out]
    rfl)
   have hm0:-1099511627776≤min (max x (-1099511627776)) 1099511627776:=by omega
   have hm1:min (max x (-1099511627776)) 1099511627776≤1099511627776:=by omega
   clear hcell hx
   go_wp2_with fail
   go_roundw
   case rel=>exact⟨j+1,_,rfl,by go_num,by omega,HN,trivial⟩
   case measure=>simp [RowKit.intOf];omega
  ·obtain rfl:j=xs.length:=by omega
   have g0:¬(xs.length:Int)<(xs.length:Int):=by omega
   have HR:Hid (sumA xs=min (max Z 0) 2147483648):=zH (by
    have:=HZ.out
    rw [List.take_length]at this
    rw [sumA,← this])
   go_wp2_with fail
   go_ret
   exact⟨by rw [HR.out]<;>rfl,rfl⟩
theorem rdate_any (lo:Nat) (v:Value) (fs:List Fld) (n:Int) (w:World) (h:Flds lo w v fs) (hk:FldsOk fs) (hj:∀n,(joinH (allH fs n)).length≤90000) :
  Calls Tryz.prog 43 #[v,.int .i64 n] w fun e w'=>e=.returned (.int .i64 (dateA fs n))∧Below w.heap.size w w':=by
 have cG:=fun W (hb:Below w.heap.size w W)=>rget_any lo v fs nDateA W (h.below hb) hk
 have cP:=fun W=>rparse_any_RdM (joinH (allH fs nDateA)) W (Nat.le_trans (hj nDateA) (by decide))
 unfold getV at cG
 obtain⟨ao,cap,rfl,_⟩:=id h
 obtain⟨R,hR⟩:∃R,dateA fs n=R:=⟨_,rfl⟩
 have HN:=zH (fun h=>(hR.symm.trans (dateA_none n h)))
 have HS:=zH (fun m h=>(hR.symm.trans (dateA_some (m:=m) n h)))
 rw [hR]
 clear hR h hk hj
 generalize decide (0<(allH fs nDateA).length)=D at *
 generalize joinH (allH fs nDateA)=J at *
 cases hp:parL_DatP J with
 | none =>
  have cC:=fun W=>rclamp_any n W
  have HV:=zH (HN.out hp)
  rw [hp]at cP
  unfold secV at cP
  clear HN HS hp
  generalize strB J=S at *
  go_enter Tryz.func43,Tryz.ntmps43
  go_wp2_with fail
  refine(cG _ (Below.refl _ _)).mono ?_
  rintro e w1 ⟨rfl,hb⟩
  have HB:=zH hb
  clear hb cG
  go_wp2_with fail
  refine(cP _).mono ?_
  rintro e w2 ⟨rfl,hb⟩
  have HB:=zH (HB.out.trans (hb.mono HB.out.size))
  clear hb cP
  go_wp2_with fail
  refine(cC _).mono ?_
  rintro e w3 ⟨rfl,rfl⟩
  go_wp2_with fail
  go_ret
  exact⟨by rw [HV.out]<;>rfl,HB.out⟩
 | some m =>
  have cC:=fun W=>rclamp_any (m:Int) W
  have HV:=zH (HS.out m hp)
  rw [hp]at cP
  unfold secV at cP
  clear HN HS hp
  generalize strB J=S at *
  go_enter Tryz.func43,Tryz.ntmps43
  go_wp2_with fail
  refine(cG _ (Below.refl _ _)).mono ?_
  rintro e w1 ⟨rfl,hb⟩
  have HB:=zH hb
  clear hb cG
  go_wp2_with fail
  refine(cP _).mono ?_
  rintro e w2 ⟨rfl,hb⟩
  have HB:=zH (HB.out.trans (hb.mono HB.out.size))
  clear hb cP
  go_wp2_with fail
  refine(cC _).mono ?_
  rintro e w3 ⟨rfl,rfl⟩
  go_wp2_with fail
  go_ret
  exact⟨by rw [HV.out]<;>rfl,HB.out⟩
end Go.Proofs.YtfaedmbfabfmeaaGreatDoor
