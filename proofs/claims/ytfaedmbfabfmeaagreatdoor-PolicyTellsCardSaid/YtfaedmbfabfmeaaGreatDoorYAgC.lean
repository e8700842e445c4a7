/- The contracts of package age. -/
import Derived.Test.YtfaedmbfabfmeaaGreatDoorYMHdS
import Derived.Test.YtfaedmbfabfmeaaGreatDoorYMBasP
import Derived.Test.YtfaedmbfabfmeaaGreatDoorYMHdU
import Derived.Test.YtfaedmbfabfmeaaGreatDoorYDatJ
import Derived.Test.YtfaedmbfabfmeaaGreatDoorYMDigP
import Derived.Test.YtfaedmbfabfmeaaGreatDoorRows
import Derived.IntWalk
import Derived.BigQuiet
import Derived.Deep.QuietTactic
import Derived.WalkKit
import Derived.WalkSpells
import Derived.WalkLawsBesides
import Derived.Lib.Hide
set_option linter.unusedSimpArgs false
set_option maxRecDepth 100000
set_option maxHeartbeats 2000000
namespace Go.Proofs.YtfaedmbfabfmeaaGreatDoor
open Go.RowKit Go.Lib
theorem alimit_any (n a b:Int) (w:World) :
  Calls Tryz.prog 113 #[.int .i64 n,.int .i64 a,.int .i64 b] w fun e w'=>e=.returned (.int .i64 (min (max n a) b))∧w=w':=by
 go_enter Tryz.func113,Tryz.ntmps113
 go_wp2_with fail
 go_ret
 exact⟨rfl,rfl⟩
theorem aclamp_any (n:Int) (w:World) :
  Calls Tryz.prog 72 #[.int .i64 n] w fun e w'=>e=.returned (.int .i64 (clA n))∧w=w':=by
 have c:=fun W=>alimit_any n 0 1099511627776 W
 have hc:clA n=min (max n 0) 1099511627776:=rfl
 rw [← hc]at c
 clear hc
 generalize clA n=R at *
 go_enter Tryz.func72,Tryz.ntmps72
 go_wp2_with fail
 refine(c _).mono ?_
 rintro e w1 ⟨rfl,rfl⟩
 go_wp2_with fail
 go_ret
 exact⟨rfl,rfl⟩
theorem asum_any (v:Value) (xs:List Int) (w:World) (h:IntsF w v xs) (hl:xs.length≤1000) :
  Calls Tryz.prog 75 #[v] w fun e w'=>e=.returned (.int .i64 (sumA xs))∧w=w':=by
 obtain⟨ao,cap,rfl,hc⟩:=h
 have HC:=zH hc
 clear hc
 go_enter Tryz.func75,Tryz.ntmps75
 go_wp2_with fail
 go_loopw [3,4,9] (fun uv lv iv wr=>∃(j:Nat) (U L:Int),uv=.int .i64 U∧lv=.int .i64 L∧iv=.int .i64 j∧j≤xs.length∧Hid (U=upA (xs.take j))∧Hid (L=loA (xs.take j))∧wr=w) (fun _ _ iv _=>xs.length-(RowKit.intOf iv).toNat)
 case atStart=>exact⟨0,0,0,rfl,rfl,rfl,Nat.zero_le _,zH (by simp [upA]),zH (by simp [loA]),rfl⟩
 case round =>
  obtain⟨j,U,L,rfl,rfl,rfl,hj,HU,HL,rfl⟩:=hrel
  have hbu:=upA_bd (xs.take j)
  have hbl:=loA_bd (xs.take j)
  rw [← HU.out]at hbu
  rw [← HL.out]at hbl
  have htl:(xs.take j).length≤1000:=by rw [List.length_take];omega
  have u0:-256000≤U:=by omega
  have u1:U≤256000:=by omega
  have l0:0≤L:=by omega
  have l1:L≤4294967296000:=by omega
  clear hbu hbl htl
  by_cases hlt:j<xs.length
  ·rcases HC.out with hnil | ⟨c,off,rfl,hcl,hcell⟩
   ·exfalso
    rw [hnil]at hlt
    simp at hlt
   obtain⟨x,hx⟩:∃x,xs[j]? = some x:=⟨_,List.getElem?_eq_getElem hlt⟩
   have a0:=hcell j x hx
   have jI:(j:Int)<(xs.length:Int):=by omega
   have j0:(0:Int)≤(j:Int):=by omega
   have cL:=fun W=>alimit_any x (-1099511627776) 1099511627776 W
   have hM:=ctA_in x
   have hct:ctA x=min (max x (-1099511627776)) 1099511627776:=rfl
   rw [← hct]at cL
   have NU:Hid (U+ctA x / 4294967296=upA (xs.take (j+1))):=zH (by
    rw [List.take_add_one,hx]
    show _=upA (xs.take j++[x])
    rw [upA_snoc,HU.out])
   have NL:Hid (L+ctA x % 4294967296=loA (xs.take (j+1))):=zH (by
    rw [List.take_add_one,hx]
    show _=loA (xs.take j++[x])
    rw [loA_snoc,HL.out])
   clear hct
   generalize ctA x=M at *
   have hlow:=i64_low M
   have m0:-1099511627776≤M:=hM.1
   have m1:M≤1099511627776:=hM.2
   have b0:0≤bits .and .i64 M 4294967295:=by omega
   have b1:bits .and .i64 M 4294967295<4294967296:=by omega
   clear hcell hx hM
   rw [← hlow]at NL
   clear hlow
   go_wp2_with fail
   refine(cL _).mono ?_
   rintro e w1 ⟨rfl,rfl⟩
   go_wp2_with fail
   go_roundw
   case rel=>exact⟨j+1,_,_,rfl,rfl,by go_num,by omega,NU,NL,trivial⟩
   case measure=>simp [RowKit.intOf];omega
  ·obtain rfl:j=xs.length:=by omega
   have g0:¬(xs.length:Int)<(xs.length:Int):=by omega
   have HR:=zH (sum_halves xs)
   have e1:=HU.out
   have e2:=HL.out
   rw [List.take_length]at e1 e2
   rw [← e1,← e2]at HR
   have hlow:=i64_low L
   clear e1 e2 HU HL
   have b0:0≤bits .and .i64 L 4294967295:=by omega
   have b1:bits .and .i64 L 4294967295<4294967296:=by omega
   by_cases h1:U+L / 4294967296<0
   ·have HV:Hid (sumA xs=0):=zH (by rw [HR.out,if_pos h1])
    clear HR
    go_wp2_with fail
    go_ret
    exact⟨by rw [HV.out];rfl,rfl⟩
   ·by_cases h2:0<U+L / 4294967296
    ·have HV:Hid (sumA xs=2147483648):=zH (by rw [HR.out,if_neg h1,if_pos h2])
     clear HR
     go_wp2_with fail
     go_ret
     exact⟨by rw [HV.out];rfl,rfl⟩
    ·have HV:Hid (sumA xs=min (L % 4294967296) 2147483648):=zH (by rw [HR.out,if_neg h1,if_neg h2])
     clear HR
     go_wp2_with fail
     go_ret
     exact⟨by rw [HV.out];rfl,rfl⟩
theorem adate_any (lo:Nat) (v:Value) (fs:List Fld) (n:Int) (w:World) (h:Flds lo w v fs) (hk:FldsOk fs) (hj:∀n,(joinH (allH fs n)).length≤90000) (hC:Cal w) :
  Calls Tryz.prog 38 #[v,.int .i64 n] w fun e w'=>e=.returned (.int .i64 (dateA fs n))∧Below w.heap.size w w':=by
 have cG:=fun W (hb:Below w.heap.size w W)=>hget_any lo v fs nDateA W (h.below hb) hk
 have HC:=zH hC
 have cP:=fun W (hb:Below w.heap.size w W)=>parse_any (joinH (allH fs nDateA)) W (Nat.le_trans (hj nDateA) (by decide)) (Cal.below HC.out hb)
 unfold getV at cG
 obtain⟨ao,cap,rfl,_⟩:=id h
 obtain⟨R,hR⟩:∃R,dateA fs n=R:=⟨_,rfl⟩
 have HN:=zH (fun h=>(hR.symm.trans (dateA_none n h)))
 have HS:=zH (fun m h=>(hR.symm.trans (dateA_some (m:=m) n h)))
 rw [hR]
 clear hR h hk hj hC HC
 generalize decide (0<(allH fs nDateA).length)=D at *
 generalize joinH (allH fs nDateA)=J at *
 cases hp:parL_DatP J with
 | none =>
  have cC:=fun W=>aclamp_any n W
  have HV:=zH (HN.out hp)
  rw [hp]at cP
  unfold secV at cP
  clear HN HS hp
  generalize strB J=S at *
  go_enter Tryz.func38,Tryz.ntmps38
  go_wp2_with fail
  refine(cG _ (Below.refl _ _)).mono ?_
  rintro e w1 ⟨rfl,hb⟩
  have HB:=zH hb
  clear hb cG
  go_wp2_with fail
  refine(cP _ HB.out).mono ?_
  rintro e w2 ⟨rfl,hb⟩
  have HB:=zH (HB.out.trans (hb.mono HB.out.size))
  clear hb cP
  go_wp2_with fail
  refine(cC _).mono ?_
  rintro e w3 ⟨rfl,rfl⟩
  go_wp2_with fail
  go_ret
  exact⟨by rw [HV.out];rfl,HB.out⟩
 | some m =>
  have cC:=fun W=>aclamp_any (m:Int) W
  have HV:=zH (HS.out m hp)
  rw [hp]at cP
  unfold secV at cP
  clear HN HS hp
  generalize strB J=S at *
  go_enter Tryz.func38,Tryz.ntmps38
  go_wp2_with fail
  refine(cG _ (Below.refl _ _)).mono ?_
  rintro e w1 ⟨rfl,hb⟩
  have HB:=zH hb
  clear hb cG
  go_wp2_with fail
  refine(cP _ HB.out).mono ?_
  rintro e w2 ⟨rfl,hb⟩
  have HB:=zH (HB.out.trans (hb.mono HB.out.size))
  clear hb cP
  go_wp2_with fail
  refine(cC _).mono ?_
  rintro e w3 ⟨rfl,rfl⟩
  go_wp2_with fail
  go_ret
  exact⟨by rw [HV.out];rfl,HB.out⟩
end Go.Proofs.YtfaedmbfabfmeaaGreatDoor
