/- Plain: how many bytes the directives of a text have; how long the values of fields are, joined. · The contract of head.Without. -/
import Derived.Test.YtfaedmbfabfmeaaGreatDoorZMDirP
import Derived.Test.YtfaedmbfabfmeaaGreatDoorRows
import Derived.Test.YtfaedmbfabfmeaaGreatDoorZMHdS
import Derived.Test.YtfaedmbfabfmeaaGreatDoorZMLgE
import Derived.Test.YtfaedmbfabfmeaaGreatDoorZMLgA
import Derived.Test.YtfaedmbfabfmeaaGreatDoorZMFldP
import Derived.Laws.AppendOwn
import Derived.Deep.QuietTactic
import Derived.BigQuiet
import Derived.WalkKit
import Derived.WalkSpells
import Derived.WalkLawsBesides
set_option linter.unusedSimpArgs false
set_option linter.unusedVariables false
set_option maxRecDepth 100000
set_option maxHeartbeats 4000000
namespace Go.Proofs.YtfaedmbfabfmeaaGreatDoor
open Go.RowKit Go.Lib
theorem lens_pr (n:List UInt8):∀fs:List Fld,2*(allH fs n).length+lensH (allH fs n)≤(prF fs).length
 | []=>Nat.zero_le _
 | p :: fs=>by
  have ih:=lens_pr n fs
  have hl:=lineF_len p
  rw [prF,List.length_append,hl]
  unfold allH at ih ⊢
  rw [List.filter_cons]
  split
  ·rw [List.map_cons,List.length_cons,lensH];omega
  ·omega
theorem join_small (fs:List Fld) (n:List UInt8):(joinH (allH fs n)).length≤(prF fs).length:=by
 have h:=lens_pr n fs
 cases hp:allH fs n with
 | nil=>exact Nat.zero_le _
 | cons p ps =>
  rw [hp,List.length_cons,lensH]at h
  rw [joinH,List.length_append,tailH_len]
  omega
end Go.Proofs.YtfaedmbfabfmeaaGreatDoor
namespace Go.Proofs.YtfaedmbfabfmeaaGreatDoor
open Go.RowKit Go.Maps
open Go.WideMaps (keyOf_string_mk)
theorem zeroUnit (w:World):(zeroValue 83).run Tryz.prog w=.ok (.agg #[]) w:=by kernel_rfl
theorem hwithout_any (lo:Nat) (v v2:Value) (fs:List Fld) (ns:List (List UInt8)) (w:World) (h:Flds lo w v fs) (h2:StrsF w v2 ns) (hk:FldsOk fs) (hn:ns.length≤100000) (hnl:∀q∈ns,q.length≤maxLen) :
  Calls Tryz.prog 17 #[v,v2] w fun e w'=>(∃u,e=.returned u∧w'.ownsRow w.heap.size 51 2 u (withoutH fs ns).length (rowF (withoutH fs ns)))∧Below w.heap.size w w':=by
 obtain⟨i0,hi,hz0,hz1,hz2⟩:=info_parts info_field
 obtain⟨ao,cap,rfl,hc⟩:=h
 obtain⟨ao2,cap2,rfl,hc2⟩:=h2
 have hl:=hk.1
 have Hmap0:=zH (World.ownsMap_made (H:=Unit) w Tryz.prog 9 unitElem)
 have HB0:Hid (Below w.heap.size w (w.alloc (.map #[] 0))):=zH ((Below.refl _ _).alloc (zR _) _)
 have hmm:=@run_makeMap Tryz.prog
 have HK:=zH hk
 have HC:=zH hc
 have HC2:=zH hc2
 have HNL:=zH hnl
 clear hk hc hc2 hnl
 go_enter Tryz.func17,Tryz.ntmps17
 go_wp2_with fail
 clear hmm
 go_loopw [16] (fun i wr=>∃(j:Nat) (D:DataW Unit),i=.int .i64 j∧j≤ns.length∧wr.ownsMap Tryz.prog 9 unitElem w.heap.size j D∧Hid (KsetF D (ns.take j))∧Below w.heap.size w wr) (fun i _=>ns.length-(intOf i).toNat)
 case atStart=>exact⟨0,.map [],rfl,Nat.zero_le _,Hmap0.out,zH ksetF_none,HB0.out⟩
 case round =>
  obtain⟨j,D,rfl,hj,hmap,HD,hb⟩:=hrel
  clear Hmap0 HB0
  by_cases hlt:j<ns.length
  ·rcases HC2.out with hnil | ⟨c,off,rfl,hcl,hcell⟩
   ·exfalso
    rw [hnil]at hlt
    simp at hlt
   ·obtain⟨p,hp⟩:∃p,ns[j]? = some p:=⟨_,List.getElem?_eq_getElem hlt⟩
    have a0:=(hb.cell (p:=⟨c,off+j,none⟩) hcl).trans (hcell j p hp)
    have hkl:=HNL.out p (List.mem_of_getElem? hp)
    have Hkey:Hid (keyOf Tryz.prog 9 (.string (strB p))=some (.string p)):=zH (keyOf_string_mk Tryz.underlying9 (by rw [strB_size];exact hkl))
    have Htk:Hid (ns.take (j+1)=ns.take j++[p]):=zH (by rw [List.take_add_one,hp]<;>rfl)
    have HB:=zH hb
    have HM:=zH hmap
    clear hcell hp hb hmap hkl
    go_wp2_with (at_mapUpdate;refine wpList_mapUpdate_own _ rfl _ _ _ 82 rfl 9 _ keyStrF Tryz.underlying82 _ w.heap.size j _ rfl HM.out (by unfold maxLen;omega) _ _ _ rfl rfl Hkey.out _ [] (unitElem_mk (H:=Unit)) ?_;intro w4 hmap4 hgrow4)
    go_roundw
    case rel =>
     refine⟨j+1,D.put (.string p) (.agg []),by go_num,by omega,hmap4,zH ?_,?_⟩
     ·rw [Htk.out];exact ksetF_put HD.out _ _
     ·exact HB.out.grown hgrow4 HB.out.size (fun k e=>by cases e;exact zR _)
    case measure=>simp [intOf];omega
  ·obtain rfl:j=ns.length:=by omega
   have hks:=HD.out
   rw [List.take_length]at hks
   have Hmap:=zH hmap
   have HKS:=zH hks.2.1
   have HB:=zH hb
   clear hks hmap hb HD
   rename World=>W1
   go_wp2_with fail
   go_loopw [8,26] (fun r i wr=>∃(j:Nat) (acc:List Fld) (av:Option Addr) (cv:Nat),r=.slice av acc.length cv∧i=.int .i64 j∧j≤fs.length∧acc.length≤j∧Hid (acc=withoutH (fs.take j) ns)∧wr.ownsRow (w.heap.size+1) 51 2 (.slice av acc.length cv) acc.length (rowF acc)∧wr.ownsMap Tryz.prog 9 unitElem w.heap.size ns.length D∧Below w.heap.size w wr) (fun _ i _=>fs.length-(intOf i).toNat)
   case atStart=>exact⟨0,[],none,0,rfl,rfl,Nat.zero_le _,by simp,zH rfl,World.ownsRow_nil _ _ _ _,Hmap.out,HB.out⟩
   case round =>
    obtain⟨k,acc,av,cv,rfl,rfl,hkl,hal,HA,hown,hmap,hb⟩:=hrel
    clear Hmap HB
    by_cases hlt2:k<fs.length
    ·rcases HC.out with hnil | ⟨c,off,rfl,_,hcl,hcell⟩
     ·exfalso
      rw [hnil]at hlt2
      simp at hlt2
     ·obtain⟨p,hp⟩:∃p,fs[k]? = some p:=⟨_,List.getElem?_eq_getElem hlt2⟩
      have Htk:Hid (fs.take (k+1)=fs.take k++[p]):=zH (by rw [List.take_add_one,hp]<;>rfl)
      obtain⟨x0,x1⟩:=hcell k p hp
      have a0:=(hb.cell (p:=⟨c,off+k*2,none⟩) hcl).trans x0
      have a1:=(hb.cell (p:=⟨c,off+k*2+1,none⟩) hcl).trans x1
      have hpl:=(HK.out.2 p (List.mem_of_getElem? hp)).1
      have Hkey:Hid (keyOf Tryz.prog 9 (.string (strB p.1))=some (.string p.1)):=zH (keyOf_string_mk Tryz.underlying9 (by rw [strB_size];unfold maxLen;omega))
      have hhas:=HKS.out p.1
      have hb1:=hb.alloc hb.size (.cells #[.string (strB p.1),.string (strB p.2)] 51)
      have HM1:=zH (hmap.alloc (.cells #[.string (strB p.1),.string (strB p.2)] 51))
      have HO:=zH hown
      have HMp:=zH hmap
      have HB:=zH hb
      have hml:w.heap.size<wr.heap.size:=hmap.lt
      by_cases hmem:p.1∈ns
      ·rw [decide_eq_true hmem]at hhas
       have HH:=zH hhas
       have HN:Hid (withoutH (fs.take (k+1)) ns=withoutH (fs.take k) ns):=zH (by rw [Htk.out];exact withoutH_yes _ _ _ hmem)
       clear hcell x0 x1 hp hb hown hmap hb1 hhas hpl hmem
       go_wp2_with (at_lookup;refine wpList_lookup_own_unit _ rfl _ _ 82 rfl 9 83 keyStrF Tryz.underlying82 (zeroUnit _) w.heap.size ns.length D rfl HM1.out _ _ rfl Hkey.out ?_;rw [HH.out])
       go_roundw
       case rel =>
        exact⟨k+1,acc,av,cv,rfl,by go_num,by omega,by omega,zH (by rw [HN.out];exact HA.out),(HO.out.alloc _).alloc _,(HMp.out.alloc _).alloc _,(HB.out.alloc HB.out.size _).alloc (by simp;omega) _⟩
       case measure=>simp [intOf];omega
      ·rw [decide_eq_false hmem]at hhas
       have HH:=zH hhas
       have HN:Hid (withoutH (fs.take (k+1)) ns=withoutH (fs.take k) ns++[p]):=zH (by rw [Htk.out];exact withoutH_no _ _ _ hmem)
       have hnew:=cells_newF ((wr.alloc (.cells #[.string (strB p.1),.string (strB p.2)] 51)).alloc (.cells #[] 83)) (cellsF p) 51
       rw [show((wr.alloc (.cells #[.string (strB p.1),.string (strB p.2)] 51)).alloc (.cells #[] 83)).heap.size=wr.heap.size+2 by simp]at hnew
       have HNew:=zH hnew
       clear hnew
       clear hcell x0 x1 hp hb hown hmap hb1 hhas hpl hmem
       go_wp2_with (first | (at_lookup;refine wpList_lookup_own_unit _ rfl _ _ 82 rfl 9 83 keyStrF Tryz.underlying82 (zeroUnit _) w.heap.size ns.length D rfl HM1.out _ _ rfl Hkey.out ?_;rw [HH.out]) | (at_builtin;refine wpList_append_own _ rfl _ _ 22 rfl (w.heap.size+1) 51 i0 (.agg #[.string ⟨#[]⟩,.string ⟨#[]⟩]) 2 32 Tryz.underlying22 hi hz0 hz1 hz2 rfl (by decide) (.slice av acc.length cv) acc.length (rowF acc) rfl (((HO.out.alloc _).alloc _).alloc _) ⟨wr.heap.size+2,0,none⟩ 1 1 (cellsF p) rfl rfl HNew.out (by simp [Value.oneCell',cellsF]) (by unfold maxLen;omega) (by omega) (by simp;omega) ?_;intro v' w5 hown5 hgrow5 _;obtain⟨a5,c5,rfl⟩:=owns_formF hown5))
       go_roundw
       case rel =>
        refine⟨k+1,acc++[p],a5,c5,by rw [List.length_append]<;>rfl,by go_num,by omega,by simp;omega,zH (by rw [HN.out,HA.out]),by rw [List.length_append,rowF_snoc];exact hown5,?_,?_⟩
        ·exact(((HMp.out.alloc _).alloc _).alloc _).kept hgrow5 (own_neF HO.out (Nat.lt_succ_self _))
        ·exact(((HB.out.alloc HB.out.size _).alloc (by simp;omega) _).alloc (by simp;omega) _).grown hgrow5 (by simp;omega) (fun k e=>by have:=(World.ownsRow.lt HO.out k e).1;omega)
       case measure=>simp [intOf];omega
    ·obtain rfl:k=fs.length:=by omega
     have HR:Hid (acc=withoutH fs ns):=zH (by have:=HA.out;rwa [List.take_length]at this)
     have HO:=zH (ownsRow_lowF hown (Nat.le_succ w.heap.size))
     have HB:=zH hb
     clear hown hmap hb HA
     go_wp2_with fail
     go_ret
     refine⟨⟨_,rfl,?_⟩,HB.out⟩
     rw [← HR.out]
     exact HO.out
end Go.Proofs.YtfaedmbfabfmeaaGreatDoor
