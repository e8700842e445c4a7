/- The contract of strings.Join at a comma and a space. · Plain: whether a request holds a response; what the law of its own tag and dates asks. · Plain: the age of responses: times, sums, what fields tell; what later moments, greater ages and longer ways do to it. · Plain: the seconds of a date's text, under a name of its own. · Plain: a sum by halves: the upper and the lower bits of each number are added by themselves. · The document's own All of fields (sculleryref06). -/
import Derived.Test.YtfaedmbfabfmeaaGreatDoorYShelf
import Derived.Test.YtfaedmbfabfmeaaGreatDoorYMFldP
import Derived.Test.YtfaedmbfabfmeaaGreatDoorYMBasP
import Derived.Test.YtfaedmbfabfmeaaGreatDoorYAscPlain
import Derived.Lib.Join
import Derived.Laws.BitsLemmas
import Derived.Laws.AppendOwn
import Derived.BigQuiet
import Derived.Deep.QuietTactic
set_option linter.unusedSimpArgs false
set_option maxRecDepth 100000
set_option maxHeartbeats 4000000
namespace Go.Proofs.YtfaedmbfabfmeaaGreatDoor
open Go.RowKit Go.Shelf Go.Lib
def tailH:List (List UInt8)→List UInt8
 | []=>[]
 | p :: ps=>[44,32]++p++tailH ps
def joinH:List (List UInt8)→List UInt8
 | []=>[]
 | p :: ps=>p++tailH ps
def lensH:List (List UInt8)→Nat
 | []=>0
 | p :: ps=>p.length+lensH ps
theorem tailH_snoc:∀(ps:List (List UInt8)) (p:List UInt8),tailH (ps++[p])=tailH ps++([44,32]++p)
 | [],p=>by simp [tailH]
 | q :: ps,p=>by rw [List.cons_append,tailH,tailH,tailH_snoc ps p];simp
theorem tailH_len:∀ps:List (List UInt8),(tailH ps).length=2*ps.length+lensH ps
 | []=>rfl
 | p :: ps=>by rw [tailH,List.length_append,tailH_len ps,List.length_append,lensH,List.length_cons,List.length_cons,List.length_cons,List.length_nil];omega
theorem lensH_le:∀(ps:List (List UInt8)) (B:Nat),(∀p∈ps,p.length≤B)→lensH ps≤ps.length*B
 | [],_,_=>Nat.zero_le _
 | p :: ps,B,h=>by
  have h1:=h p (List.mem_cons_self ..)
  have h2:=lensH_le ps B (fun q hq=>h q (List.mem_cons_of_mem _ hq))
  rw [lensH,List.length_cons,Nat.add_mul]
  omega
theorem joinTail_eq:∀ps:List (List UInt8),Lib.joinTail [44,32] ps=tailH ps
 | []=>rfl
 | p :: ps=>by
  have:=joinTail_eq ps
  unfold Lib.joinTail at this ⊢
  rw [List.map_cons,List.flatten_cons,this,tailH]
theorem join_eq (ps:List (List UInt8)):Lib.join ps [44,32]=joinH ps:=by
 cases ps with
 | nil=>rfl
 | cons p r=>rw [Lib.join_cons,joinTail_eq,joinH]
theorem joinH_len (ps:List (List UInt8)) (hn:ps.length≤100000) (hl:∀p∈ps,p.length≤100000):(joinH ps).length≤100000000000:=by
 have h1:=lensH_le ps 100000 hl
 cases ps with
 | nil=>simp [joinH]
 | cons p r =>
  rw [lensH,List.length_cons]at h1
  rw [List.length_cons]at hn
  rw [joinH,List.length_append,tailH_len]
  omega
theorem join_any (base:Nat) (v:Value) (ps:List (List UInt8)) (w:World) (h:w.ownsRow base 9 1 v ps.length (rowS ps)) (hn:ps.length≤100000) (hl:∀p∈ps,p.length≤100000) :
  Calls Tryz.prog 74 #[v,.string ⟨#[44,32]⟩] w fun e w'=>e=.returned (.string (strB (joinH ps)))∧Below w.heap.size w w':=by
 by_cases hx:ps=[]
 ·subst hx
  obtain⟨ao,cap,rfl⟩:=owns_formF h
  refine(Tryz.strings_Join_none ao cap ⟨#[44,32]⟩ w).mono ?_
  rintro e w' ⟨rfl,rfl⟩
  exact⟨rfl,Below.refl _ _⟩
 ·obtain⟨g,cap,rfl,_,hlt,hcap⟩:=owns_sliceF h (List.length_pos_iff.2 hx)
  have hm:(ps.map strB).map (·.data.toList)=ps:=by
   rw [List.map_map]
   exact List.map_id' ps
  have hj:Lib.join ((ps.map strB).map (·.data.toList)) (⟨#[44,32]⟩:ByteArray).data.toList=joinH ps:=by
   rw [hm]
   exact join_eq ps
  have cJ:=Tryz.strings_Join g 0 cap (ps.map strB) ⟨#[44,32]⟩ w (fun j x hx=>by
   rw [Nat.zero_add]
   rw [List.getElem?_map,Option.map_eq_some_iff]at hx
   obtain⟨q,hq,rfl⟩:=hx
   exact owns_cellsF h j _ (by rw [rowS,List.getElem?_map,hq]<;>rfl)) hlt (by rw [List.length_map];omega) (by rw [List.length_map];exact hcap) (by rw [hj];have:=joinH_len ps hn hl;omega)
  rw [hj,List.length_map]at cJ
  exact cJ
end Go.Proofs.YtfaedmbfabfmeaaGreatDoor
namespace Go.Proofs.YtfaedmbfabfmeaaGreatDoor
open Go.RowKit
def nLmd:List UInt8:=[108,97,115,116,45,109,111,100,105,102,105,101,100]
def nDateA:List UInt8:=[100,97,116,101]
def clA (n:Int):Int:=min (max n 0) 1099511627776
def ctA (n:Int):Int:=min (max n (-1099511627776)) 1099511627776
def suA:List Int→Int
 | []=>0
 | n :: l=>ctA n+suA l
def sumA (l:List Int):Int:=min (max (suA l) 0) 2147483648
def dateA (fs:List Fld) (other:Int):Int:=match parL_DatP (joinH (allH fs nDateA))with
 | none=>clA other
 | some n=>clA n
theorem clA_in (n:Int):0≤clA n∧clA n≤1099511627776:=by unfold clA;omega
theorem ctA_in (n:Int):-1099511627776≤ctA n∧ctA n≤1099511627776:=by unfold ctA;omega
theorem dateA_in (fs:List Fld) (n:Int):0≤dateA fs n∧dateA fs n≤1099511627776:=by
 unfold dateA
 split
 ·exact clA_in _
 ·exact clA_in _
theorem dateA_none {fs:List Fld} (n:Int) (h:parL_DatP (joinH (allH fs nDateA))=none):dateA fs n=clA n:=by unfold dateA;rw [h]
theorem dateA_some {fs:List Fld} {m:Nat} (n:Int) (h:parL_DatP (joinH (allH fs nDateA))=some m):dateA fs n=clA m:=by unfold dateA;rw [h]
theorem suA_bd:∀l:List Int,-(1099511627776*(l.length:Int))≤suA l∧suA l≤1099511627776*(l.length:Int)
 | []=>by simp [suA]
 | n :: l=>by
  have h1:=suA_bd l
  have h2:=ctA_in n
  rw [suA,List.length_cons]
  omega
theorem suA_snoc:∀(l:List Int) (n:Int),suA (l++[n])=suA l+ctA n
 | [],n=>by simp [suA]
 | m :: l,n=>by rw [List.cons_append,suA,suA_snoc l n,suA];omega
def secN (l:List UInt8):Option Int:=match parL_DatP l with
 | none=>none
 | some n=>some (n:Int)
theorem secN_in {l:List UInt8} {n:Int} (h:secN l=some n):0≤n∧n<253402300800:=by
 unfold secN at h
 cases hp:parL_DatP l with
 | none=>rw [hp]at h;cases h
 | some k =>
  rw [hp]at h
  obtain rfl:=Option.some.inj h
  obtain⟨y,m,d,c,hk,hc,e⟩:=par_in hp
  have:=days_bound hk
  omega
def secZ:Option Int→Value
 | some n=>.tuple #[.int .i64 n,.int .i64 0]
 | none=>.tuple #[.int .i64 0,.int .i64 2]
def upA:List Int→Int
 | []=>0
 | n :: l=>ctA n / 4294967296+upA l
def loA:List Int→Int
 | []=>0
 | n :: l=>ctA n % 4294967296+loA l
theorem upA_snoc:∀(l:List Int) (n:Int),upA (l++[n])=upA l+ctA n / 4294967296
 | [],n=>by simp [upA]
 | m :: l,n=>by rw [List.cons_append,upA,upA_snoc l n,upA];omega
theorem loA_snoc:∀(l:List Int) (n:Int),loA (l++[n])=loA l+ctA n % 4294967296
 | [],n=>by simp [loA]
 | m :: l,n=>by rw [List.cons_append,loA,loA_snoc l n,loA];omega
theorem upA_bd:∀l:List Int,-(256*(l.length:Int))≤upA l∧upA l≤256*(l.length:Int)
 | []=>by simp [upA]
 | n :: l=>by
  have h1:=upA_bd l
  have h2:=ctA_in n
  rw [upA,List.length_cons]
  omega
theorem loA_bd:∀l:List Int,0≤loA l∧loA l≤4294967296*(l.length:Int)
 | []=>by simp [loA]
 | n :: l=>by
  have h1:=loA_bd l
  rw [loA,List.length_cons]
  omega
theorem su_halves:∀l:List Int,suA l=upA l*4294967296+loA l
 | []=>by simp [suA,upA,loA]
 | n :: l=>by
  have h1:=su_halves l
  rw [suA,upA,loA]
  omega
theorem sum_halves (l:List Int):sumA l=if upA l+loA l / 4294967296<0 then 0 else if 0<upA l+loA l / 4294967296 then 2147483648 else min (loA l % 4294967296) 2147483648:=by
 have h:=su_halves l
 unfold sumA
 generalize suA l=s at *
 generalize upA l=u at *
 generalize loA l=d at *
 subst h
 by_cases h1:u+d / 4294967296<0
 ·rw [if_pos h1];omega
 rw [if_neg h1]
 by_cases h2:0<u+d / 4294967296
 ·rw [if_pos h2];omega
 rw [if_neg h2]
 omega
theorem i64_low (n:Int):bits .and .i64 n 4294967295=n % 4294967296:=by
 have hm:(BitVec.ofInt 64 4294967295).toNat=2 ^ 32-1:=by decide
 have key:(BitVec.ofInt 64 n &&& BitVec.ofInt 64 4294967295).toNat=(n % ((2 ^ 64:Nat):Int)).toNat % 2 ^ 32:=by
  rw [BitVec.toNat_and,BitVec.toNat_ofInt,hm,Nat.and_two_pow_sub_one_eq_mod]
 show IntKind.i64.wrap ((BitVec.ofInt 64 n &&& BitVec.ofInt 64 4294967295).toNat:Nat)=n % 4294967296
 rw [key,IntKind.wrap_i64]
 omega
end Go.Proofs.YtfaedmbfabfmeaaGreatDoor
namespace Go.Proofs.YtfaedmbfabfmeaaGreatDoor
open Go.RowKit Go.Shelf Go.Lib
theorem rall_any (lo:Nat) (v:Value) (fs:List Fld) (name:List UInt8) (w:World) (h:Flds lo w v fs) (hl:fs.length≤100000) :
  Calls Tryz.prog 70 #[v,.string (strB name)] w fun e w'=>(∃u,e=.returned u∧w'.ownsRow w.heap.size 9 1 u (allH fs name).length (rowS (allH fs name)))∧Below w.heap.size w w':=by
 obtain⟨i0,hi,hz0,hz1,hz2⟩:=info_parts info_strF
 obtain⟨ao,cap,rfl,hc⟩:=h
 have HC:=zH hc
 clear hc
 go_enter Tryz.func70,Tryz.ntmps70
 go_wp2_with fail
 go_loopw [5,6] (fun r i wr=>∃(j:Nat) (acc:List (List UInt8)) (av:Option Addr) (cv:Nat),r=.slice av acc.length cv∧i=.int .i64 j∧j≤fs.length∧acc.length≤j∧Hid (acc=allH (fs.take j) name)∧wr.ownsRow w.heap.size 9 1 (.slice av acc.length cv) acc.length (rowS acc)∧Below w.heap.size w wr) (fun _ i _=>fs.length-(RowKit.intOf i).toNat)
 case atStart=>exact⟨0,[],none,0,rfl,rfl,Nat.zero_le _,by simp,zH rfl,World.ownsRow_nil _ _ _ _,Below.refl _ _⟩
 case round =>
  obtain⟨j,acc,av,cv,rfl,rfl,hj,hal,HA,hown,hb⟩:=hrel
  have HO:=zH hown
  have HB:=zH hb
  by_cases hlt:j<fs.length
  ·rcases HC.out with hnil | ⟨c,off,rfl,_,hcl,hcell⟩
   ·exfalso
    rw [hnil]at hlt
    simp at hlt
   ·obtain⟨p,hp⟩:∃p,fs[j]? = some p:=⟨_,List.getElem?_eq_getElem hlt⟩
    have Htk:Hid (fs.take (j+1)=fs.take j++[p]):=zH (by rw [List.take_add_one,hp]<;>rfl)
    obtain⟨x0,x1⟩:=hcell j p hp
    have a0:=(hb.cell (p:=⟨c,off+j*2,none⟩) hcl).trans x0
    have a1:=(hb.cell (p:=⟨c,off+j*2+1,none⟩) hcl).trans x1
    have hjI:(j:Int)<(fs.length:Int):=by omega
    have hj0:(0:Int)≤(j:Int):=by omega
    have hqe:=name_eq p.1 name
    have hz:=hb.size
    obtain⟨N,V⟩:=p
    dsimp only at a0 a1 hqe
    by_cases hN:N=name
    ·have HN:Hid (allH (fs.take (j+1)) name=allH (fs.take j) name++[V]):=zH (by rw [Htk.out,allH_snoc,if_pos hN])
     rw [decide_eq_true hN.symm]at hqe
     have hO4:=hown.alloc (.cells #[.string (strB V)] 9)
     have hnew:=cell_newS wr (strB V)
     have HNew:=zH hnew
     have HO4:=zH hO4
     clear hcell x0 x1 hp hb hown hN hnew hO4
     generalize strB N=SN at *
     generalize strB name=SM at *
     have HSV:Hid (rowS (acc++[V])=rowS acc++[.string (strB V)]):=zH (rowS_snoc _ _)
     generalize strB V=SV at *
     go_wp2_with (at_builtin;refine wpList_append_own _ rfl _ _ 81 rfl w.heap.size 9 i0 (.string ⟨#[]⟩) 1 16 Tryz.underlying81 hi hz0 hz1 hz2 rfl (by decide) (.slice av acc.length cv) acc.length (rowS acc) rfl HO4.out ⟨wr.heap.size,0,none⟩ 1 1 [.string SV] rfl rfl HNew.out (by intro u hu;simp at hu;subst hu;rfl) (by unfold maxLen;omega) (by omega) (by simp;omega) ?_;intro v' w5 hown5 hgrow5 _;obtain⟨a5,c5,rfl⟩:=owns_formF hown5)
     go_roundw
     case rel =>
      refine⟨j+1,acc++[V],a5,c5,by rw [List.length_append]<;>rfl,by go_num,by omega,by simp;omega,zH (by rw [HN.out,HA.out]),by rw [List.length_append,HSV.out];exact hown5,?_⟩
      exact(HB.out.alloc hz _).grown hgrow5 (by simp;omega) (fun k e=>(World.ownsRow.lt HO4.out k e).1)
     case measure=>simp [RowKit.intOf];omega
    ·have HN:Hid (allH (fs.take (j+1)) name=allH (fs.take j) name):=zH (by rw [Htk.out,allH_snoc,if_neg hN])
     rw [decide_eq_false (fun e=>hN e.symm)]at hqe
     clear hcell x0 x1 hp hb hown hN
     generalize strB N=SN at *
     generalize strB name=SM at *
     go_wp2_with fail
     go_roundw
     case rel=>exact⟨j+1,acc,av,cv,rfl,by go_num,by omega,by omega,zH (by rw [HN.out,HA.out]),HO.out,HB.out⟩
     case measure=>simp [RowKit.intOf];omega
  ·obtain rfl:j=fs.length:=by omega
   have hA:=HA.out
   rw [List.take_length]at hA
   have HA2:=zH hA
   clear hA hown hb
   go_wp2_with fail
   go_ret
   exact⟨⟨_,rfl,by rw [← HA2.out];exact HO.out⟩,HB.out⟩
end Go.Proofs.YtfaedmbfabfmeaaGreatDoor
