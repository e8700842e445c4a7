/- The contract of legacy.byName. · The contracts of (legacy.Directive).number, and of the two functions that Of makes. · The contract of legacy.Of. · The contracts of ascii.quotedLength and ascii.partEnd (for a seat on BasP). · The document's own Size and Same of fields (sculleryref06). -/
import Derived.Test.YtfaedmbfabfmeaaGreatDoorZMDirP
import Derived.Test.YtfaedmbfabfmeaaGreatDoorZMDigP
import Derived.Test.YtfaedmbfabfmeaaGreatDoorZMBasP
import Derived.Test.YtfaedmbfabfmeaaGreatDoorRows
import Derived.Test.YtfaedmbfabfmeaaGreatDoorZMSpP
import Derived.Laws.AppendOwn
import Derived.WalkKit
import Derived.WalkSpells
import Derived.WalkLawsBesides
import Derived.BigQuiet
import Derived.Deep.QuietTactic
set_option linter.unusedSimpArgs false
set_option linter.unusedVariables false
set_option maxRecDepth 100000
set_option maxHeartbeats 4000000
namespace Go.Proofs.YtfaedmbfabfmeaaGreatDoor
open Go.RowKit Go.Maps Go.Lib
open Go.WideMaps (keyOf_string_mk)
theorem zeroDirL (W:World):(zeroValue 133).run Tryz.prog W=.ok (dirV ([],[],false)) W:=by kernel_rfl
theorem byName_any (lo:Nat) (v:Value) (ds:List Dir) (w:World) (hv:Dirs lo w v ds) (hok:DirsOk ds) :
  Calls Tryz.prog 94 #[v] w fun e w'=>(e=.returned (.map (some w.heap.size))∧∃n D,w'.ownsMap Tryz.prog 9 readD w.heap.size n D∧FstOf D ds)∧Below w.heap.size w w':=by
 obtain⟨ao,cap,rfl,hc⟩:=hv
 have HC:=zH hc
 have HK:=zH hok.2
 have hl:=hok.1
 clear hc hok
 have hmm:=@run_makeMap Tryz.prog
 have Hmap0:=zH (World.ownsMap_made (H:=Unit) w Tryz.prog 9 readD)
 have HB0:=zH ((Below.refl w.heap.size w).alloc (zR _) (.map #[] 0))
 go_enter Tryz.func94,Tryz.ntmps94
 go_wp2_with fail
 clear hmm
 go_loopw [11] (fun i wr=>∃(k:Nat) (D:DataW Unit),k≤ds.length∧i=.int .i64 k∧Hid (wr.ownsMap Tryz.prog 9 readD w.heap.size k D)∧Hid (FstOf D (ds.take k))∧Hid (Below w.heap.size w wr)) (fun i _=>ds.length-(intOf i).toNat)
 case atStart=>exact⟨0,.map [],Nat.zero_le _,rfl,Hmap0,zH (by rw [List.take_zero];exact fstOf_nil),HB0⟩
 case round =>
  obtain⟨k,D,hk,rfl,HM,HF,HB⟩:=hrel
  clear Hmap0 HB0
  by_cases hlt:k<ds.length
  ·rcases HC.out with hnil | ⟨c,off,rfl,_,hcl,hcell⟩
   ·exfalso
    rw [hnil]at hlt
    simp at hlt
   ·obtain⟨p,hp⟩:∃p,ds[k]? = some p:=⟨_,List.getElem?_eq_getElem hlt⟩
    have HT:Hid (ds.take (k+1)=ds.take k++[p]):=zH (by rw [List.take_add_one,hp]<;>rfl)
    obtain⟨x0,x1,x2⟩:=hcell k p hp
    have a0:=(HB.out.cell (p:=⟨c,off+k*3,none⟩) hcl).trans x0
    have a1:=(HB.out.cell (p:=⟨c,off+k*3+1,none⟩) hcl).trans x1
    have a2:=(HB.out.cell (p:=⟨c,off+k*3+2,none⟩) hcl).trans x2
    have hkI:(k:Int)<(ds.length:Int):=by omega
    obtain⟨hkN,hkV⟩:=HK.out p (List.mem_of_getElem? hp)
    have hz:=HB.out.size
    obtain⟨N,V,H⟩:=p
    dsimp only at a0 a1 a2 hkN hkV
    clear hcell x0 x1 x2 hp
    have HM1:=zH (HM.out.alloc (.cells #[.string (strB N),.string (strB V),.bool H] 133))
    have hb1:Below w.heap.size w (wr.alloc (.cells #[.string (strB N),.string (strB V),.bool H] 133)):=HB.out.alloc hz _
    have HB1:=zH hb1
    clear hb1
    cases hf:fstN (ds.take k) N with
    | some d =>
     obtain⟨N2,V2,H2⟩:=d
     have HF2:=zH (fstOf_skip HF.out (N,V,H) _ hf)
     have e1:=zH (show(fstN (ds.take k) N).getD ([],[],false)=(N2,V2,H2)by rw [hf]<;>rfl)
     have e2:=zH (show hasN (ds.take k) N=true by rw [hasN,hf]<;>rfl)
     clear hf
     go_wp2_with (at_lookup;refine wpList_lookup_dir _ rfl _ _ rfl Tryz.underlying130 zeroDirL w.heap.size k D (ds.take k) rfl HM1.out HF.out N rfl hkN N2 V2 H2 true e1.out e2.out ?_)
     go_roundw
     case rel=>exact⟨k+1,D,by omega,by go_num,zH ((HM1.out.alloc _).mono (Nat.le_succ _)),zH (by rw [HT.out];exact HF2.out),zH (HB1.out.alloc (by have:=HB1.out.size;omega) _)⟩
     case measure=>simp [intOf];omega
    | none =>
     have HF2:=zH (fstOf_put HF.out (N,V,H) hf)
     have e1:=zH (show(fstN (ds.take k) N).getD ([],[],false)=([],[],false)by rw [hf]<;>rfl)
     have e2:=zH (show hasN (ds.take k) N=false by rw [hasN,hf]<;>rfl)
     have hkey:=zH (show keyOf Tryz.prog 9 (.string (strB N))=some (.string N)from keyOf_string_mk Tryz.underlying9 (by rw [strB_size];unfold maxLen;omega))
     clear hf
     go_wp2_with (first | (at_lookup;refine wpList_lookup_dir _ rfl _ _ rfl Tryz.underlying130 zeroDirL w.heap.size k D (ds.take k) rfl HM1.out HF.out N rfl hkN [] [] false false e1.out e2.out ?_) | (at_mapUpdate;refine wpList_mapUpdate_own _ rfl _ _ _ 130 rfl 9 133 keyStrD Tryz.underlying130 readD w.heap.size k D rfl (HM1.out.alloc _) (by unfold maxLen;omega) _ _ _ rfl rfl hkey.out (datD (N,V,H)) [] (readD_mk (N,V,H)) ?_;intro w4 hmap4 hgrow4))
     go_roundw
     case rel=>exact⟨k+1,D.put (.string N) (datD (N,V,H)),by omega,by go_num,zH hmap4,zH (by rw [HT.out];exact HF2.out),zH ((HB1.out.alloc (by have:=HB1.out.size;omega) _).grown hgrow4 (by have:=HB1.out.size;simp;omega) (fun j e=>by cases e;exact zR _))⟩
     case measure=>simp [intOf];omega
  ·obtain rfl:k=ds.length:=by omega
   have hkI:¬(ds.length:Int)<(ds.length:Int):=by omega
   have HF2:=zH HF.out
   rw [List.take_length]at HF2
   go_wp2_with fail
   refine bodyPost_ret (v:=.map (some w.heap.size)) (by simp [results,Tryz.results94,go_sem]) rfl ⟨⟨rfl,ds.length,D,HM.out,HF2.out⟩,HB.out⟩
theorem lnumber_any (N V:List UInt8) (H:Bool) (w:World) (hV:V.length≤100000) :
  Calls Tryz.prog 97 #[.agg #[.string (strB N),.string (strB V),.bool H]] w fun e w'=>e=.returned (.int .i64 (numM (N,V,H)))∧Below w.heap.size w w':=by
 have cD:=fun W=>digits_any (strB V) W (by rw [strB_size];unfold maxLen;omega)
 rw [strB_data]at cD
 have hqe:((strB N).toList==[109,97,120,45,115,116,97,108,101])=decide (nStale=N):=by
  rw [← name_eq N nStale,Lib.toList_data (strB nStale),strB_data]
  rfl
 have HB:=zH ((Below.refl w.heap.size w).alloc (zR _) (.cells #[.string (strB N),.string (strB V),.bool H] 133))
 have HA:Hid (numM (N,V,H)=if N=nStale∧H=false then 2147483648 else digitsN V):=zH rfl
 generalize numM (N,V,H)=R at *
 by_cases hN:N=nStale
 ·rw [decide_eq_true hN.symm]at hqe
  cases H
  ·have HR:Hid (R=2147483648):=zH (by rw [HA.out,if_pos ⟨hN,rfl⟩])
   clear HA hN
   generalize strB N=SN at *
   go_enter Tryz.func97,Tryz.ntmps97
   go_wp2_with fail
   refine bodyPost_ret (v:=.int .i64 2147483648) (by simp [results,Tryz.results97,go_sem]) rfl ⟨by rw [HR.out],HB.out⟩
  ·have HR:Hid (R=digitsN V):=zH (by rw [HA.out,if_neg (fun e=>by cases e.2)])
   clear HA hN
   generalize strB N=SN at *
   go_enter Tryz.func97,Tryz.ntmps97
   go_wp2_with (go_at_call 131;refine(cD _).mono ?_;rintro e w2 ⟨rfl,rfl⟩)
   refine bodyPost_ret (v:=.int .i64 (digitsN V)) (by simp [results,Tryz.results97,go_sem]) rfl ⟨by rw [HR.out],HB.out⟩
 ·rw [decide_eq_false (fun e=>hN e.symm)]at hqe
  have HR:Hid (R=digitsN V):=zH (by rw [HA.out,if_neg (fun e=>hN e.1)])
  clear HA hN
  generalize strB N=SN at *
  go_enter Tryz.func97,Tryz.ntmps97
  go_wp2_with (go_at_call 131;refine(cD _).mono ?_;rintro e w2 ⟨rfl,rfl⟩)
  refine bodyPost_ret (v:=.int .i64 (digitsN V)) (by simp [results,Tryz.results97,go_sem]) rfl ⟨by rw [HR.out],HB.out⟩
theorem set_any (B:Nat) (ds:List Dir) (n:List UInt8) (W:World) (h:Held W B ds) (hn:n.length≤100000) :
  Calls Tryz.prog 95 #[.string (strB n),.pointer (some ⟨B,0,none⟩)] W fun e w'=>e=.returned (.bool (hasN ds n))∧Below W.heap.size W w':=by
 obtain⟨hl,M,hc,k,D,ho,hF⟩:=h
 have HF:=zH hF
 have HO:=zH ho
 clear hF ho
 obtain⟨N,V,H,hd⟩:∃N V H,(fstN ds n).getD ([],[],false)=(N,V,H):=⟨_,_,_,rfl⟩
 have HD:=zH hd
 clear hd
 obtain⟨b,hb⟩:∃b,hasN ds n=b:=⟨_,rfl⟩
 rw [hb]
 have HH:=zH hb
 clear hb
 have HB:=zH ((Below.refl W.heap.size W).alloc (zR _) (.cells #[.string (strB N),.string (strB V),.bool H] 133))
 go_enter Tryz.func95,Tryz.ntmps95
 go_wp2_with (at_lookup;refine wpList_lookup_dir _ rfl _ _ rfl Tryz.underlying130 zeroDirL M k D ds rfl HO.out HF.out n rfl hn N V H b HD.out HH.out ?_)
 refine bodyPost_ret (v:=.bool b) (by simp [results,Tryz.results95,go_sem]) rfl ⟨rfl,HB.out⟩
theorem numberOf_any (B:Nat) (ds:List Dir) (n:List UInt8) (W:World) (h:Held W B ds) (hn:n.length≤100000) (hok:DirsOk ds) :
  Calls Tryz.prog 96 #[.string (strB n),.pointer (some ⟨B,0,none⟩)] W fun e w'=>e=.returned (.int .i64 (nm2 ds n))∧Below W.heap.size W w':=by
 obtain⟨hl,M,hc,k,D,ho,hF⟩:=h
 have HF:=zH hF
 have HO:=zH ho
 clear hF ho
 cases hf:fstN ds n with
 | none =>
  have HD:=zH (show(fstN ds n).getD ([],[],false)=([],[],false)by rw [hf]<;>rfl)
  have HH:=zH (show hasN ds n=false by rw [hasN,hf]<;>rfl)
  have HR:=zH (show nm2 ds n=-1 by rw [nm2,hf])
  have HB:=zH ((Below.refl W.heap.size W).alloc (zR _) (.cells #[.string (strB []),.string (strB []),.bool false] 133))
  clear hf
  go_enter Tryz.func96,Tryz.ntmps96
  go_wp2_with (at_lookup;refine wpList_lookup_dir _ rfl _ _ rfl Tryz.underlying130 zeroDirL M k D ds rfl HO.out HF.out n rfl hn [] [] false false HD.out HH.out ?_)
  refine bodyPost_ret (v:=.int .i64 (-1)) (by simp [results,Tryz.results96,go_sem]) rfl ⟨by rw [HR.out],HB.out⟩
 | some d =>
  have hm:=List.mem_of_find?_eq_some hf
  obtain⟨N,V,H⟩:=d
  have cN:=fun W=>lnumber_any N V H W (hok.2 _ hm).2
  have HD:=zH (show(fstN ds n).getD ([],[],false)=(N,V,H)by rw [hf]<;>rfl)
  have HH:=zH (show hasN ds n=true by rw [hasN,hf]<;>rfl)
  have HR:=zH (show nm2 ds n=numM (N,V,H)by rw [nm2,hf])
  have HB:=zH ((Below.refl W.heap.size W).alloc (zR _) (.cells #[.string (strB N),.string (strB V),.bool H] 133))
  clear hf hm
  go_enter Tryz.func96,Tryz.ntmps96
  go_wp2_with (first | (at_lookup;refine wpList_lookup_dir _ rfl _ _ rfl Tryz.underlying130 zeroDirL M k D ds rfl HO.out HF.out n rfl hn N V H true HD.out HH.out ?_) | (go_at_call 97;refine(cN _).mono ?_;rintro e w2 ⟨rfl,hb2⟩))
  refine bodyPost_ret (v:=.int .i64 (numM (N,V,H))) (by simp [results,Tryz.results96,go_sem]) rfl ⟨by rw [HR.out],HB.out.trans (hb2.mono HB.out.size)⟩
theorem rulV_nm2 (ds:List Dir):rulV ds=.agg #[.bool (hasN ds nNoStore),.bool (hasN ds nNoCache),.bool (hasN ds nPrivate),.bool (hasN ds nPublic),.bool (hasN ds nMust),.bool (hasN ds nProxy),.bool (hasN ds nImmut),.bool (hasN ds nOnly),.int .i64 (nm2 ds nMaxAge),.int .i64 (nm2 ds nSMax),.int .i64 (nm2 ds nStale),.int .i64 (nm2 ds nFresh),.int .i64 (nm2 ds nIfErr)]:=by
 rw [nm2_stale,nm2_other ds nMaxAge (by decide),nm2_other ds nSMax (by decide),nm2_other ds nFresh (by decide),nm2_other ds nIfErr (by decide)]
 rfl
theorem of_any (lo:Nat) (v:Value) (ds:List Dir) (w:World) (hv:Dirs lo w v ds) (hok:DirsOk ds) :
  Calls Tryz.prog 56 #[v] w fun e w'=>e=.returned (rulV ds)∧Below w.heap.size w w':=by
 have cB:=fun W (hb:Below w.heap.size w W)=>byName_any lo v ds W (hv.below hb) hok
 obtain⟨ao,cap,rfl,_⟩:=hv
 have HV:=zH (rulV_nm2 ds)
 generalize rulV ds=R at *
 have s0:=fun B W (h:Held W B ds)=>set_any B ds nNoStore W h (by decide)
 generalize hasN ds nNoStore=b0 at *
 have s1:=fun B W (h:Held W B ds)=>set_any B ds nNoCache W h (by decide)
 generalize hasN ds nNoCache=b1 at *
 have s2:=fun B W (h:Held W B ds)=>set_any B ds nPrivate W h (by decide)
 generalize hasN ds nPrivate=b2 at *
 have s3:=fun B W (h:Held W B ds)=>set_any B ds nPublic W h (by decide)
 generalize hasN ds nPublic=b3 at *
 have s4:=fun B W (h:Held W B ds)=>set_any B ds nMust W h (by decide)
 generalize hasN ds nMust=b4 at *
 have s5:=fun B W (h:Held W B ds)=>set_any B ds nProxy W h (by decide)
 generalize hasN ds nProxy=b5 at *
 have s6:=fun B W (h:Held W B ds)=>set_any B ds nImmut W h (by decide)
 generalize hasN ds nImmut=b6 at *
 have s7:=fun B W (h:Held W B ds)=>set_any B ds nOnly W h (by decide)
 generalize hasN ds nOnly=b7 at *
 have t0:=fun B W (h:Held W B ds)=>numberOf_any B ds nMaxAge W h (by decide) hok
 generalize nm2 ds nMaxAge=k0 at *
 have t1:=fun B W (h:Held W B ds)=>numberOf_any B ds nSMax W h (by decide) hok
 generalize nm2 ds nSMax=k1 at *
 have t2:=fun B W (h:Held W B ds)=>numberOf_any B ds nStale W h (by decide) hok
 generalize nm2 ds nStale=k2 at *
 have t3:=fun B W (h:Held W B ds)=>numberOf_any B ds nFresh W h (by decide) hok
 generalize nm2 ds nFresh=k3 at *
 have t4:=fun B W (h:Held W B ds)=>numberOf_any B ds nIfErr W h (by decide) hok
 generalize nm2 ds nIfErr=k4 at *
 have e1:∀args W,(callFunc 95 args).run Tryz.prog W=.ok (.enter 95 args) W:=enters_of Tryz.func95 (by kernel_rfl) rfl
 have e2:∀args W,(callFunc 96 args).run Tryz.prog W=.ok (.enter 96 args) W:=enters_of Tryz.func96 (by kernel_rfl) rfl
 have hmf:∀(fn:Fn) (first cap:Array Value) (w:World),(Instr.makeFunc fn first cap).run Tryz.prog w=.ok (.func fn first cap) w:=fun _ _ _ _=>rfl
 have HB0:=zH ((Below.refl w.heap.size w).alloc (zR _) (.cells #[.bool false,.bool false,.bool false,.bool false,.bool false,.bool false,.bool false,.bool false,.int .i64 0,.int .i64 0,.int .i64 0,.int .i64 0,.int .i64 0] 34))
 have HX:=zH (BoxN.made w [.bool false,.bool false,.bool false,.bool false,.bool false,.bool false,.bool false,.bool false,.int .i64 0,.int .i64 0,.int .i64 0,.int .i64 0,.int .i64 0] 34)
 go_enter Tryz.func56,Tryz.ntmps56
 go_wp2_with fail
 refine(cB _ HB0.out).mono ?_
 rintro e w1 ⟨⟨rfl,n,D,hM,hF⟩,hb1⟩
 have hz1:=hb1.size
 have HX1:=zH (HX.out.next hb1)
 have HB1:=zH (HB0.out.trans (hb1.mono HB0.out.size))
 have HH:=zH (show Held (w1.alloc (.cells #[.map (some (w.heap.size+1))] 130)) w1.heap.size ds from⟨by simp,w.heap.size+1,by simp,n,D,by simpa using hM.alloc _,hF⟩)
 have hal:=(Below.refl w1.heap.size w1).alloc (zR _) (.cells #[.map (some (w.heap.size+1))] 130)
 have HX:=zH (HX1.out.next hal)
 have HB:=zH (HB1.out.trans (hal.mono HB1.out.size))
 clear cB hM hF hb1 hal HX1 HB1 HB0
 go_wp2_with fail
 generalize w1.heap.size=B at *
 refine(s0 _ _ HH.out).mono ?_
 rintro e v0 ⟨rfl,hb⟩
 have HH:=zH (HH.out.below hb)
 have HX:=zH (HX.out.next hb)
 have HB:=zH (HB.out.trans (hb.mono HB.out.size))
 clear hb s0
 go_wp2_with fail
 refine(s1 _ _ HH.out).mono ?_
 rintro e v1 ⟨rfl,hb⟩
 have HH:=zH (HH.out.below hb)
 have HX:=zH (HX.out.next hb)
 have HB:=zH (HB.out.trans (hb.mono HB.out.size))
 clear hb s1
 go_wp2_with fail
 refine(s2 _ _ HH.out).mono ?_
 rintro e v2 ⟨rfl,hb⟩
 have HH:=zH (HH.out.below hb)
 have HX:=zH (HX.out.next hb)
 have HB:=zH (HB.out.trans (hb.mono HB.out.size))
 clear hb s2
 go_wp2_with fail
 refine(s3 _ _ HH.out).mono ?_
 rintro e v3 ⟨rfl,hb⟩
 have HH:=zH (HH.out.below hb)
 have HX:=zH (HX.out.next hb)
 have HB:=zH (HB.out.trans (hb.mono HB.out.size))
 clear hb s3
 go_wp2_with fail
 refine(s4 _ _ HH.out).mono ?_
 rintro e v4 ⟨rfl,hb⟩
 have HH:=zH (HH.out.below hb)
 have HX:=zH (HX.out.next hb)
 have HB:=zH (HB.out.trans (hb.mono HB.out.size))
 clear hb s4
 go_wp2_with fail
 refine(s5 _ _ HH.out).mono ?_
 rintro e v5 ⟨rfl,hb⟩
 have HH:=zH (HH.out.below hb)
 have HX:=zH (HX.out.next hb)
 have HB:=zH (HB.out.trans (hb.mono HB.out.size))
 clear hb s5
 go_wp2_with fail
 refine(s6 _ _ HH.out).mono ?_
 rintro e v6 ⟨rfl,hb⟩
 have HH:=zH (HH.out.below hb)
 have HX:=zH (HX.out.next hb)
 have HB:=zH (HB.out.trans (hb.mono HB.out.size))
 clear hb s6
 go_wp2_with fail
 refine(s7 _ _ HH.out).mono ?_
 rintro e v7 ⟨rfl,hb⟩
 have HH:=zH (HH.out.below hb)
 have HX:=zH (HX.out.next hb)
 have HB:=zH (HB.out.trans (hb.mono HB.out.size))
 clear hb s7
 go_wp2_with fail
 refine(t0 _ _ HH.out).mono ?_
 rintro e v8 ⟨rfl,hb⟩
 have HH:=zH (HH.out.below hb)
 have HX:=zH (HX.out.next hb)
 have HB:=zH (HB.out.trans (hb.mono HB.out.size))
 clear hb t0
 go_wp2_with fail
 refine(t1 _ _ HH.out).mono ?_
 rintro e v9 ⟨rfl,hb⟩
 have HH:=zH (HH.out.below hb)
 have HX:=zH (HX.out.next hb)
 have HB:=zH (HB.out.trans (hb.mono HB.out.size))
 clear hb t1
 go_wp2_with fail
 refine(t2 _ _ HH.out).mono ?_
 rintro e v10 ⟨rfl,hb⟩
 have HH:=zH (HH.out.below hb)
 have HX:=zH (HX.out.next hb)
 have HB:=zH (HB.out.trans (hb.mono HB.out.size))
 clear hb t2
 go_wp2_with fail
 refine(t3 _ _ HH.out).mono ?_
 rintro e v11 ⟨rfl,hb⟩
 have HH:=zH (HH.out.below hb)
 have HX:=zH (HX.out.next hb)
 have HB:=zH (HB.out.trans (hb.mono HB.out.size))
 clear hb t3
 go_wp2_with fail
 refine(t4 _ _ HH.out).mono ?_
 rintro e v12 ⟨rfl,hb⟩
 have HH:=zH (HH.out.below hb)
 have HX:=zH (HX.out.next hb)
 have HB:=zH (HB.out.trans (hb.mono HB.out.size))
 clear hb t4
 obtain⟨x0,g0,x1,g1,x2,g2,x3,g3,x4,g4,x5,g5,x6,g6,x7,g7,x8,g8,x9,g9,x10,g10,x11,g11,x12,g12⟩:=a13X HX.out
 clear e1 e2 hmf HH
 go_wp2_with fail
 have HP:=zH (set13X HX.out rfl (.bool b0) (.bool b1) (.bool b2) (.bool b3) (.bool b4) (.bool b5) (.bool b6) (.bool b7) (.int .i64 k0) (.int .i64 k1) (.int .i64 k2) (.int .i64 k3) (.int .i64 k4))
 have HQ:=zH (set13B HB.out (.bool b0) (.bool b1) (.bool b2) (.bool b3) (.bool b4) (.bool b5) (.bool b6) (.bool b7) (.int .i64 k0) (.int .i64 k1) (.int .i64 k2) (.int .i64 k3) (.int .i64 k4))
 clear x0 g0 x1 g1 x2 g2 x3 g3 x4 g4 x5 g5 x6 g6 x7 g7 x8 g8 x9 g9 x10 g10 x11 g11 x12 g12
 generalize(((((((((((((v12.setCell ⟨w.heap.size,0,none⟩ (.bool b0)).setCell ⟨w.heap.size,1,none⟩ (.bool b1)).setCell ⟨w.heap.size,2,none⟩ (.bool b2)).setCell ⟨w.heap.size,3,none⟩ (.bool b3)).setCell ⟨w.heap.size,4,none⟩ (.bool b4)).setCell ⟨w.heap.size,5,none⟩ (.bool b5)).setCell ⟨w.heap.size,6,none⟩ (.bool b6)).setCell ⟨w.heap.size,7,none⟩ (.bool b7)).setCell ⟨w.heap.size,8,none⟩ (.int .i64 k0)).setCell ⟨w.heap.size,9,none⟩ (.int .i64 k1)).setCell ⟨w.heap.size,10,none⟩ (.int .i64 k2)).setCell ⟨w.heap.size,11,none⟩ (.int .i64 k3)).setCell ⟨w.heap.size,12,none⟩ (.int .i64 k4))=W9 at *
 obtain⟨p0,p1,p2,p3,p4,p5,p6,p7,p8,p9,p10,p11,p12⟩:=b13X HP.out
 refine bodyPost_ret (v:=.agg #[.bool b0,.bool b1,.bool b2,.bool b3,.bool b4,.bool b5,.bool b6,.bool b7,.int .i64 k0,.int .i64 k1,.int .i64 k2,.int .i64 k3,.int .i64 k4]) (by simp [results,Tryz.results56,go_sem,p0,p1,p2,p3,p4,p5,p6,p7,p8,p9,p10,p11,p12]) rfl ⟨by rw [HV.out],HQ.out⟩
end Go.Proofs.YtfaedmbfabfmeaaGreatDoor
namespace Go.Proofs.YtfaedmbfabfmeaaGreatDoor
open Go.RowKit
theorem quotedLength_any (s:ByteArray) (w:World) (hs:s.size≤maxLen) (h0:0<s.size) :
  Calls Tryz.prog 170 #[.string s] w fun e w'=>e=.returned (.int .i64 (quoL s.data.toList:Int))∧w=w':=by
 unfold maxLen at hs
 go_enter Tryz.func170,Tryz.ntmps170
 go_wp2
 go_loop [3,4] (fun b i=>∃k m:Nat,1≤k∧k≤s.size∧m≤k∧i=.int .i64 k∧b=.int .i64 m∧Hid (quoL s.data.toList=k+qgo (m % 2==1) (s.data.toList.drop k))) (fun _ i=>s.size-(intOf i).toNat)
 case atStart=>exact⟨1,0,by omega,by omega,by omega,rfl,rfl,zH rfl⟩
 case round =>
  obtain⟨k,m,hk1,hk,hm,rfl,rfl,H⟩:=hrel
  by_cases hlt:k<s.size
  ·have Hdr:=zH (drop_cons_at s k hlt)
   have B92:Hid (((s[k].toNat:Int)==92)=(s[k]==92)):=zH (byte_beq s[k] 92)
   have B34:Hid (((s[k].toNat:Int)==34)=(s[k]==34)):=zH (byte_beq s[k] 34)
   cases h92:((s[k].toNat:Int)==92)
   ·have P92:=zH (B92.out.symm.trans h92)
    cases h34:((s[k].toNat:Int)==34)
    ·have P34:=zH (B34.out.symm.trans h34)
     go_wp2
     go_round
     case rel=>exact⟨k+1,0,by omega,by omega,by omega,by go_num,rfl,zH (by rw [H.out,Hdr.out,qgo,P92.out,P34.out];simp;omega)⟩
     case measure=>simp [intOf];omega
    ·have P34:=zH (B34.out.symm.trans h34)
     cases hm2:((m:Int) % 2==0)
     ·have Pm:Hid ((m % 2==1)=true):=zH (by simp at hm2 ⊢;omega)
      go_wp2
      go_round
      case rel=>exact⟨k+1,0,by omega,by omega,by omega,by go_num,rfl,zH (by rw [H.out,Hdr.out,qgo,P92.out,P34.out,Pm.out];simp;omega)⟩
      case measure=>simp [intOf];omega
     ·have Pm:Hid ((m % 2==1)=false):=zH (by simp at hm2 ⊢;omega)
      go_wp2
      go_ret
      exact⟨ret_eq (int_eq (by rw [H.out,Hdr.out,qgo,P92.out,P34.out,Pm.out];simp)),rfl⟩
   ·have P92:=zH (B92.out.symm.trans h92)
    go_wp2
    go_round
    case rel =>
     refine⟨k+1,m+1,by omega,by omega,by omega,by go_num,by go_num,zH ?_⟩
     rw [H.out,Hdr.out,qgo,P92.out]
     have e:((m+1) % 2==1)=!(m % 2==1):=by
      rcases Nat.mod_two_eq_zero_or_one m with h | h
      ·rw [h,show(m+1) % 2=1 by omega]<;>rfl
      ·rw [h,show(m+1) % 2=0 by omega]<;>rfl
     rw [e]
     simp
     omega
    case measure=>simp [intOf];omega
  ·have Hd:Hid (s.data.toList.drop k=[]):=zH (List.drop_of_length_le (by rw [← Lib.size_eq];omega))
   go_wp2
   go_ret
   exact⟨ret_eq (int_eq (by rw [H.out,Hd.out,qgo];omega)),rfl⟩
theorem partEnd_any (s:ByteArray) (w:World) (hs:s.size≤maxLen) :
  Calls Tryz.prog 132 #[.string s] w fun e w'=>e=.returned (.int .i64 (peL s.data.toList:Int))∧w=w':=by
 unfold maxLen at hs
 go_enter Tryz.func132,Tryz.ntmps132
 go_wp2
 go_loop [3] (fun i=>∃k:Nat,k≤s.size∧i=.int .i64 k∧Hid (peL s.data.toList=k+peS none (s.data.toList.drop k))) (fun i=>s.size-(intOf i).toNat)
 case atStart=>exact⟨0,by omega,rfl,zH (by simp [peL])⟩
 case round =>
  obtain⟨k,hk,rfl,H⟩:=hrel
  by_cases hlt:k<s.size
  ·have Hdr:=zH (drop_cons_at s k hlt)
   have B44:Hid (((s[k].toNat:Int)==44)=(s[k]==44)):=zH (byte_beq s[k] 44)
   have B34:Hid (((s[k].toNat:Int)==34)=(s[k]==34)):=zH (byte_beq s[k] 34)
   cases h44:((s[k].toNat:Int) != 44)
   ·have P44:Hid ((s[k]==44)=true):=zH (by rw [← B44.out];simpa using h44)
    go_wp2
    go_ret
    exact⟨ret_eq (int_eq (by rw [H.out,Hdr.out,peS,P44.out];simp)),rfl⟩
   ·have P44:Hid ((s[k]==44)=false):=zH (by rw [← B44.out];simpa using h44)
    cases h34:((s[k].toNat:Int)==34)
    ·have P34:=zH (B34.out.symm.trans h34)
     go_wp2
     go_round
     case rel=>exact⟨k+1,by omega,by go_num,zH (by rw [H.out,Hdr.out,peS,P44.out,P34.out];simp;omega)⟩
     case measure=>simp [intOf];omega
    ·have P34:=zH (B34.out.symm.trans h34)
     have hsz:(s.extract k s.size).size=s.size-k:=by rw [Lib.size_eq,Lib.extract_to_end,List.length_drop,← Lib.size_eq]
     have cQ:=quotedLength_any (s.extract k s.size) w (by unfold maxLen;omega) (by omega)
     clear hsz
     have Hx:=zH (Lib.extract_to_end s k)
     have hqle:quoL (s.extract k s.size).data.toList≤s.size-k:=by
      have:=quoL_le (s.extract k s.size).data.toList (by rw [Hx.out,List.length_drop,← Lib.size_eq];omega)
      rw [Hx.out,List.length_drop,← Lib.size_eq]at this
      rw [Hx.out]
      exact this
     have hq1:1≤quoL (s.extract k s.size).data.toList:=by unfold quoL;omega
     have Hq:Hid (peS none (s.data.toList.drop k)=quoL (s.extract k s.size).data.toList+peS none (s.data.toList.drop (k+quoL (s.extract k s.size).data.toList))):=zH (by
      have e:s[k]=34:=by simpa using P34.out
      rw [Hx.out,← List.drop_drop,Hdr.out,e]
      exact peS_quoted _)
     generalize quoL (s.extract k s.size).data.toList=q at cQ hqle hq1 Hq
     go_wp2_with (go_at_call 170;refine cQ.mono ?_;rintro e w' ⟨rfl,rfl⟩)
     go_round
     case rel=>exact⟨k+q,by omega,by go_num,zH (by rw [H.out,Hq.out];omega)⟩
     case measure=>simp [intOf];omega
  ·have Hd:Hid (s.data.toList.drop k=[]):=zH (List.drop_of_length_le (by rw [← Lib.size_eq];omega))
   go_wp2
   go_ret
   exact⟨ret_eq (int_eq (by rw [H.out,Hd.out,peS];omega)),rfl⟩
def FldsIn (fs:List Fld):Prop:=fs.length≤140737488355328∧∀p∈fs,p.1.length≤140737488355328∧p.2.length≤140737488355328
def szH:Nat→List Fld→Nat
 | n,[]=>n
 | n,p :: fs=>if n<100000 then szH (n+p.1.length+p.2.length+4) fs else n
theorem szH_small:∀(fs:List Fld) (n:Nat),szH n fs≤10000→n+(prF fs).length=szH n fs
 | [],n,_=>rfl
 | p :: fs,n,h=>by
  rw [szH]at h ⊢
  split at h
  ·rename_i hn
   rw [if_pos hn,prF,List.length_append,lineF_len]
   have:=szH_small fs _ h
   omega
  ·omega
theorem prF_ge:∀fs:List Fld,4*fs.length≤(prF fs).length
 | []=>zR _
 | p :: fs=>by
  have:=prF_ge fs
  rw [prF,List.length_append,lineF_len,List.length_cons]
  omega
theorem prF_mem:∀(fs:List Fld) (p:Fld),p∈fs→p.1.length+p.2.length≤(prF fs).length
 | [],_,h=>by cases h
 | q :: fs,p,h=>by
  rw [prF,List.length_append,lineF_len]
  rcases List.mem_cons.1 h with rfl | h
  ·omega
  ·have:=prF_mem fs p h
   omega
theorem szH_ok (fs:List Fld) (h:szH 0 fs≤10000):FldsOk fs∧(prF fs).length≤10000:=by
 have h1:=szH_small fs 0 h
 have h2:=prF_ge fs
 refine⟨⟨by omega,fun p hp=>?_⟩,by omega⟩
 have:=prF_mem fs p hp
 omega
def szStep_SizA (n:Int) (p:Fld):Int:=wrap64 (wrap64 (wrap64 (n+(p.1.length:Int))+(p.2.length:Int))+4)
def szI (n:Int):List Fld→Int
 | []=>n
 | p :: fs=>if n<100000 then szI (szStep_SizA n p) fs else n
theorem szI_eq:∀(fs:List Fld) (n:Nat),(∀p∈fs,p.1.length≤140737488355328∧p.2.length≤140737488355328)→szI (n:Int) fs=((szH n fs:Nat):Int)
 | [],_,_=>rfl
 | p :: fs,n,h=>by
  obtain⟨h1,h2⟩:=h p (List.mem_cons_self ..)
  by_cases hn:n<100000
  ·have e:szStep_SizA (n:Int) p=((n+p.1.length+p.2.length+4:Nat):Int):=by
    unfold szStep_SizA wrap64
    omega
   rw [szI,szH,if_pos hn,if_pos (by omega),e]
   exact szI_eq fs _ (fun q hq=>h q (List.mem_cons_of_mem _ hq))
  ·rw [szI,szH,if_neg hn,if_neg (by omega)]
theorem rsizeI_any (lo:Nat) (v:Value) (fs:List Fld) (w:World) (h:Flds lo w v fs) (hl:fs.length≤maxLen) :
  Calls Tryz.prog 8 #[v] w fun e w'=>e=.returned (.int .i64 (szI 0 fs))∧Below w.heap.size w w':=by
 unfold maxLen at hl
 obtain⟨ao,cap,rfl,hc⟩:=h
 have HC:=zH hc
 clear hc
 go_enter Tryz.func8,Tryz.ntmps8
 go_wp2_with fail
 go_loopw [3,4] (fun n i wr=>∃(j:Nat) (N:Int),n=.int .i64 N∧i=.int .i64 j∧j≤fs.length∧Hid (szI 0 fs=szI N (fs.drop j))∧Below w.heap.size w wr) (fun _ i _=>fs.length-(intOf i).toNat)
 case atStart=>exact⟨0,0,rfl,rfl,Nat.zero_le _,zH rfl,Below.refl _ _⟩
 case round =>
  obtain⟨j,N,rfl,rfl,hj,H,hb⟩:=hrel
  have HB:=zH hb
  by_cases hlt:j<fs.length
  ·rcases HC.out with hnil | ⟨c,off,rfl,_,hcl,hcell⟩
   ·exfalso
    rw [hnil]at hlt
    simp at hlt
   ·obtain⟨p,hp⟩:∃p,fs[j]? = some p:=⟨_,List.getElem?_eq_getElem hlt⟩
    obtain⟨x0,x1⟩:=hcell j p hp
    have a0:=(hb.cell (p:=⟨c,off+j*2,none⟩) hcl).trans x0
    have a1:=(hb.cell (p:=⟨c,off+j*2+1,none⟩) hcl).trans x1
    have jI:(j:Int)<(fs.length:Int):=by omega
    have j0:(0:Int)≤(j:Int):=by omega
    have hd:fs.drop j=p :: fs.drop (j+1):=by
     obtain⟨h1,h2⟩:=List.getElem?_eq_some_iff.1 hp
     rw [← h2]
     exact List.drop_eq_getElem_cons h1
    rw [hd]at H
    have HD:Hid (szStep_SizA N p=wrap64 (wrap64 (wrap64 (N+((strB p.1).size:Int))+((strB p.2).size:Int))+4)):=zH (by rw [strB_size,strB_size,szStep_SizA])
    clear hcell x0 x1 hb hd hp
    cases hN:decide (N<100000)
    ·have HE:Hid (szI 0 fs=N):=zH (by rw [H.out,szI,if_neg (by simpa using hN)])
     clear H HD
     go_wp2_with fail
     go_ret
     exact⟨by rw [HE.out]<;>rfl,HB.out⟩
    ·have HE:Hid (szI 0 fs=szI (szStep_SizA N p) (fs.drop (j+1))):=zH (by rw [H.out,szI,if_pos (by simpa using hN)])
     clear H
     generalize strB p.1=K at *
     generalize strB p.2=S at *
     go_wp2_with fail
     go_quiet (fail)
     go_wp2_with fail
     go_roundw
     case rel=>exact⟨j+1,szStep_SizA N p,by rw [HD.out],by go_num,by omega,zH HE.out,HB.out.trans ((below_drewN _ _).mono HB.out.size)⟩
     case measure=>simp [intOf];omega
  ·obtain rfl:j=fs.length:=by omega
   have HE:Hid (szI 0 fs=N):=zH (by rw [H.out,List.drop_length,szI])
   clear H hb
   go_wp2_with fail
   go_ret
   exact⟨by rw [HE.out]<;>rfl,HB.out⟩
theorem rsize_any (lo:Nat) (v:Value) (fs:List Fld) (w:World) (h:Flds lo w v fs) (hk:FldsIn fs) :
  Calls Tryz.prog 8 #[v] w fun e w'=>e=.returned (.int .i64 ((szH 0 fs:Nat):Int))∧Below w.heap.size w w':=by
 have:=rsizeI_any lo v fs w h (by have:=hk.1;unfold maxLen;omega)
 rwa [show szI 0 fs=((szH 0 fs:Nat):Int)from szI_eq fs 0 hk.2]at this
end Go.Proofs.YtfaedmbfabfmeaaGreatDoor
