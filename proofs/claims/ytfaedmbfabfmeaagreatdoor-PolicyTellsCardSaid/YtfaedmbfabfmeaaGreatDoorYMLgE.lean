/- The contract of legacy.byName. · The contracts of (legacy.Directive).number, and of the two functions that Of makes. · The contract of legacy.Of. · The contracts of ascii.quotedLength and ascii.partEnd (for a seat on BasP). · The document's own find, has, number, None (sculleryref10). · The document's own None, Of (sculleryref10). · The document's own unquoted (sculleryref10). · The contracts of the document's own answers for package ascii (sculleryref01): blank, letter, Tchar. · The contracts of the document's own answers for package ascii (sculleryref01): Token, Trim. · The document's own directive of a text (sculleryref10.one). · The document's own Split (sculleryref01), for a seat on BasP. -/
import Derived.Test.YtfaedmbfabfmeaaGreatDoorYMDirP
import Derived.Test.YtfaedmbfabfmeaaGreatDoorYMDigP
import Derived.Test.YtfaedmbfabfmeaaGreatDoorYMBasP
import Derived.Test.YtfaedmbfabfmeaaGreatDoorRows
import Derived.Test.YtfaedmbfabfmeaaGreatDoorYMSpP
import Derived.Test.YtfaedmbfabfmeaaGreatDoorYMFldP
import Derived.Laws.AppendOwn
import Derived.WalkKit
import Derived.WalkSpells
import Derived.WalkLawsBesides
import Derived.Laws.BytesArg
import Derived.Deep.RegionWith
import Derived.Deep.RegionLaw
set_option linter.unusedSimpArgs false
set_option maxRecDepth 100000
set_option maxHeartbeats 4000000
namespace Go.Proofs.YtfaedmbfabfmeaaGreatDoor
open Go.RowKit Go.Maps Go.Lib
open Go.WideMaps (keyOf_string_mk)
theorem zeroDirL (W:World):(zeroValue 133).run Tryz.prog W=.ok (dirV ([],[],false)) W:=by kernel_rfl
theorem byName_any (lo:Nat) (v:Value) (ds:List Dir) (w:World) (hv:Dirs lo w v ds) (hok:DirsOk ds) :
  Calls Tryz.prog 94 #[v] w fun e w'=>(e=.returned (.map (some w.heap.size))∧∃n D,w'.ownsMap Tryz.prog 9 readD w.heap.size n D∧FstOf D ds)∧Below w.heap.size w w':=by
 obtain⟨ao,cap,rfl,hc⟩:=hv
 have HC:=zH hc
 have HK:=zH hok.2
 have hl:=hok.1
 clear hc hok
 have hmm:=@run_makeMap Tryz.prog
 have Hmap0:=zH (World.ownsMap_made (H:=Unit) w Tryz.prog 9 readD)
 have HB0:=zH ((Below.refl w.heap.size w).alloc (zR _) (.map #[] 0))
 go_enter Tryz.func94,Tryz.ntmps94
 go_wp2_with fail
 clear hmm
 go_loopw [11] (fun i wr=>∃(k:Nat) (D:DataW Unit),k≤ds.length∧i=.int .i64 k∧Hid (wr.ownsMap Tryz.prog 9 readD w.heap.size k D)∧Hid (FstOf D (ds.take k))∧Hid (Below w.heap.size w wr)) (fun i _=>ds.length-(intOf i).toNat)
 case atStart=>exact⟨0,.map [],Nat.zero_le _,rfl,Hmap0,zH (by rw [List.take_zero];exact fstOf_nil),HB0⟩
 case round =>
  obtain⟨k,D,hk,rfl,HM,HF,HB⟩:=hrel
  clear Hmap0 HB0
  by_cases hlt:k<ds.length
  ·rcases HC.out with hnil | ⟨c,off,rfl,_,hcl,hcell⟩
   ·exfalso
    rw [hnil]at hlt
    simp at hlt
   ·obtain⟨p,hp⟩:∃p,ds[k]? = some p:=⟨_,List.getElem?_eq_getElem hlt⟩
    have HT:Hid (ds.take (k+1)=ds.take k++[p]):=zH (by rw [List.take_add_one,hp]<;>rfl)
    obtain⟨x0,x1,x2⟩:=hcell k p hp
    have a0:=(HB.out.cell (p:=⟨c,off+k*3,none⟩) hcl).trans x0
    have a1:=(HB.out.cell (p:=⟨c,off+k*3+1,none⟩) hcl).trans x1
    have a2:=(HB.out.cell (p:=⟨c,off+k*3+2,none⟩) hcl).trans x2
    have hkI:(k:Int)<(ds.length:Int):=by omega
    obtain⟨hkN,hkV⟩:=HK.out p (List.mem_of_getElem? hp)
    have hz:=HB.out.size
    obtain⟨N,V,H⟩:=p
    dsimp only at a0 a1 a2 hkN hkV
    clear hcell x0 x1 x2 hp
    have HM1:=zH (HM.out.alloc (.cells #[.string (strB N),.string (strB V),.bool H] 133))
    have hb1:Below w.heap.size w (wr.alloc (.cells #[.string (strB N),.string (strB V),.bool H] 133)):=HB.out.alloc hz _
    have HB1:=zH hb1
    clear hb1
    cases hf:fstN (ds.take k) N with
    | some d =>
     obtain⟨N2,V2,H2⟩:=d
     have HF2:=zH (fstOf_skip HF.out (N,V,H) _ hf)
     have e1:=zH (show(fstN (ds.take k) N).getD ([],[],false)=(N2,V2,H2)by rw [hf]<;>rfl)
     have e2:=zH (show hasN (ds.take k) N=true by rw [hasN,hf]<;>rfl)
     clear hf
     go_wp2_with (at_lookup;refine wpList_lookup_dir _ rfl _ _ rfl Tryz.underlying130 zeroDirL w.heap.size k D (ds.take k) rfl HM1.out HF.out N rfl hkN N2 V2 H2 true e1.out e2.out ?_)
     go_roundw
     case rel=>exact⟨k+1,D,by omega,by go_num,zH ((HM1.out.alloc _).mono (Nat.le_succ _)),zH (by rw [HT.out];exact HF2.out),zH (HB1.out.alloc (by have:=HB1.out.size;omega) _)⟩
     case measure=>simp [intOf];omega
    | none =>
     have HF2:=zH (fstOf_put HF.out (N,V,H) hf)
     have e1:=zH (show(fstN (ds.take k) N).getD ([],[],false)=([],[],false)by rw [hf]<;>rfl)
     have e2:=zH (show hasN (ds.take k) N=false by rw [hasN,hf]<;>rfl)
     have hkey:=zH (show keyOf Tryz.prog 9 (.string (strB N))=some (.string N)from keyOf_string_mk Tryz.underlying9 (by rw [strB_size];unfold maxLen;omega))
     clear hf
     go_wp2_with (first | (at_lookup;refine wpList_lookup_dir _ rfl _ _ rfl Tryz.underlying130 zeroDirL w.heap.size k D (ds.take k) rfl HM1.out HF.out N rfl hkN [] [] false false e1.out e2.out ?_) | (at_mapUpdate;refine wpList_mapUpdate_own _ rfl _ _ _ 130 rfl 9 133 keyStrD Tryz.underlying130 readD w.heap.size k D rfl (HM1.out.alloc _) (by unfold maxLen;omega) _ _ _ rfl rfl hkey.out (datD (N,V,H)) [] (readD_mk (N,V,H)) ?_;intro w4 hmap4 hgrow4))
     go_roundw
     case rel=>exact⟨k+1,D.put (.string N) (datD (N,V,H)),by omega,by go_num,zH hmap4,zH (by rw [HT.out];exact HF2.out),zH ((HB1.out.alloc (by have:=HB1.out.size;omega) _).grown hgrow4 (by have:=HB1.out.size;simp;omega) (fun j e=>by cases e;exact zR _))⟩
     case measure=>simp [intOf];omega
  ·obtain rfl:k=ds.length:=by omega
   have hkI:¬(ds.length:Int)<(ds.length:Int):=by omega
   have HF2:=zH HF.out
   rw [List.take_length]at HF2
   go_wp2_with fail
   refine bodyPost_ret (v:=.map (some w.heap.size)) (by simp [results,Tryz.results94,go_sem]) rfl ⟨⟨rfl,ds.length,D,HM.out,HF2.out⟩,HB.out⟩
theorem lnumber_any (N V:List UInt8) (H:Bool) (w:World) (hV:V.length≤100000) :
  Calls Tryz.prog 97 #[.agg #[.string (strB N),.string (strB V),.bool H]] w fun e w'=>e=.returned (.int .i64 (numM (N,V,H)))∧Below w.heap.size w w':=by
 have cD:=fun W=>digits_any (strB V) W (by rw [strB_size];unfold maxLen;omega)
 rw [strB_data]at cD
 have hqe:((strB N).toList==[109,97,120,45,115,116,97,108,101])=decide (nStale=N):=by
  rw [← name_eq N nStale,Lib.toList_data (strB nStale),strB_data]
  rfl
 have HB:=zH ((Below.refl w.heap.size w).alloc (zR _) (.cells #[.string (strB N),.string (strB V),.bool H] 133))
 have HA:Hid (numM (N,V,H)=if N=nStale∧H=false then 2147483648 else digitsN V):=zH rfl
 generalize numM (N,V,H)=R at *
 by_cases hN:N=nStale
 ·rw [decide_eq_true hN.symm]at hqe
  cases H
  ·have HR:Hid (R=2147483648):=zH (by rw [HA.out,if_pos ⟨hN,rfl⟩])
   clear HA hN
   generalize strB N=SN at *
   go_enter Tryz.func97,Tryz.ntmps97
   go_wp2_with fail
   refine bodyPost_ret (v:=.int .i64 2147483648) (by simp [results,Tryz.results97,go_sem]) rfl ⟨by rw [HR.out],HB.out⟩
  ·have HR:Hid (R=digitsN V):=zH (by rw [HA.out,if_neg (fun e=>by cases e.2)])
   clear HA hN
   generalize strB N=SN at *
   go_enter Tryz.func97,Tryz.ntmps97
   go_wp2_with (go_at_call 131;refine(cD _).mono ?_;rintro e w2 ⟨rfl,rfl⟩)
   refine bodyPost_ret (v:=.int .i64 (digitsN V)) (by simp [results,Tryz.results97,go_sem]) rfl ⟨by rw [HR.out],HB.out⟩
 ·rw [decide_eq_false (fun e=>hN e.symm)]at hqe
  have HR:Hid (R=digitsN V):=zH (by rw [HA.out,if_neg (fun e=>hN e.1)])
  clear HA hN
  generalize strB N=SN at *
  go_enter Tryz.func97,Tryz.ntmps97
  go_wp2_with (go_at_call 131;refine(cD _).mono ?_;rintro e w2 ⟨rfl,rfl⟩)
  refine bodyPost_ret (v:=.int .i64 (digitsN V)) (by simp [results,Tryz.results97,go_sem]) rfl ⟨by rw [HR.out],HB.out⟩
theorem set_any (B:Nat) (ds:List Dir) (n:List UInt8) (W:World) (h:Held W B ds) (hn:n.length≤100000) :
  Calls Tryz.prog 95 #[.string (strB n),.pointer (some ⟨B,0,none⟩)] W fun e w'=>e=.returned (.bool (hasN ds n))∧Below W.heap.size W w':=by
 obtain⟨hl,M,hc,k,D,ho,hF⟩:=h
 have HF:=zH hF
 have HO:=zH ho
 clear hF ho
 obtain⟨N,V,H,hd⟩:∃N V H,(fstN ds n).getD ([],[],false)=(N,V,H):=⟨_,_,_,rfl⟩
 have HD:=zH hd
 clear hd
 obtain⟨b,hb⟩:∃b,hasN ds n=b:=⟨_,rfl⟩
 rw [hb]
 have HH:=zH hb
 clear hb
 have HB:=zH ((Below.refl W.heap.size W).alloc (zR _) (.cells #[.string (strB N),.string (strB V),.bool H] 133))
 go_enter Tryz.func95,Tryz.ntmps95
 go_wp2_with (at_lookup;refine wpList_lookup_dir _ rfl _ _ rfl Tryz.underlying130 zeroDirL M k D ds rfl HO.out HF.out n rfl hn N V H b HD.out HH.out ?_)
 refine bodyPost_ret (v:=.bool b) (by simp [results,Tryz.results95,go_sem]) rfl ⟨rfl,HB.out⟩
theorem numberOf_any (B:Nat) (ds:List Dir) (n:List UInt8) (W:World) (h:Held W B ds) (hn:n.length≤100000) (hok:DirsOk ds) :
  Calls Tryz.prog 96 #[.string (strB n),.pointer (some ⟨B,0,none⟩)] W fun e w'=>e=.returned (.int .i64 (nm2 ds n))∧Below W.heap.size W w':=by
 obtain⟨hl,M,hc,k,D,ho,hF⟩:=h
 have HF:=zH hF
 have HO:=zH ho
 clear hF ho
 cases hf:fstN ds n with
 | none =>
  have HD:=zH (show(fstN ds n).getD ([],[],false)=([],[],false)by rw [hf]<;>rfl)
  have HH:=zH (show hasN ds n=false by rw [hasN,hf]<;>rfl)
  have HR:=zH (show nm2 ds n=-1 by rw [nm2,hf])
  have HB:=zH ((Below.refl W.heap.size W).alloc (zR _) (.cells #[.string (strB []),.string (strB []),.bool false] 133))
  clear hf
  go_enter Tryz.func96,Tryz.ntmps96
  go_wp2_with (at_lookup;refine wpList_lookup_dir _ rfl _ _ rfl Tryz.underlying130 zeroDirL M k D ds rfl HO.out HF.out n rfl hn [] [] false false HD.out HH.out ?_)
  refine bodyPost_ret (v:=.int .i64 (-1)) (by simp [results,Tryz.results96,go_sem]) rfl ⟨by rw [HR.out],HB.out⟩
 | some d =>
  have hm:=List.mem_of_find?_eq_some hf
  obtain⟨N,V,H⟩:=d
  have cN:=fun W=>lnumber_any N V H W (hok.2 _ hm).2
  have HD:=zH (show(fstN ds n).getD ([],[],false)=(N,V,H)by rw [hf]<;>rfl)
  have HH:=zH (show hasN ds n=true by rw [hasN,hf]<;>rfl)
  have HR:=zH (show nm2 ds n=numM (N,V,H)by rw [nm2,hf])
  have HB:=zH ((Below.refl W.heap.size W).alloc (zR _) (.cells #[.string (strB N),.string (strB V),.bool H] 133))
  clear hf hm
  go_enter Tryz.func96,Tryz.ntmps96
  go_wp2_with (first | (at_lookup;refine wpList_lookup_dir _ rfl _ _ rfl Tryz.underlying130 zeroDirL M k D ds rfl HO.out HF.out n rfl hn N V H true HD.out HH.out ?_) | (go_at_call 97;refine(cN _).mono ?_;rintro e w2 ⟨rfl,hb2⟩))
  refine bodyPost_ret (v:=.int .i64 (numM (N,V,H))) (by simp [results,Tryz.results96,go_sem]) rfl ⟨by rw [HR.out],HB.out.trans (hb2.mono HB.out.size)⟩
theorem rulV_nm2 (ds:List Dir):rulV ds=.agg #[.bool (hasN ds nNoStore),.bool (hasN ds nNoCache),.bool (hasN ds nPrivate),.bool (hasN ds nPublic),.bool (hasN ds nMust),.bool (hasN ds nProxy),.bool (hasN ds nImmut),.bool (hasN ds nOnly),.int .i64 (nm2 ds nMaxAge),.int .i64 (nm2 ds nSMax),.int .i64 (nm2 ds nStale),.int .i64 (nm2 ds nFresh),.int .i64 (nm2 ds nIfErr)]:=by
 rw [nm2_stale,nm2_other ds nMaxAge (by decide),nm2_other ds nSMax (by decide),nm2_other ds nFresh (by decide),nm2_other ds nIfErr (by decide)]
 rfl
theorem of_any (lo:Nat) (v:Value) (ds:List Dir) (w:World) (hv:Dirs lo w v ds) (hok:DirsOk ds) :
  Calls Tryz.prog 56 #[v] w fun e w'=>e=.returned (rulV ds)∧Below w.heap.size w w':=by
 have cB:=fun W (hb:Below w.heap.size w W)=>byName_any lo v ds W (hv.below hb) hok
 obtain⟨ao,cap,rfl,_⟩:=hv
 have HV:=zH (rulV_nm2 ds)
 generalize rulV ds=R at *
 have s0:=fun B W (h:Held W B ds)=>set_any B ds nNoStore W h (by decide)
 generalize hasN ds nNoStore=b0 at *
 have s1:=fun B W (h:Held W B ds)=>set_any B ds nNoCache W h (by decide)
 generalize hasN ds nNoCache=b1 at *
 have s2:=fun B W (h:Held W B ds)=>set_any B ds nPrivate W h (by decide)
 generalize hasN ds nPrivate=b2 at *
 have s3:=fun B W (h:Held W B ds)=>set_any B ds nPublic W h (by decide)
 generalize hasN ds nPublic=b3 at *
 have s4:=fun B W (h:Held W B ds)=>set_any B ds nMust W h (by decide)
 generalize hasN ds nMust=b4 at *
 have s5:=fun B W (h:Held W B ds)=>set_any B ds nProxy W h (by decide)
 generalize hasN ds nProxy=b5 at *
 have s6:=fun B W (h:Held W B ds)=>set_any B ds nImmut W h (by decide)
 generalize hasN ds nImmut=b6 at *
 have s7:=fun B W (h:Held W B ds)=>set_any B ds nOnly W h (by decide)
 generalize hasN ds nOnly=b7 at *
 have t0:=fun B W (h:Held W B ds)=>numberOf_any B ds nMaxAge W h (by decide) hok
 generalize nm2 ds nMaxAge=k0 at *
 have t1:=fun B W (h:Held W B ds)=>numberOf_any B ds nSMax W h (by decide) hok
 generalize nm2 ds nSMax=k1 at *
 have t2:=fun B W (h:Held W B ds)=>numberOf_any B ds nStale W h (by decide) hok
 generalize nm2 ds nStale=k2 at *
 have t3:=fun B W (h:Held W B ds)=>numberOf_any B ds nFresh W h (by decide) hok
 generalize nm2 ds nFresh=k3 at *
 have t4:=fun B W (h:Held W B ds)=>numberOf_any B ds nIfErr W h (by decide) hok
 generalize nm2 ds nIfErr=k4 at *
 have e1:∀args W,(callFunc 95 args).run Tryz.prog W=.ok (.enter 95 args) W:=enters_of Tryz.func95 (by kernel_rfl) rfl
 have e2:∀args W,(callFunc 96 args).run Tryz.prog W=.ok (.enter 96 args) W:=enters_of Tryz.func96 (by kernel_rfl) rfl
 have hmf:∀(fn:Fn) (first cap:Array Value) (w:World),(Instr.makeFunc fn first cap).run Tryz.prog w=.ok (.func fn first cap) w:=fun _ _ _ _=>rfl
 have HB0:=zH ((Below.refl w.heap.size w).alloc (zR _) (.cells #[.bool false,.bool false,.bool false,.bool false,.bool false,.bool false,.bool false,.bool false,.int .i64 0,.int .i64 0,.int .i64 0,.int .i64 0,.int .i64 0] 34))
 have HX:=zH (BoxN.made w [.bool false,.bool false,.bool false,.bool false,.bool false,.bool false,.bool false,.bool false,.int .i64 0,.int .i64 0,.int .i64 0,.int .i64 0,.int .i64 0] 34)
 go_enter Tryz.func56,Tryz.ntmps56
 go_wp2_with fail
 refine(cB _ HB0.out).mono ?_
 rintro e w1 ⟨⟨rfl,n,D,hM,hF⟩,hb1⟩
 have hz1:=hb1.size
 have HX1:=zH (HX.out.next hb1)
 have HB1:=zH (HB0.out.trans (hb1.mono HB0.out.size))
 have HH:=zH (show Held (w1.alloc (.cells #[.map (some (w.heap.size+1))] 130)) w1.heap.size ds from⟨by simp,w.heap.size+1,by simp,n,D,by simpa using hM.alloc _,hF⟩)
 have hal:=(Below.refl w1.heap.size w1).alloc (zR _) (.cells #[.map (some (w.heap.size+1))] 130)
 have HX:=zH (HX1.out.next hal)
 have HB:=zH (HB1.out.trans (hal.mono HB1.out.size))
 clear cB hM hF hb1 hal HX1 HB1 HB0
 go_wp2_with fail
 generalize w1.heap.size=B at *
 refine(s0 _ _ HH.out).mono ?_
 rintro e v0 ⟨rfl,hb⟩
 have HH:=zH (HH.out.below hb)
 have HX:=zH (HX.out.next hb)
 have HB:=zH (HB.out.trans (hb.mono HB.out.size))
 clear hb s0
 go_wp2_with fail
 refine(s1 _ _ HH.out).mono ?_
 rintro e v1 ⟨rfl,hb⟩
 have HH:=zH (HH.out.below hb)
 have HX:=zH (HX.out.next hb)
 have HB:=zH (HB.out.trans (hb.mono HB.out.size))
 clear hb s1
 go_wp2_with fail
 refine(s2 _ _ HH.out).mono ?_
 rintro e v2 ⟨rfl,hb⟩
 have HH:=zH (HH.out.below hb)
 have HX:=zH (HX.out.next hb)
 have HB:=zH (HB.out.trans (hb.mono HB.out.size))
 clear hb s2
 go_wp2_with fail
 refine(s3 _ _ HH.out).mono ?_
 rintro e v3 ⟨rfl,hb⟩
 have HH:=zH (HH.out.below hb)
 have HX:=zH (HX.out.next hb)
 have HB:=zH (HB.out.trans (hb.mono HB.out.size))
 clear hb s3
 go_wp2_with fail
 refine(s4 _ _ HH.out).mono ?_
 rintro e v4 ⟨rfl,hb⟩
 have HH:=zH (HH.out.below hb)
 have HX:=zH (HX.out.next hb)
 have HB:=zH (HB.out.trans (hb.mono HB.out.size))
 clear hb s4
 go_wp2_with fail
 refine(s5 _ _ HH.out).mono ?_
 rintro e v5 ⟨rfl,hb⟩
 have HH:=zH (HH.out.below hb)
 have HX:=zH (HX.out.next hb)
 have HB:=zH (HB.out.trans (hb.mono HB.out.size))
 clear hb s5
 go_wp2_with fail
 refine(s6 _ _ HH.out).mono ?_
 rintro e v6 ⟨rfl,hb⟩
 have HH:=zH (HH.out.below hb)
 have HX:=zH (HX.out.next hb)
 have HB:=zH (HB.out.trans (hb.mono HB.out.size))
 clear hb s6
 go_wp2_with fail
 refine(s7 _ _ HH.out).mono ?_
 rintro e v7 ⟨rfl,hb⟩
 have HH:=zH (HH.out.below hb)
 have HX:=zH (HX.out.next hb)
 have HB:=zH (HB.out.trans (hb.mono HB.out.size))
 clear hb s7
 go_wp2_with fail
 refine(t0 _ _ HH.out).mono ?_
 rintro e v8 ⟨rfl,hb⟩
 have HH:=zH (HH.out.below hb)
 have HX:=zH (HX.out.next hb)
 have HB:=zH (HB.out.trans (hb.mono HB.out.size))
 clear hb t0
 go_wp2_with fail
 refine(t1 _ _ HH.out).mono ?_
 rintro e v9 ⟨rfl,hb⟩
 have HH:=zH (HH.out.below hb)
 have HX:=zH (HX.out.next hb)
 have HB:=zH (HB.out.trans (hb.mono HB.out.size))
 clear hb t1
 go_wp2_with fail
 refine(t2 _ _ HH.out).mono ?_
 rintro e v10 ⟨rfl,hb⟩
 have HH:=zH (HH.out.below hb)
 have HX:=zH (HX.out.next hb)
 have HB:=zH (HB.out.trans (hb.mono HB.out.size))
 clear hb t2
 go_wp2_with fail
 refine(t3 _ _ HH.out).mono ?_
 rintro e v11 ⟨rfl,hb⟩
 have HH:=zH (HH.out.below hb)
 have HX:=zH (HX.out.next hb)
 have HB:=zH (HB.out.trans (hb.mono HB.out.size))
 clear hb t3
 go_wp2_with fail
 refine(t4 _ _ HH.out).mono ?_
 rintro e v12 ⟨rfl,hb⟩
 have HH:=zH (HH.out.below hb)
 have HX:=zH (HX.out.next hb)
 have HB:=zH (HB.out.trans (hb.mono HB.out.size))
 clear hb t4
 obtain⟨x0,g0,x1,g1,x2,g2,x3,g3,x4,g4,x5,g5,x6,g6,x7,g7,x8,g8,x9,g9,x10,g10,x11,g11,x12,g12⟩:=a13X HX.out
 clear e1 e2 hmf HH
 go_wp2_with fail
 have HP:=zH (set13X HX.out rfl (.bool b0) (.bool b1) (.bool b2) (.bool b3) (.bool b4) (.bool b5) (.bool b6) (.bool b7) (.int .i64 k0) (.int .i64 k1) (.int .i64 k2) (.int .i64 k3) (.int .i64 k4))
 have HQ:=zH (set13B HB.out (.bool b0) (.bool b1) (.bool b2) (.bool b3) (.bool b4) (.bool b5) (.bool b6) (.bool b7) (.int .i64 k0) (.int .i64 k1) (.int .i64 k2) (.int .i64 k3) (.int .i64 k4))
 clear x0 g0 x1 g1 x2 g2 x3 g3 x4 g4 x5 g5 x6 g6 x7 g7 x8 g8 x9 g9 x10 g10 x11 g11 x12 g12
 generalize World.setCell _ ⟨_,12,none⟩ _=W9 at *
 obtain⟨p0,p1,p2,p3,p4,p5,p6,p7,p8,p9,p10,p11,p12⟩:=b13X HP.out
 refine bodyPost_ret (v:=.agg #[.bool b0,.bool b1,.bool b2,.bool b3,.bool b4,.bool b5,.bool b6,.bool b7,.int .i64 k0,.int .i64 k1,.int .i64 k2,.int .i64 k3,.int .i64 k4]) (by simp [results,Tryz.results56,go_sem,p0,p1,p2,p3,p4,p5,p6,p7,p8,p9,p10,p11,p12]) rfl ⟨by rw [HV.out],HQ.out⟩
end Go.Proofs.YtfaedmbfabfmeaaGreatDoor
namespace Go.Proofs.YtfaedmbfabfmeaaGreatDoor
open Go.RowKit
theorem quotedLength_any (s:ByteArray) (w:World) (hs:s.size≤maxLen) (h0:0<s.size) :
  Calls Tryz.prog 170 #[.string s] w fun e w'=>e=.returned (.int .i64 (quoL s.data.toList:Int))∧w=w':=by
 unfold maxLen at hs
 go_enter Tryz.func170,Tryz.ntmps170
 go_wp2
 go_loop [3,4] (fun b i=>∃k m:Nat,1≤k∧k≤s.size∧m≤k∧i=.int .i64 k∧b=.int .i64 m∧Hid (quoL s.data.toList=k+qgo (m % 2==1) (s.data.toList.drop k))) (fun _ i=>s.size-(intOf i).toNat)
 case atStart=>exact⟨1,0,by omega,by omega,by omega,rfl,rfl,zH rfl⟩
 case round =>
  obtain⟨k,m,hk1,hk,hm,rfl,rfl,H⟩:=hrel
  by_cases hlt:k<s.size
  ·have Hdr:=zH (drop_cons_at s k hlt)
   have B92:Hid (((s[k].toNat:Int)==92)=(s[k]==92)):=zH (byte_beq s[k] 92)
   have B34:Hid (((s[k].toNat:Int)==34)=(s[k]==34)):=zH (byte_beq s[k] 34)
   cases h92:((s[k].toNat:Int)==92)
   ·have P92:=zH (B92.out.symm.trans h92)
    cases h34:((s[k].toNat:Int)==34)
    ·have P34:=zH (B34.out.symm.trans h34)
     go_wp2
     go_round
     case rel=>exact⟨k+1,0,by omega,by omega,by omega,by go_num,rfl,zH (by rw [H.out,Hdr.out,qgo,P92.out,P34.out];simp;omega)⟩
     case measure=>simp [intOf];omega
    ·have P34:=zH (B34.out.symm.trans h34)
     cases hm2:((m:Int) % 2==0)
     ·have Pm:Hid ((m % 2==1)=true):=zH (by simp at hm2 ⊢;omega)
      go_wp2
      go_round
      case rel=>exact⟨k+1,0,by omega,by omega,by omega,by go_num,rfl,zH (by rw [H.out,Hdr.out,qgo,P92.out,P34.out,Pm.out];simp;omega)⟩
      case measure=>simp [intOf];omega
     ·have Pm:Hid ((m % 2==1)=false):=zH (by simp at hm2 ⊢;omega)
      go_wp2
      go_ret
      exact⟨ret_eq (int_eq (by rw [H.out,Hdr.out,qgo,P92.out,P34.out,Pm.out];simp)),rfl⟩
   ·have P92:=zH (B92.out.symm.trans h92)
    go_wp2
    go_round
    case rel =>
     refine⟨k+1,m+1,by omega,by omega,by omega,by go_num,by go_num,zH ?_⟩
     rw [H.out,Hdr.out,qgo,P92.out]
     have e:((m+1) % 2==1)=!(m % 2==1):=by
      rcases Nat.mod_two_eq_zero_or_one m with h | h
      ·rw [h,show(m+1) % 2=1 by omega]<;>rfl
      ·rw [h,show(m+1) % 2=0 by omega]<;>rfl
     rw [e]
     simp
     omega
    case measure=>simp [intOf];omega
  ·have Hd:Hid (s.data.toList.drop k=[]):=zH (List.drop_of_length_le (by rw [← Lib.size_eq];omega))
   go_wp2
   go_ret
   exact⟨ret_eq (int_eq (by rw [H.out,Hd.out,qgo];omega)),rfl⟩
theorem partEnd_any (s:ByteArray) (w:World) (hs:s.size≤maxLen) :
  Calls Tryz.prog 132 #[.string s] w fun e w'=>e=.returned (.int .i64 (peL s.data.toList:Int))∧w=w':=by
 unfold maxLen at hs
 go_enter Tryz.func132,Tryz.ntmps132
 go_wp2
 go_loop [3] (fun i=>∃k:Nat,k≤s.size∧i=.int .i64 k∧Hid (peL s.data.toList=k+peS none (s.data.toList.drop k))) (fun i=>s.size-(intOf i).toNat)
 case atStart=>exact⟨0,by omega,rfl,zH (by simp [peL])⟩
 case round =>
  obtain⟨k,hk,rfl,H⟩:=hrel
  by_cases hlt:k<s.size
  ·have Hdr:=zH (drop_cons_at s k hlt)
   have B44:Hid (((s[k].toNat:Int)==44)=(s[k]==44)):=zH (byte_beq s[k] 44)
   have B34:Hid (((s[k].toNat:Int)==34)=(s[k]==34)):=zH (byte_beq s[k] 34)
   cases h44:((s[k].toNat:Int) != 44)
   ·have P44:Hid ((s[k]==44)=true):=zH (by rw [← B44.out];simpa using h44)
    go_wp2
    go_ret
    exact⟨ret_eq (int_eq (by rw [H.out,Hdr.out,peS,P44.out];simp)),rfl⟩
   ·have P44:Hid ((s[k]==44)=false):=zH (by rw [← B44.out];simpa using h44)
    cases h34:((s[k].toNat:Int)==34)
    ·have P34:=zH (B34.out.symm.trans h34)
     go_wp2
     go_round
     case rel=>exact⟨k+1,by omega,by go_num,zH (by rw [H.out,Hdr.out,peS,P44.out,P34.out];simp;omega)⟩
     case measure=>simp [intOf];omega
    ·have P34:=zH (B34.out.symm.trans h34)
     have hsz:(s.extract k s.size).size=s.size-k:=by rw [Lib.size_eq,Lib.extract_to_end,List.length_drop,← Lib.size_eq]
     have cQ:=quotedLength_any (s.extract k s.size) w (by unfold maxLen;omega) (by omega)
     clear hsz
     have Hx:=zH (Lib.extract_to_end s k)
     have hqle:quoL (s.extract k s.size).data.toList≤s.size-k:=by
      have:=quoL_le (s.extract k s.size).data.toList (by rw [Hx.out,List.length_drop,← Lib.size_eq];omega)
      rw [Hx.out,List.length_drop,← Lib.size_eq]at this
      rw [Hx.out]
      exact this
     have hq1:1≤quoL (s.extract k s.size).data.toList:=by unfold quoL;omega
     have Hq:Hid (peS none (s.data.toList.drop k)=quoL (s.extract k s.size).data.toList+peS none (s.data.toList.drop (k+quoL (s.extract k s.size).data.toList))):=zH (by
      have e:s[k]=34:=by simpa using P34.out
      rw [Hx.out,← List.drop_drop,Hdr.out,e]
      exact peS_quoted _)
     generalize quoL (s.extract k s.size).data.toList=q at cQ hqle hq1 Hq
     go_wp2_with (go_at_call 170;refine cQ.mono ?_;rintro e w' ⟨rfl,rfl⟩)
     go_round
     case rel=>exact⟨k+q,by omega,by go_num,zH (by rw [H.out,Hq.out];omega)⟩
     case measure=>simp [intOf];omega
  ·have Hd:Hid (s.data.toList.drop k=[]):=zH (List.drop_of_length_le (by rw [← Lib.size_eq];omega))
   go_wp2
   go_ret
   exact⟨ret_eq (int_eq (by rw [H.out,Hd.out,peS];omega)),rfl⟩
end Go.Proofs.YtfaedmbfabfmeaaGreatDoor
namespace Go.Proofs.YtfaedmbfabfmeaaGreatDoor
open Go.RowKit Go.Lib
def fndV:Option Dir→Value
 | some d=>.tuple #[dirV d,.bool true]
 | none=>.tuple #[.agg #[.string ⟨#[]⟩,.string ⟨#[]⟩,.bool false],.bool false]
theorem fstN_nil (n:List UInt8):fstN [] n=none:=rfl
theorem fstN_cons (d:Dir) (l:List Dir) (n:List UInt8):fstN (d :: l) n=if d.1=n then some d else fstN l n:=by
 rw [fstN,List.find?_cons]
 by_cases h:d.1=n
 ·rw [if_pos h,beq_iff_eq.2 h]
 ·rw [if_neg h,beq_eq_false_iff_ne.2 h]
  rfl
theorem rfind_any (lo:Nat) (v:Value) (ds:List Dir) (n:List UInt8) (w:World) (hv:Dirs lo w v ds) (hok:ds.length≤100000) :
  Calls Tryz.prog 108 #[v,.string (strB n)] w fun e w'=>e=.returned (fndV (fstN ds n))∧Below w.heap.size w w':=by
 obtain⟨ao,cap,rfl,hc⟩:=hv
 have HC:=zH hc
 clear hc
 go_enter Tryz.func108,Tryz.ntmps108
 go_wp2_with fail
 go_loopw [6] (fun i wr=>∃k:Nat,k≤ds.length∧i=.int .i64 k∧Hid (fstN ds n=fstN (ds.drop k) n)∧wr=w.alloc (.cells #[.string ⟨#[]⟩,.string ⟨#[]⟩,.bool false] 146)) (fun i _=>ds.length-(intOf i).toNat)
 case atStart=>exact⟨0,Nat.zero_le _,rfl,zH rfl,rfl⟩
 case round =>
  obtain⟨k,hk,rfl,HA,rfl⟩:=hrel
  have hb:Below w.heap.size w (w.alloc (.cells #[.string ⟨#[]⟩,.string ⟨#[]⟩,.bool false] 146)):=(Below.refl _ _).alloc (zR _) _
  have HB:=zH hb
  by_cases hlt:k<ds.length
  ·rcases HC.out with hnil | ⟨c,off,rfl,_,hcl,hcell⟩
   ·exfalso
    rw [hnil]at hlt
    simp at hlt
   ·obtain⟨p,hp⟩:∃p,ds[k]? = some p:=⟨_,List.getElem?_eq_getElem hlt⟩
    have hdr:ds.drop k=p :: ds.drop (k+1):=by
     rw [List.drop_eq_getElem_cons hlt]
     rw [List.getElem?_eq_getElem hlt]at hp
     rw [Option.some.inj hp]
    obtain⟨x0,x1,x2⟩:=hcell k p hp
    have a0:=(hb.cell (p:=⟨c,off+k*3,none⟩) hcl).trans x0
    have a1:=(hb.cell (p:=⟨c,off+k*3+1,none⟩) hcl).trans x1
    have a2:=(hb.cell (p:=⟨c,off+k*3+2,none⟩) hcl).trans x2
    have hkI:(k:Int)<(ds.length:Int):=by omega
    have hqe:=name_eq p.1 n
    obtain⟨N,V,H⟩:=p
    dsimp only at a0 a1 a2 hqe
    by_cases hN:N=n
    ·have HF:Hid (fndV (fstN ds n)=.tuple #[.agg #[.string (strB N),.string (strB V),.bool H],.bool true]):=zH (by rw [HA.out,hdr,fstN_cons,if_pos hN]<;>rfl)
     rw [decide_eq_true hN.symm]at hqe
     clear hcell x0 x1 x2 hp hdr hb hN HA
     generalize strB N=SN at *
     generalize strB n=SM at *
     go_wp2_with fail
     refine bodyPost_ret (v:=.tuple #[.agg #[.string SN,.string (strB V),.bool H],.bool true]) (by simp [results,Tryz.results108,go_sem]) rfl ⟨by rw [HF.out],(Below.refl _ _).alloc (zR _) _⟩
    ·have HN:Hid (fstN ds n=fstN (ds.drop (k+1)) n):=zH (by rw [HA.out,hdr,fstN_cons,if_neg hN])
     rw [decide_eq_false (fun e=>hN e.symm)]at hqe
     clear hcell x0 x1 x2 hp hdr hb hN HA
     generalize strB N=SN at *
     generalize strB n=SM at *
     go_wp2_with fail
     go_roundw
     case rel=>exact⟨k+1,by omega,by go_num,HN,trivial⟩
     case measure=>simp [intOf];omega
  ·have hnil:ds.drop k=[]:=List.drop_of_length_le (by omega)
   have HF:Hid (fndV (fstN ds n)=.tuple #[.agg #[.string ⟨#[]⟩,.string ⟨#[]⟩,.bool false],.bool false]):=zH (by rw [HA.out,hnil,fstN_nil]<;>rfl)
   clear hnil HA hb
   have hkI:¬(k:Int)<(ds.length:Int):=by omega
   go_wp2_with fail
   refine bodyPost_ret (v:=.tuple #[.agg #[.string ⟨#[]⟩,.string ⟨#[]⟩,.bool false],.bool false]) (by simp [results,Tryz.results108,go_sem]) rfl ⟨by rw [HF.out],HB.out⟩
theorem rhas_any (lo:Nat) (v:Value) (ds:List Dir) (n:List UInt8) (w:World) (hv:Dirs lo w v ds) (hok:ds.length≤100000) :
  Calls Tryz.prog 106 #[v,.string (strB n)] w fun e w'=>e=.returned (.bool (hasN ds n))∧Below w.heap.size w w':=by
 have cF:=rfind_any lo v ds n w hv hok
 obtain⟨ao,cap,rfl,_⟩:=hv
 cases hf:fstN ds n with
 | none =>
  have HH:Hid (hasN ds n=false):=zH (by rw [hasN,hf]<;>rfl)
  rw [hf]at cF
  clear hf
  go_enter Tryz.func106,Tryz.ntmps106
  go_wp2_with fail
  refine cF.mono ?_
  rintro e w1 ⟨rfl,hb1⟩
  have HB:=zH hb1
  have HZ:=zH hb1.size
  clear hb1 cF
  simp only [fndV]
  go_wp2_with fail
  refine bodyPost_ret (v:=.bool false) (by simp [results,Tryz.results106,go_sem]) rfl ⟨by rw [HH.out],HB.out.alloc HZ.out _⟩
 | some d =>
  obtain⟨N,V,H⟩:=d
  have HH:Hid (hasN ds n=true):=zH (by rw [hasN,hf]<;>rfl)
  rw [hf]at cF
  clear hf
  go_enter Tryz.func106,Tryz.ntmps106
  go_wp2_with fail
  refine cF.mono ?_
  rintro e w1 ⟨rfl,hb1⟩
  have HB:=zH hb1
  have HZ:=zH hb1.size
  clear hb1 cF
  simp only [fndV,dirV]
  go_wp2_with fail
  refine bodyPost_ret (v:=.bool true) (by simp [results,Tryz.results106,go_sem]) rfl ⟨by rw [HH.out],HB.out.alloc HZ.out _⟩
theorem rnumber_any (lo:Nat) (v:Value) (ds:List Dir) (n:List UInt8) (w:World) (hv:Dirs lo w v ds) (hok:DirsOk ds) :
  Calls Tryz.prog 107 #[v,.string (strB n)] w fun e w'=>e=.returned (.int .i64 (numN ds n))∧Below w.heap.size w w':=by
 have cF:=rfind_any lo v ds n w hv hok.1
 obtain⟨ao,cap,rfl,_⟩:=hv
 cases hf:fstN ds n with
 | none =>
  have HH:Hid (numN ds n=-1):=zH (by rw [numN,hf])
  rw [hf]at cF
  clear hf
  go_enter Tryz.func107,Tryz.ntmps107
  go_wp2_with fail
  refine cF.mono ?_
  rintro e w1 ⟨rfl,hb1⟩
  have HB:=zH hb1
  have HZ:=zH hb1.size
  clear hb1 cF
  simp only [fndV]
  go_wp2_with fail
  refine bodyPost_ret (v:=.int .i64 (-1)) (by simp [results,Tryz.results107,go_sem]) rfl ⟨by rw [HH.out],HB.out.alloc HZ.out _⟩
 | some d =>
  obtain⟨N,V,H⟩:=d
  have hm:(N,V,H)∈ds:=List.mem_of_find?_eq_some hf
  have hl:V.length≤100000:=(hok.2 _ hm).2
  have HH:Hid (numN ds n=digitsN V):=zH (by rw [numN,hf])
  rw [hf]at cF
  clear hf
  go_enter Tryz.func107,Tryz.ntmps107
  go_wp2_with fail
  refine cF.mono ?_
  rintro e w1 ⟨rfl,hb1⟩
  have HB:=zH hb1
  have HZ:=zH hb1.size
  have cD:=fun W=>rdigits_any (strB V) W (by rw [Lib.size_eq,strB_data];unfold maxLen;omega)
  rw [strB_data]at cD
  clear hb1 cF
  simp only [fndV,dirV]
  go_wp2_with (go_at_call 140;refine(cD _).mono ?_;rintro e w2 ⟨rfl,rfl⟩)
  refine bodyPost_ret (v:=.int .i64 (digitsN V)) (by simp [results,Tryz.results107,go_sem]) rfl ⟨by rw [HH.out],HB.out.alloc HZ.out _⟩
theorem rulV_noneR:rulV []=.agg #[.bool false,.bool false,.bool false,.bool false,.bool false,.bool false,.bool false,.bool false,.int .i64 (-1),.int .i64 (-1),.int .i64 (-1),.int .i64 (-1),.int .i64 (-1)]:=rfl
theorem rnone_any (w:World) :
  Calls Tryz.prog 67 #[] w fun e w'=>e=.returned (rulV [])∧Below w.heap.size w w':=by
 have HV:=zH rulV_noneR
 generalize rulV []=R at *
 have HB0:=zH ((Below.refl w.heap.size w).alloc (zR _) (.cells #[.bool false,.bool false,.bool false,.bool false,.bool false,.bool false,.bool false,.bool false,.int .i64 0,.int .i64 0,.int .i64 0,.int .i64 0,.int .i64 0] 36))
 go_enter Tryz.func67,Tryz.ntmps67
 go_wp2_with fail
 refine bodyPost_ret (v:=.agg #[.bool false,.bool false,.bool false,.bool false,.bool false,.bool false,.bool false,.bool false,.int .i64 (-1),.int .i64 (-1),.int .i64 (-1),.int .i64 (-1),.int .i64 (-1)]) (by simp [results,Tryz.results67,go_sem]) rfl ⟨by rw [HV.out],?_⟩
 exact(Below.refl w.heap.size w).alloc (zR _) _
theorem rof_0 (lo:Nat) (v:Value) (ds:List Dir) (w:World) (hv:Dirs lo w v ds) (hok:DirsOk ds) (hf:fstN ds nStale=none) :
  Calls Tryz.prog 68 #[v] w fun e w'=>e=.returned (rulV ds)∧Below w.heap.size w w':=by
 have cF:=fun W (hb:Below w.heap.size w W)=>rfind_any lo v ds nStale W (hv.below hb) hok.1
 rw [hf]at cF
 have HV:Hid (rulV ds=.agg #[.bool (hasN ds nNoStore),.bool (hasN ds nNoCache),.bool (hasN ds nPrivate),.bool (hasN ds nPublic),.bool (hasN ds nMust),.bool (hasN ds nProxy),.bool (hasN ds nImmut),.bool (hasN ds nOnly),.int .i64 (numN ds nMaxAge),.int .i64 (numN ds nSMax),.int .i64 (numN ds nStale),.int .i64 (numN ds nFresh),.int .i64 (numN ds nIfErr)]):=zH (by
  have h:stlN ds nStale=numN ds nStale:=by rw [stlN,hf];rw [numN,hf]
  rw [rulV,h])
 generalize rulV ds=R at *
 have s0:=fun W (hb:Below w.heap.size w W)=>rhas_any lo v ds nNoStore W (hv.below hb) hok.1
 generalize hasN ds nNoStore=b0 at *
 have s1:=fun W (hb:Below w.heap.size w W)=>rhas_any lo v ds nNoCache W (hv.below hb) hok.1
 generalize hasN ds nNoCache=b1 at *
 have s2:=fun W (hb:Below w.heap.size w W)=>rhas_any lo v ds nPrivate W (hv.below hb) hok.1
 generalize hasN ds nPrivate=b2 at *
 have s3:=fun W (hb:Below w.heap.size w W)=>rhas_any lo v ds nPublic W (hv.below hb) hok.1
 generalize hasN ds nPublic=b3 at *
 have s4:=fun W (hb:Below w.heap.size w W)=>rhas_any lo v ds nMust W (hv.below hb) hok.1
 generalize hasN ds nMust=b4 at *
 have s5:=fun W (hb:Below w.heap.size w W)=>rhas_any lo v ds nProxy W (hv.below hb) hok.1
 generalize hasN ds nProxy=b5 at *
 have s6:=fun W (hb:Below w.heap.size w W)=>rhas_any lo v ds nImmut W (hv.below hb) hok.1
 generalize hasN ds nImmut=b6 at *
 have s7:=fun W (hb:Below w.heap.size w W)=>rhas_any lo v ds nOnly W (hv.below hb) hok.1
 generalize hasN ds nOnly=b7 at *
 have t0:=fun W (hb:Below w.heap.size w W)=>rnumber_any lo v ds nMaxAge W (hv.below hb) hok
 generalize numN ds nMaxAge=k0 at *
 have t1:=fun W (hb:Below w.heap.size w W)=>rnumber_any lo v ds nSMax W (hv.below hb) hok
 generalize numN ds nSMax=k1 at *
 have t2:=fun W (hb:Below w.heap.size w W)=>rnumber_any lo v ds nStale W (hv.below hb) hok
 generalize numN ds nStale=k2 at *
 have t3:=fun W (hb:Below w.heap.size w W)=>rnumber_any lo v ds nFresh W (hv.below hb) hok
 generalize numN ds nFresh=k3 at *
 have t4:=fun W (hb:Below w.heap.size w W)=>rnumber_any lo v ds nIfErr W (hv.below hb) hok
 generalize numN ds nIfErr=k4 at *
 obtain⟨ao,cap,rfl,_⟩:=hv
 have HB0:=zH ((Below.refl w.heap.size w).alloc (zR _) (.cells #[.bool false,.bool false,.bool false,.bool false,.bool false,.bool false,.bool false,.bool false,.int .i64 0,.int .i64 0,.int .i64 0,.int .i64 0,.int .i64 0] 36))
 have HX0:=zH (BoxN.made w [.bool false,.bool false,.bool false,.bool false,.bool false,.bool false,.bool false,.bool false,.int .i64 0,.int .i64 0,.int .i64 0,.int .i64 0,.int .i64 0] 36)
 clear hf
 go_enter Tryz.func68,Tryz.ntmps68
 go_wp2_with fail
 refine(s0 _ HB0.out).mono ?_
 rintro e v0 ⟨rfl,hb⟩
 have HX0:=zH (HX0.out.next hb)
 have HB0:=zH (HB0.out.trans (hb.mono HB0.out.size))
 clear hb s0
 go_wp2_with fail
 refine(s1 _ HB0.out).mono ?_
 rintro e v1 ⟨rfl,hb⟩
 have HX0:=zH (HX0.out.next hb)
 have HB0:=zH (HB0.out.trans (hb.mono HB0.out.size))
 clear hb s1
 go_wp2_with fail
 refine(s2 _ HB0.out).mono ?_
 rintro e v2 ⟨rfl,hb⟩
 have HX0:=zH (HX0.out.next hb)
 have HB0:=zH (HB0.out.trans (hb.mono HB0.out.size))
 clear hb s2
 go_wp2_with fail
 refine(s3 _ HB0.out).mono ?_
 rintro e v3 ⟨rfl,hb⟩
 have HX0:=zH (HX0.out.next hb)
 have HB0:=zH (HB0.out.trans (hb.mono HB0.out.size))
 clear hb s3
 go_wp2_with fail
 refine(s4 _ HB0.out).mono ?_
 rintro e v4 ⟨rfl,hb⟩
 have HX0:=zH (HX0.out.next hb)
 have HB0:=zH (HB0.out.trans (hb.mono HB0.out.size))
 clear hb s4
 go_wp2_with fail
 refine(s5 _ HB0.out).mono ?_
 rintro e v5 ⟨rfl,hb⟩
 have HX0:=zH (HX0.out.next hb)
 have HB0:=zH (HB0.out.trans (hb.mono HB0.out.size))
 clear hb s5
 go_wp2_with fail
 refine(s6 _ HB0.out).mono ?_
 rintro e v6 ⟨rfl,hb⟩
 have HX0:=zH (HX0.out.next hb)
 have HB0:=zH (HB0.out.trans (hb.mono HB0.out.size))
 clear hb s6
 go_wp2_with fail
 refine(s7 _ HB0.out).mono ?_
 rintro e v7 ⟨rfl,hb⟩
 have HX0:=zH (HX0.out.next hb)
 have HB0:=zH (HB0.out.trans (hb.mono HB0.out.size))
 clear hb s7
 go_wp2_with fail
 have hC:w.heap.size<v7.heap.size:=HX0.out.1
 have HY:=zH (BoxN.made v7 [.bool b0,.bool b1,.bool b2,.bool b3,.bool b4,.bool b5,.bool b6,.bool b7,.int .i64 0,.int .i64 0,.int .i64 0,.int .i64 0,.int .i64 0] 36)
 have hal:=(Below.refl v7.heap.size v7).alloc (zR _) (.cells #[.bool b0,.bool b1,.bool b2,.bool b3,.bool b4,.bool b5,.bool b6,.bool b7,.int .i64 0,.int .i64 0,.int .i64 0,.int .i64 0,.int .i64 0] 36)
 have HX0:=zH (HX0.out.next hal)
 have HB0:=zH (HB0.out.trans (hal.mono HB0.out.size))
 clear hal
 generalize v7.alloc (.cells #[.bool b0,.bool b1,.bool b2,.bool b3,.bool b4,.bool b5,.bool b6,.bool b7,.int .i64 0,.int .i64 0,.int .i64 0,.int .i64 0,.int .i64 0] 36)=U at *
 generalize v7.heap.size=C at *
 refine(t0 _ HB0.out).mono ?_
 rintro e u0 ⟨rfl,hb⟩
 have HX0:=zH (HX0.out.next hb)
 have HY:=zH (HY.out.next hb)
 have HB0:=zH (HB0.out.trans (hb.mono HB0.out.size))
 have y:=(HY.out.2 8 _ rfl).1
 have fy:=(HY.out.2 8 _ rfl).2
 clear hb t0
 go_wp2_with fail
 clear y fy
 have HY:=zH (HY.out.set 8 (.int .i64 k0) (by simp))
 have HX0:=zH (HX0.out.other (Nat.ne_of_gt hC) (k:=8) (.int .i64 k0))
 have HB0:=zH (HB0.out.setCell (p:=⟨C,8,none⟩) (Nat.le_of_lt hC) (.int .i64 k0))
 generalize u0.setCell ⟨C,8,none⟩ (.int .i64 k0)=U0 at *
 refine(t1 _ HB0.out).mono ?_
 rintro e u1 ⟨rfl,hb⟩
 have HX0:=zH (HX0.out.next hb)
 have HY:=zH (HY.out.next hb)
 have HB0:=zH (HB0.out.trans (hb.mono HB0.out.size))
 have y:=(HY.out.2 9 _ rfl).1
 have fy:=(HY.out.2 9 _ rfl).2
 clear hb t1
 go_wp2_with fail
 clear y fy
 have HY:=zH (HY.out.set 9 (.int .i64 k1) (by simp))
 have HX0:=zH (HX0.out.other (Nat.ne_of_gt hC) (k:=9) (.int .i64 k1))
 have HB0:=zH (HB0.out.setCell (p:=⟨C,9,none⟩) (Nat.le_of_lt hC) (.int .i64 k1))
 generalize u1.setCell ⟨C,9,none⟩ (.int .i64 k1)=U1 at *
 refine(t2 _ HB0.out).mono ?_
 rintro e u2 ⟨rfl,hb⟩
 have HX0:=zH (HX0.out.next hb)
 have HY:=zH (HY.out.next hb)
 have HB0:=zH (HB0.out.trans (hb.mono HB0.out.size))
 have y:=(HY.out.2 10 _ rfl).1
 have fy:=(HY.out.2 10 _ rfl).2
 clear hb t2
 go_wp2_with fail
 clear y fy
 have HY:=zH (HY.out.set 10 (.int .i64 k2) (by simp))
 have HX0:=zH (HX0.out.other (Nat.ne_of_gt hC) (k:=10) (.int .i64 k2))
 have HB0:=zH (HB0.out.setCell (p:=⟨C,10,none⟩) (Nat.le_of_lt hC) (.int .i64 k2))
 generalize u2.setCell ⟨C,10,none⟩ (.int .i64 k2)=U2 at *
 refine(t3 _ HB0.out).mono ?_
 rintro e u3 ⟨rfl,hb⟩
 have HX0:=zH (HX0.out.next hb)
 have HY:=zH (HY.out.next hb)
 have HB0:=zH (HB0.out.trans (hb.mono HB0.out.size))
 have y:=(HY.out.2 11 _ rfl).1
 have fy:=(HY.out.2 11 _ rfl).2
 clear hb t3
 go_wp2_with fail
 clear y fy
 have HY:=zH (HY.out.set 11 (.int .i64 k3) (by simp))
 have HX0:=zH (HX0.out.other (Nat.ne_of_gt hC) (k:=11) (.int .i64 k3))
 have HB0:=zH (HB0.out.setCell (p:=⟨C,11,none⟩) (Nat.le_of_lt hC) (.int .i64 k3))
 generalize u3.setCell ⟨C,11,none⟩ (.int .i64 k3)=U3 at *
 refine(t4 _ HB0.out).mono ?_
 rintro e u4 ⟨rfl,hb⟩
 have HX0:=zH (HX0.out.next hb)
 have HY:=zH (HY.out.next hb)
 have HB0:=zH (HB0.out.trans (hb.mono HB0.out.size))
 have y:=(HY.out.2 12 _ rfl).1
 have fy:=(HY.out.2 12 _ rfl).2
 clear hb t4
 go_wp2_with fail
 clear y fy
 have HY:=zH (HY.out.set 12 (.int .i64 k4) (by simp))
 have HX0:=zH (HX0.out.other (Nat.ne_of_gt hC) (k:=12) (.int .i64 k4))
 have HB0:=zH (HB0.out.setCell (p:=⟨C,12,none⟩) (Nat.le_of_lt hC) (.int .i64 k4))
 generalize u4.setCell ⟨C,12,none⟩ (.int .i64 k4)=U4 at *
 refine(cF _ HB0.out).mono ?_
 rintro e f ⟨rfl,hb⟩
 have HX:=zH (HX0.out.next hb)
 have HY:=zH (HY.out.next hb)
 have HB:=zH (HB0.out.trans (hb.mono HB0.out.size))
 have hlt:w.heap.size<f.heap.size:=HX.out.1
 have hlt2:C<f.heap.size:=HY.out.1
 have hne:C≠w.heap.size:=Nat.ne_of_gt hC
 clear hb cF HX0 HB0
 simp only [fndV]
 obtain⟨y0,fy0,y1,fy1,y2,fy2,y3,fy3,y4,fy4,y5,fy5,y6,fy6,y7,fy7,y8,fy8,y9,fy9,y10,fy10,y11,fy11,y12,fy12⟩:=a13X HY.out
 obtain⟨x0,g0,x1,g1,x2,g2,x3,g3,x4,g4,x5,g5,x6,g6,x7,g7,x8,g8,x9,g9,x10,g10,x11,g11,x12,g12⟩:=a13X HX.out
 go_wp2_with fail
 clear x0 g0 x1 g1 x2 g2 x3 g3 x4 g4 x5 g5 x6 g6 x7 g7 x8 g8 x9 g9 x10 g10 x11 g11 x12 g12
 clear y0 fy0 y1 fy1 y2 fy2 y3 fy3 y4 fy4 y5 fy5 y6 fy6 y7 fy7 y8 fy8 y9 fy9 y10 fy10 y11 fy11 y12 fy12
 have HP:=zH (set13X HX.out rfl (.bool b0) (.bool b1) (.bool b2) (.bool b3) (.bool b4) (.bool b5) (.bool b6) (.bool b7) (.int .i64 k0) (.int .i64 k1) (.int .i64 k2) (.int .i64 k3) (.int .i64 k4))
 have HQ:=zH (set13B HB.out (.bool b0) (.bool b1) (.bool b2) (.bool b3) (.bool b4) (.bool b5) (.bool b6) (.bool b7) (.int .i64 k0) (.int .i64 k1) (.int .i64 k2) (.int .i64 k3) (.int .i64 k4))
 generalize World.setCell _ ⟨_,12,none⟩ _=W8 at *
 have hal:=(Below.refl W8.heap.size W8).alloc (zR _) (.cells #[.string ⟨#[]⟩,.string ⟨#[]⟩,.bool false] 146)
 have HP:=zH (HP.out.next hal)
 have HQ:=zH (HQ.out.trans (hal.mono HQ.out.size))
 clear hal
 generalize W8.alloc (.cells #[.string ⟨#[]⟩,.string ⟨#[]⟩,.bool false] 146)=W9 at *
 obtain⟨p0,p1,p2,p3,p4,p5,p6,p7,p8,p9,p10,p11,p12⟩:=b13X HP.out
 refine bodyPost_ret (v:=.agg #[.bool b0,.bool b1,.bool b2,.bool b3,.bool b4,.bool b5,.bool b6,.bool b7,.int .i64 k0,.int .i64 k1,.int .i64 k2,.int .i64 k3,.int .i64 k4]) (by simp [results,Tryz.results68,go_sem,p0,p1,p2,p3,p4,p5,p6,p7,p8,p9,p10,p11,p12]) rfl ⟨by rw [HV.out],HQ.out⟩
theorem rof_1 (lo:Nat) (v:Value) (ds:List Dir) (w:World) (hv:Dirs lo w v ds) (hok:DirsOk ds) (N V:List UInt8) (hf:fstN ds nStale=some (N,V,true)) :
  Calls Tryz.prog 68 #[v] w fun e w'=>e=.returned (rulV ds)∧Below w.heap.size w w':=by
 have cF:=fun W (hb:Below w.heap.size w W)=>rfind_any lo v ds nStale W (hv.below hb) hok.1
 rw [hf]at cF
 have HV:Hid (rulV ds=.agg #[.bool (hasN ds nNoStore),.bool (hasN ds nNoCache),.bool (hasN ds nPrivate),.bool (hasN ds nPublic),.bool (hasN ds nMust),.bool (hasN ds nProxy),.bool (hasN ds nImmut),.bool (hasN ds nOnly),.int .i64 (numN ds nMaxAge),.int .i64 (numN ds nSMax),.int .i64 (numN ds nStale),.int .i64 (numN ds nFresh),.int .i64 (numN ds nIfErr)]):=zH (by
  have h:stlN ds nStale=numN ds nStale:=by rw [stlN,hf];rw [numN,hf]<;>rfl
  rw [rulV,h])
 generalize rulV ds=R at *
 have s0:=fun W (hb:Below w.heap.size w W)=>rhas_any lo v ds nNoStore W (hv.below hb) hok.1
 generalize hasN ds nNoStore=b0 at *
 have s1:=fun W (hb:Below w.heap.size w W)=>rhas_any lo v ds nNoCache W (hv.below hb) hok.1
 generalize hasN ds nNoCache=b1 at *
 have s2:=fun W (hb:Below w.heap.size w W)=>rhas_any lo v ds nPrivate W (hv.below hb) hok.1
 generalize hasN ds nPrivate=b2 at *
 have s3:=fun W (hb:Below w.heap.size w W)=>rhas_any lo v ds nPublic W (hv.below hb) hok.1
 generalize hasN ds nPublic=b3 at *
 have s4:=fun W (hb:Below w.heap.size w W)=>rhas_any lo v ds nMust W (hv.below hb) hok.1
 generalize hasN ds nMust=b4 at *
 have s5:=fun W (hb:Below w.heap.size w W)=>rhas_any lo v ds nProxy W (hv.below hb) hok.1
 generalize hasN ds nProxy=b5 at *
 have s6:=fun W (hb:Below w.heap.size w W)=>rhas_any lo v ds nImmut W (hv.below hb) hok.1
 generalize hasN ds nImmut=b6 at *
 have s7:=fun W (hb:Below w.heap.size w W)=>rhas_any lo v ds nOnly W (hv.below hb) hok.1
 generalize hasN ds nOnly=b7 at *
 have t0:=fun W (hb:Below w.heap.size w W)=>rnumber_any lo v ds nMaxAge W (hv.below hb) hok
 generalize numN ds nMaxAge=k0 at *
 have t1:=fun W (hb:Below w.heap.size w W)=>rnumber_any lo v ds nSMax W (hv.below hb) hok
 generalize numN ds nSMax=k1 at *
 have t2:=fun W (hb:Below w.heap.size w W)=>rnumber_any lo v ds nStale W (hv.below hb) hok
 generalize numN ds nStale=k2 at *
 have t3:=fun W (hb:Below w.heap.size w W)=>rnumber_any lo v ds nFresh W (hv.below hb) hok
 generalize numN ds nFresh=k3 at *
 have t4:=fun W (hb:Below w.heap.size w W)=>rnumber_any lo v ds nIfErr W (hv.below hb) hok
 generalize numN ds nIfErr=k4 at *
 obtain⟨ao,cap,rfl,_⟩:=hv
 have HB0:=zH ((Below.refl w.heap.size w).alloc (zR _) (.cells #[.bool false,.bool false,.bool false,.bool false,.bool false,.bool false,.bool false,.bool false,.int .i64 0,.int .i64 0,.int .i64 0,.int .i64 0,.int .i64 0] 36))
 have HX0:=zH (BoxN.made w [.bool false,.bool false,.bool false,.bool false,.bool false,.bool false,.bool false,.bool false,.int .i64 0,.int .i64 0,.int .i64 0,.int .i64 0,.int .i64 0] 36)
 clear hf
 go_enter Tryz.func68,Tryz.ntmps68
 go_wp2_with fail
 refine(s0 _ HB0.out).mono ?_
 rintro e v0 ⟨rfl,hb⟩
 have HX0:=zH (HX0.out.next hb)
 have HB0:=zH (HB0.out.trans (hb.mono HB0.out.size))
 clear hb s0
 go_wp2_with fail
 refine(s1 _ HB0.out).mono ?_
 rintro e v1 ⟨rfl,hb⟩
 have HX0:=zH (HX0.out.next hb)
 have HB0:=zH (HB0.out.trans (hb.mono HB0.out.size))
 clear hb s1
 go_wp2_with fail
 refine(s2 _ HB0.out).mono ?_
 rintro e v2 ⟨rfl,hb⟩
 have HX0:=zH (HX0.out.next hb)
 have HB0:=zH (HB0.out.trans (hb.mono HB0.out.size))
 clear hb s2
 go_wp2_with fail
 refine(s3 _ HB0.out).mono ?_
 rintro e v3 ⟨rfl,hb⟩
 have HX0:=zH (HX0.out.next hb)
 have HB0:=zH (HB0.out.trans (hb.mono HB0.out.size))
 clear hb s3
 go_wp2_with fail
 refine(s4 _ HB0.out).mono ?_
 rintro e v4 ⟨rfl,hb⟩
 have HX0:=zH (HX0.out.next hb)
 have HB0:=zH (HB0.out.trans (hb.mono HB0.out.size))
 clear hb s4
 go_wp2_with fail
 refine(s5 _ HB0.out).mono ?_
 rintro e v5 ⟨rfl,hb⟩
 have HX0:=zH (HX0.out.next hb)
 have HB0:=zH (HB0.out.trans (hb.mono HB0.out.size))
 clear hb s5
 go_wp2_with fail
 refine(s6 _ HB0.out).mono ?_
 rintro e v6 ⟨rfl,hb⟩
 have HX0:=zH (HX0.out.next hb)
 have HB0:=zH (HB0.out.trans (hb.mono HB0.out.size))
 clear hb s6
 go_wp2_with fail
 refine(s7 _ HB0.out).mono ?_
 rintro e v7 ⟨rfl,hb⟩
 have HX0:=zH (HX0.out.next hb)
 have HB0:=zH (HB0.out.trans (hb.mono HB0.out.size))
 clear hb s7
 go_wp2_with fail
 have hC:w.heap.size<v7.heap.size:=HX0.out.1
 have HY:=zH (BoxN.made v7 [.bool b0,.bool b1,.bool b2,.bool b3,.bool b4,.bool b5,.bool b6,.bool b7,.int .i64 0,.int .i64 0,.int .i64 0,.int .i64 0,.int .i64 0] 36)
 have hal:=(Below.refl v7.heap.size v7).alloc (zR _) (.cells #[.bool b0,.bool b1,.bool b2,.bool b3,.bool b4,.bool b5,.bool b6,.bool b7,.int .i64 0,.int .i64 0,.int .i64 0,.int .i64 0,.int .i64 0] 36)
 have HX0:=zH (HX0.out.next hal)
 have HB0:=zH (HB0.out.trans (hal.mono HB0.out.size))
 clear hal
 generalize v7.alloc (.cells #[.bool b0,.bool b1,.bool b2,.bool b3,.bool b4,.bool b5,.bool b6,.bool b7,.int .i64 0,.int .i64 0,.int .i64 0,.int .i64 0,.int .i64 0] 36)=U at *
 generalize v7.heap.size=C at *
 refine(t0 _ HB0.out).mono ?_
 rintro e u0 ⟨rfl,hb⟩
 have HX0:=zH (HX0.out.next hb)
 have HY:=zH (HY.out.next hb)
 have HB0:=zH (HB0.out.trans (hb.mono HB0.out.size))
 have y:=(HY.out.2 8 _ rfl).1
 have fy:=(HY.out.2 8 _ rfl).2
 clear hb t0
 go_wp2_with fail
 clear y fy
 have HY:=zH (HY.out.set 8 (.int .i64 k0) (by simp))
 have HX0:=zH (HX0.out.other (Nat.ne_of_gt hC) (k:=8) (.int .i64 k0))
 have HB0:=zH (HB0.out.setCell (p:=⟨C,8,none⟩) (Nat.le_of_lt hC) (.int .i64 k0))
 generalize u0.setCell ⟨C,8,none⟩ (.int .i64 k0)=U0 at *
 refine(t1 _ HB0.out).mono ?_
 rintro e u1 ⟨rfl,hb⟩
 have HX0:=zH (HX0.out.next hb)
 have HY:=zH (HY.out.next hb)
 have HB0:=zH (HB0.out.trans (hb.mono HB0.out.size))
 have y:=(HY.out.2 9 _ rfl).1
 have fy:=(HY.out.2 9 _ rfl).2
 clear hb t1
 go_wp2_with fail
 clear y fy
 have HY:=zH (HY.out.set 9 (.int .i64 k1) (by simp))
 have HX0:=zH (HX0.out.other (Nat.ne_of_gt hC) (k:=9) (.int .i64 k1))
 have HB0:=zH (HB0.out.setCell (p:=⟨C,9,none⟩) (Nat.le_of_lt hC) (.int .i64 k1))
 generalize u1.setCell ⟨C,9,none⟩ (.int .i64 k1)=U1 at *
 refine(t2 _ HB0.out).mono ?_
 rintro e u2 ⟨rfl,hb⟩
 have HX0:=zH (HX0.out.next hb)
 have HY:=zH (HY.out.next hb)
 have HB0:=zH (HB0.out.trans (hb.mono HB0.out.size))
 have y:=(HY.out.2 10 _ rfl).1
 have fy:=(HY.out.2 10 _ rfl).2
 clear hb t2
 go_wp2_with fail
 clear y fy
 have HY:=zH (HY.out.set 10 (.int .i64 k2) (by simp))
 have HX0:=zH (HX0.out.other (Nat.ne_of_gt hC) (k:=10) (.int .i64 k2))
 have HB0:=zH (HB0.out.setCell (p:=⟨C,10,none⟩) (Nat.le_of_lt hC) (.int .i64 k2))
 generalize u2.setCell ⟨C,10,none⟩ (.int .i64 k2)=U2 at *
 refine(t3 _ HB0.out).mono ?_
 rintro e u3 ⟨rfl,hb⟩
 have HX0:=zH (HX0.out.next hb)
 have HY:=zH (HY.out.next hb)
 have HB0:=zH (HB0.out.trans (hb.mono HB0.out.size))
 have y:=(HY.out.2 11 _ rfl).1
 have fy:=(HY.out.2 11 _ rfl).2
 clear hb t3
 go_wp2_with fail
 clear y fy
 have HY:=zH (HY.out.set 11 (.int .i64 k3) (by simp))
 have HX0:=zH (HX0.out.other (Nat.ne_of_gt hC) (k:=11) (.int .i64 k3))
 have HB0:=zH (HB0.out.setCell (p:=⟨C,11,none⟩) (Nat.le_of_lt hC) (.int .i64 k3))
 generalize u3.setCell ⟨C,11,none⟩ (.int .i64 k3)=U3 at *
 refine(t4 _ HB0.out).mono ?_
 rintro e u4 ⟨rfl,hb⟩
 have HX0:=zH (HX0.out.next hb)
 have HY:=zH (HY.out.next hb)
 have HB0:=zH (HB0.out.trans (hb.mono HB0.out.size))
 have y:=(HY.out.2 12 _ rfl).1
 have fy:=(HY.out.2 12 _ rfl).2
 clear hb t4
 go_wp2_with fail
 clear y fy
 have HY:=zH (HY.out.set 12 (.int .i64 k4) (by simp))
 have HX0:=zH (HX0.out.other (Nat.ne_of_gt hC) (k:=12) (.int .i64 k4))
 have HB0:=zH (HB0.out.setCell (p:=⟨C,12,none⟩) (Nat.le_of_lt hC) (.int .i64 k4))
 generalize u4.setCell ⟨C,12,none⟩ (.int .i64 k4)=U4 at *
 refine(cF _ HB0.out).mono ?_
 rintro e f ⟨rfl,hb⟩
 have HX:=zH (HX0.out.next hb)
 have HY:=zH (HY.out.next hb)
 have HB:=zH (HB0.out.trans (hb.mono HB0.out.size))
 have hlt:w.heap.size<f.heap.size:=HX.out.1
 have hlt2:C<f.heap.size:=HY.out.1
 have hne:C≠w.heap.size:=Nat.ne_of_gt hC
 clear hb cF HX0 HB0
 simp only [fndV,dirV]
 obtain⟨y0,fy0,y1,fy1,y2,fy2,y3,fy3,y4,fy4,y5,fy5,y6,fy6,y7,fy7,y8,fy8,y9,fy9,y10,fy10,y11,fy11,y12,fy12⟩:=a13X HY.out
 obtain⟨x0,g0,x1,g1,x2,g2,x3,g3,x4,g4,x5,g5,x6,g6,x7,g7,x8,g8,x9,g9,x10,g10,x11,g11,x12,g12⟩:=a13X HX.out
 go_wp2_with fail
 clear x0 g0 x1 g1 x2 g2 x3 g3 x4 g4 x5 g5 x6 g6 x7 g7 x8 g8 x9 g9 x10 g10 x11 g11 x12 g12
 clear y0 fy0 y1 fy1 y2 fy2 y3 fy3 y4 fy4 y5 fy5 y6 fy6 y7 fy7 y8 fy8 y9 fy9 y10 fy10 y11 fy11 y12 fy12
 have HP:=zH (set13X HX.out rfl (.bool b0) (.bool b1) (.bool b2) (.bool b3) (.bool b4) (.bool b5) (.bool b6) (.bool b7) (.int .i64 k0) (.int .i64 k1) (.int .i64 k2) (.int .i64 k3) (.int .i64 k4))
 have HQ:=zH (set13B HB.out (.bool b0) (.bool b1) (.bool b2) (.bool b3) (.bool b4) (.bool b5) (.bool b6) (.bool b7) (.int .i64 k0) (.int .i64 k1) (.int .i64 k2) (.int .i64 k3) (.int .i64 k4))
 generalize World.setCell _ ⟨_,12,none⟩ _=W8 at *
 have hal:=(Below.refl W8.heap.size W8).alloc (zR _) (.cells #[.string (strB N),.string (strB V),.bool true] 146)
 have HP:=zH (HP.out.next hal)
 have HQ:=zH (HQ.out.trans (hal.mono HQ.out.size))
 clear hal
 generalize W8.alloc (.cells #[.string (strB N),.string (strB V),.bool true] 146)=W9 at *
 obtain⟨p0,p1,p2,p3,p4,p5,p6,p7,p8,p9,p10,p11,p12⟩:=b13X HP.out
 refine bodyPost_ret (v:=.agg #[.bool b0,.bool b1,.bool b2,.bool b3,.bool b4,.bool b5,.bool b6,.bool b7,.int .i64 k0,.int .i64 k1,.int .i64 k2,.int .i64 k3,.int .i64 k4]) (by simp [results,Tryz.results68,go_sem,p0,p1,p2,p3,p4,p5,p6,p7,p8,p9,p10,p11,p12]) rfl ⟨by rw [HV.out],HQ.out⟩
theorem rof_2 (lo:Nat) (v:Value) (ds:List Dir) (w:World) (hv:Dirs lo w v ds) (hok:DirsOk ds) (N V:List UInt8) (hf:fstN ds nStale=some (N,V,false)) :
  Calls Tryz.prog 68 #[v] w fun e w'=>e=.returned (rulV ds)∧Below w.heap.size w w':=by
 have cF:=fun W (hb:Below w.heap.size w W)=>rfind_any lo v ds nStale W (hv.below hb) hok.1
 rw [hf]at cF
 have HV:Hid (rulV ds=.agg #[.bool (hasN ds nNoStore),.bool (hasN ds nNoCache),.bool (hasN ds nPrivate),.bool (hasN ds nPublic),.bool (hasN ds nMust),.bool (hasN ds nProxy),.bool (hasN ds nImmut),.bool (hasN ds nOnly),.int .i64 (numN ds nMaxAge),.int .i64 (numN ds nSMax),.int .i64 (2147483648),.int .i64 (numN ds nFresh),.int .i64 (numN ds nIfErr)]):=zH (by
  have h:stlN ds nStale=2147483648:=by rw [stlN,hf]<;>rfl
  rw [rulV,h])
 generalize rulV ds=R at *
 have s0:=fun W (hb:Below w.heap.size w W)=>rhas_any lo v ds nNoStore W (hv.below hb) hok.1
 generalize hasN ds nNoStore=b0 at *
 have s1:=fun W (hb:Below w.heap.size w W)=>rhas_any lo v ds nNoCache W (hv.below hb) hok.1
 generalize hasN ds nNoCache=b1 at *
 have s2:=fun W (hb:Below w.heap.size w W)=>rhas_any lo v ds nPrivate W (hv.below hb) hok.1
 generalize hasN ds nPrivate=b2 at *
 have s3:=fun W (hb:Below w.heap.size w W)=>rhas_any lo v ds nPublic W (hv.below hb) hok.1
 generalize hasN ds nPublic=b3 at *
 have s4:=fun W (hb:Below w.heap.size w W)=>rhas_any lo v ds nMust W (hv.below hb) hok.1
 generalize hasN ds nMust=b4 at *
 have s5:=fun W (hb:Below w.heap.size w W)=>rhas_any lo v ds nProxy W (hv.below hb) hok.1
 generalize hasN ds nProxy=b5 at *
 have s6:=fun W (hb:Below w.heap.size w W)=>rhas_any lo v ds nImmut W (hv.below hb) hok.1
 generalize hasN ds nImmut=b6 at *
 have s7:=fun W (hb:Below w.heap.size w W)=>rhas_any lo v ds nOnly W (hv.below hb) hok.1
 generalize hasN ds nOnly=b7 at *
 have t0:=fun W (hb:Below w.heap.size w W)=>rnumber_any lo v ds nMaxAge W (hv.below hb) hok
 generalize numN ds nMaxAge=k0 at *
 have t1:=fun W (hb:Below w.heap.size w W)=>rnumber_any lo v ds nSMax W (hv.below hb) hok
 generalize numN ds nSMax=k1 at *
 have t2:=fun W (hb:Below w.heap.size w W)=>rnumber_any lo v ds nStale W (hv.below hb) hok
 generalize numN ds nStale=k2 at *
 have t3:=fun W (hb:Below w.heap.size w W)=>rnumber_any lo v ds nFresh W (hv.below hb) hok
 generalize numN ds nFresh=k3 at *
 have t4:=fun W (hb:Below w.heap.size w W)=>rnumber_any lo v ds nIfErr W (hv.below hb) hok
 generalize numN ds nIfErr=k4 at *
 obtain⟨ao,cap,rfl,_⟩:=hv
 have HB0:=zH ((Below.refl w.heap.size w).alloc (zR _) (.cells #[.bool false,.bool false,.bool false,.bool false,.bool false,.bool false,.bool false,.bool false,.int .i64 0,.int .i64 0,.int .i64 0,.int .i64 0,.int .i64 0] 36))
 have HX0:=zH (BoxN.made w [.bool false,.bool false,.bool false,.bool false,.bool false,.bool false,.bool false,.bool false,.int .i64 0,.int .i64 0,.int .i64 0,.int .i64 0,.int .i64 0] 36)
 clear hf
 go_enter Tryz.func68,Tryz.ntmps68
 go_wp2_with fail
 refine(s0 _ HB0.out).mono ?_
 rintro e v0 ⟨rfl,hb⟩
 have HX0:=zH (HX0.out.next hb)
 have HB0:=zH (HB0.out.trans (hb.mono HB0.out.size))
 clear hb s0
 go_wp2_with fail
 refine(s1 _ HB0.out).mono ?_
 rintro e v1 ⟨rfl,hb⟩
 have HX0:=zH (HX0.out.next hb)
 have HB0:=zH (HB0.out.trans (hb.mono HB0.out.size))
 clear hb s1
 go_wp2_with fail
 refine(s2 _ HB0.out).mono ?_
 rintro e v2 ⟨rfl,hb⟩
 have HX0:=zH (HX0.out.next hb)
 have HB0:=zH (HB0.out.trans (hb.mono HB0.out.size))
 clear hb s2
 go_wp2_with fail
 refine(s3 _ HB0.out).mono ?_
 rintro e v3 ⟨rfl,hb⟩
 have HX0:=zH (HX0.out.next hb)
 have HB0:=zH (HB0.out.trans (hb.mono HB0.out.size))
 clear hb s3
 go_wp2_with fail
 refine(s4 _ HB0.out).mono ?_
 rintro e v4 ⟨rfl,hb⟩
 have HX0:=zH (HX0.out.next hb)
 have HB0:=zH (HB0.out.trans (hb.mono HB0.out.size))
 clear hb s4
 go_wp2_with fail
 refine(s5 _ HB0.out).mono ?_
 rintro e v5 ⟨rfl,hb⟩
 have HX0:=zH (HX0.out.next hb)
 have HB0:=zH (HB0.out.trans (hb.mono HB0.out.size))
 clear hb s5
 go_wp2_with fail
 refine(s6 _ HB0.out).mono ?_
 rintro e v6 ⟨rfl,hb⟩
 have HX0:=zH (HX0.out.next hb)
 have HB0:=zH (HB0.out.trans (hb.mono HB0.out.size))
 clear hb s6
 go_wp2_with fail
 refine(s7 _ HB0.out).mono ?_
 rintro e v7 ⟨rfl,hb⟩
 have HX0:=zH (HX0.out.next hb)
 have HB0:=zH (HB0.out.trans (hb.mono HB0.out.size))
 clear hb s7
 go_wp2_with fail
 have hC:w.heap.size<v7.heap.size:=HX0.out.1
 have HY:=zH (BoxN.made v7 [.bool b0,.bool b1,.bool b2,.bool b3,.bool b4,.bool b5,.bool b6,.bool b7,.int .i64 0,.int .i64 0,.int .i64 0,.int .i64 0,.int .i64 0] 36)
 have hal:=(Below.refl v7.heap.size v7).alloc (zR _) (.cells #[.bool b0,.bool b1,.bool b2,.bool b3,.bool b4,.bool b5,.bool b6,.bool b7,.int .i64 0,.int .i64 0,.int .i64 0,.int .i64 0,.int .i64 0] 36)
 have HX0:=zH (HX0.out.next hal)
 have HB0:=zH (HB0.out.trans (hal.mono HB0.out.size))
 clear hal
 generalize v7.alloc (.cells #[.bool b0,.bool b1,.bool b2,.bool b3,.bool b4,.bool b5,.bool b6,.bool b7,.int .i64 0,.int .i64 0,.int .i64 0,.int .i64 0,.int .i64 0] 36)=U at *
 generalize v7.heap.size=C at *
 refine(t0 _ HB0.out).mono ?_
 rintro e u0 ⟨rfl,hb⟩
 have HX0:=zH (HX0.out.next hb)
 have HY:=zH (HY.out.next hb)
 have HB0:=zH (HB0.out.trans (hb.mono HB0.out.size))
 have y:=(HY.out.2 8 _ rfl).1
 have fy:=(HY.out.2 8 _ rfl).2
 clear hb t0
 go_wp2_with fail
 clear y fy
 have HY:=zH (HY.out.set 8 (.int .i64 k0) (by simp))
 have HX0:=zH (HX0.out.other (Nat.ne_of_gt hC) (k:=8) (.int .i64 k0))
 have HB0:=zH (HB0.out.setCell (p:=⟨C,8,none⟩) (Nat.le_of_lt hC) (.int .i64 k0))
 generalize u0.setCell ⟨C,8,none⟩ (.int .i64 k0)=U0 at *
 refine(t1 _ HB0.out).mono ?_
 rintro e u1 ⟨rfl,hb⟩
 have HX0:=zH (HX0.out.next hb)
 have HY:=zH (HY.out.next hb)
 have HB0:=zH (HB0.out.trans (hb.mono HB0.out.size))
 have y:=(HY.out.2 9 _ rfl).1
 have fy:=(HY.out.2 9 _ rfl).2
 clear hb t1
 go_wp2_with fail
 clear y fy
 have HY:=zH (HY.out.set 9 (.int .i64 k1) (by simp))
 have HX0:=zH (HX0.out.other (Nat.ne_of_gt hC) (k:=9) (.int .i64 k1))
 have HB0:=zH (HB0.out.setCell (p:=⟨C,9,none⟩) (Nat.le_of_lt hC) (.int .i64 k1))
 generalize u1.setCell ⟨C,9,none⟩ (.int .i64 k1)=U1 at *
 refine(t2 _ HB0.out).mono ?_
 rintro e u2 ⟨rfl,hb⟩
 have HX0:=zH (HX0.out.next hb)
 have HY:=zH (HY.out.next hb)
 have HB0:=zH (HB0.out.trans (hb.mono HB0.out.size))
 have y:=(HY.out.2 10 _ rfl).1
 have fy:=(HY.out.2 10 _ rfl).2
 clear hb t2
 go_wp2_with fail
 clear y fy
 have HY:=zH (HY.out.set 10 (.int .i64 k2) (by simp))
 have HX0:=zH (HX0.out.other (Nat.ne_of_gt hC) (k:=10) (.int .i64 k2))
 have HB0:=zH (HB0.out.setCell (p:=⟨C,10,none⟩) (Nat.le_of_lt hC) (.int .i64 k2))
 generalize u2.setCell ⟨C,10,none⟩ (.int .i64 k2)=U2 at *
 refine(t3 _ HB0.out).mono ?_
 rintro e u3 ⟨rfl,hb⟩
 have HX0:=zH (HX0.out.next hb)
 have HY:=zH (HY.out.next hb)
 have HB0:=zH (HB0.out.trans (hb.mono HB0.out.size))
 have y:=(HY.out.2 11 _ rfl).1
 have fy:=(HY.out.2 11 _ rfl).2
 clear hb t3
 go_wp2_with fail
 clear y fy
 have HY:=zH (HY.out.set 11 (.int .i64 k3) (by simp))
 have HX0:=zH (HX0.out.other (Nat.ne_of_gt hC) (k:=11) (.int .i64 k3))
 have HB0:=zH (HB0.out.setCell (p:=⟨C,11,none⟩) (Nat.le_of_lt hC) (.int .i64 k3))
 generalize u3.setCell ⟨C,11,none⟩ (.int .i64 k3)=U3 at *
 refine(t4 _ HB0.out).mono ?_
 rintro e u4 ⟨rfl,hb⟩
 have HX0:=zH (HX0.out.next hb)
 have HY:=zH (HY.out.next hb)
 have HB0:=zH (HB0.out.trans (hb.mono HB0.out.size))
 have y:=(HY.out.2 12 _ rfl).1
 have fy:=(HY.out.2 12 _ rfl).2
 clear hb t4
 go_wp2_with fail
 clear y fy
 have HY:=zH (HY.out.set 12 (.int .i64 k4) (by simp))
 have HX0:=zH (HX0.out.other (Nat.ne_of_gt hC) (k:=12) (.int .i64 k4))
 have HB0:=zH (HB0.out.setCell (p:=⟨C,12,none⟩) (Nat.le_of_lt hC) (.int .i64 k4))
 generalize u4.setCell ⟨C,12,none⟩ (.int .i64 k4)=U4 at *
 refine(cF _ HB0.out).mono ?_
 rintro e f ⟨rfl,hb⟩
 have HX:=zH (HX0.out.next hb)
 have HY:=zH (HY.out.next hb)
 have HB:=zH (HB0.out.trans (hb.mono HB0.out.size))
 have hlt:w.heap.size<f.heap.size:=HX.out.1
 have hlt2:C<f.heap.size:=HY.out.1
 have hne:C≠w.heap.size:=Nat.ne_of_gt hC
 clear hb cF HX0 HB0
 simp only [fndV,dirV]
 obtain⟨y0,fy0,y1,fy1,y2,fy2,y3,fy3,y4,fy4,y5,fy5,y6,fy6,y7,fy7,y8,fy8,y9,fy9,y10,fy10,y11,fy11,y12,fy12⟩:=a13X HY.out
 obtain⟨x0,g0,x1,g1,x2,g2,x3,g3,x4,g4,x5,g5,x6,g6,x7,g7,x8,g8,x9,g9,x10,g10,x11,g11,x12,g12⟩:=a13X HX.out
 go_wp2_with fail
 clear x0 g0 x1 g1 x2 g2 x3 g3 x4 g4 x5 g5 x6 g6 x7 g7 x8 g8 x9 g9 x10 g10 x11 g11 x12 g12
 clear y0 fy0 y1 fy1 y2 fy2 y3 fy3 y4 fy4 y5 fy5 y6 fy6 y7 fy7 y8 fy8 y9 fy9 y10 fy10 y11 fy11 y12 fy12
 have HX:=zH (HX.out.other hne (k:=10) (.int .i64 2147483648))
 have HB:=zH (HB.out.setCell (p:=⟨C,10,none⟩) (Nat.le_of_lt hC) (.int .i64 2147483648))
 have HP:=zH (set13X HX.out rfl (.bool b0) (.bool b1) (.bool b2) (.bool b3) (.bool b4) (.bool b5) (.bool b6) (.bool b7) (.int .i64 k0) (.int .i64 k1) (.int .i64 (2147483648)) (.int .i64 k3) (.int .i64 k4))
 have HQ:=zH (set13B HB.out (.bool b0) (.bool b1) (.bool b2) (.bool b3) (.bool b4) (.bool b5) (.bool b6) (.bool b7) (.int .i64 k0) (.int .i64 k1) (.int .i64 (2147483648)) (.int .i64 k3) (.int .i64 k4))
 generalize World.setCell _ ⟨_,12,none⟩ _=W8 at *
 have hal:=(Below.refl W8.heap.size W8).alloc (zR _) (.cells #[.string (strB N),.string (strB V),.bool false] 146)
 have HP:=zH (HP.out.next hal)
 have HQ:=zH (HQ.out.trans (hal.mono HQ.out.size))
 clear hal
 generalize W8.alloc (.cells #[.string (strB N),.string (strB V),.bool false] 146)=W9 at *
 obtain⟨p0,p1,p2,p3,p4,p5,p6,p7,p8,p9,p10,p11,p12⟩:=b13X HP.out
 refine bodyPost_ret (v:=.agg #[.bool b0,.bool b1,.bool b2,.bool b3,.bool b4,.bool b5,.bool b6,.bool b7,.int .i64 k0,.int .i64 k1,.int .i64 (2147483648),.int .i64 k3,.int .i64 k4]) (by simp [results,Tryz.results68,go_sem,p0,p1,p2,p3,p4,p5,p6,p7,p8,p9,p10,p11,p12]) rfl ⟨by rw [HV.out],HQ.out⟩
theorem rof_any (lo:Nat) (v:Value) (ds:List Dir) (w:World) (hv:Dirs lo w v ds) (hok:DirsOk ds) :
  Calls Tryz.prog 68 #[v] w fun e w'=>e=.returned (rulV ds)∧Below w.heap.size w w':=by
 cases hf:fstN ds nStale with
 | none=>exact rof_0 lo v ds w hv hok hf
 | some d =>
  obtain⟨N,V,H⟩:=d
  cases H
  ·exact rof_2 lo v ds w hv hok N V hf
  ·exact rof_1 lo v ds w hv hok N V hf
theorem info_bytO:(Tryz.prog.info? 5).map (fun i=>(i.zero,i.size,i.bytes))=some (some (.int .u8 0),1,1):=by kernel_rfl
def uqI (l:List UInt8) (k:Nat) (acc:List UInt8):Prop:=acc.length≤k∧unqG (l.drop 1)=(unqG (l.drop k)).map (acc++·)
theorem uqI_start (l:List UInt8):uqI l 1 []:=⟨by simp,by cases unqG (l.drop 1)<;>rfl⟩
theorem uqI_end {l acc:List UInt8} {k:Nat} (h:uqI l k acc) (hd:l.drop k=34 :: l.drop (k+1)):unqG (l.drop 1)=if l.drop (k+1)=[]then some acc else none:=by
 rw [h.2,hd,unqG_end]
 split
 ·rw [Option.map_some,List.append_nil]
 ·rfl
theorem uqI_none {l acc:List UInt8} {k:Nat} (h:uqI l k acc) (hd:l.drop k=[]):unqG (l.drop 1)=none:=by
 rw [h.2,hd,unqG_nil]
 rfl
theorem uqI_bad {l acc:List UInt8} {k:Nat} (h:uqI l k acc) (hd:l.drop k=[92]):unqG (l.drop 1)=none:=by
 rw [h.2,hd,unqG_esc_nil]
 rfl
theorem uqI_esc {l acc:List UInt8} {k:Nat} {d:UInt8} (h:uqI l k acc) (hd:l.drop k=92 :: d :: l.drop (k+2)):uqI l (k+2) (acc++[d]):=by
 refine⟨by rw [List.length_append,List.length_singleton];have:=h.1;omega,?_⟩
 rw [h.2,hd,unqG_esc]
 cases unqG (l.drop (k+2))<;>simp
theorem uqI_other {l acc:List UInt8} {k:Nat} {c:UInt8} (h:uqI l k acc) (hd:l.drop k=c :: l.drop (k+1)) (h1:c≠34) (h2:c≠92):uqI l (k+1) (acc++[c]):=by
 refine⟨by rw [List.length_append,List.length_singleton];have:=h.1;omega,?_⟩
 rw [h.2,hd,unqG_other c _ h1 h2]
 cases unqG (l.drop (k+1))<;>simp
def unqPost (o:Option (List UInt8)) (w:World) (e:Ending) (w':World):Prop:=(∃X,e=.returned (.tuple #[.string X,.bool o.isSome])∧∀t,o=some t→X=strB t)∧Below w.heap.size w w'
theorem unquoted_any (s:ByteArray) (w:World) (hs:s.size≤100000) :
  Calls Tryz.prog 144 #[.string s] w (unqPost (unqL s.data.toList) w):=by
 obtain⟨i0,hi,hz0,hz1,hz2⟩:=info_parts info_bytO
 have hz:=zH (Lib.size_eq s)
 by_cases h2:s.size<2
 ·have hn:unqL s.data.toList=none:=by
   cases hl:s.data.toList with
   | nil=>rfl
   | cons c r =>
    have hr:r=[]:=List.eq_nil_of_length_eq_zero (by have:=hz.out;rw [hl,List.length_cons]at this;omega)
    rw [unqL,hr]
    split<;>rfl
  have g1:((s.size:Int)<2):=by omega
  rw [hn]
  clear hn
  go_enter Tryz.func144,Tryz.ntmps144
  go_wp2_with fail
  refine bodyPost_ret (v:=.tuple #[.string ⟨#[]⟩,.bool false]) (by simp [results,Tryz.results144,go_sem]) rfl ⟨⟨_,rfl,fun t ht=>by cases ht⟩,Below.refl _ _⟩
 ·have g1:¬((s.size:Int)<2):=by omega
  have h0:0<s.size:=by omega
  have hd0:=drop_cons_at s 0 h0
  rw [List.drop_zero,Nat.zero_add]at hd0
  cases e34:(((s[0]'h0).toNat:Int)==34)
  ·have hn:unqL s.data.toList=none:=by
    rw [hd0,unqL,if_neg]
    intro h
    rw [h]at e34
    exact absurd e34 (by decide)
   have e34b:(((s[0]'h0).toNat:Int) != 34)=true:=by rw [bne,e34]<;>rfl
   rw [hn]
   clear hn hd0
   go_enter Tryz.func144,Tryz.ntmps144
   go_wp2_with fail
   refine bodyPost_ret (v:=.tuple #[.string ⟨#[]⟩,.bool false]) (by simp [results,Tryz.results144,go_sem]) rfl ⟨⟨_,rfl,fun t ht=>by cases ht⟩,Below.refl _ _⟩
  ·have h34:s[0]'h0=34:=by
    have:=byte_beq (s[0]'h0) 34
    rw [show(((34:UInt8).toNat:Int))=34 from rfl,e34]at this
    exact beq_iff_eq.1 this.symm
   have hn:unqL s.data.toList=unqG (s.data.toList.drop 1):=by
    have:=hd0
    rw [h34]at this
    conv=>lhs;rw [this]
    rw [unqL,if_pos rfl]
   have e34b:(((s[0]'h0).toNat:Int) != 34)=false:=by rw [bne,e34]<;>rfl
   rw [hn]
   have HS:=zH (uqI_start s.data.toList)
   obtain⟨O,hO⟩:∃O,unqG (s.data.toList.drop 1)=O:=⟨_,rfl⟩
   rw [hO]
   have HOO:=zH hO
   clear hn hd0 h34 hO
   go_enter Tryz.func144,Tryz.ntmps144
   go_wp2_with fail
   go_loopw [4,5] (fun v i wr=>∃(k:Nat) (acc:List UInt8),1≤k∧k≤s.size∧i=.int .i64 k∧Hid (uqI s.data.toList k acc)∧wr.ownsRow w.heap.size 5 1 v acc.length (acc.map bytV)∧Below w.heap.size w wr) (fun _ i _=>s.size-(intOf i).toNat)
   case atStart=>exact⟨1,[],by omega,by omega,rfl,HS.out,World.ownsRow_made _ _ _ (zR _) (by decide) rfl,(Below.refl _ _).alloc (zR _) _⟩
   case round =>
    obtain⟨k,acc,hk1,hk,rfl,H,hown,hb⟩:=hrel
    clear HS
    have hal:acc.length≤100000:=Nat.le_trans H.out.1 (Nat.le_trans hk hs)
    by_cases hlt:k<s.size
    ·have hd:=zH (drop_cons_at s k hlt)
     have B34:(((s[k]'hlt).toNat:Int)==34)=((s[k]'hlt)==34):=byte_beq _ 34
     have B92:(((s[k]'hlt).toNat:Int)==92)=((s[k]'hlt)==92):=byte_beq _ 92
     cases c34:((s[k]'hlt)==34)
     ·rw [c34]at B34
      cases c92:((s[k]'hlt)==92)
      ·rw [c92]at B92
       have HN:=zH (uqI_other H.out hd.out (by simpa using c34) (by simpa using c92))
       have Hsn:Hid (acc.map bytV++[.int .u8 ((s[k]'hlt).toNat:Int)]=(acc++[s[k]'hlt]).map bytV):=zH (by simp [bytV])
       clear c34 c92
       go_wp2_with (at_builtin;refine wpList_append_own _ rfl _ _ 23 rfl w.heap.size 5 i0 (.int .u8 0) 1 1 Tryz.underlying23 hi hz0 hz1 hz2 rfl (by decide) _ _ _ rfl (hown.alloc _) ⟨_,0,none⟩ 1 1 [.int .u8 ((s[k]'hlt).toNat:Int)] rfl rfl (cell_one_new _ _ _) (by intro u hu;simp at hu;subst hu;rfl) (by unfold maxLen;omega) (by omega) (by have:=hb.size;simp;omega) ?_;intro v' w1 hown' hgrow _)
       go_roundw
       case rel =>
        refine⟨k+1,acc++[s[k]'hlt],by omega,by omega,by go_num,HN,?_,(hb.alloc hb.size _).grown hgrow (by have:=hb.size;simp;omega) (fun k e=>(World.ownsRow.lt hown k e).1)⟩
        rw [← Hsn.out,List.length_append]
        exact hown'
       case measure=>simp [intOf];omega
      ·rw [c92]at B92
       have h92:s[k]'hlt=92:=beq_iff_eq.1 c92
       have hd2:=hd.out
       rw [h92]at hd2
       by_cases hl2:k+1<s.size
       ·have hd3:=drop_cons_at s (k+1) hl2
        rw [hd3]at hd2
        have HN:=zH (uqI_esc H.out hd2)
        have Hsn:Hid (acc.map bytV++[.int .u8 ((s[k+1]'hl2).toNat:Int)]=(acc++[s[k+1]'hl2]).map bytV):=zH (by simp [bytV])
        have n1:((k:Int)+1==(s.size:Int))=false:=by
         have:¬(k:Int)+1=(s.size:Int):=by omega
         simpa using this
        clear c34 c92 h92 hd2 hd3
        go_wp2_with (at_builtin;refine wpList_append_own _ rfl _ _ 23 rfl w.heap.size 5 i0 (.int .u8 0) 1 1 Tryz.underlying23 hi hz0 hz1 hz2 rfl (by decide) _ _ _ rfl (hown.alloc _) ⟨_,0,none⟩ 1 1 [.int .u8 ((s[k+1]'hl2).toNat:Int)] rfl rfl (cell_one_new _ _ _) (by intro u hu;simp at hu;subst hu;rfl) (by unfold maxLen;omega) (by omega) (by have:=hb.size;simp;omega) ?_;intro v' w1 hown' hgrow _)
        go_roundw
        case rel =>
         refine⟨k+2,acc++[s[k+1]'hl2],by omega,by omega,by go_num,HN,?_,(hb.alloc hb.size _).grown hgrow (by have:=hb.size;simp;omega) (fun k e=>(World.ownsRow.lt hown k e).1)⟩
         rw [← Hsn.out,List.length_append]
         exact hown'
        case measure=>simp [intOf];omega
       ·have n1:((k:Int)+1==(s.size:Int))=true:=by
         have:(k:Int)+1=(s.size:Int):=by omega
         simpa using this
        have hnil:s.data.toList.drop (k+1)=[]:=List.drop_of_length_le (by rw [← hz.out];omega)
        rw [hnil]at hd2
        have HR:Hid (O=none):=zH (HOO.out.symm.trans (uqI_bad H.out hd2))
        have HB:=zH hb
        clear c34 c92 h92 hd2 hnil hown hb
        go_wp2_with fail
        refine bodyPost_ret (v:=.tuple #[.string ⟨#[]⟩,.bool false]) (by simp [results,Tryz.results144,go_sem]) rfl ⟨⟨_,by rw [HR.out]<;>rfl,fun t ht=>by rw [HR.out]at ht;cases ht⟩,HB.out⟩
     ·rw [c34]at B34
      have h34:s[k]'hlt=34:=beq_iff_eq.1 c34
      have hd2:=hd.out
      rw [h34]at hd2
      have HE:=zH (uqI_end H.out hd2)
      have HB:=zH hb
      have hbl:(decide (s.data.toList.drop (k+1)=[]))=((k:Int)==(s.size:Int)-1):=by
       by_cases hk9:k+1=s.size
       ·have a1:s.data.toList.drop (k+1)=[]:=List.drop_of_length_le (by rw [← hz.out];omega)
        have a2:(k:Int)=(s.size:Int)-1:=by omega
        rw [decide_eq_true a1,beq_iff_eq.2 a2]
       ·have a1:¬s.data.toList.drop (k+1)=[]:=fun h=>by
         have:=congrArg List.length h
         rw [List.length_drop,← hz.out]at this
         simp only [List.length_nil]at this
         omega
        have a2:¬(k:Int)=(s.size:Int)-1:=by omega
        rw [decide_eq_false a1,beq_eq_false_iff_ne.2 a2]
      have HO:Hid (O=if ((k:Int)==(s.size:Int)-1)=true then some acc else none):=zH (by
       rw [← HOO.out,HE.out,← hbl]
       by_cases a1:s.data.toList.drop (k+1)=[]
       ·rw [if_pos a1,if_pos (decide_eq_true a1)]
       ·rw [if_neg a1,if_neg (by rw [decide_eq_false a1];decide)])
      have HO2:Hid (O.isSome=((k:Int)==(s.size:Int)-1)∧∀t,O=some t→t=acc):=zH (by
       rw [HO.out]
       cases ((k:Int)==(s.size:Int)-1)
       ·exact⟨rfl,fun t ht=>by cases ht⟩
       ·exact⟨rfl,fun t ht=>(Option.some.inj ht).symm⟩)
      clear c34 h34 hd2 hbl HE HO hb
      rcases hown.2 with ⟨hv,hz9⟩ | ⟨g,cap,cur,hv,_,hh,_⟩
      ·have hacc:acc=[]:=List.eq_nil_of_length_eq_zero hz9
       have hback:=run_convert_bytes_nil (P:=Tryz.prog) wr 23 5 Tryz.underlying23 Tryz.underlying5 0 0 9 Tryz.underlying9
       have HA:=zH hacc
       rw [hv]
       clear hown hv hz9 hacc
       go_wp2_with fail
       refine bodyPost_ret (v:=.tuple #[.string ByteArray.empty,.bool ((k:Int)==(s.size:Int)-1)]) (by simp [results,Tryz.results144,go_sem]) rfl ⟨⟨_,by rw [HO2.out.1]<;>rfl,fun t ht=>by rw [HO2.out.2 t ht,HA.out]<;>rfl⟩,HB.out⟩
      ·have hback:=run_convert_bytes_back (P:=Tryz.prog) wr 23 9 5 ⟨g,0,none⟩ cap acc Tryz.underlying23 Tryz.underlying5 Tryz.underlying9 (by
        intro j hj
        exact World.ownsRow.cells hown (g:=g) (by rw [hv]<;>rfl) j _ (by rw [List.getElem?_map,List.getElem?_eq_getElem hj]<;>rfl))
       rw [hv]
       clear hown hv hh
       go_wp2_with fail
       refine bodyPost_ret (v:=.tuple #[.string ⟨acc.toArray⟩,.bool ((k:Int)==(s.size:Int)-1)]) (by simp [results,Tryz.results144,go_sem]) rfl ⟨⟨_,by rw [HO2.out.1]<;>rfl,fun t ht=>by rw [HO2.out.2 t ht]<;>rfl⟩,HB.out⟩
    ·have c9:¬(k:Int)<(s.size:Int):=by omega
     have hnil:s.data.toList.drop k=[]:=List.drop_of_length_le (by rw [← hz.out];omega)
     have HR:Hid (O=none):=zH (HOO.out.symm.trans (uqI_none H.out hnil))
     have HB:=zH hb
     clear hnil hown hb hlt
     go_wp2_with fail
     refine bodyPost_ret (v:=.tuple #[.string ⟨#[]⟩,.bool false]) (by simp [results,Tryz.results144,go_sem]) rfl ⟨⟨_,by rw [HR.out]<;>rfl,fun t ht=>by rw [HR.out]at ht;cases ht⟩,HB.out⟩
end Go.Proofs.YtfaedmbfabfmeaaGreatDoor
namespace Go.Proofs.YtfaedmbfabfmeaaGreatDoor
open Go.RowKit
def blkI (c:Int):Bool:=c==32||c==9
theorem blkI_of (c:UInt8):blkI c.toNat=blkB c:=by
 unfold blkI blkB
 have h1:((c.toNat:Int)==32)=(c==32):=byte_beq c 32
 have h2:((c.toNat:Int)==9)=(c==9):=byte_beq c 9
 rw [h1,h2]
theorem rblank_any (c:Int) (w:World) :
  Calls Tryz.prog 179 #[.int .u8 c] w fun e w'=>e=.returned (.bool (blkI c))∧w=w':=by
 have hd:blkI c=(c==32||c==9):=rfl
 rw [hd]
 clear hd
 cases h1:(c==32)<;>cases h2:(c==9)
 all_goals
  go_enter Tryz.func179,Tryz.ntmps179
  go_wp2
  go_ret
  exact⟨rfl,rfl⟩
theorem rletter_any_RjA (c:Int) (w:World) :
  Calls Tryz.prog 212 #[.int .u8 c] w fun e w'=>e=.returned (.bool (ltrI c||digI c))∧w=w':=by
 have hd:(ltrI c||digI c)=((decide (97≤c)&&decide (c≤122))||(decide (65≤c)&&decide (c≤90))||(decide (48≤c)&&decide (c≤57))):=by
  simp only [ltrI,upI,lowI,digI]
  rw [Bool.or_comm (decide (65≤c)&&decide (c≤90))]
 rw [hd]
 clear hd
 rcases(show c<48∨(48≤c∧c≤57)∨(57<c∧c<65)∨(65≤c∧c≤90)∨(90<c∧c<97)∨(97≤c∧c≤122)∨122<c by omega)with h | h | h | h | h | h | h
 all_goals
  have a1:∃b,decide (97≤c)=b:=⟨_,rfl⟩
  have a2:∃b,decide (c≤122)=b:=⟨_,rfl⟩
  have a3:∃b,decide (65≤c)=b:=⟨_,rfl⟩
  have a4:∃b,decide (c≤90)=b:=⟨_,rfl⟩
  have a5:∃b,decide (48≤c)=b:=⟨_,rfl⟩
  have a6:∃b,decide (c≤57)=b:=⟨_,rfl⟩
  obtain⟨b1,h1⟩:=a1
  obtain⟨b2,h2⟩:=a2
  obtain⟨b3,h3⟩:=a3
  obtain⟨b4,h4⟩:=a4
  obtain⟨b5,h5⟩:=a5
  obtain⟨b6,h6⟩:=a6
  cases b1<;>cases b2<;>cases b3<;>cases b4<;>cases b5<;>cases b6<;>first | (exfalso;simp only [decide_eq_true_eq,decide_eq_false_iff_not]at h1 h2 h3 h4 h5 h6;omega) | skip
  all_goals
   clear h
   go_enter Tryz.func212,Tryz.ntmps212
   go_wp2
   go_ret
   exact⟨by rw [h1,h2,h3,h4,h5,h6]<;>rfl,rfl⟩
theorem mark_at_RjA (c:UInt8) (k:Nat) (h:k<15) (e:marksL[k]'h=c):markI c.toNat=true:=by
 subst e
 have:∀j:Fin 15,markI (marksL[j.val]'j.isLt).toNat=true:=by decide +kernel
 exact this ⟨k,h⟩
theorem mark_none_RjA (c:UInt8) (h:∀j (hj:j<15),(marksL[j]'hj==c)=false):markI c.toNat=false:=by
 have hn:∀l:List UInt8,(∀j (hj:j<l.length),(l[j]==c)=false)→Lib.indexByte l c=-1:=by
  intro l
  induction l with
  | nil=>intro _;rfl
  | cons a r ih =>
   intro h
   have h0:=h 0 (by simp)
   have hr:=ih (fun j hj=>h (j+1) (by simpa using hj))
   simp only [List.getElem_cons_zero]at h0
   rw [Lib.indexByte,h0,hr]
   rfl
 have e:(c.toNat:Int).toNat.toUInt8=c:=by simp
 unfold markI
 rw [e,hn marksL h]
 rfl
theorem rtchar_any_RjA (c:UInt8) (w:World) :
  Calls Tryz.prog 180 #[.int .u8 c.toNat] w fun e w'=>e=.returned (.bool (tchI c.toNat))∧w=w':=by
 have cL:=rletter_any_RjA (c.toNat:Int) w
 go_enter Tryz.func180,Tryz.ntmps180
 go_wp2
 go_loop [4] (fun i=>∃k:Nat,k≤15∧i=.int .i64 k∧Hid (∀j (hj:j<15),j<k→(marksL[j]'hj==c)=false)) (fun i=>15-(intOf i).toNat)
 case atStart=>exact⟨0,by omega,rfl,zH (fun j _ h=>by omega)⟩
 case round =>
  obtain⟨k,hk,rfl,H⟩:=hrel
  by_cases hlt:k<15
  ·have hls:k<(⟨#[33,35,36,37,38,39,42,43,45,46,94,95,96,124,126]⟩:ByteArray).size:=hlt
   have hg:(⟨#[33,35,36,37,38,39,42,43,45,46,94,95,96,124,126]⟩:ByteArray)[k]'hls=marksL[k]'hlt:=rfl
   have B:=byte_beq (marksL[k]'hlt) c
   cases he:(marksL[k]'hlt==c)
   ·have hb:((((⟨#[33,35,36,37,38,39,42,43,45,46,94,95,96,124,126]⟩:ByteArray)[k]'hls).toNat:Int)==(c.toNat:Int))=false:=by rw [hg,B,he]
    have He:=zH he
    clear hg B he
    go_wp2
    go_round
    case rel =>
     refine⟨k+1,by omega,by go_num,zH (fun j hj h=>?_)⟩
     by_cases e:j=k
     ·subst e;exact He.out
     ·exact H.out j hj (by omega)
    case measure=>simp [intOf];omega
   ·have hb:((((⟨#[33,35,36,37,38,39,42,43,45,46,94,95,96,124,126]⟩:ByteArray)[k]'hls).toNat:Int)==(c.toNat:Int))=true:=by rw [hg,B,he]
    have Hm:=zH (mark_at_RjA c k hlt (by simpa using he))
    clear hg B he
    go_wp2
    go_ret
    exact⟨ret_eq (bool_eq (by rw [tchI,Hm.out,Bool.or_true])),rfl⟩
  ·have Hm:=zH (mark_none_RjA c (fun j hj=>H.out j hj (by omega)))
   go_wp2_with (go_at_call 212;refine cL.mono ?_;rintro e w' ⟨rfl,rfl⟩)
   go_ret
   exact⟨ret_eq (bool_eq (by rw [tchI,Hm.out,Bool.or_false])),rfl⟩
theorem rtoken_any (s:ByteArray) (w:World) (hs:s.size≤maxLen) :
  Calls Tryz.prog 143 #[.string s] w fun e w'=>e=.returned (.bool (tokL s.data.toList))∧w=w':=by
 unfold maxLen at hs
 go_enter Tryz.func143,Tryz.ntmps143
 go_wp2
 go_loop [3] (fun i=>∃k:Nat,k≤s.size∧i=.int .i64 k∧Hid ((s.data.toList.take k).all (fun c=>tchI c.toNat)=true)) (fun i=>s.size-(intOf i).toNat)
 case atStart=>exact⟨0,Nat.zero_le _,rfl,zH rfl⟩
 case round =>
  obtain⟨k,hk,rfl,Hall⟩:=hrel
  by_cases hlt:k<s.size
  ·have cT:=rtchar_any_RjA s[k] w
   cases hd:tchI (s[k].toNat:Int)
   ·have Hf:=zH (all_false_of (fun c=>tchI c.toNat) s k hlt hd)
    rw [hd]at cT
    clear hd
    go_wp2_with (go_at_call 180;refine cT.mono ?_;rintro e w' ⟨rfl,rfl⟩)
    go_ret
    exact⟨by simp [tokL,Hf.out],rfl⟩
   ·have Ha:=zH (all_snoc (fun c=>tchI c.toNat) s k hlt)
    rw [hd]at cT
    have Hd:=zH hd
    clear hd
    go_wp2_with (go_at_call 180;refine cT.mono ?_;rintro e w' ⟨rfl,rfl⟩)
    go_round
    case rel=>exact⟨k+1,by omega,by go_num,zH (by rw [Ha.out,Hd.out,Bool.and_true];exact Hall.out)⟩
    case measure=>simp [intOf];omega
  ·have hk':s.size≤k:=by omega
   have Hp:Hid (decide (0<s.size)=!s.data.toList.isEmpty):=zH (by rw [Lib.size_eq];exact pos_of _)
   go_wp2
   go_ret
   refine⟨ret_eq (bool_eq ?_),rfl⟩
   rw [take_all s k hk']at Hall
   rw [tokL,Hall.out,Bool.true_and,← Hp.out]
theorem trimL_tail (l:List UInt8) (h:0<l.length) (hb:blkB l[0]=true):trimL l=trimL (l.drop 1):=by
 cases l with
 | nil=>simp at h
 | cons c r =>
  simp only [List.getElem_cons_zero]at hb
  rw [trimL,trimL,List.drop_one,List.tail_cons]
  have e:tlL (c :: r)=tlL r:=by rw [tlL,List.dropWhile_cons_of_pos hb]<;>rfl
  rw [e]
theorem tlL_stop (l:List UInt8) (h:0<l.length) (hb:blkB l[0]=false):tlL l=l:=by
 cases l with
 | nil=>simp at h
 | cons c r =>
  simp only [List.getElem_cons_zero]at hb
  rw [tlL,List.dropWhile_cons_of_neg (by rw [hb];decide)]
theorem trimL_init (l:List UInt8) (h:0<l.length) (hb:blkB l[0]=false) (hl:blkB (l[l.length-1]'(by omega))=true):trimL l=trimL (l.take (l.length-1)):=by
 have h2:1<l.length:=by
  rcases Nat.lt_or_ge 1 l.length with h' | h'
  ·exact h'
  ·have e:l.length-1=0:=by omega
   simp only [e]at hl
   rw [hb]at hl
   cases hl
 have hb2:blkB ((l.take (l.length-1))[0]'(by rw [List.length_take];omega))=false:=by simpa using hb
 rw [trimL,trimL,tlL_stop l h hb,tlL_stop (l.take (l.length-1)) (by rw [List.length_take];omega) hb2]
 have:=trL_take l l.length h (zR _)
 rw [List.take_length,getD_of_lt _ _ (by omega),hl,if_pos rfl]at this
 exact this
theorem trimL_done (l:List UInt8) (h:0<l.length) (hb:blkB l[0]=false) (hl:blkB (l[l.length-1]'(by omega))=false):trimL l=l:=by
 rw [trimL,tlL_stop l h hb]
 have:=trL_take l l.length h (zR _)
 rw [List.take_length,getD_of_lt _ _ (by omega),hl,if_neg (by decide)]at this
 exact this
theorem rtrim_any:∀(n:Nat) (s:ByteArray) (w:World),s.size≤n→s.size≤maxLen →
  Calls Tryz.prog 141 #[.string s] w fun e w'=>e=.returned (.string (strB (trimL s.data.toList)))∧w=w'
 | 0,s,w,hn,hs=>by
  have hz:s.size=0:=by omega
  have he:s.data.toList=[]:=List.eq_nil_of_length_eq_zero (by rw [← Lib.size_eq];exact hz)
  have Hend:Hid (strB (trimL s.data.toList)=s):=zH (by rw [he,show trimL []=[]from rfl,← he,strB_of])
  clear he
  go_enter Tryz.func141,Tryz.ntmps141
  go_wp2
  go_ret
  exact⟨by rw [Hend.out]<;>rfl,rfl⟩
 | n+1,s,w,hn,hs=>by
  have hsz:=Lib.size_eq s
  by_cases hp:0<s.size
  ·have hpl:0<s.data.toList.length:=by omega
   have hlast:s.size-1<s.size:=by omega
   have cB0:=rblank_any ((s[0]'hp).toNat:Int) w
   rw [blkI_of]at cB0
   have cB1:=rblank_any ((s[s.size-1]'hlast).toNat:Int) w
   rw [blkI_of]at cB1
   have i0:s[0]'hp=s.data.toList[0]'hpl:=rfl
   have i1:s[s.size-1]'hlast=s.data.toList[s.data.toList.length-1]'(by omega):=by
    simp only [← hsz];rfl
   have x1:(s.extract 1 s.size).data.toList=s.data.toList.drop 1:=Lib.extract_to_end s 1
   have x2:(s.extract 0 (s.size-1)).data.toList=s.data.toList.take (s.size-1):=extract_take s _
   have z1:(s.extract 1 s.size).size≤n:=by rw [Lib.size_eq,x1,List.length_drop];omega
   have z2:(s.extract 0 (s.size-1)).size≤n:=by rw [Lib.size_eq,x2,List.length_take];omega
   have c1:=rtrim_any n (s.extract 1 s.size) w z1 (by unfold maxLen at hs ⊢;rw [Lib.size_eq,x1,List.length_drop];omega)
   have c2:=rtrim_any n (s.extract 0 (s.size-1)) w z2 (by unfold maxLen at hs ⊢;rw [Lib.size_eq,x2,List.length_take];omega)
   rw [x1]at c1
   rw [x2]at c2
   clear x1 x2 z1 z2
   cases hb0:blkB (s[0]'hp)
   ·cases hb1:blkB (s[s.size-1]'hlast)
    ·have Hend:=zH (trimL_done s.data.toList hpl (by rw [← i0];exact hb0) (by rw [← i1];exact hb1))
     rw [hb0]at cB0
     rw [hb1]at cB1
     clear hb0 hb1 i0 i1 hsz c1 c2
     unfold maxLen at hs
     go_enter Tryz.func141,Tryz.ntmps141
     go_wp2_with fail
     refine cB0.mono ?_
     rintro e w' ⟨rfl,rfl⟩
     go_wp2_with fail
     refine cB1.mono ?_
     rintro e w' ⟨rfl,rfl⟩
     go_wp2_with fail
     go_ret
     exact⟨by rw [Hend.out,strB_of]<;>rfl,rfl⟩
    ·have Hend:=zH (trimL_init s.data.toList hpl (by rw [← i0];exact hb0) (by rw [← i1];exact hb1))
     rw [hb0]at cB0
     rw [hb1]at cB1
     have Hsz:=zH hsz
     clear hb0 hb1 i0 i1 hsz c1
     unfold maxLen at hs
     go_enter Tryz.func141,Tryz.ntmps141
     go_wp2_with fail
     refine cB0.mono ?_
     rintro e w' ⟨rfl,rfl⟩
     go_wp2_with fail
     refine cB1.mono ?_
     rintro e w' ⟨rfl,rfl⟩
     go_wp2_with fail
     refine c2.mono ?_
     rintro e w' ⟨rfl,rfl⟩
     go_wp2_with fail
     go_ret
     exact⟨by rw [Hend.out,← Hsz.out]<;>rfl,rfl⟩
   ·have Hend:=zH (trimL_tail s.data.toList hpl (by rw [← i0];exact hb0))
    generalize trimL (s.data.toList.drop 1)=t1 at c1 Hend
    rw [hb0]at cB0
    clear hb0 i0 i1 hsz c2 cB1
    unfold maxLen at hs
    go_enter Tryz.func141,Tryz.ntmps141
    go_wp2_with fail
    refine cB0.mono ?_
    rintro e w' ⟨rfl,rfl⟩
    go_wp2_with fail
    refine c1.mono ?_
    rintro e w' ⟨rfl,rfl⟩
    go_wp2_with fail
    go_ret
    exact⟨by rw [Hend.out]<;>rfl,rfl⟩
  ·exact rtrim_any n s w (by omega) hs
end Go.Proofs.YtfaedmbfabfmeaaGreatDoor
namespace Go.Proofs.YtfaedmbfabfmeaaGreatDoor
open Go.RowKit Go.Lib
def onePost (o:Option Dir) (w:World) (e:Ending) (w':World):Prop:=(∃N V H,e=.returned (.tuple #[.agg #[.string (strB N),.string (strB V),.bool H],.bool o.isSome])∧∀d,o=some d→d=(N,V,H))∧Below w.heap.size w w'
theorem rone_no (s:ByteArray) (w:World) (hs:s.size≤100000) (h0:Lib.indexByte s.data.toList 61=-1) :
  Calls Tryz.prog 110 #[.string s] w (onePost (oneL s.data.toList) w):=by
 have cT:=fun W=>rtoken_any s W (by unfold maxLen;omega)
 have cL:=fun W=>rlower_any s W (by omega)
 have HO:Hid ((oneL s.data.toList).isSome=tokL s.data.toList∧∀d,oneL s.data.toList=some d→d=(lowL s.data.toList,[],false)):=zH (by
  rw [oneL,if_pos h0]
  cases tokL s.data.toList
  ·exact⟨rfl,fun d h=>by cases h⟩
  ·exact⟨rfl,fun d h=>(Option.some.inj h).symm⟩)
 generalize oneL s.data.toList=O at *
 have HI:=zH h0
 clear h0
 go_enter Tryz.func110,Tryz.ntmps110
 go_wp2_with fail
 go_loopw [4] (fun i wr=>∃k:Nat,k≤s.size∧i=.int .i64 k∧wr=w.alloc (.cells #[.string ⟨#[]⟩,.string ⟨#[]⟩,.bool false] 146)) (fun i _=>s.size-(intOf i).toNat)
 case atStart=>exact⟨0,Nat.zero_le _,rfl,rfl⟩
 case round =>
  obtain⟨k,hk,rfl,rfl⟩:=hrel
  by_cases hlt:k<s.size
  ·have hne:(((s[k]'hlt).toNat:Int) != 61)=true:=by
    have h1:=byte_beq (s[k]'hlt) 61
    have h2:((s[k]'hlt)==61)=false:=by
     rw [beq_eq_false_iff_ne]
     intro h
     exact Lib.indexByte_none HI.out k (by rw [List.getElem?_eq_getElem (by rw [← Lib.size_eq];exact hlt)];exact congrArg some h)
    rw [h2]at h1
    rw [bne,show(61:Int)=(((61:UInt8).toNat:Int))from rfl,h1]
    rfl
   go_wp2_with fail
   go_roundw
   case rel=>exact⟨k+1,by omega,by go_num,trivial⟩
   case measure=>simp [intOf];omega
  ·have hkI:¬(k:Int)<(s.size:Int):=by omega
   have HB0:=zH (BoxD.made w (.string ⟨#[]⟩) (.string ⟨#[]⟩) (.bool false) 146)
   have hz1:w.heap.size≤(w.alloc (.cells #[.string ⟨#[]⟩,.string ⟨#[]⟩,.bool false] 146)).heap.size:=by simp
   have HB1:=zH ((Below.refl w.heap.size w).alloc (zR _) (.cells #[.string ⟨#[]⟩,.string ⟨#[]⟩,.bool false] 146))
   generalize w.alloc (.cells #[.string ⟨#[]⟩,.string ⟨#[]⟩,.bool false] 146)=w1 at *
   go_wp2_with (first | (go_at_call 142;refine(cL _).mono ?_;rintro e w2 ⟨rfl,hb2⟩;obtain⟨r0,r1,r2,g0,g1,g2⟩:=HB0.out.next hb2) | (go_at_call 143;refine(cT _).mono ?_;rintro e w3 ⟨rfl,rfl⟩))
   obtain⟨p0,p1,p2,_,_,_⟩:=(HB0.out.next hb2).put (.string (strB (lowL s.data.toList))) (.string ⟨#[]⟩) (.bool false)
   have HX:=zH (below_put (HB1.out.trans (hb2.mono hz1)) (zR w.heap.size) (.string (strB (lowL s.data.toList))) (.string ⟨#[]⟩) (.bool false))
   generalize((w2.setCell ⟨w.heap.size,0,none⟩ (.string (strB (lowL s.data.toList)))).setCell ⟨w.heap.size,1,none⟩ (.string ⟨#[]⟩)).setCell ⟨w.heap.size,2,none⟩ (.bool false)=W9 at *
   refine bodyPost_ret (v:=.tuple #[.agg #[.string (strB (lowL s.data.toList)),.string ⟨#[]⟩,.bool false],.bool (tokL s.data.toList)]) (by simp [results,Tryz.results110,go_sem,p0,p1,p2]) rfl ⟨⟨lowL s.data.toList,[],false,by rw [HO.out.1]<;>rfl,HO.out.2⟩,HX.out⟩
theorem rone_yes (s:ByteArray) (o:Nat) (w:World) (hs:s.size≤100000) (h0:Lib.indexByte s.data.toList 61=o) :
  Calls Tryz.prog 110 #[.string s] w (onePost (oneL s.data.toList) w):=by
 have ho:o<s.size:=by
  have:=(Lib.indexByte_some h0).1
  rw [Lib.size_eq]
  exact(List.getElem?_eq_some_iff.1 this).1
 have hN1:(s.extract 0 o).size≤100000:=by rw [ByteArray.size_extract];omega
 have hV1:(s.extract (o+1) s.size).size≤100000:=by rw [ByteArray.size_extract];omega
 have eN:(s.extract 0 o).data.toList=s.data.toList.take o:=by rw [Lib.extract_data]<;>rfl
 have eV:(s.extract (o+1) s.size).data.toList=s.data.toList.drop (o+1):=by
  rw [Lib.extract_data]
  exact List.take_of_length_le (by rw [List.length_drop,← Lib.size_eq];exact zR _)
 have cN:=fun W=>rtoken_any (s.extract 0 o) W (by unfold maxLen;omega)
 have cV:=fun W=>rtoken_any (s.extract (o+1) s.size) W (by unfold maxLen;omega)
 have cL:=fun W=>rlower_any (s.extract 0 o) W (by omega)
 have cU:=fun W=>unquoted_any (s.extract (o+1) s.size) W hV1
 rw [eN]at cN cL
 rw [eV]at cV cU
 have HO:Hid (oneL s.data.toList=if tokL (s.data.toList.take o)=true then(if tokL (s.data.toList.drop (o+1))=true then some (lowL (s.data.toList.take o),s.data.toList.drop (o+1),true)else(unqL (s.data.toList.drop (o+1))).map fun t=>(lowL (s.data.toList.take o),t,true))else none):=zH (by
  have h1:¬Lib.indexByte s.data.toList 61=-1:=by omega
  rw [oneL,if_neg h1,h0]
  rfl)
 have HI:=zH h0
 have hSV:s.extract (o+1) s.size=strB (s.data.toList.drop (o+1)):=by rw [← eV,strB_of]
 rw [hSV]at cV cU
 have HSV:=zH hSV
 clear h0 eN eV hN1 hV1 hSV
 obtain⟨tn,htn⟩:∃tn,tokL (s.data.toList.take o)=tn:=⟨_,rfl⟩
 obtain⟨tv,htv⟩:∃tv,tokL (s.data.toList.drop (o+1))=tv:=⟨_,rfl⟩
 rw [htn]at HO cN
 rw [htv]at HO cV
 clear htn htv
 generalize oneL s.data.toList=O at *
 generalize lowL (s.data.toList.take o)=LN at *
 obtain⟨LV,hLV⟩:∃LV,s.data.toList.drop (o+1)=LV:=⟨_,rfl⟩
 rw [hLV]at cV cU HO HSV
 clear hLV
 obtain⟨U,hU⟩:∃U,unqL LV=U:=⟨_,rfl⟩
 rw [hU]at cU HO
 clear hU
 go_enter Tryz.func110,Tryz.ntmps110
 go_wp2_with fail
 go_loopw [4] (fun i wr=>∃k:Nat,k≤o∧i=.int .i64 k∧wr=w.alloc (.cells #[.string ⟨#[]⟩,.string ⟨#[]⟩,.bool false] 146)) (fun i _=>s.size-(intOf i).toNat)
 case atStart=>exact⟨0,Nat.zero_le _,rfl,rfl⟩
 case round =>
  obtain⟨k,hk,rfl,rfl⟩:=hrel
  have hlt:k<s.size:=by omega
  have h1:=byte_beq (s[k]'hlt) 61
  rw [show((61:UInt8).toNat:Int)=61 from rfl]at h1
  by_cases hko:k<o
  ·have hne:(((s[k]'hlt).toNat:Int) != 61)=true:=by
    have h2:((s[k]'hlt)==61)=false:=by
     rw [beq_eq_false_iff_ne]
     intro h
     exact(Lib.indexByte_some HI.out).2 k hko (by rw [List.getElem?_eq_getElem (by rw [← Lib.size_eq];exact hlt)];exact congrArg some h)
    rw [h2]at h1
    rw [bne,h1]
    rfl
   clear h1
   go_wp2_with fail
   go_roundw
   case rel=>exact⟨k+1,by omega,by go_num,trivial⟩
   case measure=>simp [intOf];omega
  ·obtain rfl:k=o:=by omega
   have hne:(((s[k]'hlt).toNat:Int) != 61)=false:=by
    have h2:((s[k]'hlt)==61)=true:=by
     have:=(Lib.indexByte_some HI.out).1
     rw [List.getElem?_eq_getElem (by rw [← Lib.size_eq];exact hlt)]at this
     exact beq_iff_eq.2 (Option.some.inj this)
    rw [h2]at h1
    rw [bne,h1]
    rfl
   have HB0:=zH (BoxD.made w (.string ⟨#[]⟩) (.string ⟨#[]⟩) (.bool false) 146)
   have HB1:=zH ((Below.refl w.heap.size w).alloc (zR _) (.cells #[.string ⟨#[]⟩,.string ⟨#[]⟩,.bool false] 146))
   have HZ1:=zH (show w.heap.size+1=(w.alloc (.cells #[.string ⟨#[]⟩,.string ⟨#[]⟩,.bool false] 146)).heap.size by simp)
   generalize w.alloc (.cells #[.string ⟨#[]⟩,.string ⟨#[]⟩,.bool false] 146)=w1 at *
   clear h1 hko hk
   cases tv
   ·cases U with
    | none =>
     have cU0:∀W,Calls Tryz.prog 144 #[.string (strB LV)] W (fun e w'=>(∃X,e=.returned (.tuple #[.string X,.bool false]))∧Below W.heap.size W w'):=fun W=>(cU W).mono fun e w' h=>⟨⟨h.1.choose,h.1.choose_spec.1⟩,h.2⟩
     clear cU
     have HO2:Hid (O=none):=zH (by rw [HO.out];cases tn<;>rfl)
     go_wp2_with (first | (go_at_call 142;refine(cL _).mono ?_;rintro e w2 ⟨rfl,hb2⟩;have HB2:=zH (HB0.out.next hb2);have HX:=zH (Below.trans HB1.out (hb2.mono (by have:=HZ1.out;omega)))) | (go_at_call 143;rw [HSV.out];refine(cV _).mono ?_;rintro e w3 ⟨rfl,hw3⟩;have HB3:=zH (HB2.out.next (hw3▸(Below.refl _ _).alloc (zR _) _));have HX3:=zH (hw3▸HX.out.alloc HX.out.size _);have HQ3:=zH (hw3▸BoxD.made w2 _ _ _ _);clear hw3) | (go_at_call 144;refine(cU0 _).mono ?_;rintro e w4 ⟨⟨X,rfl⟩,hb4⟩;have HX4:=zH (HX3.out.trans (hb4.mono HX3.out.size));have HQ4:=zH (HQ3.out.next hb4);have HB4:=zH (HB3.out.next hb4);have HD4:=zH (show w2.heap.size≠w.heap.size by have:=HZ1.out;have:=hb2.size;omega);have q1:=HQ4.out.r1;have f1:=HQ4.out.g1))
     have HQ5:=zH (HQ4.out.put1 (.string X))
     have HB5:=zH (HB4.out.other HD4.out (k:=1) (.string X))
     have HX5:=zH (below_set HX4.out HX.out.size 1 (.string X))
     clear q1 f1
     generalize w4.setCell ⟨w2.heap.size,1,none⟩ (.string X)=w6 at *
     obtain⟨q0,q1,q2,f0,f1,f2⟩:=HQ5.out
     obtain⟨r0,r1,r2,g0,g1,g2⟩:=HB5.out
     go_region
     all_goals go_wp2_with fail
     all_goals
      obtain⟨p0,p1,p2,_,_,_⟩:=HB5.out.put (.string (strB LN)) (.string X) (.bool true)
      have HX9:=zH (below_put HX5.out (zR w.heap.size) (.string (strB LN)) (.string X) (.bool true))
      generalize((w6.setCell ⟨w.heap.size,0,none⟩ (.string (strB LN))).setCell ⟨w.heap.size,1,none⟩ (.string X)).setCell ⟨w.heap.size,2,none⟩ (.bool true)=W9 at *
      refine bodyPost_ret (v:=.tuple #[.agg #[.string (strB LN),.string X,.bool true],.bool false]) (by simp [results,Tryz.results110,go_sem,p0,p1,p2]) rfl ⟨⟨LN,X.data.toList,true,by rw [HO2.out,strB_of]<;>rfl,fun d h=>by rw [HO2.out]at h;cases h⟩,HX9.out.drew⟩
    | some t =>
     have cU1:∀W,Calls Tryz.prog 144 #[.string (strB LV)] W (fun e w'=>e=.returned (.tuple #[.string (strB t),.bool true])∧Below W.heap.size W w'):=fun W=>(cU W).mono fun e w' h=>⟨by rw [h.1.choose_spec.1,h.1.choose_spec.2 t rfl]<;>rfl,h.2⟩
     clear cU
     have HO2:Hid (O.isSome=tn∧∀d,O=some d→d=(LN,t,true)):=zH (by
      rw [HO.out]
      cases tn
      ·exact⟨rfl,fun d h=>by cases h⟩
      ·exact⟨rfl,fun d h=>(Option.some.inj h).symm⟩)
     go_wp2_with (first | (go_at_call 142;refine(cL _).mono ?_;rintro e w2 ⟨rfl,hb2⟩;have HB2:=zH (HB0.out.next hb2);have HX:=zH (Below.trans HB1.out (hb2.mono (by have:=HZ1.out;omega)))) | (go_at_call 143;rw [HSV.out];refine(cV _).mono ?_;rintro e w3 ⟨rfl,hw3⟩;have HB3:=zH (HB2.out.next (hw3▸(Below.refl _ _).alloc (zR _) _));have HX3:=zH (hw3▸HX.out.alloc HX.out.size _);have HQ3:=zH (hw3▸BoxD.made w2 _ _ _ _);clear hw3) | (go_at_call 144;refine(cU1 _).mono ?_;rintro e w4 ⟨rfl,hb4⟩;have HX4:=zH (HX3.out.trans (hb4.mono HX3.out.size));have HQ4:=zH (HQ3.out.next hb4);have HB4:=zH (HB3.out.next hb4);have HD4:=zH (show w2.heap.size≠w.heap.size by have:=HZ1.out;have:=hb2.size;omega);have q1:=HQ4.out.r1;have f1:=HQ4.out.g1))
     have HQ5:=zH (HQ4.out.put1 (.string (strB t)))
     have HB5:=zH (HB4.out.other HD4.out (k:=1) (.string (strB t)))
     have HX5:=zH (below_set HX4.out HX.out.size 1 (.string (strB t)))
     clear q1 f1
     generalize w4.setCell ⟨w2.heap.size,1,none⟩ (.string (strB t))=w6 at *
     obtain⟨q0,q1,q2,f0,f1,f2⟩:=HQ5.out
     obtain⟨r0,r1,r2,g0,g1,g2⟩:=HB5.out
     go_region_law ((go_simp;go_at_call 143;refine(cN _).mono ?_;rintro e w7 ⟨rfl,rfl⟩))
     all_goals go_wp2_with fail
     all_goals
      obtain⟨p0,p1,p2,_,_,_⟩:=HB5.out.put (.string (strB LN)) (.string (strB t)) (.bool true)
      have HX9:=zH (below_put HX5.out (zR w.heap.size) (.string (strB LN)) (.string (strB t)) (.bool true))
      generalize((w6.setCell ⟨w.heap.size,0,none⟩ (.string (strB LN))).setCell ⟨w.heap.size,1,none⟩ (.string (strB t))).setCell ⟨w.heap.size,2,none⟩ (.bool true)=W9 at *
      refine bodyPost_ret (v:=.tuple #[.agg #[.string (strB LN),.string (strB t),.bool true],.bool tn]) (by simp [results,Tryz.results110,go_sem,p0,p1,p2]) rfl ⟨⟨LN,t,true,by rw [HO2.out.1],HO2.out.2⟩,HX9.out.drew⟩
   ·go_wp2_with (first | (go_at_call 142;refine(cL _).mono ?_;rintro e w2 ⟨rfl,hb2⟩;have HB2:=zH (HB0.out.next hb2);have HX:=zH (Below.trans HB1.out (hb2.mono (by have:=HZ1.out;omega)))) | (go_at_call 143;rw [HSV.out];refine(cV _).mono ?_;rintro e w3 ⟨rfl,hw3⟩;have HB3:=zH (HB2.out.next (hw3▸(Below.refl _ _).alloc (zR _) _));have HX3:=zH (hw3▸HX.out.alloc HX.out.size _);obtain⟨q0,q1,q2,f0,f1,f2⟩:=hw3▸BoxD.made w2 _ _ _ _;obtain⟨r0,r1,r2,g0,g1,g2⟩:=HB3.out;clear hw3))
    go_region_with (go_at_call 143;refine(cN _).mono ?_;rintro e w5 ⟨rfl,rfl⟩)
    all_goals go_wp2_with fail
    all_goals
     obtain⟨p0,p1,p2,_,_,_⟩:=HB3.out.put (.string (strB LN)) (.string (strB LV)) (.bool true)
     have HX9:=zH (below_put HX3.out (zR w.heap.size) (.string (strB LN)) (.string (strB LV)) (.bool true))
     generalize((w3.setCell ⟨w.heap.size,0,none⟩ (.string (strB LN))).setCell ⟨w.heap.size,1,none⟩ (.string (strB LV))).setCell ⟨w.heap.size,2,none⟩ (.bool true)=W9 at *
     refine bodyPost_ret (v:=.tuple #[.agg #[.string (strB LN),.string (strB LV),.bool true],.bool tn]) (by simp [results,Tryz.results110,go_sem,p0,p1,p2]) rfl ⟨⟨LN,LV,true,?_,?_⟩,HX9.out.drew⟩
     ·rw [HO.out]
      cases tn<;>rfl
     ·rw [HO.out]
      cases tn
      ·exact fun d h=>by cases h
      ·exact fun d h=>(Option.some.inj h).symm
theorem rone_any (s:ByteArray) (w:World) (hs:s.size≤100000) :
  Calls Tryz.prog 110 #[.string s] w (onePost (oneL s.data.toList) w):=by
 by_cases h0:Lib.indexByte s.data.toList 61=-1
 ·exact rone_no s w hs h0
 ·have h1:=Lib.indexByte_ge s.data.toList 61
  obtain⟨o,ho⟩:=Int.eq_ofNat_of_zero_le (show 0≤Lib.indexByte s.data.toList 61 by omega)
  exact rone_yes s o w hs ho
end Go.Proofs.YtfaedmbfabfmeaaGreatDoor
namespace Go.Proofs.YtfaedmbfabfmeaaGreatDoor
open Go.RowKit
theorem extract_mid (s:ByteArray) (a b:Nat):(s.extract a b).data.toList=(s.data.toList.drop a).take (b-a):=Lib.extract_data s a b
theorem rsplit_any (s:ByteArray) (w:World) (hs:s.size≤1099511627776) :
  Calls Tryz.prog 109 #[.string s] w (StrsOut w.heap.size (splitL s.data.toList) w):=by
 obtain⟨i0,hi,hz0,hz1,hz2⟩:=info_parts info_string
 go_enter Tryz.func109,Tryz.ntmps109
 go_wp2_with fail
 go_loopw [3,4,5,6,7] (fun v xq xs xf i wr=>∃(k f:Nat) (q sl:Bool) (acc:List (List UInt8)),k≤s.size+1∧f≤k∧i=.int .i64 k∧xf=.int .i64 f∧xq=.bool q∧xs=.bool sl∧SplInv s.data.toList k f q sl acc∧wr.ownsRow w.heap.size 9 1 v acc.length (acc.map strV)∧Below w.heap.size w wr) (fun _ _ _ _ i _=>s.size+1-(intOf i).toNat)
 case atStart=>exact⟨0,0,false,false,[],by omega,by omega,rfl,rfl,rfl,rfl,SplInv.start _,World.ownsRow_nil _ _ _ _,Below.refl _ _⟩
 case round =>
  obtain⟨k,f,q,sl,acc,hk,hfk,rfl,rfl,rfl,rfl,hI,hown,hb⟩:=hrel
  have hacc:=hI.few
  have Hsz:=zH (Lib.size_eq s)
  by_cases hlt:k<s.size
  ·have hll:k<s.data.toList.length:=by rw [← Hsz.out];exact hlt
   have Hdr:=zH (drop_cons_at s k hlt)
   have B92:Hid (((s[k].toNat:Int)==92)=(s[k]==92)):=zH (byte_beq s[k] 92)
   have B34:Hid (((s[k].toNat:Int)==34)=(s[k]==34)):=zH (byte_beq s[k] 34)
   have B44:Hid (((s[k].toNat:Int)==44)=(s[k]==44)):=zH (byte_beq s[k] 44)
   cases q
   ·obtain rfl:=hI.quiet rfl
    cases h44:((s[k].toNat:Int) != 44)
    ·have P44:Hid ((s[k]==44)=true):=zH (by rw [← B44.out];simpa using h44)
     have Hz:Hid (peS (stOf false false) (s.data.toList.drop k)=0):=zH (by
      rw [Hdr.out,stOf,if_neg (by decide),peS,P44.out]<;>rfl)
     have hkl:k≤s.data.toList.length:=by omega
     have cM:=rtrim_any (s.extract f k).size (s.extract f k) wr (zR _) (by rw [Lib.size_eq,extract_mid,List.length_take];unfold maxLen;omega)
     rw [extract_mid]at cM
     have Hnx:=zH (hI.next hkl (fun _=>rfl) Hz.out false false (fun _=>rfl) (fun _=>rfl))
     generalize trimL ((s.data.toList.drop f).take (k-f))=p at cM Hnx
     by_cases hp:p=[]
     ·have hpe:(strB p).toList.isEmpty=true:=by rw [Lib.toList_data,strB_data,hp]<;>rfl
      have Hp:=zH hp
      clear hp
      go_wp2_with (go_at_call 141;refine cM.mono ?_;rintro e w' ⟨rfl,rfl⟩)
      go_roundw
      case rel=>exact⟨k+1,k+1,false,false,acc++[],by omega,by omega,by go_num,by go_num,rfl,rfl,Hnx.out [] (by rw [if_pos Hp.out]),by rw [List.append_nil];exact hown,hb⟩
      case measure=>simp [intOf]<;>omega
     ·have hpe:(strB p).toList.isEmpty=false:=by rw [Lib.toList_data,strB_data,List.isEmpty_eq_false_iff];exact hp
      have Hp:=zH hp
      clear hp
      go_wp2_with (first | (go_at_call 141;refine cM.mono ?_;rintro e w' ⟨rfl,rfl⟩) | (at_builtin;refine wpList_append_own _ rfl _ _ 81 rfl w.heap.size 9 i0 (.string ⟨#[]⟩) 1 16 Tryz.underlying81 hi hz0 hz1 hz2 rfl (by decide) _ _ _ rfl (hown.alloc _) ⟨_,0,none⟩ 1 1 [.string (strB p)] rfl rfl (cell_one_new _ _ _) (by intro u hu;simp at hu;subst hu;rfl) (by unfold maxLen;omega) (by omega) (by have:=hb.size;simp;omega) ?_;intro v' w1 hown' hgrow _))
      go_roundw
      case rel =>
       refine⟨k+1,k+1,false,false,acc++[p],by omega,by omega,by go_num,by go_num,rfl,rfl,Hnx.out [p] (by rw [if_neg Hp.out]),?_,(hb.alloc hb.size _).grown hgrow (by have:=hb.size;simp;omega) (fun k e=>(World.ownsRow.lt hown k e).1)⟩
       rw [List.length_append,List.map_append]
       exact hown'
      case measure=>simp [intOf]<;>omega
    ·have P44:Hid ((s[k]==44)=false):=zH (by rw [← B44.out];simpa using h44)
     cases h34:((s[k].toNat:Int)==34)
     ·have Hst:Hid (peS (stOf false false) (s.data.toList.drop k)=1+peS (stOf false false) (s.data.toList.drop (k+1))):=zH (by
       rw [Hdr.out,stOf,if_neg (by decide),peS,P44.out,← B34.out,h34]<;>rfl)
      go_wp2
      go_roundw
      case rel=>exact⟨k+1,f,false,false,acc,by omega,by omega,by go_num,rfl,rfl,rfl,hI.plain hll false false (fun _=>rfl) Hst.out,hown,hb⟩
      case measure=>simp [intOf]<;>omega
     ·have Hst:Hid (peS (stOf false false) (s.data.toList.drop k)=1+peS (stOf true false) (s.data.toList.drop (k+1))):=zH (by
       rw [Hdr.out,stOf,if_neg (by decide),peS,P44.out,← B34.out,h34]<;>rfl)
      go_wp2
      go_roundw
      case rel=>exact⟨k+1,f,true,false,acc,by omega,by omega,by go_num,rfl,rfl,rfl,hI.plain hll true false (fun h=>by cases h) Hst.out,hown,hb⟩
      case measure=>simp [intOf]<;>omega
   ·cases sl
    ·cases h92:((s[k].toNat:Int)==92)
     ·cases h34:((s[k].toNat:Int)==34)
      ·have Hst:Hid (peS (stOf true false) (s.data.toList.drop k)=1+peS (stOf true false) (s.data.toList.drop (k+1))):=zH (by
        rw [Hdr.out,stOf,if_pos rfl,peS,← B92.out,h92,← B34.out,h34]<;>rfl)
       go_wp2
       go_roundw
       case rel=>exact⟨k+1,f,true,false,acc,by omega,by omega,by go_num,rfl,rfl,rfl,hI.plain hll true false (fun h=>by cases h) Hst.out,hown,hb⟩
       case measure=>simp [intOf]<;>omega
      ·have Hst:Hid (peS (stOf true false) (s.data.toList.drop k)=1+peS (stOf false false) (s.data.toList.drop (k+1))):=zH (by
        rw [Hdr.out,stOf,if_pos rfl,peS,← B92.out,h92,← B34.out,h34]<;>rfl)
       go_wp2
       go_roundw
       case rel=>exact⟨k+1,f,false,false,acc,by omega,by omega,by go_num,rfl,rfl,rfl,hI.plain hll false false (fun _=>rfl) Hst.out,hown,hb⟩
       case measure=>simp [intOf]<;>omega
     ·have Hst:Hid (peS (stOf true false) (s.data.toList.drop k)=1+peS (stOf true true) (s.data.toList.drop (k+1))):=zH (by
       rw [Hdr.out,stOf,if_pos rfl,peS,← B92.out,h92]<;>rfl)
      go_wp2
      go_roundw
      case rel=>exact⟨k+1,f,true,true,acc,by omega,by omega,by go_num,rfl,rfl,rfl,hI.plain hll true true (fun h=>by cases h) Hst.out,hown,hb⟩
      case measure=>simp [intOf]<;>omega
    ·have Hst:Hid (peS (stOf true true) (s.data.toList.drop k)=1+peS (stOf true false) (s.data.toList.drop (k+1))):=zH (by
      rw [Hdr.out,stOf,if_pos rfl,peS]
      cases (s[k]==92)<;>simp [stOf])
     go_wp2
     go_roundw
     case rel=>exact⟨k+1,f,true,false,acc,by omega,by omega,by go_num,rfl,rfl,rfl,hI.plain hll true false (fun h=>by cases h) Hst.out,hown,hb⟩
     case measure=>simp [intOf]<;>omega
  ·by_cases hend:k=s.size
   ·subst hend
    have Hz:Hid (peS (stOf q sl) (s.data.toList.drop s.size)=0):=zH (by
     rw [List.drop_of_length_le (by rw [← Hsz.out];omega)]
     cases q<;>cases sl<;>rfl)
    have hkl:s.size≤s.data.toList.length:=by rw [← Hsz.out];omega
    have Hq:=zH hI.quiet
    have Hll:Hid (s.size<s.data.toList.length→False):=zH (fun h=>by rw [← Hsz.out]at h;omega)
    have cM:=rtrim_any (s.extract f s.size).size (s.extract f s.size) wr (zR _) (by rw [Lib.size_eq,extract_mid,List.length_take];unfold maxLen;omega)
    rw [extract_mid]at cM
    have Hnx:=zH (hI.next hkl (fun h=>(Hll.out h).elim) Hz.out q sl (fun h=>(Hll.out h).elim) Hq.out)
    generalize trimL ((s.data.toList.drop f).take (s.size-f))=p at cM Hnx
    by_cases hp:p=[]
    ·have hpe:(strB p).toList.isEmpty=true:=by rw [Lib.toList_data,strB_data,hp]<;>rfl
     have Hp:=zH hp
     clear hp
     go_wp2_with (go_at_call 141;refine cM.mono ?_;rintro e w' ⟨rfl,rfl⟩)
     go_roundw
     case rel=>exact⟨s.size+1,s.size+1,q,sl,acc++[],by omega,by omega,by go_num,by go_num,rfl,rfl,Hnx.out [] (by rw [if_pos Hp.out]),by rw [List.append_nil];exact hown,hb⟩
     case measure=>simp [intOf]<;>omega
    ·have hpe:(strB p).toList.isEmpty=false:=by rw [Lib.toList_data,strB_data,List.isEmpty_eq_false_iff];exact hp
     have Hp:=zH hp
     clear hp
     go_wp2_with (first | (go_at_call 141;refine cM.mono ?_;rintro e w' ⟨rfl,rfl⟩) | (at_builtin;refine wpList_append_own _ rfl _ _ 81 rfl w.heap.size 9 i0 (.string ⟨#[]⟩) 1 16 Tryz.underlying81 hi hz0 hz1 hz2 rfl (by decide) _ _ _ rfl (hown.alloc _) ⟨_,0,none⟩ 1 1 [.string (strB p)] rfl rfl (cell_one_new _ _ _) (by intro u hu;simp at hu;subst hu;rfl) (by unfold maxLen;omega) (by omega) (by have:=hb.size;simp;omega) ?_;intro v' w1 hown' hgrow _))
     go_roundw
     case rel =>
      refine⟨s.size+1,s.size+1,q,sl,acc++[p],by omega,by omega,by go_num,by go_num,rfl,rfl,Hnx.out [p] (by rw [if_neg Hp.out]),?_,(hb.alloc hb.size _).grown hgrow (by have:=hb.size;simp;omega) (fun k e=>(World.ownsRow.lt hown k e).1)⟩
      rw [List.length_append,List.map_append]
      exact hown'
     case measure=>simp [intOf]<;>omega
   ·obtain rfl:k=s.size+1:=by omega
    have Hfin:Hid (splitL s.data.toList=acc):=zH (by
     rw [hI.split,hI.last (by rw [← Hsz.out]),List.drop_of_length_le (by omega),splitL_nil,List.append_nil])
    go_wp2
    go_ret
    refine⟨_,rfl,?_,hb⟩
    rw [Hfin.out]
    exact hown
end Go.Proofs.YtfaedmbfabfmeaaGreatDoor
