/- The contract of the document's own Read (sculleryref02), walked. -/
import Derived.Test.YtfaedmbfabfmeaaGreatDoorYMBarG
set_option linter.unusedSimpArgs false
set_option maxRecDepth 100000
set_option maxHeartbeats 1000000
namespace Go.Proofs.YtfaedmbfabfmeaaGreatDoor
open Go.RowKit
abbrev twoBare (w:World):World:=(w.alloc zeroBare).alloc zeroBare
theorem below_two (w:World):Below w.heap.size w (twoBare w):=((Below.refl _ _).alloc (zR _) _).alloc (by simp) _
theorem fread_on (s:ByteArray) (w:World) (h0:0<s.size) (hs:s.size≤100000) (hw:(((s[0]'h0).toNat:Int)==45||digI (s[0]'h0).toNat)=true∨((((s[0]'h0).toNat:Int)==45||digI (s[0]'h0).toNat)=false∧(((s[0]'h0).toNat:Int)==34)=true)) :
  Calls Tryz.prog 232 #[.string s] w (gotPost (gotV (readL s.data.toList)) w):=by
 have hemp:s.toList.isEmpty=false:=by rw [Lib.toList_data];exact isEmpty_false_of s h0
 have hr:=readL_at s h0
 have cD:=fun W=>fdigit_any ((s[0]'h0).toNat:Int) W
 have cM:=fun W=>freadNumber_any s W h0 hs
 have cS:=fun W=>freadString_any s W h0 hs
 have hb0:=below_two w
 rcases hw with h | ⟨h,h34⟩
 ·rw [h]at hr
  simp only [ite_true]at hr
  rw [hr]
  obtain⟨a,b,t,m,x,hv⟩:=gotV_is (readNumL s.data.toList)
  rw [hv]at cM ⊢
  clear hr hv cS
  cases g1:(((s[0]'h0).toNat:Int)==45)
  ·have g2:digI ((s[0]'h0).toNat:Int)=true:=by rw [g1]at h;exact h
   rw [g2]at cD
   clear h g2
   go_enter Tryz.func232,Tryz.ntmps232
   go_wp2_with fail
   refine(cD _).mono ?_
   rintro e w1 ⟨rfl,rfl⟩
   go_wp2_with fail
   refine(cM _).mono ?_
   rintro e w2 ⟨rfl,hb2⟩
   obtain⟨⟨p0,p1,p2⟩,f0,f1,f2⟩:=no_cells3 w zeroBare w2 hb2
   have hb3:=hb0.trans (hb2.mono hb0.size)
   clear hb2
   go_wp2
   exact bodyPost_ret (v:=.tuple #[.agg #[.int .i64 a,.int .i64 b,.string t],.int .i64 m,.int .i64 x]) (by simp [results,Tryz.results232,go_sem,p0,p1,p2]) rfl ⟨rfl,((hb3.setCell (by simp) _).setCell (by simp) _).setCell (by simp) _⟩
  ·clear h cD
   go_enter Tryz.func232,Tryz.ntmps232
   go_wp2_with fail
   refine(cM _).mono ?_
   rintro e w2 ⟨rfl,hb2⟩
   obtain⟨⟨p0,p1,p2⟩,f0,f1,f2⟩:=no_cells3 w zeroBare w2 hb2
   have hb3:=hb0.trans (hb2.mono hb0.size)
   clear hb2
   go_wp2
   exact bodyPost_ret (v:=.tuple #[.agg #[.int .i64 a,.int .i64 b,.string t],.int .i64 m,.int .i64 x]) (by simp [results,Tryz.results232,go_sem,p0,p1,p2]) rfl ⟨rfl,((hb3.setCell (by simp) _).setCell (by simp) _).setCell (by simp) _⟩
 ·rw [h,h34]at hr
  simp only [ite_true,Bool.false_eq_true,if_false]at hr
  rw [hr]
  obtain⟨a,b,t,m,x,hv⟩:=gotV_is (readStrL s.data.toList)
  rw [hv]at cS ⊢
  rw [Bool.or_eq_false_iff]at h
  obtain⟨g1,g2⟩:=h
  rw [g2]at cD
  clear hr hv cM g2
  go_enter Tryz.func232,Tryz.ntmps232
  go_wp2_with fail
  refine(cD _).mono ?_
  rintro e w1 ⟨rfl,rfl⟩
  go_wp2_with fail
  refine(cS _).mono ?_
  rintro e w2 ⟨rfl,hb2⟩
  obtain⟨⟨p0,p1,p2⟩,f0,f1,f2⟩:=no_cells3 w zeroBare w2 hb2
  have hb3:=hb0.trans (hb2.mono hb0.size)
  clear hb2
  go_wp2
  exact bodyPost_ret (v:=.tuple #[.agg #[.int .i64 a,.int .i64 b,.string t],.int .i64 m,.int .i64 x]) (by simp [results,Tryz.results232,go_sem,p0,p1,p2]) rfl ⟨rfl,((hb3.setCell (by simp) _).setCell (by simp) _).setCell (by simp) _⟩
theorem fread_tok (s:ByteArray) (w:World) (h0:0<s.size) (hs:s.size≤100000) (g1:(((s[0]'h0).toNat:Int)==45)=false) (g2:digI (s[0]'h0).toNat=false) (g3:(((s[0]'h0).toNat:Int)==34)=false) (g4:btI (s[0]'h0).toNat=true) :
  Calls Tryz.prog 232 #[.string s] w (gotPost (gotV (readL s.data.toList)) w):=by
 have hemp:s.toList.isEmpty=false:=by rw [Lib.toList_data];exact isEmpty_false_of s h0
 have hr:=readL_at s h0
 rw [g1,g2,g3,g4]at hr
 simp only [Bool.or_false,ite_true,Bool.false_eq_true,if_false]at hr
 have Hr:=zH hr
 have Hbt:=zH g4
 have cD:=fun W=>fdigit_any ((s[0]'h0).toNat:Int) W
 have cA:=fun W=>falpha_any ((s[0]'h0).toNat:Int) W
 rw [g2]at cD
 rw [btI_is]at g4
 clear hr g2
 cases g5:ltrI ((s[0]'h0).toNat:Int)<;>cases g6:(((s[0]'h0).toNat:Int)==42)
 ·rw [g5,g6]at g4;cases g4
 all_goals
  rw [g5]at cA
  clear g4 g5
  go_enter Tryz.func232,Tryz.ntmps232
  go_wp2_with fail
  refine(cD _).mono ?_
  rintro e w1 ⟨rfl,rfl⟩
  go_wp2_with fail
  refine(cA _).mono ?_
  rintro e w1 ⟨rfl,rfl⟩
  go_wp2_with fail
  clear cA cD
  go_loop [7] (fun i=>∃k:Nat,1≤k∧k≤s.size∧i=.int .i64 k∧Hid (∀j (hj:j<s.size),1≤j→j<k→ttI (s[j]'hj).toNat=true)) (fun i=>s.size-(intOf i).toNat)
  case atStart=>exact⟨1,by omega,by omega,rfl,zH (fun j _ h1 h2=>by omega)⟩
  case round =>
   obtain⟨k,hk1,hk,rfl,H⟩:=hrel
   by_cases hlt:k<s.size
   ·have cT:=fun W=>ftoken_any (s[k]'hlt) W
    cases hd:ttI ((s[k]'hlt).toNat:Int)
    ·have Ht:Hid (gotV (readL s.data.toList)=.tuple #[.agg #[.int .i64 4,.int .i64 0,.string (s.extract 0 k)],.int .i64 (k:Int),.int .i64 0]):=zH (by
      rw [Hr.out,tlen_scan s k h0 Hbt.out hk1 hk H.out (fun _=>hd),gotV,← extract_take,strB_of])
     rw [hd]at cT
     clear hd H
     go_wp2_with fail
     refine(cT _).mono ?_
     rintro e w1 ⟨rfl,rfl⟩
     go_wp2
     exact bodyPost_ret (v:=.tuple #[.agg #[.int .i64 4,.int .i64 0,.string (s.extract 0 k)],.int .i64 (k:Int),.int .i64 0]) (by simp [results,Tryz.results232,go_sem]) rfl ⟨by rw [Ht.out],((Below.refl _ _).alloc (zR _) _).alloc (by simp) _⟩
    ·have Hn:Hid (∀j (hj:j<s.size),1≤j→j<k+1→ttI (s[j]'hj).toNat=true):=zH (fun j hj h1 h2=>by
      by_cases e:j=k
      ·subst e;exact hd
      ·exact H.out j hj h1 (by omega))
     rw [hd]at cT
     clear hd
     go_wp2_with fail
     refine(cT _).mono ?_
     rintro e w1 ⟨rfl,rfl⟩
     go_wp2_with fail
     go_round
     case rel=>exact⟨k+1,by omega,by omega,by go_num,zH Hn.out⟩
     case measure=>simp [intOf];omega
   ·have Ht:Hid (gotV (readL s.data.toList)=.tuple #[.agg #[.int .i64 4,.int .i64 0,.string (s.extract 0 k)],.int .i64 (k:Int),.int .i64 0]):=zH (by
     rw [Hr.out,tlen_scan s k h0 Hbt.out hk1 hk H.out (fun h=>absurd h hlt),gotV,← extract_take,strB_of])
    clear H
    go_wp2
    exact bodyPost_ret (v:=.tuple #[.agg #[.int .i64 4,.int .i64 0,.string (s.extract 0 k)],.int .i64 (k:Int),.int .i64 0]) (by simp [results,Tryz.results232,go_sem]) rfl ⟨by rw [Ht.out],((Below.refl _ _).alloc (zR _) _).alloc (by simp) _⟩
theorem fread_bytes (s:ByteArray) (w:World) (h0:0<s.size) (hs:s.size≤100000) (g1:(((s[0]'h0).toNat:Int)==45)=false) (g2:digI (s[0]'h0).toNat=false) (g3:(((s[0]'h0).toNat:Int)==34)=false) (g4:ltrI (s[0]'h0).toNat=false) (g5:(((s[0]'h0).toNat:Int)==42)=false) (g6:(((s[0]'h0).toNat:Int)==58)=true) (g7:(((s[0]'h0).toNat:Int)==63)=false) :
  Calls Tryz.prog 232 #[.string s] w (gotPost (gotV (readL s.data.toList)) w):=by
 have hemp:s.toList.isEmpty=false:=by rw [Lib.toList_data];exact isEmpty_false_of s h0
 have hr:=readL_at s h0
 rw [g1,g2,g3,btI_is,g4,g5,g6]at hr
 simp only [Bool.or_false,ite_true,Bool.false_eq_true,if_false]at hr
 have Hr:=zH hr
 have cD:=fun W=>fdigit_any ((s[0]'h0).toNat:Int) W
 have cA:=fun W=>falpha_any ((s[0]'h0).toNat:Int) W
 rw [g2]at cD
 rw [g4]at cA
 have Hb0:=zH (below_two w)
 clear hr g2 g4
 go_enter Tryz.func232,Tryz.ntmps232
 go_wp2_with fail
 refine(cD _).mono ?_
 rintro e w1 ⟨rfl,rfl⟩
 go_wp2_with fail
 refine(cA _).mono ?_
 rintro e w1 ⟨rfl,rfl⟩
 go_wp2_with fail
 clear cA cD
 go_loop [8] (fun i=>∃k:Nat,1≤k∧k≤s.size∧i=.int .i64 k∧Hid (∀j,1≤j→j<k→s.data.toList[j]?≠some 58)) (fun i=>s.size-(intOf i).toNat)
 case atStart=>exact⟨1,by omega,by omega,rfl,zH (fun j h1 h2=>by omega)⟩
 case round =>
  obtain⟨k,hk1,hk,rfl,H⟩:=hrel
  by_cases hlt:k<s.size
  ·have hat:s.data.toList[k]? = some (s[k]'hlt):=List.getElem?_eq_getElem (by rw [← Lib.size_eq];exact hlt)
   have B:=byte_beq (s[k]'hlt) 58
   rw [show((58:UInt8).toNat:Int)=58 from rfl]at B
   cases hd:(((s[k]'hlt).toNat:Int)==58)
   ·have Hn:Hid (∀j,1≤j→j<k+1→s.data.toList[j]?≠some 58):=zH (fun j h1 h2=>by
     by_cases e:j=k
     ·subst e
      rw [hat]
      intro e2
      rw [hd]at B
      rw [Option.some.inj e2]at B
      exact absurd B (by decide)
     ·exact H.out j h1 (by omega))
    clear hat B
    go_wp2_with fail
    go_round
    case rel=>exact⟨k+1,by omega,by omega,by go_num,zH Hn.out⟩
    case measure=>simp [intOf];omega
   ·have e58:s.data.toList[k]? = some 58:=by
     rw [hat]
     rw [hd]at B
     have:s[k]=58:=by simpa using B.symm
     rw [this]
    have hi:=indexByte_drop s.data.toList k hk1 H.out e58
    have hxd:(s.extract 1 k).data.toList=(s.data.toList.drop 1).take (k-1):=Lib.extract_data s 1 k
    have cY:=fun W=>fdecode_any (s.extract 1 k) W (by rw [Lib.size_eq,hxd,List.length_take,List.length_drop,← Lib.size_eq];omega)
    rw [hxd]at cY
    cases hdd:decL ((s.data.toList.drop 1).take (k-1))with
    | none =>
     have HR:Hid (readL s.data.toList=none):=zH (by rw [Hr.out,readBytesL,hi,if_neg (by omega),Int.toNat_natCast,hdd])
     rw [hdd,decV]at cY
     clear hat B e58 hi hxd hdd H
     go_wp2_with fail
     refine(cY _).mono ?_
     rintro e w2 ⟨rfl,hb2⟩
     obtain⟨⟨p0,p1,p2⟩,f0,f1,f2⟩:=no_cells3 w zeroBare w2 hb2
     obtain⟨r0,r1,r2⟩:=none_cells w w2 hb2
     have hb3:=Hb0.out.trans (hb2.mono Hb0.out.size)
     clear hb2
     go_wp2
     exact bodyPost_ret (v:=gotV none) (by simp [results,Tryz.results232,go_sem,gotV,p0,p1,p2]) rfl ⟨by rw [HR.out],((hb3.setCell (by simp) _).setCell (by simp) _).setCell (by simp) _⟩
    | some b =>
     have HR:Hid (readL s.data.toList=some ⟨5,0,b,k+1⟩):=zH (by
      rw [Hr.out,readBytesL,hi,if_neg (by omega),Int.toNat_natCast,hdd]
      simp only [Option.some.injEq,Got.mk.injEq,true_and]
      omega)
     rw [hdd,decV]at cY
     clear hat B e58 hi hxd hdd H
     go_wp2_with fail
     refine(cY _).mono ?_
     rintro e w2 ⟨rfl,hb2⟩
     obtain⟨⟨p0,p1,p2⟩,f0,f1,f2⟩:=no_cells3 w zeroBare w2 hb2
     have hb3:=Hb0.out.trans (hb2.mono Hb0.out.size)
     clear hb2
     go_wp2
     exact bodyPost_ret (v:=gotV (some ⟨5,0,b,k+1⟩)) (by simp [results,Tryz.results232,go_sem,gotV,p0,p1,p2]) rfl ⟨by rw [HR.out],((hb3.setCell (by simp) _).setCell (by simp) _).setCell (by simp) _⟩
  ·have HR:Hid (readL s.data.toList=none):=zH (by rw [Hr.out,readBytesL,indexByte_no _ (fun j h1 h2=>H.out j h1 (by rw [← Lib.size_eq]at h2;omega)),if_pos rfl])
   clear H
   go_wp2
   exact bodyPost_ret (v:=gotV none) (by simp [results,Tryz.results232,go_sem,gotV]) rfl ⟨by rw [HR.out],Hb0.out⟩
theorem fread_last (s:ByteArray) (w:World) (h0:0<s.size) (hs:s.size≤100000) (g1:(((s[0]'h0).toNat:Int)==45)=false) (g2:digI (s[0]'h0).toNat=false) (g3:(((s[0]'h0).toNat:Int)==34)=false) (g4:ltrI (s[0]'h0).toNat=false) (g5:(((s[0]'h0).toNat:Int)==42)=false) (g6:(((s[0]'h0).toNat:Int)==58)=false) :
  Calls Tryz.prog 232 #[.string s] w (gotPost (gotV (readL s.data.toList)) w):=by
 have hemp:s.toList.isEmpty=false:=by rw [Lib.toList_data];exact isEmpty_false_of s h0
 have hr:=readL_at s h0
 rw [g1,g2,g3,btI_is,g4,g5,g6]at hr
 simp only [Bool.or_false,Bool.false_eq_true,if_false]at hr
 have cD:=fun W=>fdigit_any ((s[0]'h0).toNat:Int) W
 have cA:=fun W=>falpha_any ((s[0]'h0).toNat:Int) W
 rw [g2]at cD
 rw [g4]at cA
 have Hb0:=zH (below_two w)
 clear g2 g4
 cases g7:(((s[0]'h0).toNat:Int)==63)
 ·rw [g7]at hr
  simp only [Bool.false_eq_true,if_false]at hr
  rw [hr]
  clear hr
  go_enter Tryz.func232,Tryz.ntmps232
  go_wp2_with fail
  refine(cD _).mono ?_
  rintro e w1 ⟨rfl,rfl⟩
  go_wp2_with fail
  refine(cA _).mono ?_
  rintro e w1 ⟨rfl,rfl⟩
  go_wp2
  exact bodyPost_ret (v:=gotV none) (by simp [results,Tryz.results232,go_sem,gotV]) rfl ⟨rfl,Hb0.out⟩
 ·rw [g7]at hr
  simp only [if_true]at hr
  rw [hr]
  clear hr
  by_cases h2:1<s.size
  ·have e0:=drop_cons_at s 0 h0
   have e1:=drop_cons_at s 1 h2
   rw [List.drop_zero]at e0
   have b0:(((s[1]'h2).toNat:Int)==48)=(s[1]'h2==48):=byte_beq _ 48
   have b1:(((s[1]'h2).toNat:Int)==49)=(s[1]'h2==49):=byte_beq _ 49
   rw [e0,e1,readBoolL,← b0,← b1]
   clear e0 e1 b0 b1
   cases k0:(((s[1]'h2).toNat:Int)==48)<;>cases k1:(((s[1]'h2).toNat:Int)==49)
   ·show Calls _ _ _ _ (gotPost (gotV none) w)
    go_enter Tryz.func232,Tryz.ntmps232
    go_wp2_with fail
    refine(cD _).mono ?_
    rintro e w1 ⟨rfl,rfl⟩
    go_wp2_with fail
    refine(cA _).mono ?_
    rintro e w1 ⟨rfl,rfl⟩
    go_wp2
    exact bodyPost_ret (v:=gotV none) (by simp [results,Tryz.results232,go_sem,gotV]) rfl ⟨rfl,Hb0.out⟩
   all_goals
    show Calls _ _ _ _ (gotPost (gotV (some ⟨6,((s[1]'h2).toNat:Int)-48,[],2⟩)) w)
    have hbd:((s[1]'h2).toNat:Int)≤255:=by have:=(s[1]'h2).toNat_lt;omega
    go_enter Tryz.func232,Tryz.ntmps232
    go_wp2_with fail
    refine(cD _).mono ?_
    rintro e w1 ⟨rfl,rfl⟩
    go_wp2_with fail
    refine(cA _).mono ?_
    rintro e w1 ⟨rfl,rfl⟩
    go_wp2
    exact bodyPost_ret (v:=gotV (some ⟨6,((s[1]'h2).toNat:Int)-48,[],2⟩)) (by simp [results,Tryz.results232,go_sem,gotV,strB]) rfl ⟨rfl,((Below.refl _ _).alloc (zR _) _).alloc (by simp) _⟩
  ·have hn:readBoolL s.data.toList=none:=by
    have hl:s.data.toList.length<2:=by rw [← Lib.size_eq];omega
    match hq:s.data.toList,hl with
    | [],_=>rfl
    | [_],_=>rfl
   rw [hn]
   clear hn
   go_enter Tryz.func232,Tryz.ntmps232
   go_wp2_with fail
   refine(cD _).mono ?_
   rintro e w1 ⟨rfl,rfl⟩
   go_wp2_with fail
   refine(cA _).mono ?_
   rintro e w1 ⟨rfl,rfl⟩
   go_wp2
   exact bodyPost_ret (v:=gotV none) (by simp [results,Tryz.results232,go_sem,gotV]) rfl ⟨rfl,Hb0.out⟩
theorem fread_any (s:ByteArray) (w:World) (hs:s.size≤100000) :
  Calls Tryz.prog 232 #[.string s] w (gotPost (gotV (readL s.data.toList)) w):=by
 by_cases h0:0<s.size
 ·cases h1:(((s[0]'h0).toNat:Int)==45||digI (s[0]'h0).toNat)
  ·cases h2:(((s[0]'h0).toNat:Int)==34)
   ·have h3:=h1
    rw [Bool.or_eq_false_iff]at h3
    cases h4:btI ((s[0]'h0).toNat:Int)
    ·rw [btI_is,Bool.or_eq_false_iff]at h4
     cases h5:(((s[0]'h0).toNat:Int)==58)
     ·exact fread_last s w h0 hs h3.1 h3.2 h2 h4.1 h4.2 h5
     ·exact fread_bytes s w h0 hs h3.1 h3.2 h2 h4.1 h4.2 h5 (by simp only [beq_iff_eq]at h5;rw [h5];rfl)
    ·exact fread_tok s w h0 hs h3.1 h3.2 h2 h4
   ·exact fread_on s w h0 hs (.inr ⟨h1,h2⟩)
  ·exact fread_on s w h0 hs (.inl h1)
 ·have he:s.data.toList=[]:=List.eq_nil_of_length_eq_zero (by rw [← Lib.size_eq];omega)
  have hemp:s.toList.isEmpty=true:=by rw [Lib.toList_data,he];rfl
  rw [he]
  show Calls _ _ _ _ (gotPost (gotV none) w)
  clear he
  go_enter Tryz.func232,Tryz.ntmps232
  go_wp2
  exact bodyPost_ret (v:=gotV none) (by simp [results,Tryz.results232,go_sem,gotV]) rfl ⟨rfl,((Below.refl _ _).alloc (zR _) _).alloc (by simp) _⟩
end Go.Proofs.YtfaedmbfabfmeaaGreatDoor
