/- Plain: what the document's own reader of dates reads at places, and that it reads the same dates. · The contracts of the document's own day and names (sculleryref05). · The contracts of clockText and Print of package date. · The contracts of the document's own digits and which (sculleryref05). -/
import Derived.Test.YtfaedmbfabfmeaaGreatDoorYMBasP
import Derived.Test.YtfaedmbfabfmeaaGreatDoorYMBarA
import Derived.Deep.RegionWith
set_option linter.unusedSimpArgs false
set_option maxRecDepth 100000
set_option maxHeartbeats 4000000
namespace Go.Proofs.YtfaedmbfabfmeaaGreatDoor
def dgV (l:List UInt8) (i k:Nat):Int:=if decide (i+k≤l.length)&&((l.drop i).take k).all dgt then(valL_DatP ((l.drop i).take k):Nat)else -1
def whG (p:List UInt8):Nat→Nat→Nat
 | _,0=>0
 | a,k+1=>if p=moT a then a else whG p (a+1) k
def whV (l:List UInt8) (i:Nat):Nat:=whG ((l.drop i).take 3) 1 12
def tdV (l:List UInt8) (i:Nat):Bool:=decide (0≤dgV l i 2∧dgV l i 2≤23∧0≤dgV l (i+3) 2∧dgV l (i+3) 2≤59∧0≤dgV l (i+6) 2∧dgV l (i+6) 2≤59)
def guV (l:List UInt8) (Y:Int) (mon:Nat) (D:Int) (ck:Nat):Option Nat:=
 if 0≤D∧dayI Y (whV l mon) D=true∧tdV l ck=true then
  some (86400*daysN Y.toNat (whV l mon) D.toNat+(3600*(dgV l ck 2).toNat+60*(dgV l (ck+3) 2).toNat+(dgV l (ck+6) 2).toNat))
 else none
theorem take_drop_at {A B C l:List UInt8} {i k:Nat} (hl:l=A++(B++C)) (hi:A.length=i) (hk:B.length=k):(l.drop i).take k=B∧i+k≤l.length:=by
 subst hl hi hk
 rw [List.drop_left,List.take_left]
 exact⟨rfl,by simp⟩
theorem dg_at {A C l:List UInt8} {i k n:Nat} (hl:l=A++(padL k n++C)) (hi:A.length=i) (hn:n<10 ^ k):dgV l i k=(n:Int):=by
 obtain⟨e,h⟩:=take_drop_at hl hi (padL_length k n)
 unfold dgV
 rw [e,padL_all,valL_padL k n hn,if_pos (by simpa using h)]
theorem dg_range (l:List UInt8) (i k:Nat):-1≤dgV l i k∧dgV l i k<10 ^ k:=by
 unfold dgV
 have h1:(0:Int)<10 ^ k:=Int.pow_pos (by omega)
 split
 ·rename_i h
  simp only [Bool.and_eq_true,decide_eq_true_eq]at h
  have:=(padL_valL k ((l.drop i).take k) (by rw [List.length_take,List.length_drop];omega) h.2).2
  have h2:((valL_DatP ((l.drop i).take k):Nat):Int)<((10 ^ k:Nat):Int):=by exact_mod_cast this
  rw [Int.natCast_pow]at h2
  exact⟨by omega,h2⟩
 ·exact⟨by omega,by omega⟩
theorem wh_names:∀j:Fin 13,1≤j.val→whG (moT j.val) 1 12=j.val:=by decide +kernel
theorem wh_at {A C l:List UInt8} {i m:Nat} (hl:l=A++(moT m++C)) (hi:A.length=i) (h1:1≤m) (h2:m<13):whV l i=m:=by
 obtain⟨e,_⟩:=take_drop_at hl hi (len_mo m h1 h2)
 unfold whV
 rw [e]
 exact wh_names ⟨m,h2⟩ h1
theorem ck_at {A C l:List UInt8} {i c:Nat} (hl:l=A++(ckT c++C)) (hi:A.length=i) (hc:c<86400):dgV l i 2=(c / 3600:Nat)∧dgV l (i+3) 2=(c % 3600 / 60:Nat)∧dgV l (i+6) 2=(c % 60:Nat):=by
 refine⟨dg_at (A:=A) (C:=[58]++(padL 2 (c % 3600 / 60)++([58]++padL 2 (c % 60)))++C) ?_ hi (by omega),dg_at (A:=A++(padL 2 (c / 3600)++[58])) (C:=[58]++padL 2 (c % 60)++C) ?_ (by simp [padL_length,hi]) (by omega),dg_at (A:=A++(padL 2 (c / 3600)++([58]++(padL 2 (c % 3600 / 60)++[58])))) (C:=C) ?_ (by simp [padL_length,hi]) (by omega)⟩
 all_goals (rw [hl];simp [ckT])
theorem gu_eval {l:List UInt8} {Y D:Int} {mon ck y m d c:Nat} (hY:Y=y) (hD:D=d) (hm:whV l mon=m) (hc:dgV l ck 2=(c / 3600:Nat)∧dgV l (ck+3) 2=(c % 3600 / 60:Nat)∧dgV l (ck+6) 2=(c % 60:Nat)) (hk:DayOk y m d) (hc2:c<86400) :
  guV l Y mon D ck=some (86400*daysN y m d+c):=by
 obtain⟨h1,h2,h3⟩:=hc
 subst hY hD hm
 unfold guV tdV
 rw [h1,h2,h3,dayI_nat,if_pos ⟨by omega,by simpa using hk,decide_eq_true ⟨by omega,by omega,by omega,by omega,by omega,by omega⟩⟩]
 simp only [Int.toNat_natCast,Option.some.injEq]
 omega
theorem gu_some {l:List UInt8} {Y D:Int} {mon ck n:Nat} (h:guV l Y mon D ck=some n):∃y m d c,DayOk y m d∧c<86400∧n=86400*daysN y m d+c:=by
 unfold guV at h
 split at h
 ·rename_i h2
  obtain⟨h2,h3,h4⟩:=h2
  unfold dayI at h3
  have h3:=of_decide_eq_true h3
  unfold tdV at h4
  have h4:=of_decide_eq_true h4
  obtain⟨_,_,_,hk⟩:=h3
  rw [Int.toNat_natCast]at hk
  exact⟨_,_,_,_,hk,by omega,(Option.some.inj h).symm⟩
 ·cases h
noncomputable def momN (n:Nat):Mom:=
 if h:n<253402300800 then
  ⟨(secs_of n h).choose,(secs_of n h).choose_spec.choose,(secs_of n h).choose_spec.choose_spec.choose,(secs_of n h).choose_spec.choose_spec.choose_spec.choose⟩
 else⟨1970,1,1,0⟩
theorem mom_spec {n:Nat} (h:n<253402300800):DayOk (momN n).y (momN n).m (momN n).d∧(momN n).c<86400∧n=86400*daysN (momN n).y (momN n).m (momN n).d+(momN n).c:=by
 unfold momN
 rw [dif_pos h]
 exact(secs_of n h).choose_spec.choose_spec.choose_spec.choose_spec
theorem secs_lt {y m d c:Nat} (hk:DayOk y m d) (hc:c<86400):86400*daysN y m d+c<253402300800:=by
 have:=days_bound hk
 omega
theorem mom_eq {y m d c:Nat} (hk:DayOk y m d) (hc:c<86400):momN (86400*daysN y m d+c)=⟨y,m,d,c⟩:=by
 obtain⟨h1,h2,h3⟩:=mom_spec (secs_lt hk hc)
 generalize momN (86400*daysN y m d+c)=M at *
 obtain⟨y',m',d',c'⟩:=M
 obtain⟨rfl,rfl,rfl,rfl⟩:=secs_inj hk h1 hc h2 h3
 rfl
noncomputable def fm0 (n:Nat):List UInt8:=tx0 (momN n).y (momN n).m (momN n).d (momN n).c
noncomputable def fm1 (n:Nat):List UInt8:=if 2069<(momN n).y then []else tx1 (momN n).y (momN n).m (momN n).d (momN n).c
noncomputable def fm2 (n:Nat):List UInt8:=tx2 (momN n).y (momN n).m (momN n).d (momN n).c
theorem gu_lt {l:List UInt8} {Y D:Int} {mon ck n:Nat} (h:guV l Y mon D ck=some n):n<253402300800:=by
 obtain⟨y,m,d,c,hk,hc,rfl⟩:=gu_some h
 exact secs_lt hk hc
noncomputable def gu0 (l:List UInt8):Option Nat:=guV l (dgV l 12 4) 8 (dgV l 5 2) 17
theorem hit0 (l:List UInt8) (n:Nat):gu0 l=some n∧fm0 n=l↔scL wsT p0L l=some n:=by
 rw [sc0_iff]
 constructor
 ·rintro⟨hg,hf⟩
  obtain⟨hk,hc,hn⟩:=mom_spec (gu_lt hg)
  exact⟨_,_,_,_,hk,Nat.zero_le _,by have:=hk.y2;omega,hc,hf.symm.trans (tx0_re _ _ _ _),hn⟩
 ·rintro⟨y,m,d,c,hk,_,_,hc,hl,rfl⟩
  have hw:=len_ws (wdN (daysN y m d)) (by unfold wdN;omega)
  have hm:=len_mo m hk.m1 (by have:=hk.m2;omega)
  refine⟨?_,?_⟩
  ·generalize wsT (wdN (daysN y m d))=W at *
   have e5:l=(W++[44,32])++(padL 2 d++([32]++(moT m++([32]++(padL 4 y++([32]++(ckT c++[32,71,77,84]))))))):=by rw [hl];simp [re0]
   have e8:l=(W++[44,32]++(padL 2 d++[32]))++(moT m++([32]++(padL 4 y++([32]++(ckT c++[32,71,77,84]))))):=by rw [hl];simp [re0]
   have e12:l=(W++[44,32]++(padL 2 d++[32])++(moT m++[32]))++(padL 4 y++([32]++(ckT c++[32,71,77,84]))):=by rw [hl];simp [re0]
   have e17:l=(W++[44,32]++(padL 2 d++[32])++(moT m++[32])++(padL 4 y++[32]))++(ckT c++[32,71,77,84]):=by rw [hl];simp [re0]
   exact gu_eval (dg_at e12 (by simp [padL_length,hw,hm]) (by have:=hk.y2;omega)) (dg_at e5 (by simp [hw]) (by have:=ml_bounds hk.y1 hk.m1 hk.m2;have:=hk.d2;omega)) (wh_at e8 (by simp [padL_length,hw]) hk.m1 (by have:=hk.m2;omega)) (ck_at e17 (by simp [padL_length,hw,hm]) hc) hk hc
  ·unfold fm0
   rw [mom_eq hk hc]
   exact hl.symm
def ys1 (Y:Int):Int:=if 70≤Y then Y+1900 else Y+2000
noncomputable def gu1 (l:List UInt8) (i:Nat):Option Nat:=guV l (ys1 (dgV l (i+9) 2)) (i+5) (dgV l (i+2) 2) (i+12)
theorem hit1 (l:List UInt8) (i n:Nat) (hg:gu1 l i=some n) (hf:fm1 n=l) (hi:i<l.length):scL wkT p1L l=some n:=by
 rw [sc1_iff]
 obtain⟨hk,hc,hn⟩:=mom_spec (gu_lt hg)
 unfold fm1 at hf
 split at hf
 ·rw [← hf]at hi
  cases hi
 ·rename_i h
  exact⟨_,_,_,_,hk,hk.y1,by omega,hc,hf.symm.trans (tx1_re _ _ _ _),hn⟩
theorem wk_comma:∀j:Fin 7,(wkT j.val).length<12∧¬(44:UInt8)∈wkT j.val:=by decide
theorem hit1_of {l:List UInt8} {n:Nat} (h:scL wkT p1L l=some n):∃i,i<12∧l[i]? = some 44∧(∀j,j<i→l[j]?≠some 44)∧gu1 l i=some n∧fm1 n=l:=by
 rw [sc1_iff]at h
 obtain⟨y,m,d,c,hk,h1,h2,hc,hl,rfl⟩:=h
 obtain⟨hw,hn⟩:=wk_comma ⟨wdN (daysN y m d),by unfold wdN;omega⟩
 have hm:=len_mo m hk.m1 (by have:=hk.m2;omega)
 dsimp only at hw hn
 refine⟨(wkT (wdN (daysN y m d))).length,hw,?_,?_,?_,?_⟩
 ·rw [hl,List.getElem?_append_right (zR _)]
  simp [re1]
 ·intro j hj e
  rw [hl,List.getElem?_append_left hj]at e
  exact hn (List.mem_of_getElem? e)
 ·generalize wkT (wdN (daysN y m d))=W at *
  have e5:l=(W++[44,32])++(padL 2 d++([45]++(moT m++([45]++(padL 2 (y % 100)++([32]++(ckT c++[32,71,77,84]))))))):=by rw [hl];simp [re1]
  have e8:l=(W++[44,32]++(padL 2 d++[45]))++(moT m++([45]++(padL 2 (y % 100)++([32]++(ckT c++[32,71,77,84]))))):=by rw [hl];simp [re1]
  have e12:l=(W++[44,32]++(padL 2 d++[45])++(moT m++[45]))++(padL 2 (y % 100)++([32]++(ckT c++[32,71,77,84]))):=by rw [hl];simp [re1]
  have e17:l=(W++[44,32]++(padL 2 d++[45])++(moT m++[45])++(padL 2 (y % 100)++[32]))++(ckT c++[32,71,77,84]):=by rw [hl];simp [re1]
  have hy:=dg_at e12 (i:=W.length+9) (by simp [padL_length,hm]) (by omega)
  exact gu_eval (by rw [hy];unfold ys1;split<;>omega) (dg_at e5 (by simp) (by have:=ml_bounds hk.y1 hk.m1 hk.m2;have:=hk.d2;omega)) (wh_at e8 (by simp [padL_length]) hk.m1 (by have:=hk.m2;omega)) (ck_at e17 (by simp [padL_length,hm]) hc) hk hc
 ·unfold fm1
  rw [mom_eq hk hc,if_neg (by dsimp only;omega)]
  exact hl.symm
def ds2 (l:List UInt8):Int:=if dgV l 8 2<0 then dgV l 9 1 else dgV l 8 2
noncomputable def gu2 (l:List UInt8):Option Nat:=guV l (dgV l 20 4) 4 (ds2 l) 11
theorem hit2 (l:List UInt8) (n:Nat):gu2 l=some n∧fm2 n=l↔scL wsT p2L l=some n:=by
 rw [sc2_iff]
 constructor
 ·rintro⟨hg,hf⟩
  obtain⟨hk,hc,hn⟩:=mom_spec (gu_lt hg)
  exact⟨_,_,_,_,hk,Nat.zero_le _,by have:=hk.y2;omega,hc,hf.symm.trans (tx2_re _ _ _ _),hn⟩
 ·rintro⟨y,m,d,c,hk,_,_,hc,hl,rfl⟩
  have hw:=len_ws (wdN (daysN y m d)) (by unfold wdN;omega)
  have hm:=len_mo m hk.m1 (by have:=hk.m2;omega)
  have hs:=len_sp d
  have hd100:d<100:=by have:=ml_bounds hk.y1 hk.m1 hk.m2;have:=hk.d2;omega
  refine⟨?_,?_⟩
  ·generalize wsT (wdN (daysN y m d))=W at *
   have e4:l=(W++[32])++(moT m++([32]++(spT d++([32]++(ckT c++([32]++padL 4 y)))))):=by rw [hl];simp [re2]
   have e8:l=(W++[32]++(moT m++[32]))++(spT d++([32]++(ckT c++([32]++padL 4 y)))):=by rw [hl];simp [re2]
   have e11:l=(W++[32]++(moT m++[32])++(spT d++[32]))++(ckT c++([32]++padL 4 y)):=by rw [hl];simp [re2]
   have e20:l=(W++[32]++(moT m++[32])++(spT d++[32])++(ckT c++[32]))++(padL 4 y++[]):=by rw [hl];simp [re2]
   have hd:ds2 l=(d:Int):=by
    unfold ds2
    by_cases h10:d<10
    ·have e9:l=(W++[32]++(moT m++[32])++[32])++(padL 1 d++([32]++(ckT c++([32]++padL 4 y)))):=by rw [e8];unfold spT;rw [if_pos h10];simp
     have z:dgV l 8 2=-1:=by
      obtain⟨e,_⟩:=take_drop_at e8 (i:=8) (k:=2) (by simp [hw,hm]) hs
      unfold dgV
      rw [e,if_neg]
      unfold spT
      rw [if_pos h10]
      simp [dgt]
     rw [z,if_pos (by omega)]
     exact dg_at e9 (by simp [hw,hm]) (by omega)
    ·have z:dgV l 8 2=(d:Int):=by
      refine dg_at (A:=W++[32]++(moT m++[32])) (C:=[32]++(ckT c++([32]++padL 4 y))) ?_ (by simp [hw,hm]) (by omega)
      rw [e8]
      unfold spT
      rw [if_neg h10]
     rw [z,if_neg (by omega)]
   exact gu_eval (dg_at e20 (by simp [hw,hm,hs,len_ck]) (by have:=hk.y2;omega)) hd (wh_at e4 (by simp [hw]) hk.m1 (by have:=hk.m2;omega)) (ck_at e11 (by simp [hw,hm,hs]) hc) hk hc
  ·unfold fm2
   rw [mom_eq hk hc]
   exact hl.symm
end Go.Proofs.YtfaedmbfabfmeaaGreatDoor
namespace Go.Proofs.YtfaedmbfabfmeaaGreatDoor
open Go.RowKit
theorem rday_any (y m d:Nat) (hk:DayOk y m d) (w:World) :
  Calls Tryz.prog 120 #[.int .i64 (daysN y m d:Nat)] w fun e w'=>e=.returned (.tuple #[.int .i64 y,.int .i64 m,.int .i64 d])∧Below w.heap.size w w':=by
 have hy1:=hk.y1
 have hm1:=hk.m1
 have hm2:=hk.m2
 have hd1:=hk.d1
 have hd2:=hk.d2
 have hy2:=hk.y2
 obtain⟨hl1,hl2⟩:=days_lt hk
 have hb:=days_bound hk
 have hrest:daysN y m d=dbN y+msN y (m-1)+(d-1):=by unfold daysN;omega
 clear hk
 generalize daysN y m d=K at *
 go_enter Tryz.func120,Tryz.ntmps120
 go_wp2_with fail
 go_loop [0,5] (fun x z=>∃k r:Nat,z=.int .i64 k∧1970≤k∧k≤y∧x=.int .i64 r∧r+dbN k=K) (fun _ z=>y-(intOf z).toNat)
 case atStart=>exact⟨1970,K,rfl,by omega,hy1,rfl,by rw [db_first]<;>rfl⟩
 case round =>
  obtain⟨k,r,rfl,hk1,hk2,rfl,hr⟩:=hrel
  have cL:=fun W=>rleap_any k W
  have hs:=db_leapB hk1
  by_cases hlt:k<y
  ·have hmo:=db_mono (y:=k+1) (z:=y) (by omega) hlt
   cases hl:leapB k
   ·rw [hl]at cL hs
    have hs2:dbN (k+1)=dbN k+365:=hs
    have hr3:Hid (r-365+dbN (k+1)=K):=zH (by omega)
    have hr4:¬r<365:=by omega
    have hr5:r≤3000000:=by omega
    clear hs hs2 hmo hr hrest hl2
    go_wp2_with fail
    refine(cL _).mono ?_
    rintro e w1 ⟨rfl,rfl⟩
    go_wp2_with fail
    go_round
    case rel=>exact⟨k+1,r-365,by go_num,by omega,by omega,by go_num,hr3.out⟩
    case measure=>simp [intOf];omega
   ·rw [hl]at cL hs
    have hs2:dbN (k+1)=dbN k+365+1:=hs
    have hr3:Hid (r-366+dbN (k+1)=K):=zH (by omega)
    have hr4:¬r<366:=by omega
    have hr5:r≤3000000:=by omega
    clear hs hs2 hmo hr hrest hl2
    go_wp2_with fail
    refine(cL _).mono ?_
    rintro e w1 ⟨rfl,rfl⟩
    go_wp2_with fail
    go_round
    case rel=>exact⟨k+1,r-366,by go_num,by omega,by omega,by go_num,hr3.out⟩
    case measure=>simp [intOf];omega
  ·obtain rfl:k=y:=by omega
   have hr6:Hid (r=msN k (m-1)+(d-1)):=zH (by omega)
   have hr5:r≤3000000:=by omega
   cases hl:leapB k
   ·rw [hl]at cL hs
    have hs2:dbN (k+1)=dbN k+365:=hs
    have hr4:r<365:=by omega
    have hr7:decide ((r:Int)<365)=true:=by simp;omega
    clear hs hs2 hrest hl2 hl1 hr
    go_wp2_with fail
    refine(cL _).mono ?_
    rintro e w1 ⟨rfl,rfl⟩
    go_wp2_with fail
    go_loopw [0,7] (fun x z wr=>∃i r:Nat,z=.int .i64 i∧1≤i∧i≤m∧x=.int .i64 r∧r+msN k (i-1)=msN k (m-1)+(d-1)∧r≤3000000∧Below w.heap.size w wr) (fun _ z _=>m-(intOf z).toNat)
    case atStart=>exact⟨1,r,rfl,by omega,by omega,rfl,hr6.out,hr5,Below.refl _ _⟩
    case round =>
     clear cL hr6 hr5
     obtain⟨i,r,rfl,hi1,hi2,rfl,hr,hr5,hb1⟩:=hrel
     have cL:=fun W=>rlong_any k i W (by omega) (by omega) (by omega)
     by_cases hlt:i<m
     ·have hs:msN k (i+1-1)=msN k (i-1)+mlN k i:=by
       obtain⟨j,rfl⟩:∃j,i=j+1:=⟨i-1,by omega⟩
       exact ms_step k j
      have hmo:=ms_mono (y:=k) (a:=i+1-1) (b:=m-1) (by omega)
      have hge:mlN k i≤r:=by omega
      have hrr:Hid (r-mlN k i+msN k (i+1-1)=msN k (m-1)+(d-1)):=zH (by omega)
      clear hs hmo hr
      generalize mlN k i=l at *
      go_wp2_with fail
      refine(cL _).mono ?_
      rintro e w2 ⟨rfl,hb2⟩
      have hb12:=hb1.trans (hb2.mono hb1.size)
      clear hb2
      go_wp2_with fail
      refine(cL _).mono ?_
      rintro e w3 ⟨rfl,hb3⟩
      go_wp2_with fail
      go_roundw
      case rel=>exact⟨i+1,r-l,by go_num,by omega,by omega,by go_num,hrr.out,by omega,hb12.trans (hb3.mono hb12.size)⟩
      case measure=>simp [intOf];omega
     ·obtain rfl:i=m:=by omega
      have hrd:r=d-1:=by omega
      subst hrd
      have hnl:¬(mlN k i≤d-1):=by omega
      have hrr:(((d-1:Nat):Int)+1)=(d:Int):=by omega
      clear hr
      generalize mlN k i=l at *
      go_wp2_with fail
      refine(cL _).mono ?_
      rintro e w2 ⟨rfl,hb2⟩
      go_wp2_with fail
      exact bodyPost_ret (v:=.tuple #[.int .i64 k,.int .i64 i,.int .i64 d]) (by simp [results,Tryz.results120,go_sem]) rfl ⟨rfl,hb1.trans (hb2.mono hb1.size)⟩
   ·rw [hl]at cL hs
    have hs2:dbN (k+1)=dbN k+365+1:=hs
    have hr4:r<366:=by omega
    have hr7:decide ((r:Int)<366)=true:=by simp;omega
    clear hs hs2 hrest hl2 hl1 hr
    go_wp2_with fail
    refine(cL _).mono ?_
    rintro e w1 ⟨rfl,rfl⟩
    go_wp2_with fail
    go_loopw [0,7] (fun x z wr=>∃i r:Nat,z=.int .i64 i∧1≤i∧i≤m∧x=.int .i64 r∧r+msN k (i-1)=msN k (m-1)+(d-1)∧r≤3000000∧Below w.heap.size w wr) (fun _ z _=>m-(intOf z).toNat)
    case atStart=>exact⟨1,r,rfl,by omega,by omega,rfl,hr6.out,hr5,Below.refl _ _⟩
    case round =>
     clear cL hr6 hr5
     obtain⟨i,r,rfl,hi1,hi2,rfl,hr,hr5,hb1⟩:=hrel
     have cL:=fun W=>rlong_any k i W (by omega) (by omega) (by omega)
     by_cases hlt:i<m
     ·have hs:msN k (i+1-1)=msN k (i-1)+mlN k i:=by
       obtain⟨j,rfl⟩:∃j,i=j+1:=⟨i-1,by omega⟩
       exact ms_step k j
      have hmo:=ms_mono (y:=k) (a:=i+1-1) (b:=m-1) (by omega)
      have hge:mlN k i≤r:=by omega
      have hrr:Hid (r-mlN k i+msN k (i+1-1)=msN k (m-1)+(d-1)):=zH (by omega)
      clear hs hmo hr
      generalize mlN k i=l at *
      go_wp2_with fail
      refine(cL _).mono ?_
      rintro e w2 ⟨rfl,hb2⟩
      have hb12:=hb1.trans (hb2.mono hb1.size)
      clear hb2
      go_wp2_with fail
      refine(cL _).mono ?_
      rintro e w3 ⟨rfl,hb3⟩
      go_wp2_with fail
      go_roundw
      case rel=>exact⟨i+1,r-l,by go_num,by omega,by omega,by go_num,hrr.out,by omega,hb12.trans (hb3.mono hb12.size)⟩
      case measure=>simp [intOf];omega
     ·obtain rfl:i=m:=by omega
      have hrd:r=d-1:=by omega
      subst hrd
      have hnl:¬(mlN k i≤d-1):=by omega
      have hrr:(((d-1:Nat):Int)+1)=(d:Int):=by omega
      clear hr
      generalize mlN k i=l at *
      go_wp2_with fail
      refine(cL _).mono ?_
      rintro e w2 ⟨rfl,hb2⟩
      go_wp2_with fail
      exact bodyPost_ret (v:=.tuple #[.int .i64 k,.int .i64 i,.int .i64 d]) (by simp [results,Tryz.results120,go_sem]) rfl ⟨rfl,hb1.trans (hb2.mono hb1.size)⟩
theorem ds_at:∀k:Fin 10,(⟨#[48,49,50,51,52,53,54,55,56,57]⟩:ByteArray).extract k.val (k.val+1)=strB [digC k.val]:=by
 intro k
 refine(one_at _ k.val (by simp [Lib.size_eq])).trans ?_
 match k with
 | ⟨0,_⟩ | ⟨1,_⟩ | ⟨2,_⟩ | ⟨3,_⟩ | ⟨4,_⟩ | ⟨5,_⟩ | ⟨6,_⟩ | ⟨7,_⟩ | ⟨8,_⟩ | ⟨9,_⟩=>rfl
theorem two_pad (a b:Nat) (hb:b<10):strB (padL 2 (10*a+b))=strB [digC a]++strB [digC b]:=by
 rw [strB_append]
 congr 1
 have e1:(10*a+b) / 10=a:=by omega
 have e2:digC (10*a+b)=digC b:=by unfold digC;rw [show(10*a+b) % 10=b % 10 by omega]
 rw [padL,padL,padL,e1,e2]
 rfl
theorem rtwo_any (n:Nat) (w:World) (hn:n<100) :
  Calls Tryz.prog 123 #[.int .i64 n] w fun e w'=>e=.returned (.string (strB (padL 2 n)))∧Below w.heap.size w w':=by
 obtain⟨a,ha⟩:∃a,a=n / 10:=⟨_,rfl⟩
 obtain⟨b,hb⟩:∃b,b=n % 10:=⟨_,rfl⟩
 have hv:strB (padL 2 n)=(⟨#[48,49,50,51,52,53,54,55,56,57]⟩:ByteArray).extract a (a+1)++(⟨#[48,49,50,51,52,53,54,55,56,57]⟩:ByteArray).extract b (b+1):=by
  rw [show n=10*a+b by omega,two_pad a b (by omega),ds_at ⟨a,by omega⟩,ds_at ⟨b,by omega⟩]
 rw [hv]
 have e1:(n:Int) / 10=(a:Int):=by omega
 have e2:(n:Int) % 10=(b:Int):=by omega
 have b1:a<10:=by omega
 have b2:b<10:=by omega
 have w1:=wrap_small ((a:Int)+1) (by omega) (by omega)
 have w2:=wrap_small ((b:Int)+1) (by omega) (by omega)
 clear ha hb hv hn
 go_enter Tryz.func123,Tryz.ntmps123
 go_wp2_with fail
 go_quiet (fail)
 go_wp2_with fail
 go_ret
 exact⟨rfl,below_drewN _ _⟩
theorem below_alloc (w:World) (o:Obj):Below w.heap.size w (w.alloc o):=(Below.refl _ _).alloc (zR _) _
abbrev wkC:Array Value:=#[.string ⟨#[83,117,110,100,97,121]⟩,.string ⟨#[77,111,110,100,97,121]⟩,.string ⟨#[84,117,101,115,100,97,121]⟩,.string ⟨#[87,101,100,110,101,115,100,97,121]⟩,.string ⟨#[84,104,117,114,115,100,97,121]⟩,.string ⟨#[70,114,105,100,97,121]⟩,.string ⟨#[83,97,116,117,114,100,97,121]⟩]
abbrev moC:Array Value:=#[.string ⟨#[]⟩,.string ⟨#[74,97,110]⟩,.string ⟨#[70,101,98]⟩,.string ⟨#[77,97,114]⟩,.string ⟨#[65,112,114]⟩,.string ⟨#[77,97,121]⟩,.string ⟨#[74,117,110]⟩,.string ⟨#[74,117,108]⟩,.string ⟨#[65,117,103]⟩,.string ⟨#[83,101,112]⟩,.string ⟨#[79,99,116]⟩,.string ⟨#[78,111,118]⟩,.string ⟨#[68,101,99]⟩]
theorem wk_at:∀j:Fin 7,wkC[j.val]? = some (.string (strB (wkT j.val))):=by
 intro j
 match j with
 | ⟨0,_⟩ | ⟨1,_⟩ | ⟨2,_⟩ | ⟨3,_⟩ | ⟨4,_⟩ | ⟨5,_⟩ | ⟨6,_⟩=>rfl
theorem mo_at:∀j:Fin 13,1≤j.val→moC[j.val]? = some (.string (strB (moT j.val))):=by
 intro j h
 match j,h with
 | ⟨1,_⟩,_ | ⟨2,_⟩,_ | ⟨3,_⟩,_ | ⟨4,_⟩,_ | ⟨5,_⟩,_ | ⟨6,_⟩,_ | ⟨7,_⟩,_ | ⟨8,_⟩,_ | ⟨9,_⟩,_ | ⟨10,_⟩,_ | ⟨11,_⟩,_ | ⟨12,_⟩,_=>rfl
theorem rwkname_any (j:Nat) (w:World) (hj:j<7) :
  Calls Tryz.prog 121 #[.int .i64 j] w fun e w'=>e=.returned (.string (strB (wkT j)))∧Below w.heap.size w w':=by
 have hb:∀o,Below w.heap.size w (w.alloc o):=below_alloc w
 have hc:=alloc_at w wkC 9 j _ (wk_at ⟨j,hj⟩)
 dsimp only at hc
 generalize strB (wkT j)=s at *
 go_enter Tryz.func121,Tryz.ntmps121
 go_wp2_with fail
 go_ret
 exact⟨rfl,hb _⟩
theorem rmoname_any (j:Nat) (w:World) (h1:1≤j) (h2:j<13) :
  Calls Tryz.prog 124 #[.int .i64 j] w fun e w'=>e=.returned (.string (strB (moT j)))∧Below w.heap.size w w':=by
 have hb:∀o,Below w.heap.size w (w.alloc o):=below_alloc w
 have hc:=alloc_at w moC 9 j _ (mo_at ⟨j,h2⟩ h1)
 dsimp only at hc
 generalize strB (moT j)=s at *
 go_enter Tryz.func124,Tryz.ntmps124
 go_wp2_with fail
 go_ret
 exact⟨rfl,hb _⟩
theorem pad_size (k n:Nat):(strB (padL k n)).size=k:=by rw [strB_size,padL_length]
theorem eq_strB {s:ByteArray} {l:List UInt8} (h:s.data.toList=l):s=strB l:=by rw [← h,strB_of]
theorem ck_size {c:Nat} (_:c<86400):(strB (ckT c)).size=8:=by
 rw [strB_size]
 simp [ckT,padL_length]
theorem mo_size (k:Nat) (h1:1≤k) (h2:k≤12):(strB (moT k)).size=3:=by
 have:∀j:Fin 13,1≤j.val→(moT j.val).length=3:=by decide
 rw [strB_size]
 exact this ⟨k,by omega⟩ h1
theorem take_next_RdG {l:List UInt8} {i p:Nat} (hi:i≤p) (hp:p<(strB l).size):(l.drop i).take (p+1-i)=(l.drop i).take (p-i)++[(strB l)[p]]:=by
 obtain⟨j,rfl⟩:∃j,p=i+j:=⟨p-i,by omega⟩
 rw [show i+j+1-i=j+1 by omega,show i+j-i=j by omega,List.take_add_one,List.getElem?_drop,List.getElem?_eq_getElem (by rw [strB_size]at hp;exact hp)]
 rfl
theorem dgV_no {l:List UInt8} {i k:Nat} (h:¬(i+k≤l.length∧((l.drop i).take k).all dgt=true)):dgV l i k=-1:=by
 unfold dgV
 rw [if_neg]
 simp only [Bool.and_eq_true,decide_eq_true_eq]
 exact h
theorem dgV_yes {l:List UInt8} {i k:Nat} (h1:i+k≤l.length) (h2:((l.drop i).take k).all dgt=true):dgV l i k=(valL_DatP ((l.drop i).take k):Nat):=by
 unfold dgV
 rw [if_pos (by rw [h2];simpa using h1)]
theorem not_all {l:List UInt8} {i k p:Nat} (hi:i≤p) (hp:p<i+k) (hs:p<(strB l).size) (hd:dgt (strB l)[p]=false):((l.drop i).take k).all dgt=false:=by
 have hsub:(l.drop i).take k=(l.drop i).take (p+1-i)++((l.drop i).take k).drop (p+1-i):=by
  rw [show(l.drop i).take (p+1-i)=((l.drop i).take k).take (p+1-i)by rw [List.take_take,Nat.min_eq_left (by omega)],List.take_append_drop]
 rw [hsub,take_next_RdG hi hs,List.all_append,List.all_append]
 simp [hd]
theorem rdigits_any_RdG (l:List UInt8) (i k:Nat) (w:World) (hk1:1≤k) (hk:k≤4) (hi:i≤1000) (hl:l.length≤maxLen) :
  Calls Tryz.prog 78 #[.string (strB l),.int .i64 i,.int .i64 k] w fun e w'=>e=.returned (.int .i64 (dgV l i k))∧w=w':=by
 have hz:=strB_size l
 unfold maxLen at hl
 have hS:∀p,(h1:i≤p)→(h2:p<(strB l).size)→(l.drop i).take (p+1-i)=(l.drop i).take (p-i)++[(strB l)[p]]:=fun p h1 h2=>take_next_RdG h1 h2
 have hN:∀p,i≤p→p<i+k→(h:p<(strB l).size)→dgt (strB l)[p]=false→dgV l i k=-1:=fun p h1 h2 h3 h4=>dgV_no (fun h=>by rw [not_all h1 h2 h3 h4]at h;cases h.2)
 generalize strB l=t at *
 go_enter Tryz.func78,Tryz.ntmps78
 go_wp2_with fail
 go_loop [7,8] (fun x z=>∃p:Nat,i≤p∧p≤i+k∧z=.int .i64 p∧x=.int .i64 (valL_DatP ((l.drop i).take (p-i)):Nat)∧Hid (((l.drop i).take (p-i)).all dgt=true)∧(p≤l.length∨p=i)) (fun _ z=>i+k-(intOf z).toNat)
 case atStart=>exact⟨i,zR _,by omega,rfl,by rw [Nat.sub_self]<;>rfl,zH (by rw [Nat.sub_self]<;>rfl),.inr rfl⟩
 case round =>
  obtain⟨p,hp1,hp2,rfl,rfl,hA,hor⟩:=hrel
  by_cases hlt:p<i+k
  ·have hltI:(p:Int)<(i:Int)+(k:Int):=by omega
   have g0:decide ((p:Int)<0)=false:=by simp
   by_cases hin:p<t.size
   ·have hT:=hS p hp1 hin
    have hvn:valL_DatP ((l.drop i).take (p-i))≤9999:=by
     have:=valL_lt _ hA.out
     have h2:((l.drop i).take (p-i)).length≤4:=by rw [List.length_take];omega
     have h10:10 ^ ((l.drop i).take (p-i)).length≤10 ^ 4:=Nat.pow_le_pow_right (by omega) h2
     omega
    have hj:decide (t.size≤p)=false:=by simp;omega
    cases hd:dgt t[p]
    ·have HN:=zH (hN p hp1 hlt hin hd)
     clear hS hT hN hA hor hz hvn
     unfold dgt at hd
     have hcn:(t[p].toNat:Int)<48∨(57:Int)<t[p].toNat:=by
      simp only [Bool.and_eq_false_iff,decide_eq_false_iff_not]at hd
      omega
     clear hd
     generalize valL_DatP ((l.drop i).take (p-i))=n at *
     rcases hcn with h1 | h1
     ·have g1:decide ((t[p].toNat:Int)<48)=true:=by simpa using h1
      go_wp2_with fail
      go_ret
      exact⟨by rw [HN.out]<;>rfl,rfl⟩
     ·have g1:decide ((t[p].toNat:Int)<48)=false:=by simp;omega
      have g2:decide ((57:Int)<t[p].toNat)=true:=by simpa using h1
      go_wp2_with fail
      go_ret
      exact⟨by rw [HN.out]<;>rfl,rfl⟩
    ·have hv:Hid (valL_DatP ((l.drop i).take (p+1-i))=10*valL_DatP ((l.drop i).take (p-i))+(t[p].toNat-48)):=zH (by rw [hT,valL_snoc])
     have hA2:Hid (((l.drop i).take (p+1-i)).all dgt=true):=zH (by rw [hT,List.all_append,hA.out];simp [hd])
     unfold dgt at hd
     simp only [Bool.and_eq_true,decide_eq_true_eq]at hd
     obtain⟨h1,h2⟩:=hd
     have g1:decide ((t[p].toNat:Int)<48)=false:=by simp;omega
     have g2:decide ((57:Int)<t[p].toNat)=false:=by simp;omega
     have hw:((t[p].toNat-48:Nat):Int)=(t[p].toNat:Int)-48:=by omega
     clear hS hT hN hA hor
     generalize valL_DatP ((l.drop i).take (p-i))=n at *
     go_wp2_with fail
     go_round
     case rel=>exact⟨p+1,by omega,by omega,by go_num,by rw [hv.out];go_num,hA2,.inl (by omega)⟩
     case measure=>simp [intOf];omega
   ·have hj:decide (t.size≤p)=true:=by simp;omega
    have HN:Hid (dgV l i k=-1):=zH (dgV_no (by omega))
    clear hS hN hA hor
    generalize valL_DatP ((l.drop i).take (p-i))=n at *
    go_wp2_with fail
    go_ret
    exact⟨by rw [HN.out]<;>rfl,rfl⟩
  ·obtain rfl:p=i+k:=by omega
   rw [Nat.add_sub_cancel_left]at hA ⊢
   have HN:Hid (dgV l i k=(valL_DatP ((l.drop i).take k):Nat)):=zH (by
    rcases hor with h | h
    ·exact dgV_yes h hA.out
    ·omega)
   clear hS hN hA hor
   generalize valL_DatP ((l.drop i).take k)=n at *
   go_wp2_with fail
   go_ret
   exact⟨by rw [HN.out]<;>rfl,rfl⟩
end Go.Proofs.YtfaedmbfabfmeaaGreatDoor
