/- Plain: where the targeted field counts, nothing else of the fields does; where it does not, it is as if it were not there. · Plain: where the targeted rules count, cache-control, expires and last-modified change nothing; where they do not, it is as if they were not there. -/
import Derived.Test.YtfaedmbfabfmeaaGreatDoorZMChsP
import Derived.Test.YtfaedmbfabfmeaaGreatDoorZMDirS
namespace Go.Proofs.YtfaedmbfabfmeaaGreatDoor
open Go.RowKit
theorem cdn_ne:nCdn≠nCtl:=by decide
theorem allH_app (fs gs:List Fld) (n:List UInt8):allH (fs++gs) n=allH fs n++allH gs n:=by simp [allH]
theorem allH_without (fs:List Fld) (n:List UInt8):allH (withoutH fs [n]) n=[]:=by
 unfold allH withoutH
 rw [List.filter_filter,List.map_eq_nil_iff,List.filter_eq_nil_iff]
 intro p _ h
 simp at h
def tgtF (fs:List Fld) (s:List UInt8):List Fld:=withoutH fs [nCdn]++[(nCdn,s)]
theorem tgt_cdn (fs:List Fld) (s:List UInt8):allH (tgtF fs s) nCdn=[s]:=by
 rw [tgtF,allH_app,allH_without]
 rfl
theorem tgt_ctl (fs:List Fld) (s:List UInt8):allH (tgtF fs s) nCtl=allH (withoutH fs [nCdn]) nCtl:=by
 rw [tgtF,allH_no _ _ _ cdn_ne]
theorem join_one (s:List UInt8):joinH [s]=s:=by simp [joinH,tailH]
theorem alone_yes (fs:List Fld) (s:List UInt8) (es:List Ent) (h:modL s=some es):chsA (tgtF fs s)=.tuple #[rulM es,.int .i64 2]:=by
 rw [chsA,tgt_cdn,join_one,h,if_pos ⟨by simp,rfl⟩]
 rfl
theorem alone_no (fs:List Fld) (s:List UInt8) (h:modL s=none):chsA (tgtF fs s)=chsA (withoutH fs [nCdn]):=by
 have e1:chsA (tgtF fs s)=if 0<(allH (withoutH fs [nCdn]) nCtl).length then .tuple #[rulV (ctlD (withoutH fs [nCdn])),.int .i64 1]else .tuple #[rulV [],.int .i64 0]:=by
  rw [chsA,tgt_cdn,join_one,h,if_neg (fun e=>by cases e.2),tgt_ctl,ctlD,tgt_ctl,ctlD]
 have e2:chsA (withoutH fs [nCdn])=if 0<(allH (withoutH fs [nCdn]) nCtl).length then .tuple #[rulV (ctlD (withoutH fs [nCdn])),.int .i64 1]else .tuple #[rulV [],.int .i64 0]:=by
  rw [chsA,allH_without,if_neg (fun e=>absurd e.1 (Nat.lt_irrefl 0))]
 rw [e1,e2]
theorem pr_filter (q:Fld→Bool):∀fs:List Fld,(prF (fs.filter q)).length≤(prF fs).length
 | []=>zR _
 | p :: fs=>by
  have ih:=pr_filter q fs
  rw [List.filter_cons,prF,List.length_append]
  split
  ·rw [prF,List.length_append];omega
  ·omega
theorem pr_app:∀fs gs:List Fld,prF (fs++gs)=prF fs++prF gs
 | [],gs=>rfl
 | p :: fs,gs=>by rw [List.cons_append,prF,prF,pr_app fs gs,List.append_assoc]
theorem joinP1 (s:List UInt8):joinH [s]=s:=by simp [joinH,tailH]
theorem all_wthno (fs:List Fld) (ns:List (List UInt8)) (n:List UInt8) (h:n∉ns):allH (withoutH fs ns) n=allH fs n:=by
 unfold allH withoutH
 rw [List.filter_filter]
 congr 1
 refine List.filter_congr fun p _=>?_
 by_cases e:p.1=n
 ·simp [e,h]
 ·simp [e]
def ovrF (fs:List Fld) (c e:List UInt8):List Fld:=(withoutH fs [nCtl,nExp,nLmd]++[(nCtl,c)])++[(nExp,e)]
theorem ovr_cdn (fs:List Fld) (c e:List UInt8):allH (ovrF fs c e) nCdn=allH fs nCdn:=by
 rw [ovrF,allH_no _ _ _ (by decide:¬nExp=nCdn),allH_no _ _ _ (by decide:¬nCtl=nCdn),all_wthno _ _ _ (by decide)]
theorem ovr_chs (fs:List Fld) (s c e:List UInt8) (es:List Ent) (h:modL s=some es):chsA (ovrF (tgtF fs s) c e)=chsA (tgtF fs s):=by
 rw [alone_yes fs s es h,chsA,ovr_cdn,tgt_cdn,joinP1,h,if_pos ⟨by simp,rfl⟩]
 rfl
theorem tgt_two (fs:List Fld) (s:List UInt8) (es:List Ent) (h:modL s=some es):chT (tgtF fs s)=2:=by
 rw [chT,tgt_cdn,joinP1,h,if_pos ⟨by simp,rfl⟩]
theorem tgt_other (fs:List Fld) (s n:List UInt8) (h:¬nCdn=n):allH (tgtF fs s) n=allH (withoutH fs [nCdn]) n:=by
 rw [tgtF,allH_no _ _ _ h]
theorem tgt_stor_no (m:List UInt8) (fq fs:List Fld) (st:Int) (s:List UInt8) (h:modL s=none):storP m fq st (tgtF fs s)=storP m fq st (withoutH fs [nCdn]):=
 stor_alike m fq st (alone_no fs s h) (.inl (by rw [isN,tgt_other _ _ _ (by decide),isN]))
theorem tgt_lif_no (fs:List Fld) (st got:Int) (s:List UInt8) (h:modL s=none):lifP st (tgtF fs s) got=lifP st (withoutH fs [nCdn]) got:=
 lif_alike st got (alone_no fs s h) (tgt_other _ _ _ (by decide)) (tgt_other _ _ _ (by decide)) (tgt_other _ _ _ (by decide))
theorem tgt_stor_yes (m:List UInt8) (fq fs:List Fld) (st:Int) (s c e:List UInt8) (es:List Ent) (h:modL s=some es):storP m fq st (tgtF fs s)=storP m fq st (ovrF (tgtF fs s) c e):=
 stor_alike m fq st (ovr_chs fs s c e es h).symm (.inr (tgt_two fs s es h))
theorem tgt_lif_yes (fs:List Fld) (st got:Int) (s c e:List UInt8) (es:List Ent) (h:modL s=some es):lifP st (tgtF fs s) got=lifP st (ovrF (tgtF fs s) c e) got:=
 lif_two st got (ovr_chs fs s c e es h).symm (tgt_two fs s es h)
theorem app_okP (fs:List Fld) (n s:List UInt8) (B:Nat) (hn:n.length≤100) (hs:s.length≤1000) (hB:(prF fs).length≤B):(prF (fs++[(n,s)])).length≤B+1104:=by
 rw [pr_app,List.length_append]
 have e:(prF [(n,s)]).length=n.length+s.length+4:=by
  rw [prF,prF,List.append_nil,lineF_len]
 omega
theorem wth_okP (fs:List Fld) (ns:List (List UInt8)) (B:Nat) (hB:(prF fs).length≤B):(prF (withoutH fs ns)).length≤B:=Nat.le_trans (pr_filter _ fs) hB
theorem ok_ofP (fs:List Fld) (B:Nat) (hB:(prF fs).length≤B) (hb:B≤90000):FldsOk fs∧∀n,(joinH (allH fs n)).length≤90000:=by
 have h4:=prF_ge fs
 refine⟨⟨by omega,fun p hp=>?_⟩,fun n=>Nat.le_trans (join_small _ n) (by omega)⟩
 have h5:∀(gs:List Fld),p∈gs→p.1.length+p.2.length+4≤(prF gs).length:=by
  intro gs
  induction gs with
  | nil=>intro h;cases h
  | cons g gs ih =>
   intro h
   rw [prF,List.length_append,lineF_len]
   rcases List.mem_cons.1 h with rfl | h
   ·omega
   ·have:=ih h
    omega
 have:=h5 fs hp
 exact⟨by omega,by omega⟩
end Go.Proofs.YtfaedmbfabfmeaaGreatDoor
