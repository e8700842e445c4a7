/- Plain: what strings.TrimFunc makes of a text where only spaces and tabs are to go: the text without the blanks at its two ends. No program is named. -/
import Derived.Lib.TrimUEq
import Derived.Shelf.GgClosure.StringsTrimFunc
set_option linter.unusedSimpArgs false
set_option maxRecDepth 100000
set_option maxHeartbeats 1000000
namespace Go.Proofs.YtfaedmbfabfmeaaGreatDoor
def blkR (r:Nat):Bool:=r==32||r==9
def blkB (c:UInt8):Bool:=c==32||c==9
def tlL (l:List UInt8):List UInt8:=l.dropWhile blkB
def trL (l:List UInt8):List UInt8:=(l.reverse.dropWhile blkB).reverse
def trimL (l:List UInt8):List UInt8:=trL (tlL l)
theorem blk_eq (c:UInt8):blkR c.toNat=blkB c:=by
 unfold blkR blkB
 rw [Bool.eq_iff_iff]
 simp only [Bool.or_eq_true,beq_iff_eq,← UInt8.toNat_inj]
 rfl
theorem blkR_big (r:Nat) (h:128≤r):blkR r=false:=by
 unfold blkR;simp;omega
theorem decodeN_big (n b0 b1 b2 b3:Nat) (h:128≤b0):128≤(Lib.decodeN n b0 b1 b2 b3).1:=by
 unfold Lib.decodeN
 repeat' split
 all_goals first | (exfalso;omega) | (simp only;omega) | (simp only;decide)
theorem blk_decode (s:ByteArray) (pos:Nat):blkR (Utf8.decode s pos).1=blkB (s.data.toList.getD pos 0)∧(blkB (s.data.toList.getD pos 0)=true→(Utf8.decode s pos).2=1):=by
 rw [Lib.decode_N]
 by_cases h:(s.data.toList.getD pos 0).toNat<128
 ·rw [Lib.decodeN_ascii _ _ _ _ _ h]
  exact⟨blk_eq _,fun _=>rfl⟩
 ·have hb:blkB (s.data.toList.getD pos 0)=false:=by rw [← blk_eq];exact blkR_big _ (by omega)
  rw [blkR_big _ (decodeN_big _ _ _ _ _ (by omega)),hb]
  exact⟨rfl,fun h=>by cases h⟩
theorem getD_of_lt (l:List UInt8) (k:Nat) (h:k<l.length):l.getD k 0=l[k]:=by
 rw [List.getD_eq_getElem?_getD,List.getElem?_eq_getElem h];rfl
theorem left_is (s:ByteArray):∀(f pos:Nat),s.size≤pos+f →
  tlL (s.data.toList.drop pos)=if Lib.idxFuncFrom blkR false s f pos=-1 then []else s.data.toList.drop (Lib.idxFuncFrom blkR false s f pos).toNat
 | 0,pos,h=>by
  rw [List.drop_of_length_le (by rw [← Lib.size_eq];omega)]
  rfl
 | f+1,pos,h=>by
  unfold Lib.idxFuncFrom
  by_cases hp:pos<s.size
  ·have hl:pos<s.data.toList.length:=by rw [← Lib.size_eq];exact hp
   rw [if_pos hp]
   obtain⟨h1,h2⟩:=blk_decode s pos
   rw [h1]
   rw [getD_of_lt _ _ hl]at h2 ⊢
   have hd:s.data.toList.drop pos=s.data.toList[pos] :: s.data.toList.drop (pos+1):=List.drop_eq_getElem_cons hl
   cases hb:blkB s.data.toList[pos]
   ·simp only [if_true]
    rw [if_neg (by omega),Int.toNat_natCast,hd,tlL,List.dropWhile_cons_of_neg (by rw [hb];decide)]
   ·simp only [Bool.true_eq_false,if_false]
    rw [h2 hb,hd,tlL,List.dropWhile_cons_of_pos hb]
    exact left_is s f (pos+1) (by omega)
  ·rw [if_neg hp,if_pos rfl,List.drop_of_length_le (by rw [← Lib.size_eq];omega)]
   rfl
theorem trimLeftF_is (s:ByteArray):(Lib.trimLeftF blkR s).data.toList=tlL s.data.toList:=by
 have h:=left_is s s.size 0 (by omega)
 rw [List.drop_zero]at h
 rw [h]
 unfold Lib.trimLeftF Lib.idxFunc
 split
 ·rfl
 ·rw [Lib.extract_data,List.take_of_length_le (by rw [List.length_drop,← Lib.size_eq];exact Nat.le_refl _)]
theorem last_blank (l:List UInt8) (i:Nat) (hi:0<i) (hil:i≤l.length) :
  blkR (Lib.decodeLastL (l.take i)).1=blkB (l.getD (i-1) 0)∧(blkB (l.getD (i-1) 0)=true→(Lib.decodeLastL (l.take i)).2=1):=by
 rcases Lib.last_cases l i hi hil with ⟨ha,hd⟩ | ⟨ha,hd⟩ | ⟨ha,st,hst,hd,hsum⟩
 ·rw [hd];exact⟨blk_eq _,fun _=>rfl⟩
 ·have hb:blkB (l.getD (i-1) 0)=false:=by rw [← blk_eq];exact blkR_big _ (by omega)
  rw [hd,hb];exact⟨by decide,fun h=>by cases h⟩
 ·have hb:blkB (l.getD (i-1) 0)=false:=by rw [← blk_eq];exact blkR_big _ (by omega)
  rw [hd,hb]
  refine⟨?_,fun h=>by cases h⟩
  rw [Lib.decodeL_N]at hsum ⊢
  rw [Lib.getD_dropU,Nat.add_zero,Lib.getD_takeU l i st hst]at hsum ⊢
  by_cases h0:(l.getD st 0).toNat<128
  ·rw [Lib.decodeN_ascii _ _ _ _ _ h0]at hsum
   have:st=i-1:=by simp only at hsum;omega
   rw [this]at h0
   omega
  ·exact blkR_big _ (decodeN_big _ _ _ _ _ (by omega))
theorem trL_take (l:List UInt8) (i:Nat) (hi:0<i) (hil:i≤l.length):trL (l.take i)=if blkB (l.getD (i-1) 0)then trL (l.take (i-1))else l.take i:=by
 obtain⟨k,rfl⟩:∃k,i=k+1:=⟨i-1,by omega⟩
 have hk:k<l.length:=by omega
 rw [Nat.add_sub_cancel,getD_of_lt _ _ hk,List.take_succ_eq_append_getElem hk]
 unfold trL
 rw [List.reverse_append,List.reverse_singleton,List.singleton_append]
 cases hb:blkB l[k]
 ·rw [List.dropWhile_cons_of_neg (by simp [hb])];simp
 ·rw [List.dropWhile_cons_of_pos hb];simp
theorem right_is (s:ByteArray):∀(f i:Nat),i≤f→i≤s.data.toList.length→Lib.OpenAt s.data.toList i →
  trL (s.data.toList.take i)=s.data.toList.take (if 0≤Lib.lastIdxFuncFrom blkR false s f i then(Lib.lastIdxFuncFrom blkR false s f i).toNat+(Lib.decodeL (s.data.toList.drop (Lib.lastIdxFuncFrom blkR false s f i).toNat)).2 else 0)
 | 0,i,hf,_,_=>by
  obtain rfl:i=0:=by omega
  simp [trL,Lib.lastIdxFuncFrom]
 | f+1,i,hf,hil,ho=>by
  by_cases hi:0<i
  ·obtain⟨h1,h2⟩:=last_blank s.data.toList i hi hil
   rw [trL_take _ i hi hil]
   simp only [Lib.lastIdxFuncFrom,if_pos hi,h1]
   cases hb:blkB (s.data.toList.getD (i-1) 0)with
   | true =>
    rw [h2 hb]
    simp only [if_true,Bool.true_eq_false,if_false]
    exact right_is s f (i-1) (by omega) (by omega) (.inr (by
     intro hc
     have:blkR (s.data.toList.getD (i-1) 0).toNat=true:=by rw [blk_eq];exact hb
     rw [blkR_big _ (by omega)]at this
     cases this))
   | false =>
    have hw:=Lib.decodeLastL_width (s.data.toList.take i) (by rw [List.length_take];omega)
    rw [List.length_take,Nat.min_eq_left hil]at hw
    simp only [Bool.false_eq_true,if_false,if_true]
    rw [if_pos (by omega),Int.toNat_natCast,Lib.fw_width _ i hi hil ho,Nat.sub_add_cancel hw.2]
  ·obtain rfl:i=0:=by omega
   rw [Lib.lastIdxFuncFrom_zero]
   simp [trL]
theorem lastIdx_lt (p:Nat→Bool) (s:ByteArray):∀(f i:Nat),i≤s.size→Lib.lastIdxFuncFrom p false s f i=-1∨(0≤Lib.lastIdxFuncFrom p false s f i∧Lib.lastIdxFuncFrom p false s f i<i)
 | 0,_,_=>.inl rfl
 | f+1,i,hi=>by
  unfold Lib.lastIdxFuncFrom
  split
  ·rename_i h0
   have hw:=Lib.decodeLastL_width (s.data.toList.take i) (by rw [List.length_take,← Lib.size_eq];omega)
   rw [List.length_take,← Lib.size_eq,Nat.min_eq_left hi]at hw
   split
   ·exact .inr ⟨by omega,by omega⟩
   ·rcases lastIdx_lt p s f (i-(Lib.decodeLastL (s.data.toList.take i)).2) (by omega)with h | h
    ·exact .inl h
    ·exact .inr ⟨h.1,by omega⟩
  ·exact .inl rfl
theorem trimRightF_is (s:ByteArray):(Lib.trimRightF blkR s).data.toList=trL s.data.toList:=by
 have h:=right_is s s.size s.size (Nat.le_refl _) (by rw [← Lib.size_eq];exact Nat.le_refl _) (.inl (Lib.size_eq s))
 rw [List.take_of_length_le (by rw [← Lib.size_eq];exact Nat.le_refl _)]at h
 rw [h]
 unfold Lib.trimRightF Lib.rightEndF Lib.lastIdxFunc
 rw [Lib.extract_data,List.drop_zero,Nat.sub_zero]
 split
 ·rename_i h0
  rcases lastIdx_lt blkR s s.size s.size (Nat.le_refl _)with hm | hlt
  ·omega
  ·have hx:s.extract (Lib.lastIdxFuncFrom blkR false s s.size s.size).toNat s.size=⟨(s.data.toList.drop (Lib.lastIdxFuncFrom blkR false s s.size s.size).toNat).toArray⟩:=by
    rw [Lib.extract_eq,List.take_of_length_le (by rw [List.length_drop,← Lib.size_eq];exact Nat.le_refl _)]
   have hxs:(⟨(s.data.toList.drop (Lib.lastIdxFuncFrom blkR false s s.size s.size).toNat).toArray⟩:ByteArray).size≠0:=by
    rw [Lib.size_eq]
    simp only [List.length_drop]
    rw [← Lib.size_eq]
    omega
   rw [hx]
   unfold Lib.decodeGoB Lib.decodeL
   rw [if_neg hxs]
 ·rfl
theorem trimF_is (s:ByteArray):(Lib.trimF blkR s).data.toList=trimL s.data.toList:=by
 unfold Lib.trimF trimL
 rw [trimRightF_is,trimLeftF_is]
end Go.Proofs.YtfaedmbfabfmeaaGreatDoor
