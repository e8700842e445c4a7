/- The contracts of base64's functions on a group: characters, valueOf, bytesOf. · The contracts of bare.noItem and bare.readBoolean. · The contract of bare.Encode. · The contract of bare.Right. -/
import Derived.Test.YtfaedmbfabfmeaaGreatDoorYMBarA
import Derived.Test.YtfaedmbfabfmeaaGreatDoorYMBasP
import Derived.Deep.QuietTactic
import Derived.BigQuiet
import Derived.BigRegion
import Derived.StillTailTactics
import Derived.Laws.BitsLemmas
set_option linter.unusedSimpArgs false
set_option maxRecDepth 100000
set_option maxHeartbeats 4000000
namespace Go.Proofs.YtfaedmbfabfmeaaGreatDoor
open Go.RowKit
def alphL:List UInt8:=[65,66,67,68,69,70,71,72,73,74,75,76,77,78,79,80,81,82,83,84,85,86,87,88,89,90,97,98,99,100,101,102,103,104,105,106,107,108,109,110,111,112,113,114,115,116,117,118,119,120,121,122,48,49,50,51,52,53,54,55,56,57,43,47]
def alp (n:Nat):UInt8:=alphL.getD n 0
def Alph (w:World):Prop:=∀j,j<64→w.cell? ⟨6,j,none⟩=some (.int .u8 ((alp j).toNat:Int))
theorem Alph.below {w w':World} (h:Alph w) (hb:Below w.heap.size w w'):Alph w':=fun j hj=>by
 have:=h j hj
 rw [hb.cell (p:=⟨_,j,none⟩) (lt_of_cell this)]
 exact this
theorem wraps_u32 (n:Int) (h₀:0≤n) (h₁:n<2 ^ 32):IntKind.u32.wrap n=n:=by rw [IntKind.wrap_u32];omega
theorem u32_and63 (x:Int) (h₀:0≤x) (h₁:x<4294967296):bits .and .u32 x 63=x % 64:=bits_mask .u32 32 (by decide) wraps_u32 6 (by decide) x h₀ h₁
theorem u32_or3 (a b c:Nat) (h1:a<256) (h2:b<256) (h3:c<256):bits .or .u32 (bits .or .u32 ((a:Int)*65536) ((b:Int)*256)) (c:Int)=((65536*a+256*b+c:Nat):Int):=by
 rw [bits_join .u32 32 (by decide) wraps_u32 16 ((a:Int)*65536) ((b:Int)*256) (by omega) (by omega) (by omega) (by omega) (by omega) (by omega)]
 rw [bits_join .u32 32 (by decide) wraps_u32 8 ((a:Int)*65536+(b:Int)*256) (c:Int) (by omega) (by omega) (by omega) (by omega) (by omega) (by omega)]
 omega
theorem characters_any (a b c:UInt8) (w:World) (hA:Alph w) :
  Calls Tryz.prog 275 #[.agg #[.int .u8 a.toNat,.int .u8 b.toNat,.int .u8 c.toNat]] w fun e w'=>e=.returned (.agg #[u8V (alp ((65536*a.toNat+256*b.toNat+c.toNat) / 262144)),u8V (alp ((65536*a.toNat+256*b.toNat+c.toNat) / 4096 % 64)),u8V (alp ((65536*a.toNat+256*b.toNat+c.toNat) / 64 % 64)),u8V (alp ((65536*a.toNat+256*b.toNat+c.toNat) % 64))])∧Below w.heap.size w w':=by
 have h1:=a.toNat_lt
 have h2:=b.toNat_lt
 have h3:=c.toNat_lt
 have HA:=zH hA
 clear hA
 generalize a.toNat=a at h1
 generalize b.toNat=b at h2
 generalize c.toNat=c at h3
 obtain⟨v,hve⟩:∃v,v=65536*a+256*b+c:=⟨_,rfl⟩
 rw [← hve]
 have Hor:Hid (bits .or .u32 (bits .or .u32 ((a:Int)*65536) ((b:Int)*256)) (c:Int)=(v:Int)):=zH (by rw [u32_or3 a b c h1 h2 h3,hve])
 have hv:v<16777216:=by omega
 clear hve
 have i1:v / 262144<64:=by omega
 have i2:v / 4096 % 64<64:=by omega
 have i3:v / 64 % 64<64:=by omega
 have i4:v % 64<64:=by omega
 have m1:(v:Int) / 262144=((v / 262144:Nat):Int):=by omega
 have m2:bits .and .u32 ((v:Int) / 4096) 63=((v / 4096 % 64:Nat):Int):=by rw [u32_and63 _ (by omega) (by omega)];omega
 have m3:bits .and .u32 ((v:Int) / 64) 63=((v / 64 % 64:Nat):Int):=by rw [u32_and63 _ (by omega) (by omega)];omega
 have m4:bits .and .u32 (v:Int) 63=((v % 64:Nat):Int):=by rw [u32_and63 _ (by omega) (by omega)];omega
 have c1:=HA.out (v / 262144) i1
 have c2:=HA.out (v / 4096 % 64) i2
 have c3:=HA.out (v / 64 % 64) i3
 have c4:=HA.out (v % 64) i4
 have hz:6<w.heap.size:=lt_of_cell c1
 generalize v / 262144=j1 at i1 m1 c1
 generalize v / 4096 % 64=j2 at i2 m2 c2
 generalize v / 64 % 64=j3 at i3 m3 c3
 generalize v % 64=j4 at i4 m4 c4
 generalize alp j1=x1 at c1
 generalize alp j2=x2 at c2
 generalize alp j3=x3 at c3
 generalize alp j4=x4 at c4
 have M1:=zH m1
 have M2:=zH m2
 have M3:=zH m3
 have M4:=zH m4
 clear m1 m2 m3 m4
 go_enter Tryz.func275,Tryz.ntmps275
 go_wp2_with fail
 rw [Hor.out]
 clear h1 h2 h3
 have m1:=M1.out
 have m2:=M2.out
 have m3:=M3.out
 have m4:=M4.out
 have k1:(j1:Int)<64:=by omega
 have k2:(j2:Int)<64:=by omega
 have k3:(j3:Int)<64:=by omega
 have k4:(j4:Int)<64:=by omega
 clear hv i1 i2 i3 i4
 refine wp_region_still_tail 19 (by kernel_rfl) (by kernel_rfl) ?_
 change wpStill _ _ (World.drew _) (fun a'=>wpList _ _ _ _ a' (World.drew _)) _ _
 generalize hW:World.drew ((w.alloc (.cells #[.int .u8 (a:Int),.int .u8 (b:Int),.int .u8 (c:Int)] 289)).alloc (.cells #[.int .u8 0,.int .u8 0,.int .u8 0,.int .u8 0] 292))=W
 have hb:Below w.heap.size w W:=by
  rw [← hW]
  exact(((Below.refl _ _).alloc (zR _) _).alloc (by simp) _).drew
 have d1:W.cell? ⟨6,j1,none⟩=some (.int .u8 (x1.toNat:Int)):=(hb.cell (p:=⟨_,j1,none⟩) hz).trans c1
 have d2:W.cell? ⟨6,j2,none⟩=some (.int .u8 (x2.toNat:Int)):=(hb.cell (p:=⟨_,j2,none⟩) hz).trans c2
 have d3:W.cell? ⟨6,j3,none⟩=some (.int .u8 (x3.toNat:Int)):=(hb.cell (p:=⟨_,j3,none⟩) hz).trans c3
 have d4:W.cell? ⟨6,j4,none⟩=some (.int .u8 (x4.toNat:Int)):=(hb.cell (p:=⟨_,j4,none⟩) hz).trans c4
 have f0:W.cell? ⟨w.heap.size+1,0,none⟩=some (.int .u8 0)∧W.frozen? ⟨w.heap.size+1,0,none⟩=false:=by rw [← hW];simp
 have f1:W.cell? ⟨w.heap.size+1,1,none⟩=some (.int .u8 0)∧W.frozen? ⟨w.heap.size+1,1,none⟩=false:=by rw [← hW];simp
 have f2:W.cell? ⟨w.heap.size+1,2,none⟩=some (.int .u8 0)∧W.frozen? ⟨w.heap.size+1,2,none⟩=false:=by rw [← hW];simp
 have f3:W.cell? ⟨w.heap.size+1,3,none⟩=some (.int .u8 0)∧W.frozen? ⟨w.heap.size+1,3,none⟩=false:=by rw [← hW];simp
 obtain⟨f0,g0⟩:=f0
 obtain⟨f1,g1⟩:=f1
 obtain⟨f2,g2⟩:=f2
 obtain⟨f3,g3⟩:=f3
 clear hW c1 c2 c3 c4
 simp only [List.take_succ_cons,List.take_zero,List.drop_succ_cons,List.drop_zero]
 repeat still_step
 refine wpStill_nil ?_
 clear m1 m2 m3 m4 d1 d2 d3 d4 k1 k2 k3 k4
 go_wp2_with fail
 exact bodyPost_ret (v:=.agg #[u8V x1,u8V x2,u8V x3,u8V x4]) (by simp [results,Tryz.results275,go_sem,f0,f1,f2,f3,u8V]) rfl ⟨rfl,(((hb.setCell (by simp) _).setCell (by simp) _).setCell (by simp) _).setCell (by simp) _⟩
def vgo:List UInt8→Nat→UInt8→Nat
 | [],_,_=>0
 | x :: r,k,c=>if x==c then k else vgo r (k+1) c
def valB (c:UInt8):Nat:=vgo alphL 0 c
theorem alp_drop (k:Nat) (h:k<64):alphL.drop k=alp k :: alphL.drop (k+1):=by
 have h':k<alphL.length:=h
 rw [List.drop_eq_getElem_cons h',alp,List.getD_eq_getElem?_getD,List.getElem?_eq_getElem h']
 rfl
theorem valB_lt (c:UInt8):valB c<64:=by
 have:=all_bytes (fun c=>decide (valB c<64)) (by decide +kernel) c
 simpa using this
theorem valueOf_any (c:UInt8) (w:World) (hA:Alph w) :
  Calls Tryz.prog 274 #[.int .u8 c.toNat] w fun e w'=>e=.returned (.int .u32 (valB c:Int))∧w=w':=by
 have HA:=zH hA
 clear hA
 go_enter Tryz.func274,Tryz.ntmps274
 go_wp2
 go_loop [4] (fun i=>∃k:Nat,k≤64∧i=.int .i64 k∧Hid (valB c=vgo (alphL.drop k) k c)) (fun i=>64-(intOf i).toNat)
 case atStart=>exact⟨0,by omega,rfl,zH rfl⟩
 case round =>
  obtain⟨k,hk,rfl,H⟩:=hrel
  by_cases hlt:k<64
  ·have hc:=HA.out k hlt
   have Hd:=zH (alp_drop k hlt)
   have B:Hid ((((alp k).toNat:Int)==(c.toNat:Int))=(alp k==c)):=zH (byte_beq _ _)
   cases he:(((alp k).toNat:Int)==(c.toNat:Int))
   ·have He:=zH (B.out.symm.trans he)
    go_wp2
    go_round
    case rel=>exact⟨k+1,by omega,by go_num,zH (by rw [H.out,Hd.out,vgo,He.out]<;>rfl)⟩
    case measure=>simp [intOf];omega
   ·have He:=zH (B.out.symm.trans he)
    go_wp2
    go_ret
    exact⟨ret_eq (int_eq (by rw [H.out,Hd.out,vgo,He.out]<;>rfl)),rfl⟩
  ·obtain rfl:k=64:=by omega
   go_wp2
   go_ret
   exact⟨ret_eq (int_eq (by rw [H.out]<;>rfl)),rfl⟩
def vAt (l:List UInt8) (k:Nat):Nat:=match l[k]? with | some c=>valB c | none=>0
def gN (l:List UInt8):Nat→Nat
 | 0=>0
 | k+1=>gN l k*64+vAt l k
theorem vAt_lt (l:List UInt8) (k:Nat):vAt l k<64:=by
 unfold vAt
 split
 ·exact valB_lt _
 ·omega
theorem gN_lt (l:List UInt8):∀k,gN l k<64 ^ k
 | 0=>by simp [gN]
 | k+1=>by
  have:=gN_lt l k
  have:=vAt_lt l k
  rw [gN,Nat.pow_succ]
  omega
theorem gN_le3 (l:List UInt8) (k:Nat) (h:k≤3):gN l k<262144:=
 Nat.lt_of_lt_of_le (gN_lt l k) (Nat.pow_le_pow_right (n:=64) (by decide) h)
theorem u32_or6 (x y:Nat) (h1:x<262144) (h2:y<64):bits .or .u32 ((x:Int)*64) (y:Int)=((x*64+y:Nat):Int):=by
 rw [bits_join .u32 32 (by decide) wraps_u32 6 ((x:Int)*64) (y:Int) (by omega) (by omega) (by omega) (by omega) (by omega) (by omega)]
 omega
def b0 (v:Nat):UInt8:=UInt8.ofNat (v / 65536)
def b1 (v:Nat):UInt8:=UInt8.ofNat (v / 256)
def b2 (v:Nat):UInt8:=UInt8.ofNat v
theorem bytesOf_any (s:ByteArray) (w:World) (_hs:s.size≤4) (hA:Alph w) :
  Calls Tryz.prog 269 #[.string s] w fun e w'=>e=.returned (.agg #[u8V (b0 (gN s.data.toList 4)),u8V (b1 (gN s.data.toList 4)),u8V (b2 (gN s.data.toList 4))])∧Below w.heap.size w w':=by
 have HA:=zH hA
 clear hA
 go_enter Tryz.func269,Tryz.ntmps269
 go_wp2
 go_loop [3,5] (fun b i=>∃k:Nat,k≤4∧i=.int .i64 k∧b=.int .u32 (gN s.data.toList k:Int)) (fun _ i=>4-(intOf i).toNat)
 case atStart=>exact⟨0,by omega,rfl,rfl⟩
 case round =>
  obtain⟨k,hk,rfl,rfl⟩:=hrel
  by_cases hk4:k<4
  ·have hg:=gN_le3 s.data.toList k (by omega)
   by_cases hlt:k<s.size
   ·have Hs:Hid (gN s.data.toList (k+1)=gN s.data.toList k*64+valB s[k]):=zH (by
     rw [gN,vAt,List.getElem?_eq_getElem (by rw [← Lib.size_eq];exact hlt)]<;>rfl)
    have hv:=valB_lt s[k]
    have cV:=fun W hW=>valueOf_any s[k] W hW
    generalize valB s[k]=y at hv cV Hs
    generalize gN s.data.toList k=x at hg Hs
    have hor:=u32_or6 x y hg hv
    go_wp2_with (go_at_call 274;refine(cV _ (HA.out.below ((Below.refl _ _).alloc (zR _) _))).mono ?_;rintro e w' ⟨rfl,rfl⟩)
    go_round
    case rel=>exact⟨k+1,by omega,by go_num,by rw [Hs.out];go_num⟩
    case measure=>simp [intOf];omega
   ·have Hs:Hid (gN s.data.toList (k+1)=gN s.data.toList k*64):=zH (by
     rw [gN,vAt,List.getElem?_eq_none (by rw [← Lib.size_eq];omega)]<;>rfl)
    generalize gN s.data.toList k=x at hg Hs
    go_wp2
    go_round
    case rel=>exact⟨k+1,by omega,by go_num,by rw [Hs.out];go_num⟩
    case measure=>simp [intOf];omega
  ·obtain rfl:k=4:=by omega
   have hv:=gN_lt s.data.toList 4
   have e0:Hid ((gN s.data.toList 4:Int) / 65536=((b0 (gN s.data.toList 4)).toNat:Int)):=zH (by
    rw [b0,UInt8.toNat_ofNat'];simp at hv ⊢;omega)
   have e1:Hid ((gN s.data.toList 4:Int) / 256 % 256=((b1 (gN s.data.toList 4)).toNat:Int)):=zH (by
    rw [b1,UInt8.toNat_ofNat'];simp)
   have e2:Hid ((gN s.data.toList 4:Int) % 256=((b2 (gN s.data.toList 4)).toNat:Int)):=zH (by
    rw [b2,UInt8.toNat_ofNat'];simp)
   have hv2:(gN s.data.toList 4:Int)<16777216:=by simp at hv;omega
   clear hv
   go_wp2
   exact bodyPost_ret (v:=.agg #[u8V (b0 (gN s.data.toList 4)),u8V (b1 (gN s.data.toList 4)),u8V (b2 (gN s.data.toList 4))]) (by simp [results,Tryz.results269,go_sem,u8V,← e0.out,← e1.out,← e2.out]) rfl ⟨rfl,(Below.refl _ _).alloc (zR _) _⟩
structure Got where
 k:Int
 n:Int
 s:List UInt8
 m:Nat
def gotV (o:Option Got):Value:=match o with
 | some g=>.tuple #[.agg #[.int .i64 g.k,.int .i64 g.n,.string (strB g.s)],.int .i64 (g.m:Int),.int .i64 0]
 | none=>.tuple #[.agg #[.int .i64 0,.int .i64 0,.string ⟨#[]⟩],.int .i64 0,.int .i64 2]
def gotPost (v:Value) (w:World) (e:Ending) (w':World):Prop:=e=.returned v∧Below w.heap.size w w'
theorem noItem_any (w:World):Calls Tryz.prog 253 #[] w (gotPost (gotV none) w):=by
 go_enter Tryz.func253,Tryz.ntmps253
 go_wp2
 exact bodyPost_ret (v:=gotV none) (by simp [results,Tryz.results253,go_sem,gotV]) rfl ⟨rfl,(Below.refl _ _).alloc (zR _) _⟩
def readBoolL (l:List UInt8):Option Got:=match l with
 | _ :: c :: _=>if c==48||c==49 then some ⟨6,(c.toNat:Int)-48,[],2⟩else none
 | _=>none
theorem readBoolean_any (s : ByteArray) (w : World) (hs : s.size ≤ 100000) :
    Calls Tryz.prog 260 #[.string s] w (gotPost (gotV (readBoolL s.data.toList)) w) := by
  have cN := fun W => noItem_any W
  have hb0 : Below w.heap.size w (w.alloc (.cells #[.int .i64 0, .int .i64 0, .string ⟨#[]⟩] 113)) := (Below.refl _ _).alloc (zR _) _
  have Hno : ∀ w1, Below (w.alloc (.cells #[.int .i64 0, .int .i64 0, .string ⟨#[]⟩] 113)).heap.size (w.alloc (.cells #[.int .i64 0, .int .i64 0, .string ⟨#[]⟩] 113)) w1 → (w1.cell? ⟨w.heap.size, 0, none⟩ = some (.int .i64 0) ∧ w1.cell? ⟨w.heap.size, 1, none⟩ = some (.int .i64 0) ∧ w1.cell? ⟨w.heap.size, 2, none⟩ = some (.string ⟨#[]⟩)) ∧ (w1.frozen? ⟨w.heap.size, 0, none⟩ = false ∧ w1.frozen? ⟨w.heap.size, 1, none⟩ = false ∧ w1.frozen? ⟨w.heap.size, 2, none⟩ = false) := by
    intro w1 hb
    refine ⟨⟨?_, ?_, ?_⟩, ?_, ?_, ?_⟩
    · rw [hb.cell (p := ⟨w.heap.size, 0, none⟩) (by simp)]; simp
    · rw [hb.cell (p := ⟨w.heap.size, 1, none⟩) (by simp)]; simp
    · rw [hb.cell (p := ⟨w.heap.size, 2, none⟩) (by simp)]; simp
    · rw [hb.frozen (p := ⟨w.heap.size, 0, none⟩) (by simp)]; simp
    · rw [hb.frozen (p := ⟨w.heap.size, 1, none⟩) (by simp)]; simp
    · rw [hb.frozen (p := ⟨w.heap.size, 2, none⟩) (by simp)]; simp
  have HNo := zH Hno
  clear Hno
  by_cases h2 : 2 ≤ s.size
  · have h1 : 1 < s.size := by omega
    have e0 := drop_cons_at s 0 (by omega)
    have e1 := drop_cons_at s 1 h1
    rw [List.drop_zero] at e0
    rw [e0, e1]
    have b0 : (((s[1]'h1).toNat : Int) == 48) = (s[1]'h1 == 48) := byte_beq _ 48
    have b1 : (((s[1]'h1).toNat : Int) == 49) = (s[1]'h1 == 49) := byte_beq _ 49
    clear e0 e1
    have hd : decide (s.size < 2) = false := by simp; omega
    rw [readBoolL, ← b0, ← b1]
    clear b0 b1
    cases g0 : (((s[1]'h1).toNat : Int) == 48) <;> cases g1 : (((s[1]'h1).toNat : Int) == 49)
    · have n0 : (((s[1]'h1).toNat : Int) != 48) = true := by rw [bne, g0] <;> rfl
      have n1 : (((s[1]'h1).toNat : Int) != 49) = true := by rw [bne, g1] <;> rfl
      clear g0 g1
      show Calls _ _ _ _ (gotPost (gotV none) w)
      go_enter Tryz.func260, Tryz.ntmps260
      go_wp2_with fail
      refine (cN _).mono ?_
      rintro e w1 ⟨rfl, hb1⟩
      obtain ⟨⟨p0, p1, p2⟩, f0, f1, f2⟩ := HNo.out w1 hb1
      have hb1' := hb0.trans (hb1.mono hb0.size)
      clear hb1
      simp only [gotV]
      go_wp2
      exact bodyPost_ret (v := gotV none) (by simp [results, Tryz.results260, go_sem, gotV, p0, p1, p2]) rfl ⟨rfl, ((hb1'.setCell (by simp) _).setCell (by simp) _).setCell (by simp) _⟩
    all_goals
      first
      | (exfalso; simp only [beq_iff_eq] at g0 g1; omega)
      | (have hc : 48 ≤ ((s[1]'h1).toNat : Int) ∧ ((s[1]'h1).toNat : Int) ≤ 49 := by
           simp only [beq_iff_eq, beq_eq_false_iff_ne, ne_eq] at g0 g1; omega
         obtain ⟨k0, k1⟩ := hc
         have n0 : (((s[1]'h1).toNat : Int) != 48) = !(((s[1]'h1).toNat : Int) == 48) := rfl
         have n1 : (((s[1]'h1).toNat : Int) != 49) = !(((s[1]'h1).toNat : Int) == 49) := rfl
         rw [g0] at n0
         rw [g1] at n1
         clear g0 g1
         simp only [Bool.not_true, Bool.not_false] at n0 n1
         show Calls _ _ _ _ (gotPost (gotV (some ⟨6, ((s[1]'h1).toNat : Int) - 48, [], 2⟩)) w)
         go_enter Tryz.func260, Tryz.ntmps260
         go_wp2
         exact bodyPost_ret (v := gotV (some ⟨6, ((s[1]'h1).toNat : Int) - 48, [], 2⟩)) (by simp [results, Tryz.results260, go_sem, gotV, strB]) rfl ⟨rfl, (Below.refl _ _).alloc (zR _) _⟩)
  · have hd : decide (s.size < 2) = true := by simp; omega
    have hn : readBoolL s.data.toList = none := by
      have hl : s.data.toList.length < 2 := by rw [← Lib.size_eq]; omega
      match hq : s.data.toList, hl with
      | [], _ => rfl
      | [_], _ => rfl
    rw [hn]
    clear hn
    go_enter Tryz.func260, Tryz.ntmps260
    go_wp2_with fail
    refine (cN _).mono ?_
    rintro e w1 ⟨rfl, hb1⟩
    obtain ⟨⟨p0, p1, p2⟩, f0, f1, f2⟩ := HNo.out w1 hb1
    have hb1' := hb0.trans (hb1.mono hb0.size)
    clear hb1
    simp only [gotV]
    go_wp2
    exact bodyPost_ret (v := gotV none) (by simp [results, Tryz.results260, go_sem, gotV, p0, p1, p2]) rfl ⟨rfl, ((hb1'.setCell (by simp) _).setCell (by simp) _).setCell (by simp) _⟩
def c0 (x y z:UInt8):UInt8:=alp ((65536*x.toNat+256*y.toNat+z.toNat) / 262144)
def c1 (x y z:UInt8):UInt8:=alp ((65536*x.toNat+256*y.toNat+z.toNat) / 4096 % 64)
def c2 (x y z:UInt8):UInt8:=alp ((65536*x.toNat+256*y.toNat+z.toNat) / 64 % 64)
def c3 (x y z:UInt8):UInt8:=alp ((65536*x.toNat+256*y.toNat+z.toNat) % 64)
def encL:List UInt8→List UInt8
 | x :: y :: z :: r=>c0 x y z :: c1 x y z :: c2 x y z :: c3 x y z :: encL r
 | [x,y]=>[c0 x y 0,c1 x y 0,c2 x y 0,61]
 | [x]=>[c0 x 0 0,c1 x 0 0,61,61]
 | []=>[]
theorem characters_is (x y z a b c d:UInt8) (w:World) (hA:Alph w) (ha:c0 x y z=a) (hb:c1 x y z=b) (hc:c2 x y z=c) (hd:c3 x y z=d) :
  Calls Tryz.prog 275 #[.agg #[.int .u8 x.toNat,.int .u8 y.toNat,.int .u8 z.toNat]] w fun e w'=>e=.returned (.agg #[.int .u8 a.toNat,.int .u8 b.toNat,.int .u8 c.toNat,.int .u8 d.toNat])∧Below w.heap.size w w':=by
 subst ha hb hc hd
 exact characters_any x y z w hA
theorem info_u8:(Tryz.prog.info? 5).map (fun i=>(i.zero,i.size,i.bytes))=some (some (.int .u8 0),1,1):=by kernel_rfl
theorem size_u8:(Tryz.prog.info? 5).map (·.size)=some 1:=by kernel_rfl
def strLen:Value→Nat | .string t=>t.size | _=>0
theorem cells_new (W:World) (l:List Value) (t:TypeId):∀(j:Nat) u,l[j]? = some u→(W.alloc (.cells l.toArray t)).cell? ((⟨W.heap.size,0,none⟩:Addr).add j)=some u:=by
 intro j u h
 rw [add_none]
 simp [h]
theorem encode_any (s:ByteArray) (w:World) (hs:s.size≤1000000) (hA:Alph w) :
  Calls Tryz.prog 270 #[.string s] w fun e w'=>e=.returned (.string (strB (encL s.data.toList)))∧Below w.heap.size w w':=by
 have HA:=zH hA
 clear hA
 obtain⟨i0,hi,hz0,hz1,hz2⟩:=info_parts info_u8
 have Hz:=zH size_u8
 go_enter Tryz.func270,Tryz.ntmps270
 go_wp2
 go_loopw [0,3] (fun x v wr=>∃(t:ByteArray) (acc:List UInt8),x=.string t∧acc.length+4*t.size≤4*s.size∧Hid (encL s.data.toList=acc++encL t.data.toList)∧wr.ownsRow w.heap.size 5 1 v acc.length (acc.map u8V)∧Below w.heap.size w wr) (fun x _ _=>strLen x)
 case atStart=>exact⟨s,[],rfl,by simp,zH rfl,World.ownsRow_nil _ _ _ _,Below.refl _ _⟩
 case round =>
  obtain⟨t,acc,rfl,hle,H,hown,hb⟩:=hrel
  have HAr:Hid (Alph wr):=zH (HA.out.below hb)
  obtain⟨p,hp⟩:∃p,t.data.toList=p:=⟨_,rfl⟩
  have htl:=Lib.size_eq t
  rw [hp]at htl
  rcases p with _ | ⟨x,_ | ⟨y,_ | ⟨z,r⟩⟩⟩
  ·have Ht:=zH hp
   have hemp:t.toList.isEmpty=true:=by rw [Lib.toList_data,hp]<;>rfl
   clear hp htl
   have hcv:=run_owned_str (P:=Tryz.prog) Tryz.underlying23 Tryz.underlying5 Tryz.underlying9 hown
   go_wp2
   go_ret
   exact⟨by rw [H.out,Ht.out,encL,List.append_nil]<;>rfl,hb⟩
  ·have Ht:=zH hp
   simp only [List.length_cons,List.length_nil]at htl
   have hlen:1≤t.size:=by omega
   have hemp:t.toList.isEmpty=false:=by rw [Lib.toList_data,hp]<;>rfl
   have Htl:=zH htl
   clear hp htl
   obtain⟨a,ha⟩:∃a,c0 x 0 0=a:=⟨_,rfl⟩
   obtain⟨b,hb'⟩:∃a,c1 x 0 0=a:=⟨_,rfl⟩
   obtain⟨c,hc⟩:∃a,c2 x 0 0=a:=⟨_,rfl⟩
   obtain⟨d,hd⟩:∃a,c3 x 0 0=a:=⟨_,rfl⟩
   have cC:=fun W hW=>characters_is x 0 0 a b c d W hW ha hb' hc hd
   have Hstep:Hid (encL t.data.toList=[a,b,61,61]++encL ([]:List UInt8)):=zH (by rw [Ht.out,encL];simp only [ha,hb',encL,List.cons_append,List.nil_append])
   have Hrest:Hid ((t.extract 1 t.size).data.toList=([]:List UInt8)):=zH (by rw [Lib.extract_to_end,Ht.out]<;>rfl)
   clear ha hb' hc hd
   have hcp:=run_copy_str (P:=Tryz.prog) wr 23 9 3 5 0 3 3 t #[.int .u8 0,.int .u8 0,.int .u8 0] #[.int .u8 (x.toNat:Int),.int .u8 0,.int .u8 0] 289 Tryz.underlying23 Hz.out 1 (by have:=Htl.out;show min _ _=_;omega) (by simp) (by rw [Ht.out]<;>rfl)
   go_wp2_with fail
   refine(cC _ (HAr.out.below ((Below.refl _ _).alloc (zR _) _))).mono ?_
   rintro e w1 ⟨rfl,hb1⟩
   clear hcp cC
   have hb1':Below wr.heap.size wr w1:=((Below.refl _ _).alloc (zR _) _).trans (hb1.mono (by simp))
   clear hb1
   have hcp2:=run_copy_str (P:=Tryz.prog) w1 23 9 3 5 2 2 2 ⟨#[61,61]⟩ #[.int .u8 (a.toNat:Int),.int .u8 (b.toNat:Int),.int .u8 (c.toNat:Int),.int .u8 (d.toNat:Int)] #[.int .u8 (a.toNat:Int),.int .u8 (b.toNat:Int),.int .u8 61,.int .u8 61] 292 Tryz.underlying23 Hz.out 2 rfl (by simp) rfl
   go_wp2_with (at_builtin;refine wpList_append_own _ rfl _ _ 23 rfl w.heap.size 5 i0 (.int .u8 0) 1 1 Tryz.underlying23 hi hz0 hz1 hz2 rfl (by decide) _ _ _ rfl ((ownsRow_later hown hb1').alloc _) ⟨_,0,none⟩ 4 4 [.int .u8 (a.toNat:Int),.int .u8 (b.toNat:Int),.int .u8 61,.int .u8 61] rfl rfl (cells_new _ _ _) (by simp [Value.oneCell']) (by unfold maxLen;omega) (by omega) (by have:=hb.size;have:=hb1'.size;simp;omega) ?_;intro v' w2 hown' hgrow _)
   clear hcp2
   go_roundw
   case rel =>
    have hz3:=hb.size
    have hz4:=hb1'.size
    have hb3:=hb.trans (hb1'.mono hb.size)
    have hsz:(t.extract 1 t.size).size+1=t.size:=by rw [Lib.size_eq,Hrest.out,Htl.out]<;>rfl
    refine⟨_,acc++[a,b,61,61],rfl,by simp only [List.length_append,List.length_cons,List.length_nil];omega,zH ?_,?_,?_⟩
    ·rw [H.out,Hstep.out,Hrest.out,List.append_assoc]
    ·simpa [u8V] using hown'
    ·exact(hb3.alloc (by omega) _).grown hgrow (by simp;omega) (fun k e=>(World.ownsRow.lt hown k e).1)
   case measure =>
    have hsz:(t.extract 1 t.size).size+1=t.size:=by rw [Lib.size_eq,Hrest.out,Htl.out]<;>rfl
    simp only [strLen]
    omega
  ·have Ht:=zH hp
   simp only [List.length_cons,List.length_nil]at htl
   have hlen:2≤t.size:=by omega
   have hemp:t.toList.isEmpty=false:=by rw [Lib.toList_data,hp]<;>rfl
   have Htl:=zH htl
   clear hp htl
   obtain⟨a,ha⟩:∃a,c0 x y 0=a:=⟨_,rfl⟩
   obtain⟨b,hb'⟩:∃a,c1 x y 0=a:=⟨_,rfl⟩
   obtain⟨c,hc⟩:∃a,c2 x y 0=a:=⟨_,rfl⟩
   obtain⟨d,hd⟩:∃a,c3 x y 0=a:=⟨_,rfl⟩
   have cC:=fun W hW=>characters_is x y 0 a b c d W hW ha hb' hc hd
   have Hstep:Hid (encL t.data.toList=[a,b,c,61]++encL ([]:List UInt8)):=zH (by rw [Ht.out,encL];simp only [ha,hb',hc,encL,List.cons_append,List.nil_append])
   have Hrest:Hid ((t.extract 2 t.size).data.toList=([]:List UInt8)):=zH (by rw [Lib.extract_to_end,Ht.out]<;>rfl)
   clear ha hb' hc hd
   have hcp:=run_copy_str (P:=Tryz.prog) wr 23 9 3 5 0 3 3 t #[.int .u8 0,.int .u8 0,.int .u8 0] #[.int .u8 (x.toNat:Int),.int .u8 (y.toNat:Int),.int .u8 0] 289 Tryz.underlying23 Hz.out 2 (by have:=Htl.out;show min _ _=_;omega) (by simp) (by rw [Ht.out]<;>rfl)
   go_wp2_with fail
   refine(cC _ (HAr.out.below ((Below.refl _ _).alloc (zR _) _))).mono ?_
   rintro e w1 ⟨rfl,hb1⟩
   clear hcp cC
   have hb1':Below wr.heap.size wr w1:=((Below.refl _ _).alloc (zR _) _).trans (hb1.mono (by simp))
   clear hb1
   have hcp2:=run_copy_str (P:=Tryz.prog) w1 23 9 3 5 3 1 1 ⟨#[61,61]⟩ #[.int .u8 (a.toNat:Int),.int .u8 (b.toNat:Int),.int .u8 (c.toNat:Int),.int .u8 (d.toNat:Int)] #[.int .u8 (a.toNat:Int),.int .u8 (b.toNat:Int),.int .u8 (c.toNat:Int),.int .u8 61] 292 Tryz.underlying23 Hz.out 1 rfl (by simp) rfl
   go_wp2_with (at_builtin;refine wpList_append_own _ rfl _ _ 23 rfl w.heap.size 5 i0 (.int .u8 0) 1 1 Tryz.underlying23 hi hz0 hz1 hz2 rfl (by decide) _ _ _ rfl ((ownsRow_later hown hb1').alloc _) ⟨_,0,none⟩ 4 4 [.int .u8 (a.toNat:Int),.int .u8 (b.toNat:Int),.int .u8 (c.toNat:Int),.int .u8 61] rfl rfl (cells_new _ _ _) (by simp [Value.oneCell']) (by unfold maxLen;omega) (by omega) (by have:=hb.size;have:=hb1'.size;simp;omega) ?_;intro v' w2 hown' hgrow _)
   clear hcp2
   go_roundw
   case rel =>
    have hz3:=hb.size
    have hz4:=hb1'.size
    have hb3:=hb.trans (hb1'.mono hb.size)
    have hsz:(t.extract 2 t.size).size+2=t.size:=by rw [Lib.size_eq,Hrest.out,Htl.out]<;>rfl
    refine⟨_,acc++[a,b,c,61],rfl,by simp only [List.length_append,List.length_cons,List.length_nil];omega,zH ?_,?_,?_⟩
    ·rw [H.out,Hstep.out,Hrest.out,List.append_assoc]
    ·simpa [u8V] using hown'
    ·exact(hb3.alloc (by omega) _).grown hgrow (by simp;omega) (fun k e=>(World.ownsRow.lt hown k e).1)
   case measure =>
    have hsz:(t.extract 2 t.size).size+2=t.size:=by rw [Lib.size_eq,Hrest.out,Htl.out]<;>rfl
    simp only [strLen]
    omega
  ·have Ht:=zH hp
   simp only [List.length_cons]at htl
   have hlen:3≤t.size:=by omega
   have hemp:t.toList.isEmpty=false:=by rw [Lib.toList_data,hp]<;>rfl
   have Htl:=zH htl
   clear hp htl
   obtain⟨a,ha⟩:∃a,c0 x y z=a:=⟨_,rfl⟩
   obtain⟨b,hb'⟩:∃a,c1 x y z=a:=⟨_,rfl⟩
   obtain⟨c,hc⟩:∃a,c2 x y z=a:=⟨_,rfl⟩
   obtain⟨d,hd⟩:∃a,c3 x y z=a:=⟨_,rfl⟩
   have cC:=fun W hW=>characters_is x y z a b c d W hW ha hb' hc hd
   have Hstep:Hid (encL t.data.toList=[a,b,c,d]++encL r):=zH (by rw [Ht.out,encL];simp only [ha,hb',hc,hd,List.cons_append,List.nil_append])
   have Hrest:Hid ((t.extract 3 t.size).data.toList=r):=zH (by rw [Lib.extract_to_end,Ht.out]<;>rfl)
   clear ha hb' hc hd
   have hcp:=run_copy_str (P:=Tryz.prog) wr 23 9 3 5 0 3 3 t #[.int .u8 0,.int .u8 0,.int .u8 0] #[.int .u8 (x.toNat:Int),.int .u8 (y.toNat:Int),.int .u8 (z.toNat:Int)] 289 Tryz.underlying23 Hz.out 3 (Nat.min_eq_right hlen) (by simp) (by rw [Ht.out]<;>rfl)
   go_wp2_with fail
   refine(cC _ (HAr.out.below ((Below.refl _ _).alloc (zR _) _))).mono ?_
   rintro e w1 ⟨rfl,hb1⟩
   clear hcp cC
   have hb1':Below wr.heap.size wr w1:=((Below.refl _ _).alloc (zR _) _).trans (hb1.mono (by simp))
   clear hb1
   have hcp2:=run_copy_str (P:=Tryz.prog) w1 23 9 3 5 0 0 0 ⟨#[61,61]⟩ #[.int .u8 (a.toNat:Int),.int .u8 (b.toNat:Int),.int .u8 (c.toNat:Int),.int .u8 (d.toNat:Int)] #[.int .u8 (a.toNat:Int),.int .u8 (b.toNat:Int),.int .u8 (c.toNat:Int),.int .u8 (d.toNat:Int)] 292 Tryz.underlying23 Hz.out 0 rfl (by simp) rfl
   go_wp2_with (at_builtin;refine wpList_append_own _ rfl _ _ 23 rfl w.heap.size 5 i0 (.int .u8 0) 1 1 Tryz.underlying23 hi hz0 hz1 hz2 rfl (by decide) _ _ _ rfl ((ownsRow_later hown hb1').alloc _) ⟨_,0,none⟩ 4 4 [.int .u8 (a.toNat:Int),.int .u8 (b.toNat:Int),.int .u8 (c.toNat:Int),.int .u8 (d.toNat:Int)] rfl rfl (cells_new _ _ _) (by simp [Value.oneCell']) (by unfold maxLen;omega) (by omega) (by have:=hb.size;have:=hb1'.size;simp;omega) ?_;intro v' w2 hown' hgrow _)
   clear hcp2
   go_roundw
   case rel =>
    have hz3:=hb.size
    have hz4:=hb1'.size
    have hb3:=hb.trans (hb1'.mono hb.size)
    have hsz:(t.extract 3 t.size).size+3=t.size:=by rw [Lib.size_eq,Hrest.out,Htl.out]
    refine⟨_,acc++[a,b,c,d],rfl,by simp only [List.length_append,List.length_cons,List.length_nil];omega,zH ?_,?_,?_⟩
    ·rw [H.out,Hstep.out,Hrest.out,List.append_assoc]
    ·simpa [u8V] using hown'
    ·exact(hb3.alloc (by omega) _).grown hgrow (by simp;omega) (fun k e=>(World.ownsRow.lt hown k e).1)
   case measure =>
    have hsz:(t.extract 3 t.size).size+3=t.size:=by rw [Lib.size_eq,Hrest.out,Htl.out]
    simp only [strLen]
    omega
def inNum (n:Int):Bool:=decide (-1000000000000000<n)&&decide (n<1000000000000000)
def rightL (k n:Int) (s:List UInt8):Bool:=
 if k=1∨k=2 then s.isEmpty&&inNum n
 else if k=6 then s.isEmpty&&(n==0||n==1)
 else if k=3 then n==0&&prL s
 else if k=4 then n==0&&(!s.isEmpty&&tlen s==s.length)
 else if k=5 then n==0
 else false
theorem right_num (k n:Int) (s:List UInt8) (h:k=1∨k=2):rightL k n s=(s.isEmpty&&inNum n):=by rw [rightL,if_pos h]
theorem right_bool (n:Int) (s:List UInt8):rightL 6 n s=(s.isEmpty&&(n==0||n==1)):=rfl
theorem right_str (n:Int) (s:List UInt8):rightL 3 n s=(n==0&&prL s):=rfl
theorem right_tok (n:Int) (s:List UInt8):rightL 4 n s=(n==0&&(!s.isEmpty&&tlen s==s.length)):=rfl
theorem right_bytes (n:Int) (s:List UInt8):rightL 5 n s=(n==0):=rfl
end Go.Proofs.YtfaedmbfabfmeaaGreatDoor
