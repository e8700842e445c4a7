/- The law's own 'awake' over package policy: it returns true. -/
import Derived.Test.YtfaedmbfabfmeaaGreatDoorYMChsP
import Derived.Test.YtfaedmbfabfmeaaGreatDoorYPoE
import Derived.Test.YtfaedmbfabfmeaaGreatDoorYPoG
import Derived.Test.YtfaedmbfabfmeaaGreatDoorYPoI
import Derived.Test.YtfaedmbfabfmeaaGreatDoorYPoJ
set_option linter.unusedSimpArgs false
set_option maxRecDepth 100000
set_option maxHeartbeats 16000000
namespace Go.Proofs.YtfaedmbfabfmeaaGreatDoor
open Go.RowKit Go.Shelf Go.Lib
theorem byt_nil (W:World):BytF 0 W (.slice none 0 0) []:=⟨none,0,rfl,.inl rfl⟩
theorem awake14_any (w:World) (hA:Alph w) (hT:Tabs w) (hC:Cal w) :
  Calls Tryz.prog 7 #[] w fun e w'=>e=.returned (.bool true)∧Below w.heap.size w w':=by
 have HC:=zH hC
 have HA:=zH hA
 have HT:=zH hT
 clear hC hA hT
 have cN:=none_any
 rw [rulV_none]at cN
 have c1:=fun W v (h:Flds 0 W v poF) hA hT=>pstor_any 0 ⟨nGet,[],[],[]⟩ ⟨200,poF,[]⟩ (.slice none 0 0) (.slice none 0 0) v (.slice none 0 0) W (Flds.nothing 0 W) (byt_nil W) h (byt_nil W) po_nok po_ok po_nil po_j hA hT
 have c2:=fun W v (h:Flds 0 W v poF) hA hT=>pstor_any 0 ⟨[80,79,83,84],[],[],[]⟩ ⟨200,poF,[]⟩ (.slice none 0 0) (.slice none 0 0) v (.slice none 0 0) W (Flds.nothing 0 W) (byt_nil W) h (byt_nil W) po_nok po_ok po_nil po_j hA hT
 have c3:=fun W v (h:Flds 0 W v poF) hA hT hC=>plif_any 0 ⟨200,poF,[]⟩ v (.slice none 0 0) 0 W h (byt_nil W) po_ok po_j hA hT hC
 have c4:=fun W=>pjudge_any 5 10 ru0 ru0 W (by decide) (by decide) (by decide) (by decide)
 have c5:=fun W=>pjudge_any 10 10 ru0 ru0 W (by decide) (by decide) (by decide) (by decide)
 have c6:=fun W=>pjudge_any 5 10 ru0 ruC W (by decide) (by decide) (by decide) (by decide)
 have c7:=fun W=>pjudge_any 5 10 ruI ruC W (by decide) (by decide) (by decide) (by decide)
 have c8:=fun W=>ponerr_any 20 10 ru0 W (by decide) (by decide) (by decide) (by decide)
 have c9:=fun W=>ponerr_any 5 10 ruC W (by decide) (by decide) (by decide) (by decide)
 dsimp only at c1 c2 c3
 rw [po_1,show strB nGet=(⟨#[71,69,84]⟩:ByteArray)from rfl,show strB []=(⟨#[]⟩:ByteArray)from rfl]at c1
 rw [po_2,show strB [80,79,83,84]=(⟨#[80,79,83,84]⟩:ByteArray)from rfl,show strB []=(⟨#[]⟩:ByteArray)from rfl]at c2
 rw [po_3]at c3
 rw [po_4]at c4
 rw [po_5]at c5
 rw [po_6]at c6
 rw [po_7]at c7
 rw [po_8]at c8
 rw [po_9]at c9
 dsimp only [Ru_RuP.v,ru0,ruI,ruC]at c4 c5 c6 c7 c8 c9
 have sA:∀(W:World) (o:Obj),(W.alloc o).heap.size=W.heap.size+1:=fun W o=>by simp
 have HH:=((boxL.one w [.string ⟨#[71,69,84]⟩,.string ⟨#[]⟩,.slice none 0 0,.slice none 0 0] 25).add [.string ⟨#[99,97,99,104,101,45,99,111,110,116,114,111,108]⟩,.string ⟨#[109,97,120,45,97,103,101,61,49,48]⟩] 51).add [.int .i64 200,.slice (some ⟨w.heap.size+1,0,none⟩) 1 1,.slice none 0 0] 27
 have hf:=(flds_po (w.alloc (.cells #[.string ⟨#[71,69,84]⟩,.string ⟨#[]⟩,.slice none 0 0,.slice none 0 0] 25)) nCtl [109,97,120,45,97,103,101,61,49,48] 51).below ((Below.refl _ _).alloc (zR _) (.cells #[.int .i64 200,.slice (some ⟨w.heap.size+1,0,none⟩) 1 1,.slice none 0 0] 27))
 simp only [sA]at HH hf
 have HF:=zH hf
 clear hf
 go_enter Tryz.func7,Tryz.ntmps7
 go_wp2_with fail
 refine(cN _).mono ?_
 rintro e w1 ⟨rfl,hb⟩
 replace HH:=HH.nx hb
 replace HF:=zH (HF.out.below hb)
 clear hb
 clear cN
 replace HH:=((HH.add [.bool false,.bool false,.bool false,.bool false,.bool false,.bool false,.bool false,.bool false,.int .i64 (-1),.int .i64 (-1),.int .i64 (-1),.int .i64 (-1),.int .i64 (-1)] 34).add [.bool false,.bool false,.bool false,.bool false,.bool false,.bool false,.bool true,.bool false,.int .i64 (-1),.int .i64 (-1),.int .i64 (-1),.int .i64 (-1),.int .i64 (-1)] 34).add [.bool false,.bool true,.bool false,.bool false,.bool false,.bool false,.bool false,.bool false,.int .i64 (-1),.int .i64 (-1),.int .i64 (-1),.int .i64 (-1),.int .i64 (-1)] 34
 replace HF:=zH (HF.out.below ((((Below.refl w1.heap.size w1).alloc (zR _) (.cells #[.bool false,.bool false,.bool false,.bool false,.bool false,.bool false,.bool false,.bool false,.int .i64 (-1),.int .i64 (-1),.int .i64 (-1),.int .i64 (-1),.int .i64 (-1)] 34)).alloc (by simp<;>omega) (.cells #[.bool false,.bool false,.bool false,.bool false,.bool false,.bool false,.bool true,.bool false,.int .i64 (-1),.int .i64 (-1),.int .i64 (-1),.int .i64 (-1),.int .i64 (-1)] 34)).alloc (by simp<;>omega) (.cells #[.bool false,.bool true,.bool false,.bool false,.bool false,.bool false,.bool false,.bool false,.int .i64 (-1),.int .i64 (-1),.int .i64 (-1),.int .i64 (-1),.int .i64 (-1)] 34)))
 simp only [sA]at HH
 have qf0:=((HH.at 5 rfl).2 0 _ rfl).1
 have qf1:=((HH.at 5 rfl).2 1 _ rfl).1
 have qf2:=((HH.at 5 rfl).2 2 _ rfl).1
 have qf3:=((HH.at 5 rfl).2 3 _ rfl).1
 have pf0:=((HH.at 3 rfl).2 0 _ rfl).1
 have pf1:=((HH.at 3 rfl).2 1 _ rfl).1
 have pf2:=((HH.at 3 rfl).2 2 _ rfl).1
 go_wp2_with fail
 refine(c1 _ _ HF.out (Alph.below HA.out HH.b) (Utf8Tabs_below HT.out HH.b)).mono ?_
 rintro e w2 ⟨rfl,hb⟩
 clear qf0 qf1 qf2 qf3 pf0 pf1 pf2
 replace HH:=HH.nx hb
 replace HF:=zH (HF.out.below hb)
 clear hb
 clear c1
 have pf0:=((HH.at 3 rfl).2 0 _ rfl).1
 have pf1:=((HH.at 3 rfl).2 1 _ rfl).1
 have pf2:=((HH.at 3 rfl).2 2 _ rfl).1
 go_wp2_with fail
 refine(c2 _ _ HF.out (Alph.below HA.out HH.b) (Utf8Tabs_below HT.out HH.b)).mono ?_
 rintro e w3 ⟨rfl,hb⟩
 clear pf0 pf1 pf2
 replace HH:=HH.nx hb
 replace HF:=zH (HF.out.below hb)
 clear hb
 clear c2
 have pf0:=((HH.at 3 rfl).2 0 _ rfl).1
 have pf1:=((HH.at 3 rfl).2 1 _ rfl).1
 have pf2:=((HH.at 3 rfl).2 2 _ rfl).1
 go_wp2_with fail
 refine(c3 _ _ HF.out (Alph.below HA.out HH.b) (Utf8Tabs_below HT.out HH.b) (Cal.below HC.out HH.b)).mono ?_
 rintro e w4 ⟨rfl,hb⟩
 clear pf0 pf1 pf2
 replace HH:=HH.nx hb
 replace HF:=zH (HF.out.below hb)
 clear hb
 clear c3
 obtain⟨nf0,nf1,nf2,nf3,nf4,nf5,nf6,nf7,nf8,nf9,nf10,nf11,nf12⟩:=(HH.at 2 rfl).c13
 go_wp2_with fail
 refine(c4 _).mono ?_
 rintro e w5 ⟨rfl,hb⟩
 clear nf0 nf1 nf2 nf3 nf4 nf5 nf6 nf7 nf8 nf9 nf10 nf11 nf12
 replace HH:=HH.nx hb
 replace HF:=zH (HF.out.below hb)
 clear hb
 clear c4
 obtain⟨nf0,nf1,nf2,nf3,nf4,nf5,nf6,nf7,nf8,nf9,nf10,nf11,nf12⟩:=(HH.at 2 rfl).c13
 go_wp2_with fail
 refine(c5 _).mono ?_
 rintro e w6 ⟨rfl,hb⟩
 clear nf0 nf1 nf2 nf3 nf4 nf5 nf6 nf7 nf8 nf9 nf10 nf11 nf12
 replace HH:=HH.nx hb
 replace HF:=zH (HF.out.below hb)
 clear hb
 clear c5
 obtain⟨nf0,nf1,nf2,nf3,nf4,nf5,nf6,nf7,nf8,nf9,nf10,nf11,nf12⟩:=(HH.at 2 rfl).c13
 obtain⟨df0,df1,df2,df3,df4,df5,df6,df7,df8,df9,df10,df11,df12⟩:=(HH.at 0 rfl).c13
 go_wp2_with fail
 refine(c6 _).mono ?_
 rintro e w7 ⟨rfl,hb⟩
 clear nf0 nf1 nf2 nf3 nf4 nf5 nf6 nf7 nf8 nf9 nf10 nf11 nf12 df0 df1 df2 df3 df4 df5 df6 df7 df8 df9 df10 df11 df12
 replace HH:=HH.nx hb
 replace HF:=zH (HF.out.below hb)
 clear hb
 clear c6
 obtain⟨if0,if1,if2,if3,if4,if5,if6,if7,if8,if9,if10,if11,if12⟩:=(HH.at 1 rfl).c13
 obtain⟨df0,df1,df2,df3,df4,df5,df6,df7,df8,df9,df10,df11,df12⟩:=(HH.at 0 rfl).c13
 go_wp2_with fail
 refine(c7 _).mono ?_
 rintro e w8 ⟨rfl,hb⟩
 clear if0 if1 if2 if3 if4 if5 if6 if7 if8 if9 if10 if11 if12 df0 df1 df2 df3 df4 df5 df6 df7 df8 df9 df10 df11 df12
 replace HH:=HH.nx hb
 replace HF:=zH (HF.out.below hb)
 clear hb
 clear c7
 obtain⟨nf0,nf1,nf2,nf3,nf4,nf5,nf6,nf7,nf8,nf9,nf10,nf11,nf12⟩:=(HH.at 2 rfl).c13
 go_wp2_with fail
 refine(c8 _).mono ?_
 rintro e w9 ⟨rfl,hb⟩
 clear nf0 nf1 nf2 nf3 nf4 nf5 nf6 nf7 nf8 nf9 nf10 nf11 nf12
 replace HH:=HH.nx hb
 replace HF:=zH (HF.out.below hb)
 clear hb
 clear c8
 obtain⟨df0,df1,df2,df3,df4,df5,df6,df7,df8,df9,df10,df11,df12⟩:=(HH.at 0 rfl).c13
 go_wp2_with fail
 refine(c9 _).mono ?_
 rintro e w10 ⟨rfl,hb⟩
 clear df0 df1 df2 df3 df4 df5 df6 df7 df8 df9 df10 df11 df12
 replace HH:=HH.nx hb
 replace HF:=zH (HF.out.below hb)
 clear hb
 clear c9
 go_wp2_with fail
 go_ret
 exact⟨rfl,HH.b⟩
end Go.Proofs.YtfaedmbfabfmeaaGreatDoor
