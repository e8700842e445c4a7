/- A drawn region by hand, its condition an anchor: whatever is made later, what lay in that world lies as it did. Behind each call the anchor is weighed anew, so that what a call made is known from there on. -/
import Derived.Test.YtfaedmbfabfmeaaGreatDoorYMBasP
import Derived.Deep.RegionHeld3
namespace Go.Proofs.YtfaedmbfabfmeaaGreatDoor
open Go.RowKit
theorem wpAnyH_strong {P:Program} {md:Region.Mode} {ops:Array Oper} {Q:Exit→Act→World→Prop} {S S':World→Prop} (h:∀w,S' w→S w) :
  ∀(fuel:Nat) (listed:Array Bool) (a:Act) (w:World),wpAnyH P md ops Q S' fuel listed a w→wpAnyH P md ops Q S fuel listed a w
 | 0,_,_,_,H=>H
 | fuel+1,_,_,_,H=>⟨H.1,fun i hi=>wpOp_mono (fun a' w' h'=>⟨h _ h'.1,wpAnyH_strong h fuel _ a' w' h'.2⟩) (H.2 i hi)⟩
theorem anchor_refl (V:World):belowA V V:=Below.refl _ _
theorem anchor_next {V W:World} (hh:Below V.heap.size V W):∀U,belowA W U→belowA V U:=fun _ h=>Below.trans hh (Below.mono h hh.size)
section
variable {P:Program} {md:Region.Mode} {ops:Array Oper} {Q:Exit→Act→World→Prop} {fuel:Nat} {listed:Array Bool} {V:World}
def pnQ (Q:Exit→Act→World→Prop):Prop:=∀c (a:Act) t w,Q (.panic c) { a with tmps:=t } w→Q (.panic c) a w
def mayB (md:Region.Mode) (ops:Array Oper) (listed:Array Bool) (i:Nat):Bool:=Region.noSelect ops&&Region.free md ops listed i&&(Region.ready md ops listed).contains i
theorem wBg {id:Nat} {a:Act} {w:World} (hm:P.follows .mixedOrders=true) (hQ:pnQ Q) (h:pnQ Q→wpAnyH P .any ops Q (belowA w.drew) ops.size (Array.replicate ops.size false) a w.drew):(Code.region id ops true).wp P Q a w:=
 wp_region_held_drew hm (anchor_refl _) fun _=>h hQ
theorem wTk {l:List Value} {d:_} (i k:Nat) {oi:Oper} {v:Value} (hQ:pnQ Q) (hi:ops[i]? = some oi) (hd:oi.dst=some k) (hb:mayB md ops listed i=true) (hw:Region.wanted oi (yielded ops l.toArray)=true) (hy:∀w,belowA V w→(execOp (Act.mk l.toArray d).eval oi).run P w=.ok (.value v) w)
  (h:wpAnyH P md ops Q (belowA V) fuel (listed.setIfInBounds i true) (Act.mk (l.set k v).toArray d) V) :
  wpAnyH P md ops Q (belowA V) (fuel+1) listed (Act.mk l.toArray d) V:=by
 simp only [mayB,Bool.and_eq_true]at hb
 exact wpAnyH_take hi hb.1.1 hb.1.2 hb.2 (fun c a w hq=>hQ c a _ w (by rw [hd]at hq;exact hq)) (Or.inl ⟨hw,hy⟩) (anchor_refl _) (by rw [hd,Act.put];simpa using h)
theorem wSk {l:List Value} {d:_} (i k:Nat) {oi:Oper} (hQ:pnQ Q) (hi:ops[i]? = some oi) (hd:oi.dst=some k) (hb:mayB md ops listed i=true) (hw:Region.wanted oi (yielded ops l.toArray)=false)
  (h:wpAnyH P md ops Q (belowA V) fuel (listed.setIfInBounds i true) (Act.mk (l.set k undef).toArray d) V) :
  wpAnyH P md ops Q (belowA V) (fuel+1) listed (Act.mk l.toArray d) V:=by
 simp only [mayB,Bool.and_eq_true]at hb
 exact wpAnyH_take hi hb.1.1 hb.1.2 hb.2 (fun c a w hq=>hQ c a _ w (by rw [hd]at hq;exact hq)) (Or.inr ⟨hw,rfl⟩) (anchor_refl _) (by rw [hd,Act.put];simpa using h)
theorem wCl {a:Act} (i:Nat) {o:Oper} (ho:ops[i]? = some o) (hr:Region.ready md ops listed=[i])
  (h:∀K':Act→World→Prop,Shut (∀a w,belowA V w→(belowA V w→wpAnyH P md ops Q (belowA V) fuel (listed.setIfInBounds i true) a w)→K' a w)→if Region.wanted o (yielded ops a.tmps)=true then Oper.wp P o a V K' Q else K' (a.put o.dst undef) V):wpAnyH P md ops Q (belowA V) (fuel+1) listed a V:=
 wpAnyH_ready hr (by simp) (AllReadyH.cons ho h AllReadyH.nil)
theorem wNx {i:Nat} {a:Act} {W:World} {K:Act→World→Prop} (hK:Shut (∀a w,belowA V w→(belowA V w→wpAnyH P md ops Q (belowA V) fuel (listed.setIfInBounds i true) a w)→K a w)) (hh:Below V.heap.size V W)
  (h:wpAnyH P md ops Q (belowA W) fuel (listed.setIfInBounds i true) a W):K a W:=
 hK.out _ _ hh fun _=>wpAnyH_strong (anchor_next hh) _ _ _ _ h
end
structure boxL (w V:World) (L:List (Nat×List Value)):Prop where
 b:Below w.heap.size w V
 all:∀x∈L,BoxN V x.1 x.2
theorem boxL.at {w V:World} {L:List (Nat×List Value)} (h:boxL w V L) (i:Nat) {c:Nat} {l:List Value} (hx:L[i]? = some (c,l)):BoxN V c l:=h.all (c,l) (List.mem_of_getElem? hx)
theorem boxL.nx {w V W:World} {L:List (Nat×List Value)} (h:boxL w V L) (hh:Below V.heap.size V W):boxL w W L:=
 ⟨Below.trans h.b (Below.mono hh h.b.size),fun x hx=>(h.all x hx).next hh⟩
theorem boxL.one (w:World) (l:List Value) (T:TypeId):boxL w (w.alloc (.cells l.toArray T)) [(w.heap.size,l)]:=
 ⟨(Below.refl _ _).alloc (zR _) _,fun x hx=>by rw [List.mem_singleton.1 hx];exact BoxN.made w l T⟩
theorem boxL.add {w V:World} {L:List (Nat×List Value)} (h:boxL w V L) (l:List Value) (T:TypeId):boxL w (V.alloc (.cells l.toArray T)) ((V.heap.size,l) :: L):=
 ⟨Below.trans h.b (Below.mono ((Below.refl V.heap.size V).alloc (zR _) _) h.b.size),fun x hx=>by
  rcases List.mem_cons.1 hx with rfl | hx
  ·exact BoxN.made V l T
  ·exact(h.all x hx).next ((Below.refl _ _).alloc (zR _) _)⟩
theorem BoxN.c13 {W:World} {c:Nat} {v0 v1 v2 v3 v4 v5 v6 v7 v8 v9 v10 v11 v12:Value} (h:BoxN W c [v0,v1,v2,v3,v4,v5,v6,v7,v8,v9,v10,v11,v12]) :
  W.cell? ⟨c,0,none⟩=some v0∧W.cell? ⟨c,1,none⟩=some v1∧W.cell? ⟨c,2,none⟩=some v2∧W.cell? ⟨c,3,none⟩=some v3∧W.cell? ⟨c,4,none⟩=some v4∧W.cell? ⟨c,5,none⟩=some v5∧W.cell? ⟨c,6,none⟩=some v6∧W.cell? ⟨c,7,none⟩=some v7∧W.cell? ⟨c,8,none⟩=some v8∧W.cell? ⟨c,9,none⟩=some v9∧W.cell? ⟨c,10,none⟩=some v10∧W.cell? ⟨c,11,none⟩=some v11∧W.cell? ⟨c,12,none⟩=some v12:=
 ⟨(h.2 0 _ rfl).1,(h.2 1 _ rfl).1,(h.2 2 _ rfl).1,(h.2 3 _ rfl).1,(h.2 4 _ rfl).1,(h.2 5 _ rfl).1,(h.2 6 _ rfl).1,(h.2 7 _ rfl).1,(h.2 8 _ rfl).1,(h.2 9 _ rfl).1,(h.2 10 _ rfl).1,(h.2 11 _ rfl).1,(h.2 12 _ rfl).1⟩
end Go.Proofs.YtfaedmbfabfmeaaGreatDoor
