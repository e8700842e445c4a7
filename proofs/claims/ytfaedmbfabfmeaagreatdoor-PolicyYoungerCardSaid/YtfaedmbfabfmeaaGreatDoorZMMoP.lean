/- Plain: what a dictionary tells, as rules. · Plain: what Parse answers; a form of rules. -/
import Derived.Test.YtfaedmbfabfmeaaGreatDoorZMMemC
import Derived.Test.YtfaedmbfabfmeaaGreatDoorZMSpP
namespace Go.Proofs.YtfaedmbfabfmeaaGreatDoor
open Go.RowKit
def bitR:List Ent→List UInt8→Option (Int×Int×List UInt8)
 | [],_=>none
 | e :: es,n=>if e.key=n∧e.val.inner=false then some (e.val.it.k,e.val.it.n,e.val.it.s)else bitR es n
def yesR (es:List Ent) (n:List UInt8):Bool:=match bitR es n with | none=>false | some q=>decide (q.1=6)&&decide (q.2.1=1)
def numR (es:List Ent) (n:List UInt8):Int:=match bitR es n with | none=>-1 | some q=>if q.1=1∧0≤q.2.1 then min q.2.1 2147483648 else -1
def stlR (es:List Ent):Int:=if yesR es nStale=true then 2147483648 else numR es nStale
def rulM (es:List Ent):Value:=.agg #[.bool (yesR es nNoStore),.bool (yesR es nNoCache),.bool (yesR es nPrivate),.bool (yesR es nPublic),.bool (yesR es nMust),.bool (yesR es nProxy),.bool (yesR es nImmut),.bool (yesR es nOnly),
 .int .i64 (numR es nMaxAge),.int .i64 (numR es nSMax),.int .i64 (stlR es),.int .i64 (numR es nFresh),.int .i64 (numR es nIfErr)]
def modL (s:List UInt8):Option (List Ent):=match dicL s with | some []=>none | o=>o
def rulO:Option (List Ent)→Value
 | none=>rulV []
 | some es=>rulM es
theorem putE_lenM (acc:List Ent) (E:Ent):(putE acc E).length≤acc.length+1:=by
 unfold putE
 split
 ·rw [List.length_set];omega
 ·rw [List.length_append,List.length_singleton];omega
theorem foldE_lenM:∀(es acc:List Ent),(es.foldl putE acc).length≤acc.length+es.length
 | [],acc=>zR _
 | e :: es,acc=>by
  rw [List.foldl_cons,List.length_cons]
  have h1:=foldE_lenM es (putE acc e)
  have h2:=putE_lenM acc e
  omega
theorem putE_memM (acc:List Ent) (e x:Ent) (h:x∈putE acc e):x=e∨x∈acc:=by
 unfold putE at h
 split at h
 ·rcases List.mem_or_eq_of_mem_set h with h | h
  ·exact .inr h
  ·exact .inl h
 ·rcases List.mem_append.1 h with h | h
  ·exact .inr h
  ·exact .inl (List.mem_singleton.1 h)
theorem foldE_memM:∀(es acc:List Ent) (x:Ent),x∈es.foldl putE acc→x∈es∨x∈acc
 | [],acc,x,h=>.inr h
 | e :: es,acc,x,h=>by
  rw [List.foldl_cons]at h
  rcases foldE_memM es _ x h with h | h
  ·exact .inl (List.mem_cons_of_mem _ h)
  ·rcases putE_memM acc e x h with h | h
   ·exact .inl (h▸List.mem_cons_self ..)
   ·exact .inr h
theorem dicL_in {N:Nat} (l:List UInt8) (es:List Ent) (hl:l.length≤N) (h:dicL l=some es):es.length≤l.length+1∧∀E∈es,E.key.length≤N∧MemIn N E.val:=by
 unfold dicL at h
 cases hs:sepL entL l with
 | none=>rw [hs]at h;cases h
 | some xs =>
  rw [hs]at h
  obtain rfl:=Option.some.inj h
  obtain⟨h1,h2⟩:=ents_in l xs hl hs
  have h3:=foldE_lenM xs []
  refine⟨by unfold oeK;simp only [List.length_nil]at h3;omega,fun E hE=>?_⟩
  rcases foldE_memM xs [] E hE with hE | hE
  ·exact h2 E hE
  ·cases hE
theorem modL_some {l:List UInt8} {es:List Ent} (h:modL l=some es):dicL l=some es∧es≠[]:=by
 unfold modL at h
 split at h
 ·cases h
 ·rename_i hn
  exact⟨h,fun e=>hn (by rw [h,e])⟩
theorem modL_yes {l:List UInt8} {es:List Ent} (h:dicL l=some es) (hn:es≠[]):modL l=some es:=by
 unfold modL
 split
 ·rename_i h2
  rw [h]at h2
  exact absurd (Option.some.inj h2) hn
 ·exact h
end Go.Proofs.YtfaedmbfabfmeaaGreatDoor
namespace Go.Proofs.YtfaedmbfabfmeaaGreatDoor
open Go.RowKit Go.Lib
def modA (o:Option (List Ent)):Value:=.tuple #[rulO o,.bool o.isSome]
theorem rulO_form (o:Option (List Ent)):∃(b0 b1 b2 b3 b4 b5 b6 b7:Bool) (k0 k1 k2 k3 k4:Int),rulO o=.agg #[.bool b0,.bool b1,.bool b2,.bool b3,.bool b4,.bool b5,.bool b6,.bool b7,.int .i64 k0,.int .i64 k1,.int .i64 k2,.int .i64 k3,.int .i64 k4]:=by
 cases o with
 | none=>exact⟨_,_,_,_,_,_,_,_,_,_,_,_,_,rfl⟩
 | some es=>exact⟨_,_,_,_,_,_,_,_,_,_,_,_,_,rfl⟩
end Go.Proofs.YtfaedmbfabfmeaaGreatDoor
