/- Plain facts about bytes: which are letters, digits, marks and blanks; no program is named. -/
import Derived.Lib.Strings
import Derived.Lib.Bytealg
import Derived.Below
namespace Go.Proofs.YtfaedmbfabfmeaaGreatDoor
def digI (c:Int):Bool:=decide (48≤c)&&decide (c≤57)
def upI (c:Int):Bool:=decide (65≤c)&&decide (c≤90)
def lowI (c:Int):Bool:=decide (97≤c)&&decide (c≤122)
def ltrI (c:Int):Bool:=upI c||lowI c
def marksL:List UInt8:=[33,35,36,37,38,39,42,43,45,46,94,95,96,124,126]
def markI (c:Int):Bool:=decide (0≤Lib.indexByte marksL c.toNat.toUInt8)
def tchI (c:Int):Bool:=ltrI c||digI c||markI c
def tokL (l:List UInt8):Bool:=l.all (fun c=>tchI c.toNat)&&!l.isEmpty
theorem take_snoc (s:ByteArray) (k:Nat) (h:k<s.size):s.data.toList.take (k+1)=s.data.toList.take k++[s[k]]:=by
 rw [List.take_succ_eq_append_getElem (by simpa using h)];rfl
theorem take_all (s:ByteArray) (k:Nat) (h:s.size≤k):s.data.toList.take k=s.data.toList:=
 List.take_of_length_le (by simpa using h)
theorem all_snoc (p:UInt8→Bool) (s:ByteArray) (k:Nat) (h:k<s.size):(s.data.toList.take (k+1)).all p=((s.data.toList.take k).all p&&p s[k]):=by
 rw [take_snoc s k h];simp
theorem all_false_of (p:UInt8→Bool) (s:ByteArray) (k:Nat) (h:k<s.size) (hp:p s[k]=false):s.data.toList.all p=false:=by
 rw [List.all_eq_false]
 exact⟨s[k],Array.getElem_mem_toList h,by simp [hp]⟩
theorem int_eq {k:IntKind} {a b:Int} (h:a=b):Value.int k a=Value.int k b:=by rw [h]
theorem ret_eq {a b:Value} (h:a=b):Ending.returned a=.returned b:=by rw [h]
theorem bool_eq {a b:Bool} (h:a=b):Value.bool a=Value.bool b:=by rw [h]
theorem two_eq {a b c d:Value} (h:a=c) (h':b=d):Ending.returned (.tuple #[a,b])=.returned (.tuple #[c,d]):=by rw [h,h']
def digStep (n:Int) (c:UInt8):Int:=min (10*n+((c.toNat:Int)-48)) 2147483648
def digN (l:List UInt8):Int:=l.foldl digStep 0
def digAll (l:List UInt8):Bool:=l.all (fun c=>digI c.toNat)
def digitsN (l:List UInt8):Int:=if digAll l then digN l else 0
def digitsB (l:List UInt8):Bool:=digAll l&&!l.isEmpty
theorem digN_snoc (s:ByteArray) (k:Nat) (h:k<s.size):digN (s.data.toList.take (k+1))=digStep (digN (s.data.toList.take k)) s[k]:=by
 rw [take_snoc s k h];simp [digN]
theorem digI_iff (c:Int):digI c=true↔48≤c∧c≤57:=by simp [digI]
theorem digN_bd:∀(l:List UInt8) (n:Int),0≤n→n≤2147483648→l.all (fun c=>digI c.toNat)=true→0≤l.foldl digStep n∧l.foldl digStep n≤2147483648
 | [],_,h0,h1,_=>⟨h0,h1⟩
 | c :: l,n,h0,h1,h=>by
  simp only [List.all_cons,Bool.and_eq_true]at h
  obtain⟨a,b⟩:=(digI_iff _).1 h.1
  exact digN_bd l (digStep n c) (by unfold digStep;omega) (by unfold digStep;omega) h.2
theorem digN_in (s:ByteArray) (k:Nat) (h:digAll (s.data.toList.take k)=true):0≤digN (s.data.toList.take k)∧digN (s.data.toList.take k)≤2147483648:=
 digN_bd _ 0 (by omega) (by omega) h
theorem isEmpty_false_of (s:ByteArray) (h:0<s.size):s.data.toList.isEmpty=false:=by
 rw [List.isEmpty_eq_false_iff]
 intro e
 have h1:s.data.toList.length=s.size:=by rw [Lib.size_eq]
 rw [e]at h1
 simp at h1
 omega
end Go.Proofs.YtfaedmbfabfmeaaGreatDoor
