/- The contract of chunk.Encode. -/
import Derived.Test.YtfhpgobdnhlpcaaDoorChC
import Derived.Test.YtfhpgobdnhlpcaaDoorHdK
import Derived.Test.YtfhpgobdnhlpcaaDoorHdN
import Derived.Deep.DeepCutAuto
import Derived.Deep.RegionHeld3
import Derived.Deep.RegionWith
import Derived.Deep.AppendLies
import Derived.BigQuiet
namespace Go.Proofs.YtfhpgobdnhlpcaaDoor
open Go.RowKit Go.Shelf Go.Lib

/-- A chunk. -/
def oneC (p : List UInt8) : List UInt8 := hexL p.length ++ [13, 10] ++ p ++ [13, 10]
/-- A body in chunks of a size, without their end; by so many rounds. -/
def chunksL : Nat → Nat → List UInt8 → List UInt8
  | 0, _, _ => []
  | f + 1, n, l => if l = [] then [] else oneC (l.take (min n l.length)) ++ chunksL f n (l.drop (min n l.length))
def endC : List UInt8 := [48, 13, 10, 13, 10]
def encC (n : Nat) (l : List UInt8) : List UInt8 := chunksL l.length n l ++ endC

theorem oneC_len (p : List UInt8) (h : p.length < 1048576) : (oneC p).length ≤ p.length + 9 := by
  have := hexL_len 5 p.length (by omega) (by omega)
  simp only [oneC, List.length_append, List.length_cons, List.length_nil]
  omega
theorem chunksL_len : ∀ (f n : Nat) (l : List UInt8), l.length < 1048576 → (chunksL f n l).length ≤ l.length + 9 * f
  | 0, _, _, _ => by simp [chunksL]
  | f + 1, n, l, h => by
    rw [chunksL]
    split
    · simp
    · have h1 := oneC_len (l.take (min n l.length)) (by rw [List.length_take]; omega)
      have h2 := chunksL_len f n (l.drop (min n l.length)) (by rw [List.length_drop]; omega)
      rw [List.length_append]
      rw [List.length_take] at h1
      rw [List.length_drop] at h2
      omega
/-- More rounds than bytes change nothing. -/
theorem chunksL_more : ∀ (f g n : Nat) (l : List UInt8), 0 < n → l.length ≤ f → l.length ≤ g → chunksL f n l = chunksL g n l
  | 0, g, n, l, _, hf, _ => by
    obtain rfl : l = [] := List.eq_nil_of_length_eq_zero (by omega)
    cases g with
    | zero => rfl
    | succ g => rw [chunksL, chunksL, if_pos rfl]
  | f + 1, g, n, l, hn, hf, hg => by
    by_cases h : l = []
    · subst h
      cases g with
      | zero => rw [chunksL, chunksL, if_pos rfl]
      | succ g => rw [chunksL, chunksL, if_pos rfl, if_pos rfl]
    · have hp : 0 < l.length := List.length_pos_iff.2 h
      obtain ⟨g, rfl⟩ : ∃ g', g = g' + 1 := ⟨g - 1, by omega⟩
      rw [chunksL, chunksL, if_neg h, if_neg h, chunksL_more f g n _ hn (by rw [List.length_drop]; omega) (by rw [List.length_drop]; omega)]
theorem chunksL_step (f n : Nat) (l : List UInt8) (hn : 0 < n) (h : l ≠ []) (hf : l.length ≤ f) :
    chunksL f n l = oneC (l.take (min n l.length)) ++ chunksL f n (l.drop (min n l.length)) := by
  have hp : 0 < l.length := List.length_pos_iff.2 h
  obtain ⟨f, rfl⟩ : ∃ g', f = g' + 1 := ⟨f - 1, by omega⟩
  rw [chunksL, if_neg h, chunksL_more f (f + 1) n _ hn (by rw [List.length_drop]; omega) (by rw [List.length_drop]; omega)]

def encV (l : List UInt8) (z : Int) : Value :=
  if z < 1 then .tuple #[.string ⟨#[]⟩, .int .i64 1]
  else if 100000 < l.length then .tuple #[.string ⟨#[]⟩, .int .i64 4]
  else .tuple #[.string (strB (encC z.toNat l)), .int .i64 0]

def lenV : Value → Nat
  | .string b => b.size
  | _ => 0
/-- What holds while a chunk is written: the builder holds the text, nothing else is written. -/
def heldC (w : World) (acc : List UInt8) (W : World) : Prop := Lib.IsBuilder 57 5 w.heap.size w.heap.size (Lib.byteCells acc) W ∧ Below w.heap.size w W ∧ w.heap.size < W.heap.size
theorem heldC_next {w : World} {acc : List UInt8} {W W' : World} (h : heldC w acc W) (hb : Below W.heap.size W W') : heldC w acc W' :=
  ⟨IsBuilder_belowF h.1 hb, h.2.1.trans (hb.mono h.2.1.size), Nat.lt_of_lt_of_le h.2.2 hb.size⟩

set_option maxRecDepth 100000 in
set_option maxHeartbeats 8000000 in
theorem encode_any (s : ByteArray) (z : Int) (w : World) (hz : z ≤ 9223372036854775807) (hD : Deb w) :
    Calls Tryd.prog 27 #[.string s, .int .i64 z] w fun e w' => e = .returned (encV s.data.toList z) ∧ Below w.heap.size w w' := by
  have hsz := Lib.size_eq s
  by_cases h1 : z < 1
  · have HV : Hid (encV s.data.toList z = .tuple #[.string ⟨#[]⟩, .int .i64 1]) := Lib.hid (by rw [encV, if_pos h1])
    clear hsz
    go_enter Tryd.func27, Tryd.ntmps27
    go_wp2_with fail
    exact bodyPost_ret (v := .tuple #[.string ⟨#[]⟩, .int .i64 1]) (by simp [results, Tryd.results27, go_sem]) rfl ⟨by rw [HV.out], Below.refl _ _⟩
  · by_cases h2 : 100000 < s.size
    · have HV : Hid (encV s.data.toList z = .tuple #[.string ⟨#[]⟩, .int .i64 4]) := Lib.hid (by rw [encV, if_neg h1, ← hsz, if_pos h2])
      have d : (100000 : Int) < (s.size : Int) := by omega
      clear hsz h2
      go_enter Tryd.func27, Tryd.ntmps27
      go_wp2_with fail
      exact bodyPost_ret (v := .tuple #[.string ⟨#[]⟩, .int .i64 4]) (by simp [results, Tryd.results27, go_sem]) rfl ⟨by rw [HV.out], Below.refl _ _⟩
    · obtain ⟨n, rfl⟩ : ∃ n : Nat, z = (n : Int) := ⟨z.toNat, by omega⟩
      have hn : 0 < n := by omega
      have HV : Hid (encV s.data.toList (n : Int) = .tuple #[.string (strB (chunksL s.size n s.data.toList ++ endC)), .int .i64 0]) := Lib.hid (by rw [encV, if_neg h1, ← hsz, if_neg h2, Int.toNat_natCast, encC, hsz])
      have d : ¬ (100000 : Int) < (s.size : Int) := by omega
      have hs : s.size ≤ 100000 := by omega
      have hfr : Lib.IsBuilder 57 5 w.heap.size w.heap.size (Lib.byteCells []) (w.alloc (.cells #[.pointer none, .slice none 0 0] 57)) :=
        .inl ⟨Nat.le_refl _, .slice none 0 0, heap_alloc_new w _, World.ownsRow_nil _ _ _ _, by simp [Value.ownBlock]⟩
      have Hfr := Lib.hid hfr
      have HDe := Lib.hid hD
      have HSt : Hid (chunksL s.size n s.data.toList = [] ++ chunksL s.size n s.data.toList) := Lib.hid (List.nil_append _).symm
      clear hfr hsz h1 h2 hD
      go_enter Tryd.func27, Tryd.ntmps27
      go_wp2_with fail
      go_loopw [0] (fun v wr => ∃ (b : ByteArray) (acc : List UInt8), v = .string b ∧ b.size ≤ s.size ∧ acc.length + 10 * b.size ≤ 10 * s.size ∧ Hid (chunksL s.size n s.data.toList = acc ++ chunksL s.size n b.data.toList) ∧ heldC w acc wr) (fun v _ => lenV v)
      case atStart =>
        exact ⟨s, [], rfl, Nat.le_refl _, by simp, HSt, Hfr.out, (Below.refl _ _).alloc (Nat.le_refl _) _, by simp⟩
      case round =>
        obtain ⟨b, acc, rfl, hbs, hal, H, hh⟩ := hrel
        clear Hfr HSt
        by_cases hb0 : b.size = 0
        · have hbl : b.data.toList = [] := List.eq_nil_of_length_eq_zero (by rw [← Lib.size_eq, hb0])
          have e1 : b.toList.isEmpty = true := by rw [Lib.toList_data, hbl]; rfl
          have HT2 : Hid (encV s.data.toList (n : Int) = .tuple #[.string ⟨(acc ++ endC).toArray⟩, .int .i64 0]) := Lib.hid (by
            rw [HV.out, H.out, hbl]
            have : ∀ f, chunksL f n [] = [] := fun f => by cases f <;> rfl
            rw [this, List.append_nil]
            rfl)
          have cL := fun W h => lineOf_any 0 (by decide) W h
          rw [show strB (hexL 0 ++ [13, 10]) = (⟨#[48, 13, 10]⟩ : ByteArray) by rw [hexL_small 0 (by omega)]; rfl] at cL
          have cW := fun W hW (hW2 : w.heap.size ≤ W.heap.size) => writeString_any w.heap.size w.heap.size (Lib.byteCells acc) (⟨#[48, 13, 10]⟩ ++ ⟨#[13, 10]⟩) W hW (by rw [Lib.byteCells_length]; have : ((⟨#[48, 13, 10]⟩ : ByteArray) ++ ⟨#[13, 10]⟩).size = 5 := rfl; omega) hW2
          have Hst : Hid (Lib.byteCells acc ++ Lib.strCells ((⟨#[48, 13, 10]⟩ : ByteArray) ++ ⟨#[13, 10]⟩) = Lib.byteCells (acc ++ endC)) := Lib.hid (by
            rw [show Lib.strCells ((⟨#[48, 13, 10]⟩ : ByteArray) ++ ⟨#[13, 10]⟩) = Lib.byteCells endC from rfl]
            simp [Lib.byteCells])
          have HH := Lib.hid hh
          generalize acc ++ endC = acc2 at *
          clear hh H hal hbl hb0 hbs
          go_wp2_with fail
          refine (cL _ (HDe.out.below HH.out.2.1)).mono ?_
          rintro e w2 ⟨rfl, hb2⟩
          have H2 := Lib.hid (heldC_next HH.out hb2)
          clear hb2 cL
          go_wp2_with fail
          refine (cW _ H2.out.1 (Nat.le_of_lt H2.out.2.2)).mono ?_
          rintro e w3 ⟨rfl, hbd3, hb3⟩
          rw [Hst.out] at hbd3
          have HB3 := Lib.hid (H2.out.2.1.trans hb3)
          have hsz3 := hbd3.lt
          have cS := Tryd.Builder_String_any w.heap.size w.heap.size acc2 w3 (.inr hbd3) (by omega)
          clear cW hb3 hbd3
          go_wp2_with fail
          refine cS.mono ?_
          rintro e w4 ⟨rfl, hb4⟩
          go_wp2_with fail
          exact bodyPost_ret (v := .tuple #[.string ⟨acc2.toArray⟩, .int .i64 0]) (by simp [results, Tryd.results27, go_sem]) rfl ⟨by rw [HT2.out], HB3.out.trans hb4⟩
        · have e1 : b.toList.isEmpty = false := by
            rw [Lib.toList_data]
            cases h : b.data.toList with
            | nil => rw [Lib.size_eq, h] at hb0; exact absurd rfl hb0
            | cons c r => rfl
          have hbne : b.data.toList ≠ [] := fun h => hb0 (by rw [Lib.size_eq, h]; rfl)
          obtain ⟨m, hm⟩ : ∃ m, min n b.size = m := ⟨_, rfl⟩
          have hm0 : 0 < m := by omega
          have hmb : m ≤ b.size := by omega
          have hmI : min (n : Int) (b.size : Int) = (m : Int) := by omega
          have hstep := chunksL_step s.size n b.data.toList hn hbne (by rw [← Lib.size_eq]; exact hbs)
          rw [← Lib.size_eq, hm] at hstep
          have htl : (b.data.toList.take m).length = m := by rw [List.length_take, ← Lib.size_eq]; omega
          have Hnext : Hid (chunksL s.size n s.data.toList = (acc ++ oneC (b.data.toList.take m)) ++ chunksL s.size n (b.extract m b.size).data.toList) := Lib.hid (by
            rw [H.out, hstep, Lib.extract_to_end, List.append_assoc])
          have hol := oneC_len (b.data.toList.take m) (by omega)
          have hxz : (b.extract 0 m).size = m := by rw [Lib.size_eq, extract_take, htl]
          have hyz : (b.extract m b.size).size = b.size - m := by rw [Lib.size_eq, Lib.extract_to_end, List.length_drop, ← Lib.size_eq]
          have hX : strB (hexL m ++ [13, 10]) ++ b.extract 0 m ++ (⟨#[13, 10]⟩ : ByteArray) = strB (oneC (b.data.toList.take m)) := by
            rw [show b.extract 0 m = strB (b.data.toList.take m) by rw [← extract_take, strB_of], show (⟨#[13, 10]⟩ : ByteArray) = strB [13, 10] from rfl, strB_append, strB_append, oneC, htl]
          have HX := Lib.hid hX
          have hlz : (strB (hexL m ++ [13, 10])).size ≤ 7 := by rw [strB_size, List.length_append]; have := hexL_len 5 m (by omega) (by omega); simp; omega
          have Hst : Hid (Lib.byteCells acc ++ Lib.strCells (strB (oneC (b.data.toList.take m))) = Lib.byteCells (acc ++ oneC (b.data.toList.take m))) := Lib.hid (by
            rw [show Lib.strCells (strB (oneC (b.data.toList.take m))) = Lib.byteCells (oneC (b.data.toList.take m)) from rfl]
            simp [Lib.byteCells])
          rw [htl] at hol
          have cL := fun W (h : heldC w acc W) => (lineOf_any m (by omega) W (HDe.out.below h.2.1)).mono fun e w' (hq : _ ∧ Below W.heap.size W w') => (⟨hq.1, heldC_next h hq.2⟩ : _ ∧ heldC w acc w')
          have hal2 : (acc ++ oneC (b.data.toList.take m)).length + 10 * (b.size - m) ≤ 10 * s.size := by rw [List.length_append]; omega
          have cW := fun W (h : heldC w acc W) => (writeString_any w.heap.size w.heap.size (Lib.byteCells acc) (strB (oneC (b.data.toList.take m))) W h.1 (by rw [Lib.byteCells_length, strB_size]; omega) (Nat.le_of_lt h.2.2)).mono (R' := fun e w' => e = .returned (.tuple #[.int .i64 (strB (oneC (b.data.toList.take m))).size, .nilIface]) ∧ heldC w (acc ++ oneC (b.data.toList.take m)) w') (fun e w' hq => by
            obtain ⟨he, hbd, hb⟩ := hq
            rw [Hst.out] at hbd
            exact ⟨he, .inr hbd, h.2.1.trans hb, by have := hbd.lt; omega⟩)
          have hS0 : heldC w acc wr.drew := heldC_next hh (Below.refl _ _).drew
          have hbI : (m : Int) ≤ (b.size : Int) := by omega
          have hs1 : ¬ 9223372036854775807 < (strB (hexL m ++ [13, 10])).size + (b.extract 0 m).size := by omega
          have hs2 : ¬ 9223372036854775807 < (strB (hexL m ++ [13, 10]) ++ b.extract 0 m).size + 2 := by
            have : (strB (hexL m ++ [13, 10]) ++ b.extract 0 m).size = (strB (hexL m ++ [13, 10])).size + (b.extract 0 m).size := ByteArray.size_append
            omega
          have hs3 : ¬ 9223372036854775807 < (strB (hexL m ++ [13, 10])).size + m := by omega
          have hs4 : ¬ 9223372036854775807 < (strB (hexL m ++ [13, 10])).size + m + 2 := by omega
          have Hsz := Lib.hid hyz
          have HH := Lib.hid hh
          generalize strB (oneC (b.data.toList.take m)) = X at *
          generalize acc ++ oneC (b.data.toList.take m) = acc2 at *
          generalize strB (hexL m ++ [13, 10]) = LN at *
          clear Hst hX hol htl hxz hyz hstep hm H hh hal hbne hb0 hlz
          go_upto_region 8 with fail
          go_region_law ((first | (go_simp; go_at_call 43; refine (cL _ hS0).mono ?_; rintro e w2 ⟨rfl, h2⟩) | (go_simp; go_at_call 36; rw [HX.out]; refine (cW _ h2).mono ?_; rintro e w3 ⟨rfl, h3⟩)))
          all_goals
            go_wp2_with fail
            go_roundw
            case rel => exact ⟨b.extract m b.size, acc2, rfl, by rw [Hsz.out]; omega, by rw [Hsz.out]; exact hal2, Lib.hid Hnext.out, h3⟩
            case measure => simp [lenV, Hsz.out]; omega

end Go.Proofs.YtfhpgobdnhlpcaaDoor
