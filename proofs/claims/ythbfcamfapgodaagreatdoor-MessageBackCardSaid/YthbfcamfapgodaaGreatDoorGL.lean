/- Plain: the errors and the lengths of a body and of how long it is. · The contracts of the reader's methods (line, require, fields, body) and of message.bodyOf. · The contracts of the reader's methods, way by way, over lists of bytes; what is nothing lies on behind a method. · Bytes made of a string. -/
import Derived.Test.YthbfcamfapgodaaGreatDoorGB
import Derived.Test.YthbfcamfapgodaaGreatDoorGE
import Derived.Test.YthbfcamfapgodaaGreatDoorGK
import Derived.Test.YthbfcamfapgodaaGreatDoorGI
import Derived.Lib.SmallJoins
import Derived.Laws.BytesArg

namespace Go.Proofs.YthbfcamfapgodaaGreatDoor
open Go.RowKit

theorem parseH_ok {l : List UInt8} {fs : List Fld} {n : Nat} (h : parseH l = .ok (fs, n)) : n ≤ l.length ∧ fs.length ≤ 64 ∧ ∀ p ∈ fs, p.1.length ≤ 2000 ∧ p.2.length ≤ 2000 :=
  parH_out l 65 0 [] fs n h (Nat.zero_le _) (by decide) (by simp)
theorem parseH_no {l : List UInt8} {e : Int} (h : parseH l = .error e) : e = 2 ∨ e = 3 ∨ e = 4 := parH_errs l 65 0 [] e h
theorem decG_errs (l : List UInt8) : ∀ (f K : Nat) (acc : List UInt8) (e : Int), decG f l K acc = .error e → e = 2 ∨ e = 3 ∨ e = 4
  | 0, _, _, e, h => by simp only [decG, Except.error.injEq] at h; omega
  | f + 1, K, acc, e, h => by
    rw [decG] at h
    cases hr : rdL (l.drop K) with
    | error x =>
      rw [hr] at h
      simp only [Except.error.injEq] at h
      rcases rdL_err hr with h1 | h1 | h1 <;> omega
    | ok x =>
      obtain ⟨k, n⟩ := x
      rw [hr] at h
      simp only at h
      split at h
      · simp only [Except.error.injEq] at h; omega
      · split at h
        · cases hp : parseH (l.drop (K + n)) with
          | error y =>
            rw [hp] at h
            simp only [Except.error.injEq] at h
            rcases parseH_no hp with h1 | h1 | h1 <;> omega
          | ok y => rw [hp] at h; cases h
        · split at h
          · exact decG_errs l f _ _ e h
          · rcases datL_cases (l.drop (K + n)) k with ⟨_, hd⟩ | ⟨y, hd, hy⟩
            · rename_i _ _ h2 _
              rw [hd] at h2
              exact absurd rfl h2
            · rw [hd] at h
              simp only [Except.error.injEq] at h
              omega
theorem decG_lens (l : List UInt8) : ∀ (f K : Nat) (acc b : List UInt8) (n : Nat), decG f l K acc = .ok (b, n) → K ≤ l.length → acc.length ≤ K → n ≤ l.length ∧ b.length ≤ l.length
  | 0, _, _, _, _, h, _, _ => by cases h
  | f + 1, K, acc, b, n, h, hK, ha => by
    rw [decG] at h
    cases hr : rdL (l.drop K) with
    | error x => rw [hr] at h; cases h
    | ok x =>
      obtain ⟨k, m⟩ := x
      rw [hr] at h
      simp only at h
      have hm := (rdL_ok hr).2.2
      rw [List.length_drop] at hm
      split at h
      · cases h
      · split at h
        · cases hp : parseH (l.drop (K + m)) with
          | error y => rw [hp] at h; cases h
          | ok y =>
            obtain ⟨fs, j⟩ := y
            rw [hp] at h
            simp only [Except.ok.injEq, Prod.mk.injEq] at h
            have := (parseH_ok hp).1
            rw [List.length_drop] at this
            obtain ⟨rfl, rfl⟩ := h
            omega
        · split at h
          · rename_i h0 h1 h2
            rcases datL_cases (l.drop (K + m)) k with ⟨hk, hd⟩ | ⟨y, hd, hy⟩
            · rw [List.length_drop] at hk
              rw [hd] at h
              refine decG_lens l f _ _ b n h (by omega) ?_
              have := List.length_take_le k (l.drop (K + m))
              show (acc ++ (l.drop (K + m)).take k).length ≤ _
              rewrite [List.length_append]
              omega
            · rw [hd] at h2
              simp only at h2
              omega
          · cases h
theorem digN_pos (l : List UInt8) : 0 ≤ digitsN l := by
  unfold digitsN
  split
  · rename_i h
    exact (digN_bd l 0 (by omega) (by omega) h).1
  · exact Int.le_refl _
theorem lngL_ok {fs : List Fld} {k : Int} (h : lngL fs = .ok k) : -2 ≤ k := by
  unfold lngL at h
  split at h
  · cases h
  · split at h
    · split at h
      · simp only [Except.ok.injEq] at h; omega
      · cases h
    · split at h
      · rename_i y _ _
        split at h
        · simp only [Except.ok.injEq] at h
          have := digN_pos y
          omega
        · cases h
      · simp only [Except.ok.injEq] at h; omega
theorem lngL_no {fs : List Fld} {e : Int} (h : lngL fs = .error e) : e = 2 := by
  unfold lngL at h
  split at h
  · simp only [Except.error.injEq] at h; omega
  · split at h
    · split at h
      · cases h
      · simp only [Except.error.injEq] at h; omega
    · split at h
      · split at h
        · cases h
        · simp only [Except.error.injEq] at h; omega
      · cases h
theorem bodL_no {l : List UInt8} {k e : Int} (h : bodL l k = .error e) : e = 2 ∨ e = 3 ∨ e = 4 := by
  unfold bodL at h
  split at h
  · exact decG_errs _ _ _ _ _ h
  · split at h
    · simp only [Except.error.injEq] at h; omega
    · split at h
      · simp only [Except.error.injEq] at h; omega
      · cases h
theorem bodL_ok {l b : List UInt8} {k : Int} {u : Nat} (h : bodL l k = .ok (b, u)) : u ≤ l.length ∧ b.length ≤ l.length := by
  unfold bodL at h
  split at h
  · exact decG_lens _ _ _ _ _ _ h (Nat.zero_le _) (Nat.zero_le _)
  · split at h
    · cases h
    · split at h
      · cases h
      · simp only [Except.ok.injEq, Prod.mk.injEq] at h
        obtain ⟨rfl, rfl⟩ := h
        have := List.length_take_le k.toNat l
        refine ⟨by omega, List.length_take_le' _ _⟩

end Go.Proofs.YthbfcamfapgodaaGreatDoor

namespace Go.Proofs.YthbfcamfapgodaaGreatDoor
open Go.RowKit Go.Shelf Go.Lib

/-- A reader lies at block b: what is left, and the error met. -/
structure Rdr (w : World) (b : Nat) (t : ByteArray) (e : Int) : Prop where
  r0 : w.cell? ⟨b, 0, none⟩ = some (.string t)
  r1 : w.cell? ⟨b, 1, none⟩ = some (.int .i64 e)
  g0 : w.frozen? ⟨b, 0, none⟩ = false
  g1 : w.frozen? ⟨b, 1, none⟩ = false
theorem Rdr.lt {w : World} {b : Nat} {t : ByteArray} {e : Int} (h : Rdr w b t e) : b < w.heap.size := lt_of_cell h.r0
theorem Rdr.below {w W : World} {b : Nat} {t : ByteArray} {e : Int} (h : Rdr w b t e) (hb : Below w.heap.size w W) : Rdr W b t e :=
  ⟨(hb.cell (p := ⟨b, 0, none⟩) h.lt).trans h.r0, (hb.cell (p := ⟨b, 1, none⟩) h.lt).trans h.r1, (hb.frozen (p := ⟨b, 0, none⟩) h.lt).trans h.g0, (hb.frozen (p := ⟨b, 1, none⟩) h.lt).trans h.g1⟩
theorem Rdr.set0 {w : World} {b : Nat} {t : ByteArray} {e : Int} (h : Rdr w b t e) (u : ByteArray) : Rdr (w.setCell ⟨b, 0, none⟩ (.string u)) b u e :=
  ⟨World.cell?_setCell_same w ⟨b, 0, none⟩ _ h.r0, (World.cell?_setCell_other w ⟨b, 0, none⟩ ⟨b, 1, none⟩ _ (by simp)).trans h.r1, by rewrite [World.frozen?_setCell]; exact h.g0, by rewrite [World.frozen?_setCell]; exact h.g1⟩
theorem Rdr.set1 {w : World} {b : Nat} {t : ByteArray} {e : Int} (h : Rdr w b t e) (x : Int) : Rdr (w.setCell ⟨b, 1, none⟩ (.int .i64 x)) b t x :=
  ⟨(World.cell?_setCell_other w ⟨b, 1, none⟩ ⟨b, 0, none⟩ _ (by simp)).trans h.r0, World.cell?_setCell_same w ⟨b, 1, none⟩ _ h.r1, by rewrite [World.frozen?_setCell]; exact h.g0, by rewrite [World.frozen?_setCell]; exact h.g1⟩
/-- What a method of the reader leaves: the reader with another rest and error; the world as it was but for that. -/
def mvd (b : Nat) (t : ByteArray) (x : Int) (w w' : World) : Prop := Rdr w' b t x ∧ Moved b w w'

/-- The error behind a demand. -/
def reqE (x : Int) (b : Bool) : Int := if x = 0 then (if b = true then 0 else 2) else x

set_option maxRecDepth 100000 in
set_option maxHeartbeats 2000000 in
theorem mrequire_any (b : Nat) (t : ByteArray) (x : Int) (is : Bool) (w : World) (h : Rdr w b t x) :
    Calls Tryz.prog 23 #[.pointer (some ⟨b, 0, none⟩), .bool is] w fun e w' => e = .returned (.tuple #[]) ∧ mvd b t (reqE x is) w w' := by
  have HR := Lib.hid h
  have c1 := h.r1
  have f1 := h.g1
  clear h
  by_cases hx : x = 0
  · subst hx
    cases is
    · go_enter Tryz.func23, Tryz.ntmps23
      go_wp2_with fail
      go_end0
      exact ⟨rfl, HR.out.set1 2, (Moved.refl b w).setCell _⟩
    · go_enter Tryz.func23, Tryz.ntmps23
      go_wp2_with fail
      go_end0
      exact ⟨rfl, HR.out, Moved.refl b w⟩
  · have hq : (x == 0) = false := by rewrite [beq_eq_false_iff_ne]; exact hx
    have HE : Hid (reqE x is = x) := Lib.hid (by rw [reqE, if_neg hx])
    clear hx
    go_enter Tryz.func23, Tryz.ntmps23
    go_wp2_with fail
    go_end0
    exact ⟨rfl, by rewrite [HE.out]; exact HR.out, Moved.refl b w⟩

set_option maxRecDepth 100000 in
set_option maxHeartbeats 2000000 in
theorem mline_any (b : Nat) (t : ByteArray) (x : Int) (w : World) (h : Rdr w b t x) (ht : t.size ≤ 90000) :
    Calls Tryz.prog 22 #[.pointer (some ⟨b, 0, none⟩)] w fun e w' => ∃ ln rs : ByteArray, ∃ y : Int, e = .returned (.string ln) ∧ lnxV t.data.toList = .tuple #[.string ln, .string rs, .int .i64 y] ∧ mvd b rs y w w' := by
  have HR := Lib.hid h
  have c0 := h.r0
  have cL := mcutline_any t w (by omega)
  obtain ⟨ln, rs, y, hv⟩ : ∃ (ln rs : ByteArray) (y : Int), lnxV t.data.toList = .tuple #[.string ln, .string rs, .int .i64 y] := by
    unfold lnxV
    split
    · exact ⟨_, _, _, rfl⟩
    · exact ⟨_, _, _, rfl⟩
  rw [hv] at cL
  have HV := Lib.hid hv
  clear h hv ht
  go_enter Tryz.func22, Tryz.ntmps22
  go_wp2_with fail
  refine cL.mono ?_
  rintro e w1 ⟨rfl, hb1⟩
  have HR1 := Lib.hid (HR.out.below hb1)
  have HM1 := Lib.hid (Moved.of_below (b := b) hb1)
  obtain ⟨x0, x1, x2, x3⟩ := HR1.out
  clear c0 cL hb1
  go_wp2_with fail
  refine bodyPost_ret (v := .string ln) (by simp [results, Tryz.results22, go_sem]) rfl ⟨ln, rs, y, rfl, HV.out, ?_, ?_⟩
  · exact (HR1.out.set0 rs).set1 y
  · exact (HM1.out.setCell _).setCell _

set_option maxRecDepth 100000 in
set_option maxHeartbeats 2000000 in
theorem mfields_err (b : Nat) (t : ByteArray) (x : Int) (w : World) (h : Rdr w b t x) (hx : x ≠ 0) :
    Calls Tryz.prog 24 #[.pointer (some ⟨b, 0, none⟩)] w fun e w' => e = .returned (.slice none 0 0) ∧ w = w' := by
  have c1 := h.r1
  have hq : (x != 0) = true := by rewrite [bne_iff_ne]; exact hx
  clear h hx
  go_enter Tryz.func24, Tryz.ntmps24
  go_wp2_with fail
  go_ret
  exact ⟨rfl, rfl⟩

set_option maxRecDepth 100000 in
set_option maxHeartbeats 2000000 in
theorem mfields_no (b : Nat) (t : ByteArray) (w : World) (h : Rdr w b t 0) (ht : t.size ≤ 90000) (hT : Tabs w) (x : Int) (hp : parseH t.data.toList = .error x) :
    Calls Tryz.prog 24 #[.pointer (some ⟨b, 0, none⟩)] w fun e w' => e = .returned (.slice none 0 0) ∧ mvd b t x w w' := by
  have HR := Lib.hid h
  have c0 := h.r0
  have c1 := h.r1
  have cP := hparse_any t w (by omega) hT
  rw [hp] at cP
  clear h hT hp
  go_enter Tryz.func24, Tryz.ntmps24
  go_wp2_with fail
  refine cP.mono ?_
  rintro e w1 ⟨hb1, rfl⟩
  have HR1 := Lib.hid (HR.out.below hb1)
  have HM1 := Lib.hid (Moved.of_below (b := b) hb1)
  obtain ⟨x0, x1, x2, x3⟩ := HR1.out
  clear c0 c1 cP hb1
  go_wp2_with fail
  refine bodyPost_ret (v := .slice none 0 0) (by simp [results, Tryz.results24, go_sem]) rfl ⟨rfl, ?_, ?_⟩
  · exact (HR1.out.set0 t).set1 x
  · exact (HM1.out.setCell _).setCell _

set_option maxRecDepth 100000 in
set_option maxHeartbeats 2000000 in
theorem mfields_ok (b : Nat) (t : ByteArray) (w : World) (h : Rdr w b t 0) (ht : t.size ≤ 90000) (hT : Tabs w) (fs : List Fld) (n : Nat) (hp : parseH t.data.toList = .ok (fs, n)) :
    Calls Tryz.prog 24 #[.pointer (some ⟨b, 0, none⟩)] w fun e w' => ∃ v, e = .returned v ∧ Flds w.heap.size w' v fs ∧ mvd b (t.extract n t.size) 0 w w' := by
  have HR := Lib.hid h
  have hbl := h.lt
  have c0 := h.r0
  have c1 := h.r1
  have cP := hparse_any t w (by omega) hT
  have hn := (parseH_ok hp).1
  rw [← Lib.size_eq] at hn
  rw [hp] at cP
  have d1 : (0 : Int) ≤ (n : Int) := by omega
  have d2 : (n : Int) ≤ (t.size : Int) := by omega
  clear h hT hp
  go_enter Tryz.func24, Tryz.ntmps24
  go_wp2_with fail
  refine cP.mono ?_
  rintro e w1 ⟨hb1, v, rfl, hown⟩
  have HR1 := Lib.hid (HR.out.below hb1)
  have HM1 := Lib.hid (Moved.of_below (b := b) hb1)
  have HF1 := Lib.hid (Flds.of_own hown (Nat.le_refl _))
  obtain ⟨x0, x1, x2, x3⟩ := HR1.out
  obtain ⟨b1, k1, rfl⟩ := owns_formF hown
  clear c0 c1 cP hb1 hown
  go_wp2_with fail
  refine bodyPost_ret (v := .slice b1 fs.length k1) (by simp [results, Tryz.results24, go_sem]) rfl ⟨_, rfl, ?_, ?_, ?_⟩
  · exact HF1.out.moved (((Moved.refl b w1).setCell _).setCell _) hbl
  · exact (HR1.out.set0 (t.extract n t.size)).set1 0
  · exact (HM1.out.setCell _).setCell _

/-- A body of so many bytes (-1: in chunks). -/
def bodM (l : List UInt8) (n : Int) : Except Int (List UInt8 × Nat) := if n = -1 then decL l else bodL l n
theorem bodM_eq (l : List UInt8) (n : Int) (h : 0 ≤ n) : bodM l n = bodL l n := by rw [bodM, if_neg (by omega)]
theorem bodM_dec (l : List UInt8) : bodM l (-1) = bodL l (-2) := by rw [bodM, if_pos rfl, bodL, if_pos rfl]
theorem bodM_ok {l b : List UInt8} {k : Int} {u : Nat} (hk : -1 ≤ k) (h : bodM l k = .ok (b, u)) : u ≤ l.length ∧ b.length ≤ l.length := by
  by_cases h1 : k = -1
  · subst h1
    rw [bodM_dec] at h
    exact bodL_ok h
  · rw [bodM_eq l k (by omega)] at h
    exact bodL_ok h

set_option maxRecDepth 100000 in
set_option maxHeartbeats 4000000 in
theorem mbodyof_any (s : ByteArray) (n : Int) (w : World) (hs : s.size ≤ 90000) (hn : -1 ≤ n) (hT : Tabs w) (hE : Errs w) :
    Calls Tryz.prog 59 #[.string s, .int .i64 n] w fun e w' => e = .returned (decV (bodM s.data.toList n)) ∧ Below w.heap.size w w' := by
  have hsz := Lib.size_eq s
  by_cases h2 : n = -1
  · subst h2
    have cD := decode_any s w hs hT hE
    have HV : Hid (bodM s.data.toList (-1) = decL s.data.toList) := Lib.hid rfl
    clear hsz hT hE
    generalize decL s.data.toList = D at *
    cases D with
    | error x =>
      have HW : Hid (decV (bodM s.data.toList (-1)) = .tuple #[.string ⟨#[]⟩, .int .i64 0, .int .i64 x]) := Lib.hid (by rw [HV.out] <;> rfl)
      rw [show decV (.error x) = .tuple #[.string ⟨#[]⟩, .int .i64 0, .int .i64 x] from rfl] at cD
      clear HV
      go_enter Tryz.func59, Tryz.ntmps59
      go_wp2_with fail
      refine cD.mono ?_
      rintro e w1 ⟨rfl, hb1⟩
      have HB1 := Lib.hid hb1
      clear hb1
      go_wp2_with fail
      exact bodyPost_ret (v := .tuple #[.string ⟨#[]⟩, .int .i64 0, .int .i64 x]) (by simp [results, Tryz.results59, go_sem]) rfl ⟨by rw [HW.out], HB1.out⟩
    | ok x =>
      obtain ⟨b, m⟩ := x
      have HW : Hid (decV (bodM s.data.toList (-1)) = .tuple #[.string (strB b), .int .i64 (m : Int), .int .i64 0]) := Lib.hid (by rw [HV.out] <;> rfl)
      rw [show decV (.ok (b, m)) = .tuple #[.string (strB b), .int .i64 (m : Int), .int .i64 0] from rfl] at cD
      clear HV
      generalize strB b = B at *
      go_enter Tryz.func59, Tryz.ntmps59
      go_wp2_with fail
      refine cD.mono ?_
      rintro e w1 ⟨rfl, hb1⟩
      have HB1 := Lib.hid hb1
      clear hb1
      go_wp2_with fail
      exact bodyPost_ret (v := .tuple #[.string B, .int .i64 (m : Int), .int .i64 0]) (by simp [results, Tryz.results59, go_sem]) rfl ⟨by rw [HW.out], HB1.out⟩
  · have d2 : (n == -1) = false := by rewrite [beq_eq_false_iff_ne]; exact h2
    have hM := bodM_eq s.data.toList n (by omega)
    by_cases h4 : 100000 < n
    · have HW : Hid (decV (bodM s.data.toList n) = .tuple #[.string ⟨#[]⟩, .int .i64 0, .int .i64 4]) := Lib.hid (by rw [hM, bodL, if_neg (by omega), if_pos h4] <;> rfl)
      clear hsz h2 hM
      go_enter Tryz.func59, Tryz.ntmps59
      go_wp2_with fail
      exact bodyPost_ret (v := .tuple #[.string ⟨#[]⟩, .int .i64 0, .int .i64 4]) (by simp [results, Tryz.results59, go_sem]) rfl ⟨by rw [HW.out], Below.refl _ _⟩
    · by_cases h3 : (s.size : Int) < n
      · have HW : Hid (decV (bodM s.data.toList n) = .tuple #[.string ⟨#[]⟩, .int .i64 0, .int .i64 3]) := Lib.hid (by rw [hM, bodL, if_neg (by omega), if_neg h4, ← hsz, if_pos h3] <;> rfl)
        clear hsz h2 hM
        go_enter Tryz.func59, Tryz.ntmps59
        go_wp2_with fail
        exact bodyPost_ret (v := .tuple #[.string ⟨#[]⟩, .int .i64 0, .int .i64 3]) (by simp [results, Tryz.results59, go_sem]) rfl ⟨by rw [HW.out], Below.refl _ _⟩
      · obtain ⟨m, rfl⟩ : ∃ m : Nat, n = (m : Int) := ⟨n.toNat, by omega⟩
        have HW : Hid (decV (bodM s.data.toList (m : Int)) = .tuple #[.string (strB (s.data.toList.take m)), .int .i64 (m : Int), .int .i64 0]) := Lib.hid (by rw [hM, bodL, if_neg (by omega), if_neg h4, ← hsz, if_neg h3, Int.toNat_natCast] <;> rfl)
        have hml : m ≤ s.size := by omega
        have d0 : (0 : Int) ≤ (m : Int) := by omega
        have d5 : (m : Int) ≤ (s.size : Int) := by omega
        clear hsz h2 hM
        go_enter Tryz.func59, Tryz.ntmps59
        go_wp2_with fail
        exact bodyPost_ret (v := .tuple #[.string (s.extract 0 m), .int .i64 (m : Int), .int .i64 0]) (by simp [results, Tryz.results59, go_sem]) rfl ⟨by rw [HW.out, show strB (s.data.toList.take m) = s.extract 0 m from by rw [← extract_take, strB_of]], Below.refl _ _⟩

set_option maxRecDepth 100000 in
set_option maxHeartbeats 2000000 in
theorem mbody_err (b : Nat) (t : ByteArray) (x k : Int) (w : World) (h : Rdr w b t x) (hx : x ≠ 0) :
    Calls Tryz.prog 27 #[.pointer (some ⟨b, 0, none⟩), .int .i64 k] w fun e w' => e = .returned (.string ⟨#[]⟩) ∧ w = w' := by
  have c1 := h.r1
  have hq : (x != 0) = true := by rewrite [bne_iff_ne]; exact hx
  clear h hx
  go_enter Tryz.func27, Tryz.ntmps27
  go_wp2_with fail
  go_ret
  exact ⟨rfl, rfl⟩

set_option maxRecDepth 100000 in
set_option maxHeartbeats 2000000 in
theorem mbody_no (b : Nat) (t : ByteArray) (k : Int) (w : World) (h : Rdr w b t 0) (ht : t.size ≤ 90000) (hk : -1 ≤ k) (hT : Tabs w) (hE : Errs w) (x : Int) (hp : bodM t.data.toList k = .error x) :
    Calls Tryz.prog 27 #[.pointer (some ⟨b, 0, none⟩), .int .i64 k] w fun e w' => e = .returned (.string ⟨#[]⟩) ∧ mvd b t x w w' := by
  have HR := Lib.hid h
  have c0 := h.r0
  have c1 := h.r1
  have cP := mbodyof_any t k w ht hk hT hE
  rw [hp, show decV (.error x) = .tuple #[.string ⟨#[]⟩, .int .i64 0, .int .i64 x] from rfl] at cP
  clear h hT hE hp
  go_enter Tryz.func27, Tryz.ntmps27
  go_wp2_with fail
  refine cP.mono ?_
  rintro e w1 ⟨rfl, hb1⟩
  have HR1 := Lib.hid (HR.out.below hb1)
  have HM1 := Lib.hid (Moved.of_below (b := b) hb1)
  obtain ⟨x0, x1, x2, x3⟩ := HR1.out
  clear c0 c1 cP hb1
  go_wp2_with fail
  refine bodyPost_ret (v := .string ⟨#[]⟩) (by simp [results, Tryz.results27, go_sem]) rfl ⟨rfl, ?_, ?_⟩
  · exact (HR1.out.set0 t).set1 x
  · exact (HM1.out.setCell _).setCell _

set_option maxRecDepth 100000 in
set_option maxHeartbeats 2000000 in
theorem mbody_ok (b : Nat) (t : ByteArray) (k : Int) (w : World) (h : Rdr w b t 0) (ht : t.size ≤ 90000) (hk : -1 ≤ k) (hT : Tabs w) (hE : Errs w) (bs : List UInt8) (n : Nat) (hp : bodM t.data.toList k = .ok (bs, n)) :
    Calls Tryz.prog 27 #[.pointer (some ⟨b, 0, none⟩), .int .i64 k] w fun e w' => e = .returned (.string (strB bs)) ∧ mvd b (t.extract n t.size) 0 w w' := by
  have HR := Lib.hid h
  have c0 := h.r0
  have c1 := h.r1
  have cP := mbodyof_any t k w ht hk hT hE
  have hn := (bodM_ok hk hp).1
  rw [← Lib.size_eq] at hn
  rw [hp, show decV (.ok (bs, n)) = .tuple #[.string (strB bs), .int .i64 (n : Int), .int .i64 0] from rfl] at cP
  have d1 : (0 : Int) ≤ (n : Int) := by omega
  have d2 : (n : Int) ≤ (t.size : Int) := by omega
  clear h hT hE hp
  generalize strB bs = B at *
  go_enter Tryz.func27, Tryz.ntmps27
  go_wp2_with fail
  refine cP.mono ?_
  rintro e w1 ⟨rfl, hb1⟩
  have HR1 := Lib.hid (HR.out.below hb1)
  have HM1 := Lib.hid (Moved.of_below (b := b) hb1)
  obtain ⟨x0, x1, x2, x3⟩ := HR1.out
  clear c0 c1 cP hb1
  go_wp2_with fail
  refine bodyPost_ret (v := .string B) (by simp [results, Tryz.results27, go_sem]) rfl ⟨rfl, ?_, ?_⟩
  · exact (HR1.out.set0 (t.extract n t.size)).set1 0
  · exact (HM1.out.setCell _).setCell _

end Go.Proofs.YthbfcamfapgodaaGreatDoor

namespace Go.Proofs.YthbfcamfapgodaaGreatDoor
open Go.RowKit Go.Shelf Go.Lib

theorem Nil4.moved {W W1 : World} {c b : Nat} (h : Nil4 W c) (hm : Moved b W W1) (hc : c ≠ b) : Nil4 W1 c :=
  ⟨(hm.cell (p := ⟨c, 0, none⟩) h.lt hc).trans h.r0, (hm.cell (p := ⟨c, 1, none⟩) h.lt hc).trans h.r1, (hm.cell (p := ⟨c, 2, none⟩) h.lt hc).trans h.r2, (hm.cell (p := ⟨c, 3, none⟩) h.lt hc).trans h.r3, (hm.frozen (p := ⟨c, 0, none⟩) h.lt hc).trans h.g0, (hm.frozen (p := ⟨c, 1, none⟩) h.lt hc).trans h.g1, (hm.frozen (p := ⟨c, 2, none⟩) h.lt hc).trans h.g2, (hm.frozen (p := ⟨c, 3, none⟩) h.lt hc).trans h.g3⟩
theorem Nil3.moved {W W1 : World} {c b : Nat} (h : Nil3 W c) (hm : Moved b W W1) (hc : c ≠ b) : Nil3 W1 c :=
  ⟨(hm.cell (p := ⟨c, 0, none⟩) h.lt hc).trans h.r0, (hm.cell (p := ⟨c, 1, none⟩) h.lt hc).trans h.r1, (hm.cell (p := ⟨c, 2, none⟩) h.lt hc).trans h.r2, (hm.frozen (p := ⟨c, 0, none⟩) h.lt hc).trans h.g0, (hm.frozen (p := ⟨c, 1, none⟩) h.lt hc).trans h.g1, (hm.frozen (p := ⟨c, 2, none⟩) h.lt hc).trans h.g2⟩
theorem Moved.drew1 {b : Nat} {w W : World} (h : Moved b w W) : Moved b w W.drew := ⟨h.os, h.tape, h.output, h.size, h.block⟩
theorem Moved.alloc {b : Nat} {w W : World} (h : Moved b w W) (o : Obj) : Moved b w (W.alloc o) := h.trans (Moved.of_below ((Below.refl _ _).alloc (Nat.le_refl _) o))
theorem Rdr.made (w : World) (o : Obj) (s : ByteArray) : Rdr ((w.alloc o).alloc (.cells #[.string s, .int .i64 0] 46)) (w.heap.size + 1) s 0 := by
  have z : (w.alloc o).heap.size = w.heap.size + 1 := by simp
  refine ⟨?_, ?_, ?_, ?_⟩
  all_goals
    rewrite [← z]
    simp

theorem strB_from (l : List UInt8) (n : Nat) : (strB l).extract n (strB l).size = strB (l.drop n) := by
  have := Lib.extract_to_end (strB l) n
  rw [strB_data] at this
  rw [← this, strB_of]
theorem reqE_keep {x : Int} (h : x ≠ 0) (b : Bool) : reqE x b = x := by rw [reqE, if_neg h]

theorem lnx_ok {l : List UInt8} (h : (lineL l).2 = 0) : lnxV l = .tuple #[.string (strB (lineL l).1), .string (strB (l.drop ((lineL l).1.length + 2))), .int .i64 0] := by rw [lnxV, if_pos h]
theorem lnx_no {l : List UInt8} (h : (lineL l).2 ≠ 0) : lnxV l = .tuple #[.string (strB []), .string (strB []), .int .i64 (lineL l).2] := by
  rw [lnxV, if_neg h] <;> rfl
theorem mline_at (b : Nat) (s : ByteArray) (w : World) (ln rs : List UInt8) (y : Int) (hs : s.size ≤ 90000) (hv : lnxV s.data.toList = .tuple #[.string (strB ln), .string (strB rs), .int .i64 y]) (h : Rdr w b s 0) :
    Calls Tryz.prog 22 #[.pointer (some ⟨b, 0, none⟩)] w fun e w' => e = .returned (.string (strB ln)) ∧ mvd b (strB rs) y w w' := by
  refine (mline_any b s 0 w h hs).mono ?_
  rintro e w' ⟨ln', rs', y', rfl, h1, h2⟩
  rw [hv] at h1
  simp only [Value.tuple.injEq, Array.mk.injEq, List.cons.injEq, Value.string.injEq, Value.int.injEq, true_and, and_true] at h1
  obtain ⟨h3, h4, h5⟩ := h1
  rewrite [h3, h4, h5]
  exact ⟨rfl, h2⟩
theorem mreq_ok (l m t : List UInt8) (w : World) (hl : l.length ≤ 100000) (h : frL l = some (m, t)) :
    Calls Tryz.prog 21 #[.string (strB l)] w fun e w' => e = .returned (.tuple #[.string (strB m), .string (strB t), .bool true]) ∧ Below w.heap.size w w' := by
  refine (mreqline_any (strB l) w (by rewrite [strB_size]; exact hl)).mono ?_
  rintro e w' ⟨⟨m', t', b, rfl, h1⟩, hb⟩
  rw [strB_data, h] at h1
  cases b
  · simp at h1
  · simp only [if_true, Option.some.injEq, Prod.mk.injEq] at h1
    rewrite [h1.1, h1.2]
    exact ⟨rfl, hb⟩
theorem mreq_no (l : List UInt8) (w : World) (hl : l.length ≤ 100000) (h : frL l = none) :
    Calls Tryz.prog 21 #[.string (strB l)] w fun e w' => (∃ M T, e = .returned (.tuple #[.string M, .string T, .bool false])) ∧ Below w.heap.size w w' := by
  refine (mreqline_any (strB l) w (by rewrite [strB_size]; exact hl)).mono ?_
  rintro e w' ⟨⟨m', t', b, rfl, h1⟩, hb⟩
  rw [strB_data, h] at h1
  cases b
  · exact ⟨⟨_, _, rfl⟩, hb⟩
  · simp at h1
theorem msta_ok (l : List UInt8) (n : Int) (w : World) (hl : l.length ≤ 100000) (hT : Tabs w) (h : frP l = some n) :
    Calls Tryz.prog 38 #[.string (strB l)] w fun e w' => e = .returned (.tuple #[.int .i64 n, .bool true]) ∧ Below w.heap.size w w' := by
  refine (mstatusline_any (strB l) w (by rewrite [strB_size]; exact hl) hT).mono ?_
  rintro e w' ⟨⟨n', b, rfl, h1⟩, hb⟩
  rw [strB_data, h] at h1
  cases b
  · simp at h1
  · simp only [if_true, Option.some.injEq] at h1
    rewrite [h1]
    exact ⟨rfl, hb⟩
theorem msta_no (l : List UInt8) (w : World) (hl : l.length ≤ 100000) (hT : Tabs w) (h : frP l = none) :
    Calls Tryz.prog 38 #[.string (strB l)] w fun e w' => (∃ n, e = .returned (.tuple #[.int .i64 n, .bool false])) ∧ Below w.heap.size w w' := by
  refine (mstatusline_any (strB l) w (by rewrite [strB_size]; exact hl) hT).mono ?_
  rintro e w' ⟨⟨n', b, rfl, h1⟩, hb⟩
  rw [strB_data, h] at h1
  cases b
  · exact ⟨⟨_, rfl⟩, hb⟩
  · simp at h1
theorem mfld_no (b : Nat) (l : List UInt8) (w : World) (hl : l.length ≤ 90000) (x : Int) (hp : parseH l = .error x) (h : Rdr w b (strB l) 0) (hT : Tabs w) :
    Calls Tryz.prog 24 #[.pointer (some ⟨b, 0, none⟩)] w fun e w' => e = .returned (.slice none 0 0) ∧ mvd b (strB l) x w w' :=
  mfields_no b (strB l) w h (by rewrite [strB_size]; exact hl) hT x (by rewrite [strB_data]; exact hp)
theorem mfld_ok (b : Nat) (l : List UInt8) (w : World) (hl : l.length ≤ 90000) (fs : List Fld) (n : Nat) (hp : parseH l = .ok (fs, n)) (h : Rdr w b (strB l) 0) (hT : Tabs w) :
    Calls Tryz.prog 24 #[.pointer (some ⟨b, 0, none⟩)] w fun e w' => (∃ v, e = .returned v ∧ Flds w.heap.size w' v fs) ∧ mvd b (strB (l.drop n)) 0 w w' := by
  refine (mfields_ok b (strB l) w h (by rewrite [strB_size]; exact hl) hT fs n (by rewrite [strB_data]; exact hp)).mono ?_
  rintro e w' ⟨v, rfl, h1, h2⟩
  rw [strB_from] at h2
  exact ⟨⟨v, rfl, h1⟩, h2⟩
theorem mbod_no (b : Nat) (l : List UInt8) (k : Int) (w : World) (hl : l.length ≤ 90000) (hk : -1 ≤ k) (x : Int) (hp : bodM l k = .error x) (h : Rdr w b (strB l) 0) (hT : Tabs w) (hE : Errs w) :
    Calls Tryz.prog 27 #[.pointer (some ⟨b, 0, none⟩), .int .i64 k] w fun e w' => e = .returned (.string ⟨#[]⟩) ∧ mvd b (strB l) x w w' :=
  mbody_no b (strB l) k w h (by rewrite [strB_size]; exact hl) hk hT hE x (by rewrite [strB_data]; exact hp)
theorem mbod_ok (b : Nat) (l : List UInt8) (k : Int) (w : World) (hl : l.length ≤ 90000) (hk : -1 ≤ k) (bs : List UInt8) (n : Nat) (hp : bodM l k = .ok (bs, n)) (h : Rdr w b (strB l) 0) (hT : Tabs w) (hE : Errs w) :
    Calls Tryz.prog 27 #[.pointer (some ⟨b, 0, none⟩), .int .i64 k] w fun e w' => e = .returned (.string (strB bs)) ∧ mvd b (strB (l.drop n)) 0 w w' := by
  refine (mbody_ok b (strB l) k w h (by rewrite [strB_size]; exact hl) hk hT hE bs n (by rewrite [strB_data]; exact hp)).mono ?_
  rintro e w' ⟨rfl, h2⟩
  rw [strB_from] at h2
  exact ⟨rfl, h2⟩

/-- The package's length and the document's. -/
theorem lnM_err {fs : List Fld} {x : Int} (h : lngL fs = .error x) : x = 2 ∧ (lnM fs).2 = false := by
  refine ⟨lngL_no h, ?_⟩
  unfold lngL at h
  unfold lnM
  generalize allH fs teN = te at *
  generalize allH fs clN = cl at *
  by_cases h1 : 1 < te.length + cl.length
  · rw [if_pos h1]
  · rw [if_neg h1] at h ⊢
    cases te with
    | cons y r =>
      dsimp only at h ⊢
      by_cases h2 : lowL y = chN
      · rw [if_pos h2] at h; cases h
      · exact decide_eq_false h2
    | nil =>
      cases cl with
      | cons y r =>
        dsimp only at h ⊢
        cases h2 : digitsB y
        · rfl
        · rw [h2, if_pos rfl] at h; cases h
      | nil => cases h
theorem lnM_ok {fs : List Fld} {k : Int} (h : lngL fs = .ok k) : (lnM fs).2 = true ∧ ((k = -2 ∧ (lnM fs).1 = -1) ∨ (k = -1 ∧ (lnM fs).1 = -2) ∨ (0 ≤ k ∧ (lnM fs).1 = k)) := by
  unfold lngL at h
  unfold lnM
  generalize allH fs teN = te at *
  generalize allH fs clN = cl at *
  by_cases h1 : 1 < te.length + cl.length
  · rw [if_pos h1] at h; cases h
  · rw [if_neg h1] at h ⊢
    cases te with
    | cons y r =>
      dsimp only at h ⊢
      by_cases h2 : lowL y = chN
      · rw [if_pos h2] at h
        simp only [Except.ok.injEq] at h
        exact ⟨decide_eq_true h2, .inl ⟨h.symm, rfl⟩⟩
      · rw [if_neg h2] at h; cases h
    | nil =>
      cases cl with
      | cons y r =>
        dsimp only at h ⊢
        cases h2 : digitsB y
        · rw [h2, if_neg (by decide)] at h; cases h
        · rw [h2, if_pos rfl] at h
          simp only [Except.ok.injEq] at h
          have := digN_pos y
          exact ⟨rfl, .inr (.inr ⟨by omega, h⟩)⟩
      | nil =>
        simp only [Except.ok.injEq] at h
        exact ⟨rfl, .inr (.inl ⟨h.symm, rfl⟩)⟩
theorem lnM_nil : lnM [] = (-2, true) := rfl

end Go.Proofs.YthbfcamfapgodaaGreatDoor

namespace Go.Proofs.YthbfcamfapgodaaGreatDoor
open Go.RowKit Go.Shelf Go.Lib

theorem BytF.made (w : World) (s : ByteArray) : BytF w.heap.size (Lib.bytesWorld w 5 s) (.slice (some ⟨w.heap.size, 0, none⟩) s.size (grownCap w s.size 0 5)) s.data.toList := by
  refine ⟨_, _, by rw [Lib.size_eq], .inr ⟨w.heap.size, 0, rfl, Nat.le_refl _, by rewrite [Lib.bytesWorld_size]; omega, fun j c hj => ?_⟩⟩
  have hlt : j < s.data.toList.length := (List.getElem?_eq_some_iff.1 hj).1
  rewrite [Nat.zero_add, Lib.bytesWorld_cell w 5 s j (by rewrite [Lib.size_eq]; exact hlt), List.getD_eq_getElem?_getD, hj]
  rfl
/-- Bytes in memory, as a string. -/
theorem BytF.conv {lo : Nat} {w : World} {v : Value} {bs : List UInt8} (h : BytF lo w v bs) : (convert 24 9 v).run Tryz.prog w = .ok (.string (strB bs)) w := by
  obtain ⟨ao, cap, rfl, hc⟩ := h
  rcases hc with rfl | ⟨b, off, rfl, _, _, hc⟩
  · rewrite [run_convert_bytes_string w 24 9 5 ao _ cap Tryz.underlying24 Tryz.underlying5 Tryz.underlying9]
    cases ao <;> simp [Conv.bytesToString, loadCells, strB] <;> rfl
  · have := run_convert_bytes_arg (P := Tryz.prog) w 24 5 Tryz.underlying24 Tryz.underlying5 b off bs.length cap (bs.map fun c => (c.toNat : Int)) (by rw [List.length_map]) (fun i hi => by
      rewrite [hc i bs[i] (List.getElem?_eq_getElem hi), List.getD_eq_getElem?_getD, List.getElem?_map, List.getElem?_eq_getElem hi]
      rfl) 9 Tryz.underlying9
    rewrite [this]
    have hy : ∀ l : List UInt8, l.map ((fun n : Int => UInt8.ofNat n.toNat) ∘ fun c => (c.toNat : Int)) = l := fun l => by
      induction l with
      | nil => rfl
      | cons c r ih => rewrite [List.map_cons, ih]; simp
    have hx : strOfNums (bs.map fun c => (c.toNat : Int)) = strB bs := by simp [strOfNums, strB, hy]
    rw [hx]


end Go.Proofs.YthbfcamfapgodaaGreatDoor
