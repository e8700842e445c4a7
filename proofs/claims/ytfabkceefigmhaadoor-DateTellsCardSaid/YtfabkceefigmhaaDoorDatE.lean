/- The reader of a date in memory, and the contracts of its methods skip, number, spacedDay, upTo, clock. -/
import Derived.Test.YtfabkceefigmhaaDoorDatB
namespace Go.Proofs.YtfabkceefigmhaaDoor
open Go.RowKit

/-- The world is as it was but for block b, and for new blocks. -/
structure Moved (b : Nat) (w w' : World) : Prop where
  os : w'.os = w.os
  tape : w'.tape = w.tape
  output : w'.output = w.output
  size : w.heap.size ≤ w'.heap.size
  block : ∀ k, k < w.heap.size → k ≠ b → w'.heap[k]? = w.heap[k]?

theorem Moved.refl (b : Nat) (w : World) : Moved b w w := ⟨rfl, rfl, rfl, Nat.le_refl _, fun _ _ _ => rfl⟩
theorem Moved.of_below {b : Nat} {w w' : World} (h : Below w.heap.size w w') : Moved b w w' := ⟨h.os, h.tape, h.output, h.size, fun k hk _ => h.block k hk⟩
theorem Moved.trans {b : Nat} {u v w : World} (h : Moved b u v) (k : Moved b v w) : Moved b u w :=
  ⟨k.os.trans h.os, k.tape.trans h.tape, k.output.trans h.output, Nat.le_trans h.size k.size, fun i hi hb => (k.block i (Nat.lt_of_lt_of_le hi h.size) hb).trans (h.block i hi hb)⟩
theorem Moved.below {b B : Nat} {w w' : World} (h : Moved b w w') (h1 : B ≤ b) (h2 : B ≤ w.heap.size) : Below B w w' :=
  ⟨h.os, h.tape, h.output, h.size, fun k hk => h.block k (Nat.lt_of_lt_of_le hk h2) (by omega)⟩
theorem Moved.cell {b : Nat} {w w' : World} (h : Moved b w w') {p : Addr} (h1 : p.block < w.heap.size) (h2 : p.block ≠ b) : w'.cell? p = w.cell? p := World.cell?_of_block (w := w) (h.block p.block h1 h2)
theorem Moved.frozen {b : Nat} {w w' : World} (h : Moved b w w') {p : Addr} (h1 : p.block < w.heap.size) (h2 : p.block ≠ b) : w'.frozen? p = w.frozen? p := World.frozen?_of_block (w := w) (h.block p.block h1 h2)
theorem Moved.setCell {b o : Nat} {w W : World} (h : Moved b w W) (v : Value) : Moved b w (W.setCell ⟨b, o, none⟩ v) := by
  exact ⟨h.os, h.tape, h.output, by simpa using h.size, fun k hk1 hb => (Below.heap_setCell W ⟨b, o, none⟩ v k hb).trans (h.block k hk1 hb)⟩
theorem Moved.drew {b : Nat} {w W : World} (h : Moved b w W) (n : Nat) : Moved b w (W.drewN n) := ⟨h.os, h.tape, h.output, h.size, h.block⟩

/-- A reader lies at block b: what is left, and whether something was wrong. -/
structure Txt (w : World) (b : Nat) (s : St) : Prop where
  c0 : w.cell? ⟨b, 0, none⟩ = some (.string (strB s.1))
  c1 : w.cell? ⟨b, 1, none⟩ = some (.bool s.2)
  f0 : w.frozen? ⟨b, 0, none⟩ = false
  f1 : w.frozen? ⟨b, 1, none⟩ = false
  sz : s.1.length ≤ maxLen

theorem Txt.lt {w : World} {b : Nat} {s : St} (h : Txt w b s) : b < w.heap.size := lt_of_cell h.c0
theorem Txt.drew {w : World} {b : Nat} {s : St} (h : Txt w b s) (n : Nat) : Txt (w.drewN n) b s := ⟨h.c0, h.c1, h.f0, h.f1, h.sz⟩
theorem Txt.below {w W : World} {b : Nat} {s : St} (h : Txt w b s) (hb : Below w.heap.size w W) : Txt W b s :=
  ⟨(hb.cell (p := ⟨b, 0, none⟩) h.lt).trans h.c0, (hb.cell (p := ⟨b, 1, none⟩) h.lt).trans h.c1, (hb.frozen (p := ⟨b, 0, none⟩) h.lt).trans h.f0, (hb.frozen (p := ⟨b, 1, none⟩) h.lt).trans h.f1, h.sz⟩
theorem Txt.rest {w : World} {b : Nat} {s : St} (h : Txt w b s) (r : List UInt8) (hr : r.length ≤ s.1.length) : Txt (w.setCell ⟨b, 0, none⟩ (.string (strB r))) b (r, s.2) :=
  ⟨World.cell?_setCell_same w ⟨b, 0, none⟩ _ h.c0, (World.cell?_setCell_other w ⟨b, 0, none⟩ ⟨b, 1, none⟩ _ (by simp)).trans h.c1, by rw [World.frozen?_setCell]; exact h.f0, by rw [World.frozen?_setCell]; exact h.f1, Nat.le_trans hr h.sz⟩
theorem Txt.wrong {w : World} {b : Nat} {s : St} (h : Txt w b s) : Txt (w.setCell ⟨b, 1, none⟩ (.bool true)) b (s.1, true) :=
  ⟨(World.cell?_setCell_other w ⟨b, 1, none⟩ ⟨b, 0, none⟩ _ (by simp)).trans h.c0, World.cell?_setCell_same w ⟨b, 1, none⟩ _ h.c1, by rw [World.frozen?_setCell]; exact h.f0, by rw [World.frozen?_setCell]; exact h.f1, h.sz⟩

theorem Cal.moved {w w' : World} {b : Nat} {s : St} (h : Cal w) (ht : Txt w b s) (hm : Moved b w w') : Cal w' := by
  have n1 : 0 ≠ b := by
    rintro rfl
    have := (h.md 1 (by omega)).symm.trans ht.c1
    simp at this
  have n2 : 1 ≠ b := by
    rintro rfl
    have := (h.wk 1 (by omega)).symm.trans ht.c1
    simp at this
  have n3 : 2 ≠ b := by
    rintro rfl
    have := (h.mo 1 (by omega)).symm.trans ht.c1
    simp at this
  exact ⟨fun j hj => (hm.cell (p := ⟨_, j, none⟩) (lt_of_cell (h.md j hj)) n1).trans (h.md j hj), fun j hj => (hm.cell (p := ⟨_, j, none⟩) (lt_of_cell (h.wk j hj)) n2).trans (h.wk j hj), fun j hj => (hm.cell (p := ⟨_, j, none⟩) (lt_of_cell (h.mo j hj)) n3).trans (h.mo j hj)⟩

/-- What a method of the reader leaves. -/
def txtPost (v : Value) (b : Nat) (s : St) (w : World) (e : Ending) (w' : World) : Prop := e = .returned v ∧ Txt w' b s ∧ Moved b w w'

set_option maxHeartbeats 1000000 in
theorem skip_any (b : Nat) (s : St) (p : ByteArray) (w : World) (h : Txt w b s) :
    Calls Tryd.prog 41 #[.pointer (some ⟨b, 0, none⟩), .string p] w (txtPost (.tuple #[]) b (skL p.data.toList s) w) := by
  have HT := Lib.hid h
  have c0 := h.c0
  have c1 := h.c1
  have f0 := h.f0
  have f1 := h.f1
  clear h
  have cC := fun W => Tryd.strings_CutPrefix (strB s.1) p W
  rw [strB_data, Lib.trimPrefix] at cC
  unfold skL
  have hpp : Lib.hasPrefix s.1 p.data.toList = p.data.toList.isPrefixOf s.1 := rfl
  rw [hpp] at cC
  cases hp : p.data.toList.isPrefixOf s.1
  · rw [hp] at cC
    simp only [Bool.false_eq_true, if_false] at cC ⊢
    generalize (⟨s.1.toArray⟩ : ByteArray) = q at cC
    go_enter Tryd.func41, Tryd.ntmps41
    go_wp2_with fail
    refine (cC _).mono ?_
    rintro e w1 ⟨rfl, rfl⟩
    go_wp2_with fail
    exact bodyPost_ret (v := .tuple #[]) (by simp [results, Tryd.results41, go_sem]) rfl ⟨rfl, HT.out.wrong, (Moved.refl b _).setCell _⟩
  · rw [hp] at cC
    simp only [if_true] at cC ⊢
    have hq : (⟨(s.1.drop p.data.toList.length).toArray⟩ : ByteArray) = strB (s.1.drop p.data.toList.length) := rfl
    rw [hq] at cC
    clear hq
    have hl : (s.1.drop p.data.toList.length).length ≤ s.1.length := by simp
    generalize s.1.drop p.data.toList.length = r at *
    generalize hQ : strB r = q at cC
    have HQ := Lib.hid hQ
    clear hQ
    go_enter Tryd.func41, Tryd.ntmps41
    go_wp2_with fail
    refine (cC _).mono ?_
    rintro e w1 ⟨rfl, rfl⟩
    go_wp2_with fail
    exact bodyPost_ret (v := .tuple #[]) (by simp [results, Tryd.results41, go_sem]) rfl ⟨rfl, HQ.out ▸ HT.out.rest r hl, (Moved.refl b _).setCell _⟩

theorem hasPrefix_one (s : ByteArray) (c : UInt8) (w : World) :
    Calls Tryd.prog 50 #[.string s, .string ⟨#[c]⟩] w fun e w' => e = .returned (.bool (s.data.toList.head? == some c)) ∧ w = w' := by
  refine (Tryd.strings_HasPrefix s ⟨#[c]⟩ w).mono ?_
  rintro e w' ⟨rfl, rfl⟩
  refine ⟨?_, rfl⟩
  congr 2
  rw [show (⟨#[c]⟩ : ByteArray).data.toList = [c] from rfl]
  cases hl : s.data.toList with
  | nil => rfl
  | cons d r =>
    unfold Lib.hasPrefix
    rw [Bool.eq_iff_iff]
    simp only [List.isPrefixOf, Bool.and_true, beq_iff_eq, List.head?_cons, Option.some.injEq]
    exact eq_comm

theorem valL_lt (l : List UInt8) (h : l.all dgt = true) : valL l < 10 ^ l.length := (padL_valL l.length l rfl h).2

theorem nuL_no {k : Nat} {s : St} (h : (decide (k ≤ s.1.length) && (s.1.take k).all dgt) = false) : nuL k s = (0, s.1, true) := by
  unfold nuL
  rw [h]
  rfl
theorem nuL_yes {k : Nat} {s : St} (h : (decide (k ≤ s.1.length) && (s.1.take k).all dgt) = true) : nuL k s = (valL (s.1.take k), s.1.drop k, s.2) := by
  unfold nuL
  rw [h]
  rfl
theorem nuL_lt (k : Nat) (s : St) : (nuL k s).1 < 10 ^ k := by
  cases h : (decide (k ≤ s.1.length) && (s.1.take k).all dgt)
  · rw [nuL_no h]
    exact Nat.pow_pos (by omega)
  · rw [nuL_yes h]
    simp only [Bool.and_eq_true, decide_eq_true_eq] at h
    have := valL_lt _ h.2
    rw [List.length_take, Nat.min_eq_left h.1] at this
    exact this

set_option maxRecDepth 100000 in
set_option maxHeartbeats 2000000 in
theorem number_any (k b : Nat) (s : St) (w : World) (h : Txt w b s) (hk : k ≤ 4) :
    Calls Tryd.prog 42 #[.pointer (some ⟨b, 0, none⟩), .int .i64 k] w (txtPost (.int .i64 (nuL k s).1) b (nuL k s).2 w) := by
  have HT := Lib.hid h
  have c0 := h.c0
  have c1 := h.c1
  have f0 := h.f0
  have f1 := h.f1
  have hsz := h.sz
  have hz := strB_size s.1
  clear h
  unfold maxLen at hsz
  by_cases hlen : k ≤ s.1.length
  · have hS : ∀ j, (hj : j < (strB s.1).size) → s.1.take (j + 1) = s.1.take j ++ [(strB s.1)[j]] := by
      intro j hj
      have := List.take_add_one (l := s.1) (i := j)
      rw [this, List.getElem?_eq_getElem (by rw [strB_size] at hj; exact hj)]
      rfl
    have hdr : strB (s.1.drop k) = (strB s.1).extract k (strB s.1).size := by rw [strB_size, strB_drop _ _ _ rfl]
    generalize hG : strB s.1 = t at *
    have HG := Lib.hid hG
    clear hG
    have HZ := Lib.hid hz
    have d0 : decide ((t.size : Int) < (k : Int)) = false := by simp; omega
    have hkt : k ≤ t.size := by omega
    have htm : t.size ≤ 9223372036854775807 := by omega
    clear hz
    go_enter Tryd.func42, Tryd.ntmps42
    go_wp2_with fail
    go_loop [5, 19] (fun x z => ∃ i : Nat, i ≤ k ∧ z = .int .i64 i ∧ x = .int .i64 (valL (s.1.take i)) ∧ Hid ((s.1.take i).all dgt = true)) (fun _ z => k - (intOf z).toNat)
    case atStart => exact ⟨0, Nat.zero_le _, rfl, rfl, Lib.hid rfl⟩
    case round =>
      obtain ⟨i, hik, rfl, rfl, hA⟩ := hrel
      by_cases hlt : i < k
      · have hit : i < t.size := by omega
        have hT := hS i hit
        have hvn : valL (s.1.take i) ≤ 9999 := by
          have := valL_lt _ hA.out
          rw [List.length_take, Nat.min_eq_left (by omega)] at this
          have h10 : 10 ^ i ≤ 10 ^ 4 := Nat.pow_le_pow_right (by omega) (by omega)
          omega
        cases hd : dgt t[i]
        · have hno : (decide (k ≤ s.1.length) && (s.1.take k).all dgt) = false := by
            rw [Bool.and_eq_false_iff]
            refine .inr ?_
            have hsub : s.1.take k = s.1.take (i + 1) ++ (s.1.take k).drop (i + 1) := by
              rw [show s.1.take (i + 1) = (s.1.take k).take (i + 1) by rw [List.take_take, Nat.min_eq_left (by omega)], List.take_append_drop]
            rw [hsub, hT, List.all_append, List.all_append]
            simp [hd]
          have HN := Lib.hid (nuL_no hno)
          clear hS hT hdr hno hA
          unfold dgt at hd
          have hcn : (t[i].toNat : Int) < 48 ∨ (57 : Int) < t[i].toNat := by
            simp only [Bool.and_eq_false_iff, decide_eq_false_iff_not] at hd
            omega
          clear hd
          rcases hcn with h1 | h1
          · have g1 : decide ((t[i].toNat : Int) < 48) = true := by simpa using h1
            go_wp2_with fail
            go_ret
            exact ⟨by rw [HN.out]; rfl, by rw [HN.out]; exact HT.out.wrong, (Moved.refl b w).setCell _⟩
          · have g1 : decide ((t[i].toNat : Int) < 48) = false := by simp; omega
            have g2 : decide ((57 : Int) < t[i].toNat) = true := by simpa using h1
            go_wp2_with fail
            go_ret
            exact ⟨by rw [HN.out]; rfl, by rw [HN.out]; exact HT.out.wrong, (Moved.refl b w).setCell _⟩
        · have hv : Hid (valL (s.1.take (i + 1)) = 10 * valL (s.1.take i) + (t[i].toNat - 48)) := Lib.hid (by rw [hT, valL_snoc])
          have hA2 : Hid ((s.1.take (i + 1)).all dgt = true) := Lib.hid (by rw [hT, List.all_append, hA.out]; simp [hd])
          unfold dgt at hd
          simp only [Bool.and_eq_true, decide_eq_true_eq] at hd
          obtain ⟨h1, h2⟩ := hd
          have g1 : decide ((t[i].toNat : Int) < 48) = false := by simp; omega
          have g2 : decide ((57 : Int) < t[i].toNat) = false := by simp; omega
          have hw : ((t[i].toNat - 48 : Nat) : Int) = (t[i].toNat : Int) - 48 := by omega
          clear hS hT hdr hA
          generalize valL (s.1.take i) = n at *
          go_wp2_with fail
          go_round
          case rel => exact ⟨i + 1, by omega, by go_num, by rw [hv.out]; go_num, hA2⟩
          case measure => simp [intOf]; omega
      · obtain rfl : i = k := by omega
        have hyes : (decide (i ≤ s.1.length) && (s.1.take i).all dgt) = true := by rw [hA.out]; simp; omega
        have HN := Lib.hid (nuL_yes hyes)
        have HD := Lib.hid hdr
        clear hS hA hyes hdr
        generalize valL (s.1.take i) = n at *
        go_wp2_with fail
        go_ret
        refine ⟨by rw [HN.out]; rfl, ?_, (Moved.refl b w).setCell _⟩
        rw [HN.out]
        have := HT.out.rest (s.1.drop i) (by simp)
        rw [HD.out] at this
        exact this
  · have hno : (decide (k ≤ s.1.length) && (s.1.take k).all dgt) = false := by simp; omega
    have HN := Lib.hid (nuL_no hno)
    clear hno
    generalize hG : strB s.1 = t at *
    clear hG
    have d0 : t.size < k := by omega
    clear hz
    go_enter Tryd.func42, Tryd.ntmps42
    go_wp2_with fail
    go_ret
    exact ⟨by rw [HN.out]; rfl, by rw [HN.out]; exact HT.out.wrong, (Moved.refl b w).setCell _⟩

set_option maxHeartbeats 1000000 in
theorem upTo_any (most b : Nat) (s : St) (w : World) (h : Txt w b s) (_ : most < 100) :
    Calls Tryd.prog 49 #[.pointer (some ⟨b, 0, none⟩), .int .i64 most] w (txtPost (.int .i64 (upL most s).1) b (upL most s).2 w) := by
  have cN := number_any 2 b s w h (by omega)
  have hlt := nuL_lt 2 s
  clear h
  unfold upL
  generalize nuL 2 s = q at *
  obtain ⟨n, r, x⟩ := q
  dsimp only at *
  by_cases hg : most < n
  · have hv : (x || decide (most < n)) = true := by simp [hg]
    rw [hv]
    clear hv
    go_enter Tryd.func49, Tryd.ntmps49
    go_wp2_with fail
    refine cN.mono ?_
    rintro e w1 ⟨rfl, hT1, hM1⟩
    have c1 := hT1.c1
    have f1 := hT1.f1
    have HT1 := Lib.hid hT1
    clear hT1
    go_wp2_with fail
    go_ret
    exact ⟨rfl, HT1.out.wrong, hM1.setCell _⟩
  · have hv : (x || decide (most < n)) = x := by simp [hg]
    rw [hv]
    clear hv
    go_enter Tryd.func49, Tryd.ntmps49
    go_wp2_with fail
    refine cN.mono ?_
    rintro e w1 ⟨rfl, hT1, hM1⟩
    go_wp2_with fail
    go_ret
    exact ⟨rfl, hT1, hM1⟩

theorem upL_lt (most : Nat) (s : St) : (upL most s).1 < 100 := nuL_lt 2 s

set_option maxHeartbeats 1000000 in
theorem clock_any (b : Nat) (s : St) (w : World) (h : Txt w b s) :
    Calls Tryd.prog 44 #[.pointer (some ⟨b, 0, none⟩)] w (txtPost (.int .i64 (ckL s).1) b (ckL s).2 w) := by
  have c1 := upTo_any 23 b s w h (by omega)
  have c2 := fun W (h : Txt W b (ckA s).2) => skip_any b (ckA s).2 ⟨#[58]⟩ W h
  have c3 := fun W (h : Txt W b (skL [58] (ckA s).2)) => upTo_any 59 b (skL [58] (ckA s).2) W h (by omega)
  have c4 := fun W (h : Txt W b (ckB s).2) => skip_any b (ckB s).2 ⟨#[58]⟩ W h
  have c5 := fun W (h : Txt W b (skL [58] (ckB s).2)) => upTo_any 59 b (skL [58] (ckB s).2) W h (by omega)
  rw [show (⟨#[58]⟩ : ByteArray).data.toList = [58] from rfl] at c2 c4
  change Calls _ _ _ _ (txtPost (.int .i64 (ckA s).1) b (ckA s).2 w) at c1
  change ∀ W (_ : Txt W b (skL [58] (ckA s).2)), Calls _ _ _ _ (txtPost (.int .i64 (ckB s).1) b (ckB s).2 W) at c3
  change ∀ W (_ : Txt W b (skL [58] (ckB s).2)), Calls _ _ _ _ (txtPost (.int .i64 (ckC s).1) b (ckC s).2 W) at c5
  have z1 : (ckA s).1 < 100 := upL_lt _ _
  have z2 : (ckB s).1 < 100 := upL_lt _ _
  have z3 : (ckC s).1 < 100 := upL_lt _ _
  unfold ckL
  clear h
  generalize skL [58] (ckA s).2 = s2 at *
  generalize skL [58] (ckB s).2 = s4 at *
  generalize ckA s = q1 at *
  generalize ckB s = q2 at *
  generalize ckC s = q3 at *
  obtain ⟨n1, s1⟩ := q1
  obtain ⟨n2, s3⟩ := q2
  obtain ⟨n3, s5⟩ := q3
  dsimp only at *
  have hv : ((n1 * 3600 + n2 * 60 + n3 : Nat) : Int) = (n1 : Int) * 3600 + (n2 : Int) * 60 + (n3 : Int) := by omega
  rw [hv]
  clear hv
  go_enter Tryd.func44, Tryd.ntmps44
  go_wp2_with fail
  refine c1.mono ?_
  rintro e w1 ⟨rfl, hT1, hM1⟩
  go_wp2_with fail
  refine (c2 _ hT1).mono ?_
  rintro e w2 ⟨rfl, hT2, hM2⟩
  have hM2' := hM1.trans hM2
  clear hT1 hM1 hM2
  go_wp2_with fail
  refine (c3 _ hT2).mono ?_
  rintro e w3 ⟨rfl, hT3, hM3⟩
  have hM3' := hM2'.trans hM3
  clear hT2 hM2' hM3
  go_wp2_with fail
  refine (c4 _ hT3).mono ?_
  rintro e w4 ⟨rfl, hT4, hM4⟩
  have hM4' := hM3'.trans hM4
  clear hT3 hM3' hM4
  go_wp2_with fail
  refine (c5 _ hT4).mono ?_
  rintro e w5 ⟨rfl, hT5, hM5⟩
  have hM5' := hM4'.trans hM5
  clear hT4 hM4' hM5
  go_wp2_with fail
  go_ret
  exact ⟨rfl, hT5, hM5'⟩

set_option maxHeartbeats 1000000 in
theorem spacedDay_any (b : Nat) (s : St) (w : World) (h : Txt w b s) :
    Calls Tryd.prog 46 #[.pointer (some ⟨b, 0, none⟩)] w (txtPost (.int .i64 (sdL s).1) b (sdL s).2 w) := by
  obtain ⟨r, x⟩ := s
  have HT := Lib.hid h
  have c0 := h.c0
  have c1 := h.c1
  have f1 := h.f1
  have p1 := fun W => hasPrefix_one (strB r) 32 W
  have p2 := fun W => hasPrefix_one (strB r) 48 W
  rw [strB_data] at p1 p2
  dsimp only at c0 c1
  unfold sdL
  dsimp only
  cases h32 : r.head? == some 32
  · rw [h32] at p1
    simp only [Bool.false_eq_true, if_false]
    cases h48 : r.head? == some 48
    · rw [h48] at p2
      rw [Bool.or_false]
      have c3 := number_any 2 b (r, x) w h (by omega)
      clear h h32 h48
      generalize strB r = t at *
      generalize nuL 2 (r, x) = q at *
      go_enter Tryd.func46, Tryd.ntmps46
      go_wp2_with fail
      refine (p1 _).mono ?_
      rintro e w1 ⟨rfl, rfl⟩
      go_wp2_with fail
      refine (p2 _).mono ?_
      rintro e w1 ⟨rfl, rfl⟩
      go_wp2_with fail
      refine c3.mono ?_
      rintro e w1 ⟨rfl, hT1, hM1⟩
      go_wp2_with fail
      go_ret
      exact ⟨rfl, hT1, hM1⟩
    · rw [h48] at p2
      rw [Bool.or_true]
      have c3 := fun W (h : Txt W b (r, true)) => number_any 2 b (r, true) W h (by omega)
      clear h h32 h48
      generalize strB r = t at *
      generalize nuL 2 (r, true) = q at *
      go_enter Tryd.func46, Tryd.ntmps46
      go_wp2_with fail
      refine (p1 _).mono ?_
      rintro e w1 ⟨rfl, rfl⟩
      go_wp2_with fail
      refine (p2 _).mono ?_
      rintro e w1 ⟨rfl, rfl⟩
      go_wp2_with fail
      refine (c3 _ HT.out.wrong).mono ?_
      rintro e w1 ⟨rfl, hT1, hM1⟩
      go_wp2_with fail
      go_ret
      exact ⟨rfl, hT1, ((Moved.refl b _).setCell _).trans hM1⟩
  · rw [h32] at p1
    simp only [if_true]
    have hsk : skL [32] (r, x) = (r.drop 1, x) := by
      unfold skL
      have : [32].isPrefixOf r = true := by
        cases r with
        | nil => cases h32
        | cons c q => simpa using (by simpa using h32 : c = 32).symm
      simp only [this, if_true]
      rfl
    have c2 := skip_any b (r, x) ⟨#[32]⟩ w h
    rw [show (⟨#[32]⟩ : ByteArray).data.toList = [32] from rfl, hsk] at c2
    have c3 := fun W (h : Txt W b (r.drop 1, x)) => number_any 1 b (r.drop 1, x) W h (by omega)
    clear h h32 hsk
    generalize strB r = t at *
    generalize nuL 1 (r.drop 1, x) = q at *
    generalize r.drop 1 = r1 at *
    go_enter Tryd.func46, Tryd.ntmps46
    go_wp2_with fail
    refine (p1 _).mono ?_
    rintro e w1 ⟨rfl, rfl⟩
    go_wp2_with fail
    refine c2.mono ?_
    rintro e w1 ⟨rfl, hT1, hM1⟩
    go_wp2_with fail
    refine (c3 _ hT1).mono ?_
    rintro e w2 ⟨rfl, hT2, hM2⟩
    go_wp2_with fail
    go_ret
    exact ⟨rfl, hT2, hM1.trans hM2⟩

end Go.Proofs.YtfabkceefigmhaaDoor
