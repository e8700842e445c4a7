/- The contract of head.Parse. -/
import Derived.Test.YtfhpgobdnhlpcaaDoorHdD
import Derived.Laws.AppendOwn
namespace Go.Proofs.YtfhpgobdnhlpcaaDoor
open Go.RowKit Go.Shelf Go.Lib

abbrev Fld := List UInt8 × List UInt8
/-- Fields as a row. -/
def cellsF (p : Fld) : List Value := [.string (strB p.1), .string (strB p.2)]
def rowF : List Fld → List Value
  | [] => []
  | p :: ps => cellsF p ++ rowF ps
theorem rowF_len : ∀ ps : List Fld, (rowF ps).length = ps.length * 2
  | [] => rfl
  | p :: ps => by rw [rowF, List.length_append, rowF_len ps, List.length_cons]; simp [cellsF]; omega
theorem rowF_snoc : ∀ (ps : List Fld) (p : Fld), rowF (ps ++ [p]) = rowF ps ++ cellsF p
  | [], p => by simp [rowF]
  | q :: ps, p => by rw [List.cons_append, rowF, rowF, rowF_snoc ps p, List.append_assoc]

/-- The fields with which a text begins, from a place on, behind some, and where they end; or the error. By so many rounds. -/
def parH : Nat → List UInt8 → Nat → List Fld → Except Int (List Fld × Nat)
  | 0, _, _, _ => .error 4
  | f + 1, l, K, acc =>
    if (lineL (l.drop K)).2 ≠ 0 then .error (lineL (l.drop K)).2
    else if (lineL (l.drop K)).1 = [] then .ok (acc, K + (lineL (l.drop K)).1.length + 2)
    else if acc.length = 64 then .error 4
    else match fldL (lineL (l.drop K)).1 with
      | none => .error 2
      | some p => parH f l (K + (lineL (l.drop K)).1.length + 2) (acc ++ [p])
def parseH (l : List UInt8) : Except Int (List Fld × Nat) := parH 65 l 0 []

/-- A line that is, with its end, lies within the text. -/
theorem lineL_le (l : List UInt8) (h : (lineL l).2 = 0) : (lineL l).1.length + 2 ≤ l.length := by
  unfold lineL at h ⊢
  by_cases h1 : Lib.indexByte l 10 = -1
  · rw [if_pos h1] at h
    simp only at h
    split at h <;> cases h
  · rw [if_neg h1] at h ⊢
    obtain ⟨h0, hk⟩ := index_le l 10 h1
    by_cases h2 : Lib.hasSuffix (l.take (Lib.indexByte l 10).toNat) [13] = false
    · rw [if_pos h2] at h
      cases h
    · rw [if_neg h2] at h ⊢
      have h2' : Lib.hasSuffix (l.take (Lib.indexByte l 10).toNat) [13] = true := by simpa using h2
      by_cases h3 : 2000 < (Lib.trimSuffix (l.take (Lib.indexByte l 10).toNat) [13]).length
      · rw [if_pos h3] at h
        cases h
      · rw [if_neg h3]
        dsimp only
        have h4 : [(13 : UInt8)].length ≤ (List.take (Lib.indexByte l 10).toNat l).length := by
          have h5 := h2'
          unfold Lib.hasSuffix at h5
          exact (List.isSuffixOf_iff_suffix.1 h5).length_le
        unfold Lib.trimSuffix
        rw [if_pos h2', List.length_take, List.length_take]
        rw [List.length_take] at h4
        simp only [List.length_singleton] at h4 ⊢
        omega

theorem info_field : (Tryd.prog.info? 42).map (fun i => (i.zero, i.size, i.bytes)) = some (some (.agg #[.string ⟨#[]⟩, .string ⟨#[]⟩]), 2, 32) := by kernel_rfl
theorem cells_newF (w : World) (cs : List Value) (T : TypeId) (j : Nat) (u : Value) (h : cs[j]? = some u) : (w.alloc (.cells cs.toArray T)).cell? ((⟨w.heap.size, 0, none⟩ : Addr).add j) = some u := by
  rw [add_none]
  have hj : j < cs.length := (List.getElem?_eq_some_iff.1 h).1
  simp [h]

theorem owns_formF {w : World} {base : Nat} {e : TypeId} {size : Nat} {v : Value} {n : Nat} {xs : List Value} (h : w.ownsRow base e size v n xs) : ∃ ao cap, v = .slice ao n cap := by
  rcases h.2 with ⟨hv, h2⟩ | ⟨g, cap, cur, hv, _⟩
  · exact ⟨none, 0, by rw [hv, h2]⟩
  · exact ⟨_, cap, hv⟩

def headPost (o : Except Int (List Fld × Nat)) (w : World) (e : Ending) (w' : World) : Prop :=
  Below w.heap.size w w' ∧ match o with
    | .error n => e = .returned (.tuple #[.slice none 0 0, .int .i64 0, .int .i64 n])
    | .ok (fs, n) => ∃ v, e = .returned (.tuple #[v, .int .i64 (n : Int), .int .i64 0]) ∧ w'.ownsRow w.heap.size 42 2 v fs.length (rowF fs)

set_option maxRecDepth 100000 in
set_option maxHeartbeats 4000000 in
theorem hparse_any (s : ByteArray) (w : World) (hs : s.size ≤ 100000) (hT : Tabs w) :
    Calls Tryd.prog 10 #[.string s] w (headPost (parseH s.data.toList) w) := by
  obtain ⟨i0, hi, hz0, hz1, hz2⟩ := info_parts info_field
  have HT := Lib.hid hT
  clear hT
  go_enter Tryd.func10, Tryd.ntmps10
  go_wp2_with fail
  go_loopw [5, 6] (fun v a wr => ∃ (K f : Nat) (acc : List Fld) (av : Option Addr) (cv : Nat), v = .slice av acc.length cv ∧ a = .int .i64 (K : Int) ∧ K ≤ s.size ∧ f + acc.length = 65 ∧ acc.length ≤ 64 ∧ Hid (parseH s.data.toList = parH f s.data.toList K acc) ∧ wr.ownsRow w.heap.size 42 2 (.slice av acc.length cv) acc.length (rowF acc) ∧ Below w.heap.size w wr) (fun _ a _ => s.size - (intOf a).toNat)
  case atStart => exact ⟨0, 65, [], none, 0, rfl, rfl, Nat.zero_le _, rfl, by simp, Lib.hid rfl, World.ownsRow_nil _ _ _ _, Below.refl _ _⟩
  case round =>
    obtain ⟨K, f, acc, av, cv, rfl, rfl, hK, hf, hal, H, hown, hb⟩ := hrel
    have HO := Lib.hid hown
    have HB := Lib.hid hb
    clear hown hb
    obtain ⟨f, rfl⟩ : ∃ f', f = f' + 1 := ⟨f - 1, by omega⟩
    have hxd : (s.extract K s.size).data.toList = s.data.toList.drop K := Lib.extract_to_end s K
    have hxs : (s.extract K s.size).size = s.size - K := by rw [Lib.size_eq, hxd, List.length_drop, ← Lib.size_eq]
    have cL := fun W => firstLine_any (s.extract K s.size) W (by omega)
    rw [hxd] at cL
    have hH := H.out
    rw [parH] at hH
    have hle := lineL_le (s.data.toList.drop K)
    rw [List.length_drop, ← Lib.size_eq] at hle
    obtain ⟨⟨ln, er⟩, hp⟩ : ∃ p, lineL (s.data.toList.drop K) = p := ⟨_, rfl⟩
    rw [hp] at cL hH hle
    dsimp only at hH hle
    clear hp hxd hxs H
    by_cases he : er = 0
    · subst he
      have hln := hle rfl
      rw [if_neg (by simp)] at hH
      obtain ⟨K2, hK2⟩ : ∃ K2, K + ln.length + 2 = K2 := ⟨_, rfl⟩
      rw [hK2] at hH
      have q1 : (K : Int) + ((ln.length : Int) + 2) = (K2 : Int) := by omega
      have hsz := strB_size ln
      have HSz := Lib.hid hsz
      have hK2s : K2 ≤ s.size := by omega
      by_cases hl : ln = []
      · rw [if_pos hl] at hH
        have HR := Lib.hid hH
        subst hl
        have e1 : (strB []).toList.isEmpty = true := by rw [Lib.toList_data, strB_data]; rfl
        have q2 : (K : Int) + 2 = (K2 : Int) := by simpa using q1
        clear hH hle hsz q1
        rw [show lineV ([], 0) = .tuple #[.string ⟨#[]⟩, .int .i64 0] from rfl] at cL
        go_wp2_with fail
        refine (cL _).mono ?_
        rintro e w2 ⟨rfl, hb2⟩
        have HB2 := Lib.hid (HB.out.trans (hb2.mono HB.out.size))
        have HO2 := Lib.hid (ownsRow_later HO.out hb2)
        clear hb2 cL
        go_wp2_with fail
        refine bodyPost_ret (v := .tuple #[.slice av acc.length cv, .int .i64 (K2 : Int), .int .i64 0]) (by simp [results, Tryd.results10, go_sem]) rfl ⟨HB2.out, ?_⟩
        rw [HR.out]
        exact ⟨_, rfl, HO2.out⟩
      · rw [if_neg hl] at hH
        have e1 : (strB ln).toList.isEmpty = false := by
          rw [Lib.toList_data, strB_data]
          cases ln with
          | nil => exact absurd rfl hl
          | cons c r => rfl
        have e2 : ¬ (strB ln).toList = [] := by intro e; rw [e] at e1; cases e1
        have e3 : ((strB ln).toList == []) = false := by simpa using e2
        have hsz2 : (strB ln).size ≤ 100000 := by rw [strB_size]; omega
        have cF := fun W hW => fieldOf_any (strB ln) W hsz2 hW
        rw [strB_data] at cF
        rw [lineV] at cL
        dsimp only at cL
        have q2 : (K : Int) + (((strB ln).size : Int) + 2) = (K2 : Int) := by rw [hsz]; exact q1
        clear q1 hl hle
        by_cases h64 : acc.length = 64
        · rw [if_pos h64] at hH
          have HR := Lib.hid hH
          have e4 : ((acc.length : Int) == 64) = true := by simp; omega
          clear hH cF hsz
          generalize strB ln = SL at *
          go_wp2_with fail
          refine (cL _).mono ?_
          rintro e w2 ⟨rfl, hb2⟩
          have HB2 := Lib.hid (HB.out.trans (hb2.mono HB.out.size))
          clear hb2 cL
          go_wp2_with fail
          refine bodyPost_ret (v := .tuple #[.slice none 0 0, .int .i64 0, .int .i64 4]) (by simp [results, Tryd.results10, go_sem]) rfl ⟨HB2.out, ?_⟩
          rw [HR.out]
        · rw [if_neg h64] at hH
          have e4 : ((acc.length : Int) == 64) = false := by simp; omega
          cases hfl : fldL ln with
          | none =>
            rw [hfl] at hH cF
            have HR := Lib.hid hH
            clear hH hsz hfl
            generalize strB ln = SL at *
            go_wp2_with fail
            refine (cL _).mono ?_
            rintro e w2 ⟨rfl, hb2⟩
            have HB2 := Lib.hid (HB.out.trans (hb2.mono HB.out.size))
            clear hb2 cL
            go_wp2_with fail
            refine (cF _ (Utf8Tabs_below HT.out HB2.out)).mono ?_
            rintro e w3 ⟨rfl, hb3⟩
            have HB3 := Lib.hid (HB2.out.trans (hb3.mono HB2.out.size))
            clear hb3 cF
            rw [fldV]
            go_wp2_with fail
            refine bodyPost_ret (v := .tuple #[.slice none 0 0, .int .i64 0, .int .i64 2]) (by simp [results, Tryd.results10, go_sem]) rfl ⟨HB3.out.alloc HB3.out.size _, ?_⟩
            rw [HR.out]
          | some p =>
            rw [hfl] at hH cF
            have HR := Lib.hid hH
            clear hH hsz hfl
            generalize strB ln = SL at *
            go_wp2_with fail
            refine (cL _).mono ?_
            rintro e w2 ⟨rfl, hb2⟩
            have HB2 := Lib.hid (HB.out.trans (hb2.mono HB.out.size))
            have HO2 := Lib.hid (ownsRow_later HO.out hb2)
            clear hb2 cL
            go_wp2_with fail
            refine (cF _ (Utf8Tabs_below HT.out HB2.out)).mono ?_
            rintro e w3 ⟨rfl, hb3⟩
            have HB3 := Lib.hid (HB2.out.trans (hb3.mono HB2.out.size))
            have hO3 := ownsRow_later HO2.out hb3
            have hO4 := (hO3.alloc (.cells #[.string (strB p.1), .string (strB p.2)] 42)).alloc (.cells #[.string (strB p.1), .string (strB p.2)] 42)
            have hnew := cells_newF (w3.alloc (.cells #[.string (strB p.1), .string (strB p.2)] 42)) (cellsF p) 42
            rw [show (w3.alloc (.cells #[.string (strB p.1), .string (strB p.2)] 42)).heap.size = w3.heap.size + 1 by simp] at hnew
            have HNew := Lib.hid hnew
            have hz3 := HB3.out.size
            clear hb3 cF hnew
            rw [fldV]
            dsimp only
            go_wp2_with (at_builtin; refine wpList_append_own _ rfl _ _ 22 rfl w.heap.size 42 i0 (.agg #[.string ⟨#[]⟩, .string ⟨#[]⟩]) 2 32 Tryd.underlying22 hi hz0 hz1 hz2 rfl (by decide) (.slice av acc.length cv) acc.length (rowF acc) rfl hO4 ⟨w3.heap.size + 1, 0, none⟩ 1 1 (cellsF p) rfl rfl HNew.out (by simp [Value.oneCell', cellsF]) (by unfold maxLen; omega) (by omega) (by simp; omega) ?_; intro v' w5 hown5 hgrow5 _; obtain ⟨a5, c5, rfl⟩ := owns_formF hown5)
            have hbw5 : Below w.heap.size w w5 := ((HB3.out.alloc hz3 _).alloc (by simp; omega) _).grown hgrow5 (by simp; omega) (fun k e => (World.ownsRow.lt hO4 k e).1)
            go_roundw
            case rel => exact ⟨K2, f, acc ++ [p], a5, c5, by rw [List.length_append]; rfl, by go_num, hK2s, by simp; omega, by simp; omega, Lib.hid HR.out, by rw [List.length_append, rowF_snoc]; exact hown5, hbw5⟩
            case measure => simp [intOf]; omega
    · rw [if_pos he] at hH
      have HR := Lib.hid hH
      have e1 : (er == 0) = false := by simpa using he
      rw [lineV] at cL
      dsimp only at cL
      clear hH hle
      generalize strB ln = SL at *
      go_wp2_with fail
      refine (cL _).mono ?_
      rintro e w2 ⟨rfl, hb2⟩
      have HB2 := Lib.hid (HB.out.trans (hb2.mono HB.out.size))
      clear hb2 cL
      go_wp2_with fail
      refine bodyPost_ret (v := .tuple #[.slice none 0 0, .int .i64 0, .int .i64 er]) (by simp [results, Tryd.results10, go_sem]) rfl ⟨HB2.out, ?_⟩
      rw [HR.out]

end Go.Proofs.YtfhpgobdnhlpcaaDoor
