/- The document's own first line (sculleryref06.Line). · The document's own Parse of fields (sculleryref06). -/
import Derived.Test.YthbfcamfapgodaaGreatDoorGB
import Derived.Test.YthbfcamfapgodaaGreatDoorHA
import Derived.BigQuiet
import Derived.Deep.QuietTactic

namespace Go.Proofs.YthbfcamfapgodaaGreatDoor
open Go.RowKit

/-- A first line, how long it is with its end, and its error. -/
def rlnV (p : List UInt8 × Int) : Value := .tuple #[.string (strB p.1), .int .i64 (if p.2 = 0 then (p.1.length : Int) + 2 else 0), .int .i64 p.2]

set_option maxRecDepth 100000 in
set_option maxHeartbeats 4000000 in
theorem rline_any (s : ByteArray) (w : World) (hs : s.size ≤ 100000) :
    Calls Tryz.prog 29 #[.string s] w fun e w' => e = .returned (rlnV (lineL s.data.toList)) ∧ w = w' := by
  have hsz := Lib.size_eq s
  go_enter Tryz.func29, Tryz.ntmps29
  go_wp2_with fail
  go_loop [5] (fun i => ∃ k : Nat, k ≤ s.size ∧ i = .int .i64 k ∧ Hid (∀ x ∈ s.data.toList.take k, x ≠ 10)) (fun i => s.size - (intOf i).toNat)
  case atStart => exact ⟨0, Nat.zero_le _, rfl, Lib.hid (by simp)⟩
  case round =>
    obtain ⟨k, hk, rfl, H⟩ := hrel
    by_cases hlt : k < s.size
    · have B := byte_beq s[k] 10
      have B2 : ((s[k].toNat : Int) != 10) = !(s[k] == 10) := by rw [← B] <;> rfl
      by_cases hc : s[k] = 10
      · have e1 : ((s[k].toNat : Int) != 10) = false := by rw [B2, hc] <;> rfl
        by_cases h0 : k = 0
        · subst h0
          have HV : Hid (rlnV (lineL s.data.toList) = .tuple #[.string ⟨#[]⟩, .int .i64 0, .int .i64 2]) := Lib.hid (by rw [lineL_zero s hlt hc] <;> rfl)
          clear B B2 hc H hsz
          go_wp2_with fail
          refine bodyPost_ret (v := .tuple #[.string ⟨#[]⟩, .int .i64 0, .int .i64 2]) (by simp [results, Tryz.results29, go_sem]) rfl ⟨by rw [HV.out], rfl⟩
        · have e0 : ((k : Int) == 0) = false := by simpa using h0
          have hk1 : k - 1 < s.size := by omega
          have hk2 : k - 1 + 1 = k := by omega
          have hL := lineL_at s (k - 1) (by rewrite [hk2]; exact H.out) (by omega) (by simpa only [hk2] using hc)
          have C := byte_beq (s[k - 1]'hk1) 13
          have C2 : (((s[k - 1]'hk1).toNat : Int) != 13) = !((s[k - 1]'hk1) == 13) := by rw [← C] <;> rfl
          by_cases h13 : s[k - 1]'hk1 = 13
          · have e2 : (((s[k - 1]'hk1).toNat : Int) != 13) = false := by rw [C2, h13] <;> rfl
            rw [if_pos h13] at hL
            by_cases h2 : 2000 < k - 1
            · rw [if_pos h2] at hL
              have HV : Hid (rlnV (lineL s.data.toList) = .tuple #[.string ⟨#[]⟩, .int .i64 0, .int .i64 4]) := Lib.hid (by rw [hL] <;> rfl)
              have d : (2000 : Int) < (k : Int) - 1 := by omega
              clear B B2 hc H hsz hL C C2 h13 hk2
              go_wp2_with fail
              refine bodyPost_ret (v := .tuple #[.string ⟨#[]⟩, .int .i64 0, .int .i64 4]) (by simp [results, Tryz.results29, go_sem]) rfl ⟨by rw [HV.out], rfl⟩
            · rw [if_neg h2] at hL
              have HV : Hid (rlnV (lineL s.data.toList) = .tuple #[.string (s.extract 0 (k - 1)), .int .i64 ((k : Int) + 1), .int .i64 0]) := Lib.hid (by
                have h1 : strB (s.data.toList.take (k - 1)) = s.extract 0 (k - 1) := by rw [← extract_take, strB_of]
                have h2' : ((s.data.toList.take (k - 1)).length : Int) + 2 = (k : Int) + 1 := by rewrite [List.length_take, ← hsz]; omega
                rewrite [hL, rlnV]
                dsimp only
                rw [if_pos rfl, h1, h2'])
              have d : ¬ (2000 : Int) < (k : Int) - 1 := by omega
              clear B B2 hc H hsz hL C C2 h13 hk2
              go_wp2_with fail
              refine bodyPost_ret (v := .tuple #[.string (s.extract 0 (k - 1)), .int .i64 ((k : Int) + 1), .int .i64 0]) (by simp [results, Tryz.results29, go_sem]) rfl ⟨by rw [HV.out], rfl⟩
          · have e2 : (((s[k - 1]'hk1).toNat : Int) != 13) = true := by rewrite [C2]; simpa using h13
            rw [if_neg h13] at hL
            have HV : Hid (rlnV (lineL s.data.toList) = .tuple #[.string ⟨#[]⟩, .int .i64 0, .int .i64 2]) := Lib.hid (by rw [hL] <;> rfl)
            clear B B2 hc H hsz hL C C2 h13 hk2
            go_wp2_with fail
            refine bodyPost_ret (v := .tuple #[.string ⟨#[]⟩, .int .i64 0, .int .i64 2]) (by simp [results, Tryz.results29, go_sem]) rfl ⟨by rw [HV.out], rfl⟩
      · have e1 : ((s[k].toNat : Int) != 10) = true := by rewrite [B2]; simpa using hc
        have Hn := Lib.hid (not_snoc H.out hlt hc)
        clear B B2 hc hsz
        go_wp2_with fail
        go_round
        case rel => exact ⟨k + 1, by omega, by go_num, Lib.hid Hn.out⟩
        case measure => simp [intOf]; omega
    · have hall : s.data.toList.take k = s.data.toList := take_all s k (by omega)
      have hH := H.out
      rw [hall] at hH
      have hL := lineL_no s hH
      by_cases h2 : 2002 < s.size
      · rw [if_pos h2] at hL
        have HV : Hid (rlnV (lineL s.data.toList) = .tuple #[.string ⟨#[]⟩, .int .i64 0, .int .i64 4]) := Lib.hid (by rw [hL] <;> rfl)
        have d : (2002 : Int) < (s.size : Int) := by omega
        clear hL hH H hall hsz
        go_wp2_with fail
        refine bodyPost_ret (v := .tuple #[.string ⟨#[]⟩, .int .i64 0, .int .i64 4]) (by simp [results, Tryz.results29, go_sem]) rfl ⟨by rw [HV.out], rfl⟩
      · rw [if_neg h2] at hL
        have HV : Hid (rlnV (lineL s.data.toList) = .tuple #[.string ⟨#[]⟩, .int .i64 0, .int .i64 3]) := Lib.hid (by rw [hL] <;> rfl)
        have d : ¬ (2002 : Int) < (s.size : Int) := by omega
        clear hL hH H hall hsz
        go_wp2_with fail
        refine bodyPost_ret (v := .tuple #[.string ⟨#[]⟩, .int .i64 0, .int .i64 3]) (by simp [results, Tryz.results29, go_sem]) rfl ⟨by rw [HV.out], rfl⟩

end Go.Proofs.YthbfcamfapgodaaGreatDoor

namespace Go.Proofs.YthbfcamfapgodaaGreatDoor
open Go.RowKit

theorem rlnV_ok (l : List UInt8) : rlnV (l, 0) = .tuple #[.string (strB l), .int .i64 ((l.length : Int) + 2), .int .i64 0] := rfl
theorem rlnV_no (l : List UInt8) (n : Int) (h : ¬ n = 0) : rlnV (l, n) = .tuple #[.string (strB l), .int .i64 0, .int .i64 n] := by
  rewrite [rlnV]
  dsimp only
  rw [if_neg h]

set_option maxRecDepth 100000 in
set_option maxHeartbeats 16000000 in
theorem rparse_any (s : ByteArray) (w : World) (hs : s.size ≤ 100000) :
    Calls Tryz.prog 33 #[.string s] w (headPost (parseH s.data.toList) w) := by
  obtain ⟨i0, hi, hz0, hz1, hz2⟩ := info_parts info_field
  go_enter Tryz.func33, Tryz.ntmps33
  go_wp2_with fail
  go_loopw [5, 6] (fun v a wr => ∃ (K f : Nat) (acc : List Fld) (av : Option Addr) (cv : Nat), v = .slice av acc.length cv ∧ a = .int .i64 (K : Int) ∧ K ≤ s.size ∧ f + acc.length = 65 ∧ acc.length ≤ 64 ∧ Hid (parseH s.data.toList = parH f s.data.toList K acc) ∧ wr.ownsRow w.heap.size 70 2 (.slice av acc.length cv) acc.length (rowF acc) ∧ Below w.heap.size w wr) (fun _ a _ => s.size - (intOf a).toNat)
  case atStart => exact ⟨0, 65, [], none, 0, rfl, rfl, Nat.zero_le _, rfl, by simp, Lib.hid rfl, World.ownsRow_nil _ _ _ _, Below.refl _ _⟩
  case round =>
    obtain ⟨K, f, acc, av, cv, rfl, rfl, hK, hf, hal, H, hown, hb⟩ := hrel
    have HO := Lib.hid hown
    have HB := Lib.hid hb
    have hz := hb.size
    clear hown hb
    obtain ⟨f, rfl⟩ : ∃ f', f = f' + 1 := ⟨f - 1, by omega⟩
    have hxd : (s.extract K s.size).data.toList = s.data.toList.drop K := Lib.extract_to_end s K
    have hxs : (s.extract K s.size).size = s.size - K := by rw [Lib.size_eq, hxd, List.length_drop, ← Lib.size_eq]
    have cL := fun W => rline_any (s.extract K s.size) W (by omega)
    rw [hxd] at cL
    have hH := H.out
    rw [parH] at hH
    have hle := lineL_le (s.data.toList.drop K)
    rw [List.length_drop, ← Lib.size_eq] at hle
    obtain ⟨⟨ln, er⟩, hp⟩ : ∃ p, lineL (s.data.toList.drop K) = p := ⟨_, rfl⟩
    rw [hp] at cL hH hle
    dsimp only at hH hle
    clear hp hxd hxs H
    by_cases he : er = 0
    · subst he
      have hln := hle rfl
      rw [if_neg (by simp)] at hH
      rw [rlnV_ok] at cL
      obtain ⟨K2, hK2⟩ : ∃ K2, K + ln.length + 2 = K2 := ⟨_, rfl⟩
      rw [hK2] at hH
      have q1 : (K : Int) + ((ln.length : Int) + 2) = (K2 : Int) := by omega
      have hK2s : K2 ≤ s.size := by omega
      by_cases hl : ln = []
      · rw [if_pos hl] at hH
        have HR := Lib.hid hH
        subst hl
        have e1 : (strB []).toList.isEmpty = true := by rw [Lib.toList_data, strB_data] <;> rfl
        have q2 : (K : Int) + 2 = (K2 : Int) := by simpa using q1
        clear hH hle q1
        rw [show (Value.tuple #[.string (strB []), .int .i64 ((([] : List UInt8).length : Int) + 2), .int .i64 0]) = .tuple #[.string ⟨#[]⟩, .int .i64 2, .int .i64 0] from rfl] at cL
        go_wp2_with fail
        refine (cL _).mono ?_
        rintro e w2 ⟨rfl, rfl⟩
        clear cL
        go_wp2_with fail
        refine bodyPost_ret (v := .tuple #[.slice av acc.length cv, .int .i64 (K2 : Int), .int .i64 0]) (by simp [results, Tryz.results33, go_sem]) rfl ⟨HB.out, ?_⟩
        rewrite [HR.out]
        exact ⟨_, rfl, HO.out⟩
      · rw [if_neg hl] at hH
        have e1 : (strB ln).toList.isEmpty = false := by
          rewrite [Lib.toList_data, strB_data]
          cases ln with
          | nil => exact absurd rfl hl
          | cons c r => rfl
        have e2 : ¬ (strB ln).toList = [] := by intro e; rw [e] at e1; cases e1
        have e3 : ((strB ln).toList == []) = false := by simpa using e2
        have hlpos : 0 < ln.length := List.length_pos_iff.2 hl
        clear hle hl
        by_cases h64 : acc.length = 64
        · rw [if_pos h64] at hH
          have HR := Lib.hid hH
          have e4 : (64 : Int) ≤ (acc.length : Int) := by omega
          clear hH
          generalize strB ln = SL at *
          go_wp2_with fail
          refine (cL _).mono ?_
          rintro e w2 ⟨rfl, rfl⟩
          clear cL
          go_wp2_with fail
          refine bodyPost_ret (v := .tuple #[.slice none 0 0, .int .i64 0, .int .i64 4]) (by simp [results, Tryz.results33, go_sem]) rfl ⟨HB.out, ?_⟩
          rw [HR.out]
        · rw [if_neg h64] at hH
          have e4 : ¬ (64 : Int) ≤ (acc.length : Int) := by omega
          have HH := Lib.hid hH
          have hSz := strB_size ln
          have HY : Hid (∀ (k : Nat) (h : k < (strB ln).size), (strB ln)[k] = 58 → ixF ln 58 k = k) := Lib.hid (fun k h hc => by
            have := ixF_yes (strB ln) 58 k h hc
            rwa [strB_data] at this)
          have HN : Hid (∀ (k : Nat) (h : k < (strB ln).size), ¬ (strB ln)[k] = 58 → ixF ln 58 k = ixF ln 58 (k + 1)) := Lib.hid (fun k h hc => by
            have := ixF_no (strB ln) 58 k h hc
            rwa [strB_data] at this)
          have HE := Lib.hid (ixF_end ln 58)
          have HZ := Lib.hid (ixF_zero ln 58)
          have HX : Hid (∀ o : Nat, ((strB ln).extract 0 o).data.toList = ln.take o ∧ ((strB ln).extract (o + 1) (strB ln).size).data.toList = ln.drop (o + 1)) := Lib.hid (fun o => ⟨by rw [extract_take, strB_data], by rw [Lib.extract_to_end, strB_data]⟩)
          have q2 : (K : Int) + (((strB ln).size : Int) + 2) = (K2 : Int) := by rewrite [hSz]; exact q1
          rw [← hSz] at cL
          clear hH h64 q1
          generalize strB ln = SL at *
          go_wp2_with fail
          refine (cL _).mono ?_
          rintro e w2 ⟨rfl, rfl⟩
          clear cL
          rename World => W1
          go_wp2_with fail
          go_loop [10, 11] (fun c i => (∃ j : Nat, j < ln.length ∧ c = .int .i64 (ixF ln 58 (j + 1)) ∧ i = .int .i64 (j : Int)) ∨ (c = .int .i64 (ixF ln 58 0) ∧ i = .int .i64 (-1))) (fun _ i => (intOf i + 1).toNat)
          case atStart => exact .inl ⟨ln.length - 1, by omega, by rw [show ln.length - 1 + 1 = ln.length by omega, HE.out], by congr 1; omega⟩
          case round =>
            rcases hrel with ⟨j, hj, rfl, rfl⟩ | ⟨hc, rfl⟩
            · have hjs : j < SL.size := by omega
              have B : ((SL[j].toNat : Int) == 58) = (SL[j] == 58) := byte_beq SL[j] 58
              by_cases hc : SL[j] = 58
              · have e : ((SL[j].toNat : Int) == 58) = true := by rw [B, hc] <;> rfl
                have Hi := Lib.hid (HY.out j hjs hc)
                clear B hc
                go_wp2_with fail
                go_round
                case rel =>
                  by_cases h0 : j = 0
                  · subst h0
                    exact .inr ⟨by rw [Hi.out], rfl⟩
                  · exact .inl ⟨j - 1, by omega, by rw [show j - 1 + 1 = j by omega, Hi.out], by first | rfl | (congr 1; omega) | (go_num)⟩
                case measure => first | (simp [intOf]; done) | (simp [intOf]; omega)
              · have e : ((SL[j].toNat : Int) == 58) = false := by rewrite [B]; simpa using hc
                have Hi := Lib.hid (HN.out j hjs hc)
                clear B hc
                go_wp2_with fail
                go_round
                case rel =>
                  by_cases h0 : j = 0
                  · subst h0
                    exact .inr ⟨by rw [Hi.out], rfl⟩
                  · exact .inl ⟨j - 1, by omega, by rw [show j - 1 + 1 = j by omega, Hi.out], by first | rfl | (congr 1; omega) | (go_num)⟩
                case measure => first | (simp [intOf]; done) | (simp [intOf]; omega)
            · rw [HZ.out] at hc
              subst hc
              by_cases hC : Lib.indexByte ln 58 = -1
              · have HR : Hid (parseH s.data.toList = .error 2) := Lib.hid (by rw [HH.out, fldL, if_pos hC])
                rewrite [hC]
                clear hC
                go_wp2_with fail
                refine bodyPost_ret (v := .tuple #[.slice none 0 0, .int .i64 0, .int .i64 2]) (by simp [results, Tryz.results33, go_sem]) rfl ⟨HB.out, ?_⟩
                rw [HR.out]
              · obtain ⟨h0, h1⟩ := index_le _ _ hC
                obtain ⟨o, ho⟩ := Int.eq_ofNat_of_zero_le h0
                obtain ⟨hx1, hx2⟩ := HX.out o
                have hF : fldL ln = if tokL (ln.take o) = true ∧ txtL (trimL (ln.drop (o + 1))) = true then some (lowL (ln.take o), trimL (ln.drop (o + 1))) else none := by
                  rw [fldL, if_neg hC, ho, Int.toNat_natCast]
                rw [ho, Int.toNat_natCast] at h1
                have hoS : o < SL.size := by omega
                rw [hSz] at hx2
                have cM := fun W => rtrim_any SL.size (SL.extract (o + 1) ln.length) W (by rewrite [Lib.size_eq, hx2, List.length_drop]; omega) (by unfold maxLen; rewrite [Lib.size_eq, hx2, List.length_drop]; omega)
                have cK := fun W => rtoken_any (SL.extract 0 o) W (by unfold maxLen; rewrite [Lib.size_eq, hx1, List.length_take]; omega)
                have cW := fun W => rlower_any (SL.extract 0 o) W (by rewrite [Lib.size_eq, hx1, List.length_take]; omega)
                have cX := fun W => rtext_any (strB (trimL (ln.drop (o + 1)))) W (by unfold maxLen; rewrite [strB_size]; have := trimL_le (ln.drop (o + 1)); rw [List.length_drop] at this; omega)
                rw [hx2] at cM
                rw [hx1] at cK cW
                rw [strB_data] at cX
                rewrite [ho]
                clear hx1 hx2 hC h0 ho HX HY HN
                generalize hN : ln.take o = N at *
                generalize trimL (ln.drop (o + 1)) = V at *
                cases ht : tokL N
                · have HR : Hid (parseH s.data.toList = .error 2) := Lib.hid (by rw [HH.out, hF, if_neg (by rewrite [ht]; simp)])
                  rw [ht] at cK
                  clear ht hF cX cW
                  generalize strB V = SV at *
                  go_wp2_with fail
                  refine (cM _).mono ?_
                  rintro e w3 ⟨rfl, rfl⟩
                  go_wp2_with fail
                  refine (cK _).mono ?_
                  rintro e w3 ⟨rfl, rfl⟩
                  go_wp2_with fail
                  refine bodyPost_ret (v := .tuple #[.slice none 0 0, .int .i64 0, .int .i64 2]) (by simp [results, Tryz.results33, go_sem]) rfl ⟨HB.out, ?_⟩
                  rw [HR.out]
                · rw [ht] at cK
                  cases hx : txtL V
                  · have HR : Hid (parseH s.data.toList = .error 2) := Lib.hid (by rw [HH.out, hF, if_neg (by rewrite [hx]; simp)])
                    rw [hx] at cX
                    clear ht hx hF cW
                    generalize strB V = SV at *
                    go_wp2_with fail
                    refine (cM _).mono ?_
                    rintro e w3 ⟨rfl, rfl⟩
                    go_wp2_with fail
                    refine (cK _).mono ?_
                    rintro e w3 ⟨rfl, rfl⟩
                    go_wp2_with fail
                    refine (cX _).mono ?_
                    rintro e w3 ⟨rfl, rfl⟩
                    go_wp2_with fail
                    refine bodyPost_ret (v := .tuple #[.slice none 0 0, .int .i64 0, .int .i64 2]) (by simp [results, Tryz.results33, go_sem]) rfl ⟨HB.out, ?_⟩
                    rw [HR.out]
                  · have HR : Hid (parseH s.data.toList = parH f s.data.toList K2 (acc ++ [(lowL N, V)])) := Lib.hid (by rw [HH.out, hF, if_pos ⟨ht, hx⟩])
                    rw [hx] at cX
                    clear ht hx hF
                    have hcf : cellsF (lowL N, V) = [.string (strB (lowL N)), .string (strB V)] := rfl
                    have HCF := Lib.hid hcf
                    clear hcf
                    go_wp2_with fail
                    refine (cM _).mono ?_
                    rintro e w3 ⟨rfl, rfl⟩
                    go_wp2_with fail
                    refine (cK _).mono ?_
                    rintro e w3 ⟨rfl, rfl⟩
                    go_wp2_with fail
                    refine (cX _).mono ?_
                    rintro e w3 ⟨rfl, rfl⟩
                    go_wp2_with fail
                    refine (cW _).mono ?_
                    rintro e w3 ⟨rfl, hb3⟩
                    have HB3 := Lib.hid (HB.out.trans (hb3.mono HB.out.size))
                    have hO3 := ownsRow_later HO.out hb3
                    have hO4 := hO3.alloc (.cells #[.string (strB (lowL N)), .string (strB V)] 70)
                    have hnew := cells_newF w3 (cellsF (lowL N, V)) 70
                    have HNew := Lib.hid hnew
                    have hz3 := HB3.out.size
                    clear hb3 cW cM cK cX hnew
                    go_wp2_with (at_builtin; refine wpList_append_own _ rfl _ _ 23 rfl w.heap.size 70 i0 (.agg #[.string ⟨#[]⟩, .string ⟨#[]⟩]) 2 32 Tryz.underlying23 hi hz0 hz1 hz2 rfl (by decide) (.slice av acc.length cv) acc.length (rowF acc) rfl hO4 ⟨w3.heap.size, 0, none⟩ 1 1 (cellsF (lowL N, V)) rfl rfl HNew.out (by simp [Value.oneCell', cellsF]) (by unfold maxLen; omega) (by omega) (by simp; omega) ?_; intro v' w5 hown5 hgrow5 _; obtain ⟨a5, c5, rfl⟩ := owns_formF hown5)
                    have hbw5 : Below w.heap.size w w5 := (HB3.out.alloc hz3 _).grown hgrow5 (by simp; omega) (fun k e => (World.ownsRow.lt hO4 k e).1)
                    go_roundw
                    case rel => exact ⟨K2, f, acc ++ [(lowL N, V)], a5, c5, by rw [List.length_append] <;> rfl, by go_num, hK2s, by simp; omega, by simp; omega, Lib.hid HR.out, by rewrite [List.length_append, rowF_snoc]; exact hown5, hbw5⟩
                    case measure => first | (simp [intOf]; done) | (simp [intOf]; omega)
    · rw [if_pos he] at hH
      have HR := Lib.hid hH
      have e1 : (er != 0) = true := by simpa using he
      rw [rlnV_no _ _ he] at cL
      clear hH hle
      generalize strB ln = SL at *
      go_wp2_with fail
      refine (cL _).mono ?_
      rintro e w2 ⟨rfl, rfl⟩
      clear cL
      go_wp2_with fail
      refine bodyPost_ret (v := .tuple #[.slice none 0 0, .int .i64 0, .int .i64 er]) (by simp [results, Tryz.results33, go_sem]) rfl ⟨HB.out, ?_⟩
      rw [HR.out]

end Go.Proofs.YthbfcamfapgodaaGreatDoor
