/- The walk of the law MembersJoin. -/
import Derived.Test.YtjbipplaacgnkaaGreatDoorGO
import Derived.Test.YtjbipplaacgnkaaGreatDoorGS

namespace Go.Proofs.YtjbipplaacgnkaaGreatDoor
open Go.RowKit Go.Maps
variable {α β : Type}

theorem rowG_app (R : Rowing α β) (m : List (α × β)) : ∀ l : List (α × β), rowG R (l ++ m) = rowG R l ++ rowG R m
  | [] => rfl
  | (x, u) :: l => by rw [List.cons_append, rowG, rowG, rowG_app R m l, List.append_assoc]
theorem MemIn.ln {N : Nat} {M : Mem} (h : MemIn N M) (hN : N ≤ 100000) : MemLn M :=
  ⟨by have := (h.sm hN).a; omega, by have := (h.sm hN).d; omega, by have := (h.sm hN).b; omega, fun x hx => by have := (h.sm hN).c x hx; omega⟩

/-- Two rows of members, one behind the other, in a block of their own. -/
theorem GOff.join {xs ys : List Mem} {us vs : List (Value × Value × Value)} {w W2 : World} {v : Value} {T : TypeId} {base : Nat} (hu : us.length = xs.length) (hv : vs.length = ys.length)
    (hF1 : ∀ (j : Nat) (u : Value × Value × Value) (x : Mem), us[j]? = some u → xs[j]? = some x → memR.F 0 none w x u) (hF2 : ∀ (j : Nat) (u : Value × Value × Value) (x : Mem), vs[j]? = some u → ys[j]? = some x → memR.F 0 none w x u)
    (ho : W2.ownsRow base T 7 v (xs.length + ys.length) (rowG memR (xs.zip us) ++ rowG memR (ys.zip vs))) (hb : Below w.heap.size w W2) : GOff memR 0 none W2 v (xs ++ ys) := by
  refine GOff.of_row (T := T) (base := base) (us := us ++ vs) (by simp [hu, hv]) ?_ ?_ (Nat.zero_le _)
  · rw [List.zip_append hu.symm, rowG_app, List.length_append]
    exact ho
  · intro j u x hju hjx
    rw [List.getElem?_append] at hju hjx
    by_cases hj : j < us.length
    · rw [if_pos hj] at hju
      rw [if_pos (by omega)] at hjx
      exact memR.below (hF1 j u x hju hjx) hb
    · rw [if_neg hj] at hju
      rw [if_neg (by omega), ← hu] at hjx
      exact memR.below (hF2 _ u x hju hjx) hb

theorem strB_comma (a b : List UInt8) : strB a ++ (⟨#[44]⟩ : ByteArray) ++ strB b = strB (a ++ 44 :: b) := by
  rw [show (⟨#[44]⟩ : ByteArray) = strB [44] from rfl, strB_append, strB_append, List.append_assoc]; rfl

theorem listPost.form {o : Option (List Mem)} {w w' : World} {e : Ending} (h : listPost o w e w') : Below w.heap.size w w' ∧ ∃ ao n cap er, e = .returned (.tuple #[.slice ao n cap, .int .i64 er]) := by
  refine ⟨h.1, ?_⟩
  cases o with
  | none => exact ⟨none, 0, 0, 2, h.2⟩
  | some xs =>
    obtain ⟨v, rfl, hv⟩ := h.2
    obtain ⟨ao, cap, rfl⟩ := owng_form hv
    exact ⟨ao, _, cap, 0, rfl⟩

set_option maxRecDepth 100000 in
set_option maxHeartbeats 4000000 in
theorem mjoin_walk (s t : ByteArray) (w : World) (hA : Alph w) (hP : Pow w) :
    Calls Tryz.prog 6 #[.string s, .string t] w fun e w' => e = .returned (.bool true) ∧ Below w.heap.size w w' := by
  have cA := awake_any w hA hP
  have HA := Lib.hid hA
  clear hA hP
  by_cases h1 : 200 < s.size
  · have d1 : (200 : Int) < (s.size : Int) := by omega
    go_enter Tryz.func6, Tryz.ntmps6
    go_wp2_with fail
    refine cA.mono ?_
    rintro e w1 ⟨rfl, hb1⟩
    go_wp2_with fail
    go_ret
    exact ⟨rfl, hb1⟩
  · by_cases h2 : 200 < t.size
    · have d2 : (200 : Int) < (t.size : Int) := by omega
      go_enter Tryz.func6, Tryz.ntmps6
      go_wp2_with fail
      refine cA.mono ?_
      rintro e w1 ⟨rfl, hb1⟩
      go_wp2_with fail
      go_ret
      exact ⟨rfl, hb1⟩
    · have cS := fun W hW => list_any s W (by omega) hW
      have cT := fun W hW => list_any t W (by omega) hW
      cases hx : sepL memL s.data.toList with
      | none =>
        rw [hx] at cS
        go_enter Tryz.func6, Tryz.ntmps6
        go_wp2_with fail
        refine cA.mono ?_
        rintro e w1 ⟨rfl, hb1⟩
        clear cA
        go_wp2_with fail
        refine (cS _ (HA.out.below hb1)).mono ?_
        rintro e w2 ⟨hb2, rfl⟩
        have hb2 := hb1.trans (hb2.mono hb1.size)
        clear cS hb1
        go_wp2_with fail
        refine (cT _ (HA.out.below hb2)).mono ?_
        intro e w3 h3
        obtain ⟨hb3, ao, n, cap, er, rfl⟩ := h3.form
        have hb3 := hb2.trans (hb3.mono hb2.size)
        clear cT hb2 h3
        go_wp2_with fail
        go_ret
        exact ⟨rfl, hb3⟩
      | some xs =>
        rw [hx] at cS
        cases hy : sepL memL t.data.toList with
        | none =>
          rw [hy] at cT
          go_enter Tryz.func6, Tryz.ntmps6
          go_wp2_with fail
          refine cA.mono ?_
          rintro e w1 ⟨rfl, hb1⟩
          clear cA
          go_wp2_with fail
          refine (cS _ (HA.out.below hb1)).mono ?_
          rintro e w2 ⟨hb2, v, rfl, hv⟩
          obtain ⟨ao, cap, rfl⟩ := owng_form hv
          have hb2 := hb1.trans (hb2.mono hb1.size)
          clear cS hb1 hv
          go_wp2_with fail
          refine (cT _ (HA.out.below hb2)).mono ?_
          rintro e w3 ⟨hb3, rfl⟩
          have hb3 := hb2.trans (hb3.mono hb2.size)
          clear cT hb2
          go_wp2_with fail
          go_ret
          exact ⟨rfl, hb3⟩
        | some ys =>
          rw [hy] at cT
          by_cases hxn : xs = []
          · subst hxn
            go_enter Tryz.func6, Tryz.ntmps6
            go_wp2_with fail
            refine cA.mono ?_
            rintro e w1 ⟨rfl, hb1⟩
            clear cA
            go_wp2_with fail
            refine (cS _ (HA.out.below hb1)).mono ?_
            rintro e w2 ⟨hb2, v, rfl, hv⟩
            obtain ⟨ao, cap, rfl⟩ := owng_form hv
            have hb2 := hb1.trans (hb2.mono hb1.size)
            clear cS hb1 hv
            go_wp2_with fail
            refine (cT _ (HA.out.below hb2)).mono ?_
            rintro e w3 ⟨hb3, v, rfl, hv⟩
            obtain ⟨ao2, cap2, rfl⟩ := owng_form hv
            have hb3 := hb2.trans (hb3.mono hb2.size)
            clear cT hb2 hv
            go_wp2_with fail
            go_ret
            exact ⟨rfl, hb3⟩
          · have nx : ((xs.length : Int) == 0) = false := by
              have := List.length_pos_iff.2 hxn
              simp; omega
            by_cases hyn : ys = []
            · subst hyn
              go_enter Tryz.func6, Tryz.ntmps6
              go_wp2_with fail
              refine cA.mono ?_
              rintro e w1 ⟨rfl, hb1⟩
              clear cA
              go_wp2_with fail
              refine (cS _ (HA.out.below hb1)).mono ?_
              rintro e w2 ⟨hb2, v, rfl, hv⟩
              obtain ⟨ao, cap, rfl⟩ := owng_form hv
              have hb2 := hb1.trans (hb2.mono hb1.size)
              clear cS hb1 hv
              go_wp2_with fail
              refine (cT _ (HA.out.below hb2)).mono ?_
              rintro e w3 ⟨hb3, v, rfl, hv⟩
              obtain ⟨ao2, cap2, rfl⟩ := owng_form hv
              have hb3 := hb2.trans (hb3.mono hb2.size)
              clear cT hb2 hv
              go_wp2_with fail
              go_ret
              exact ⟨rfl, hb3⟩
            · have ny : ((ys.length : Int) == 0) = false := by
                have := List.length_pos_iff.2 hyn
                simp; omega
              obtain ⟨i0, hi, hz0, hz1, hz2⟩ := info_parts info_member
              have hs2 : s.size ≤ 200 := by omega
              have ht2 : t.size ≤ 200 := by omega
              have hsl : s.data.toList.length = s.size := (Lib.size_eq s).symm
              have htl : t.data.toList.length = t.size := (Lib.size_eq t).symm
              obtain ⟨hxl, hxi⟩ := list_in (N := 1000) s.data.toList xs (by omega) hx
              obtain ⟨hyl, hyi⟩ := list_in (N := 1000) t.data.toList ys (by omega) hy
              have hxp := List.length_pos_iff.2 hxn
              have hyp := List.length_pos_iff.2 hyn
              have hin : ∀ M ∈ xs ++ ys, MemIn 1000 M := fun M hM => (List.mem_append.1 hM).elim (hxi M) (hyi M)
              have Hln : Hid (∀ M ∈ xs ++ ys, MemLn M) := Lib.hid fun M hM => (hin M hM).ln (by decide)
              have Hsm : Hid (∀ M ∈ xs ++ ys, MemSm M) := Lib.hid fun M hM => (hin M hM).sm (by decide)
              have hll : (xs ++ ys).length ≤ 1000000 := by rw [List.length_append]; omega
              have e44 : (s ++ (⟨#[44]⟩ : ByteArray) ++ t).data.toList = s.data.toList ++ 44 :: t.data.toList := by
                rw [← strB_of s, ← strB_of t, strB_comma, strB_data, strB_data, strB_data]
              have ez : (s ++ (⟨#[44]⟩ : ByteArray) ++ t).size = s.size + 1 + t.size := by simp; rfl
              have cJ := fun W hW => list_any (s ++ (⟨#[44]⟩ : ByteArray) ++ t) W (by omega) hW
              rw [e44, list_join _ _ _ _ hx hy hxn hyn] at cJ
              have cAll := fun v W h => all_any (xs ++ ys) v W h Hln.out (Nat.le_trans hll (by decide))
              have cSame := fun v1 v2 W h1 h2 => sameList_any ((xs ++ ys).take (allN 0 (xs ++ ys)).1) ((xs ++ ys).take (allN 0 (xs ++ ys)).1) v1 v2 W h1 h2 (fun M hM => Hsm.out M (List.mem_of_mem_take hM)) (fun M hM => Hsm.out M (List.mem_of_mem_take hM)) (Nat.le_trans (List.length_take_le' _ _) hll)
              obtain ⟨zs, hzs⟩ : ∃ zs, zs = xs ++ ys := ⟨_, rfl⟩
              rw [← hzs] at cJ cAll cSame
              have HZ := Lib.hid hzs
              generalize allN 0 zs = AN at *
              clear hx hy hin hxi hyi e44 hxn hyn Hln Hsm hzs hll
              go_enter Tryz.func6, Tryz.ntmps6
              go_wp2_with fail
              refine cA.mono ?_
              rintro e w1 ⟨rfl, hb1⟩
              clear cA
              go_wp2_with fail
              refine (cS _ (HA.out.below hb1)).mono ?_
              rintro e w2 ⟨hb2, v1, rfl, us, hul, hox, hFx⟩
              have hb2 := hb1.trans (hb2.mono hb1.size)
              obtain ⟨g1, c1, rfl, hg1, hgl1, _⟩ := owns_slice hox hxp
              clear cS hb1
              go_wp2_with fail
              refine (cT _ (HA.out.below hb2)).mono ?_
              rintro e w3 ⟨hb3, v2, rfl, vs, hvl, hoy, hFy⟩
              obtain ⟨g2, c2, rfl, hg2, hgl2, _⟩ := owns_slice hoy hyp
              have k2 : Below w2.heap.size w2 w3 := hb3
              have hb3 := hb2.trans (hb3.mono hb2.size)
              clear cT hb2
              go_wp2_with fail
              refine (cJ _ (HA.out.below hb3)).mono ?_
              rintro e w4 ⟨hb4, v3, rfl, hv3⟩
              have k3 : Below w3.heap.size w3 w4 := hb4
              have hb4 := hb3.trans (hb4.mono hb3.size)
              obtain ⟨a3, c3, rfl⟩ := owng_form hv3
              have k24 := k2.trans (k3.mono k2.size)
              have hX : Hid (∀ j u, (rowG memR (xs.zip us))[j]? = some u → w4.cell? ⟨g1, j, none⟩ = some u) := Lib.hid (owns_cells (ownsRow_later hox k24))
              have hY : Hid (∀ j u, (rowG memR (ys.zip vs))[j]? = some u → w4.cell? ⟨g2, j, none⟩ = some u) := Lib.hid (owns_cells (ownsRow_later hoy k3))
              have hF1 : Hid (∀ (j : Nat) (u : Value × Value × Value) (x : Mem), us[j]? = some u → xs[j]? = some x → memR.F 0 none w4 x u) := Lib.hid fun j u x hu hx => memR.low (memR.below (memR.avoid (hFx j u x hu hx) (fun g hg => by cases hg)) k24) (Nat.zero_le _)
              have hF2 : Hid (∀ (j : Nat) (u : Value × Value × Value) (x : Mem), vs[j]? = some u → ys[j]? = some x → memR.F 0 none w4 x u) := Lib.hid fun j u x hu hx => memR.low (memR.below (memR.avoid (hFy j u x hu hx) (fun g hg => by cases hg)) k3) (Nat.zero_le _)
              have o1 := Lib.hid (rowG_one (R := memR) xs us (fun j u x hu hx => mem_one (hF1.out j u x hu hx)))
              have o2 := Lib.hid (rowG_one (R := memR) ys vs (fun j u x hu hx => mem_one (hF2.out j u x hu hx)))
              have HX3 := Lib.hid (hv3.off.low (Nat.zero_le _))
              clear cJ hb3 hox hoy hFx hFy k2 k3 k24 hv3
              go_wp2_with (at_builtin; refine wpList_append_own _ rfl _ _ 23 rfl w4.heap.size 49 i0 noMem 7 112 Tryz.underlying23 hi hz0 hz1 hz2 rfl (by decide) _ _ _ rfl (World.ownsRow_made w4 #[] 0 (Nat.le_refl _) (Nat.zero_le _) rfl) ⟨g1, 0, none⟩ xs.length c1 (rowG memR (xs.zip us)) rfl ?qa1 ?qa2 o1.out ?qa4 ?qa5 ?qa6 ?_)
              case qa1 => rw [rowG_len, List.length_zip, hul, Nat.min_self] <;> rfl
              case qa2 =>
                intro j u hj
                have := hX.out j u hj
                rw [Addr.add_lit, Nat.zero_add]
                exact Lib.cell?_alloc_some _ this
              case qa4 => unfold maxLen; omega
              case qa5 => omega
              case qa6 => simp
              intro v5 w5 hown5 hgrow5 _
              have k5 : Below w4.heap.size w4 w5 := ((Below.refl _ w4).alloc (Nat.le_refl _) _).grown hgrow5 (by simp) (by intro k hk; simp [Value.ownBlock] at hk; omega)
              have z5 := k5.size
              have HO5 := Lib.hid hown5
              clear hgrow5
              go_wp2_with (at_builtin; refine wpList_append_own _ rfl _ _ 23 rfl w4.heap.size 49 i0 noMem 7 112 Tryz.underlying23 hi hz0 hz1 hz2 rfl (by decide) _ _ _ rfl HO5.out ⟨g2, 0, none⟩ ys.length c2 (rowG memR (ys.zip vs)) rfl ?qb1 ?qb2 o2.out ?qb4 ?qb5 z5 ?_)
              case qb1 => rw [rowG_len, List.length_zip, hvl, Nat.min_self] <;> rfl
              case qb2 =>
                intro j u hj
                have := hY.out j u hj
                rw [Addr.add_lit, Nat.zero_add]
                exact (k5.cell (lt_of_cell this)).trans this
              case qb4 => unfold maxLen; omega
              case qb5 => omega
              intro v6 w6 hown6 hgrow6 _
              have k6 : Below w4.heap.size w4 w6 := k5.grown hgrow6 (by omega) (fun k e => (World.ownsRow.lt HO5.out k e).1)
              have hG6 : GOff memR 0 none w6 v6 zs := HZ.out ▸ GOff.join hul hvl hF1.out hF2.out (by simpa using hown6) k6
              have hb6 := hb4.trans (k6.mono hb4.size)
              clear hgrow6 hown6 hown5 HO5 hX hY hF1 hF2 o1 o2 hul hvl
              go_wp2_with fail
              refine (cAll _ _ hG6).mono ?_
              rintro e w7 ⟨hb7, u7, rfl, hu7⟩
              have k7 := k6.trans (hb7.mono k6.size)
              have hb7' := hb6.trans (hb7.mono hb6.size)
              have hx7 := HX3.out.below k7
              clear hG6 hb6 hb7 k6
              go_wp2_with fail
              refine (cAll _ _ hx7).mono ?_
              rintro e w8 ⟨hb8, u8, rfl, hu8⟩
              have hu7' := hu7.below hb8
              have hb9 := hb7'.trans (hb8.mono hb7'.size)
              clear hx7 hb7' hb8 k7 hu7 cAll
              go_wp2_with fail
              refine (cSame _ _ _ (hu7'.low (Nat.zero_le _)) (hu8.low (Nat.zero_le _))).mono ?_
              rintro e w9 ⟨hb10, b, rfl, hbi⟩
              obtain rfl : b = true := by simpa using hbi
              have hb11 := hb9.trans (hb10.mono hb9.size)
              clear hu7' hu8 hb9 hb10 cSame hbi
              go_wp2_with fail
              go_ret
              exact ⟨rfl, hb11⟩

end Go.Proofs.YtjbipplaacgnkaaGreatDoor
