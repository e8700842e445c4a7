/- Plain: rows that may lie at the front of a longer block; append to such a row. -/
import Derived.Test.YtbbdifcmhoobaaaGreatDoorBasP
import Derived.Laws.AppendOwn
namespace Go.Proofs.YtbbdifcmhoobaaaGreatDoor
open Go.RowKit

/-- A row of single cells at the front of a block that the call made; the block may be longer than the row's room. -/
def KRow (w : World) (base : Nat) (e : TypeId) (g n cap : Nat) (xs : List Value) : Prop :=
  xs.length = n ∧ base ≤ g ∧ n ≤ cap ∧ cap ≤ maxLen ∧ ∃ cur, w.heap[g]? = some (.cells cur e (0, 0)) ∧ cap ≤ cur.size ∧ cur.toList.take n = xs
theorem KRow.lt {w : World} {base : Nat} {e : TypeId} {g n cap : Nat} {xs : List Value} (h : KRow w base e g n cap xs) : base ≤ g ∧ g < w.heap.size := by
  obtain ⟨_, h1, _, _, cur, h2, _⟩ := h
  exact ⟨h1, (Array.getElem?_eq_some_iff.1 h2).1⟩
theorem KRow.kept {w w' : World} {base : Nat} {e : TypeId} {g n cap : Nat} {xs : List Value} {row : Option Nat} (h : KRow w base e g n cap xs) (hg : w.grownBy w' row) (hne : some g ≠ row) : KRow w' base e g n cap xs := by
  have hl := h.lt
  obtain ⟨h0, h1, h2, h3, cur, h4, h5⟩ := h
  exact ⟨h0, h1, h2, h3, cur, (hg.block g hl.2 hne).trans h4, h5⟩
theorem KRow.alloc {w : World} {base : Nat} {e : TypeId} {g n cap : Nat} {xs : List Value} (h : KRow w base e g n cap xs) (o : Obj) : KRow (w.alloc o) base e g n cap xs :=
  h.kept (World.grownBy_alloc w o none) (by simp)
theorem KRow.below {w w' : World} {base : Nat} {e : TypeId} {g n cap : Nat} {xs : List Value} (h : KRow w base e g n cap xs) (hb : Below w.heap.size w w') : KRow w' base e g n cap xs := by
  have hl := h.lt
  obtain ⟨h0, h1, h2, h3, cur, h4, h5⟩ := h
  exact ⟨h0, h1, h2, h3, cur, (hb.block g hl.2).trans h4, h5⟩
theorem KRow.cell {w : World} {base : Nat} {e : TypeId} {g n cap : Nat} {xs : List Value} (h : KRow w base e g n cap xs) (j : Nat) (u : Value) (hj : xs[j]? = some u) : w.cell? ⟨g, j, none⟩ = some u := by
  obtain ⟨h0, h1, h2, h3, cur, h4, h5, h6⟩ := h
  rw [cell_of_row w g j cur e (0, 0) h4]
  rw [← h6, List.getElem?_take] at hj
  split at hj
  · simpa using hj
  · cases hj
/-- Without its last cell. -/
theorem KRow.pop {w : World} {base : Nat} {e : TypeId} {g n cap : Nat} {xs : List Value} (h : KRow w base e g n cap xs) (m : Nat) (hm : m ≤ n) : KRow w base e g m cap (xs.take m) := by
  obtain ⟨h0, h1, h2, h3, cur, h4, h5, h6⟩ := h
  refine ⟨by rw [List.length_take, h0]; omega, h1, by omega, h3, cur, h4, h5, ?_⟩
  rw [← h6, List.take_take, Nat.min_eq_left hm]

section
variable {P : Program} (w : World)
/-- What append leaves: the row with one cell more, in its block while there is room, or else in a new one; what lies elsewhere, or behind the room, stays. -/
def KApp (w w' : World) (base : Nat) (e : TypeId) (g n cap : Nat) (xs : List Value) (g' cap' : Nat) (x : Value) : Prop :=
  KRow w' base e g' (n + 1) cap' (xs ++ [x]) ∧ w.grownBy w' (some g) ∧ (∀ j, cap ≤ j → w'.cell? ⟨g, j, none⟩ = w.cell? ⟨g, j, none⟩) ∧ ((g' = g ∧ cap' = cap) ∨ w.heap.size ≤ g')
theorem run_append_kept (base : Nat) (t ty e : TypeId) (i : TypeInfo) (z : Value) (bytes : Nat) (ht : P.underlying t = some (.slice e)) (hi : P.info? e = some i) (hz : i.zero = some z)
    (hsize : i.size = 1) (hby : i.bytes = bytes) (hzs : z.cells.size = 1)
    (g n cap : Nat) (xs : List Value) (hown : KRow w base e g n cap xs)
    (a : Addr) (c : Nat) (x : Value) (hnews : w.cell? a = some x) (h1 : x.oneCell' = true)
    (h63 : n + 1 ≤ maxLen) (hbytes : (n + 1) * bytes ≤ 140737488355328) (hbase : base ≤ w.heap.size) :
    ∃ g' cap' w', (Builtin.append_ #[t, t] ty #[.slice (some ⟨g, 0, none⟩) n cap, .slice (some a) 1 c]).run P w = .ok (.slice (some ⟨g', 0, none⟩) (n + 1) cap') w' ∧ KApp w w' base e g n cap xs g' cap' x := by
  obtain ⟨hx, hbg, hnc, hcm, cur, hg, hcs, htake⟩ := hown
  have hnews' : ∀ j u, [x][j]? = some u → w.cell? (a.add j) = some u := by
    intro j u hu
    match j, hu with
    | 0, hu =>
      obtain rfl := Option.some.inj hu
      obtain ⟨b, o, d⟩ := a
      have : (⟨b, o, d⟩ : Addr).add 0 = ⟨b, o, d⟩ := by cases d <;> rfl
      rw [this, hnews]
  have hgl := (Array.getElem?_eq_some_iff.1 hg).1
  by_cases hroom : n + 1 ≤ cap
  · have hr := run_append_room (P := P) w t ty e i ht hi g n cap cur hg a 1 c [x] (by rw [hsize]; rfl) hnews' (by simpa using h1) hroom (by rw [hsize]; simp; omega)
    rw [hsize, Nat.mul_one] at hr
    refine ⟨g, cap, _, hr, ⟨by rw [List.length_append, hx]; rfl, hbg, hroom, hcm, _, setRow_heap w g cur _ e _ hg, ?_, ?_⟩, ⟨rfl, rfl, rfl, by simp, fun k _ hk => setRow_other w g k _ (fun e => hk (by rw [e]))⟩, ?_, .inl ⟨rfl, rfl⟩⟩
    · simp only [List.size_toArray, List.length_append, List.length_take, List.length_drop, Array.length_toList, List.length_singleton]
      omega
    · rw [htake]
      have : n + 1 = (xs ++ [x]).length := by rw [List.length_append, hx]; rfl
      rw [this]
      exact List.take_left
    · intro j hj
      rw [cell_of_row _ g j _ e (0, 0) (setRow_heap w g cur _ e _ hg), cell_of_row w g j cur e (0, 0) hg]
      simp only [← Array.getElem?_toList]
      have hl1 : (cur.toList.take n ++ [x]).length = n + 1 := by
        rw [htake, List.length_append, hx]; rfl
      rw [List.getElem?_append_right (by rw [hl1]; omega), hl1, List.getElem?_drop]
      congr 1
      simp only [List.length_singleton]
      omega
  · have holds : ∀ j u, xs[j]? = some u → w.cell? ((⟨g, 0, none⟩ : Addr).add j) = some u := fun j u hj => by
      rw [add_none]
      exact KRow.cell (w := w) (base := base) (e := e) (cap := cap) (n := n) ⟨hx, hbg, hnc, hcm, cur, hg, hcs, htake⟩ j u hj
    subst hby
    have hsmall : n + 1 ≤ 9223372036854775807 := by simp only [maxLen] at h63; omega
    have hr := run_append_grow (P := P) w t ty e i z ht hi hz ⟨g, 0, none⟩ n cap xs (by rw [hx, hsize, Nat.mul_one]) holds a 1 c [x] (by rw [hsize]; rfl) hnews' (by omega) (by omega) (growslice_fits (by omega) hbytes)
    have hge := grownCap_ge w (n + 1) cap e
    have hcm2 : grownCap w (n + 1) cap e ≤ maxLen := grownCap_le_maxLen w (n + 1) cap e h63
    refine ⟨_, _, _, hr, ⟨by rw [List.length_append, hx]; rfl, hbase, hge, hcm2, _, heap_alloc_new w.drew _, ?_, ?_⟩, ⟨rfl, rfl, rfl, by simp, fun k hk _ => heap_alloc_old w.drew _ hk⟩, fun j _ => ?_, .inr (Nat.le_refl _)⟩
    · simp only [Array.size_append, List.size_toArray, size_zeroCells, hzs, hx, List.length_singleton]
      omega
    · simp only [Array.toList_append, List.append_assoc]
      rw [← List.append_assoc, show n + 1 = (xs ++ [x]).length by rw [List.length_append, hx]; rfl]
      exact List.take_left
    · exact World.cell?_of_block (a := ⟨g, j, none⟩) (heap_alloc_old w.drew _ hgl)

theorem wpList_append_kept {ops : Array Oper} {rest : List Oper} {o : Oper} {a : Act} {Q : Exit → Act → World → Prop} (hgd : o.guard = none) (s x : Operand) (t : TypeId)
    (ho : o.op = .call { callee := .builtin .append, args := #[s, x], argTypes := #[t, t] })
    (base : Nat) (e : TypeId) (i : TypeInfo) (z : Value) (bytes : Nat) (ht : P.underlying t = some (.slice e)) (hi : P.info? e = some i) (hz : i.zero = some z)
    (hsize : i.size = 1) (hby : i.bytes = bytes) (hzs : z.cells.size = 1)
    (g n cap : Nat) (xs : List Value) (hs : a.eval s = .slice (some ⟨g, 0, none⟩) n cap) (hown : KRow w base e g n cap xs)
    (ad : Addr) (c : Nat) (u : Value) (hx : a.eval x = .slice (some ad) 1 c) (hnews : w.cell? ad = some u) (h1 : u.oneCell' = true)
    (h63 : n + 1 ≤ maxLen) (hbytes : (n + 1) * bytes ≤ 140737488355328) (hbase : base ≤ w.heap.size)
    (h : ∀ g' cap' w', KApp w w' base e g n cap xs g' cap' u → wpList P ops Q rest (a.put o.dst (.slice (some ⟨g', 0, none⟩) (n + 1) cap')) w') : wpList P ops Q (o :: rest) a w := by
  refine wpList_plain hgd fun _ hK => ?_
  obtain ⟨g', cap', w', hr, h2⟩ := run_append_kept (P := P) w base t o.type e i z bytes ht hi hz hsize hby hzs g n cap xs hown ad c u hnews h1 h63 hbytes hbase
  unfold Oper.wp execOp
  simp only [ho, resolve, invoke, builtin, Sem.run_bind, Sem.run_pure, Result.andThen_ok, List.map_toArray, List.map_cons, List.map_nil, hs, hx, hr]
  exact hK _ _ (h g' cap' w' h2)
end

end Go.Proofs.YtbbdifcmhoobaaaGreatDoor
