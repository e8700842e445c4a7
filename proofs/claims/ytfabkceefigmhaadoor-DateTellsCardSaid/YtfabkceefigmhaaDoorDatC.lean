/- The contracts of padded, clockText and Print of package date. -/
import Derived.Test.YtfabkceefigmhaaDoorDatB
namespace Go.Proofs.YtfabkceefigmhaaDoor
open Go.RowKit

theorem info_u8d : (Tryd.prog.info? 5).map (fun i => (i.zero, i.size, i.bytes)) = some (some (.int .u8 0), 1, 1) := by kernel_rfl

theorem set_mid {α : Type} (p q : List α) (x y : α) : (p ++ x :: q).set p.length y = p ++ y :: q := by
  induction p with
  | nil => rfl
  | cons c p ih => simp [ih]

theorem pad_split (j m : Nat) (D : List UInt8) : padL (j + 1) m ++ D = padL j (m / 10) ++ digC m :: D := by
  rw [padL]
  simp

/-- A row of which the last bytes are written. -/
def padR (j : Nat) (D : List UInt8) : List Value := (List.replicate j 0 ++ D).map u8V
theorem padR_set (j : Nat) (c : UInt8) (D : List UInt8) : (padR (j + 1) D).set j (u8V c) = padR j (c :: D) := by
  unfold padR
  rw [List.replicate_succ', List.append_assoc, List.map_append, List.map_append, List.map_append]
  have := set_mid ((List.replicate j (0 : UInt8)).map u8V) (D.map u8V) (u8V 0) (u8V c)
  rw [List.length_map, List.length_replicate] at this
  exact this

set_option maxRecDepth 100000 in
set_option maxHeartbeats 4000000 in
theorem padded_any (n k : Nat) (w : World) (hn : n ≤ 1000000) (hk : k ≤ 8) :
    Calls Tryd.prog 22 #[.int .i64 n, .int .i64 k] w fun e w' => e = .returned (.string (strB (padL k n))) ∧ Below w.heap.size w w' := by
  obtain ⟨i0, hi, hz0, hz1, hz2⟩ := info_parts info_u8d
  go_enter Tryd.func22, Tryd.ntmps22
  go_wp2_with (at_make; refine wpList_make_full _ rfl _ _ 53 rfl w.heap.size 5 i0 (.int .u8 0) 1 Tryd.underlying53 hi hz0 hz1 .i64 .i64 _ _ k rfl rfl rfl rfl (by rw [hz2]; omega) (by unfold maxLen; omega) (Nat.le_refl _) ?_; intro w1 hown1 hgrow1)
  have hown : w1.ownsRow w.heap.size 5 1 (.slice (some ⟨w.heap.size, 0, none⟩) k k) k (padR k []) := by
    have e : (madeCells (Value.int .u8 0).cells (k * 1)).toList = padR k [] := by
      rw [Nat.mul_one]
      show (madeCells #[Value.int .u8 0] k).toList = _
      rw [toList_madeCells_one]
      unfold padR
      rw [List.append_nil, List.map_replicate]
      rfl
    rw [e] at hown1
    exact hown1
  have hb1 : Below w.heap.size w w1 := (Below.refl _ w).grown hgrow1 (Nat.le_refl _) (fun _ e => by cases e)
  clear hown1 hgrow1
  go_wp2_with fail
  go_loopw [0, 10] (fun x z wr => ∃ (m i j : Nat) (D : List UInt8), x = .int .i64 m ∧ z = .int .i64 i ∧ m ≤ 1000000 ∧ k = j + i ∧ D.length = i ∧ Hid (padL k n = padL j m ++ D) ∧ wr.ownsRow w.heap.size 5 1 (.slice (some ⟨w.heap.size, 0, none⟩) k k) k (padR j D) ∧ Below w.heap.size w wr) (fun _ z _ => k - (intOf z).toNat)
  case atStart => exact ⟨n, 0, k, [], rfl, rfl, hn, rfl, rfl, Lib.hid (by simp), hown, hb1⟩
  case round =>
    obtain ⟨m, i, j, D, rfl, rfl, hm, hkj, hD, hH, ho, hb⟩ := hrel
    by_cases hlt : i < k
    · obtain ⟨j, rfl⟩ : ∃ q, j = q + 1 := ⟨j - 1, by omega⟩
      have e0 : ((k : Int) - 1 - (i : Int)) = (j : Int) := by omega
      have hjk : (j : Int) < (k : Int) := by omega
      have hc : wr.cell? ⟨w.heap.size, j, none⟩ = some (u8V 0) := by
        have := World.ownsRow.cells ho (g := w.heap.size) rfl j (u8V 0) (by
          unfold padR
          rw [List.replicate_succ', List.append_assoc, List.map_append, List.getElem?_append_right (by simp)]
          simp)
        rw [add_none] at this
        exact this
      have hf : wr.frozen? ⟨w.heap.size, j, none⟩ = false := World.ownsRow.frozenAt ho j
      have hdg : IntKind.u8.wrap (48 + (m : Int) % 10) = ((digC m).toNat : Int) := by
        rw [digC_nat, IntKind.wrap_u8]
        omega
      obtain ⟨ho2, hg2⟩ := World.ownsRow.stored ho j (u8V (digC m))
      rw [padR_set] at ho2
      have hst : Hid (padL k n = padL j (m / 10) ++ digC m :: D) := Lib.hid (by rw [hH.out, pad_split])
      have hb2 : Below w.heap.size w (wr.setCell ⟨w.heap.size, j, none⟩ (u8V (digC m))) := hb.setCell (Nat.le_refl _) _
      unfold u8V at ho2 hb2 hc
      clear ho hH
      go_wp2_with fail
      go_roundw
      case rel => exact ⟨m / 10, i + 1, j, digC m :: D, by go_num, by go_num, by omega, by omega, by simp [hD], hst.out ▸ Lib.hid rfl, ho2, hb2⟩
      case measure => simp [intOf]; omega
    · obtain rfl : j = 0 := by omega
      obtain rfl : i = k := by omega
      have hrow : padR 0 D = D.map u8V := by simp [padR]
      rw [hrow] at ho
      have hfin : padL i n = D := hH.out
      have hcv := run_owned_str (P := Tryd.prog) (l := D) Tryd.underlying53 Tryd.underlying5 Tryd.underlying9 (by rw [hD]; exact ho)
      have HD := Lib.hid hD
      have HF := Lib.hid hfin
      clear hfin hH hrow hD ho hown hi hz0 hz1 hz2 hkj
      go_wp2_with fail
      go_ret
      exact ⟨by rw [HF.out]; rfl, hb⟩

end Go.Proofs.YtfabkceefigmhaaDoor
