/- Plain: where the targeted field counts, nothing else of the fields does; where it does not, it is as if it were not there. -/
import Derived.Test.YtpifbgefkbhopaaGreatDoorZMChsP
import Derived.Test.YtpifbgefkbhopaaGreatDoorZDirS

namespace Go.Proofs.YtpifbgefkbhopaaGreatDoor
open Go.RowKit

theorem cdn_ne : nCdn ≠ nCtl := by decide
theorem allH_app (fs gs : List Fld) (n : List UInt8) : allH (fs ++ gs) n = allH fs n ++ allH gs n := by simp [allH]
theorem allH_without (fs : List Fld) (n : List UInt8) : allH (withoutH fs [n]) n = [] := by
  unfold allH withoutH
  rw [List.filter_filter, List.map_eq_nil_iff, List.filter_eq_nil_iff]
  intro p _ h
  simp at h
/-- Fields without the targeted one, and it behind them. -/
def tgtF (fs : List Fld) (s : List UInt8) : List Fld := withoutH fs [nCdn] ++ [(nCdn, s)]
theorem tgt_cdn (fs : List Fld) (s : List UInt8) : allH (tgtF fs s) nCdn = [s] := by
  rw [tgtF, allH_app, allH_without]
  rfl
theorem tgt_ctl (fs : List Fld) (s : List UInt8) : allH (tgtF fs s) nCtl = allH (withoutH fs [nCdn]) nCtl := by
  rw [tgtF, allH_no _ _ _ cdn_ne]
theorem join_one (s : List UInt8) : joinH [s] = s := by simp [joinH, tailH]
theorem alone_yes (fs : List Fld) (s : List UInt8) (es : List Ent) (h : modL s = some es) : chsA (tgtF fs s) = .tuple #[rulM es, .int .i64 2] := by
  rw [chsA, tgt_cdn, join_one, h, if_pos ⟨by simp, rfl⟩]
  rfl
theorem alone_no (fs : List Fld) (s : List UInt8) (h : modL s = none) : chsA (tgtF fs s) = chsA (withoutH fs [nCdn]) := by
  have e1 : chsA (tgtF fs s) = if 0 < (allH (withoutH fs [nCdn]) nCtl).length then .tuple #[rulV (ctlD (withoutH fs [nCdn])), .int .i64 1] else .tuple #[rulV [], .int .i64 0] := by
    rw [chsA, tgt_cdn, join_one, h, if_neg (fun e => by cases e.2), tgt_ctl, ctlD, tgt_ctl, ctlD]
  have e2 : chsA (withoutH fs [nCdn]) = if 0 < (allH (withoutH fs [nCdn]) nCtl).length then .tuple #[rulV (ctlD (withoutH fs [nCdn])), .int .i64 1] else .tuple #[rulV [], .int .i64 0] := by
    rw [chsA, allH_without, if_neg (fun e => absurd e.1 (Nat.lt_irrefl 0))]
  rw [e1, e2]
theorem withoutH_sub {fs : List Fld} {ns : List (List UInt8)} {p : Fld} (h : p ∈ withoutH fs ns) : p ∈ fs := (List.mem_filter.1 h).1
theorem pr_filter (q : Fld → Bool) : ∀ fs : List Fld, (prF (fs.filter q)).length ≤ (prF fs).length
  | [] => Nat.le_refl _
  | p :: fs => by
    have ih := pr_filter q fs
    rw [List.filter_cons, prF, List.length_append]
    split
    · rw [prF, List.length_append]; omega
    · omega
theorem pr_app : ∀ fs gs : List Fld, prF (fs ++ gs) = prF fs ++ prF gs
  | [], gs => rfl
  | p :: fs, gs => by rw [List.cons_append, prF, prF, pr_app fs gs, List.append_assoc]
/-- What bounds them. -/
theorem tgt_ok (fs : List Fld) (s : List UInt8) (hk : FldsOk fs) (hp : (prF fs).length ≤ 10000) (hs : s.length ≤ 1000) : FldsOk (tgtF fs s) ∧ ∀ n, (joinH (allH (tgtF fs s) n)).length ≤ 90000 := by
  have h1 : (prF (tgtF fs s)).length ≤ 12000 := by
    have := pr_filter (fun p => !decide (p.1 ∈ [nCdn])) fs
    rw [tgtF, pr_app, List.length_append]
    have e : (prF [(nCdn, s)]).length = 17 + s.length + 4 := by
      rw [prF, prF, List.append_nil, lineF_len]
      rfl
    unfold withoutH
    omega
  have h2 : (withoutH fs [nCdn]).length ≤ fs.length := List.length_filter_le _ _
  refine ⟨⟨?_, fun p hp => ?_⟩, fun n => Nat.le_trans (join_small _ n) (by omega)⟩
  · rw [tgtF, List.length_append, List.length_singleton]
    have h4 := prF_ge fs
    omega
  · rcases List.mem_append.1 hp with hp | hp
    · exact hk.2 p (withoutH_sub hp)
    · obtain rfl := List.mem_singleton.1 hp
      exact ⟨(by decide : nCdn.length ≤ 100000), (by omega : s.length ≤ 100000)⟩
theorem without_ok (fs : List Fld) (hk : FldsOk fs) (hp : (prF fs).length ≤ 10000) : FldsOk (withoutH fs [nCdn]) ∧ ∀ n, (joinH (allH (withoutH fs [nCdn]) n)).length ≤ 90000 := by
  have h1 : (prF (withoutH fs [nCdn])).length ≤ (prF fs).length := pr_filter _ fs
  exact ⟨⟨Nat.le_trans (List.length_filter_le _ _) hk.1, fun p hp => hk.2 p (withoutH_sub hp)⟩, fun n => Nat.le_trans (join_small _ n) (by omega)⟩

end Go.Proofs.YtpifbgefkbhopaaGreatDoor
