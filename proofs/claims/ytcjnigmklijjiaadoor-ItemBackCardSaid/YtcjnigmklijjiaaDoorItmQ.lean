/- What item prints has no space at its ends; so it is parsed with spaces around it, too (plain). -/
import Derived.Test.YtcjnigmklijjiaaDoorItmP
namespace Go.Proofs.YtcjnigmklijjiaaDoor
open Go.RowKit

def lastOk (l : List UInt8) : Prop := ∃ x c, l = x ++ [c] ∧ c ≠ 32
def firstOk (l : List UInt8) : Prop := ∃ c r, l = c :: r ∧ c ≠ 32

theorem lastOk_app (u : List UInt8) {v : List UInt8} (h : lastOk v) : lastOk (u ++ v) := by
  obtain ⟨x, c, rfl, hc⟩ := h
  exact ⟨u ++ x, c, by rw [List.append_assoc], hc⟩
theorem lastOk_cons (a : UInt8) {v : List UInt8} (h : lastOk v) : lastOk (a :: v) := lastOk_app [a] h
theorem lastOk_all (l : List UInt8) (h0 : l ≠ []) (h : ∀ c ∈ l, c ≠ 32) : lastOk l :=
  ⟨l.dropLast, l.getLast h0, (List.dropLast_concat_getLast h0).symm, h _ (List.getLast_mem h0)⟩

theorem digit_ne (x : Nat) (h : x < 10) : UInt8.ofNat (48 + x) ≠ 32 := by
  have : ∀ x, x < 10 → UInt8.ofNat (48 + x) ≠ 32 := by decide
  exact this x h

theorem digits_last (u : Nat) : lastOk (Lib.decDigits u) := by
  refine lastOk_all _ ?_ ?_
  · intro h
    have := decDigits_1 u
    rw [h] at this
    simp at this
  · intro c hc
    have := (List.all_eq_true.1 (decDigits_all u)) c hc
    rintro rfl
    revert this
    decide

theorem decN_last (m : Nat) : lastOk (decN m) := by
  refine lastOk_app _ (lastOk_cons _ (lastOk_all _ (by simp) ?_))
  intro c hc
  have ht : ∀ c ∈ Lib.trimRightB [UInt8.ofNat (48 + m % 1000 / 10 % 10), UInt8.ofNat (48 + m % 1000 % 10)] 48, c = UInt8.ofNat (48 + m % 1000 / 10 % 10) ∨ c = UInt8.ofNat (48 + m % 1000 % 10) := by
    intro c hc
    unfold Lib.trimRightB at hc
    rw [List.mem_reverse] at hc
    have := (List.dropWhile_sublist _).subset hc
    rw [List.reverse_cons, List.reverse_cons, List.reverse_nil, List.nil_append] at this
    rcases List.mem_append.1 this with h | h
    · exact .inr (List.mem_singleton.1 h)
    · exact .inl (List.mem_singleton.1 h)
  rcases List.mem_cons.1 hc with rfl | hc
  · exact digit_ne _ (by omega)
  · rcases ht c hc with rfl | rfl
    · exact digit_ne _ (by omega)
    · exact digit_ne _ (by omega)

theorem tok_ne (c : UInt8) (h : ttI c.toNat = true) : c ≠ 32 := by
  rintro rfl
  revert h
  decide
theorem btok_ne (c : UInt8) (h : btI c.toNat = true) : c ≠ 32 := by
  rintro rfl
  revert h
  decide
theorem inkey_ne (c : UInt8) (h : ikI c.toNat = true) : c ≠ 32 := by
  rintro rfl
  revert h
  decide

theorem tok_last (s : List UInt8) (h0 : s ≠ []) (h : tlen s = s.length) : lastOk s := by
  refine lastOk_all s h0 ?_
  cases s with
  | nil => exact absurd rfl h0
  | cons c r =>
    rw [tlen] at h
    split at h
    · rename_i hb
      rw [List.length_cons] at h
      have hw : (r.takeWhile (fun c => ttI c.toNat)).length = r.length := by omega
      have hr := List.all_eq_true.1 (takeWhile_full _ r hw)
      intro d hd
      rcases List.mem_cons.1 hd with rfl | hd
      · exact btok_ne _ hb
      · exact tok_ne _ (hr d hd)
    · simp at h

theorem itoa_last (n : Int) : lastOk (Lib.itoa n) := by
  unfold Lib.itoa
  split
  · exact lastOk_cons _ (digits_last _)
  · exact digits_last _

theorem textL_last (k n : Int) (s : List UInt8) (h : rightL k n s = true) : lastOk (textL k n s) := by
  rcases right_kind k n s h with ⟨rfl | rfl, rfl, g0, g1⟩ | ⟨rfl, rfl, g0⟩ | ⟨rfl, rfl, g0⟩ | ⟨rfl, rfl, g0, g1⟩ | ⟨rfl, rfl⟩
  · exact itoa_last n
  · show lastOk (decT n)
    unfold decT
    split
    · exact lastOk_cons _ (decN_last _)
    · exact decN_last _
  · exact lastOk_cons 63 (itoa_last n)
  · exact ⟨34 :: escL s, 34, rfl, by decide⟩
  · exact tok_last s g0 g1
  · exact ⟨58 :: encL s, 58, rfl, by decide⟩

theorem textL_first (k n : Int) (s : List UInt8) (h : rightL k n s = true) : firstOk (textL k n s) := by
  have hr := readL_text k n s [] h rfl
  rw [List.append_nil] at hr
  cases ht : textL k n s with
  | nil => rw [ht] at hr; cases hr
  | cons c r =>
    refine ⟨c, r, rfl, ?_⟩
    rintro rfl
    rw [ht] at hr
    have : readL (32 :: r) = none := rfl
    rw [this] at hr
    cases hr

theorem key_last (K : List UInt8) (h : keyL K = true) : lastOk K := by
  obtain ⟨c, r, rfl, hb, hr⟩ := key_cons K h
  refine lastOk_all _ (by simp) ?_
  intro d hd
  rcases List.mem_cons.1 hd with rfl | hd
  · exact bk_not_space _ hb
  · exact inkey_ne _ (List.all_eq_true.1 hr d hd)

theorem pmT_last (p : Prm) (u : List UInt8) (h : pmT p = some u) : lastOk u := by
  cases h1 : rightL p.k p.n p.s with
  | false => rw [pmT_none p (.inl h1)] at h; cases h
  | true =>
    cases h2 : keyL p.key with
    | false => rw [pmT_none p (.inr h2)] at h; cases h
    | true =>
      by_cases h3 : p.k = 6 ∧ p.n = 1
      · rw [pmT_one p h1 h2 h3] at h
        obtain rfl := Option.some.inj h
        exact lastOk_cons _ (key_last _ h2)
      · rw [pmT_all p h1 h2 h3] at h
        obtain rfl := Option.some.inj h
        exact lastOk_cons _ (lastOk_app _ (lastOk_cons _ (textL_last _ _ _ h1)))

theorem ppGo_last : ∀ (ps : List Prm) (u : List UInt8), ppGo ps = some u → u = [] ∨ lastOk u
  | [], u, h => .inl (Option.some.inj h).symm
  | p :: ps, u, h => by
    cases hp : pmT p with
    | none => rw [ppGo_none _ _ hp] at h; cases h
    | some w =>
      rw [ppGo_some _ _ _ hp] at h
      cases hq : ppGo ps with
      | none => rw [hq] at h; cases h
      | some z =>
        rw [hq] at h
        obtain rfl := Option.some.inj h
        rcases ppGo_last ps z hq with rfl | hz
        · refine .inr ?_
          show lastOk (w ++ [])
          rw [List.append_nil]
          exact pmT_last p w hp
        · exact .inr (lastOk_app _ hz)

theorem all_last (k n : Int) (s u : List UInt8) (ps : List Prm) (h : rightL k n s = true) (hu : ppGo ps = some u) : lastOk (textL k n s ++ u) := by
  rcases ppGo_last ps u hu with rfl | hz
  · rw [List.append_nil]
    exact textL_last k n s h
  · exact lastOk_app _ hz

theorem all_first (k n : Int) (s u : List UInt8) (h : rightL k n s = true) : firstOk (textL k n s ++ u) := by
  obtain ⟨c, r, e, hc⟩ := textL_first k n s h
  rw [e]
  exact ⟨c, r ++ u, rfl, hc⟩

theorem trim_same (u : List UInt8) (h1 : firstOk u) (h2 : lastOk u) : Lib.trimB u 32 = u := by
  have hr : Lib.trimRightB u 32 = u := by
    obtain ⟨x, c, rfl, hc⟩ := h2
    simp [Lib.trimRightB, hc]
  rw [Lib.trimB, hr]
  obtain ⟨c, r, rfl, hc⟩ := h1
  simp [Lib.trimLeftB, hc]

theorem trim_around (u : List UInt8) (h1 : firstOk u) (h2 : lastOk u) : Lib.trimB (32 :: 32 :: (u ++ [32])) 32 = u := by
  have hr : Lib.trimRightB (32 :: 32 :: (u ++ [32])) 32 = 32 :: 32 :: u := by
    obtain ⟨x, c, rfl, hc⟩ := h2
    simp [Lib.trimRightB, hc]
  rw [Lib.trimB, hr]
  obtain ⟨c, r, rfl, hc⟩ := h1
  simp [Lib.trimLeftB, hc]

/-- A value's text with parameters' texts behind it is parsed; with spaces around, too. -/
theorem parseL_text (k n : Int) (s u : List UInt8) (ps : List Prm) (h : rightL k n s = true) (hu : ppGo ps = some u) :
    parseL (textL k n s ++ u) = some (⟨k, n, s, (textL k n s).length⟩, ps.foldl putL []) ∧ parseL (32 :: 32 :: (textL k n s ++ u ++ [32])) = some (⟨k, n, s, (textL k n s).length⟩, ps.foldl putL []) := by
  have h1 := all_first k n s u h
  have h2 := all_last k n s u ps h hu
  constructor
  · rw [parseL, trim_same _ h1 h2, itmL_text k n s u ps h hu]
    dsimp only
    rw [if_neg (Nat.lt_irrefl _)]
  · rw [parseL, trim_around _ h1 h2, itmL_text k n s u ps h hu]
    dsimp only
    rw [if_neg (Nat.lt_irrefl _)]

theorem prT_some (k n : Int) (s u : List UInt8) (ps : List Prm) (h : prT k n s ps = some u) : rightL k n s = true ∧ (ps.map Prm.key).Nodup ∧ ∃ v, ppGo ps = some v ∧ u = textL k n s ++ v := by
  unfold prT at h
  split at h
  · rename_i hr
    cases hp : ppT ps with
    | none => rw [hp] at h; cases h
    | some v =>
      rw [hp] at h
      obtain rfl := Option.some.inj h
      obtain ⟨a, b⟩ := ppT_some ps v hp
      exact ⟨hr, a, v, b, rfl⟩
  · cases h

/-- What is printed is parsed as the same, with spaces around, too. -/
theorem parseL_print (k n : Int) (s u : List UInt8) (ps : List Prm) (h : prT k n s ps = some u) :
    parseL u = some (⟨k, n, s, (textL k n s).length⟩, ps) ∧ parseL (32 :: 32 :: (u ++ [32])) = some (⟨k, n, s, (textL k n s).length⟩, ps) := by
  obtain ⟨hr, hn, v, hv, rfl⟩ := prT_some k n s u ps h
  have hf := fold_new ps [] hn
  rw [List.nil_append] at hf
  have := parseL_text k n s v ps hr hv
  rw [hf] at this
  exact this

/-- A parameter's text behind an item's. -/
theorem parseL_last (k n : Int) (s u v : List UInt8) (ps : List Prm) (p : Prm) (h : prT k n s ps = some u) (hp : ppT [p] = some v) :
    parseL (u ++ v) = some (⟨k, n, s, (textL k n s).length⟩, putL ps p) := by
  obtain ⟨hr, hn, w, hw, rfl⟩ := prT_some k n s u ps h
  have hv : pmT p = some v := by
    have h2 := (ppT_some [p] v hp).2
    cases hq : pmT p with
    | none => rw [ppGo_none _ _ hq] at h2; cases h2
    | some z =>
      rw [ppGo_some _ _ _ hq] at h2
      obtain rfl := Option.some.inj h2
      show some z = some (z ++ [])
      rw [List.append_nil]
  have hf := fold_new ps [] hn
  rw [List.nil_append] at hf
  have := (parseL_text k n s (w ++ v) (ps ++ [p]) hr (ppGo_snoc ps p w v hw hv)).1
  rw [List.foldl_append, hf] at this
  rw [List.append_assoc]
  exact this

end Go.Proofs.YtcjnigmklijjiaaDoor
