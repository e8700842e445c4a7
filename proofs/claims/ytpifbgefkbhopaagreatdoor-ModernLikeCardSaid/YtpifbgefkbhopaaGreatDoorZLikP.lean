/- Plain: directives without values, and numbers of one digit, are told alike as parts and as a dictionary. -/
import Derived.Test.YtpifbgefkbhopaaGreatDoorZMMoP
import Derived.Test.YtpifbgefkbhopaaGreatDoorZMMbkA
import Derived.Test.YtpifbgefkbhopaaGreatDoorZTokP
import Derived.Test.YtpifbgefkbhopaaGreatDoorZDecP
import Derived.Test.YtpifbgefkbhopaaGreatDoorZPowP

namespace Go.Proofs.YtpifbgefkbhopaaGreatDoor
open Go.RowKit

/-- The names of signs, and of numbers. -/
def sgnN : List (List UInt8) := [nNoStore, nNoCache, nPrivate, nPublic, nMust, nProxy, nImmut, nOnly, nStale]
def nmsN : List (List UInt8) := [nMaxAge, nSMax, nFresh, nIfErr]
/-- A name, with a digit or without. -/
abbrev Pc := List UInt8 × Option (Fin 10)
def PcOk (p : Pc) : Prop := (p.2 = none ∧ p.1 ∈ sgnN) ∨ (p.2.isSome = true ∧ p.1 ∈ nmsN)
def digU (d : Fin 10) : UInt8 := UInt8.ofNat (48 + d.val)
def txtP (p : Pc) : List UInt8 := match p.2 with | none => p.1 | some d => p.1 ++ [61, digU d]
def entP (p : Pc) : Ent := match p.2 with | none => ⟨p.1, ⟨false, ⟨6, 1, [], []⟩, [], []⟩⟩ | some d => ⟨p.1, ⟨false, ⟨1, (d.val : Int), [], []⟩, [], []⟩⟩
def dirP (p : Pc) : Dir := match p.2 with | none => (p.1, [], false) | some d => (p.1, [digU d], true)
theorem entP_key (p : Pc) : (entP p).key = p.1 := by
  obtain ⟨n, o⟩ := p
  cases o <;> rfl
theorem dirP_name (p : Pc) : (dirP p).1 = p.1 := by
  obtain ⟨n, o⟩ := p
  cases o <;> rfl

/-- Bytes that neither part nor quote nor blank. -/
def plB (l : List UInt8) : Bool := !l.isEmpty && l.all fun c => !(blkB c) && !(c == 44) && !(c == 34)
set_option maxRecDepth 100000 in
theorem pc_facts {p : Pc} (h : PcOk p) : plB (txtP p) = true ∧ oneL (txtP p) = some (dirP p) := by
  obtain ⟨n, o⟩ := p
  rcases h with ⟨ho, hn⟩ | ⟨ho, hn⟩
  · dsimp only at ho hn
    subst ho
    have hall : (sgnN.all fun n => plB (txtP (n, none)) && oneL (txtP (n, none)) == some (dirP (n, none))) = true := by rfl
    have := List.all_eq_true.1 hall n hn
    simpa using this
  · cases o with
    | none => cases ho
    | some d =>
      dsimp only at hn
      have hall : ((List.finRange 10).all fun d => nmsN.all fun n => plB (txtP (n, some d)) && oneL (txtP (n, some d)) == some (dirP (n, some d))) = true := by rfl
      have := List.all_eq_true.1 (List.all_eq_true.1 hall d (List.mem_finRange d)) n hn
      simpa using this
theorem itoa_dig (d : Fin 10) : Lib.itoa (d.val : Int) = [digU d] := by
  rw [itoa_nat, dec_small d.val d.isLt]
  rfl
theorem memT_sign : memT ⟨false, ⟨6, 1, [], []⟩, [], []⟩ = some [63, 49] := by
  have e : Lib.itoa 1 = [49] := itoa_dig 1
  have h : textL 6 1 [] = 63 :: Lib.itoa 1 := rfl
  rw [memT, if_neg (by decide), if_pos rfl, itT, prT, if_pos (by decide), h, e]
  rfl
theorem memT_dig (d : Fin 10) : memT ⟨false, ⟨1, (d.val : Int), [], []⟩, [], []⟩ = some [digU d] := by
  have h : textL 1 (d.val : Int) [] = Lib.itoa (d.val : Int) := rfl
  have hr : rightL 1 (d.val : Int) [] = true := by
    have hall : ((List.finRange 10).all fun d => rightL 1 (d.val : Int) []) = true := by rfl
    exact List.all_eq_true.1 hall d (List.mem_finRange d)
  have hk : kindL ⟨false, ⟨1, (d.val : Int), [], []⟩, [], []⟩ = true := rfl
  rw [memT, if_neg (by rw [hk]; decide), if_pos rfl, itT, prT]
  dsimp only
  rw [if_pos hr, h, itoa_dig]
  rfl
theorem pc_key {p : Pc} (h : PcOk p) : keyL p.1 = true := by
  obtain ⟨n, o⟩ := p
  rcases h with ⟨_, hn⟩ | ⟨_, hn⟩
  · simp only [sgnN, List.mem_cons, List.not_mem_nil, or_false] at hn
    rcases hn with rfl | rfl | rfl | rfl | rfl | rfl | rfl | rfl | rfl <;> rfl
  · simp only [nmsN, List.mem_cons, List.not_mem_nil, or_false] at hn
    rcases hn with rfl | rfl | rfl | rfl <;> rfl
theorem pre_dig (d : Fin 10) : Lib.hasPrefix [digU d] [63, 49] = false := by
  have h : ¬ (63 : UInt8) = digU d := by
    have hall : ((List.finRange 10).all fun d => !((63 : UInt8) == digU d)) = true := by decide
    have := List.all_eq_true.1 hall d (List.mem_finRange d)
    simpa using this
  unfold Lib.hasPrefix
  rw [List.isPrefixOf, beq_eq_false_iff_ne.2 h, Bool.false_and]
theorem pre_sign : Lib.hasPrefix [63, 49] [63, 49] = true := by decide
theorem enT_sign (n : List UInt8) (hk : keyL n = true) : enT ⟨n, ⟨false, ⟨6, 1, [], []⟩, [], []⟩⟩ = some n := by
  unfold enT
  dsimp only
  rw [memT_sign]
  dsimp only
  rw [if_neg (by rw [hk]; decide), if_pos pre_sign, List.drop_succ_cons, List.drop_succ_cons, List.drop_nil, List.append_nil]
theorem enT_of (n t : List UInt8) (M : Mem) (hk : keyL n = true) (hm : memT M = some t) (hp : Lib.hasPrefix t [63, 49] = false) : enT ⟨n, M⟩ = some (n ++ 61 :: t) := by
  unfold enT
  dsimp only
  rw [hm]
  dsimp only
  rw [if_neg (by rw [hk]; decide), if_neg (by rw [hp]; decide)]
theorem enT_dig (n : List UInt8) (d : Fin 10) (hk : keyL n = true) : enT ⟨n, ⟨false, ⟨1, (d.val : Int), [], []⟩, [], []⟩⟩ = some (n ++ [61, digU d]) :=
  enT_of n [digU d] _ hk (memT_dig d) (pre_dig d)
theorem pc_text {p : Pc} (h : PcOk p) : enT (entP p) = some (txtP p) := by
  have hk := pc_key h
  obtain ⟨n, o⟩ := p
  cases o with
  | none => exact enT_sign n hk
  | some d => exact enT_dig n d hk

/-- Pieces, with a comma and a space between. -/
def tlK : List (List UInt8) → List UInt8
  | [] => []
  | q :: r => 44 :: 32 :: (q ++ tlK r)
def jnK : List (List UInt8) → List UInt8
  | [] => []
  | q :: r => q ++ tlK r
theorem tlK_snoc (q : List UInt8) : ∀ r : List (List UInt8), tlK (r ++ [q]) = tlK r ++ 44 :: 32 :: q
  | [] => by simp [tlK]
  | x :: r => by rw [List.cons_append, tlK, tlK, tlK_snoc q r]; simp
theorem jnK_snoc (r : List (List UInt8)) (q : List UInt8) : jnK (r ++ [q]) = if r = [] then q else jnK r ++ ([44, 32] ++ q) := by
  cases r with
  | nil => simp [jnK, tlK]
  | cons x r =>
    rw [if_neg (by simp), List.cons_append, jnK, jnK, tlK_snoc]
    simp
theorem jn_tail : ∀ ps : List Pc, (∀ p ∈ ps, PcOk p) → jnGo enT [44, 32] false (ps.map entP) = some (tlK (ps.map txtP))
  | [], _ => rfl
  | p :: ps, h => by
    rw [List.map_cons, jnGo_some _ _ _ _ _ _ (pc_text (h p (List.mem_cons_self ..))), jn_tail ps (fun q hq => h q (List.mem_cons_of_mem _ hq))]
    simp [tlK]
theorem jn_all13 (ps : List Pc) (h : ∀ p ∈ ps, PcOk p) : jnGo enT [44, 32] true (ps.map entP) = some (jnK (ps.map txtP)) := by
  cases ps with
  | nil => rfl
  | cons p ps =>
    rw [List.map_cons, jnGo_some _ _ _ _ _ _ (pc_text (h p (List.mem_cons_self ..))), jn_tail ps (fun q hq => h q (List.mem_cons_of_mem _ hq))]
    simp [jnK]
theorem lik_dict (ps : List Pc) (h : ∀ p ∈ ps, PcOk p) (hn : (ps.map (·.1)).Nodup) : dicL (jnK (ps.map txtP)) = some (ps.map entP) := by
  refine dict_back _ _ ?_
  have hk : (ps.map entP).map Ent.key = ps.map (·.1) := by
    rw [List.map_map]
    exact List.map_congr_left fun p _ => entP_key p
  rw [dcT, if_neg (by rw [eqKE, hk]; simpa using hn), jn_all13 ps h]

theorem pe_plain : ∀ (x y : List UInt8), (∀ c ∈ x, (c == 44) = false ∧ (c == 34) = false) → peS none (x ++ y) = x.length + peS none y
  | [], y, _ => by simp
  | c :: r, y, h => by
    obtain ⟨h1, h2⟩ := h c (List.mem_cons_self ..)
    rw [List.cons_append, peS, h1, h2, if_neg (by decide), if_neg (by decide), pe_plain r y (fun d hd => h d (List.mem_cons_of_mem _ hd)), List.length_cons]
    omega
theorem pe_tail (r : List (List UInt8)) : peS none (tlK r) = 0 := by
  cases r <;> rfl
theorem plB_facts {q : List UInt8} (h : plB q = true) : q ≠ [] ∧ (∀ c ∈ q, blkB c = false) ∧ ∀ c ∈ q, (c == 44) = false ∧ (c == 34) = false := by
  unfold plB at h
  rw [Bool.and_eq_true, List.all_eq_true] at h
  obtain ⟨h1, h2⟩ := h
  refine ⟨fun e => (by rw [e] at h1; cases h1), fun c hc => ?_, fun c hc => ?_⟩
  · have := h2 c hc
    cases hb : blkB c
    · rfl
    · rw [hb] at this; cases this
  · have := h2 c hc
    cases ha : (c == 44) <;> cases hb : (c == 34) <;> simp_all
theorem trim_sp (q : List UInt8) (h : plB q = true) : trimL (32 :: q) = q := by
  obtain ⟨_, h2, _⟩ := plB_facts h
  have e : tlL (32 :: q) = tlL q := by rw [tlL, List.dropWhile_cons_of_pos (by decide)]; rfl
  have := trimL_of q h2
  rw [trimL] at this ⊢
  rw [e]
  exact this
theorem lik_split : ∀ (r : List (List UInt8)) (q : List UInt8), plB q = true → (∀ x ∈ r, plB x = true) → splitL (q ++ tlK r) = q :: r ∧ splitL (32 :: (q ++ tlK r)) = q :: r
  | r, q, hq, hr => by
    obtain ⟨h1, h2, h3⟩ := plB_facts hq
    have hrest : splitL ((tlK r).drop 1) = r := by
      cases r with
      | nil => rfl
      | cons x r => exact (lik_split r x (hr x (List.mem_cons_self ..)) (fun y hy => hr y (List.mem_cons_of_mem _ hy))).2
    have p1 : peL (q ++ tlK r) = q.length := by rw [peL, pe_plain q _ h3, pe_tail]; rfl
    have p2 : peL (32 :: (q ++ tlK r)) = q.length + 1 := by
      have := pe_plain (32 :: q) (tlK r) (fun c hc => by
        rcases List.mem_cons.1 hc with rfl | hc
        · exact ⟨by decide, by decide⟩
        · exact h3 c hc)
      rw [List.cons_append] at this
      rw [peL, this, pe_tail, List.length_cons]
    constructor
    · rw [splitL_step _ (by simp [h1]), p1, List.take_left, trimL_of q h2, if_neg h1]
      have : (q ++ tlK r).drop (q.length + 1) = (tlK r).drop 1 := by rw [List.drop_append]; simp
      rw [this, hrest]
      rfl
    · rw [splitL_step _ (by simp), p2]
      have e1 : (32 :: (q ++ tlK r)).take (q.length + 1) = 32 :: q := by simp
      have e2 : (32 :: (q ++ tlK r)).drop (q.length + 1 + 1) = (tlK r).drop 1 := by rw [List.drop_succ_cons, List.drop_append]; simp
      rw [e1, e2, trim_sp q hq, if_neg h1, hrest]
      rfl
theorem lik_dirs (ps : List Pc) (h : ∀ p ∈ ps, PcOk p) : dirsL (jnK (ps.map txtP)) = ps.map dirP := by
  have hs : splitL (jnK (ps.map txtP)) = ps.map txtP := by
    cases ps with
    | nil => rfl
    | cons p ps =>
      rw [List.map_cons, jnK]
      exact (lik_split _ _ (pc_facts (h p (List.mem_cons_self ..))).1 (fun x hx => by
        obtain ⟨q, hq, rfl⟩ := List.mem_map.1 hx
        exact (pc_facts (h q (List.mem_cons_of_mem _ hq))).1)).1
  rw [dirsL, hs]
  clear hs
  induction ps with
  | nil => rfl
  | cons p ps ih =>
    rw [List.map_cons, List.map_cons, List.filterMap_cons, (pc_facts (h p (List.mem_cons_self ..))).2]
    dsimp only
    rw [ih (fun q hq => h q (List.mem_cons_of_mem _ hq))]

/-- The first piece of a name. -/
def fpc (ps : List Pc) (n : List UInt8) : Option Pc := ps.find? fun p => p.1 == n
theorem fpc_ent (n : List UInt8) : ∀ ps : List Pc, bitR (ps.map entP) n = (fpc ps n).map fun p => ((entP p).val.it.k, (entP p).val.it.n, (entP p).val.it.s)
  | [] => rfl
  | p :: ps => by
    have hi : (entP p).val.inner = false := by
      obtain ⟨m, o⟩ := p
      cases o <;> rfl
    rw [List.map_cons, bitR, entP_key, fpc, List.find?_cons]
    by_cases h : p.1 = n
    · rw [if_pos ⟨h, hi⟩, beq_iff_eq.2 h]
      rfl
    · rw [if_neg (fun e => h e.1), beq_eq_false_iff_ne.2 h, fpc_ent n ps]
      rfl
theorem fpc_dir (n : List UInt8) : ∀ ps : List Pc, fstN (ps.map dirP) n = (fpc ps n).map dirP
  | [] => rfl
  | p :: ps => by
    rw [List.map_cons, fstN, List.find?_cons, dirP_name, fpc, List.find?_cons]
    cases (p.1 == n)
    · exact fpc_dir n ps
    · rfl
theorem fpc_ok {ps : List Pc} {n : List UInt8} {p : Pc} (hok : ∀ p ∈ ps, PcOk p) (h : fpc ps n = some p) : PcOk p ∧ p.1 = n :=
  ⟨hok p (List.mem_of_find?_eq_some h), by have := List.find?_some h; simpa using this⟩
theorem sgn_none {p : Pc} (h : PcOk p) (hn : p.1 ∈ sgnN) : p.2 = none := by
  rcases h with h | h
  · exact h.1
  · have hall : (sgnN.all fun n => !nmsN.contains n) = true := by rfl
    have := List.all_eq_true.1 hall _ hn
    rw [Bool.not_eq_true', List.contains_eq_mem, decide_eq_false_iff_not] at this
    exact absurd h.2 this
theorem nms_some {p : Pc} (h : PcOk p) (hn : p.1 ∈ nmsN) : ∃ d, p.2 = some d := by
  rcases h with h | h
  · have hall : (sgnN.all fun n => !nmsN.contains n) = true := by rfl
    have := List.all_eq_true.1 hall _ h.2
    rw [Bool.not_eq_true', List.contains_eq_mem, decide_eq_false_iff_not] at this
    exact absurd hn this
  · exact Option.isSome_iff_exists.1 h.1
theorem lik_sign {ps : List Pc} (hok : ∀ p ∈ ps, PcOk p) (n : List UInt8) (hn : n ∈ sgnN) : yesR (ps.map entP) n = hasN (ps.map dirP) n := by
  rw [yesR, hasN, fpc_ent, fpc_dir]
  cases hf : fpc ps n with
  | none => rfl
  | some p =>
    obtain ⟨h1, h2⟩ := fpc_ok hok hf
    have h3 := sgn_none h1 (h2 ▸ hn)
    obtain ⟨m, o⟩ := p
    dsimp only at h3
    subst h3
    rfl
theorem lik_stale {ps : List Pc} (hok : ∀ p ∈ ps, PcOk p) : stlR (ps.map entP) = stlN (ps.map dirP) nStale := by
  rw [stlR, yesR, numR, stlN, fpc_ent, fpc_dir]
  cases hf : fpc ps nStale with
  | none => rfl
  | some p =>
    obtain ⟨h1, h2⟩ := fpc_ok hok hf
    have h3 := sgn_none h1 (h2 ▸ (by decide))
    obtain ⟨m, o⟩ := p
    dsimp only at h3
    subst h3
    rfl
theorem lik_num {ps : List Pc} (hok : ∀ p ∈ ps, PcOk p) (n : List UInt8) (hn : n ∈ nmsN) : numR (ps.map entP) n = numN (ps.map dirP) n := by
  rw [numR, numN, fpc_ent, fpc_dir]
  cases hf : fpc ps n with
  | none => rfl
  | some p =>
    obtain ⟨h1, h2⟩ := fpc_ok hok hf
    obtain ⟨d, hd⟩ := nms_some h1 (h2 ▸ hn)
    obtain ⟨m, o⟩ := p
    dsimp only at hd
    subst hd
    have hall : ((List.finRange 10).all fun d => decide ((if (1 : Int) = 1 ∧ 0 ≤ (d.val : Int) then min (d.val : Int) 2147483648 else -1) = digitsN [digU d])) = true := by rfl
    have := List.all_eq_true.1 hall d (List.mem_finRange d)
    exact of_decide_eq_true this
theorem lik_rules {ps : List Pc} (hok : ∀ p ∈ ps, PcOk p) : rulM (ps.map entP) = rulV (ps.map dirP) := by
  rw [rulM, rulV, lik_stale hok, lik_sign hok _ (by decide), lik_sign hok _ (by decide), lik_sign hok _ (by decide), lik_sign hok _ (by decide), lik_sign hok _ (by decide), lik_sign hok _ (by decide), lik_sign hok _ (by decide), lik_sign hok _ (by decide),
    lik_num hok _ (by decide), lik_num hok _ (by decide), lik_num hok _ (by decide), lik_num hok _ (by decide)]
/-- What the law asks: where a text of pieces counts, and what it tells. -/
theorem lik_all {ps : List Pc} (hok : ∀ p ∈ ps, PcOk p) (hn : (ps.map (·.1)).Nodup) : (modL (jnK (ps.map txtP))).isSome = decide (ps ≠ []) ∧ rulO (modL (jnK (ps.map txtP))) = rulV (dirsL (jnK (ps.map txtP))) := by
  rw [lik_dirs ps hok]
  have hd := lik_dict ps hok hn
  cases ps with
  | nil =>
    rw [modL_nil hd]
    exact ⟨rfl, rfl⟩
  | cons p ps =>
    rw [modL_yes hd (by simp)]
    exact ⟨by simp, lik_rules hok⟩

end Go.Proofs.YtpifbgefkbhopaaGreatDoor
