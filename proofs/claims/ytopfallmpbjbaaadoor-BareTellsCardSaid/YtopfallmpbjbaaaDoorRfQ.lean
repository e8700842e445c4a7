/- The contract of the document's own Print at decimals, and at all items (sculleryref02). -/
import Derived.Test.YtopfallmpbjbaaaDoorRfP
namespace Go.Proofs.YtopfallmpbjbaaaDoor
open Go.RowKit

set_option maxRecDepth 100000 in
set_option maxHeartbeats 1000000 in
theorem fdec_pa (m a b c d : Nat) (s : ByteArray) (w : World) (hs : s.size ≤ 100000) (hr : rightL 2 ((m : Int)) s.data.toList = true) (hm : m < 1000000000000000) (ha : m / 1000 = a) (hb : m / 100 % 10 = b) (hc : m / 10 % 10 = c) (hd : m % 10 = d) (h : 0 < d) :
    Calls Tryd.prog 11 #[.agg #[.int .i64 2, .int .i64 ((m : Int)), .string s]] w (txtPost (.tuple #[.string (strB (decN m)), .int .i64 0]) w) := by
  have cR := fun W => fright_any 2 ((m : Int)) s W hs
  rw [hr] at cR
  have hb0 := bare_below w (.cells #[.int .i64 2, .int .i64 ((m : Int)), .string s] 23)
  have e1 : Hid (strB (decN m) = (⟨#[]⟩ : ByteArray) ++ strB (Lib.decDigits a) ++ (⟨#[46]⟩ : ByteArray) ++ strB (Lib.decDigits b) ++ strB (Lib.decDigits c) ++ strB (Lib.decDigits d)) := Lib.hid (by
    rw [decN_a m a b c d ha hb hc hd h, Lib.decDigits_one (i := b) (by omega), Lib.decDigits_one (i := c) (by omega), Lib.decDigits_one (i := d) (by omega), show (⟨#[46]⟩ : ByteArray) = strB [46] from rfl, show (⟨#[]⟩ : ByteArray) = strB [] from rfl]
    simp only [strB_append, List.append_assoc, List.cons_append, List.nil_append])
  rw [e1.out]
  have cA := fun W => fnumber_any W a (by omega)
  have cB := fun W => fnumber_any W b (by omega)
  have cC := fun W => fnumber_any W c (by omega)
  have cD := fun W => fnumber_any W d (by omega)
  have za : (strB (Lib.decDigits a)).size ≤ 20 := by rw [strB_size]; have := decDigits_15 a (by omega); omega
  have zb : (strB (Lib.decDigits b)).size ≤ 20 := by rw [strB_size]; have := decDigits_15 b (by omega); omega
  have zc : (strB (Lib.decDigits c)).size ≤ 20 := by rw [strB_size]; have := decDigits_15 c (by omega); omega
  have zd : (strB (Lib.decDigits d)).size ≤ 20 := by rw [strB_size]; have := decDigits_15 d (by omega); omega
  obtain ⟨f, hf⟩ : ∃ f, m % 100 = f := ⟨_, rfl⟩
  have qa : (m : Int) / 1000 = (a : Int) := by omega
  have qb : (m : Int) / 100 % 10 = (b : Int) := by omega
  have qc : (m : Int) / 10 % 10 = (c : Int) := by omega
  have qd : (m : Int) % 10 = (d : Int) := by omega
  have qf : (m : Int) % 100 = (f : Int) := by omega
  have tf : 0 < f := by omega
  have td : 0 < d := by omega
  have hd0 : decide ((m : Int) < 0) = false := by simp
  clear hr e1 ha hb hc hd hf
  generalize strB (Lib.decDigits a) = A at *
  generalize strB (Lib.decDigits b) = B at *
  generalize strB (Lib.decDigits c) = C at *
  generalize strB (Lib.decDigits d) = D at *
  go_enter Tryd.func11, Tryd.ntmps11
  go_wp2_with fail
  refine (cR _).mono ?_
  rintro e w1 ⟨rfl, hb1⟩
  obtain ⟨p0, p1, p2⟩ := bare_cells w 2 ((m : Int)) s w1 (by simpa using hb1)
  go_wp2_with fail
  refine (cA _).mono ?_
  rintro e w' ⟨rfl, rfl⟩
  go_wp2_with fail
  refine (cB _).mono ?_
  rintro e w' ⟨rfl, rfl⟩
  go_wp2_with fail
  refine (cC _).mono ?_
  rintro e w' ⟨rfl, rfl⟩
  go_wp2_with fail
  refine (cD _).mono ?_
  rintro e w' ⟨rfl, rfl⟩
  go_wp2_with fail
  go_ret2
  exact ⟨by simp, hb0.trans (hb1.mono hb0.size)⟩

set_option maxRecDepth 100000 in
set_option maxHeartbeats 1000000 in
theorem fdec_pb (m a b c d : Nat) (s : ByteArray) (w : World) (hs : s.size ≤ 100000) (hr : rightL 2 ((m : Int)) s.data.toList = true) (hm : m < 1000000000000000) (ha : m / 1000 = a) (hb : m / 100 % 10 = b) (hc : m / 10 % 10 = c) (hd : m % 10 = d) (h : d = 0) (h2 : 0 < c) :
    Calls Tryd.prog 11 #[.agg #[.int .i64 2, .int .i64 ((m : Int)), .string s]] w (txtPost (.tuple #[.string (strB (decN m)), .int .i64 0]) w) := by
  have cR := fun W => fright_any 2 ((m : Int)) s W hs
  rw [hr] at cR
  have hb0 := bare_below w (.cells #[.int .i64 2, .int .i64 ((m : Int)), .string s] 23)
  have e1 : Hid (strB (decN m) = (⟨#[]⟩ : ByteArray) ++ strB (Lib.decDigits a) ++ (⟨#[46]⟩ : ByteArray) ++ strB (Lib.decDigits b) ++ strB (Lib.decDigits c)) := Lib.hid (by
    rw [decN_b m a b c d ha hb hc hd h h2, Lib.decDigits_one (i := b) (by omega), Lib.decDigits_one (i := c) (by omega), show (⟨#[46]⟩ : ByteArray) = strB [46] from rfl, show (⟨#[]⟩ : ByteArray) = strB [] from rfl]
    simp only [strB_append, List.append_assoc, List.cons_append, List.nil_append])
  rw [e1.out]
  have cA := fun W => fnumber_any W a (by omega)
  have cB := fun W => fnumber_any W b (by omega)
  have cC := fun W => fnumber_any W c (by omega)
  have cD := fun W => fnumber_any W d (by omega)
  have za : (strB (Lib.decDigits a)).size ≤ 20 := by rw [strB_size]; have := decDigits_15 a (by omega); omega
  have zb : (strB (Lib.decDigits b)).size ≤ 20 := by rw [strB_size]; have := decDigits_15 b (by omega); omega
  have zc : (strB (Lib.decDigits c)).size ≤ 20 := by rw [strB_size]; have := decDigits_15 c (by omega); omega
  have zd : (strB (Lib.decDigits d)).size ≤ 20 := by rw [strB_size]; have := decDigits_15 d (by omega); omega
  obtain ⟨f, hf⟩ : ∃ f, m % 100 = f := ⟨_, rfl⟩
  have qa : (m : Int) / 1000 = (a : Int) := by omega
  have qb : (m : Int) / 100 % 10 = (b : Int) := by omega
  have qc : (m : Int) / 10 % 10 = (c : Int) := by omega
  have qd : (m : Int) % 10 = (d : Int) := by omega
  have qf : (m : Int) % 100 = (f : Int) := by omega
  have tf : 0 < f := by omega
  have td : d = 0 := by omega
  have hd0 : decide ((m : Int) < 0) = false := by simp
  clear hr e1 ha hb hc hd hf
  generalize strB (Lib.decDigits a) = A at *
  generalize strB (Lib.decDigits b) = B at *
  generalize strB (Lib.decDigits c) = C at *
  generalize strB (Lib.decDigits d) = D at *
  clear h
  subst td
  go_enter Tryd.func11, Tryd.ntmps11
  go_wp2_with fail
  refine (cR _).mono ?_
  rintro e w1 ⟨rfl, hb1⟩
  obtain ⟨p0, p1, p2⟩ := bare_cells w 2 ((m : Int)) s w1 (by simpa using hb1)
  go_wp2_with fail
  refine (cA _).mono ?_
  rintro e w' ⟨rfl, rfl⟩
  go_wp2_with fail
  refine (cB _).mono ?_
  rintro e w' ⟨rfl, rfl⟩
  go_wp2_with fail
  refine (cC _).mono ?_
  rintro e w' ⟨rfl, rfl⟩
  go_wp2_with fail
  go_ret2
  exact ⟨by simp, hb0.trans (hb1.mono hb0.size)⟩

set_option maxRecDepth 100000 in
set_option maxHeartbeats 1000000 in
theorem fdec_pc (m a b c d : Nat) (s : ByteArray) (w : World) (hs : s.size ≤ 100000) (hr : rightL 2 ((m : Int)) s.data.toList = true) (hm : m < 1000000000000000) (ha : m / 1000 = a) (hb : m / 100 % 10 = b) (hc : m / 10 % 10 = c) (hd : m % 10 = d) (h : d = 0) (h2 : c = 0) :
    Calls Tryd.prog 11 #[.agg #[.int .i64 2, .int .i64 ((m : Int)), .string s]] w (txtPost (.tuple #[.string (strB (decN m)), .int .i64 0]) w) := by
  have cR := fun W => fright_any 2 ((m : Int)) s W hs
  rw [hr] at cR
  have hb0 := bare_below w (.cells #[.int .i64 2, .int .i64 ((m : Int)), .string s] 23)
  have e1 : Hid (strB (decN m) = (⟨#[]⟩ : ByteArray) ++ strB (Lib.decDigits a) ++ (⟨#[46]⟩ : ByteArray) ++ strB (Lib.decDigits b)) := Lib.hid (by
    rw [decN_c m a b c d ha hb hc hd h h2, Lib.decDigits_one (i := b) (by omega), show (⟨#[46]⟩ : ByteArray) = strB [46] from rfl, show (⟨#[]⟩ : ByteArray) = strB [] from rfl]
    simp only [strB_append, List.append_assoc, List.cons_append, List.nil_append])
  rw [e1.out]
  have cA := fun W => fnumber_any W a (by omega)
  have cB := fun W => fnumber_any W b (by omega)
  have cC := fun W => fnumber_any W c (by omega)
  have cD := fun W => fnumber_any W d (by omega)
  have za : (strB (Lib.decDigits a)).size ≤ 20 := by rw [strB_size]; have := decDigits_15 a (by omega); omega
  have zb : (strB (Lib.decDigits b)).size ≤ 20 := by rw [strB_size]; have := decDigits_15 b (by omega); omega
  have zc : (strB (Lib.decDigits c)).size ≤ 20 := by rw [strB_size]; have := decDigits_15 c (by omega); omega
  have zd : (strB (Lib.decDigits d)).size ≤ 20 := by rw [strB_size]; have := decDigits_15 d (by omega); omega
  obtain ⟨f, hf⟩ : ∃ f, m % 100 = f := ⟨_, rfl⟩
  have qa : (m : Int) / 1000 = (a : Int) := by omega
  have qb : (m : Int) / 100 % 10 = (b : Int) := by omega
  have qc : (m : Int) / 10 % 10 = (c : Int) := by omega
  have qd : (m : Int) % 10 = (d : Int) := by omega
  have qf : (m : Int) % 100 = (f : Int) := by omega
  have tf : f = 0 := by omega
  have td : d = 0 := by omega
  have hd0 : decide ((m : Int) < 0) = false := by simp
  clear hr e1 ha hb hc hd hf
  generalize strB (Lib.decDigits a) = A at *
  generalize strB (Lib.decDigits b) = B at *
  generalize strB (Lib.decDigits c) = C at *
  generalize strB (Lib.decDigits d) = D at *
  clear h h2
  subst td
  subst tf
  go_enter Tryd.func11, Tryd.ntmps11
  go_wp2_with fail
  refine (cR _).mono ?_
  rintro e w1 ⟨rfl, hb1⟩
  obtain ⟨p0, p1, p2⟩ := bare_cells w 2 ((m : Int)) s w1 (by simpa using hb1)
  go_wp2_with fail
  refine (cA _).mono ?_
  rintro e w' ⟨rfl, rfl⟩
  go_wp2_with fail
  refine (cB _).mono ?_
  rintro e w' ⟨rfl, rfl⟩
  go_wp2_with fail
  go_ret2
  exact ⟨by simp, hb0.trans (hb1.mono hb0.size)⟩

set_option maxRecDepth 100000 in
set_option maxHeartbeats 1000000 in
theorem fdec_na (m a b c d : Nat) (s : ByteArray) (w : World) (hs : s.size ≤ 100000) (hr : rightL 2 (-(m : Int)) s.data.toList = true) (hm : m < 1000000000000000) (hm0 : 0 < m) (ha : m / 1000 = a) (hb : m / 100 % 10 = b) (hc : m / 10 % 10 = c) (hd : m % 10 = d) (h : 0 < d) :
    Calls Tryd.prog 11 #[.agg #[.int .i64 2, .int .i64 (-(m : Int)), .string s]] w (txtPost (.tuple #[.string (strB (45 :: decN m)), .int .i64 0]) w) := by
  have cR := fun W => fright_any 2 (-(m : Int)) s W hs
  rw [hr] at cR
  have hb0 := bare_below w (.cells #[.int .i64 2, .int .i64 (-(m : Int)), .string s] 23)
  have e1 : Hid (strB (45 :: decN m) = (⟨#[45]⟩ : ByteArray) ++ strB (Lib.decDigits a) ++ (⟨#[46]⟩ : ByteArray) ++ strB (Lib.decDigits b) ++ strB (Lib.decDigits c) ++ strB (Lib.decDigits d)) := Lib.hid (by
    rw [decN_a m a b c d ha hb hc hd h, Lib.decDigits_one (i := b) (by omega), Lib.decDigits_one (i := c) (by omega), Lib.decDigits_one (i := d) (by omega), show (⟨#[46]⟩ : ByteArray) = strB [46] from rfl, show (⟨#[45]⟩ : ByteArray) = strB [45] from rfl]
    simp only [strB_append, List.append_assoc, List.cons_append, List.nil_append])
  rw [e1.out]
  have cA := fun W => fnumber_any W a (by omega)
  have cB := fun W => fnumber_any W b (by omega)
  have cC := fun W => fnumber_any W c (by omega)
  have cD := fun W => fnumber_any W d (by omega)
  have za : (strB (Lib.decDigits a)).size ≤ 20 := by rw [strB_size]; have := decDigits_15 a (by omega); omega
  have zb : (strB (Lib.decDigits b)).size ≤ 20 := by rw [strB_size]; have := decDigits_15 b (by omega); omega
  have zc : (strB (Lib.decDigits c)).size ≤ 20 := by rw [strB_size]; have := decDigits_15 c (by omega); omega
  have zd : (strB (Lib.decDigits d)).size ≤ 20 := by rw [strB_size]; have := decDigits_15 d (by omega); omega
  obtain ⟨f, hf⟩ : ∃ f, m % 100 = f := ⟨_, rfl⟩
  have qa : (m : Int) / 1000 = (a : Int) := by omega
  have qb : (m : Int) / 100 % 10 = (b : Int) := by omega
  have qc : (m : Int) / 10 % 10 = (c : Int) := by omega
  have qd : (m : Int) % 10 = (d : Int) := by omega
  have qf : (m : Int) % 100 = (f : Int) := by omega
  have tf : 0 < f := by omega
  have td : 0 < d := by omega
  have hd0 : decide (-(m : Int) < 0) = true := by simp; omega
  clear hr e1 ha hb hc hd hf
  generalize strB (Lib.decDigits a) = A at *
  generalize strB (Lib.decDigits b) = B at *
  generalize strB (Lib.decDigits c) = C at *
  generalize strB (Lib.decDigits d) = D at *
  go_enter Tryd.func11, Tryd.ntmps11
  go_wp2_with fail
  refine (cR _).mono ?_
  rintro e w1 ⟨rfl, hb1⟩
  obtain ⟨p0, p1, p2⟩ := bare_cells w 2 (-(m : Int)) s w1 (by simpa using hb1)
  go_wp2_with fail
  refine (cA _).mono ?_
  rintro e w' ⟨rfl, rfl⟩
  go_wp2_with fail
  refine (cB _).mono ?_
  rintro e w' ⟨rfl, rfl⟩
  go_wp2_with fail
  refine (cC _).mono ?_
  rintro e w' ⟨rfl, rfl⟩
  go_wp2_with fail
  refine (cD _).mono ?_
  rintro e w' ⟨rfl, rfl⟩
  go_wp2_with fail
  go_ret2
  exact ⟨by simp, hb0.trans (hb1.mono hb0.size)⟩

set_option maxRecDepth 100000 in
set_option maxHeartbeats 1000000 in
theorem fdec_nb (m a b c d : Nat) (s : ByteArray) (w : World) (hs : s.size ≤ 100000) (hr : rightL 2 (-(m : Int)) s.data.toList = true) (hm : m < 1000000000000000) (hm0 : 0 < m) (ha : m / 1000 = a) (hb : m / 100 % 10 = b) (hc : m / 10 % 10 = c) (hd : m % 10 = d) (h : d = 0) (h2 : 0 < c) :
    Calls Tryd.prog 11 #[.agg #[.int .i64 2, .int .i64 (-(m : Int)), .string s]] w (txtPost (.tuple #[.string (strB (45 :: decN m)), .int .i64 0]) w) := by
  have cR := fun W => fright_any 2 (-(m : Int)) s W hs
  rw [hr] at cR
  have hb0 := bare_below w (.cells #[.int .i64 2, .int .i64 (-(m : Int)), .string s] 23)
  have e1 : Hid (strB (45 :: decN m) = (⟨#[45]⟩ : ByteArray) ++ strB (Lib.decDigits a) ++ (⟨#[46]⟩ : ByteArray) ++ strB (Lib.decDigits b) ++ strB (Lib.decDigits c)) := Lib.hid (by
    rw [decN_b m a b c d ha hb hc hd h h2, Lib.decDigits_one (i := b) (by omega), Lib.decDigits_one (i := c) (by omega), show (⟨#[46]⟩ : ByteArray) = strB [46] from rfl, show (⟨#[45]⟩ : ByteArray) = strB [45] from rfl]
    simp only [strB_append, List.append_assoc, List.cons_append, List.nil_append])
  rw [e1.out]
  have cA := fun W => fnumber_any W a (by omega)
  have cB := fun W => fnumber_any W b (by omega)
  have cC := fun W => fnumber_any W c (by omega)
  have cD := fun W => fnumber_any W d (by omega)
  have za : (strB (Lib.decDigits a)).size ≤ 20 := by rw [strB_size]; have := decDigits_15 a (by omega); omega
  have zb : (strB (Lib.decDigits b)).size ≤ 20 := by rw [strB_size]; have := decDigits_15 b (by omega); omega
  have zc : (strB (Lib.decDigits c)).size ≤ 20 := by rw [strB_size]; have := decDigits_15 c (by omega); omega
  have zd : (strB (Lib.decDigits d)).size ≤ 20 := by rw [strB_size]; have := decDigits_15 d (by omega); omega
  obtain ⟨f, hf⟩ : ∃ f, m % 100 = f := ⟨_, rfl⟩
  have qa : (m : Int) / 1000 = (a : Int) := by omega
  have qb : (m : Int) / 100 % 10 = (b : Int) := by omega
  have qc : (m : Int) / 10 % 10 = (c : Int) := by omega
  have qd : (m : Int) % 10 = (d : Int) := by omega
  have qf : (m : Int) % 100 = (f : Int) := by omega
  have tf : 0 < f := by omega
  have td : d = 0 := by omega
  have hd0 : decide (-(m : Int) < 0) = true := by simp; omega
  clear hr e1 ha hb hc hd hf
  generalize strB (Lib.decDigits a) = A at *
  generalize strB (Lib.decDigits b) = B at *
  generalize strB (Lib.decDigits c) = C at *
  generalize strB (Lib.decDigits d) = D at *
  clear h
  subst td
  go_enter Tryd.func11, Tryd.ntmps11
  go_wp2_with fail
  refine (cR _).mono ?_
  rintro e w1 ⟨rfl, hb1⟩
  obtain ⟨p0, p1, p2⟩ := bare_cells w 2 (-(m : Int)) s w1 (by simpa using hb1)
  go_wp2_with fail
  refine (cA _).mono ?_
  rintro e w' ⟨rfl, rfl⟩
  go_wp2_with fail
  refine (cB _).mono ?_
  rintro e w' ⟨rfl, rfl⟩
  go_wp2_with fail
  refine (cC _).mono ?_
  rintro e w' ⟨rfl, rfl⟩
  go_wp2_with fail
  go_ret2
  exact ⟨by simp, hb0.trans (hb1.mono hb0.size)⟩

set_option maxRecDepth 100000 in
set_option maxHeartbeats 1000000 in
theorem fdec_nc (m a b c d : Nat) (s : ByteArray) (w : World) (hs : s.size ≤ 100000) (hr : rightL 2 (-(m : Int)) s.data.toList = true) (hm : m < 1000000000000000) (hm0 : 0 < m) (ha : m / 1000 = a) (hb : m / 100 % 10 = b) (hc : m / 10 % 10 = c) (hd : m % 10 = d) (h : d = 0) (h2 : c = 0) :
    Calls Tryd.prog 11 #[.agg #[.int .i64 2, .int .i64 (-(m : Int)), .string s]] w (txtPost (.tuple #[.string (strB (45 :: decN m)), .int .i64 0]) w) := by
  have cR := fun W => fright_any 2 (-(m : Int)) s W hs
  rw [hr] at cR
  have hb0 := bare_below w (.cells #[.int .i64 2, .int .i64 (-(m : Int)), .string s] 23)
  have e1 : Hid (strB (45 :: decN m) = (⟨#[45]⟩ : ByteArray) ++ strB (Lib.decDigits a) ++ (⟨#[46]⟩ : ByteArray) ++ strB (Lib.decDigits b)) := Lib.hid (by
    rw [decN_c m a b c d ha hb hc hd h h2, Lib.decDigits_one (i := b) (by omega), show (⟨#[46]⟩ : ByteArray) = strB [46] from rfl, show (⟨#[45]⟩ : ByteArray) = strB [45] from rfl]
    simp only [strB_append, List.append_assoc, List.cons_append, List.nil_append])
  rw [e1.out]
  have cA := fun W => fnumber_any W a (by omega)
  have cB := fun W => fnumber_any W b (by omega)
  have cC := fun W => fnumber_any W c (by omega)
  have cD := fun W => fnumber_any W d (by omega)
  have za : (strB (Lib.decDigits a)).size ≤ 20 := by rw [strB_size]; have := decDigits_15 a (by omega); omega
  have zb : (strB (Lib.decDigits b)).size ≤ 20 := by rw [strB_size]; have := decDigits_15 b (by omega); omega
  have zc : (strB (Lib.decDigits c)).size ≤ 20 := by rw [strB_size]; have := decDigits_15 c (by omega); omega
  have zd : (strB (Lib.decDigits d)).size ≤ 20 := by rw [strB_size]; have := decDigits_15 d (by omega); omega
  obtain ⟨f, hf⟩ : ∃ f, m % 100 = f := ⟨_, rfl⟩
  have qa : (m : Int) / 1000 = (a : Int) := by omega
  have qb : (m : Int) / 100 % 10 = (b : Int) := by omega
  have qc : (m : Int) / 10 % 10 = (c : Int) := by omega
  have qd : (m : Int) % 10 = (d : Int) := by omega
  have qf : (m : Int) % 100 = (f : Int) := by omega
  have tf : f = 0 := by omega
  have td : d = 0 := by omega
  have hd0 : decide (-(m : Int) < 0) = true := by simp; omega
  clear hr e1 ha hb hc hd hf
  generalize strB (Lib.decDigits a) = A at *
  generalize strB (Lib.decDigits b) = B at *
  generalize strB (Lib.decDigits c) = C at *
  generalize strB (Lib.decDigits d) = D at *
  clear h h2
  subst td
  subst tf
  go_enter Tryd.func11, Tryd.ntmps11
  go_wp2_with fail
  refine (cR _).mono ?_
  rintro e w1 ⟨rfl, hb1⟩
  obtain ⟨p0, p1, p2⟩ := bare_cells w 2 (-(m : Int)) s w1 (by simpa using hb1)
  go_wp2_with fail
  refine (cA _).mono ?_
  rintro e w' ⟨rfl, rfl⟩
  go_wp2_with fail
  refine (cB _).mono ?_
  rintro e w' ⟨rfl, rfl⟩
  go_wp2_with fail
  go_ret2
  exact ⟨by simp, hb0.trans (hb1.mono hb0.size)⟩

theorem fprint_dec (n : Int) (s : ByteArray) (w : World) (hs : s.size ≤ 100000) (hr : rightL 2 n s.data.toList = true) (g0 : -1000000000000000 < n) (g1 : n < 1000000000000000) :
    Calls Tryd.prog 11 #[.agg #[.int .i64 2, .int .i64 n, .string s]] w (txtPost (textV (some (decT n))) w) := by
  obtain ⟨m, hm⟩ : ∃ m : Nat, n.natAbs = m := ⟨_, rfl⟩
  by_cases hn : n < 0
  · have e1 : decT n = 45 :: decN m := by rw [decT, if_pos hn, hm]
    rw [e1]
    obtain rfl : n = -(m : Int) := by omega
    by_cases h1 : 0 < m % 10
    · exact fdec_na m _ _ _ _ s w hs hr (by omega) (by omega) rfl rfl rfl rfl h1
    · by_cases h2 : 0 < m / 10 % 10
      · exact fdec_nb m _ _ _ _ s w hs hr (by omega) (by omega) rfl rfl rfl rfl (by omega) h2
      · exact fdec_nc m _ _ _ _ s w hs hr (by omega) (by omega) rfl rfl rfl rfl (by omega) (by omega)
  · have e1 : decT n = decN m := by rw [decT, if_neg hn, hm]
    rw [e1]
    obtain rfl : n = (m : Int) := by omega
    by_cases h1 : 0 < m % 10
    · exact fdec_pa m _ _ _ _ s w hs hr (by omega) rfl rfl rfl rfl h1
    · by_cases h2 : 0 < m / 10 % 10
      · exact fdec_pb m _ _ _ _ s w hs hr (by omega) rfl rfl rfl rfl (by omega) h2
      · exact fdec_pc m _ _ _ _ s w hs hr (by omega) rfl rfl rfl rfl (by omega) (by omega)

theorem fprint_any (k n : Int) (s : ByteArray) (w : World) (hs : s.size ≤ 100000) :
    Calls Tryd.prog 11 #[.agg #[.int .i64 k, .int .i64 n, .string s]] w (txtPost (textV (printL k n s.data.toList)) w) := by
  cases hr : rightL k n s.data.toList
  · rw [printL, hr, if_neg (by simp)]
    exact fprint_none k n s w hs hr
  · rw [printL, hr, if_pos rfl]
    rcases right_kind k n _ hr with ⟨rfl | rfl, _, g0, g1⟩ | ⟨rfl, _, g0⟩ | ⟨rfl, rfl, _⟩ | ⟨rfl, rfl, _, _⟩ | ⟨rfl, rfl⟩
    · exact fprint_int n s w hs hr g0 g1
    · exact fprint_dec n s w hs hr g0 g1
    · exact fprint_bool n s w hs hr g0
    · exact fprint_str s w hs hr
    · exact fprint_tok s w hs hr
    · exact fprint_bytes s w hs hr

end Go.Proofs.YtopfallmpbjbaaaDoor
