/- Plain arithmetic of dates and of digits: how many days a year and a month have, how many days stand ahead of a date, that a date is told by that number; a number's last digits and what digits stand for; no condition. -/
import Init.Omega
namespace Go.Proofs.Ytljcbnjidjcagaa
set_option linter.unusedSimpArgs false
set_option linter.unusedVariables false

def lp (y : Int) : Bool := decide (y % 4 = 0 ∧ (¬ y % 100 = 0 ∨ y % 400 = 0))
def yl (y : Int) : Int := if lp y then 366 else 365
def len (y m : Int) : Int := if m = 2 then (if lp y then 29 else 28) else if m = 4 ∨ m = 6 ∨ m = 9 ∨ m = 11 then 30 else 31
def lps (y : Int) : Int := y / 4 - y / 100 + y / 400
def ah (y : Int) : Int := 365 * (y - 1970) + lps (y - 1) - 477
def cum (y : Int) : Nat → Int
  | 0 => 0
  | n + 1 => cum y n + len y ((n : Int) + 1)
def dayN (y m d : Int) : Int := ah y + cum y (m - 1).toNat + (d - 1)
def vldB (y m d : Int) : Bool := decide (1970 ≤ y ∧ y ≤ 9999 ∧ 1 ≤ m ∧ m ≤ 12 ∧ 1 ≤ d ∧ d ≤ len y m)

theorem yl_two (y : Int) : yl y = 365 ∨ yl y = 366 := by unfold yl; split <;> simp
theorem len_bd (y m : Int) : 28 ≤ len y m ∧ len y m ≤ 31 := by
  unfold len; split
  · split <;> omega
  · split <;> omega
theorem ah_succ (y : Int) : ah (y + 1) = ah y + yl y := by
  unfold ah yl lps lp
  by_cases h : y % 4 = 0 ∧ (¬ y % 100 = 0 ∨ y % 400 = 0)
  · rw [decide_eq_true h, if_pos rfl]
    omega
  · rw [decide_eq_false h]
    simp only [Bool.false_eq_true, if_false]
    omega
theorem ah_1970 : ah 1970 = 0 := by decide
theorem ah_10000 : ah 10000 = 2932897 := by decide
theorem ah_mono (a b : Int) (h : a ≤ b) : ah a ≤ ah b := by unfold ah lps; omega
theorem ah_lt (a b : Int) (h : a < b) : ah (a + 1) ≤ ah b := ah_mono _ _ (by omega)
theorem ah_lo (y : Int) (h : 1970 ≤ y) : 365 * (y - 1970) ≤ ah y := by unfold ah lps; omega
theorem ah_bd (y : Int) (h0 : 1970 ≤ y) (h1 : y ≤ 10100) : 0 ≤ ah y ∧ ah y ≤ 3000000 := by unfold ah lps; omega
theorem lps_bd (y : Int) (h0 : 0 ≤ y) (h1 : y ≤ 10100) : 0 ≤ lps y ∧ lps y ≤ 10000 := by unfold lps; omega

theorem cum_mono (y : Int) (n k : Nat) (h : n ≤ k) : cum y n ≤ cum y k := by
  induction k with
  | zero => obtain rfl : n = 0 := by omega
            exact Int.le_refl _
  | succ k ih =>
    by_cases e : n = k + 1
    · subst e; exact Int.le_refl _
    · have := ih (by omega)
      have h2 := (len_bd y ((k : Int) + 1)).1
      show cum y n ≤ cum y k + len y ((k : Int) + 1)
      omega
theorem cum_12 (y : Int) : cum y 12 = yl y := by
  unfold yl
  cases h : lp y <;> simp [cum, len, h]
theorem cum_bd (y : Int) (n : Nat) : 0 ≤ cum y n ∧ cum y n ≤ 31 * n := by
  induction n with
  | zero => simp [cum]
  | succ n ih =>
    have := len_bd y ((n : Int) + 1)
    simp only [cum]
    omega
theorem cum_lt (y : Int) (n k : Nat) (d : Int) (h : n < k) (hd : d < len y ((n : Int) + 1)) : cum y n + d < cum y k := by
  have h1 := cum_mono y (n + 1) k (by omega)
  simp only [cum] at h1
  omega

theorem vld_of {y m d : Int} (h : vldB y m d = true) : 1970 ≤ y ∧ y ≤ 9999 ∧ 1 ≤ m ∧ m ≤ 12 ∧ 1 ≤ d ∧ d ≤ len y m := of_decide_eq_true h
theorem vld_mk {y m d : Int} (h : 1970 ≤ y ∧ y ≤ 9999 ∧ 1 ≤ m ∧ m ≤ 12 ∧ 1 ≤ d ∧ d ≤ len y m) : vldB y m d = true := decide_eq_true h
theorem vld_not {y m d : Int} (h : ¬ (1970 ≤ y ∧ y ≤ 9999 ∧ 1 ≤ m ∧ m ≤ 12 ∧ 1 ≤ d ∧ d ≤ len y m)) : vldB y m d = false := decide_eq_false h
theorem day_in {y m d : Int} (h : vldB y m d = true) : ah y ≤ dayN y m d ∧ dayN y m d < ah (y + 1) := by
  obtain ⟨h1, h2, h3, h4, h5, h6⟩ := vld_of h
  have e : (((m - 1).toNat : Nat) : Int) + 1 = m := by omega
  have hc := cum_lt y (m - 1).toNat 12 (d - 1) (by omega) (by rw [e]; omega)
  have h0 := (cum_bd y (m - 1).toNat).1
  rw [cum_12] at hc
  rw [ah_succ]
  unfold dayN
  omega
theorem day_bd {y m d : Int} (h : vldB y m d = true) : 0 ≤ dayN y m d ∧ dayN y m d < 2932897 := by
  have h1 := day_in h
  have h2 := vld_of h
  have a := ah_mono 1970 y h2.1
  have b := ah_mono (y + 1) 10000 (by omega)
  rw [ah_1970] at a
  rw [ah_10000] at b
  omega
/-- a date is told by how many days stand ahead of it -/
theorem day_inj {y m d y' m' d' : Int} (h : vldB y m d = true) (h' : vldB y' m' d' = true) (e : dayN y m d = dayN y' m' d') : y = y' ∧ m = m' ∧ d = d' := by
  have a := day_in h
  have a' := day_in h'
  have ey : y = y' := by
    rcases Int.lt_trichotomy y y' with g | g | g
    · have := ah_lt y y' g; omega
    · exact g
    · have := ah_lt y' y g; omega
  subst ey
  obtain ⟨h1, h2, h3, h4, h5, h6⟩ := vld_of h
  obtain ⟨_, _, g3, g4, g5, g6⟩ := vld_of h'
  have e1 : (((m - 1).toNat : Nat) : Int) + 1 = m := by omega
  have e2 : (((m' - 1).toNat : Nat) : Int) + 1 = m' := by omega
  have z1 := (cum_bd y (m - 1).toNat).1
  unfold dayN at e
  have em : m = m' := by
    rcases Int.lt_trichotomy m m' with g | g | g
    · have := cum_lt y (m - 1).toNat (m' - 1).toNat (d - 1) (by omega) (by rw [e1]; omega); omega
    · exact g
    · have := cum_lt y (m' - 1).toNat (m - 1).toNat (d' - 1) (by omega) (by rw [e2]; omega); omega
  subst em
  exact ⟨rfl, rfl, by omega⟩
/-- a later day's date is later -/
theorem day_lt {y m d y' m' d' : Int} (h : vldB y m d = true) (h' : vldB y' m' d' = true) (e : dayN y m d < dayN y' m' d') : y < y' ∨ (y = y' ∧ (m < m' ∨ (m = m' ∧ d < d'))) := by
  have a := day_in h
  have a' := day_in h'
  rcases Int.lt_trichotomy y y' with g | g | g
  · exact .inl g
  · subst g
    refine .inr ⟨rfl, ?_⟩
    obtain ⟨h1, h2, h3, h4, h5, h6⟩ := vld_of h
    obtain ⟨_, _, g3, g4, g5, g6⟩ := vld_of h'
    have e2 : (((m' - 1).toNat : Nat) : Int) + 1 = m' := by omega
    unfold dayN at e
    rcases Int.lt_trichotomy m m' with g | g | g
    · exact .inl g
    · subst g; exact .inr ⟨rfl, by omega⟩
    · have := cum_lt y (m' - 1).toNat (m - 1).toNat (d' - 1) (by omega) (by rw [e2]; omega); omega
  · have := ah_lt y' y g; omega

/-- a number's last digit as a byte, its last digits, and what digits stand for -/
def dig1 (n : Int) : UInt8 := UInt8.ofNat (48 + (n % 10).toNat)
def digs : Nat → Int → List UInt8
  | 0, _ => []
  | k + 1, n => digs k (n / 10) ++ [dig1 n]
def isD (b : UInt8) : Bool := decide (48 ≤ (b.toNat : Int) ∧ (b.toNat : Int) ≤ 57)
def numL (l : List UInt8) : Int := l.foldl (fun v b => 10 * v + ((b.toNat : Int) - 48)) 0
theorem dig1_nat (n : Int) : ((dig1 n).toNat : Int) = 48 + n % 10 := by
  unfold dig1
  have h0 := Int.emod_nonneg n (show (10 : Int) ≠ 0 by decide)
  have h1 := Int.emod_lt_of_pos n (show (0 : Int) < 10 by decide)
  have : (48 + (n % 10).toNat) % 256 = 48 + (n % 10).toNat := Nat.mod_eq_of_lt (by omega)
  simp [this]
  omega
theorem digs_len (k : Nat) : ∀ n, (digs k n).length = k := by
  induction k with
  | zero => intro n; rfl
  | succ k ih => intro n; simp [digs, ih]
theorem dig1_isD (n : Int) : isD (dig1 n) = true := by
  unfold isD
  rw [dig1_nat]
  exact decide_eq_true (by omega)
theorem digs_isD (k : Nat) : ∀ n, (digs k n).all isD = true := by
  induction k with
  | zero => intro n; rfl
  | succ k ih => intro n; simp only [digs, List.all_append, ih]; simp [dig1_isD]
theorem numL_nil : numL [] = 0 := rfl
theorem numL_snoc (l : List UInt8) (b : UInt8) : numL (l ++ [b]) = 10 * numL l + ((b.toNat : Int) - 48) := by unfold numL; rw [List.foldl_append]; rfl
theorem numL_digs (k : Nat) : ∀ n, 0 ≤ n → n < 10 ^ k → numL (digs k n) = n := by
  induction k with
  | zero => intro n h0 h1; simp at h1; simp [digs, numL]; omega
  | succ k ih =>
    intro n h0 h1
    simp only [digs, numL_snoc, dig1_nat]
    rw [ih (n / 10) (by omega) (by rw [Int.pow_succ] at h1; omega)]
    omega
theorem dig1_of (b : UInt8) (v : Int) (h : isD b = true) : dig1 (10 * v + ((b.toNat : Int) - 48)) = b := by
  have h2 := of_decide_eq_true h
  apply UInt8.toNat_inj.1
  have := dig1_nat (10 * v + ((b.toNat : Int) - 48))
  omega
theorem numL_take (l : List UInt8) (hd : l.all isD = true) : ∀ k, k ≤ l.length → digs k (numL (l.take k)) = l.take k ∧ 0 ≤ numL (l.take k) ∧ numL (l.take k) < 10 ^ k := by
  intro k
  induction k with
  | zero => intro _; simp [digs, numL]
  | succ k ih =>
    intro hk
    obtain ⟨i1, i2, i3⟩ := ih (by omega)
    have hb : isD (l[k]'(by omega)) = true := List.all_eq_true.1 hd _ (List.getElem_mem _)
    have h2 := of_decide_eq_true hb
    rw [List.take_succ_eq_append_getElem (by omega), numL_snoc]
    refine ⟨?_, by omega, by rw [Int.pow_succ]; omega⟩
    simp only [digs]
    rw [dig1_of _ _ hb]
    have e : (10 * numL (l.take k) + (((l[k]'(by omega)).toNat : Int) - 48)) / 10 = numL (l.take k) := by omega
    rw [e, i1]
theorem digs_numL (l : List UInt8) (hd : l.all isD = true) : digs l.length (numL l) = l := by
  have := (numL_take l hd l.length (Nat.le_refl _)).1
  rwa [List.take_length] at this
theorem numL_bd (l : List UInt8) (hd : l.all isD = true) : 0 ≤ numL l ∧ numL l < 10 ^ l.length := by
  have := (numL_take l hd l.length (Nat.le_refl _)).2
  rwa [List.take_length] at this
end Go.Proofs.Ytljcbnjidjcagaa
