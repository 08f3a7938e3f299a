/- Plain arithmetic of digits by base ten and by base sixteen: what they stand for, noughts ahead struck, which of two is above the other; no condition. -/
import Derived.Lib.Strings
import Derived.Laws.Strings
namespace Go.Proofs.YtbafjilhopgjmaaDoor.Nu
set_option linter.unusedSimpArgs false
set_option linter.unusedVariables false

def hv (c : Int) : Int := if 48 ≤ c ∧ c ≤ 57 then c - 48 else if 97 ≤ c ∧ c ≤ 102 then c - 87 else if 65 ≤ c ∧ c ≤ 70 then c - 55 else -1
def hvU (b : UInt8) : Int := hv (b.toNat : Int)
def okD (B : Int) (b : UInt8) : Bool := decide (0 ≤ hvU b ∧ hvU b < B)
def val (B : Int) (l : List UInt8) : Int := l.foldl (fun v b => v * B + hvU b) 0
theorem hv_bd (c : Int) : -1 ≤ hv c ∧ hv c ≤ 15 := by
  unfold hv
  split
  · omega
  · split
    · omega
    · split <;> omega
theorem okD_bd {B : Int} {b : UInt8} (h : okD B b = true) : 0 ≤ hvU b ∧ hvU b < B := of_decide_eq_true h
theorem okD_ten (b : UInt8) : okD 10 b = decide (48 ≤ (b.toNat : Int) ∧ (b.toNat : Int) ≤ 57) := by
  unfold okD hvU
  rw [Bool.eq_iff_iff]
  simp only [decide_eq_true_eq]
  unfold hv
  constructor
  · intro h
    split at h
    · assumption
    · split at h
      · omega
      · split at h <;> omega
  · intro h
    rw [if_pos h]
    omega
theorem val_nil (B : Int) : val B [] = 0 := rfl
theorem val_snoc (B : Int) (l : List UInt8) (b : UInt8) : val B (l ++ [b]) = val B l * B + hvU b := by unfold val; rw [List.foldl_append]; rfl
theorem val_from (B : Int) (l : List UInt8) : ∀ v, l.foldl (fun v b => v * B + hvU b) v = v * B ^ l.length + val B l := by
  induction l with
  | nil => intro v; simp [val]
  | cons b l ih =>
    intro v
    have e : val B (b :: l) = hvU b * B ^ l.length + val B l := by
      show l.foldl (fun v b => v * B + hvU b) (0 * B + hvU b) = _
      rw [ih, Int.zero_mul, Int.zero_add]
    rw [e, List.foldl_cons, ih, List.length_cons, Int.pow_succ, Int.add_mul, Int.mul_assoc, Int.mul_comm B, Int.add_assoc]
theorem val_cons (B : Int) (b : UInt8) (l : List UInt8) : val B (b :: l) = hvU b * B ^ l.length + val B l := by
  show l.foldl (fun v b => v * B + hvU b) (0 * B + hvU b) = _
  rw [val_from, Int.zero_mul, Int.zero_add]
theorem pow_pos' {B : Int} (hB : B = 10 ∨ B = 16) (n : Nat) : 1 ≤ B ^ n := by
  induction n with
  | zero => simp
  | succ n ih => rw [Int.pow_succ]; rcases hB with rfl | rfl <;> omega
theorem pow_mono {B : Int} (hB : B = 10 ∨ B = 16) {n m : Nat} (h : n ≤ m) : B ^ n ≤ B ^ m := by
  induction m with
  | zero => obtain rfl : n = 0 := by omega
            exact Int.le_refl _
  | succ m ih =>
    by_cases e : n = m + 1
    · subst e; exact Int.le_refl _
    · have := ih (by omega)
      have h1 := pow_pos' hB m
      rw [Int.pow_succ]; rcases hB with rfl | rfl <;> omega
theorem val_bd {B : Int} (hB : B = 10 ∨ B = 16) (l : List UInt8) (h : l.all (okD B) = true) : 0 ≤ val B l ∧ val B l < B ^ l.length := by
  induction l with
  | nil => simp [val]
  | cons b l ih =>
    rw [List.all_cons, Bool.and_eq_true] at h
    obtain ⟨i1, i2⟩ := ih h.2
    obtain ⟨b1, b2⟩ := okD_bd h.1
    have h1 := pow_pos' hB l.length
    rw [val_cons, List.length_cons, Int.pow_succ]
    have m0 : 0 ≤ hvU b * B ^ l.length := Int.mul_nonneg b1 (by omega)
    have m1 : (hvU b + 1) * B ^ l.length ≤ B * B ^ l.length := Int.mul_le_mul_of_nonneg_right (by omega) (by omega)
    rw [Int.add_mul, Int.one_mul, Int.mul_comm B] at m1
    omega
theorem val_head {B : Int} (hB : B = 10 ∨ B = 16) (b : UInt8) (l : List UInt8) (h : (b :: l).all (okD B) = true) (hb : 1 ≤ hvU b) : B ^ l.length ≤ val B (b :: l) := by
  rw [List.all_cons, Bool.and_eq_true] at h
  have h1 := pow_pos' hB l.length
  have h2 := (val_bd hB l h.2).1
  rw [val_cons]
  have m1 : 1 * B ^ l.length ≤ hvU b * B ^ l.length := Int.mul_le_mul_of_nonneg_right hb (by omega)
  rw [Int.one_mul] at m1
  omega
theorem val_take_le {B : Int} (hB : B = 10 ∨ B = 16) (l : List UInt8) (h : l.all (okD B) = true) (k : Nat) : val B (l.take k) ≤ val B l := by
  have e : val B l = val B (l.take k) * B ^ (l.drop k).length + val B (l.drop k) := by
    have := val_from B (l.drop k) (val B (l.take k))
    rw [← this]
    show val B l = (l.drop k).foldl _ ((l.take k).foldl _ 0)
    rw [← List.foldl_append, List.take_append_drop]; rfl
  have h1 : (l.take k).all (okD B) = true := List.all_eq_true.2 fun x hx => List.all_eq_true.1 h x (List.mem_of_mem_take hx)
  have h2 : (l.drop k).all (okD B) = true := List.all_eq_true.2 fun x hx => List.all_eq_true.1 h x (List.mem_of_mem_drop hx)
  have a := (val_bd hB _ h1).1
  have b := (val_bd hB _ h2).1
  have p := pow_pos' hB (l.drop k).length
  have m1 : val B (l.take k) * 1 ≤ val B (l.take k) * B ^ (l.drop k).length := Int.mul_le_mul_of_nonneg_left p a
  rw [Int.mul_one] at m1
  omega

/-- without noughts ahead; one stays -/
def stripL : List UInt8 → List UInt8
  | [] => []
  | [b] => [b]
  | b :: c :: l => if b = 48 then stripL (c :: l) else b :: c :: l
theorem hvU_48 : hvU 48 = 0 := by decide
theorem strip_val (B : Int) : ∀ l, val B (stripL l) = val B l
  | [] => rfl
  | [b] => rfl
  | b :: c :: l => by
    unfold stripL
    split
    · rename_i e
      rw [strip_val B (c :: l), val_cons B b, e, hvU_48, Int.zero_mul, Int.zero_add]
    · rfl
theorem strip_all (p : UInt8 → Bool) : ∀ l, l.all p = true → (stripL l).all p = true
  | [], h => h
  | [b], h => h
  | b :: c :: l, h => by
    unfold stripL
    split
    · exact strip_all p (c :: l) (by rw [List.all_cons, Bool.and_eq_true] at h; exact h.2)
    · exact h
theorem strip_len : ∀ l, (stripL l).length ≤ l.length ∧ (l ≠ [] → 1 ≤ (stripL l).length)
  | [] => ⟨Nat.le_refl _, fun h => absurd rfl h⟩
  | [b] => ⟨Nat.le_refl _, fun _ => Nat.le_refl _⟩
  | b :: c :: l => by
    unfold stripL
    split
    · have := strip_len (c :: l)
      refine ⟨?_, fun _ => this.2 (by simp)⟩
      have h := this.1
      simp only [List.length_cons] at h ⊢
      omega
    · simp
theorem strip_head : ∀ l b t, stripL l = b :: t → t ≠ [] → b ≠ 48
  | [], b, t, h, ht => by cases h
  | [c], b, t, h, ht => by cases h; exact absurd rfl ht
  | c :: d :: l, b, t, h, ht => by
    unfold stripL at h
    split at h
    · exact strip_head (d :: l) b t h ht
    · cases h; assumption
theorem strip_id : ∀ l, (∀ b c t, l = b :: c :: t → b ≠ 48) → stripL l = l
  | [], _ => rfl
  | [b], _ => rfl
  | b :: c :: l, h => by unfold stripL; rw [if_neg (h b c l rfl)]
theorem hv_pos {B : Int} {b : UInt8} (h : okD B b = true) (hn : b ≠ 48) : 1 ≤ hvU b := by
  have h0 := (okD_bd h).1
  have : hvU b ≠ 0 := by
    intro e
    apply hn
    apply UInt8.toNat_inj.1
    show b.toNat = 48
    unfold hvU hv at e
    split at e
    · omega
    · split at e
      · omega
      · split at e <;> omega
  omega
theorem strip_big {B : Int} (hB : B = 10 ∨ B = 16) (l : List UInt8) (h : l.all (okD B) = true) (n : Nat) (hn : n < (stripL l).length) (h1 : 1 ≤ n) : B ^ n ≤ val B l := by
  have ha := strip_all _ l h
  have he := strip_val B l
  cases e : stripL l with
  | nil => rw [e] at hn; simp at hn
  | cons b t =>
    rw [e] at hn ha he
    have ht : t ≠ [] := fun e2 => by subst e2; simp at hn; omega
    have hb : okD B b = true := by rw [List.all_cons, Bool.and_eq_true] at ha; exact ha.1
    have := val_head hB b t ha (hv_pos hb (strip_head l b t e ht))
    have hm := pow_mono hB (n := n) (m := t.length) (by simp at hn; omega)
    omega
theorem strip_small {B : Int} (hB : B = 10 ∨ B = 16) (l : List UInt8) (h : l.all (okD B) = true) : val B l < B ^ (stripL l).length := by
  have := (val_bd hB _ (strip_all _ l h)).2
  rwa [strip_val] at this

/-- texts of digits of one length: their order is that of what they stand for -/
theorem lex_all : ∀ x y : List UInt8, x.length = y.length → x.all (okD 10) = true → y.all (okD 10) = true → Op.bytesLess x y = decide (val 10 x < val 10 y) ∧ (x = y ↔ val 10 x = val 10 y)
  | [], [], _, _, _ => ⟨by simp [Op.bytesLess, val], by simp⟩
  | [], _ :: _, h, _, _ => by simp at h
  | _ :: _, [], h, _, _ => by simp at h
  | a :: x, b :: y, h, hx, hy => by
    rw [List.all_cons, Bool.and_eq_true] at hx hy
    have hl : x.length = y.length := by simpa using h
    obtain ⟨i1, i2⟩ := lex_all x y hl hx.2 hy.2
    have v1 := val_bd (.inl rfl) x hx.2
    have v2 := val_bd (.inl rfl) y hy.2
    rw [val_cons, val_cons, hl]
    rw [hl] at v1
    have p := pow_pos' (B := 10) (.inl rfl) y.length
    have ha := okD_ten a
    have hb := okD_ten b
    rw [hx.1] at ha
    rw [hy.1] at hb
    have ha := of_decide_eq_true ha.symm
    have hb := of_decide_eq_true hb.symm
    have ea : hvU a = (a.toNat : Int) - 48 := by unfold hvU hv; rw [if_pos ha]
    have eb : hvU b = (b.toNat : Int) - 48 := by unfold hvU hv; rw [if_pos hb]
    rw [ea, eb]
    revert i1 i2 v1 v2 p
    generalize val 10 x = X
    generalize val 10 y = Y
    generalize (10 : Int) ^ y.length = P
    intro i1 i2 v1 v2 p
    by_cases g1 : a < b
    · have g : a.toNat < b.toNat := UInt8.lt_iff_toNat_lt.1 g1
      have hab : ¬ a = b := fun e => by subst e; omega
      have m1 : ((a.toNat : Int) - 48 + 1) * P ≤ ((b.toNat : Int) - 48) * P := Int.mul_le_mul_of_nonneg_right (by omega) (by omega)
      rw [Int.add_mul, Int.one_mul] at m1
      refine ⟨?_, ?_⟩
      · have : decide (((a.toNat : Int) - 48) * P + X < ((b.toNat : Int) - 48) * P + Y) = true := decide_eq_true (by omega)
        rw [this]
        simp [Op.bytesLess, g1]
      · constructor
        · intro e; injection e with e _; exact absurd e hab
        · intro e; omega
    · by_cases g2 : a = b
      · subst g2
        refine ⟨?_, ?_⟩
        · have : decide (((a.toNat : Int) - 48) * P + X < ((a.toNat : Int) - 48) * P + Y) = decide (X < Y) := by
            rw [Bool.eq_iff_iff]; simp only [decide_eq_true_eq]; omega
          rw [this, ← i1]
          simp [Op.bytesLess, g1]
        · constructor
          · intro e; injection e with _ e; rw [i2.1 e]
          · intro e; rw [i2.2 (by omega)]
      · have g : b.toNat < a.toNat := by
          have h1 : ¬ a.toNat < b.toNat := fun h => g1 (UInt8.lt_iff_toNat_lt.2 h)
          have h2 : ¬ a.toNat = b.toNat := fun h => g2 (UInt8.toNat_inj.1 h)
          omega
        have m1 : ((b.toNat : Int) - 48 + 1) * P ≤ ((a.toNat : Int) - 48) * P := Int.mul_le_mul_of_nonneg_right (by omega) (by omega)
        rw [Int.add_mul, Int.one_mul] at m1
        refine ⟨?_, ?_⟩
        · have : decide (((a.toNat : Int) - 48) * P + X < ((b.toNat : Int) - 48) * P + Y) = false := decide_eq_false (by omega)
          rw [this]
          simp [Op.bytesLess, g1, g2]
        · constructor
          · intro e; injection e with e _; exact absurd e g2
          · intro e; omega
def aboveB (a b : List UInt8) : Bool := if (stripL a).length = (stripL b).length then !(Op.bytesLess (stripL a) (stripL b) || stripL a == stripL b) else decide ((stripL b).length < (stripL a).length)
theorem above_eq (a b : List UInt8) (ha : a.all (okD 10) = true) (hb : b.all (okD 10) = true) (na : a ≠ []) (nb : b ≠ []) : aboveB a b = decide (val 10 b < val 10 a) := by
  unfold aboveB
  have la := (strip_len a).2 na
  have lb := (strip_len b).2 nb
  have sa := strip_small (.inl rfl) a ha
  have sb := strip_small (.inl rfl) b hb
  split
  · rename_i e
    obtain ⟨h1, h2⟩ := lex_all (stripL a) (stripL b) e (strip_all _ a ha) (strip_all _ b hb)
    rw [strip_val, strip_val] at h1 h2
    rw [h1]
    rw [Bool.eq_iff_iff]
    simp only [Bool.not_eq_true', Bool.or_eq_false_iff, decide_eq_false_iff_not, beq_eq_false_iff_ne, ne_eq, decide_eq_true_eq, h2]
    omega
  · rename_i e
    by_cases g : (stripL b).length < (stripL a).length
    · have := strip_big (.inl rfl) a ha _ g lb
      rw [decide_eq_true g, decide_eq_true (by omega)]
    · have := strip_big (.inl rfl) b hb (stripL a).length (by omega) la
      rw [decide_eq_false g, decide_eq_false (by omega)]
end Go.Proofs.YtbafjilhopgjmaaDoor.Nu
