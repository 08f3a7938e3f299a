/- Contracts and plain mathematics of some packages' functions, laid together; conditions as each one says. -/
import Derived.Lib.Strings
import Derived.Laws.Strings
import Derived.Test.YtpgllcdcpdeicaaGreatDoorRows
import Derived.WalkKit
import Derived.WalkSpells
import Derived.Lib.Hide
import Derived.Lib.IndexBytes
import Derived.ChangeOld
import Derived.Test.YtpgllcdcpdeicaaGreatDoorNuShelf
namespace Go.Proofs.YtpgllcdcpdeicaaGreatDoor.Nu
set_option linter.unusedSimpArgs false
set_option linter.unusedVariables false

def hv (c : Int) : Int := if 48 ≤ c ∧ c ≤ 57 then c - 48 else if 97 ≤ c ∧ c ≤ 102 then c - 87 else if 65 ≤ c ∧ c ≤ 70 then c - 55 else -1
def hvU (b : UInt8) : Int := hv (b.toNat : Int)
def okD (B : Int) (b : UInt8) : Bool := decide (0 ≤ hvU b ∧ hvU b < B)
def val (B : Int) (l : List UInt8) : Int := l.foldl (fun v b => v * B + hvU b) 0
theorem hv_bd (c : Int) : -1 ≤ hv c ∧ hv c ≤ 15 := by
  unfold hv
  split
  · omega
  · split
    · omega
    · split <;> omega
theorem okD_bd {B : Int} {b : UInt8} (h : okD B b = true) : 0 ≤ hvU b ∧ hvU b < B := of_decide_eq_true h
theorem okD_ten (b : UInt8) : okD 10 b = decide (48 ≤ (b.toNat : Int) ∧ (b.toNat : Int) ≤ 57) := by
  unfold okD hvU
  rw [Bool.eq_iff_iff]
  simp only [decide_eq_true_eq]
  unfold hv
  constructor
  · intro h
    split at h
    · assumption
    · split at h
      · omega
      · split at h <;> omega
  · intro h
    rw [if_pos h]
    omega
theorem val_nil (B : Int) : val B [] = 0 := rfl
theorem val_snoc (B : Int) (l : List UInt8) (b : UInt8) : val B (l ++ [b]) = val B l * B + hvU b := by unfold val; rw [List.foldl_append]; rfl
theorem val_from (B : Int) (l : List UInt8) : ∀ v, l.foldl (fun v b => v * B + hvU b) v = v * B ^ l.length + val B l := by
  induction l with
  | nil => intro v; simp [val]
  | cons b l ih =>
    intro v
    have e : val B (b :: l) = hvU b * B ^ l.length + val B l := by
      show l.foldl (fun v b => v * B + hvU b) (0 * B + hvU b) = _
      rw [ih, Int.zero_mul, Int.zero_add]
    rw [e, List.foldl_cons, ih, List.length_cons, Int.pow_succ, Int.add_mul, Int.mul_assoc, Int.mul_comm B, Int.add_assoc]
theorem val_cons (B : Int) (b : UInt8) (l : List UInt8) : val B (b :: l) = hvU b * B ^ l.length + val B l := by
  show l.foldl (fun v b => v * B + hvU b) (0 * B + hvU b) = _
  rw [val_from, Int.zero_mul, Int.zero_add]
theorem pow_pos' {B : Int} (hB : B = 10 ∨ B = 16) (n : Nat) : 1 ≤ B ^ n := by
  induction n with
  | zero => simp
  | succ n ih => rw [Int.pow_succ]; rcases hB with rfl | rfl <;> omega
theorem pow_mono {B : Int} (hB : B = 10 ∨ B = 16) {n m : Nat} (h : n ≤ m) : B ^ n ≤ B ^ m := by
  induction m with
  | zero => obtain rfl : n = 0 := by omega
            exact Int.le_refl _
  | succ m ih =>
    by_cases e : n = m + 1
    · subst e; exact Int.le_refl _
    · have := ih (by omega)
      have h1 := pow_pos' hB m
      rw [Int.pow_succ]; rcases hB with rfl | rfl <;> omega
theorem val_bd {B : Int} (hB : B = 10 ∨ B = 16) (l : List UInt8) (h : l.all (okD B) = true) : 0 ≤ val B l ∧ val B l < B ^ l.length := by
  induction l with
  | nil => simp [val]
  | cons b l ih =>
    rw [List.all_cons, Bool.and_eq_true] at h
    obtain ⟨i1, i2⟩ := ih h.2
    obtain ⟨b1, b2⟩ := okD_bd h.1
    have h1 := pow_pos' hB l.length
    rw [val_cons, List.length_cons, Int.pow_succ]
    have m0 : 0 ≤ hvU b * B ^ l.length := Int.mul_nonneg b1 (by omega)
    have m1 : (hvU b + 1) * B ^ l.length ≤ B * B ^ l.length := Int.mul_le_mul_of_nonneg_right (by omega) (by omega)
    rw [Int.add_mul, Int.one_mul, Int.mul_comm B] at m1
    omega
theorem val_head {B : Int} (hB : B = 10 ∨ B = 16) (b : UInt8) (l : List UInt8) (h : (b :: l).all (okD B) = true) (hb : 1 ≤ hvU b) : B ^ l.length ≤ val B (b :: l) := by
  rw [List.all_cons, Bool.and_eq_true] at h
  have h1 := pow_pos' hB l.length
  have h2 := (val_bd hB l h.2).1
  rw [val_cons]
  have m1 : 1 * B ^ l.length ≤ hvU b * B ^ l.length := Int.mul_le_mul_of_nonneg_right hb (by omega)
  rw [Int.one_mul] at m1
  omega
theorem val_take_le {B : Int} (hB : B = 10 ∨ B = 16) (l : List UInt8) (h : l.all (okD B) = true) (k : Nat) : val B (l.take k) ≤ val B l := by
  have e : val B l = val B (l.take k) * B ^ (l.drop k).length + val B (l.drop k) := by
    have := val_from B (l.drop k) (val B (l.take k))
    rw [← this]
    show val B l = (l.drop k).foldl _ ((l.take k).foldl _ 0)
    rw [← List.foldl_append, List.take_append_drop]; rfl
  have h1 : (l.take k).all (okD B) = true := List.all_eq_true.2 fun x hx => List.all_eq_true.1 h x (List.mem_of_mem_take hx)
  have h2 : (l.drop k).all (okD B) = true := List.all_eq_true.2 fun x hx => List.all_eq_true.1 h x (List.mem_of_mem_drop hx)
  have a := (val_bd hB _ h1).1
  have b := (val_bd hB _ h2).1
  have p := pow_pos' hB (l.drop k).length
  have m1 : val B (l.take k) * 1 ≤ val B (l.take k) * B ^ (l.drop k).length := Int.mul_le_mul_of_nonneg_left p a
  rw [Int.mul_one] at m1
  omega

/-- without noughts ahead; one stays -/
def stripL : List UInt8 → List UInt8
  | [] => []
  | [b] => [b]
  | b :: c :: l => if b = 48 then stripL (c :: l) else b :: c :: l
theorem hvU_48 : hvU 48 = 0 := by decide
theorem strip_val (B : Int) : ∀ l, val B (stripL l) = val B l
  | [] => rfl
  | [b] => rfl
  | b :: c :: l => by
    unfold stripL
    split
    · rename_i e
      rw [strip_val B (c :: l), val_cons B b, e, hvU_48, Int.zero_mul, Int.zero_add]
    · rfl
theorem strip_all (p : UInt8 → Bool) : ∀ l, l.all p = true → (stripL l).all p = true
  | [], h => h
  | [b], h => h
  | b :: c :: l, h => by
    unfold stripL
    split
    · exact strip_all p (c :: l) (by rw [List.all_cons, Bool.and_eq_true] at h; exact h.2)
    · exact h
theorem strip_len : ∀ l, (stripL l).length ≤ l.length ∧ (l ≠ [] → 1 ≤ (stripL l).length)
  | [] => ⟨Nat.le_refl _, fun h => absurd rfl h⟩
  | [b] => ⟨Nat.le_refl _, fun _ => Nat.le_refl _⟩
  | b :: c :: l => by
    unfold stripL
    split
    · have := strip_len (c :: l)
      refine ⟨?_, fun _ => this.2 (by simp)⟩
      have h := this.1
      simp only [List.length_cons] at h ⊢
      omega
    · simp
theorem strip_head : ∀ l b t, stripL l = b :: t → t ≠ [] → b ≠ 48
  | [], b, t, h, ht => by cases h
  | [c], b, t, h, ht => by cases h; exact absurd rfl ht
  | c :: d :: l, b, t, h, ht => by
    unfold stripL at h
    split at h
    · exact strip_head (d :: l) b t h ht
    · cases h; assumption
theorem strip_id : ∀ l, (∀ b c t, l = b :: c :: t → b ≠ 48) → stripL l = l
  | [], _ => rfl
  | [b], _ => rfl
  | b :: c :: l, h => by unfold stripL; rw [if_neg (h b c l rfl)]
theorem hv_pos {B : Int} {b : UInt8} (h : okD B b = true) (hn : b ≠ 48) : 1 ≤ hvU b := by
  have h0 := (okD_bd h).1
  have : hvU b ≠ 0 := by
    intro e
    apply hn
    apply UInt8.toNat_inj.1
    show b.toNat = 48
    unfold hvU hv at e
    split at e
    · omega
    · split at e
      · omega
      · split at e <;> omega
  omega
theorem strip_big {B : Int} (hB : B = 10 ∨ B = 16) (l : List UInt8) (h : l.all (okD B) = true) (n : Nat) (hn : n < (stripL l).length) (h1 : 1 ≤ n) : B ^ n ≤ val B l := by
  have ha := strip_all _ l h
  have he := strip_val B l
  cases e : stripL l with
  | nil => rw [e] at hn; simp at hn
  | cons b t =>
    rw [e] at hn ha he
    have ht : t ≠ [] := fun e2 => by subst e2; simp at hn; omega
    have hb : okD B b = true := by rw [List.all_cons, Bool.and_eq_true] at ha; exact ha.1
    have := val_head hB b t ha (hv_pos hb (strip_head l b t e ht))
    have hm := pow_mono hB (n := n) (m := t.length) (by simp at hn; omega)
    omega
theorem strip_small {B : Int} (hB : B = 10 ∨ B = 16) (l : List UInt8) (h : l.all (okD B) = true) : val B l < B ^ (stripL l).length := by
  have := (val_bd hB _ (strip_all _ l h)).2
  rwa [strip_val] at this

/-- texts of digits of one length: their order is that of what they stand for -/
theorem lex_all : ∀ x y : List UInt8, x.length = y.length → x.all (okD 10) = true → y.all (okD 10) = true → Op.bytesLess x y = decide (val 10 x < val 10 y) ∧ (x = y ↔ val 10 x = val 10 y)
  | [], [], _, _, _ => ⟨by simp [Op.bytesLess, val], by simp⟩
  | [], _ :: _, h, _, _ => by simp at h
  | _ :: _, [], h, _, _ => by simp at h
  | a :: x, b :: y, h, hx, hy => by
    rw [List.all_cons, Bool.and_eq_true] at hx hy
    have hl : x.length = y.length := by simpa using h
    obtain ⟨i1, i2⟩ := lex_all x y hl hx.2 hy.2
    have v1 := val_bd (.inl rfl) x hx.2
    have v2 := val_bd (.inl rfl) y hy.2
    rw [val_cons, val_cons, hl]
    rw [hl] at v1
    have p := pow_pos' (B := 10) (.inl rfl) y.length
    have ha := okD_ten a
    have hb := okD_ten b
    rw [hx.1] at ha
    rw [hy.1] at hb
    have ha := of_decide_eq_true ha.symm
    have hb := of_decide_eq_true hb.symm
    have ea : hvU a = (a.toNat : Int) - 48 := by unfold hvU hv; rw [if_pos ha]
    have eb : hvU b = (b.toNat : Int) - 48 := by unfold hvU hv; rw [if_pos hb]
    rw [ea, eb]
    revert i1 i2 v1 v2 p
    generalize val 10 x = X
    generalize val 10 y = Y
    generalize (10 : Int) ^ y.length = P
    intro i1 i2 v1 v2 p
    by_cases g1 : a < b
    · have g : a.toNat < b.toNat := UInt8.lt_iff_toNat_lt.1 g1
      have hab : ¬ a = b := fun e => by subst e; omega
      have m1 : ((a.toNat : Int) - 48 + 1) * P ≤ ((b.toNat : Int) - 48) * P := Int.mul_le_mul_of_nonneg_right (by omega) (by omega)
      rw [Int.add_mul, Int.one_mul] at m1
      refine ⟨?_, ?_⟩
      · have : decide (((a.toNat : Int) - 48) * P + X < ((b.toNat : Int) - 48) * P + Y) = true := decide_eq_true (by omega)
        rw [this]
        simp [Op.bytesLess, g1]
      · constructor
        · intro e; injection e with e _; exact absurd e hab
        · intro e; omega
    · by_cases g2 : a = b
      · subst g2
        refine ⟨?_, ?_⟩
        · have : decide (((a.toNat : Int) - 48) * P + X < ((a.toNat : Int) - 48) * P + Y) = decide (X < Y) := by
            rw [Bool.eq_iff_iff]; simp only [decide_eq_true_eq]; omega
          rw [this, ← i1]
          simp [Op.bytesLess, g1]
        · constructor
          · intro e; injection e with _ e; rw [i2.1 e]
          · intro e; rw [i2.2 (by omega)]
      · have g : b.toNat < a.toNat := by
          have h1 : ¬ a.toNat < b.toNat := fun h => g1 (UInt8.lt_iff_toNat_lt.2 h)
          have h2 : ¬ a.toNat = b.toNat := fun h => g2 (UInt8.toNat_inj.1 h)
          omega
        have m1 : ((b.toNat : Int) - 48 + 1) * P ≤ ((a.toNat : Int) - 48) * P := Int.mul_le_mul_of_nonneg_right (by omega) (by omega)
        rw [Int.add_mul, Int.one_mul] at m1
        refine ⟨?_, ?_⟩
        · have : decide (((a.toNat : Int) - 48) * P + X < ((b.toNat : Int) - 48) * P + Y) = false := decide_eq_false (by omega)
          rw [this]
          simp [Op.bytesLess, g1, g2]
        · constructor
          · intro e; injection e with e _; exact absurd e g2
          · intro e; omega
def aboveB (a b : List UInt8) : Bool := if (stripL a).length = (stripL b).length then !(Op.bytesLess (stripL a) (stripL b) || stripL a == stripL b) else decide ((stripL b).length < (stripL a).length)
theorem above_eq (a b : List UInt8) (ha : a.all (okD 10) = true) (hb : b.all (okD 10) = true) (na : a ≠ []) (nb : b ≠ []) : aboveB a b = decide (val 10 b < val 10 a) := by
  unfold aboveB
  have la := (strip_len a).2 na
  have lb := (strip_len b).2 nb
  have sa := strip_small (.inl rfl) a ha
  have sb := strip_small (.inl rfl) b hb
  split
  · rename_i e
    obtain ⟨h1, h2⟩ := lex_all (stripL a) (stripL b) e (strip_all _ a ha) (strip_all _ b hb)
    rw [strip_val, strip_val] at h1 h2
    rw [h1]
    rw [Bool.eq_iff_iff]
    simp only [Bool.not_eq_true', Bool.or_eq_false_iff, decide_eq_false_iff_not, beq_eq_false_iff_ne, ne_eq, decide_eq_true_eq, h2]
    omega
  · rename_i e
    by_cases g : (stripL b).length < (stripL a).length
    · have := strip_big (.inl rfl) a ha _ g lb
      rw [decide_eq_true g, decide_eq_true (by omega)]
    · have := strip_big (.inl rfl) b hb (stripL a).length (by omega) la
      rw [decide_eq_false g, decide_eq_false (by omega)]
end Go.Proofs.YtpgllcdcpdeicaaGreatDoor.Nu
namespace Go.Proofs.YtpgllcdcpdeicaaGreatDoor.Nu
open Go.RowKit
set_option linter.unusedSimpArgs false
set_option linter.unusedVariables false

theorem ret_bool {a b : Bool} (h : a = b) : Ending.returned (.bool a) = .returned (.bool b) := by rw [h]
theorem ret_int {k : IntKind} {a b : Int} (h : a = b) : Ending.returned (.int k a) = .returned (.int k b) := by rw [h]
theorem ret_str {a b : ByteArray} (h : a = b) : Ending.returned (.string a) = .returned (.string b) := by rw [h]
theorem ret2_ii {k k' : IntKind} {a b a' b' : Int} (h : a = b) (h' : a' = b') : Ending.returned (.tuple #[.int k a, .int k' a']) = .returned (.tuple #[.int k b, .int k' b']) := by rw [h, h']
theorem ret2_ib {k : IntKind} {a b : Int} {x : Bool} (h : a = b) : Ending.returned (.tuple #[.int k a, .bool x]) = .returned (.tuple #[.int k b, .bool x]) := by rw [h]
def mkS (l : List UInt8) : ByteArray := ⟨l.toArray⟩
theorem mkS_of {s : ByteArray} {l : List UInt8} (h : s.data.toList = l) : s = mkS l := by subst h; exact (Lib.mk_data s).symm
theorem data_mkS (l : List UInt8) : (mkS l).data.toList = l := rfl
theorem size_mkS (l : List UInt8) : (mkS l).size = l.length := by rw [Lib.size_eq, data_mkS]
theorem mkS_inj {a b : List UInt8} (h : mkS a = mkS b) : a = b := by have := congrArg (fun s : ByteArray => s.data.toList) h; simpa [data_mkS] using this
theorem app_data (a b : ByteArray) : (a ++ b).data.toList = a.data.toList ++ b.data.toList := by simp
theorem mkS_app (a b : List UInt8) : mkS a ++ mkS b = mkS (a ++ b) := mkS_of (by rw [app_data, data_mkS, data_mkS])
theorem toL (l : List UInt8) : (mkS l).toList = l := by rw [Lib.toList_data, data_mkS]
theorem gdat (s : ByteArray) (k : Nat) (h : k < s.size) : s.data.toList[k]'(by rw [← Lib.size_eq]; exact h) = s[k] := by
  have := Lib.data_getElem? s k h
  rw [List.getElem?_eq_getElem (by rw [← Lib.size_eq]; exact h)] at this
  exact Option.some.inj this
theorem take_snoc {s : ByteArray} {k : Nat} (hk : k < s.size) : s.data.toList.take (k + 1) = s.data.toList.take k ++ [s[k]] := by
  rw [List.take_succ_eq_append_getElem (by rw [← Lib.size_eq]; exact hk), gdat s k hk]
theorem all_no {s : ByteArray} {k : Nat} {p : UInt8 → Bool} (hk : k < s.size) (h : p s[k] = false) : s.data.toList.all p = false := by
  rw [List.all_eq_false]
  exact ⟨s[k], by rw [← gdat s k hk]; exact List.getElem_mem _, by simp [h]⟩
theorem all_snoc {s : ByteArray} {k : Nat} {p : UInt8 → Bool} (hk : k < s.size) (ha : (s.data.toList.take k).all p = true) (h : p s[k] = true) : (s.data.toList.take (k + 1)).all p = true := by
  rw [take_snoc hk, List.all_append, ha]; simp [h]
theorem empty_of {s : ByteArray} (h : s.size = 0) : s.toList.isEmpty = true := by
  rw [Lib.toList_data, List.isEmpty_iff, ← List.length_eq_zero_iff, ← Lib.size_eq]; exact h
theorem empty_no {s : ByteArray} (h : ¬ s.size = 0) : s.toList.isEmpty = false := by
  rw [Lib.toList_data]
  cases e : s.data.toList with
  | nil => exact absurd (by rw [Lib.size_eq, e]; rfl) h
  | cons => rfl

def digB (c : Int) : Bool := decide (48 ≤ c ∧ c ≤ 57)
theorem two_t {c lo hi : Int} (h : lo ≤ c) : decide (c ≤ hi) = decide (lo ≤ c ∧ c ≤ hi) := by simp [h]
theorem two_f {c lo hi : Int} (h : c < lo) : false = (decide (lo ≤ c) && decide (c ≤ hi)) := by
  have : decide (lo ≤ c) = false := by simp; omega
  rw [this]; rfl
theorem dig_c (c : Int) (w : World) : Calls Tryz.prog 59 #[.int .u8 c] w fun e w' => e = .returned (.bool (digB c)) ∧ w = w' := by
  unfold digB
  by_cases h1 : 48 ≤ c
  · go_enter Tryz.func59, Tryz.ntmps59
    go_wp2
    go_ret
    exact ⟨ret_bool (two_t h1), rfl⟩
  · go_enter Tryz.func59, Tryz.ntmps59
    go_wp2
    go_ret
    exact ⟨ret_bool (two_f h1), rfl⟩
theorem is_r (c lo hi : Int) (w : World) (h0 : 0 ≤ c) (h9 : c ≤ 255) : Calls Tryz.prog 45 #[.int .u8 c, .int .i64 lo, .int .i64 hi] w fun e w' => e = .returned (.bool (decide (lo ≤ c ∧ c ≤ hi))) ∧ w = w' := by
  by_cases h1 : lo ≤ c
  · go_enter Tryz.func45, Tryz.ntmps45
    go_wp2
    go_ret
    exact ⟨ret_bool (two_t h1), rfl⟩
  · go_enter Tryz.func45, Tryz.ntmps45
    go_wp2
    go_ret
    exact ⟨ret_bool (two_f h1), rfl⟩
theorem dig_r (c : Int) (w : World) (h0 : 0 ≤ c) (h1 : c ≤ 255) : Calls Tryz.prog 29 #[.int .u8 c] w fun e w' => e = .returned (.bool (digB c)) ∧ w = w' := by
  go_enter Tryz.func29, Tryz.ntmps29
  go_wp2_with (go_at_call 45; refine (is_r _ _ _ _ h0 h1).mono ?_; rintro e w' ⟨rfl, rfl⟩)
  go_ret
  exact ⟨ret_bool (by simp [digB]), rfl⟩

theorem digit_yes (c : Int) (w : World) (h0 : 0 ≤ c) (h1 : c ≤ 255) (h : 0 ≤ hv c) : Calls Tryz.prog 89 #[.int .u8 c] w fun e w' => e = .returned (.tuple #[.int .u64 (hv c), .bool true]) ∧ w = w' := by
  by_cases a : 65 ≤ c ∧ c ≤ 70
  · have HE : Hid (c - 55 = hv c) := by show c - 55 = hv c; unfold hv; rw [if_neg (by omega), if_neg (by omega), if_pos a]
    obtain ⟨a1, a2⟩ := a
    clear h
    go_enter Tryz.func89, Tryz.ntmps89
    go_wp2
    go_ret2
    exact ⟨ret2_ib (by rw [← HE.out]; omega), rfl⟩
  · by_cases b : 97 ≤ c ∧ c ≤ 102
    · have HE : Hid (c - 87 = hv c) := by show c - 87 = hv c; unfold hv; rw [if_neg (by omega), if_pos b]
      obtain ⟨b1, b2⟩ := b
      have a1 : ¬ c ≤ 70 := by omega
      clear h a
      go_enter Tryz.func89, Tryz.ntmps89
      go_wp2
      go_ret2
      exact ⟨ret2_ib (by rw [← HE.out]; omega), rfl⟩
    · have d : 48 ≤ c ∧ c ≤ 57 := by
        by_cases g : 48 ≤ c ∧ c ≤ 57
        · exact g
        · unfold hv at h; rw [if_neg g, if_neg b, if_neg a] at h; omega
      have HE : Hid (c - 48 = hv c) := by show c - 48 = hv c; unfold hv; rw [if_pos d]
      have hd : digB c = true := decide_eq_true d
      have HD := Lib.hid (fun W => dig_c c W)
      rw [hd] at HD
      obtain ⟨d1, d2⟩ := d
      have a1 : ¬ 65 ≤ c := by omega
      clear h a b hd
      go_enter Tryz.func89, Tryz.ntmps89
      go_wp2_with (go_at_call 59; refine (HD.out _).mono ?_; rintro e w' ⟨rfl, rfl⟩)
      go_ret2
      exact ⟨ret2_ib (by rw [← HE.out]), rfl⟩

theorem digit_no (c : Int) (w : World) (h0 : 0 ≤ c) (h1 : c ≤ 255) (h : hv c < 0) : Calls Tryz.prog 89 #[.int .u8 c] w fun e w' => e = .returned (.tuple #[.int .u64 0, .bool false]) ∧ w = w' := by
  have a : ¬ (65 ≤ c ∧ c ≤ 70) := fun a => by unfold hv at h; rw [if_neg (by omega), if_neg (by omega), if_pos a] at h; omega
  have b : ¬ (97 ≤ c ∧ c ≤ 102) := fun b => by unfold hv at h; rw [if_neg (by omega), if_pos b] at h; omega
  have d : ¬ (48 ≤ c ∧ c ≤ 57) := fun d => by unfold hv at h; rw [if_pos d] at h; omega
  have HD := Lib.hid (fun W => dig_c c W)
  rw [show digB c = false from decide_eq_false d] at HD
  clear h d
  by_cases a1 : 65 ≤ c
  · have a2 : ¬ c ≤ 70 := by omega
    by_cases b1 : 97 ≤ c
    · have b2 : ¬ c ≤ 102 := by omega
      clear a b
      go_enter Tryz.func89, Tryz.ntmps89
      go_wp2_with (go_at_call 59; refine (HD.out _).mono ?_; rintro e w' ⟨rfl, rfl⟩)
      go_ret2
      exact ⟨rfl, rfl⟩
    · clear a b
      go_enter Tryz.func89, Tryz.ntmps89
      go_wp2_with (go_at_call 59; refine (HD.out _).mono ?_; rintro e w' ⟨rfl, rfl⟩)
      go_ret2
      exact ⟨rfl, rfl⟩
  · have b1 : ¬ 97 ≤ c := by omega
    clear a b
    go_enter Tryz.func89, Tryz.ntmps89
    go_wp2_with (go_at_call 59; refine (HD.out _).mono ?_; rintro e w' ⟨rfl, rfl⟩)
    go_ret2
    exact ⟨rfl, rfl⟩

def rdN (B M : Int) (l : List UInt8) : Int := if l ≠ [] ∧ l.all (okD B) = true ∧ val B l ≤ M then val B l else 0
def rdE (B M : Int) (l : List UInt8) : Int := if l ≠ [] ∧ l.all (okD B) = true then (if val B l ≤ M then 0 else 5) else 3
theorem rd_no {B M : Int} {l : List UInt8} (h : ¬ (l ≠ [] ∧ l.all (okD B) = true)) : rdN B M l = 0 ∧ rdE B M l = 3 :=
  ⟨by unfold rdN; rw [if_neg (fun g => h ⟨g.1, g.2.1⟩)], by unfold rdE; rw [if_neg h]⟩
theorem rd_yes {B M : Int} {l : List UInt8} (h : l ≠ [] ∧ l.all (okD B) = true) (hm : val B l ≤ M) : rdN B M l = val B l ∧ rdE B M l = 0 :=
  ⟨by unfold rdN; rw [if_pos ⟨h.1, h.2, hm⟩], by unfold rdE; rw [if_pos h, if_pos hm]⟩
theorem rd_long {B M : Int} {l : List UInt8} (h : l ≠ [] ∧ l.all (okD B) = true) (hm : ¬ val B l ≤ M) : rdN B M l = 0 ∧ rdE B M l = 5 :=
  ⟨by unfold rdN; rw [if_neg (fun g => hm g.2.2)], by unfold rdE; rw [if_pos h, if_neg hm]⟩
theorem ne_of {s : ByteArray} (h : ¬ s.size = 0) : s.data.toList ≠ [] := fun e => h (by rw [Lib.size_eq, e]; rfl)
def RdRel (B M : Int) (l : List UInt8) (k : Nat) (n e : Int) : Prop :=
  (l.take k).all (okD B) = true ∧ ((val B (l.take k) ≤ M ∧ n = val B (l.take k) ∧ e = 0) ∨ (M < val B (l.take k) ∧ n = 0 ∧ e = 5))

theorem read_nil (s : ByteArray) (B M : Int) (w : World) (h : s.size = 0) : Calls Tryz.prog 83 #[.string s, .int .u64 B, .int .u64 M] w fun e w' => e = .returned (.tuple #[.int .u64 0, .int .i64 3]) ∧ w = w' := by
  have hem := empty_of h
  clear h
  go_enter Tryz.func83, Tryz.ntmps83
  go_wp2
  go_ret2
  exact ⟨rfl, rfl⟩

set_option maxRecDepth 100000 in
set_option maxHeartbeats 2000000 in
theorem read10_c (s : ByteArray) (M : Int) (w : World) (hs : s.size ≤ 1000) (m0 : 16 ≤ M) (m1 : M ≤ 9223372036854775808) :
    Calls Tryz.prog 83 #[.string s, .int .u64 10, .int .u64 M] w fun e w' => e = .returned (.tuple #[.int .u64 (rdN 10 M s.data.toList), .int .i64 (rdE 10 M s.data.toList)]) ∧ w = w' := by
  by_cases hz : s.size = 0
  · have hn : ¬ (s.data.toList ≠ [] ∧ s.data.toList.all (okD 10) = true) := fun g => g.1 (List.length_eq_zero_iff.1 (by rw [← Lib.size_eq]; exact hz))
    rw [(rd_no hn).1, (rd_no hn).2]
    exact read_nil s 10 M w hz
  have hem := empty_no hz
  have HNE := Lib.hid (ne_of hz)
  have hsl := Lib.hid (Lib.size_eq s)
  clear hz
  go_enter Tryz.func83, Tryz.ntmps83
  go_wp2
  go_loop [8, 9, 17] (fun a b i => ∃ (k : Nat) (n e : Int), k ≤ s.size ∧ i = .int .i64 k ∧ a = .int .u64 n ∧ b = .int .i64 e ∧ RdRel 10 M s.data.toList k n e) (fun _ _ i => s.size - (intOf i).toNat)
  case atStart => exact ⟨0, 0, 0, by omega, rfl, rfl, rfl, rfl, .inl ⟨by simp [val]; omega, rfl, rfl⟩⟩
  case round =>
    obtain ⟨k, n, e, hk, rfl, rfl, rfl, hal, hcase⟩ := hrel
    have HA := Lib.hid hal
    have vb := (val_bd (B := 10) (.inl rfl) _ hal).1
    have VB := Lib.hid vb
    clear hal vb
    by_cases hlt : k < s.size
    · have h0 : 0 ≤ ((s[k].toNat : Nat) : Int) := by omega
      have h1 : ((s[k].toNat : Nat) : Int) ≤ 255 := by have := s[k].toNat_lt; omega
      have HTS : Hid (val 10 (s.data.toList.take (k + 1)) = val 10 (s.data.toList.take k) * 10 + hv (s[k].toNat : Int)) := by
        show val 10 (s.data.toList.take (k + 1)) = _
        rw [take_snoc hlt, val_snoc]; rfl
      by_cases hd : 0 ≤ hv (s[k].toNat : Int)
      · have hd9 : hv (s[k].toNat : Int) ≤ 15 := (hv_bd _).2

        by_cases hbase : hv (s[k].toNat : Int) < 10
        rotate_left
        · have hge : 10 ≤ hv (s[k].toNat : Int) := by omega
          have HN : Hid (¬ (s.data.toList ≠ [] ∧ s.data.toList.all (okD 10) = true)) := fun g => by
            have := all_no (p := okD 10) hlt (decide_eq_false (fun h => hbase h.2))
            rw [g.2] at this; cases this
          clear hbase
          go_wp2_with (go_at_call 89; refine (digit_yes _ _ h0 h1 hd).mono ?_; rintro e w' ⟨rfl, rfl⟩)
          go_ret2
          exact ⟨ret2_ii (rd_no HN.out).1.symm (rd_no HN.out).2.symm, rfl⟩
        have HOK : Hid (okD 10 s[k] = true) := decide_eq_true ⟨hd, hbase⟩
        have HAL := Lib.hid (all_snoc (p := okD 10) hlt HA.out HOK.out)
        have HDG := Lib.hid (fun W => digit_yes _ W h0 h1 hd)
        revert HDG HTS hd hd9 hbase
        generalize hv (s[k].toNat : Int) = d
        intro HTS hd hd9 hbase HDG
        rcases hcase with ⟨c1, rfl, rfl⟩ | ⟨c1, rfl, rfl⟩
        · revert HTS VB c1
          generalize val 10 (s.data.toList.take k) = v
          intro VB HTS c1
          have v0 : 0 ≤ v := VB.out
          by_cases hfit : v ≤ (M - d) / 10
          · go_wp2_with (go_at_call 89; refine (HDG.out _).mono ?_; rintro e w' ⟨rfl, rfl⟩)
            go_round
            case rel => exact ⟨k + 1, _, _, by omega, by go_num, rfl, rfl, HAL.out, .inl ⟨by rw [HTS.out]; omega, by rw [HTS.out], rfl⟩⟩
            case measure => simp [intOf]; omega
          · have hfit2 : (M - d) / 10 < v := by omega
            clear hfit
            go_wp2_with (go_at_call 89; refine (HDG.out _).mono ?_; rintro e w' ⟨rfl, rfl⟩)
            go_round
            case rel => exact ⟨k + 1, _, _, by omega, by go_num, rfl, rfl, HAL.out, .inr ⟨by rw [HTS.out]; omega, rfl, rfl⟩⟩
            case measure => simp [intOf]; omega
        · have C1 := Lib.hid c1
          clear c1
          go_wp2_with (go_at_call 89; refine (HDG.out _).mono ?_; rintro e w' ⟨rfl, rfl⟩)
          go_round
          case rel => exact ⟨k + 1, _, _, by omega, by go_num, rfl, rfl, HAL.out, .inr ⟨by rw [HTS.out]; have := C1.out; omega, rfl, rfl⟩⟩
          case measure => simp [intOf]; omega
      · have hd2 : hv (s[k].toNat : Int) < 0 := by omega
        have HN : Hid (¬ (s.data.toList ≠ [] ∧ s.data.toList.all (okD 10) = true)) := fun g => by
          have := all_no (p := okD 10) hlt (decide_eq_false (fun h => hd h.1))
          rw [g.2] at this; cases this
        clear hd hcase
        go_wp2_with (go_at_call 89; refine (digit_no _ _ h0 h1 hd2).mono ?_; rintro e w' ⟨rfl, rfl⟩)
        go_ret2
        exact ⟨ret2_ii (rd_no HN.out).1.symm (rd_no HN.out).2.symm, rfl⟩
    · have HT : Hid (s.data.toList.take k = s.data.toList) := List.take_of_length_le (by rw [← hsl.out]; omega)
      have HC := Lib.hid hcase
      clear hcase
      go_wp2
      go_ret2
      have ha := HA.out
      have hc := HC.out
      rw [HT.out] at ha hc
      rcases hc with ⟨c1, rfl, rfl⟩ | ⟨c1, rfl, rfl⟩
      · exact ⟨ret2_ii (rd_yes ⟨HNE.out, ha⟩ c1).1.symm (rd_yes ⟨HNE.out, ha⟩ c1).2.symm, rfl⟩
      · exact ⟨ret2_ii (rd_long ⟨HNE.out, ha⟩ (by omega)).1.symm (rd_long ⟨HNE.out, ha⟩ (by omega)).2.symm, rfl⟩

set_option maxRecDepth 100000 in
set_option maxHeartbeats 2000000 in
theorem read16_c (s : ByteArray) (M : Int) (w : World) (hs : s.size ≤ 1000) (m0 : 16 ≤ M) (m1 : M ≤ 9223372036854775808) :
    Calls Tryz.prog 83 #[.string s, .int .u64 16, .int .u64 M] w fun e w' => e = .returned (.tuple #[.int .u64 (rdN 16 M s.data.toList), .int .i64 (rdE 16 M s.data.toList)]) ∧ w = w' := by
  by_cases hz : s.size = 0
  · have hn : ¬ (s.data.toList ≠ [] ∧ s.data.toList.all (okD 16) = true) := fun g => g.1 (List.length_eq_zero_iff.1 (by rw [← Lib.size_eq]; exact hz))
    rw [(rd_no hn).1, (rd_no hn).2]
    exact read_nil s 16 M w hz
  have hem := empty_no hz
  have HNE := Lib.hid (ne_of hz)
  have hsl := Lib.hid (Lib.size_eq s)
  clear hz
  go_enter Tryz.func83, Tryz.ntmps83
  go_wp2
  go_loop [8, 9, 17] (fun a b i => ∃ (k : Nat) (n e : Int), k ≤ s.size ∧ i = .int .i64 k ∧ a = .int .u64 n ∧ b = .int .i64 e ∧ RdRel 16 M s.data.toList k n e) (fun _ _ i => s.size - (intOf i).toNat)
  case atStart => exact ⟨0, 0, 0, by omega, rfl, rfl, rfl, rfl, .inl ⟨by simp [val]; omega, rfl, rfl⟩⟩
  case round =>
    obtain ⟨k, n, e, hk, rfl, rfl, rfl, hal, hcase⟩ := hrel
    have HA := Lib.hid hal
    have vb := (val_bd (B := 16) (.inr rfl) _ hal).1
    have VB := Lib.hid vb
    clear hal vb
    by_cases hlt : k < s.size
    · have h0 : 0 ≤ ((s[k].toNat : Nat) : Int) := by omega
      have h1 : ((s[k].toNat : Nat) : Int) ≤ 255 := by have := s[k].toNat_lt; omega
      have HTS : Hid (val 16 (s.data.toList.take (k + 1)) = val 16 (s.data.toList.take k) * 16 + hv (s[k].toNat : Int)) := by
        show val 16 (s.data.toList.take (k + 1)) = _
        rw [take_snoc hlt, val_snoc]; rfl
      by_cases hd : 0 ≤ hv (s[k].toNat : Int)
      · have hd9 : hv (s[k].toNat : Int) ≤ 15 := (hv_bd _).2

        have hbase : hv (s[k].toNat : Int) < 16 := by have := (hv_bd (s[k].toNat : Int)).2; omega
        have HOK : Hid (okD 16 s[k] = true) := decide_eq_true ⟨hd, hbase⟩
        have HAL := Lib.hid (all_snoc (p := okD 16) hlt HA.out HOK.out)
        have HDG := Lib.hid (fun W => digit_yes _ W h0 h1 hd)
        revert HDG HTS hd hd9 hbase
        generalize hv (s[k].toNat : Int) = d
        intro HTS hd hd9 hbase HDG
        rcases hcase with ⟨c1, rfl, rfl⟩ | ⟨c1, rfl, rfl⟩
        · revert HTS VB c1
          generalize val 16 (s.data.toList.take k) = v
          intro VB HTS c1
          have v0 : 0 ≤ v := VB.out
          by_cases hfit : v ≤ (M - d) / 16
          · go_wp2_with (go_at_call 89; refine (HDG.out _).mono ?_; rintro e w' ⟨rfl, rfl⟩)
            go_round
            case rel => exact ⟨k + 1, _, _, by omega, by go_num, rfl, rfl, HAL.out, .inl ⟨by rw [HTS.out]; omega, by rw [HTS.out], rfl⟩⟩
            case measure => simp [intOf]; omega
          · have hfit2 : (M - d) / 16 < v := by omega
            clear hfit
            go_wp2_with (go_at_call 89; refine (HDG.out _).mono ?_; rintro e w' ⟨rfl, rfl⟩)
            go_round
            case rel => exact ⟨k + 1, _, _, by omega, by go_num, rfl, rfl, HAL.out, .inr ⟨by rw [HTS.out]; omega, rfl, rfl⟩⟩
            case measure => simp [intOf]; omega
        · have C1 := Lib.hid c1
          clear c1
          go_wp2_with (go_at_call 89; refine (HDG.out _).mono ?_; rintro e w' ⟨rfl, rfl⟩)
          go_round
          case rel => exact ⟨k + 1, _, _, by omega, by go_num, rfl, rfl, HAL.out, .inr ⟨by rw [HTS.out]; have := C1.out; omega, rfl, rfl⟩⟩
          case measure => simp [intOf]; omega
      · have hd2 : hv (s[k].toNat : Int) < 0 := by omega
        have HN : Hid (¬ (s.data.toList ≠ [] ∧ s.data.toList.all (okD 16) = true)) := fun g => by
          have := all_no (p := okD 16) hlt (decide_eq_false (fun h => hd h.1))
          rw [g.2] at this; cases this
        clear hd hcase
        go_wp2_with (go_at_call 89; refine (digit_no _ _ h0 h1 hd2).mono ?_; rintro e w' ⟨rfl, rfl⟩)
        go_ret2
        exact ⟨ret2_ii (rd_no HN.out).1.symm (rd_no HN.out).2.symm, rfl⟩
    · have HT : Hid (s.data.toList.take k = s.data.toList) := List.take_of_length_le (by rw [← hsl.out]; omega)
      have HC := Lib.hid hcase
      clear hcase
      go_wp2
      go_ret2
      have ha := HA.out
      have hc := HC.out
      rw [HT.out] at ha hc
      rcases hc with ⟨c1, rfl, rfl⟩ | ⟨c1, rfl, rfl⟩
      · exact ⟨ret2_ii (rd_yes ⟨HNE.out, ha⟩ c1).1.symm (rd_yes ⟨HNE.out, ha⟩ c1).2.symm, rfl⟩
      · exact ⟨ret2_ii (rd_long ⟨HNE.out, ha⟩ (by omega)).1.symm (rd_long ⟨HNE.out, ha⟩ (by omega)).2.symm, rfl⟩
end Go.Proofs.YtpgllcdcpdeicaaGreatDoor.Nu
namespace Go.Proofs.YtpgllcdcpdeicaaGreatDoor.Nu
open Go.RowKit
set_option linter.unusedSimpArgs false
set_option linter.unusedVariables false

def negB (l : List UInt8) : Bool := Lib.hasPrefix l [45]
def bodyL (l : List UInt8) : List UInt8 := Lib.trimPrefix l [45]
def badB (l : List UInt8) : Bool := decide (1 < l.length ∧ l.getD 0 0 = 48)
def pN (l : List UInt8) : Int := if badB (bodyL l) then 0 else if negB l then -(rdN 10 9223372036854775808 (bodyL l)) else rdN 10 9223372036854775807 (bodyL l)
def pE (l : List UInt8) : Int := if badB (bodyL l) then 3 else if negB l then rdE 10 9223372036854775808 (bodyL l) else rdE 10 9223372036854775807 (bodyL l)
theorem rdN_bd (B M : Int) (hB : B = 10 ∨ B = 16) (hM : 0 ≤ M) (l : List UInt8) : 0 ≤ rdN B M l ∧ rdN B M l ≤ M := by
  unfold rdN
  split
  · rename_i h; exact ⟨(val_bd hB l h.2.1).1, h.2.2⟩
  · omega
theorem body_len (l : List UInt8) : (bodyL l).length ≤ l.length := by unfold bodyL Lib.trimPrefix; split <;> simp
theorem cut_c (s : ByteArray) (w : World) : Calls Tryz.prog 82 #[.string s, .string ⟨#[45]⟩] w fun e w' => e = .returned (.tuple #[.string (mkS (bodyL s.data.toList)), .bool (negB s.data.toList)]) ∧ w = w' := by
  have h : Calls Tryz.prog 82 #[.string s, .string ⟨#[45]⟩] w fun e w' => e = .returned (.tuple #[.string ⟨(Lib.trimPrefix s.data.toList (ByteArray.mk #[45]).data.toList).toArray⟩, .bool (Lib.hasPrefix s.data.toList (ByteArray.mk #[45]).data.toList)]) ∧ w' = w := Any.strings_CutPrefix Tryz.lays103 s ⟨#[45]⟩ w
  exact h.mono fun e w' hh => ⟨hh.1, hh.2.symm⟩
theorem getD_at (s : ByteArray) (k : Nat) (h : k < s.size) : s.data.toList.getD k 0 = s[k] := by
  rw [List.getD, Lib.data_getElem? s k h]; rfl
theorem byte_eq (s : ByteArray) (k : Nat) (h : k < s.size) (c : UInt8) (z : Int) (hz : z = (c.toNat : Int)) : ((s[k].toNat : Int) == z) = decide (s.data.toList.getD k 0 = c) := by
  subst hz
  rw [getD_at s k h]
  rw [Bool.eq_iff_iff]
  simp only [beq_iff_eq, decide_eq_true_eq]
  constructor
  · intro e; apply UInt8.toNat_inj.1; omega
  · intro e; rw [e]
theorem wrap_neg (n : Int) (h0 : 0 ≤ n) (h1 : n ≤ 9223372036854775808) : IntKind.i64.wrap (IntKind.u64.wrap (-n)) = -n := by
  rw [IntKind.wrap_u64, IntKind.wrap_i64]; omega

set_option maxRecDepth 100000 in
set_option maxHeartbeats 1000000 in
theorem parse_bad (s : ByteArray) (w : World) (hs : s.size ≤ 1000) (hb : badB (bodyL s.data.toList) = true) : Calls Tryz.prog 74 #[.string s] w fun e w' => e = .returned (.tuple #[.int .i64 0, .int .i64 3]) ∧ w = w' := by
  obtain ⟨b1, b2⟩ := of_decide_eq_true hb
  have HC := Lib.hid (fun W => cut_c s W)
  have hl := body_len s.data.toList
  rw [← Lib.size_eq] at hl
  have hsz : (mkS (bodyL s.data.toList)).size ≤ 1000 := by rw [size_mkS]; omega
  have hs1 : 1 < (mkS (bodyL s.data.toList)).size := by rw [size_mkS]; exact b1
  have hb2 : (mkS (bodyL s.data.toList)).data.toList.getD 0 0 = 48 := b2
  clear hb hl b1 b2
  revert HC hsz hs1 hb2
  generalize mkS (bodyL s.data.toList) = t
  generalize negB s.data.toList = neg
  intro HC hsz hs1 hb2
  have hs1' : (1 : Int) < (t.size : Int) := by omega
  have h0t : 0 < t.size := by omega
  have hq := byte_eq t 0 h0t 48 48 rfl
  rw [hb2] at hq
  simp only [decide_true] at hq
  clear hb2
  go_enter Tryz.func74, Tryz.ntmps74
  go_wp2_with fail
  refine (HC.out _).mono ?_
  rintro e w' ⟨rfl, rfl⟩
  go_wp2
  go_ret2
  exact ⟨rfl, rfl⟩

set_option maxRecDepth 100000 in
set_option maxHeartbeats 1000000 in
theorem parse_ok (s : ByteArray) (w : World) (hs : s.size ≤ 1000) (hb : badB (bodyL s.data.toList) = false) : Calls Tryz.prog 74 #[.string s] w fun e w' => e = .returned (.tuple #[.int .i64 (pN s.data.toList), .int .i64 (pE s.data.toList)]) ∧ w = w' := by
  have hn := of_decide_eq_false hb
  have HC := Lib.hid (fun W => cut_c s W)
  have hl := body_len s.data.toList
  rw [← Lib.size_eq] at hl
  have hsz : (mkS (bodyL s.data.toList)).size ≤ 1000 := by rw [size_mkS]; omega
  have HN : Hid (pN s.data.toList = if negB s.data.toList then -(rdN 10 9223372036854775808 (bodyL s.data.toList)) else rdN 10 9223372036854775807 (bodyL s.data.toList)) := by
    show pN s.data.toList = _
    unfold pN; rw [hb]; rfl
  have HE : Hid (pE s.data.toList = if negB s.data.toList then rdE 10 9223372036854775808 (bodyL s.data.toList) else rdE 10 9223372036854775807 (bodyL s.data.toList)) := by
    show pE s.data.toList = _
    unfold pE; rw [hb]; rfl
  have hh : ∀ (h0 : 0 < (mkS (bodyL s.data.toList)).size), 1 < (mkS (bodyL s.data.toList)).size → ((((mkS (bodyL s.data.toList))[0]'h0).toNat : Int) == 48) = false := fun h0 h => by
    rw [byte_eq (mkS (bodyL s.data.toList)) 0 h0 48 48 rfl]
    apply decide_eq_false
    intro e
    exact hn ⟨by rw [size_mkS] at h; exact h, e⟩
  clear hb hl hn
  cases hneg : negB s.data.toList with
  | true =>
    have HR := Lib.hid (fun W => read10_c (mkS (bodyL s.data.toList)) 9223372036854775808 W hsz (by decide) (by decide))
    rw [data_mkS] at HR
    obtain ⟨n0, n1⟩ := rdN_bd 10 9223372036854775808 (.inl rfl) (by decide) (bodyL s.data.toList)
    rw [hneg] at HC HN HE
    clear hneg
    revert HC HN HE HR hsz hh n0 n1
    generalize mkS (bodyL s.data.toList) = t
    generalize rdN 10 9223372036854775808 (bodyL s.data.toList) = n
    generalize rdE 10 9223372036854775808 (bodyL s.data.toList) = e0
    intro HC hsz HN HE hh HR n0 n1
    have hwr := wrap_neg n n0 n1
    by_cases h1 : 1 < t.size
    · have h1' : (1 : Int) < (t.size : Int) := by omega
      have h0t : 0 < t.size := by omega
      have hq := hh h0t h1
      clear hh
      go_enter Tryz.func74, Tryz.ntmps74
      go_wp2_with fail
      refine (HC.out _).mono ?_
      rintro e w' ⟨rfl, rfl⟩
      go_wp2_with fail
      refine (HR.out _).mono ?_
      rintro e w' ⟨rfl, rfl⟩
      go_wp2
      go_ret2
      exact ⟨ret2_ii (by rw [HN.out]; rfl) (by rw [HE.out]; rfl), rfl⟩
    · have h1' : ¬ (1 : Int) < (t.size : Int) := by omega
      clear hh
      go_enter Tryz.func74, Tryz.ntmps74
      go_wp2_with fail
      refine (HC.out _).mono ?_
      rintro e w' ⟨rfl, rfl⟩
      go_wp2_with fail
      refine (HR.out _).mono ?_
      rintro e w' ⟨rfl, rfl⟩
      go_wp2
      go_ret2
      exact ⟨ret2_ii (by rw [HN.out]; rfl) (by rw [HE.out]; rfl), rfl⟩
  | false =>
    have HR := Lib.hid (fun W => read10_c (mkS (bodyL s.data.toList)) 9223372036854775807 W hsz (by decide) (by decide))
    rw [data_mkS] at HR
    obtain ⟨n0, n1⟩ := rdN_bd 10 9223372036854775807 (.inl rfl) (by decide) (bodyL s.data.toList)
    rw [hneg] at HC HN HE
    clear hneg
    revert HC HN HE HR hsz hh n0 n1
    generalize mkS (bodyL s.data.toList) = t
    generalize rdN 10 9223372036854775807 (bodyL s.data.toList) = n
    generalize rdE 10 9223372036854775807 (bodyL s.data.toList) = e0
    intro HC hsz HN HE hh HR n0 n1
    by_cases h1 : 1 < t.size
    · have h1' : (1 : Int) < (t.size : Int) := by omega
      have h0t : 0 < t.size := by omega
      have hq := hh h0t h1
      clear hh
      go_enter Tryz.func74, Tryz.ntmps74
      go_wp2_with fail
      refine (HC.out _).mono ?_
      rintro e w' ⟨rfl, rfl⟩
      go_wp2_with fail
      refine (HR.out _).mono ?_
      rintro e w' ⟨rfl, rfl⟩
      go_wp2
      go_ret2
      exact ⟨ret2_ii (by rw [HN.out]; rfl) (by rw [HE.out]; rfl), rfl⟩
    · have h1' : ¬ (1 : Int) < (t.size : Int) := by omega
      clear hh
      go_enter Tryz.func74, Tryz.ntmps74
      go_wp2_with fail
      refine (HC.out _).mono ?_
      rintro e w' ⟨rfl, rfl⟩
      go_wp2_with fail
      refine (HR.out _).mono ?_
      rintro e w' ⟨rfl, rfl⟩
      go_wp2
      go_ret2
      exact ⟨ret2_ii (by rw [HN.out]; rfl) (by rw [HE.out]; rfl), rfl⟩

theorem parse_c (s : ByteArray) (w : World) (hs : s.size ≤ 1000) : Calls Tryz.prog 74 #[.string s] w fun e w' => e = .returned (.tuple #[.int .i64 (pN s.data.toList), .int .i64 (pE s.data.toList)]) ∧ w = w' := by
  cases hb : badB (bodyL s.data.toList) with
  | true =>
    have e1 : pN s.data.toList = 0 := by unfold pN; rw [hb]; rfl
    have e2 : pE s.data.toList = 3 := by unfold pE; rw [hb]; rfl
    rw [e1, e2]
    exact parse_bad s w hs hb
  | false => exact parse_ok s w hs hb

theorem hex_c (s : ByteArray) (w : World) (hs : s.size ≤ 1000) : Calls Tryz.prog 96 #[.string s] w fun e w' => e = .returned (.tuple #[.int .i64 (rdN 16 2147483647 s.data.toList), .int .i64 (rdE 16 2147483647 s.data.toList)]) ∧ w = w' := by
  have HR := Lib.hid (fun W => read16_c s 2147483647 W hs (by decide) (by decide))
  obtain ⟨n0, n1⟩ := rdN_bd 16 2147483647 (.inr rfl) (by decide) s.data.toList
  revert HR n0 n1
  generalize rdN 16 2147483647 s.data.toList = n
  generalize rdE 16 2147483647 s.data.toList = e0
  intro HR n0 n1
  go_enter Tryz.func96, Tryz.ntmps96
  go_wp2_with fail
  refine (HR.out _).mono ?_
  rintro e w' ⟨rfl, rfl⟩
  go_wp2
  go_ret2
  exact ⟨rfl, rfl⟩

def shortL (l : List UInt8) : List UInt8 := l.take 40
theorem short_sz (a : ByteArray) : (mkS (shortL a.data.toList)).size ≤ 40 := by rw [size_mkS]; unfold shortL; rw [List.length_take]; omega
end Go.Proofs.YtpgllcdcpdeicaaGreatDoor.Nu
