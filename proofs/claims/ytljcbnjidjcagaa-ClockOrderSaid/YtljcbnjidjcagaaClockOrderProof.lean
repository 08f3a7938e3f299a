/-
  For any two times, the later one's text by package clock is greater by its bytes, and the chapter's examples hold: no condition.
-/
import Derived.Test.YtljcbnjidjcagaaRows
import Derived.WalkKit
import Derived.ProofKit
import Derived.OpenShut
import Derived.ShutString
import Derived.ChangeOld
import Derived.Test.YtljcbnjidjcagaaBacks
namespace Go.Proofs.Ytljcbnjidjcagaa.clockOrder
open Go.ChangeShapes Go.WideShapes Go.ChangeAt Go.RowKit
open Go.ChangeMaps (open_string shut_string)
set_option linter.unusedVariables false
set_option linter.unusedSimpArgs false

theorem own : ownKnob Try.prog.godebug = none := by kernel_rfl

theorem bl_head {a b : UInt8} (h : a < b) (x y : List UInt8) : Op.bytesLess (a :: x) (b :: y) = true ∧ Op.bytesLess (b :: y) (a :: x) = false := by
  have h2 : ¬ b < a := by rw [UInt8.lt_iff_toNat_lt] at *; omega
  have h3 : ¬ b = a := fun e => by subst e; exact h2 h
  have h4 : ¬ a = b := fun e => h3 e.symm
  constructor <;> simp [Op.bytesLess, h, h2, h3, h4]
theorem bl_pre (p x y : List UInt8) : Op.bytesLess (p ++ x) (p ++ y) = Op.bytesLess x y := by
  induction p with
  | nil => rfl
  | cons a p ih =>
    have h : ¬ a < a := by rw [UInt8.lt_iff_toNat_lt]; omega
    simp [Op.bytesLess, h, ih]
theorem bl_same (x : List UInt8) : Op.bytesLess x x = false := by
  have := bl_pre x [] []
  rw [List.append_nil] at this
  rw [this]
  rfl
def Bef (x y : List UInt8) : Prop := Op.bytesLess x y = true ∧ Op.bytesLess y x = false
theorem Bef.pre {x y : List UInt8} (h : Bef x y) (p : List UInt8) : Bef (p ++ x) (p ++ y) := ⟨by rw [bl_pre]; exact h.1, by rw [bl_pre]; exact h.2⟩
theorem dig_lt {n n' : Int} (h : n % 10 < n' % 10) : dig1 n < dig1 n' := by
  rw [UInt8.lt_iff_toNat_lt]
  have := dig1_nat n
  have := dig1_nat n'
  omega
theorem digs_lt (k : Nat) : ∀ (n n' : Int) (A B : List UInt8), 0 ≤ n → n < n' → n' < 10 ^ k → Bef (digs k n ++ A) (digs k n' ++ B) := by
  induction k with
  | zero => intro n n' A B h0 h1 h2; simp at h2; omega
  | succ k ih =>
    intro n n' A B h0 h1 h2
    rw [Int.pow_succ] at h2
    simp only [digs, List.append_assoc, List.singleton_append]
    by_cases h : n / 10 < n' / 10
    · exact ih _ _ _ _ (by omega) h (by omega)
    · have e : n / 10 = n' / 10 := by omega
      rw [e]
      exact Bef.pre (bl_head (dig_lt (by omega)) _ _) _
theorem txt_eq (y m d r : Int) : txt y m d r = digs 4 y ++ ([45] ++ (digs 2 m ++ ([45] ++ (digs 2 d ++ ([84] ++ (digs 2 (r / 3600) ++ ([58] ++ (digs 2 (r % 3600 / 60) ++ ([58] ++ (digs 2 (r % 60) ++ [90])))))))))) := by
  unfold txt; simp only [List.append_assoc]
theorem TX_lt {a b : Int} {l l' : List UInt8} (h : TX a l) (h' : TX b l') (hab : a < b) : Bef l l' := by
  obtain ⟨y, m, d, hv, hn, rfl⟩ := h
  obtain ⟨y', m', d', hv', hn', rfl⟩ := h'
  obtain ⟨v1, v2, v3, v4, v5, v6⟩ := vld_of hv
  obtain ⟨u1, u2, u3, u4, u5, u6⟩ := vld_of hv'
  have hL := (len_bd y' m').2
  rw [txt_eq, txt_eq]
  by_cases hd : dayN y m d < dayN y' m' d'
  · rcases day_lt hv hv' hd with g | ⟨rfl, g⟩
    · exact digs_lt 4 y y' _ _ (by omega) g (by show y' < 10000; omega)
    · refine Bef.pre (Bef.pre ?_ _) _
      rcases g with g | ⟨rfl, g⟩
      · exact digs_lt 2 m m' _ _ (by omega) g (by show m' < 100; omega)
      · refine Bef.pre (Bef.pre ?_ _) _
        exact digs_lt 2 d d' _ _ (by omega) g (by show d' < 100; omega)
  · obtain ⟨rfl, rfl, rfl⟩ := day_inj hv hv' (by omega)
    refine Bef.pre (Bef.pre (Bef.pre (Bef.pre (Bef.pre (Bef.pre ?_ _) _) _) _) _) _
    have q : a / 86400 = b / 86400 := by omega
    by_cases g1 : a % 86400 / 3600 < b % 86400 / 3600
    · exact digs_lt 2 _ _ _ _ (by omega) g1 (by show b % 86400 / 3600 < 100; omega)
    · have e1 : a % 86400 / 3600 = b % 86400 / 3600 := by omega
      rw [e1]
      refine Bef.pre (Bef.pre ?_ _) _
      by_cases g2 : a % 86400 % 3600 / 60 < b % 86400 % 3600 / 60
      · exact digs_lt 2 _ _ _ _ (by omega) g2 (by show b % 86400 % 3600 / 60 < 100; omega)
      · have e2 : a % 86400 % 3600 / 60 = b % 86400 % 3600 / 60 := by omega
        rw [e2]
        refine Bef.pre (Bef.pre ?_ _) _
        exact digs_lt 2 _ _ _ _ (by omega) (by omega) (by show b % 86400 % 60 < 100; omega)
theorem Bef.ne {x y : List UInt8} (h : Bef x y) : (x == y) = false ∧ (y == x) = false := by
  have hn : ¬ x = y := fun e => by subst e; have := h.1; rw [bl_same] at this; cases this
  have hn' : ¬ y = x := fun e => hn e.symm
  exact ⟨by simpa using hn, by simpa using hn'⟩
theorem toL (l : List UInt8) : (mkS l).toList = l := by rw [Lib.toList_data, data_mkS]

set_option maxHeartbeats 1000000 in
theorem walk (a0 a1 : Int) (w0 : (Lit.int .i64 a0).wf = true) (w1 : (Lit.int .i64 a1).wf = true) (w : World) :
    Calls Try.prog 7 #[.int .i64 a0, .int .i64 a1] w fun e w' => e = .returned (.bool true) ∧ Below w.heap.size w w' := by
  by_cases h0 : a0 < 0
  · skip
    go_enter Try.func7, Try.ntmps7
    go_wp2_with fail
    refine (awake_c _).mono ?_
    rintro e w9 ⟨rfl, hb9⟩
    have B9 := Lib.hid hb9
    clear hb9
    go_wp2
    go_ret
    exact ⟨rfl, B9.out⟩
  by_cases h1 : a1 < 0
  · have h0p : 0 ≤ a0 := by omega
    go_enter Try.func7, Try.ntmps7
    go_wp2_with fail
    refine (awake_c _).mono ?_
    rintro e w9 ⟨rfl, hb9⟩
    have B9 := Lib.hid hb9
    clear hb9
    go_wp2
    go_ret
    exact ⟨rfl, B9.out⟩
  by_cases h2 : 137438953472 < a0
  · have h0p : 0 ≤ a0 := by omega
    go_enter Try.func7, Try.ntmps7
    go_wp2_with fail
    refine (awake_c _).mono ?_
    rintro e w9 ⟨rfl, hb9⟩
    have B9 := Lib.hid hb9
    clear hb9
    go_wp2
    go_ret
    exact ⟨rfl, B9.out⟩
  by_cases h3 : 137438953472 < a1
  · have h0p : 0 ≤ a0 := by omega
    go_enter Try.func7, Try.ntmps7
    go_wp2_with fail
    refine (awake_c _).mono ?_
    rintro e w9 ⟨rfl, hb9⟩
    have B9 := Lib.hid hb9
    clear hb9
    go_wp2
    go_ret
    exact ⟨rfl, B9.out⟩
  have p0 : 0 ≤ a0 := by omega
  have p1 : 0 ≤ a1 := by omega
  have p2 : a0 ≤ 137438953472 := by omega
  have p3 : a1 ≤ 137438953472 := by omega
  clear h0 h1 h2 h3
  have HA := Lib.hid (fun W => print_yes a0 W p0 p2)
  have HB := Lib.hid (fun W => print_yes a1 W p1 p3)
  go_enter Try.func7, Try.ntmps7
  go_wp2_with fail
  refine (HA.out _).mono ?_
  rintro e w1 ⟨l, hl, rfl, hb1⟩
  have B1 := Lib.hid hb1
  clear hb1
  go_wp2_with fail
  refine (HB.out _).mono ?_
  rintro e w2 ⟨l', hl', rfl, hb2⟩
  have B2 := Lib.hid hb2
  clear hb2 HA HB
  rcases Int.lt_trichotomy a0 a1 with hc | hc | hc
  · have hn1 := TX_lt hl hl' hc
    have hn2 := hn1.ne
    have fl : Op.bytesLess (mkS l).toList (mkS l').toList = true := by rw [toL, toL]; exact hn1.1
    have fe : ((mkS l).toList == (mkS l').toList) = false := by rw [toL, toL]; exact hn2.1
    have fi : (a0 == a1) = false := by simp; omega
    clear hl hl' hn1 hn2
    revert fl fe
    generalize mkS l = x
    generalize mkS l' = y
    intro fl fe
    go_wp2_with fail
    refine (awake_c _).mono ?_
    rintro e w9 ⟨rfl, hb9⟩
    have B9 := Lib.hid hb9
    clear hb9
    go_wp2
    go_ret
    have C2 := B1.out.trans (B2.out.mono B1.out.size)
    exact ⟨rfl, C2.trans (B9.out.mono C2.size)⟩
  · subst hc
    obtain rfl := hl.one hl'
    have hn1 := True.intro
    have hn2 := True.intro
    have fl : Op.bytesLess (mkS l).toList (mkS l).toList = false := bl_same _
    clear hl hl' hn1 hn2
    revert fl
    generalize mkS l = x
    intro fl
    go_wp2_with fail
    refine (awake_c _).mono ?_
    rintro e w9 ⟨rfl, hb9⟩
    have B9 := Lib.hid hb9
    clear hb9
    go_wp2
    go_ret
    have C2 := B1.out.trans (B2.out.mono B1.out.size)
    exact ⟨rfl, C2.trans (B9.out.mono C2.size)⟩
  · have hn1 := TX_lt hl' hl hc
    have hn2 := hn1.ne
    have fl : Op.bytesLess (mkS l).toList (mkS l').toList = false := by rw [toL, toL]; exact hn1.2
    have fe : ((mkS l).toList == (mkS l').toList) = false := by rw [toL, toL]; exact hn2.2
    have fi : (a0 == a1) = false := by simp; omega
    have fd : decide (a0 < a1) = false := by simp; omega
    clear hl hl' hn1 hn2
    revert fl fe
    generalize mkS l = x
    generalize mkS l' = y
    intro fl fe
    go_wp2_with fail
    refine (awake_c _).mono ?_
    rintro e w9 ⟨rfl, hb9⟩
    have B9 := Lib.hid hb9
    clear hb9
    go_wp2
    go_ret
    have C2 := B1.out.trans (B2.out.mono B1.out.size)
    exact ⟨rfl, C2.trans (B9.out.mono C2.size)⟩

set_option maxRecDepth 100000 in
theorem lifted (os : Os) (started : os.Started) (H : Type) (enc : TypeId × Value → H) :
    ReturnsInHanded {} Try.checked os 7 .any (Rows.clockOrderSpec.pre6 enc Try.prog Try.f7 Rows.clockOrderRow.domain false) (Rows.clockOrderSpec.post enc Try.prog Try.f7 false true false false) := by
  refine returnsInHanded_of_change (C := Try.checked) own started (by kernel_rfl) Try.func7
    (ChangeSpec.witness6 (enc := enc) (C := Try.checked) false ⟨#[], #[.int .i64 0, .int .i64 0], []⟩ 8 (by kernel_rfl) (by kernel_rfl) (by kernel_rfl) (by kernel_rfl)) ?_
  intro W base args ds gs before hval0 hW hcnd _
  have hval : ∀ (j : Nat) t v, Try.f7.params[j]? = some t → args[j]? = some v → Value.okWide Try.prog W .any base t v := hval0
  have hW' := hW
  obtain ⟨p, q, hA0, hV, rfl, hfz, hnd⟩ := hW
  have hA : DataW.TrodAll enc Try.prog W 0 (fun _ => true) true Try.f7.params.toList args.toList ds p := hA0
  rw [Try.params7] at hA hval
  obtain ⟨v0, vs0, d0, ds0, p0, q0, hargs, rfl, rfl, h0, r0⟩ := trodAll_cons hA
  obtain ⟨v1, vs1, d1, ds1, p1, q1, rfl, rfl, rfl, h1, r1⟩ := trodAll_cons r0
  obtain ⟨rfl, rfl, rfl⟩ := trodAll_nil r1
  obtain rfl : args = #[v0, v1] := by cases args; simp_all
  obtain ⟨rfl, rfl⟩ := trodVars_none hV
  obtain ⟨a0, rfl, rfl, rfl, w0⟩ := open_int Try.underlying2 (hval 0 2 v0 rfl rfl) h0
  obtain ⟨a1, rfl, rfl, rfl, w1⟩ := open_int Try.underlying2 (hval 1 2 v1 rfl rfl) h1
  clear hA0 hval0
  refine (walk a0 a1 w0 w1 W).mono fun e W' ⟨he, bel⟩ => ?_
  subst he
  exact ⟨_, rfl, _, _, _, [], _, [], hW', trodAll_mk1 (shut_bool Try.underlying4 _), (trodAll_cons_mk (shut_int Try.underlying2 w0) (trodAll_cons_mk (shut_int Try.underlying2 w1) trodAll_mk0)), rfl, bel.frame _, fun h => by cases h⟩

theorem over : Rows.clockOrderRow.holds Try.pinned (OpenSpec.ofChange Rows.clockOrderSpec) :=
  OpenClaim.holds_of_wide 7 Try.f7 rfl rfl rfl rfl rfl rfl rfl ⟨rfl, rfl, rfl, rfl, rfl⟩ rfl rfl rfl rfl rfl (by kernel_rfl) Try.func7 (by kernel_rfl)
    (of_decide_eq_true (by kernel_rfl)) (by unfold Func.isWrapper; first | (rw [if_pos (by decide +kernel)]; kernel_rfl) | (rw [if_neg (by decide +kernel)]; exact ⟨rfl, rfl⟩))
    (fun os started H enc _ => lifted os started H enc)

end Go.Proofs.Ytljcbnjidjcagaa.clockOrder
namespace Go.Proofs.Ytljcbnjidjcagaa
theorem clockOrder_holds : Rows.ClockOrderSaid := clockOrder.over
#print axioms clockOrder_holds
end Go.Proofs.Ytljcbnjidjcagaa
