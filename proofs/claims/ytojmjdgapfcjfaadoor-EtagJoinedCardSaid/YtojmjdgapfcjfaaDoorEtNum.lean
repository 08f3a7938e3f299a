/- Contracts of package etag's Number and of the statements' notNumber: for every mark whose text has at most nine hundred bytes; where the library's tables lie as the program's text lays them. -/
import Derived.Test.YtojmjdgapfcjfaaDoorEtPrint
import Derived.Test.YtojmjdgapfcjfaaDoorNuBack
namespace Go.Proofs.YtojmjdgapfcjfaaDoor.Et
open Go.RowKit Ch
set_option linter.unusedSimpArgs false
set_option linter.unusedVariables false

def nmL (b : Bool) (l : List UInt8) : Option Int := if Nu.pE (Lib.trimPrefix l [118]) = 0 ∧ b = false ∧ l = 118 :: Lib.itoa (Nu.pN (Lib.trimPrefix l [118])) then some (Nu.pN (Lib.trimPrefix l [118])) else none
def nmV (q : Option Int) : Ending := match q with
  | some n => .returned (.tuple #[.int .i64 n, .bool true])
  | none => .returned (.tuple #[.int .i64 0, .bool false])
theorem new2 (w : World) (a b : Value) (T : TypeId) : (w.alloc (.cells #[a, b] T)).cell? ⟨w.heap.size, 0, none⟩ = some a ∧ (w.alloc (.cells #[a, b] T)).cell? ⟨w.heap.size, 1, none⟩ = some b := by
  have hk := heap_alloc_new w (.cells #[a, b] T)
  exact ⟨cell_of_row _ _ 0 _ _ _ hk, cell_of_row _ _ 1 _ _ _ hk⟩
def NmK (w : World) (W : World) : Prop := Nu.Tabs W ∧ Below w.heap.size w W ∧ w.heap.size < W.heap.size
theorem NmK.go {w W W' : World} (h : NmK w W) (hb : Below W.heap.size W W') : NmK w W' := ⟨h.1.go hb, h.2.1.trans (hb.mono h.2.1.size), Nat.lt_of_lt_of_le h.2.2 hb.size⟩
theorem bel_drew (W : World) : Below W.heap.size W W.drew := ⟨rfl, rfl, rfl, Nat.le_refl _, fun _ _ => rfl⟩
theorem NmK.drew {w W : World} (h : NmK w W) : NmK w W.drew := h.go (bel_drew W)
set_option maxRecDepth 100000 in
set_option maxHeartbeats 2000000 in
theorem num_e (b : Bool) (x sp : ByteArray) (n er : Int) (w : World)
    (HTP : Hid (∀ W, Calls Tryd.prog 32 #[.string x, .string ⟨#[118]⟩] W fun e w' => e = .returned (.string sp) ∧ w' = W))
    (HP : Hid (∀ W, Calls Tryd.prog 31 #[.string sp] W fun e w' => e = .returned (.tuple #[.int .i64 n, .int .i64 er]) ∧ W = w'))
    (he : (er == 0) = false) (hne : (er != 0) = true) :
    Calls Tryd.prog 19 #[.agg #[.bool b, .string x]] w fun e w' => e = .returned (.tuple #[.int .i64 0, .bool false]) ∧ Below w.heap.size w w' := by
  go_enter Tryd.func19, Tryd.ntmps19
  go_wp2_with fail
  refine (HTP.out _).mono ?_
  rintro e w1 ⟨rfl, hw⟩
  rw [hw]; clear hw
  go_wp2_with fail
  refine (HP.out _).mono ?_
  rintro e w2 ⟨rfl, hw⟩
  rw [← hw]; clear hw
  go_wp2_with fail
  go_quiet (fail)
  go_wp2
  go_ret2
  exact ⟨rfl, by have := (Below.refl w.heap.size w).alloc (Nat.le_refl _) (.cells #[.bool b, .string x] 28); exact ⟨this.os, this.tape, this.output, this.size, this.block⟩⟩
set_option maxRecDepth 100000 in
set_option maxHeartbeats 4000000 in
theorem num_o (b : Bool) (x sp sv : ByteArray) (n : Int) (w : World)
    (HTP : Hid (∀ W, Calls Tryd.prog 32 #[.string x, .string ⟨#[118]⟩] W fun e w' => e = .returned (.string sp) ∧ w' = W))
    (HP : Hid (∀ W, Calls Tryd.prog 31 #[.string sp] W fun e w' => e = .returned (.tuple #[.int .i64 n, .int .i64 0]) ∧ W = w'))
    (HOF : Hid (∀ W, Nu.Tabs W → Calls Tryd.prog 18 #[.int .i64 n] W fun e w' => e = .returned (.agg #[.bool false, .string sv]) ∧ Below W.heap.size W w'))
    (HT : Hid (Nu.Tabs w)) (r : Bool) (hr : (b = true ∧ r = false) ∨ (b = false ∧ r = true ∧ x = sv) ∨ (b = false ∧ r = false ∧ (x.toList == sv.toList) = false)) :
    Calls Tryd.prog 19 #[.agg #[.bool b, .string x]] w fun e w' => e = .returned (.tuple #[.int .i64 (if r = true then n else 0), .bool r]) ∧ Below w.heap.size w w' := by
  have hs := stood
  have HW : Hid (∃ W, W = w.alloc (.cells #[.bool b, .string x] 28) ∧ W.cell? ⟨w.heap.size, 0, none⟩ = some (.bool b) ∧ W.cell? ⟨w.heap.size, 1, none⟩ = some (.string x) ∧ NmK w W) := by
    have hb : Below w.heap.size w (w.alloc (.cells #[.bool b, .string x] 28)) := (Below.refl _ _).alloc (Nat.le_refl _) _
    exact ⟨_, rfl, (new2 w _ _ _).1, (new2 w _ _ _).2, HT.out.go hb, hb, by rw [World.size_alloc]; exact Nat.lt_succ_self _⟩
  obtain ⟨W, hW, k0, k1, hK⟩ := HW.out
  have HK := Lib.hid hK
  have HWE := Lib.hid hW
  clear HW hW hK HT
  rcases hr with ⟨rfl, rfl⟩ | ⟨rfl, rfl, rfl⟩ | ⟨rfl, rfl, hq⟩
  · show Calls _ _ _ _ fun e w' => e = .returned (.tuple #[.int .i64 0, .bool false]) ∧ _
    go_enter Tryd.func19, Tryd.ntmps19
    go_wp2_with fail
    refine (HTP.out _).mono ?_
    rintro e w1 ⟨rfl, hw⟩
    rw [hw]; clear hw
    go_wp2_with fail
    refine (HP.out _).mono ?_
    rintro e w2 ⟨rfl, hw⟩
    rw [← hw]; clear hw
    go_wp2_with fail
    rw [← HWE.out]
    clear HWE
    go_region_held3 (fun V => V.cell? ⟨w.heap.size, 0, none⟩ = some (.bool true) ∧ V.cell? ⟨w.heap.size, 1, none⟩ = some (.string x) ∧ NmK w V)
      (first | exact ⟨k03, k13, HK3.out⟩ | exact ⟨k0, k1, HK.out.drew⟩)
      (first | (go_at_call 18; refine (HOF.out _ HK.out.drew.1).mono ?_; rintro e w3 ⟨rfl, hb3⟩; have HK3 := Lib.hid (HK.out.drew.go hb3); have k03 := (hb3.cell (p := ⟨w.heap.size, 0, none⟩) HK.out.2.2).trans k0; have k13 := (hb3.cell (p := ⟨w.heap.size, 1, none⟩) HK.out.2.2).trans k1; clear hb3))
    go_wp2
    go_ret2
    exact ⟨rfl, HK3.out.2.1⟩
  · show Calls _ _ _ _ fun e w' => e = .returned (.tuple #[.int .i64 n, .bool true]) ∧ _
    go_enter Tryd.func19, Tryd.ntmps19
    go_wp2_with fail
    refine (HTP.out _).mono ?_
    rintro e w1 ⟨rfl, hw⟩
    rw [hw]; clear hw
    go_wp2_with fail
    refine (HP.out _).mono ?_
    rintro e w2 ⟨rfl, hw⟩
    rw [← hw]; clear hw
    go_wp2_with fail
    rw [← HWE.out]
    clear HWE
    go_region_held3 (fun V => V.cell? ⟨w.heap.size, 0, none⟩ = some (.bool false) ∧ V.cell? ⟨w.heap.size, 1, none⟩ = some (.string x) ∧ NmK w V)
      (first | exact ⟨k03, k13, HK3.out⟩ | exact ⟨k0, k1, HK.out.drew⟩)
      (first | (go_at_call 18; refine (HOF.out _ HK.out.drew.1).mono ?_; rintro e w3 ⟨rfl, hb3⟩; have HK3 := Lib.hid (HK.out.drew.go hb3); have k03 := (hb3.cell (p := ⟨w.heap.size, 0, none⟩) HK.out.2.2).trans k0; have k13 := (hb3.cell (p := ⟨w.heap.size, 1, none⟩) HK.out.2.2).trans k1; clear hb3))
    go_wp2
    go_ret2
    exact ⟨rfl, HK3.out.2.1⟩
  · show Calls _ _ _ _ fun e w' => e = .returned (.tuple #[.int .i64 0, .bool false]) ∧ _
    go_enter Tryd.func19, Tryd.ntmps19
    go_wp2_with fail
    refine (HTP.out _).mono ?_
    rintro e w1 ⟨rfl, hw⟩
    rw [hw]; clear hw
    go_wp2_with fail
    refine (HP.out _).mono ?_
    rintro e w2 ⟨rfl, hw⟩
    rw [← hw]; clear hw
    go_wp2_with fail
    rw [← HWE.out]
    clear HWE
    go_region_held3 (fun V => V.cell? ⟨w.heap.size, 0, none⟩ = some (.bool false) ∧ V.cell? ⟨w.heap.size, 1, none⟩ = some (.string x) ∧ NmK w V)
      (first | exact ⟨k03, k13, HK3.out⟩ | exact ⟨k0, k1, HK.out.drew⟩)
      (first | (go_at_call 18; refine (HOF.out _ HK.out.drew.1).mono ?_; rintro e w3 ⟨rfl, hb3⟩; have HK3 := Lib.hid (HK.out.drew.go hb3); have k03 := (hb3.cell (p := ⟨w.heap.size, 0, none⟩) HK.out.2.2).trans k0; have k13 := (hb3.cell (p := ⟨w.heap.size, 1, none⟩) HK.out.2.2).trans k1; clear hb3))
    go_wp2
    go_ret2
    exact ⟨rfl, HK3.out.2.1⟩
theorem trimP_v (l : List UInt8) : Lib.trimPrefix (118 :: l) [118] = l := by
  unfold Lib.trimPrefix Lib.hasPrefix
  simp [List.isPrefixOf]
theorem nm_len (l : List UInt8) : (Lib.trimPrefix l [118]).length ≤ l.length := by unfold Lib.trimPrefix; split <;> simp
theorem nmV_no {q : Option Int} (h : q = none) : nmV q = .returned (.tuple #[.int .i64 0, .bool false]) := by subst h; rfl
theorem nmV_yes {q : Option Int} {n : Int} (h : q = some n) : nmV q = .returned (.tuple #[.int .i64 n, .bool true]) := by subst h; rfl
theorem Number_c (b : Bool) (x : ByteArray) (w : World) (hx : x.size ≤ 900) (hT : Nu.Tabs w) : Calls Tryd.prog 19 #[.agg #[.bool b, .string x]] w fun e w' => e = nmV (nmL b x.data.toList) ∧ Below w.heap.size w w' := by
  have hl := nm_len x.data.toList
  have hxl : x.data.toList.length ≤ 900 := by rw [← Lib.size_eq]; exact hx
  have HTP := Lib.hid (fun W => Any.strings_TrimPrefix Tryd.lays101 x ⟨#[118]⟩ W)
  rw [show (ByteArray.mk #[118]).data.toList = [118] from rfl] at HTP
  have HP := Lib.hid (fun W => Nu.parse_c (mkS (Lib.trimPrefix x.data.toList [118])) W (by rw [size_mkS]; omega))
  rw [data_mkS] at HP
  obtain ⟨hb0, hb1⟩ := Nu.pN_bd (Lib.trimPrefix x.data.toList [118])
  by_cases he : Nu.pE (Lib.trimPrefix x.data.toList [118]) = 0
  · rw [he] at HP
    have HOF := Lib.hid (fun W h => Of_c (Nu.pN (Lib.trimPrefix x.data.toList [118])) W hb0 hb1 h)
    cases b with
    | true =>
      have e : nmL true x.data.toList = none := by unfold nmL; rw [if_neg (fun h => by cases h.2.1)]
      rw [nmV_no e]
      exact num_o true x _ _ _ w HTP HP HOF hT false (.inl ⟨rfl, rfl⟩)
    | false =>
      by_cases h : x.data.toList = 118 :: Lib.itoa (Nu.pN (Lib.trimPrefix x.data.toList [118]))
      · have e : nmL false x.data.toList = some (Nu.pN (Lib.trimPrefix x.data.toList [118])) := by unfold nmL; rw [if_pos ⟨he, rfl, h⟩]
        rw [nmV_yes e]
        exact num_o false x _ _ _ w HTP HP HOF hT true (.inr (.inl ⟨rfl, rfl, mkS_of h⟩))
      · have e : nmL false x.data.toList = none := by unfold nmL; rw [if_neg (fun g => h g.2.2)]
        rw [nmV_no e]
        exact num_o false x _ _ _ w HTP HP HOF hT false (.inr (.inr ⟨rfl, rfl, by rw [Lib.toList_data, Lib.toList_data, data_mkS]; simpa using h⟩))
  · have e : nmL b x.data.toList = none := by unfold nmL; rw [if_neg (fun g => he g.1)]
    rw [nmV_no e]
    exact num_e b x _ _ _ w HTP HP (by simpa using he) (by simpa using he)
def nnB (l : List UInt8) : Bool := !(decide (Nu.pE l = 0) && decide (Lib.itoa (Nu.pN l) = l))
set_option maxRecDepth 100000 in
set_option maxHeartbeats 2000000 in
theorem notNumber_c (s : ByteArray) (w : World) (hx : s.size ≤ 900) : Calls Tryd.prog 21 #[.string s] w fun e w' => e = .returned (.bool (nnB s.data.toList)) ∧ Below w.heap.size w w' := by
  have HP := Lib.hid (fun W => Nu.parse_r s W (by omega))
  obtain ⟨hb0, hb1⟩ := Nu.pN_bd s.data.toList
  have HPR := Lib.hid (fun W => Nu.print_r (Nu.pN s.data.toList) W hb0 hb1)
  unfold nnB
  by_cases he : Nu.pE s.data.toList = 0
  · rw [he] at HP
    have HQ : Hid (((mkS (Lib.itoa (Nu.pN s.data.toList))).toList == s.toList) = decide (Lib.itoa (Nu.pN s.data.toList) = s.data.toList)) := by
      show ((mkS (Lib.itoa (Nu.pN s.data.toList))).toList == s.toList) = _
      rw [Lib.toList_data, Lib.toList_data, data_mkS]
      by_cases h : Lib.itoa (Nu.pN s.data.toList) = s.data.toList <;> simp [h]
    rw [he, show decide ((0 : Int) = 0) = true from rfl, Bool.true_and]
    clear he
    revert HP HPR HQ
    rw [show Nu.mkS (Lib.itoa (Nu.pN s.data.toList)) = mkS (Lib.itoa (Nu.pN s.data.toList)) from rfl]
    generalize decide (Lib.itoa (Nu.pN s.data.toList) = s.data.toList) = q
    generalize mkS (Lib.itoa (Nu.pN s.data.toList)) = sn
    intro HP HPR HQ
    have hq := HQ.out
    clear HQ
    go_enter Tryd.func21, Tryd.ntmps21
    go_wp2_with fail
    refine (HP.out _).mono ?_
    rintro e w1 ⟨rfl, hw⟩
    rw [← hw]; clear hw
    go_wp2_with fail
    refine (HPR.out _).mono ?_
    rintro e w2 ⟨rfl, hb2⟩
    have HB := Lib.hid hb2
    clear hb2
    go_wp2
    go_ret
    exact ⟨by cases q <;> simp_all, HB.out⟩
  · rw [decide_eq_false he, Bool.false_and]
    show Calls _ _ _ _ fun e w' => e = .returned (.bool true) ∧ _
    have h1 : (Nu.pE s.data.toList == 0) = false := by simpa using he
    have h2 : (Nu.pE s.data.toList != 0) = true := by simpa using he
    clear he HPR
    revert HP h1 h2
    generalize Nu.pE s.data.toList = er
    intro HP h1 h2
    go_enter Tryd.func21, Tryd.ntmps21
    go_wp2_with fail
    refine (HP.out _).mono ?_
    rintro e w1 ⟨rfl, hw⟩
    rw [← hw]; clear hw
    go_wp2
    go_ret
    exact ⟨rfl, Below.refl _ _⟩
end Go.Proofs.YtojmjdgapfcjfaaDoor.Et
