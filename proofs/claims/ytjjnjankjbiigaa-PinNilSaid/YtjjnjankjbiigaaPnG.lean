/- Contracts of maps.DeleteFunc at the pins' map, and of package pin's Expire: at all pins of the call's own, and at none; no other condition. -/
import Derived.Test.YtjjnjankjbiigaaPnF
namespace Go.Proofs.Ytjjnjankjbiigaa.Pn
open Go.RowKit Go.Lib Go.Maps
set_option linter.unusedSimpArgs false
set_option linter.unusedVariables false

set_option maxRecDepth 100000 in
theorem clo_c (q : Nat) (now k y z : Int) (w : World) (hq : w.cell? ⟨q, 0, none⟩ = some (.int .i64 now)) (hql : q < w.heap.size) :
    Calls Try.prog 26 #[.int .i64 k, .agg #[.int .i64 y, .int .i64 z], .pointer (some ⟨q, 0, none⟩)] w fun e w' => e = .returned (.bool (decide (z ≤ now))) ∧ Below w.heap.size w w' := by
  obtain ⟨W, hW, hk, hb⟩ := new2 w (.int .i64 y) (.int .i64 z) 52
  obtain ⟨d0, d1⟩ := cells2 hk
  have hq2 : W.cell? ⟨q, 0, none⟩ = some (.int .i64 now) := (hb.cell (p := ⟨q, 0, none⟩) hql).trans hq
  have HW := Lib.hid hW
  have HB := Lib.hid hb
  clear hW hk hb
  go_enter Try.func26, Try.ntmps26
  go_upto_region 1 with (fail)
  rw [← HW.out]
  go_wp2
  go_ret
  exact ⟨rfl, HB.out⟩
/-- those that stay, or are still to come -/
def exF (l : List Pin) (now : Int) (left : Lit → Bool) (i : Int) : Option (Int × Int) := (att l i).filter fun x => left (.int .i64 i) || decide (now < x.2)
theorem exF_some {l : List Pin} {now : Int} {left : Lit → Bool} {i : Int} {x : Int × Int} (h : exF l now left i = some x) : att l i = some x := (Option.filter_eq_some_iff.1 h).1
theorem sk_self (x : Int) : Lit.sameKey (.int .i64 x) (.int .i64 x) = true := WideAt.sameKey_self (a := .int .i64 x) trivial
theorem sk_ne {i x : Int} (h : i ≠ x) : Lit.sameKey (.int .i64 i) (.int .i64 x) = false := sameKey_ne (fun e => h (by injection e))
theorem exF_gone {l : List Pin} {now : Int} {left : Lit → Bool} {x y z : Int} (hx : att l x = some (y, z)) (hz : z ≤ now) (j : Int) : (if j = x then none else exF l now left j) = exF l now (fun k => left k && !k.sameKey (.int .i64 x)) j := by
  by_cases e : j = x
  · subst e
    rw [if_pos rfl]
    unfold exF
    rw [hx]
    simp only [sk_self, Bool.not_true, Bool.and_false, Bool.false_or]
    symm
    rw [Option.filter_eq_none_iff]
    intro a ha
    injection ha with ha; subst ha
    simpa using hz
  · rw [if_neg e]
    unfold exF
    simp only [sk_ne e, Bool.not_false, Bool.and_true]
theorem exF_stays {l : List Pin} {now : Int} {left : Lit → Bool} {x y z : Int} (hx : att l x = some (y, z)) (hz : ¬ z ≤ now) (j : Int) : exF l now left j = exF l now (fun k => left k && !k.sameKey (.int .i64 x)) j := by
  by_cases e : j = x
  · subst e
    unfold exF
    rw [hx]
    have : decide (now < z) = true := decide_eq_true (by omega)
    simp [Option.filter, this]
  · unfold exF
    simp only [sk_ne e, Bool.not_false, Bool.and_true]
theorem exF_end {l : List Pin} {now : Int} {left : Lit → Bool} (h : ∀ k, left k = false) (j : Int) : exF l now left j = att (expL l now) j := by
  rw [att_exp]; unfold exF; simp only [h, Bool.false_or]
set_option maxRecDepth 100000 in
set_option maxHeartbeats 2000000 in
theorem DeleteFunc_c (b q : Nat) (l : List Pin) (now : Int) (w : World) (hS : SetP b l w) (hq : w.cell? ⟨q, 0, none⟩ = some (.int .i64 now)) (hql : q < w.heap.size) (hqb : q ≠ b) :
    Calls Try.prog 25 #[.map (some b), .func (.func 26) #[] #[.pointer (some ⟨q, 0, none⟩)]] w fun e w' => e = .returned (.tuple #[]) ∧ SetP b (expL l now) w' ∧ w.grownBy w' (some b) := by
  obtain ⟨D, hown, hmap⟩ := hS
  have hbl := hown.lt
  have H0 : Hid (MapOf D (exF l now (Maps.has D))) := by
    refine hmap.congr fun i => ?_
    unfold exF
    cases e : att l i with
    | none => rfl
    | some x =>
      have : Maps.has D (.int .i64 i) = true := by
        rw [hmap.has]
        show (att l i).isSome = true
        rw [e]; rfl
      simp [Option.filter, this]
  obtain ⟨N, hN⟩ : ∃ N, N = Maps.size D := ⟨_, rfl⟩
  rw [← hN] at hown
  have HO := Lib.hid hown
  clear hown hmap hN
  go_enter Try.func25, Try.ntmps25
  go_wp2_with (at_range; refine wpList_range_own _ rfl _ _ rfl 2 52 law Try.underlying46 holdE b _ D rfl HO.out ?_; intro w2 hrg hg2 hs2; clear HO)
  go_frame
  obtain ⟨rb, hrb⟩ : ∃ rb, rb = w.heap.size := ⟨_, rfl⟩
  rw [← hrb] at hrg ⊢
  have HG2 := Lib.hid hg2
  have HRB := Lib.hid hrb
  have HRG := Lib.hid hrg
  clear hrg hg2 hs2 hrb
  go_loopw [5] (fun v wr => ∃ left ct D', Hid (MapOf D' (exF l now left)) ∧ Hid (wr.ranges Try.prog 2 holdE b rb N D' left ct) ∧ Hid (w.grownBy wr (some b))) (fun _ wr => wr.rangeLeft b rb)
  case atStart => exact ⟨_, _, _, H0, HRG, HG2.out.but _⟩
  case round =>
    obtain ⟨left, ct, D', HM, HR, HGW⟩ := hrel
    clear HRG HG2 H0
    go_wp2_with (at_next; refine wpList_next_hold _ rfl _ rfl b rb N D' left ct rfl HR.out ?_ ?_)
    · intro _ hl0
      have HF : Hid (SetP b (expL l now) wr) := ⟨D', owns_tight HR.out.owns, HM.out.congr fun i => exF_end hl0 i⟩
      go_wp2
      go_end0
      exact ⟨rfl, HF.out, HGW.out⟩
    · intro x y z w3 ct' hwx hlx hat hrg3 hlt hg3 hs3 hen
      have hex : exF l now left x = some (y, z) := by
        have h1 := has_true_of_atKey (fun zd => hat zd)
        rw [HM.out.has] at h1
        obtain ⟨p, hp⟩ := Option.isSome_iff_exists.1 h1
        have := HM.out.at' x p hp (hd 0 0)
        rw [hat] at this
        obtain ⟨e1, e2⟩ := hd_inj this
        rw [hp, e1, e2]
      have hatt := exF_some hex
      have hg03 : w.grownBy w3 (some b) := HGW.out.andThen hg3 (fun j hj => by injection hj with hj; have := HRB.out; exact .inl (by omega))
      obtain ⟨W4, hW4, hk4, hb4⟩ := new2 w3 (.int .i64 y) (.int .i64 z) 52
      obtain ⟨d0, d1⟩ := cells2 hk4
      have hg04 : w.grownBy W4 (some b) := by rw [hW4]; exact hg03.andThen (World.grownBy_alloc _ _ none) (fun j hj => by cases hj)
      have hR4 : W4.ranges Try.prog 2 holdE b rb N D' (fun k => left k && !k.sameKey (.int .i64 x)) ct' := by rw [hW4]; exact hrg3.alloc _
      have hq4 : W4.cell? ⟨q, 0, none⟩ = some (.int .i64 now) := by
        rw [World.cell?_of_block (w := w) (a := ⟨q, 0, none⟩) (hg04.block q hql (fun e => hqb (by injection e)))]; exact hq
      have HC := Lib.hid (clo_c q now x y z W4 hq4 (Nat.lt_of_lt_of_le hql hg04.size))
      have HLT : Hid (ct' < wr.rangeLeft b rb) := by show _ < _; rw [HR.out.left_eq]; exact hlt
      have HW4 := Lib.hid hW4
      have HR4 := Lib.hid hR4
      have HG4 := Lib.hid hg04
      clear hW4 hk4 hb4 hrg3 hg3 hs3 hat hex hg03 hg04 hR4 hq4 HR HGW hlt
      go_upto_region 3 with (fail)
      rw [← HW4.out]
      clear hen
      by_cases hz : z ≤ now
      · rw [decide_eq_true hz] at HC
        have HM5 : Hid (MapOf (D'.del (.int .i64 x)) (exF l now (fun k => left k && !k.sameKey (.int .i64 x)))) := (HM.out.del x).congr (exF_gone hatt hz)
        go_wp2_with fail
        refine HC.out.mono ?_
        rintro e w5 ⟨rfl, hb5⟩
        have HR5 := Lib.hid (HR4.out.kept (row := none) ⟨hb5.os, hb5.tape, hb5.output, hb5.size, fun k hk _ => hb5.block k hk⟩ (by simp) (by simp))
        have HG5 : Hid (w.grownBy w5 (some b)) := HG4.out.andThen (row' := none) ⟨hb5.os, hb5.tape, hb5.output, hb5.size, fun k hk _ => hb5.block k hk⟩ (fun j hj => by cases hj)
        clear hb5 HC HR4 HG4 d0 d1
        go_wp2_with (at_delete; refine wpList_delete_ranges _ rfl _ _ 46 2 rfl 52 law Try.underlying46 holdE b rb N _ _ _ rfl HR5.out _ _ rfl (keyOf_int_mk Try.underlying2 hwx) ?_; intro w6 ct6 hrg6 hle6 hturn6; go_frame)
        rw [strike_twice] at hrg6
        have HR6 := Lib.hid hrg6
        have HG6 : Hid (w.grownBy w6 (some b)) := HG5.out.andThen hturn6.grown (fun j hj => .inr hj)
        have HLE : Hid (w6.rangeLeft b rb < wr.rangeLeft b rb) := by show _ < _; rw [HR6.out.left_eq]; have := HLT.out; omega
        clear hrg6 hle6 hturn6 HR5 HG5
        go_wp2
        go_roundw
        case rel => exact ⟨_, _, _, HM5, HR6, HG6⟩
        case measure => exact HLE.out
      · rw [decide_eq_false hz] at HC
        have HM5 : Hid (MapOf D' (exF l now (fun k => left k && !k.sameKey (.int .i64 x)))) := HM.out.congr (exF_stays hatt hz)
        go_wp2_with fail
        refine HC.out.mono ?_
        rintro e w5 ⟨rfl, hb5⟩
        have HR5 := Lib.hid (HR4.out.kept (row := none) ⟨hb5.os, hb5.tape, hb5.output, hb5.size, fun k hk _ => hb5.block k hk⟩ (by simp) (by simp))
        have HG5 : Hid (w.grownBy w5 (some b)) := HG4.out.andThen (row' := none) ⟨hb5.os, hb5.tape, hb5.output, hb5.size, fun k hk _ => hb5.block k hk⟩ (fun j hj => by cases hj)
        have HLE : Hid (w5.rangeLeft b rb < wr.rangeLeft b rb) := by show _ < _; rw [HR5.out.left_eq]; exact HLT.out
        clear hb5 HC HR4 HG4 d0 d1
        go_wp2
        go_roundw
        case rel => exact ⟨_, _, _, HM5, HR5, HG5⟩
        case measure => exact HLE.out
theorem Expire_nil (now : Int) (w : World) : Calls Try.prog 19 #[.pointer none, .int .i64 now] w fun e w' => e = .returned (.int .i64 0) ∧ Below w.heap.size w w' := by
  obtain ⟨W, hW, hk, hb⟩ := new1 w (.int .i64 now) 2
  have HB := Lib.hid hb
  have HW := Lib.hid hW
  clear hW hk hb
  go_enter Try.func19, Try.ntmps19
  go_wp2
  rw [← HW.out]
  go_ret
  exact ⟨rfl, HB.out⟩
theorem expL_nil (now : Int) : expL [] now = [] := rfl
set_option maxRecDepth 100000 in
set_option maxHeartbeats 2000000 in
theorem DeleteFunc_nil (fn : Value) (w : World) :
    Calls Try.prog 25 #[.map none, fn] w fun e w' => e = .returned (.tuple #[]) ∧ Below w.heap.size w w' := by
  have hr := run_range_nilMap (P := Try.prog) w 46 2 52 Try.underlying46
  have hn := fun ty => run_next_nilMap (P := Try.prog) w ty 0 0 #[]
  have hb : Below w.heap.size w (w.alloc (.mapIter none 0 #[] 0)) := (Below.refl _ _).alloc (Nat.le_refl _) _
  have HB := Lib.hid hb
  clear hb
  go_enter Try.func25, Try.ntmps25
  go_wp2
  refine wp_loop_rounds 1 ?_
  rw [rounds_succ]
  go_wp2
  go_end0
  exact ⟨rfl, HB.out⟩
set_option maxRecDepth 100000 in
set_option maxHeartbeats 2000000 in
theorem Expire_c {B c : Nat} {mb : Option Nat} {m : Int} {l : List Pin} {w : World} (h : IsPn B c mb m l w) (now : Int) (hl : l.length ≤ 1000000) : Calls Try.prog 19 #[.pointer (some ⟨c, 0, none⟩), .int .i64 now] w (DrQ B c mb m (expL l now) (.int .i64 (expN l now : Nat)) w) := by
  have hcl := h.lt
  have hsum := cnt_exp l now
  have hcnt := cnt_le l
  obtain ⟨W, hW, hk, hb⟩ := new1 w (.int .i64 now) 2
  have hq := cells1 hk
  have h1 := h.go hb
  have hqs : w.heap.size < W.heap.size := (Array.getElem?_eq_some_iff.1 hk).1
  obtain ⟨c0, c1, c2⟩ := cells3 h1.ob
  have hlen1 : (Builtin.len_ #[46] 3 #[.map mb]).run Try.prog W = .ok (.int .i64 (cnt l)) W := h1.len _
  have hD : Hid (Calls Try.prog 25 #[.map mb, .func (.func 26) #[] #[.pointer (some ⟨w.heap.size, 0, none⟩)]] W fun e w' => e = .returned (.tuple #[]) ∧ IsPn B c mb m (expL l now) w' ∧ Ch c mb w w') := by
    rcases h1.mp with ⟨rfl, rfl⟩ | ⟨b, rfl, hB, hS⟩
    · refine (DeleteFunc_nil _ W).mono ?_
      rintro e w' ⟨rfl, hb2⟩
      exact ⟨rfl, h1.go hb2, (Ch.of hb).chain hb2⟩
    · have hbw : b < w.heap.size := (h.row b rfl).2
      refine (DeleteFunc_c b w.heap.size l now W hS hq hqs (by omega)).mono ?_
      rintro e w' ⟨rfl, hS2, hg2⟩
      refine ⟨rfl, ⟨?_, h.ne, .inr ⟨b, rfl, hB, hS2⟩⟩, (Ch.of hb).tr (Ch.grown hg2)⟩
      rw [hg2.block c (Nat.lt_of_lt_of_le hcl hb.size) (fun e => h.ne e.symm), h1.ob, expL_len]
  have HFIN : Hid (∀ w', IsPn B c mb m (expL l now) w' → (Builtin.len_ #[46] 3 #[.map mb]).run Try.prog w' = .ok (.int .i64 (cnt (expL l now))) w') := fun w' h => h.len _
  have HW := Lib.hid hW
  clear hW hk hq h1 h hb
  have hsub : (cnt l : Int) - (cnt (expL l now) : Nat) = (expN l now : Nat) := by omega
  rw [← hsub]
  have hb1 : (cnt l : Int) ≤ 1000000 := by omega
  have hb2 : (cnt (expL l now) : Int) ≤ (cnt l : Int) := by omega
  clear hsum hcnt hsub
  revert hlen1 HFIN hb1 hb2 hD
  generalize cnt (expL l now) = k2
  generalize cnt l = k1
  intro hlen1 hD HFIN hb1 hb2
  go_enter Try.func19, Try.ntmps19
  go_upto_region 3 with (fail)
  rw [← HW.out]
  go_wp2_with fail
  refine hD.out.mono ?_
  rintro e w2 ⟨rfl, hi2, hch2⟩
  have hl2 := HFIN.out w2 hi2
  obtain ⟨g0, g1, g2⟩ := cells3 hi2.ob
  have HI := Lib.hid hi2
  have HC := Lib.hid hch2
  clear hi2 hch2 hD hlen1 HFIN c0 c1 c2
  go_wp2
  go_ret
  exact ⟨rfl, HI.out, HC.out⟩
end Go.Proofs.Ytjjnjankjbiigaa.Pn
