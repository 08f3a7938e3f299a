/- Contracts of package pin's Least, Expire, and of maps.DeleteFunc at its map: at all pins of the call's own, and at none; no other condition. -/
import Derived.Test.YtjjnjankjbiigaaPnE
namespace Go.Proofs.Ytjjnjankjbiigaa.Pn
open Go.RowKit Go.Lib Go.Maps
set_option linter.unusedSimpArgs false
set_option linter.unusedVariables false

section
variable {P : Program} (w : World) {ops : Array Oper} {rest : List Oper} {o : Oper} {a : Act} {Q : Exit → Act → World → Prop}
/-- the step of a range over the map -/
theorem wpList_next_hold (hg : o.guard = none) (it : Operand) (hop : o.op = Op.next it false)
    (b r n : Nat) (D : DataW Unit) (left : Lit → Bool) (cnt : Nat) (hit : a.eval it = .pointer (some ⟨r, 0, none⟩)) (h : w.ranges Try.prog 2 holdE b r n D left cnt)
    (hDone : cnt = 0 → (∀ kl, left kl = false) → wpList Try.prog ops Q rest (a.put o.dst (.tuple #[.bool false])) w)
    (hMore : ∀ (x y z : Int) (w' : World) (cnt' : Nat), (Lit.int .i64 x).wf = true → left (.int .i64 x) = true → (∀ zd, D.atKey (.int .i64 x) zd = hd y z) → w'.ranges Try.prog 2 holdE b r n D (fun k => left k && !k.sameKey (.int .i64 x)) cnt' → cnt' < cnt →
      w.grownBy w' (some r) → w'.heap.size = w.heap.size → (Instr.entry (.pointer (some ⟨r, 0, none⟩))).run Try.prog w' = .ok (.tuple #[.int .i64 x, .agg #[.int .i64 y, .int .i64 z]]) w' → wpList Try.prog ops Q rest (a.put o.dst (.tuple #[.bool true, .int .i64 x, .agg #[.int .i64 y, .int .i64 z]])) w') :
    wpList Try.prog ops Q (o :: rest) a w :=
  wpList_next_ranges (α := Int) (β := Int × Int) w hg it hop 2 law holdE (Value.int .i64) (fun p => .agg #[.int .i64 p.1, .int .i64 p.2]) (fun key kl hkey => by obtain ⟨x, rfl, _⟩ := Maps.keyOf_int_inv Try.underlying2 hkey; exact ⟨x, rfl⟩) (fun v y hv => by obtain ⟨c, d, rfl, _⟩ := holdE_inv hv; exact ⟨(c, d), rfl⟩)
    b r n D left cnt hit h hDone (fun x c kl y w' cnt' hkey hlk hv hat hrg hlt hgr hsz hen => by
      obtain ⟨x', ex, rfl, hwx⟩ := Maps.keyOf_int_inv Try.underlying2 hkey
      cases ex
      obtain ⟨c1, c2, ec, rfl⟩ := holdE_inv hv
      simp only [Value.agg.injEq, Array.mk.injEq, List.cons.injEq, Value.int.injEq, true_and, and_true] at ec
      obtain ⟨e1, e2⟩ := ec
      subst e1 e2
      exact hMore x c.1 c.2 w' cnt' hwx hlk hat hrg hlt hgr hsz hen)
end
set_option maxRecDepth 100000 in
theorem Least_nil (w : World) : Calls Try.prog 13 #[.pointer none] w fun e w' => e = .returned (.tuple #[.int .i64 0, .bool false]) ∧ w' = w := by
  go_enter Try.func13, Try.ntmps13
  go_wp2_with fail
  refine (Len_nil w).mono ?_
  rintro e w1 ⟨rfl, rfl⟩
  go_wp2
  exact bodyPost_ret (v := .tuple #[.int .i64 0, .bool false]) (by simp [results, Try.results13, go_sem]) rfl ⟨rfl, rfl⟩
/-- revisions are int64's -/
def I64 (l : List Pin) : Prop := ∀ i x, att l i = some x → x.1 ≤ 9223372036854775807
/-- the least of those that came -/
def LsI (l : List Pin) (left : Lit → Bool) (v : Int) : Prop := (∀ i x, att l i = some x → left (.int .i64 i) = false → v ≤ x.1) ∧ (v = 9223372036854775807 ∨ ∃ i u, att l i = some (v, u))
theorem LsI.step {l : List Pin} {left : Lit → Bool} {v : Int} (h : LsI l left v) {x y z : Int} (hx : att l x = some (y, z)) : LsI l (fun k => left k && !k.sameKey (.int .i64 x)) (if y < v then y else v) := by
  refine ⟨fun i p hp hl => ?_, ?_⟩
  · simp only [Bool.and_eq_false_iff, Bool.not_eq_false'] at hl
    rcases hl with hl | hl
    · have := h.1 i p hp hl
      split <;> omega
    · have e := WideAt.sameKey_eq hl
      injection e with _ e
      subst e
      rw [hx] at hp
      injection hp with hp
      subst hp
      simp only
      split <;> omega
  · split
    · exact .inr ⟨x, z, hx⟩
    · exact h.2
theorem LsI.last {l : List Pin} {left : Lit → Bool} {v : Int} (h : LsI l left v) (hl : ∀ k, left k = false) (hi : I64 l) (hc : 0 < cnt l) : (v, true) = lst l := by
  refine IsLst.one (f := att l) (.inr ⟨rfl, ?_, fun i x hx => h.1 i x hx (hl _)⟩) (lst_is l)
  rcases h.2 with e | ⟨i, u, hx⟩
  · obtain ⟨i, x, hx⟩ := cnt_pos.1 hc
    have h1 := h.1 i x hx (hl _)
    have h2 := hi i x hx
    refine ⟨i, x.2, ?_⟩
    rw [hx]
    have : v = x.1 := by omega
    rw [this]
  · exact ⟨i, u, hx⟩
theorem lst_none {l : List Pin} (h : cnt l = 0) : lst l = (0, false) := by
  have hn : ∀ i, att l i = none := fun i => by
    cases e : att l i with
    | none => rfl
    | some x => have := cnt_pos.2 ⟨i, x, e⟩; omega
  exact IsLst.one (f := att l) (lst_is l) (.inl ⟨rfl, hn⟩)
set_option maxRecDepth 100000 in
set_option maxHeartbeats 2000000 in
theorem Least_c {B c : Nat} {mb : Option Nat} {m : Int} {l : List Pin} {w : World} (h : IsPn B c mb m l w) (hi : I64 l) : Calls Try.prog 13 #[.pointer (some ⟨c, 0, none⟩)] w fun e w' => e = .returned (.tuple #[.int .i64 (lst l).1, .bool (lst l).2]) ∧ Below w.heap.size w w' := by
  have HL := Lib.hid (Len_c h)
  by_cases h0 : cnt l = 0
  · rw [lst_none h0]
    rw [h0] at HL
    clear h h0
    go_enter Try.func13, Try.ntmps13
    go_wp2_with fail
    refine HL.out.mono ?_
    rintro e w1 ⟨rfl, rfl⟩
    go_wp2
    exact bodyPost_ret (v := .tuple #[.int .i64 0, .bool false]) (by simp [results, Try.results13, go_sem]) rfl ⟨rfl, Below.refl _ _⟩
  · have hc : 0 < cnt l := by omega
    rcases h.mp with ⟨_, rfl⟩ | ⟨b, rfl, hB, D, hown, hmap⟩
    · exact absurd rfl h0
    obtain ⟨c0, c1, c2⟩ := cells3 h.ob
    have HFIN := Lib.hid (fun left v (h1 : LsI l left v) (h2 : ∀ k, left k = false) => h1.last h2 hi hc)
    have hbl := hown.lt
    have HM := Lib.hid hmap
    have HS : Hid (∀ x y z, Maps.has D (.int .i64 x) = true → (∀ zd, D.atKey (.int .i64 x) zd = hd y z) → att l x = some (y, z)) := fun x y z hx hz => by
      rw [hmap.has] at hx
      obtain ⟨p, hp⟩ := Option.isSome_iff_exists.1 hx
      have := hmap.at' x p hp (hd 0 0)
      rw [hz] at this
      obtain ⟨e1, e2⟩ := hd_inj this
      rw [hp, e1, e2]
    have H0 : Hid (LsI l (Maps.has D) 9223372036854775807) := by
      refine ⟨fun i x hx hl => ?_, .inl rfl⟩
      rw [hmap.has] at hl
      have hl : (att l i).isSome = false := hl
      rw [hx] at hl; cases hl
    have hc1 : ((cnt l : Int) == 0) = false := by simp; omega
    have HO := Lib.hid hown
    clear h hmap hi h0
    revert HL hc1
    generalize cnt l = k
    intro HL hc1
    go_enter Try.func13, Try.ntmps13
    go_wp2_with fail
    refine HL.out.mono ?_
    rintro e w1 ⟨rfl, rfl⟩
    clear HL
    go_wp2_with (at_range; refine wpList_range_own _ rfl _ _ rfl 2 52 law Try.underlying46 holdE b _ D rfl HO.out ?_; intro w2 hrg hg2 hs2; clear c0 c1 c2 HO hown)
    go_frame
    obtain ⟨rb, hrb⟩ : ∃ rb, rb = w1.heap.size := ⟨_, rfl⟩
    rw [← hrb] at hrg ⊢
    have HG2 := Lib.hid hg2
    have HRB := Lib.hid hrb
    have HS2 := Lib.hid hs2
    have HRG := Lib.hid hrg
    clear hrg hg2 hs2 hrb
    go_loopw [4] (fun v wr => ∃ z left ct, v = .int .i64 z ∧ Hid (LsI l left z) ∧ Hid (wr.ranges Try.prog 2 holdE b rb (Maps.size D) D left ct) ∧ Hid (Below w1.heap.size w1 wr)) (fun _ wr => wr.rangeLeft b rb)
    case atStart => exact ⟨_, _, _, rfl, H0, HRG, ⟨HG2.out.os, HG2.out.tape, HG2.out.output, HG2.out.size, fun k hk => HG2.out.block k hk (by simp)⟩⟩
    case round =>
      obtain ⟨z, left, ct, rfl, HL, HR, HBW⟩ := hrel
      clear HRG HG2 H0
      go_wp2_with (at_next; refine wpList_next_hold _ rfl _ rfl b rb _ D left ct rfl HR.out ?_ ?_)
      · intro _ hl0
        have HF := Lib.hid (HFIN.out left z HL.out hl0)
        go_wp2
        refine bodyPost_ret (v := .tuple #[.int .i64 z, .bool true]) (by simp [results, Try.results13, go_sem]) rfl ⟨?_, HBW.out⟩
        rw [← HF.out]
      · intro x y t w3 ct' hwx hlx hat hrg3 hlt hg3 hs3 hen
        have hatt := HS.out x y t (by
          have := hrg3.owns
          exact has_true_of_atKey (fun zd => hat zd)) hat
        have HL3 := Lib.hid (HL.out.step hatt)
        have HB3 : Hid (Below w1.heap.size w1 w3) := ⟨hg3.os.trans HBW.out.os, hg3.tape.trans HBW.out.tape, hg3.output.trans HBW.out.output, by rw [hs3]; exact HBW.out.size, fun k hk => by
          rw [hg3.block k (Nat.lt_of_lt_of_le hk HBW.out.size) (fun e => by injection e with e; have := HRB.out; omega)]
          exact HBW.out.block k hk⟩
        obtain ⟨W4, hW4, hk4, hb4⟩ := new2 w3 (.int .i64 y) (.int .i64 t) 52
        obtain ⟨d0, d1⟩ := cells2 hk4
        have HR4 : Hid (W4.ranges Try.prog 2 holdE b rb (Maps.size D) D (fun k => left k && !k.sameKey (.int .i64 x)) ct') := by
          rw [hW4]; exact hrg3.alloc _
        have HB4 : Hid (Below w1.heap.size w1 W4) := HB3.out.trans (hb4.mono HB3.out.size)
        have hm4 : W4.rangeLeft b rb < wr.rangeLeft b rb := by rw [HR4.out.left_eq, HR.out.left_eq]; exact hlt
        have HW4 := Lib.hid hW4
        have HM4 := Lib.hid hm4
        clear hW4 hk4 hb4 hrg3 hg3 hs3 hat hatt hm4 HR HL HBW
        go_upto_region 7 with (fail)
        rw [← HW4.out]
        clear hen
        by_cases hyz : y < z
        · rw [if_pos hyz] at HL3
          go_wp2
          go_roundw
          case rel => exact ⟨y, _, _, rfl, HL3, HR4, HB4⟩
          case measure => exact HM4.out
        · rw [if_neg hyz] at HL3
          go_wp2
          go_roundw
          case rel => exact ⟨z, _, _, rfl, HL3, HR4, HB4⟩
          case measure => exact HM4.out
end Go.Proofs.Ytjjnjankjbiigaa.Pn
