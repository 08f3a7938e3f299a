/- Chapter 12's example comes out: awake returns true; WireNil's walk; where the library's variable MaxLen holds a number and errors.errorType lies as the program's text lays it. -/
import Derived.Test.YtkblggpnghdnmaaGreatDoorWrNok
import Derived.Test.YtkblggpnghdnmaaGreatDoorWrAwk
namespace Go.Proofs.YtkblggpnghdnmaaGreatDoor.Hd
open Go.RowKit Ch
set_option linter.unusedSimpArgs false
set_option linter.unusedVariables false

theorem ex_cut (k : Nat) : (ByteArray.extract ⟨#[71, 69, 84, 32, 47, 32, 72, 84, 84, 80, 47, 49, 46, 48, 13, 10, 13, 10]⟩ k (k + 1)) = mkS ((exW.drop k).take 1) := mkS_of (by rw [Lib.extract_data, Nat.add_sub_cancel_left]; rfl)
theorem bel_of {w w1 w' : World} {g : Nat} (h : Below w.heap.size w w1) (hg : w.heap.size ≤ g) (hb : w1.grownBy w' (some g)) : Below w.heap.size w w' := h.grown hb h.size (fun k hk => by injection hk with e; omega)
/-- Next at the whole example -/
theorem next_w (g : Nat) (w : World) (hp : PB g 0 0 0 (mkS exW) 0 w) (hM : Mx w) (hE : ErT w) :
    Calls Tryz.prog 13 #[.pointer (some ⟨g, 0, none⟩)] w fun e w' => ∃ ao cp, e = .returned (.tuple #[.agg #[.string ⟨#[71, 69, 84]⟩, .string ⟨#[47]⟩, .int .i64 0, .slice ao 0 cp, .string ⟨#[]⟩], .bool true]) ∧ PB g 0 0 0 ⟨#[]⟩ 0 w' ∧ w.grownBy w' (some g) := by
  refine nextW_ok g 0 0 0 0 (mkS exW) ⟨#[71, 69, 84]⟩ ⟨#[47]⟩ 18 rfl (by decide) w hp (Lib.hid fun W h1 h2 => ?_) hM hE
  refine first_ok (mkS exW) ⟨#[71, 69, 84]⟩ ⟨#[47]⟩ 0 0 0 0 18 W rfl (by decide) (Lib.hid fun V h3 h4 => ?_) h1 h2
  have h := Parse_g (mkS exW) 0 0 0 V h3 h4 (by decide)
  rw [data_mkS, clW.1, clW.2, all_of exW_all] at h
  refine h.mono fun e w' hh => ?_
  obtain ⟨ao, cp, h5, h6, h7⟩ := hh
  exact ⟨ao, cp, h5, h7⟩
set_option maxRecDepth 100000 in
set_option maxHeartbeats 8000000 in
theorem awakeW_c (w : World) (hM : Mx w) (hE : ErT w) : Calls Tryz.prog 14 #[] w fun e w' => e = .returned (.bool true) ∧ Below w.heap.size w w' := by
  have HM := Lib.hid hM
  have HE := Lib.hid hE
  have HN := Lib.hid (new_c 0 0 0 w)
  have HNX := Lib.hid (fun k hk W hp h1 h2 => next_b (w.heap.size + 1) k hk W hp h1 h2)
  have HFD : Hid (∀ k, k < 18 → ∀ W, PB (w.heap.size + 1) 0 0 0 (mkS (exW.take k)) 0 W → Calls Tryz.prog 10 #[.pointer (some ⟨w.heap.size + 1, 0, none⟩), .string (ByteArray.extract ⟨#[71, 69, 84, 32, 47, 32, 72, 84, 84, 80, 47, 49, 46, 48, 13, 10, 13, 10]⟩ k (k + 1))] W fun e w' => e = .returned (.int .i64 1) ∧ PB (w.heap.size + 1) 0 0 0 (mkS (exW.take (k + 1))) 0 w' ∧ W.grownBy w' (some (w.heap.size + 1))) := fun k hk W hp => feed_b (w.heap.size + 1) k hk _ (ex_cut k) W hp
  have HNW := Lib.hid (fun W hp h1 h2 => next_w (w.heap.size + 1) W hp h1 h2)
  have HHD : Hid (∀ W, PB (w.heap.size + 1) 0 0 0 ⟨#[]⟩ 0 W → Calls Tryz.prog 12 #[.pointer (some ⟨w.heap.size + 1, 0, none⟩)] W fun e w' => e = .returned (.int .i64 0) ∧ W = w') := fun W hp => held_c (w.heap.size + 1) 0 0 0 ⟨#[]⟩ 0 W hp
  have HGE : Hid (w.heap.size ≤ w.heap.size + 1) := Nat.le_succ _
  clear hM hE
  go_enter Tryz.func14, Tryz.ntmps14
  go_wp2_with fail
  refine HN.out.mono ?_
  rintro e w1 ⟨rfl, hp1, hb1⟩
  have HP1 : Hid (PB (w.heap.size + 1) 0 0 0 (mkS (exW.take 0)) 0 w1) := hp1
  have HB1 := Lib.hid hb1
  clear hp1 hb1
  generalize w.heap.size + 1 = g at HNX HFD HNW HHD HGE HP1 ⊢
  go_wp2
  go_loopw [3] (fun i wr => ∃ k : Nat, k ≤ 18 ∧ i = .int .i64 k ∧ Hid (PB g 0 0 0 (mkS (exW.take k)) 0 wr) ∧ Hid (Below w.heap.size w wr)) (fun i _ => 18 - (intOf i).toNat)
  case atStart => exact ⟨0, by omega, rfl, HP1, HB1⟩
  case round =>
    clear HP1 HB1
    obtain ⟨k, hk, rfl, HP, HB⟩ := hrel
    by_cases hlt : k < 18
    · have hk0 : (0 : Int) ≤ (k : Int) := by omega
      have hkl : (k : Int) < 18 := by omega
      have hkm : (k : Int) + 1 ≤ 18 := by omega
      go_wp2_with fail
      refine (HNX.out k hlt _ HP.out (HM.out.go HB.out) (HE.out.go HB.out)).mono ?_
      rintro e w2 ⟨rfl, hb2⟩
      have HB2 : Hid (Below w.heap.size w (w2.alloc (.cells #[.string ⟨#[]⟩, .string ⟨#[]⟩, .int .i64 0, .slice none 0 0, .string ⟨#[]⟩] 37))) := (HB.out.trans (hb2.mono HB.out.size)).alloc (Nat.le_trans HB.out.size hb2.size) _
      have HP2 : Hid (PB g 0 0 0 (mkS (exW.take k)) 0 (w2.alloc (.cells #[.string ⟨#[]⟩, .string ⟨#[]⟩, .int .i64 0, .slice none 0 0, .string ⟨#[]⟩] 37))) := (HP.out.go hb2).go ((Below.refl _ _).alloc (Nat.le_refl _) _)
      clear hb2
      go_wp2_with fail
      refine (HFD.out k hlt _ HP2.out).mono ?_
      rintro e w4 ⟨rfl, hp4, hb4⟩
      have HP4 := Lib.hid hp4
      have HB4 := Lib.hid (bel_of HB2.out HGE.out hb4)
      clear hp4 hb4
      go_wp2
      go_roundw
      case rel => exact ⟨k + 1, by omega, by go_num, HP4, HB4⟩
      case measure => simp [intOf]; omega
    · have hke : k = 18 := by omega
      have HPE : Hid (PB g 0 0 0 (mkS exW) 0 wr) := by have h := HP.out; rw [hke] at h; exact h
      have hkl : ¬ (k : Int) < 18 := by omega
      clear hke HP
      go_wp2_with fail
      refine (HNW.out _ HPE.out (HM.out.go HB.out) (HE.out.go HB.out)).mono ?_
      rintro e w2 ⟨ao, cp, rfl, hp2, hb2⟩
      have hbb := bel_of HB.out HGE.out hb2
      have HB2 : Hid (Below w.heap.size w (w2.alloc (.cells #[.string ⟨#[71, 69, 84]⟩, .string ⟨#[47]⟩, .int .i64 0, .slice ao 0 cp, .string ⟨#[]⟩] 37))) := hbb.alloc hbb.size _
      have HP2 : Hid (PB g 0 0 0 ⟨#[]⟩ 0 (w2.alloc (.cells #[.string ⟨#[71, 69, 84]⟩, .string ⟨#[47]⟩, .int .i64 0, .slice ao 0 cp, .string ⟨#[]⟩] 37))) := PB.go hp2 ((Below.refl _ _).alloc (Nat.le_refl _) _)
      clear hp2 hb2 hbb
      go_wp2_with fail
      refine (HHD.out _ HP2.out).mono ?_
      rintro e w4 ⟨rfl, hw⟩
      rw [← hw]; clear hw
      go_wp2
      go_ret
      exact ⟨rfl, HB2.out⟩
set_option maxRecDepth 100000 in
set_option maxHeartbeats 4000000 in
theorem nilWalk (s : ByteArray) (w : World) (hM : Mx w) (hE : ErT w) : Calls Tryz.prog 4 #[.string s] w fun e w' => e = .returned (.bool true) ∧ Below w.heap.size w w' := by
  have HM := Lib.hid hM
  have HE := Lib.hid hE
  clear hM hE
  go_enter Tryz.func4, Tryz.ntmps4
  go_wp2_with fail
  refine (next_nil _).mono ?_
  rintro e w1 ⟨rfl, hb1⟩
  have HB1 : Hid (Below w.heap.size w (w1.alloc (.cells #[.string ⟨#[]⟩, .string ⟨#[]⟩, .int .i64 0, .slice none 0 0, .string ⟨#[]⟩] 37))) := hb1.alloc hb1.size _
  clear hb1
  go_wp2_with fail
  refine (feed_nil s _).mono ?_
  rintro e w2 ⟨rfl, hb2⟩
  have HB2 : Hid (Below w.heap.size w w2) := HB1.out.trans (hb2.mono HB1.out.size)
  clear hb2
  go_wp2_with fail
  refine (status_nil _).mono ?_
  rintro e w3 ⟨rfl, hb3⟩
  have HB3 : Hid (Below w.heap.size w w3) := HB2.out.trans (hb3.mono HB2.out.size)
  clear hb3
  go_wp2_with fail
  refine (held_nil _).mono ?_
  rintro e w4 ⟨rfl, hb4⟩
  have HB4 : Hid (Below w.heap.size w w4) := HB3.out.trans (hb4.mono HB3.out.size)
  clear hb4
  go_wp2_with fail
  refine (room_nil _).mono ?_
  rintro e w5 ⟨rfl, hb5⟩
  have HB5 : Hid (Below w.heap.size w w5) := HB4.out.trans (hb5.mono HB4.out.size)
  clear hb5
  go_wp2_with fail
  refine (awakeW_c _ (HM.out.go HB5.out) (HE.out.go HB5.out)).mono ?_
  rintro e w9 ⟨rfl, hb9⟩
  have HB9 := Lib.hid (HB5.out.trans (hb9.mono HB5.out.size))
  clear hb9
  go_wp2
  go_ret
  exact ⟨rfl, HB9.out⟩
end Go.Proofs.YtkblggpnghdnmaaGreatDoor.Hd
