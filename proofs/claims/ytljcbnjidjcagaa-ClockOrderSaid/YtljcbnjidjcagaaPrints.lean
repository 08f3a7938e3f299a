/- Contracts of Print of package clock, of any number, and of the document's own Print, of any time: the text of the date ahead of which so many days stand, with hours, minutes and seconds. -/
import Derived.Test.YtljcbnjidjcagaaTexts
import Derived.Lib.SlBytesConst
namespace Go.Proofs.Ytljcbnjidjcagaa
open Go.RowKit
set_option linter.unusedSimpArgs false
set_option linter.unusedVariables false

def txt (y m d r : Int) : List UInt8 := digs 4 y ++ [45] ++ digs 2 m ++ [45] ++ digs 2 d ++ [84] ++ digs 2 (r / 3600) ++ [58] ++ digs 2 (r % 3600 / 60) ++ [58] ++ digs 2 (r % 60) ++ [90]
/-- l is the text of the time t -/
def TX (t : Int) (l : List UInt8) : Prop := ∃ y m d : Int, vldB y m d = true ∧ dayN y m d = t / 86400 ∧ l = txt y m d (t % 86400)
theorem TX.one {t : Int} {l l' : List UInt8} (h : TX t l) (h' : TX t l') : l = l' := by
  obtain ⟨y, m, d, hv, hn, rfl⟩ := h
  obtain ⟨y', m', d', hv', hn', rfl⟩ := h'
  obtain ⟨rfl, rfl, rfl⟩ := day_inj hv hv' (by rw [hn, hn'])
  rfl
def PrintIs (t : Int) (w : World) (e : Ending) (w' : World) : Prop := ∃ l, TX t l ∧ e = .returned (.tuple #[.string (mkS l), .int .i64 0]) ∧ Below w.heap.size w w'
def PrintRIs (t : Int) (w : World) (e : Ending) (w' : World) : Prop := ∃ l, TX t l ∧ e = .returned (.string (mkS l)) ∧ Below w.heap.size w w'

def formL : List UInt8 := [48, 48, 48, 48, 45, 48, 48, 45, 48, 48, 84, 48, 48, 58, 48, 48, 58, 48, 48, 90]
def formA : Array Value := #[.int .u8 48, .int .u8 48, .int .u8 48, .int .u8 48, .int .u8 45, .int .u8 48, .int .u8 48, .int .u8 45, .int .u8 48, .int .u8 48, .int .u8 84, .int .u8 48, .int .u8 48, .int .u8 58, .int .u8 48, .int .u8 48, .int .u8 58, .int .u8 48, .int .u8 48, .int .u8 90]
theorem formA_eq : formA = (formL.map (fun b => Value.int .u8 (b.toNat : Int))).toArray := rfl
theorem form_row (w : World) : BRow (w.alloc (.cells formA 5 (20, 21))) w.heap.size formL := by
  intro j hj
  have hj2 : j < 20 := hj
  refine ⟨?_, ?_⟩
  · rw [World.cell?_alloc_mark, formA_eq, List.getElem?_toArray, List.getElem?_map, List.getElem?_eq_getElem hj]
    rfl
  · rw [World.frozen?_alloc_mark]
    have : ¬ 20 ≤ j := by omega
    simp [this]
theorem all_put (y m d a b c : Int) : putL (putL (putL (putL (putL (putL formL 0 4 y) 5 2 m) 8 2 d) 11 2 a) 14 2 b) 17 2 c = digs 4 y ++ [45] ++ digs 2 m ++ [45] ++ digs 2 d ++ [84] ++ digs 2 a ++ [58] ++ digs 2 b ++ [58] ++ digs 2 c ++ [90] := by
  simp [putL, digs, formL]

theorem print_no (t : Int) (w : World) (h : t < 0 ∨ 137438953472 < t) : Calls Try.prog 13 #[.int .i64 t] w fun e w' => e = .returned (.tuple #[.string ⟨#[]⟩, .int .i64 1]) ∧ w = w' := by
  by_cases h0 : t < 0
  · clear h
    go_enter Try.func13, Try.ntmps13
    go_wp2
    go_ret2
    exact ⟨rfl, rfl⟩
  · have h1 : 137438953472 < t := by omega
    have h0' : 0 ≤ t := by omega
    clear h h0
    go_enter Try.func13, Try.ntmps13
    go_wp2
    go_ret2
    exact ⟨rfl, rfl⟩

set_option maxHeartbeats 1000000 in
theorem print_yes (t : Int) (w : World) (h0 : 0 ≤ t) (h1 : t ≤ 137438953472) : Calls Try.prog 13 #[.int .i64 t] w (PrintIs t w) := by
  have HF := Lib.hid (form_row w)
  have HD := Lib.hid (fun W => date_yes (t / 86400) W (by omega) (by omega))
  have HBF := Lib.hid ((Below.refl w.heap.size w).alloc (Nat.le_refl _) (.cells formA 5 (20, 21)))
  unfold formA at HF HBF
  have kc := fun (w : World) (C : Array Value) (n c : Nat) => Lib.run_convert_bytes_const (P := Try.prog) w 45 5 C n c Try.underlying45 Try.underlying5
  have KC := Lib.hid kc
  clear kc
  go_enter Try.func13, Try.ntmps13
  go_wp2_with fail
  refine (HD.out _).mono ?_
  rintro e w' ⟨y, m, d, hv, hn, rfl, rfl⟩
  have HV := Lib.hid hv
  have HN := Lib.hid hn
  obtain ⟨v1, v2, v3, v4, v5, v6⟩ := vld_of hv
  have hL := (len_bd y m).2
  have v7 : d ≤ 31 := by omega
  clear hv hn v6 hL HD
  have kc := KC.out
  go_wp2_with fail
  clear kc KC
  obtain ⟨r, hr⟩ : ∃ r, r = t % 86400 := ⟨_, rfl⟩
  rw [← hr]
  have r0 : 0 ≤ r := by omega
  have r1 : r < 86400 := by omega
  have HR := Lib.hid hr
  clear hr
  refine (put_c w.heap.size w.heap.size 0 4 _ formL y _ (by omega) (by omega) (by decide) (by decide) (by decide) (Nat.le_refl _) HF.out).mono ?_
  rintro e w1 ⟨rfl, hr1, hb1⟩
  have R1 := Lib.hid hr1
  have B1 := Lib.hid hb1
  clear hr1 hb1 HF
  have l1 : Hid ((putL formL 0 4 y).length = 20) := putL_len _ _ _ _ (by decide)
  go_wp2_with fail
  refine (put_c w.heap.size w.heap.size 5 2 _ (putL formL 0 4 y) m _ (by omega) (by omega) (by rw [l1.out]; decide) (by decide) (by rw [l1.out]; decide) (Nat.le_refl _) R1.out).mono ?_
  rintro e w2 ⟨rfl, hr2, hb2⟩
  have R2 := Lib.hid hr2
  have B2 := Lib.hid hb2
  clear hr2 hb2
  have l2 : Hid ((putL (putL formL 0 4 y) 5 2 m).length = 20) := (putL_len _ _ _ _ (by rw [l1.out]; decide)).trans l1.out
  go_wp2_with fail
  refine (put_c w.heap.size w.heap.size 8 2 _ (putL (putL formL 0 4 y) 5 2 m) d _ (by omega) (by omega) (by rw [l2.out]; decide) (by decide) (by rw [l2.out]; decide) (Nat.le_refl _) R2.out).mono ?_
  rintro e w3 ⟨rfl, hr3, hb3⟩
  have R3 := Lib.hid hr3
  have B3 := Lib.hid hb3
  clear hr3 hb3
  have l3 : Hid ((putL (putL (putL formL 0 4 y) 5 2 m) 8 2 d).length = 20) := (putL_len _ _ _ _ (by rw [l2.out]; decide)).trans l2.out
  go_wp2_with fail
  refine (put_c w.heap.size w.heap.size 11 2 _ (putL (putL (putL formL 0 4 y) 5 2 m) 8 2 d) (r / 3600) _ (by omega) (by omega) (by rw [l3.out]; decide) (by decide) (by rw [l3.out]; decide) (Nat.le_refl _) R3.out).mono ?_
  rintro e w4 ⟨rfl, hr4, hb4⟩
  have R4 := Lib.hid hr4
  have B4 := Lib.hid hb4
  clear hr4 hb4
  have l4 : Hid ((putL (putL (putL (putL formL 0 4 y) 5 2 m) 8 2 d) 11 2 (r / 3600)).length = 20) := (putL_len _ _ _ _ (by rw [l3.out]; decide)).trans l3.out
  go_wp2_with fail
  refine (put_c w.heap.size w.heap.size 14 2 _ (putL (putL (putL (putL formL 0 4 y) 5 2 m) 8 2 d) 11 2 (r / 3600)) (r % 3600 / 60) _ (by omega) (by omega) (by rw [l4.out]; decide) (by decide) (by rw [l4.out]; decide) (Nat.le_refl _) R4.out).mono ?_
  rintro e w5 ⟨rfl, hr5, hb5⟩
  have R5 := Lib.hid hr5
  have B5 := Lib.hid hb5
  clear hr5 hb5
  have l5 : Hid ((putL (putL (putL (putL (putL formL 0 4 y) 5 2 m) 8 2 d) 11 2 (r / 3600)) 14 2 (r % 3600 / 60)).length = 20) := (putL_len _ _ _ _ (by rw [l4.out]; decide)).trans l4.out
  go_wp2_with fail
  refine (put_c w.heap.size w.heap.size 17 2 _ (putL (putL (putL (putL (putL formL 0 4 y) 5 2 m) 8 2 d) 11 2 (r / 3600)) 14 2 (r % 3600 / 60)) (r % 60) _ (by omega) (by omega) (by rw [l5.out]; decide) (by decide) (by rw [l5.out]; decide) (Nat.le_refl _) R5.out).mono ?_
  rintro e w6 ⟨rfl, hr6, hb6⟩
  have R6 := Lib.hid hr6
  have B6 := Lib.hid hb6
  clear hr6 hb6
  have l6 : Hid ((putL (putL (putL (putL (putL (putL formL 0 4 y) 5 2 m) 8 2 d) 11 2 (r / 3600)) 14 2 (r % 3600 / 60)) 17 2 (r % 60)).length = 20) := (putL_len _ _ _ _ (by rw [l5.out]; decide)).trans l5.out
  have R7 := Lib.hid R6.out
  rw [all_put] at R7
  have hcv := bytes_back R7.out 20 20 (by rfl)
  have HT : Hid (TX t (digs 4 y ++ [45] ++ digs 2 m ++ [45] ++ digs 2 d ++ [84] ++ digs 2 (r / 3600) ++ [58] ++ digs 2 (r % 3600 / 60) ++ [58] ++ digs 2 (r % 60) ++ [90])) := ⟨y, m, d, HV.out, HN.out, by rw [← HR.out]; rfl⟩
  clear R1 R2 R3 R4 R5 R6 R7 l1 l2 l3 l4 l5 l6
  revert hcv HT
  generalize digs 4 y ++ [45] ++ digs 2 m ++ [45] ++ digs 2 d ++ [84] ++ digs 2 (r / 3600) ++ [58] ++ digs 2 (r % 3600 / 60) ++ [58] ++ digs 2 (r % 60) ++ [90] = L
  intro hcv HT
  go_wp2
  go_ret2
  have C1 := HBF.out.trans B1.out
  have C2 := C1.trans B2.out
  have C3 := C2.trans B3.out
  have C4 := C3.trans B4.out
  have C5 := C4.trans B5.out
  exact ⟨L, HT.out, rfl, C5.trans B6.out⟩

end Go.Proofs.Ytljcbnjidjcagaa
