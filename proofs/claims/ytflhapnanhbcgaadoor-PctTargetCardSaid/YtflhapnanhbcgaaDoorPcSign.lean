/- Contracts of package pct's sign and plain, and where the document's Decode asks the same: for every text of at most a thousand bytes, every byte. -/
import Derived.Test.YtflhapnanhbcgaaDoorPcPlain
import Derived.Test.YtflhapnanhbcgaaDoorNuHexR
namespace Go.Proofs.YtflhapnanhbcgaaDoor.Pc
open Go.RowKit Jt
set_option linter.unusedSimpArgs false
set_option linter.unusedVariables false

theorem rd_two_bd (a b : UInt8) (h : okTwo a b = true) : 0 ≤ Nu.val 16 [a, b] ∧ Nu.val 16 [a, b] ≤ 255 := by
  unfold okTwo at h
  simp only [List.all_cons, List.all_nil, Bool.and_true, Bool.and_eq_true] at h
  have h1 := of_decide_eq_true (show decide _ = true from h.1)
  have h2 := of_decide_eq_true (show decide _ = true from h.2)
  have e : Nu.val 16 [a, b] = Nu.val 16 ([a] ++ [b]) := rfl
  have e2 : Nu.val 16 [a] = Nu.val 16 ([] ++ [a]) := rfl
  rw [e, Nu.val_snoc, e2, Nu.val_snoc]
  have e3 : Nu.val 16 [] = 0 := rfl
  rw [e3]
  unfold Nu.hvU at *
  omega
/-- what Hex answers at two bytes -/
theorem rd_two (a b : UInt8) : Nu.rdN 16 2147483647 [a, b] = (if okTwo a b = true then ((twoB a b).toNat : Int) else 0) ∧ Nu.rdE 16 2147483647 [a, b] = if okTwo a b = true then 0 else 3 := by
  by_cases h : okTwo a b = true
  · have hb := rd_two_bd a b h
    have hm : Nu.val 16 [a, b] ≤ 2147483647 := by omega
    rw [if_pos h, if_pos h]
    obtain ⟨e1, e2⟩ := Nu.rd_yes (B := 16) (l := [a, b]) ⟨by simp, h⟩ hm
    refine ⟨?_, e2⟩
    rw [e1]
    unfold twoB
    rw [UInt8.toNat_ofNat']
    omega
  · rw [if_neg h, if_neg h]
    exact Nu.rd_no (fun g => h g.2)
def sgnV (l : List UInt8) : Ending := match sgnL l with | some x => .returned (.tuple #[.int .u8 (x.toNat : Int), .bool true]) | none => .returned (.tuple #[.int .u8 0, .bool false])
theorem three {l : List UInt8} (h : 3 ≤ l.length) : ∃ c a b r, l = c :: a :: b :: r ∧ (l.drop 1).take 2 = [a, b] := by
  match l, h with
  | c :: a :: b :: r, _ => exact ⟨c, a, b, r, rfl, rfl⟩
set_option maxRecDepth 100000 in
set_option maxHeartbeats 2000000 in
theorem sign_c (s : ByteArray) (w : World) (hs : s.size ≤ 50000) : Calls Tryd.prog 28 #[.string s] w fun e w' => e = sgnV s.data.toList ∧ w = w' := by
  have hsl := size_l s
  by_cases h3 : s.size < 3
  · have hn : sgnL s.data.toList = none := by
      match hl : s.data.toList with
      | [] => rfl
      | [_] => rfl
      | [_, _] => rfl
      | _ :: _ :: _ :: _ => rw [hl] at hsl; simp at hsl; omega
    unfold sgnV
    rw [hn]
    have h3' : ((s.size : Nat) : Int) < 3 := by omega
    clear hn hsl
    go_enter Tryd.func28, Tryd.ntmps28
    go_wp2
    go_ret2
    exact ⟨rfl, rfl⟩
  · obtain ⟨c, a, b, r, hl, ht⟩ := three (l := s.data.toList) (by omega)
    have h3' : ¬ ((s.size : Nat) : Int) < 3 := by omega
    have h3n : (3 : Int) ≤ ((s.size : Nat) : Int) := by omega
    have HX := Lib.hid (fun W => Nu.hex_c (s.extract 1 3) W (by rw [ByteArray.size_extract]; omega))
    have e : (s.extract 1 3).data.toList = [a, b] := by rw [Lib.extract_data]; exact ht
    rw [e, (rd_two a b).1, (rd_two a b).2] at HX
    unfold sgnV
    rw [hl]
    simp only [sgnL]
    clear e hl ht hsl
    by_cases ho : okTwo a b = true
    · simp only [if_pos ho] at HX ⊢
      have x0 : 0 ≤ ((twoB a b).toNat : Int) := by omega
      have x1 : ((twoB a b).toNat : Int) ≤ 255 := by have := (twoB a b).toNat_lt; omega
      clear ho
      revert HX x0 x1
      generalize ((twoB a b).toNat : Int) = x
      intro HX x0 x1
      go_enter Tryd.func28, Tryd.ntmps28
      go_wp2_with (go_at_call 39; refine (HX.out _).mono ?_; rintro e w' ⟨rfl, rfl⟩)
      go_ret2
      exact ⟨by go_num, rfl⟩
    · simp only [if_neg ho] at HX ⊢
      clear ho
      go_enter Tryd.func28, Tryd.ntmps28
      go_wp2_with (go_at_call 39; refine (HX.out _).mono ?_; rintro e w' ⟨rfl, rfl⟩)
      go_ret2
      exact ⟨rfl, rfl⟩
set_option maxRecDepth 100000 in
set_option maxHeartbeats 2000000 in
theorem plain_c (c : UInt8) (w : World) : Calls Tryd.prog 22 #[.int .u8 (c.toNat : Int)] w fun e w' => e = .returned (.bool (plnB c)) ∧ w = w' := by
  have HL := Lib.hid (fun W => Ch.let_c (c.toNat : Int) W)
  have HD := Lib.hid (fun W => Ch.dig_c (c.toNat : Int) W)
  have HP : Hid (plnB c = (Ch.letB (c.toNat : Int) || Ch.digB (c.toNat : Int) || (decide ((c.toNat : Int) = 45) || decide ((c.toNat : Int) = 46) || decide ((c.toNat : Int) = 95) || decide ((c.toNat : Int) = 126)))) := by
    show plnB c = _
    unfold plnB
    have e : ∀ n : Nat, n < 256 → (c = UInt8.ofNat n ↔ (c.toNat : Int) = n) := fun n hn => by
      rw [← UInt8.toNat_inj, UInt8.toNat_ofNat']; omega
    have e1 := e 45 (by omega); have e2 := e 46 (by omega); have e3 := e 95 (by omega); have e4 := e 126 (by omega)
    simp only [show (45 : UInt8) = UInt8.ofNat 45 from rfl, show (46 : UInt8) = UInt8.ofNat 46 from rfl, show (95 : UInt8) = UInt8.ofNat 95 from rfl, show (126 : UInt8) = UInt8.ofNat 126 from rfl, e1, e2, e3, e4]
    simp [Bool.or_assoc]
  revert HP HL HD
  generalize Ch.letB (c.toNat : Int) = pl
  generalize Ch.digB (c.toNat : Int) = pd
  intro HL HD HP
  have HPP := HP.out
  rw [HPP]
  clear HP HPP
  cases pl with
  | true =>
    go_enter Tryd.func22, Tryd.ntmps22
    go_wp2_with (go_at_call 31; refine (HL.out _).mono ?_; rintro e w' ⟨rfl, rfl⟩)
    go_ret
    exact ⟨rfl, rfl⟩
  | false =>
    cases pd with
    | true =>
      go_enter Tryd.func22, Tryd.ntmps22
      go_wp2_with (first | (go_at_call 31; refine (HL.out _).mono ?_; rintro e w' ⟨rfl, rfl⟩) | (go_at_call 32; refine (HD.out _).mono ?_; rintro e w' ⟨rfl, rfl⟩))
      go_ret
      exact ⟨rfl, rfl⟩
    | false =>
      by_cases c1 : (c.toNat : Int) = 45 ∨ (c.toNat : Int) = 46 ∨ (c.toNat : Int) = 95 ∨ (c.toNat : Int) = 126
      · have HF : Hid ((false || false || (decide ((c.toNat : Int) = 45) || decide ((c.toNat : Int) = 46) || decide ((c.toNat : Int) = 95) || decide ((c.toNat : Int) = 126))) = true) := by
          show _ = true
          rcases c1 with h | h | h | h <;> simp [h]
        rw [HF.out]
        rcases c1 with h | h | h | h <;>
        · rw [h] at HL HD ⊢
          clear HF
          go_enter Tryd.func22, Tryd.ntmps22
          go_wp2_with (first | (go_at_call 31; refine (HL.out _).mono ?_; rintro e w' ⟨rfl, rfl⟩) | (go_at_call 32; refine (HD.out _).mono ?_; rintro e w' ⟨rfl, rfl⟩))
          go_ret
          exact ⟨rfl, rfl⟩
      · have HF : Hid ((false || false || (decide ((c.toNat : Int) = 45) || decide ((c.toNat : Int) = 46) || decide ((c.toNat : Int) = 95) || decide ((c.toNat : Int) = 126))) = false) := by
          show _ = false
          simp only [not_or] at c1
          simp [c1]
        rw [HF.out]
        simp only [not_or] at c1
        obtain ⟨h1, h2, h3, h4⟩ := c1
        clear HF
        revert h1 h2 h3 h4 HL HD
        generalize (c.toNat : Int) = z
        intro HL HD h1 h2 h3 h4
        have g1 : (z == 45) = false := by simpa using h1
        have g2 : (z == 46) = false := by simpa using h2
        have g3 : (z == 95) = false := by simpa using h3
        have g4 : (z == 126) = false := by simpa using h4
        go_enter Tryd.func22, Tryd.ntmps22
        go_wp2_with (first | (go_at_call 31; refine (HL.out _).mono ?_; rintro e w' ⟨rfl, rfl⟩) | (go_at_call 32; refine (HD.out _).mono ?_; rintro e w' ⟨rfl, rfl⟩))
        go_ret
        exact ⟨rfl, rfl⟩
end Go.Proofs.YtflhapnanhbcgaaDoor.Pc
