/- Contract of the document's own PutHex, of every number. -/
import Derived.Test.YteegbcjpganobaaDoorNuPrintN
namespace Go.Proofs.YteegbcjpganobaaDoor.Nu
open Go.RowKit
set_option linter.unusedSimpArgs false
set_option linter.unusedVariables false

def hxd (m : Nat) : UInt8 := if m < 10 then UInt8.ofNat (48 + m) else UInt8.ofNat (87 + m)
def hexF : Nat → Nat → List UInt8
  | 0, u => [hxd u]
  | f + 1, u => if u < 16 then [hxd u] else hexF f (u / 16) ++ [hxd (u % 16)]
def hexL (u : Nat) : List UInt8 := hexF u u
theorem hexF_small {u : Nat} (h : u < 16) : ∀ f, hexF f u = [hxd u]
  | 0 => rfl
  | f + 1 => by unfold hexF; rw [if_pos h]
theorem hexF_more {u : Nat} (h : ¬ u < 16) (f : Nat) : hexF (f + 1) u = hexF f (u / 16) ++ [hxd (u % 16)] := by
  show (if u < 16 then [hxd u] else hexF f (u / 16) ++ [hxd (u % 16)]) = _
  rw [if_neg h]
theorem hexF_eq : ∀ (f g u : Nat), u ≤ f → u ≤ g → hexF f u = hexF g u
  | 0, g, u, h1, h2 => by rw [hexF_small (by omega), hexF_small (by omega)]
  | f + 1, 0, u, h1, h2 => by rw [hexF_small (by omega), hexF_small (by omega)]
  | f + 1, g + 1, u, h1, h2 => by
    by_cases h : u < 16
    · rw [hexF_small h, hexF_small h]
    · rw [hexF_more h, hexF_more h, hexF_eq f g (u / 16) (by omega) (by omega)]
theorem hex_one {u : Nat} (h : u < 16) : hexL u = [hxd u] := hexF_small h u
theorem hex_more {u : Nat} (h : ¬ u < 16) : hexL u = hexL (u / 16) ++ [hxd (u % 16)] := by
  obtain ⟨k, rfl⟩ : ∃ k, u = k + 1 := ⟨u - 1, by omega⟩
  show hexF (k + 1) (k + 1) = hexF ((k + 1) / 16) ((k + 1) / 16) ++ [hxd ((k + 1) % 16)]
  rw [hexF_more h, hexF_eq k ((k + 1) / 16) ((k + 1) / 16) (by omega) (Nat.le_refl _)]
theorem hex_len : ∀ (k u : Nat), u < 16 ^ (k + 1) → (hexL u).length ≤ k + 1
  | 0, u, h => by rw [hex_one (by omega)]; simp
  | k + 1, u, h => by
    by_cases g : u < 16
    · rw [hex_one g]; simp
    · rw [hex_more g, List.length_append]
      have := hex_len k (u / 16) (by rw [Nat.pow_succ] at h; omega)
      simp; omega
theorem hex_pos (u : Nat) : 1 ≤ (hexL u).length := by
  by_cases g : u < 16
  · rw [hex_one g]; simp
  · rw [hex_more g]; simp
def sixL : List UInt8 := [48, 49, 50, 51, 52, 53, 54, 55, 56, 57, 97, 98, 99, 100, 101, 102]
theorem six_at : ∀ m : Fin 16, (sixL.drop m.val).take 1 = [hxd m.val] := by decide +kernel
theorem six_sub (m : Nat) (h : m < 16) : (mkS sixL).extract m (m + 1) = mkS [hxd m] := mkS_of (by
  rw [Lib.extract_data, data_mkS, show m + 1 - m = 1 by omega]
  exact six_at ⟨m, h⟩)

theorem puthexR_neg (n : Int) (w : World) (h : n < 0) : Calls Tryd.prog 14 #[.int .i64 n] w fun e w' => e = .returned (.string ⟨#[]⟩) ∧ w = w' := by
  go_enter Tryd.func14, Tryd.ntmps14
  go_wp2
  go_ret
  exact ⟨rfl, rfl⟩
theorem six_lit : (ByteArray.mk #[48, 49, 50, 51, 52, 53, 54, 55, 56, 57, 97, 98, 99, 100, 101, 102]) = mkS sixL := rfl

set_option maxRecDepth 100000 in
set_option maxHeartbeats 1000000 in
theorem puthexR_pos : ∀ (f u : Nat) (w : World), u < f → u ≤ 9223372036854775807 → Calls Tryd.prog 14 #[.int .i64 (u : Int)] w fun e w' => e = .returned (.string (mkS (hexL u))) ∧ w = w' := by
  intro f
  induction f with
  | zero => intro u w h; omega
  | succ f ih =>
    intro u w hf hu
    have h0 : 0 ≤ (u : Int) := by omega
    have hu' : (u : Int) ≤ 9223372036854775807 := by omega
    have hm : (u : Int) % 16 = ((u % 16 : Nat) : Int) := by omega
    have hm16 : u % 16 < 16 := by omega
    have HX := Lib.hid (six_sub (u % 16) hm16)
    by_cases h : u < 16
    · have h' : (u : Int) < 16 := by omega
      have HE : Hid (hexL u = [hxd (u % 16)]) := by show hexL u = _; rw [hex_one h, Nat.mod_eq_of_lt h]
      clear ih hf h hu
      revert hm hm16 HX HE
      generalize u % 16 = m
      intro hm hm16 HX HE
      have hm' : (m : Int) < 16 := by omega
      go_enter Tryd.func14, Tryd.ntmps14
      rw [six_lit]
      generalize hF : mkS sixL = F at HX ⊢
      have hFs : F.size = 16 := by rw [← hF]; rfl
      clear hF
      go_wp2
      go_ret
      exact ⟨ret_str (by rw [HX.out, HE.out]), rfl⟩
    · have h' : ¬ (u : Int) < 16 := by omega
      have e1 : ((u / 16 : Nat) : Int) = (u : Int) / 16 := by omega
      have H1 := Lib.hid (fun W => ih (u / 16) W (by omega) (by omega))
      rw [e1] at H1
      have HE : Hid (mkS (hexL (u / 16)) ++ mkS [hxd (u % 16)] = mkS (hexL u)) := by show _ = mkS (hexL u); rw [mkS_app, hex_more h]
      have hz1 : (mkS (hexL (u / 16))).size ≤ 30 := by
        rw [size_mkS]
        have := hex_len 15 (u / 16) (by have : (16 : Nat) ^ (15 + 1) = 18446744073709551616 := by decide
                                        omega)
        omega
      have hz2 : (mkS [hxd (u % 16)]).size = 1 := by rw [size_mkS]; rfl
      clear ih hf h hu e1
      revert hm hm16 HX HE H1 hz1 hz2
      generalize mkS (hexL (u / 16)) = x
      generalize u % 16 = m
      intro hm hm16 HX H1 HE hz1 hz2
      have hm' : (m : Int) < 16 := by omega
      go_enter Tryd.func14, Tryd.ntmps14
      rw [six_lit]
      generalize hF : mkS sixL = F at HX ⊢
      have hFs : F.size = 16 := by rw [← hF]; rfl
      clear hF
      go_wp2_with fail
      refine (H1.out _).mono ?_
      rintro e w' ⟨rfl, rfl⟩
      go_wp2
      go_ret
      exact ⟨ret_str (by rw [HX.out]; exact HE.out), rfl⟩
end Go.Proofs.YteegbcjpganobaaDoor.Nu
