/- Contracts of both Prints and of package etag's Number: for every mark whose text has at most nine hundred bytes; Number where the library's tables lie as the program's text lays them. -/
import Derived.Test.YtojmjdgapfcjfaaDoorEtAwake
namespace Go.Proofs.YtojmjdgapfcjfaaDoor.Et
open Go.RowKit Ch
set_option linter.unusedSimpArgs false
set_option linter.unusedVariables false

theorem txt_f (x : ByteArray) : ByteArray.mk #[34] ++ x ++ ByteArray.mk #[34] = mkS (txt (false, x.data.toList)) := mkS_of (by rw [app_data, app_data]; rfl)
theorem txt_t (x : ByteArray) : ByteArray.mk #[87, 47] ++ (ByteArray.mk #[34] ++ x ++ ByteArray.mk #[34]) = mkS (txt (true, x.data.toList)) := mkS_of (by rw [app_data, app_data, app_data]; rfl)
theorem txt_t2 (x : ByteArray) : ByteArray.mk #[87, 47, 34] ++ x ++ ByteArray.mk #[34] = mkS (txt (true, x.data.toList)) := mkS_of (by rw [app_data, app_data]; rfl)
def prV (t : TagL) : Ending := if mkA t.2 then .returned (.tuple #[.string (mkS (txt t)), .int .i64 0]) else .returned (.tuple #[.string ⟨#[]⟩, .int .i64 3])
set_option maxRecDepth 100000 in
set_option maxHeartbeats 1000000 in
theorem Print_c (b : Bool) (x : ByteArray) (w : World) (hx : x.size ≤ 900) : Calls Tryd.prog 9 #[.agg #[.bool b, .string x]] w fun e w' => e = prV (b, x.data.toList) ∧ Below w.heap.size w w' := by
  have HA := Lib.hid (fun W => all_c x W (by omega))
  unfold prV
  simp only
  cases hm : mkA x.data.toList with
  | false =>
    rw [hm] at HA
    rw [if_neg (by simp)]
    clear hm
    go_enter Tryd.func9, Tryd.ntmps9
    go_wp2_with fail
    refine (HA.out _).mono ?_
    rintro e w1 ⟨rfl, hw⟩
    rw [← hw]; clear hw
    go_wp2
    go_ret2
    exact ⟨rfl, (Below.refl _ _).alloc (Nat.le_refl _) _⟩
  | true =>
    rw [hm] at HA
    rw [if_pos rfl]
    clear hm
    cases b with
    | false =>
      have HX := Lib.hid (txt_f x)
      go_enter Tryd.func9, Tryd.ntmps9
      go_wp2_with fail
      refine (HA.out _).mono ?_
      rintro e w1 ⟨rfl, hw⟩
      rw [← hw]; clear hw
      go_wp2
      go_ret2
      exact ⟨by rw [← HX.out]; rfl, (Below.refl _ _).alloc (Nat.le_refl _) _⟩
    | true =>
      have HX := Lib.hid (txt_t x)
      go_enter Tryd.func9, Tryd.ntmps9
      go_wp2_with fail
      refine (HA.out _).mono ?_
      rintro e w1 ⟨rfl, hw⟩
      rw [← hw]; clear hw
      go_wp2
      go_ret2
      exact ⟨by rw [← HX.out]; rfl, (Below.refl _ _).alloc (Nat.le_refl _) _⟩
set_option maxRecDepth 100000 in
set_option maxHeartbeats 1000000 in
theorem PrintR_c (b : Bool) (x : ByteArray) (w : World) (hx : x.size ≤ 900) : Calls Tryd.prog 13 #[.agg #[.bool b, .string x]] w fun e w' => e = .returned (.string (mkS (txt (b, x.data.toList)))) ∧ Below w.heap.size w w' := by
  cases b with
  | false =>
    have HX := Lib.hid (txt_f x)
    go_enter Tryd.func13, Tryd.ntmps13
    go_wp2
    go_ret
    exact ⟨ret_str HX.out, (Below.refl _ _).alloc (Nat.le_refl _) _⟩
  | true =>
    have HX := Lib.hid (txt_t2 x)
    go_enter Tryd.func13, Tryd.ntmps13
    go_wp2
    go_ret
    exact ⟨ret_str HX.out, (Below.refl _ _).alloc (Nat.le_refl _) _⟩
end Go.Proofs.YtojmjdgapfcjfaaDoor.Et
