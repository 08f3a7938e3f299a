/- The walks of the two statements of layer 27. -/
import Derived.Test.YtbafjilhopgjmaaDoorPgG
namespace Go.Proofs.YtbafjilhopgjmaaDoor.Pg
open Go.RowKit Ch
set_option linter.unusedSimpArgs false
set_option linter.unusedVariables false

set_option maxRecDepth 100000 in
set_option maxHeartbeats 4000000 in
theorem names_walk (a0 : ByteArray) (w0 : a0.size ≤ maxLen) (w : World) (hT : Nu.Tabs w) :
    Calls Tryd.prog 4 #[.string a0] w fun e w' => e = .returned (.bool true) ∧ Below w.heap.size w w' := by
  have hsh := Lib.hid (fun W => short_c a0 W w0)
  have hsz := short_sz a0
  have HT := Lib.hid hT
  clear hT
  revert hsh hsz
  generalize mkS (shortL a0.data.toList) = s
  intro hsh hsz
  have HC := Lib.hid (fun W => Names_c s W (by omega))
  have HR := Lib.hid (fun W => NamesR_c s W (by omega))
  have hlen : ∀ ps, nmL s.data.toList = some ps → ps.length ≤ 1000 := by
    intro ps h
    have hl := cutL_len 44 s.data.toList
    rw [← Lib.size_eq s] at hl
    unfold nmL at h
    split at h
    · injection h with h; subst h; simp
    · split at h
      · cases h
      · injection h with h; subst h; omega
  revert HC HR hlen
  generalize nmL s.data.toList = q
  intro HC HR hlen
  cases q with
  | none =>
    have HX : Hid (∀ W, Calls Tryd.prog 13 #[.slice none 0 0, .slice none 0 0] W fun e w' => e = .returned (.bool true) ∧ Below W.heap.size W w') := fun W => texts_y _ _ [] W (str_nil W) (str_nil W) (by simp)
    go_enter Tryd.func4, Tryd.ntmps4
    go_wp2_with fail
    (with_reducible refine (hsh.out _).mono ?_)
    rintro e w1 ⟨rfl, hw⟩
    rw [← hw]; clear hw
    go_wp2_with fail
    (with_reducible refine (HC.out _).mono ?_)
    rintro e w2 ⟨hb2, hv⟩
    obtain rfl := hv
    have HB2 := Lib.hid hb2
    clear hb2
    go_wp2_with fail
    (with_reducible refine (HR.out _).mono ?_)
    rintro e w3 ⟨hb3, hv⟩
    obtain rfl := hv
    have HB3 : Hid (Below w.heap.size w w3) := HB2.out.trans (hb3.mono HB2.out.size)
    clear hb3
    go_wp2_with fail
    (with_reducible refine (HX.out _).mono ?_)
    rintro e w4 ⟨rfl, hb4⟩
    have HB4 : Hid (Below w.heap.size w w4) := HB3.out.trans (hb4.mono HB3.out.size)
    clear hb4
    go_wp2_with fail
    (with_reducible refine (awake_c _ (HT.out.go HB4.out)).mono ?_)
    rintro e w5 ⟨rfl, hb5⟩
    have HB5 : Hid (Below w.heap.size w w5) := HB4.out.trans (hb5.mono HB4.out.size)
    clear hb5
    go_wp2
    go_ret
    exact ⟨rfl, HB5.out⟩
  | some ps =>
    have hl := hlen ps rfl
    have HX : Hid (∀ W v u, StR v ps W → StR u ps W → Calls Tryd.prog 13 #[v, u] W fun e w' => e = .returned (.bool true) ∧ Below W.heap.size W w') := fun W v u hv hu => texts_y v u ps W hv hu (by omega)
    go_enter Tryd.func4, Tryd.ntmps4
    go_wp2_with fail
    (with_reducible refine (hsh.out _).mono ?_)
    rintro e w1 ⟨rfl, hw⟩
    rw [← hw]; clear hw
    go_wp2_with fail
    (with_reducible refine (HC.out _).mono ?_)
    rintro e w2 ⟨hb2, v, rfl, hv⟩
    have HB2 := Lib.hid hb2
    have HV2 := Lib.hid hv
    clear hb2 hv
    go_wp2_with fail
    (with_reducible refine (HR.out _).mono ?_)
    rintro e w3 ⟨hb3, u, rfl, hu⟩
    have HB3 : Hid (Below w.heap.size w w3) := HB2.out.trans (hb3.mono HB2.out.size)
    have HV3 := Lib.hid (HV2.out.go hb3)
    have HU3 := Lib.hid hu
    clear hb3 hu
    go_wp2_with fail
    (with_reducible refine (HX.out _ _ _ HV3.out HU3.out).mono ?_)
    rintro e w4 ⟨rfl, hb4⟩
    have HB4 : Hid (Below w.heap.size w w4) := HB3.out.trans (hb4.mono HB3.out.size)
    clear hb4
    go_wp2_with fail
    (with_reducible refine (awake_c _ (HT.out.go HB4.out)).mono ?_)
    rintro e w5 ⟨rfl, hb5⟩
    have HB5 : Hid (Below w.heap.size w w5) := HB4.out.trans (hb5.mono HB4.out.size)
    clear hb5
    go_wp2
    go_ret
    exact ⟨rfl, HB5.out⟩
end Go.Proofs.YtbafjilhopgjmaaDoor.Pg
