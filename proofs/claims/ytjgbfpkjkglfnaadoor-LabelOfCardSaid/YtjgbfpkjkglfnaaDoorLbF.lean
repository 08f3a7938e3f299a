/- The contract of package label's Hash: for few pairs of short names and values that are runes, where the tables lie as the program's text lays them. -/
import Derived.Test.YtjgbfpkjkglfnaaDoorLbE
namespace Go.Proofs.YtjgbfpkjkglfnaaDoor.Lb
open Go.RowKit Ch Jt
set_option linter.unusedSimpArgs false
set_option linter.unusedVariables false

/-- a number of bytes, one more byte in it -/
def hstp (z : Int) (c : UInt8) : Int := IntKind.u64.wrap (bits BinOp.xor IntKind.u64 z (IntKind.u64.wrap (c.toNat : Int)) * 1099511628211)
def hshL (l : List UInt8) : Int := l.foldl hstp 14695981039346656037
theorem hsh_snoc {s : ByteArray} {k : Nat} (h : k < s.size) : hshL (s.data.toList.take (k + 1)) = hstp (hshL (s.data.toList.take k)) s[k] := by
  rw [take_snoc h]; unfold hshL; rw [List.foldl_append]; rfl
set_option maxRecDepth 100000 in
set_option maxHeartbeats 4000000 in
theorem Hash_c (ao : Option Addr) (cap : Nat) (gs : List FB) (w : World) (hE : Ev w) (hR : RdF (.slice ao gs.length cap) gs w) (hm : gs.length ≤ 100) (hs : ∀ x ∈ gs, shortF x) (hv : ∀ x ∈ gs, vldB x.2.data.toList = true) :
    Calls Tryd.prog 14 #[.agg #[.slice ao gs.length cap]] w fun e w' => e = .returned (.int .u64 (hshL (txtL gs))) ∧ Below w.heap.size w w' := by
  have hba := (Below.refl w.heap.size w).alloc (Nat.le_refl _) (.cells #[.slice ao gs.length cap] 27)
  have HSC := Lib.hid (String_c ao cap gs _ (hE.go hba) (hR.go hba) hm hs hv)
  have HBA := Lib.hid hba
  have htl : (Jt.mkS (txtL gs)).size ≤ 220102 := by
    have := prs_len hs
    rw [Jt.size_mkS]; unfold txtL
    simp only [List.length_cons, List.length_append, List.length_nil]; omega
  clear hba hE hR hs hv
  have HSD : Hid ((Jt.mkS (txtL gs)).data.toList = txtL gs) := Jt.data_mkS _
  revert HSC htl HSD
  generalize txtL gs = tx
  generalize Jt.mkS tx = s
  intro HSC htl HSD
  go_enter Tryd.func14, Tryd.ntmps14
  go_wp2_with fail
  refine HSC.out.mono ?_
  rintro e w2 ⟨rfl, hb2⟩
  have HB2 : Hid (Below w.heap.size w w2) := HBA.out.trans (hb2.mono HBA.out.size)
  clear hb2
  go_wp2
  go_loopw [3, 10] (fun h v wr => ∃ (k : Nat) (z : Int), k ≤ s.size ∧ v = .int .i64 k ∧ h = .int .u64 z ∧ Hid (z = hshL (s.data.toList.take k)) ∧ Hid (Below w.heap.size w wr)) (fun _ v _ => s.size - (intOf v).toNat)
  case atStart => exact ⟨0, _, by omega, rfl, rfl, Lib.hid rfl, HB2⟩
  case round =>
    clear HB2
    obtain ⟨k, z, hk, rfl, rfl, HZ, HB⟩ := hrel
    by_cases hlt : k < s.size
    · have hk0 : (0 : Int) ≤ (k : Int) := by omega
      have hkl : (k : Int) < (s.size : Int) := by omega
      have HSN : Hid (hstp z s[k] = hshL (s.data.toList.take (k + 1))) := by show _ = _; rw [hsh_snoc hlt, HZ.out]
      revert HSN
      generalize hc : s[k] = c
      intro HSN
      go_wp2
      go_roundw
      case rel => exact ⟨k + 1, _, by omega, by go_num, rfl, HSN, HB⟩
      case measure => simp [intOf]; omega
    · have HZE : Hid (z = hshL tx) := by show _ = _; rw [HZ.out, List.take_of_length_le (by rw [← Lib.size_eq]; omega), HSD.out]
      go_wp2
      go_ret
      exact ⟨congrArg (fun x => Ending.returned (.int .u64 x)) HZE.out, HB.out⟩
end Go.Proofs.YtjgbfpkjkglfnaaDoor.Lb
