/- ChunkBack's walk, for every two texts that came in, any size and any limits; what the rows' condition gives. -/
import Derived.Test.YteegbcjpganobaaDoorCkBk
import Derived.Test.YteegbcjpganobaaDoorNuLaid
namespace Go.Proofs.YteegbcjpganobaaDoor.Hd
open Go.RowKit Ch
set_option linter.unusedSimpArgs false
set_option linter.unusedVariables false

theorem backA (a0 a3 : ByteArray) (size la lb lc : Int) (w : World) (h0 : a0.size ≤ maxLen) (h3 : a3.size ≤ maxLen) (hM : Mx w) (hT : Nu.Tabs w) :
    Calls Tryd.prog 3 #[.string a0, .int .i64 size, .agg #[.int .i64 la, .int .i64 lb, .int .i64 lc], .string a3] w fun e w' => e = .returned (.bool true) ∧ Below w.heap.size w w' := by
  have hsh := Lib.hid (fun W => Hd.short_c a0 W h0)
  have hsz := Hd.short_sz a0
  have hsh2 := Lib.hid (fun W => Hd.short_c a3 W h3)
  have hsz2 := Hd.short_sz a3
  revert hsh hsz hsh2 hsz2
  generalize mkS (Hd.shortL a0.data.toList) = s
  generalize mkS (Hd.shortL a3.data.toList) = m
  intro hsh hsz hsh2 hsz2
  have hsl := Lib.size_eq s
  have hN1 : 1 ≤ (max size 1).toNat := by omega
  have hel : (encC (max size 1).toNat s.data.toList).length ≤ 8 * s.data.toList.length + 5 := enc_len _ _ _ hN1 (by omega)
  have hez : (mkS (encC (max size 1).toNat s.data.toList)).size = (encC (max size 1).toNat s.data.toList).length := size_mkS _
  have HE := fun W h => Enc_c s size W h hsz
  have HER := fun W => EncR_c (s.size + 1) s size W (by omega) hsz
  have hap : (mkS (encC (max size 1).toNat s.data.toList) ++ m).data.toList = encC (max size 1).toNat s.data.toList ++ m.data.toList := by simp [Ch.mkS]
  have hP := fun W hM => CParse_c (mkS (encC (max size 1).toNat s.data.toList) ++ m) la lb lc W hM (by rw [ByteArray.size_append]; omega) _ rfl
  rw [hap] at hP
  have hF := fin_enc s.data.toList m.data.toList (clmp la 16 8192) (clmp lb 1 100) (clmp lc 0 1048576) (max size 1).toNat hN1 (by unfold clmp; omega) (by unfold clmp; omega) (by omega)
  have HR : Hid (∀ W, ∃ c1 c2, Calls Tryd.prog 9 #[.agg #[.int .i64 la, .int .i64 lb, .int .i64 lc]] W fun e w' => e = .returned (.agg #[.int .i64 c1, .int .i64 c2, .int .i64 (clmp lc 0 1048576)]) ∧ Below W.heap.size W w') := fun W => ⟨_, _, RightR_c la lb lc W⟩
  rw [← hsl] at hF
  revert hP hF
  generalize finL (encC (max size 1).toNat s.data.toList ++ m.data.toList) (clmp la 16 8192) (clmp lb 1 100) (clmp lc 0 1048576) = q
  intro hP hF
  by_cases hle : (s.size : Int) ≤ clmp lc 0 1048576
  · obtain ⟨j1, j2, j3⟩ := hF.1 hle
    rw [if_pos j1, j2, j3] at hP
    exact backW a0 a3 s m _ _ size la lb lc _ 0 _ false w (Lib.hid hM) (Lib.hid hT) hsz hsz2 (by rw [hez]; omega) hsh hsh2 (Lib.hid HE) (Lib.hid HER) (Lib.hid hP) HR ⟨fun h => (by cases h), fun _ => ⟨by omega, (mkS_of rfl).symm, by rw [hez], rfl⟩⟩
  · have j1 := hF.2 hle
    rw [if_neg (by omega), j1] at hP
    exact backW a0 a3 s m _ _ size la lb lc 0 _ _ true w (Lib.hid hM) (Lib.hid hT) hsz hsz2 (by rw [hez]; omega) hsh hsh2 (Lib.hid HE) (Lib.hid HER) (Lib.hid hP) HR ⟨fun _ => ⟨by omega, rfl, rfl, rfl⟩, fun h => (by cases h)⟩
theorem of_laidT {W : World} (h : laidMetH Tryd.prog [("math/bits.deBruijn32tab", Rows.laid_math_bits_deBruijn32tab), ("math/bits.deBruijn64tab", Rows.laid_math_bits_deBruijn64tab), ("internal/strconv.uint64pow10", Rows.laid_internal_strconv_uint64pow10), ("unicode/utf8.acceptRanges", Rows.laid_unicode_utf8_acceptRanges), ("unicode/utf8.first", Rows.laid_unicode_utf8_first)] W) : Nu.Tabs W := by
  rw [MakeChecks.laidMetH_plain _ _ _ (by kernel_rfl)] at h
  obtain ⟨ps, ⟨g0, t0, cs0, f0, p0, q0, hg0, ht0, hv0, hd0, ⟨g1, t1, cs1, f1, p1, q1, hg1, ht1, hv1, hd1, ⟨g2, t2, cs2, f2, p2, q2, hg2, ht2, hv2, hd2, _, _⟩, _⟩, _⟩, _, _⟩ := h
  obtain rfl := Option.some.inj (Nu.g64.symm.trans hg1)
  obtain rfl := Option.some.inj (Nu.gPow.symm.trans hg2)
  obtain rfl := Option.some.inj (Nu.t64.symm.trans ht1)
  obtain rfl := Option.some.inj (Nu.tPow.symm.trans ht2)
  have e1 := Nu.br_cells hd1
  have e2 := Nu.pow_cells hd2
  obtain ⟨l1⟩ := cs1
  obtain ⟨l2⟩ := cs2
  try simp only at e1 e2
  subst e1 e2
  exact ⟨Nu.var_block hg2 hv2, Nu.var_block hg1 hv1⟩
end Go.Proofs.YteegbcjpganobaaDoor.Hd
