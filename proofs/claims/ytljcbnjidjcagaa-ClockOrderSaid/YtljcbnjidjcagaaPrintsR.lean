/- Contract of the document's own Print, of any time: the text of the date ahead of which so many days stand, with hours, minutes and seconds. -/
import Derived.Test.YtljcbnjidjcagaaPrints
namespace Go.Proofs.Ytljcbnjidjcagaa
open Go.RowKit
set_option linter.unusedSimpArgs false
set_option linter.unusedVariables false

set_option maxHeartbeats 1000000 in
theorem print_r (t : Int) (w : World) (h0 : 0 ≤ t) (h1 : t ≤ 137438953472) : Calls Try.prog 15 #[.int .i64 t] w (PrintRIs t w) := by
  have HD := Lib.hid (fun W => dateR_yes (t / 86400) W (by omega) (by omega))
  go_enter Try.func15, Try.ntmps15
  go_wp2_with fail
  refine (HD.out _).mono ?_
  rintro e w0 ⟨y, m, d, hv, hn, rfl, hb⟩
  have B0 := Lib.hid hb
  have HV := Lib.hid hv
  have HN := Lib.hid hn
  obtain ⟨v1, v2, v3, v4, v5, v6⟩ := vld_of hv
  have hL := (len_bd y m).2
  have v7 : d ≤ 31 := by omega
  clear hv hn v6 hL HD hb
  go_wp2_with fail
  obtain ⟨r, hr⟩ : ∃ r, r = t % 86400 := ⟨_, rfl⟩
  rw [← hr]
  have r0 : 0 ≤ r := by omega
  have r1 : r < 86400 := by omega
  have HR := Lib.hid hr
  clear hr
  have HT : Hid (TX t (digs 4 y ++ [45] ++ digs 2 m ++ [45] ++ digs 2 d ++ [84] ++ digs 2 (r / 3600) ++ [58] ++ digs 2 (r % 3600 / 60) ++ [58] ++ digs 2 (r % 60) ++ [90])) := ⟨y, m, d, HV.out, HN.out, by rw [← HR.out]; rfl⟩
  have H1 := Lib.hid (fun W => digits_r 4 y W (by omega) (by omega) (by decide))
  have H2 := Lib.hid (fun W => digits_r 2 m W (by omega) (by omega) (by decide))
  have H3 := Lib.hid (fun W => digits_r 2 d W (by omega) (by omega) (by decide))
  have H4 := Lib.hid (fun W => digits_r 2 (r / 3600) W (by omega) (by omega) (by decide))
  have H5 := Lib.hid (fun W => digits_r 2 (r / 60 % 60) W (by omega) (by omega) (by decide))
  have H6 := Lib.hid (fun W => digits_r 2 (r % 60) W (by omega) (by omega) (by decide))
  have e5 : r % 3600 / 60 = r / 60 % 60 := by omega
  rw [e5] at HT
  clear e5
  have z1 : (mkS (digs 4 y)).size = 4 := by rw [size_mkS, digs_len]
  have z2 : (mkS (digs 2 m)).size = 2 := by rw [size_mkS, digs_len]
  have z3 : (mkS (digs 2 d)).size = 2 := by rw [size_mkS, digs_len]
  have z4 : (mkS (digs 2 (r / 3600))).size = 2 := by rw [size_mkS, digs_len]
  have z5 : (mkS (digs 2 (r / 60 % 60))).size = 2 := by rw [size_mkS, digs_len]
  have z6 : (mkS (digs 2 (r % 60))).size = 2 := by rw [size_mkS, digs_len]
  have HE : Hid (mkS (digs 4 y) ++ ⟨#[45]⟩ ++ mkS (digs 2 m) ++ ⟨#[45]⟩ ++ mkS (digs 2 d) ++ ⟨#[84]⟩ ++ mkS (digs 2 (r / 3600)) ++ ⟨#[58]⟩ ++ mkS (digs 2 (r / 60 % 60)) ++ ⟨#[58]⟩ ++ mkS (digs 2 (r % 60)) ++ ⟨#[90]⟩
      = mkS (digs 4 y ++ [45] ++ digs 2 m ++ [45] ++ digs 2 d ++ [84] ++ digs 2 (r / 3600) ++ [58] ++ digs 2 (r / 60 % 60) ++ [58] ++ digs 2 (r % 60) ++ [90])) :=
    mkS_of (by simp only [app_data, data_mkS])
  revert H1 H2 H3 H4 H5 H6 z1 z2 z3 z4 z5 z6 HE
  generalize mkS (digs 4 y) = s1
  generalize mkS (digs 2 m) = s2
  generalize mkS (digs 2 d) = s3
  generalize mkS (digs 2 (r / 3600)) = s4
  generalize mkS (digs 2 (r / 60 % 60)) = s5
  generalize mkS (digs 2 (r % 60)) = s6
  intro H1 H2 H3 H4 H5 H6 z1 z2 z3 z4 z5 z6 HE
  refine (H1.out _).mono ?_
  rintro e w1 ⟨rfl, hb1⟩
  have B1 := Lib.hid hb1
  clear hb1
  go_wp2_with fail
  refine (H2.out _).mono ?_
  rintro e w2 ⟨rfl, hb2⟩
  have B2 := Lib.hid hb2
  clear hb2
  go_wp2_with fail
  refine (H3.out _).mono ?_
  rintro e w3 ⟨rfl, hb3⟩
  have B3 := Lib.hid hb3
  clear hb3
  go_wp2_with fail
  refine (H4.out _).mono ?_
  rintro e w4 ⟨rfl, hb4⟩
  have B4 := Lib.hid hb4
  clear hb4
  go_wp2_with fail
  refine (H5.out _).mono ?_
  rintro e w5 ⟨rfl, hb5⟩
  have B5 := Lib.hid hb5
  clear hb5
  go_wp2_with fail
  refine (H6.out _).mono ?_
  rintro e w6 ⟨rfl, hb6⟩
  have B6 := Lib.hid hb6
  clear hb6
  go_wp2
  go_ret
  have C1 := B0.out.trans (B1.out.mono B0.out.size)
  have C2 := C1.trans (B2.out.mono C1.size)
  have C3 := C2.trans (B3.out.mono C2.size)
  have C4 := C3.trans (B4.out.mono C3.size)
  have C5 := C4.trans (B5.out.mono C4.size)
  exact ⟨_, HT.out, ret_str HE.out, C5.trans (B6.out.mono C5.size)⟩
end Go.Proofs.Ytljcbnjidjcagaa
