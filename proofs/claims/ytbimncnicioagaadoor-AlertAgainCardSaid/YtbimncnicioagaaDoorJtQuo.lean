/- The contracts of package jtok's putByte and Quote: a text in quotes, byte by byte; for every text of at most three hundred bytes; where the tables lie as the program's text lays them. -/
import Derived.Test.YtbimncnicioagaaDoorJtQuoP
import Derived.Test.YtbimncnicioagaaDoorJtBldB
import Derived.Test.YtbimncnicioagaaDoorNuXa
namespace Go.Proofs.YtbimncnicioagaaDoor.Jt
open Go.RowKit
set_option linter.unusedSimpArgs false
set_option linter.unusedVariables false

theorem nuTabs_below {B : Nat} {w w' : World} (h : Nu.Tabs w) (hb : Below B w w') (hB : 6 ≤ B) : Nu.Tabs w' := by
  obtain ⟨⟨t, f, h0⟩, t1, f1, h1⟩ := h
  exact ⟨⟨t, f, (hb.block 3 (by omega)).trans h0⟩, t1, f1, (hb.block 5 (by omega)).trans h1⟩
theorem and15_all : ∀ n : Fin 256, bits .and .u8 (n.val : Int) 15 = (n.val : Int) % 16 := by decide +kernel
theorem and15 (c : UInt8) : bits .and .u8 (c.toNat : Int) 15 = ((c.toNat % 16 : Nat) : Int) := by
  have := and15_all ⟨c.toNat, c.toNat_lt⟩
  simp only at this
  rw [this]; omega
theorem mea_all : ∀ n : Fin 256, decide (0 ≤ Lib.indexByte meaL (UInt8.ofNat n.val)) = true → decide (Lib.indexByte meaL (UInt8.ofNat n.val) < 7) = true ∧ quB (UInt8.ofNat n.val) = [92, behL.getD (Lib.indexByte meaL (UInt8.ofNat n.val)).toNat 0] := by decide +kernel
theorem mea_none : ∀ n : Fin 256, decide (0 ≤ Lib.indexByte meaL (UInt8.ofNat n.val)) = false → quB (UInt8.ofNat n.val) = if n.val < 32 then [92, 117, 48, 48, Nu.hxd (n.val / 16), Nu.hxd (n.val % 16)] else [UInt8.ofNat n.val] := by decide +kernel
theorem mea_idx (c : UInt8) : (∃ i : Nat, i < 7 ∧ Lib.indexByte meaL c = (i : Int) ∧ quB c = [92, behL.getD i 0]) ∨ (Lib.indexByte meaL c < 0 ∧ quB c = if c.toNat < 32 then [92, 117, 48, 48, Nu.hxd (c.toNat / 16), Nu.hxd (c.toNat % 16)] else [c]) := by
  have h1 := mea_all ⟨c.toNat, c.toNat_lt⟩
  have h2 := mea_none ⟨c.toNat, c.toNat_lt⟩
  have e : UInt8.ofNat c.toNat = c := by simp
  simp only [e] at h1 h2
  by_cases h : 0 ≤ Lib.indexByte meaL c
  · left
    obtain ⟨a, b⟩ := h1 (by simpa using h)
    rw [decide_eq_true_eq] at a
    exact ⟨(Lib.indexByte meaL c).toNat, by omega, by omega, b⟩
  · right
    exact ⟨by omega, h2 (by simpa using h)⟩
theorem beh_lit : (ByteArray.mk #[34, 92, 98, 102, 110, 114, 116]) = mkS behL := rfl
theorem hex_1 {u : Nat} (h : u < 16) : mkS (Nu.hexL u) = mkS [Nu.hxd u] := by rw [Nu.hex_one h]
def PbP (b : Nat) (l : List UInt8) (w : World) (e : Ending) (w' : World) : Prop := e = .returned (.tuple #[]) ∧ Bld b l w' ∧ Below b w w'
set_option maxRecDepth 100000 in
set_option maxHeartbeats 8000000 in
theorem putByte_c (b : Nat) (l : List UInt8) (c : UInt8) (w : World) (hb : Bld b l w) (hT : Nu.Tabs w) (hbb : 6 ≤ b) (hlen : l.length ≤ 10000) :
    Calls Tryd.prog 53 #[.pointer (some ⟨b, 0, none⟩), .int .u8 (c.toNat : Int)] w (PbP b (l ++ quB c) w) := by
  have HI := Lib.hid (fun W => Ch.idx_c ⟨#[34, 92, 8, 12, 10, 13, 9]⟩ (c.toNat : Int) W)
  have hd : (ByteArray.mk #[34, 92, 8, 12, 10, 13, 9]).data.toList = meaL := rfl
  have hbc : ((c.toNat : Nat) : Int).toNat.toUInt8 = c := by simp
  rw [hd, hbc] at HI
  have c0 : 0 ≤ ((c.toNat : Nat) : Int) := by omega
  have c9 : ((c.toNat : Nat) : Int) ≤ 255 := by have := c.toNat_lt; omega
  have HT := Lib.hid hT
  clear hT hd hbc
  rcases mea_idx c with ⟨i, hi, hix, hq⟩ | ⟨hix, hq⟩
  · rw [hix] at HI
    rw [hq]
    have HB1 := Lib.hid (wbyte_c b l 92 92 rfl w hb (by omega))
    have HB2 := Lib.hid (fun (W : World) (x : UInt8) (z : Int) (hz : z = (x.toNat : Int)) (h : Bld b (l ++ [92]) W) => wbyte_c b (l ++ [92]) x z hz W h (by rw [List.length_append]; simp; omega))
    clear hix hq hb
    have hi' : (i : Int) < 7 := by omega
    have hi0 : (0 : Int) ≤ (i : Int) := by omega
    have hiN : 0 ≤ (i : Int) := hi0
    go_enter Tryd.func53, Tryd.ntmps53
    rw [beh_lit]
    generalize hF : mkS behL = F
    have hFs : F.size = 7 := by rw [← hF]; rfl
    have HX : Hid (∀ (h : i < F.size), (F[i].toNat : Int) = ((behL.getD i 0).toNat : Int)) := fun h => by
      rw [← Nu.getD_at F i h, ← hF]; rfl
    clear hF
    go_wp2_with (go_at_call 68; refine (HI.out _).mono ?_; rintro e w' ⟨rfl, rfl⟩)
    refine HB1.out.mono ?_
    rintro e w1 ⟨rfl, hbl1, hb1⟩
    have HBL1 := Lib.hid hbl1
    have HBW1 := Lib.hid hb1
    clear hbl1 hb1
    go_wp2_with fail
    have hF7 : i < F.size := by omega
    refine (HB2.out _ (behL.getD i 0) _ (HX.out hF7) HBL1.out).mono ?_
    rintro e w2 ⟨rfl, hbl2, hb2⟩
    have HBL2 := Lib.hid hbl2
    have HBW2 := Lib.hid hb2
    clear hbl2 hb2
    go_wp2
    go_end0
    exact ⟨rfl, by have := HBL2.out; rw [List.append_assoc] at this; exact this, HBW1.out.trans HBW2.out⟩
  · rw [hq]
    revert HI hix
    generalize Lib.indexByte meaL c = z
    intro HI hix
    by_cases h32 : c.toNat < 32
    · rw [if_pos h32]
      have h32' : ((c.toNat : Nat) : Int) < 32 := by omega
      have hd32 : decide (((c.toNat : Nat) : Int) < 32) = true := by simpa using h32'
      have ha := and15 c
      have HW1 := Lib.hid (wstr_c b l ⟨#[92, 117, 48, 48]⟩ w hb (by show _ + 4 ≤ _; omega))
      have HP1 := Lib.hid (fun (W : World) (hW : Nu.Tabs W) => Nu.puthex_pos (c.toNat / 16) W (by omega) hW)
      have HP2 := Lib.hid (fun (W : World) (hW : Nu.Tabs W) => Nu.puthex_pos (c.toNat % 16) W (by omega) hW)
      have es : ((c.toNat / 16 : Nat) : Int) = ((c.toNat : Nat) : Int) / 16 := by omega
      rw [es, Nu.hex_one (by omega)] at HP1
      rw [Nu.hex_one (by omega)] at HP2
      have HW2 := Lib.hid (fun (W : World) (x : UInt8) (l' : List UInt8) (hl : l'.length ≤ 10010) (h : Bld b l' W) => wstr_c b l' (Nu.mkS [x]) W h (by show _ + 1 ≤ _; omega))
      clear hq es hb
      go_enter Tryd.func53, Tryd.ntmps53
      go_wp2_with (go_at_call 68; refine (HI.out _).mono ?_; rintro e w' ⟨rfl, rfl⟩)
      refine HW1.out.mono ?_
      rintro e w1 ⟨rfl, hbl1, hb1⟩
      have HBL1 := Lib.hid hbl1
      have HBW1 := Lib.hid hb1
      have HT1 : Hid (Nu.Tabs w1) := nuTabs_below HT.out hb1 hbb
      clear hbl1 hb1
      go_wp2_with fail
      refine (HP1.out _ HT1.out).mono ?_
      rintro e w2 ⟨rfl, hb2⟩
      have HBL2 := Lib.hid (HBL1.out.go hb2)
      have HBW2 : Hid (Below b w w2) := HBW1.out.trans (hb2.mono (Nat.le_of_lt HBL1.out.lt))
      have HT2 : Hid (Nu.Tabs w2) := HT1.out.go hb2
      clear hb2
      go_wp2_with fail
      refine (HW2.out _ _ _ (by rw [List.length_append]; show _ + 4 ≤ _; omega) HBL2.out).mono ?_
      rintro e w3 ⟨rfl, hbl3, hb3⟩
      have HBL3 := Lib.hid hbl3
      have HBW3 : Hid (Below b w w3) := HBW2.out.trans hb3
      have HT3 : Hid (Nu.Tabs w3) := nuTabs_below HT2.out hb3 hbb
      clear hbl3 hb3
      go_wp2_with fail
      refine (HP2.out _ HT3.out).mono ?_
      rintro e w4 ⟨rfl, hb4⟩
      have HBL4 := Lib.hid (HBL3.out.go hb4)
      have HBW4 : Hid (Below b w w4) := HBW3.out.trans (hb4.mono (Nat.le_of_lt HBL3.out.lt))
      clear hb4
      go_wp2_with fail
      refine (HW2.out _ _ _ (by rw [List.length_append, List.length_append]; show _ + 4 + 1 ≤ _; omega) HBL4.out).mono ?_
      rintro e w5 ⟨rfl, hbl5, hb5⟩
      have HBL5 := Lib.hid hbl5
      have HBW5 : Hid (Below b w w5) := HBW4.out.trans hb5
      clear hbl5 hb5
      go_wp2
      go_end0
      exact ⟨rfl, by have := HBL5.out; rw [List.append_assoc, List.append_assoc] at this; exact this, HBW5.out⟩
    · rw [if_neg h32]
      have h32' : ¬ ((c.toNat : Nat) : Int) < 32 := by omega
      have hd32 : decide (((c.toNat : Nat) : Int) < 32) = false := by simpa using h32'
      have HB1 := Lib.hid (wbyte_c b l c _ rfl w hb (by omega))
      clear hq hb
      go_enter Tryd.func53, Tryd.ntmps53
      go_wp2_with (first | (go_at_call 68; refine (HI.out _).mono ?_; rintro e w' ⟨rfl, rfl⟩) | (go_at_call 52; refine HB1.out.mono ?_; rintro e w1 ⟨rfl, hbl1, hb1⟩; have HBL1 := Lib.hid hbl1; have HBW1 := Lib.hid hb1; clear hbl1 hb1))
      go_end0
      exact ⟨rfl, HBL1.out, HBW1.out⟩
theorem quo_snoc {l : List UInt8} {k : Nat} (h : k < l.length) : quL (l.take (k + 1)) = quL (l.take k) ++ quB l[k] := by
  rw [List.take_succ_eq_append_getElem h, quL_app, quL_cons]; simp [quL]
def quoV (l : List UInt8) : Ending := if vldB l = true then .returned (.tuple #[.string (mkS (quoL l)), .int .i64 0]) else .returned (.tuple #[.string ⟨#[]⟩, .int .i64 3])
set_option maxRecDepth 100000 in
set_option maxHeartbeats 8000000 in
theorem Quote_c (s : ByteArray) (w : World) (hE : Ut.Tabs w) (hT : Nu.Tabs w) (hs : s.size ≤ 300) (hbb : 6 ≤ w.heap.size) :
    Calls Tryd.prog 39 #[.string s] w fun e w' => e = quoV s.data.toList ∧ Below w.heap.size w w' := by
  have HV := Lib.hid (valid_c s w hE (by omega))
  have hsl := Lib.hid (size_l s)
  have HT := Lib.hid hT
  clear hE hT
  unfold quoV
  cases hv : vldB s.data.toList with
  | false =>
    rw [hv] at HV
    rw [if_neg (by decide)]
    clear hv
    go_enter Tryd.func39, Tryd.ntmps39
    go_wp2_with (go_at_call 46; refine HV.out.mono ?_; rintro e w1 ⟨rfl, hb1⟩; have B1 := Lib.hid hb1; clear hb1)
    go_ret2
    exact ⟨rfl, B1.out⟩
  | true =>
    rw [hv] at HV
    rw [if_pos rfl]
    clear hv
    go_enter Tryd.func39, Tryd.ntmps39
    go_wp2_with fail
    refine HV.out.mono ?_
    rintro e w1 ⟨rfl, hb1⟩
    have HB1 := Lib.hid hb1
    have HT1 : Hid (Nu.Tabs w1) := HT.out.go hb1
    have hw1 : w.heap.size ≤ w1.heap.size := hb1.size
    clear hb1 HV
    have HQ0 := Lib.hid (wbyte_c w1.heap.size [] 34 34 rfl _ (Bld.new w1) (by simp))
    have HN0 : Hid (Below w.heap.size w (w1.alloc (.cells #[.pointer none, .slice none 0 0] 70))) := HB1.out.alloc hw1 _
    have HNT : Hid (Nu.Tabs (w1.alloc (.cells #[.pointer none, .slice none 0 0] 70))) := HT1.out.go ((Below.refl _ _).alloc (Nat.le_refl _) _)
    go_wp2_with fail
    refine HQ0.out.mono ?_
    rintro e w2 ⟨rfl, hbl2, hb2⟩
    have HBL2 : Hid (Bld w1.heap.size (34 :: quL (s.data.toList.take 0)) w2) := hbl2
    have HB2 : Hid (Below w.heap.size w w2) := HN0.out.trans (hb2.mono hw1)
    have HT2 : Hid (Nu.Tabs w2) := nuTabs_below HNT.out hb2 (by omega)
    clear hbl2 hb2 HQ0 HN0 HNT HB1 HT1
    revert HBL2 hw1
    generalize w1.heap.size = bb
    intro hw1 HBL2
    go_wp2
    go_loopw [12] (fun v wr => ∃ k : Nat, k ≤ s.size ∧ v = .int .i64 k ∧ Bld bb (34 :: quL (s.data.toList.take k)) wr ∧ Nu.Tabs wr ∧ Below w.heap.size w wr) (fun v _ => s.size - (intOf v).toNat)
    case atStart => exact ⟨0, by omega, rfl, HBL2.out, HT2.out, HB2.out⟩
    case round =>
      clear HBL2 HT2 HB2
      obtain ⟨k, hk, rfl, hbld, htab, hB⟩ := hrel
      have HBLD := Lib.hid hbld
      have HTAB := Lib.hid htab
      have HB := Lib.hid hB
      clear hbld htab hB
      have hql := quL_len (s.data.toList.take k)
      have htl : (s.data.toList.take k).length ≤ k := List.length_take_le _ _
      by_cases hlt : k < s.size
      · have hl : k < s.data.toList.length := by rw [← hsl.out]; exact hlt
        have HPB := Lib.hid (putByte_c bb (34 :: quL (s.data.toList.take k)) s[k] wr HBLD.out HTAB.out (by omega) (by rw [List.length_cons]; omega))
        have HSN : Hid (34 :: quL (s.data.toList.take (k + 1)) = (34 :: quL (s.data.toList.take k)) ++ quB s[k]) := by
          show 34 :: quL (s.data.toList.take (k + 1)) = _
          rw [quo_snoc hl, data_at hlt hl]; rfl
        clear hql htl
        go_wp2_with (go_at_call 53; refine HPB.out.mono ?_; rintro e w3 ⟨rfl, hbl3, hb3⟩; have HBL3 := Lib.hid hbl3; have HB3 := Lib.hid hb3; clear hbl3 hb3)
        go_roundw
        case rel => exact ⟨k + 1, by omega, by go_num, by rw [HSN.out]; exact HBL3.out, nuTabs_below HTAB.out HB3.out (by omega), HB.out.trans (HB3.out.mono hw1)⟩
        case measure => simp [intOf]; omega
      · have htk : s.data.toList.take k = s.data.toList := List.take_of_length_le (by rw [← hsl.out]; omega)
        rw [htk] at HBLD hql
        rw [← hsl.out] at hql
        have HQ1 := Lib.hid (wbyte_c bb (34 :: quL s.data.toList) 34 34 rfl wr HBLD.out (by rw [List.length_cons]; omega))
        have HST := Lib.hid (fun (W : World) (h : Bld bb ((34 :: quL s.data.toList) ++ [34]) W) => str_c bb _ W h)
        clear htk hql htl
        go_wp2_with (first | (go_at_call 52; refine HQ1.out.mono ?_; rintro e w3 ⟨rfl, hbl3, hb3⟩; have HBL3 := Lib.hid hbl3; have HB3 := Lib.hid hb3; have HS3 := Lib.hid (HST.out _ hbl3); clear hbl3 hb3) | (go_at_call 40; refine HS3.out.mono ?_; rintro e w4 ⟨rfl, hb4⟩; have HB4 := Lib.hid hb4; clear hb4))
        go_ret2
        have h3 := HB.out.trans (HB3.out.mono hw1)
        exact ⟨rfl, h3.trans (HB4.out.mono hw1)⟩
end Go.Proofs.YtbimncnicioagaaDoor.Jt
