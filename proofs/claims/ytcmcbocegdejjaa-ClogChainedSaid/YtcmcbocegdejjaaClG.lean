/- The contract of package clog's Add, that goes well; no other condition. -/
import Derived.Test.YtcmcbocegdejjaaClF
import Derived.Deep.RegionHeld
namespace Go.Proofs.Ytcmcbocegdejjaa.Cl
open Go.RowKit Go.Lib Go.Shelf Go.Sort
set_option linter.unusedSimpArgs false
set_option linter.unusedVariables false

theorem trm_abv {M : Int} {all : List Ent} {fl : Int} : ∀ (n : Nat) (s : Int), fl ≤ s → trm M (abv all fl) n s = trm M all n s
  | 0, s, _ => rfl
  | n + 1, s, h => by
    rw [trm, trm, abv_abv h]
    split
    · cases e : abv all s with
      | nil => rfl
      | cons x t =>
        have := (abv_head e).1
        exact trm_abv n x.1 (by omega)
    · rfl
theorem bdr (W : World) : Below W.heap.size W W.drew := (Below.refl _ _).drew
/-- changes that can be read, apart from a log -/
def Apt (c : Nat) (gb : Option Nat) (v : Value) (cs : List Chg) (w : World) : Prop := ∃ ao cap, v = .slice ao cs.length cap ∧ (0 < cs.length → ∃ g o, ao = some ⟨g, o, none⟩ ∧ g < w.heap.size ∧ g ≠ c ∧ some g ≠ gb ∧ w.rangeAt g o (cC cs))
theorem Apt.go {c : Nat} {gb : Option Nat} {v : Value} {cs : List Chg} {w W : World} (h : Apt c gb v cs w) (hc : Ch c gb w W) : RdC v cs W := by
  obtain ⟨ao, cap, rfl, h⟩ := h
  refine ⟨ao, cap, rfl, fun h0 => ?_⟩
  obtain ⟨g, o, rfl, h1, h2, h3, h4⟩ := h h0
  refine ⟨g, o, rfl, Nat.lt_of_lt_of_le h1 hc.size, fun j v hv => ?_⟩
  rw [World.cell?_of_block (w := w) (a := ⟨g, o + j, none⟩) (hc.block g h1 h2 h3)]
  exact h4 j v hv
theorem Lq.ex {B c : Nat} {gb : Option Nat} {m : Int} {l : List Ent} {fl la : Int} {w W : World} (h : Lq B c gb m l fl la w W) : ∃ gb' v, W.heap[c]? = some (obL m v fl la) ∧ OwL B v l W ∧ v.ownBlock = gb' ∧ gb' ≠ some c ∧ Ch c gb w W ∧ NewB gb gb' w := by
  obtain ⟨gb', h1, h2, h3⟩ := h
  obtain ⟨v, k1, k2, k3⟩ := h1.ex
  exact ⟨gb', v, k1, k2, k3, h1.ne, h2, h3⟩
set_option maxRecDepth 100000 in
set_option maxHeartbeats 8000000 in
theorem Add_ok {B c : Nat} {gb : Option Nat} {m : Int} {l0 : List Ent} {fl la : Int} {w : World} (h : IsLg B c gb m l0 fl la w) (hB : B ≤ w.heap.size) (rev : Int) (ao : Option Addr) (cap : Nat) (cs : List Chg) (hr : la < rev) (hA : Apt c gb (.slice ao cs.length cap) cs w)
    (hs : Srt (l0 ++ ofC rev cs)) (hfl : ∀ x ∈ l0 ++ ofC rev cs, fl < x.1) (hl : l0.length ≤ 100000) (hcl : cs.length ≤ 100000) :
    Calls Try.prog 20 #[.pointer (some ⟨c, 0, none⟩), .int .i64 rev, .slice ao cs.length cap] w fun e w' => e = .returned (.int .i64 0) ∧ Lq B c gb m (abv (l0 ++ ofC rev cs) (trm (max m 1) (l0 ++ ofC rev cs) (l0 ++ ofC rev cs).length fl)) (trm (max m 1) (l0 ++ ofC rev cs) (l0 ++ ofC rev cs).length fl) rev w w' := by
  obtain ⟨i0, hi, hz0, hz1, hz2⟩ := info_parts infoE
  obtain ⟨L, hL⟩ : ∃ L, L = l0 ++ ofC rev cs := ⟨_, rfl⟩
  have hLl : L.length ≤ 200000 := by rw [hL, List.length_append, ofC_len]; omega
  rw [← hL] at hs hfl ⊢
  have HLL := Lib.hid hL
  obtain ⟨F, hF⟩ : ∃ F, F = trm (max m 1) L L.length fl := ⟨_, rfl⟩
  rw [← hF]
  have HF := Lib.hid hF
  clear hL hF
  obtain ⟨v, hv, ho, hgb⟩ := h.ex
  obtain ⟨c0, c1, c2, c3⟩ := cells4 hv
  have f3 := frzB hv 3
  have hr2 : ¬ rev ≤ la := by omega
  obtain ⟨W1, hW1⟩ : ∃ W1, W1 = w.setCell ⟨c, 3, none⟩ (.int .i64 rev) := ⟨_, rfl⟩
  have hk1 : W1.heap[c]? = some (obL m v fl rev) := by rw [hW1]; simpa using blk_set hv 3 (.int .i64 rev)
  have L1 : Lq B c gb m l0 fl rev w W1 := by
    refine ⟨gb, ⟨⟨v, hk1, ?_, hgb⟩, h.ne⟩, by rw [hW1]; exact Ch.set _ _ _, .inl rfl⟩
    rw [hW1]
    exact ho.kept (Nat.le_of_eq (size_set _ _ _).symm) (fun q hq => set_oth _ _ _ _ (fun e => h.ne (by rw [← hgb, hq, e])))
  have HL1 := Lib.hid L1
  have HW1 := Lib.hid hW1
  have HA := Lib.hid hA
  have HS := Lib.hid hs
  have HFL := Lib.hid hfl
  clear h ho hgb hW1 hk1 L1 hA hs hfl hv
  go_enter Try.func20, Try.ntmps20
  go_wp2_with fail
  rw [← HW1.out]
  clear c0 c1 c2 c3 f3 HW1
  go_wp2
  go_loopw [23] (fun iv wr => ∃ j : Nat, j ≤ cs.length ∧ iv = .int .i64 j ∧ Hid (Lq B c gb m (l0 ++ ofC rev (cs.take j)) fl rev w wr)) (fun iv _ => cs.length - (intOf iv).toNat)
  case atStart => exact ⟨0, by omega, rfl, by simpa [ofC] using HL1⟩
  case round =>
    clear HL1
    obtain ⟨j, hj, rfl, HL⟩ := hrel
    by_cases hlt : j < cs.length
    · obtain ⟨gb', v', hk, ho, hgb, hne, hch, hnb⟩ := HL.out.ex
      obtain ⟨g, off, hao, hg, hat⟩ := (HA.out.go hch).at (by omega)
      subst hao
      obtain ⟨p0, p1, p2⟩ := cellC hat hlt
      have hj0 : (0 : Int) ≤ (j : Int) := by omega
      have hjl : (j : Int) < (cs.length : Int) := by omega
      have HSN := Lib.hid (ofC_snoc (rev := rev) hlt)
      obtain ⟨⟨x1, x2, x3⟩, hx⟩ : ∃ x : Chg, cs[j] = x := ⟨_, rfl⟩
      rw [hx] at p0 p1 p2 HSN
      simp only at p0 p1 p2
      have hlj : (l0 ++ ofC rev (cs.take j)).length ≤ 200000 := by rw [List.length_append, ofC_len, List.length_take]; omega
      obtain ⟨l, hle⟩ : ∃ l, l = l0 ++ ofC rev (cs.take j) := ⟨_, rfl⟩
      have HLE : Hid (l ++ [(rev, x1, x2, x3)] = l0 ++ ofC rev (cs.take (j + 1))) := by
        show _ = _
        rw [hle, HSN.out, List.append_assoc]
      rw [← hle] at ho hlj
      have hBr : B ≤ wr.heap.size := Nat.le_trans hB hch.size
      have hcw : c < wr.heap.size := (Array.getElem?_eq_some_iff.1 hk).1
      obtain ⟨W2, hW2, hk2, hb2⟩ := new3 wr (.string x1) (.string x2) (.bool x3) 55
      have hkc2 := (hb2.block c hcw).trans hk
      have ho2 := ho.go hb2
      have hs2 : W2.heap.size = wr.heap.size + 1 := by rw [hW2]; simp
      have hch2 := hch.chain hb2
      have HW2 := Lib.hid hW2
      have HCH2 := Lib.hid hch2
      have HNB := Lib.hid hnb
      obtain ⟨d0, d1, d2⟩ := cells3 hk2
      obtain ⟨WB, hWB⟩ : ∃ WB, WB = (W2.alloc (obE (rev, x1, x2, x3))).drew := ⟨_, rfl⟩
      have hbB : Below W2.heap.size W2 WB := by rw [hWB]; exact ((Below.refl _ _).alloc (Nat.le_refl _) _).drew
      have KB : Hid (WB.heap[W2.heap.size]? = some (obE (rev, x1, x2, x3))) := by rw [hWB]; exact Lib.hid (heap_alloc_new W2 (obE (rev, x1, x2, x3)))
      have HWB := Lib.hid hWB
      have HBB := Lib.hid hbB
      have KC2 := Lib.hid hkc2
      have hgw : g ≠ wr.heap.size := by omega
      have hcn : c ≠ wr.heap.size := by omega
      have hcn2 : c ≠ W2.heap.size := by omega
      have hwn2 : wr.heap.size ≠ W2.heap.size := by omega
      have hB2 : B ≤ W2.heap.size := by omega
      have HS2 := Lib.hid hs2
      clear hs2 hat hx hle hW2 hk hch hb2 hch2 hnb hWB HL HSN hk2
      have HFN : Hid (∀ V, Lq B c gb' m (l ++ [(rev, x1, x2, x3)]) fl rev W2 V → Lq B c gb m (l0 ++ ofC rev (cs.take (j + 1))) fl rev w V) := fun V hq => by
        rw [HLE.out] at hq
        exact Lq.step HCH2.out HNB.out hq
      rcases ho2 with ⟨rfl, rfl⟩ | ⟨gl, o, cp, rfl, g1, g2, g3, g4, g5, g6⟩
      · subst hgb
        obtain ⟨c0, c1, c2, c3⟩ := cells4 hkc2
        have n1 := World.new_ne W2 _ c1
        have hcw2 : c < W2.heap.size := (Array.getElem?_eq_some_iff.1 hkc2).1
        clear hkc2 ho hbB
        go_wp2_with fail
        rw [← HW2.out]
        go_region_law (rw [← HWB.out]; refine step_append_grows rfl _ _ 37 rfl 57 i0 _ 4 48 Try.underlying37 hi hz0 hz1 hz2 rfl (by decide) none 0 0 [] rfl (fun _ => ⟨rfl, rfl⟩) rfl (fun b e => by cases e) ⟨W2.heap.size, 0, none⟩ 1 1 (encE (rev, x1, x2, x3)) rfl rfl (ent_cell KB.out) (encE_ok _) (by decide) (by decide) (by decide) ?_; intro v' V hown hgrow; obtain ⟨hkV, hLq⟩ := ap_grow (gb := none) (l := []) hB2 KC2.out HBB.out (rev, x1, x2, x3) hown hgrow; obtain ⟨ao', cap', rfl⟩ := own_form hown; have k1 := cell_of_row _ _ 1 _ _ _ hkV; have f1 := frzB hkV 1; have HQ := Lib.hid (HFN.out _ hLq); clear hown hgrow hkV hLq)
        all_goals
          go_wp2
          go_roundw
          case rel => exact ⟨j + 1, by omega, by go_num, HQ⟩
          case measure => simp [intOf]; omega
      · subst hgb
        have hgc : gl ≠ c := fun e => hne (by rw [← e]; rfl)
        obtain ⟨c0, c1, c2, c3⟩ := cells4 hkc2
        have n1 := World.new_ne W2 _ c1
        have hcw2 : c < W2.heap.size := (Array.getElem?_eq_some_iff.1 hkc2).1
        by_cases hrm : l.length + 1 ≤ cp
        · obtain ⟨hkV, hLq⟩ := ap_room hkc2 (.inr ⟨gl, o, cp, rfl, g1, g2, g3, g4, g5, g6⟩) hgc hbB (rev, x1, x2, x3) hrm
          have HSP : Hid (∀ i, i < (encE (rev, x1, x2, x3)).length → (WB.cell? ⟨gl, o + l.length * 4 + i, none⟩).isSome = true ∧ WB.frozen? ⟨gl, o + l.length * 4 + i, none⟩ = false) := fun i hi => by
            have hb := hbB.block gl g2
            have := g6 (l.length * 4 + i) (by simp [encE] at hi; omega)
            rw [← Nat.add_assoc] at this
            rw [World.cell?_of_block (w := W2) (a := ⟨gl, o + l.length * 4 + i, none⟩) hb, World.frozen?_of_block (w := W2) (a := ⟨gl, o + l.length * 4 + i, none⟩) hb]
            exact this
          obtain ⟨V, hV⟩ : ∃ V, V = WB.setCells gl (o + l.length * 4) (encE (rev, x1, x2, x3)) := ⟨_, rfl⟩
          rw [← hV] at hkV hLq
          have k1 := cell_of_row _ _ 1 _ _ _ hkV
          have f1 := frzB hkV 1
          have HQ := Lib.hid (HFN.out _ hLq)
          have HV := Lib.hid hV
          clear hkc2 ho hbB g1 g2 g3 g4 g5 g6 hkV hLq hV
          go_wp2_with fail
          rw [← HW2.out]
          go_region_law (rw [← HWB.out]; refine step_append_room rfl _ _ 37 rfl 57 i0 4 Try.underlying37 hi hz1 gl o l.length cp rfl ⟨W2.heap.size, 0, none⟩ 1 1 (encE (rev, x1, x2, x3)) rfl rfl (ent_cell KB.out) (encE_ok _) hrm HSP.out ?_; rw [← HV.out])
          all_goals
            go_wp2
            go_roundw
            case rel => exact ⟨j + 1, by omega, by go_num, HQ⟩
            case measure => simp [intOf]; omega
        · have HOL : Hid (∀ b, some (⟨gl, o, none⟩ : Addr) = some b → ∀ i u, (eC l)[i]? = some u → WB.cell? (b.add i) = some u) := fun b e i u hu => by
            injection e with e
            subst e
            rw [addrO]
            exact (range_below g5 hbB g2) i u hu
          have HEL := Lib.hid (eC_len l)
          have b1 : l.length + 1 ≤ maxLen := by unfold maxLen; omega
          have b2 : (l.length + 1) * 48 ≤ 140737488355328 := by omega
          have hcf : cp < l.length + 1 := by omega
          clear hkc2 ho hbB g1 g2 g3 g4 g5 g6 hrm
          go_wp2_with fail
          rw [← HW2.out]
          go_region_law (rw [← HWB.out]; refine step_append_grows rfl _ _ 37 rfl 57 i0 _ 4 48 Try.underlying37 hi hz0 hz1 hz2 rfl (by decide) (some ⟨gl, o, none⟩) l.length cp (eC l) rfl (fun e => by cases e) HEL.out HOL.out ⟨W2.heap.size, 0, none⟩ 1 1 (encE (rev, x1, x2, x3)) rfl rfl (ent_cell KB.out) (encE_ok _) hcf b1 b2 ?_; intro v' V hown hgrow; obtain ⟨hkV, hLq⟩ := ap_grow (gb := some gl) hB2 KC2.out HBB.out (rev, x1, x2, x3) hown hgrow; obtain ⟨ao', cap', rfl⟩ := own_form hown; have k1 := cell_of_row _ _ 1 _ _ _ hkV; have f1 := frzB hkV 1; have HQ := Lib.hid (HFN.out _ hLq); clear hown hgrow hkV hLq)
          all_goals
            go_wp2
            go_roundw
            case rel => exact ⟨j + 1, by omega, by go_num, HQ⟩
            case measure => simp [intOf]; omega
    · have hjl : ¬ (j : Int) < (cs.length : Int) := by omega
      have hjj : j = cs.length := by omega
      rw [hjj, List.take_of_length_le (Nat.le_refl _)] at HL
      rw [← HLL.out] at HL
      clear hjj HA
      have HLA : Hid (abv L fl = L) := abv_all HFL.out
      have hM0 : (1 : Int) ≤ max m 1 := by omega
      go_wp2
      go_loopw [] (fun wr => ∃ f, Hid (Lq B c gb m (abv L f) f rev w wr) ∧ Hid (trm (max m 1) L L.length f = F)) (fun wr => lnV (cg wr ⟨c, 1, none⟩))
      case atStart => exact ⟨fl, by rw [HLA.out]; exact HL, HF.out.symm⟩
      case round =>
        obtain ⟨f, HL2, HT⟩ := hrel
        obtain ⟨gb', v', hk, ho, hgb, hne, hch, hnb⟩ := HL2.out.ex
        obtain ⟨ao', cp, rfl, _⟩ := ho.form
        obtain ⟨c0, c1, c2, c3⟩ := cells4 hk
        have hal := abv_len L f
        by_cases hgo : max m 1 < ((abv L f).length : Int)
        · cases hx : abv L f with
          | nil => rw [hx] at hgo; simp at hgo; omega
          | cons x t =>
            obtain ⟨hx1, hx2, hx3⟩ := abv_head hx
            have HFG := Lib.hid (forget_c ((show IsLg B c gb' m (abv L f) f rev wr from ⟨⟨_, hk, ho, hgb⟩, hne⟩).go (bdr wr)) (srt_abv HS.out f) (by omega) x t hx)
            rw [abv_abv (Int.le_of_lt hx1)] at HFG
            have HTN : Hid (trm (max m 1) L L.length x.1 = F) := by
              show _ = _
              rw [← HT.out]
              obtain ⟨k, hk⟩ : ∃ k, L.length = k + 1 := ⟨L.length - 1, by omega⟩
              rw [hk, trm_go hM0 hgo hx k]
              exact trm_enough (by omega) _ _ _ (by omega) (by omega)
            have HCH := Lib.hid hch
            have HNB := Lib.hid hnb
            have HM3 : Hid ((abv L x.1).length < (abv L f).length) := hx3
            have HCG : Hid (lnV (cg wr ⟨c, 1, none⟩) = (abv L f).length) := by show _ = _; unfold cg; rw [c1]; rfl
            clear hx hx1 hx2 hx3 hk ho hgb hne hch hnb HT HL HL2 HLA hal
            revert HFG HTN HM3
            generalize x.1 = f2
            intro HFG HTN HM3
            go_wp2_with fail
            go_region
            go_wp2_with fail
            (with_reducible refine HFG.out.mono ?_)
            rintro e w2 ⟨rfl, g2, hl2, hc2, hn2⟩
            have HL2 : Hid (Lq B c gb m (abv L f2) f2 rev w w2) := ⟨g2, hl2, HCH.out.trans HNB.out (Ch.tr (Ch.of (bdr wr)) hc2), HNB.out.trans (hn2.lift (Nat.le_of_eq rfl)) HCH.out.size⟩
            have HCG2 : Hid (lnV (cg w2 ⟨c, 1, none⟩) = (abv L f2).length) := by
              obtain ⟨v2, k1, k2, _⟩ := hl2.ex
              obtain ⟨_, _, rfl, _⟩ := k2.form
              show _ = _
              unfold cg
              rw [cell_of_row _ _ 1 _ _ _ k1]; rfl
            clear hl2 hc2 hn2
            go_wp2
            go_roundw
            case rel => exact ⟨f2, HL2, HTN⟩
            case measure => rw [HCG.out, HCG2.out]; exact HM3.out
        · have HE : Hid (F = f) := by
            show _ = _
            rw [← HT.out]
            exact trm_stop hgo _
          have HFE : Hid (Lq B c gb m (abv L F) F rev w wr.drew) := by
            show Lq _ _ _ _ _ _ _ _ _
            rw [HE.out]
            exact HL2.out.go (bdr wr)
          clear hk ho hgb hne hch hnb HT HL HL2 HLA hal
          go_wp2_with fail
          go_region
          go_wp2_with fail
          go_ret
          exact ⟨rfl, HFE.out⟩
end Go.Proofs.Ytcmcbocegdejjaa.Cl
