/- The contract of the document's Add; no other condition. -/
import Derived.Test.YtcmcbocegdejjaaClK
namespace Go.Proofs.Ytcmcbocegdejjaa.Cl
open Go.RowKit Go.Lib Go.Shelf Go.Sort
set_option linter.unusedSimpArgs false
set_option linter.unusedVariables false

def Rq (B d : Nat) (gd : Option Nat) (m : Int) (l : List Ent) (fl la : Int) (w W : World) : Prop := ∃ gd', IsR B d gd' m l fl la W ∧ Ch d gd w W ∧ NewB gd gd' w
theorem Rq.go {B d : Nat} {gd : Option Nat} {m : Int} {l : List Ent} {fl la : Int} {w W V : World} (h : Rq B d gd m l fl la w W) (hb : Below W.heap.size W V) : Rq B d gd m l fl la w V := by
  obtain ⟨gb', h1, h2, h3⟩ := h
  exact ⟨gb', h1.go hb, h2.chain hb, h3⟩
theorem Rq.step {B d : Nat} {gd gd1 : Option Nat} {m : Int} {l : List Ent} {fl la : Int} {w W V : World} (hch : Ch d gd w W) (hn : NewB gd gd1 w) (k : Rq B d gd1 m l fl la W V) : Rq B d gd m l fl la w V := by
  obtain ⟨gb', h1, h2, h3⟩ := k
  exact ⟨gb', h1, hch.trans hn h2, hn.trans h3 hch.size⟩
theorem Rq.ex {B d : Nat} {gd : Option Nat} {m : Int} {l : List Ent} {fl la : Int} {w W : World} (h : Rq B d gd m l fl la w W) : ∃ gd' v, W.heap[d]? = some (obR m v fl la) ∧ W.ownsRow B 53 4 v l.length (eC l) ∧ v.ownBlock = gd' ∧ gd' ≠ some d ∧ Ch d gd w W ∧ NewB gd gd' w := by
  obtain ⟨gd', h1, h2, h3⟩ := h
  obtain ⟨v, k1, k2, k3⟩ := h1.ex
  exact ⟨gd', v, k1, k2, k3, h1.ne, h2, h3⟩
theorem apR {B d g1 c1 : Nat} {m : Int} {l : List Ent} {v : Value} {fl la : Int} {W WB V : World} (hk : W.heap[d]? = some (obR m v fl la)) (hne : v.ownBlock ≠ some d) (hb : Below W.heap.size W WB) (x : Ent)
    (hown : V.ownsRow B 53 4 (.slice (some ⟨g1, 0, none⟩) (l.length + 1) c1) (l.length + 1) (eC l ++ encE x)) (hgrow : WB.grownBy V v.ownBlock) (hat : v.ownBlock = some g1 ∨ g1 = WB.heap.size) :
    V.heap[d]? = some (obR m v fl la) ∧ Rq B d v.ownBlock m (l ++ [x]) fl la W (V.setCell ⟨d, 0, none⟩ (.slice (some ⟨g1, 0, none⟩) (l.length + 1) c1)) := by
  have hcl : d < W.heap.size := (Array.getElem?_eq_some_iff.1 hk).1
  have hkB := (hb.block d hcl).trans hk
  have hclB : d < WB.heap.size := (Array.getElem?_eq_some_iff.1 hkB).1
  have hkV : V.heap[d]? = some (obR m v fl la) := (hgrow.block d hclB (fun e => hne e.symm)).trans hkB
  have hs := hb.size
  have hgd : g1 ≠ d := by
    rcases hat with h | h
    · intro e; exact hne (by rw [h, e])
    · omega
  refine ⟨hkV, some g1, ⟨⟨.slice (some ⟨g1, 0, none⟩) (l.length + 1) c1, ?_, ?_, rfl⟩, fun e => hgd (by injection e)⟩, ?_, ?_⟩
  · simpa using blk_set hkV 0 (.slice (some ⟨g1, 0, none⟩) (l.length + 1) c1)
  · rw [eC_snoc, List.length_append]
    exact own_kept hown (fun q hq => by have : g1 = q := by injection hq
                                        rw [← this]; exact set_oth _ _ _ _ hgd)
  · exact ((Ch.of hb).tr (Ch.grown hgrow)).tr (Ch.set _ _ _)
  · rcases hat with h | h
    · exact .inl h.symm
    · exact .inr (.inr ⟨g1, rfl, by omega⟩)
set_option maxRecDepth 100000 in
theorem AddR_arg {B d : Nat} {gd : Option Nat} {m : Int} {l : List Ent} {fl la : Int} {w : World} (h : IsR B d gd m l fl la w) (rev : Int) (v : Value) (hr : rev ≤ la) : Calls Try.prog 21 #[.pointer (some ⟨d, 0, none⟩), .int .i64 rev, v] w fun e w' => e = .returned (.int .i64 1) ∧ w' = w := by
  obtain ⟨v, hv, _, _⟩ := h.ex
  obtain ⟨c0, c1, c2, c3⟩ := cells4 hv
  clear h hv
  go_enter Try.func21, Try.ntmps21
  go_wp2
  go_ret
  exact ⟨rfl, rfl⟩
set_option maxRecDepth 100000 in
set_option maxHeartbeats 8000000 in
theorem AddR_ok {B d : Nat} {gd : Option Nat} {m : Int} {l0 : List Ent} {fl la : Int} {w : World} (h : IsR B d gd m l0 fl la w) (hB : B ≤ w.heap.size) (rev : Int) (ao : Option Addr) (cap : Nat) (cs : List Chg) (hr : la < rev) (hA : Apt d gd (.slice ao cs.length cap) cs w)
    (hm : 1 ≤ m) (hl : l0.length ≤ 100000) (hcl : cs.length ≤ 100000) :
    Calls Try.prog 21 #[.pointer (some ⟨d, 0, none⟩), .int .i64 rev, .slice ao cs.length cap] w fun e w' => e = .returned (.int .i64 0) ∧ Rq B d gd m (l0 ++ ofC rev cs) (trm m (l0 ++ ofC rev cs) (l0 ++ ofC rev cs).length fl) rev w w' := by
  obtain ⟨i0, hi, hz0, hz1, hz2⟩ := info_parts infoRE
  obtain ⟨L, hL⟩ : ∃ L, L = l0 ++ ofC rev cs := ⟨_, rfl⟩
  have hLl : L.length ≤ 200000 := by rw [hL, List.length_append, ofC_len]; omega
  rw [← hL]
  have HLL := Lib.hid hL
  obtain ⟨F, hF⟩ : ∃ F, F = trm m L L.length fl := ⟨_, rfl⟩
  rw [← hF]
  have HF := Lib.hid hF
  clear hL hF
  obtain ⟨v, hv, ho, hgb⟩ := h.ex
  obtain ⟨c0, c1, c2, c3⟩ := cells4 hv
  have f3 := frzB hv 3
  have hr2 : ¬ rev ≤ la := by omega
  obtain ⟨W1, hW1⟩ : ∃ W1, W1 = w.setCell ⟨d, 3, none⟩ (.int .i64 rev) := ⟨_, rfl⟩
  have hk1 : W1.heap[d]? = some (obR m v fl rev) := by rw [hW1]; simpa using blk_set hv 3 (.int .i64 rev)
  have L1 : Rq B d gd m l0 fl rev w W1 := by
    refine ⟨gd, ⟨⟨v, hk1, ?_, hgb⟩, h.ne⟩, by rw [hW1]; exact Ch.set _ _ _, .inl rfl⟩
    rw [hW1]
    exact own_kept ho (fun q hq => set_oth _ _ _ _ (fun e => h.ne (by rw [← hgb, hq, e])))
  have HL1 := Lib.hid L1
  have HW1 := Lib.hid hW1
  have HA := Lib.hid hA
  clear h ho hgb hW1 hk1 L1 hA hv
  go_enter Try.func21, Try.ntmps21
  go_wp2_with fail
  rw [← HW1.out]
  clear c0 c1 c2 c3 f3 HW1
  go_wp2
  go_loopw [21] (fun iv wr => ∃ j : Nat, j ≤ cs.length ∧ iv = .int .i64 j ∧ Hid (Rq B d gd m (l0 ++ ofC rev (cs.take j)) fl rev w wr)) (fun iv _ => cs.length - (intOf iv).toNat)
  case atStart => exact ⟨0, by omega, rfl, by simpa [ofC] using HL1⟩
  case round =>
    clear HL1
    obtain ⟨j, hj, rfl, HL⟩ := hrel
    by_cases hlt : j < cs.length
    · obtain ⟨gd', v', hk, ho, hgb, hne, hch, hnb⟩ := HL.out.ex
      obtain ⟨aov, cpv, hvv⟩ := own_form ho
      subst hvv
      obtain ⟨g, off, hao, hg, hat⟩ := (HA.out.go hch).at (by omega)
      subst hao
      obtain ⟨p0, p1, p2⟩ := cellC hat hlt
      have hj0 : (0 : Int) ≤ (j : Int) := by omega
      have hjl : (j : Int) < (cs.length : Int) := by omega
      have HSN := Lib.hid (ofC_snoc (rev := rev) hlt)
      obtain ⟨⟨x1, x2, x3⟩, hx⟩ : ∃ x : Chg, cs[j] = x := ⟨_, rfl⟩
      rw [hx] at p0 p1 p2 HSN
      simp only at p0 p1 p2
      have hlj : (l0 ++ ofC rev (cs.take j)).length ≤ 200000 := by rw [List.length_append, ofC_len, List.length_take]; omega
      obtain ⟨l, hle⟩ : ∃ l, l = l0 ++ ofC rev (cs.take j) := ⟨_, rfl⟩
      have HLE : Hid (l ++ [(rev, x1, x2, x3)] = l0 ++ ofC rev (cs.take (j + 1))) := by
        show _ = _
        rw [hle, HSN.out, List.append_assoc]
      rw [← hle] at ho hlj hk hgb
      have hBr : B ≤ wr.heap.size := Nat.le_trans hB hch.size
      have hcw : d < wr.heap.size := (Array.getElem?_eq_some_iff.1 hk).1
      obtain ⟨W2, hW2, hk2, hb2⟩ := new3 wr (.string x1) (.string x2) (.bool x3) 51
      have hkc2 := (hb2.block d hcw).trans hk
      have ho2 := own_go ho hb2
      have hs2 : W2.heap.size = wr.heap.size + 1 := by rw [hW2]; simp
      have hch2 := hch.chain hb2
      have HW2 := Lib.hid hW2
      have HCH2 := Lib.hid hch2
      have HNB := Lib.hid hnb
      obtain ⟨d0, d1, d2⟩ := cells3 hk2
      obtain ⟨WB, hWB⟩ : ∃ WB, WB = (W2.alloc (.cells #[.int .i64 rev, .string x1, .string x2, .bool x3] 53)).drew := ⟨_, rfl⟩
      have hbB : Below W2.heap.size W2 WB := by rw [hWB]; exact ((Below.refl _ _).alloc (Nat.le_refl _) _).drew
      have KB : Hid (WB.heap[W2.heap.size]? = some (.cells #[.int .i64 rev, .string x1, .string x2, .bool x3] 53 (0, 0))) := by rw [hWB]; exact Lib.hid (heap_alloc_new W2 (.cells #[.int .i64 rev, .string x1, .string x2, .bool x3] 53))
      have HWB := Lib.hid hWB
      have HBB := Lib.hid hbB
      have KC2 := Lib.hid hkc2
      have HOB := Lib.hid (own_go ho2 hbB)
      have hgw : g ≠ wr.heap.size := by omega
      have hcn : d ≠ wr.heap.size := by omega
      have hcn2 : d ≠ W2.heap.size := by omega
      have hwn2 : wr.heap.size ≠ W2.heap.size := by omega
      have hBB2 : B ≤ WB.heap.size := by have := hbB.size; omega
      have HFN : Hid (∀ V, Rq B d gd' m (l ++ [(rev, x1, x2, x3)]) fl rev W2 V → Rq B d gd m (l0 ++ ofC rev (cs.take (j + 1))) fl rev w V) := fun V hq => by
        rw [HLE.out] at hq
        exact Rq.step HCH2.out HNB.out hq
      subst hgb
      have b1 : l.length + 1 ≤ maxLen := by unfold maxLen; omega
      have b2 : (l.length + 1) * 48 ≤ 140737488355328 := by omega
      obtain ⟨c0, c1, c2, c3⟩ := cells4 hkc2
      have n1 := World.new_ne W2 _ c0
      have hcw2 : d < W2.heap.size := (Array.getElem?_eq_some_iff.1 hkc2).1
      have DE := Lib.hid (encE_ok (rev, x1, x2, x3))
      have HC : Hid (∀ i u, (encE (rev, x1, x2, x3))[i]? = some u → WB.cell? ((⟨W2.heap.size, 0, none⟩ : Addr).add i) = some u) := World.news_of_block (cs := #[.int .i64 rev, .string x1, .string x2, .bool x3]) KB.out
      have HNE := Lib.hid hne
      clear hs2 hat hx hle hW2 hk hch hb2 hch2 hnb hWB HL HSN hk2 hkc2 ho ho2 hbB hne
      go_wp2_with fail
      rw [← HW2.out]
      go_region_law (rw [← HWB.out]; refine step_append_lies _ rfl _ _ 32 rfl B 53 i0 _ 4 48 Try.underlying32 hi hz0 hz1 hz2 rfl (by decide) _ _ _ rfl HOB.out ⟨W2.heap.size, 0, none⟩ 1 1 (encE (rev, x1, x2, x3)) rfl rfl HC.out DE.out (by decide) b1 b2 hBB2 _ rfl ?_; intro g1 cq V hown hgrow hat hlt; obtain ⟨hkV, hLq⟩ := apR KC2.out HNE.out HBB.out (rev, x1, x2, x3) hown hgrow hat; have k1 := cell_of_row _ _ 0 _ _ _ hkV; have f1 := frzB hkV 0; have HQ := Lib.hid (HFN.out _ hLq); clear hown hgrow hat hlt hkV hLq)
      all_goals
        go_wp2
        go_roundw
        case rel => exact ⟨j + 1, by omega, by go_num, HQ⟩
        case measure => simp [intOf]; omega
    · have hjl : ¬ (j : Int) < (cs.length : Int) := by omega
      have hjj : j = cs.length := by omega
      rw [hjj, List.take_of_length_le (Nat.le_refl _)] at HL
      rw [← HLL.out] at HL
      clear hjj HA
      go_wp2
      go_loopw [] (fun wr => ∃ f, Hid (Rq B d gd m L f rev w wr) ∧ Hid (trm m L L.length f = F)) (fun wr => (abv L (intOf (cg wr ⟨d, 2, none⟩))).length)
      case atStart => exact ⟨fl, HL, HF.out.symm⟩
      case round =>
        obtain ⟨f, HL2, HT⟩ := hrel
        obtain ⟨gd', v', hk, ho, hgb, hne, hch, hnb⟩ := HL2.out.ex
        have HIR := Lib.hid (show IsR B d gd' m L f rev wr from ⟨⟨_, hk, ho, hgb⟩, hne⟩)
        have HAB := Lib.hid (fun V (hb : Below wr.heap.size wr V) => Above_c (HIR.out.go hb) f (by omega))
        obtain ⟨c0, c1, c2, c3⟩ := cells4 hk
        have HK := Lib.hid hk
        have hdl := HIR.out.lt
        have HCG : Hid (intOf (cg wr ⟨d, 2, none⟩) = f) := by show _ = _; unfold cg; rw [c2]; rfl
        have hal := abv_len L f
        have HCH := Lib.hid hch
        have HNB := Lib.hid hnb
        clear hk ho hgb hne hch hnb HL
        by_cases hgo : m < ((abv L f).length : Int)
        · cases hx : abv L f with
          | nil => rw [hx] at hgo; simp at hgo; omega
          | cons x t =>
            obtain ⟨hx1, hx2, hx3⟩ := abv_head hx
            have HTN : Hid (trm m L L.length x.1 = F) := by
              show _ = _
              rw [← HT.out]
              obtain ⟨k, hk⟩ : ∃ k, L.length = k + 1 := ⟨L.length - 1, by omega⟩
              rw [hk, trm_go hm hgo hx k]
              exact trm_enough (by omega) _ _ _ (by omega) (by omega)
            have HM3 : Hid ((abv L x.1).length < (abv L f).length) := hx3
            have hlp : 0 < (abv L f).length := by omega
            have hlpi : (0 : Int) < ((abv L f).length : Int) := by omega
            have HX0 : Hid ((abv L f)[0]? = some x) := by show _ = _; rw [hx]; rfl
            clear hx hx1 hx2 hx3 HT HL2
            revert HTN HM3 HX0
            obtain ⟨x0, x1, x2, x3⟩ := x
            intro HTN HM3 HX0
            go_wp2_with fail
            go_region_held3 (fun V => V.cell? ⟨d, 1, none⟩ = some (.int .i64 m) ∧ V.cell? ⟨d, 2, none⟩ = some (.int .i64 f))
              (first | (with_reducible exact ⟨c1, c2⟩) | (exact ⟨cell_of_row _ _ 1 _ _ _ HK.out, cell_of_row _ _ 2 _ _ _ HK.out⟩) | exact HS1.out)
              ((go_at_call 13; (with_reducible refine (HAB.out _ (bdr wr)).mono ?_); rintro e w1 ⟨vA, rfl, ⟨aoA, cpA, rfl, _⟩, hb1⟩; have HB1 : Hid (Below wr.heap.size wr w1) := (bdr wr).trans hb1; have HK1 := Lib.hid ((HB1.out.block d hdl).trans HK.out); have HS1 : Hid (w1.cell? ⟨d, 1, none⟩ = some (.int .i64 m) ∧ w1.cell? ⟨d, 2, none⟩ = some (.int .i64 f)) := ⟨cell_of_row _ _ 1 _ _ _ HK1.out, cell_of_row _ _ 2 _ _ _ HK1.out⟩; clear hb1))
            all_goals
              obtain ⟨e1, e2⟩ := HS1.out
              go_wp2_with fail
              refine (HAB.out _ HB1.out).mono ?_
              rintro e w2 ⟨vA, rfl, hrd, hb2⟩
              have HB2 : Hid (Below wr.heap.size wr w2) := HB1.out.trans (hb2.mono HB1.out.size)
              obtain ⟨aoB, cpB, rfl, hrr⟩ := hrd
              obtain ⟨g, o, rfl, hg, hat⟩ := hrr hlp
              obtain ⟨p0, p1, p2, p3⟩ := cell4 hat hlp
              have hx0 : (abv L f)[0] = (x0, x1, x2, x3) := by
                have := HX0.out
                rw [List.getElem?_eq_getElem hlp] at this
                injection this
              rw [hx0] at p0
              simp only [Nat.zero_mul, Nat.add_zero] at p0
              have hk2 := (HB2.out.block d hdl).trans HK.out
              obtain ⟨q0, q1, q2, q3⟩ := cells4 hk2
              have z2 := frzB hk2 2
              have hI2 := HIR.out.go HB2.out
              obtain ⟨v2, k2, o2, g2⟩ := hI2.ex
              have hne2 := hI2.ne
              have HQ : Hid (Rq B d gd m L x0 rev w (w2.setCell ⟨d, 2, none⟩ (.int .i64 x0))) := by
                refine ⟨gd', ⟨⟨v2, ?_, own_kept o2 (fun q hq => set_oth _ _ _ _ (fun e => hne2 (by rw [← g2, hq, e]))), g2⟩, hne2⟩, (HCH.out.chain HB2.out).trans HNB.out (Ch.set _ _ _), HNB.out⟩
                simpa using blk_set k2 2 (.int .i64 x0)
              have HC2 : Hid (intOf (cg (w2.setCell ⟨d, 2, none⟩ (.int .i64 x0)) ⟨d, 2, none⟩) = x0) := by
                show _ = _
                unfold cg
                rw [World.cell?_setCell_same _ _ _ q2]; rfl
              clear hb2 hrr hat p1 p2 p3 hx0 hk2 q0 q1 q3 hI2 k2 o2 g2 hne2
              go_wp2
              go_roundw
              case rel => exact ⟨x0, HQ, HTN⟩
              case measure => rw [HCG.out, HC2.out]; exact HM3.out
        · have HE : Hid (F = f) := by
            show _ = _
            rw [← HT.out]
            exact trm_stop hgo _
          have HFE : Hid (∀ V, Below wr.heap.size wr V → Rq B d gd m L F rev w V) := fun V hb => by
            rw [HE.out]
            exact HL2.out.go hb
          clear HT HL2
          go_wp2_with fail
          go_region_held3 (fun V => V.cell? ⟨d, 1, none⟩ = some (.int .i64 m) ∧ V.cell? ⟨d, 2, none⟩ = some (.int .i64 f))
            (first | (with_reducible exact ⟨c1, c2⟩) | (exact ⟨cell_of_row _ _ 1 _ _ _ HK.out, cell_of_row _ _ 2 _ _ _ HK.out⟩) | exact HS1.out)
            ((go_at_call 13; (with_reducible refine (HAB.out _ (bdr wr)).mono ?_); rintro e w1 ⟨vA, rfl, ⟨aoA, cpA, rfl, _⟩, hb1⟩; have HB1 : Hid (Below wr.heap.size wr w1) := (bdr wr).trans hb1; have HK1 := Lib.hid ((HB1.out.block d hdl).trans HK.out); have HS1 : Hid (w1.cell? ⟨d, 1, none⟩ = some (.int .i64 m) ∧ w1.cell? ⟨d, 2, none⟩ = some (.int .i64 f)) := ⟨cell_of_row _ _ 1 _ _ _ HK1.out, cell_of_row _ _ 2 _ _ _ HK1.out⟩; clear hb1))
          all_goals
            go_wp2_with fail
            go_ret
            exact ⟨rfl, HFE.out _ HB1.out⟩
end Go.Proofs.Ytcmcbocegdejjaa.Cl
