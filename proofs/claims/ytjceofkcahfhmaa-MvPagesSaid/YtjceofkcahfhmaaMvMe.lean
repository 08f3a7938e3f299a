/- Contracts and plain mathematics of some packages' functions, laid together; conditions as each one says. -/
import Derived.Test.YtjceofkcahfhmaaMvZ
namespace Go.Proofs.Ytjceofkcahfhmaa.Mv
open Go.RowKit Go.Lib Go.Maps Go.Shelf Go.Sort
open Go.Proofs.Ytjceofkcahfhmaa.Cn
set_option linter.unusedSimpArgs false
set_option linter.unusedVariables false

def pfx (p s : Key) : Bool := decide (p.length ≤ s.length) && (s.take p.length == p)
theorem pfx_of (p s : ByteArray) (h : p.size ≤ s.size) : ((s.extract 0 p.size).toList == p.toList) = pfx p.data.toList s.data.toList := by
  unfold pfx
  rw [decide_eq_true (by simpa using h), Bool.true_and, Lib.toList_data, Lib.toList_data]
  congr 1
  simp [ByteArray.extract, ByteArray.copySlice]
theorem pfx_no (p s : ByteArray) (h : ¬ p.size ≤ s.size) : pfx p.data.toList s.data.toList = false := by
  unfold pfx
  rw [decide_eq_false (by simpa using h), Bool.false_and]
set_option maxRecDepth 100000 in
set_option maxHeartbeats 1000000 in
theorem hp0_c (s p : ByteArray) (w : World) (h1 : s.size ≤ maxLen) : Calls Try.prog 46 #[.string s, .string p] w fun e w' => e = .returned (.bool (pfx p.data.toList s.data.toList)) ∧ w' = w := by
  by_cases h : p.size ≤ s.size
  · have h' : (p.size : Int) ≤ (s.size : Int) := by omega
    have h'' : (s.size : Int) ≥ (p.size : Int) := h'
    have h0 : (0 : Int) ≤ (p.size : Int) := by omega
    rw [← pfx_of p s h]
    go_enter Try.func46, Try.ntmps46
    go_wp2
    go_ret
    exact ⟨rfl, rfl⟩
  · have h' : ¬ (s.size : Int) ≥ (p.size : Int) := by omega
    rw [pfx_no p s h]
    go_enter Try.func46, Try.ntmps46
    go_wp2
    go_ret
    exact ⟨rfl, rfl⟩
theorem hp_c (s p : ByteArray) (w : World) (h1 : s.size ≤ maxLen) : Calls Try.prog 30 #[.string s, .string p] w fun e w' => e = .returned (.bool (pfx p.data.toList s.data.toList)) ∧ w' = w := by
  have HH := Lib.hid (hp0_c s p w h1)
  go_enter Try.func30, Try.ntmps30
  go_wp2_with (go_at_call 46; (with_reducible refine HH.out.mono ?_); rintro e w1 ⟨rfl, rfl⟩)
  go_ret
  exact ⟨rfl, rfl⟩
end Go.Proofs.Ytjceofkcahfhmaa.Mv
namespace Go.Proofs.Ytjceofkcahfhmaa.Mv
open Go.RowKit Go.Lib Go.Maps Go.Shelf Go.Sort
open Go.Proofs.Ytjceofkcahfhmaa.Cn
set_option linter.unusedSimpArgs false
set_option linter.unusedVariables false

abbrev bk (k : Key) : ByteArray := ⟨k.toArray⟩
theorem bk_of (k : Key) : (bk k).data.toList = k := rfl
/-- what Range gathers -/
def rgL (f : Key → Option Chn) (q : Int) (p : Key) (n : Int) : List Key → List ItT → List ItT × Bool
  | [], acc => (acc, false)
  | k :: ks, acc => if pfx p k = false then (acc, false) else if atB (vrs f k) q = false then rgL f q p n ks acc else if n ≤ acc.length then (acc, true) else rgL f q p n ks (acc ++ [(bk k, (atV (vrs f k) q).2.1, (atV (vrs f k) q).1)])
def encI (x : ItT) : List Value := [.string x.1, .string x.2.1, .int .i64 x.2.2]
def iC (l : List ItT) : List Value := l.flatMap encI
/-- items of one's own -/
def OwI (B : Nat) (v : Value) (l : List ItT) (w : World) : Prop := w.ownsRow B 49 3 v l.length (iC l)
theorem OwI.go {B : Nat} {v : Value} {l : List ItT} {w w' : World} (h : OwI B v l w) (hb : Below w.heap.size w w') : OwI B v l w' :=
  World.ownsRow.kept h (row := none) ⟨hb.os, hb.tape, hb.output, hb.size, fun k hk _ => hb.block k hk⟩ (by cases hv : v.ownBlock <;> simp)
theorem encI_ok (x : ItT) : ∀ u ∈ encI x, u.oneCell' = true := fun u hu => by
  simp [encI] at hu
  rcases hu with rfl | rfl | rfl <;> rfl
theorem iC_snoc (l : List ItT) (x : ItT) : iC (l ++ [x]) = iC l ++ encI x := by unfold iC; rw [List.flatMap_append]; simp
theorem infoI : (Try.prog.info? 49).map (fun i => (i.zero, i.size, i.bytes)) = some (some (.agg #[.string ⟨#[]⟩, .string ⟨#[]⟩, .int .i64 0]), 3, 40) := by kernel_rfl
theorem own_form {T : TypeId} {B k n : Nat} {v : Value} {xs : List Value} {w : World} (h : w.ownsRow B T k v n xs) : ∃ ao cap, v = .slice ao n cap := by
  rcases own_slV h with ⟨rfl, rfl⟩ | ⟨g, cap, rfl, _⟩
  · exact ⟨none, 0, rfl⟩
  · exact ⟨_, _, rfl⟩
theorem own_go {T : TypeId} {B k n : Nat} {v : Value} {xs : List Value} {w w' : World} (h : w.ownsRow B T k v n xs) (hb : Below w.heap.size w w') : w'.ownsRow B T k v n xs :=
  World.ownsRow.kept h (row := none) ⟨hb.os, hb.tape, hb.output, hb.size, fun k hk _ => hb.block k hk⟩ (by cases hv : v.ownBlock <;> simp)
theorem own_mono {T : TypeId} {B B' k n : Nat} {v : Value} {xs : List Value} {w : World} (h : w.ownsRow B' T k v n xs) (hB : B ≤ B') : w.ownsRow B T k v n xs := by
  refine ⟨h.1, ?_⟩
  rcases h.2 with h2 | ⟨g, cap, cur, e1, e2, e3⟩
  · exact .inl h2
  · exact .inr ⟨g, cap, cur, e1, Nat.le_trans hB e2, e3⟩
/-- what Range answers -/
def rgV (f : Key → Option Chn) (rev fl : Int) (K : List Key) (p a : ByteArray) (n q : Int) : List ItT × Bool × Int :=
  if refE rev fl q ≠ 0 then ([], false, refE rev fl q) else ((rgL f q p.data.toList n ((srt K).filter (kpr p.data.toList a.data.toList)) []).1, (rgL f q p.data.toList n ((srt K).filter (kpr p.data.toList a.data.toList)) []).2, 0)
def RgQ (c N : Nat) (mb : Option Nat) (f : Key → Option Chn) (l0 l9 rev fl ks vs : Int) (od : Value) (K : List Key) (p a : ByteArray) (n q : Int) (w : World) (e : Ending) (w' : World) : Prop :=
  ∃ v od' M, e = .returned (.tuple #[v, .bool (rgV f rev fl K p a n q).2.1, .int .i64 (rgV f rev fl K p a n q).2.2]) ∧ w.heap.size ≤ M ∧ (∀ k n cap, od' = .slice (some ⟨k, 0, none⟩) n cap → k < M) ∧ OwI M v (rgV f rev fl K p a n q).1 w' ∧ IsMv 0 c N mb f l0 l9 rev fl ks vs od' w' ∧ OdOk c mb f K od' w' ∧ Fr (fun k => k = c) w w' ∧ ∀ k n cap, od' = .slice (some ⟨k, 0, none⟩) n cap → od = od' ∨ w.heap.size ≤ k
set_option maxRecDepth 100000 in
set_option maxHeartbeats 4000000 in
theorem Range_ok {c N : Nat} {mb : Option Nat} {f : Key → Option Chn} {l0 l9 rev fl ks vs : Int} {od : Value} {w : World} {K : List Key} (h : IsMv 0 c N mb f l0 l9 rev fl ks vs od w) (hN : N ≤ 1000000) (hK : Dm f K) (hKl : K.length ≤ 100000) (hKs : ∀ k ∈ K, k.length ≤ maxLen) (ho : OdOk c mb f K od w) (p a : ByteArray) (n q : Int) (hr : refE rev fl q = 0) :
    Calls Try.prog 15 #[.pointer (some ⟨c, 0, none⟩), .string p, .string a, .int .i64 n, .int .i64 q] w fun e w' => ∃ v od' M, e = .returned (.tuple #[v, .bool (rgL f q p.data.toList n ((srt K).filter (kpr p.data.toList a.data.toList)) []).2, .int .i64 0]) ∧ w.heap.size ≤ M ∧ (∀ k n cap, od' = .slice (some ⟨k, 0, none⟩) n cap → k < M) ∧ OwI M v (rgL f q p.data.toList n ((srt K).filter (kpr p.data.toList a.data.toList)) []).1 w' ∧ IsMv 0 c N mb f l0 l9 rev fl ks vs od' w' ∧ OdOk c mb f K od' w' ∧ Fr (fun k => k = c) w w' ∧ ∀ k n cap, od' = .slice (some ⟨k, 0, none⟩) n cap → od = od' ∨ w.heap.size ≤ k := by
  have HR := Lib.hid (ref_c c l0 l9 rev fl ks vs q _ _ w h.hs)
  rw [hr] at HR
  have HKF := Lib.hid (keysFrom_c h hK hKl ho p a)
  unfold KfQ at HKF
  have hm : ∀ k ∈ (srt K).filter (kpr p.data.toList a.data.toList), k.length ≤ maxLen := fun k hk => hKs k (srt_mem.1 (List.mem_filter.1 hk).1)
  have hll : ((srt K).filter (kpr p.data.toList a.data.toList)).length ≤ 100000 := Nat.le_trans (List.length_filter_le _ _) (by rw [srt_len]; exact hKl)
  generalize (srt K).filter (kpr p.data.toList a.data.toList) = L at HKF hm hll ⊢
  have HMM := Lib.hid hm
  clear hm hK hKs ho hr h
  go_enter Try.func15, Try.ntmps15
  go_upto_region 5 with (go_at_call 28; (with_reducible refine HR.out.mono ?_); rintro e w1 ⟨rfl, hw1⟩; subst w1)
  go_upto_region 6 with (go_at_call 29; (with_reducible refine HKF.out.mono ?_); rintro e w1 ⟨v, od', rfl, hrd, h1, ho1, hf1, hn1⟩; obtain ⟨ao, cap, rfl, hcp, hat⟩ := hrd)
  have H1 := Lib.hid h1
  have HO1 := Lib.hid ho1
  have HF1 := Lib.hid hf1
  have HN1 := Lib.hid hn1
  have HAT := Lib.hid hat
  have HZ1 : Hid (w.heap.size ≤ w1.heap.size) := hf1.size
  have HOD : Hid (∀ k n cap, od' = .slice (some ⟨k, 0, none⟩) n cap → k < w1.heap.size) := fun k n cap e => by
    rcases ho1 with e2 | ⟨g, cp, e2, _, hg, _⟩
    · rw [e2] at e; injection e with e; cases e
    · rw [e2] at e; injection e with e; injection e with e; injection e with e; omega
  obtain ⟨m, hm⟩ : ∃ m, m = L.length := ⟨_, rfl⟩
  have HLN : Hid (L.length = m) := hm.symm
  rw [← hm] at hll hcp ⊢
  clear h1 ho1 hf1 hn1 hat hm
  obtain ⟨i0, hi, hz0, hz1, hz2⟩ := info_parts infoI
  go_loopw [30, 14] (fun iv lv wr => ∃ (j : Nat) (xs : List ItT), j ≤ m ∧ iv = .int .i64 (j : Int) ∧ xs.length ≤ j ∧ Hid (wr.ownsRow w1.heap.size 49 3 lv xs.length (iC xs)) ∧ Hid (rgL f q p.data.toList n L [] = rgL f q p.data.toList n (L.drop j) xs) ∧ Hid (Below w1.heap.size w1 wr)) (fun iv _ _ => m - (intOf iv).toNat)
  case atStart => exact ⟨0, [], by omega, rfl, Nat.zero_le _, Lib.hid (World.ownsRow_nil _ _ _ _), Lib.hid rfl, Lib.hid (Below.refl _ _)⟩
  case round =>
    obtain ⟨j, xs, hj, rfl, hxl, HO, HX, HB⟩ := hrel
    obtain ⟨aot, capt, htv⟩ := own_form HO.out
    subst htv
    by_cases hlt : j < m
    · have hjL : j < L.length := by rw [HLN.out]; exact hlt
      obtain ⟨g, off, rfl, hg, hat⟩ := HAT.out (by omega)
      have p0 : wr.cell? ⟨g, off + j, none⟩ = some (.string (bk L[j])) := (HB.out.cell (p := ⟨g, off + j, none⟩) hg).trans (hat j hjL)
      have hks : (bk L[j]).size ≤ maxLen := HMM.out _ (List.getElem_mem hjL)
      have HD : Hid (L.drop j = L[j] :: L.drop (j + 1)) := List.drop_eq_getElem_cons hjL
      have hj0 : (0 : Int) ≤ (j : Int) := by omega
      have hjl : (j : Int) < (m : Int) := by omega
      generalize L[j] = k at p0 hks HD
      have HP := Lib.hid (hp_c (bk k) p wr hks)
      rw [bk_of k] at HP
      have H2 := Lib.hid (H1.out.go HB.out)
      have hld := H2.out.look hks
      have HA := Lib.hid (H2.out.at hN k q)
      rw [bk_of k] at hld
      unfold vb aggV at HA
      obtain ⟨⟨r, tt, gg⟩, hav⟩ : ∃ y, atV (vrs f k) q = y := ⟨_, rfl⟩
      rw [hav] at HA
      dsimp only at HA
      have HAV := Lib.hid hav
      clear hav
      generalize pv (blkOf f k) = pp at HA hld
      obtain ⟨ky, hky⟩ : ∃ ky, ky = bk k := ⟨_, rfl⟩
      rw [← hky] at p0 HP hld hks
      obtain ⟨c0, c1, c2, c3, c4, c5, c6, c7⟩ := cells8 H2.out.hs
      have HRS : Hid (rgL f q p.data.toList n (L.drop j) xs = if pfx p.data.toList k = false then (xs, false) else if atB (vrs f k) q = false then rgL f q p.data.toList n (L.drop (j + 1)) xs else if n ≤ xs.length then (xs, true) else rgL f q p.data.toList n (L.drop (j + 1)) (xs ++ [(ky, (atV (vrs f k) q).2.1, (atV (vrs f k) q).1)])) := by
        show _ = _
        rw [HD.out, hky]; rfl
      rw [HAV.out] at HRS
      dsimp only at HRS
      have HWR : Hid (w.heap.size ≤ wr.heap.size) := by show _ ≤ _; have := HZ1.out; have := HB.out.size; omega
      have HKY := Lib.hid hky
      clear hat hjL hky
      cases hb : pfx p.data.toList k with
      | false =>
        rw [hb] at HP HRS
        rw [if_pos rfl] at HRS
        go_upto_region 9 with (go_at_call 30; (with_reducible refine HP.out.mono ?_); rintro e w2 ⟨rfl, hw2⟩; subst w2)
        refine bodyPost_ret (v := .tuple #[.slice aot xs.length capt, .bool false, .int .i64 0]) (by simp [results, Try.results15, go_sem]) rfl ?_
        refine ⟨_, od', w1.heap.size, by rw [HX.out, HRS.out], HZ1.out, HOD.out, ?_, H1.out.go HB.out, HO1.out.keep (Fr.below (E := fun _ => False) HB.out) (fun g hg e => e.elim), HF1.out.trans (Fr.below HB.out) (fun k hk => .inl hk), HN1.out⟩
        rw [HX.out, HRS.out]
        exact HO.out
      | true =>
        rw [hb] at HP HRS
        rw [if_neg (by decide)] at HRS
        have HWZ : Hid (∀ W, Below wr.heap.size wr W → W.ownsRow w1.heap.size 49 3 (.slice aot xs.length capt) xs.length (iC xs) ∧ Below w1.heap.size w1 W) := fun W hW => ⟨own_go HO.out hW, HB.out.trans (hW.mono HB.out.size)⟩
        cases hab : atB (vrs f k) q with
        | false =>
          rw [hab] at HA HRS
          rw [if_pos rfl] at HRS
          go_upto_region 9 with (go_at_call 30; (with_reducible refine HP.out.mono ?_); rintro e w2 ⟨rfl, hw2⟩; subst w2)
          go_upto_region 10 with (go_at_call 31; (with_reducible refine HA.out.mono ?_); rintro e w3 ⟨rfl, hb3⟩; have HB3 := Lib.hid hb3; clear hb3)
          clear c0 c1 c2 c3 c4 c5 c6 c7 p0 hld
          obtain ⟨W4, hW4, hk4, hb4⟩ := Cn.new3 w3 (.int .i64 r) (.string tt) (.bool gg) 75
          have H4 := Lib.hid (HWZ.out W4 (btr HB3.out hb4))
          rw [← hW4]
          clear hW4 hk4 hb4
          go_wp2
          go_roundw
          case rel => exact ⟨j + 1, xs, by omega, by go_num, by omega, H4.out.1, Lib.hid (HX.out.trans HRS.out), H4.out.2⟩
          case measure => simp [intOf]; omega
        | true =>
          rw [hab] at HA HRS
          rw [if_neg (by decide)] at HRS
          by_cases hnx : n ≤ (xs.length : Int)
          · rw [if_pos hnx] at HRS
            have hnx' : (xs.length : Int) ≥ n := hnx
            go_upto_region 9 with (go_at_call 30; (with_reducible refine HP.out.mono ?_); rintro e w2 ⟨rfl, hw2⟩; subst w2)
            go_upto_region 10 with (go_at_call 31; (with_reducible refine HA.out.mono ?_); rintro e w3 ⟨rfl, hb3⟩; have HB3 := Lib.hid hb3; clear hb3)
            clear c0 c1 c2 c3 c4 c5 c6 c7 p0 hld
            obtain ⟨W4, hW4, hk4, hb4⟩ := Cn.new3 w3 (.int .i64 r) (.string tt) (.bool gg) 75
            have H4 := Lib.hid (HWZ.out W4 (btr HB3.out hb4))
            rw [← hW4]
            clear hW4 hk4 hb4
            go_wp2
            refine bodyPost_ret (v := .tuple #[.slice aot xs.length capt, .bool true, .int .i64 0]) (by simp [results, Try.results15, go_sem]) rfl ?_
            refine ⟨_, od', w1.heap.size, by rw [HX.out, HRS.out], HZ1.out, HOD.out, ?_, H1.out.go H4.out.2, HO1.out.keep (Fr.below (E := fun _ => False) H4.out.2) (fun g hg e => e.elim), HF1.out.trans (Fr.below H4.out.2) (fun k hk => .inl hk), HN1.out⟩
            rw [HX.out, HRS.out]
            exact H4.out.1
          · rw [if_neg hnx] at HRS
            have hnx' : ¬ (xs.length : Int) ≥ n := hnx
            go_upto_region 9 with (go_at_call 30; (with_reducible refine HP.out.mono ?_); rintro e w2 ⟨rfl, hw2⟩; subst w2)
            go_upto_region 10 with (go_at_call 31; (with_reducible refine HA.out.mono ?_); rintro e w3 ⟨rfl, hb3⟩; have HB3 := Lib.hid hb3; clear hb3)
            clear c0 c1 c2 c3 c4 c5 c6 c7 p0 hld
            obtain ⟨W4, hW4, hk4, hb4⟩ := Cn.new3 w3 (.int .i64 r) (.string tt) (.bool gg) 75
            obtain ⟨d0, d1, d2⟩ := Cn.cells3 hk4
            have H4 := Lib.hid (HWZ.out W4 (btr HB3.out hb4))
            have HW4 := Lib.hid hW4
            obtain ⟨WB, hWB, hkB, hbB⟩ := Cn.new3 W4 (.string ky) (.string tt) (.int .i64 r) 49
            have HWB := Lib.hid hWB
            have HHB := Lib.hid (HWZ.out WB (btr (btr HB3.out hb4) hbB))
            have HC : Hid (∀ i u, (encI (ky, tt, r))[i]? = some u → WB.cell? ((⟨W4.heap.size, 0, none⟩ : Addr).add i) = some u) := World.news_of_block (cs := #[.string ky, .string tt, .int .i64 r]) hkB
            have D3 : Hid (xs.length + 1 ≤ maxLen) := by show _ ≤ _; unfold maxLen; omega
            have D4 : Hid ((xs.length + 1) * 40 ≤ 140737488355328) := by show _ ≤ _; omega
            have D5 : Hid (w1.heap.size ≤ WB.heap.size) := HHB.out.2.size
            have DE := Lib.hid (encI_ok (ky, tt, r))
            rw [← HW4.out]
            clear hW4 hk4 hb4 hWB hkB hbB
            go_wp2_with (at_builtin; rw [← HWB.out]; refine wpList_append_own _ rfl _ _ 41 rfl w1.heap.size 49 i0 _ 3 40 Try.underlying41 hi hz0 hz1 hz2 rfl (by decide) _ _ _ rfl HHB.out.1 ⟨W4.heap.size, 0, none⟩ 1 1 (encI (ky, tt, r)) rfl rfl HC.out DE.out D3.out D4.out D5.out ?_)
            intro v5 V5 hown hgrow _
            have HBV : Hid (Below w1.heap.size w1 V5) := HHB.out.2.grown hgrow HHB.out.2.size (fun q hq => (HHB.out.1.lt q hq).1)
            have HOV : Hid (V5.ownsRow w1.heap.size 49 3 v5 (xs ++ [(ky, tt, r)]).length (iC (xs ++ [(ky, tt, r)]))) := by
              show World.ownsRow _ _ _ _ _ _ _
              rw [iC_snoc, List.length_append]
              exact hown
            obtain ⟨ap, cq, hv5⟩ := own_form hown
            subst hv5
            clear hown hgrow
            go_wp2
            go_roundw
            case rel => exact ⟨j + 1, xs ++ [(ky, tt, r)], by omega, by go_num, by simp; omega, HOV, Lib.hid (HX.out.trans HRS.out), HBV⟩
            case measure => simp [intOf]; omega
    · have hjl : ¬ (j : Int) < (m : Int) := by omega
      have hd0 : L.drop j = [] := List.drop_of_length_le (by rw [HLN.out]; omega)
      have HFI : Hid (rgL f q p.data.toList n L [] = (xs, false)) := by show _ = _; rw [HX.out, hd0]; rfl
      clear hd0
      go_wp2
      refine bodyPost_ret (v := .tuple #[.slice aot xs.length capt, .bool false, .int .i64 0]) (by simp [results, Try.results15, go_sem]) rfl ?_
      refine ⟨_, by rw [HFI.out], od', w1.heap.size, HZ1.out, HOD.out, ?_, H1.out.go HB.out, HO1.out.keep (Fr.below (E := fun _ => False) HB.out) (fun g hg e => e.elim), HF1.out.trans (Fr.below HB.out) (fun k hk => .inl hk), HN1.out⟩
      rw [HFI.out]
      exact HO.out
theorem Range_c {c N : Nat} {mb : Option Nat} {f : Key → Option Chn} {l0 l9 rev fl ks vs : Int} {od : Value} {w : World} {K : List Key} (h : IsMv 0 c N mb f l0 l9 rev fl ks vs od w) (hN : N ≤ 1000000) (hK : Dm f K) (hKl : K.length ≤ 100000) (hKs : ∀ k ∈ K, k.length ≤ maxLen) (ho : OdOk c mb f K od w) (p a : ByteArray) (n q : Int) :
    Calls Try.prog 15 #[.pointer (some ⟨c, 0, none⟩), .string p, .string a, .int .i64 n, .int .i64 q] w (RgQ c N mb f l0 l9 rev fl ks vs od K p a n q w) := by
  unfold RgQ rgV
  by_cases hr : refE rev fl q = 0
  · rw [if_neg (by simpa using hr)]
    exact Range_ok h hN hK hKl hKs ho p a n q hr
  · rw [if_pos hr]
    have HR := Lib.hid (ref_c c l0 l9 rev fl ks vs q _ _ w h.hs)
    have HH := Lib.hid h
    have HO := Lib.hid ho
    have hrz : (refE rev fl q == 0) = false := by simpa using hr
    generalize refE rev fl q = z at *
    have HGO : Calls Try.prog 15 #[.pointer (some ⟨c, 0, none⟩), .string p, .string a, .int .i64 n, .int .i64 q] w fun e w' => e = .returned (.tuple #[.slice none 0 0, .bool false, .int .i64 z]) ∧ w' = w := by
      clear h ho hK hKs hr
      go_enter Try.func15, Try.ntmps15
      go_wp2_with (go_at_call 28; (with_reducible refine HR.out.mono ?_); rintro e w1 ⟨rfl, hw1⟩; subst w1)
      exact bodyPost_ret (v := .tuple #[.slice none 0 0, .bool false, .int .i64 z]) (by simp [results, Try.results15, go_sem]) rfl ⟨rfl, rfl⟩
    refine HGO.mono ?_
    rintro e w' ⟨rfl, rfl⟩
    refine ⟨_, od, w'.heap.size, rfl, Nat.le_refl _, fun k n cap e => ?_, World.ownsRow_nil _ _ _ _, HH.out, HO.out, Fr.refl _ _, fun _ _ _ _ => .inl rfl⟩
    rcases HO.out with e2 | ⟨g, cp, e2, _, hg, _⟩
    · rw [e2] at e; injection e with e; cases e
    · rw [e2] at e; injection e with e; injection e with e; injection e with e; omega
end Go.Proofs.Ytjceofkcahfhmaa.Mv
