/- Contracts and plain mathematics of some packages' functions, laid together; conditions as each one says. -/
import Derived.Test.YtjceofkcahfhmaaMvMe
import Derived.Test.YtjceofkcahfhmaaCnMb
namespace Go.Proofs.Ytjceofkcahfhmaa.Mv
open Go.RowKit Go.Lib Go.Maps Go.Shelf Go.Sort
open Go.Proofs.Ytjceofkcahfhmaa.Cn
set_option linter.unusedSimpArgs false
set_option linter.unusedVariables false

/-- the document's items that can be read; their block is one of F's -/
def RdI (F : Nat → Prop) (v : Value) (l : List ItT) (w : World) : Prop := ∃ ao cap, v = .slice ao l.length cap ∧ l.length ≤ cap ∧ (0 < l.length → ∃ g, ao = some ⟨g, 0, none⟩ ∧ F g ∧ g < w.heap.size ∧ ∀ i (hi : i < l.length), w.cell? ⟨g, i * 3, none⟩ = some (.string l[i].1) ∧ w.cell? ⟨g, i * 3 + 1, none⟩ = some (.string l[i].2.1) ∧ w.cell? ⟨g, i * 3 + 2, none⟩ = some (.int .i64 l[i].2.2))
theorem RdI.fr {F E : Nat → Prop} {v : Value} {l : List ItT} {w W : World} (h : RdI F v l w) (hf : Fr E w W) (hE : ∀ k, F k → ¬ E k) : RdI F v l W := by
  obtain ⟨ao, cap, rfl, hc, h⟩ := h
  refine ⟨ao, cap, rfl, hc, fun h0 => ?_⟩
  obtain ⟨g, rfl, hF, hg, h⟩ := h h0
  have hq := hf.block g hg (hE g hF)
  refine ⟨g, rfl, hF, Nat.lt_of_lt_of_le hg hf.size, fun i hi => ?_⟩
  obtain ⟨h1, h2, h3⟩ := h i hi
  exact ⟨by rw [World.cell?_of_block hq]; exact h1, by rw [World.cell?_of_block hq]; exact h2, by rw [World.cell?_of_block hq]; exact h3⟩
theorem RdI.go {F : Nat → Prop} {v : Value} {l : List ItT} {w W : World} (h : RdI F v l w) (hb : Below w.heap.size w W) : RdI F v l W := h.fr (E := fun _ => False) (Fr.below hb) (fun _ _ e => e)
theorem RdI.up {F F' : Nat → Prop} {v : Value} {l : List ItT} {w : World} (h : RdI F v l w) (hF : ∀ k, F k → k < w.heap.size → F' k) : RdI F' v l w := by
  obtain ⟨ao, cap, rfl, hc, h⟩ := h
  refine ⟨ao, cap, rfl, hc, fun h0 => ?_⟩
  obtain ⟨g, rfl, h1, hg, h⟩ := h h0
  exact ⟨g, rfl, hF g h1 hg, hg, h⟩
theorem RdI.nil (F : Nat → Prop) (w : World) : RdI F (.slice none 0 0) [] w := ⟨none, 0, rfl, Nat.le_refl _, fun h => absurd h (Nat.lt_irrefl _)⟩
theorem rdi_at {F : Nat → Prop} {ao : Option Addr} {cap n : Nat} {l : List ItT} {w : World} (h : RdI F (.slice ao n cap) l w) (h0 : 0 < l.length) : ∃ g, ao = some ⟨g, 0, none⟩ ∧ F g ∧ g < w.heap.size ∧ ∀ i (hi : i < l.length), w.cell? ⟨g, i * 3, none⟩ = some (.string l[i].1) ∧ w.cell? ⟨g, i * 3 + 1, none⟩ = some (.string l[i].2.1) ∧ w.cell? ⟨g, i * 3 + 2, none⟩ = some (.int .i64 l[i].2.2) := by
  obtain ⟨ao', cp, e, _, hh⟩ := h
  injection e with e1 e2 e3
  subst e1
  exact hh h0
/-- items of one's own, of the document's type -/
def OwJ (B : Nat) (v : Value) (l : List ItT) (w : World) : Prop := w.ownsRow B 66 3 v l.length (iC l)
theorem iC_at : ∀ (l : List ItT) (k : Nat) (hk : k < l.length), (iC l)[k * 3]? = some (.string l[k].1) ∧ (iC l)[k * 3 + 1]? = some (.string l[k].2.1) ∧ (iC l)[k * 3 + 2]? = some (.int .i64 l[k].2.2)
  | x :: l, 0, _ => ⟨rfl, rfl, rfl⟩
  | x :: l, k + 1, hk => by
    have h := iC_at l k (by simpa using hk)
    have e : iC (x :: l) = encI x ++ iC l := rfl
    rw [e]
    refine ⟨?_, ?_, ?_⟩
    · rw [show (k + 1) * 3 = k * 3 + 3 by omega]; exact h.1
    · rw [show (k + 1) * 3 + 1 = (k * 3 + 1) + 3 by omega]; exact h.2.1
    · rw [show (k + 1) * 3 + 2 = (k * 3 + 2) + 3 by omega]; exact h.2.2
theorem iC_len (l : List ItT) : (iC l).length = l.length * 3 := by
  unfold iC
  induction l with
  | nil => rfl
  | cons x l ih => simp only [List.flatMap_cons, List.length_append, ih, List.length_cons]; simp [encI]; omega
theorem OwJ.rd {F : Nat → Prop} {B : Nat} {v : Value} {l : List ItT} {w : World} (h : OwJ B v l w) (hF : ∀ k, B ≤ k → k < w.heap.size → F k) : RdI F v l w := by
  rcases h.2 with ⟨e, h0⟩ | ⟨g, cap, cur, hv, hB, hgh, hn, hm, hz, htk⟩
  · have : l = [] := List.eq_nil_of_length_eq_zero h0
    subst this
    rw [e]; exact RdI.nil F w
  · have hg := (Array.getElem?_eq_some_iff.1 hgh).1
    refine ⟨_, cap, hv, hn, fun _ => ⟨g, rfl, hF g hB hg, hg, fun i hi => ?_⟩⟩
    have hat := iC_at l i hi
    have hcur : ∀ j, j < l.length * 3 → cur[j]? = (iC l)[j]? := fun j hj => by
      rw [← htk, List.getElem?_take_of_lt hj, Array.getElem?_toList]
    refine ⟨?_, ?_, ?_⟩
    · rw [cell_of_row _ _ _ _ _ _ hgh, hcur _ (by omega)]; exact hat.1
    · rw [cell_of_row _ _ _ _ _ _ hgh, hcur _ (by omega)]; exact hat.2.1
    · rw [cell_of_row _ _ _ _ _ _ hgh, hcur _ (by omega)]; exact hat.2.2
theorem infoJ : (Try.prog.info? 66).map (fun i => (i.zero, i.size, i.bytes)) = some (some (.agg #[.string ⟨#[]⟩, .string ⟨#[]⟩, .int .i64 0]), 3, 40) := by kernel_rfl
/-- the item of a key -/
def fndL (l : List ItT) (key : ByteArray) : Option ItT := l.find? fun x => x.1.toList == key.toList
def fndV (l : List ItT) (key : ByteArray) : ItT × Bool := match fndL l key with
  | some x => (x, true)
  | none => (zeroI, false)
theorem fnd_drop {l : List ItT} {key : ByteArray} {j : Nat} (hj : j < l.length) : fndL (l.drop j) key = if (l[j].1.toList == key.toList) = true then some l[j] else fndL (l.drop (j + 1)) key := by
  unfold fndL
  rw [List.drop_eq_getElem_cons hj, List.find?_cons]
  cases l[j].1.toList == key.toList <;> simp
set_option maxRecDepth 100000 in
set_option maxHeartbeats 2000000 in
theorem find_c (F : Nat → Prop) (ao : Option Addr) (cap : Nat) (l : List ItT) (key : ByteArray) (w : World) (h : RdI F (.slice ao l.length cap) l w) (hm : l.length ≤ 1000000) :
    Calls Try.prog 32 #[.slice ao l.length cap, .string key] w fun e w' => e = .returned (.tuple #[aggI (fndV l key).1, .bool (fndV l key).2]) ∧ Below w.heap.size w w' := by
  have H := Lib.hid h
  obtain ⟨n, hn⟩ : ∃ n, n = l.length := ⟨_, rfl⟩
  have HN : Hid (l.length = n) := hn.symm
  rw [← hn] at H hm ⊢
  obtain ⟨W0, hW0, hk0, hb0⟩ := Cn.new3 w (.string ⟨#[]⟩) (.string ⟨#[]⟩) (.int .i64 0) 66
  have hz0 : w.heap.size < W0.heap.size := (Array.getElem?_eq_some_iff.1 hk0).1
  have HW0 := Lib.hid hW0
  have HK0 := Lib.hid hk0
  have HB0 := Lib.hid hb0
  clear h hn hW0 hk0 hb0
  go_enter Try.func32, Try.ntmps32
  go_upto_region 1 with (fail)
  rw [← HW0.out]
  go_wp2
  go_loopw [10] (fun iv wr => ∃ j : Nat, j ≤ n ∧ iv = .int .i64 (j : Int) ∧ Hid (fndL l key = fndL (l.drop j) key) ∧ Hid (Below W0.heap.size W0 wr)) (fun iv _ => n - (intOf iv).toNat)
  case atStart => exact ⟨0, by omega, rfl, Lib.hid rfl, Lib.hid (Below.refl _ _)⟩
  case round =>
    obtain ⟨j, hj, rfl, HX, HB⟩ := hrel
    have HBW : Hid (Below w.heap.size w wr) := btr HB0.out HB.out
    have HKW : Hid (wr.heap[w.heap.size]? = some (.cells #[.string ⟨#[]⟩, .string ⟨#[]⟩, .int .i64 0] 66 (0, 0))) := (HB.out.block _ hz0).trans HK0.out
    by_cases hlt : j < n
    · have hjL : j < l.length := by rw [HN.out]; exact hlt
      obtain ⟨g, rfl, _, hg, hat⟩ := rdi_at (H.out.go HBW.out) (by omega)
      obtain ⟨a0, a1, a2⟩ := hat j hjL
      have hj0 : (0 : Int) ≤ (j : Int) := by omega
      have hjl : (j : Int) < (n : Int) := by omega
      have HFD := Lib.hid (fnd_drop (key := key) hjL)
      obtain ⟨⟨x0, x1, x2⟩, hx⟩ : ∃ x : ItT, l[j] = x := ⟨_, rfl⟩
      rw [hx] at a0 a1 a2 HFD
      dsimp only at a0 a1 a2 HFD
      obtain ⟨W1, hW1, hk1, hb1⟩ := Cn.new3 wr (.string x0) (.string x1) (.int .i64 x2) 66
      have HW1 := Lib.hid hW1
      have HB1 := Lib.hid (HB.out.trans (hb1.mono HB.out.size))
      have HK1 : Hid (W1.heap[w.heap.size]? = some (.cells #[.string ⟨#[]⟩, .string ⟨#[]⟩, .int .i64 0] 66 (0, 0))) := (hb1.block _ (Nat.lt_of_lt_of_le hz0 HB.out.size)).trans HKW.out
      obtain ⟨d0, d1, d2⟩ := Cn.cells3 hk1
      clear hat hx hjL hW1 hk1 hb1
      cases hb : x0.toList == key.toList with
      | false =>
        rw [hb, if_neg (by decide)] at HFD
        go_upto_region 4 with (fail)
        rw [← HW1.out]
        go_wp2
        go_roundw
        case rel => exact ⟨j + 1, by omega, by go_num, Lib.hid (HX.out.trans HFD.out), HB1⟩
        case measure => simp [intOf]; omega
      | true =>
        rw [hb, if_pos rfl] at HFD
        have HFV : Hid (fndV l key = ((x0, x1, x2), true)) := by show _ = _; unfold fndV; rw [HX.out, HFD.out]
        obtain ⟨y0, y1, y2⟩ := Cn.cells3 HK1.out
        have z0 := frz HK1.out 0
        have z1 := frz HK1.out 1
        have z2 := frz HK1.out 2
        have HH := Lib.hid (st3 HK1.out (.string x0) (.string x1) (.int .i64 x2))
        have HBF := Lib.hid ((btr HB0.out HB1.out).trans (bel_set3 (B := w.heap.size) (r := w.heap.size) W1 (Nat.le_refl _) (.string x0) (.string x1) (.int .i64 x2)))
        go_upto_region 4 with (fail)
        rw [← HW1.out]
        go_wp2
        clear y0 y1 y2 z0 z1 z2 d0 d1 d2
        obtain ⟨d0, d1, d2⟩ := Cn.cells3 HH.out
        exact bodyPost_ret (v := .tuple #[.agg #[.string x0, .string x1, .int .i64 x2], .bool true]) (by simp [results, Try.results32, go_sem, d0, d1, d2]) rfl ⟨by rw [HFV.out]; rfl, HBF.out⟩
    · have hjl : ¬ (j : Int) < (n : Int) := by omega
      have HFV : Hid (fndV l key = (zeroI, false)) := by
        have hd : l.drop j = [] := List.drop_of_length_le (by rw [HN.out]; omega)
        show _ = _
        unfold fndV; rw [HX.out, hd]; rfl
      obtain ⟨y0, y1, y2⟩ := Cn.cells3 HKW.out
      have z0 := frz HKW.out 0
      have z1 := frz HKW.out 1
      have z2 := frz HKW.out 2
      have HH := Lib.hid (st3 HKW.out (.string ⟨#[]⟩) (.string ⟨#[]⟩) (.int .i64 0))
      have HBF := Lib.hid (HBW.out.trans (bel_set3 (B := w.heap.size) (r := w.heap.size) wr (Nat.le_refl _) (.string ⟨#[]⟩) (.string ⟨#[]⟩) (.int .i64 0)))
      go_wp2
      clear y0 y1 y2 z0 z1 z2
      obtain ⟨d0, d1, d2⟩ := Cn.cells3 HH.out
      exact bodyPost_ret (v := .tuple #[.agg #[.string ⟨#[]⟩, .string ⟨#[]⟩, .int .i64 0], .bool false]) (by simp [results, Try.results32, go_sem, d0, d1, d2]) rfl ⟨by rw [HFV.out]; rfl, HBF.out⟩
end Go.Proofs.Ytjceofkcahfhmaa.Mv
namespace Go.Proofs.Ytjceofkcahfhmaa.Mv
open Go.RowKit Go.Lib Go.Maps Go.Shelf Go.Sort
open Go.Proofs.Ytjceofkcahfhmaa.Cn
set_option linter.unusedSimpArgs false
set_option linter.unusedVariables false

def gtB (x k : ByteArray) : Bool := !Op.bytesLess x.toList k.toList && !x.toList == k.toList
/-- a step of set -/
def setS (c : ChT) (rev : Int) (s : List ItT × Bool) (x : ItT) : List ItT × Bool :=
  if s.2 = false ∧ gtB x.1 c.1 = true then (s.1 ++ [(c.1, c.2.1, rev)] ++ [x], true) else if (x.1.toList == c.1.toList) = true then s else (s.1 ++ [x], s.2)
def setR (l : List ItT) (c : ChT) (rev : Int) (s : List ItT × Bool) : List ItT × Bool := l.foldl (setS c rev) s
def setL (l : List ItT) (c : ChT) (rev : Int) : List ItT := if (setR l c rev ([], c.2.2)).2 = true then (setR l c rev ([], c.2.2)).1 else (setR l c rev ([], c.2.2)).1 ++ [(c.1, c.2.1, rev)]
theorem setR_drop {l : List ItT} {c : ChT} {rev : Int} {s : List ItT × Bool} {j : Nat} (hj : j < l.length) : setR (l.drop j) c rev s = setR (l.drop (j + 1)) c rev (setS c rev s l[j]) := by
  unfold setR
  rw [List.drop_eq_getElem_cons hj, List.foldl_cons]
theorem setS_len (c : ChT) (rev : Int) (s : List ItT × Bool) (x : ItT) : (setS c rev s x).1.length ≤ s.1.length + 2 := by
  unfold setS
  split
  · simp
  · split
    · omega
    · simp
theorem gt_ne {x k : ByteArray} (h : gtB x k = true) : (x.toList == k.toList) = false := by
  unfold gtB at h
  cases hb : x.toList == k.toList with
  | true => rw [hb] at h; simp at h
  | false => rfl
set_option maxRecDepth 100000 in
set_option maxHeartbeats 8000000 in
theorem set_c (F : Nat → Prop) (ao : Option Addr) (cap : Nat) (l : List ItT) (key val : ByteArray) (gone : Bool) (rev : Int) (w : World) (h : RdI F (.slice ao l.length cap) l w) (hm : l.length ≤ 100000) :
    Calls Try.prog 49 #[.slice ao l.length cap, .agg #[.string key, .string val, .bool gone], .int .i64 rev] w fun e w' => ∃ v, e = .returned v ∧ OwJ w.heap.size v (setL l (key, val, gone) rev) w' ∧ Below w.heap.size w w' := by
  obtain ⟨i0, hi, hz0, hz1, hz2⟩ := info_parts infoJ
  have H := Lib.hid h
  obtain ⟨n, hn⟩ : ∃ n, n = l.length := ⟨_, rfl⟩
  have HN : Hid (l.length = n) := hn.symm
  rw [← hn] at H hm ⊢
  obtain ⟨W0, hW0, hk0, hb0⟩ := Cn.new3 w (.string key) (.string val) (.bool gone) 81
  have hzz : w.heap.size < W0.heap.size := (Array.getElem?_eq_some_iff.1 hk0).1
  have HW0 := Lib.hid hW0
  have HK0 := Lib.hid hk0
  have HB0 := Lib.hid hb0
  have HKC : Hid (∀ W, Below W0.heap.size W0 W → W.cell? ⟨w.heap.size, 0, none⟩ = some (.string key) ∧ W.cell? ⟨w.heap.size, 1, none⟩ = some (.string val) ∧ W.cell? ⟨w.heap.size, 2, none⟩ = some (.bool gone)) := fun W hW => Cn.cells3 ((hW.block _ hzz).trans hk0)
  obtain ⟨c0, c1, c2⟩ := Cn.cells3 hk0
  clear h hn hW0 hk0 hb0
  go_enter Try.func49, Try.ntmps49
  go_upto_region 1 with (fail)
  rw [← HW0.out]
  go_wp2
  clear c0 c1 c2
  go_loopw [15, 7, 8] (fun iv ov dv wr => ∃ (j : Nat) (xs : List ItT) (d : Bool), j ≤ n ∧ iv = .int .i64 (j : Int) ∧ dv = .bool d ∧ xs.length ≤ 2 * j ∧ Hid (wr.ownsRow W0.heap.size 66 3 ov xs.length (iC xs)) ∧ Hid (setR l (key, val, gone) rev ([], gone) = setR (l.drop j) (key, val, gone) rev (xs, d)) ∧ Hid (Below W0.heap.size W0 wr)) (fun iv _ _ _ => n - (intOf iv).toNat)
  case atStart => exact ⟨0, [], gone, by omega, rfl, rfl, Nat.zero_le _, Lib.hid (World.ownsRow_nil _ _ _ _), Lib.hid rfl, Lib.hid (Below.refl _ _)⟩
  case round =>
    obtain ⟨j, xs, d, hj, rfl, rfl, hxl, HO, HX, HB⟩ := hrel
    obtain ⟨aot, capt, htv⟩ := own_form HO.out
    subst htv
    have HBW : Hid (Below w.heap.size w wr) := btr HB0.out HB.out
    have hrz : W0.heap.size ≤ wr.heap.size := HB.out.size
    by_cases hlt : j < n
    · have hjL : j < l.length := by rw [HN.out]; exact hlt
      obtain ⟨g, rfl, _, hg, hat⟩ := rdi_at (H.out.go HBW.out) (by omega)
      obtain ⟨a0, a1, a2⟩ := hat j hjL
      have hj0 : (0 : Int) ≤ (j : Int) := by omega
      have hjl : (j : Int) < (n : Int) := by omega
      have HFD := Lib.hid (setR_drop (c := (key, val, gone)) (rev := rev) (s := (xs, d)) hjL)
      obtain ⟨⟨x0, x1, x2⟩, hx⟩ : ∃ x : ItT, l[j] = x := ⟨_, rfl⟩
      rw [hx] at a0 a1 a2 HFD
      dsimp only at a0 a1 a2
      unfold setS at HFD
      dsimp only at HFD
      obtain ⟨W1, hW1, hk1, hb1⟩ := Cn.new3 wr (.string x0) (.string x1) (.int .i64 x2) 66
      have HW1 := Lib.hid hW1
      have HK1 := Lib.hid hk1
      have HB1 := Lib.hid (HB.out.trans (hb1.mono HB.out.size))
      have HO1 := Lib.hid (own_go HO.out hb1)
      have hz1' : wr.heap.size < W1.heap.size := (Array.getElem?_eq_some_iff.1 hk1).1
      obtain ⟨d0, d1, d2⟩ := Cn.cells3 hk1
      obtain ⟨c0, c1, c2⟩ := HKC.out W1 HB1.out
      have hgt : (!(Op.bytesLess x0.toList key.toList || x0.toList == key.toList)) = gtB x0 key := by unfold gtB; rw [Bool.not_or]
      have HGT : Hid (gtB x0 key = (!Op.bytesLess x0.toList key.toList && !x0.toList == key.toList)) := rfl
      clear hat hx hjL hW1 hk1 hb1
      by_cases hway : d = false ∧ gtB x0 key = true
      · obtain ⟨rfl, hg1⟩ := hway
        rw [if_pos ⟨rfl, hg1⟩] at HFD
        have hne := gt_ne hg1
        rw [hg1] at hgt
        have HGA := Lib.hid hg1
        clear hg1
        have hbl : Op.bytesLess x0.toList key.toList = false := by
          have h1 := HGA.out
          unfold gtB at h1
          rw [hne] at h1
          simpa using h1
        go_upto_region 6 with (fail)
        rw [← HW1.out]
        go_upto_region 7 with (fail)
        clear d0 d1 d2
        obtain ⟨WBa, hWBa, hkBa, hbBa⟩ := Cn.new3 W1 (.string key) (.string val) (.int .i64 rev) 66
        have HWBa := Lib.hid hWBa
        have HOBa := Lib.hid (own_go HO1.out hbBa)
        have HBBa := Lib.hid (HB1.out.trans (hbBa.mono HB1.out.size))
        have HBXa := Lib.hid hbBa
        have HCa : Hid (∀ i u, (encI (key, val, rev))[i]? = some u → WBa.cell? ((⟨W1.heap.size, 0, none⟩ : Addr).add i) = some u) := World.news_of_block (cs := #[.string key, .string val, .int .i64 rev]) hkBa
        have D3a : Hid (xs.length + 1 ≤ maxLen) := by show _ ≤ _; unfold maxLen; omega
        have D4a : Hid ((xs.length + 1) * 40 ≤ 140737488355328) := by show _ ≤ _; omega
        have D5a : Hid (W0.heap.size ≤ WBa.heap.size) := HBBa.out.size
        have DEa := Lib.hid (encI_ok (key, val, rev))
        clear hWBa hkBa hbBa
        go_wp2_with (at_builtin; rw [← HWBa.out]; refine wpList_append_own _ rfl _ _ 40 rfl W0.heap.size 66 i0 _ 3 40 Try.underlying40 hi hz0 hz1 hz2 rfl (by decide) _ _ _ rfl HOBa.out ⟨W1.heap.size, 0, none⟩ 1 1 (encI (key, val, rev)) rfl rfl HCa.out DEa.out D3a.out D4a.out D5a.out ?_)
        intro va Va howna hgrowa _
        have HBVa : Hid (Below W0.heap.size W0 Va) := HBBa.out.grown hgrowa HBBa.out.size (fun q hq => (HOBa.out.lt q hq).1)
        have HHGa := Lib.hid hgrowa
        have HOVa : Hid (Va.ownsRow W0.heap.size 66 3 va (xs.length + 1) (iC (xs ++ [(key, val, rev)]))) := by
          show World.ownsRow _ _ _ _ _ _ _
          rw [iC_snoc]
          exact howna
        obtain ⟨apa, cqa, hva⟩ := own_form howna
        subst hva
        clear howna hgrowa
        have HKX : Hid (Va.heap[wr.heap.size]? = some (.cells #[.string x0, .string x1, .int .i64 x2] 66 (0, 0))) := (HHGa.out.block _ (Nat.lt_of_lt_of_le hz1' HBXa.out.size) (fun e => by
          have := (HO.out.lt _ e.symm).2
          omega)).trans ((HBXa.out.block _ hz1').trans HK1.out)
        obtain ⟨d0, d1, d2⟩ := Cn.cells3 HKX.out
        clear c0 c1 c2
        obtain ⟨c0, c1, c2⟩ := HKC.out Va HBVa.out
        have hlen : (xs ++ [(key, val, rev)]).length ≤ 2 * j + 1 := by simp; omega
        go_upto_region 10 with (fail)
        obtain ⟨WBb, hWBb, hkBb, hbBb⟩ := Cn.new3 Va (.string x0) (.string x1) (.int .i64 x2) 66
        have HWBb := Lib.hid hWBb
        have HOBb := Lib.hid (own_go HOVa.out hbBb)
        have HBBb := Lib.hid (HBVa.out.trans (hbBb.mono HBVa.out.size))
        have HBXb := Lib.hid hbBb
        have HCb : Hid (∀ i u, (encI (x0, x1, x2))[i]? = some u → WBb.cell? ((⟨Va.heap.size, 0, none⟩ : Addr).add i) = some u) := World.news_of_block (cs := #[.string x0, .string x1, .int .i64 x2]) hkBb
        have D3b : Hid ((xs.length + 1) + 1 ≤ maxLen) := by show _ ≤ _; unfold maxLen; omega
        have D4b : Hid (((xs.length + 1) + 1) * 40 ≤ 140737488355328) := by show _ ≤ _; omega
        have D5b : Hid (W0.heap.size ≤ WBb.heap.size) := HBBb.out.size
        have DEb := Lib.hid (encI_ok (x0, x1, x2))
        clear hWBb hkBb hbBb
        go_wp2_with (at_builtin; rw [← HWBb.out]; refine wpList_append_own _ rfl _ _ 40 rfl W0.heap.size 66 i0 _ 3 40 Try.underlying40 hi hz0 hz1 hz2 rfl (by decide) _ _ _ rfl HOBb.out ⟨Va.heap.size, 0, none⟩ 1 1 (encI (x0, x1, x2)) rfl rfl HCb.out DEb.out D3b.out D4b.out D5b.out ?_)
        intro vb Vb hownb hgrowb _
        have HBVb : Hid (Below W0.heap.size W0 Vb) := HBBb.out.grown hgrowb HBBb.out.size (fun q hq => (HOBb.out.lt q hq).1)
        have HHGb := Lib.hid hgrowb
        have HOVb : Hid (Vb.ownsRow W0.heap.size 66 3 vb ((xs.length + 1) + 1) (iC ((xs ++ [(key, val, rev)]) ++ [(x0, x1, x2)]))) := by
          show World.ownsRow _ _ _ _ _ _ _
          rw [iC_snoc]
          exact hownb
        obtain ⟨apb, cqb, hvb⟩ := own_form hownb
        subst hvb
        clear hownb hgrowb
        go_wp2
        go_roundw
        case rel => exact ⟨j + 1, xs ++ [(key, val, rev)] ++ [(x0, x1, x2)], true, by omega, by go_num, rfl, by simp; omega, Lib.hid (by rw [show (xs ++ [(key, val, rev)] ++ [(x0, x1, x2)]).length = xs.length + 1 + 1 by simp]; exact HOVb.out), Lib.hid (HX.out.trans HFD.out), HBVb⟩
        case measure => simp [intOf]; omega
      · rw [if_neg hway] at HFD
        cases he : x0.toList == key.toList with
        | true =>
          rw [he, if_pos rfl] at HFD
          have hg0 : (!(Op.bytesLess x0.toList key.toList || x0.toList == key.toList)) = false := by rw [he, Bool.or_true]; rfl
          have HOK := HO1
          cases d with
          | true =>
            go_upto_region 6 with (fail)
            rw [← HW1.out]
            go_wp2
            go_roundw
            case rel => exact ⟨j + 1, xs, true, by omega, by go_num, rfl, by omega, HO1, Lib.hid (HX.out.trans HFD.out), HB1⟩
            case measure => simp [intOf]; omega
          | false =>
            go_upto_region 6 with (fail)
            rw [← HW1.out]
            go_wp2
            go_roundw
            case rel => exact ⟨j + 1, xs, false, by omega, by go_num, rfl, by omega, HO1, Lib.hid (HX.out.trans HFD.out), HB1⟩
            case measure => simp [intOf]; omega
        | false =>
          rw [he, if_neg (by decide)] at HFD
          cases d with
          | true =>
            go_upto_region 6 with (fail)
            rw [← HW1.out]
            go_upto_region 10 with (fail)
            obtain ⟨WBb, hWBb, hkBb, hbBb⟩ := Cn.new3 W1 (.string x0) (.string x1) (.int .i64 x2) 66
            have HWBb := Lib.hid hWBb
            have HOBb := Lib.hid (own_go HO1.out hbBb)
            have HBBb := Lib.hid (HB1.out.trans (hbBb.mono HB1.out.size))
            have HBXb := Lib.hid hbBb
            have HCb : Hid (∀ i u, (encI (x0, x1, x2))[i]? = some u → WBb.cell? ((⟨W1.heap.size, 0, none⟩ : Addr).add i) = some u) := World.news_of_block (cs := #[.string x0, .string x1, .int .i64 x2]) hkBb
            have D3b : Hid (xs.length + 1 ≤ maxLen) := by show _ ≤ _; unfold maxLen; omega
            have D4b : Hid ((xs.length + 1) * 40 ≤ 140737488355328) := by show _ ≤ _; omega
            have D5b : Hid (W0.heap.size ≤ WBb.heap.size) := HBBb.out.size
            have DEb := Lib.hid (encI_ok (x0, x1, x2))
            clear hWBb hkBb hbBb
            go_wp2_with (at_builtin; rw [← HWBb.out]; refine wpList_append_own _ rfl _ _ 40 rfl W0.heap.size 66 i0 _ 3 40 Try.underlying40 hi hz0 hz1 hz2 rfl (by decide) _ _ _ rfl HOBb.out ⟨W1.heap.size, 0, none⟩ 1 1 (encI (x0, x1, x2)) rfl rfl HCb.out DEb.out D3b.out D4b.out D5b.out ?_)
            intro vb Vb hownb hgrowb _
            have HBVb : Hid (Below W0.heap.size W0 Vb) := HBBb.out.grown hgrowb HBBb.out.size (fun q hq => (HOBb.out.lt q hq).1)
            have HHGb := Lib.hid hgrowb
            have HOVb : Hid (Vb.ownsRow W0.heap.size 66 3 vb (xs.length + 1) (iC (xs ++ [(x0, x1, x2)]))) := by
              show World.ownsRow _ _ _ _ _ _ _
              rw [iC_snoc]
              exact hownb
            obtain ⟨apb, cqb, hvb⟩ := own_form hownb
            subst hvb
            clear hownb hgrowb
            go_wp2
            go_roundw
            case rel => exact ⟨j + 1, xs ++ [(x0, x1, x2)], true, by omega, by go_num, rfl, by simp; omega, Lib.hid (by rw [show (xs ++ [(x0, x1, x2)]).length = xs.length + 1 by simp]; exact HOVb.out), Lib.hid (HX.out.trans HFD.out), HBVb⟩
            case measure => simp [intOf]; omega
          | false =>
            have hgf : gtB x0 key = false := by
              cases hh : gtB x0 key with
              | true => exact absurd ⟨rfl, hh⟩ hway
              | false => rfl
            have hbl : Op.bytesLess x0.toList key.toList = true := by
              unfold gtB at hgf
              rw [he] at hgf
              simpa using hgf
            clear hgf
            go_upto_region 6 with (fail)
            rw [← HW1.out]
            go_upto_region 10 with (fail)
            obtain ⟨WBb, hWBb, hkBb, hbBb⟩ := Cn.new3 W1 (.string x0) (.string x1) (.int .i64 x2) 66
            have HWBb := Lib.hid hWBb
            have HOBb := Lib.hid (own_go HO1.out hbBb)
            have HBBb := Lib.hid (HB1.out.trans (hbBb.mono HB1.out.size))
            have HBXb := Lib.hid hbBb
            have HCb : Hid (∀ i u, (encI (x0, x1, x2))[i]? = some u → WBb.cell? ((⟨W1.heap.size, 0, none⟩ : Addr).add i) = some u) := World.news_of_block (cs := #[.string x0, .string x1, .int .i64 x2]) hkBb
            have D3b : Hid (xs.length + 1 ≤ maxLen) := by show _ ≤ _; unfold maxLen; omega
            have D4b : Hid ((xs.length + 1) * 40 ≤ 140737488355328) := by show _ ≤ _; omega
            have D5b : Hid (W0.heap.size ≤ WBb.heap.size) := HBBb.out.size
            have DEb := Lib.hid (encI_ok (x0, x1, x2))
            clear hWBb hkBb hbBb
            go_wp2_with (at_builtin; rw [← HWBb.out]; refine wpList_append_own _ rfl _ _ 40 rfl W0.heap.size 66 i0 _ 3 40 Try.underlying40 hi hz0 hz1 hz2 rfl (by decide) _ _ _ rfl HOBb.out ⟨W1.heap.size, 0, none⟩ 1 1 (encI (x0, x1, x2)) rfl rfl HCb.out DEb.out D3b.out D4b.out D5b.out ?_)
            intro vb Vb hownb hgrowb _
            have HBVb : Hid (Below W0.heap.size W0 Vb) := HBBb.out.grown hgrowb HBBb.out.size (fun q hq => (HOBb.out.lt q hq).1)
            have HHGb := Lib.hid hgrowb
            have HOVb : Hid (Vb.ownsRow W0.heap.size 66 3 vb (xs.length + 1) (iC (xs ++ [(x0, x1, x2)]))) := by
              show World.ownsRow _ _ _ _ _ _ _
              rw [iC_snoc]
              exact hownb
            obtain ⟨apb, cqb, hvb⟩ := own_form hownb
            subst hvb
            clear hownb hgrowb
            go_wp2
            go_roundw
            case rel => exact ⟨j + 1, xs ++ [(x0, x1, x2)], false, by omega, by go_num, rfl, by simp; omega, Lib.hid (by rw [show (xs ++ [(x0, x1, x2)]).length = xs.length + 1 by simp]; exact HOVb.out), Lib.hid (HX.out.trans HFD.out), HBVb⟩
            case measure => simp [intOf]; omega
    · have hjl : ¬ (j : Int) < (n : Int) := by omega
      have hd : l.drop j = [] := List.drop_of_length_le (by rw [HN.out]; omega)
      have HRR : Hid (setR l (key, val, gone) rev ([], gone) = (xs, d)) := by show _ = _; rw [HX.out, hd]; rfl
      obtain ⟨c0, c1, c2⟩ := HKC.out wr HB.out
      clear hd
      cases d with
      | true =>
        have HSL : Hid (setL l (key, val, gone) rev = xs) := by show _ = _; unfold setL; rw [HRR.out]; rfl
        go_wp2
        go_ret
        refine ⟨_, rfl, ?_, HBW.out⟩
        rw [HSL.out]
        exact own_mono HO.out (by omega)
      | false =>
        have HSL : Hid (setL l (key, val, gone) rev = xs ++ [(key, val, rev)]) := by show _ = _; unfold setL; rw [HRR.out]; rfl
        have hxl2 : xs.length ≤ 2 * j := hxl
        obtain ⟨WBb, hWBb, hkBb, hbBb⟩ := Cn.new3 wr (.string key) (.string val) (.int .i64 rev) 66
        have HWBb := Lib.hid hWBb
        have HOBb := Lib.hid (own_go HO.out hbBb)
        have HBBb := Lib.hid (HB.out.trans (hbBb.mono HB.out.size))
        have HBXb := Lib.hid hbBb
        have HCb : Hid (∀ i u, (encI (key, val, rev))[i]? = some u → WBb.cell? ((⟨wr.heap.size, 0, none⟩ : Addr).add i) = some u) := World.news_of_block (cs := #[.string key, .string val, .int .i64 rev]) hkBb
        have D3b : Hid (xs.length + 1 ≤ maxLen) := by show _ ≤ _; unfold maxLen; omega
        have D4b : Hid ((xs.length + 1) * 40 ≤ 140737488355328) := by show _ ≤ _; omega
        have D5b : Hid (W0.heap.size ≤ WBb.heap.size) := HBBb.out.size
        have DEb := Lib.hid (encI_ok (key, val, rev))
        clear hWBb hkBb hbBb
        go_wp2_with (at_builtin; rw [← HWBb.out]; refine wpList_append_own _ rfl _ _ 40 rfl W0.heap.size 66 i0 _ 3 40 Try.underlying40 hi hz0 hz1 hz2 rfl (by decide) _ _ _ rfl HOBb.out ⟨wr.heap.size, 0, none⟩ 1 1 (encI (key, val, rev)) rfl rfl HCb.out DEb.out D3b.out D4b.out D5b.out ?_)
        intro vb Vb hownb hgrowb _
        have HBVb : Hid (Below W0.heap.size W0 Vb) := HBBb.out.grown hgrowb HBBb.out.size (fun q hq => (HOBb.out.lt q hq).1)
        have HHGb := Lib.hid hgrowb
        have HOVb : Hid (Vb.ownsRow W0.heap.size 66 3 vb (xs.length + 1) (iC (xs ++ [(key, val, rev)]))) := by
          show World.ownsRow _ _ _ _ _ _ _
          rw [iC_snoc]
          exact hownb
        obtain ⟨apb, cqb, hvb⟩ := own_form hownb
        subst hvb
        clear hownb hgrowb
        go_wp2
        go_ret
        refine ⟨_, rfl, ?_, btr HB0.out HBVb.out⟩
        rw [HSL.out]
        show World.ownsRow _ _ _ _ _ _ _
        rw [show (xs ++ [(key, val, rev)]).length = xs.length + 1 by simp]
        exact own_mono HOVb.out (by omega)
end Go.Proofs.Ytjceofkcahfhmaa.Mv
namespace Go.Proofs.Ytjceofkcahfhmaa.Mv
open Go.RowKit Go.Lib Go.Maps Go.Shelf Go.Sort
open Go.Proofs.Ytjceofkcahfhmaa.Cn
set_option linter.unusedSimpArgs false
set_option linter.unusedVariables false

/-- rows of items that can be read -/
def RdA (F : Nat → Prop) (v : Value) (A : List (List ItT)) (w : World) : Prop := ∃ g cap, v = .slice (some ⟨g, 0, none⟩) A.length cap ∧ A.length ≤ cap ∧ 0 < A.length ∧ F g ∧ g < w.heap.size ∧ ∀ i (hi : i < A.length), ∃ vi, w.cell? ⟨g, i, none⟩ = some vi ∧ RdI F vi A[i] w
theorem RdA.fr {F E : Nat → Prop} {v : Value} {A : List (List ItT)} {w W : World} (h : RdA F v A w) (hf : Fr E w W) (hE : ∀ k, F k → ¬ E k) : RdA F v A W := by
  obtain ⟨g, cap, rfl, hc, h0, hF, hg, h⟩ := h
  have hq := hf.block g hg (hE g hF)
  refine ⟨g, cap, rfl, hc, h0, hF, Nat.lt_of_lt_of_le hg hf.size, fun i hi => ?_⟩
  obtain ⟨vi, h1, h2⟩ := h i hi
  exact ⟨vi, by rw [World.cell?_of_block hq]; exact h1, h2.fr hf hE⟩
theorem RdA.up {F F' : Nat → Prop} {v : Value} {A : List (List ItT)} {w : World} (h : RdA F v A w) (hF : ∀ k, F k → k < w.heap.size → F' k) : RdA F' v A w := by
  obtain ⟨g, cap, rfl, hc, h0, h1, hg, h⟩ := h
  refine ⟨g, cap, rfl, hc, h0, hF g h1 hg, hg, fun i hi => ?_⟩
  obtain ⟨vi, h2, h3⟩ := h i hi
  exact ⟨vi, h2, h3.up hF⟩
/-- versions that can be read -/
def RdVF (F : Nat → Prop) (v : Value) (l : List Ver) (w : World) : Prop := ∃ ao cap, v = .slice ao l.length cap ∧ (0 < l.length → ∃ g off, ao = some ⟨g, off, none⟩ ∧ F g ∧ g < w.heap.size ∧ ∀ i (hi : i < l.length), w.cell? ⟨g, off + i * 3, none⟩ = some (.int .i64 l[i].1) ∧ w.cell? ⟨g, off + i * 3 + 1, none⟩ = some (.string l[i].2.1) ∧ w.cell? ⟨g, off + i * 3 + 2, none⟩ = some (.bool l[i].2.2))
theorem RdVF.rd {F : Nat → Prop} {v : Value} {l : List Ver} {w : World} (h : RdVF F v l w) : RdV v l w := by
  obtain ⟨ao, cap, rfl, h⟩ := h
  refine ⟨ao, cap, rfl, fun h0 => ?_⟩
  obtain ⟨g, off, e, _, h1, h2⟩ := h h0
  exact ⟨g, off, e, h1, h2⟩
theorem RdVF.fr {F E : Nat → Prop} {v : Value} {l : List Ver} {w W : World} (h : RdVF F v l w) (hf : Fr E w W) (hE : ∀ k, F k → ¬ E k) : RdVF F v l W := by
  obtain ⟨ao, cap, rfl, h⟩ := h
  refine ⟨ao, cap, rfl, fun h0 => ?_⟩
  obtain ⟨g, off, e, hF, hg, h⟩ := h h0
  have hq := hf.block g hg (hE g hF)
  refine ⟨g, off, e, hF, Nat.lt_of_lt_of_le hg hf.size, fun i hi => ?_⟩
  obtain ⟨h1, h2, h3⟩ := h i hi
  exact ⟨by rw [World.cell?_of_block hq]; exact h1, by rw [World.cell?_of_block hq]; exact h2, by rw [World.cell?_of_block hq]; exact h3⟩
theorem RdVF.up {F F' : Nat → Prop} {v : Value} {l : List Ver} {w : World} (h : RdVF F v l w) (hF : ∀ k, F k → k < w.heap.size → F' k) : RdVF F' v l w := by
  obtain ⟨ao, cap, rfl, h⟩ := h
  refine ⟨ao, cap, rfl, fun h0 => ?_⟩
  obtain ⟨g, off, e, h1, hg, h⟩ := h h0
  exact ⟨g, off, e, hF g h1 hg, hg, h⟩
theorem OwV.rdF {F : Nat → Prop} {T : TypeId} {B : Nat} {v : Value} {l : List Ver} {w : World} (h : OwV T B v l w) (hF : ∀ k, B ≤ k → k < w.heap.size → F k) : RdVF F v l w := by
  have hr := h.rd
  obtain ⟨ao, cap, rfl, hr⟩ := hr
  refine ⟨ao, cap, rfl, fun h0 => ?_⟩
  obtain ⟨g, off, rfl, h1, h2⟩ := hr h0
  rcases own_slV h with ⟨e, e0⟩ | ⟨g', cap', e, _⟩
  · omega
  · injection e with e1
    injection e1 with e1
    injection e1 with e1 e2
    subst e1 e2
    have := h.lt g rfl
    exact ⟨g, 0, rfl, hF g this.1 h1, h1, h2⟩
/-- the document's store as it lies -/
structure IsR (F G : Nat → Prop) (r : Nat) (A : List (List ItT)) (kl vl fl : Int) (Ns : List Key) (Cs : List (List Ver)) (w : World) : Prop where
  ex : ∃ vA vN vC cs, w.heap[r]? = some (.cells #[vA, .int .i64 kl, .int .i64 vl, .int .i64 fl, vN, vC] 38 (0, 0)) ∧ RdA F vA A w ∧ w.ownsRow 0 9 1 vN Ns.length (Ns.map encStr) ∧ (∀ g, vN.ownBlock = some g → G g ∧ ¬ F g) ∧ w.ownsRow 0 71 1 vC Cs.length cs ∧ (∀ g, vC.ownBlock = some g → G g ∧ ¬ F g) ∧ cs.length = Cs.length ∧ ∀ i (hi : i < Cs.length) (hj : i < cs.length), RdVF F cs[i] Cs[i] w
  fr : G r ∧ ¬ F r
  sub : ∀ k, F k → G k
theorem row_fr {E : Nat → Prop} {B k n : Nat} {T : TypeId} {v : Value} {xs : List Value} {w W : World} (h : w.ownsRow B T k v n xs) (hf : Fr E w W) (hE : ∀ g, v.ownBlock = some g → ¬ E g) : W.ownsRow B T k v n xs := by
  refine ⟨h.1, ?_⟩
  rcases h.2 with h2 | ⟨g, cap, cur, e1, e2, e3, e4⟩
  · exact .inl h2
  · refine .inr ⟨g, cap, cur, e1, e2, (hf.block g (Array.getElem?_eq_some_iff.1 e3).1 (hE g (by rw [e1]; rfl))).trans e3, e4⟩
theorem IsR.kept {F G E : Nat → Prop} {r : Nat} {A : List (List ItT)} {kl vl fl : Int} {Ns : List Key} {Cs : List (List Ver)} {w W : World} (h : IsR F G r A kl vl fl Ns Cs w) (hf : Fr E w W) (hE : ∀ k, G k → ¬ E k) : IsR F G r A kl vl fl Ns Cs W := by
  obtain ⟨⟨vA, vN, vC, cs, h1, h2, h3, h4, h5, h6, h7, h8⟩, h9, h10⟩ := h
  exact ⟨⟨vA, vN, vC, cs, (hf.block r (Array.getElem?_eq_some_iff.1 h1).1 (hE r h9.1)).trans h1, h2.fr hf (fun k hk => hE k (h10 k hk)), row_fr h3 hf (fun g e => hE g (h4 g e).1), h4, row_fr h5 hf (fun g e => hE g (h6 g e).1), h6, h7, fun i hi hj => (h8 i hi hj).fr hf (fun k hk => hE k (h10 k hk))⟩, h9, h10⟩
theorem IsR.go {F G : Nat → Prop} {r : Nat} {A : List (List ItT)} {kl vl fl : Int} {Ns : List Key} {Cs : List (List Ver)} {w W : World} (h : IsR F G r A kl vl fl Ns Cs w) (hb : Below w.heap.size w W) : IsR F G r A kl vl fl Ns Cs W := h.kept (E := fun _ => False) (Fr.below hb) (fun _ _ e => e)
theorem cells6 {w : World} {g : Nat} {a0 a1 a2 a3 a4 a5 : Value} {t : TypeId} (h : w.heap[g]? = some (.cells #[a0, a1, a2, a3, a4, a5] t (0, 0))) : w.cell? ⟨g, 0, none⟩ = some a0 ∧ w.cell? ⟨g, 1, none⟩ = some a1 ∧ w.cell? ⟨g, 2, none⟩ = some a2 ∧ w.cell? ⟨g, 3, none⟩ = some a3 ∧ w.cell? ⟨g, 4, none⟩ = some a4 ∧ w.cell? ⟨g, 5, none⟩ = some a5 :=
  ⟨cell_of_row _ _ 0 _ _ _ h, cell_of_row _ _ 1 _ _ _ h, cell_of_row _ _ 2 _ _ _ h, cell_of_row _ _ 3 _ _ _ h, cell_of_row _ _ 4 _ _ _ h, cell_of_row _ _ 5 _ _ _ h⟩
def revA (A : List (List ItT)) : Int := (A.length : Int) - 1
set_option maxRecDepth 100000 in
set_option maxHeartbeats 1000000 in
theorem Rev_r {F G : Nat → Prop} {r : Nat} {A : List (List ItT)} {kl vl fl : Int} {Ns : List Key} {Cs : List (List Ver)} {w : World} (h : IsR F G r A kl vl fl Ns Cs w) (hA : A.length ≤ 100000) : Calls Try.prog 10 #[.pointer (some ⟨r, 0, none⟩)] w fun e w' => e = .returned (.int .i64 (revA A)) ∧ w' = w := by
  obtain ⟨⟨vA, vN, vC, cs, h1, ⟨g, cap, rfl, hc, h0, _⟩, _⟩, _⟩ := h
  obtain ⟨c0, c1, c2, c3, c4, c5⟩ := cells6 h1
  unfold revA
  obtain ⟨n, hn⟩ : ∃ n, n = A.length := ⟨_, rfl⟩
  rw [← hn] at c0 hA h0 ⊢
  have hq : IntKind.i64.wrap ((n : Int) - 1) = (n : Int) - 1 := by rw [IntKind.wrap_i64]; omega
  clear hn h1 hc
  go_enter Try.func10, Try.ntmps10
  go_wp2
  go_ret
  exact ⟨rfl, rfl⟩
set_option maxRecDepth 100000 in
set_option maxHeartbeats 1000000 in
theorem Asked_c {F G : Nat → Prop} {r : Nat} {A : List (List ItT)} {kl vl fl : Int} {Ns : List Key} {Cs : List (List Ver)} {w : World} (h : IsR F G r A kl vl fl Ns Cs w) (hA : A.length ≤ 100000) (q : Int) : Calls Try.prog 41 #[.pointer (some ⟨r, 0, none⟩), .int .i64 q] w fun e w' => e = .returned (.int .i64 (refE (revA A) fl q)) ∧ w' = w := by
  have HR := Lib.hid (Rev_r h hA)
  obtain ⟨⟨vA, vN, vC, cs, h1, _⟩, _⟩ := h
  obtain ⟨c0, c1, c2, c3, c4, c5⟩ := cells6 h1
  clear h1
  generalize revA A = m at *
  unfold refE
  by_cases d0 : q < 0
  · rw [if_pos (.inl d0)]
    go_enter Try.func41, Try.ntmps41
    go_wp2_with (go_at_call 10; (with_reducible refine HR.out.mono ?_); rintro e w1 ⟨rfl, hw1⟩; subst w1)
    go_ret
    exact ⟨rfl, rfl⟩
  · by_cases d1 : m < q
    · have d1' : q > m := d1
      rw [if_pos (.inr d1)]
      go_enter Try.func41, Try.ntmps41
      go_wp2_with (go_at_call 10; (with_reducible refine HR.out.mono ?_); rintro e w1 ⟨rfl, hw1⟩; subst w1)
      go_ret
      exact ⟨rfl, rfl⟩
    · have d1' : ¬ q > m := d1
      rw [if_neg (by omega)]
      by_cases d2 : q < fl
      · rw [if_pos d2]
        go_enter Try.func41, Try.ntmps41
        go_wp2_with (go_at_call 10; (with_reducible refine HR.out.mono ?_); rintro e w1 ⟨rfl, hw1⟩; subst w1)
        go_ret
        exact ⟨rfl, rfl⟩
      · rw [if_neg d2]
        go_enter Try.func41, Try.ntmps41
        go_wp2_with (go_at_call 10; (with_reducible refine HR.out.mono ?_); rintro e w1 ⟨rfl, hw1⟩; subst w1)
        go_ret
        exact ⟨rfl, rfl⟩
theorem own1_at {B n : Nat} {T : TypeId} {v : Value} {xs : List Value} {W : World} (h : W.ownsRow B T 1 v n xs) (hl : xs.length = n) (h0 : 0 < n) : ∃ g cap, v = .slice (some ⟨g, 0, none⟩) n cap ∧ n ≤ cap ∧ cap ≤ maxLen ∧ B ≤ g ∧ g < W.heap.size ∧ ∀ i (hi : i < xs.length), W.cell? ⟨g, i, none⟩ = some xs[i] := by
  rcases h.2 with ⟨_, h⟩ | ⟨g, cap, cur, hv, hB, hgh, hn, hm, hz, htk⟩
  · omega
  · refine ⟨g, cap, hv, hn, hm, hB, (Array.getElem?_eq_some_iff.1 hgh).1, fun i hi => ?_⟩
    rw [cell_of_row _ _ _ _ _ _ hgh]
    have e1 : cur[i]? = xs[i]? := by
      rw [← htk, List.getElem?_take_of_lt (by omega), Array.getElem?_toList]
    rw [e1, List.getElem?_eq_getElem hi]
theorem own1_eq {B n g cap : Nat} {T : TypeId} {ao : Option Addr} {xs : List Value} {W : World} (h : W.ownsRow B T 1 (.slice ao n cap) n xs) (hl : xs.length = n) (h0 : 0 < n) : ∃ g, ao = some ⟨g, 0, none⟩ ∧ n ≤ cap ∧ B ≤ g ∧ g < W.heap.size ∧ ∀ i (hi : i < xs.length), W.cell? ⟨g, i, none⟩ = some xs[i] := by
  obtain ⟨g, cp, e, h1, _, h2, h3, h4⟩ := own1_at h hl h0
  injection e with e1 e2 e3
  subst e1 e3
  exact ⟨g, rfl, h1, h2, h3, h4⟩
/-- how many versions are kept -/
def sumC (Cs : List (List Ver)) : Nat := (Cs.map List.length).sum
theorem sumC_snoc {Cs : List (List Ver)} {j : Nat} (hj : j < Cs.length) : sumC (Cs.take (j + 1)) = sumC (Cs.take j) + Cs[j].length := by
  unfold sumC
  rw [List.take_succ_eq_append_getElem hj, List.map_append, List.sum_append]; simp
set_option maxRecDepth 100000 in
set_option maxHeartbeats 1000000 in
theorem Count_c {F G : Nat → Prop} {r : Nat} {A : List (List ItT)} {kl vl fl : Int} {Ns : List Key} {Cs : List (List Ver)} {w : World} (h : IsR F G r A kl vl fl Ns Cs w) (hC : Cs.length ≤ 100000) (hL : ∀ c ∈ Cs, c.length ≤ 100000) : Calls Try.prog 13 #[.pointer (some ⟨r, 0, none⟩)] w fun e w' => e = .returned (.int .i64 (sumC Cs : Nat)) ∧ w' = w := by
  obtain ⟨⟨vA, vN, vC, cs, h1, _, _, _, h5, _, h7, h8⟩, _⟩ := h
  obtain ⟨c0, c1, c2, c3, c4, c5⟩ := cells6 h1
  have H8 := Lib.hid h8
  have H5 := Lib.hid h5
  have HL := Lib.hid hL
  have HS : Hid (∀ j, j ≤ Cs.length → sumC (Cs.take j) ≤ 100000 * j) := fun j hj => by
    induction j with
    | zero => simp [sumC]
    | succ j ih =>
      rw [sumC_snoc (by omega)]
      have := ih (by omega)
      have := HL.out _ (List.getElem_mem (show j < Cs.length by omega))
      omega
  obtain ⟨ao, cap, rfl⟩ := own_form h5
  obtain ⟨n, hn⟩ : ∃ n, n = Cs.length := ⟨_, rfl⟩
  have HN : Hid (Cs.length = n) := hn.symm
  have HCN : Hid (cs.length = n) := by show _ = _; omega
  rw [← hn] at c5 hC H5
  clear h1 h5 h7 h8 hL hn
  go_enter Try.func13, Try.ntmps13
  go_wp2
  clear c0 c1 c2 c3 c4 c5
  go_loopw [11, 3] (fun iv sv wr => ∃ j : Nat, j ≤ n ∧ iv = .int .i64 (j : Int) ∧ sv = .int .i64 (sumC (Cs.take j) : Nat) ∧ Hid (wr = w)) (fun iv _ _ => n - (intOf iv).toNat)
  case atStart => exact ⟨0, by omega, rfl, rfl, Lib.hid rfl⟩
  case round =>
    obtain ⟨j, hj, rfl, rfl, HW⟩ := hrel
    obtain rfl := HW.out
    by_cases hlt : j < n
    · have hjC : j < Cs.length := by rw [HN.out]; exact hlt
      have hjc : j < cs.length := by rw [HCN.out]; exact hlt
      obtain ⟨g, rfl, _, _, hg, hat⟩ := own1_eq (g := 0) H5.out HCN.out (by omega)
      have a0 := hat j hjc
      obtain ⟨ao', cap', e, -⟩ := H8.out j hjC hjc
      rw [e] at a0
      have hj0 : (0 : Int) ≤ (j : Int) := by omega
      have hjl : (j : Int) < (n : Int) := by omega
      have HSN := Lib.hid (sumC_snoc hjC)
      have hs1 := HS.out j (by omega)
      have hl1 := HL.out _ (List.getElem_mem hjC)
      generalize sumC (Cs.take j) = s at HSN hs1 ⊢
      generalize Cs[j].length = m at a0 HSN hl1
      have hq : IntKind.i64.wrap ((s : Int) + (m : Int)) = (s : Int) + (m : Int) := by rw [IntKind.wrap_i64]; omega
      clear hat e hjC hjc
      go_wp2
      go_roundw
      case rel => exact ⟨j + 1, by omega, by go_num, by rw [HSN.out]; simp, Lib.hid trivial⟩
      case measure => simp [intOf]; omega
    · have hjl : ¬ (j : Int) < (n : Int) := by omega
      have hjn : j = n := by omega
      have htk : Cs.take j = Cs := by rw [hjn, ← HN.out]; exact List.take_of_length_le (Nat.le_refl _)
      rw [htk]
      go_wp2
      go_ret
      exact ⟨rfl, rfl⟩
/-- what Get answers -/
def getD' (A : List (List ItT)) (fl : Int) (key : ByteArray) (q : Int) : ItT × Int :=
  if refE (revA A) fl q ≠ 0 then (zeroI, refE (revA A) fl q) else if (fndV (A.getD q.toNat []) key).2 = true then ((fndV (A.getD q.toNat []) key).1, 0) else (zeroI, 6)
set_option maxRecDepth 100000 in
set_option maxHeartbeats 2000000 in
theorem GetR_c {F G : Nat → Prop} {r : Nat} {A : List (List ItT)} {kl vl fl : Int} {Ns : List Key} {Cs : List (List Ver)} {w : World} (h : IsR F G r A kl vl fl Ns Cs w) (hA : A.length ≤ 100000) (hAl : ∀ x ∈ A, x.length ≤ 1000000) (key : ByteArray) (q : Int) :
    Calls Try.prog 26 #[.pointer (some ⟨r, 0, none⟩), .string key, .int .i64 q] w fun e w' => e = .returned (.tuple #[aggI (getD' A fl key q).1, .int .i64 (getD' A fl key q).2]) ∧ Below w.heap.size w w' := by
  unfold getD'
  obtain ⟨W0, hW0, hk0, hb0⟩ := Cn.new3 w (.string ⟨#[]⟩) (.string ⟨#[]⟩) (.int .i64 0) 66
  have hz0 : w.heap.size < W0.heap.size := (Array.getElem?_eq_some_iff.1 hk0).1
  have H0 := Lib.hid (h.go hb0)
  have HW0 := Lib.hid hW0
  have HB0 := Lib.hid hb0
  have HK0 := Lib.hid hk0
  have HR := Lib.hid (Asked_c H0.out hA q)
  by_cases hr : refE (revA A) fl q ≠ 0
  · rw [if_pos hr]
    have hrz : (refE (revA A) fl q == 0) = false := by simpa using hr
    generalize refE (revA A) fl q = z at *
    obtain ⟨y0, y1, y2⟩ := Cn.cells3 HK0.out
    have z0 := frz HK0.out 0
    have z1 := frz HK0.out 1
    have z2 := frz HK0.out 2
    have HH := Lib.hid (st3 HK0.out (.string ⟨#[]⟩) (.string ⟨#[]⟩) (.int .i64 0))
    have HBF := Lib.hid (HB0.out.trans (bel_set3 (B := w.heap.size) (r := w.heap.size) W0 (Nat.le_refl _) (.string ⟨#[]⟩) (.string ⟨#[]⟩) (.int .i64 0)))
    clear hW0 hk0 hb0 h hr
    unfold zeroI aggI
    go_enter Try.func26, Try.ntmps26
    go_upto_region 1 with (fail)
    rw [← HW0.out]
    go_wp2_with (go_at_call 41; (with_reducible refine HR.out.mono ?_); rintro e w1 ⟨rfl, hw1⟩; subst w1)
    clear y0 y1 y2 z0 z1 z2
    obtain ⟨d0, d1, d2⟩ := Cn.cells3 HH.out
    exact bodyPost_ret (v := .tuple #[.agg #[.string ⟨#[]⟩, .string ⟨#[]⟩, .int .i64 0], .int .i64 z]) (by simp [results, Try.results26, go_sem, d0, d1, d2]) rfl ⟨rfl, HBF.out⟩
  · rw [if_neg hr]
    have hr : refE (revA A) fl q = 0 := Classical.byContradiction hr
    rw [hr] at HR
    have hq0 : 0 ≤ q ∧ q ≤ revA A := by unfold refE at hr; split at hr <;> omega
    unfold revA at hq0
    have hqn : q.toNat < A.length := by omega
    obtain ⟨⟨vA, vN, vC, cs, h1, ⟨g, cap, rfl, hc, h00, _, hg, hat⟩, _⟩, _⟩ := H0.out
    obtain ⟨c0, c1, c2, c3, c4, c5⟩ := cells6 h1
    obtain ⟨vi, a0, hvi⟩ := hat q.toNat hqn
    have hvi2 := hvi
    obtain ⟨ao, cap', hve, -⟩ := hvi
    rw [hve] at a0 hvi2
    have HF := Lib.hid (find_c F ao cap' A[q.toNat] key W0 hvi2 (hAl _ (List.getElem_mem hqn)))
    rw [show A.getD q.toNat [] = A[q.toNat] by rw [List.getD_eq_getElem?_getD, List.getElem?_eq_getElem hqn]; rfl]
    generalize A[q.toNat] = L at a0 HF ⊢
    obtain ⟨k, hk⟩ : ∃ k : Nat, k = q.toNat := ⟨_, rfl⟩
    rw [← hk] at a0
    obtain rfl : q = (k : Int) := by omega
    obtain ⟨n, hn⟩ : ∃ n, n = A.length := ⟨_, rfl⟩
    rw [← hn] at c0
    have hkn : (k : Int) < (n : Int) := by omega
    have hk0' : (0 : Int) ≤ (k : Int) := by omega
    clear hW0 hk0 hb0 h hr hq0 hqn hat hvi2 hve hk hn h1 hc h00 hAl
    unfold aggI at HF
    obtain ⟨⟨x0, x1, x2⟩, hx⟩ : ∃ x, (fndV L key).1 = x := ⟨_, rfl⟩
    rw [hx] at HF ⊢
    dsimp only at HF
    cases hb : (fndV L key).2 with
    | true =>
      rw [hb] at HF
      rw [if_pos rfl]
      clear hb hx
      show Calls _ _ _ w fun e w' => e = .returned (.tuple #[.agg #[.string x0, .string x1, .int .i64 x2], .int .i64 0]) ∧ Below w.heap.size w w'
      go_enter Try.func26, Try.ntmps26
      go_upto_region 1 with (fail)
      rw [← HW0.out]
      go_upto_region 4 with (go_at_call 41; (with_reducible refine HR.out.mono ?_); rintro e w1 ⟨rfl, hw1⟩; subst w1)
      go_upto_region 5 with (go_at_call 32; (with_reducible refine HF.out.mono ?_); rintro e w2 ⟨rfl, hb2⟩; have HB2 := Lib.hid hb2; clear hb2)
      clear c0 c1 c2 c3 c4 c5 a0
      obtain ⟨W3, hW3, hk3, hb3⟩ := Cn.new3 w2 (.string x0) (.string x1) (.int .i64 x2) 66
      have HW3 := Lib.hid hW3
      have HK3 : Hid (W3.heap[w.heap.size]? = some (.cells #[.string ⟨#[]⟩, .string ⟨#[]⟩, .int .i64 0] 66 (0, 0))) := (hb3.block _ (by have := HB2.out.size; omega)).trans ((HB2.out.block _ hz0).trans HK0.out)
      have HB3 : Hid (Below w.heap.size w W3) := btr HB0.out (btr HB2.out hb3)
      obtain ⟨x0', x1', x2'⟩ := Cn.cells3 hk3
      obtain ⟨y0, y1, y2⟩ := Cn.cells3 HK3.out
      have z0 := frz HK3.out 0
      have z1 := frz HK3.out 1
      have z2 := frz HK3.out 2
      have HH := Lib.hid (st3 HK3.out (.string x0) (.string x1) (.int .i64 x2))
      have HBF := Lib.hid (HB3.out.trans (bel_set3 (B := w.heap.size) (r := w.heap.size) W3 (Nat.le_refl _) (.string x0) (.string x1) (.int .i64 x2)))
      clear hW3 hk3 hb3
      rw [← HW3.out]
      go_wp2
      obtain ⟨d0, d1, d2⟩ := Cn.cells3 HH.out
      clear y0 y1 y2 z0 z1 z2 x0' x1' x2'
      (with_reducible refine bodyPost_ret (v := .tuple #[.agg #[.string x0, .string x1, .int .i64 x2], .int .i64 0]) (by simp [results, Try.results26, go_sem, d0, d1, d2]) rfl ⟨rfl, HBF.out⟩)
    | false =>
      rw [hb] at HF
      rw [if_neg (by decide)]
      clear hb hx
      show Calls _ _ _ w fun e w' => e = .returned (.tuple #[.agg #[.string ⟨#[]⟩, .string ⟨#[]⟩, .int .i64 0], .int .i64 6]) ∧ Below w.heap.size w w'
      go_enter Try.func26, Try.ntmps26
      go_upto_region 1 with (fail)
      rw [← HW0.out]
      go_upto_region 4 with (go_at_call 41; (with_reducible refine HR.out.mono ?_); rintro e w1 ⟨rfl, hw1⟩; subst w1)
      go_upto_region 5 with (go_at_call 32; (with_reducible refine HF.out.mono ?_); rintro e w2 ⟨rfl, hb2⟩; have HB2 := Lib.hid hb2; clear hb2)
      clear c0 c1 c2 c3 c4 c5 a0
      obtain ⟨W3, hW3, hk3, hb3⟩ := Cn.new3 w2 (.string x0) (.string x1) (.int .i64 x2) 66
      have HW3 := Lib.hid hW3
      have HK3 : Hid (W3.heap[w.heap.size]? = some (.cells #[.string ⟨#[]⟩, .string ⟨#[]⟩, .int .i64 0] 66 (0, 0))) := (hb3.block _ (by have := HB2.out.size; omega)).trans ((HB2.out.block _ hz0).trans HK0.out)
      have HB3 : Hid (Below w.heap.size w W3) := btr HB0.out (btr HB2.out hb3)
      obtain ⟨y0, y1, y2⟩ := Cn.cells3 HK3.out
      have z0 := frz HK3.out 0
      have z1 := frz HK3.out 1
      have z2 := frz HK3.out 2
      have HH := Lib.hid (st3 HK3.out (.string ⟨#[]⟩) (.string ⟨#[]⟩) (.int .i64 0))
      have HBF := Lib.hid (HB3.out.trans (bel_set3 (B := w.heap.size) (r := w.heap.size) W3 (Nat.le_refl _) (.string ⟨#[]⟩) (.string ⟨#[]⟩) (.int .i64 0)))
      clear hW3 hk3 hb3
      rw [← HW3.out]
      go_wp2
      obtain ⟨d0, d1, d2⟩ := Cn.cells3 HH.out
      clear y0 y1 y2 z0 z1 z2
      (with_reducible refine bodyPost_ret (v := .tuple #[.agg #[.string ⟨#[]⟩, .string ⟨#[]⟩, .int .i64 0], .int .i64 6]) (by simp [results, Try.results26, go_sem, d0, d1, d2]) rfl ⟨rfl, HBF.out⟩)
end Go.Proofs.Ytjceofkcahfhmaa.Mv
namespace Go.Proofs.Ytjceofkcahfhmaa.Mv
open Go.RowKit Go.Lib Go.Maps Go.Shelf Go.Sort
open Go.Proofs.Ytjceofkcahfhmaa.Cn
set_option linter.unusedSimpArgs false
set_option linter.unusedVariables false

def inB (p a x : ByteArray) : Bool := pfx p.data.toList x.data.toList && (a.toList.isEmpty || gtB x a)
/-- what the document's Range gathers -/
def rgD (p a : ByteArray) (n : Int) : List ItT → List ItT → List ItT × Bool
  | [], acc => (acc, false)
  | x :: xs, acc => if inB p a x.1 = false then rgD p a n xs acc else if n ≤ acc.length then (acc, true) else rgD p a n xs (acc ++ [x])
def rgW (A : List (List ItT)) (fl : Int) (p a : ByteArray) (n q : Int) : List ItT × Bool × Int :=
  if refE (revA A) fl q ≠ 0 then ([], false, refE (revA A) fl q) else ((rgD p a n (A.getD q.toNat []) []).1, (rgD p a n (A.getD q.toNat []) []).2, 0)
set_option maxRecDepth 100000 in
set_option maxHeartbeats 8000000 in
theorem rr_ok {F G : Nat → Prop} {r : Nat} {A : List (List ItT)} {kl vl fl : Int} {Ns : List Key} {Cs : List (List Ver)} {w : World} (h : IsR F G r A kl vl fl Ns Cs w) (hA : A.length ≤ 100000) (L : List ItT) (p a : ByteArray) (m : Int) (k : Nat) (hr : refE (revA A) fl k = 0) (hL : A[k]? = some L) (hl : L.length ≤ 100000) (hz : ∀ x ∈ L, x.1.size ≤ maxLen) :
    Calls Try.prog 27 #[.pointer (some ⟨r, 0, none⟩), .string p, .string a, .int .i64 m, .int .i64 (k : Int)] w fun e w' => ∃ v, e = .returned (.tuple #[v, .bool (rgD p a m L []).2, .int .i64 0]) ∧ OwJ w.heap.size v (rgD p a m L []).1 w' ∧ Below w.heap.size w w' := by
  have HR := Lib.hid (Asked_c h hA (k : Int))
  rw [hr] at HR
  obtain ⟨i0, hi, hz0, hz1, hz2⟩ := info_parts infoJ
  have hkA : k < A.length := (List.getElem?_eq_some_iff.1 hL).1
  have hLk : A[k] = L := (List.getElem?_eq_some_iff.1 hL).2
  obtain ⟨⟨vA, vN, vC, cs, h1, ⟨g, cap, rfl, hc, h00, _, hg, hat⟩, _⟩, _⟩ := h
  obtain ⟨c0, c1, c2, c3, c4, c5⟩ := cells6 h1
  obtain ⟨vi, a0, hvi⟩ := hat k hkA
  rw [hLk] at hvi
  have hvi2 := hvi
  obtain ⟨ao, cap', hve, -⟩ := hvi
  rw [hve] at a0 hvi2
  have HV := Lib.hid hvi2
  have HZ := Lib.hid hz
  obtain ⟨n, hn⟩ : ∃ n, n = A.length := ⟨_, rfl⟩
  rw [← hn] at c0
  have hkn : (k : Int) < (n : Int) := by omega
  have hk0 : (0 : Int) ≤ (k : Int) := by omega
  obtain ⟨t, ht⟩ : ∃ t, t = L.length := ⟨_, rfl⟩
  have HT : Hid (L.length = t) := ht.symm
  rw [← ht] at a0 HV hl
  clear hr hL hLk hat hvi2 hve hn h1 hc h00 hkA hz ht
  go_enter Try.func27, Try.ntmps27
  go_upto_region 6 with (go_at_call 41; (with_reducible refine HR.out.mono ?_); rintro e w1 ⟨rfl, hw1⟩; subst w1)
  clear c0 c1 c2 c3 c4 c5 a0
  go_loopw [32, 14] (fun iv ov wr => ∃ (j : Nat) (xs : List ItT), j ≤ t ∧ iv = .int .i64 (j : Int) ∧ xs.length ≤ j ∧ Hid (wr.ownsRow w.heap.size 66 3 ov xs.length (iC xs)) ∧ Hid (rgD p a m L [] = rgD p a m (L.drop j) xs) ∧ Hid (Below w.heap.size w wr)) (fun iv _ _ => t - (intOf iv).toNat)
  case atStart => exact ⟨0, [], by omega, rfl, Nat.zero_le _, Lib.hid (World.ownsRow_nil _ _ _ _), Lib.hid rfl, Lib.hid (Below.refl _ _)⟩
  case round =>
    obtain ⟨j, xs, hj, rfl, hxl, HO, HX, HB⟩ := hrel
    obtain ⟨aot, capt, htv⟩ := own_form HO.out
    subst htv
    have hrz : w.heap.size ≤ wr.heap.size := HB.out.size
    by_cases hlt : j < t
    · have hjL : j < L.length := by rw [HT.out]; exact hlt
      obtain ⟨g2, rfl, _, hg2, hat⟩ := rdi_at (HV.out.go HB.out) (by omega)
      obtain ⟨a0, a1, a2⟩ := hat j hjL
      have hj0 : (0 : Int) ≤ (j : Int) := by omega
      have hjl : (j : Int) < (t : Int) := by omega
      have hxz := HZ.out _ (List.getElem_mem hjL)
      have HFD : Hid (rgD p a m (L.drop j) xs = if inB p a L[j].1 = false then rgD p a m (L.drop (j + 1)) xs else if m ≤ xs.length then (xs, true) else rgD p a m (L.drop (j + 1)) (xs ++ [L[j]])) := by
        show _ = _
        rw [List.drop_eq_getElem_cons hjL]; rfl
      obtain ⟨⟨x0, x1, x2⟩, hx⟩ : ∃ x : ItT, L[j] = x := ⟨_, rfl⟩
      rw [hx] at a0 a1 a2 HFD hxz
      dsimp only at a0 a1 a2 HFD hxz
      obtain ⟨W1, hW1, hk1, hb1⟩ := Cn.new3 wr (.string x0) (.string x1) (.int .i64 x2) 66
      have HW1 := Lib.hid hW1
      have HB1 := Lib.hid (HB.out.trans (hb1.mono HB.out.size))
      have HO1 := Lib.hid (own_go HO.out hb1)
      obtain ⟨d0, d1, d2⟩ := Cn.cells3 hk1
      have h0p : (0 : Int) ≤ (p.size : Int) := by omega
      clear hat hx hjL hW1 hk1 hb1
      by_cases hps : p.size ≤ x0.size
      case neg =>
        have hin : inB p a x0 = false := by unfold inB; rw [pfx_no p x0 hps]; rfl
        have hps' : ¬ (x0.size : Int) ≥ (p.size : Int) := by omega
        rw [hin, if_pos rfl] at HFD
        clear hin
        go_upto_region 8 with (fail)
        rw [← HW1.out]
        go_wp2
        go_roundw
        case rel => exact ⟨j + 1, xs, by omega, by go_num, by omega, HO1, Lib.hid (HX.out.trans HFD.out), HB1⟩
        case measure => simp [intOf]; omega
      case pos =>
        have hps' : (x0.size : Int) ≥ (p.size : Int) := by omega
        have hps2 : (p.size : Int) ≤ (x0.size : Int) := by omega
        have hpo := pfx_of p x0 hps
        cases hpf : ((x0.extract 0 p.size).toList == p.toList) with
        | false =>
          have hin : inB p a x0 = false := by unfold inB; rw [← hpo, hpf]; rfl
          clear hpo
          rw [hin, if_pos rfl] at HFD
          clear hin
          go_upto_region 8 with (fail)
          rw [← HW1.out]
          go_wp2
          go_roundw
          case rel => exact ⟨j + 1, xs, by omega, by go_num, by omega, HO1, Lib.hid (HX.out.trans HFD.out), HB1⟩
          case measure => simp [intOf]; omega
        | true =>
          rw [hpf] at hpo
          cases hae : a.toList.isEmpty with
          | true =>
            have hin : inB p a x0 = true := by unfold inB; rw [← hpo, hae]; rfl
            clear hpo
            rw [hin, if_neg (by decide)] at HFD
            clear hin
            by_cases hmx : m ≤ (xs.length : Int)
            · rw [if_pos hmx] at HFD
              have hmx' : (xs.length : Int) ≥ m := hmx
              go_upto_region 8 with (fail)
              rw [← HW1.out]
              go_wp2
              refine bodyPost_ret (v := .tuple #[.slice aot xs.length capt, .bool true, .int .i64 0]) (by simp [results, Try.results27, go_sem]) rfl ?_
              refine ⟨_, by rw [HX.out, HFD.out], ?_, HB1.out⟩
              rw [HX.out, HFD.out]
              exact HO1.out
            · rw [if_neg hmx] at HFD
              have hmx' : ¬ (xs.length : Int) ≥ m := hmx
              go_upto_region 8 with (fail)
              rw [← HW1.out]
              go_upto_region 12 with (fail)
              obtain ⟨WBb, hWBb, hkBb, hbBb⟩ := Cn.new3 W1 (.string x0) (.string x1) (.int .i64 x2) 66
              have HWBb := Lib.hid hWBb
              have HOBb := Lib.hid (own_go HO1.out hbBb)
              have HBBb := Lib.hid (HB1.out.trans (hbBb.mono HB1.out.size))
              have HCb : Hid (∀ i u, (encI (x0, x1, x2))[i]? = some u → WBb.cell? ((⟨W1.heap.size, 0, none⟩ : Addr).add i) = some u) := World.news_of_block (cs := #[.string x0, .string x1, .int .i64 x2]) hkBb
              have D3b : Hid (xs.length + 1 ≤ maxLen) := by show _ ≤ _; unfold maxLen; omega
              have D4b : Hid ((xs.length + 1) * 40 ≤ 140737488355328) := by show _ ≤ _; omega
              have D5b : Hid (w.heap.size ≤ WBb.heap.size) := HBBb.out.size
              have DEb := Lib.hid (encI_ok (x0, x1, x2))
              clear hWBb hkBb hbBb
              go_wp2_with (at_builtin; rw [← HWBb.out]; refine wpList_append_own _ rfl _ _ 40 rfl w.heap.size 66 i0 _ 3 40 Try.underlying40 hi hz0 hz1 hz2 rfl (by decide) _ _ _ rfl HOBb.out ⟨W1.heap.size, 0, none⟩ 1 1 (encI (x0, x1, x2)) rfl rfl HCb.out DEb.out D3b.out D4b.out D5b.out ?_)
              intro vb Vb hownb hgrowb _
              have HBVb : Hid (Below w.heap.size w Vb) := HBBb.out.grown hgrowb HBBb.out.size (fun q hq => (HOBb.out.lt q hq).1)
              have HOVb : Hid (Vb.ownsRow w.heap.size 66 3 vb (xs.length + 1) (iC (xs ++ [(x0, x1, x2)]))) := by
                show World.ownsRow _ _ _ _ _ _ _
                rw [iC_snoc]
                exact hownb
              obtain ⟨apb, cqb, hvb⟩ := own_form hownb
              subst hvb
              clear hownb hgrowb
              go_wp2
              go_roundw
              case rel => exact ⟨j + 1, xs ++ [(x0, x1, x2)], by omega, by go_num, by simp; omega, Lib.hid (by rw [show (xs ++ [(x0, x1, x2)]).length = xs.length + 1 by simp]; exact HOVb.out), Lib.hid (HX.out.trans HFD.out), HBVb⟩
              case measure => simp [intOf]; omega
          | false =>
            cases hbl : Op.bytesLess x0.toList a.toList with
            | true =>
              have hin : inB p a x0 = false := by unfold inB gtB; rw [← hpo, hae, hbl]; rfl
              clear hpo
              rw [hin, if_pos rfl] at HFD
              clear hin
              go_upto_region 8 with (fail)
              rw [← HW1.out]
              go_wp2
              go_roundw
              case rel => exact ⟨j + 1, xs, by omega, by go_num, by omega, HO1, Lib.hid (HX.out.trans HFD.out), HB1⟩
              case measure => simp [intOf]; omega
            | false =>
              cases heq : x0.toList == a.toList with
              | true =>
                have hin : inB p a x0 = false := by unfold inB gtB; rw [← hpo, hae, hbl, heq]; rfl
                clear hpo
                rw [hin, if_pos rfl] at HFD
                clear hin
                go_upto_region 8 with (fail)
                rw [← HW1.out]
                go_wp2
                go_roundw
                case rel => exact ⟨j + 1, xs, by omega, by go_num, by omega, HO1, Lib.hid (HX.out.trans HFD.out), HB1⟩
                case measure => simp [intOf]; omega
              | false =>
                have hin : inB p a x0 = true := by unfold inB gtB; rw [← hpo, hae, hbl, heq]; rfl
                clear hpo
                rw [hin, if_neg (by decide)] at HFD
                clear hin
                by_cases hmx : m ≤ (xs.length : Int)
                · rw [if_pos hmx] at HFD
                  have hmx' : (xs.length : Int) ≥ m := hmx
                  go_upto_region 8 with (fail)
                  rw [← HW1.out]
                  go_wp2
                  refine bodyPost_ret (v := .tuple #[.slice aot xs.length capt, .bool true, .int .i64 0]) (by simp [results, Try.results27, go_sem]) rfl ?_
                  refine ⟨_, by rw [HX.out, HFD.out], ?_, HB1.out⟩
                  rw [HX.out, HFD.out]
                  exact HO1.out
                · rw [if_neg hmx] at HFD
                  have hmx' : ¬ (xs.length : Int) ≥ m := hmx
                  go_upto_region 8 with (fail)
                  rw [← HW1.out]
                  go_upto_region 12 with (fail)
                  obtain ⟨WBb, hWBb, hkBb, hbBb⟩ := Cn.new3 W1 (.string x0) (.string x1) (.int .i64 x2) 66
                  have HWBb := Lib.hid hWBb
                  have HOBb := Lib.hid (own_go HO1.out hbBb)
                  have HBBb := Lib.hid (HB1.out.trans (hbBb.mono HB1.out.size))
                  have HCb : Hid (∀ i u, (encI (x0, x1, x2))[i]? = some u → WBb.cell? ((⟨W1.heap.size, 0, none⟩ : Addr).add i) = some u) := World.news_of_block (cs := #[.string x0, .string x1, .int .i64 x2]) hkBb
                  have D3b : Hid (xs.length + 1 ≤ maxLen) := by show _ ≤ _; unfold maxLen; omega
                  have D4b : Hid ((xs.length + 1) * 40 ≤ 140737488355328) := by show _ ≤ _; omega
                  have D5b : Hid (w.heap.size ≤ WBb.heap.size) := HBBb.out.size
                  have DEb := Lib.hid (encI_ok (x0, x1, x2))
                  clear hWBb hkBb hbBb
                  go_wp2_with (at_builtin; rw [← HWBb.out]; refine wpList_append_own _ rfl _ _ 40 rfl w.heap.size 66 i0 _ 3 40 Try.underlying40 hi hz0 hz1 hz2 rfl (by decide) _ _ _ rfl HOBb.out ⟨W1.heap.size, 0, none⟩ 1 1 (encI (x0, x1, x2)) rfl rfl HCb.out DEb.out D3b.out D4b.out D5b.out ?_)
                  intro vb Vb hownb hgrowb _
                  have HBVb : Hid (Below w.heap.size w Vb) := HBBb.out.grown hgrowb HBBb.out.size (fun q hq => (HOBb.out.lt q hq).1)
                  have HOVb : Hid (Vb.ownsRow w.heap.size 66 3 vb (xs.length + 1) (iC (xs ++ [(x0, x1, x2)]))) := by
                    show World.ownsRow _ _ _ _ _ _ _
                    rw [iC_snoc]
                    exact hownb
                  obtain ⟨apb, cqb, hvb⟩ := own_form hownb
                  subst hvb
                  clear hownb hgrowb
                  go_wp2
                  go_roundw
                  case rel => exact ⟨j + 1, xs ++ [(x0, x1, x2)], by omega, by go_num, by simp; omega, Lib.hid (by rw [show (xs ++ [(x0, x1, x2)]).length = xs.length + 1 by simp]; exact HOVb.out), Lib.hid (HX.out.trans HFD.out), HBVb⟩
                  case measure => simp [intOf]; omega
    · have hjl : ¬ (j : Int) < (t : Int) := by omega
      have hd0 : L.drop j = [] := List.drop_of_length_le (by rw [HT.out]; omega)
      have HFI : Hid (rgD p a m L [] = (xs, false)) := by show _ = _; rw [HX.out, hd0]; rfl
      clear hd0
      go_wp2
      refine bodyPost_ret (v := .tuple #[.slice aot xs.length capt, .bool false, .int .i64 0]) (by simp [results, Try.results27, go_sem]) rfl ?_
      refine ⟨_, by rw [HFI.out], ?_, HB.out⟩
      rw [HFI.out]
      exact HO.out
theorem RangeR_c {F G : Nat → Prop} {r : Nat} {A : List (List ItT)} {kl vl fl : Int} {Ns : List Key} {Cs : List (List Ver)} {w : World} (h : IsR F G r A kl vl fl Ns Cs w) (hA : A.length ≤ 100000) (hAl : ∀ L ∈ A, L.length ≤ 100000 ∧ ∀ x ∈ L, x.1.size ≤ maxLen) (p a : ByteArray) (m q : Int) :
    Calls Try.prog 27 #[.pointer (some ⟨r, 0, none⟩), .string p, .string a, .int .i64 m, .int .i64 q] w fun e w' => ∃ v, e = .returned (.tuple #[v, .bool (rgW A fl p a m q).2.1, .int .i64 (rgW A fl p a m q).2.2]) ∧ OwJ w.heap.size v (rgW A fl p a m q).1 w' ∧ Below w.heap.size w w' := by
  unfold rgW
  by_cases hr : refE (revA A) fl q = 0
  · rw [if_neg (by simpa using hr)]
    have hq0 : 0 ≤ q ∧ q ≤ revA A := by unfold refE at hr; split at hr <;> omega
    unfold revA at hq0
    have hqn : q.toNat < A.length := by omega
    obtain ⟨k, rfl⟩ : ∃ k : Nat, q = (k : Int) := ⟨q.toNat, by omega⟩
    have hkn : k < A.length := by omega
    have hg : A.getD (k : Int).toNat [] = A[k] := by rw [List.getD_eq_getElem?_getD, show (k : Int).toNat = k by omega, List.getElem?_eq_getElem hkn]; rfl
    rw [hg]
    exact rr_ok h hA A[k] p a m k hr (List.getElem?_eq_getElem hkn) (hAl _ (List.getElem_mem hkn)).1 (hAl _ (List.getElem_mem hkn)).2
  · rw [if_pos hr]
    have HR := Lib.hid (Asked_c h hA q)
    have hrz : (refE (revA A) fl q == 0) = false := by simpa using hr
    generalize refE (revA A) fl q = z at *
    have HGO : Calls Try.prog 27 #[.pointer (some ⟨r, 0, none⟩), .string p, .string a, .int .i64 m, .int .i64 q] w fun e w' => e = .returned (.tuple #[.slice none 0 0, .bool false, .int .i64 z]) ∧ w' = w := by
      clear h hAl hr
      go_enter Try.func27, Try.ntmps27
      go_wp2_with (go_at_call 41; (with_reducible refine HR.out.mono ?_); rintro e w1 ⟨rfl, hw1⟩; subst w1)
      exact bodyPost_ret (v := .tuple #[.slice none 0 0, .bool false, .int .i64 z]) (by simp [results, Try.results27, go_sem]) rfl ⟨rfl, rfl⟩
    refine HGO.mono ?_
    rintro e w' ⟨rfl, rfl⟩
    exact ⟨_, rfl, World.ownsRow_nil _ _ _ _, Below.refl _ _⟩
end Go.Proofs.Ytjceofkcahfhmaa.Mv
namespace Go.Proofs.Ytjceofkcahfhmaa.Mv
open Go.RowKit Go.Lib Go.Maps Go.Shelf Go.Sort
open Go.Proofs.Ytjceofkcahfhmaa.Cn
set_option linter.unusedSimpArgs false
set_option linter.unusedVariables false

theorem setR_len (c : ChT) (rev : Int) : ∀ (l : List ItT) (s : List ItT × Bool), (setR l c rev s).1.length + (if (setR l c rev s).2 = true then 0 else 1) ≤ s.1.length + (if s.2 = true then 0 else 1) + l.length := by
  intro l
  induction l with
  | nil => intro s; exact Nat.le_refl _
  | cons x l ih =>
    intro s
    have h1 := ih (setS c rev s x)
    have h2 : (setS c rev s x).1.length + (if (setS c rev s x).2 = true then 0 else 1) ≤ s.1.length + (if s.2 = true then 0 else 1) + 1 := by
      unfold setS
      by_cases h : s.2 = false ∧ gtB x.1 c.1 = true
      · rw [if_pos h, h.1]; simp
      · rw [if_neg h]
        split
        · omega
        · simp only [List.length_append, List.length_cons, List.length_nil]; omega
    have e : setR (x :: l) c rev s = setR l c rev (setS c rev s x) := rfl
    rw [e, List.length_cons]
    omega
theorem setL_len (l : List ItT) (c : ChT) (rev : Int) : (setL l c rev).length ≤ l.length + 1 := by
  have h := setR_len c rev l ([], c.2.2)
  unfold setL
  cases hb : (setR l c rev ([], c.2.2)).2 with
  | true =>
    rw [if_pos rfl]
    simp only [List.length_nil] at h
    split at h <;> split at h <;> omega
  | false =>
    rw [hb] at h
    rw [if_neg (by decide), List.length_append]
    simp only [List.length_nil, List.length_cons] at h ⊢
    split at h <;> split at h <;> simp_all <;> omega
def lastA (A : List (List ItT)) : List ItT := A.getD (A.length - 1) []
/-- all items behind changes -/
def nextR (l : List ChT) (rev : Int) (now : List ItT) : List ItT := l.foldl (fun s c => setL s c rev) now
def nextL (A : List (List ItT)) (l : List ChT) : List ItT := nextR l (revA A + 1) (lastA A)
theorem nextR_len (rev : Int) : ∀ (l : List ChT) (now : List ItT), (nextR l rev now).length ≤ now.length + l.length := by
  intro l
  induction l with
  | nil => intro now; exact Nat.le_refl _
  | cons c l ih =>
    intro now
    have h1 := ih (setL now c rev)
    have h2 := setL_len now c rev
    have e : nextR (c :: l) rev now = nextR l rev (setL now c rev) := rfl
    rw [e, List.length_cons]; omega
theorem nextR_snoc {l : List ChT} {rev : Int} {now : List ItT} {j : Nat} (hj : j < l.length) : nextR (l.take (j + 1)) rev now = setL (nextR (l.take j) rev now) l[j] rev := by
  unfold nextR
  rw [List.take_succ_eq_append_getElem hj, List.foldl_append]; rfl
/-- blocks of F's, or new ones -/
def Fx (F : Nat → Prop) (n : Nat) (k : Nat) : Prop := F k ∨ n ≤ k
set_option maxRecDepth 100000 in
set_option maxHeartbeats 8000000 in
theorem next_c {F G : Nat → Prop} {r : Nat} {A : List (List ItT)} {kl vl fl : Int} {Ns : List Key} {Cs : List (List Ver)} {w : World} (h : IsR F G r A kl vl fl Ns Cs w) (hA : A.length ≤ 100000) (hAl : (lastA A).length ≤ 50000) (ac : Option Addr) (cc : Nat) (l : List ChT) (hl : RdC (.slice ac l.length cc) l w) (hm : l.length ≤ 1000) :
    Calls Try.prog 33 #[.pointer (some ⟨r, 0, none⟩), .slice ac l.length cc] w fun e w' => ∃ v, e = .returned v ∧ RdI (Fx F w.heap.size) v (nextL A l) w' ∧ Below w.heap.size w w' := by
  have HRV : Hid (∀ V, Below w.heap.size w V → Calls Try.prog 10 #[.pointer (some ⟨r, 0, none⟩)] V fun e w' => e = .returned (.int .i64 (revA A)) ∧ w' = V) := fun V hV => Rev_r (h.go hV) hA
  obtain ⟨⟨vA, vN, vC, cs, h1, ⟨g, cap, rfl, hc, h00, _, hg, hat⟩, _⟩, _⟩ := h
  have h1' : w.drew.heap[r]? = _ := h1
  obtain ⟨c0, c1, c2, c3, c4, c5⟩ := cells6 h1'
  have hkA : A.length - 1 < A.length := by omega
  obtain ⟨vi, a0, hvi⟩ := hat (A.length - 1) hkA
  have hla : lastA A = A[A.length - 1] := by unfold lastA; rw [List.getD_eq_getElem?_getD, List.getElem?_eq_getElem hkA]; rfl
  rw [← hla] at hvi
  unfold nextL
  have hq2 : IntKind.i64.wrap (revA A + 1) = revA A + 1 := by unfold revA; rw [IntKind.wrap_i64]; omega
  generalize lastA A = L at hvi hAl ⊢
  generalize revA A = m at HRV hq2 ⊢
  obtain ⟨n, hn⟩ : ∃ n, n = A.length := ⟨_, rfl⟩
  rw [← hn] at c0 a0 h00 hA
  have hvi2 := hvi.up (F' := Fx F w.heap.size) (fun k hk _ => .inl hk)
  obtain ⟨ao, cap', hve, -⟩ := hvi
  rw [hve] at a0 hvi2
  have HV := Lib.hid hvi2
  have ad : w.drew.cell? ⟨g, n - 1, none⟩ = some (.slice ao L.length cap') := a0
  have hn1 : (1 : Int) ≤ (n : Int) := by omega
  have hq : IntKind.i64.wrap ((n : Int) - 1) = (n : Int) - 1 := by rw [IntKind.wrap_i64]; omega
  have hqn : (n : Int) - 1 < (n : Int) := by omega
  have hq0 : (0 : Int) ≤ (n : Int) - 1 := by omega
  have hqt : ((n : Int) - 1).toNat = n - 1 := by omega
  have HLL := Lib.hid hl
  obtain ⟨t, ht⟩ : ∃ t, t = l.length := ⟨_, rfl⟩
  have HT : Hid (l.length = t) := ht.symm
  rw [← ht] at HLL hm ⊢
  have HLB : Hid (L.length ≤ 50000) := hAl
  clear hvi2 hve hla hl ht hat h1 h1' hAl a0 hn hkA
  go_enter Try.func33, Try.ntmps33
  go_upto_region 1 with (fail)
  go_region
  all_goals
    clear c0 c1 c2 c3 c4 c5 ad
    go_upto_region 3 with (fail)
    go_loopw [22, 5] (fun iv nv wr => ∃ j : Nat, j ≤ t ∧ iv = .int .i64 (j : Int) ∧ Hid (RdI (Fx F w.heap.size) nv (nextR (l.take j) (m + 1) L) wr) ∧ Hid (Below w.heap.size w wr)) (fun iv _ _ => t - (intOf iv).toNat)
    case atStart => exact ⟨0, by omega, rfl, Lib.hid (HV.out.go (bdr w)), Lib.hid (bdr w)⟩
    case round =>
      obtain ⟨j, hj, rfl, HN, HB⟩ := hrel
      by_cases hlt : j < t
      · have hjL : j < l.length := by rw [HT.out]; exact hlt
        obtain ⟨g2, rfl, hg2, hat⟩ := rdc_at (HLL.out.go HB.out) (by omega)
        obtain ⟨a0, a1, a2⟩ := hat j hjL
        have hj0 : (0 : Int) ≤ (j : Int) := by omega
        have hjl : (j : Int) < (t : Int) := by omega
        have HSN := Lib.hid (nextR_snoc (rev := m + 1) (now := L) hjL)
        have hnl := nextR_len (m + 1) (l.take j) L
        rw [List.length_take] at hnl
        have hnl2 : (nextR (l.take j) (m + 1) L).length ≤ 100000 := by have := HLB.out; omega
        generalize nextR (l.take j) (m + 1) L = T at HN HSN hnl2
        obtain ⟨⟨x0, x1, x2⟩, hx⟩ : ∃ x : ChT, l[j] = x := ⟨_, rfl⟩
        rw [hx] at a0 a1 a2 HSN
        dsimp only at a0 a1 a2
        obtain ⟨W1, hW1, hk1, hb1⟩ := Cn.new3 wr (.string x0) (.string x1) (.bool x2) 81
        have HW1 := Lib.hid hW1
        have HB1 := Lib.hid (HB.out.trans (hb1.mono HB.out.size))
        have hk1' : W1.drew.heap[wr.heap.size]? = _ := hk1
        obtain ⟨d0, d1, d2⟩ := Cn.cells3 hk1'
        have HN1 := HN.out.go (hb1.trans (bdr W1 |>.mono hb1.size))
        obtain ⟨an, cn, hnv, _⟩ := id HN1
        subst hnv
        have HRVd := Lib.hid (HRV.out W1.drew (HB1.out.trans ((bdr W1).mono HB1.out.size)))
        have HST := Lib.hid (set_c (Fx F w.heap.size) an cn T x0 x1 x2 (m + 1) W1.drew HN1 hnl2)
        have hBd := Lib.hid (HB1.out.trans ((bdr W1).mono HB1.out.size))
        clear hat hx hjL hW1 hk1 hk1' hb1 hnl hnl2 HN1
        go_upto_region 5 with (fail)
        rw [← HW1.out]
        go_region_with (first | (go_at_call 10; (with_reducible refine HRVd.out.mono ?_); rintro e w5 ⟨rfl, hw5⟩; subst w5) | (go_at_call 49; (with_reducible refine HST.out.mono ?_); rintro e w6 ⟨v6, rfl, ho6, hb6⟩; have HO6 := Lib.hid ho6; have HB6 := Lib.hid hb6; clear ho6 hb6))
        all_goals
          have hB6 : Below w.heap.size w w6 := hBd.out.trans (HB6.out.mono hBd.out.size)
          have HB6' := Lib.hid hB6
          have HR6 : Hid (RdI (Fx F w.heap.size) v6 (nextR (l.take (j + 1)) (m + 1) L) w6) := by
            rw [HSN.out]
            exact HO6.out.rd (fun k hk _ => .inr (Nat.le_trans hBd.out.size hk))
          clear hB6
          go_wp2
          go_roundw
          case rel => exact ⟨j + 1, by omega, by go_num, HR6, HB6'⟩
          case measure => simp [intOf]; omega
      · have hjl : ¬ (j : Int) < (t : Int) := by omega
        have hjn : j = t := by omega
        have htk : l.take j = l := by rw [hjn, ← HT.out]; exact List.take_of_length_le (Nat.le_refl _)
        rw [htk] at HN
        go_wp2
        go_ret
        exact ⟨_, rfl, HN.out, HB.out⟩
end Go.Proofs.Ytjceofkcahfhmaa.Mv
