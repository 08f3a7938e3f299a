/- Contracts and plain mathematics of some packages' functions, laid together; conditions as each one says. -/
import Derived.Test.YtkphainopofejaaDoorJvMk
namespace Go.Proofs.YtkphainopofejaaDoor.Jv
open Jt
open Go.RowKit Go.ChangeMaps Go.MapKept Go.WideMaps
set_option linter.unusedSimpArgs false
set_option linter.unusedVariables false

abbrev obR (k : Int) (b : Bool) (n : Int) (tx : ByteArray) (ao : Option Addr) (l1 q1 : Nat) (ap : Option Addr) (l2 q2 : Nat) : Obj := .cells #[.int .i64 k, .bool b, .int .i64 n, .string tx, .slice ao l1 q1, .slice ap l2 q2] 36
theorem infoR : (Tryd.prog.info? 36).map (fun i => (i.zero, i.size, i.bytes)) = some (some (.agg #[.int .i64 0, .bool false, .int .i64 0, .string ⟨#[]⟩, .slice none 0 0, .slice none 0 0]), 6, 88) := by kernel_rfl
theorem one_r (w : World) (xk : Int) (xb : Bool) (xn : Int) (xt : ByteArray) (xo : Option Addr) (xl xq : Nat) (yo : Option Addr) (yl yq : Nat) : ∃ W, W = w.alloc (obR xk xb xn xt xo xl xq yo yl yq) ∧ W.heap[w.heap.size]? = some (obR xk xb xn xt xo xl xq yo yl yq) ∧ Below w.heap.size w W := ⟨_, rfl, heap_alloc_new w _, (Below.refl _ _).alloc (Nat.le_refl _) _⟩
/-- two blocks, one behind the other -/
theorem two_o (w : World) (a b : Array Value) (S T : TypeId) : ∃ W, W = (w.alloc (.cells a S)).alloc (.cells b T) ∧ W.heap[w.heap.size]? = some (.cells a S (0, 0)) ∧ W.heap[w.heap.size + 1]? = some (.cells b T (0, 0)) ∧ Below w.heap.size w W := by
  refine ⟨_, rfl, ?_, ?_, ((Below.refl _ _).alloc (Nat.le_refl _) _).alloc (by simp) _⟩
  · exact (((Below.refl (w.heap.size + 1) (w.alloc (.cells a S))).alloc (by simp) _).block _ (by omega)).trans (heap_alloc_new w _)
  · have := heap_alloc_new (w.alloc (.cells a S)) (.cells b T)
    simpa using this
/-- a row of one's own, and the trees of its values, which lie elsewhere -/
def RW (Q : Nat → Prop) (B : Nat) (T : TypeId) (v : Value) (xs : List JV) (w : World) : Prop := ∃ css, w.ownsRow B T 6 v xs.length (List.flatten css) ∧ RepA (fun k => Q k ∧ v.ownBlock ≠ some k) w xs css
theorem RW.nil (Q : Nat → Prop) (B : Nat) (T : TypeId) (w : World) : RW Q B T (.slice none 0 0) [] w := ⟨[], World.ownsRow_nil _ _ _ _, trivial⟩
theorem RW.go {Q : Nat → Prop} {B : Nat} {T : TypeId} {v : Value} {xs : List JV} {w w' : World} (h : RW Q B T v xs w) (hb : Below w.heap.size w w') : RW Q B T v xs w' := by
  obtain ⟨css, h1, h2⟩ := h
  exact ⟨css, row_keep h1 (Grw.of_below (X := fun j => w.heap.size ≤ j) hb (fun k h _ => h)) (fun j e => ⟨(World.ownsRow.lt h1 j e).2, by have := (World.ownsRow.lt h1 j e).2; omega⟩), h2.keep (Kep.of hb)⟩
theorem RW.form {Q : Nat → Prop} {B : Nat} {T : TypeId} {v : Value} {xs : List JV} {w : World} (h : RW Q B T v xs w) : ∃ ao cap, v = .slice ao xs.length cap := by
  obtain ⟨css, h1, _⟩ := h
  rcases h1.2 with ⟨rfl, h0⟩ | ⟨g, cap, cur, rfl, _⟩
  · exact ⟨none, 0, by rw [h0]⟩
  · exact ⟨_, _, rfl⟩
theorem RW.lt {Q : Nat → Prop} {B : Nat} {T : TypeId} {v : Value} {xs : List JV} {w : World} (h : RW Q B T v xs w) : ∀ j, v.ownBlock = some j → B ≤ j ∧ j < w.heap.size := by
  obtain ⟨css, h1, _⟩ := h
  exact World.ownsRow.lt h1
theorem RW.snoc {Q : Nat → Prop} {B g cap : Nat} {T : TypeId} {v : Value} {xs : List JV} {x : JV} {css : List (List Value)} {cs : List Value} {WB V : World} (h2 : RepA (fun k => Q k ∧ v.ownBlock ≠ some k) WB xs css) (hx : Rep (fun k => Q k ∧ v.ownBlock ≠ some k) WB x cs)
    (hown : V.ownsRow B T 6 (.slice (some ⟨g, 0, none⟩) (xs.length + 1) cap) (xs.length + 1) (List.flatten css ++ cs)) (hgrow : WB.grownBy V v.ownBlock) (hat : v.ownBlock = some g ∨ g = WB.heap.size) : RW Q B T (.slice (some ⟨g, 0, none⟩) (xs.length + 1) cap) (xs ++ [x]) V := by
  have mon : ∀ k, (Q k ∧ v.ownBlock ≠ some k) → k < WB.heap.size → ((Q k ∧ v.ownBlock ≠ some k) ∧ (Value.slice (some ⟨g, 0, none⟩) (xs.length + 1) cap).ownBlock ≠ some k) := fun k hk hl => ⟨hk, fun e => by
    have e : g = k := by injection e
    rcases hat with h | h
    · exact hk.2 (by rw [← e]; exact h)
    · omega⟩
  have kep : Kep (fun k => (Q k ∧ v.ownBlock ≠ some k) ∧ (Value.slice (some ⟨g, 0, none⟩) (xs.length + 1) cap).ownBlock ≠ some k) WB V := ⟨hgrow.size, fun k hk hl => hgrow.block k hl (fun e => hk.1.2 e.symm)⟩
  refine ⟨css ++ [cs], ?_, RepA.mono (fun k hk _ => ⟨hk.1.1, hk.2⟩) (RepA.keep kep (RepA.snoc (hx.mono mon) (h2.mono mon)))⟩
  rw [List.length_append, List.flatten_append]
  simpa using hown
/-- the finished row, as the items of a value -/
theorem RW.list {Q : Nat → Prop} {B : Nat} {T : TypeId} {ao : Option Addr} {n q : Nat} {xs : List JV} {w : World} (h : RW Q B T (.slice ao n q) xs w) : n = xs.length ∧ (xs ≠ [] → ∃ g off, ao = some ⟨g, off, none⟩ ∧ (Q g ∨ B ≤ g) ∧ g < w.heap.size ∧ RepL (fun k => Q k ∨ B ≤ k) w xs g off) := by
  obtain ⟨css, h1, h2⟩ := h
  rcases h1.2 with ⟨e, h0⟩ | ⟨g, cap, cur, e, e2, e3, e4, e5, e6, e7⟩
  · injection e with e1 e2 e3
    exact ⟨by omega, fun hne => absurd (List.eq_nil_of_length_eq_zero h0) hne⟩
  · injection e with e8 e9 e10
    subst e8
    refine ⟨e9, fun _ => ⟨g, 0, rfl, .inr e2, (Array.getElem?_eq_some_iff.1 e3).1, RepA.list (h2.mono fun k hk _ => .inl hk.1) (fun j v hv => ?_)⟩⟩
    rw [cell_of_row _ _ _ _ _ _ e3, Nat.zero_add]
    have hl := h1.1
    have hj : j < xs.length * 6 := by
      rcases Nat.lt_or_ge j (List.flatten css).length with h | h
      · omega
      · rw [List.getElem?_eq_none h] at hv; cases hv
    have h10 : (cur.toList.take (xs.length * 6))[j]? = some v := by rw [e7]; exact hv
    rw [List.getElem?_take, if_pos hj] at h10
    simpa using h10
theorem c6_one (k : Int) (b : Bool) (n : Int) (tx : ByteArray) (ao : Option Addr) (l1 q1 : Nat) (ap : Option Addr) (l2 q2 : Nat) : ∀ v ∈ c6 k b n tx ao l1 q1 ap l2 q2, v.oneCell' = true := fun v hv => by
  simp at hv
  rcases hv with rfl | rfl | rfl | rfl | rfl | rfl <;> rfl
/-- what Cut and Ours answer -/
def CuQ (x : JV) (P : Nat → Prop) (w : World) (e : Ending) (w' : World) : Prop := ∃ xk xb xn xt xo xl xq yo yl yq, e = .returned (.agg #[.int .i64 xk, .bool xb, .int .i64 xn, .string xt, .slice xo xl xq, .slice yo yl yq]) ∧ Rep (fun k => P k ∨ w.heap.size ≤ k) w' x (c6 xk xb xn xt xo xl xq yo yl yq) ∧ Below w.heap.size w w'
/-- a value that is cut -/
def cutJ : Nat → JV → JV
  | 0, .mk k is n t _ ks => .mk k is n (t.take 40) [] (ks.take 6)
  | d + 1, .mk k is n t xs ks => .mk k is n (t.take 40) ((xs.take 5).map (cutJ d)) (ks.take 6)
end Go.Proofs.YtkphainopofejaaDoor.Jv
namespace Go.Proofs.YtkphainopofejaaDoor.Jv
open Jt
open Go.RowKit Go.ChangeMaps Go.MapKept Go.WideMaps
set_option linter.unusedSimpArgs false
set_option linter.unusedVariables false

def cutXs : Nat → List JV → List JV
  | 0, _ => []
  | d + 1, xs => (xs.take 5).map (cutJ d)
theorem cutJ_mk (d : Nat) (k : Int) (is : Bool) (n : Int) (t : List UInt8) (xs : List JV) (ks : List (List UInt8)) : cutJ d (.mk k is n t xs ks) = .mk k is n (t.take 40) (cutXs d xs) (ks.take 6) := by cases d <;> rfl
theorem cutXs_nil (d : Nat) : cutXs d [] = [] := by cases d <;> rfl
theorem cutXs_snoc {d j : Nat} {xs : List JV} (hj : j < xs.length) (h5 : j < 5) : cutXs (d + 1) (xs.take (j + 1)) = cutXs (d + 1) (xs.take j) ++ [cutJ d xs[j]] := by
  show ((xs.take (j + 1)).take 5).map (cutJ d) = ((xs.take j).take 5).map (cutJ d) ++ [cutJ d xs[j]]
  rw [List.take_of_length_le (l := xs.take (j + 1)) (by rw [List.length_take]; omega), List.take_of_length_le (l := xs.take j) (by rw [List.length_take]; omega), List.take_succ_eq_append_getElem hj, List.map_append]
  rfl
theorem cutXs_same {d j : Nat} {xs : List JV} (h : ¬ (j < 5 ∧ 0 < d)) : cutXs d (xs.take (j + 1)) = cutXs d (xs.take j) := by
  cases d with
  | zero => rfl
  | succ d =>
    show ((xs.take (j + 1)).take 5).map (cutJ d) = ((xs.take j).take 5).map (cutJ d)
    rw [List.take_take, List.take_take, show min 5 (j + 1) = min 5 j by omega]
theorem cutXs_len (d j : Nat) (xs : List JV) : (cutXs d (xs.take j)).length ≤ 5 := by
  cases d with
  | zero => exact Nat.zero_le _
  | succ d => unfold cutXs; rw [List.length_map, List.length_take]; omega
theorem setR4 {w : World} {g : Nat} {k : Int} {b : Bool} {n : Int} {tx : ByteArray} {ao : Option Addr} {l1 q1 : Nat} {ap : Option Addr} {l2 q2 : Nat} (h : w.heap[g]? = some (obR k b n tx ao l1 q1 ap l2 q2)) (ao' : Option Addr) (l1' q1' : Nat) : (w.setCell ⟨g, 4, none⟩ (.slice ao' l1' q1')).heap[g]? = some (obR k b n tx ao' l1' q1' ap l2 q2) := by
  have := blk_set h 4 (.slice ao' l1' q1'); simpa using this
theorem setR5 {w : World} {g : Nat} {k : Int} {b : Bool} {n : Int} {tx : ByteArray} {ao : Option Addr} {l1 q1 : Nat} {ap : Option Addr} {l2 q2 : Nat} (h : w.heap[g]? = some (obR k b n tx ao l1 q1 ap l2 q2)) (ap' : Option Addr) (l2' q2' : Nat) : (w.setCell ⟨g, 5, none⟩ (.slice ap' l2' q2')).heap[g]? = some (obR k b n tx ao l1 q1 ap' l2' q2') := by
  have := blk_set h 5 (.slice ap' l2' q2'); simpa using this
theorem setR3 {w : World} {g : Nat} {k : Int} {b : Bool} {n : Int} {tx : ByteArray} {ao : Option Addr} {l1 q1 : Nat} {ap : Option Addr} {l2 q2 : Nat} (h : w.heap[g]? = some (obR k b n tx ao l1 q1 ap l2 q2)) (tx' : ByteArray) : (w.setCell ⟨g, 3, none⟩ (.string tx')).heap[g]? = some (obR k b n tx' ao l1 q1 ap l2 q2) := by
  have := blk_set h 3 (.string tx'); simpa using this
theorem rdk_take {P : Nat → Prop} {w : World} {ap : Option Addr} {n q : Nat} {ks : List (List UInt8)} (h : RdK P w (.slice ap n q) ks) (h6 : 6 < ks.length) : RdK P w (.slice ap 6 q) (ks.take 6) := by
  obtain ⟨ao', cap, e, hc, hh⟩ := h
  injection e with e1 e2 e3
  subst e1 e3
  have hl : (ks.take 6).length = 6 := by rw [List.length_take]; omega
  refine ⟨ap, q, by rw [hl], by omega, fun _ => ?_⟩
  obtain ⟨g, off, rfl, hp, hg, hc⟩ := hh (fun e => by rw [e] at h6; simp at h6)
  refine ⟨g, off, rfl, hp, hg, fun j v hv => hc j v ?_⟩
  rw [List.getElem?_map] at hv ⊢
  rw [List.getElem?_take] at hv
  split at hv
  · exact hv
  · simp at hv
theorem mkS_take {t : List UInt8} (h : 40 < (mkS t).size) : (mkS t).extract 0 40 = mkS (t.take 40) := mkS_of (by rw [Lib.extract_data, data_mkS]; simp)
theorem take_all40 {t : List UInt8} (h : ¬ 40 < (mkS t).size) : t.take 40 = t := List.take_of_length_le (by rw [size_mkS] at h; omega)
theorem Up.refl (w : World) : Up w w := Grw.refl _ _
/-- the finished value -/
theorem cu_fin {P : Nat → Prop} {w V V' : World} {k : Int} {is : Bool} {n : Int} {t : List UInt8} {xs : List JV} {ks : List (List UInt8)} {ao : Option Addr} {l1 q1 : Nat} {ap : Option Addr} {l2 q2 : Nat}
    (hu : Up w V) (hz : Grw (fun j => j = w.heap.size + 1) V V') (hn : l1 = xs.length) (hx : xs ≠ [] → ∃ g off, ao = some ⟨g, off, none⟩ ∧ (P g ∨ w.heap.size + 2 ≤ g) ∧ g < V.heap.size ∧ RepL (fun k => P k ∨ w.heap.size + 2 ≤ k) V xs g off)
    (hk : RdK (fun k => P k ∧ k < w.heap.size) V (.slice ap l2 q2) ks) (hP : ∀ k, P k → k < w.heap.size) : CuQ (.mk k is n t xs ks) P w (.returned (.agg #[.int .i64 k, .bool is, .int .i64 n, .string (mkS t), .slice ao l1 q1, .slice ap l2 q2])) V' := by
  refine ⟨k, is, n, mkS t, ao, l1, q1, ap, l2, q2, rfl, ?_, (Up.one hu hz (by omega)).below⟩
  have kep : Kep (fun k => P k ∨ w.heap.size + 2 ≤ k) V V' := ⟨hz.size, fun k hk hl => hz.block hl (by rcases hk with h | h; (have := hP k h; omega); omega)⟩
  unfold Rep
  refine ⟨ao, q1, .slice ap l2 q2, by rw [hn], RdK.mono (fun k hk _ => .inl hk.1) (RdK.keep (P := fun k => P k ∧ k < w.heap.size) ⟨hz.size, fun k hk hl => hz.block hl (by have := hk.2; omega)⟩ hk), fun hne => ?_⟩
  obtain ⟨g, off, e, hg, hl, hr⟩ := hx hne
  refine ⟨g, off, e, ?_, Nat.lt_of_lt_of_le hl hz.size, RepL.mono (fun k hk _ => ?_) xs (RepL.keep kep xs hg hl hr)⟩
  · rcases hg with h | h
    · exact .inl h
    · exact .inr (by omega)
  · rcases hk with h | h
    · exact .inl h
    · exact .inr (by omega)
theorem CuQ.weak {P Q : Nat → Prop} {x : JV} {w w' : World} {e : Ending} (h : CuQ x (fun k => P k ∧ Q k) w e w') : CuQ x P w e w' := by
  obtain ⟨xk, xb, xn, xt, xo, xl, xq, yo, yl, yq, he, hr, hb⟩ := h
  exact ⟨xk, xb, xn, xt, xo, xl, xq, yo, yl, yq, he, Rep.mono (fun k hk _ => by rcases hk with h | h; exact .inl h.1; exact .inr h) _ hr, hb⟩
set_option maxRecDepth 100000 in
set_option maxHeartbeats 4000000 in
theorem cut_step (d : Nat) (hd : d ≤ 1000) (P : Nat → Prop) (k : Int) (is : Bool) (m : Int) (t : List UInt8) (xs : List JV) (ks : List (List UInt8)) (w : World) (ca : List Value) (h : Rep P w (.mk k is m t xs ks) ca) (hlx : xs.length ≤ maxLen)
    (HS : ∀ i (hi : i < xs.length) (d' : Nat), d = d' + 1 → ∀ (Q : Nat → Prop) (W : World) (cb : List Value), Rep Q W xs[i] cb → Calls Tryd.prog 12 #[.agg cb.toArray, .int .i64 (d' : Int)] W (CuQ (cutJ d' xs[i]) Q W)) :
    Calls Tryd.prog 12 #[.agg ca.toArray, .int .i64 (d : Int)] w (CuQ (cutJ d (.mk k is m t xs ks)) P w) := by
  obtain ⟨i0, hi, hz0, hz1, hz2⟩ := info_parts infoR
  obtain ⟨ao, q1, ap, q2, rfl, hka, hla⟩ := rep_c6 h
  have hvs : IsVs (fun k => P k ∧ k < w.heap.size) w (.slice ao xs.length q1) xs := ⟨ao, q1, rfl, fun hne => by
    obtain ⟨g, off, e, hp, hg, hr⟩ := hla hne
    exact ⟨g, off, e, ⟨hp, hg⟩, hg, RepL.mono (fun k hk hl => ⟨hk, hl⟩) xs hr⟩⟩
  have HKS := Lib.hid (RdK.mono (P' := fun k => P k ∧ k < w.heap.size) (fun k hk hl => ⟨hk, hl⟩) hka)
  obtain ⟨W0, hW0, hk0, hk1, hb0⟩ := two_o w #[.int .i64 k, .bool is, .int .i64 m, .string (mkS t), .slice ao xs.length q1, .slice ap ks.length q2] #[.int .i64 0, .bool false, .int .i64 0, .string ⟨#[]⟩, .slice none 0 0, .slice none 0 0] 36 36
  have HW0 := Lib.hid hW0
  have HB0 := Lib.hid hb0
  have HA := Lib.hid hk0
  have HR := Lib.hid hk1
  have hlt : w.heap.size + 1 < W0.heap.size := (Array.getElem?_eq_some_iff.1 hk1).1
  have H := Lib.hid (hvs.keep (Kep.of hb0))
  have HSS := Lib.hid HS
  obtain ⟨a0, a1, a2, a3, a4, a5⟩ := cells6 hk0
  obtain ⟨n, hn⟩ : ∃ n, n = xs.length := ⟨_, rfl⟩
  have HN : Hid (xs.length = n) := hn.symm
  unfold maxLen at hlx
  rw [← hn] at a4 H HW0 hlx HA ⊢
  clear hW0 hb0 hk0 hk1 h hka hla hvs HS hn
  go_enter Tryd.func12, Tryd.ntmps12
  go_upto_region 1 with (fail)
  rw [← HW0.out]
  go_wp2
  clear a0 a1 a2 a3 a4 a5
  go_loopw [5, 11] (fun lv iv wr => ∃ j : Nat, j ≤ n ∧ iv = .int .i64 j ∧ Hid (RW (fun k => (P k ∧ k < w.heap.size) ∨ W0.heap.size ≤ k) W0.heap.size 36 lv (cutXs d (xs.take j)) wr) ∧ Hid (Below W0.heap.size W0 wr)) (fun _ iv _ => n - (intOf iv).toNat)
  case atStart => exact ⟨0, by omega, rfl, by rw [List.take_zero, cutXs_nil]; exact RW.nil _ _ _ _, Lib.hid (Below.refl _ _)⟩
  case round =>
    obtain ⟨j, hj, rfl, HL, HB⟩ := hrel
    obtain ⟨aol, ql, hlv⟩ := HL.out.form
    subst hlv
    by_cases hlt2 : j < n
    · have HX1 := Lib.hid (show j < xs.length by rw [HN.out]; exact hlt2)
      obtain ⟨g1, o1, rfl, hg1, hat1⟩ := (H.out.keep (Kep.of HB.out)).at (by have := HX1.out; omega)
      have hj0 : (0 : Int) ≤ (j : Int) := by omega
      have hjl : (j : Int) < (n : Int) := by omega
      obtain ⟨cb, hcb, hrb⟩ := hat1 j HX1.out
      have HCC := Lib.hid (fun d' hd' => HSS.out j HX1.out d' hd' (fun k => P k ∧ k < w.heap.size))
      have HSN := Lib.hid (fun d' (h5 : j < 5) => cutXs_snoc (d := d') HX1.out h5)
      obtain ⟨⟨k2, is', nn, t2, ixs, iks⟩, hx⟩ : ∃ x, xs[j]'HX1.out = x := ⟨_, rfl⟩
      rw [hx] at hrb HCC HSN
      obtain ⟨ao', q1', ap', q2', rfl, _⟩ := rep_c6 hrb
      obtain ⟨p0, p1, p2, p3, p4, p5⟩ := cs6 hcb
      obtain ⟨W1, hW1, hk1, hb1⟩ := one_r wr k2 is' nn (mkS t2) ao' ixs.length q1' ap' iks.length q2'
      have HW1 := Lib.hid hW1
      have HK1 := Lib.hid hk1
      have HB1 := Lib.hid (btr HB.out hb1)
      have HL1 := Lib.hid (HL.out.go hb1)
      have HRB := Lib.hid (Rep.keep (Kep.of hb1) _ hrb)
      have hn1 : g1 ≠ wr.heap.size := by omega
      have hz1' : W0.heap.size ≤ wr.heap.size := HB.out.size
      have hz2' : wr.heap.size < W1.heap.size := (Array.getElem?_eq_some_iff.1 hk1).1
      have hlen := cutXs_len d j xs
      clear hat1 hcb hrb hx hW1 hk1 hb1 HB HL
      by_cases hc : j < 5 ∧ 0 < d
      · obtain ⟨d', hd'⟩ : ∃ d', d = d' + 1 := ⟨d - 1, by omega⟩
        have HCT := Lib.hid (HCC.out d' hd' W1 _ HRB.out)
        have HTK := HSN.out d' hc.1
        rw [← hd'] at HTK
        have HTK := Lib.hid HTK
        have c5 : (j : Int) < 5 := by omega
        have c0 : (0 : Int) < (d : Int) := by omega
        have c1 : (d : Int) - 1 = (d' : Int) := by omega
        have HV1 := Lib.hid HL1.out.lt
        unfold CuQ at HCT
        clear hd'
        generalize cutXs d (xs.take j) = ys at HL1 HTK hlen HV1 ⊢
        go_upto_region 6 with (fail)
        rw [← HW1.out]
        clear p0 p1 p2 p3 p4 p5
        obtain ⟨p0, p1, p2, p3, p4, p5⟩ := cells6 HK1.out
        go_wp2_with fail
        (with_reducible refine HCT.out.mono ?_)
        rintro e w4 ⟨xk, xb, xn, xt, xo, xl, xq, yo, yl, yq, rfl, hr4, hb4⟩
        have hL4 := HL1.out.go hb4
        obtain ⟨css, hown, hrepA⟩ := hL4
        obtain ⟨WA, hWA, hkA, hbA⟩ := one_r w4 xk xb xn xt xo xl xq yo yl yq
        have HWA := Lib.hid hWA
        have HOWN : Hid (WA.ownsRow W0.heap.size 36 6 (.slice aol ys.length ql) ys.length (List.flatten css)) := row_keep hown (Grw.of_below (X := fun j => w4.heap.size ≤ j) hbA (fun k h _ => h)) (fun j e => ⟨(World.ownsRow.lt hown j e).2, by have := (World.ownsRow.lt hown j e).2; omega⟩)
        have HRA : Hid (RepA (fun k => ((P k ∧ k < w.heap.size) ∨ W0.heap.size ≤ k) ∧ (Value.slice aol ys.length ql).ownBlock ≠ some k) WA ys css) := hrepA.keep (Kep.of hbA)
        have HRX : Hid (Rep (fun k => ((P k ∧ k < w.heap.size) ∨ W0.heap.size ≤ k) ∧ (Value.slice aol ys.length ql).ownBlock ≠ some k) WA (cutJ d' (.mk k2 is' nn t2 ixs iks)) (c6 xk xb xn xt xo xl xq yo yl yq)) := Rep.mono (fun k hk _ => by
          rcases hk with hk | hk
          · exact ⟨.inl hk, fun e => by have := (HV1.out k e).1; have := hk.2; omega⟩
          · exact ⟨.inr (by omega), fun e => by have := (HV1.out k e).2; omega⟩) _ (Rep.keep (Kep.of hbA) _ hr4)
        have HCE : Hid (∀ i u, (c6 xk xb xn xt xo xl xq yo yl yq)[i]? = some u → WA.cell? ((⟨w4.heap.size, 0, none⟩ : Addr).add i) = some u) := World.news_of_block (cs := #[.int .i64 xk, .bool xb, .int .i64 xn, .string xt, .slice xo xl xq, .slice yo yl yq]) hkA
        have HBA : Hid (Below W0.heap.size W0 WA) := btr (btr HB1.out hb4) hbA
        have DE := Lib.hid (c6_one xk xb xn xt xo xl xq yo yl yq)
        have D3 : Hid (ys.length + 1 ≤ maxLen) := by show _ ≤ _; unfold maxLen; omega
        have D4 : Hid ((ys.length + 1) * 88 ≤ 140737488355328) := by show _ ≤ _; omega
        have D5 : Hid (W0.heap.size ≤ WA.heap.size) := HBA.out.size
        clear hr4 hb4 hown hrepA hWA hkA hbA p0 p1 p2 p3 p4 p5
        go_wp2_with (at_builtin; rw [← HWA.out]; refine wpList_append_lies _ rfl _ _ 34 rfl W0.heap.size 36 i0 _ 6 88 Tryd.underlying34 hi hz0 hz1 hz2 rfl (by decide) (.slice aol ys.length ql) ys.length (List.flatten css) rfl HOWN.out ⟨w4.heap.size, 0, none⟩ 1 1 (c6 xk xb xn xt xo xl xq yo yl yq) rfl rfl HCE.out DE.out (by decide) D3.out D4.out D5.out WA.heap.size rfl ?_)
        intro g2 cap2 V2 hown2 hgrow2 hat2 _
        have HL2 : Hid (RW (fun k => (P k ∧ k < w.heap.size) ∨ W0.heap.size ≤ k) W0.heap.size 36 (.slice (some ⟨g2, 0, none⟩) (ys.length + 1) cap2) (cutXs d (xs.take (j + 1))) V2) := by
          show RW _ _ _ _ _ _
          rw [HTK.out]
          exact RW.snoc HRA.out HRX.out hown2 hgrow2 hat2
        have HBV : Hid (Below W0.heap.size W0 V2) := HBA.out.grown hgrow2 HBA.out.size (fun q hq => (World.ownsRow.lt HOWN.out q hq).1)
        clear hown2 hgrow2 hat2
        go_wp2
        go_roundw
        case rel => exact ⟨j + 1, by omega, by go_num, HL2, HBV⟩
        case measure => simp [intOf]; omega
      · have HTK := Lib.hid (cutXs_same (xs := xs) hc)
        have HL2 : Hid (RW (fun k => (P k ∧ k < w.heap.size) ∨ W0.heap.size ≤ k) W0.heap.size 36 (.slice aol (cutXs d (xs.take j)).length ql) (cutXs d (xs.take (j + 1))) W1) := by
          show RW _ _ _ _ _ _
          rw [HTK.out]; exact HL1.out
        revert HL2
        generalize (cutXs d (xs.take j)).length = yl
        intro HL2
        by_cases h5 : j < 5
        · have c5 : (j : Int) < 5 := by omega
          have c0 : ¬ (0 : Int) < (d : Int) := by omega
          go_wp2
          rw [← HW1.out]
          go_roundw
          case rel => exact ⟨j + 1, by omega, by go_num, HL2, HB1⟩
          case measure => simp [intOf]; omega
        · have c5 : ¬ (j : Int) < 5 := by omega
          go_wp2
          rw [← HW1.out]
          go_roundw
          case rel => exact ⟨j + 1, by omega, by go_num, HL2, HB1⟩
          case measure => simp [intOf]; omega
    · have hjl : ¬ (j : Int) < (n : Int) := by omega
      have hjn : j = n := by omega
      have hxt : xs.take j = xs := by rw [hjn, ← HN.out]; exact List.take_of_length_le (Nat.le_refl _)
      have HAr : Hid (wr.heap[w.heap.size]? = some (obR k is m (mkS t) ao n q1 ap ks.length q2)) := (HB.out.block _ (by omega)).trans HA.out
      have HRr : Hid (wr.heap[w.heap.size + 1]? = some (obR 0 false 0 ⟨#[]⟩ none 0 0 none 0 0)) := (HB.out.block _ hlt).trans HR.out
      have HUr : Hid (Up w wr) := Up.be (Grw.of_below HB0.out (fun k h _ => h)) HB.out
      obtain ⟨n', hn'⟩ : ∃ n', n' = (cutXs d (xs.take j)).length := ⟨_, rfl⟩
      rw [← hn'] at HL ⊢
      obtain ⟨hl1, hl2⟩ := HL.out.list
      rw [hxt] at hl1 hl2
      have hl0 : W0.heap.size = w.heap.size + 2 := by rw [HW0.out]; simp
      obtain ⟨ZX, hZX⟩ : ∃ ZX : World → Prop, ZX = fun V => n' = (cutXs d xs).length ∧ (cutXs d xs ≠ [] → ∃ g off, aol = some ⟨g, off, none⟩ ∧ ((P g ∧ g < w.heap.size) ∨ w.heap.size + 2 ≤ g) ∧ g < V.heap.size ∧ RepL (fun k => (P k ∧ k < w.heap.size) ∨ w.heap.size + 2 ≤ k) V (cutXs d xs) g off) := ⟨_, rfl⟩
      have HZK : Hid (∀ V V', Grw (fun j => j = w.heap.size) V V' → ZX V → ZX V') := by
        rw [hZX]
        intro V V' hG hz
        refine ⟨hz.1, fun hne => ?_⟩
        obtain ⟨g, off, e, hg, hlt', hr⟩ := hz.2 hne
        have kep : Kep (fun k => (P k ∧ k < w.heap.size) ∨ w.heap.size + 2 ≤ k) V V' := ⟨hG.size, fun k hk hl => hG.block hl (by rcases hk with hk | hk; (have := hk.2; omega); omega)⟩
        exact ⟨g, off, e, hg, Nat.lt_of_lt_of_le hlt' hG.size, RepL.keep kep _ hg hlt' hr⟩
      have HXr : Hid (ZX wr) := by
        rw [hZX]
        refine ⟨hl1, fun hne => ?_⟩
        obtain ⟨g, off, e, hg, hlt', hr⟩ := hl2 hne
        rw [hl0] at hg hr
        refine ⟨g, off, e, ?_, hlt', RepL.mono (fun k hk _ => ?_) _ hr⟩
        · rcases hg with (h | h) | h
          · exact .inl h
          · exact .inr h
          · exact .inr h
        · rcases hk with (h | h) | h
          · exact .inl h
          · exact .inr h
          · exact .inr h
      clear hl1 hl2 hl0 hxt hjn HL HB hn'
      obtain ⟨a0, a1, a2, a3, a4, a5⟩ := cells6 HAr.out
      have f4 := frz HAr.out 4
      go_upto_region 9 with (fail)
      obtain ⟨w5, hw5⟩ : ∃ w5, w5 = wr.setCell ⟨w.heap.size, 4, none⟩ (.slice aol n' ql) := ⟨_, rfl⟩
      obtain ⟨q', hq'⟩ : ∃ q', q' = ql := ⟨_, rfl⟩
      rw [← hq'] at hw5 ⊢
      have hG5 : Grw (fun j => j = w.heap.size) wr w5 := by rw [hw5]; exact gr_one wr _ _ _
      have HA5 : Hid (w5.heap[w.heap.size]? = some (obR k is m (mkS t) aol n' q' ap ks.length q2)) := by rw [hw5]; exact Lib.hid (setR4 HAr.out _ _ _)
      have HR5 : Hid (w5.heap[w.heap.size + 1]? = some (obR 0 false 0 ⟨#[]⟩ none 0 0 none 0 0)) := (hG5.block (Array.getElem?_eq_some_iff.1 HRr.out).1 (by omega)).trans HRr.out
      have HU5 : Hid (Up w w5) := Up.one HUr.out hG5 (Nat.le_refl _)
      have HX5 : Hid (ZX w5) := HZK.out wr w5 hG5 HXr.out
      rw [← hw5]
      clear hw5 hG5 a0 a1 a2 a3 a4 a5 f4 hq'
      have HZX := Lib.hid hZX
      clear hZX
      by_cases h6 : 6 < ks.length
      · by_cases h40 : 40 < (mkS t).size
        · skip
          have HQ5 : Hid (RdK (fun k => P k ∧ k < w.heap.size) w5 (.slice ap ks.length q2) ks) := RdK.keep (P := fun k => P k ∧ k < w.heap.size) ⟨HU5.out.size, fun k hk hl => HU5.out.block hl (by have := hk.2; omega)⟩ HKS.out
          obtain ⟨a0, a1, a2, a3, a4, a5⟩ := cells6 HA5.out
          have k6 : (6 : Int) < (ks.length : Int) := by omega
          have k6q : (6 : Int) ≤ (q2 : Int) := by have := rdk_cap HQ5.out; omega
          have f5 := frz HA5.out 5
          go_upto_region 11 with (fail)
          obtain ⟨w6, hw6⟩ : ∃ w6, w6 = w5.setCell ⟨w.heap.size, 5, none⟩ (.slice ap 6 q2) := ⟨_, rfl⟩
          have hG6 : Grw (fun j => j = w.heap.size) w5 w6 := by rw [hw6]; exact gr_one w5 _ _ _
          have HA6 : Hid (w6.heap[w.heap.size]? = some (obR k is m (mkS t) aol n' q' ap 6 q2)) := by rw [hw6]; exact Lib.hid (setR5 HA5.out _ _ _)
          have HR6 : Hid (w6.heap[w.heap.size + 1]? = some (obR 0 false 0 ⟨#[]⟩ none 0 0 none 0 0)) := (hG6.block (Array.getElem?_eq_some_iff.1 HR5.out).1 (by omega)).trans HR5.out
          have HU6 : Hid (Up w w6) := Up.one HU5.out hG6 (Nat.le_refl _)
          have HX6 : Hid (ZX w6) := HZK.out w5 w6 hG6 HX5.out
          have HQ6 : Hid (RdK (fun k => P k ∧ k < w.heap.size) w6 (.slice ap 6 q2) (ks.take 6)) := rdk_take (RdK.keep (P := fun k => P k ∧ k < w.heap.size) ⟨hG6.size, fun k hk hl => hG6.block hl (by have := hk.2; omega)⟩ HQ5.out) (by omega)
          rw [← hw6]
          clear hw6 hG6 a0 a1 a2 a3 a4 a5 f5 k6 k6q
          obtain ⟨a0, a1, a2, a3, a4, a5⟩ := cells6 HA6.out
          have t4 : (40 : Int) < ((mkS t).size : Int) := by omega
          have f3 := frz HA6.out 3
          go_upto_region 13 with (fail)
          obtain ⟨w7, hw7⟩ : ∃ w7, w7 = w6.setCell ⟨w.heap.size, 3, none⟩ (.string ((mkS t).extract 0 40)) := ⟨_, rfl⟩
          have hG7 : Grw (fun j => j = w.heap.size) w6 w7 := by rw [hw7]; exact gr_one w6 _ _ _
          have HA7 : Hid (w7.heap[w.heap.size]? = some (obR k is m (mkS (t.take 40)) aol n' q' ap 6 q2)) := by rw [hw7, mkS_take h40]; exact Lib.hid (setR3 HA6.out _)
          have HR7 : Hid (w7.heap[w.heap.size + 1]? = some (obR 0 false 0 ⟨#[]⟩ none 0 0 none 0 0)) := (hG7.block (Array.getElem?_eq_some_iff.1 HR6.out).1 (by omega)).trans HR6.out
          have HU7 : Hid (Up w w7) := Up.one HU6.out hG7 (Nat.le_refl _)
          have HX7 : Hid (ZX w7) := HZK.out w6 w7 hG7 HX6.out
          have HQ7 : Hid (RdK (fun k => P k ∧ k < w.heap.size) w7 (.slice ap 6 q2) (ks.take 6)) := RdK.keep (P := fun k => P k ∧ k < w.heap.size) ⟨hG7.size, fun k hk hl => hG7.block hl (by have := hk.2; omega)⟩ HQ6.out
          rw [← hw7]
          clear hw7 hG7 a0 a1 a2 a3 a4 a5 f3 t4
          obtain ⟨a0, a1, a2, a3, a4, a5⟩ := cells6 HA7.out
          obtain ⟨u0, u1, u2, u3, u4, u5⟩ := cells6 HR7.out
          have z0 := frz HR7.out 0
          have z1 := frz HR7.out 1
          have z2 := frz HR7.out 2
          have z3 := frz HR7.out 3
          have z4 := frz HR7.out 4
          have z5 := frz HR7.out 5
          have HH := Lib.hid (set6 HR7.out (.int .i64 k) (.bool is) (.int .i64 m) (.string (mkS (t.take 40))) (.slice aol n' q') (.slice ap 6 q2))
          have HZ := Lib.hid (gr_set6 w7 (w.heap.size + 1) (.int .i64 k) (.bool is) (.int .i64 m) (.string (mkS (t.take 40))) (.slice aol n' q') (.slice ap 6 q2))
          go_wp2_with fail
          obtain ⟨d0, d1, d2, d3, d4, d5⟩ := cells6 HH.out
          clear u0 u1 u2 u3 u4 u5 z0 z1 z2 z3 z4 z5 a0 a1 a2 a3 a4 a5
          (with_reducible refine bodyPost_ret (v := .agg #[.int .i64 k, .bool is, .int .i64 m, .string (mkS (t.take 40)), .slice aol n' q', .slice ap 6 q2]) (by simp [results, Tryd.results12, go_sem, d0, d1, d2, d3, d4, d5]) rfl ?_)
          rw [cutJ_mk]
          have hx9 := HX7.out
          rw [HZX.out] at hx9
          exact CuQ.weak (cu_fin HU7.out HZ.out hx9.1 hx9.2 (RdK.mono (fun k hk _ => ⟨hk, hk.2⟩) HQ7.out) (fun k hk => hk.2))
        · skip
          have HQ5 : Hid (RdK (fun k => P k ∧ k < w.heap.size) w5 (.slice ap ks.length q2) ks) := RdK.keep (P := fun k => P k ∧ k < w.heap.size) ⟨HU5.out.size, fun k hk hl => HU5.out.block hl (by have := hk.2; omega)⟩ HKS.out
          obtain ⟨a0, a1, a2, a3, a4, a5⟩ := cells6 HA5.out
          have k6 : (6 : Int) < (ks.length : Int) := by omega
          have k6q : (6 : Int) ≤ (q2 : Int) := by have := rdk_cap HQ5.out; omega
          have f5 := frz HA5.out 5
          go_upto_region 11 with (fail)
          obtain ⟨w6, hw6⟩ : ∃ w6, w6 = w5.setCell ⟨w.heap.size, 5, none⟩ (.slice ap 6 q2) := ⟨_, rfl⟩
          have hG6 : Grw (fun j => j = w.heap.size) w5 w6 := by rw [hw6]; exact gr_one w5 _ _ _
          have HA6 : Hid (w6.heap[w.heap.size]? = some (obR k is m (mkS t) aol n' q' ap 6 q2)) := by rw [hw6]; exact Lib.hid (setR5 HA5.out _ _ _)
          have HR6 : Hid (w6.heap[w.heap.size + 1]? = some (obR 0 false 0 ⟨#[]⟩ none 0 0 none 0 0)) := (hG6.block (Array.getElem?_eq_some_iff.1 HR5.out).1 (by omega)).trans HR5.out
          have HU6 : Hid (Up w w6) := Up.one HU5.out hG6 (Nat.le_refl _)
          have HX6 : Hid (ZX w6) := HZK.out w5 w6 hG6 HX5.out
          have HQ6 : Hid (RdK (fun k => P k ∧ k < w.heap.size) w6 (.slice ap 6 q2) (ks.take 6)) := rdk_take (RdK.keep (P := fun k => P k ∧ k < w.heap.size) ⟨hG6.size, fun k hk hl => hG6.block hl (by have := hk.2; omega)⟩ HQ5.out) (by omega)
          rw [← hw6]
          clear hw6 hG6 a0 a1 a2 a3 a4 a5 f5 k6 k6q
          obtain ⟨a0, a1, a2, a3, a4, a5⟩ := cells6 HA6.out
          have t4 : ¬ (40 : Int) < ((mkS t).size : Int) := by omega
          obtain ⟨u0, u1, u2, u3, u4, u5⟩ := cells6 HR6.out
          have z0 := frz HR6.out 0
          have z1 := frz HR6.out 1
          have z2 := frz HR6.out 2
          have z3 := frz HR6.out 3
          have z4 := frz HR6.out 4
          have z5 := frz HR6.out 5
          have HH := Lib.hid (set6 HR6.out (.int .i64 k) (.bool is) (.int .i64 m) (.string (mkS t)) (.slice aol n' q') (.slice ap 6 q2))
          have HZ := Lib.hid (gr_set6 w6 (w.heap.size + 1) (.int .i64 k) (.bool is) (.int .i64 m) (.string (mkS t)) (.slice aol n' q') (.slice ap 6 q2))
          go_wp2_with fail
          obtain ⟨d0, d1, d2, d3, d4, d5⟩ := cells6 HH.out
          clear u0 u1 u2 u3 u4 u5 z0 z1 z2 z3 z4 z5 a0 a1 a2 a3 a4 a5
          (with_reducible refine bodyPost_ret (v := .agg #[.int .i64 k, .bool is, .int .i64 m, .string (mkS t), .slice aol n' q', .slice ap 6 q2]) (by simp [results, Tryd.results12, go_sem, d0, d1, d2, d3, d4, d5]) rfl ?_)
          rw [cutJ_mk, take_all40 h40]
          have hx9 := HX6.out
          rw [HZX.out] at hx9
          exact CuQ.weak (cu_fin HU6.out HZ.out hx9.1 hx9.2 (RdK.mono (fun k hk _ => ⟨hk, hk.2⟩) HQ6.out) (fun k hk => hk.2))
      · by_cases h40 : 40 < (mkS t).size
        · skip
          have HQ5 : Hid (RdK (fun k => P k ∧ k < w.heap.size) w5 (.slice ap ks.length q2) ks) := RdK.keep (P := fun k => P k ∧ k < w.heap.size) ⟨HU5.out.size, fun k hk hl => HU5.out.block hl (by have := hk.2; omega)⟩ HKS.out
          obtain ⟨a0, a1, a2, a3, a4, a5⟩ := cells6 HA5.out
          have k6 : ¬ (6 : Int) < (ks.length : Int) := by omega
          have HQ6 : Hid (RdK (fun k => P k ∧ k < w.heap.size) w5 (.slice ap ks.length q2) ks) := HQ5
          have t4 : (40 : Int) < ((mkS t).size : Int) := by omega
          have f3 := frz HA5.out 3
          go_upto_region 13 with (fail)
          obtain ⟨w7, hw7⟩ : ∃ w7, w7 = w5.setCell ⟨w.heap.size, 3, none⟩ (.string ((mkS t).extract 0 40)) := ⟨_, rfl⟩
          have hG7 : Grw (fun j => j = w.heap.size) w5 w7 := by rw [hw7]; exact gr_one w5 _ _ _
          have HA7 : Hid (w7.heap[w.heap.size]? = some (obR k is m (mkS (t.take 40)) aol n' q' ap ks.length q2)) := by rw [hw7, mkS_take h40]; exact Lib.hid (setR3 HA5.out _)
          have HR7 : Hid (w7.heap[w.heap.size + 1]? = some (obR 0 false 0 ⟨#[]⟩ none 0 0 none 0 0)) := (hG7.block (Array.getElem?_eq_some_iff.1 HR5.out).1 (by omega)).trans HR5.out
          have HU7 : Hid (Up w w7) := Up.one HU5.out hG7 (Nat.le_refl _)
          have HX7 : Hid (ZX w7) := HZK.out w5 w7 hG7 HX5.out
          have HQ7 : Hid (RdK (fun k => P k ∧ k < w.heap.size) w7 (.slice ap ks.length q2) (ks)) := RdK.keep (P := fun k => P k ∧ k < w.heap.size) ⟨hG7.size, fun k hk hl => hG7.block hl (by have := hk.2; omega)⟩ HQ6.out
          rw [← hw7]
          clear hw7 hG7 a0 a1 a2 a3 a4 a5 f3 t4
          obtain ⟨a0, a1, a2, a3, a4, a5⟩ := cells6 HA7.out
          obtain ⟨u0, u1, u2, u3, u4, u5⟩ := cells6 HR7.out
          have z0 := frz HR7.out 0
          have z1 := frz HR7.out 1
          have z2 := frz HR7.out 2
          have z3 := frz HR7.out 3
          have z4 := frz HR7.out 4
          have z5 := frz HR7.out 5
          have HH := Lib.hid (set6 HR7.out (.int .i64 k) (.bool is) (.int .i64 m) (.string (mkS (t.take 40))) (.slice aol n' q') (.slice ap ks.length q2))
          have HZ := Lib.hid (gr_set6 w7 (w.heap.size + 1) (.int .i64 k) (.bool is) (.int .i64 m) (.string (mkS (t.take 40))) (.slice aol n' q') (.slice ap ks.length q2))
          go_wp2_with fail
          obtain ⟨d0, d1, d2, d3, d4, d5⟩ := cells6 HH.out
          clear u0 u1 u2 u3 u4 u5 z0 z1 z2 z3 z4 z5 a0 a1 a2 a3 a4 a5
          (with_reducible refine bodyPost_ret (v := .agg #[.int .i64 k, .bool is, .int .i64 m, .string (mkS (t.take 40)), .slice aol n' q', .slice ap ks.length q2]) (by simp [results, Tryd.results12, go_sem, d0, d1, d2, d3, d4, d5]) rfl ?_)
          rw [cutJ_mk, List.take_of_length_le (l := ks) (i := 6) (by omega)]
          have hx9 := HX7.out
          rw [HZX.out] at hx9
          exact CuQ.weak (cu_fin HU7.out HZ.out hx9.1 hx9.2 (RdK.mono (fun k hk _ => ⟨hk, hk.2⟩) HQ7.out) (fun k hk => hk.2))
        · skip
          have HQ5 : Hid (RdK (fun k => P k ∧ k < w.heap.size) w5 (.slice ap ks.length q2) ks) := RdK.keep (P := fun k => P k ∧ k < w.heap.size) ⟨HU5.out.size, fun k hk hl => HU5.out.block hl (by have := hk.2; omega)⟩ HKS.out
          obtain ⟨a0, a1, a2, a3, a4, a5⟩ := cells6 HA5.out
          have k6 : ¬ (6 : Int) < (ks.length : Int) := by omega
          have HQ6 : Hid (RdK (fun k => P k ∧ k < w.heap.size) w5 (.slice ap ks.length q2) ks) := HQ5
          have t4 : ¬ (40 : Int) < ((mkS t).size : Int) := by omega
          obtain ⟨u0, u1, u2, u3, u4, u5⟩ := cells6 HR5.out
          have z0 := frz HR5.out 0
          have z1 := frz HR5.out 1
          have z2 := frz HR5.out 2
          have z3 := frz HR5.out 3
          have z4 := frz HR5.out 4
          have z5 := frz HR5.out 5
          have HH := Lib.hid (set6 HR5.out (.int .i64 k) (.bool is) (.int .i64 m) (.string (mkS t)) (.slice aol n' q') (.slice ap ks.length q2))
          have HZ := Lib.hid (gr_set6 w5 (w.heap.size + 1) (.int .i64 k) (.bool is) (.int .i64 m) (.string (mkS t)) (.slice aol n' q') (.slice ap ks.length q2))
          go_wp2_with fail
          obtain ⟨d0, d1, d2, d3, d4, d5⟩ := cells6 HH.out
          clear u0 u1 u2 u3 u4 u5 z0 z1 z2 z3 z4 z5 a0 a1 a2 a3 a4 a5
          (with_reducible refine bodyPost_ret (v := .agg #[.int .i64 k, .bool is, .int .i64 m, .string (mkS t), .slice aol n' q', .slice ap ks.length q2]) (by simp [results, Tryd.results12, go_sem, d0, d1, d2, d3, d4, d5]) rfl ?_)
          rw [cutJ_mk, take_all40 h40, List.take_of_length_le (l := ks) (i := 6) (by omega)]
          have hx9 := HX5.out
          rw [HZX.out] at hx9
          exact CuQ.weak (cu_fin HU5.out HZ.out hx9.1 hx9.2 (RdK.mono (fun k hk _ => ⟨hk, hk.2⟩) HQ6.out) (fun k hk => hk.2))
theorem cut_all : ∀ (d : Nat) (x : JV), d ≤ 1000 → wid x ≤ maxLen → ∀ (P : Nat → Prop) (W : World) (ca : List Value), Rep P W x ca → Calls Tryd.prog 12 #[.agg ca.toArray, .int .i64 (d : Int)] W (CuQ (cutJ d x) P W)
  | 0, .mk k is m t xs ks, hd, hw, P, W, ca, h => cut_step 0 hd P k is m t xs ks W ca h (by rw [wid] at hw; omega) (fun i hi d' h0 => by omega)
  | d + 1, .mk k is m t xs ks, hd, hw, P, W, ca, h => cut_step (d + 1) hd P k is m t xs ks W ca h (by rw [wid] at hw; omega) (fun i hi d' h0 Q V cb hr => by
    obtain rfl : d = d' := by omega
    exact cut_all d xs[i] (by omega) (by rw [wid] at hw; have := wid_mem hi; omega) Q V cb hr)
end Go.Proofs.YtkphainopofejaaDoor.Jv
namespace Go.Proofs.YtkphainopofejaaDoor.Jv
open Jt
open Go.RowKit Go.ChangeMaps Go.MapKept Go.WideMaps
set_option linter.unusedSimpArgs false
set_option linter.unusedVariables false

theorem RW.gr {Q X : Nat → Prop} {B : Nat} {T : TypeId} {v : Value} {xs : List JV} {w w' : World} (h : RW Q B T v xs w) (hg : Grw X w w') (hq : ∀ k, Q k → ¬ X k) (hb : ∀ k, B ≤ k → ¬ X k) : RW Q B T v xs w' := by
  obtain ⟨css, h1, h2⟩ := h
  exact ⟨css, row_keep h1 hg (fun j e => ⟨(World.ownsRow.lt h1 j e).2, hb j (World.ownsRow.lt h1 j e).1⟩), h2.keep ⟨hg.size, fun k hk hl => hg.block hl (hq k hk.1)⟩⟩
/-- three blocks -/
theorem three_o (w : World) (a b c : Array Value) (S T U : TypeId) : ∃ W, W = ((w.alloc (.cells a S)).alloc (.cells b T)).alloc (.cells c U) ∧ W.heap[w.heap.size]? = some (.cells a S (0, 0)) ∧ W.heap[w.heap.size + 1]? = some (.cells b T (0, 0)) ∧ W.heap[w.heap.size + 2]? = some (.cells c U (0, 0)) ∧ Below w.heap.size w W := by
  obtain ⟨V, hV, h0, h1, hb⟩ := two_o w a b S T
  have hz : V.heap.size = w.heap.size + 2 := by rw [hV]; simp
  have h2 := heap_alloc_new V (.cells c U)
  have hb2 := (Below.refl V.heap.size V).alloc (Nat.le_refl _) (.cells c U)
  subst hV
  refine ⟨_, rfl, (hb2.block _ (by omega)).trans h0, (hb2.block _ (by omega)).trans h1, ?_, hb.trans (hb2.mono hb.size)⟩
  rw [hz] at h2
  exact h2
theorem infoJ : (Tryd.prog.info? 25).map (fun i => (i.zero, i.size, i.bytes)) = some (some (.agg #[.int .i64 0, .bool false, .int .i64 0, .string ⟨#[]⟩, .slice none 0 0, .slice none 0 0]), 6, 88) := by kernel_rfl
theorem setV4 {w : World} {g : Nat} {k : Int} {b : Bool} {n : Int} {tx : ByteArray} {ao : Option Addr} {l1 q1 : Nat} {ap : Option Addr} {l2 q2 : Nat} (h : w.heap[g]? = some (obV k b n tx ao l1 q1 ap l2 q2)) (ao' : Option Addr) (l1' q1' : Nat) : (w.setCell ⟨g, 4, none⟩ (.slice ao' l1' q1')).heap[g]? = some (obV k b n tx ao' l1' q1' ap l2 q2) := by
  have := blk_set h 4 (.slice ao' l1' q1'); simpa using this
theorem ours_app {P : Nat → Prop} {w : World} {j ql : Nat} {aol : Option Addr} {ys : List JV} {x : JV} {W0 wr W1 V1 w4 : World} {xk : Int} {xb : Bool} {xn : Int} {xt : ByteArray} {xo : Option Addr} {xl xq : Nat} {yo : Option Addr} {yl yq : Nat}
    (hL : RW (fun k => (P k ∧ k < w.heap.size) ∨ W0.heap.size ≤ k) W0.heap.size 25 (.slice aol j ql) ys W1) (hy : ys.length = j) (hr : Rep (fun k => (P k ∧ k < w.heap.size) ∨ V1.heap.size ≤ k) w4 x (c6 xk xb xn xt xo xl xq yo yl yq)) (hv1 : V1.heap.size = W1.heap.size) (hb : Below W1.heap.size W1 w4) (h0 : W0.heap.size ≤ wr.heap.size) (h1 : wr.heap.size < W1.heap.size) (hwz : w.heap.size ≤ W0.heap.size) :
    ∃ css, Hid ((w4.alloc (obV xk xb xn xt xo xl xq yo yl yq)).ownsRow W0.heap.size 25 6 (.slice aol j ql) j (List.flatten css)) ∧
      Hid (RepA (fun k => ((P k ∧ k < w.heap.size) ∨ W0.heap.size ≤ k) ∧ (Value.slice aol j ql).ownBlock ≠ some k) (w4.alloc (obV xk xb xn xt xo xl xq yo yl yq)) ys css) ∧
      Hid (Rep (fun k => ((P k ∧ k < w.heap.size) ∨ W0.heap.size ≤ k) ∧ (Value.slice aol j ql).ownBlock ≠ some k) (w4.alloc (obV xk xb xn xt xo xl xq yo yl yq)) x (c6 xk xb xn xt xo xl xq yo yl yq)) ∧
      Hid (∀ i u, (c6 xk xb xn xt xo xl xq yo yl yq)[i]? = some u → (w4.alloc (obV xk xb xn xt xo xl xq yo yl yq)).cell? ((⟨w4.heap.size, 0, none⟩ : Addr).add i) = some u) ∧
      Hid (Below W1.heap.size W1 (w4.alloc (obV xk xb xn xt xo xl xq yo yl yq))) := by
  have hv := hL.lt
  subst hy
  obtain ⟨css, hown, hrepA⟩ := hL.go hb
  have hbA : Below w4.heap.size w4 (w4.alloc (obV xk xb xn xt xo xl xq yo yl yq)) := (Below.refl _ _).alloc (Nat.le_refl _) _
  refine ⟨css, row_keep hown (Grw.of_below (X := fun j => w4.heap.size ≤ j) hbA (fun k h _ => h)) (fun j e => ⟨(World.ownsRow.lt hown j e).2, by have := (World.ownsRow.lt hown j e).2; omega⟩), hrepA.keep (Kep.of hbA), Rep.mono (fun k hk _ => ?_) _ (Rep.keep (Kep.of hbA) _ hr), World.news_of_block (cs := #[.int .i64 xk, .bool xb, .int .i64 xn, .string xt, .slice xo xl xq, .slice yo yl yq]) (heap_alloc_new w4 _), btr hb hbA⟩
  rcases hk with hk | hk
  · exact ⟨.inl hk, fun e => by have := (hv k e).1; have := hk.2; omega⟩
  · exact ⟨.inr (by omega), fun e => by have := (hv k e).2; omega⟩
theorem ours_nxt {P : Nat → Prop} {w : World} {j ql g2 cap2 : Nat} {aol : Option Addr} {xs ys : List JV} {x : JV} {cx : List Value} {css : List (List Value)} {W0 wr W1 WA V2 : World} {k : Int} {is : Bool} {m : Int} {t : List UInt8} {ap : Option Addr} {l2 q2 : Nat}
    (hown : WA.ownsRow W0.heap.size 25 6 (.slice aol j ql) j (List.flatten css))
    (hra : RepA (fun k => ((P k ∧ k < w.heap.size) ∨ W0.heap.size ≤ k) ∧ (Value.slice aol j ql).ownBlock ≠ some k) WA ys css)
    (hrx : Rep (fun k => ((P k ∧ k < w.heap.size) ∨ W0.heap.size ≤ k) ∧ (Value.slice aol j ql).ownBlock ≠ some k) WA x cx)
    (hba : Below W1.heap.size W1 WA) (ho : W1.heap[w.heap.size + 2]? = some (obV k is m (mkS t) aol j ql ap l2 q2)) (hg : Grw (fun j => j = w.heap.size + 2) W0 wr) (hb1 : Below wr.heap.size wr W1) (hy : ys.length = j) (ht : xs.take (j + 1) = ys ++ [x])
    (hown2 : V2.ownsRow W0.heap.size 25 6 (.slice (some ⟨g2, 0, none⟩) (j + 1) cap2) (j + 1) (List.flatten css ++ cx)) (hgrow : WA.grownBy V2 (Value.slice aol j ql).ownBlock) (hat : (Value.slice aol j ql).ownBlock = some g2 ∨ g2 = WA.heap.size) (hz : W0.heap.size = w.heap.size + 3) (hwr : W0.heap.size ≤ wr.heap.size) :
    Hid (V2.heap[w.heap.size + 2]? = some (obV k is m (mkS t) aol j ql ap l2 q2)) ∧ Hid (Hid ((V2.setCell ⟨w.heap.size + 2, 4, none⟩ (.slice (some ⟨g2, 0, none⟩) (j + 1) cap2)).heap[w.heap.size + 2]? = some (obV k is m (mkS t) (some ⟨g2, 0, none⟩) (j + 1) cap2 ap l2 q2)) ∧ Hid (RW (fun k => (P k ∧ k < w.heap.size) ∨ W0.heap.size ≤ k) W0.heap.size 25 (.slice (some ⟨g2, 0, none⟩) (j + 1) cap2) (xs.take (j + 1)) (V2.setCell ⟨w.heap.size + 2, 4, none⟩ (.slice (some ⟨g2, 0, none⟩) (j + 1) cap2))) ∧ Hid (Grw (fun j => j = w.heap.size + 2) W0 (V2.setCell ⟨w.heap.size + 2, 4, none⟩ (.slice (some ⟨g2, 0, none⟩) (j + 1) cap2)))) := by
  have hv := World.ownsRow.lt hown
  subst hy
  have hl1 : w.heap.size + 2 < W1.heap.size := (Array.getElem?_eq_some_iff.1 ho).1
  have hl2 := hba.size
  have hV : V2.heap[w.heap.size + 2]? = some (obV k is m (mkS t) aol ys.length ql ap l2 q2) := (hgrow.block _ (by omega) (fun e => by have := (hv _ e.symm).1; omega)).trans ((hba.block _ hl1).trans ho)
  have h1 := gr_one V2 (w.heap.size + 2) 4 (.slice (some ⟨g2, 0, none⟩) (ys.length + 1) cap2)
  have hbw : Below wr.heap.size wr WA := btr hb1 hba
  refine ⟨hV, setV4 hV _ _ _, ?_, ?_⟩
  · show RW _ _ _ _ _ _
    rw [ht]
    exact (RW.snoc hra hrx hown2 hgrow hat).gr h1 (fun k hk e => by rcases hk with h | h <;> omega) (fun k hk e => by omega)
  · have hgr : Grw (fun j => W0.heap.size ≤ j) WA V2 := Grw.of_gb hgrow (fun g e => (hv g e).1)
    exact ((hg.trans (Grw.of_below (X := fun j => wr.heap.size ≤ j) hbw (fun k h _ => h)) (fun j hj e => absurd hj (by omega))).trans hgr (fun j hj e => absurd hj (by omega))).trans h1 (fun j hj e => e)
set_option maxRecDepth 100000 in
set_option maxHeartbeats 4000000 in
theorem ours_step (P : Nat → Prop) (k : Int) (is : Bool) (m : Int) (t : List UInt8) (xs : List JV) (ks : List (List UInt8)) (w : World) (ca : List Value) (h : Rep P w (.mk k is m t xs ks) ca) (hlx : xs.length ≤ 100000)
    (HS : ∀ i (hi : i < xs.length) (Q : Nat → Prop) (W : World) (cb : List Value), Rep Q W xs[i] cb → Calls Tryd.prog 13 #[.agg cb.toArray] W (CuQ xs[i] Q W)) :
    Calls Tryd.prog 13 #[.agg ca.toArray] w (CuQ (.mk k is m t xs ks) P w) := by
  obtain ⟨i0, hi, hz0, hz1, hz2⟩ := info_parts infoJ
  obtain ⟨ao, q1, ap, q2, rfl, hka, hla⟩ := rep_c6 h
  have hvs : IsVs (fun k => P k ∧ k < w.heap.size) w (.slice ao xs.length q1) xs := ⟨ao, q1, rfl, fun hne => by
    obtain ⟨g, off, e, hp, hg, hr⟩ := hla hne
    exact ⟨g, off, e, ⟨hp, hg⟩, hg, RepL.mono (fun k hk hl => ⟨hk, hl⟩) xs hr⟩⟩
  have HKS := Lib.hid (RdK.mono (P' := fun k => P k ∧ k < w.heap.size) (fun k hk hl => ⟨hk, hl⟩) hka)
  obtain ⟨W0, hW0, hk0, hk1, hk2, hb0⟩ := three_o w #[.int .i64 k, .bool is, .int .i64 m, .string (mkS t), .slice ao xs.length q1, .slice ap ks.length q2] #[.int .i64 0, .bool false, .int .i64 0, .string ⟨#[]⟩, .slice none 0 0, .slice none 0 0] #[.int .i64 k, .bool is, .int .i64 m, .string (mkS t), .slice none 0 0, .slice ap ks.length q2] 36 25 25
  have HW0 := Lib.hid hW0
  have HB0 := Lib.hid hb0
  have HA := Lib.hid hk0
  have HR := Lib.hid hk1
  have HO := Lib.hid hk2
  have hlt : w.heap.size + 2 < W0.heap.size := (Array.getElem?_eq_some_iff.1 hk2).1
  have hW0s : W0.heap.size = w.heap.size + 3 := by rw [hW0]; simp
  have H := Lib.hid (hvs.keep (Kep.of hb0))
  have HSS := Lib.hid HS
  obtain ⟨a0, a1, a2, a3, a4, a5⟩ := cells6 hk0
  obtain ⟨n, hn⟩ : ∃ n, n = xs.length := ⟨_, rfl⟩
  have HN : Hid (xs.length = n) := hn.symm
  rw [← hn] at a4 H HW0 hlx HA ⊢
  clear hW0 hb0 hk0 hk1 hk2 h hka hla hvs HS hn
  obtain ⟨b0, hb0⟩ : ∃ B, B = (w.alloc (.cells #[.int .i64 k, .bool is, .int .i64 m, .string (mkS t), .slice ao n q1, .slice ap ks.length q2] 36)) := ⟨_, rfl⟩
  go_enter Tryd.func13, Tryd.ntmps13
  go_upto_region 2 with (fail)
  rw [← HW0.out]
  go_wp2
  clear a0 a1 a2 a3 a4 a5 b0 hb0
  go_loopw [20] (fun iv wr => ∃ (j : Nat) (aol : Option Addr) (ql : Nat), j ≤ n ∧ iv = .int .i64 j ∧ Hid (wr.heap[w.heap.size + 2]? = some (obV k is m (mkS t) aol j ql ap ks.length q2)) ∧ Hid (RW (fun k => (P k ∧ k < w.heap.size) ∨ W0.heap.size ≤ k) W0.heap.size 25 (.slice aol j ql) (xs.take j) wr) ∧ Hid (Grw (fun j => j = w.heap.size + 2) W0 wr)) (fun iv _ => n - (intOf iv).toNat)
  case atStart => exact ⟨0, none, 0, by omega, rfl, HO, Lib.hid (by rw [List.take_zero]; exact RW.nil _ _ _ _), Lib.hid (Grw.refl _ _)⟩
  case round =>
    obtain ⟨j, aol, ql, hj, rfl, HOr, HL, HG⟩ := hrel
    have hgs : W0.heap.size ≤ wr.heap.size := HG.out.size
    by_cases hlt2 : j < n
    · have HX1 := Lib.hid (show j < xs.length by rw [HN.out]; exact hlt2)
      have kepG : Kep (fun k => P k ∧ k < w.heap.size) W0 wr := ⟨HG.out.size, fun k hk hl => HG.out.block hl (by have := hk.2; omega)⟩
      obtain ⟨g1, o1, rfl, hg1, hat1⟩ := (H.out.keep kepG).at (by have := HX1.out; omega)
      have hj0 : (0 : Int) ≤ (j : Int) := by omega
      have hjl : (j : Int) < (n : Int) := by omega
      obtain ⟨cb, hcb, hrb⟩ := hat1 j HX1.out
      have HCC := Lib.hid (HSS.out j HX1.out (fun k => P k ∧ k < w.heap.size))
      have HTK : Hid (xs.take (j + 1) = xs.take j ++ [xs[j]'HX1.out]) := List.take_succ_eq_append_getElem HX1.out
      have HYL : Hid ((xs.take j).length = j) := by show _ = _; rw [List.length_take, HN.out]; omega
      obtain ⟨⟨k2, is', nn, t2, ixs, iks⟩, hx⟩ : ∃ x, xs[j]'HX1.out = x := ⟨_, rfl⟩
      rw [hx] at hrb HCC HTK
      obtain ⟨ao', q1', ap', q2', rfl, _⟩ := rep_c6 hrb
      obtain ⟨p0, p1, p2, p3, p4, p5⟩ := cs6 hcb
      obtain ⟨W1, hW1, hk1, hb1⟩ := one_r wr k2 is' nn (mkS t2) ao' ixs.length q1' ap' iks.length q2'
      have HW1 := Lib.hid hW1
      have HK1 := Lib.hid hk1
      have HB1 := Lib.hid hb1
      have HO1 : Hid (W1.heap[w.heap.size + 2]? = some (obV k is m (mkS t) aol j ql ap ks.length q2)) := (hb1.block _ (by omega)).trans HOr.out
      have HL1 := Lib.hid (HL.out.go hb1)
      have HRB := Lib.hid (Rep.keep (Kep.of hb1) _ hrb)
      have hn1 : g1 ≠ wr.heap.size := by omega
      have hz2' : wr.heap.size < W1.heap.size := (Array.getElem?_eq_some_iff.1 hk1).1
      have hd1 : Below W1.heap.size W1 W1.drew := (Below.refl _ _).drew
      have hd2 : Below W1.heap.size W1 W1.drew.drew := hd1.drew
      have HC1 := Lib.hid (HCC.out W1.drew _ (Rep.keep (P := fun k => P k ∧ k < w.heap.size) (Kep.of hd1) _ HRB.out))
      have HC2 := Lib.hid (HCC.out W1.drew.drew _ (Rep.keep (P := fun k => P k ∧ k < w.heap.size) (Kep.of hd2) _ HRB.out))
      generalize xs.take j = ys at HL1 HTK HYL
      have HV1 := Lib.hid HL1.out.lt
      unfold CuQ at HC1 HC2
      clear hat1 hcb hrb hx hW1 hk1 hb1 HL kepG hd1 hd2
      go_upto_region 5 with (fail)
      rw [← HW1.out]
      clear p0 p1 p2 p3 p4 p5
      obtain ⟨p0, p1, p2, p3, p4, p5⟩ := cells6 HK1.out
      have o4 := cell_of_row _ _ 4 _ _ _ HO1.out
      have D3 : Hid (j + 1 ≤ maxLen) := by show _ ≤ _; unfold maxLen; omega
      have D4 : Hid ((j + 1) * 88 ≤ 140737488355328) := by show _ ≤ _; omega
      go_region_law (first
        | (go_simp; (with_reducible refine (HC1.out).mono ?_); rintro e w4 ⟨xk, xb, xn, xt, xo, xl, xq, yo, yl, yq, rfl, hr4, hb4⟩; have HO4 : Hid (w4.heap[w.heap.size + 2]? = some (obV k is m (mkS t) aol j ql ap ks.length q2)) := (hb4.block _ (show w.heap.size + 2 < W1.drew.heap.size by show _ < W1.heap.size; omega)).trans HO1.out; obtain ⟨css, HOWN, HRA, HRX, HCE, HBA⟩ := ours_app HL1.out HYL.out hr4 rfl (show Below W1.heap.size W1 w4 from ⟨hb4.os, hb4.tape, hb4.output, hb4.size, hb4.block⟩) hgs hz2' (by omega); have o4 := cell_of_row _ _ 4 _ _ _ HO4.out; have oA : (w4.alloc (.cells #[.int .i64 xk, .bool xb, .int .i64 xn, .string xt, .slice xo xl xq, .slice yo yl yq] 25)).cell? ⟨w.heap.size + 1 + 1, 4, none⟩ = some (.slice aol j ql) := cell_of_row _ _ 4 _ _ _ ((((Below.refl w4.heap.size w4).alloc (Nat.le_refl _) _).block _ (Array.getElem?_eq_some_iff.1 HO4.out).1).trans HO4.out); have DE := Lib.hid (c6_one xk xb xn xt xo xl xq yo yl yq); have D5 : Hid (W0.heap.size ≤ (w4.alloc (obV xk xb xn xt xo xl xq yo yl yq)).heap.size) := (by show _ ≤ _; have := HBA.out.size; omega); clear hr4 hb4)
        | (refine step_append_lies _ rfl _ _ 22 rfl W0.heap.size 25 i0 _ 6 88 Tryd.underlying22 hi hz0 hz1 hz2 rfl (by decide) (.slice aol j ql) j (List.flatten css) rfl HOWN.out ⟨w4.heap.size, 0, none⟩ 1 1 (c6 xk xb xn xt xo xl xq yo yl yq) rfl rfl HCE.out DE.out (by decide) D3.out D4.out D5.out _ rfl ?_; intro g2 cap2 V2 hown2 hgrow2 hat2 hlt9; obtain ⟨HOV, HNX⟩ := ours_nxt HOWN.out HRA.out HRX.out HBA.out HO1.out HG.out HB1.out HYL.out HTK.out hown2 hgrow2 hat2 (by omega) (by omega); have o4 := cell_of_row _ _ 4 _ _ _ HOV.out; have f4 := frz HOV.out 4; clear hown2 hgrow2 hat2 hlt9))
      all_goals
        go_wp2
        go_roundw
        case rel => exact ⟨j + 1, _, _, by omega, by go_num, HNX.out⟩
        case measure => simp [intOf]; omega
    · have hjl : ¬ (j : Int) < (n : Int) := by omega
      have hjn : j = n := by omega
      have hxt : xs.take j = xs := by rw [hjn, ← HN.out]; exact List.take_of_length_le (Nat.le_refl _)
      rw [hxt] at HL
      obtain ⟨hl1, hl2⟩ := HL.out.list
      have hRr := (HG.out.block (Array.getElem?_eq_some_iff.1 HR.out).1 (by omega)).trans HR.out
      have HUr : Hid (Up w wr) := Up.one (Grw.of_below HB0.out (fun k h _ => h)) HG.out (by omega)
      obtain ⟨a0, a1, a2, a3, a4, a5⟩ := cells6 HOr.out
      obtain ⟨u0, u1, u2, u3, u4, u5⟩ := cells6 hRr
      have z0 := frz hRr 0
      have z1 := frz hRr 1
      have z2 := frz hRr 2
      have z3 := frz hRr 3
      have z4 := frz hRr 4
      have z5 := frz hRr 5
      have HH := Lib.hid (set6 hRr (.int .i64 k) (.bool is) (.int .i64 m) (.string (mkS t)) (.slice aol j ql) (.slice ap ks.length q2))
      have HZ := Lib.hid (gr_set6 wr (w.heap.size + 1) (.int .i64 k) (.bool is) (.int .i64 m) (.string (mkS t)) (.slice aol j ql) (.slice ap ks.length q2))
      have HQ := Lib.hid (RdK.keep (P := fun k => P k ∧ k < w.heap.size) ⟨HUr.out.size, fun k hk hl => HUr.out.block hl (by have := hk.2; omega)⟩ HKS.out)
      have HX : Hid (xs ≠ [] → ∃ g off, aol = some ⟨g, off, none⟩ ∧ ((P g ∧ g < w.heap.size) ∨ w.heap.size + 2 ≤ g) ∧ g < wr.heap.size ∧ RepL (fun k => (P k ∧ k < w.heap.size) ∨ w.heap.size + 2 ≤ k) wr xs g off) := fun hne => by
        obtain ⟨g, off, e, hg, hlt', hr⟩ := hl2 hne
        refine ⟨g, off, e, ?_, hlt', RepL.mono (fun k hk _ => ?_) _ hr⟩
        · rcases hg with (h | h) | h
          · exact .inl h
          · exact .inr (by omega)
          · exact .inr (by omega)
        · rcases hk with (h | h) | h
          · exact .inl h
          · exact .inr (by omega)
          · exact .inr (by omega)
      have HJ := Lib.hid hl1
      clear hl1 hl2 hRr hxt hjn HL
      go_wp2_with fail
      obtain ⟨d0, d1, d2, d3, d4, d5⟩ := cells6 HH.out
      clear u0 u1 u2 u3 u4 u5 z0 z1 z2 z3 z4 z5 a0 a1 a2 a3 a4 a5
      (with_reducible refine bodyPost_ret (v := .agg #[.int .i64 k, .bool is, .int .i64 m, .string (mkS t), .slice aol j ql, .slice ap ks.length q2]) (by simp [results, Tryd.results13, go_sem, d0, d1, d2, d3, d4, d5]) rfl ?_)
      exact CuQ.weak (cu_fin HUr.out HZ.out HJ.out HX.out (RdK.mono (fun k hk _ => ⟨hk, hk.2⟩) HQ.out) (fun k hk => hk.2))
theorem ours_all : ∀ (d : Nat) (x : JV), SizeOf.sizeOf x ≤ d → wid x ≤ 100000 → ∀ (P : Nat → Prop) (W : World) (ca : List Value), Rep P W x ca → Calls Tryd.prog 13 #[.agg ca.toArray] W (CuQ x P W)
  | 0, .mk k is m t xs ks, hd, hw, P, W, ca, h => by rw [JV.mk.sizeOf_spec] at hd; omega
  | d + 1, .mk k is m t xs ks, hd, hw, P, W, ca, h => ours_step P k is m t xs ks W ca h (by rw [wid] at hw; omega) (fun i hi Q V cb hr =>
    ours_all d xs[i] (by have := List.sizeOf_lt_of_mem (List.getElem_mem hi); rw [JV.mk.sizeOf_spec] at hd; omega) (by rw [wid] at hw; have := wid_mem hi; omega) Q V cb hr)
theorem Ours_c {P : Nat → Prop} {x : JV} {W : World} {ca : List Value} (h : Rep P W x ca) (hw : wid x ≤ 100000) : Calls Tryd.prog 13 #[.agg ca.toArray] W (CuQ x P W) := ours_all _ x (Nat.le_refl _) hw P W ca h
end Go.Proofs.YtkphainopofejaaDoor.Jv
namespace Go.Proofs.YtkphainopofejaaDoor.Jv
open Jt
open Go.RowKit Go.ChangeMaps Go.MapKept Go.WideMaps
set_option linter.unusedSimpArgs false
set_option linter.unusedVariables false

set_option maxRecDepth 100000 in
set_option maxHeartbeats 4000000 in
theorem sr_ne (k k' : Int) (is : Bool) (n : Int) (tx : ByteArray) (ao : Option Addr) (l1 q1 : Nat) (ap : Option Addr) (l2 q2 : Nat) (is' : Bool) (n' : Int) (tx' : ByteArray) (ao' : Option Addr) (l1' q1' : Nat) (ap' : Option Addr) (l2' q2' : Nat) (w : World) (he : k ≠ k') :
    Calls Tryd.prog 14 #[.agg #[.int .i64 k, .bool is, .int .i64 n, .string tx, .slice ao l1 q1, .slice ap l2 q2], .agg #[.int .i64 k', .bool is', .int .i64 n', .string tx', .slice ao' l1' q1', .slice ap' l2' q2']] w (SmQ false w) := by
  obtain ⟨W0, hW0, hk0, hk1, hb0⟩ := two_o w #[.int .i64 k, .bool is, .int .i64 n, .string tx, .slice ao l1 q1, .slice ap l2 q2] #[.int .i64 k', .bool is', .int .i64 n', .string tx', .slice ao' l1' q1', .slice ap' l2' q2'] 36 36
  have HW0 := Lib.hid hW0
  have HB0 := Lib.hid hb0
  have HA0 := Lib.hid hk0
  have HA1 := Lib.hid hk1
  obtain ⟨a0, a1, a2, a3, a4, a5⟩ := cells6 hk0
  obtain ⟨c0, c1, c2, c3, c4, c5⟩ := cells6 hk1
  have e1 : (k == k') = false := by simpa using he
  have e2 : (k != k') = true := by rw [bne, e1]; rfl
  clear he
  clear hW0 hb0 hk0 hk1
  go_enter Tryd.func14, Tryd.ntmps14
  go_upto_region 1 with (fail)
  rw [← HW0.out]
  go_wp2
  go_ret
  exact ⟨rfl, HB0.out⟩
set_option maxRecDepth 100000 in
set_option maxHeartbeats 4000000 in
theorem sr_1f (is : Bool) (n : Int) (tx : ByteArray) (ao : Option Addr) (l1 q1 : Nat) (ap : Option Addr) (l2 q2 : Nat) (is' : Bool) (n' : Int) (tx' : ByteArray) (ao' : Option Addr) (l1' q1' : Nat) (ap' : Option Addr) (l2' q2' : Nat) (w : World) (he : ¬ is = is') :
    Calls Tryd.prog 14 #[.agg #[.int .i64 1, .bool is, .int .i64 n, .string tx, .slice ao l1 q1, .slice ap l2 q2], .agg #[.int .i64 1, .bool is', .int .i64 n', .string tx', .slice ao' l1' q1', .slice ap' l2' q2']] w (SmQ false w) := by
  obtain ⟨W0, hW0, hk0, hk1, hb0⟩ := two_o w #[.int .i64 1, .bool is, .int .i64 n, .string tx, .slice ao l1 q1, .slice ap l2 q2] #[.int .i64 1, .bool is', .int .i64 n', .string tx', .slice ao' l1' q1', .slice ap' l2' q2'] 36 36
  have HW0 := Lib.hid hW0
  have HB0 := Lib.hid hb0
  have HA0 := Lib.hid hk0
  have HA1 := Lib.hid hk1
  obtain ⟨a0, a1, a2, a3, a4, a5⟩ := cells6 hk0
  obtain ⟨c0, c1, c2, c3, c4, c5⟩ := cells6 hk1
  have e1 : (is == is') = false := by simpa using he
  have e2 : (is != is') = true := by rw [bne, e1]; rfl
  clear he
  clear hW0 hb0 hk0 hk1
  go_enter Tryd.func14, Tryd.ntmps14
  go_upto_region 1 with (fail)
  rw [← HW0.out]
  go_wp2
  go_ret
  exact ⟨rfl, HB0.out⟩
set_option maxRecDepth 100000 in
set_option maxHeartbeats 4000000 in
theorem sr_1t (is : Bool) (n : Int) (tx : ByteArray) (ao : Option Addr) (l1 q1 : Nat) (ap : Option Addr) (l2 q2 : Nat) (is' : Bool) (n' : Int) (tx' : ByteArray) (ao' : Option Addr) (l1' q1' : Nat) (ap' : Option Addr) (l2' q2' : Nat) (w : World) (he : is = is') :
    Calls Tryd.prog 14 #[.agg #[.int .i64 1, .bool is, .int .i64 n, .string tx, .slice ao l1 q1, .slice ap l2 q2], .agg #[.int .i64 1, .bool is', .int .i64 n', .string tx', .slice ao' l1' q1', .slice ap' l2' q2']] w (SmQ true w) := by
  obtain ⟨W0, hW0, hk0, hk1, hb0⟩ := two_o w #[.int .i64 1, .bool is, .int .i64 n, .string tx, .slice ao l1 q1, .slice ap l2 q2] #[.int .i64 1, .bool is', .int .i64 n', .string tx', .slice ao' l1' q1', .slice ap' l2' q2'] 36 36
  have HW0 := Lib.hid hW0
  have HB0 := Lib.hid hb0
  have HA0 := Lib.hid hk0
  have HA1 := Lib.hid hk1
  obtain ⟨a0, a1, a2, a3, a4, a5⟩ := cells6 hk0
  obtain ⟨c0, c1, c2, c3, c4, c5⟩ := cells6 hk1
  have e1 : (is == is') = true := by simpa using he
  have e2 : (is != is') = false := by rw [bne, e1]; rfl
  clear he
  clear hW0 hb0 hk0 hk1
  go_enter Tryd.func14, Tryd.ntmps14
  go_upto_region 1 with (fail)
  rw [← HW0.out]
  go_wp2
  go_ret
  exact ⟨rfl, HB0.out⟩
set_option maxRecDepth 100000 in
set_option maxHeartbeats 4000000 in
theorem sr_2f (is : Bool) (n : Int) (tx : ByteArray) (ao : Option Addr) (l1 q1 : Nat) (ap : Option Addr) (l2 q2 : Nat) (is' : Bool) (n' : Int) (tx' : ByteArray) (ao' : Option Addr) (l1' q1' : Nat) (ap' : Option Addr) (l2' q2' : Nat) (w : World) (he : ¬ n = n') :
    Calls Tryd.prog 14 #[.agg #[.int .i64 2, .bool is, .int .i64 n, .string tx, .slice ao l1 q1, .slice ap l2 q2], .agg #[.int .i64 2, .bool is', .int .i64 n', .string tx', .slice ao' l1' q1', .slice ap' l2' q2']] w (SmQ false w) := by
  obtain ⟨W0, hW0, hk0, hk1, hb0⟩ := two_o w #[.int .i64 2, .bool is, .int .i64 n, .string tx, .slice ao l1 q1, .slice ap l2 q2] #[.int .i64 2, .bool is', .int .i64 n', .string tx', .slice ao' l1' q1', .slice ap' l2' q2'] 36 36
  have HW0 := Lib.hid hW0
  have HB0 := Lib.hid hb0
  have HA0 := Lib.hid hk0
  have HA1 := Lib.hid hk1
  obtain ⟨a0, a1, a2, a3, a4, a5⟩ := cells6 hk0
  obtain ⟨c0, c1, c2, c3, c4, c5⟩ := cells6 hk1
  have e1 : (n == n') = false := by simpa using he
  have e2 : (n != n') = true := by rw [bne, e1]; rfl
  clear he
  clear hW0 hb0 hk0 hk1
  go_enter Tryd.func14, Tryd.ntmps14
  go_upto_region 1 with (fail)
  rw [← HW0.out]
  go_wp2
  go_ret
  exact ⟨rfl, HB0.out⟩
set_option maxRecDepth 100000 in
set_option maxHeartbeats 4000000 in
theorem sr_2t (is : Bool) (n : Int) (tx : ByteArray) (ao : Option Addr) (l1 q1 : Nat) (ap : Option Addr) (l2 q2 : Nat) (is' : Bool) (n' : Int) (tx' : ByteArray) (ao' : Option Addr) (l1' q1' : Nat) (ap' : Option Addr) (l2' q2' : Nat) (w : World) (he : n = n') :
    Calls Tryd.prog 14 #[.agg #[.int .i64 2, .bool is, .int .i64 n, .string tx, .slice ao l1 q1, .slice ap l2 q2], .agg #[.int .i64 2, .bool is', .int .i64 n', .string tx', .slice ao' l1' q1', .slice ap' l2' q2']] w (SmQ true w) := by
  obtain ⟨W0, hW0, hk0, hk1, hb0⟩ := two_o w #[.int .i64 2, .bool is, .int .i64 n, .string tx, .slice ao l1 q1, .slice ap l2 q2] #[.int .i64 2, .bool is', .int .i64 n', .string tx', .slice ao' l1' q1', .slice ap' l2' q2'] 36 36
  have HW0 := Lib.hid hW0
  have HB0 := Lib.hid hb0
  have HA0 := Lib.hid hk0
  have HA1 := Lib.hid hk1
  obtain ⟨a0, a1, a2, a3, a4, a5⟩ := cells6 hk0
  obtain ⟨c0, c1, c2, c3, c4, c5⟩ := cells6 hk1
  have e1 : (n == n') = true := by simpa using he
  have e2 : (n != n') = false := by rw [bne, e1]; rfl
  clear he
  clear hW0 hb0 hk0 hk1
  go_enter Tryd.func14, Tryd.ntmps14
  go_upto_region 1 with (fail)
  rw [← HW0.out]
  go_wp2
  go_ret
  exact ⟨rfl, HB0.out⟩
set_option maxRecDepth 100000 in
set_option maxHeartbeats 4000000 in
theorem sr_3f (is : Bool) (n : Int) (tx : ByteArray) (ao : Option Addr) (l1 q1 : Nat) (ap : Option Addr) (l2 q2 : Nat) (is' : Bool) (n' : Int) (tx' : ByteArray) (ao' : Option Addr) (l1' q1' : Nat) (ap' : Option Addr) (l2' q2' : Nat) (w : World) (e1 : (tx.toList == tx'.toList) = false) :
    Calls Tryd.prog 14 #[.agg #[.int .i64 3, .bool is, .int .i64 n, .string tx, .slice ao l1 q1, .slice ap l2 q2], .agg #[.int .i64 3, .bool is', .int .i64 n', .string tx', .slice ao' l1' q1', .slice ap' l2' q2']] w (SmQ false w) := by
  obtain ⟨W0, hW0, hk0, hk1, hb0⟩ := two_o w #[.int .i64 3, .bool is, .int .i64 n, .string tx, .slice ao l1 q1, .slice ap l2 q2] #[.int .i64 3, .bool is', .int .i64 n', .string tx', .slice ao' l1' q1', .slice ap' l2' q2'] 36 36
  have HW0 := Lib.hid hW0
  have HB0 := Lib.hid hb0
  have HA0 := Lib.hid hk0
  have HA1 := Lib.hid hk1
  obtain ⟨a0, a1, a2, a3, a4, a5⟩ := cells6 hk0
  obtain ⟨c0, c1, c2, c3, c4, c5⟩ := cells6 hk1
  have e2 : (tx.toList != tx'.toList) = true := by rw [bne, e1]; rfl
  clear hW0 hb0 hk0 hk1
  go_enter Tryd.func14, Tryd.ntmps14
  go_upto_region 1 with (fail)
  rw [← HW0.out]
  go_wp2
  go_ret
  exact ⟨rfl, HB0.out⟩
set_option maxRecDepth 100000 in
set_option maxHeartbeats 4000000 in
theorem sr_3t (is : Bool) (n : Int) (tx : ByteArray) (ao : Option Addr) (l1 q1 : Nat) (ap : Option Addr) (l2 q2 : Nat) (is' : Bool) (n' : Int) (tx' : ByteArray) (ao' : Option Addr) (l1' q1' : Nat) (ap' : Option Addr) (l2' q2' : Nat) (w : World) (e1 : (tx.toList == tx'.toList) = true) :
    Calls Tryd.prog 14 #[.agg #[.int .i64 3, .bool is, .int .i64 n, .string tx, .slice ao l1 q1, .slice ap l2 q2], .agg #[.int .i64 3, .bool is', .int .i64 n', .string tx', .slice ao' l1' q1', .slice ap' l2' q2']] w (SmQ true w) := by
  obtain ⟨W0, hW0, hk0, hk1, hb0⟩ := two_o w #[.int .i64 3, .bool is, .int .i64 n, .string tx, .slice ao l1 q1, .slice ap l2 q2] #[.int .i64 3, .bool is', .int .i64 n', .string tx', .slice ao' l1' q1', .slice ap' l2' q2'] 36 36
  have HW0 := Lib.hid hW0
  have HB0 := Lib.hid hb0
  have HA0 := Lib.hid hk0
  have HA1 := Lib.hid hk1
  obtain ⟨a0, a1, a2, a3, a4, a5⟩ := cells6 hk0
  obtain ⟨c0, c1, c2, c3, c4, c5⟩ := cells6 hk1
  have e2 : (tx.toList != tx'.toList) = false := by rw [bne, e1]; rfl
  clear hW0 hb0 hk0 hk1
  go_enter Tryd.func14, Tryd.ntmps14
  go_upto_region 1 with (fail)
  rw [← HW0.out]
  go_wp2
  go_ret
  exact ⟨rfl, HB0.out⟩
set_option maxRecDepth 100000 in
set_option maxHeartbeats 4000000 in
theorem sr_o (k : Int) (is : Bool) (n : Int) (tx : ByteArray) (ao : Option Addr) (l1 q1 : Nat) (ap : Option Addr) (l2 q2 : Nat) (is' : Bool) (n' : Int) (tx' : ByteArray) (ao' : Option Addr) (l1' q1' : Nat) (ap' : Option Addr) (l2' q2' : Nat) (w : World) (hk : k ≠ 1 ∧ k ≠ 2 ∧ k ≠ 3 ∧ k ≠ 5 ∧ k ≠ 4) :
    Calls Tryd.prog 14 #[.agg #[.int .i64 k, .bool is, .int .i64 n, .string tx, .slice ao l1 q1, .slice ap l2 q2], .agg #[.int .i64 k, .bool is', .int .i64 n', .string tx', .slice ao' l1' q1', .slice ap' l2' q2']] w (SmQ true w) := by
  obtain ⟨W0, hW0, hk0, hk1, hb0⟩ := two_o w #[.int .i64 k, .bool is, .int .i64 n, .string tx, .slice ao l1 q1, .slice ap l2 q2] #[.int .i64 k, .bool is', .int .i64 n', .string tx', .slice ao' l1' q1', .slice ap' l2' q2'] 36 36
  have HW0 := Lib.hid hW0
  have HB0 := Lib.hid hb0
  have HA0 := Lib.hid hk0
  have HA1 := Lib.hid hk1
  obtain ⟨a0, a1, a2, a3, a4, a5⟩ := cells6 hk0
  obtain ⟨c0, c1, c2, c3, c4, c5⟩ := cells6 hk1
  obtain ⟨h1, h2, h3, h4, h5⟩ := hk
  have e1 : (k == 1) = false := by simpa using h1
  have e2 : (k == 2) = false := by simpa using h2
  have e3 : (k == 3) = false := by simpa using h3
  have e4 : (k == 5) = false := by simpa using h4
  have e5 : (k == 4) = false := by simpa using h5
  have g4 : (k != 5) = true := by rw [bne, e4]; rfl
  have g5 : (k != 4) = true := by rw [bne, e5]; rfl
  clear h1 h2 h3 h4 h5
  clear hW0 hb0 hk0 hk1
  go_enter Tryd.func14, Tryd.ntmps14
  go_upto_region 1 with (fail)
  rw [← HW0.out]
  go_wp2
  go_ret
  exact ⟨rfl, HB0.out⟩
set_option maxRecDepth 100000 in
set_option maxHeartbeats 4000000 in
theorem sr_4n (is : Bool) (n : Int) (tx : ByteArray) (ao : Option Addr) (l1 q1 : Nat) (ap : Option Addr) (l2 q2 : Nat) (is' : Bool) (n' : Int) (tx' : ByteArray) (ao' : Option Addr) (l1' q1' : Nat) (ap' : Option Addr) (l2' q2' : Nat) (w : World) (he : l1 ≠ l1') :
    Calls Tryd.prog 14 #[.agg #[.int .i64 4, .bool is, .int .i64 n, .string tx, .slice ao l1 q1, .slice ap l2 q2], .agg #[.int .i64 4, .bool is', .int .i64 n', .string tx', .slice ao' l1' q1', .slice ap' l2' q2']] w (SmQ false w) := by
  obtain ⟨W0, hW0, hk0, hk1, hb0⟩ := two_o w #[.int .i64 4, .bool is, .int .i64 n, .string tx, .slice ao l1 q1, .slice ap l2 q2] #[.int .i64 4, .bool is', .int .i64 n', .string tx', .slice ao' l1' q1', .slice ap' l2' q2'] 36 36
  have HW0 := Lib.hid hW0
  have HB0 := Lib.hid hb0
  have HA0 := Lib.hid hk0
  have HA1 := Lib.hid hk1
  obtain ⟨a0, a1, a2, a3, a4, a5⟩ := cells6 hk0
  obtain ⟨c0, c1, c2, c3, c4, c5⟩ := cells6 hk1
  have r1 : ((l1 : Int) == (l1' : Int)) = false := by simpa using (by omega : ¬ (l1 : Int) = (l1' : Int))
  have r2 : ((l1 : Int) != (l1' : Int)) = true := by rw [bne, r1]; rfl
  clear hW0 hb0 hk0 hk1
  go_enter Tryd.func14, Tryd.ntmps14
  go_upto_region 1 with (fail)
  rw [← HW0.out]
  go_wp2
  go_ret
  exact ⟨rfl, HB0.out⟩
set_option maxRecDepth 100000 in
set_option maxHeartbeats 4000000 in
theorem sr_5n (is : Bool) (n : Int) (tx : ByteArray) (ao : Option Addr) (l1 q1 : Nat) (ap : Option Addr) (l2 q2 : Nat) (is' : Bool) (n' : Int) (tx' : ByteArray) (ao' : Option Addr) (l1' q1' : Nat) (ap' : Option Addr) (l2' q2' : Nat) (w : World) (he : l1 ≠ l1') :
    Calls Tryd.prog 14 #[.agg #[.int .i64 5, .bool is, .int .i64 n, .string tx, .slice ao l1 q1, .slice ap l2 q2], .agg #[.int .i64 5, .bool is', .int .i64 n', .string tx', .slice ao' l1' q1', .slice ap' l2' q2']] w (SmQ false w) := by
  obtain ⟨W0, hW0, hk0, hk1, hb0⟩ := two_o w #[.int .i64 5, .bool is, .int .i64 n, .string tx, .slice ao l1 q1, .slice ap l2 q2] #[.int .i64 5, .bool is', .int .i64 n', .string tx', .slice ao' l1' q1', .slice ap' l2' q2'] 36 36
  have HW0 := Lib.hid hW0
  have HB0 := Lib.hid hb0
  have HA0 := Lib.hid hk0
  have HA1 := Lib.hid hk1
  obtain ⟨a0, a1, a2, a3, a4, a5⟩ := cells6 hk0
  obtain ⟨c0, c1, c2, c3, c4, c5⟩ := cells6 hk1
  have r1 : ((l1 : Int) == (l1' : Int)) = false := by simpa using (by omega : ¬ (l1 : Int) = (l1' : Int))
  have r2 : ((l1 : Int) != (l1' : Int)) = true := by rw [bne, r1]; rfl
  clear hW0 hb0 hk0 hk1
  go_enter Tryd.func14, Tryd.ntmps14
  go_upto_region 1 with (fail)
  rw [← HW0.out]
  go_wp2
  go_ret
  exact ⟨rfl, HB0.out⟩
set_option maxRecDepth 100000 in
set_option maxHeartbeats 4000000 in
theorem sr_5k (is : Bool) (n : Int) (tx : ByteArray) (ao : Option Addr) (l1 q1 : Nat) (ap : Option Addr) (l2 q2 : Nat) (is' : Bool) (n' : Int) (tx' : ByteArray) (ao' : Option Addr) (l1' q1' : Nat) (ap' : Option Addr) (l2' q2' : Nat) (w : World) (hl : l1 = l1') (he : l2 ≠ l2') :
    Calls Tryd.prog 14 #[.agg #[.int .i64 5, .bool is, .int .i64 n, .string tx, .slice ao l1 q1, .slice ap l2 q2], .agg #[.int .i64 5, .bool is', .int .i64 n', .string tx', .slice ao' l1' q1', .slice ap' l2' q2']] w (SmQ false w) := by
  subst hl
  obtain ⟨W0, hW0, hk0, hk1, hb0⟩ := two_o w #[.int .i64 5, .bool is, .int .i64 n, .string tx, .slice ao l1 q1, .slice ap l2 q2] #[.int .i64 5, .bool is', .int .i64 n', .string tx', .slice ao' l1 q1', .slice ap' l2' q2'] 36 36
  have HW0 := Lib.hid hW0
  have HB0 := Lib.hid hb0
  have HA0 := Lib.hid hk0
  have HA1 := Lib.hid hk1
  obtain ⟨a0, a1, a2, a3, a4, a5⟩ := cells6 hk0
  obtain ⟨c0, c1, c2, c3, c4, c5⟩ := cells6 hk1
  have r1 : ((l2 : Int) == (l2' : Int)) = false := by simpa using (by omega : ¬ (l2 : Int) = (l2' : Int))
  have r2 : ((l2 : Int) != (l2' : Int)) = true := by rw [bne, r1]; rfl
  clear hW0 hb0 hk0 hk1
  go_enter Tryd.func14, Tryd.ntmps14
  go_upto_region 1 with (fail)
  rw [← HW0.out]
  go_wp2
  go_ret
  exact ⟨rfl, HB0.out⟩
set_option maxRecDepth 100000 in
set_option maxHeartbeats 4000000 in
theorem sr_4 (P Q : Nat → Prop) (xs ys : List JV) (l2 l2' : Nat) (is : Bool) (n : Int) (tx : ByteArray) (ao : Option Addr) (q1 : Nat) (ap : Option Addr) (q2 : Nat) (is' : Bool) (n' : Int) (tx' : ByteArray) (ao' : Option Addr) (q1' : Nat) (ap' : Option Addr) (q2' : Nat) (w : World)
    (h1 : IsVs P w (.slice ao xs.length q1) xs) (h2 : IsVs Q w (.slice ao' ys.length q1') ys) (hl : xs.length = ys.length) (hx : xs.length ≤ 1000000) (hk : l2 ≤ 1000000)
    (HS : ∀ i (hi : i < xs.length) (hj : i < ys.length) (W : World) (ca cb : List Value), Rep P W xs[i] ca → Rep Q W ys[i] cb → Calls Tryd.prog 14 #[.agg ca.toArray, .agg cb.toArray] W (SmQ (smJ xs[i] ys[i]) W)) :
    Calls Tryd.prog 14 #[.agg #[.int .i64 4, .bool is, .int .i64 n, .string tx, .slice ao xs.length q1, .slice ap l2 q2], .agg #[.int .i64 4, .bool is', .int .i64 n', .string tx', .slice ao' ys.length q1', .slice ap' l2' q2']] w (SmQ (smL xs ys) w) := by
  obtain ⟨n0, hn0⟩ : ∃ n0, n0 = xs.length := ⟨_, rfl⟩
  have HN : Hid (xs.length = n0 ∧ ys.length = n0) := ⟨hn0.symm, by omega⟩
  have hx0 : n0 ≤ 1000000 := by omega
  rw [← hl, ← hn0]
  rw [HN.out.1] at h1
  rw [HN.out.2] at h2
  obtain ⟨W0, hW0, hk0', hk1, hb0⟩ := two_o w #[.int .i64 4, .bool is, .int .i64 n, .string tx, .slice ao n0 q1, .slice ap l2 q2] #[.int .i64 4, .bool is', .int .i64 n', .string tx', .slice ao' n0 q1', .slice ap' l2' q2'] 36 36
  have HW0 := Lib.hid hW0
  have HB0 := Lib.hid hb0
  have HA0 := Lib.hid hk0'
  have HA1 := Lib.hid hk1
  have hsz : W0.heap.size = w.heap.size + 2 := by rw [hW0]; simp
  obtain ⟨a0, a1, a2, a3, a4, a5⟩ := cells6 hk0'
  obtain ⟨c0, c1, c2, c3, c4, c5⟩ := cells6 hk1
  have H1 := Lib.hid (h1.keep (Kep.of hb0))
  have H2 := Lib.hid (h2.keep (Kep.of hb0))
  have HSS := Lib.hid HS
  clear hW0 hb0 hk0' hk1 HS h1 h2 hl hx hn0
  go_enter Tryd.func14, Tryd.ntmps14
  go_upto_region 1 with (fail)
  rw [← HW0.out]
  go_wp2
  clear a0 a1 a2 a3 a4 a5 c0 c1 c2 c3 c4 c5
  go_loopw [80] (fun iv wr => ∃ j : Nat, j ≤ n0 ∧ iv = .int .i64 j ∧ Hid (smL (xs.take j) (ys.take j) = true) ∧ Hid (Below W0.heap.size W0 wr)) (fun iv _ => n0 - (intOf iv).toNat)
  case atStart => exact ⟨0, by omega, rfl, Lib.hid (by simp [smL]), Lib.hid (Below.refl _ _)⟩
  case round =>
    obtain ⟨j, hj, rfl, HT, HB⟩ := hrel
    have k4 : wr.cell? ⟨w.heap.size, 4, none⟩ = some (.slice ao n0 q1) := cell_of_row _ _ 4 _ _ _ ((HB.out.block _ (Array.getElem?_eq_some_iff.1 HA0.out).1).trans HA0.out)
    have k5 : wr.cell? ⟨w.heap.size, 5, none⟩ = some (.slice ap l2 q2) := cell_of_row _ _ 5 _ _ _ ((HB.out.block _ (Array.getElem?_eq_some_iff.1 HA0.out).1).trans HA0.out)
    have l4 : wr.cell? ⟨w.heap.size + 1, 4, none⟩ = some (.slice ao' n0 q1') := cell_of_row _ _ 4 _ _ _ ((HB.out.block _ (Array.getElem?_eq_some_iff.1 HA1.out).1).trans HA1.out)
    have hws := HB.out.size
    by_cases hlt : j < n0
    · have HX1 := Lib.hid (show j < xs.length by rw [HN.out.1]; exact hlt)
      have HY1 := Lib.hid (show j < ys.length by rw [HN.out.2]; exact hlt)
      obtain ⟨g1, o1, rfl, hg1, hat1⟩ := (H1.out.keep (Kep.of HB.out)).at (by have := HX1.out; omega)
      obtain ⟨g2, o2, rfl, hg2, hat2⟩ := (H2.out.keep (Kep.of HB.out)).at (by have := HY1.out; omega)
      have hj0 : (0 : Int) ≤ (j : Int) := by omega
      have hjl : (j : Int) < (n0 : Int) := by omega
      obtain ⟨ca, hca, hra⟩ := hat1 j HX1.out
      obtain ⟨cb, hcb, hrb⟩ := hat2 j HY1.out
      have HTS : Hid (smL (xs.take (j + 1)) (ys.take (j + 1)) = smJ (xs[j]'HX1.out) (ys[j]'HY1.out)) := by
        show _ = _
        rw [List.take_succ_eq_append_getElem HX1.out, List.take_succ_eq_append_getElem HY1.out, smL_snoc _ _ (by rw [List.length_take, List.length_take, HN.out.1, HN.out.2]), HT.out, Bool.true_and]
      have HPF := Lib.hid (smL_pre HX1.out HY1.out)
      obtain ⟨⟨xk, xi, xn, xt, ixs, iks⟩, hx⟩ : ∃ x, xs[j]'HX1.out = x := ⟨_, rfl⟩
      obtain ⟨⟨yk, yi, yn, yt, iys, jks⟩, hy⟩ : ∃ y, ys[j]'HY1.out = y := ⟨_, rfl⟩
      have HCC := Lib.hid (fun W => HSS.out j HX1.out HY1.out W)
      rw [hx] at hra
      rw [hy] at hrb
      rw [hx, hy] at HTS HPF
      rw [hx, hy] at HCC
      obtain ⟨xo, xq, xp, xr, rfl, _⟩ := rep_c6 hra
      obtain ⟨yo, yq, yp, yr, rfl, _⟩ := rep_c6 hrb
      obtain ⟨p0, p1, p2, p3, p4, p5⟩ := cs6 hca
      obtain ⟨r0, r1, r2, r3, r4, r5⟩ := cs6 hcb
      have hd1 : Below wr.heap.size wr wr.drew := (Below.refl _ _).drew
      have HCS := Lib.hid (HCC.out wr.drew _ _ (Rep.keep (Kep.of hd1) _ hra) (Rep.keep (Kep.of hd1) _ hrb))
      have HSK : Hid (∀ V : World, Below wr.heap.size wr V → V.cell? ⟨w.heap.size, 4, none⟩ = some (.slice (some ⟨g1, o1, none⟩) n0 q1) ∧ V.cell? ⟨w.heap.size + 1, 4, none⟩ = some (.slice (some ⟨g2, o2, none⟩) n0 q1') ∧ V.cell? ⟨g1, o1 + j * 6, none⟩ = some (.int .i64 xk) ∧ V.cell? ⟨g1, o1 + j * 6 + 1, none⟩ = some (.bool xi) ∧ V.cell? ⟨g1, o1 + j * 6 + 2, none⟩ = some (.int .i64 xn) ∧ V.cell? ⟨g1, o1 + j * 6 + 3, none⟩ = some (.string (mkS xt)) ∧ V.cell? ⟨g1, o1 + j * 6 + 4, none⟩ = some (.slice xo ixs.length xq) ∧ V.cell? ⟨g1, o1 + j * 6 + 5, none⟩ = some (.slice xp iks.length xr) ∧ V.cell? ⟨g2, o2 + j * 6, none⟩ = some (.int .i64 yk) ∧ V.cell? ⟨g2, o2 + j * 6 + 1, none⟩ = some (.bool yi) ∧ V.cell? ⟨g2, o2 + j * 6 + 2, none⟩ = some (.int .i64 yn) ∧ V.cell? ⟨g2, o2 + j * 6 + 3, none⟩ = some (.string (mkS yt)) ∧ V.cell? ⟨g2, o2 + j * 6 + 4, none⟩ = some (.slice yo iys.length yq) ∧ V.cell? ⟨g2, o2 + j * 6 + 5, none⟩ = some (.slice yp jks.length yr)) := fun V hV => ⟨(hV.cell (p := ⟨w.heap.size, 4, none⟩) (show w.heap.size < _ by omega)).trans k4, (hV.cell (p := ⟨w.heap.size + 1, 4, none⟩) (show w.heap.size + 1 < _ by omega)).trans l4, (hV.cell (p := ⟨g1, _, none⟩) hg1).trans p0, (hV.cell (p := ⟨g1, _, none⟩) hg1).trans p1, (hV.cell (p := ⟨g1, _, none⟩) hg1).trans p2, (hV.cell (p := ⟨g1, _, none⟩) hg1).trans p3, (hV.cell (p := ⟨g1, _, none⟩) hg1).trans p4, (hV.cell (p := ⟨g1, _, none⟩) hg1).trans p5, (hV.cell (p := ⟨g2, _, none⟩) hg2).trans r0, (hV.cell (p := ⟨g2, _, none⟩) hg2).trans r1, (hV.cell (p := ⟨g2, _, none⟩) hg2).trans r2, (hV.cell (p := ⟨g2, _, none⟩) hg2).trans r3, (hV.cell (p := ⟨g2, _, none⟩) hg2).trans r4, (hV.cell (p := ⟨g2, _, none⟩) hg2).trans r5⟩
      have HS0 : Hid (wr.cell? ⟨w.heap.size, 4, none⟩ = some (.slice (some ⟨g1, o1, none⟩) n0 q1) ∧ wr.cell? ⟨w.heap.size + 1, 4, none⟩ = some (.slice (some ⟨g2, o2, none⟩) n0 q1') ∧ wr.cell? ⟨g1, o1 + j * 6, none⟩ = some (.int .i64 xk) ∧ wr.cell? ⟨g1, o1 + j * 6 + 1, none⟩ = some (.bool xi) ∧ wr.cell? ⟨g1, o1 + j * 6 + 2, none⟩ = some (.int .i64 xn) ∧ wr.cell? ⟨g1, o1 + j * 6 + 3, none⟩ = some (.string (mkS xt)) ∧ wr.cell? ⟨g1, o1 + j * 6 + 4, none⟩ = some (.slice xo ixs.length xq) ∧ wr.cell? ⟨g1, o1 + j * 6 + 5, none⟩ = some (.slice xp iks.length xr) ∧ wr.cell? ⟨g2, o2 + j * 6, none⟩ = some (.int .i64 yk) ∧ wr.cell? ⟨g2, o2 + j * 6 + 1, none⟩ = some (.bool yi) ∧ wr.cell? ⟨g2, o2 + j * 6 + 2, none⟩ = some (.int .i64 yn) ∧ wr.cell? ⟨g2, o2 + j * 6 + 3, none⟩ = some (.string (mkS yt)) ∧ wr.cell? ⟨g2, o2 + j * 6 + 4, none⟩ = some (.slice yo iys.length yq) ∧ wr.cell? ⟨g2, o2 + j * 6 + 5, none⟩ = some (.slice yp jks.length yr)) := HSK.out wr (Below.refl _ _)
      have HSD : Hid (wr.drew.cell? ⟨w.heap.size, 4, none⟩ = some (.slice (some ⟨g1, o1, none⟩) n0 q1) ∧ wr.drew.cell? ⟨w.heap.size + 1, 4, none⟩ = some (.slice (some ⟨g2, o2, none⟩) n0 q1') ∧ wr.drew.cell? ⟨g1, o1 + j * 6, none⟩ = some (.int .i64 xk) ∧ wr.drew.cell? ⟨g1, o1 + j * 6 + 1, none⟩ = some (.bool xi) ∧ wr.drew.cell? ⟨g1, o1 + j * 6 + 2, none⟩ = some (.int .i64 xn) ∧ wr.drew.cell? ⟨g1, o1 + j * 6 + 3, none⟩ = some (.string (mkS xt)) ∧ wr.drew.cell? ⟨g1, o1 + j * 6 + 4, none⟩ = some (.slice xo ixs.length xq) ∧ wr.drew.cell? ⟨g1, o1 + j * 6 + 5, none⟩ = some (.slice xp iks.length xr) ∧ wr.drew.cell? ⟨g2, o2 + j * 6, none⟩ = some (.int .i64 yk) ∧ wr.drew.cell? ⟨g2, o2 + j * 6 + 1, none⟩ = some (.bool yi) ∧ wr.drew.cell? ⟨g2, o2 + j * 6 + 2, none⟩ = some (.int .i64 yn) ∧ wr.drew.cell? ⟨g2, o2 + j * 6 + 3, none⟩ = some (.string (mkS yt)) ∧ wr.drew.cell? ⟨g2, o2 + j * 6 + 4, none⟩ = some (.slice yo iys.length yq) ∧ wr.drew.cell? ⟨g2, o2 + j * 6 + 5, none⟩ = some (.slice yp jks.length yr)) := HSK.out wr.drew hd1
      clear hat1 hat2 hca hcb hra hrb hx hy HCC hd1 HT k5
      cases hs : smJ (.mk xk xi xn xt ixs iks) (.mk yk yi yn yt iys jks) with
      | true =>
        rw [hs] at HCS HTS
        unfold SmQ at HCS
        clear HPF hs
        go_upto_region 10 with (fail)
        go_region_held3 (fun V => V.cell? ⟨w.heap.size, 4, none⟩ = some (.slice (some ⟨g1, o1, none⟩) n0 q1) ∧ V.cell? ⟨w.heap.size + 1, 4, none⟩ = some (.slice (some ⟨g2, o2, none⟩) n0 q1') ∧ V.cell? ⟨g1, o1 + j * 6, none⟩ = some (.int .i64 xk) ∧ V.cell? ⟨g1, o1 + j * 6 + 1, none⟩ = some (.bool xi) ∧ V.cell? ⟨g1, o1 + j * 6 + 2, none⟩ = some (.int .i64 xn) ∧ V.cell? ⟨g1, o1 + j * 6 + 3, none⟩ = some (.string (mkS xt)) ∧ V.cell? ⟨g1, o1 + j * 6 + 4, none⟩ = some (.slice xo ixs.length xq) ∧ V.cell? ⟨g1, o1 + j * 6 + 5, none⟩ = some (.slice xp iks.length xr) ∧ V.cell? ⟨g2, o2 + j * 6, none⟩ = some (.int .i64 yk) ∧ V.cell? ⟨g2, o2 + j * 6 + 1, none⟩ = some (.bool yi) ∧ V.cell? ⟨g2, o2 + j * 6 + 2, none⟩ = some (.int .i64 yn) ∧ V.cell? ⟨g2, o2 + j * 6 + 3, none⟩ = some (.string (mkS yt)) ∧ V.cell? ⟨g2, o2 + j * 6 + 4, none⟩ = some (.slice yo iys.length yq) ∧ V.cell? ⟨g2, o2 + j * 6 + 5, none⟩ = some (.slice yp jks.length yr))
          (first | (with_reducible exact HS0.out) | (with_reducible exact HSD.out) | (with_reducible exact HS4.out))
          ((go_at_call 14; (with_reducible refine HCS.out.mono ?_); rintro e w4 ⟨rfl, hb4⟩; have hb4' : Below wr.heap.size wr w4 := ⟨hb4.os, hb4.tape, hb4.output, hb4.size, hb4.block⟩; have HS4 := Lib.hid (HSK.out w4 hb4'); have HB4 := Lib.hid (HB.out.trans (hb4'.mono HB.out.size)); clear hb4 hb4'))
        all_goals
          go_wp2
          go_roundw
          case rel => exact ⟨j + 1, by omega, by go_num, HTS, HB4⟩
          case measure => simp [intOf]; omega
      | false =>
        rw [hs] at HCS
        unfold SmQ at HCS
        have HF := Lib.hid (HPF.out hs)
        clear HPF hs HTS
        go_upto_region 10 with (fail)
        go_region_held3 (fun V => V.cell? ⟨w.heap.size, 4, none⟩ = some (.slice (some ⟨g1, o1, none⟩) n0 q1) ∧ V.cell? ⟨w.heap.size + 1, 4, none⟩ = some (.slice (some ⟨g2, o2, none⟩) n0 q1') ∧ V.cell? ⟨g1, o1 + j * 6, none⟩ = some (.int .i64 xk) ∧ V.cell? ⟨g1, o1 + j * 6 + 1, none⟩ = some (.bool xi) ∧ V.cell? ⟨g1, o1 + j * 6 + 2, none⟩ = some (.int .i64 xn) ∧ V.cell? ⟨g1, o1 + j * 6 + 3, none⟩ = some (.string (mkS xt)) ∧ V.cell? ⟨g1, o1 + j * 6 + 4, none⟩ = some (.slice xo ixs.length xq) ∧ V.cell? ⟨g1, o1 + j * 6 + 5, none⟩ = some (.slice xp iks.length xr) ∧ V.cell? ⟨g2, o2 + j * 6, none⟩ = some (.int .i64 yk) ∧ V.cell? ⟨g2, o2 + j * 6 + 1, none⟩ = some (.bool yi) ∧ V.cell? ⟨g2, o2 + j * 6 + 2, none⟩ = some (.int .i64 yn) ∧ V.cell? ⟨g2, o2 + j * 6 + 3, none⟩ = some (.string (mkS yt)) ∧ V.cell? ⟨g2, o2 + j * 6 + 4, none⟩ = some (.slice yo iys.length yq) ∧ V.cell? ⟨g2, o2 + j * 6 + 5, none⟩ = some (.slice yp jks.length yr))
          (first | (with_reducible exact HS0.out) | (with_reducible exact HSD.out) | (with_reducible exact HS4.out))
          ((go_at_call 14; (with_reducible refine HCS.out.mono ?_); rintro e w4 ⟨rfl, hb4⟩; have hb4' : Below wr.heap.size wr w4 := ⟨hb4.os, hb4.tape, hb4.output, hb4.size, hb4.block⟩; have HS4 := Lib.hid (HSK.out w4 hb4'); have HB4 := Lib.hid (HB.out.trans (hb4'.mono HB.out.size)); clear hb4 hb4'))
        all_goals
          go_wp2
          go_ret
          exact ⟨by rw [HF.out]; rfl, btr HB0.out HB4.out⟩
    · have hjl : ¬ (j : Int) < (n0 : Int) := by omega
      have hjn : j = n0 := by omega
      have HF : Hid (smL xs ys = true) := by
        show _ = _
        have := HT.out
        rw [hjn, List.take_of_length_le (by rw [HN.out.1]; exact Nat.le_refl _), List.take_of_length_le (by rw [HN.out.2]; exact Nat.le_refl _)] at this
        exact this
      have HB1 := Lib.hid (HB.out)
      have hws1 := HB1.out.size
      clear hjn HT k4 l4 HB hlt
      go_wp2
      clear k5 hjl
      go_loopw [99] (fun iv w2 => ∃ i : Nat, i ≤ l2 ∧ iv = .int .i64 i ∧ Hid (Below W0.heap.size W0 w2)) (fun iv _ => l2 - (intOf iv).toNat)
      case atStart => exact ⟨0, by omega, rfl, HB1⟩
      case round =>
        obtain ⟨i, hi, rfl, HB⟩ := hrel
        have k0 : wr.cell? ⟨w.heap.size, 0, none⟩ = some (.int .i64 4) := cell_of_row _ _ 0 _ _ _ ((HB.out.block _ (Array.getElem?_eq_some_iff.1 HA0.out).1).trans HA0.out)
        by_cases hil : i < l2
        · have hil2 : (i : Int) < (l2 : Int) := by omega
          have hi0 : (0 : Int) ≤ (i : Int) := by omega
          have HB9 : Hid (∀ m, Below W0.heap.size W0 (wr.drewN m)) := fun m => HB.out.trans ((bdrN wr m).mono HB.out.size)
          go_wp2_with fail
          go_quiet (fail)
          go_wp2_with fail
          go_roundw
          case rel => exact ⟨i + 1, by omega, by go_num, Lib.hid (HB9.out _)⟩
          case measure => simp [intOf]; omega
        · have hil2 : ¬ (i : Int) < (l2 : Int) := by omega
          go_wp2
          go_ret
          exact ⟨by rw [HF.out]; rfl, btr HB0.out HB.out⟩
set_option maxRecDepth 100000 in
set_option maxHeartbeats 4000000 in
theorem sr_5 (P Q : Nat → Prop) (xs ys : List JV) (ks ks' : List (List UInt8)) (is : Bool) (n : Int) (tx : ByteArray) (ao : Option Addr) (q1 : Nat) (ap : Option Addr) (q2 : Nat) (is' : Bool) (n' : Int) (tx' : ByteArray) (ao' : Option Addr) (q1' : Nat) (ap' : Option Addr) (q2' : Nat) (w : World)
    (h1 : IsVs P w (.slice ao xs.length q1) xs) (h2 : IsVs Q w (.slice ao' ys.length q1') ys) (hl : xs.length = ys.length) (hx : xs.length ≤ 1000000) (h3 : RdK P w (.slice ap ks.length q2) ks) (h4 : RdK Q w (.slice ap' ks'.length q2') ks') (hkk : ks.length = ks'.length) (hk : ks.length ≤ 1000000)
    (HS : ∀ i (hi : i < xs.length) (hj : i < ys.length) (W : World) (ca cb : List Value), Rep P W xs[i] ca → Rep Q W ys[i] cb → Calls Tryd.prog 14 #[.agg ca.toArray, .agg cb.toArray] W (SmQ (smJ xs[i] ys[i]) W)) :
    Calls Tryd.prog 14 #[.agg #[.int .i64 5, .bool is, .int .i64 n, .string tx, .slice ao xs.length q1, .slice ap ks.length q2], .agg #[.int .i64 5, .bool is', .int .i64 n', .string tx', .slice ao' ys.length q1', .slice ap' ks'.length q2']] w (SmQ (ks == ks' && smL xs ys) w) := by
  obtain ⟨n0, hn0⟩ : ∃ n0, n0 = xs.length := ⟨_, rfl⟩
  have HN : Hid (xs.length = n0 ∧ ys.length = n0) := ⟨hn0.symm, by omega⟩
  have hx0 : n0 ≤ 1000000 := by omega
  rw [← hl, ← hn0]
  rw [HN.out.1] at h1
  rw [HN.out.2] at h2
  obtain ⟨m0, hm0⟩ : ∃ m0, m0 = ks.length := ⟨_, rfl⟩
  have HM : Hid (ks.length = m0 ∧ ks'.length = m0) := ⟨hm0.symm, by omega⟩
  rw [← hkk, ← hm0]
  rw [HM.out.1] at h3
  rw [HM.out.2] at h4
  have hk0 : m0 ≤ 1000000 := by omega
  obtain ⟨W0, hW0, hk0', hk1, hb0⟩ := two_o w #[.int .i64 5, .bool is, .int .i64 n, .string tx, .slice ao n0 q1, .slice ap m0 q2] #[.int .i64 5, .bool is', .int .i64 n', .string tx', .slice ao' n0 q1', .slice ap' m0 q2'] 36 36
  have HW0 := Lib.hid hW0
  have HB0 := Lib.hid hb0
  have HA0 := Lib.hid hk0'
  have HA1 := Lib.hid hk1
  have hsz : W0.heap.size = w.heap.size + 2 := by rw [hW0]; simp
  obtain ⟨a0, a1, a2, a3, a4, a5⟩ := cells6 hk0'
  obtain ⟨c0, c1, c2, c3, c4, c5⟩ := cells6 hk1
  have H1 := Lib.hid (h1.keep (Kep.of hb0))
  have H2 := Lib.hid (h2.keep (Kep.of hb0))
  have H3 := Lib.hid (RdK.keep (Kep.of hb0) h3)
  have H4 := Lib.hid (RdK.keep (Kep.of hb0) h4)
  have HSS := Lib.hid HS
  clear hW0 hb0 hk0' hk1 HS h1 h2 hl hx hn0 h3 h4 hkk hk hm0
  go_enter Tryd.func14, Tryd.ntmps14
  go_upto_region 1 with (fail)
  rw [← HW0.out]
  go_wp2
  clear a0 a1 a2 a3 a4 a5 c0 c1 c2 c3 c4 c5
  go_loopw [80] (fun iv wr => ∃ j : Nat, j ≤ n0 ∧ iv = .int .i64 j ∧ Hid (smL (xs.take j) (ys.take j) = true) ∧ Hid (Below W0.heap.size W0 wr)) (fun iv _ => n0 - (intOf iv).toNat)
  case atStart => exact ⟨0, by omega, rfl, Lib.hid (by simp [smL]), Lib.hid (Below.refl _ _)⟩
  case round =>
    obtain ⟨j, hj, rfl, HT, HB⟩ := hrel
    have k4 : wr.cell? ⟨w.heap.size, 4, none⟩ = some (.slice ao n0 q1) := cell_of_row _ _ 4 _ _ _ ((HB.out.block _ (Array.getElem?_eq_some_iff.1 HA0.out).1).trans HA0.out)
    have k5 : wr.cell? ⟨w.heap.size, 5, none⟩ = some (.slice ap m0 q2) := cell_of_row _ _ 5 _ _ _ ((HB.out.block _ (Array.getElem?_eq_some_iff.1 HA0.out).1).trans HA0.out)
    have l4 : wr.cell? ⟨w.heap.size + 1, 4, none⟩ = some (.slice ao' n0 q1') := cell_of_row _ _ 4 _ _ _ ((HB.out.block _ (Array.getElem?_eq_some_iff.1 HA1.out).1).trans HA1.out)
    have hws := HB.out.size
    by_cases hlt : j < n0
    · have HX1 := Lib.hid (show j < xs.length by rw [HN.out.1]; exact hlt)
      have HY1 := Lib.hid (show j < ys.length by rw [HN.out.2]; exact hlt)
      obtain ⟨g1, o1, rfl, hg1, hat1⟩ := (H1.out.keep (Kep.of HB.out)).at (by have := HX1.out; omega)
      obtain ⟨g2, o2, rfl, hg2, hat2⟩ := (H2.out.keep (Kep.of HB.out)).at (by have := HY1.out; omega)
      have hj0 : (0 : Int) ≤ (j : Int) := by omega
      have hjl : (j : Int) < (n0 : Int) := by omega
      obtain ⟨ca, hca, hra⟩ := hat1 j HX1.out
      obtain ⟨cb, hcb, hrb⟩ := hat2 j HY1.out
      have HTS : Hid (smL (xs.take (j + 1)) (ys.take (j + 1)) = smJ (xs[j]'HX1.out) (ys[j]'HY1.out)) := by
        show _ = _
        rw [List.take_succ_eq_append_getElem HX1.out, List.take_succ_eq_append_getElem HY1.out, smL_snoc _ _ (by rw [List.length_take, List.length_take, HN.out.1, HN.out.2]), HT.out, Bool.true_and]
      have HPF := Lib.hid (smL_pre HX1.out HY1.out)
      obtain ⟨⟨xk, xi, xn, xt, ixs, iks⟩, hx⟩ : ∃ x, xs[j]'HX1.out = x := ⟨_, rfl⟩
      obtain ⟨⟨yk, yi, yn, yt, iys, jks⟩, hy⟩ : ∃ y, ys[j]'HY1.out = y := ⟨_, rfl⟩
      have HCC := Lib.hid (fun W => HSS.out j HX1.out HY1.out W)
      rw [hx] at hra
      rw [hy] at hrb
      rw [hx, hy] at HTS HPF
      rw [hx, hy] at HCC
      obtain ⟨xo, xq, xp, xr, rfl, _⟩ := rep_c6 hra
      obtain ⟨yo, yq, yp, yr, rfl, _⟩ := rep_c6 hrb
      obtain ⟨p0, p1, p2, p3, p4, p5⟩ := cs6 hca
      obtain ⟨r0, r1, r2, r3, r4, r5⟩ := cs6 hcb
      have hd1 : Below wr.heap.size wr wr.drew := (Below.refl _ _).drew
      have HCS := Lib.hid (HCC.out wr.drew _ _ (Rep.keep (Kep.of hd1) _ hra) (Rep.keep (Kep.of hd1) _ hrb))
      have HSK : Hid (∀ V : World, Below wr.heap.size wr V → V.cell? ⟨w.heap.size, 4, none⟩ = some (.slice (some ⟨g1, o1, none⟩) n0 q1) ∧ V.cell? ⟨w.heap.size + 1, 4, none⟩ = some (.slice (some ⟨g2, o2, none⟩) n0 q1') ∧ V.cell? ⟨g1, o1 + j * 6, none⟩ = some (.int .i64 xk) ∧ V.cell? ⟨g1, o1 + j * 6 + 1, none⟩ = some (.bool xi) ∧ V.cell? ⟨g1, o1 + j * 6 + 2, none⟩ = some (.int .i64 xn) ∧ V.cell? ⟨g1, o1 + j * 6 + 3, none⟩ = some (.string (mkS xt)) ∧ V.cell? ⟨g1, o1 + j * 6 + 4, none⟩ = some (.slice xo ixs.length xq) ∧ V.cell? ⟨g1, o1 + j * 6 + 5, none⟩ = some (.slice xp iks.length xr) ∧ V.cell? ⟨g2, o2 + j * 6, none⟩ = some (.int .i64 yk) ∧ V.cell? ⟨g2, o2 + j * 6 + 1, none⟩ = some (.bool yi) ∧ V.cell? ⟨g2, o2 + j * 6 + 2, none⟩ = some (.int .i64 yn) ∧ V.cell? ⟨g2, o2 + j * 6 + 3, none⟩ = some (.string (mkS yt)) ∧ V.cell? ⟨g2, o2 + j * 6 + 4, none⟩ = some (.slice yo iys.length yq) ∧ V.cell? ⟨g2, o2 + j * 6 + 5, none⟩ = some (.slice yp jks.length yr)) := fun V hV => ⟨(hV.cell (p := ⟨w.heap.size, 4, none⟩) (show w.heap.size < _ by omega)).trans k4, (hV.cell (p := ⟨w.heap.size + 1, 4, none⟩) (show w.heap.size + 1 < _ by omega)).trans l4, (hV.cell (p := ⟨g1, _, none⟩) hg1).trans p0, (hV.cell (p := ⟨g1, _, none⟩) hg1).trans p1, (hV.cell (p := ⟨g1, _, none⟩) hg1).trans p2, (hV.cell (p := ⟨g1, _, none⟩) hg1).trans p3, (hV.cell (p := ⟨g1, _, none⟩) hg1).trans p4, (hV.cell (p := ⟨g1, _, none⟩) hg1).trans p5, (hV.cell (p := ⟨g2, _, none⟩) hg2).trans r0, (hV.cell (p := ⟨g2, _, none⟩) hg2).trans r1, (hV.cell (p := ⟨g2, _, none⟩) hg2).trans r2, (hV.cell (p := ⟨g2, _, none⟩) hg2).trans r3, (hV.cell (p := ⟨g2, _, none⟩) hg2).trans r4, (hV.cell (p := ⟨g2, _, none⟩) hg2).trans r5⟩
      have HS0 : Hid (wr.cell? ⟨w.heap.size, 4, none⟩ = some (.slice (some ⟨g1, o1, none⟩) n0 q1) ∧ wr.cell? ⟨w.heap.size + 1, 4, none⟩ = some (.slice (some ⟨g2, o2, none⟩) n0 q1') ∧ wr.cell? ⟨g1, o1 + j * 6, none⟩ = some (.int .i64 xk) ∧ wr.cell? ⟨g1, o1 + j * 6 + 1, none⟩ = some (.bool xi) ∧ wr.cell? ⟨g1, o1 + j * 6 + 2, none⟩ = some (.int .i64 xn) ∧ wr.cell? ⟨g1, o1 + j * 6 + 3, none⟩ = some (.string (mkS xt)) ∧ wr.cell? ⟨g1, o1 + j * 6 + 4, none⟩ = some (.slice xo ixs.length xq) ∧ wr.cell? ⟨g1, o1 + j * 6 + 5, none⟩ = some (.slice xp iks.length xr) ∧ wr.cell? ⟨g2, o2 + j * 6, none⟩ = some (.int .i64 yk) ∧ wr.cell? ⟨g2, o2 + j * 6 + 1, none⟩ = some (.bool yi) ∧ wr.cell? ⟨g2, o2 + j * 6 + 2, none⟩ = some (.int .i64 yn) ∧ wr.cell? ⟨g2, o2 + j * 6 + 3, none⟩ = some (.string (mkS yt)) ∧ wr.cell? ⟨g2, o2 + j * 6 + 4, none⟩ = some (.slice yo iys.length yq) ∧ wr.cell? ⟨g2, o2 + j * 6 + 5, none⟩ = some (.slice yp jks.length yr)) := HSK.out wr (Below.refl _ _)
      have HSD : Hid (wr.drew.cell? ⟨w.heap.size, 4, none⟩ = some (.slice (some ⟨g1, o1, none⟩) n0 q1) ∧ wr.drew.cell? ⟨w.heap.size + 1, 4, none⟩ = some (.slice (some ⟨g2, o2, none⟩) n0 q1') ∧ wr.drew.cell? ⟨g1, o1 + j * 6, none⟩ = some (.int .i64 xk) ∧ wr.drew.cell? ⟨g1, o1 + j * 6 + 1, none⟩ = some (.bool xi) ∧ wr.drew.cell? ⟨g1, o1 + j * 6 + 2, none⟩ = some (.int .i64 xn) ∧ wr.drew.cell? ⟨g1, o1 + j * 6 + 3, none⟩ = some (.string (mkS xt)) ∧ wr.drew.cell? ⟨g1, o1 + j * 6 + 4, none⟩ = some (.slice xo ixs.length xq) ∧ wr.drew.cell? ⟨g1, o1 + j * 6 + 5, none⟩ = some (.slice xp iks.length xr) ∧ wr.drew.cell? ⟨g2, o2 + j * 6, none⟩ = some (.int .i64 yk) ∧ wr.drew.cell? ⟨g2, o2 + j * 6 + 1, none⟩ = some (.bool yi) ∧ wr.drew.cell? ⟨g2, o2 + j * 6 + 2, none⟩ = some (.int .i64 yn) ∧ wr.drew.cell? ⟨g2, o2 + j * 6 + 3, none⟩ = some (.string (mkS yt)) ∧ wr.drew.cell? ⟨g2, o2 + j * 6 + 4, none⟩ = some (.slice yo iys.length yq) ∧ wr.drew.cell? ⟨g2, o2 + j * 6 + 5, none⟩ = some (.slice yp jks.length yr)) := HSK.out wr.drew hd1
      clear hat1 hat2 hca hcb hra hrb hx hy HCC hd1 HT k5
      cases hs : smJ (.mk xk xi xn xt ixs iks) (.mk yk yi yn yt iys jks) with
      | true =>
        rw [hs] at HCS HTS
        unfold SmQ at HCS
        clear HPF hs
        go_upto_region 10 with (fail)
        go_region_held3 (fun V => V.cell? ⟨w.heap.size, 4, none⟩ = some (.slice (some ⟨g1, o1, none⟩) n0 q1) ∧ V.cell? ⟨w.heap.size + 1, 4, none⟩ = some (.slice (some ⟨g2, o2, none⟩) n0 q1') ∧ V.cell? ⟨g1, o1 + j * 6, none⟩ = some (.int .i64 xk) ∧ V.cell? ⟨g1, o1 + j * 6 + 1, none⟩ = some (.bool xi) ∧ V.cell? ⟨g1, o1 + j * 6 + 2, none⟩ = some (.int .i64 xn) ∧ V.cell? ⟨g1, o1 + j * 6 + 3, none⟩ = some (.string (mkS xt)) ∧ V.cell? ⟨g1, o1 + j * 6 + 4, none⟩ = some (.slice xo ixs.length xq) ∧ V.cell? ⟨g1, o1 + j * 6 + 5, none⟩ = some (.slice xp iks.length xr) ∧ V.cell? ⟨g2, o2 + j * 6, none⟩ = some (.int .i64 yk) ∧ V.cell? ⟨g2, o2 + j * 6 + 1, none⟩ = some (.bool yi) ∧ V.cell? ⟨g2, o2 + j * 6 + 2, none⟩ = some (.int .i64 yn) ∧ V.cell? ⟨g2, o2 + j * 6 + 3, none⟩ = some (.string (mkS yt)) ∧ V.cell? ⟨g2, o2 + j * 6 + 4, none⟩ = some (.slice yo iys.length yq) ∧ V.cell? ⟨g2, o2 + j * 6 + 5, none⟩ = some (.slice yp jks.length yr))
          (first | (with_reducible exact HS0.out) | (with_reducible exact HSD.out) | (with_reducible exact HS4.out))
          ((go_at_call 14; (with_reducible refine HCS.out.mono ?_); rintro e w4 ⟨rfl, hb4⟩; have hb4' : Below wr.heap.size wr w4 := ⟨hb4.os, hb4.tape, hb4.output, hb4.size, hb4.block⟩; have HS4 := Lib.hid (HSK.out w4 hb4'); have HB4 := Lib.hid (HB.out.trans (hb4'.mono HB.out.size)); clear hb4 hb4'))
        all_goals
          go_wp2
          go_roundw
          case rel => exact ⟨j + 1, by omega, by go_num, HTS, HB4⟩
          case measure => simp [intOf]; omega
      | false =>
        rw [hs] at HCS
        unfold SmQ at HCS
        have HF := Lib.hid (HPF.out hs)
        clear HPF hs HTS
        go_upto_region 10 with (fail)
        go_region_held3 (fun V => V.cell? ⟨w.heap.size, 4, none⟩ = some (.slice (some ⟨g1, o1, none⟩) n0 q1) ∧ V.cell? ⟨w.heap.size + 1, 4, none⟩ = some (.slice (some ⟨g2, o2, none⟩) n0 q1') ∧ V.cell? ⟨g1, o1 + j * 6, none⟩ = some (.int .i64 xk) ∧ V.cell? ⟨g1, o1 + j * 6 + 1, none⟩ = some (.bool xi) ∧ V.cell? ⟨g1, o1 + j * 6 + 2, none⟩ = some (.int .i64 xn) ∧ V.cell? ⟨g1, o1 + j * 6 + 3, none⟩ = some (.string (mkS xt)) ∧ V.cell? ⟨g1, o1 + j * 6 + 4, none⟩ = some (.slice xo ixs.length xq) ∧ V.cell? ⟨g1, o1 + j * 6 + 5, none⟩ = some (.slice xp iks.length xr) ∧ V.cell? ⟨g2, o2 + j * 6, none⟩ = some (.int .i64 yk) ∧ V.cell? ⟨g2, o2 + j * 6 + 1, none⟩ = some (.bool yi) ∧ V.cell? ⟨g2, o2 + j * 6 + 2, none⟩ = some (.int .i64 yn) ∧ V.cell? ⟨g2, o2 + j * 6 + 3, none⟩ = some (.string (mkS yt)) ∧ V.cell? ⟨g2, o2 + j * 6 + 4, none⟩ = some (.slice yo iys.length yq) ∧ V.cell? ⟨g2, o2 + j * 6 + 5, none⟩ = some (.slice yp jks.length yr))
          (first | (with_reducible exact HS0.out) | (with_reducible exact HSD.out) | (with_reducible exact HS4.out))
          ((go_at_call 14; (with_reducible refine HCS.out.mono ?_); rintro e w4 ⟨rfl, hb4⟩; have hb4' : Below wr.heap.size wr w4 := ⟨hb4.os, hb4.tape, hb4.output, hb4.size, hb4.block⟩; have HS4 := Lib.hid (HSK.out w4 hb4'); have HB4 := Lib.hid (HB.out.trans (hb4'.mono HB.out.size)); clear hb4 hb4'))
        all_goals
          go_wp2
          go_ret
          exact ⟨by rw [HF.out]; simp, btr HB0.out HB4.out⟩
    · have hjl : ¬ (j : Int) < (n0 : Int) := by omega
      have hjn : j = n0 := by omega
      have HF : Hid (smL xs ys = true) := by
        show _ = _
        have := HT.out
        rw [hjn, List.take_of_length_le (by rw [HN.out.1]; exact Nat.le_refl _), List.take_of_length_le (by rw [HN.out.2]; exact Nat.le_refl _)] at this
        exact this
      have HB1 := Lib.hid (HB.out)
      have hws1 := HB1.out.size
      clear hjn HT k4 l4 HB hlt
      go_wp2
      clear k5 hjl
      go_loopw [99] (fun iv w2 => ∃ i : Nat, i ≤ m0 ∧ iv = .int .i64 i ∧ Hid (ks.take i = ks'.take i) ∧ Hid (Below W0.heap.size W0 w2)) (fun iv _ => m0 - (intOf iv).toNat)
      case atStart => exact ⟨0, by omega, rfl, Lib.hid (by simp), HB1⟩
      case round =>
        obtain ⟨i, hi, rfl, HT, HB⟩ := hrel
        have k0 : wr.cell? ⟨w.heap.size, 0, none⟩ = some (.int .i64 5) := cell_of_row _ _ 0 _ _ _ ((HB.out.block _ (Array.getElem?_eq_some_iff.1 HA0.out).1).trans HA0.out)
        by_cases hil : i < m0
        · have kep2 : Below W0.heap.size W0 wr := HB.out
          obtain ⟨g1, o1, rfl, hg1, hat1⟩ := rdk_at (RdK.keep (Kep.of HB.out) H3.out) (by rw [HM.out.1]; omega)
          obtain ⟨g2, o2, rfl, hg2, hat2⟩ := rdk_at (RdK.keep (Kep.of HB.out) H4.out) (by rw [HM.out.2]; omega)
          have k5 : wr.cell? ⟨w.heap.size, 5, none⟩ = some (.slice (some ⟨g1, o1, none⟩) m0 q2) := cell_of_row _ _ 5 _ _ _ ((HB.out.block _ (Array.getElem?_eq_some_iff.1 HA0.out).1).trans HA0.out)
          have l5 : wr.cell? ⟨w.heap.size + 1, 5, none⟩ = some (.slice (some ⟨g2, o2, none⟩) m0 q2') := cell_of_row _ _ 5 _ _ _ ((HB.out.block _ (Array.getElem?_eq_some_iff.1 HA1.out).1).trans HA1.out)
          have hil2 : (i : Int) < (m0 : Int) := by omega
          have hi0 : (0 : Int) ≤ (i : Int) := by omega
          have p1 := hat1 i (by rw [HM.out.1]; exact hil)
          have p2 := hat2 i (by rw [HM.out.2]; exact hil)
          have HTE := Lib.hid (take_eq (a := ks) (b := ks') (j := i) (by rw [HM.out.1]; exact hil) (by rw [HM.out.2]; exact hil) HT.out)
          have HPE : Hid (ks[i]'(by rw [HM.out.1]; exact hil) ≠ ks'[i]'(by rw [HM.out.2]; exact hil) → (ks == ks') = false) := fun hne => by
            rw [beq_eq_false_iff_ne]; intro e; subst e; exact hne rfl
          have HB9 : Hid (∀ m, Below W0.heap.size W0 (wr.drewN m)) := fun m => HB.out.trans ((bdrN wr m).mono HB.out.size)
          generalize ks[i]'(by rw [HM.out.1]; exact hil) = x at p1 HTE HPE
          generalize ks'[i]'(by rw [HM.out.2]; exact hil) = y at p2 HTE HPE
          have hxy := mkS_beq x y
          clear hat1 hat2 HT kep2
          by_cases he : x = y
          · have q1 : ((mkS x).toList == (mkS y).toList) = true := by rw [hxy]; simpa using he
            have q2 : ((mkS x).toList != (mkS y).toList) = false := by rw [bne, q1]; rfl
            have HT2 := Lib.hid (HTE.out he)
            clear he hxy HPE HTE
            go_wp2_with fail
            go_quiet (fail)
            go_wp2_with fail
            go_roundw
            case rel => exact ⟨i + 1, by omega, by go_num, HT2, Lib.hid (HB9.out _)⟩
            case measure => simp [intOf]; omega
          · have q1 : ((mkS x).toList == (mkS y).toList) = false := by rw [hxy]; simpa using he
            have q2 : ((mkS x).toList != (mkS y).toList) = true := by rw [bne, q1]; rfl
            have HF2 := Lib.hid (HPE.out he)
            clear he hxy HPE HTE
            go_wp2_with fail
            go_quiet (fail)
            go_wp2
            go_ret
            exact ⟨by rw [HF2.out]; simp, btr HB0.out (HB9.out _)⟩
        · have hil2 : ¬ (i : Int) < (m0 : Int) := by omega
          have HF2 : Hid ((ks == ks') = true) := by
            show _ = _
            have hin : i = m0 := by omega
            have := HT.out
            rw [hin, List.take_of_length_le (by rw [HM.out.1]; exact Nat.le_refl _), List.take_of_length_le (by rw [HM.out.2]; exact Nat.le_refl _)] at this
            simpa using this
          clear HT
          go_wp2
          go_ret
          exact ⟨by rw [HF2.out, HF.out]; simp, btr HB0.out HB.out⟩
/-- the document's Same, of trees not deeper than n -/
theorem rsame_all : ∀ (n : Nat) (x y : JV), dep x ≤ n → wid x ≤ 1000000 → wid y ≤ 1000000 → ∀ (P Q : Nat → Prop) (W : World) (ca cb : List Value), Rep P W x ca → Rep Q W y cb → Calls Tryd.prog 14 #[.agg ca.toArray, .agg cb.toArray] W (SmQ (smJ x y) W)
  | n, .mk k is m t xs ks, .mk k' is' m' t' xs' ks', hd, hw, hw', P, Q, W, ca, cb, ha, hb => by
    obtain ⟨ao, q1, ap, q2, rfl, hka, hla⟩ := rep_c6 ha
    obtain ⟨ao', q1', ap', q2', rfl, hkb, hlb⟩ := rep_c6 hb
    rw [wid] at hw hw'
    rw [smJ]
    by_cases hkk : k ≠ k'
    · rw [if_pos hkk]
      exact sr_ne k k' _ _ _ _ _ _ _ _ _ _ _ _ _ _ _ _ _ _ W hkk
    rw [if_neg hkk]
    obtain rfl : k = k' := by omega
    by_cases h1 : k = 1
    · rw [if_pos h1]; subst h1
      by_cases he : is = is'
      · rw [show (is == is') = true by simpa using he]
        exact sr_1t _ _ _ _ _ _ _ _ _ _ _ _ _ _ _ _ _ _ W he
      · rw [show (is == is') = false by simpa using he]
        exact sr_1f _ _ _ _ _ _ _ _ _ _ _ _ _ _ _ _ _ _ W he
    rw [if_neg h1]
    by_cases h2 : k = 2
    · rw [if_pos h2]; subst h2
      by_cases he : m = m'
      · rw [show (m == m') = true by simpa using he]
        exact sr_2t _ _ _ _ _ _ _ _ _ _ _ _ _ _ _ _ _ _ W he
      · rw [show (m == m') = false by simpa using he]
        exact sr_2f _ _ _ _ _ _ _ _ _ _ _ _ _ _ _ _ _ _ W he
    rw [if_neg h2]
    by_cases h3 : k = 3
    · rw [if_pos h3]; subst h3
      rw [← mkS_beq]
      cases he : (mkS t).toList == (mkS t').toList with
      | true => exact sr_3t _ _ _ _ _ _ _ _ _ _ _ _ _ _ _ _ _ _ W he
      | false => exact sr_3f _ _ _ _ _ _ _ _ _ _ _ _ _ _ _ _ _ _ W he
    rw [if_neg h3]
    have HS : (k = 4 ∨ k = 5) → ∀ i (hi : i < xs.length) (hj : i < xs'.length) (V : World) (ca cb : List Value), Rep P V xs[i] ca → Rep Q V xs'[i] cb → Calls Tryd.prog 14 #[.agg ca.toArray, .agg cb.toArray] V (SmQ (smJ xs[i] xs'[i]) V) := fun hk45 i hi hj V' ca cb hra hrb => by
      rw [dep, if_pos hk45] at hd
      obtain ⟨n', rfl⟩ : ∃ n', n = n' + 1 := ⟨n - 1, by omega⟩
      exact rsame_all n' xs[i] xs'[i] (by have := dep_mem hi; omega) (by have := wid_mem hi; omega) (by have := wid_mem hj; omega) P Q V' ca cb hra hrb
    by_cases h5 : k = 5
    · rw [if_pos h5]
      have HS5 := HS (.inr h5)
      subst h5
      by_cases hl : xs.length = xs'.length
      · by_cases hk : ks.length = ks'.length
        · exact sr_5 P Q xs xs' ks ks' _ _ _ _ _ _ _ _ _ _ _ _ _ _ W (isvs hla) (isvs hlb) hl (by omega) hka hkb hk (by omega) HS5
        · rw [show (ks == ks') = false by rw [beq_eq_false_iff_ne]; intro e; exact hk (by rw [e]), Bool.false_and]
          exact sr_5k _ _ _ _ _ _ _ _ _ _ _ _ _ _ _ _ _ _ W hl hk
      · rw [smL_len hl, Bool.and_false]
        exact sr_5n _ _ _ _ _ _ _ _ _ _ _ _ _ _ _ _ _ _ W hl
    rw [if_neg h5]
    by_cases h4 : k = 4
    · rw [if_pos h4]
      have HS4 := HS (.inl h4)
      subst h4
      by_cases hl : xs.length = xs'.length
      · exact sr_4 P Q xs xs' ks.length ks'.length _ _ _ _ _ _ _ _ _ _ _ _ _ _ W (isvs hla) (isvs hlb) hl (by omega) (by omega) HS4
      · rw [smL_len hl]
        exact sr_4n _ _ _ _ _ _ _ _ _ _ _ _ _ _ _ _ _ _ W hl
    rw [if_neg h4]
    exact sr_o k _ _ _ _ _ _ _ _ _ _ _ _ _ _ _ _ _ _ W ⟨h1, h2, h3, h5, h4⟩
theorem RSame_c {P Q : Nat → Prop} {x y : JV} {ca cb : List Value} {w : World} (ha : Rep P w x ca) (hb : Rep Q w y cb) (hw : wid x ≤ 1000000) (hw' : wid y ≤ 1000000) : Calls Tryd.prog 14 #[.agg ca.toArray, .agg cb.toArray] w (SmQ (smJ x y) w) :=
  rsame_all (dep x) x y (Nat.le_refl _) hw hw' P Q w ca cb ha hb
end Go.Proofs.YtkphainopofejaaDoor.Jv
namespace Go.Proofs.YtkphainopofejaaDoor.Jv
open Jt
open Go.RowKit Go.ChangeMaps Go.MapKept Go.WideMaps
set_option linter.unusedSimpArgs false
set_option linter.unusedVariables false

set_option maxRecDepth 100000 in
set_option maxHeartbeats 1000000 in
theorem rd_o (k : Int) (is : Bool) (n : Int) (tx : ByteArray) (ao : Option Addr) (l1 q1 : Nat) (ap : Option Addr) (l2 q2 : Nat) (w : World) (hk : k ≠ 4 ∧ k ≠ 5) :
    Calls Tryd.prog 15 #[.agg #[.int .i64 k, .bool is, .int .i64 n, .string tx, .slice ao l1 q1, .slice ap l2 q2]] w (DpQ 0 w) := by
  obtain ⟨W0, hW0, hk0, hb0⟩ := one_r w k is n tx ao l1 q1 ap l2 q2
  have HW0 := Lib.hid hW0
  have HB0 := Lib.hid hb0
  obtain ⟨a0, a1, a2, a3, a4, a5⟩ := cells6 hk0
  obtain ⟨h1, h2⟩ := hk
  have e1 : (k == 4) = false := by simpa using h1
  have e2 : (k == 5) = false := by simpa using h2
  have g4 : (k != 4) = true := by rw [bne, e1]; rfl
  have g5 : (k != 5) = true := by rw [bne, e2]; rfl
  clear hW0 hb0 hk0 h1 h2
  go_enter Tryd.func15, Tryd.ntmps15
  go_upto_region 1 with (fail)
  rw [← HW0.out]
  go_wp2
  go_ret
  exact ⟨rfl, HB0.out⟩
set_option maxRecDepth 100000 in
set_option maxHeartbeats 1000000 in
theorem rd_4 (is : Bool) (m : Int) (tx : ByteArray) (ao : Option Addr) (q1 : Nat) (ap : Option Addr) (l2 q2 : Nat) (P : Nat → Prop) (xs : List JV) (w : World) (h : IsVs P w (.slice ao xs.length q1) xs) (hl : xs.length ≤ 1000000) (hd : depL xs ≤ 1000000)
    (HS : ∀ i (hi : i < xs.length) (W : World) (ca : List Value), Rep P W xs[i] ca → Calls Tryd.prog 15 #[.agg ca.toArray] W (DpQ (dep xs[i]) W)) :
    Calls Tryd.prog 15 #[.agg #[.int .i64 4, .bool is, .int .i64 m, .string tx, .slice ao xs.length q1, .slice ap l2 q2]] w (DpQ (depL xs + 1) w) := by
  obtain ⟨W0, hW0, hk0, hb0⟩ := one_r w 4 is m tx ao xs.length q1 ap l2 q2
  have HW0 := Lib.hid hW0
  have HB0 := Lib.hid hb0
  have H := Lib.hid (h.keep (Kep.of hb0))
  have HSS := Lib.hid HS
  obtain ⟨a0, a1, a2, a3, a4, a5⟩ := cells6 hk0
  obtain ⟨n, hn⟩ : ∃ n, n = xs.length := ⟨_, rfl⟩
  have HN : Hid (xs.length = n) := hn.symm
  rw [← hn] at a4 H ⊢ HW0
  have hnl : n ≤ 1000000 := by omega
  clear hW0 hb0 hk0 h HS hn hl
  go_enter Tryd.func15, Tryd.ntmps15
  go_upto_region 1 with (fail)
  rw [← HW0.out]
  go_wp2
  clear a0 a1 a2 a3 a4 a5
  go_loopw [3, 18] (fun dv iv wr => ∃ j : Nat, j ≤ n ∧ iv = .int .i64 j ∧ dv = .int .i64 ((depL (xs.take j) + 1 : Nat) : Int) ∧ Hid (Below W0.heap.size W0 wr)) (fun _ iv _ => n - (intOf iv).toNat)
  case atStart => exact ⟨0, by omega, rfl, by simp [depL], Lib.hid (Below.refl _ _)⟩
  case round =>
    obtain ⟨j, hj, rfl, rfl, HB⟩ := hrel
    have hdl := depL_le (xs := xs) j
    by_cases hlt : j < n
    · have HX1 := Lib.hid (show j < xs.length by rw [HN.out]; exact hlt)
      obtain ⟨g1, o1, rfl, hg1, hat1⟩ := (H.out.keep (Kep.of HB.out)).at (by have := HX1.out; omega)
      have hj0 : (0 : Int) ≤ (j : Int) := by omega
      have hjl : (j : Int) < (n : Int) := by omega
      obtain ⟨ca, hca, hra⟩ := hat1 j HX1.out
      have HTK := Lib.hid (depL_take HX1.out)
      have hdj := dep_mem HX1.out
      obtain ⟨⟨k, is', nn, t, ixs, iks⟩, hx⟩ : ∃ x, xs[j]'HX1.out = x := ⟨_, rfl⟩
      have HCC := Lib.hid (fun W => HSS.out j HX1.out W)
      rw [hx] at hra HTK hdj HCC
      obtain ⟨ao', q1', ap', q2', rfl, _⟩ := rep_c6 hra
      obtain ⟨p0, p1, p2, p3, p4, p5⟩ := cs6 hca
      obtain ⟨W1, hW1, hk1, hb1⟩ := one_r wr k is' nn (mkS t) ao' ixs.length q1' ap' iks.length q2'
      have HW1 := Lib.hid hW1
      have HK1 := Lib.hid hk1
      have HB1 := Lib.hid (btr HB.out hb1)
      have HCS := Lib.hid (HCC.out W1 _ (Rep.keep (Kep.of hb1) _ hra))
      have hn1 : g1 ≠ wr.heap.size := by omega
      generalize dep (JV.mk k is' nn t ixs iks) = D at HCS HTK hdj
      unfold DpQ at HCS
      clear hat1 hca hra hx HCC hW1 hk1 hb1 HB
      go_upto_region 7 with (fail)
      rw [← HW1.out]
      clear p0 p1 p2 p3 p4 p5
      obtain ⟨p0, p1, p2, p3, p4, p5⟩ := cells6 HK1.out
      go_wp2_with fail
      (with_reducible refine HCS.out.mono ?_)
      rintro e w4 ⟨rfl, hb4⟩
      have HB4 := Lib.hid (btr HB1.out hb4)
      clear hb4 p0 p1 p2 p3 p4 p5
      generalize depL (xs.take j) = E at HTK hdl ⊢
      have HTK2 := Lib.hid (fun (F : Nat) (hF : F = max E D) => HTK.out.trans hF.symm)
      clear HTK
      by_cases hde : E + 1 ≤ D
      · have hde1 : ((E + 1 : Nat) : Int) ≤ (D : Int) := by omega
        have hde2 : (E : Int) + 1 ≤ (D : Int) := by omega
        go_wp2
        go_roundw
        case rel => exact ⟨j + 1, by omega, by go_num, by rw [HTK2.out D (by omega)]; go_num, HB4⟩
        case measure => simp [intOf]; omega
      · have hde1 : ¬ ((E + 1 : Nat) : Int) ≤ (D : Int) := by omega
        have hde2 : ¬ (E : Int) + 1 ≤ (D : Int) := by omega
        go_wp2
        go_roundw
        case rel => exact ⟨j + 1, by omega, by go_num, by rw [HTK2.out E (by omega)]; go_num, HB4⟩
        case measure => simp [intOf]; omega
    · have hjl : ¬ (j : Int) < (n : Int) := by omega
      have hjn : j = n := by omega
      have HF : Hid (depL (xs.take j) = depL xs) := by
        show _ = _
        rw [hjn, ← HN.out, List.take_of_length_le (Nat.le_refl _)]
      have HBF := Lib.hid (btr HB0.out HB.out)
      generalize depL (xs.take j) = D at HF hdl ⊢
      clear hjn HB
      go_wp2
      go_ret
      exact ⟨by rw [← HF.out]; simp, HBF.out⟩
set_option maxRecDepth 100000 in
set_option maxHeartbeats 1000000 in
theorem rd_5 (is : Bool) (m : Int) (tx : ByteArray) (ao : Option Addr) (q1 : Nat) (ap : Option Addr) (l2 q2 : Nat) (P : Nat → Prop) (xs : List JV) (w : World) (h : IsVs P w (.slice ao xs.length q1) xs) (hl : xs.length ≤ 1000000) (hd : depL xs ≤ 1000000)
    (HS : ∀ i (hi : i < xs.length) (W : World) (ca : List Value), Rep P W xs[i] ca → Calls Tryd.prog 15 #[.agg ca.toArray] W (DpQ (dep xs[i]) W)) :
    Calls Tryd.prog 15 #[.agg #[.int .i64 5, .bool is, .int .i64 m, .string tx, .slice ao xs.length q1, .slice ap l2 q2]] w (DpQ (depL xs + 1) w) := by
  obtain ⟨W0, hW0, hk0, hb0⟩ := one_r w 5 is m tx ao xs.length q1 ap l2 q2
  have HW0 := Lib.hid hW0
  have HB0 := Lib.hid hb0
  have H := Lib.hid (h.keep (Kep.of hb0))
  have HSS := Lib.hid HS
  obtain ⟨a0, a1, a2, a3, a4, a5⟩ := cells6 hk0
  obtain ⟨n, hn⟩ : ∃ n, n = xs.length := ⟨_, rfl⟩
  have HN : Hid (xs.length = n) := hn.symm
  rw [← hn] at a4 H ⊢ HW0
  have hnl : n ≤ 1000000 := by omega
  clear hW0 hb0 hk0 h HS hn hl
  go_enter Tryd.func15, Tryd.ntmps15
  go_upto_region 1 with (fail)
  rw [← HW0.out]
  go_wp2
  clear a0 a1 a2 a3 a4 a5
  go_loopw [3, 18] (fun dv iv wr => ∃ j : Nat, j ≤ n ∧ iv = .int .i64 j ∧ dv = .int .i64 ((depL (xs.take j) + 1 : Nat) : Int) ∧ Hid (Below W0.heap.size W0 wr)) (fun _ iv _ => n - (intOf iv).toNat)
  case atStart => exact ⟨0, by omega, rfl, by simp [depL], Lib.hid (Below.refl _ _)⟩
  case round =>
    obtain ⟨j, hj, rfl, rfl, HB⟩ := hrel
    have hdl := depL_le (xs := xs) j
    by_cases hlt : j < n
    · have HX1 := Lib.hid (show j < xs.length by rw [HN.out]; exact hlt)
      obtain ⟨g1, o1, rfl, hg1, hat1⟩ := (H.out.keep (Kep.of HB.out)).at (by have := HX1.out; omega)
      have hj0 : (0 : Int) ≤ (j : Int) := by omega
      have hjl : (j : Int) < (n : Int) := by omega
      obtain ⟨ca, hca, hra⟩ := hat1 j HX1.out
      have HTK := Lib.hid (depL_take HX1.out)
      have hdj := dep_mem HX1.out
      obtain ⟨⟨k, is', nn, t, ixs, iks⟩, hx⟩ : ∃ x, xs[j]'HX1.out = x := ⟨_, rfl⟩
      have HCC := Lib.hid (fun W => HSS.out j HX1.out W)
      rw [hx] at hra HTK hdj HCC
      obtain ⟨ao', q1', ap', q2', rfl, _⟩ := rep_c6 hra
      obtain ⟨p0, p1, p2, p3, p4, p5⟩ := cs6 hca
      obtain ⟨W1, hW1, hk1, hb1⟩ := one_r wr k is' nn (mkS t) ao' ixs.length q1' ap' iks.length q2'
      have HW1 := Lib.hid hW1
      have HK1 := Lib.hid hk1
      have HB1 := Lib.hid (btr HB.out hb1)
      have HCS := Lib.hid (HCC.out W1 _ (Rep.keep (Kep.of hb1) _ hra))
      have hn1 : g1 ≠ wr.heap.size := by omega
      generalize dep (JV.mk k is' nn t ixs iks) = D at HCS HTK hdj
      unfold DpQ at HCS
      clear hat1 hca hra hx HCC hW1 hk1 hb1 HB
      go_upto_region 7 with (fail)
      rw [← HW1.out]
      clear p0 p1 p2 p3 p4 p5
      obtain ⟨p0, p1, p2, p3, p4, p5⟩ := cells6 HK1.out
      go_wp2_with fail
      (with_reducible refine HCS.out.mono ?_)
      rintro e w4 ⟨rfl, hb4⟩
      have HB4 := Lib.hid (btr HB1.out hb4)
      clear hb4 p0 p1 p2 p3 p4 p5
      generalize depL (xs.take j) = E at HTK hdl ⊢
      have HTK2 := Lib.hid (fun (F : Nat) (hF : F = max E D) => HTK.out.trans hF.symm)
      clear HTK
      by_cases hde : E + 1 ≤ D
      · have hde1 : ((E + 1 : Nat) : Int) ≤ (D : Int) := by omega
        have hde2 : (E : Int) + 1 ≤ (D : Int) := by omega
        go_wp2
        go_roundw
        case rel => exact ⟨j + 1, by omega, by go_num, by rw [HTK2.out D (by omega)]; go_num, HB4⟩
        case measure => simp [intOf]; omega
      · have hde1 : ¬ ((E + 1 : Nat) : Int) ≤ (D : Int) := by omega
        have hde2 : ¬ (E : Int) + 1 ≤ (D : Int) := by omega
        go_wp2
        go_roundw
        case rel => exact ⟨j + 1, by omega, by go_num, by rw [HTK2.out E (by omega)]; go_num, HB4⟩
        case measure => simp [intOf]; omega
    · have hjl : ¬ (j : Int) < (n : Int) := by omega
      have hjn : j = n := by omega
      have HF : Hid (depL (xs.take j) = depL xs) := by
        show _ = _
        rw [hjn, ← HN.out, List.take_of_length_le (Nat.le_refl _)]
      have HBF := Lib.hid (btr HB0.out HB.out)
      generalize depL (xs.take j) = D at HF hdl ⊢
      clear hjn HB
      go_wp2
      go_ret
      exact ⟨by rw [← HF.out]; simp, HBF.out⟩
theorem rdepth_all : ∀ (n : Nat) (x : JV), dep x ≤ n → dep x ≤ 1000000 → wid x ≤ 1000000 → ∀ (P : Nat → Prop) (W : World) (ca : List Value), Rep P W x ca → Calls Tryd.prog 15 #[.agg ca.toArray] W (DpQ (dep x) W)
  | n, .mk k is m t xs ks, hd, hd2, hw, P, W, ca, ha => by
    obtain ⟨ao, q1, ap, q2, rfl, hka, hla⟩ := rep_c6 ha
    rw [wid] at hw
    by_cases hk : k = 4 ∨ k = 5
    · rw [dep, if_pos hk] at hd hd2 ⊢
      obtain ⟨n', rfl⟩ : ∃ n', n = n' + 1 := ⟨n - 1, by omega⟩
      have HS : ∀ i (hi : i < xs.length) (V : World) (ca : List Value), Rep P V xs[i] ca → Calls Tryd.prog 15 #[.agg ca.toArray] V (DpQ (dep xs[i]) V) := fun i hi V ca hra =>
        rdepth_all n' xs[i] (by have := dep_mem hi; omega) (by have := dep_mem hi; omega) (by have := wid_mem hi; omega) P V ca hra
      rcases hk with rfl | rfl
      · exact rd_4 is m (mkS t) ao q1 ap ks.length q2 P xs W (isvs hla) (by omega) (by omega) HS
      · exact rd_5 is m (mkS t) ao q1 ap ks.length q2 P xs W (isvs hla) (by omega) (by omega) HS
    · rw [dep, if_neg hk]
      exact rd_o k is m (mkS t) ao xs.length q1 ap ks.length q2 W (by omega)
theorem RDepth_c {P : Nat → Prop} {x : JV} {ca : List Value} {w : World} (ha : Rep P w x ca) (hw : wid x ≤ 1000000) (hd : dep x ≤ 1000000) : Calls Tryd.prog 15 #[.agg ca.toArray] w (DpQ (dep x) w) :=
  rdepth_all (dep x) x (Nat.le_refl _) hd hw P w ca ha
end Go.Proofs.YtkphainopofejaaDoor.Jv
