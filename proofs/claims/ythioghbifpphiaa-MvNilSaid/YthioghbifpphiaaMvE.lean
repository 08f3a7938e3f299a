/- Commit of one change of the one key; no other condition. -/
import Derived.Test.YthioghbifpphiaaMvD
namespace Go.Proofs.Ythioghbifpphiaa.Mv
open Go.RowKit Go.Lib Go.Maps
open Go.Proofs.Ythioghbifpphiaa.Cn
set_option linter.unusedSimpArgs false
set_option linter.unusedVariables false

theorem set5 {w : World} {c : Nat} {rev fl ks vs : Int} {mp : Value} (h : w.heap[c]? = some (obS rev fl mp ks vs)) (u : Int) : (w.setCell ⟨c, 5, none⟩ (.int .i64 u)).heap[c]? = some (obS rev fl mp u vs) := by
  have := Cn.blk_set h 5 (.int .i64 u); simpa using this
theorem set6v {w : World} {c : Nat} {rev fl ks vs : Int} {mp : Value} (h : w.heap[c]? = some (obS rev fl mp ks vs)) (u : Int) : (w.setCell ⟨c, 6, none⟩ (.int .i64 u)).heap[c]? = some (obS rev fl mp ks u) := by
  have := Cn.blk_set h 6 (.int .i64 u); simpa using this
theorem set2r {w : World} {c : Nat} {rev fl ks vs : Int} {mp : Value} (h : w.heap[c]? = some (obS rev fl mp ks vs)) (u : Int) : (w.setCell ⟨c, 2, none⟩ (.int .i64 u)).heap[c]? = some (obS u fl mp ks vs) := by
  have := Cn.blk_set h 2 (.int .i64 u); simpa using this
theorem set3f {w : World} {c : Nat} {rev fl ks vs : Int} {mp : Value} (h : w.heap[c]? = some (obS rev fl mp ks vs)) (u : Int) : (w.setCell ⟨c, 3, none⟩ (.int .i64 u)).heap[c]? = some (obS rev u mp ks vs) := by
  have := Cn.blk_set h 3 (.int .i64 u); simpa using this
set_option maxRecDepth 100000 in
set_option maxHeartbeats 8000000 in
theorem commit_g (B c a : Nat) (v : ByteArray) (rev fl ks vs r : Int) (mp : Value) (hbv : Bool) (w : World) (Q : World → Prop) (h : w.heap[c]? = some (obS rev fl mp ks vs)) (ha : w.heap[a]? = some (obC v)) (hac : a ≠ c) (hB : B ≤ c) (hk : 0 ≤ ks ∧ ks ≤ 2) (hv : 0 ≤ vs ∧ vs ≤ 8) (hr : 0 ≤ rev ∧ rev ≤ 10) (hre : r = if hbv then ks else ks + 1)
    (HH : Hid (∀ V, Below w.heap.size w V → Calls Try.prog 50 #[.pointer (some ⟨c, 0, none⟩), .string kb] V fun e w' => e = .returned (.bool hbv) ∧ Below V.heap.size V w'))
    (HP : Hid (∀ V, V.heap[c]? = some (obS (rev + 1) fl mp r (vs + 1)) → (∀ k, k < w.heap.size → k ≠ c → V.heap[k]? = w.heap[k]?) → w.heap.size ≤ V.heap.size → Calls Try.prog 34 #[.pointer (some ⟨c, 0, none⟩), .agg #[.string kb, .string v, .bool false]] V fun e w' => e = .returned (.tuple #[]) ∧ Q w' ∧ Below B V w'))
    (HQ : Hid (∀ V, Q V → ∃ mp', V.heap[c]? = some (obS (rev + 1) fl mp' r (vs + 1)))) :
    Calls Try.prog 20 #[.pointer (some ⟨c, 0, none⟩), .slice (some ⟨a, 0, none⟩) 1 1] w fun e w' => e = .returned (.tuple #[.int .i64 (rev + 1), .int .i64 0]) ∧ Q w' ∧ Below B w w' := by
  have hcl : c < w.heap.size := (Array.getElem?_eq_some_iff.1 h).1
  have hal : a < w.heap.size := (Array.getElem?_eq_some_iff.1 ha).1
  have hrr : 0 ≤ r ∧ r ≤ 3 := by cases hbv <;> simp at hre <;> omega
  have HKW : Hid (∀ V, Below w.heap.size w V → Calls Try.prog 33 #[.pointer (some ⟨c, 0, none⟩), .slice (some ⟨a, 0, none⟩) 1 1] V fun e w' => e = .returned (.int .i64 r) ∧ Below V.heap.size V w') := fun V hV =>
    keys_g c a v rev fl ks vs r mp hbv V ((hV.block c hcl).trans h) ((hV.block a hal).trans ha) ⟨hk.1, by omega⟩ hre (Lib.hid fun U hU => HH.out U (btr hV hU))
  have HMY := Lib.hid (may_g c a v rev fl ks vs r mp w h ha hrr hv hr HKW)
  have hq1 : IntKind.i64.wrap (vs + 1) = vs + 1 := by rw [IntKind.wrap_i64]; omega
  have hq2 : IntKind.i64.wrap (rev + 1) = rev + 1 := by rw [IntKind.wrap_i64]; omega
  have HO := Lib.hid h
  have HA := Lib.hid ha
  clear h ha hre hk hv hr hrr
  go_enter Try.func20, Try.ntmps20
  go_upto_region 2 with (go_at_call 21; (with_reducible refine HMY.out.mono ?_); rintro e w1 ⟨rfl, hb1⟩; have HB1 := Lib.hid hb1; clear hb1)
  have HS1 : Hid (w1.heap[c]? = some (obS rev fl mp ks vs)) := (HB1.out.block c hcl).trans HO.out
  have HKX := Lib.hid (HKW.out w1 HB1.out)
  obtain ⟨c0, c1, c2, c3, c4, c5, c6, c7⟩ := cells8 HS1.out
  go_upto_region 4 with (fail)
  clear c0 c1 c2 c3 c4 c5 c6 c7
  go_upto_region 5 with (go_at_call 33; (with_reducible refine HKX.out.mono ?_); rintro e w2 ⟨rfl, hb2⟩; have HB2 := Lib.hid (btr HB1.out hb2); have HS2 : Hid (w2.heap[c]? = some (obS rev fl mp ks vs)) := (hb2.block c (by have := HB1.out.size; omega)).trans HS1.out; obtain ⟨c0, c1, c2, c3, c4, c5, c6, c7⟩ := cells8 HS2.out; have f5 := frz HS2.out 5; clear hb2)
  clear c0 c1 c2 c3 c4 c5 c6 c7 f5
  obtain ⟨W3, hW3⟩ : ∃ W3, W3 = w2.setCell ⟨c, 5, none⟩ (.int .i64 r) := ⟨_, rfl⟩
  have HS3 : Hid (W3.heap[c]? = some (obS rev fl mp r vs)) := by rw [hW3]; exact set5 HS2.out r
  have HW3 := Lib.hid hW3
  rw [← hW3]
  clear hW3
  obtain ⟨c0, c1, c2, c3, c4, c5, c6, c7⟩ := cells8 HS3.out
  have f6 := frz HS3.out 6
  go_upto_region 6 with (fail)
  clear c0 c1 c2 c3 c4 c5 c6 c7 f6
  obtain ⟨W4, hW4⟩ : ∃ W4, W4 = W3.setCell ⟨c, 6, none⟩ (.int .i64 (vs + 1)) := ⟨_, rfl⟩
  have HS4 : Hid (W4.heap[c]? = some (obS rev fl mp r (vs + 1))) := by rw [hW4]; exact set6v HS3.out (vs + 1)
  have HW4 := Lib.hid hW4
  rw [← hW4]
  clear hW4
  obtain ⟨c0, c1, c2, c3, c4, c5, c6, c7⟩ := cells8 HS4.out
  have f2 := frz HS4.out 2
  go_upto_region 7 with (fail)
  clear c0 c1 c2 c3 c4 c5 c6 c7 f2
  obtain ⟨W5, hW5⟩ : ∃ W5, W5 = W4.setCell ⟨c, 2, none⟩ (.int .i64 (rev + 1)) := ⟨_, rfl⟩
  have HS5 : Hid (W5.heap[c]? = some (obS (rev + 1) fl mp r (vs + 1))) := by rw [hW5]; exact set2r HS4.out (rev + 1)
  have hz5 : W5.heap.size = w2.heap.size := by rw [hW5, HW4.out, HW3.out]; simp [World.setCell]
  have o5 : ∀ k, k ≠ c → W5.heap[k]? = w2.heap[k]? := fun k hk => by
    rw [hW5, set_oth _ _ _ _ hk, HW4.out, set_oth _ _ _ _ hk, HW3.out, set_oth _ _ _ _ hk]
  have HB5 : Hid (Below B w W5) := by
    have h2 : Below B w w2 := HB2.out.mono (by omega)
    rw [hW5, HW4.out, HW3.out]
    exact Lib.hid (((h2.trans (bel_set _ hB 5 _)).trans (bel_set _ hB 6 _)).trans (bel_set _ hB 2 _))
  have HA5 : Hid (W5.heap[a]? = some (obC v)) := ((o5 a hac).trans (HB2.out.block a hal)).trans HA.out
  have HO5 : Hid (∀ k, k < w.heap.size → k ≠ c → W5.heap[k]? = w.heap[k]?) := fun k h1 h2 => (o5 k h2).trans (HB2.out.block k h1)
  have hzz : w.heap.size ≤ W5.heap.size := by have := HB2.out.size; omega
  rw [← hW5]
  clear hW5 HW3 HW4 o5 hz5
  go_wp2
  go_loopw [39] (fun iv wr => ∃ j : Nat, j ≤ 1 ∧ iv = .int .i64 (j : Int) ∧ Hid (j = 0 → wr = W5) ∧ Hid (j = 1 → Q wr ∧ Below B w wr)) (fun iv _ => 1 - (intOf iv).toNat)
  case atStart => exact ⟨0, by omega, rfl, Lib.hid (fun _ => rfl), Lib.hid (fun e => by cases e)⟩
  case round =>
    obtain ⟨j, hj, rfl, HX, HY⟩ := hrel
    by_cases hj0 : j = 0
    · subst hj0
      obtain rfl := HX.out rfl
      obtain ⟨a0, a1, a2⟩ := Cn.cells3 HA5.out
      obtain ⟨W7, hW7, hk7, hb7⟩ := Cn.new3 wr (.string kb) (.string v) (.bool false) 57
      have HW7 := Lib.hid hW7
      obtain ⟨x0, x1, x2⟩ := Cn.cells3 hk7
      have HPP := Lib.hid (HP.out W7 ((hb7.block c (by omega)).trans HS5.out) (fun k h1 h2 => (hb7.block k (by omega)).trans (HO5.out k h1 h2)) (Nat.le_trans hzz hb7.size))
      have HB7 : Hid (Below B w W7) := HB5.out.trans (hb7.mono (by omega))
      clear hW7 hk7 hb7
      go_upto_region 10 with (fail)
      rw [← HW7.out]
      go_wp2_with (go_at_call 34; (with_reducible refine HPP.out.mono ?_); rintro e w8 ⟨rfl, hq8, hb8⟩; have HQ8 : Hid (Q w8 ∧ Below B w w8) := ⟨hq8, HB7.out.trans hb8⟩; clear hq8 hb8)
      go_roundw
      case rel => exact ⟨1, by omega, by go_num, Lib.hid (fun e => by cases e), Lib.hid (fun _ => HQ8.out)⟩
      case measure => simp [intOf]
    · obtain rfl : j = 1 := by omega
      obtain ⟨hq, hb⟩ := HY.out rfl
      obtain ⟨mp', hs⟩ := HQ.out wr hq
      have HQQ : Hid (Q wr ∧ Below B w wr) := ⟨hq, hb⟩
      obtain ⟨c0, c1, c2, c3, c4, c5, c6, c7⟩ := cells8 hs
      clear hq hb hs HX HY
      go_wp2
      exact bodyPost_ret (v := .tuple #[.int .i64 (rev + 1), .int .i64 0]) (by simp [results, Try.results20, go_sem]) rfl ⟨rfl, HQQ.out⟩
end Go.Proofs.Ythioghbifpphiaa.Mv
