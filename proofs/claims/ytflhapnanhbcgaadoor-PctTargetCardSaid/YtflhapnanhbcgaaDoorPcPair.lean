/- The contract of package pct's pair: for every text of at most five hundred bytes. -/
import Derived.Test.YtflhapnanhbcgaaDoorPcCut
import Derived.Test.YtflhapnanhbcgaaDoorPcDec
namespace Go.Proofs.YtflhapnanhbcgaaDoor.Pc
open Go.RowKit Jt
set_option linter.unusedSimpArgs false
set_option linter.unusedVariables false
theorem bdrw {B : Nat} {a w : World} (h : Below B a w) (n : Nat) : Below B a (w.drewN n) := ⟨h.os, h.tape, h.output, h.size, h.block⟩
abbrev PairL := List UInt8 × List UInt8
def pairL (p : List UInt8) : Option PairL := match decL true (cutP 61 p).1, decL true (cutP 61 p).2 with
  | some a, some b => some (a, b)
  | _, _ => none
def prA (x : PairL) : Value := .agg #[.string (mkS x.1), .string (mkS x.2)]
def prV (p : List UInt8) : Ending := match pairL p with
  | some x => .returned (.tuple #[prA x, .int .i64 0])
  | none => .returned (.tuple #[.agg #[.string ⟨#[]⟩, .string ⟨#[]⟩], .int .i64 3])
theorem keep2 {w w2 : World} {n : Nat} (hb : Below ((w.alloc (.cells #[.string ⟨#[]⟩, .string ⟨#[]⟩] 28)).drewN n).heap.size ((w.alloc (.cells #[.string ⟨#[]⟩, .string ⟨#[]⟩] 28)).drewN n) w2) :
    w2.heap[w.heap.size]? = some (.cells #[.string ⟨#[]⟩, .string ⟨#[]⟩] 28 (0, 0)) :=
  (hb.block w.heap.size (by show w.heap.size < (w.alloc _).heap.size; simp)).trans (heap_alloc_new w _)
theorem keepB {w w2 : World} {n : Nat} {o : Obj} (hb : Below ((w.alloc o).drewN n).heap.size ((w.alloc o).drewN n) w2) : Below w.heap.size w w2 :=
  (bdrw ((Below.refl w.heap.size w).alloc (Nat.le_refl _) o) n).trans (hb.mono (by show w.heap.size ≤ (w.alloc _).heap.size; simp))
theorem blk_set {w : World} {g : Nat} {cs : Array Value} {t : TypeId} {f : Nat × Nat} (h : w.heap[g]? = some (.cells cs t f)) (i : Nat) (u : Value) : (w.setCell ⟨g, i, none⟩ u).heap[g]? = some (.cells (cs.setIfInBounds i u) t f) := by
  simp [World.setCell, Array.getElem?_modify, h]
theorem set2 {w : World} {g : Nat} {x y : Value} {t : TypeId} (h : w.heap[g]? = some (.cells #[x, y] t (0, 0))) (a b : Value) : ((w.setCell ⟨g, 0, none⟩ a).setCell ⟨g, 1, none⟩ b).heap[g]? = some (.cells #[a, b] t (0, 0)) := by
  have := blk_set (blk_set h 0 a) 1 b
  simpa using this
theorem frz2 {w : World} {g : Nat} {cs : Array Value} {t : TypeId} (h : w.heap[g]? = some (.cells cs t (0, 0))) (i : Nat) : w.frozen? ⟨g, i, none⟩ = false := by simp [World.frozen?, h]
set_option maxRecDepth 100000 in
set_option maxHeartbeats 4000000 in
theorem pair_c (s : ByteArray) (w : World) (hs : s.size ≤ 20000) :
    Calls Tryd.prog 29 #[.string s] w fun e w' => e = prV s.data.toList ∧ Below w.heap.size w w' := by
  have HC := Lib.hid (fun W => cut_c s 61 W (by omega))
  have hl := cutP_len 61 s.data.toList
  rw [← size_l] at hl
  unfold prV pairL
  unfold cutV at HC
  revert HC hl
  generalize decide (61 ∈ s.data.toList) = fd
  generalize cutP 61 s.data.toList = ab
  intro HC hl
  obtain ⟨a, b⟩ := ab
  simp only at HC hl ⊢
  have HD1 := Lib.hid (fun W => Decode_c (mkS a) true W (by rw [size_mkS]; omega))
  have HD2 := Lib.hid (fun W => Decode_c (mkS b) true W (by rw [size_mkS]; omega))
  rw [data_mkS] at HD1 HD2
  unfold decV at HD1 HD2
  revert HD1 HD2
  generalize decL true a = da
  generalize decL true b = db
  generalize mkS a = sa at HC ⊢
  generalize mkS b = sb at HC ⊢
  intro HD1 HD2
  clear hl
  cases da with
  | none =>
    simp only at HD1 ⊢
    go_enter Tryd.func29, Tryd.ntmps29
    go_wp2_with (first | (go_at_call 17; refine (HC.out _).mono ?_; rintro e w' ⟨rfl, n, rfl⟩))
    refine (HD1.out _).mono ?_
    rintro e w2 ⟨rfl, hb2⟩
    have HK2 := Lib.hid (keep2 hb2)
    have HB2 := Lib.hid (keepB hb2)
    clear hb2
    have c0 := cell_of_row _ _ 0 _ _ _ HK2.out
    have c1 := cell_of_row _ _ 1 _ _ _ HK2.out
    have z0 := frz2 HK2.out 0
    have z1 := frz2 HK2.out 1
    go_wp2
    have H2 := set2 HK2.out (.string ⟨#[]⟩) (.string ⟨#[]⟩)
    have d0 := cell_of_row _ _ 0 _ _ _ H2
    have d1 := cell_of_row _ _ 1 _ _ _ H2
    clear c0 c1 z0 z1
    refine bodyPost_ret (v := .tuple #[.agg #[.string ⟨#[]⟩, .string ⟨#[]⟩], .int .i64 3]) (by simp [results, Tryd.results29, go_sem, d0, d1]) rfl ⟨rfl, ?_⟩
    exact (HB2.out.setCell (p := ⟨w.heap.size, 0, none⟩) (Nat.le_refl _) _).setCell (p := ⟨w.heap.size, 1, none⟩) (Nat.le_refl _) _
  | some x =>
    cases db with
    | none =>
      simp only at HD1 HD2 ⊢
      go_enter Tryd.func29, Tryd.ntmps29
      go_wp2_with (first | (go_at_call 17; refine (HC.out _).mono ?_; rintro e w' ⟨rfl, n, rfl⟩))
      refine (HD1.out _).mono ?_
      rintro e w2 ⟨rfl, hb2⟩
      have HK2 := Lib.hid (keep2 hb2)
      have HB2 := Lib.hid (keepB hb2)
      clear hb2
      go_wp2_with fail
      refine (HD2.out _).mono ?_
      rintro e w3 ⟨rfl, hb3⟩
      have HK3 : Hid (w3.heap[w.heap.size]? = _) := (hb3.block w.heap.size (Array.getElem?_eq_some_iff.1 HK2.out).1).trans HK2.out
      have HB3 : Hid (Below w.heap.size w w3) := HB2.out.trans (hb3.mono HB2.out.size)
      clear hb3
      have c0 := cell_of_row _ _ 0 _ _ _ HK3.out
      have c1 := cell_of_row _ _ 1 _ _ _ HK3.out
      have z0 := frz2 HK3.out 0
      have z1 := frz2 HK3.out 1
      go_wp2
      have H2 := set2 HK3.out (.string ⟨#[]⟩) (.string ⟨#[]⟩)
      have d0 := cell_of_row _ _ 0 _ _ _ H2
      have d1 := cell_of_row _ _ 1 _ _ _ H2
      clear c0 c1 z0 z1
      refine bodyPost_ret (v := .tuple #[.agg #[.string ⟨#[]⟩, .string ⟨#[]⟩], .int .i64 3]) (by simp [results, Tryd.results29, go_sem, d0, d1]) rfl ⟨rfl, ?_⟩
      exact (HB3.out.setCell (p := ⟨w.heap.size, 0, none⟩) (Nat.le_refl _) _).setCell (p := ⟨w.heap.size, 1, none⟩) (Nat.le_refl _) _
    | some y =>
      simp only at HD1 HD2 ⊢
      go_enter Tryd.func29, Tryd.ntmps29
      go_wp2_with (first | (go_at_call 17; refine (HC.out _).mono ?_; rintro e w' ⟨rfl, n, rfl⟩))
      refine (HD1.out _).mono ?_
      rintro e w2 ⟨rfl, hb2⟩
      have HK2 := Lib.hid (keep2 hb2)
      have HB2 := Lib.hid (keepB hb2)
      clear hb2
      go_wp2_with fail
      refine (HD2.out _).mono ?_
      rintro e w3 ⟨rfl, hb3⟩
      have HK3 : Hid (w3.heap[w.heap.size]? = _) := (hb3.block w.heap.size (Array.getElem?_eq_some_iff.1 HK2.out).1).trans HK2.out
      have HB3 : Hid (Below w.heap.size w w3) := HB2.out.trans (hb3.mono HB2.out.size)
      clear hb3
      have c0 := cell_of_row _ _ 0 _ _ _ HK3.out
      have c1 := cell_of_row _ _ 1 _ _ _ HK3.out
      have z0 := frz2 HK3.out 0
      have z1 := frz2 HK3.out 1
      go_wp2
      have H2 := set2 HK3.out (.string (mkS x)) (.string (mkS y))
      have d0 := cell_of_row _ _ 0 _ _ _ H2
      have d1 := cell_of_row _ _ 1 _ _ _ H2
      clear c0 c1 z0 z1
      refine bodyPost_ret (v := .tuple #[.agg #[.string (mkS x), .string (mkS y)], .int .i64 0]) (by simp [results, Tryd.results29, go_sem, d0, d1]) rfl ⟨rfl, ?_⟩
      exact (HB3.out.setCell (p := ⟨w.heap.size, 0, none⟩) (Nat.le_refl _) _).setCell (p := ⟨w.heap.size, 1, none⟩) (Nat.le_refl _) _
theorem own_sl {w : World} {B : Nat} {e : TypeId} {k : Nat} {v : Value} {n : Nat} {xs : List Value} (h : w.ownsRow B e k v n xs) : ∃ ao m cap, v = .slice ao m cap := by
  rcases h.2 with ⟨rfl, _⟩ | ⟨g, cap, cur, rfl, _⟩
  · exact ⟨_, _, _, rfl⟩
  · exact ⟨_, _, _, rfl⟩
end Go.Proofs.YtflhapnanhbcgaaDoor.Pc
