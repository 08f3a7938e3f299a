/- The library's SortFunc at entries, Sort at texts, Clone at entries, over rows of one's own; no other condition. -/
import Derived.Test.YtneogelhdikcaaaNtF
import Derived.Test.YtneogelhdikcaaaNtG0
import Derived.Sort.Walk0
namespace Go.Proofs.Ytneogelhdikcaaa.Nt
open Go.RowKit Go.Lib Go.Maps Go.Sort Go.Shelf
set_option linter.unusedSimpArgs false
set_option linter.unusedVariables false

theorem cb_lt : ∀ a b : Tx, compareBytes a b < 0 ↔ a < b
  | [], [] => by simp [compareBytes]
  | [], _ :: _ => by simp [compareBytes]
  | _ :: _, [] => by simp [compareBytes]
  | c :: r, d :: s => by
    unfold compareBytes
    rw [List.cons_lt_cons_iff]
    by_cases h1 : c < d
    · rw [if_pos h1]; simp [h1]
    · by_cases h2 : d < c
      · rw [if_neg h1, if_pos h2]
        have : ¬ c = d := fun e => by rw [e] at h2; rw [UInt8.lt_iff_toNat_lt] at h2; omega
        simp [h1, this]
      · rw [if_neg h1, if_neg h2]
        have : c = d := by apply UInt8.toNat_inj.1; rw [UInt8.lt_iff_toNat_lt] at *; omega
        rw [this, cb_lt r s]
        have h3 : ¬ d < d := by rw [UInt8.lt_iff_toNat_lt]; omega
        simp [h3]
abbrev TB := Tx × Bool
def cfN (x y : TB) : Int := compareBytes x.1 y.1
theorem lt_cf (x y : TB) : ltOf cfN x y = decide (x.1 < y.1) := by unfold ltOf cfN; exact decide_eq_decide.2 (cb_lt _ _)
theorem swoN : SWO (ltOf cfN) where
  irrefl x := by rw [lt_cf]; exact decide_eq_false (List.lt_irrefl _)
  trans x y z h1 h2 := by
    rw [lt_cf] at *
    exact decide_eq_true (tlt_trans (of_decide_eq_true h1) (of_decide_eq_true h2))
  ntrans x y z h1 h2 := by
    rw [lt_cf] at *
    refine decide_eq_false (fun h3 => ?_)
    have g1 := tle_of (of_decide_eq_false h1)
    have g2 := tle_of (of_decide_eq_false h2)
    exact absurd h3 (List.not_lt.2 (List.le_trans g2 g1))
def encB (x : TB) : List Value := encE (0, 0, x.1, x.2)
theorem bare_flat (fs : List TB) : eC (bare fs) = fs.flatMap encB := by unfold eC bare; rw [List.flatMap_map]; rfl
theorem flat_eB (fs : List TB) (j : Nat) (hj : j < fs.length * 4) : (eC (bare fs))[j]? = some ((flatK encB 4 fs.toArray)[j]!) := by
  have hq : j / 4 < fs.length := by omega
  rw [get_flatK _ _ _ _ (by simpa using hj)]
  have e : fs.toArray[j / 4]! = fs[j / 4] := by rw [getElem!_pos fs.toArray (j / 4) (by simpa using hq)]; simp
  rw [e]
  have hb : j / 4 < (bare fs).length := by rw [bare_len]; exact hq
  have eb : (bare fs)[j / 4] = (0, 0, fs[j / 4].1, fs[j / 4].2) := by simp [bare]
  obtain ⟨h0, h1, h2, h3⟩ := eC_at (bare fs) (j / 4) hb
  rw [eb] at h0 h1 h2 h3
  have hm : j % 4 = 0 ∨ j % 4 = 1 ∨ j % 4 = 2 ∨ j % 4 = 3 := by omega
  rcases hm with h | h | h | h
  · rw [h, show (eC (bare fs))[j]? = (eC (bare fs))[j / 4 * 4]? by congr 1; omega, h0]; rfl
  · rw [h, show (eC (bare fs))[j]? = (eC (bare fs))[j / 4 * 4 + 1]? by congr 1; omega, h1]; rfl
  · rw [h, show (eC (bare fs))[j]? = (eC (bare fs))[j / 4 * 4 + 2]? by congr 1; omega, h2]; rfl
  · rw [h, show (eC (bare fs))[j]? = (eC (bare fs))[j / 4 * 4 + 3]? by congr 1; omega, h3]; rfl
set_option maxRecDepth 100000 in
set_option maxHeartbeats 1000000 in
theorem less_c (x y : TB) (W : World) : Calls Try.prog 24 #[.agg #[.int .i64 0, .int .i64 0, .string (mkS x.1), .bool x.2], .agg #[.int .i64 0, .int .i64 0, .string (mkS y.1), .bool y.2]] W fun e w' => e = .returned (.int .i64 (cfN x y)) ∧ ∃ q os', w' = grow (W.drewN q) os' := by
  have hcon := fun W' => Any.strings_Compare Try.lays106 (mkS x.1) (mkS y.1) W'
  change ∀ W', Calls Try.prog 25 _ _ _ at hcon
  simp only [mkS_data] at hcon
  unfold cfN
  generalize compareBytes x.1 y.1 = r at hcon ⊢
  go_enter Try.func24, Try.ntmps24
  go_wp2_with (go_at_call 25; refine (hcon _).mono ?_; rintro e w' ⟨rfl, rfl⟩)
  go_ret
  exact ⟨rfl, 0, _, by rw [alloc_eq_grow, alloc_eq_grow, grow_grow]; rfl⟩
/-- elements that can be read and written: n of k cells each, at whatever offset -/
def OwW (B k n : Nat) (v : Value) (cs : List Value) (w : World) : Prop := cs.length = n * k ∧ ∃ ao cap, v = .slice ao n cap ∧ n ≤ cap ∧ ((ao = none ∧ n = 0) ∨ ∃ g o, ao = some ⟨g, o, none⟩ ∧ B ≤ g ∧ g < w.heap.size ∧ w.rangeAt g o cs ∧ w.there g o (n * k))
theorem OwG.ww {B k n : Nat} {v : Value} {cs : List Value} {w : World} (h : OwG B k n v cs w) : OwW B k n v cs w := by
  refine ⟨h.1, ?_⟩
  rcases h.2 with ⟨rfl, rfl⟩ | ⟨g, o, cap, rfl, h1, h2, h3, h4, h5, h6⟩
  · exact ⟨_, _, rfl, Nat.le_refl _, .inl ⟨rfl, rfl⟩⟩
  · exact ⟨_, _, rfl, h3, .inr ⟨g, o, rfl, h1, h2, h5, fun j hj => h6 j (Nat.lt_of_lt_of_le hj (Nat.mul_le_mul_right _ h3))⟩⟩
theorem OwW.rd {B k n : Nat} {v : Value} {cs : List Value} {w : World} (h : OwW B k n v cs w) : Rd n cs v w := by
  obtain ⟨_, ao, cap, rfl, _, h⟩ := h
  rcases h with ⟨rfl, rfl⟩ | ⟨g, o, rfl, h1, h2, h5, h6⟩
  · exact Rd.nil _ _ _ _
  · exact ⟨_, _, rfl, fun _ => ⟨g, o, rfl, h2, h5⟩⟩
theorem OwW.kept {B k n : Nat} {v : Value} {cs : List Value} {w W : World} (h : OwW B k n v cs w) (hs : w.heap.size ≤ W.heap.size) (hb : ∀ g, v.ownBlock = some g → W.heap[g]? = w.heap[g]?) : OwW B k n v cs W := by
  obtain ⟨h0, ao, cap, rfl, hc, h⟩ := h
  refine ⟨h0, ao, cap, rfl, hc, ?_⟩
  rcases h with ⟨rfl, rfl⟩ | ⟨g, o, rfl, h1, h2, h5, h6⟩
  · exact .inl ⟨rfl, rfl⟩
  · have hg := hb g rfl
    refine .inr ⟨g, o, rfl, h1, Nat.lt_of_lt_of_le h2 hs, fun j v hv => ?_, fun j hj => ?_⟩
    · rw [World.cell?_of_block (w := w) (a := ⟨g, o + j, none⟩) hg]; exact h5 j v hv
    · rw [World.cell?_of_block (w := w) (a := ⟨g, o + j, none⟩) hg, World.frozen?_of_block (w := w) (a := ⟨g, o + j, none⟩) hg]; exact h6 j hj
theorem OwW.lt {B k n : Nat} {v : Value} {cs : List Value} {w : World} (h : OwW B k n v cs w) : ∀ g, v.ownBlock = some g → B ≤ g ∧ g < w.heap.size := by
  intro q hq
  obtain ⟨_, ao, cap, rfl, _, h⟩ := h
  rcases h with ⟨rfl, rfl⟩ | ⟨g, o, rfl, h1, h2, _⟩
  · cases hq
  · injection hq with hq
    have : g = q := hq
    subst this
    exact ⟨h1, h2⟩
theorem OwW.go {B k n : Nat} {v : Value} {cs : List Value} {w W : World} (h : OwW B k n v cs w) (hb : Below w.heap.size w W) : OwW B k n v cs W := h.kept hb.size (fun g hg => hb.block g (h.lt g hg).2)
theorem grown_sort (w : World) (enc : TB → List Value) (g o n : Nat) (d : Array TB) (os : Array Obj) : w.grownBy (sortWorldK enc 4 w g o n d os) (some g) := by
  refine ⟨rfl, rfl, rfl, size_sortWorldK_c enc 4 w g o n d os, fun k hk hne => ?_⟩
  have h1 : (sortWorldK enc 4 w g o n d os).heap = (w.heap.modify g (onCells (putCells id o (flatK enc 4 d)))) ++ os := rfl
  rw [h1]
  rw [Array.getElem?_append_left (by simpa using hk), Array.getElem?_modify, if_neg (fun e => hne (by rw [e]))]
set_option maxHeartbeats 1000000 in
theorem sort_c (B : Nat) (v : Value) (fs : List TB) (w : World) (h : OwG B 4 fs.length v (eC (bare fs)) w) (hm : fs.length ≤ 1000000) :
    Calls Try.prog 23 #[v, .func (.func 24) #[] #[]] w fun e w' => e = .returned (.tuple #[]) ∧ ∃ gs, gs.Perm fs ∧ gs.Pairwise (fun a b => ¬ b.1 < a.1) ∧ OwW B 4 gs.length v (eC (bare gs)) w' ∧ w.grownBy w' v.ownBlock := by
  rcases h.2 with ⟨rfl, h0⟩ | ⟨g, o, cap, rfl, h1, h2, h3, h4, h5, h6⟩
  · have hf : fs = [] := List.eq_nil_of_length_eq_zero h0
    subst hf
    have hcon := AnyF.slices_SortFunc_none Try.sortP none 0 (.func (.func 24) #[] #[]) w
    change Calls Try.prog 23 _ _ _ at hcon
    refine hcon.mono ?_
    rintro e w' ⟨rfl, rfl⟩
    exact ⟨rfl, [], List.Perm.refl _, List.Pairwise.nil, h.ww, ⟨rfl, rfl, rfl, Nat.le_refl _, fun _ _ _ => rfl⟩⟩
  · have eg : ∀ args w, (callFunc 24 args).run Try.prog w = .ok (.enter 24 args) w := enters_of Try.func24 (by kernel_rfl) rfl
    have hH : HoldsK encB 4 w g o fs.toArray := fun j hj => by
      have hj' : j < fs.length * 4 := by simpa using hj
      exact ⟨h5 j _ (flat_eB fs j hj'), (h6 j (Nat.lt_of_lt_of_le hj' (Nat.mul_le_mul_right _ h3))).2⟩
    have hcon := AnyQ.slices_SortFunc Try.sortP 4 Try.isAgg47 Try.sizeOf47 encB (fun _ => rfl) (fun x v hv => encE_ok _ v hv) cfN swoN 24 #[] g o cap fs.toArray w eg (fun m os dk _ x y => less_c x y _) hH h2 (by simp; omega)
    change Calls Try.prog 23 _ _ _ at hcon
    have e1 : fs.toArray.size = fs.length := by simp
    rw [e1] at hcon
    refine hcon.mono ?_
    rintro e w' ⟨he, d', n, os, hp, hs, hw⟩
    have hz : d'.size = fs.length := by rw [hp.1]; simp
    have hpm : d'.toList.Perm fs := by
      have h := hp.2.2
      rw [show fs.length = d'.size from hz.symm, Array.extract_size] at h
      rw [hz, ← e1, Array.extract_size] at h
      simpa using h
    have hgr : w.grownBy w' (some g) := by rw [hw]; exact grown_sort _ _ _ _ _ _ _
    have hlen : d'.toList.length = fs.length := by rw [Array.length_toList, hz]
    have hH2 := holdsK_sortWorldK_c encB 4 w g o fs.toArray d' n os hH h2 (by rw [e1]; exact hz)
    rw [← hw] at hH2
    refine ⟨he, d'.toList, hpm, ?_, ⟨?_, some ⟨g, o, none⟩, cap, by rw [hlen], by omega, .inr ⟨g, o, rfl, h1, Nat.lt_of_lt_of_le h2 hgr.size, fun j u hu => ?_, fun j hj => ?_⟩⟩, hgr⟩
    · rw [List.pairwise_iff_getElem]
      intro i j hi hj hij
      have h := hs i j (Nat.zero_le _) hij (by rw [← hz]; simpa using hj)
      rw [lt_cf, decide_eq_false_iff_not, getElem!_pos d' i (by simpa using hi), getElem!_pos d' j (by simpa using hj)] at h
      simpa using h
    · rw [eC_len, bare_len]
    · have hj : j < d'.toList.length * 4 := by
        rcases Nat.lt_or_ge j (d'.toList.length * 4) with q | q
        · exact q
        · rw [List.getElem?_eq_none (by rw [eC_len, bare_len]; exact q)] at hu; cases hu
      rw [flat_eB _ _ hj] at hu
      have := (hH2 j (by simpa using hj)).1
      rw [this]
      simpa using hu
    · obtain ⟨c1, c2⟩ := hH2 j (by simpa using hj)
      exact ⟨by rw [c1]; rfl, c2⟩
end Go.Proofs.Ytneogelhdikcaaa.Nt
