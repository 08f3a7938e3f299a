/- Contracts and plain mathematics of some packages' functions, laid together; conditions as each one says. -/
import Derived.Test.YtcknlnphgndaoaaGreatDoorLbA
import Derived.Shelf.SlSortCmp.NoneTotal
import Derived.Shelf.SlicesE.Clone
import Derived.Shelf.SlicesQ.Equal
import Derived.Shelf.SlGeneric
import Derived.Ground.SlsfProg
import Derived.Ground.SlgnProg
import Derived.Ground.SlgqProg
import Derived.Test.YtcknlnphgndaoaaGreatDoorProg
import Derived.Laws.CopyRow
import Derived.Laws.IdiomCopy
import Derived.Laws.StructEq
import Derived.Test.YtcknlnphgndaoaaGreatDoorJtBa
import Derived.Deep.SlicePairs
import Derived.Deep.AppendLies
import Derived.ShutString
import Derived.ChangeOld
namespace Go.Proofs.YtcknlnphgndaoaaGreatDoor.Lb
open Go.RowKit Go.Sort Go.Lib Go.Shelf
set_option linter.unusedSimpArgs false
set_option linter.unusedVariables false

theorem cb_self : ∀ a : List UInt8, compareBytes a a = 0
  | [] => by simp [compareBytes]
  | c :: r => by
    unfold compareBytes
    rw [if_neg (by rw [UInt8.lt_iff_toNat_lt]; omega), if_neg (by rw [UInt8.lt_iff_toNat_lt]; omega)]
    exact cb_self r
theorem cb_anti : ∀ a b : List UInt8, compareBytes b a = - compareBytes a b
  | [], [] => by simp [compareBytes]
  | [], _ :: _ => by simp [compareBytes]
  | _ :: _, [] => by simp [compareBytes]
  | c :: r, d :: s => by
    unfold compareBytes
    by_cases h1 : c < d
    · have h2 : ¬ d < c := by rw [UInt8.lt_iff_toNat_lt] at *; omega
      rw [if_pos h1, if_neg h2, if_pos h1]; rfl
    · by_cases h2 : d < c
      · rw [if_pos h2, if_neg h1, if_pos h2]
      · rw [if_neg h2, if_neg h1, if_neg h1, if_neg h2]
        exact cb_anti r s
theorem cb_zero : ∀ a b : List UInt8, compareBytes a b = 0 → a = b
  | [], [], _ => rfl
  | [], _ :: _, h => by simp [compareBytes] at h
  | _ :: _, [], h => by simp [compareBytes] at h
  | c :: r, d :: s, h => by
    unfold compareBytes at h
    by_cases h1 : c < d
    · rw [if_pos h1] at h; omega
    · by_cases h2 : d < c
      · rw [if_neg h1, if_pos h2] at h; omega
      · rw [if_neg h1, if_neg h2] at h
        have : c = d := by apply UInt8.toNat_inj.1; rw [UInt8.lt_iff_toNat_lt] at *; omega
        rw [this, cb_zero r s h]
theorem cb_trans : ∀ a b c : List UInt8, compareBytes a b < 0 → compareBytes b c < 0 → compareBytes a c < 0
  | [], _, [], h1, h2 => by
    rename_i b
    cases b with
    | nil => simp [compareBytes] at h1
    | cons => simp [compareBytes] at h2
  | [], _, _ :: _, _, _ => by simp [compareBytes]
  | _ :: _, [], _, h1, _ => by simp [compareBytes] at h1
  | _ :: _, _ :: _, [], _, h2 => by simp [compareBytes] at h2
  | x :: r, y :: s, z :: t, h1, h2 => by
    unfold compareBytes at h1 h2 ⊢
    simp only [UInt8.lt_iff_toNat_lt] at *
    by_cases a1 : x.toNat < y.toNat
    · by_cases b1 : y.toNat < z.toNat
      · rw [if_pos (by omega)]; omega
      · rw [if_neg b1] at h2
        by_cases b2 : z.toNat < y.toNat
        · rw [if_pos b2] at h2; omega
        · rw [if_pos (by omega)]; omega
    · rw [if_neg a1] at h1
      by_cases a2 : y.toNat < x.toNat
      · rw [if_pos a2] at h1; omega
      · rw [if_neg a2] at h1
        by_cases b1 : y.toNat < z.toNat
        · rw [if_pos (by omega)]; omega
        · rw [if_neg b1] at h2
          by_cases b2 : z.toNat < y.toNat
          · rw [if_pos b2] at h2; omega
          · rw [if_neg b2] at h2
            rw [if_neg (by omega), if_neg (by omega)]
            exact cb_trans r s t h1 h2
/-- how names stand to each other -/
def cfN (x y : FB) : Int := compareBytes x.1.data.toList y.1.data.toList
theorem cf_eq {x y : FB} (h1 : ¬ cfN x y < 0) (h2 : ¬ cfN y x < 0) : x.1 = y.1 := by
  unfold cfN at h1 h2
  rw [cb_anti] at h2
  have h := cb_zero _ _ (show compareBytes x.1.data.toList y.1.data.toList = 0 by omega)
  obtain ⟨⟨⟨a⟩⟩, _⟩ := x
  obtain ⟨⟨⟨b⟩⟩, _⟩ := y
  have h' : a = b := h
  rw [h']
theorem cf_self (x : FB) : cfN x x = 0 := cb_self _
theorem cf_anti (x y : FB) : cfN y x = - cfN x y := cb_anti _ _
theorem swoN : SWO (ltOf cfN) where
  irrefl x := by unfold ltOf; rw [cf_self]; rfl
  trans x y z h1 h2 := by
    unfold ltOf at *
    rw [decide_eq_true_eq] at *
    exact cb_trans _ _ _ h1 h2
  ntrans x y z h1 h2 := by
    unfold ltOf at *
    rw [decide_eq_false_iff_not] at *
    intro h3
    by_cases h4 : cfN y x < 0
    · exact h2 (cb_trans _ _ _ h4 h3)
    · have e := cf_eq h1 h4
      apply h2
      unfold cfN at h3 ⊢
      rw [← e]; exact h3
/-- rows that don't fall by their names -/
def Asc (gs : List FB) : Prop := gs.Pairwise fun x y => ¬ cfN y x < 0
/-- no name twice -/
def Onc (gs : List FB) : Prop := (gs.map (·.1)).Nodup
instance (gs : List FB) : Decidable (Onc gs) := inferInstanceAs (Decidable (List.Nodup _))
theorem onc_iff {fs gs : List FB} (hp : gs.Perm fs) : Onc gs ↔ Onc fs := (hp.map (fun x : FB => x.1)).nodup_iff
theorem Onc.perm {fs gs : List FB} (h : Onc fs) (hp : gs.Perm fs) : Onc gs := (onc_iff hp).2 h
theorem onc_inj : ∀ {gs : List FB}, Onc gs → ∀ {x y : FB}, x ∈ gs → y ∈ gs → x.1 = y.1 → x = y
  | [], _, _, _, hx, _, _ => by cases hx
  | g :: r, h, x, y, hx, hy, e => by
    unfold Onc at h
    rw [List.map_cons, List.nodup_cons] at h
    rcases List.mem_cons.1 hx with hx' | hx'
    · rcases List.mem_cons.1 hy with hy' | hy'
      · rw [hx', hy']
      · subst hx'; exact absurd (List.mem_map.2 ⟨y, hy', e.symm⟩ : x.1 ∈ r.map (·.1)) h.1
    · rcases List.mem_cons.1 hy with hy' | hy'
      · subst hy'; exact absurd (List.mem_map.2 ⟨x, hx', e⟩ : y.1 ∈ r.map (·.1)) h.1
      · exact onc_inj (gs := r) h.2 hx' hy' e
/-- there is one such row -/
theorem asc_one : ∀ {gs hs : List FB}, gs.Perm hs → Asc gs → Asc hs → Onc gs → gs = hs
  | [], hs, hp, _, _, _ => (hp.symm.eq_nil).symm
  | g :: r, [], hp, _, _, _ => by have := hp.length_eq; simp at this
  | g :: r, h :: t, hp, ha, hb, ho => by
    have hg : g ∈ h :: t := hp.mem_iff.1 (by simp)
    have hh : h ∈ g :: r := hp.mem_iff.2 (by simp)
    have e : g = h := by
      have h1 : ¬ cfN h g < 0 := by
        rcases List.mem_cons.1 hh with rfl | hm
        · rw [cf_self]; omega
        · exact (List.pairwise_cons.1 ha).1 _ hm
      have h2 : ¬ cfN g h < 0 := by
        rcases List.mem_cons.1 hg with rfl | hm
        · rw [cf_self]; omega
        · exact (List.pairwise_cons.1 hb).1 _ hm
      exact onc_inj ho (by simp) hh (cf_eq h2 h1)
    subst e
    have hp' : r.Perm t := hp.cons_inv
    have ho' : Onc r := by unfold Onc at ho ⊢; rw [List.map_cons, List.nodup_cons] at ho; exact ho.2
    rw [asc_one hp' (List.pairwise_cons.1 ha).2 (List.pairwise_cons.1 hb).2 ho']
/-- of a row that doesn't fall: no name twice, just if none stands beside itself -/
theorem onc_adj {gs : List FB} (ha : Asc gs) (hn : ∀ i (h : i + 1 < gs.length), gs[i + 1].1 ≠ gs[i].1) : Onc gs := by
  have hlt : ∀ j i (hij : i < j) (hj : j < gs.length), cfN gs[i] gs[j] < 0 := by
    intro j
    induction j with
    | zero => intro i h; omega
    | succ j ih =>
      intro i hij hj
      have h1 : cfN gs[j] gs[j + 1] < 0 := by
        by_cases h : cfN gs[j] gs[j + 1] < 0
        · exact h
        · have h2 : ¬ cfN gs[j + 1] gs[j] < 0 := (List.pairwise_iff_getElem.1 ha) j (j + 1) (by omega) hj (by omega)
          exact absurd (cf_eq h2 h) (hn j hj)
      rcases Nat.lt_succ_iff_lt_or_eq.1 hij with h | h
      · exact cb_trans _ _ _ (ih i h (by omega)) h1
      · subst h; exact h1
  unfold Onc
  rw [List.nodup_iff_pairwise_ne, List.pairwise_map, List.pairwise_iff_getElem]
  intro i j hi hj hij e
  have h := hlt j i hij hj
  unfold cfN at h
  rw [e, cb_self] at h
  omega
theorem onc_no {gs : List FB} {i : Nat} (h : i + 1 < gs.length) (e : gs[i + 1].1 = gs[i].1) : ¬ Onc gs := fun ho => by
  unfold Onc at ho
  rw [List.nodup_iff_pairwise_ne, List.pairwise_map, List.pairwise_iff_getElem] at ho
  exact ho i (i + 1) (by omega) h (by omega) e.symm
theorem asc_of {d d' : Array FB} (hs : SortedIn (ltOf cfN) 0 d.size d') (hz : d'.size = d.size) : Asc d'.toList := by
  unfold Asc
  rw [List.pairwise_iff_getElem]
  intro i j hi hj hij
  have h := hs i j (Nat.zero_le _) hij (by rw [← hz]; simpa using hj)
  unfold ltOf at h
  rw [decide_eq_false_iff_not] at h
  rw [getElem!_pos d' i (by simpa using hi), getElem!_pos d' j (by simpa using hj)] at h
  simpa using h
theorem perm_of {d d' : Array FB} (hp : PermIn 0 d.size d d') : d'.toList.Perm d.toList := by
  have h := hp.2.2
  rw [show d.size = d'.size from hp.1.symm, Array.extract_size] at h
  rw [hp.1, Array.extract_size] at h
  exact h
end Go.Proofs.YtcknlnphgndaoaaGreatDoor.Lb
namespace Go.Proofs
open Go.Shelf
def Tryz.sortP_ren : Go.Shelf.Ren := ⟨fun | 6 => 16 | 15 => 32 | 14 => 31 | 28 => 51 | 29 => 52 | 20 => 43 | 21 => 44 | 22 => 45 | 23 => 46 | 24 => 47 | 25 => 48 | 26 => 49 | 27 => 50 | 46 => 63 | 47 => 64 | 48 => 65 | 49 => 66 | 50 => 67 | 57 => 84 | n => n, fun | 22 => 23 | 24 => 39 | 25 => 45 | 3 => 3 | 39 => 66 | 0 => 0 | 53 => 90 | 55 => 92 | 4 => 4 | 46 => 83 | 45 => 82 | 50 => 87 | 5 => 5 | 9 => 9 | 66 => 105 | 70 => 109 | 76 => 130 | 77 => 79 | n => n, fun | n => n⟩
theorem Tryz.sortP : Go.Proofs.SlLaysF0.n6 Tryz.prog Tryz.sortP_ren := {
  mixed := by kernel_rfl
  f6 := ⟨Tryz.f16.name, by decide, Tryz.func16.trans (congrArg some (by kernel_rfl))⟩
  f14 := ⟨Tryz.f31.name, by decide, Tryz.func31.trans (congrArg some (by kernel_rfl))⟩
  f15 := Tryz.func32.trans (congrArg some (by kernel_rfl))
  f20 := ⟨Tryz.f43.name, by decide, Tryz.func43.trans (congrArg some (by kernel_rfl))⟩
  f21 := ⟨Tryz.f44.name, by decide, Tryz.func44.trans (congrArg some (by kernel_rfl))⟩
  f22 := ⟨Tryz.f45.name, by decide, Tryz.func45.trans (congrArg some (by kernel_rfl))⟩
  f23 := ⟨Tryz.f46.name, by decide, Tryz.func46.trans (congrArg some (by kernel_rfl))⟩
  f24 := ⟨Tryz.f47.name, by decide, Tryz.func47.trans (congrArg some (by kernel_rfl))⟩
  f25 := ⟨Tryz.f48.name, by decide, Tryz.func48.trans (congrArg some (by kernel_rfl))⟩
  f26 := ⟨Tryz.f49.name, by decide, Tryz.func49.trans (congrArg some (by kernel_rfl))⟩
  f27 := ⟨Tryz.f50.name, by decide, Tryz.func50.trans (congrArg some (by kernel_rfl))⟩
  f28 := Tryz.func51.trans (congrArg some (by kernel_rfl))
  f29 := Tryz.func52.trans (congrArg some (by kernel_rfl))
  f46 := ⟨Tryz.f63.name, by decide, Tryz.func63.trans (congrArg some (by kernel_rfl))⟩
  f47 := Tryz.func64.trans (congrArg some (by kernel_rfl))
  f48 := Tryz.func65.trans (congrArg some (by kernel_rfl))
  f49 := ⟨Tryz.f66.name, by decide, Tryz.func66.trans (congrArg some (by kernel_rfl))⟩
  f50 := ⟨Tryz.f67.name, by decide, Tryz.func67.trans (congrArg some (by kernel_rfl))⟩
  f57 := ⟨Tryz.f84.name, by decide, Tryz.func84.trans (congrArg some (by kernel_rfl))⟩
  t0 := Tryz.underlying0
  a0 := Tryz.isAgg0
  z0 := Tryz.sizeOf0
  v0 := Tryz.zeroValue0
  t3 := Tryz.underlying3
  a3 := Tryz.isAgg3
  z3 := Tryz.sizeOf3
  v3 := Tryz.zeroValue3
  t4 := Tryz.underlying4
  a4 := Tryz.isAgg4
  z4 := Tryz.sizeOf4
  v4 := Tryz.zeroValue4
  t5 := Tryz.underlying5
  a5 := Tryz.isAgg5
  z5 := Tryz.sizeOf5
  v5 := Tryz.zeroValue5
  t9 := Tryz.underlying9
  a9 := Tryz.isAgg9
  z9 := Tryz.sizeOf9
  v9 := Tryz.zeroValue9
  t22 := Tryz.underlying23
  a22 := Tryz.isAgg23
  z22 := Tryz.sizeOf23
  v22 := Tryz.zeroValue23
  t25 := Tryz.underlying45
  a25 := Tryz.isAgg45
  z25 := Tryz.sizeOf45
  v25 := Tryz.zeroValue45
  t39 := Tryz.underlying66
  a39 := Tryz.isAgg66
  z39 := Tryz.sizeOf66
  v39 := Tryz.zeroValue66
  t45 := Tryz.underlying82
  a45 := Tryz.isAgg82
  z45 := Tryz.sizeOf82
  v45 := Tryz.zeroValue82
  t46 := Tryz.underlying83
  a46 := Tryz.isAgg83
  z46 := Tryz.sizeOf83
  v46 := Tryz.zeroValue83
  t50 := Tryz.underlying87
  a50 := Tryz.isAgg87
  z50 := Tryz.sizeOf87
  v50 := Tryz.zeroValue87
  t53 := Tryz.underlying90
  a53 := Tryz.isAgg90
  z53 := Tryz.sizeOf90
  v53 := Tryz.zeroValue90
  t55 := Tryz.underlying92
  a55 := Tryz.isAgg92
  z55 := Tryz.sizeOf92
  v55 := Tryz.zeroValue92
  t66 := Tryz.underlying105
  a66 := Tryz.isAgg105
  z66 := Tryz.sizeOf105
  v66 := Tryz.zeroValue105
  t70 := Tryz.underlying109
  a70 := Tryz.isAgg109
  z70 := Tryz.sizeOf109
  v70 := Tryz.zeroValue109
  t76 := Tryz.underlying130
  a76 := Tryz.isAgg130
  z76 := Tryz.sizeOf130
  v76 := Tryz.zeroValue130
  t77 := Tryz.underlying79
  a77 := Tryz.isAgg79
  z77 := Tryz.sizeOf79
  v77 := Tryz.zeroValue79 }
def Tryz.cloneP_ren : Go.Shelf.Ren := ⟨fun | 41 => 40 | n => n, fun | 22 => 23 | 23 => 39 | 4 => 4 | n => n, fun | n => n⟩
theorem Tryz.cloneP : Go.Proofs.SlLaysE0.n41 Tryz.prog Tryz.cloneP_ren := {
  mixed := by kernel_rfl
  f41 := ⟨Tryz.f40.name, by decide, Tryz.func40.trans (congrArg some (by kernel_rfl))⟩
  t4 := Tryz.underlying4
  a4 := Tryz.isAgg4
  z4 := Tryz.sizeOf4
  v4 := Tryz.zeroValue4
  t22 := Tryz.underlying23
  a22 := Tryz.isAgg23
  z22 := Tryz.sizeOf23
  v22 := Tryz.zeroValue23 }
def Tryz.equalP_ren : Go.Shelf.Ren := ⟨fun | 8 => 24 | n => n, fun | 22 => 23 | 24 => 39 | 4 => 4 | 3 => 3 | 0 => 0 | n => n, fun | n => n⟩
theorem Tryz.equalP : Go.Proofs.SlLaysQ.n8 Tryz.prog Tryz.equalP_ren := {
  mixed := by kernel_rfl
  f8 := ⟨Tryz.f24.name, by decide, Tryz.func24.trans (congrArg some (by kernel_rfl))⟩
  t0 := Tryz.underlying0
  a0 := Tryz.isAgg0
  z0 := Tryz.sizeOf0
  v0 := Tryz.zeroValue0
  t3 := Tryz.underlying3
  a3 := Tryz.isAgg3
  z3 := Tryz.sizeOf3
  v3 := Tryz.zeroValue3
  t4 := Tryz.underlying4
  a4 := Tryz.isAgg4
  z4 := Tryz.sizeOf4
  v4 := Tryz.zeroValue4
  t22 := Tryz.underlying23
  a22 := Tryz.isAgg23
  z22 := Tryz.sizeOf23
  v22 := Tryz.zeroValue23 }
end Go.Proofs
namespace Go.Proofs.YtcknlnphgndaoaaGreatDoor.Lb
open Go.RowKit Go.Sort Go.Lib Go.Shelf
set_option linter.unusedSimpArgs false
set_option linter.unusedVariables false

def encP (x : FB) : List Value := [.string x.1, .string x.2]
def fC (fs : List FB) : List Value := fs.flatMap encP
theorem fC_len (fs : List FB) : (fC fs).length = fs.length * 2 := by
  induction fs with
  | nil => rfl
  | cons x r ih => rw [show fC (x :: r) = encP x ++ fC r from rfl, List.length_append, ih]; simp [encP]; omega
theorem fC_at : ∀ (fs : List FB) (k : Nat) (hk : k < fs.length), (fC fs)[k * 2]? = some (.string fs[k].1) ∧ (fC fs)[k * 2 + 1]? = some (.string fs[k].2)
  | [], k, hk => by simp at hk
  | x :: fs, 0, _ => ⟨rfl, rfl⟩
  | x :: fs, k + 1, hk => by
    have ih := fC_at fs k (by simpa using hk)
    have e : fC (x :: fs) = .string x.1 :: .string x.2 :: fC fs := rfl
    rw [e, show (k + 1) * 2 = k * 2 + 2 by omega]
    exact ih
theorem fC_one (fs : List FB) : ∀ v ∈ fC fs, v.oneCell' = true := fun v hv => by
  obtain ⟨x, _, hx⟩ := List.mem_flatMap.1 hv
  simp [encP] at hx
  rcases hx with rfl | rfl <;> rfl
theorem flat_fC (fs : List FB) (j : Nat) (hj : j < fs.length * 2) : (fC fs)[j]? = some ((flatK encP 2 fs.toArray)[j]!) := by
  have hq : j / 2 < fs.length := by omega
  rw [get_flatK _ _ _ _ (by simpa using hj)]
  have e : fs.toArray[j / 2]! = fs[j / 2] := by rw [getElem!_pos fs.toArray (j / 2) (by simpa using hq)]; simp
  rw [e]
  obtain ⟨h0, h1⟩ := fC_at fs (j / 2) hq
  rcases Nat.mod_two_eq_zero_or_one j with h | h
  · rw [h, show (fC fs)[j]? = (fC fs)[j / 2 * 2]? by congr 1; omega, h0]; rfl
  · rw [h, show (fC fs)[j]? = (fC fs)[j / 2 * 2 + 1]? by congr 1; omega, h1]; rfl
set_option maxRecDepth 100000 in
set_option maxHeartbeats 1000000 in
theorem less_c (x y : FB) (W : World) : Calls Tryz.prog 17 #[.agg #[.string x.1, .string x.2], .agg #[.string y.1, .string y.2]] W fun e w' => e = .returned (.int .i64 (cfN x y)) ∧ ∃ q os', w' = grow (W.drewN q) os' := by
  have hcon := fun W' => Any.strings_Compare Tryz.lays106 x.1 y.1 W'
  change ∀ W', Calls Tryz.prog 18 _ _ _ at hcon
  unfold cfN
  generalize compareBytes x.1.data.toList y.1.data.toList = r at hcon ⊢
  go_enter Tryz.func17, Tryz.ntmps17
  go_wp2_with (go_at_call 18; refine (hcon _).mono ?_; rintro e w' ⟨rfl, rfl⟩)
  go_ret
  exact ⟨rfl, 0, _, by rw [alloc_eq_grow, alloc_eq_grow, grow_grow]; rfl⟩
theorem sortW_below (w : World) (g n : Nat) (d : Array FB) (os : Array Obj) (hg : g < w.heap.size) : Below g w (sortWorldK encP 2 w g 0 n d os) := by
  refine ⟨rfl, rfl, rfl, size_sortWorldK_c encP 2 w g 0 n d os, fun k hk => ?_⟩
  have h1 : (sortWorldK encP 2 w g 0 n d os).heap = (w.heap.modify g (onCells (putCells id 0 (flatK encP 2 d)))) ++ os := rfl
  rw [h1]
  have hs : k < w.heap.size := by omega
  rw [Array.getElem?_append_left (by simpa using hs), Array.getElem?_modify, if_neg (by omega)]
theorem info2 : (Tryz.prog.info? 39).map (fun i => (i.zero, i.size, i.bytes)) = some (some (.agg #[.string ⟨#[]⟩, .string ⟨#[]⟩]), 2, 32) := by kernel_rfl
set_option maxHeartbeats 1000000 in
theorem sort_c (g cap : Nat) (fs : List FB) (w : World) (h : w.heap[g]? = some (.cells (fC fs).toArray 39 (0, 0))) (hm : fs.length ≤ 5000) :
    Calls Tryz.prog 16 #[.slice (some ⟨g, 0, none⟩) fs.length cap, .func (.func 17) #[] #[]] w fun e w' => e = .returned (.tuple #[]) ∧ ∃ gs, gs.Perm fs ∧ Asc gs ∧ RdF (.slice (some ⟨g, 0, none⟩) fs.length cap) gs w' ∧ Below g w w' := by
  have hg : g < w.heap.size := (Array.getElem?_eq_some_iff.1 h).1
  have eg : ∀ args w, (callFunc 17 args).run Tryz.prog w = .ok (.enter 17 args) w := enters_of Tryz.func17 (by kernel_rfl) rfl
  have hH : HoldsK encP 2 w g 0 fs.toArray := fun j hj => by
    have hj' : j < fs.length * 2 := by simpa using hj
    rw [Nat.zero_add]
    refine ⟨?_, by simp [World.frozen?, h]⟩
    rw [cell_of_row _ _ j _ _ _ h, List.getElem?_toArray]
    exact flat_fC fs j hj'
  have hcon := AnyQ.slices_SortFunc Tryz.sortP 2 Tryz.isAgg39 Tryz.sizeOf39 encP (fun _ => rfl) (fun x v hv => by simp [encP] at hv; rcases hv with rfl | rfl <;> rfl) cfN swoN 17 #[] g 0 cap fs.toArray w eg (fun m os dk _ x y => less_c x y _) hH hg (by simp; omega)
  change Calls Tryz.prog 16 _ _ _ at hcon
  have e1 : fs.toArray.size = fs.length := by simp
  rw [e1] at hcon
  refine hcon.mono ?_
  rintro e w' ⟨he, d', n, os, hp, hs, hw⟩
  have hz : d'.size = fs.length := by rw [hp.1]; simp
  have hpm : d'.toList.Perm fs := by
    have := perm_of (d := fs.toArray) (d' := d') (by rw [e1]; exact hp)
    simpa using this
  refine ⟨he, d'.toList, hpm, asc_of (d := fs.toArray) (by rw [e1]; exact hs) (by rw [e1]; exact hz), ?_, hw ▸ sortW_below w g n d' os hg⟩
  refine ⟨some ⟨g, 0, none⟩, cap, by rw [show d'.toList.length = fs.length by rw [Array.length_toList, hz]], fun _ => ⟨g, 0, rfl, ?_, fun i hi => ?_⟩⟩
  · rw [hw]; exact Nat.lt_of_lt_of_le hg (size_sortWorldK_c encP 2 w g 0 n d' os)
  · have hH2 := holdsK_sortWorldK_c encP 2 w g 0 fs.toArray d' n os hH hg (by rw [e1]; exact hz)
    have hi' : i < d'.size := by simpa using hi
    have c0 := (hH2.cell hi' (c := 0) (by decide)).1
    have c1 := (hH2.cell hi' (c := 1) (by decide)).1
    rw [← hw] at c0 c1
    rw [getElem!_pos d' i hi'] at c0 c1
    have e2 : d'.toList[i] = d'[i] := by simp
    rw [e2]
    exact ⟨c0, c1⟩
/-- a row of pairs goes over -/
theorem run_copy_pairs (w : World) (dT sT ty : TypeId) (g dCap : Nat) (ao : Option Addr) (sCap : Nat) (fs : List FB) (cur : Array Value) (t : TypeId)
    (hu : Tryz.prog.underlying dT = some (.slice 39)) (hg : w.heap[g]? = some (.cells cur t (0, 0))) (hcz : cur.size = fs.length * 2)
    (hsrc : 0 < fs.length → ∃ b off, ao = some ⟨b, off, none⟩ ∧ ∀ i (hi : i < fs.length), w.cell? ⟨b, off + i * 2, none⟩ = some (.string fs[i].1) ∧ w.cell? ⟨b, off + i * 2 + 1, none⟩ = some (.string fs[i].2)) :
    (Builtin.copy_ #[dT, sT] ty #[.slice (some ⟨g, 0, none⟩) fs.length dCap, .slice ao fs.length sCap]).run Tryz.prog w = .ok (goInt fs.length) (w.setRow g (fC fs).toArray) := by
  obtain ⟨i, hi, _, hi2, _⟩ := info_parts info2
  by_cases h0 : fs = []
  · subst h0
    have hc0 : cur = #[] := Array.eq_empty_of_size_eq_zero (by simpa using hcz)
    subst hc0
    have hl : ∀ (x : Addr), (loadCells x 0).run Tryz.prog w = .ok #[] w := fun x => by simpa using run_loadCells_list (P := Tryz.prog) w x [] (by simp)
    have hself := setRow_self w g #[] t (0, 0) hg
    cases ao <;> simp [Builtin.copy_, run_underlying hu, Builtin.lenOf, Builtin.firstCells, sizeOf, typeInfo, hi, storeCells, hl, fC, hself]
  · have hpos : 0 < fs.length := by
      cases fs with
      | nil => exact absurd rfl h0
      | cons => simp
    obtain ⟨b, off, rfl, hat⟩ := hsrc hpos
    have hs : ∀ j v, (fC fs)[j]? = some v → w.cell? ((⟨b, off, none⟩ : Addr).add j) = some v := fun j v hv => by
      have hj : j < fs.length * 2 := by
        rcases Nat.lt_or_ge j (fs.length * 2) with h | h
        · exact h
        · rw [List.getElem?_eq_none (by rw [fC_len]; exact h)] at hv; cases hv
      have ea : (⟨b, off, none⟩ : Addr).add j = ⟨b, off + j, none⟩ := by unfold Addr.add; split <;> simp_all
      rw [ea]
      have hq : j / 2 < fs.length := by omega
      obtain ⟨a0, a1⟩ := fC_at fs (j / 2) hq
      obtain ⟨b0, b1⟩ := hat (j / 2) hq
      rcases Nat.mod_two_eq_zero_or_one j with h | h
      · have ej : j = j / 2 * 2 := by omega
        rw [ej] at hv ⊢
        rw [b0, ← a0, hv]
      · have ej : j = j / 2 * 2 + 1 := by omega
        rw [ej] at hv ⊢
        rw [← Nat.add_assoc, b1, ← a1, hv]
    have hl := run_loadCells_list (P := Tryz.prog) w ⟨b, off, none⟩ (fC fs) hs
    have hst := run_storeCells_at Tryz.prog g 0 t (fC fs) 0 cur w hg (by rw [fC_len, hcz]; omega) (fC_one fs)
    have e3 : (List.take (0 + 0) cur.toList ++ fC fs ++ List.drop (0 + 0 + (fC fs).length) cur.toList) = fC fs := by
      rw [List.drop_of_length_le (by rw [Array.length_toList, fC_len]; omega)]; simp
    rw [e3] at hst
    rw [fC_len] at hl
    simp [Builtin.copy_, run_underlying hu, Builtin.lenOf, Builtin.firstCells, sizeOf, typeInfo, hi, hi2, hl, hst]
theorem wpList_copy_pairs {w : World} {ops : Array Oper} {rest : List Oper} {o : Oper} {a : Act} {Q : Exit → Act → World → Prop} (hgd : o.guard = none) (d s : Operand) (dT sT : TypeId)
    (ho : o.op = .call { callee := .builtin .copy, args := #[d, s], argTypes := #[dT, sT] }) (hu : Tryz.prog.underlying dT = some (.slice 39))
    (g dCap : Nat) (ao : Option Addr) (sCap : Nat) (fs : List FB) (hd : a.eval d = .slice (some ⟨g, 0, none⟩) fs.length dCap) (hs : a.eval s = .slice ao fs.length sCap)
    (cur : Array Value) (t : TypeId) (hg : w.heap[g]? = some (.cells cur t (0, 0))) (hcz : cur.size = fs.length * 2)
    (hsrc : 0 < fs.length → ∃ b off, ao = some ⟨b, off, none⟩ ∧ ∀ i (hi : i < fs.length), w.cell? ⟨b, off + i * 2, none⟩ = some (.string fs[i].1) ∧ w.cell? ⟨b, off + i * 2 + 1, none⟩ = some (.string fs[i].2))
    (h : wpList Tryz.prog ops Q rest (a.put o.dst (goInt fs.length)) (w.setRow g (fC fs).toArray)) : wpList Tryz.prog ops Q (o :: rest) a w := by
  refine wpList_plain hgd fun K hK => ?_
  have hrun := run_copy_pairs w dT sT o.type g dCap ao sCap fs cur t hu hg hcz hsrc
  unfold Oper.wp
  simp [execOp, ho, resolve, invoke, builtin, hd, hs, hrun, Result.andThen]
  exact hK _ _ h
end Go.Proofs.YtcknlnphgndaoaaGreatDoor.Lb
namespace Go.Proofs.YtcknlnphgndaoaaGreatDoor.Lb
open Go.RowKit Ch Jt
set_option linter.unusedSimpArgs false
set_option linter.unusedVariables false

/-- where a row lies: nowhere, or at the head of a block -/
def Pl (ao : Option Addr) : Prop := ao = none ∨ ∃ g, ao = some ⟨g, 0, none⟩
/-- what Of answers -/
theorem frz {w : World} {g : Nat} {cs : Array Value} {t : TypeId} (h : w.heap[g]? = some (.cells cs t (0, 0))) (i : Nat) : w.frozen? ⟨g, i, none⟩ = false := by simp [World.frozen?, h]
theorem set1 {w : World} {g : Nat} {v : Value} {t : TypeId} (u : Value) (h : w.heap[g]? = some (.cells #[v] t (0, 0))) : (w.setCell ⟨g, 0, none⟩ u).heap[g]? = some (.cells #[u] t (0, 0)) := by
  have hg : g < w.heap.size := (Array.getElem?_eq_some_iff.1 h).1
  rw [setCell_eq_setRow w g 0 _ t _ u h, setRow_heap w g _ _ t _ h]; rfl
def OfQ (fs : List FB) (w : World) (e : Ending) (w' : World) : Prop := Below w.heap.size w w' ∧
  ((fs.any badB = true ∧ e = .returned (.tuple #[.agg #[.slice none 0 0], .int .i64 3])) ∨
   (fs.any badB = false ∧ ¬ Onc fs ∧ e = .returned (.tuple #[.agg #[.slice none 0 0], .int .i64 10])) ∨
   (fs.any badB = false ∧ Onc fs ∧ ∃ ao cap gs, Pl ao ∧ e = .returned (.tuple #[.agg #[.slice ao fs.length cap], .int .i64 0]) ∧ gs.Perm fs ∧ Asc gs ∧ RdF (.slice ao fs.length cap) gs w'))
theorem rdf_at {g cap n : Nat} {gs : List FB} {w : World} (h : RdF (.slice (some ⟨g, 0, none⟩) n cap) gs w) {i : Nat} (hi : i < gs.length) : w.cell? ⟨g, i * 2, none⟩ = some (.string gs[i].1) ∧ w.cell? ⟨g, i * 2 + 1, none⟩ = some (.string gs[i].2) ∧ g < w.heap.size := by
  obtain ⟨ao, cp, e, hh⟩ := h
  injection e with ea eb ec
  subst ea
  obtain ⟨g', off, e2, hg, hat⟩ := hh (by omega)
  injection e2 with e2
  injection e2 with e2 e3
  subst e2 e3
  obtain ⟨h0, h1⟩ := hat i hi
  rw [Nat.zero_add] at h0 h1
  exact ⟨h0, h1, hg⟩
theorem bdrN (W : World) (n : Nat) : Below W.heap.size W (W.drewN n) := ⟨rfl, rfl, rfl, Nat.le_refl _, fun _ _ => rfl⟩
theorem ofq_bad {fs : List FB} {w w' : World} (h : fs.any badB = true) (hb : Below w.heap.size w w') : OfQ fs w (.returned (.tuple #[.agg #[.slice none 0 0], .int .i64 3])) w' := ⟨hb, .inl ⟨h, rfl⟩⟩
theorem ofq_dup {fs : List FB} {w w' : World} (h : fs.any badB = false) (h2 : ¬ Onc fs) (hb : Below w.heap.size w w') : OfQ fs w (.returned (.tuple #[.agg #[.slice none 0 0], .int .i64 10])) w' := ⟨hb, .inr (.inl ⟨h, h2, rfl⟩)⟩
theorem ofq_ok {fs gs : List FB} {g cap : Nat} {w w' : World} (h : fs.any badB = false) (h2 : Onc fs) (hp : gs.Perm fs) (ha : Asc gs) (hr : RdF (.slice (some ⟨g, 0, none⟩) fs.length cap) gs w') (hb : Below w.heap.size w w') : OfQ fs w (.returned (.tuple #[.agg #[.slice (some ⟨g, 0, none⟩) fs.length cap], .int .i64 0])) w' := ⟨hb, .inr (.inr ⟨h, h2, _, cap, gs, .inr ⟨g, rfl⟩, rfl, hp, ha, hr⟩)⟩
set_option maxRecDepth 100000 in
set_option maxHeartbeats 4000000 in
theorem Of_c (v : Value) (fs : List FB) (w : World) (hE : Ev w) (hR : RdF v fs w) (hm : fs.length ≤ 5000) (hs : ∀ f ∈ fs, smallF f) :
    Calls Tryz.prog 5 #[v] w (OfQ fs w) := by
  have hba := (Below.refl w.heap.size w).alloc (Nat.le_refl _) (.cells #[.slice none 0 0] 27)
  have HH := Lib.hid (hasf_c v fs _ (hE.go hba) (hR.go hba) (by omega) hs)
  have HR := Lib.hid (hR.go hba)
  have HBA := Lib.hid hba
  have HKA := Lib.hid (heap_alloc_new w (.cells #[.slice none 0 0] 27))
  have hza : (w.alloc (.cells #[.slice none 0 0] 27)).heap.size = w.heap.size + 1 := by simp
  obtain ⟨ao, cap, rfl, _⟩ := hR
  clear hE hs hba
  obtain ⟨i0, hi, hz0, hz1, hz2⟩ := info_parts info2
  cases hb : fs.any badB with
  | true =>
    have HBB := Lib.hid hb
    rw [hb] at HH
    clear hb
    go_enter Tryz.func5, Tryz.ntmps5
    go_wp2_with fail
    refine HH.out.mono ?_
    rintro e w1 ⟨rfl, hb1⟩
    have HB1 : Hid (Below w.heap.size w w1) := HBA.out.trans (hb1.mono HBA.out.size)
    have HK1 : Hid (w1.heap[w.heap.size]? = some (.cells #[.slice none 0 0] 27 (0, 0))) := (hb1.block _ (by rw [hza]; omega)).trans HKA.out
    have d0 := cell_of_row _ _ 0 _ _ _ HK1.out
    have z0 := frz HK1.out 0
    have e0 := cell_of_row _ _ 0 _ _ _ (set1 (.slice none 0 0) HK1.out)
    have HBS : Hid (Below w.heap.size w (w1.setCell ⟨w.heap.size, 0, none⟩ (.slice none 0 0))) := HB1.out.setCell (p := ⟨w.heap.size, 0, none⟩) (Nat.le_refl _) _
    clear hb1
    go_wp2
    (with_reducible refine bodyPost_ret (v := .tuple #[.agg #[.slice none 0 0], .int .i64 3]) (by simp [results, Tryz.results5, go_sem, e0]) rfl (ofq_bad HBB.out HBS.out))
  | false =>
    have HBB := Lib.hid hb
    rw [hb] at HH
    clear hb
    go_enter Tryz.func5, Tryz.ntmps5
    go_wp2_with fail
    refine HH.out.mono ?_
    rintro e w1 ⟨rfl, hb1⟩
    have HB1 : Hid (Below w.heap.size w w1) := HBA.out.trans (hb1.mono HBA.out.size)
    have HK1 : Hid (w1.heap[w.heap.size]? = some (.cells #[.slice none 0 0] 27 (0, 0))) := (hb1.block _ (by rw [hza]; omega)).trans HKA.out
    have HR1 := Lib.hid (HR.out.go hb1)
    clear hb1 HH
    have hsz1 := HB1.out.size
    have hlt1 : w.heap.size < w1.heap.size := (Array.getElem?_eq_some_iff.1 HK1.out).1
    go_wp2_with (at_make; refine wpList_make_full _ rfl _ _ 23 rfl w1.heap.size 39 i0 _ 2 Tryz.underlying23 hi hz0 hz1 _ _ _ _ fs.length rfl rfl rfl rfl (by rw [hz2]; omega) (by unfold maxLen; omega) (Nat.le_refl _) ?_)
    intro w2 hown hg
    have hb12 : Below w1.heap.size w1 w2 := (Below.refl _ _).grown hg (Nat.le_refl _) (fun j hj => by cases hj)
    obtain ⟨cur, hcur, hcz⟩ : ∃ cur, w2.heap[w1.heap.size]? = some (.cells cur 39 (0, 0)) ∧ cur.size = fs.length * 2 := by
      rcases hown.2 with ⟨h, _⟩ | ⟨g, cp, cur, hv, _, hgh, _, _, hz, _⟩
      · cases h
      · injection hv with h1 h2 h3
        injection h1 with h1
        injection h1 with h1
        subst h1 h3
        exact ⟨cur, hgh, hz⟩
    have HR2 := Lib.hid (HR1.out.go hb12)
    have hsrc : 0 < fs.length → ∃ b off, ao = some ⟨b, off, none⟩ ∧ ∀ i (hi : i < fs.length), w2.cell? ⟨b, off + i * 2, none⟩ = some (.string fs[i].1) ∧ w2.cell? ⟨b, off + i * 2 + 1, none⟩ = some (.string fs[i].2) := fun h => by
      obtain ⟨ao', cp', e, hh⟩ := HR2.out
      injection e with ea eb ec
      subst ea
      obtain ⟨b, off, rfl, _, hat⟩ := hh h
      exact ⟨b, off, rfl, hat⟩
    have HK2 : Hid (w2.heap[w.heap.size]? = some (.cells #[.slice none 0 0] 27 (0, 0))) := (hb12.block _ hlt1).trans HK1.out
    have HB2 : Hid (Below w.heap.size w w2) := HB1.out.trans (hb12.mono HB1.out.size)
    have HSR := Lib.hid hsrc
    have HCU := Lib.hid hcur
    have HCZ := Lib.hid hcz
    obtain ⟨W3, hW3, HK3, HC3, HB3⟩ : ∃ W3, W3 = w2.setRow w1.heap.size (fC fs).toArray ∧ Hid (W3.heap[w.heap.size]? = some (.cells #[.slice none 0 0] 27 (0, 0))) ∧ Hid (W3.heap[w1.heap.size]? = some (.cells (fC fs).toArray 39 (0, 0))) ∧ Hid (Below w.heap.size w W3) :=
      ⟨_, rfl, (setRow_other w2 w1.heap.size w.heap.size _ (by omega)).trans HK2.out, setRow_heap w2 w1.heap.size _ _ _ _ hcur, HB2.out.trans ⟨rfl, rfl, rfl, by simp [World.setRow], fun k hk => setRow_other w2 w1.heap.size k _ (by omega)⟩⟩
    have HWE := Lib.hid hW3
    clear hown hg hb12 hsrc hcur hcz hW3
    go_wp2_with (refine wpList_copy_pairs rfl _ _ 23 23 rfl Tryz.underlying23 w1.heap.size fs.length ao cap fs rfl rfl _ 39 HCU.out HCZ.out HSR.out ?_; rw [← HWE.out])
    refine (sort_c w1.heap.size fs.length fs W3 HC3.out hm).mono ?_
    rintro e w4 ⟨rfl, gs, hp, ha, hr, hb⟩
    have HP := Lib.hid hp
    have HA := Lib.hid ha
    have HR4 := Lib.hid hr
    have HK4 : Hid (w4.heap[w.heap.size]? = some (.cells #[.slice none 0 0] 27 (0, 0))) := (hb.block _ hlt1).trans HK3.out
    have HB4 : Hid (Below w.heap.size w w4) := HB3.out.trans (hb.mono hsz1)
    have hgl : gs.length = fs.length := hp.length_eq
    clear hp ha hr hb HSR HCU HCZ HWE HK3 HC3 HB3
    go_wp2
    go_loopw [5] (fun v wr => ∃ m : Nat, v = .int .i64 ((m : Int) + 1) ∧ (m = 0 ∨ m + 1 ≤ fs.length) ∧ Hid (∀ i (h : i + 1 < gs.length), i + 1 ≤ m → gs[i + 1].1 ≠ gs[i].1) ∧ Hid (RdF (.slice (some ⟨w1.heap.size, 0, none⟩) fs.length fs.length) gs wr) ∧ Hid (wr.heap[w.heap.size]? = some (.cells #[.slice none 0 0] 27 (0, 0))) ∧ Hid (Below w.heap.size w wr)) (fun v _ => fs.length - (intOf v).toNat)
    case atStart => exact ⟨0, rfl, .inl rfl, Lib.hid (fun i h hh => absurd hh (by omega)), HR4, HK4, HB4⟩
    case round =>
      clear HR4 HK4 HB4
      obtain ⟨m, rfl, hm1, HN, HRW, HKW, HBW⟩ := hrel
      by_cases hlt : m + 1 < fs.length
      · obtain ⟨q0, _, hgw⟩ := rdf_at HRW.out (i := m) (by omega)
        obtain ⟨q1, _, _⟩ := rdf_at HRW.out (i := m + 1) (by omega)
        have hj0 : (0 : Int) ≤ (m : Int) := by omega
        have hjl : (m : Int) + 1 < (fs.length : Int) := by omega
        by_cases heq : gs[m + 1].1 = gs[m].1
        · have HND : Hid (¬ Onc fs) := fun ho => onc_no (i := m) (by omega) heq ((onc_iff HP.out).2 ho)
          rw [heq] at q1
          have d0 := cell_of_row _ _ 0 _ _ _ HKW.out
          have z0 := frz HKW.out 0
          clear heq
          revert q0 q1
          generalize gs[m].1 = x
          intro q0 q1
          go_wp2_with fail
          go_quiet (fail)
          have HKD : Hid ((wr.drewN nq).heap[w.heap.size]? = some (.cells #[.slice none 0 0] 27 (0, 0))) := HKW.out
          have HBD : Hid (Below w.heap.size w (wr.drewN nq)) := HBW.out.trans ((bdrN wr nq).mono HBW.out.size)
          clear d0 z0 q0 q1 HRW HKW
          generalize wr.drewN nq = wd at HKD HBD ⊢
          have d0 := cell_of_row _ _ 0 _ _ _ HKD.out
          have z0 := frz HKD.out 0
          have e0 := cell_of_row _ _ 0 _ _ _ (set1 (.slice none 0 0) HKD.out)
          have HBS : Hid (Below w.heap.size w (wd.setCell ⟨w.heap.size, 0, none⟩ (.slice none 0 0))) := HBD.out.setCell (p := ⟨w.heap.size, 0, none⟩) (Nat.le_refl _) _
          go_wp2
          (with_reducible refine bodyPost_ret (v := .tuple #[.agg #[.slice none 0 0], .int .i64 10]) (by simp [results, Tryz.results5, go_sem, e0]) rfl (ofq_dup HBB.out HND.out HBS.out))
        · have HN2 : Hid (∀ i (h : i + 1 < gs.length), i + 1 ≤ m + 1 → gs[i + 1].1 ≠ gs[i].1) := fun i h hh => by
            rcases Nat.lt_succ_iff_lt_or_eq.1 (Nat.lt_succ_of_le hh) with g | g
            · exact HN.out i h (by omega)
            · have : i = m := by omega
              subst this; exact heq
          have he : (gs[m + 1].1.toList == gs[m].1.toList) = false := by
            rw [Lib.toList_data, Lib.toList_data, beq_eq_false_iff_ne]
            intro h
            apply heq
            generalize gs[m + 1].1 = a at h
            generalize gs[m].1 = b at h
            obtain ⟨⟨a⟩⟩ := a
            obtain ⟨⟨b⟩⟩ := b
            have h' : a = b := h
            rw [h']
          clear heq
          revert q0 q1 he
          generalize gs[m].1 = x
          generalize gs[m + 1].1 = y
          intro q0 q1 he
          go_wp2_with fail
          go_quiet (fail)
          have HKD : Hid ((wr.drewN nq).heap[w.heap.size]? = some (.cells #[.slice none 0 0] 27 (0, 0))) := HKW.out
          have HBD : Hid (Below w.heap.size w (wr.drewN nq)) := HBW.out.trans ((bdrN wr nq).mono HBW.out.size)
          have HRD := Lib.hid (HRW.out.go (bdrN wr nq))
          clear q0 q1 HRW HKW
          generalize wr.drewN nq = wd at HKD HBD HRD ⊢
          go_wp2
          go_roundw
          case rel => exact ⟨m + 1, by go_num, .inr (by omega), HN2, HRD, HKD, HBD⟩
          case measure => simp [intOf]; omega
      · have d0 := cell_of_row _ _ 0 _ _ _ HKW.out
        have z0 := frz HKW.out 0
        have e0 := cell_of_row _ _ 0 _ _ _ (set1 (.slice (some ⟨w1.heap.size, 0, none⟩) fs.length fs.length) HKW.out)
        have HBS : Hid (Below w.heap.size w (wr.setCell ⟨w.heap.size, 0, none⟩ (.slice (some ⟨w1.heap.size, 0, none⟩) fs.length fs.length))) := HBW.out.setCell (p := ⟨w.heap.size, 0, none⟩) (Nat.le_refl _) _
        have HON : Hid (Onc fs) := (onc_iff HP.out).1 (onc_adj HA.out (fun i h => HN.out i h (by omega)))
        have HRS : Hid (RdF (.slice (some ⟨w1.heap.size, 0, none⟩) fs.length fs.length) gs (wr.setCell ⟨w.heap.size, 0, none⟩ (.slice (some ⟨w1.heap.size, 0, none⟩) fs.length fs.length))) := by
          refine ⟨_, _, by rw [hgl], fun h0 => ⟨w1.heap.size, 0, rfl, ?_, fun i hi => ?_⟩⟩
          · have := (rdf_at HRW.out h0).2.2
            simpa using this
          · obtain ⟨a0, a1, _⟩ := rdf_at HRW.out hi
            rw [Nat.zero_add]
            have hne : w1.heap.size ≠ w.heap.size := by omega
            exact ⟨by rw [World.cell?_setCell_other _ _ _ _ (by intro h; injection h with h; exact hne h.symm)]; exact a0, by rw [World.cell?_setCell_other _ _ _ _ (by intro h; injection h with h; exact hne h.symm)]; exact a1⟩
        go_wp2
        (with_reducible refine bodyPost_ret (v := .tuple #[.agg #[.slice (some ⟨w1.heap.size, 0, none⟩) fs.length fs.length], .int .i64 0]) (by simp [results, Tryz.results5, go_sem, e0]) rfl (ofq_ok HBB.out HON.out HP.out HA.out HRS.out HBS.out))
end Go.Proofs.YtcknlnphgndaoaaGreatDoor.Lb
namespace Go.Proofs.YtcknlnphgndaoaaGreatDoor.Lb
open Go.RowKit Ch Jt
set_option linter.unusedSimpArgs false
set_option linter.unusedVariables false

theorem neqP (a b c d : ByteArray) (W : World) : (binOp .neq 39 (.agg #[.string a, .string b]) (.agg #[.string c, .string d])).run Tryz.prog W = .ok (.bool (!decide (a.data.toList = c.data.toList ∧ b.data.toList = d.data.toList))) W := by
  have u9 := Tryz.underlying9
  have hS : Tryz.prog.underlying 39 = some (.struct (Tryz.prog.fieldsOf 39)) := by kernel_rfl
  have hp : Tryz.prog.stoodInHeld 39 = false := by kernel_rfl
  rw [run_neq_struct, show (10000 : Nat) = 9999 + 1 from rfl, run_equalIn_agg W 9999 39 _ _ hS hp]
  simp only [Program.fieldsOf, Tryz.underlying39]
  go_simp
  simp only [Lib.toList_data]
  by_cases h1 : a.data = c.data <;> by_cases h2 : b.data = d.data <;> simp [h1, h2]
theorem ba_ext {a b : ByteArray} (h : a.data.toList = b.data.toList) : a = b := by
  obtain ⟨⟨a⟩⟩ := a
  obtain ⟨⟨b⟩⟩ := b
  have h' : a = b := h
  rw [h']
theorem fb_eq (x y : FB) : (x.1.data.toList = y.1.data.toList ∧ x.2.data.toList = y.2.data.toList) ↔ x = y := by
  constructor
  · rintro ⟨h1, h2⟩
    obtain ⟨a, b⟩ := x
    obtain ⟨c, d⟩ := y
    have e1 : a = c := ba_ext h1
    have e2 : b = d := ba_ext h2
    rw [e1, e2]
  · rintro rfl; exact ⟨rfl, rfl⟩
theorem rdf_at2 {ao : Option Addr} {cap n : Nat} {gs : List FB} {w : World} (h : RdF (.slice ao n cap) gs w) (h0 : 0 < gs.length) : ∃ g off, ao = some ⟨g, off, none⟩ ∧ g < w.heap.size ∧ ∀ i (hi : i < gs.length), w.cell? ⟨g, off + i * 2, none⟩ = some (.string gs[i].1) ∧ w.cell? ⟨g, off + i * 2 + 1, none⟩ = some (.string gs[i].2) := by
  obtain ⟨ao', cp, e, hh⟩ := h
  injection e with ea eb ec
  subst ea
  exact hh h0
set_option maxRecDepth 100000 in
set_option maxHeartbeats 4000000 in
theorem eqs_c (a1 a2 : Option Addr) (c1 c2 : Nat) (xs ys : List FB) (w : World) (hA : RdF (.slice a1 xs.length c1) xs w) (hB : RdF (.slice a2 ys.length c2) ys w) (hm : xs.length ≤ 5000) (hm2 : ys.length ≤ 5000) :
    Calls Tryz.prog 24 #[.slice a1 xs.length c1, .slice a2 ys.length c2] w fun e w' => e = .returned (.bool (decide (xs = ys))) ∧ Below w.heap.size w w' := by
  have HA := Lib.hid hA
  have HB := Lib.hid hB
  clear hA hB
  by_cases hl : xs.length = ys.length
  · rw [← hl] at HB ⊢
    have HL := Lib.hid hl
    clear hl hm2
    go_enter Tryz.func24, Tryz.ntmps24
    go_wp2
    go_loopw [13] (fun v wr => ∃ j : Nat, j ≤ xs.length ∧ v = .int .i64 j ∧ Hid (∀ i (h : i < xs.length) (h2 : i < ys.length), i < j → xs[i] = ys[i]) ∧ Hid (Below w.heap.size w wr)) (fun v _ => xs.length - (intOf v).toNat)
    case atStart => exact ⟨0, by omega, rfl, Lib.hid (fun i _ _ h => absurd h (Nat.not_lt_zero _)), Lib.hid (Below.refl _ _)⟩
    case round =>
      obtain ⟨j, hj, rfl, HE, HBW⟩ := hrel
      by_cases hlt : j < xs.length
      · have hlt2 : j < ys.length := by have := HL.out; omega
        obtain ⟨g1, o1, rfl, hg1, hat1⟩ := rdf_at2 (HA.out.go HBW.out) (by omega)
        obtain ⟨g2, o2, rfl, hg2, hat2⟩ := rdf_at2 (HB.out.go HBW.out) (by omega)
        obtain ⟨p0, p1⟩ := hat1 j hlt
        obtain ⟨q0, q1⟩ := hat2 j hlt2
        have hj0 : (0 : Int) ≤ (j : Int) := by omega
        have hjl : (j : Int) < (xs.length : Int) := by omega
        have hN := fun W => neqP xs[j].1 xs[j].2 ys[j].1 ys[j].2 W
        clear hat1 hat2
        by_cases heq : xs[j] = ys[j]
        · have HE2 : Hid (∀ i (h : i < xs.length) (h2 : i < ys.length), i < j + 1 → xs[i] = ys[i]) := fun i h h2 hh => by
            rcases Nat.lt_succ_iff_lt_or_eq.1 hh with g | g
            · exact HE.out i h h2 g
            · subst g; exact heq
          rw [decide_eq_true ((fb_eq xs[j] ys[j]).2 heq)] at hN
          clear heq
          revert p0 p1 q0 q1 hN
          generalize xs[j].1 = xa
          generalize xs[j].2 = xb
          generalize ys[j].1 = ya
          generalize ys[j].2 = yb
          intro p0 p1 q0 q1 hN
          have hng : g1 ≠ wr.heap.size := by omega
          have hng2 : g2 ≠ wr.heap.size := by omega
          go_wp2_with fail
          go_quiet (fail)
          go_wp2
          go_roundw
          case rel => exact ⟨j + 1, by omega, by go_num, HE2, Lib.hid (HBW.out.trans ((bdrN wr _).mono HBW.out.size))⟩
          case measure => simp [intOf]; omega
        · have HNE : Hid (xs ≠ ys) := fun e => heq (by subst e; rfl)
          rw [decide_eq_false (fun hh => heq ((fb_eq xs[j] ys[j]).1 hh))] at hN
          clear heq
          revert p0 p1 q0 q1 hN
          generalize xs[j].1 = xa
          generalize xs[j].2 = xb
          generalize ys[j].1 = ya
          generalize ys[j].2 = yb
          intro p0 p1 q0 q1 hN
          go_wp2_with fail
          go_quiet (fail)
          go_wp2
          go_ret
          exact ⟨Ch.ret_bool (decide_eq_false HNE.out).symm, HBW.out.trans ((bdrN wr _).mono HBW.out.size)⟩
      · have HEQ : Hid (xs = ys) := List.ext_getElem HL.out (fun i h h2 => HE.out i h h2 (by omega))
        go_wp2
        go_ret
        exact ⟨Ch.ret_bool (decide_eq_true HEQ.out).symm, HBW.out⟩
  · have HNE : Hid (xs ≠ ys) := fun e => hl (by subst e; rfl)
    have h1 : ((xs.length : Int) == (ys.length : Int)) = false := beq_eq_false_iff_ne.2 (by omega)
    have h2 : ¬ (xs.length : Int) = (ys.length : Int) := by omega
    go_enter Tryz.func24, Tryz.ntmps24
    go_wp2
    go_ret
    exact ⟨Ch.ret_bool (decide_eq_false HNE.out).symm, Below.refl _ _⟩
set_option maxRecDepth 100000 in
set_option maxHeartbeats 4000000 in
theorem Same_c (a1 a2 : Option Addr) (c1 c2 : Nat) (xs ys : List FB) (w : World) (hA : RdF (.slice a1 xs.length c1) xs w) (hB : RdF (.slice a2 ys.length c2) ys w) (hm : xs.length ≤ 5000) (hm2 : ys.length ≤ 5000) :
    Calls Tryz.prog 9 #[.agg #[.slice a1 xs.length c1], .agg #[.slice a2 ys.length c2]] w fun e w' => e = .returned (.bool (decide (xs = ys))) ∧ Below w.heap.size w w' := by
  have hb1 := (Below.refl w.heap.size w).alloc (Nat.le_refl _) (.cells #[.slice a1 xs.length c1] 27)
  have hb2 := hb1.alloc hb1.size (.cells #[.slice a2 ys.length c2] 27)
  have HS := Lib.hid (eqs_c a1 a2 c1 c2 xs ys _ (hA.go hb2) (hB.go hb2) hm hm2)
  have HB2 := Lib.hid hb2
  clear hb1 hb2 hA hB
  generalize decide (xs = ys) = r at HS ⊢
  go_enter Tryz.func9, Tryz.ntmps9
  go_wp2_with fail
  refine HS.out.mono ?_
  rintro e w2 ⟨rfl, hb⟩
  have HB3 : Hid (Below w.heap.size w w2) := HB2.out.trans (hb.mono HB2.out.size)
  clear hb
  go_wp2
  go_ret
  exact ⟨rfl, HB3.out⟩
set_option maxRecDepth 100000 in
set_option maxHeartbeats 4000000 in
theorem Len_c (a1 : Option Addr) (n c1 : Nat) (w : World) (hm : n ≤ 9223372036854775807) :
    Calls Tryz.prog 19 #[.agg #[.slice a1 n c1]] w fun e w' => e = .returned (.int .i64 (n : Int)) ∧ Below w.heap.size w w' := by
  have HB2 := Lib.hid ((Below.refl w.heap.size w).alloc (Nat.le_refl _) (.cells #[.slice a1 n c1] 27))
  go_enter Tryz.func19, Tryz.ntmps19
  go_wp2
  go_ret
  exact ⟨rfl, HB2.out⟩
end Go.Proofs.YtcknlnphgndaoaaGreatDoor.Lb
namespace Go.Proofs.YtcknlnphgndaoaaGreatDoor.Lb
open Go.RowKit Ch Jt
set_option linter.unusedSimpArgs false
set_option linter.unusedVariables false

theorem Ev.below {B : Nat} {w w' : World} (h : Ev w) (hb : Below B w w') (hB : 7 ≤ B) : Ev w' := ⟨h.1.below hb (Nat.le_trans (by decide) hB), nuTabs_below h.2 hb hB⟩
/-- a pair as text -/
def oneL (x : FB) : List UInt8 := x.1.data.toList ++ (61 :: quoL x.2.data.toList)
/-- pairs as text, with commas between -/
def prsL : List FB → List UInt8
  | [] => []
  | x :: r => oneL x ++ r.flatMap fun y => 44 :: oneL y
def txtL (gs : List FB) : List UInt8 := 123 :: (prsL gs ++ [125])
theorem prs_snoc (l : List FB) (x : FB) : prsL (l ++ [x]) = prsL l ++ (if l = [] then [] else [44]) ++ oneL x := by
  cases l with
  | nil => simp [prsL]
  | cons y r => rw [List.cons_append, prsL, prsL, List.flatMap_append, List.flatMap_singleton]; simp
theorem prs_step {gs : List FB} {k : Nat} (hk : k < gs.length) : prsL (gs.take (k + 1)) = prsL (gs.take k) ++ (if k = 0 then [] else [44]) ++ oneL gs[k] := by
  rw [List.take_succ_eq_append_getElem hk, prs_snoc]
  by_cases h : k = 0
  · subst h; rfl
  · rw [if_neg h, if_neg (by intro e; have := congrArg List.length e; rw [List.length_take, List.length_nil] at this; omega)]
def shortF (f : FB) : Prop := f.1.size ≤ 300 ∧ f.2.size ≤ 300
theorem one_len {x : FB} (h : shortF x) : (oneL x).length ≤ 2200 := by
  have h1 := quL_len x.2.data.toList
  have h2 := Lib.size_eq x.1
  have h3 := Lib.size_eq x.2
  unfold shortF at h
  unfold oneL quoL
  simp only [List.length_append, List.length_cons, List.length_nil]
  omega
theorem prs_len : ∀ {gs : List FB}, (∀ x ∈ gs, shortF x) → (prsL gs).length ≤ 2201 * gs.length := by
  intro gs
  induction gs with
  | nil => intro _; simp [prsL]
  | cons x r _ =>
    intro h
    have h1 := one_len (h x (by simp))
    have h2 : ∀ l : List FB, (∀ y ∈ l, shortF y) → (l.flatMap fun y => 44 :: oneL y).length ≤ 2201 * l.length := by
      intro l
      induction l with
      | nil => intro _; simp
      | cons y s ih =>
        intro hs
        have a := one_len (hs y (by simp))
        have b := ih (fun z hz => hs z (by simp [hz]))
        rw [List.flatMap_cons, List.length_append]
        simp only [List.length_cons]
        omega
    have h3 := h2 r (fun y hy => h y (by simp [hy]))
    rw [prsL, List.length_append]
    simp only [List.length_cons]
    omega
theorem take_short {gs : List FB} (h : ∀ x ∈ gs, shortF x) (k : Nat) : (prsL (gs.take k)).length ≤ 2201 * gs.length :=
  Nat.le_trans (prs_len fun x hx => h x (List.mem_of_mem_take hx)) (Nat.mul_le_mul_left _ (List.length_take_le' _ _))
theorem one_data (x y : ByteArray) : (x ++ ⟨#[61]⟩ ++ Jt.mkS (quoL y.data.toList) : ByteArray).data.toList = oneL (x, y) := by
  simp [oneL, Jt.mkS]
set_option maxRecDepth 100000 in
set_option maxHeartbeats 4000000 in
theorem String_c (ao : Option Addr) (cap : Nat) (gs : List FB) (w : World) (hE : Ev w) (hR : RdF (.slice ao gs.length cap) gs w) (hm : gs.length ≤ 100) (hs : ∀ x ∈ gs, shortF x) (hv : ∀ x ∈ gs, vldB x.2.data.toList = true) :
    Calls Tryz.prog 8 #[.agg #[.slice ao gs.length cap]] w fun e w' => e = .returned (.string (Jt.mkS (txtL gs))) ∧ Below w.heap.size w w' := by
  obtain ⟨W1, hW1, hk1, hb1⟩ : ∃ W1, W1 = w.alloc (.cells #[.slice ao gs.length cap] 27) ∧ W1.heap[w.heap.size]? = some (.cells #[.slice ao gs.length cap] 27 (0, 0)) ∧ Below w.heap.size w W1 := ⟨_, rfl, heap_alloc_new w _, (Below.refl _ _).alloc (Nat.le_refl _) _⟩
  have hlt1 : w.heap.size < W1.heap.size := (Array.getElem?_eq_some_iff.1 hk1).1
  have hbig := hE.big
  have hba := (Below.refl W1.heap.size W1).alloc (Nat.le_refl _) (.cells #[.pointer none, .slice none 0 0] 52)
  have hz1 : W1.heap.size = w.heap.size + 1 := by rw [hW1]; simp
  have HBD : Hid (Bld (w.heap.size + 1) [] (W1.alloc (.cells #[.pointer none, .slice none 0 0] 52))) := by
    show Bld _ _ _
    rw [← hz1]; exact Bld.new W1
  have HB2 : Hid (Below w.heap.size w (W1.alloc (.cells #[.pointer none, .slice none 0 0] 52))) := hb1.trans (hba.mono hb1.size)
  have HK2 : Hid ((W1.alloc (.cells #[.pointer none, .slice none 0 0] 52)).heap[w.heap.size]? = some (.cells #[.slice ao gs.length cap] 27 (0, 0))) := (hba.block _ hlt1).trans hk1
  have HW1 := Lib.hid hW1
  have HE := Lib.hid hE
  have HR := Lib.hid hR
  have HS := Lib.hid hs
  have HV := Lib.hid hv
  have HWS := Lib.hid (fun (W : World) (l : List UInt8) (s : ByteArray) (hl : l.length + s.size ≤ 900000) (h : Bld (w.heap.size + 1) l W) => wstrK_c (w.heap.size + 1) l s W h (by omega))
  clear hba hE hR hs hv hk1 hb1 hW1 hz1
  go_enter Tryz.func8, Tryz.ntmps8
  go_wp2_with fail
  rw [← HW1.out]
  clear HW1
  (with_reducible refine (HWS.out _ [] ⟨#[123]⟩ (by decide) HBD.out).mono ?_)
  rintro e w3 ⟨rfl, hbl3, hb3, _⟩
  have HBL3 := Lib.hid hbl3
  have HB3 : Hid (Below w.heap.size w w3) := HB2.out.trans (hb3.mono (Nat.le_succ _))
  have HK3 : Hid (w3.heap[w.heap.size]? = some (.cells #[.slice ao gs.length cap] 27 (0, 0))) := (hb3.block _ (Nat.lt_succ_self _)).trans HK2.out
  have d0 := cell_of_row _ _ 0 _ _ _ HK3.out
  clear hbl3 hb3 HBD HB2 HK2
  go_wp2
  clear d0
  go_loopw [12] (fun v wr => ∃ k : Nat, k ≤ gs.length ∧ v = .int .i64 k ∧ Hid (Bld (w.heap.size + 1) (123 :: prsL (gs.take k)) wr) ∧ Hid (Below w.heap.size w wr)) (fun v _ => gs.length - (intOf v).toNat)
  case atStart => exact ⟨0, by omega, rfl, HBL3, HB3⟩
  case round =>
    clear HBL3 HB3 HK3
    obtain ⟨k, hk, rfl, HBL, HB⟩ := hrel
    by_cases hlt : k < gs.length
    · obtain ⟨g1, o1, rfl, hg1, hat1⟩ := rdf_at2 (HR.out.go HB.out) (by omega)
      obtain ⟨p0, p1⟩ := hat1 k hlt
      have hsk := HS.out _ (List.getElem_mem hlt)
      have hvk := HV.out _ (List.getElem_mem hlt)
      have hln := take_short HS.out k
      have HST := Lib.hid (prs_step hlt)
      have hol := one_len hsk
      have hk0 : (0 : Int) ≤ (k : Int) := by omega
      have hkl : (k : Int) < (gs.length : Int) := by omega
      obtain ⟨⟨x, y⟩, hxy⟩ : ∃ f : FB, gs[k] = f := ⟨_, rfl⟩
      rw [hxy] at p0 p1 hsk hvk hol HST
      simp only at p0 p1 hvk
      have hx : x.size ≤ 300 := hsk.1
      have hy : y.size ≤ 300 := hsk.2
      have HQ := Lib.hid (fun W h1 h2 => Quote_c y W (h1 : Ev W).1 h1.2 hy h2)
      unfold quoV at HQ
      rw [if_pos hvk] at HQ
      have hql := quL_len y.data.toList
      have hys := Lib.size_eq y
      have HOD := Lib.hid (one_data x y)
      have hqz : (Jt.mkS (quoL y.data.toList)).size ≤ 1802 := by rw [Jt.size_mkS]; unfold quoL; simp only [List.length_cons, List.length_append, List.length_nil]; omega
      clear hat1 hsk hvk hxy hql hys hol
      revert HQ HOD hqz
      generalize Jt.mkS (quoL y.data.toList) = qv
      intro HQ HOD hqz
      have hgn : g1 ≠ wr.heap.size := by omega
      have hbw := HB.out.size
      have hblt := HBL.out.lt
      obtain ⟨WP, hWP, hkP, hbP⟩ : ∃ WP, WP = wr.alloc (.cells #[.string x, .string y] 39) ∧ WP.heap[wr.heap.size]? = some (.cells #[.string x, .string y] 39 (0, 0)) ∧ Below wr.heap.size wr WP := ⟨_, rfl, heap_alloc_new wr _, (Below.refl _ _).alloc (Nat.le_refl _) _⟩
      have HWP := Lib.hid hWP
      have HPV0 := Lib.hid hkP
      have HBLP := Lib.hid (HBL.out.go hbP)
      have HBP : Hid (Below w.heap.size w WP) := HB.out.trans (hbP.mono HB.out.size)
      have hne : (some wr.heap.size : Option Nat) ≠ some (w.heap.size + 1) := by intro h; injection h with h; omega
      clear hWP hkP hbP
      by_cases h0 : k = 0
      · have HSN : Hid (123 :: prsL (gs.take (k + 1)) = (123 :: prsL (gs.take k)) ++ oneL (x, y)) := by show _ = _; rw [HST.out, if_pos h0]; simp
        have hk1 : ¬ (0 : Int) < (k : Int) := by omega
        clear HST h0
        go_wp2_with fail
        rw [← HWP.out]
        clear HWP p0 p1
        have HBLV := HBLP
        have HBV := HBP
        have HPV := HPV0
        clear HBLP HBP HPV0
        (with_reducible refine (HQ.out WP (HE.out.below HBV.out hbig) (Nat.le_trans hbig HBV.out.size)).mono ?_)
        rintro e w6 ⟨rfl, hb6⟩
        have HBL6 := Lib.hid (HBLV.out.go hb6)
        have HB6 : Hid (Below w.heap.size w w6) := HBV.out.trans (hb6.mono HBV.out.size)
        have HP6 : Hid (w6.heap[wr.heap.size]? = some (.cells #[.string x, .string y] 39 (0, 0))) := (hb6.block _ (Array.getElem?_eq_some_iff.1 HPV.out).1).trans HPV.out
        have e0 := (cell2 HP6.out).1
        clear hb6
        have hy1 : (x ++ (⟨#[61]⟩ : ByteArray)).size ≤ 301 := by rw [ByteArray.size_append]; show _ + 1 ≤ _; omega
        go_wp2_with fail
        (with_reducible refine (HWS.out w6 (123 :: prsL (gs.take k)) (x ++ ⟨#[61]⟩ ++ qv) (by rw [ByteArray.size_append]; simp only [List.length_cons, List.length_append, List.length_nil]; omega) HBL6.out).mono ?_)
        rintro e w7 ⟨rfl, hbl7, hb7, _⟩
        rw [HOD.out] at hbl7
        have HBL7 := Lib.hid hbl7
        have HB7 : Hid (Below w.heap.size w w7) := HB6.out.trans (hb7.mono (by omega))
        clear hbl7 hb7 HBLV HBL6 e0
        go_wp2
        go_roundw
        case rel => exact ⟨k + 1, by omega, by go_num, by rw [HSN.out]; exact HBL7, HB7⟩
        case measure => simp [intOf]; omega
      · have HSN : Hid (123 :: prsL (gs.take (k + 1)) = (123 :: prsL (gs.take k) ++ [44]) ++ oneL (x, y)) := by show _ = _; rw [HST.out, if_neg h0]; simp
        have hk1 : (0 : Int) < (k : Int) := by omega
        clear HST
        go_wp2_with fail
        rw [← HWP.out]
        clear HWP p0 p1
        (with_reducible refine (HWS.out WP (123 :: prsL (gs.take k)) ⟨#[44]⟩ (by rw [show (ByteArray.mk #[44]).size = 1 from rfl]; simp only [List.length_cons]; omega) HBLP.out).mono ?_)
        rintro e w5 ⟨rfl, hbl5, hb5, hk5⟩
        have HBLV : Hid (Bld (w.heap.size + 1) (123 :: prsL (gs.take k) ++ [44]) w5) := hbl5
        have HBV : Hid (Below w.heap.size w w5) := HBP.out.trans (hb5.mono (Nat.le_succ _))
        have HPV := Lib.hid (hk5 _ _ HPV0.out hne (by intro c fz h; injection h with _ h2; exact absurd h2 (by decide)))
        have e1 := (cell2 HPV.out).2
        clear hbl5 hb5 hk5 HBLP HBP HPV0
        go_wp2_with fail
        (with_reducible refine (HQ.out w5 (HE.out.below HBV.out hbig) (Nat.le_trans hbig HBV.out.size)).mono ?_)
        rintro e w6 ⟨rfl, hb6⟩
        have HBL6 := Lib.hid (HBLV.out.go hb6)
        have HB6 : Hid (Below w.heap.size w w6) := HBV.out.trans (hb6.mono HBV.out.size)
        have HP6 : Hid (w6.heap[wr.heap.size]? = some (.cells #[.string x, .string y] 39 (0, 0))) := (hb6.block _ (Array.getElem?_eq_some_iff.1 HPV.out).1).trans HPV.out
        have e0 := (cell2 HP6.out).1
        clear hb6
        have hy1 : (x ++ (⟨#[61]⟩ : ByteArray)).size ≤ 301 := by rw [ByteArray.size_append]; show _ + 1 ≤ _; omega
        go_wp2_with fail
        (with_reducible refine (HWS.out w6 (123 :: prsL (gs.take k) ++ [44]) (x ++ ⟨#[61]⟩ ++ qv) (by rw [ByteArray.size_append]; simp only [List.length_cons, List.length_append, List.length_nil]; omega) HBL6.out).mono ?_)
        rintro e w7 ⟨rfl, hbl7, hb7, _⟩
        rw [HOD.out] at hbl7
        have HBL7 := Lib.hid hbl7
        have HB7 : Hid (Below w.heap.size w w7) := HB6.out.trans (hb7.mono (by omega))
        clear hbl7 hb7 HBLV HBL6 e0
        go_wp2
        go_roundw
        case rel => exact ⟨k + 1, by omega, by go_num, by rw [HSN.out]; exact HBL7, HB7⟩
        case measure => simp [intOf]; omega
    · have HST := Lib.hid (str_c (w.heap.size + 1) (123 :: prsL (gs.take k) ++ [125]))
      have hln := take_short HS.out k
      have HTX : Hid (123 :: prsL (gs.take k) ++ [125] = txtL gs) := by show _ = _; rw [List.take_of_length_le (by omega)]; rfl
      go_wp2_with fail
      (with_reducible refine (HWS.out wr (123 :: prsL (gs.take k)) ⟨#[125]⟩ (by rw [show (ByteArray.mk #[125]).size = 1 from rfl]; simp only [List.length_cons]; omega) HBL.out).mono ?_)
      rintro e w5 ⟨rfl, hbl5, hb5, _⟩
      have HB5 : Hid (Below w.heap.size w w5) := HB.out.trans (hb5.mono (Nat.le_succ _))
      have HSC := Lib.hid (HST.out w5 hbl5)
      rw [HTX.out] at HSC
      clear hbl5 hb5 HST
      go_wp2_with fail
      (with_reducible refine HSC.out.mono ?_)
      rintro e w6 ⟨rfl, hb6⟩
      have HB6 : Hid (Below w.heap.size w w6) := HB5.out.trans (hb6.mono (Nat.le_succ _))
      clear hb6
      go_wp2
      go_ret
      exact ⟨rfl, HB6.out⟩
end Go.Proofs.YtcknlnphgndaoaaGreatDoor.Lb
namespace Go.Proofs.YtcknlnphgndaoaaGreatDoor.Lb
open Go.RowKit Ch Jt
set_option linter.unusedSimpArgs false
set_option linter.unusedVariables false

/-- a number of bytes, one more byte in it -/
def hstp (z : Int) (c : UInt8) : Int := IntKind.u64.wrap (bits BinOp.xor IntKind.u64 z (IntKind.u64.wrap (c.toNat : Int)) * 1099511628211)
def hshL (l : List UInt8) : Int := l.foldl hstp 14695981039346656037
theorem hsh_snoc {s : ByteArray} {k : Nat} (h : k < s.size) : hshL (s.data.toList.take (k + 1)) = hstp (hshL (s.data.toList.take k)) s[k] := by
  rw [take_snoc h]; unfold hshL; rw [List.foldl_append]; rfl
end Go.Proofs.YtcknlnphgndaoaaGreatDoor.Lb
namespace Go.Proofs.YtcknlnphgndaoaaGreatDoor.Lb
open Go.RowKit Ch Jt Go.ChangeShapes Go.WideShapes
set_option linter.unusedSimpArgs false
set_option linter.unusedVariables false

def IsPrs (w : World) (a : Option Addr) (len : Nat) (ts : List FB) : Prop := ts.length = len ∧ len ≤ maxLen ∧ (∀ t ∈ ts, t.1.size ≤ maxLen ∧ t.2.size ≤ maxLen) ∧
  (ts ≠ [] → ∃ b off, a = some ⟨b, off, none⟩ ∧ b < w.heap.size ∧ ∀ i (hi : i < ts.length), w.cell? ⟨b, off + i * 2, none⟩ = some (.string ts[i].1) ∧ w.cell? ⟨b, off + i * 2 + 1, none⟩ = some (.string ts[i].2))
theorem pairs_of {H : Type} {enc : TypeId × Value → H} {W : World} {a : Option Addr} {len cap : Nat} {d : DataW H} {p : List MemPlace} (h : DataW.Trod enc Tryz.prog W 0 (fun _ => true) true 22 (.slice a len cap) d p) : ∃ ts, IsPrs W a len ts := by
  obtain ⟨fuel, hf⟩ := h
  rcases Deep.open_slice_pairs Tryz.underlying22 Tryz.underlying38 (by kernel_rfl) rfl rfl (by kernel_rfl) (by kernel_rfl) hf with ⟨hcs, _⟩ | ⟨x, l, c, m, n, V0, V1, D0, D1, P0, P1, hcs, hb, hl, hm, hmm, _, hx⟩
  · simp [Value.cells] at hcs
    obtain ⟨rfl, rfl, rfl⟩ := hcs
    exact ⟨[], rfl, by unfold maxLen; omega, fun t ht => by simp at ht, fun h => absurd rfl h⟩
  · simp [Value.cells] at hcs
    obtain ⟨rfl, rfl, rfl⟩ := hcs
    have hlm : len ≤ m := by rw [hmm]; simp; exact hl
    have each : ∀ i, i < len → ∃ t : FB, W.cell? (x.add (i * 2)) = some (.string t.1) ∧ W.cell? (x.add (i * 2 + 1)) = some (.string t.2) ∧ t.1.size ≤ maxLen ∧ t.2.size ≤ maxLen := by
      intro i hi
      obtain ⟨h0, h1, h2, h3⟩ := hx i (by omega)
      obtain ⟨b, e0, _, hbz⟩ := DataW.trod_string Tryz.underlying9 h2
      obtain ⟨s, e1, _, hs⟩ := DataW.trod_string Tryz.underlying9 h3
      have e0' : V0 i = .string b := by simpa using e0
      have e1' : V1 i = .string s := by simpa using e1
      exact ⟨(b, s), by rw [h0, e0'], by rw [h1, e1'], hbz, hs⟩
    obtain ⟨q, hq⟩ := Deep.choose_lt each
    refine ⟨(List.range len).map q, by simp, Nat.le_trans hl hm, fun t ht => ?_, fun hne => ?_⟩
    · obtain ⟨i, hi, rfl⟩ := List.mem_map.1 ht
      exact (hq i (List.mem_range.1 hi)).2.2
    · have hp : 0 < len := by
        rcases Nat.eq_zero_or_pos len with h | h
        · subst h; simp at hne
        · exact h
      obtain ⟨b, off, spot⟩ := x
      have hc := (hq 0 hp).1
      have hspot : spot = none := by simpa [Addr.add] using World.cell?_spot hc
      subst hspot
      refine ⟨b, off, rfl, ?_, fun i hi => ?_⟩
      · have := World.block_lt_of_cell? W _ hc
        simpa [Addr.add] using this
      · have hi' : i < len := by simpa using hi
        obtain ⟨h0, h1, _⟩ := hq i hi'
        have e : ∀ j, (⟨b, off, none⟩ : Addr).add j = ⟨b, off + j, none⟩ := fun j => by unfold Addr.add; split <;> simp_all
        rw [e] at h0 h1
        simp only [List.getElem_map, List.getElem_range]
        exact ⟨h0, by rw [Nat.add_assoc]; exact h1⟩
/-- rows of one's own of unlike types don't share a block -/
theorem own_apart {T1 T2 B1 B2 k1 k2 n1 n2 : Nat} {v1 v2 : Value} {x1 x2 : List Value} {w : World} (h1 : w.ownsRow B1 T1 k1 v1 n1 x1) (h2 : w.ownsRow B2 T2 k2 v2 n2 x2) (hT : T1 ≠ T2) : v2.ownBlock = none ∨ v2.ownBlock ≠ v1.ownBlock := by
  rcases h2.2 with ⟨rfl, _⟩ | ⟨g, cap, cur, rfl, _, hg, _⟩
  · exact .inl rfl
  · refine .inr fun e => ?_
    rcases h1.2 with ⟨rfl, _⟩ | ⟨g', cap', cur', rfl, _, hg', _⟩
    · cases e
    · have e' : g = g' := by injection e
      subst e'
      rw [hg] at hg'
      injection hg' with h
      injection h with _ h _
      exact hT h.symm
/-- a row of pairs of one's own -/
def OwF (T : TypeId) (B : Nat) (v : Value) (fs : List FB) (w : World) : Prop := w.ownsRow B T 2 v fs.length (fC fs)
theorem OwF.go {T : TypeId} {B : Nat} {v : Value} {fs : List FB} {w w' : World} (h : OwF T B v fs w) (hb : Below w.heap.size w w') : OwF T B v fs w' :=
  World.ownsRow.kept h (row := none) ⟨hb.os, hb.tape, hb.output, hb.size, fun k hk _ => hb.block k hk⟩ (by cases hv : v.ownBlock <;> simp)
theorem own_lenF {T : TypeId} {B k n : Nat} {v : Value} {xs : List Value} {w : World} (h : w.ownsRow B T k v n xs) : ∃ ao cap, v = .slice ao n cap := by
  rcases h.2 with ⟨rfl, h0⟩ | ⟨g, cap, cur, rfl, _⟩
  · exact ⟨_, 0, by rw [h0]⟩
  · exact ⟨_, _, rfl⟩
theorem OwF.rd {T : TypeId} {B : Nat} {v : Value} {fs : List FB} {w : World} (h : OwF T B v fs w) : RdF v fs w := by
  rcases h.2 with ⟨rfl, h0⟩ | ⟨g, cap, cur, rfl, hB, hg, hc, hcm, hsz, htk⟩
  · exact ⟨none, 0, by rw [h0], fun h => by omega⟩
  · refine ⟨_, cap, rfl, fun _ => ⟨g, 0, rfl, (Array.getElem?_eq_some_iff.1 hg).1, fun i hi => ?_⟩⟩
    rw [cell_of_row _ _ _ _ _ _ hg, cell_of_row _ _ _ _ _ _ hg, Nat.zero_add]
    have hp := fC_at fs i hi
    rw [← htk, List.getElem?_take_of_lt (by omega), List.getElem?_take_of_lt (by omega), Array.getElem?_toList, Array.getElem?_toList] at hp
    exact hp
theorem fC_snoc (fs : List FB) (x : FB) : fC (fs ++ [x]) = fC fs ++ [.string x.1, .string x.2] := by unfold fC; rw [List.flatMap_append, List.flatMap_singleton]; rfl
/-- a pair, cut -/
def cutF (x : FB) : FB := (Jt.mkS (x.1.data.toList.take 20), Jt.mkS (x.2.data.toList.take 30))
def prK (ts : List FB) (j : Nat) : List FB := (ts.take j).map cutF
theorem prK_len (ts : List FB) {j : Nat} (h : j ≤ 6) : (prK ts j).length ≤ 6 := by unfold prK; rw [List.length_map, List.length_take]; omega
theorem prK_snoc {ts : List FB} {j : Nat} (hj : j < ts.length) : prK ts (j + 1) = prK ts j ++ [cutF ts[j]] := by
  unfold prK; rw [List.take_succ_eq_append_getElem hj, List.map_append]; rfl
theorem cutF_short (x : FB) : (cutF x).1.size ≤ 20 ∧ (cutF x).2.size ≤ 30 := by
  unfold cutF; rw [Jt.size_mkS, Jt.size_mkS, List.length_take, List.length_take]; omega
theorem prK_short {ts : List FB} {j : Nat} {x : FB} (h : x ∈ prK ts j) : x.1.size ≤ 20 ∧ x.2.size ≤ 30 := by
  obtain ⟨y, _, rfl⟩ := List.mem_map.1 h
  exact cutF_short y
theorem cut20 (s : ByteArray) (h : 20 < s.size) : s.extract 0 20 = Jt.mkS (s.data.toList.take 20) := Jt.mkS_of (by rw [Lib.extract_data]; simp)
theorem cut20n (s : ByteArray) (h : ¬ 20 < s.size) : s = Jt.mkS (s.data.toList.take 20) := Jt.mkS_of (by rw [List.take_of_length_le (by rw [← Lib.size_eq]; omega)])
theorem cut30 (s : ByteArray) (h : 30 < s.size) : s.extract 0 30 = Jt.mkS (s.data.toList.take 30) := Jt.mkS_of (by rw [Lib.extract_data]; simp)
theorem cut30n (s : ByteArray) (h : ¬ 30 < s.size) : s = Jt.mkS (s.data.toList.take 30) := Jt.mkS_of (by rw [List.take_of_length_le (by rw [← Lib.size_eq]; omega)])
theorem infoR : (Tryz.prog.info? 38).map (fun i => (i.zero, i.size, i.bytes)) = some (some (.agg #[.string ⟨#[]⟩, .string ⟨#[]⟩]), 2, 32) := by kernel_rfl
end Go.Proofs.YtcknlnphgndaoaaGreatDoor.Lb
namespace Go.Proofs.YtcknlnphgndaoaaGreatDoor.Lb
open Go.RowKit Ch Jt
set_option linter.unusedSimpArgs false
set_option linter.unusedVariables false

theorem two_cell {w : World} {g : Nat} {a b : ByteArray} {T : TypeId} (h : w.heap[g]? = some (.cells #[.string a, .string b] T (0, 0))) : ∀ (j : Nat) (u : Value), [Value.string a, .string b][j]? = some u → w.cell? ((⟨g, 0, none⟩ : Addr).add j) = some u := fun j u hu => by
  have hj : j < 2 := by
    rcases Nat.lt_or_ge j 2 with g | g
    · exact g
    · rw [List.getElem?_eq_none (by show 2 ≤ j; exact g)] at hu; cases hu
  have ea : (⟨g, 0, none⟩ : Addr).add j = ⟨g, j, none⟩ := by unfold Addr.add; split <;> simp_all
  rw [ea, cell_of_row _ _ j _ _ _ h]
  match j, hj with
  | 0, _ => exact hu
  | 1, _ => exact hu
theorem two_ok {a b : ByteArray} : ∀ u ∈ [Value.string a, .string b], u.oneCell' = true := fun u h => by simp at h; rcases h with rfl | rfl <;> rfl
theorem new_two (wr : World) (a b : Value) (T U : TypeId) : ∃ W1, W1 = (wr.alloc (.cells #[a, b] T)).alloc (.cells #[a, b] U) ∧ W1.heap[wr.heap.size + 1]? = some (.cells #[a, b] U (0, 0)) ∧ W1.heap[wr.heap.size]? = some (.cells #[a, b] T (0, 0)) ∧ Below wr.heap.size wr W1 := by
  refine ⟨_, rfl, ?_, ?_, ((Below.refl _ _).alloc (Nat.le_refl _) _).alloc (by simp) _⟩
  · have := heap_alloc_new (wr.alloc (.cells #[a, b] T)) (.cells #[a, b] U)
    simpa using this
  · have hb := (Below.refl (wr.heap.size + 1) (wr.alloc (.cells #[a, b] T))).alloc (by simp) (.cells #[a, b] U)
    exact (hb.block _ (by omega)).trans (heap_alloc_new wr _)
set_option maxRecDepth 100000 in
set_option maxHeartbeats 8000000 in
theorem Pairs_c (a : Option Addr) (cap : Nat) (ts : List FB) (w : World) (hP : IsPrs w a ts.length ts) :
    Calls Tryz.prog 4 #[.slice a ts.length cap] w fun e w' => ∃ vo vw, e = .returned (.tuple #[vo, vw]) ∧ OwF 39 w.heap.size vo (prK ts 6) w' ∧ OwF 38 w.heap.size vw (prK ts 6) w' ∧ Below w.heap.size w w' := by
  obtain ⟨_, hm, hz, hat⟩ := hP
  have HZ := Lib.hid hz
  have HA := Lib.hid hat
  clear hz hat
  unfold maxLen at hm
  obtain ⟨ip, hip, hpa, hpb, hpc⟩ := info_parts info2
  obtain ⟨ir, hir, hra, hrb, hrc⟩ := info_parts infoR
  go_enter Tryz.func4, Tryz.ntmps4
  go_wp2
  go_loopw [4, 5, 10] (fun ov wv iv wr => ∃ j : Nat, j ≤ ts.length ∧ j ≤ 6 ∧ iv = .int .i64 j ∧ OwF 39 w.heap.size ov (prK ts j) wr ∧ OwF 38 w.heap.size wv (prK ts j) wr ∧ Below w.heap.size w wr) (fun _ _ iv _ => ts.length - (intOf iv).toNat)
  case atStart => exact ⟨0, by omega, by omega, rfl, World.ownsRow_nil _ _ _ _, World.ownsRow_nil _ _ _ _, Below.refl _ _⟩
  case round =>
    obtain ⟨j, hj, hj6, rfl, hownO, hownW, hB⟩ := hrel
    have HOO := Lib.hid hownO
    have HOW := Lib.hid hownW
    have HB := Lib.hid hB
    obtain ⟨aoo, cpo, hvo⟩ := own_lenF hownO
    obtain ⟨aow, cpw, hvw⟩ := own_lenF hownW
    subst hvo hvw
    have hpq := prK_len ts hj6
    by_cases hlt : j < ts.length
    · obtain ⟨g, off, rfl, hg, hat⟩ := HA.out (by intro h; rw [h] at hlt; simp at hlt)
      have p0 := (hB.cell (p := ⟨g, off + j * 2, none⟩) hg).trans (hat j hlt).1
      have p1 := (hB.cell (p := ⟨g, off + j * 2 + 1, none⟩) hg).trans (hat j hlt).2
      obtain ⟨hsz1, hsz2⟩ := HZ.out _ (List.getElem_mem hlt)
      have hj0 : (0 : Int) ≤ (j : Int) := by omega
      have hjl : (j : Int) < (ts.length : Int) := by omega
      have hgn : g ≠ wr.heap.size := by have := hB.size; omega
      unfold maxLen at hsz1 hsz2
      by_cases h6 : j < 6
      · have h6' : ¬ (6 : Int) ≤ (j : Int) := by omega
        have HK := Lib.hid (prK_snoc hlt)
        unfold cutF at HK
        have X1 := cut20 ts[j].1
        have X2 := cut20n ts[j].1
        have Y1 := cut30 ts[j].2
        have Y2 := cut30n ts[j].2
        clear hownO hownW hB hat
        by_cases hx : 20 < ts[j].1.size
        · by_cases hy : 30 < ts[j].2.size
          · have HX := Lib.hid (X1 hx)
            have HY := Lib.hid (Y1 hy)
            clear X1 X2 Y1 Y2
            revert p0 p1 hsz1 hsz2 hx hy HX HY HK
            generalize ts[j].1 = x
            generalize ts[j].2 = y
            intro p0 p1 hsz1 hsz2 HK hx hy HX HY
            have hx' : (20 : Int) < (x.size : Int) := by omega
            have hy' : (30 : Int) < (y.size : Int) := by omega
            have HK2 : Hid (prK ts (j + 1) = prK ts j ++ [((x.extract 0 20), (y.extract 0 30))]) := by show _ = _; rw [HK.out, ← HX.out, ← HY.out]
            obtain ⟨W1, hW1, hk1, hk0, hb1⟩ := new_two wr (.string (x.extract 0 20)) (.string (y.extract 0 30)) 38 39
            have HW1 := Lib.hid hW1
            have HKX := Lib.hid hk0
            have hl1 : wr.heap.size < W1.heap.size := (Array.getElem?_eq_some_iff.1 hk0).1
            have HB1 : Hid (Below w.heap.size w W1) := HB.out.trans (hb1.mono HB.out.size)
            have IO := Lib.hid (HOO.out.go hb1)
            have IW := Lib.hid (HOW.out.go hb1)
            have DC := Lib.hid (two_cell hk1)
            have D3 : Hid ((prK ts j).length + 1 ≤ maxLen) := by show _ ≤ _; unfold maxLen; omega
            have D4 : Hid (((prK ts j).length + 1) * 32 ≤ 140737488355328) := by show _ ≤ _; omega
            have E1 : Hid (w.heap.size ≤ W1.heap.size) := HB1.out.size
            have LO : Hid (∀ k, (Value.slice aoo (prK ts j).length cpo).ownBlock = some k → w.heap.size ≤ k ∧ k < wr.heap.size) := HOO.out.lt
            have LW : Hid (∀ k, (Value.slice aow (prK ts j).length cpw).ownBlock = some k → w.heap.size ≤ k ∧ k < wr.heap.size) := HOW.out.lt
            clear hW1 hk1 hk0 hb1 HX HY HK
            go_wp2_with (at_builtin; rw [← HW1.out]; refine wpList_append_own _ rfl _ _ 23 rfl w.heap.size 39 ip _ 2 32 Tryz.underlying23 hip hpa hpb hpc rfl (by decide) _ _ _ rfl IO.out ⟨wr.heap.size + 1, 0, none⟩ 1 1 [.string (x.extract 0 20), .string (y.extract 0 30)] rfl rfl DC.out two_ok D3.out D4.out E1.out ?_)
            intro v1 V1 hown1 hgrow1 _
            have HK3 : Hid (V1.heap[wr.heap.size]? = some (.cells #[.string (x.extract 0 20), .string (y.extract 0 30)] 38 (0, 0))) := (hgrow1.block _ hl1 (fun e => by have := LO.out _ e.symm; omega)).trans HKX.out
            have HBV : Hid (Below w.heap.size w V1) := HB1.out.grown hgrow1 HB1.out.size (fun k hk => (LO.out k hk).1)
            have JW : Hid (OwF 38 w.heap.size (.slice aow (prK ts j).length cpw) (prK ts j) V1) := World.ownsRow.kept IW.out hgrow1 (own_apart IO.out IW.out (by decide))
            have JO : Hid (OwF 39 w.heap.size v1 (prK ts (j + 1)) V1) := by
              show OwF _ _ _ _ _
              rw [HK2.out]; unfold OwF; rw [fC_snoc, List.length_append]
              exact hown1
            obtain ⟨ao1, cp1, hv1⟩ := own_lenF hown1
            subst hv1
            clear hown1 hgrow1 HKX
            obtain ⟨e0, e1⟩ := cell2 HK3.out
            obtain ⟨W2, hW2, hk2, hb2⟩ : ∃ W2, W2 = V1.alloc (.cells #[.string (x.extract 0 20), .string (y.extract 0 30)] 38) ∧ W2.heap[V1.heap.size]? = some (.cells #[.string (x.extract 0 20), .string (y.extract 0 30)] 38 (0, 0)) ∧ Below V1.heap.size V1 W2 := ⟨_, rfl, heap_alloc_new V1 _, (Below.refl _ _).alloc (Nat.le_refl _) _⟩
            have HW2 := Lib.hid hW2
            have HB2 : Hid (Below w.heap.size w W2) := HBV.out.trans (hb2.mono HBV.out.size)
            have KO := Lib.hid (JO.out.go hb2)
            have KW := Lib.hid (JW.out.go hb2)
            have DC2 := Lib.hid (two_cell hk2)
            have E2 : Hid (w.heap.size ≤ W2.heap.size) := HB2.out.size
            clear hW2 hk2 hb2
            go_wp2_with (at_builtin; rw [← HW2.out]; refine wpList_append_own _ rfl _ _ 22 rfl w.heap.size 38 ir _ 2 32 Tryz.underlying22 hir hra hrb hrc rfl (by decide) _ _ _ rfl KW.out ⟨V1.heap.size, 0, none⟩ 1 1 [.string (x.extract 0 20), .string (y.extract 0 30)] rfl rfl DC2.out two_ok D3.out D4.out E2.out ?_)
            intro v2 V2 hown2 hgrow2 _
            have HBZ : Hid (Below w.heap.size w V2) := HB2.out.grown hgrow2 HB2.out.size (fun k hk => (LW.out k hk).1)
            have LO2 : Hid (OwF 39 w.heap.size (.slice ao1 ((prK ts j).length + 1) cp1) (prK ts (j + 1)) V2) := World.ownsRow.kept KO.out hgrow2 (own_apart KW.out KO.out (by decide))
            have LW2 : Hid (OwF 38 w.heap.size v2 (prK ts (j + 1)) V2) := by
              show OwF _ _ _ _ _
              rw [HK2.out]; unfold OwF; rw [fC_snoc, List.length_append]
              exact hown2
            clear hown2 hgrow2 e0 e1
            go_wp2
            go_roundw
            case rel => exact ⟨j + 1, by omega, by omega, by go_num, LO2.out, LW2.out, HBZ.out⟩
            case measure => simp [intOf]; omega
          · have HX := Lib.hid (X1 hx)
            have HY := Lib.hid (Y2 hy)
            clear X1 X2 Y1 Y2
            revert p0 p1 hsz1 hsz2 hx hy HX HY HK
            generalize ts[j].1 = x
            generalize ts[j].2 = y
            intro p0 p1 hsz1 hsz2 HK hx hy HX HY
            have hx' : (20 : Int) < (x.size : Int) := by omega
            have hy' : ¬ (30 : Int) < (y.size : Int) := by omega
            have HK2 : Hid (prK ts (j + 1) = prK ts j ++ [((x.extract 0 20), y)]) := by show _ = _; rw [HK.out, ← HX.out, ← HY.out]
            obtain ⟨W1, hW1, hk1, hk0, hb1⟩ := new_two wr (.string (x.extract 0 20)) (.string y) 38 39
            have HW1 := Lib.hid hW1
            have HKX := Lib.hid hk0
            have hl1 : wr.heap.size < W1.heap.size := (Array.getElem?_eq_some_iff.1 hk0).1
            have HB1 : Hid (Below w.heap.size w W1) := HB.out.trans (hb1.mono HB.out.size)
            have IO := Lib.hid (HOO.out.go hb1)
            have IW := Lib.hid (HOW.out.go hb1)
            have DC := Lib.hid (two_cell hk1)
            have D3 : Hid ((prK ts j).length + 1 ≤ maxLen) := by show _ ≤ _; unfold maxLen; omega
            have D4 : Hid (((prK ts j).length + 1) * 32 ≤ 140737488355328) := by show _ ≤ _; omega
            have E1 : Hid (w.heap.size ≤ W1.heap.size) := HB1.out.size
            have LO : Hid (∀ k, (Value.slice aoo (prK ts j).length cpo).ownBlock = some k → w.heap.size ≤ k ∧ k < wr.heap.size) := HOO.out.lt
            have LW : Hid (∀ k, (Value.slice aow (prK ts j).length cpw).ownBlock = some k → w.heap.size ≤ k ∧ k < wr.heap.size) := HOW.out.lt
            clear hW1 hk1 hk0 hb1 HX HY HK
            go_wp2_with (at_builtin; rw [← HW1.out]; refine wpList_append_own _ rfl _ _ 23 rfl w.heap.size 39 ip _ 2 32 Tryz.underlying23 hip hpa hpb hpc rfl (by decide) _ _ _ rfl IO.out ⟨wr.heap.size + 1, 0, none⟩ 1 1 [.string (x.extract 0 20), .string y] rfl rfl DC.out two_ok D3.out D4.out E1.out ?_)
            intro v1 V1 hown1 hgrow1 _
            have HK3 : Hid (V1.heap[wr.heap.size]? = some (.cells #[.string (x.extract 0 20), .string y] 38 (0, 0))) := (hgrow1.block _ hl1 (fun e => by have := LO.out _ e.symm; omega)).trans HKX.out
            have HBV : Hid (Below w.heap.size w V1) := HB1.out.grown hgrow1 HB1.out.size (fun k hk => (LO.out k hk).1)
            have JW : Hid (OwF 38 w.heap.size (.slice aow (prK ts j).length cpw) (prK ts j) V1) := World.ownsRow.kept IW.out hgrow1 (own_apart IO.out IW.out (by decide))
            have JO : Hid (OwF 39 w.heap.size v1 (prK ts (j + 1)) V1) := by
              show OwF _ _ _ _ _
              rw [HK2.out]; unfold OwF; rw [fC_snoc, List.length_append]
              exact hown1
            obtain ⟨ao1, cp1, hv1⟩ := own_lenF hown1
            subst hv1
            clear hown1 hgrow1 HKX
            obtain ⟨e0, e1⟩ := cell2 HK3.out
            obtain ⟨W2, hW2, hk2, hb2⟩ : ∃ W2, W2 = V1.alloc (.cells #[.string (x.extract 0 20), .string y] 38) ∧ W2.heap[V1.heap.size]? = some (.cells #[.string (x.extract 0 20), .string y] 38 (0, 0)) ∧ Below V1.heap.size V1 W2 := ⟨_, rfl, heap_alloc_new V1 _, (Below.refl _ _).alloc (Nat.le_refl _) _⟩
            have HW2 := Lib.hid hW2
            have HB2 : Hid (Below w.heap.size w W2) := HBV.out.trans (hb2.mono HBV.out.size)
            have KO := Lib.hid (JO.out.go hb2)
            have KW := Lib.hid (JW.out.go hb2)
            have DC2 := Lib.hid (two_cell hk2)
            have E2 : Hid (w.heap.size ≤ W2.heap.size) := HB2.out.size
            clear hW2 hk2 hb2
            go_wp2_with (at_builtin; rw [← HW2.out]; refine wpList_append_own _ rfl _ _ 22 rfl w.heap.size 38 ir _ 2 32 Tryz.underlying22 hir hra hrb hrc rfl (by decide) _ _ _ rfl KW.out ⟨V1.heap.size, 0, none⟩ 1 1 [.string (x.extract 0 20), .string y] rfl rfl DC2.out two_ok D3.out D4.out E2.out ?_)
            intro v2 V2 hown2 hgrow2 _
            have HBZ : Hid (Below w.heap.size w V2) := HB2.out.grown hgrow2 HB2.out.size (fun k hk => (LW.out k hk).1)
            have LO2 : Hid (OwF 39 w.heap.size (.slice ao1 ((prK ts j).length + 1) cp1) (prK ts (j + 1)) V2) := World.ownsRow.kept KO.out hgrow2 (own_apart KW.out KO.out (by decide))
            have LW2 : Hid (OwF 38 w.heap.size v2 (prK ts (j + 1)) V2) := by
              show OwF _ _ _ _ _
              rw [HK2.out]; unfold OwF; rw [fC_snoc, List.length_append]
              exact hown2
            clear hown2 hgrow2 e0 e1
            go_wp2
            go_roundw
            case rel => exact ⟨j + 1, by omega, by omega, by go_num, LO2.out, LW2.out, HBZ.out⟩
            case measure => simp [intOf]; omega
        · by_cases hy : 30 < ts[j].2.size
          · have HX := Lib.hid (X2 hx)
            have HY := Lib.hid (Y1 hy)
            clear X1 X2 Y1 Y2
            revert p0 p1 hsz1 hsz2 hx hy HX HY HK
            generalize ts[j].1 = x
            generalize ts[j].2 = y
            intro p0 p1 hsz1 hsz2 HK hx hy HX HY
            have hx' : ¬ (20 : Int) < (x.size : Int) := by omega
            have hy' : (30 : Int) < (y.size : Int) := by omega
            have HK2 : Hid (prK ts (j + 1) = prK ts j ++ [(x, (y.extract 0 30))]) := by show _ = _; rw [HK.out, ← HX.out, ← HY.out]
            obtain ⟨W1, hW1, hk1, hk0, hb1⟩ := new_two wr (.string x) (.string (y.extract 0 30)) 38 39
            have HW1 := Lib.hid hW1
            have HKX := Lib.hid hk0
            have hl1 : wr.heap.size < W1.heap.size := (Array.getElem?_eq_some_iff.1 hk0).1
            have HB1 : Hid (Below w.heap.size w W1) := HB.out.trans (hb1.mono HB.out.size)
            have IO := Lib.hid (HOO.out.go hb1)
            have IW := Lib.hid (HOW.out.go hb1)
            have DC := Lib.hid (two_cell hk1)
            have D3 : Hid ((prK ts j).length + 1 ≤ maxLen) := by show _ ≤ _; unfold maxLen; omega
            have D4 : Hid (((prK ts j).length + 1) * 32 ≤ 140737488355328) := by show _ ≤ _; omega
            have E1 : Hid (w.heap.size ≤ W1.heap.size) := HB1.out.size
            have LO : Hid (∀ k, (Value.slice aoo (prK ts j).length cpo).ownBlock = some k → w.heap.size ≤ k ∧ k < wr.heap.size) := HOO.out.lt
            have LW : Hid (∀ k, (Value.slice aow (prK ts j).length cpw).ownBlock = some k → w.heap.size ≤ k ∧ k < wr.heap.size) := HOW.out.lt
            clear hW1 hk1 hk0 hb1 HX HY HK
            go_wp2_with (at_builtin; rw [← HW1.out]; refine wpList_append_own _ rfl _ _ 23 rfl w.heap.size 39 ip _ 2 32 Tryz.underlying23 hip hpa hpb hpc rfl (by decide) _ _ _ rfl IO.out ⟨wr.heap.size + 1, 0, none⟩ 1 1 [.string x, .string (y.extract 0 30)] rfl rfl DC.out two_ok D3.out D4.out E1.out ?_)
            intro v1 V1 hown1 hgrow1 _
            have HK3 : Hid (V1.heap[wr.heap.size]? = some (.cells #[.string x, .string (y.extract 0 30)] 38 (0, 0))) := (hgrow1.block _ hl1 (fun e => by have := LO.out _ e.symm; omega)).trans HKX.out
            have HBV : Hid (Below w.heap.size w V1) := HB1.out.grown hgrow1 HB1.out.size (fun k hk => (LO.out k hk).1)
            have JW : Hid (OwF 38 w.heap.size (.slice aow (prK ts j).length cpw) (prK ts j) V1) := World.ownsRow.kept IW.out hgrow1 (own_apart IO.out IW.out (by decide))
            have JO : Hid (OwF 39 w.heap.size v1 (prK ts (j + 1)) V1) := by
              show OwF _ _ _ _ _
              rw [HK2.out]; unfold OwF; rw [fC_snoc, List.length_append]
              exact hown1
            obtain ⟨ao1, cp1, hv1⟩ := own_lenF hown1
            subst hv1
            clear hown1 hgrow1 HKX
            obtain ⟨e0, e1⟩ := cell2 HK3.out
            obtain ⟨W2, hW2, hk2, hb2⟩ : ∃ W2, W2 = V1.alloc (.cells #[.string x, .string (y.extract 0 30)] 38) ∧ W2.heap[V1.heap.size]? = some (.cells #[.string x, .string (y.extract 0 30)] 38 (0, 0)) ∧ Below V1.heap.size V1 W2 := ⟨_, rfl, heap_alloc_new V1 _, (Below.refl _ _).alloc (Nat.le_refl _) _⟩
            have HW2 := Lib.hid hW2
            have HB2 : Hid (Below w.heap.size w W2) := HBV.out.trans (hb2.mono HBV.out.size)
            have KO := Lib.hid (JO.out.go hb2)
            have KW := Lib.hid (JW.out.go hb2)
            have DC2 := Lib.hid (two_cell hk2)
            have E2 : Hid (w.heap.size ≤ W2.heap.size) := HB2.out.size
            clear hW2 hk2 hb2
            go_wp2_with (at_builtin; rw [← HW2.out]; refine wpList_append_own _ rfl _ _ 22 rfl w.heap.size 38 ir _ 2 32 Tryz.underlying22 hir hra hrb hrc rfl (by decide) _ _ _ rfl KW.out ⟨V1.heap.size, 0, none⟩ 1 1 [.string x, .string (y.extract 0 30)] rfl rfl DC2.out two_ok D3.out D4.out E2.out ?_)
            intro v2 V2 hown2 hgrow2 _
            have HBZ : Hid (Below w.heap.size w V2) := HB2.out.grown hgrow2 HB2.out.size (fun k hk => (LW.out k hk).1)
            have LO2 : Hid (OwF 39 w.heap.size (.slice ao1 ((prK ts j).length + 1) cp1) (prK ts (j + 1)) V2) := World.ownsRow.kept KO.out hgrow2 (own_apart KW.out KO.out (by decide))
            have LW2 : Hid (OwF 38 w.heap.size v2 (prK ts (j + 1)) V2) := by
              show OwF _ _ _ _ _
              rw [HK2.out]; unfold OwF; rw [fC_snoc, List.length_append]
              exact hown2
            clear hown2 hgrow2 e0 e1
            go_wp2
            go_roundw
            case rel => exact ⟨j + 1, by omega, by omega, by go_num, LO2.out, LW2.out, HBZ.out⟩
            case measure => simp [intOf]; omega
          · have HX := Lib.hid (X2 hx)
            have HY := Lib.hid (Y2 hy)
            clear X1 X2 Y1 Y2
            revert p0 p1 hsz1 hsz2 hx hy HX HY HK
            generalize ts[j].1 = x
            generalize ts[j].2 = y
            intro p0 p1 hsz1 hsz2 HK hx hy HX HY
            have hx' : ¬ (20 : Int) < (x.size : Int) := by omega
            have hy' : ¬ (30 : Int) < (y.size : Int) := by omega
            have HK2 : Hid (prK ts (j + 1) = prK ts j ++ [(x, y)]) := by show _ = _; rw [HK.out, ← HX.out, ← HY.out]
            obtain ⟨W1, hW1, hk1, hk0, hb1⟩ := new_two wr (.string x) (.string y) 38 39
            have HW1 := Lib.hid hW1
            have HKX := Lib.hid hk0
            have hl1 : wr.heap.size < W1.heap.size := (Array.getElem?_eq_some_iff.1 hk0).1
            have HB1 : Hid (Below w.heap.size w W1) := HB.out.trans (hb1.mono HB.out.size)
            have IO := Lib.hid (HOO.out.go hb1)
            have IW := Lib.hid (HOW.out.go hb1)
            have DC := Lib.hid (two_cell hk1)
            have D3 : Hid ((prK ts j).length + 1 ≤ maxLen) := by show _ ≤ _; unfold maxLen; omega
            have D4 : Hid (((prK ts j).length + 1) * 32 ≤ 140737488355328) := by show _ ≤ _; omega
            have E1 : Hid (w.heap.size ≤ W1.heap.size) := HB1.out.size
            have LO : Hid (∀ k, (Value.slice aoo (prK ts j).length cpo).ownBlock = some k → w.heap.size ≤ k ∧ k < wr.heap.size) := HOO.out.lt
            have LW : Hid (∀ k, (Value.slice aow (prK ts j).length cpw).ownBlock = some k → w.heap.size ≤ k ∧ k < wr.heap.size) := HOW.out.lt
            clear hW1 hk1 hk0 hb1 HX HY HK
            go_wp2_with (at_builtin; rw [← HW1.out]; refine wpList_append_own _ rfl _ _ 23 rfl w.heap.size 39 ip _ 2 32 Tryz.underlying23 hip hpa hpb hpc rfl (by decide) _ _ _ rfl IO.out ⟨wr.heap.size + 1, 0, none⟩ 1 1 [.string x, .string y] rfl rfl DC.out two_ok D3.out D4.out E1.out ?_)
            intro v1 V1 hown1 hgrow1 _
            have HK3 : Hid (V1.heap[wr.heap.size]? = some (.cells #[.string x, .string y] 38 (0, 0))) := (hgrow1.block _ hl1 (fun e => by have := LO.out _ e.symm; omega)).trans HKX.out
            have HBV : Hid (Below w.heap.size w V1) := HB1.out.grown hgrow1 HB1.out.size (fun k hk => (LO.out k hk).1)
            have JW : Hid (OwF 38 w.heap.size (.slice aow (prK ts j).length cpw) (prK ts j) V1) := World.ownsRow.kept IW.out hgrow1 (own_apart IO.out IW.out (by decide))
            have JO : Hid (OwF 39 w.heap.size v1 (prK ts (j + 1)) V1) := by
              show OwF _ _ _ _ _
              rw [HK2.out]; unfold OwF; rw [fC_snoc, List.length_append]
              exact hown1
            obtain ⟨ao1, cp1, hv1⟩ := own_lenF hown1
            subst hv1
            clear hown1 hgrow1 HKX
            obtain ⟨e0, e1⟩ := cell2 HK3.out
            obtain ⟨W2, hW2, hk2, hb2⟩ : ∃ W2, W2 = V1.alloc (.cells #[.string x, .string y] 38) ∧ W2.heap[V1.heap.size]? = some (.cells #[.string x, .string y] 38 (0, 0)) ∧ Below V1.heap.size V1 W2 := ⟨_, rfl, heap_alloc_new V1 _, (Below.refl _ _).alloc (Nat.le_refl _) _⟩
            have HW2 := Lib.hid hW2
            have HB2 : Hid (Below w.heap.size w W2) := HBV.out.trans (hb2.mono HBV.out.size)
            have KO := Lib.hid (JO.out.go hb2)
            have KW := Lib.hid (JW.out.go hb2)
            have DC2 := Lib.hid (two_cell hk2)
            have E2 : Hid (w.heap.size ≤ W2.heap.size) := HB2.out.size
            clear hW2 hk2 hb2
            go_wp2_with (at_builtin; rw [← HW2.out]; refine wpList_append_own _ rfl _ _ 22 rfl w.heap.size 38 ir _ 2 32 Tryz.underlying22 hir hra hrb hrc rfl (by decide) _ _ _ rfl KW.out ⟨V1.heap.size, 0, none⟩ 1 1 [.string x, .string y] rfl rfl DC2.out two_ok D3.out D4.out E2.out ?_)
            intro v2 V2 hown2 hgrow2 _
            have HBZ : Hid (Below w.heap.size w V2) := HB2.out.grown hgrow2 HB2.out.size (fun k hk => (LW.out k hk).1)
            have LO2 : Hid (OwF 39 w.heap.size (.slice ao1 ((prK ts j).length + 1) cp1) (prK ts (j + 1)) V2) := World.ownsRow.kept KO.out hgrow2 (own_apart KW.out KO.out (by decide))
            have LW2 : Hid (OwF 38 w.heap.size v2 (prK ts (j + 1)) V2) := by
              show OwF _ _ _ _ _
              rw [HK2.out]; unfold OwF; rw [fC_snoc, List.length_append]
              exact hown2
            clear hown2 hgrow2 e0 e1
            go_wp2
            go_roundw
            case rel => exact ⟨j + 1, by omega, by omega, by go_num, LO2.out, LW2.out, HBZ.out⟩
            case measure => simp [intOf]; omega
      · clear hownO hownW hB hat
        have hje : j = 6 := by omega
        subst hje
        revert p0 p1
        generalize ts[6].1 = x
        generalize ts[6].2 = y
        intro p0 p1
        have hba : Below wr.heap.size wr (wr.alloc (.cells #[.string x, .string y] 38)) := (Below.refl _ _).alloc (Nat.le_refl _) _
        have LO2 := Lib.hid (HOO.out.go hba)
        have LW2 := Lib.hid (HOW.out.go hba)
        have HBZ : Hid (Below w.heap.size w (wr.alloc (.cells #[.string x, .string y] 38))) := HB.out.trans (hba.mono HB.out.size)
        clear hba
        go_wp2
        go_ret2
        exact ⟨_, _, rfl, LO2.out, LW2.out, HBZ.out⟩
    · have hpe : prK ts j = prK ts 6 := by
        unfold prK
        rw [List.take_of_length_le (by omega), List.take_of_length_le (by omega)]
      clear hownO hownW hB
      rw [hpe] at HOO HOW ⊢
      go_wp2
      go_ret2
      exact ⟨_, _, rfl, HOO.out, HOW.out, HB.out⟩
end Go.Proofs.YtcknlnphgndaoaaGreatDoor.Lb
namespace Go.Proofs.YtcknlnphgndaoaaGreatDoor.Lb
open Go.RowKit Ch Jt
set_option linter.unusedSimpArgs false
set_option linter.unusedVariables false

def exF : List FB := [(⟨#[98]⟩, ⟨#[50]⟩), (⟨#[97]⟩, ⟨#[49]⟩)]
def exG : List FB := [(⟨#[97]⟩, ⟨#[49]⟩), (⟨#[98]⟩, ⟨#[50]⟩)]
theorem ex_bad : exF.any badB = false := by decide +kernel
theorem ex_onc : Onc exF := by decide +kernel
theorem ex_asc : Asc exG := by
  unfold Asc exG
  rw [List.pairwise_cons]
  refine ⟨fun y hy => ?_, by simp⟩
  rw [List.mem_singleton] at hy
  subst hy
  decide +kernel
theorem ex_perm : exG.Perm exF := List.Perm.swap _ _ _
theorem ex_one {gs : List FB} (hp : gs.Perm exF) (ha : Asc gs) : gs = exG := asc_one (hp.trans ex_perm.symm) ha ex_asc ((onc_iff hp).2 ex_onc)
theorem ex_txt : txtL exG = [123, 97, 61, 34, 49, 34, 44, 98, 61, 34, 50, 34, 125] := by decide +kernel
theorem ex_vld : ∀ x ∈ exG, vldB x.2.data.toList = true := by
  intro x hx
  rcases List.mem_cons.1 hx with rfl | hx
  · decide +kernel
  · rcases List.mem_cons.1 hx with rfl | hx
    · decide +kernel
    · cases hx
theorem ex_short : ∀ x ∈ exG, shortF x := by
  intro x hx
  rcases List.mem_cons.1 hx with rfl | hx
  · exact ⟨by decide, by decide⟩
  · rcases List.mem_cons.1 hx with rfl | hx
    · exact ⟨by decide, by decide⟩
    · cases hx
theorem ex_small : ∀ x ∈ exF, smallF x := by
  intro x hx
  rcases List.mem_cons.1 hx with rfl | hx
  · exact ⟨by decide, by decide⟩
  · rcases List.mem_cons.1 hx with rfl | hx
    · exact ⟨by decide, by decide⟩
    · cases hx
set_option maxRecDepth 100000 in
set_option maxHeartbeats 4000000 in
theorem awake_c (w : World) (hE : Ev w) : Calls Tryz.prog 6 #[] w fun e w' => e = .returned (.bool true) ∧ Below w.heap.size w w' := by
  obtain ⟨W1, hW1, hk1, hb1⟩ : ∃ W1, W1 = w.alloc (.cells #[.string ⟨#[98]⟩, .string ⟨#[50]⟩, .string ⟨#[97]⟩, .string ⟨#[49]⟩] 39) ∧ W1.heap[w.heap.size]? = some (.cells #[.string ⟨#[98]⟩, .string ⟨#[50]⟩, .string ⟨#[97]⟩, .string ⟨#[49]⟩] 39 (0, 0)) ∧ Below w.heap.size w W1 := ⟨_, rfl, heap_alloc_new w _, (Below.refl _ _).alloc (Nat.le_refl _) _⟩
  have hrd : RdF (.slice (some ⟨w.heap.size, 0, none⟩) 2 2) exF W1 := ⟨_, _, rfl, fun _ => ⟨w.heap.size, 0, rfl, (Array.getElem?_eq_some_iff.1 hk1).1, fun i hi => by
    have hi2 : i < 2 := hi
    rw [cell_of_row _ _ _ _ _ _ hk1, cell_of_row _ _ _ _ _ _ hk1]
    match i, hi2 with
    | 0, _ => exact ⟨rfl, rfl⟩
    | 1, _ => exact ⟨rfl, rfl⟩⟩⟩
  have HOF := Lib.hid (Of_c _ exF W1 (hE.go hb1) hrd (by decide) ex_small)
  have HW1 := Lib.hid hW1
  have HB1 := Lib.hid hb1
  have HE := Lib.hid hE
  clear hE hW1 hk1 hb1 hrd
  go_enter Tryz.func6, Tryz.ntmps6
  go_wp2_with fail
  rw [← HW1.out]
  clear HW1
  (with_reducible refine HOF.out.mono ?_)
  intro e w2 h2
  obtain ⟨hb2, h2⟩ := h2
  rcases h2 with ⟨h, _⟩ | ⟨_, h, _⟩ | ⟨_, _, ao, cap, gs, _, rfl, hp, ha, hr⟩
  · rw [ex_bad] at h; cases h
  · exact absurd ex_onc h
  obtain rfl := ex_one hp ha
  have HB2 : Hid (Below w.heap.size w w2) := HB1.out.trans (hb2.mono HB1.out.size)
  replace hr : RdF (.slice ao exG.length cap) exG w2 := hr
  obtain ⟨W3, hW3, hk3, hb3⟩ : ∃ W3, W3 = w2.alloc (.cells #[.slice ao 2 cap] 27) ∧ W3.heap[w2.heap.size]? = some (.cells #[.slice ao 2 cap] 27 (0, 0)) ∧ Below w2.heap.size w2 W3 := ⟨_, rfl, heap_alloc_new w2 _, (Below.refl _ _).alloc (Nat.le_refl _) _⟩
  have HB3 : Hid (Below w.heap.size w W3) := HB2.out.trans (hb3.mono HB2.out.size)
  have HSC := Lib.hid (String_c ao cap exG W3 (HE.out.go HB3.out) (hr.go hb3) (by decide) ex_short ex_vld)
  rw [ex_txt, show exG.length = 2 from rfl] at HSC
  have HW3 := Lib.hid hW3
  have HK3 := Lib.hid hk3
  have d0 := cell_of_row _ _ 0 _ _ _ hk3
  have hl3 : w2.heap.size < W3.heap.size := (Array.getElem?_eq_some_iff.1 hk3).1
  clear hb2 hp ha hr hW3 hk3 hb3 HOF HB2
  have e2 : exF.length = 2 := rfl
  rw [e2]
  clear e2
  go_wp2_with fail
  rw [← HW3.out]
  clear HW3
  (with_reducible refine HSC.out.mono ?_)
  rintro e w4 ⟨rfl, hb4⟩
  have HB4 : Hid (Below w.heap.size w w4) := HB3.out.trans (hb4.mono HB3.out.size)
  have HK4 : Hid (w4.heap[w2.heap.size]? = some (.cells #[.slice ao 2 cap] 27 (0, 0))) := (hb4.block _ hl3).trans HK3.out
  clear hb4 d0
  have d4 := cell_of_row _ _ 0 _ _ _ HK4.out
  have HLN := Lib.hid (Len_c ao 2 cap w4 (by decide))
  have q1 : (Jt.mkS [123, 97, 61, 34, 49, 34, 44, 98, 61, 34, 50, 34, 125]).toList = [123, 97, 61, 34, 49, 34, 44, 98, 61, 34, 50, 34, 125] := by rw [Lib.toList_data, Jt.data_mkS]
  go_wp2_with fail
  refine HLN.out.mono ?_
  rintro e w5 ⟨rfl, hb5⟩
  have HB5 : Hid (Below w.heap.size w w5) := HB4.out.trans (hb5.mono HB4.out.size)
  clear hb5 HLN
  go_wp2
  go_ret
  exact ⟨rfl, HB5.out⟩
end Go.Proofs.YtcknlnphgndaoaaGreatDoor.Lb
namespace Go.Proofs.YtcknlnphgndaoaaGreatDoor.Lb
open Go.RowKit Ch Jt
set_option linter.unusedSimpArgs false
set_option linter.unusedVariables false

def leN (x y : FB) : Bool := !decide (cfN y x < 0)
/-- pairs by their names -/
def srtL (fs : List FB) : List FB := fs.mergeSort leN
theorem srt_perm (fs : List FB) : (srtL fs).Perm fs := List.mergeSort_perm _ _
theorem leN_iff (x y : FB) : leN x y = true ↔ ¬ cfN y x < 0 := by unfold leN; simp
theorem srt_asc (fs : List FB) : Asc (srtL fs) := by
  have h := List.pairwise_mergeSort (le := leN) (fun a b c h1 h2 => by
      rw [leN_iff] at *
      have := swoN.ntrans c b a (by unfold Go.Proofs.ltOf; rw [decide_eq_false_iff_not]; exact h2) (by unfold Go.Proofs.ltOf; rw [decide_eq_false_iff_not]; exact h1)
      unfold Go.Proofs.ltOf at this
      rw [decide_eq_false_iff_not] at this
      exact this) (fun a b => by
      by_cases h : cfN b a < 0
      · have : leN b a = true := by rw [leN_iff, cf_anti]; omega
        rw [this]; simp
      · have : leN a b = true := by rw [leN_iff]; exact h
        rw [this]; simp) fs
  exact h.imp fun h => (leN_iff _ _).1 h
theorem srt_one {fs gs : List FB} (hp : gs.Perm fs) (ha : Asc gs) (ho : Onc fs) : gs = srtL fs := asc_one (hp.trans (srt_perm fs).symm) ha (srt_asc fs) ((onc_iff hp).2 ho)
/-- the set, and how that went -/
def ofA (fs : List FB) : List FB := if fs.any badB = true then [] else if Onc fs then srtL fs else []
def ofZ (fs : List FB) : Int := if fs.any badB = true then 3 else if Onc fs then 0 else 10
theorem of_rev {fs hs : List FB} (hp : hs.Perm fs) : ofA hs = ofA fs ∧ ofZ hs = ofZ fs := by
  have h1 : hs.any badB = fs.any badB := by
    rw [Bool.eq_iff_iff, List.any_eq_true, List.any_eq_true]
    exact ⟨fun ⟨x, hx, h⟩ => ⟨x, hp.mem_iff.1 hx, h⟩, fun ⟨x, hx, h⟩ => ⟨x, hp.mem_iff.2 hx, h⟩⟩
  have h2 : Onc hs ↔ Onc fs := onc_iff hp
  unfold ofA ofZ
  rw [h1]
  by_cases hb : fs.any badB = true
  · simp [hb]
  · by_cases ho : Onc fs
    · have : srtL hs = srtL fs := srt_one ((srt_perm hs).trans hp) (srt_asc hs) ho
      simp [hb, ho, h2, this]
    · simp [hb, ho, h2]
theorem ofA_mem {fs : List FB} {x : FB} (h : x ∈ ofA fs) : x ∈ fs ∧ badB x = false := by
  unfold ofA at h
  by_cases hb : fs.any badB = true
  · rw [if_pos hb] at h; cases h
  · rw [if_neg hb] at h
    by_cases ho : Onc fs
    · rw [if_pos ho] at h
      have hx := (srt_perm fs).mem_iff.1 h
      refine ⟨hx, ?_⟩
      have hb2 : fs.any badB = false := by simpa using hb
      rw [List.any_eq_false] at hb2
      simpa using hb2 x hx
    · rw [if_neg ho] at h; cases h
theorem ofA_len (fs : List FB) : (ofA fs).length ≤ fs.length := by
  unfold ofA
  split
  · simp
  · split
    · rw [(srt_perm fs).length_eq]; exact Nat.le_refl _
    · simp
theorem bad_vld {x : FB} (h : badB x = false) : vldB x.2.data.toList = true ∧ namB x.1.data.toList = true ∧ valB x.2.data.toList = true := by
  unfold badB at h
  have h1 : namB x.1.data.toList = true := by cases hn : namB x.1.data.toList <;> simp_all
  have h2 : valB x.2.data.toList = true := by cases hn : valB x.2.data.toList <;> simp_all
  refine ⟨?_, h1, h2⟩
  unfold valB at h2
  simp only [Bool.and_eq_true] at h2
  exact h2.2
/-- both ways at once -/
theorem of_uni {fs : List FB} {w : World} {e : Ending} {w' : World} (h : OfQ fs w e w') : ∃ ao cap, Pl ao ∧ e = .returned (.tuple #[.agg #[.slice ao (ofA fs).length cap], .int .i64 (ofZ fs)]) ∧ RdF (.slice ao (ofA fs).length cap) (ofA fs) w' ∧ Below w.heap.size w w' := by
  obtain ⟨hb, h⟩ := h
  rcases h with ⟨h1, rfl⟩ | ⟨h1, h2, rfl⟩ | ⟨h1, h2, ao, cap, gs, hpl, rfl, hp, ha, hr⟩
  · have e1 : ofA fs = [] := by unfold ofA; rw [if_pos h1]
    have e2 : ofZ fs = 3 := by unfold ofZ; rw [if_pos h1]
    rw [e1, e2]
    exact ⟨none, 0, .inl rfl, rfl, ⟨none, 0, rfl, fun h => absurd h (Nat.lt_irrefl _)⟩, hb⟩
  · have e1 : ofA fs = [] := by unfold ofA; rw [if_neg (by rw [h1]; decide), if_neg h2]
    have e2 : ofZ fs = 10 := by unfold ofZ; rw [if_neg (by rw [h1]; decide), if_neg h2]
    rw [e1, e2]
    exact ⟨none, 0, .inl rfl, rfl, ⟨none, 0, rfl, fun h => absurd h (Nat.lt_irrefl _)⟩, hb⟩
  · have e1 : ofA fs = srtL fs := by unfold ofA; rw [if_neg (by rw [h1]; decide), if_pos h2]
    have e2 : ofZ fs = 0 := by unfold ofZ; rw [if_neg (by rw [h1]; decide), if_pos h2]
    obtain rfl := srt_one hp ha h2
    rw [e1, e2, (srt_perm fs).length_eq]
    exact ⟨ao, cap, hpl, rfl, hr, hb⟩
end Go.Proofs.YtcknlnphgndaoaaGreatDoor.Lb
