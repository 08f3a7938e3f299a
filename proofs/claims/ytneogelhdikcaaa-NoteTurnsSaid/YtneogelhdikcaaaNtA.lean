/- Groups that fire, and entries, plain: texts among rising ones, what is to be told of a step; rows of cells; no condition. -/
import Derived.Test.YtneogelhdikcaaaRows
import Derived.WalkKit
import Derived.WalkSpells
import Derived.Lib.Hide
import Derived.Laws.AppendOwn
import Derived.OwnWalk
namespace Go.Proofs.Ytneogelhdikcaaa.Nt
open Go.RowKit
set_option linter.unusedSimpArgs false
set_option linter.unusedVariables false

abbrev Tx := List UInt8
def mkS (l : Tx) : ByteArray := ⟨l.toArray⟩
theorem mkS_data (l : Tx) : (mkS l).data.toList = l := rfl
theorem mkS_eta (s : ByteArray) : mkS s.data.toList = s := rfl
theorem mkS_inj {a b : Tx} (h : mkS a = mkS b) : a = b := by rw [← mkS_data a, h, mkS_data]
/-- an entry: number, revision, group, does it fire? -/
abbrev Ent := Int × Int × Tx × Bool
def encE (x : Ent) : List Value := [.int .i64 x.1, .int .i64 x.2.1, .string (mkS x.2.2.1), .bool x.2.2.2]
def aggE (x : Ent) : Value := .agg #[.int .i64 x.1, .int .i64 x.2.1, .string (mkS x.2.2.1), .bool x.2.2.2]
def encT (x : Tx) : List Value := [.string (mkS x)]
def eC (l : List Ent) : List Value := l.flatMap encE
def tC (l : List Tx) : List Value := l.map fun x => .string (mkS x)
theorem eC_len (l : List Ent) : (eC l).length = l.length * 4 := by
  induction l with
  | nil => rfl
  | cons x r ih => rw [show eC (x :: r) = encE x ++ eC r from rfl, List.length_append, ih]; simp [encE]; omega
theorem tC_len (l : List Tx) : (tC l).length = l.length := by unfold tC; simp
theorem eC_at : ∀ (l : List Ent) (k : Nat) (hk : k < l.length), (eC l)[k * 4]? = some (.int .i64 l[k].1) ∧ (eC l)[k * 4 + 1]? = some (.int .i64 l[k].2.1) ∧ (eC l)[k * 4 + 2]? = some (.string (mkS l[k].2.2.1)) ∧ (eC l)[k * 4 + 3]? = some (.bool l[k].2.2.2)
  | [], k, hk => by simp at hk
  | x :: l, 0, _ => ⟨rfl, rfl, rfl, rfl⟩
  | x :: l, k + 1, hk => by
    have ih := eC_at l k (by simpa using hk)
    have e : eC (x :: l) = .int .i64 x.1 :: .int .i64 x.2.1 :: .string (mkS x.2.2.1) :: .bool x.2.2.2 :: eC l := rfl
    rw [e, show (k + 1) * 4 = k * 4 + 4 by omega]
    exact ih
theorem tC_at (l : List Tx) (k : Nat) (hk : k < l.length) : (tC l)[k]? = some (.string (mkS l[k])) := by
  unfold tC; rw [List.getElem?_map, List.getElem?_eq_getElem hk]; rfl
theorem eC_app (a b : List Ent) : eC (a ++ b) = eC a ++ eC b := by unfold eC; rw [List.flatMap_append]
theorem tC_app (a b : List Tx) : tC (a ++ b) = tC a ++ tC b := by unfold tC; rw [List.map_append]
theorem eC_snoc (l : List Ent) (x : Ent) : eC (l ++ [x]) = eC l ++ encE x := by rw [eC_app]; simp [eC]
theorem tC_snoc (l : List Tx) (x : Tx) : tC (l ++ [x]) = tC l ++ encT x := by rw [tC_app]; rfl
theorem eC_drop : ∀ (l : List Ent) (k : Nat), eC (l.drop k) = (eC l).drop (k * 4)
  | l, 0 => by simp
  | [], k + 1 => by simp [eC]
  | x :: l, k + 1 => by
    rw [List.drop_succ_cons, eC_drop l k, show (k + 1) * 4 = k * 4 + 4 by omega]
    rfl
theorem tC_drop (l : List Tx) (k : Nat) : tC (l.drop k) = (tC l).drop k := by unfold tC; rw [List.map_drop]
theorem tC_take (l : List Tx) (k : Nat) : tC (l.take k) = (tC l).take k := by unfold tC; rw [List.map_take]
theorem eC_one (l : List Ent) : ∀ v ∈ eC l, v.oneCell' = true := fun v hv => by
  obtain ⟨x, _, hx⟩ := List.mem_flatMap.1 hv
  simp [encE] at hx
  rcases hx with rfl | rfl | rfl | rfl <;> rfl
theorem tC_one (l : List Tx) : ∀ v ∈ tC l, v.oneCell' = true := fun v hv => by
  obtain ⟨x, _, rfl⟩ := List.mem_map.1 hv; rfl
theorem encE_ok (x : Ent) : ∀ u ∈ encE x, u.oneCell' = true := fun u hu => by
  simp [encE] at hu; rcases hu with rfl | rfl | rfl | rfl <;> rfl
theorem encT_ok (x : Tx) : ∀ u ∈ encT x, u.oneCell' = true := fun u hu => by
  simp [encT] at hu; rcases hu with rfl; rfl
/-- a number and a revision of the k-th entry, set -/
theorem eC_set : ∀ (l : List Ent) (k : Nat) (x : Ent) (s r : Int), l[k]? = some x → eC (l.set k (s, r, x.2.2)) = ((eC l).set (k * 4) (.int .i64 s)).set (k * 4 + 1) (.int .i64 r)
  | [], k, x, s, r, h => by simp at h
  | y :: l, 0, x, s, r, h => by
    simp at h; subst h; rfl
  | y :: l, k + 1, x, s, r, h => by
    have ih := eC_set l k x s r (by simpa using h)
    have e : ∀ (a : List Ent), eC (y :: a) = .int .i64 y.1 :: .int .i64 y.2.1 :: .string (mkS y.2.2.1) :: .bool y.2.2.2 :: eC a := fun _ => rfl
    rw [List.set_cons_succ, e, e, ih, show (k + 1) * 4 = k * 4 + 1 + 1 + 1 + 1 by omega, show k * 4 + 1 + 1 + 1 + 1 + 1 = (k * 4 + 1) + 1 + 1 + 1 + 1 by omega]
    rfl
-- the order of texts by their bytes
theorem tlt_trans {a b c : Tx} (h : a < b) (k : b < c) : a < c := List.lt_trans h k
theorem tle_of {a b : Tx} (h : ¬ a < b) : b ≤ a := List.not_lt.1 h
theorem tlt_or {a b : Tx} (h : a ≠ b) : a < b ∨ b < a := by
  by_cases h1 : a < b
  · exact .inl h1
  · by_cases h2 : b < a
    · exact .inr h2
    · exact absurd (List.le_antisymm (tle_of h2) (tle_of h1)) h
theorem tlt_ne {a b : Tx} (h : a < b) : a ≠ b := fun e => List.lt_irrefl _ (e ▸ h)
/-- rising -/
def Asc (l : List Tx) : Prop := l.Pairwise (fun a b => a < b)
theorem Asc.nodup {l : List Tx} (h : Asc l) : l.Nodup := by
  rw [List.nodup_iff_pairwise_ne]; exact h.imp (fun hab => tlt_ne hab)
theorem Asc.ext {l m : List Tx} (h : Asc l) (k : Asc m) (e : ∀ x, x ∈ l ↔ x ∈ m) : l = m :=
  List.Perm.eq_of_pairwise (le := fun a b => a < b) (fun a b _ _ h1 h2 => absurd (tlt_trans h1 h2) (List.lt_irrefl _)) h k ((List.perm_ext_iff_of_nodup h.nodup k.nodup).2 e)
/-- a text among rising ones, once -/
def ins : List Tx → Tx → List Tx
  | [], s => [s]
  | y :: r, s => if y < s then y :: ins r s else if y = s then y :: r else s :: y :: r
theorem mem_ins {s x : Tx} : ∀ {l : List Tx}, x ∈ ins l s ↔ x = s ∨ x ∈ l
  | [] => by simp [ins]
  | y :: r => by
    unfold ins
    split
    · rw [List.mem_cons, mem_ins (l := r), List.mem_cons]
      constructor
      · rintro (h | h | h)
        · exact .inr (.inl h)
        · exact .inl h
        · exact .inr (.inr h)
      · rintro (h | h | h)
        · exact .inr (.inl h)
        · exact .inl h
        · exact .inr (.inr h)
    · split
      · rename_i e
        rw [List.mem_cons]
        constructor
        · exact .inr
        · rintro (h | h)
          · exact .inl (h.trans e.symm)
          · exact h
      · rw [List.mem_cons]
theorem asc_ins {s : Tx} : ∀ {l : List Tx}, Asc l → Asc (ins l s)
  | [], _ => by unfold ins Asc; simp
  | y :: r, h => by
    obtain ⟨h1, h2⟩ := List.pairwise_cons.1 h
    unfold ins
    split
    · rename_i hy
      refine List.pairwise_cons.2 ⟨fun z hz => ?_, asc_ins h2⟩
      rcases mem_ins.1 hz with rfl | hz
      · exact hy
      · exact h1 z hz
    · split
      · exact h
      · rename_i h3 h4
        have hs : s < y := (tlt_or h4).resolve_left h3
        refine List.pairwise_cons.2 ⟨fun z hz => ?_, h⟩
        rcases List.mem_cons.1 hz with rfl | hz
        · exact hs
        · exact tlt_trans hs (h1 z hz)
theorem ins_len (s : Tx) : ∀ (l : List Tx), (ins l s).length ≤ l.length + 1
  | [] => by simp [ins]
  | y :: r => by
    unfold ins
    have := ins_len s r
    split
    · simp; omega
    · split <;> simp
/-- as the document's loop finds its place -/
theorem ins_at {s : Tx} : ∀ {l : List Tx} {k : Nat}, k ≤ l.length → (∀ i (hi : i < l.length), i < k → l[i] < s) → (∀ hk : k < l.length, ¬ l[k] < s) → ins l s = (if h : k < l.length then (if l[k] = s then l else l.take k ++ s :: l.drop k) else l ++ [s])
  | [], k, _, _, _ => by simp [ins]
  | y :: r, 0, _, _, h => by
    have h0 := h (by simp)
    simp only [List.getElem_cons_zero] at h0
    unfold ins
    rw [if_neg h0]
    simp
  | y :: r, k + 1, hk, h1, h2 => by
    have hy : y < s := h1 0 (by simp) (by omega)
    have ih := ins_at (l := r) (k := k) (s := s) (by simpa using hk) (fun i hi hik => by have := h1 (i + 1) (by simpa using hi) (by omega); simpa using this) (fun hk' => by have := h2 (by simpa using hk'); simpa using this)
    unfold ins
    rw [if_pos hy, ih]
    by_cases hl : k < r.length
    · have hl2 : k + 1 < (y :: r).length := by simpa using hl
      rw [dif_pos hl, dif_pos hl2]
      simp only [List.getElem_cons_succ, List.take_succ_cons, List.drop_succ_cons, List.cons_append]
      split <;> rfl
    · have hl2 : ¬ k + 1 < (y :: r).length := by simpa using hl
      rw [dif_neg hl, dif_neg hl2]; rfl
/-- texts, rising, each of them once -/
def inss (l gs : List Tx) : List Tx := gs.foldl ins l
theorem asc_inss {l : List Tx} (h : Asc l) : ∀ (gs : List Tx), Asc (inss l gs) := by
  intro gs
  induction gs generalizing l with
  | nil => exact h
  | cons x gs ih => exact ih (asc_ins h)
theorem mem_inss {x : Tx} : ∀ {gs l : List Tx}, x ∈ inss l gs ↔ x ∈ gs ∨ x ∈ l
  | [], l => by simp [inss]
  | y :: gs, l => by
    have e : inss l (y :: gs) = inss (ins l y) gs := rfl
    rw [e, mem_inss (gs := gs), mem_ins, List.mem_cons]
    constructor
    · rintro (h | h | h)
      · exact .inl (.inr h)
      · exact .inl (.inl h)
      · exact .inr h
    · rintro ((h | h) | h)
      · exact .inr (.inl h)
      · exact .inl h
      · exact .inr (.inr h)
theorem inss_len : ∀ (gs l : List Tx), (inss l gs).length ≤ l.length + gs.length
  | [], l => by simp [inss]
  | y :: gs, l => by
    have e : inss l (y :: gs) = inss (ins l y) gs := rfl
    have h1 := inss_len gs (ins l y)
    have h2 := ins_len y l
    rw [e, List.length_cons]; omega
theorem inss_snoc (l gs : List Tx) (s : Tx) : inss l (gs ++ [s]) = ins (inss l gs) s := by unfold inss; rw [List.foldl_append]; rfl
theorem asc_nil : Asc [] := List.Pairwise.nil
def canon (gs : List Tx) : List Tx := inss [] gs
theorem asc_canon (gs : List Tx) : Asc (canon gs) := asc_inss asc_nil gs
theorem mem_canon {gs : List Tx} {x : Tx} : x ∈ canon gs ↔ x ∈ gs := by unfold canon; rw [mem_inss]; simp
theorem canon_len (gs : List Tx) : (canon gs).length ≤ gs.length := by have := inss_len gs []; simpa [canon] using this
/-- which groups are told of, and whether each fires -/
def dif (now old : List Tx) (g : Tx) : Bool := decide (g ∈ now) != decide (g ∈ old)
def told (now old : List Tx) : List (Tx × Bool) := ((inss now old).filter (dif now old)).map fun g => (g, decide (g ∈ now))
/-- entries: the numbers behind n, a revision -/
def nums (rev : Int) : Nat → List (Tx × Bool) → List Ent
  | _, [] => []
  | n, x :: r => ((n : Int) + 1, rev, x.1, x.2) :: nums rev (n + 1) r
theorem nums_len (rev : Int) : ∀ (n : Nat) (l : List (Tx × Bool)), (nums rev n l).length = l.length
  | _, [] => rfl
  | n, x :: r => by unfold nums; rw [List.length_cons, List.length_cons, nums_len rev (n + 1) r]
theorem nums_app (rev : Int) : ∀ (n : Nat) (l m : List (Tx × Bool)), nums rev n (l ++ m) = nums rev n l ++ nums rev (n + l.length) m
  | n, [], m => by simp [nums]
  | n, x :: r, m => by
    rw [List.cons_append, nums, nums, nums_app rev (n + 1) r m, List.cons_append, List.length_cons, show n + 1 + r.length = n + (r.length + 1) by omega]
theorem nums_at (rev : Int) : ∀ (n : Nat) (l : List (Tx × Bool)) (k : Nat) (hk : k < l.length), (nums rev n l)[k]? = some ((n : Int) + (k : Int) + 1, rev, l[k].1, l[k].2)
  | n, [], k, hk => by simp at hk
  | n, x :: r, 0, _ => by simp [nums]
  | n, x :: r, k + 1, hk => by
    rw [nums, List.getElem?_cons_succ, nums_at rev (n + 1) r k (by simpa using hk)]
    simp only [List.getElem_cons_succ, Option.some.injEq, Prod.mk.injEq, and_true]
    omega
/-- entries without a number -/
def bare (l : List (Tx × Bool)) : List Ent := l.map fun x => (0, 0, x.1, x.2)
theorem bare_len (l : List (Tx × Bool)) : (bare l).length = l.length := by unfold bare; simp
/-- all that was ever told, behind a step -/
def stepE (all : List Ent) (now : List Tx) (rev : Int) (gs : List Tx) : List Ent := all ++ nums rev all.length (told (canon gs) now)
/-- rising by their groups -/
def AscG (l : List (Tx × Bool)) : Prop := l.Pairwise (fun a b => a.1 < b.1)
theorem told_asc {now old : List Tx} (h : Asc now) : AscG (told now old) := by
  unfold told AscG
  rw [List.pairwise_map]
  exact (asc_inss h old).filter _
theorem mem_told {now old : List Tx} {x : Tx × Bool} : x ∈ told now old ↔ (x.1 ∈ now ∧ x.1 ∉ old ∧ x.2 = true) ∨ (x.1 ∈ old ∧ x.1 ∉ now ∧ x.2 = false) := by
  obtain ⟨g, f⟩ := x
  unfold told
  rw [List.mem_map]
  simp only [List.mem_filter, mem_inss, dif]
  constructor
  · rintro ⟨a, ⟨h1, h2⟩, e⟩
    injection e with e1 e2
    subst e1
    by_cases hn : a ∈ now
    · by_cases ho : a ∈ old
      · simp [hn, ho] at h2
      · exact .inl ⟨hn, ho, by rw [← e2]; simpa using hn⟩
    · by_cases ho : a ∈ old
      · exact .inr ⟨ho, hn, by rw [← e2]; simpa using hn⟩
      · simp [hn, ho] at h2
  · rintro (⟨h1, h2, rfl⟩ | ⟨h1, h2, rfl⟩)
    · exact ⟨g, ⟨.inr h1, by simp [h1, h2]⟩, by simp [h1]⟩
    · exact ⟨g, ⟨.inl h1, by simp [h1, h2]⟩, by simp [h2]⟩
theorem AscG.ext {l m : List (Tx × Bool)} (h : AscG l) (k : AscG m) (e : ∀ x, x ∈ l ↔ x ∈ m) : l = m := by
  have nd : ∀ {l : List (Tx × Bool)}, AscG l → l.Nodup := fun h => by
    rw [List.nodup_iff_pairwise_ne]; exact h.imp (fun hab e => tlt_ne hab (congrArg Prod.fst e))
  exact List.Perm.eq_of_pairwise (le := fun (a b : Tx × Bool) => a.1 < b.1) (fun a b _ _ h1 h2 => absurd (tlt_trans h1 h2) (List.lt_irrefl _)) h k ((List.perm_ext_iff_of_nodup (nd h) (nd k)).2 e)
/-- those that the one has, and the other has not, as the code lists them -/
def IsOnly (a b : List Tx) (f : Bool) (l : List (Tx × Bool)) : Prop := (l.map (·.1)).Nodup ∧ ∀ x, x ∈ l ↔ x.1 ∈ a ∧ x.1 ∉ b ∧ x.2 = f
/-- listed, and sorted: what is told -/
theorem told_of {now old : List Tx} {l m s : List (Tx × Bool)} (hn : Asc now) (hl : IsOnly now old true l) (hm : IsOnly old now false m) (hp : s.Perm (l ++ m)) (hs : s.Pairwise (fun a b => ¬ b.1 < a.1)) : s = told now old := by
  have hnd : ((l ++ m).map (·.1)).Nodup := by
    rw [List.map_append, List.nodup_append]
    refine ⟨hl.1, hm.1, fun x hx y hy e => ?_⟩
    obtain ⟨p, hp, rfl⟩ := List.mem_map.1 hx
    obtain ⟨q, hq, rfl⟩ := List.mem_map.1 hy
    have h1 := (hl.2 p).1 hp
    have h2 := (hm.2 q).1 hq
    exact h2.2.1 (e ▸ h1.1)
  have hnd2 : (s.map (·.1)).Nodup := (hp.map _).nodup_iff.2 hnd
  have hasc : AscG s := by
    rw [List.nodup_iff_pairwise_ne, List.pairwise_map] at hnd2
    exact (hs.and hnd2).imp (fun {a b} h => (tlt_or h.2).resolve_right h.1)
  refine hasc.ext (told_asc hn) (fun x => ?_)
  rw [hp.mem_iff, List.mem_append, hl.2, hm.2, mem_told]
theorem told_len {now old : List Tx} : (told now old).length ≤ now.length + old.length := by
  unfold told
  rw [List.length_map]
  exact Nat.le_trans (List.length_filter_le _ _) (inss_len _ _)
end Go.Proofs.Ytneogelhdikcaaa.Nt
