/- Contracts of walk, Valid, Bad and Count of package utf, and of the document's own Walk: for every text of at most a thousand bytes; where the tables lie as the program's text lays them. -/
import Derived.Test.YtkphainopofejaaDoorUtNextR
import Derived.Laws.IdiomStrings
import Derived.Lib.IndexBytes
namespace Go.Proofs.YtkphainopofejaaDoor.Ut
open Go.RowKit
set_option linter.unusedSimpArgs false
set_option linter.unusedVariables false

/-- a text's bytes as numbers -/
def nums (s : ByteArray) : List Int := s.data.toList.map (fun b => (b.toNat : Int))
theorem nums_len (s : ByteArray) : (nums s).length = s.size := by unfold nums; rw [List.length_map, ← Lib.size_eq]
theorem nums_byt (s : ByteArray) : Byt (nums s) := by
  intro z hz
  obtain ⟨b, _, rfl⟩ := List.mem_map.1 hz
  have := b.toNat_lt
  omega
theorem nums_ext (s : ByteArray) (a b : Nat) : nums (s.extract a b) = ((nums s).drop a).take (b - a) := by
  unfold nums; rw [Lib.extract_data, List.map_take, List.map_drop]
theorem bytes_conv (s : ByteArray) (w : World) : ∃ cap W0, (convert 9 118 (.string s)).run Tryd.prog w = .ok (.slice (some ⟨w.heap.size, 0, none⟩) s.size cap) W0 ∧ s.size ≤ cap ∧ (s.size ≤ 1000 → cap ≤ maxLen) ∧ Sl W0 (some ⟨w.heap.size, 0, none⟩) (nums s) ∧ Below w.heap.size w W0 := by
  refine ⟨_, _, run_bytes_of_string w 9 118 5 s Tryd.underlying9 Tryd.underlying118 Tryd.underlying5, grownCap_ge w s.size 0 5, fun h => grownCap_le_maxLen w s.size 0 5 (by unfold maxLen; omega), ?_, ((Below.refl _ _).drew).alloc (Nat.le_refl _) _⟩
  intro _
  refine ⟨_, 0, rfl, by show w.heap.size < (w.drew.alloc _).heap.size; simp, fun j hj => ?_⟩
  have hj' : j < s.size := by rw [nums_len] at hj; exact hj
  have e1 : w.heap.size = w.drew.heap.size := rfl
  rw [Nat.zero_add, e1, World.cell?_alloc_mark, bytesRow_at s _ j hj']
  simp [nums]

/-- only the first four bytes matter -/
theorem gd_take (zs : List Int) (j : Nat) (h : j < 4) : gd (zs.take 4) j = gd zs j := by unfold gd; simp [List.getD, List.getElem?_take, h]
theorem nextR_take (zs : List Int) : nextR (zs.take 4) = nextR zs := by
  have h4 := szI_le (gd zs 0)
  have e0 : gd (zs.take 4) 0 = gd zs 0 := gd_take zs 0 (by omega)
  have hl : (zs.take 4).length = min 4 zs.length := List.length_take
  have hm : min (zs.take 4).length (szI (gd zs 0)) = min zs.length (szI (gd zs 0)) := by omega
  have hlt : ((zs.take 4).length < szI (gd zs 0)) ↔ (zs.length < szI (gd zs 0)) := by omega
  have hoa : ∀ j, j < 4 → (okAt (zs.take 4) j ↔ okAt zs j) := fun j hj => by
    unfold okAt
    rw [e0, gd_take zs j hj, gd_take zs 1 (by omega)]
  have hok : okTo (zs.take 4) (min zs.length (szI (gd zs 0))) ↔ okTo zs (min zs.length (szI (gd zs 0))) :=
    ⟨fun h j hj h1 => (hoa j (by omega)).1 (h j hj h1), fun h j hj h1 => (hoa j (by omega)).2 (h j hj h1)⟩
  have hv : valT (zs.take 4) (szI (gd zs 0)) = valT zs (szI (gd zs 0)) := by
    unfold valT
    rw [e0, gd_take zs 1 (by omega), gd_take zs 2 (by omega), gd_take zs 3 (by omega)]
  unfold nextR
  rw [e0, hm, hv]
  simp only [hok, hlt]
theorem nextW_take (zs : List Int) : nextW (zs.take 4) = nextW zs := by
  unfold nextW
  by_cases h : zs = []
  · subst h; rfl
  · have : zs.take 4 ≠ [] := fun e => by
      have h2 := congrArg List.length e
      rw [List.length_take, List.length_nil] at h2
      have h3 := List.length_pos_iff.2 h
      omega
    rw [if_neg h, if_neg this, nextR_take]
theorem nextW_k (zs : List Int) : (nextW zs).2 ≤ zs.length ∧ (nextW zs).2 ≤ 4 ∧ -1 ≤ (nextW zs).2 := by
  unfold nextW nextR
  have h4 := szI_le (gd zs 0)
  (repeat' split) <;> simp <;> omega
theorem next_key (zs : List Int) (hy : Byt zs) : (zs = [] ∧ nextE zs = tup3 0 0 6 ∧ nextW zs = (0, 0)) ∨ (zs ≠ [] ∧ nextE zs = tup3 0 0 11 ∧ nextW zs = (0, -1)) ∨ (zs ≠ [] ∧ nextE zs = tup3 0 0 3 ∧ nextW zs = (0, 0)) ∨
    (zs ≠ [] ∧ ∃ v k : Int, nextE zs = tup3 v k 0 ∧ nextW zs = (v, k) ∧ 1 ≤ k ∧ 0 ≤ v ∧ v ≤ 1114111) := by
  by_cases hz : zs = []
  · subst hz; exact .inl ⟨rfl, rfl, rfl⟩
  · have hE : nextE zs = if (nextR zs).2 = -1 then tup3 0 0 11 else if (nextR zs).2 = 0 then tup3 0 0 3 else tup3 (nextR zs).1 (nextR zs).2 0 := by unfold nextE; rw [if_neg hz]
    have hW : nextW zs = nextR zs := by unfold nextW; rw [if_neg hz]
    rw [hE, hW]
    have h4 := szI_le (gd zs 0)
    by_cases hs : szI (gd zs 0) = 0
    · have hR : nextR zs = (0, 0) := by unfold nextR; rw [if_pos hs]
      rw [hR]; exact .inr (.inr (.inl ⟨hz, rfl, rfl⟩))
    · by_cases hok : okTo zs (min zs.length (szI (gd zs 0)))
      · by_cases hl : zs.length < szI (gd zs 0)
        · have hR : nextR zs = (0, -1) := by unfold nextR; rw [if_neg hs, if_pos hok, if_pos hl]
          rw [hR]; exact .inr (.inl ⟨hz, rfl, rfl⟩)
        · have hR : nextR zs = (valT zs (szI (gd zs 0)), (szI (gd zs 0) : Int)) := by unfold nextR; rw [if_neg hs, if_pos hok, if_neg hl]
          rw [show min zs.length (szI (gd zs 0)) = szI (gd zs 0) by omega] at hok
          have he := (enc_iff zs _ hy (by omega) h4 (by omega)).2 ⟨rfl, hok⟩
          have hr := (isR_iff _).1 he.1
          rw [hR]
          refine .inr (.inr (.inr ⟨hz, _, _, ?_, rfl, by omega, hr.1, hr.2.1⟩))
          show (if ((szI (gd zs 0) : Nat) : Int) = -1 then tup3 0 0 11 else if ((szI (gd zs 0) : Nat) : Int) = 0 then tup3 0 0 3 else tup3 (valT zs (szI (gd zs 0))) (szI (gd zs 0)) 0) = _
          rw [if_neg (show ¬ ((szI (gd zs 0) : Nat) : Int) = -1 by omega), if_neg (show ¬ ((szI (gd zs 0) : Nat) : Int) = 0 by omega)]
      · have hR : nextR zs = (0, 0) := by unfold nextR; rw [if_neg hs, if_neg hok]
        rw [hR]; exact .inr (.inr (.inl ⟨hz, rfl, rfl⟩))


/-- the walk: how many runes, and where they end; f: how many steps at most -/
def walkP (l : List Int) : Nat → Nat → Nat → Nat × Nat
  | 0, n, p => (n, p)
  | f + 1, n, p => if p < l.length ∧ 0 < (nextW (l.drop p)).2 then walkP l f (n + 1) (p + (nextW (l.drop p)).2.toNat) else (n, p)
def walkL (l : List Int) : Nat × Nat := walkP l l.length 0 0
theorem walkP_stop {l : List Int} {f n p : Nat} (h : ¬ (p < l.length ∧ 0 < (nextW (l.drop p)).2)) : walkP l f n p = (n, p) := by
  cases f with
  | zero => rfl
  | succ f => unfold walkP; rw [if_neg h]
theorem walkP_go {l : List Int} {f n p : Nat} (h : p < l.length) (hk : 0 < (nextW (l.drop p)).2) (hf : l.length ≤ p + f) : ∃ f', walkP l f n p = walkP l f' (n + 1) (p + (nextW (l.drop p)).2.toNat) ∧ l.length ≤ p + (nextW (l.drop p)).2.toNat + f' ∧ p + (nextW (l.drop p)).2.toNat ≤ l.length := by
  obtain ⟨f', rfl⟩ : ∃ f', f = f' + 1 := ⟨f - 1, by omega⟩
  have hb := nextW_k (l.drop p)
  rw [List.length_drop] at hb
  refine ⟨f', ?_, by omega, by omega⟩
  conv => lhs; unfold walkP
  rw [if_pos ⟨h, hk⟩]
/-- what both loops keep -/
def WRel (l : List Int) (w : World) (vn vp : Value) (wr : World) : Prop := ∃ n p f : Nat, vn = .int .i64 n ∧ vp = .int .i64 p ∧ p ≤ l.length ∧ n ≤ p ∧ l.length ≤ p + f ∧ walkP l f n p = walkL l ∧ Below w.heap.size w wr

end Go.Proofs.YtkphainopofejaaDoor.Ut
