/- A row of pairs of one's own, sorted by the library's SortFunc with package label's second closure; 'copy' of a row of pairs into one of one's own; no condition but few pairs. -/
import Derived.Test.YtbimncnicioagaaDoorLbP
import Derived.Test.YtbimncnicioagaaDoorLbG
import Derived.Laws.CopyRow
import Derived.Laws.IdiomCopy
namespace Go.Proofs.YtbimncnicioagaaDoor.Lb
open Go.RowKit Go.Sort Go.Lib Go.Shelf
set_option linter.unusedSimpArgs false
set_option linter.unusedVariables false

def encP (x : FB) : List Value := [.string x.1, .string x.2]
def fC (fs : List FB) : List Value := fs.flatMap encP
theorem fC_len (fs : List FB) : (fC fs).length = fs.length * 2 := by
  induction fs with
  | nil => rfl
  | cons x r ih => rw [show fC (x :: r) = encP x ++ fC r from rfl, List.length_append, ih]; simp [encP]; omega
theorem fC_at : ∀ (fs : List FB) (k : Nat) (hk : k < fs.length), (fC fs)[k * 2]? = some (.string fs[k].1) ∧ (fC fs)[k * 2 + 1]? = some (.string fs[k].2)
  | [], k, hk => by simp at hk
  | x :: fs, 0, _ => ⟨rfl, rfl⟩
  | x :: fs, k + 1, hk => by
    have ih := fC_at fs k (by simpa using hk)
    have e : fC (x :: fs) = .string x.1 :: .string x.2 :: fC fs := rfl
    rw [e, show (k + 1) * 2 = k * 2 + 2 by omega]
    exact ih
theorem fC_one (fs : List FB) : ∀ v ∈ fC fs, v.oneCell' = true := fun v hv => by
  obtain ⟨x, _, hx⟩ := List.mem_flatMap.1 hv
  simp [encP] at hx
  rcases hx with rfl | rfl <;> rfl
theorem flat_fC (fs : List FB) (j : Nat) (hj : j < fs.length * 2) : (fC fs)[j]? = some ((flatK encP 2 fs.toArray)[j]!) := by
  have hq : j / 2 < fs.length := by omega
  rw [get_flatK _ _ _ _ (by simpa using hj)]
  have e : fs.toArray[j / 2]! = fs[j / 2] := by rw [getElem!_pos fs.toArray (j / 2) (by simpa using hq)]; simp
  rw [e]
  obtain ⟨h0, h1⟩ := fC_at fs (j / 2) hq
  rcases Nat.mod_two_eq_zero_or_one j with h | h
  · rw [h, show (fC fs)[j]? = (fC fs)[j / 2 * 2]? by congr 1; omega, h0]; rfl
  · rw [h, show (fC fs)[j]? = (fC fs)[j / 2 * 2 + 1]? by congr 1; omega, h1]; rfl
set_option maxRecDepth 100000 in
set_option maxHeartbeats 1000000 in
theorem less_c (x y : FB) (W : World) : Calls Tryd.prog 34 #[.agg #[.string x.1, .string x.2], .agg #[.string y.1, .string y.2]] W fun e w' => e = .returned (.int .i64 (cfN x y)) ∧ ∃ q os', w' = grow (W.drewN q) os' := by
  have hcon := fun W' => Any.strings_Compare Tryd.lays106 x.1 y.1 W'
  change ∀ W', Calls Tryd.prog 35 _ _ _ at hcon
  unfold cfN
  generalize compareBytes x.1.data.toList y.1.data.toList = r at hcon ⊢
  go_enter Tryd.func34, Tryd.ntmps34
  go_wp2_with (go_at_call 35; refine (hcon _).mono ?_; rintro e w' ⟨rfl, rfl⟩)
  go_ret
  exact ⟨rfl, 0, _, by rw [alloc_eq_grow, alloc_eq_grow, grow_grow]; rfl⟩
theorem sortW_below (w : World) (g n : Nat) (d : Array FB) (os : Array Obj) (hg : g < w.heap.size) : Below g w (sortWorldK encP 2 w g 0 n d os) := by
  refine ⟨rfl, rfl, rfl, size_sortWorldK_c encP 2 w g 0 n d os, fun k hk => ?_⟩
  have h1 : (sortWorldK encP 2 w g 0 n d os).heap = (w.heap.modify g (onCells (putCells id 0 (flatK encP 2 d)))) ++ os := rfl
  rw [h1]
  have hs : k < w.heap.size := by omega
  rw [Array.getElem?_append_left (by simpa using hs), Array.getElem?_modify, if_neg (by omega)]
theorem info2 : (Tryd.prog.info? 58).map (fun i => (i.zero, i.size, i.bytes)) = some (some (.agg #[.string ⟨#[]⟩, .string ⟨#[]⟩]), 2, 32) := by kernel_rfl
set_option maxHeartbeats 1000000 in
theorem sort_c (g cap : Nat) (fs : List FB) (w : World) (h : w.heap[g]? = some (.cells (fC fs).toArray 58 (0, 0))) (hm : fs.length ≤ 1000) :
    Calls Tryd.prog 33 #[.slice (some ⟨g, 0, none⟩) fs.length cap, .func (.func 34) #[] #[]] w fun e w' => e = .returned (.tuple #[]) ∧ ∃ gs, gs.Perm fs ∧ Asc gs ∧ RdF (.slice (some ⟨g, 0, none⟩) fs.length cap) gs w' ∧ Below g w w' := by
  have hg : g < w.heap.size := (Array.getElem?_eq_some_iff.1 h).1
  have eg : ∀ args w, (callFunc 34 args).run Tryd.prog w = .ok (.enter 34 args) w := enters_of Tryd.func34 (by kernel_rfl) rfl
  have hH : HoldsK encP 2 w g 0 fs.toArray := fun j hj => by
    have hj' : j < fs.length * 2 := by simpa using hj
    rw [Nat.zero_add]
    refine ⟨?_, by simp [World.frozen?, h]⟩
    rw [cell_of_row _ _ j _ _ _ h, List.getElem?_toArray]
    exact flat_fC fs j hj'
  have hcon := AnyQ.slices_SortFunc Tryd.sortP 2 Tryd.isAgg58 Tryd.sizeOf58 encP (fun _ => rfl) (fun x v hv => by simp [encP] at hv; rcases hv with rfl | rfl <;> rfl) cfN swoN 34 #[] g 0 cap fs.toArray w eg (fun m os dk _ x y => less_c x y _) hH hg (by simp; omega)
  change Calls Tryd.prog 33 _ _ _ at hcon
  have e1 : fs.toArray.size = fs.length := by simp
  rw [e1] at hcon
  refine hcon.mono ?_
  rintro e w' ⟨he, d', n, os, hp, hs, hw⟩
  have hz : d'.size = fs.length := by rw [hp.1]; simp
  have hpm : d'.toList.Perm fs := by
    have := perm_of (d := fs.toArray) (d' := d') (by rw [e1]; exact hp)
    simpa using this
  refine ⟨he, d'.toList, hpm, asc_of (d := fs.toArray) (by rw [e1]; exact hs) (by rw [e1]; exact hz), ?_, hw ▸ sortW_below w g n d' os hg⟩
  refine ⟨some ⟨g, 0, none⟩, cap, by rw [show d'.toList.length = fs.length by rw [Array.length_toList, hz]], fun _ => ⟨g, 0, rfl, ?_, fun i hi => ?_⟩⟩
  · rw [hw]; exact Nat.lt_of_lt_of_le hg (size_sortWorldK_c encP 2 w g 0 n d' os)
  · have hH2 := holdsK_sortWorldK_c encP 2 w g 0 fs.toArray d' n os hH hg (by rw [e1]; exact hz)
    have hi' : i < d'.size := by simpa using hi
    have c0 := (hH2.cell hi' (c := 0) (by decide)).1
    have c1 := (hH2.cell hi' (c := 1) (by decide)).1
    rw [← hw] at c0 c1
    rw [getElem!_pos d' i hi'] at c0 c1
    have e2 : d'.toList[i] = d'[i] := by simp
    rw [e2]
    exact ⟨c0, c1⟩
/-- a row of pairs goes over -/
theorem run_copy_pairs (w : World) (dT sT ty : TypeId) (g dCap : Nat) (ao : Option Addr) (sCap : Nat) (fs : List FB) (cur : Array Value) (t : TypeId)
    (hu : Tryd.prog.underlying dT = some (.slice 58)) (hg : w.heap[g]? = some (.cells cur t (0, 0))) (hcz : cur.size = fs.length * 2)
    (hsrc : 0 < fs.length → ∃ b off, ao = some ⟨b, off, none⟩ ∧ ∀ i (hi : i < fs.length), w.cell? ⟨b, off + i * 2, none⟩ = some (.string fs[i].1) ∧ w.cell? ⟨b, off + i * 2 + 1, none⟩ = some (.string fs[i].2)) :
    (Builtin.copy_ #[dT, sT] ty #[.slice (some ⟨g, 0, none⟩) fs.length dCap, .slice ao fs.length sCap]).run Tryd.prog w = .ok (goInt fs.length) (w.setRow g (fC fs).toArray) := by
  obtain ⟨i, hi, _, hi2, _⟩ := info_parts info2
  by_cases h0 : fs = []
  · subst h0
    have hc0 : cur = #[] := Array.eq_empty_of_size_eq_zero (by simpa using hcz)
    subst hc0
    have hl : ∀ (x : Addr), (loadCells x 0).run Tryd.prog w = .ok #[] w := fun x => by simpa using run_loadCells_list (P := Tryd.prog) w x [] (by simp)
    have hself := setRow_self w g #[] t (0, 0) hg
    cases ao <;> simp [Builtin.copy_, run_underlying hu, Builtin.lenOf, Builtin.firstCells, sizeOf, typeInfo, hi, storeCells, hl, fC, hself]
  · have hpos : 0 < fs.length := by
      cases fs with
      | nil => exact absurd rfl h0
      | cons => simp
    obtain ⟨b, off, rfl, hat⟩ := hsrc hpos
    have hs : ∀ j v, (fC fs)[j]? = some v → w.cell? ((⟨b, off, none⟩ : Addr).add j) = some v := fun j v hv => by
      have hj : j < fs.length * 2 := by
        rcases Nat.lt_or_ge j (fs.length * 2) with h | h
        · exact h
        · rw [List.getElem?_eq_none (by rw [fC_len]; exact h)] at hv; cases hv
      have ea : (⟨b, off, none⟩ : Addr).add j = ⟨b, off + j, none⟩ := by unfold Addr.add; split <;> simp_all
      rw [ea]
      have hq : j / 2 < fs.length := by omega
      obtain ⟨a0, a1⟩ := fC_at fs (j / 2) hq
      obtain ⟨b0, b1⟩ := hat (j / 2) hq
      rcases Nat.mod_two_eq_zero_or_one j with h | h
      · have ej : j = j / 2 * 2 := by omega
        rw [ej] at hv ⊢
        rw [b0, ← a0, hv]
      · have ej : j = j / 2 * 2 + 1 := by omega
        rw [ej] at hv ⊢
        rw [← Nat.add_assoc, b1, ← a1, hv]
    have hl := run_loadCells_list (P := Tryd.prog) w ⟨b, off, none⟩ (fC fs) hs
    have hst := run_storeCells_at Tryd.prog g 0 t (fC fs) 0 cur w hg (by rw [fC_len, hcz]; omega) (fC_one fs)
    have e3 : (List.take (0 + 0) cur.toList ++ fC fs ++ List.drop (0 + 0 + (fC fs).length) cur.toList) = fC fs := by
      rw [List.drop_of_length_le (by rw [Array.length_toList, fC_len]; omega)]; simp
    rw [e3] at hst
    rw [fC_len] at hl
    simp [Builtin.copy_, run_underlying hu, Builtin.lenOf, Builtin.firstCells, sizeOf, typeInfo, hi, hi2, hl, hst]
theorem wpList_copy_pairs {w : World} {ops : Array Oper} {rest : List Oper} {o : Oper} {a : Act} {Q : Exit → Act → World → Prop} (hgd : o.guard = none) (d s : Operand) (dT sT : TypeId)
    (ho : o.op = .call { callee := .builtin .copy, args := #[d, s], argTypes := #[dT, sT] }) (hu : Tryd.prog.underlying dT = some (.slice 58))
    (g dCap : Nat) (ao : Option Addr) (sCap : Nat) (fs : List FB) (hd : a.eval d = .slice (some ⟨g, 0, none⟩) fs.length dCap) (hs : a.eval s = .slice ao fs.length sCap)
    (cur : Array Value) (t : TypeId) (hg : w.heap[g]? = some (.cells cur t (0, 0))) (hcz : cur.size = fs.length * 2)
    (hsrc : 0 < fs.length → ∃ b off, ao = some ⟨b, off, none⟩ ∧ ∀ i (hi : i < fs.length), w.cell? ⟨b, off + i * 2, none⟩ = some (.string fs[i].1) ∧ w.cell? ⟨b, off + i * 2 + 1, none⟩ = some (.string fs[i].2))
    (h : wpList Tryd.prog ops Q rest (a.put o.dst (goInt fs.length)) (w.setRow g (fC fs).toArray)) : wpList Tryd.prog ops Q (o :: rest) a w := by
  refine wpList_plain hgd fun K hK => ?_
  have hrun := run_copy_pairs w dT sT o.type g dCap ao sCap fs cur t hu hg hcz hsrc
  unfold Oper.wp
  simp [execOp, ho, resolve, invoke, builtin, hd, hs, hrun, Result.andThen]
  exact hK _ _ h
end Go.Proofs.YtbimncnicioagaaDoor.Lb
