/- The contract of package etag's Parse: for every text of at most a thousand bytes. -/
import Derived.Test.YtojmjdgapfcjfaaDoorEtPar
import Derived.Deep.Onto
namespace Go.Proofs.YtojmjdgapfcjfaaDoor.Et
open Go.RowKit Ch
set_option linter.unusedSimpArgs false
set_option linter.unusedVariables false

/-- which list a text is: any, its marks -/
def prsL (l : List UInt8) : Option (Bool × List TagL) := if trimL l = [42] then some (true, []) else match mrkF (l.length + 1) l [] with
  | some (t :: ts) => some (false, t :: ts)
  | _ => none
def anyQ (q : Option (Bool × List TagL)) : Bool := match q with | some x => x.1 | none => false
def tagQ (q : Option (Bool × List TagL)) : List TagL := match q with | some x => x.2 | none => []
def PaQ (T : TypeId) (q : Option (Bool × List TagL)) (w : World) (e : Ending) (w' : World) : Prop := ∃ ao n c, e = .returned (.tuple #[.agg #[.bool (anyQ q), .slice ao n c], .int .i64 (erN q.isSome)]) ∧ OwT T w.heap.size (.slice ao n c) (tagQ q) w' ∧ Below w.heap.size w w'
theorem prs_any {l : List UInt8} (h : trimL l = [42]) : prsL l = some (true, []) := by unfold prsL; rw [if_pos h]
theorem prs_no {l : List UInt8} (h : ¬ trimL l = [42]) (hm : okM (mrkF (l.length + 1) l []) = false) : prsL l = none := by
  unfold prsL
  rw [if_neg h]
  cases hq : mrkF (l.length + 1) l [] with
  | none => rfl
  | some a => cases a with
    | nil => rfl
    | cons => rw [hq] at hm; simp [okM] at hm
theorem prs_some {l : List UInt8} (h : ¬ trimL l = [42]) (hm : okM (mrkF (l.length + 1) l []) = true) : ∃ acc, mrkF (l.length + 1) l [] = some acc ∧ acc ≠ [] ∧ prsL l = some (false, acc) := by
  unfold prsL
  rw [if_neg h]
  cases hq : mrkF (l.length + 1) l [] with
  | none => rw [hq] at hm; simp [okM] at hm
  | some a => cases a with
    | nil => rw [hq] at hm; simp [okM] at hm
    | cons x y => exact ⟨_, rfl, by simp, rfl⟩
theorem star_eq (l : List UInt8) : ((mkS l).toList == [42]) = decide (l = [42]) := by
  rw [Lib.toList_data, data_mkS]
  by_cases h : l = [42] <;> simp [h]
theorem OwT.mono {T : TypeId} {B B' : Nat} {v : Value} {ts : List TagL} {w : World} (h : OwT T B v ts w) (hB : B' ≤ B) : OwT T B' v ts w := World.ownsRow.mono h hB
theorem OwT.set {T : TypeId} {B : Nat} {v : Value} {ts : List TagL} {w : World} (h : OwT T B v ts w) {p : Addr} (hp : p.block < B) (u : Value) : OwT T B v ts (w.setCell p u) := by
  refine ⟨h.1, h.2.imp id ?_⟩
  rintro ⟨g, cap, cur, hv, hB, hg, hr⟩
  refine ⟨g, cap, cur, hv, hB, ?_, hr⟩
  have hne : ¬ p.block = g := by omega
  simp [World.setCell, Array.getElem?_modify, hne, hg]
set_option maxRecDepth 100000 in
set_option maxHeartbeats 2000000 in
theorem Parse_c (s : ByteArray) (w : World) (hs : s.size ≤ 1000) : Calls Tryd.prog 15 #[.string s] w (PaQ 28 (prsL s.data.toList) w) := by
  have HT := Lib.hid (fun W => trim_c s W (by unfold maxLen; omega))
  have HM := Lib.hid (fun W => marks_c s W hs)
  rw [Lib.size_eq] at HM
  have hst := star_eq (trimL s.data.toList)
  have hsz : ∀ o, (w.alloc o).heap.size = w.heap.size + 1 := fun o => by simp
  by_cases h : trimL s.data.toList = [42]
  · rw [decide_eq_true h] at hst
    rw [prs_any h]
    clear h HM
    revert HT hst
    generalize mkS (trimL s.data.toList) = t
    intro HT hst
    have HK := Lib.hid (heap_alloc_new w (.cells #[.bool false, .slice none 0 0] 39))
    have HB : Hid (Below w.heap.size w (w.alloc (.cells #[.bool false, .slice none 0 0] 39))) := (Below.refl w.heap.size w).alloc (Nat.le_refl _) _
    go_enter Tryd.func15, Tryd.ntmps15
    go_wp2_with fail
    refine (HT.out _).mono ?_
    rintro e w1 ⟨rfl, hw⟩
    rw [← hw]; clear hw
    revert HK HB
    generalize w.alloc (.cells #[.bool false, .slice none 0 0] 39) = wn
    intro HK HB
    have c0 := cell_of_row _ _ 0 _ _ _ HK.out
    have c1 := cell_of_row _ _ 1 _ _ _ HK.out
    have z0 := frz2 HK.out 0
    have z1 := frz2 HK.out 1
    go_wp2
    have H2 := set2 HK.out (.bool true) (.slice none 0 0)
    have d0 := cell_of_row _ _ 0 _ _ _ H2
    have d1 := cell_of_row _ _ 1 _ _ _ H2
    clear c0 c1 z0 z1
    refine bodyPost_ret (v := .tuple #[.agg #[.bool true, .slice none 0 0], .int .i64 0]) (by simp [results, Tryd.results15, go_sem, d0, d1]) rfl ⟨none, 0, 0, rfl, World.ownsRow_nil _ _ _ _, ?_⟩
    exact (HB.out.setCell (p := ⟨w.heap.size, 0, none⟩) (Nat.le_refl _) _).setCell (p := ⟨w.heap.size, 1, none⟩) (Nat.le_refl _) _
  · rw [decide_eq_false h] at hst
    have HNO := Lib.hid (fun hm => prs_no h hm)
    have HYES := Lib.hid (fun hm => prs_some h hm)
    clear h
    revert HT hst HM HNO HYES
    generalize mkS (trimL s.data.toList) = t
    generalize mrkF (s.data.toList.length + 1) s.data.toList [] = q
    generalize prsL s.data.toList = pq
    intro HT HM hst HNO HYES
    have HKO : Hid (∀ {w2 : World}, Below (w.heap.size + 1) (w.alloc (.cells #[.bool false, .slice none 0 0] 39)) w2 → w2.heap[w.heap.size]? = some (.cells #[.bool false, .slice none 0 0] 39 (0, 0))) := fun hb => (hb.block w.heap.size (by omega)).trans (heap_alloc_new w _)
    go_enter Tryd.func15, Tryd.ntmps15
    go_wp2_with fail
    refine (HT.out _).mono ?_
    rintro e w1 ⟨rfl, hw⟩
    rw [← hw]; clear hw HT
    go_wp2_with fail
    refine (HM.out _).mono ?_
    rintro e w2 ⟨ao, n, c, rfl, hown, hb2⟩
    rw [hsz] at hb2 hown
    have HK := Lib.hid (HKO.out hb2)
    have HB := Lib.hid (res_bel0 hb2)
    have HOW := Lib.hid hown
    clear hb2 hown HKO
    have c0 := cell_of_row _ _ 0 _ _ _ HK.out
    have c1 := cell_of_row _ _ 1 _ _ _ HK.out
    have z0 := frz2 HK.out 0
    have z1 := frz2 HK.out 1
    cases hok : okM q with
    | false =>
      have hp := HNO.out hok
      subst hp
      clear hok HYES HNO
      go_wp2
      have H2 := set2 HK.out (.bool false) (.slice none 0 0)
      have d0 := cell_of_row _ _ 0 _ _ _ H2
      have d1 := cell_of_row _ _ 1 _ _ _ H2
      clear c0 c1 z0 z1
      refine bodyPost_ret (v := .tuple #[.agg #[.bool false, .slice none 0 0], .int .i64 3]) (by simp [results, Tryd.results15, go_sem, d0, d1]) rfl ⟨none, 0, 0, rfl, World.ownsRow_nil _ _ _ _, ?_⟩
      exact (HB.out.setCell (p := ⟨w.heap.size, 0, none⟩) (Nat.le_refl _) _).setCell (p := ⟨w.heap.size, 1, none⟩) (Nat.le_refl _) _
    | true =>
      obtain ⟨acc, h1, h2, h3⟩ := HYES.out hok
      subst h3
      have HO2 := Lib.hid (HOW.out acc h1 h2)
      clear hok HYES HNO h1 h2
      go_wp2
      have H2 := set2 HK.out (.bool false) (.slice ao n c)
      have d0 := cell_of_row _ _ 0 _ _ _ H2
      have d1 := cell_of_row _ _ 1 _ _ _ H2
      clear c0 c1 z0 z1
      refine bodyPost_ret (v := .tuple #[.agg #[.bool false, .slice ao n c], .int .i64 0]) (by simp [results, Tryd.results15, go_sem, d0, d1]) rfl ⟨ao, n, c, rfl, ?_, ?_⟩
      · exact ((HO2.out.set (p := ⟨w.heap.size, 0, none⟩) (Nat.lt_succ_self _) _).set (p := ⟨w.heap.size, 1, none⟩) (Nat.lt_succ_self _) _).mono (by omega)
      · exact (HB.out.setCell (p := ⟨w.heap.size, 0, none⟩) (Nat.le_refl _) _).setCell (p := ⟨w.heap.size, 1, none⟩) (Nat.le_refl _) _
end Go.Proofs.YtojmjdgapfcjfaaDoor.Et
