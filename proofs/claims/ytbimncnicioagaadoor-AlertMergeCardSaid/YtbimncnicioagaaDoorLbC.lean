/- The contract of package label's Of: for few pairs of names and values of at most a thousand bytes, where the tables lie as the program's text lays them. -/
import Derived.Test.YtbimncnicioagaaDoorLbB
namespace Go.Proofs.YtbimncnicioagaaDoor.Lb
open Go.RowKit Ch Jt
set_option linter.unusedSimpArgs false
set_option linter.unusedVariables false

/-- where a row lies: nowhere, or at the head of a block -/
def Pl (ao : Option Addr) : Prop := ao = none ∨ ∃ g, ao = some ⟨g, 0, none⟩
/-- what Of answers -/
theorem frz {w : World} {g : Nat} {cs : Array Value} {t : TypeId} (h : w.heap[g]? = some (.cells cs t (0, 0))) (i : Nat) : w.frozen? ⟨g, i, none⟩ = false := by simp [World.frozen?, h]
theorem set1 {w : World} {g : Nat} {v : Value} {t : TypeId} (u : Value) (h : w.heap[g]? = some (.cells #[v] t (0, 0))) : (w.setCell ⟨g, 0, none⟩ u).heap[g]? = some (.cells #[u] t (0, 0)) := by
  have hg : g < w.heap.size := (Array.getElem?_eq_some_iff.1 h).1
  rw [setCell_eq_setRow w g 0 _ t _ u h, setRow_heap w g _ _ t _ h]; rfl
def OfQ (fs : List FB) (w : World) (e : Ending) (w' : World) : Prop := Below w.heap.size w w' ∧
  ((fs.any badB = true ∧ e = .returned (.tuple #[.agg #[.slice none 0 0], .int .i64 3])) ∨
   (fs.any badB = false ∧ ¬ Onc fs ∧ e = .returned (.tuple #[.agg #[.slice none 0 0], .int .i64 10])) ∨
   (fs.any badB = false ∧ Onc fs ∧ ∃ ao cap gs, Pl ao ∧ e = .returned (.tuple #[.agg #[.slice ao fs.length cap], .int .i64 0]) ∧ gs.Perm fs ∧ Asc gs ∧ RdF (.slice ao fs.length cap) gs w'))
theorem rdf_at {g cap n : Nat} {gs : List FB} {w : World} (h : RdF (.slice (some ⟨g, 0, none⟩) n cap) gs w) {i : Nat} (hi : i < gs.length) : w.cell? ⟨g, i * 2, none⟩ = some (.string gs[i].1) ∧ w.cell? ⟨g, i * 2 + 1, none⟩ = some (.string gs[i].2) ∧ g < w.heap.size := by
  obtain ⟨ao, cp, e, hh⟩ := h
  injection e with ea eb ec
  subst ea
  obtain ⟨g', off, e2, hg, hat⟩ := hh (by omega)
  injection e2 with e2
  injection e2 with e2 e3
  subst e2 e3
  obtain ⟨h0, h1⟩ := hat i hi
  rw [Nat.zero_add] at h0 h1
  exact ⟨h0, h1, hg⟩
theorem bdrN (W : World) (n : Nat) : Below W.heap.size W (W.drewN n) := ⟨rfl, rfl, rfl, Nat.le_refl _, fun _ _ => rfl⟩
theorem ofq_bad {fs : List FB} {w w' : World} (h : fs.any badB = true) (hb : Below w.heap.size w w') : OfQ fs w (.returned (.tuple #[.agg #[.slice none 0 0], .int .i64 3])) w' := ⟨hb, .inl ⟨h, rfl⟩⟩
theorem ofq_dup {fs : List FB} {w w' : World} (h : fs.any badB = false) (h2 : ¬ Onc fs) (hb : Below w.heap.size w w') : OfQ fs w (.returned (.tuple #[.agg #[.slice none 0 0], .int .i64 10])) w' := ⟨hb, .inr (.inl ⟨h, h2, rfl⟩)⟩
theorem ofq_ok {fs gs : List FB} {g cap : Nat} {w w' : World} (h : fs.any badB = false) (h2 : Onc fs) (hp : gs.Perm fs) (ha : Asc gs) (hr : RdF (.slice (some ⟨g, 0, none⟩) fs.length cap) gs w') (hb : Below w.heap.size w w') : OfQ fs w (.returned (.tuple #[.agg #[.slice (some ⟨g, 0, none⟩) fs.length cap], .int .i64 0])) w' := ⟨hb, .inr (.inr ⟨h, h2, _, cap, gs, .inr ⟨g, rfl⟩, rfl, hp, ha, hr⟩)⟩
set_option maxRecDepth 100000 in
set_option maxHeartbeats 4000000 in
theorem Of_c (v : Value) (fs : List FB) (w : World) (hE : Ev w) (hR : RdF v fs w) (hm : fs.length ≤ 1000) (hs : ∀ f ∈ fs, smallF f) :
    Calls Tryd.prog 21 #[v] w (OfQ fs w) := by
  have hba := (Below.refl w.heap.size w).alloc (Nat.le_refl _) (.cells #[.slice none 0 0] 27)
  have HH := Lib.hid (hasf_c v fs _ (hE.go hba) (hR.go hba) (by omega) hs)
  have HR := Lib.hid (hR.go hba)
  have HBA := Lib.hid hba
  have HKA := Lib.hid (heap_alloc_new w (.cells #[.slice none 0 0] 27))
  have hza : (w.alloc (.cells #[.slice none 0 0] 27)).heap.size = w.heap.size + 1 := by simp
  obtain ⟨ao, cap, rfl, _⟩ := hR
  clear hE hs hba
  obtain ⟨i0, hi, hz0, hz1, hz2⟩ := info_parts info2
  cases hb : fs.any badB with
  | true =>
    have HBB := Lib.hid hb
    rw [hb] at HH
    clear hb
    go_enter Tryd.func21, Tryd.ntmps21
    go_wp2_with fail
    refine HH.out.mono ?_
    rintro e w1 ⟨rfl, hb1⟩
    have HB1 : Hid (Below w.heap.size w w1) := HBA.out.trans (hb1.mono HBA.out.size)
    have HK1 : Hid (w1.heap[w.heap.size]? = some (.cells #[.slice none 0 0] 27 (0, 0))) := (hb1.block _ (by rw [hza]; omega)).trans HKA.out
    have d0 := cell_of_row _ _ 0 _ _ _ HK1.out
    have z0 := frz HK1.out 0
    have e0 := cell_of_row _ _ 0 _ _ _ (set1 (.slice none 0 0) HK1.out)
    have HBS : Hid (Below w.heap.size w (w1.setCell ⟨w.heap.size, 0, none⟩ (.slice none 0 0))) := HB1.out.setCell (p := ⟨w.heap.size, 0, none⟩) (Nat.le_refl _) _
    clear hb1
    go_wp2
    (with_reducible refine bodyPost_ret (v := .tuple #[.agg #[.slice none 0 0], .int .i64 3]) (by simp [results, Tryd.results21, go_sem, e0]) rfl (ofq_bad HBB.out HBS.out))
  | false =>
    have HBB := Lib.hid hb
    rw [hb] at HH
    clear hb
    go_enter Tryd.func21, Tryd.ntmps21
    go_wp2_with fail
    refine HH.out.mono ?_
    rintro e w1 ⟨rfl, hb1⟩
    have HB1 : Hid (Below w.heap.size w w1) := HBA.out.trans (hb1.mono HBA.out.size)
    have HK1 : Hid (w1.heap[w.heap.size]? = some (.cells #[.slice none 0 0] 27 (0, 0))) := (hb1.block _ (by rw [hza]; omega)).trans HKA.out
    have HR1 := Lib.hid (HR.out.go hb1)
    clear hb1 HH
    have hsz1 := HB1.out.size
    have hlt1 : w.heap.size < w1.heap.size := (Array.getElem?_eq_some_iff.1 HK1.out).1
    go_wp2_with (at_make; refine wpList_make_full _ rfl _ _ 25 rfl w1.heap.size 58 i0 _ 2 Tryd.underlying25 hi hz0 hz1 _ _ _ _ fs.length rfl rfl rfl rfl (by rw [hz2]; omega) (by unfold maxLen; omega) (Nat.le_refl _) ?_)
    intro w2 hown hg
    have hb12 : Below w1.heap.size w1 w2 := (Below.refl _ _).grown hg (Nat.le_refl _) (fun j hj => by cases hj)
    obtain ⟨cur, hcur, hcz⟩ : ∃ cur, w2.heap[w1.heap.size]? = some (.cells cur 58 (0, 0)) ∧ cur.size = fs.length * 2 := by
      rcases hown.2 with ⟨h, _⟩ | ⟨g, cp, cur, hv, _, hgh, _, _, hz, _⟩
      · cases h
      · injection hv with h1 h2 h3
        injection h1 with h1
        injection h1 with h1
        subst h1 h3
        exact ⟨cur, hgh, hz⟩
    have HR2 := Lib.hid (HR1.out.go hb12)
    have hsrc : 0 < fs.length → ∃ b off, ao = some ⟨b, off, none⟩ ∧ ∀ i (hi : i < fs.length), w2.cell? ⟨b, off + i * 2, none⟩ = some (.string fs[i].1) ∧ w2.cell? ⟨b, off + i * 2 + 1, none⟩ = some (.string fs[i].2) := fun h => by
      obtain ⟨ao', cp', e, hh⟩ := HR2.out
      injection e with ea eb ec
      subst ea
      obtain ⟨b, off, rfl, _, hat⟩ := hh h
      exact ⟨b, off, rfl, hat⟩
    have HK2 : Hid (w2.heap[w.heap.size]? = some (.cells #[.slice none 0 0] 27 (0, 0))) := (hb12.block _ hlt1).trans HK1.out
    have HB2 : Hid (Below w.heap.size w w2) := HB1.out.trans (hb12.mono HB1.out.size)
    have HSR := Lib.hid hsrc
    have HCU := Lib.hid hcur
    have HCZ := Lib.hid hcz
    obtain ⟨W3, hW3, HK3, HC3, HB3⟩ : ∃ W3, W3 = w2.setRow w1.heap.size (fC fs).toArray ∧ Hid (W3.heap[w.heap.size]? = some (.cells #[.slice none 0 0] 27 (0, 0))) ∧ Hid (W3.heap[w1.heap.size]? = some (.cells (fC fs).toArray 58 (0, 0))) ∧ Hid (Below w.heap.size w W3) :=
      ⟨_, rfl, (setRow_other w2 w1.heap.size w.heap.size _ (by omega)).trans HK2.out, setRow_heap w2 w1.heap.size _ _ _ _ hcur, HB2.out.trans ⟨rfl, rfl, rfl, by simp [World.setRow], fun k hk => setRow_other w2 w1.heap.size k _ (by omega)⟩⟩
    have HWE := Lib.hid hW3
    clear hown hg hb12 hsrc hcur hcz hW3
    go_wp2_with (refine wpList_copy_pairs rfl _ _ 25 25 rfl Tryd.underlying25 w1.heap.size fs.length ao cap fs rfl rfl _ 58 HCU.out HCZ.out HSR.out ?_; rw [← HWE.out])
    refine (sort_c w1.heap.size fs.length fs W3 HC3.out hm).mono ?_
    rintro e w4 ⟨rfl, gs, hp, ha, hr, hb⟩
    have HP := Lib.hid hp
    have HA := Lib.hid ha
    have HR4 := Lib.hid hr
    have HK4 : Hid (w4.heap[w.heap.size]? = some (.cells #[.slice none 0 0] 27 (0, 0))) := (hb.block _ hlt1).trans HK3.out
    have HB4 : Hid (Below w.heap.size w w4) := HB3.out.trans (hb.mono hsz1)
    have hgl : gs.length = fs.length := hp.length_eq
    clear hp ha hr hb HSR HCU HCZ HWE HK3 HC3 HB3
    go_wp2
    go_loopw [5] (fun v wr => ∃ m : Nat, v = .int .i64 ((m : Int) + 1) ∧ (m = 0 ∨ m + 1 ≤ fs.length) ∧ Hid (∀ i (h : i + 1 < gs.length), i + 1 ≤ m → gs[i + 1].1 ≠ gs[i].1) ∧ Hid (RdF (.slice (some ⟨w1.heap.size, 0, none⟩) fs.length fs.length) gs wr) ∧ Hid (wr.heap[w.heap.size]? = some (.cells #[.slice none 0 0] 27 (0, 0))) ∧ Hid (Below w.heap.size w wr)) (fun v _ => fs.length - (intOf v).toNat)
    case atStart => exact ⟨0, rfl, .inl rfl, Lib.hid (fun i h hh => absurd hh (by omega)), HR4, HK4, HB4⟩
    case round =>
      clear HR4 HK4 HB4
      obtain ⟨m, rfl, hm1, HN, HRW, HKW, HBW⟩ := hrel
      by_cases hlt : m + 1 < fs.length
      · obtain ⟨q0, _, hgw⟩ := rdf_at HRW.out (i := m) (by omega)
        obtain ⟨q1, _, _⟩ := rdf_at HRW.out (i := m + 1) (by omega)
        have hj0 : (0 : Int) ≤ (m : Int) := by omega
        have hjl : (m : Int) + 1 < (fs.length : Int) := by omega
        by_cases heq : gs[m + 1].1 = gs[m].1
        · have HND : Hid (¬ Onc fs) := fun ho => onc_no (i := m) (by omega) heq ((onc_iff HP.out).2 ho)
          rw [heq] at q1
          have d0 := cell_of_row _ _ 0 _ _ _ HKW.out
          have z0 := frz HKW.out 0
          clear heq
          revert q0 q1
          generalize gs[m].1 = x
          intro q0 q1
          go_wp2_with fail
          go_quiet (fail)
          have HKD : Hid ((wr.drewN nq).heap[w.heap.size]? = some (.cells #[.slice none 0 0] 27 (0, 0))) := HKW.out
          have HBD : Hid (Below w.heap.size w (wr.drewN nq)) := HBW.out.trans ((bdrN wr nq).mono HBW.out.size)
          clear d0 z0 q0 q1 HRW HKW
          generalize wr.drewN nq = wd at HKD HBD ⊢
          have d0 := cell_of_row _ _ 0 _ _ _ HKD.out
          have z0 := frz HKD.out 0
          have e0 := cell_of_row _ _ 0 _ _ _ (set1 (.slice none 0 0) HKD.out)
          have HBS : Hid (Below w.heap.size w (wd.setCell ⟨w.heap.size, 0, none⟩ (.slice none 0 0))) := HBD.out.setCell (p := ⟨w.heap.size, 0, none⟩) (Nat.le_refl _) _
          go_wp2
          (with_reducible refine bodyPost_ret (v := .tuple #[.agg #[.slice none 0 0], .int .i64 10]) (by simp [results, Tryd.results21, go_sem, e0]) rfl (ofq_dup HBB.out HND.out HBS.out))
        · have HN2 : Hid (∀ i (h : i + 1 < gs.length), i + 1 ≤ m + 1 → gs[i + 1].1 ≠ gs[i].1) := fun i h hh => by
            rcases Nat.lt_succ_iff_lt_or_eq.1 (Nat.lt_succ_of_le hh) with g | g
            · exact HN.out i h (by omega)
            · have : i = m := by omega
              subst this; exact heq
          have he : (gs[m + 1].1.toList == gs[m].1.toList) = false := by
            rw [Lib.toList_data, Lib.toList_data, beq_eq_false_iff_ne]
            intro h
            apply heq
            generalize gs[m + 1].1 = a at h
            generalize gs[m].1 = b at h
            obtain ⟨⟨a⟩⟩ := a
            obtain ⟨⟨b⟩⟩ := b
            have h' : a = b := h
            rw [h']
          clear heq
          revert q0 q1 he
          generalize gs[m].1 = x
          generalize gs[m + 1].1 = y
          intro q0 q1 he
          go_wp2_with fail
          go_quiet (fail)
          have HKD : Hid ((wr.drewN nq).heap[w.heap.size]? = some (.cells #[.slice none 0 0] 27 (0, 0))) := HKW.out
          have HBD : Hid (Below w.heap.size w (wr.drewN nq)) := HBW.out.trans ((bdrN wr nq).mono HBW.out.size)
          have HRD := Lib.hid (HRW.out.go (bdrN wr nq))
          clear q0 q1 HRW HKW
          generalize wr.drewN nq = wd at HKD HBD HRD ⊢
          go_wp2
          go_roundw
          case rel => exact ⟨m + 1, by go_num, .inr (by omega), HN2, HRD, HKD, HBD⟩
          case measure => simp [intOf]; omega
      · have d0 := cell_of_row _ _ 0 _ _ _ HKW.out
        have z0 := frz HKW.out 0
        have e0 := cell_of_row _ _ 0 _ _ _ (set1 (.slice (some ⟨w1.heap.size, 0, none⟩) fs.length fs.length) HKW.out)
        have HBS : Hid (Below w.heap.size w (wr.setCell ⟨w.heap.size, 0, none⟩ (.slice (some ⟨w1.heap.size, 0, none⟩) fs.length fs.length))) := HBW.out.setCell (p := ⟨w.heap.size, 0, none⟩) (Nat.le_refl _) _
        have HON : Hid (Onc fs) := (onc_iff HP.out).1 (onc_adj HA.out (fun i h => HN.out i h (by omega)))
        have HRS : Hid (RdF (.slice (some ⟨w1.heap.size, 0, none⟩) fs.length fs.length) gs (wr.setCell ⟨w.heap.size, 0, none⟩ (.slice (some ⟨w1.heap.size, 0, none⟩) fs.length fs.length))) := by
          refine ⟨_, _, by rw [hgl], fun h0 => ⟨w1.heap.size, 0, rfl, ?_, fun i hi => ?_⟩⟩
          · have := (rdf_at HRW.out h0).2.2
            simpa using this
          · obtain ⟨a0, a1, _⟩ := rdf_at HRW.out hi
            rw [Nat.zero_add]
            have hne : w1.heap.size ≠ w.heap.size := by omega
            exact ⟨by rw [World.cell?_setCell_other _ _ _ _ (by intro h; injection h with h; exact hne h.symm)]; exact a0, by rw [World.cell?_setCell_other _ _ _ _ (by intro h; injection h with h; exact hne h.symm)]; exact a1⟩
        go_wp2
        (with_reducible refine bodyPost_ret (v := .tuple #[.agg #[.slice (some ⟨w1.heap.size, 0, none⟩) fs.length fs.length], .int .i64 0]) (by simp [results, Tryd.results21, go_sem, e0]) rfl (ofq_ok HBB.out HON.out HP.out HA.out HRS.out HBS.out))
end Go.Proofs.YtbimncnicioagaaDoor.Lb
