/- The document's Put, at every row of versions of one's own; no other condition. -/
import Derived.Test.YtfilammedofdoaaCnL
namespace Go.Proofs.Ytfilammedofdoaa.Cn
open Go.RowKit Go.Lib Go.Shelf Go.Sort
set_option linter.unusedSimpArgs false
set_option linter.unusedVariables false

def PtR (B : Nat) (l : List Ver) (v : Ver) (w : World) (e : Ending) (w' : World) : Prop := ∃ x, e = .returned (.tuple #[x, .int .i64 (putE l v)]) ∧ OwV 27 B x (putL l v) w' ∧ Below w.heap.size w w'
theorem any_take {l : List Ver} {r : Int} {j : Nat} (hj : j < l.length) : (l.take (j + 1)).any (fun x => decide (r ≤ x.1)) = ((l.take j).any (fun x => decide (r ≤ x.1)) || decide (r ≤ l[j].1)) := by
  rw [List.take_succ_eq_append_getElem hj, List.any_append]; simp
theorem any_hit {l : List Ver} {r : Int} {j : Nat} (hj : j < l.length) (h : r ≤ l[j].1) : l.any (fun x => decide (r ≤ x.1)) = true := by
  rw [List.any_eq_true]; exact ⟨l[j], List.getElem_mem hj, by simpa using h⟩
theorem run_app0 (ty : TypeId) (g cap : Nat) (ao : Option Addr) (W : World) : (Builtin.append_ #[25, 25] ty #[.slice (some ⟨g, 0, none⟩) 0 0, .slice ao 0 cap]).run Try.prog W = .ok (.slice (some ⟨g, 0, none⟩) 0 0) W := by
  obtain ⟨i0, hi, hz0, hz1, hz2⟩ := info_parts infoR
  cases ao <;> simp [Builtin.append_, run_underlying Try.underlying25, sizeOf, typeInfo, hi, Builtin.lenOf, Builtin.firstCells, storeCells, loadCells, loadCellsFrom]
theorem step_app0 {ops : Array Oper} {o : Oper} {a : Act} {w : World} {K : Act → World → Prop} {Q : Exit → Act → World → Prop} {E : Prop} (hgd : o.guard = none) (s x : Operand)
    (ho : o.op = .call { callee := .builtin .append, args := #[s, x], argTypes := #[25, 25] }) (g cap : Nat) (ao : Option Addr) (hs : a.eval s = .slice (some ⟨g, 0, none⟩) 0 0) (hx : a.eval x = .slice ao 0 cap)
    (h : K (a.put o.dst (.slice (some ⟨g, 0, none⟩) 0 0)) w) : if Region.wanted o (yielded ops a.tmps) = true then Oper.wp Try.prog o a w K Q else E := by
  have hw : Region.wanted o (yielded ops a.tmps) = true := by simp [Region.wanted, hgd]
  rw [if_pos hw]
  unfold Oper.wp execOp
  simp only [ho, resolve, invoke, builtin, Sem.run_bind, Sem.run_pure, Result.andThen_ok, List.map_toArray, List.map_cons, List.map_nil, hs, hx, run_app0]
  exact h
theorem putE_arg {l : List Ver} {v : Ver} (h : v.1 < 1 ∨ 9007199254740991 < v.1) : putE l v = 1 ∧ putL l v = l := by
  have e : putE l v = 1 := by unfold putE; rw [if_pos h]
  exact ⟨e, by unfold putL; rw [e, if_neg (by decide)]⟩
theorem putE_state {l : List Ver} {v : Ver} (h1 : 1 ≤ v.1) (h2 : v.1 ≤ 9007199254740991) (h : l.any (fun x => decide (v.1 ≤ x.1)) = true) : putE l v = 10 ∧ putL l v = l := by
  have e : putE l v = 10 := by unfold putE; rw [if_neg (by omega), if_pos h]
  exact ⟨e, by unfold putL; rw [e, if_neg (by decide)]⟩
theorem putE_ok {l : List Ver} {v : Ver} (h1 : 1 ≤ v.1) (h2 : v.1 ≤ 9007199254740991) (h : l.any (fun x => decide (v.1 ≤ x.1)) = false) : putE l v = 0 ∧ putL l v = l ++ [v] := by
  have e : putE l v = 0 := by unfold putE; rw [if_neg (by omega), h, if_neg (by decide)]
  exact ⟨e, by unfold putL; rw [e, if_pos rfl]⟩
theorem boxV {w W : World} {x y z : Value} {t : TypeId} (h : W.heap[w.heap.size]? = some (.cells #[x, y, z] t (0, 0))) {V : World} (hb : Below W.heap.size W V) : V.cell? ⟨w.heap.size, 0, none⟩ = some x ∧ V.cell? ⟨w.heap.size, 1, none⟩ = some y ∧ V.cell? ⟨w.heap.size, 2, none⟩ = some z :=
  cells3 ((hb.block _ (Array.getElem?_eq_some_iff.1 h).1).trans h)
/-- behind the loop: a row more, at an empty row that is made new -/
theorem first_ap {B g0 g1 c1 : Nat} {l : List Ver} {T : TypeId} {W V : World} (hown : V.ownsRow B T 3 (.slice (some ⟨g1, 0, none⟩) (0 + l.length) c1) (0 + l.length) ([] ++ vC l)) : OwV T B (.slice (some ⟨g1, 0, none⟩) l.length c1) l V := by
  show World.ownsRow _ _ _ _ _ _ _
  simpa using hown
theorem grown_low {B g : Nat} {w W V : World} (hb : Below w.heap.size w W) (hB : w.heap.size ≤ W.heap.size) (hg : W.grownBy V (some g)) (h : w.heap.size ≤ g) : Below w.heap.size w V :=
  hb.grown hg hB (fun k hk => by injection hk with hk; omega)
/-- behind the loop: what the first append leaves -/
structure Ap (B g1 c1 ge : Nat) (l : List Ver) (v : Ver) (w V : World) : Prop where
  own : OwV 27 B (.slice (some ⟨g1, 0, none⟩) l.length c1) l V
  els : ∀ j u, (encV v)[j]? = some u → V.cell? ((⟨ge, 0, none⟩ : Addr).add j) = some u
  bel : Below w.heap.size w V
theorem ptr_end {B g2 c2 : Nat} {l : List Ver} {v : Ver} {w V V2 : World} {gb : Option Nat} (h1 : 1 ≤ v.1) (h2 : v.1 ≤ 9007199254740991) (ha : l.any (fun x => decide (v.1 ≤ x.1)) = false) (hB : B ≤ w.heap.size)
    (hb : Below w.heap.size w V) (hown : V2.ownsRow w.heap.size 27 3 (.slice (some ⟨g2, 0, none⟩) (l.length + 1) c2) (l.length + 1) (vC l ++ encV v)) (hgrow : V.grownBy V2 gb) (hg : ∀ k, gb = some k → w.heap.size ≤ k) :
    PtR B l v w (.returned (.tuple #[.slice (some ⟨g2, 0, none⟩) (l.length + 1) c2, .int .i64 0])) V2 := by
  obtain ⟨e1, e2⟩ := putE_ok h1 h2 ha
  refine ⟨_, by rw [e1], ?_, hb.grown hgrow hb.size hg⟩
  rw [e2]
  show World.ownsRow _ _ _ _ _ _ _
  have ho : OwV 27 w.heap.size (.slice (some ⟨g2, 0, none⟩) (l.length + 1) c2) (l ++ [v]) V2 := by
    show World.ownsRow _ _ _ _ _ _ _
    rw [vC_snoc, List.length_append]; exact hown
  exact ho.mono hB
abbrev ObE : Obj := .cells #[] 27
abbrev ObV (v1 : Int) (v2 : ByteArray) (v3 : Bool) : Obj := .cells #[.int .i64 v1, .string v2, .bool v3] 27
theorem own_e (wr : World) (B : Nat) (h : B ≤ wr.heap.size) : OwV 27 B (.slice (some ⟨wr.heap.size, 0, none⟩) 0 0) [] (wr.alloc ObE) := World.ownsRow_made wr #[] 0 h (by unfold maxLen; omega) rfl
/-- a world on the way: the empty row's block gx, at or above w's heap -/
structure Wy (gx : Nat) (w wr W : World) (v1 : Int) (v2 : ByteArray) (v3 : Bool) : Prop where
  own : OwV 27 w.heap.size (.slice (some ⟨gx, 0, none⟩) 0 0) [] W
  bel : Below wr.heap.size wr W
  low : Below w.heap.size w W
  box : W.heap[w.heap.size]? = some (.cells #[.int .i64 v1, .string v2, .bool v3] 27 (0, 0))
  ne : w.heap.size ≠ gx
theorem Wy.ap {gx g1 c1 : Nat} {w wr W V : World} {v1 : Int} {v2 : ByteArray} {v3 : Bool} {l : List Ver} (h : Wy gx w wr W v1 v2 v3) (hown : V.ownsRow w.heap.size 27 3 (.slice (some ⟨g1, 0, none⟩) (0 + l.length) c1) (0 + l.length) ([] ++ vC l)) (hgrow : W.grownBy V (some gx)) :
    OwV 27 w.heap.size (.slice (some ⟨g1, 0, none⟩) l.length c1) l V ∧ Below w.heap.size w V ∧ V.heap[w.heap.size]? = some (.cells #[.int .i64 v1, .string v2, .bool v3] 27 (0, 0)) ∧ ∀ ge, W.heap[ge]? = some (.cells #[.int .i64 v1, .string v2, .bool v3] 27 (0, 0)) → ge ≠ gx → Ap w.heap.size g1 c1 ge l (v1, v2, v3) w V := by
  have ho : OwV 27 w.heap.size (.slice (some ⟨g1, 0, none⟩) l.length c1) l V := by
    show World.ownsRow _ _ _ _ _ _ _
    simpa using hown
  have hgx : w.heap.size ≤ gx := (h.own.lt gx rfl).1
  have hb : Below w.heap.size w V := h.low.grown hgrow h.low.size (fun k hk => by injection hk with hk; omega)
  have hk : ∀ ge, W.heap[ge]? = some (.cells #[.int .i64 v1, .string v2, .bool v3] 27 (0, 0)) → ge ≠ gx → V.heap[ge]? = some (.cells #[.int .i64 v1, .string v2, .bool v3] 27 (0, 0)) := fun ge hge hne =>
    (hgrow.block ge (Array.getElem?_eq_some_iff.1 hge).1 (fun e => hne (by injection e))).trans hge
  exact ⟨ho, hb, hk _ h.box h.ne, fun ge hge hne => ⟨ho, enc_cell (hk ge hge hne), hb⟩⟩
theorem Ap.new {g1 c1 : Nat} {w V : World} {v1 : Int} {v2 : ByteArray} {v3 : Bool} {l : List Ver} (h1 : OwV 27 w.heap.size (.slice (some ⟨g1, 0, none⟩) l.length c1) l V) (h2 : Below w.heap.size w V) : Ap w.heap.size g1 c1 V.heap.size l (v1, v2, v3) w (V.alloc (ObV v1 v2 v3)) := by
  have hb : Below V.heap.size V (V.alloc (ObV v1 v2 v3)) := (Below.refl _ _).alloc (Nat.le_refl _) _
  exact ⟨h1.go hb, enc_cell (heap_alloc_new V _), h2.trans (hb.mono h2.size)⟩
set_option maxRecDepth 100000 in
set_option maxHeartbeats 4000000 in
theorem PutR_c (B : Nat) (sv : Value) (l : List Ver) (v : Ver) (w : World) (hO : OwV 27 B sv l w) (hB : B ≤ w.heap.size) (hm : l.length + 1 ≤ 1000000) :
    Calls Try.prog 18 #[sv, aggV v] w (PtR B l v w) := by
  obtain ⟨v1, v2, v3⟩ := v
  obtain ⟨i0, hi, hz0, hz1, hz2⟩ := info_parts infoR
  obtain ⟨ao, cap, hsv⟩ := own_lenV hO
  subst hsv
  obtain ⟨W0, hW0, hk0, hb0⟩ := new3 w (.int .i64 v1) (.string v2) (.bool v3) 27
  have HO := Lib.hid hO
  have HW0 := Lib.hid hW0
  have HB0 := Lib.hid hb0
  have HK0 := Lib.hid hk0
  obtain ⟨c0, c1, c2⟩ := cells3 hk0
  have hlt0 : w.heap.size < W0.heap.size := (Array.getElem?_eq_some_iff.1 hk0).1
  clear hO hW0 hb0 hk0
  unfold aggV
  by_cases hr : v1 < 1 ∨ 9007199254740991 < v1
  · obtain ⟨e1, e2⟩ := putE_arg (l := l) (v := (v1, v2, v3)) hr
    have HE1 := Lib.hid e1
    have HE2 := Lib.hid e2
    have HF : ∀ W, Below w.heap.size w W → PtR B l (v1, v2, v3) w (.returned (.tuple #[.slice ao l.length cap, .int .i64 1])) W := fun W hb => ⟨_, by rw [HE1.out], by rw [HE2.out]; exact HO.out.go hb, hb⟩
    have HF := Lib.hid HF
    clear e1 e2
    rcases hr with hr | hr
    · go_enter Try.func18, Try.ntmps18
      go_wp2_with fail
      rw [← HW0.out]
      go_wp2
      exact bodyPost_ret (v := .tuple #[.slice ao l.length cap, .int .i64 1]) (by simp [results, Try.results18, go_sem]) rfl (HF.out _ HB0.out)
    · have hr2 : ¬ v1 < 1 := by omega
      go_enter Try.func18, Try.ntmps18
      go_wp2_with fail
      rw [← HW0.out]
      go_wp2
      exact bodyPost_ret (v := .tuple #[.slice ao l.length cap, .int .i64 1]) (by simp [results, Try.results18, go_sem]) rfl (HF.out _ HB0.out)
  · have hr1 : ¬ v1 < 1 := by omega
    have hr2 : ¬ 9007199254740991 < v1 := by omega
    have hr3 : 1 ≤ v1 := by omega
    have hr4 : v1 ≤ 9007199254740991 := by omega
    clear hr
    go_enter Try.func18, Try.ntmps18
    go_wp2_with fail
    rw [← HW0.out]
    go_wp2
    go_loopw [19] (fun iv wr => ∃ j : Nat, j ≤ l.length ∧ iv = .int .i64 j ∧ Hid ((l.take j).any (fun x => decide (v1 ≤ x.1)) = false) ∧ Hid (Below W0.heap.size W0 wr)) (fun iv _ => l.length - (intOf iv).toNat)
    case atStart => exact ⟨0, by omega, rfl, Lib.hid (by simp), Lib.hid (Below.refl _ _)⟩
    case round =>
      obtain ⟨j, hj, rfl, HN, HB⟩ := hrel
      have HBW : Hid (Below w.heap.size w wr) := HB0.out.trans (HB.out.mono HB0.out.size)
      obtain ⟨d0, d1, d2⟩ := boxV HK0.out HB.out
      have hltr : w.heap.size < wr.heap.size := Nat.lt_of_lt_of_le hlt0 HB.out.size
      by_cases hlt : j < l.length
      · obtain ⟨g, off, hao, hg, hat⟩ := rdv_at ((HO.out.rd).go HBW.out) (by omega)
        subst hao
        obtain ⟨p0, p1, p2⟩ := hat j hlt
        have hj0 : (0 : Int) ≤ (j : Int) := by omega
        have hjl : (j : Int) < (l.length : Int) := by omega
        have HT := Lib.hid (any_take (r := v1) hlt)
        have HH := Lib.hid (any_hit (r := v1) hlt)
        clear hat c0 c1 c2
        obtain ⟨⟨x1, x2, x3⟩, hx⟩ : ∃ x : Ver, l[j] = x := ⟨_, rfl⟩
        rw [hx] at p0 p1 p2 HT HH
        simp only at p0 p1 p2 HT HH
        clear hx
        obtain ⟨W1, hW1, hk1, hb1⟩ := new3 wr (.int .i64 x1) (.string x2) (.bool x3) 27
        have HB1 : Hid (Below W0.heap.size W0 W1) := HB.out.trans (hb1.mono HB.out.size)
        have HBW1 : Hid (Below w.heap.size w W1) := HBW.out.trans (hb1.mono HBW.out.size)
        have HW1 := Lib.hid hW1
        have hgn : g ≠ wr.heap.size := by omega
        have hwn : w.heap.size ≠ wr.heap.size := by omega
        clear hW1 hk1 hb1
        by_cases hle : v1 ≤ x1
        · have HE := Lib.hid (putE_state (l := l) (v := (v1, v2, v3)) hr3 hr4 (HH.out hle))
          go_wp2
          rw [← HW1.out]
          exact bodyPost_ret (v := .tuple #[.slice (some ⟨g, off, none⟩) l.length cap, .int .i64 10]) (by simp [results, Try.results18, go_sem]) rfl ⟨_, by rw [HE.out.1], by rw [HE.out.2]; exact HO.out.go HBW1.out, HBW1.out⟩
        · have HN2 : Hid ((l.take (j + 1)).any (fun x => decide (v1 ≤ x.1)) = false) := by
            show _ = _
            rw [HT.out, HN.out, decide_eq_false hle]; rfl
          go_wp2
          rw [← HW1.out]
          go_roundw
          case rel => exact ⟨j + 1, by omega, by go_num, HN2, HB1⟩
          case measure => simp [intOf]; omega
      · have hjl : ¬ (j : Int) < (l.length : Int) := by omega
        have HNN : Hid (l.any (fun x => decide (v1 ≤ x.1)) = false) := by
          have := HN.out
          rw [List.take_of_length_le (by omega)] at this
          exact this
        clear HN c0 c1 c2
        have HR := Lib.hid ((HO.out.rd).go HBW.out)
        go_wp2_with fail
        have HLE : Hid (w.heap.size ≤ wr.heap.size) := HBW.out.size
        have hkr : wr.heap[w.heap.size]? = some (.cells #[.int .i64 v1, .string v2, .bool v3] 27 (0, 0)) := (HB.out.block _ hlt0).trans HK0.out
        have D1 : Hid (0 + l.length ≤ maxLen) := by show _ ≤ _; unfold maxLen; omega
        have D2 : Hid ((0 + l.length) * 32 ≤ 140737488355328) := by show _ ≤ _; omega
        have D3 : Hid (l.length + 1 ≤ maxLen) := by show _ ≤ _; unfold maxLen; omega
        have D4 : Hid ((l.length + 1) * 32 ≤ 140737488355328) := by show _ ≤ _; omega
        by_cases hlp : 0 < l.length
        · obtain ⟨g, off, hao, hg, hat⟩ := rdv_at HR.out hlp
          subst hao
          obtain ⟨WA, hWA⟩ : ∃ WA, WA = (wr.alloc ObE).drew := ⟨_, rfl⟩
          obtain ⟨WB, hWB⟩ : ∃ WB, WB = ((wr.alloc ObE).alloc (ObV v1 v2 v3)).drew := ⟨_, rfl⟩
          obtain ⟨WC, hWC⟩ : ∃ WC, WC = ((wr.alloc (ObV v1 v2 v3)).alloc ObE).drew := ⟨_, rfl⟩
          have bA : Below wr.heap.size wr WA := by rw [hWA]; exact ((Below.refl _ _).alloc (Nat.le_refl _) _).drew
          have bB : Below wr.heap.size wr WB := by rw [hWB]; exact (((Below.refl _ _).alloc (Nat.le_refl _) _).alloc (by simp) _).drew
          have bC : Below wr.heap.size wr WC := by rw [hWC]; exact (((Below.refl _ _).alloc (Nat.le_refl _) _).alloc (by simp) _).drew
          have YWA : Hid (Wy wr.heap.size w wr WA v1 v2 v3) := by
            refine ⟨?_, bA, HBW.out.trans (bA.mono HLE.out), (bA.block _ hltr).trans hkr, by omega⟩
            rw [hWA]; exact (own_e wr _ HLE.out).go (bdrN _ 1)
          have YWB : Hid (Wy wr.heap.size w wr WB v1 v2 v3) := by
            refine ⟨?_, bB, HBW.out.trans (bB.mono HLE.out), (bB.block _ hltr).trans hkr, by omega⟩
            rw [hWB]; exact (own_e wr _ HLE.out).go (((Below.refl _ _).alloc (Nat.le_refl _) _).drew)
          have YWC : Hid (Wy (wr.heap.size + 1) w wr WC v1 v2 v3) := by
            refine ⟨?_, bC, HBW.out.trans (bC.mono HLE.out), (bC.block _ hltr).trans hkr, by omega⟩
            rw [hWC]
            have := own_e (wr.alloc (ObV v1 v2 v3)) w.heap.size (by have := HLE.out; simp; omega)
            rw [World.size_alloc] at this
            exact this.go (bdrN _ 1)
          have LWA := Lib.hid (rdv_cells (HR.out.go bA))
          have LWB := Lib.hid (rdv_cells (HR.out.go bB))
          have LWC := Lib.hid (rdv_cells (HR.out.go bC))
          have KWB : Hid (WB.heap[wr.heap.size + 1]? = some (ObV v1 v2 v3)) := by
            have := heap_alloc_new (wr.alloc ObE) (ObV v1 v2 v3)
            rw [World.size_alloc] at this
            show _ = _
            rw [hWB]; exact this
          have KWC : Hid (WC.heap[wr.heap.size]? = some (ObV v1 v2 v3)) := by
            have hb : Below (wr.alloc (ObV v1 v2 v3)).heap.size (wr.alloc (ObV v1 v2 v3)) WC := by rw [hWC]; exact ((Below.refl _ _).alloc (Nat.le_refl _) _).drew
            exact (hb.block wr.heap.size (by simp)).trans (heap_alloc_new wr _)
          have NWB : Hid (wr.heap.size + 1 ≠ wr.heap.size) := by show _ ≠ _; omega
          have NWC : Hid (wr.heap.size ≠ wr.heap.size + 1) := by show _ ≠ _; omega
          have HWA := Lib.hid hWA
          have HWB := Lib.hid hWB
          have HWC := Lib.hid hWC
          clear hWA hWB hWC bA bB bC hkr hat hg
          go_region_law (first | (rw [← HWA.out]; refine step_append_lies _ rfl _ _ 25 rfl w.heap.size 27 i0 _ 3 32 Try.underlying25 hi hz0 hz1 hz2 rfl (by decide) _ _ _ rfl YWA.out.own ⟨g, off, none⟩ l.length cap (vC l) rfl (vC_len l) LWA.out (vC_one l) hlp D1.out D2.out YWA.out.low.size _ rfl ?_; intro g1 c1 V hown hgrow hat hlt; obtain ⟨ho, hb, hk, he⟩ := YWA.out.ap hown hgrow; obtain ⟨d0, d1, d2⟩ := cells3 hk; have HP := Lib.hid (Ap.new (v1 := v1) (v2 := v2) (v3 := v3) ho hb); clear hown hgrow hat hlt ho hb hk he) | (rw [← HWB.out]; refine step_append_lies _ rfl _ _ 25 rfl w.heap.size 27 i0 _ 3 32 Try.underlying25 hi hz0 hz1 hz2 rfl (by decide) _ _ _ rfl YWB.out.own ⟨g, off, none⟩ l.length cap (vC l) rfl (vC_len l) LWB.out (vC_one l) hlp D1.out D2.out YWB.out.low.size _ rfl ?_; intro g1 c1 V hown hgrow hat hlt; obtain ⟨ho, hb, hk, he⟩ := YWB.out.ap hown hgrow; obtain ⟨d0, d1, d2⟩ := cells3 hk; have HP := Lib.hid (he _ KWB.out NWB.out); clear hown hgrow hat hlt ho hb hk he) | (rw [← HWC.out]; refine step_append_lies _ rfl _ _ 25 rfl w.heap.size 27 i0 _ 3 32 Try.underlying25 hi hz0 hz1 hz2 rfl (by decide) _ _ _ rfl YWC.out.own ⟨g, off, none⟩ l.length cap (vC l) rfl (vC_len l) LWC.out (vC_one l) hlp D1.out D2.out YWC.out.low.size _ rfl ?_; intro g1 c1 V hown hgrow hat hlt; obtain ⟨ho, hb, hk, he⟩ := YWC.out.ap hown hgrow; obtain ⟨d0, d1, d2⟩ := cells3 hk; have HP := Lib.hid (he _ KWC.out NWC.out); clear hown hgrow hat hlt ho hb hk he) | (refine step_append_lies _ rfl _ _ 25 rfl w.heap.size 27 i0 _ 3 32 Try.underlying25 hi hz0 hz1 hz2 rfl (by decide) _ _ _ rfl HP.out.own _ 1 1 (encV (v1, v2, v3)) rfl rfl HP.out.els (enc_ok _) (by decide) D3.out D4.out HP.out.bel.size _ rfl ?_; intro g2 c2 V2 hown hgrow hat hlt; have HE := Lib.hid (ptr_end hr3 hr4 HNN.out hB HP.out.bel hown hgrow (fun k hk => (HP.out.own.lt k hk).1)); clear hown hgrow hat hlt))
          all_goals
            go_wp2
            exact bodyPost_ret (v := .tuple #[.slice (some ⟨g2, 0, none⟩) (l.length + 1) c2, .int .i64 0]) (by simp [results, Try.results18, go_sem]) rfl HE.out
        · obtain rfl : l = [] := List.eq_nil_of_length_eq_zero (by omega)
          obtain ⟨WB, hWB⟩ : ∃ WB, WB = ((wr.alloc ObE).alloc (ObV v1 v2 v3)).drew := ⟨_, rfl⟩
          obtain ⟨WC, hWC⟩ : ∃ WC, WC = ((wr.alloc (ObV v1 v2 v3)).alloc ObE).drew := ⟨_, rfl⟩
          have bB : Below wr.heap.size wr WB := by rw [hWB]; exact (((Below.refl _ _).alloc (Nat.le_refl _) _).alloc (by simp) _).drew
          have bC : Below wr.heap.size wr WC := by rw [hWC]; exact (((Below.refl _ _).alloc (Nat.le_refl _) _).alloc (by simp) _).drew
          have YWB : Hid (Wy wr.heap.size w wr WB v1 v2 v3) := by
            refine ⟨?_, bB, HBW.out.trans (bB.mono HLE.out), (bB.block _ hltr).trans hkr, by omega⟩
            rw [hWB]; exact (own_e wr _ HLE.out).go (((Below.refl _ _).alloc (Nat.le_refl _) _).drew)
          have YWC : Hid (Wy (wr.heap.size + 1) w wr WC v1 v2 v3) := by
            refine ⟨?_, bC, HBW.out.trans (bC.mono HLE.out), (bC.block _ hltr).trans hkr, by omega⟩
            rw [hWC]
            have := own_e (wr.alloc (ObV v1 v2 v3)) w.heap.size (by have := HLE.out; simp; omega)
            rw [World.size_alloc] at this
            exact this.go (bdrN _ 1)
          have KWB : Hid (WB.heap[wr.heap.size + 1]? = some (ObV v1 v2 v3)) := by
            have := heap_alloc_new (wr.alloc ObE) (ObV v1 v2 v3)
            rw [World.size_alloc] at this
            show _ = _
            rw [hWB]; exact this
          have KWC : Hid (WC.heap[wr.heap.size]? = some (ObV v1 v2 v3)) := by
            have hb : Below (wr.alloc (ObV v1 v2 v3)).heap.size (wr.alloc (ObV v1 v2 v3)) WC := by rw [hWC]; exact ((Below.refl _ _).alloc (Nat.le_refl _) _).drew
            exact (hb.block wr.heap.size (by simp)).trans (heap_alloc_new wr _)
          have HWB := Lib.hid hWB
          have HWC := Lib.hid hWC
          clear hWB hWC bB bC hkr D1 D2 hjl hlp
          go_region_law? (first | (refine step_app0 rfl _ _ rfl _ _ _ rfl rfl ?_) | (rw [← HWB.out]; refine step_append_lies _ rfl _ _ 25 rfl w.heap.size 27 i0 _ 3 32 Try.underlying25 hi hz0 hz1 hz2 rfl (by decide) _ _ _ rfl YWB.out.own _ 1 1 (encV (v1, v2, v3)) rfl rfl (enc_cell KWB.out) (enc_ok _) (by decide) D3.out D4.out YWB.out.low.size _ rfl ?_; intro g2 c2 V2 hown hgrow hat hlt; have HE := Lib.hid (ptr_end (l := []) hr3 hr4 HNN.out hB YWB.out.low hown hgrow (fun k hk => (YWB.out.own.lt k hk).1)); clear hown hgrow hat hlt) | (rw [← HWC.out]; refine step_append_lies _ rfl _ _ 25 rfl w.heap.size 27 i0 _ 3 32 Try.underlying25 hi hz0 hz1 hz2 rfl (by decide) _ _ _ rfl YWC.out.own _ 1 1 (encV (v1, v2, v3)) rfl rfl (enc_cell KWC.out) (enc_ok _) (by decide) D3.out D4.out YWC.out.low.size _ rfl ?_; intro g2 c2 V2 hown hgrow hat hlt; have HE := Lib.hid (ptr_end (l := []) hr3 hr4 HNN.out hB YWC.out.low hown hgrow (fun k hk => (YWC.out.own.lt k hk).1)); clear hown hgrow hat hlt))
          all_goals
            go_wp2
            exact bodyPost_ret (v := .tuple #[.slice (some ⟨g2, 0, none⟩) 1 c2, .int .i64 0]) (by simp [results, Try.results18, go_sem]) rfl HE.out
end Go.Proofs.Ytfilammedofdoaa.Cn
