/- The contract of package note's only: at every two maps of texts, a nil one too; no other condition. -/
import Derived.Test.YtneogelhdikcaaaNtC
namespace Go.Proofs.Ytneogelhdikcaaa.Nt
open Go.RowKit Go.Lib Go.Maps Go.ChangeMaps Go.MapKept Go.WideMaps
set_option linter.unusedSimpArgs false
set_option linter.unusedVariables false

theorem key_str {key : Value} {kl : Lit} (h : keyOf Try.prog 9 key = some kl) : ∃ x : Tx, key = .string (mkS x) ∧ kl = .string x ∧ (mkS x).size ≤ maxLen := by
  cases key <;> simp [keyOf, Try.underlying9, mapKey] at h
  rename_i s
  obtain ⟨hs, rfl⟩ := h
  exact ⟨s.data.toList, rfl, rfl, hs⟩
section
variable {P : Program} (w : World) {ops : Array Oper} {rest : List Oper} {o : Oper} {a : Act} {Q : Exit → Act → World → Prop}
/-- the step of a range over a set -/
theorem wpList_next_set (hg : o.guard = none) (it : Operand) (hop : o.op = Op.next it false)
    (b r n : Nat) (D : DataW Unit) (left : Lit → Bool) (cnt : Nat) (hit : a.eval it = .pointer (some ⟨r, 0, none⟩)) (h : w.ranges Try.prog 9 unitElem b r n D left cnt)
    (hDone : cnt = 0 → (∀ kl, left kl = false) → wpList Try.prog ops Q rest (a.put o.dst (.tuple #[.bool false])) w)
    (hMore : ∀ (x : Tx) (w' : World) (cnt' : Nat), (mkS x).size ≤ maxLen → left (.string x) = true → Maps.has D (.string x) = true → w'.ranges Try.prog 9 unitElem b r n D (fun k => left k && !k.sameKey (.string x)) cnt' → cnt' < cnt →
      w.grownBy w' (some r) → w'.heap.size = w.heap.size → (Instr.entry (.pointer (some ⟨r, 0, none⟩))).run Try.prog w' = .ok (.tuple #[.string (mkS x), .agg #[]]) w' → wpList Try.prog ops Q rest (a.put o.dst (.tuple #[.bool true, .string (mkS x), .agg #[]])) w') :
    wpList Try.prog ops Q (o :: rest) a w :=
  wpList_next_ranges (α := Tx) (β := Unit) w hg it hop 9 strKeyed unitElem (fun x => Value.string (mkS x)) (fun _ => .agg #[]) (fun key kl hkey => by obtain ⟨x, rfl, _⟩ := key_str hkey; exact ⟨x, rfl⟩) (fun v y hv => by obtain ⟨rfl, _⟩ := unitElem_inv hv; exact ⟨(), rfl⟩)
    b r n D left cnt hit h hDone (fun x c kl y w' cnt' hkey hlk hv hat hrg hlt hgr hsz hen => by
      obtain ⟨x', ex, rfl, hwx⟩ := key_str hkey
      injection ex with ex
      obtain rfl : x = x' := mkS_inj ex
      exact hMore x w' cnt' hwx hlk (has_true_of_atKey (fun zd => hat zd)) hrg hlt hgr hsz hen)
end
/-- those listed so far -/
structure Part (a b : List Tx) (f : Bool) (left : Lit → Bool) (l : List (Tx × Bool)) : Prop where
  nd : (l.map (·.1)).Nodup
  el : ∀ x, x ∈ l ↔ x.1 ∈ a ∧ left (.string x.1) = false ∧ x.1 ∉ b ∧ x.2 = f
theorem sk_self (x : Tx) : Lit.sameKey (.string x) (.string x) = true := WideAt.sameKey_self (a := .string x) trivial
theorem sk_ne {i x : Tx} (h : i ≠ x) : Lit.sameKey (.string i) (.string x) = false := sameKey_ne (fun e => h (by injection e))
theorem Part.yes {a b : List Tx} {f : Bool} {left : Lit → Bool} {l : List (Tx × Bool)} (h : Part a b f left l) {x : Tx} (hl : left (.string x) = true) (ha : x ∈ a) (hb : x ∉ b) : Part a b f (fun k => left k && !k.sameKey (.string x)) (l ++ [(x, f)]) := by
  refine ⟨?_, fun y => ?_⟩
  · rw [List.map_append, List.nodup_append]
    refine ⟨h.nd, by simp, fun y hy z hz e => ?_⟩
    obtain ⟨p, hp, rfl⟩ := List.mem_map.1 hy
    simp at hz
    have := (h.el p).1 hp
    rw [e, hz, hl] at this
    exact absurd this.2.1 (by decide)
  · rw [List.mem_append, h.el, List.mem_singleton]
    by_cases e : y.1 = x
    · constructor
      · rintro (⟨_, h2, _⟩ | rfl)
        · rw [e, hl] at h2; cases h2
        · exact ⟨ha, by simp [sk_self], hb, rfl⟩
      · rintro ⟨_, _, _, h4⟩
        exact .inr (by obtain ⟨y1, y2⟩ := y; simp only at e h4; rw [e, h4])
    · have hs := sk_ne e
      simp only [hs, Bool.not_false, Bool.and_true]
      constructor
      · rintro (h | rfl)
        · exact h
        · exact absurd rfl e
      · exact .inl
theorem Part.no {a b : List Tx} {f : Bool} {left : Lit → Bool} {l : List (Tx × Bool)} (h : Part a b f left l) {x : Tx} (hb : x ∈ b) : Part a b f (fun k => left k && !k.sameKey (.string x)) l := by
  refine ⟨h.nd, fun y => ?_⟩
  rw [h.el]
  by_cases e : y.1 = x
  · rw [e]
    constructor
    · rintro ⟨_, _, h3, _⟩; exact absurd hb h3
    · rintro ⟨_, _, h3, _⟩; exact absurd hb h3
  · have hs := sk_ne e
    simp only [hs, Bool.not_false, Bool.and_true]
theorem Part.start {a b : List Tx} {f : Bool} {D : DataW Unit} (h : ∀ k, Maps.has D (.string k) = decide (k ∈ a)) : Part a b f (Maps.has D) [] := by
  refine ⟨by simp, fun y => ?_⟩
  rw [h]
  simp
  intro h1 h2; exact absurd h1 h2
theorem Part.done {a b : List Tx} {f : Bool} {left : Lit → Bool} {l : List (Tx × Bool)} (h : Part a b f left l) (hl : ∀ k, left k = false) : IsOnly a b f l := by
  refine ⟨h.nd, fun x => ?_⟩
  rw [h.el, hl]; simp
theorem owns_tight {w : World} {b n : Nat} {D : DataW Unit} (h : w.ownsMap Try.prog 9 unitElem b n D) : w.ownsMap Try.prog 9 unitElem b (Maps.size D) D ∧ Maps.size D ≤ n := by
  obtain ⟨es, clock, hb, F, hs, rfl⟩ := h
  have e : Maps.size (DataW.map ((es.toList.map (WideElems.rg Try.prog 9 unitElem)).foldr DataW.insert []) : DataW Unit) = es.size := by
    rw [Maps.size_eq, length_sorted]; simp
  exact ⟨⟨es, clock, hb, F, Nat.le_of_eq e.symm, rfl⟩, by rw [e]; exact hs⟩
def OnQ (a b : List Tx) (f : Bool) (w : World) (e : Ending) (w' : World) : Prop := ∃ v l, e = .returned v ∧ IsOnly a b f l ∧ l.length ≤ 100000 ∧ w'.ownsRow (w.heap.size + 1) 47 4 v l.length (eC (bare l)) ∧ Below w.heap.size w w'
set_option maxRecDepth 100000 in
set_option maxHeartbeats 1000000 in
theorem only_nil (v : Value) (f : Bool) (b : List Tx) (w : World) : Calls Try.prog 22 #[.map none, v, .bool f] w (OnQ [] b f w) := by
  have hr := run_range_nilMap (P := Try.prog) w 52 9 65 Try.underlying52
  have hn := fun ty => run_next_nilMap (P := Try.prog) w ty 0 0 #[]
  have hb : Below w.heap.size w (w.alloc (.mapIter none 0 #[] 0)) := (Below.refl _ _).alloc (Nat.le_refl _) _
  have HB := Lib.hid hb
  clear hb
  go_enter Try.func22, Try.ntmps22
  go_wp2
  refine wp_loop_rounds 1 ?_
  rw [rounds_succ]
  go_wp2
  go_ret
  exact ⟨_, [], rfl, ⟨by simp, fun x => by simp⟩, by simp, World.ownsRow_nil _ _ _ _, HB.out⟩
set_option maxRecDepth 100000 in
set_option maxHeartbeats 4000000 in
theorem only_b (ba : Nat) (a : List Tx) (mb : Option Nat) (b : List Tx) (f : Bool) (w : World) (hA : SetF ba a w) (hB : SetO mb b w) :
    Calls Try.prog 22 #[.map (some ba), .map mb, .bool f] w (OnQ a b f w) := by
  obtain ⟨i0, hi, hz0, hz1, hz2⟩ := info_parts infoE
  obtain ⟨n, hn, D, hown0, hhas⟩ := hA
  obtain ⟨hown, hDn⟩ := owns_tight hown0
  have H0 : Hid (Part a b f (Maps.has D) []) := Part.start hhas
  have HAS := Lib.hid hhas
  have HMB := Lib.hid hB
  have hbl := hown.lt
  obtain ⟨N, hN⟩ : ∃ N, N = Maps.size D := ⟨_, rfl⟩
  rw [← hN] at hown hDn
  have HN := Lib.hid hN
  have HO := Lib.hid hown
  clear hown hown0 hhas hB hN
  go_enter Try.func22, Try.ntmps22
  go_wp2_with (at_range; refine wpList_range_own _ rfl _ _ rfl 9 65 strKeyed Try.underlying52 unitElem ba _ D rfl HO.out ?_; intro w2 hrg hg2 hs2; clear HO)
  try go_frame
  rw [← HN.out] at hrg
  obtain ⟨rb, hrb⟩ : ∃ rb, rb = w.heap.size := ⟨_, rfl⟩
  rw [← hrb] at hrg ⊢
  have HG2 : Hid (Below w.heap.size w w2) := ⟨hg2.os, hg2.tape, hg2.output, hg2.size, fun k hk => hg2.block k hk (by simp)⟩
  have HRB := Lib.hid hrb
  have HRG := Lib.hid hrg
  have HS2 : Hid (w.heap.size + 1 ≤ w2.heap.size) := by show _ ≤ _; omega
  clear hrg hg2 hs2 hrb
  go_loopw [7] (fun u wr => ∃ v l left ct, v = u ∧ Hid (Part a b f left l) ∧ Hid (wr.ranges Try.prog 9 unitElem ba rb N D left ct) ∧ l.length + ct ≤ N ∧ Hid (wr.ownsRow (w.heap.size + 1) 47 4 v l.length (eC (bare l))) ∧ Hid (Below w.heap.size w wr) ∧ Hid (w.heap.size + 1 ≤ wr.heap.size)) (fun _ wr => wr.rangeLeft ba rb)
  case atStart => exact ⟨_, [], _, _, rfl, H0, HRG, by simp, World.ownsRow_nil _ _ _ _, HG2, HS2⟩
  case round =>
    obtain ⟨v, l, left, ct, rfl, HP, HR, hlct, HOW, HBW, HSZ⟩ := hrel
    clear HRG HG2 H0 HS2
    go_wp2_with (at_next; refine wpList_next_set _ rfl _ rfl ba rb N D left ct rfl HR.out ?_ ?_)
    · intro _ hl0
      have HF := Lib.hid (HP.out.done hl0)
      have hlb : l.length ≤ 100000 := by omega
      go_wp2
      go_ret
      exact ⟨_, l, rfl, HF.out, hlb, HOW.out, HBW.out⟩
    · intro x w3 ct' hwx hlx hhx hrg3 hlt hg3 hs3 hen
      have hxa : x ∈ a := by have := HAS.out x; rw [hhx] at this; simpa using this.symm
      have HB3 : Hid (Below w.heap.size w w3) := ⟨hg3.os.trans HBW.out.os, hg3.tape.trans HBW.out.tape, hg3.output.trans HBW.out.output, by rw [hs3]; exact HBW.out.size, fun k hk => by
        rw [hg3.block k (Nat.lt_of_lt_of_le hk HBW.out.size) (fun e => by injection e with e; have := HRB.out; omega)]
        exact HBW.out.block k hk⟩
      have HO3 : Hid (w3.ownsRow (w.heap.size + 1) 47 4 v l.length (eC (bare l))) := HOW.out.kept hg3 (by
        cases e : v.ownBlock with
        | none => exact .inl rfl
        | some q =>
          refine .inr (fun e2 => ?_)
          injection e2 with e2
          have := (HOW.out.lt q e).1
          have := HRB.out
          omega)
      obtain ⟨W4, hW4, hk4, hb4⟩ := new0 w3 65
      have hsz3 : w.heap.size + 1 ≤ w3.heap.size := by rw [hs3]; exact HSZ.out
      have HR4 : Hid (W4.ranges Try.prog 9 unitElem ba rb N D (fun k => left k && !k.sameKey (.string x)) ct') := by rw [hW4]; exact hrg3.alloc _
      have HB4 : Hid (Below w.heap.size w W4) := HB3.out.trans (hb4.mono HB3.out.size)
      have HO4 : Hid (W4.ownsRow (w.heap.size + 1) 47 4 v l.length (eC (bare l))) := own_go HO3.out hb4
      have HLT : Hid (ct' < wr.rangeLeft ba rb) := by show _ < _; rw [HR.out.left_eq]; exact hlt
      have hlk : (Instr.lookup 52 (.map mb) (.string (mkS x)) true).run Try.prog w3 = .ok (.tuple #[.agg #[], .bool (decide (x ∈ b))]) w3 := (HMB.out.go HB3.out).look hwx
      have HW4 := Lib.hid hW4
      have HS4 : Hid (w.heap.size + 1 ≤ W4.heap.size) := Nat.le_trans hsz3 hb4.size
      by_cases hxb : x ∈ b
      · have HP4 := Lib.hid (HP.out.no hxb)
        rw [decide_eq_true hxb] at hlk
        clear hW4 hk4 hb4 hrg3 hg3 hs3 hsz3 hwx hlx hhx HP HR HOW HBW HSZ HO3
        go_upto_region 5 with (fail)
        go_wp2
        rw [← HW4.out]
        go_roundw
        case rel => exact ⟨_, l, _, ct', rfl, HP4, HR4, by omega, HO4, HB4, HS4⟩
        case measure => rw [HR4.out.left_eq]; exact HLT.out
      · have HP4 := Lib.hid (HP.out.yes hlx hxa hxb)
        rw [decide_eq_false hxb] at hlk
        obtain ⟨WB, hWB, hkB, hbB⟩ := new4 W4 (.int .i64 0) (.int .i64 0) (.string (mkS x)) (.bool f) 47
        have HOB := Lib.hid (own_go HO4.out hbB)
        have HCB : Hid (∀ j u, (encE (0, 0, x, f))[j]? = some u → WB.cell? ((⟨W4.heap.size, 0, none⟩ : Addr).add j) = some u) := World.news_of_block (cs := #[.int .i64 0, .int .i64 0, .string (mkS x), .bool f]) hkB
        have HRB4 : Hid (WB.ranges Try.prog 9 unitElem ba rb N D (fun k => left k && !k.sameKey (.string x)) ct') := by rw [hWB]; exact HR4.out.alloc _
        have HBB : Hid (Below w.heap.size w WB) := HB4.out.trans (hbB.mono HB4.out.size)
        have HWB := Lib.hid hWB
        have d1 : Hid (l.length + 1 ≤ maxLen) := by show _ ≤ _; unfold maxLen; omega
        have d2 : Hid ((l.length + 1) * 40 ≤ 140737488355328) := by show _ ≤ _; omega
        have d3 : Hid (w.heap.size + 1 ≤ WB.heap.size) := Nat.le_trans HS4.out hbB.size
        clear hW4 hk4 hb4 hrg3 hg3 hs3 hsz3 hwx hlx hhx HP HR HOW HBW HSZ HO3 hWB hkB hbB
        go_upto_region 5 with (fail)
        go_upto_region 7 with (fail)
        rw [← HW4.out]
        clear hen hlk
        go_wp2_with (at_builtin; rw [← HWB.out]; refine wpList_append_lies _ rfl _ _ 29 rfl (w.heap.size + 1) 47 i0 _ 4 40 Try.underlying29 hi hz0 hz1 hz2 rfl (by decide) _ _ _ rfl HOB.out ⟨W4.heap.size, 0, none⟩ 1 1 (encE (0, 0, x, f)) rfl rfl HCB.out (encE_ok _) (by decide) d1.out d2.out d3.out _ rfl ?_)
        intro g cap w5 hown5 hgr5 hat5 hlt5
        have HO5 : Hid (w5.ownsRow (w.heap.size + 1) 47 4 (.slice (some ⟨g, 0, none⟩) (l.length + 1) cap) (l ++ [(x, f)]).length (eC (bare (l ++ [(x, f)])))) := by
          show World.ownsRow _ _ _ _ _ _ _
          rw [List.length_append, show bare (l ++ [(x, f)]) = bare l ++ [(0, 0, x, f)] by simp [bare], eC_snoc]; exact hown5
        have hvr : v.ownBlock ≠ some rb ∧ v.ownBlock ≠ some ba ∧ (∀ k, v.ownBlock = some k → w.heap.size ≤ k) := by
          refine ⟨fun e => ?_, fun e => ?_, fun k e => ?_⟩
          · have := (HOB.out.lt _ e).1; have := HRB.out; omega
          · have := (HOB.out.lt _ e).1; omega
          · have := (HOB.out.lt _ e).1; omega
        have HR5 := Lib.hid (HRB4.out.kept hgr5 (Ne.symm hvr.2.1) (Ne.symm hvr.1))
        have HB5 : Hid (Below w.heap.size w w5) := HBB.out.trans ⟨hgr5.os, hgr5.tape, hgr5.output, hgr5.size, fun k hk => hgr5.block k (Nat.lt_of_lt_of_le hk HBB.out.size) (fun e => by have := hvr.2.2 k e.symm; omega)⟩
        have HS5 : Hid (w.heap.size + 1 ≤ w5.heap.size) := Nat.le_trans d3.out hgr5.size
        clear hown5 hgr5 hat5 hlt5 hvr HOB HCB HRB4 HBB
        go_wp2
        go_roundw
        case rel => exact ⟨_, l ++ [(x, f)], _, ct', rfl, HP4, HR5, by simp; omega, HO5, HB5, HS5⟩
        case measure => rw [HR5.out.left_eq]; exact HLT.out
theorem only_c (ma : Option Nat) (a : List Tx) (mb : Option Nat) (b : List Tx) (f : Bool) (w : World) (hA : SetO ma a w) (hB : SetO mb b w) :
    Calls Try.prog 22 #[.map ma, .map mb, .bool f] w (OnQ a b f w) := by
  rcases hA with ⟨rfl, rfl⟩ | ⟨ba, rfl, hA⟩
  · exact only_nil _ f b w
  · exact only_b ba a mb b f w hA hB
end Go.Proofs.Ytneogelhdikcaaa.Nt
