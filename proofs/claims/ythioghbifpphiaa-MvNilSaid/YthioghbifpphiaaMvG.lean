/- Compact at the one key; no other condition. -/
import Derived.Test.YthioghbifpphiaaMvF
namespace Go.Proofs.Ythioghbifpphiaa.Mv
open Go.RowKit Go.Lib Go.Maps
open Go.Proofs.Ythioghbifpphiaa.Cn
set_option linter.unusedSimpArgs false
set_option linter.unusedVariables false

/-- a pointer of the map, as a value -/
def pv : Option Nat → Value
  | none => .pointer none
  | some c => .pointer (some ⟨c, 0, none⟩)
def pdo : Option Nat → DataW Unit
  | none => pd (-1)
  | some c => pd (c : Int)
theorem ptrE_all {v : Value} {y : DataW Unit × List MemPlace} (h : ptrE v = some y) : ∃ o, v = pv o ∧ y.1 = pdo o := by
  unfold ptrE at h
  split at h
  · injection h with h; exact ⟨none, rfl, by rw [← h]; rfl⟩
  · rename_i a
    split at h
    · rename_i e
      injection h with h
      exact ⟨some a.block, by rw [e]; rfl, by rw [← h]; rfl⟩
    · cases h
  · cases h
theorem pv_inj {o p : Option Nat} (h : pv o = pv p) : o = p := by
  cases o <;> cases p <;> simp [pv] at h ⊢
  exact h
theorem pdo_is {o : Option Nat} {d : Nat} (h : pdo o = pd (d : Int)) : o = some d := by
  cases o with
  | none => unfold pdo pd at h; injection h with h; injection h with _ h; omega
  | some c => unfold pdo pd at h; injection h with h; injection h with _ h; rw [show c = d by omega]
theorem keyOf_str_inv {key : Value} {kl : Lit} (h : keyOf Try.prog 9 key = some kl) : ∃ x : ByteArray, key = .string x ∧ kl = .string x.data.toList := by
  obtain ⟨s, h1, h2, _⟩ := Go.WideMaps.string_of_keyOf Try.underlying9 h
  exact ⟨s, h1, h2⟩
section
variable {P : Program} (w : World) {ops : Array Oper} {rest : List Oper} {o : Oper} {a : Act} {Q : Exit → Act → World → Prop}
/-- the step of a range over the map of chains -/
theorem wpList_next_ptr (hg : o.guard = none) (it : Operand) (hop : o.op = Op.next it false)
    (b r n : Nat) (D : DataW Unit) (left : Lit → Bool) (cnt : Nat) (hit : a.eval it = .pointer (some ⟨r, 0, none⟩)) (h : w.ranges Try.prog 9 ptrE b r n D left cnt)
    (hDone : cnt = 0 → (∀ kl, left kl = false) → wpList Try.prog ops Q rest (a.put o.dst (.tuple #[.bool false])) w)
    (hMore : ∀ (x : ByteArray) (p : Option Nat) (w' : World) (cnt' : Nat), left (.string x.data.toList) = true → (∀ zd, D.atKey (.string x.data.toList) zd = pdo p) → w'.ranges Try.prog 9 ptrE b r n D (fun k => left k && !k.sameKey (.string x.data.toList)) cnt' → cnt' < cnt →
      w.grownBy w' (some r) → w'.heap.size = w.heap.size → (Instr.entry (.pointer (some ⟨r, 0, none⟩))).run Try.prog w' = .ok (.tuple #[.string x, pv p]) w' → wpList Try.prog ops Q rest (a.put o.dst (.tuple #[.bool true, .string x, pv p])) w') :
    wpList Try.prog ops Q (o :: rest) a w :=
  wpList_next_ranges (α := ByteArray) (β := Option Nat) w hg it hop 9 law ptrE (fun x => .string x) pv (fun key kl hkey => by obtain ⟨x, rfl, _⟩ := keyOf_str_inv hkey; exact ⟨x, rfl⟩) (fun v y hv => by obtain ⟨c, rfl, _⟩ := ptrE_all hv; exact ⟨c, rfl⟩)
    b r n D left cnt hit h hDone (fun x c kl y w' cnt' hkey hlk hv hat hrg hlt hgr hsz hen => by
      obtain ⟨x', ex, rfl⟩ := keyOf_str_inv hkey
      cases ex
      obtain ⟨c', ec, he⟩ := ptrE_all hv
      have := pv_inj ec
      subst this
      exact hMore x c w' cnt' hlk (fun zd => (hat zd).trans he) hrg hlt hgr hsz hen)
end
theorem has_one {d : Nat} {k : Lit} : Maps.has (dOne d) k = true → k = kl := by
  intro h
  by_cases e : k = kl
  · exact e
  · unfold dOne at h
    rw [has_put_other e] at h
    cases h
theorem ranges_keep {w w' : World} {b r n ct : Nat} {D : DataW Unit} {left : Lit → Bool} (h : w.ranges Try.prog 9 ptrE b r n D left ct) (hb : w'.heap[b]? = w.heap[b]?) (hr : w'.heap[r]? = w.heap[r]?) : w'.ranges Try.prog 9 ptrE b r n D left ct := by
  obtain ⟨es, c1, c2, ar, c3, h1, F, hs, hD, h2, rest⟩ := h
  exact ⟨es, c1, c2, ar, c3, hb.trans h1, F, hs, hD, hr.trans h2, rest⟩
/-- the loop's state: what is left, and the store ahead of the one step or behind it -/
structure CpI (B c b d N r : Nat) (gb : Option Nat) (l : List Ver) (rev q vs : Int) (w1 wr : World) (left : Lit → Bool) (ct : Nat) (done : Bool) : Prop where
  rg : wr.ranges Try.prog 9 ptrE b r 1 (dOne d) left ct
  lf : ∀ k, left k = true → k = kl ∧ done = false
  no : done = false → left kl = true
  s0 : done = false → S1 B c b d N gb l rev q vs wr
  s1 : done = true → ∃ gb', S1 B c b d N gb' (cmp l q) rev q (vs - spr l q) wr
  be : Below B w1 wr
  sz : r < wr.heap.size
  ot : ∀ k, k < w1.heap.size → k ≠ c → k ≠ d → some k ≠ gb → wr.heap[k]? = w1.heap[k]?
theorem CpI.dn {B c b d N r ct : Nat} {gb : Option Nat} {l : List Ver} {rev q vs : Int} {w1 wr : World} {left : Lit → Bool} {done : Bool} (h : CpI B c b d N r gb l rev q vs w1 wr left ct done) (n : Nat) : CpI B c b d N r gb l rev q vs w1 (wr.drewN n) left ct done := by
  have hb : Below wr.heap.size wr (wr.drewN n) := bdrN wr n
  exact ⟨ranges_keep h.rg rfl rfl, h.lf, h.no, fun e => (h.s0 e).kept hb, fun e => by obtain ⟨gb', h'⟩ := h.s1 e; exact ⟨gb', h'.kept hb⟩, h.be.trans ⟨rfl, rfl, rfl, Nat.le_refl _, fun _ _ => rfl⟩, h.sz, h.ot⟩
set_option maxRecDepth 100000 in
set_option maxHeartbeats 8000000 in
theorem compact_1 {B c b d N : Nat} {gb : Option Nat} {l : List Ver} {rev fl vs : Int} {w : World} (q : Int) (h : S1 B c b d N gb l rev fl vs w) (hN : N ≤ 1000) (hBs : B ≤ w.heap.size) (h1 : fl ≤ q) (h2 : q ≤ rev) (hne : (cmp l q).length ≠ 0) (hvs : 0 ≤ vs ∧ vs ≤ 100) (hsp : spr l q ≤ 100) :
    Calls Try.prog 22 #[.pointer (some ⟨c, 0, none⟩), .int .i64 q] w fun e w' => e = .returned (.int .i64 0) ∧ (∃ gb', S1 B c b d N gb' (cmp l q) rev q (vs - spr l q) w') ∧ Below B w w' ∧ ∀ k, k < w.heap.size → k ≠ c → k ≠ d → some k ≠ gb → w'.heap[k]? = w.heap[k]? := by
  obtain ⟨c0, c1, c2, c3, c4, c5, c6, c7⟩ := cells8 h.hs
  have f3 := frz h.hs 3
  have d1 : ¬ q < fl := by omega
  have d2 : ¬ q > rev := by omega
  have hlo := h.lo
  obtain ⟨W1, hW1⟩ : ∃ W1, W1 = w.setCell ⟨c, 3, none⟩ (.int .i64 q) := ⟨_, rfl⟩
  have o1 : ∀ k, k ≠ c → W1.heap[k]? = w.heap[k]? := fun k hk => by rw [hW1]; exact set_oth _ _ _ _ hk
  have H1 : Hid (S1 B c b d N gb l rev q vs W1) := by
    have hs1 : W1.heap[c]? = some (obS rev q (.map (some b)) 1 vs) := by rw [hW1]; exact set3f h.hs q
    have hc1 : IsCh B d N gb l W1 := by
      obtain ⟨v, all, k, g1, g2, g3, g4, g5, g6⟩ := h.hc
      refine ⟨v, all, k, g1, g2, g3, g4, (o1 d h.cd.symm).trans g5, ?_⟩
      rw [hW1]
      exact World.ownsRow.kept (row := some c) g6 ⟨rfl, rfl, rfl, by simp [World.setCell], fun q hq hn => set_oth _ _ _ _ (fun e => hn (by rw [e]))⟩ (.inr (fun e => h.gc (by rw [← g1]; exact e)))
    exact ⟨hs1, h.hm.keep (o1 b h.cb.symm), hc1, h.cb, h.cd, h.bd, h.gc, h.gb', h.asc, h.lo⟩
  have HB1 : Hid (Below B w W1) := by rw [hW1]; exact Lib.hid (bel_set w hlo.1 3 _)
  have hz1 : w.heap.size = W1.heap.size := by rw [hW1]; simp [World.setCell]
  have hBs1 : B ≤ W1.heap.size := by omega
  have HW1 := Lib.hid hW1
  have HO1 : Hid ((∀ k, k ≠ c → W1.heap[k]? = w.heap[k]?) ∧ w.heap.size = W1.heap.size) := ⟨o1, hz1⟩
  clear hW1 h1 h2 hz1 o1 hBs h
  go_enter Try.func22, Try.ntmps22
  go_upto_region 6 with (fail)
  rw [← HW1.out]
  clear c0 c1 c2 c3 c4 c5 c6 c7 f3 d1 d2
  obtain ⟨c0, c1, c2, c3, c4, c5, c6, c7⟩ := cells8 H1.out.hs
  go_wp2_with (at_range; refine wpList_range_own _ rfl _ _ rfl 9 80 law Try.underlying62 ptrE b _ (dOne d) rfl H1.out.hm ?_; intro w2 hrg hg2 hs2; clear c0 c1 c2 c3 c4 c5 c6 c7)
  go_frame
  obtain ⟨rb, hrb⟩ : ∃ rb, rb = W1.heap.size := ⟨_, rfl⟩
  rw [← hrb] at hrg ⊢
  have hb2 : Below W1.heap.size W1 w2 := ⟨hg2.os, hg2.tape, hg2.output, hg2.size, fun k hk => hg2.block k hk (by simp)⟩
  have HI0 : Hid (CpI B c b d N rb gb l rev q vs W1 w2 (Maps.has (dOne d)) (Maps.size (dOne d)) false) := ⟨hrg, fun k hk => ⟨has_one hk, rfl⟩, fun _ => rfl, fun _ => H1.out.kept hb2, fun e => (by cases e), hb2.mono hBs1, by rw [hs2, hrb]; omega, fun k hk _ _ _ => hb2.block k hk⟩
  have HRB : Hid (c < rb ∧ b < rb ∧ d < rb ∧ (∀ g, gb = some g → g < rb) ∧ rb = W1.heap.size) := by
    rw [hrb]
    exact ⟨(Array.getElem?_eq_some_iff.1 H1.out.hs).1, H1.out.hm.lt, H1.out.hc.lt, fun g e => (H1.out.hc.base g e).2, rfl⟩
  clear hrg hg2 hs2 hb2 hrb
  go_loopw [5] (fun _ wr => ∃ left ct done, Hid (CpI B c b d N rb gb l rev q vs W1 wr left ct done)) (fun _ wr => wr.rangeLeft b rb)
  case atStart => exact ⟨_, _, _, HI0⟩
  case round =>
    clear HI0
    obtain ⟨left, ct, done, HI⟩ := hrel
    go_wp2_with (at_next; refine wpList_next_ptr _ rfl _ rfl b rb _ (dOne d) left ct rfl HI.out.rg ?_ ?_)
    · intro _ hl0
      have hdn : done = true := by
        cases hd : done with
        | true => rfl
        | false => have := HI.out.no hd; rw [hl0] at this; cases this
      have HF := Lib.hid (HI.out.s1 hdn)
      go_wp2
      go_ret
      exact ⟨rfl, HF.out, HB1.out.trans HI.out.be, fun k h1 h2 h3 h4 => (HI.out.ot k (by rw [← HO1.out.2]; exact h1) h2 h3 h4).trans (HO1.out.1 k h2)⟩
    · intro x p w3 ct' hlx hat hrg3 hlt hg3 hs3 hen
      obtain ⟨hkx, hd0⟩ := HI.out.lf _ hlx
      rw [hkx] at hat hrg3
      obtain rfl : p = some d := pdo_is ((hat (pd (-1))).symm.trans rfl)
      rw [show pv (some d) = .pointer (some ⟨d, 0, none⟩) from rfl] at hen ⊢
      have hlo := H1.out.lo
      have hc3 : ∀ k, k < wr.heap.size → k ≠ rb → w3.heap[k]? = wr.heap[k]? := fun k h1 h2 => hg3.block k h1 (fun e => h2 (by injection e))
      have hS0 := HI.out.s0 hd0
      have hszr := HI.out.sz
      have hrb := HRB.out
      have hS3 : S1 B c b d N gb l rev q vs w3 := by
        refine ⟨(hc3 c (by omega) (by omega)).trans hS0.hs, hS0.hm.keep (hc3 b (by omega) (by omega)), ?_, hS0.cb, hS0.cd, hS0.bd, hS0.gc, hS0.gb', hS0.asc, hS0.lo⟩
        obtain ⟨v, all, k, g1, g2, g3, g4, g5, g6⟩ := hS0.hc
        exact ⟨v, all, k, g1, g2, g3, g4, (hc3 d (by omega) (by omega)).trans g5, World.ownsRow.kept (row := some rb) g6 hg3 (.inr (fun e => by rw [g1] at e; have := hrb.2.2.2.1 rb e; omega))⟩
      have HS3 := Lib.hid hS3
      have HB3 : Hid (Below B W1 w3) := by
        have hr : B ≤ rb := by omega
        exact HI.out.be.trans (bel_grown hg3 hr (by omega))
      have HRG3 := Lib.hid hrg3
      have HZ3 : Hid (w3.heap.size = wr.heap.size) := hs3
      have HC3 := Lib.hid hc3
      have hq : IntKind.i64.wrap (vs - (spr l q : Nat)) = vs - (spr l q : Nat) := by rw [IntKind.wrap_i64]; omega
      have HCC : Hid (Calls Try.prog 36 #[.pointer (some ⟨d, 0, none⟩), .int .i64 q] w3.drew (PtQ B d N gb (cmp l q) (spr l q : Nat) w3.drew)) := Compact_c B d N gb l q w3.drew (hS3.hc.go (bdr w3)) (by omega) (show B ≤ w3.heap.size by omega) hS3.asc
      unfold PtQ at HCC
      have HLT : Hid (w3.rangeLeft b rb = ct' ∧ ct' < wr.rangeLeft b rb) := ⟨hrg3.left_eq, by rw [HI.out.rg.left_eq]; exact hlt⟩
      clear hat hlx hkx hd0 hrg3 hlt hg3 hs3 hc3 hS0 hszr hrb hS3 hlo
      go_upto_region 9 with (fail)
      clear hen
      obtain ⟨c0, c1, c2, c3, c4, c5, c6, c7⟩ := cells8 HS3.out.hs
      go_region_with (go_at_call 36; (with_reducible refine HCC.out.mono ?_); rintro e w4 ⟨rfl, gb4, hc4, hch4, hnb4⟩; have HC4 := Lib.hid hc4; have HH4 := Lib.hid hch4; have HN4 := Lib.hid hnb4; have HS4 : Hid (w4.heap[c]? = some (obS rev q (.map (some b)) 1 vs)) := (hch4.block c (show c < w3.heap.size from (Array.getElem?_eq_some_iff.1 HS3.out.hs).1) HS3.out.cd (fun e => HS3.out.gc e.symm)).trans HS3.out.hs; have k6 := cell_of_row _ _ 6 _ _ _ HS4.out; have f6 := frz HS4.out 6; clear hc4 hch4 hnb4)
      all_goals
        clear c0 c1 c2 c3 c4 c5 c6 c7 k6 f6
        obtain ⟨W5, hW5⟩ : ∃ W5, W5 = w4.setCell ⟨c, 6, none⟩ (.int .i64 (vs - (spr l q : Nat))) := ⟨_, rfl⟩
        have o5 : ∀ k, k ≠ c → W5.heap[k]? = w4.heap[k]? := fun k hk => by rw [hW5]; exact set_oth _ _ _ _ hk
        have hz5 : W5.heap.size = w4.heap.size := by rw [hW5]; simp [World.setCell]
        have hsz4 : w3.heap.size ≤ w4.heap.size := HH4.out.size
        have k4 : ∀ k, k < w3.heap.size → k ≠ d → some k ≠ gb → w4.heap[k]? = w3.heap[k]? := fun k h1 h2 h3 => HH4.out.block k h1 h2 h3
        have hrb := HRB.out
        have hs3 := HS3.out
        have hszr := HI.out.sz
        have hz3 := HZ3.out
        have hgbn : ∀ g, gb4 = some g → gb = some g ∨ w3.heap.size ≤ g := fun g hg => by
          rcases HN4.out with e | e | ⟨q, e, hq⟩
          · exact .inl (by rw [← e]; exact hg)
          · rw [e] at hg; cases hg
          · rw [e] at hg; injection hg with hg; rw [← hg]; exact .inr hq
        have hgbc : gb4 ≠ some c := fun e => by
          rcases hgbn c e with h | h
          · exact hs3.gc h
          · omega
        have hgbb : gb4 ≠ some b := fun e => by
          rcases hgbn b e with h | h
          · exact hs3.gb' h
          · omega
        have HS5 : Hid (S1 B c b d N gb4 (cmp l q) rev q (vs - (spr l q : Nat)) W5) := by
          refine ⟨?_, hs3.hm.keep ((o5 b hs3.cb.symm).trans (k4 b (by omega) hs3.bd (fun e => hs3.gb' e.symm))), ?_, hs3.cb, hs3.cd, hs3.bd, hgbc, hgbb, cmp_asc hs3.asc q, hs3.lo⟩
          · rw [hW5]; exact set6v HS4.out _
          · obtain ⟨v, all, k, g1, g2, g3, g4, g5, g6⟩ := HC4.out
            refine ⟨v, all, k, g1, g2, g3, g4, (o5 d hs3.cd.symm).trans g5, ?_⟩
            rw [hW5]
            exact World.ownsRow.kept (row := some c) g6 ⟨rfl, rfl, rfl, by simp [World.setCell], fun q hq hn => set_oth _ _ _ _ (fun e => hn (by rw [e]))⟩ (.inr (fun e => hgbc (by rw [← g1]; exact e)))
        have HB5 : Hid (Below B W1 W5) := by
          have h4 := HH4.out.below (B := B) (show B ≤ w3.heap.size by omega) hs3.lo.2.2 (fun g e => (hs3.hc.base g e).1)
          have h4' : Below B w3 w4 := ⟨h4.os, h4.tape, h4.output, h4.size, h4.block⟩
          rw [hW5]
          exact Lib.hid ((HB3.out.trans h4').trans (bel_set w4 hs3.lo.1 6 _))
        have HRG5 : Hid (W5.ranges Try.prog 9 ptrE b rb 1 (dOne d) (fun k => left k && !k.sameKey kl) ct') :=
          ranges_keep HRG3.out ((o5 b hs3.cb.symm).trans (k4 b (by omega) hs3.bd (fun e => hs3.gb' e.symm))) ((o5 rb (by omega)).trans (k4 rb (by omega) (by omega) (fun e => by have := hrb.2.2.2.1 rb e.symm; omega)))
        have HI5 : Hid (CpI B c b d N rb gb l rev q vs W1 W5 (fun k => left k && !k.sameKey kl) ct' true) := ⟨HRG5.out, fun k hk => by
          have h1 : left k = true := by cases hk1 : left k with
            | true => rfl
            | false => rw [hk1] at hk; cases hk
          have h2 := (HI.out.lf k h1).1
          subst h2
          rw [show Lit.sameKey kl kl = true from rfl] at hk
          simp at hk, fun e => (by cases e), fun e => (by cases e), fun _ => ⟨gb4, HS5.out⟩, HB5.out, by omega, fun k h1 h2 h3 h4 => by
          have hb := HI.out.be.size
          have hr5 := hrb.2.2.2.2
          rw [o5 k h2, k4 k (by omega) h3 h4, HC3.out k (by omega) (by omega)]
          exact HI.out.ot k h1 h2 h3 h4⟩
        have HM5 : Hid (W5.rangeLeft b rb < wr.rangeLeft b rb) := by
          show _ < _
          rw [HRG5.out.left_eq]; have := HLT.out.2; exact this
        have HLN := Lib.hid (Len_c B d N gb4 (cmp l q) W5 HS5.out.hc (by omega))
        have hln : (((cmp l q).length : Int) == 0) = false := by simpa using hne
        clear o5 hz5 hsz4 k4 hrb hs3 hszr hz3 hgbn hgbc hgbb
        rw [← hW5]
        clear hW5
        go_wp2_with (go_at_call 37; (with_reducible refine HLN.out.mono ?_); rintro e w6 ⟨rfl, n6, rfl⟩)
        go_roundw
        case rel => exact ⟨_, ct', true, Lib.hid (HI5.out.dn n6)⟩
        case measure => exact HM5.out
end Go.Proofs.Ythioghbifpphiaa.Mv
