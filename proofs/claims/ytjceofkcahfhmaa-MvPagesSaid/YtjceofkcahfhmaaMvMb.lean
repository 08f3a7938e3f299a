/- Contracts and plain mathematics of some packages' functions, laid together; conditions as each one says. -/
import Derived.Test.YtjceofkcahfhmaaMvMa
namespace Go.Proofs.Ytjceofkcahfhmaa.Mv
open Go.RowKit Go.Lib Go.Maps
open Go.Proofs.Ytjceofkcahfhmaa.Cn
set_option linter.unusedSimpArgs false
set_option linter.unusedVariables false

/-- a pointer of the map, as a value -/
def pv : Option Nat → Value
  | none => .pointer none
  | some c => .pointer (some ⟨c, 0, none⟩)
def pdo : Option Nat → DataW Unit
  | none => pd (-1)
  | some c => pd (c : Int)
theorem ptrE_all {v : Value} {y : DataW Unit × List MemPlace} (h : ptrE v = some y) : ∃ o, v = pv o ∧ y.1 = pdo o := by
  unfold ptrE at h
  split at h
  · injection h with h; exact ⟨none, rfl, by rw [← h]; rfl⟩
  · rename_i a
    split at h
    · rename_i e
      injection h with h
      exact ⟨some a.block, by rw [e]; rfl, by rw [← h]; rfl⟩
    · cases h
  · cases h
theorem pv_inj {o p : Option Nat} (h : pv o = pv p) : o = p := by
  cases o <;> cases p <;> simp [pv] at h ⊢
  exact h
theorem pdo_is {o : Option Nat} {d : Nat} (h : pdo o = pd (d : Int)) : o = some d := by
  cases o with
  | none => unfold pdo pd at h; injection h with h; injection h with _ h; omega
  | some c => unfold pdo pd at h; injection h with h; injection h with _ h; rw [show c = d by omega]
theorem keyOf_str_inv {key : Value} {kl : Lit} (h : keyOf Try.prog 9 key = some kl) : ∃ x : ByteArray, key = .string x ∧ kl = .string x.data.toList := by
  obtain ⟨s, h1, h2, _⟩ := Go.WideMaps.string_of_keyOf Try.underlying9 h
  exact ⟨s, h1, h2⟩
section
variable {P : Program} (w : World) {ops : Array Oper} {rest : List Oper} {o : Oper} {a : Act} {Q : Exit → Act → World → Prop}
/-- the step of a range over the map of chains -/
theorem wpList_next_ptr (hg : o.guard = none) (it : Operand) (hop : o.op = Op.next it false)
    (b r n : Nat) (D : DataW Unit) (left : Lit → Bool) (cnt : Nat) (hit : a.eval it = .pointer (some ⟨r, 0, none⟩)) (h : w.ranges Try.prog 9 ptrE b r n D left cnt)
    (hDone : cnt = 0 → (∀ kl, left kl = false) → wpList Try.prog ops Q rest (a.put o.dst (.tuple #[.bool false])) w)
    (hMore : ∀ (x : ByteArray) (p : Option Nat) (w' : World) (cnt' : Nat), left (.string x.data.toList) = true → (∀ zd, D.atKey (.string x.data.toList) zd = pdo p) → w'.ranges Try.prog 9 ptrE b r n D (fun k => left k && !k.sameKey (.string x.data.toList)) cnt' → cnt' < cnt →
      w.grownBy w' (some r) → w'.heap.size = w.heap.size → (Instr.entry (.pointer (some ⟨r, 0, none⟩))).run Try.prog w' = .ok (.tuple #[.string x, pv p]) w' → wpList Try.prog ops Q rest (a.put o.dst (.tuple #[.bool true, .string x, pv p])) w') :
    wpList Try.prog ops Q (o :: rest) a w :=
  wpList_next_ranges (α := ByteArray) (β := Option Nat) w hg it hop 9 law ptrE (fun x => .string x) pv (fun key kl hkey => by obtain ⟨x, rfl, _⟩ := keyOf_str_inv hkey; exact ⟨x, rfl⟩) (fun v y hv => by obtain ⟨c, rfl, _⟩ := ptrE_all hv; exact ⟨c, rfl⟩)
    b r n D left cnt hit h hDone (fun x c kl y w' cnt' hkey hlk hv hat hrg hlt hgr hsz hen => by
      obtain ⟨x', ex, rfl⟩ := keyOf_str_inv hkey
      cases ex
      obtain ⟨c', ec, he⟩ := ptrE_all hv
      have := pv_inj ec
      subst this
      exact hMore x c w' cnt' hlk (fun zd => (hat zd).trans he) hrg hlt hgr hsz hen)
end
theorem has_one {d : Nat} {k : Lit} : Maps.has (dOne d) k = true → k = kl := by
  intro h
  by_cases e : k = kl
  · exact e
  · unfold dOne at h
    rw [has_put_other e] at h
    cases h
theorem ranges_keep {w w' : World} {b r n ct : Nat} {D : DataW Unit} {left : Lit → Bool} (h : w.ranges Try.prog 9 ptrE b r n D left ct) (hb : w'.heap[b]? = w.heap[b]?) (hr : w'.heap[r]? = w.heap[r]?) : w'.ranges Try.prog 9 ptrE b r n D left ct := by
  obtain ⟨es, c1, c2, ar, c3, h1, F, hs, hD, h2, rest⟩ := h
  exact ⟨es, c1, c2, ar, c3, hb.trans h1, F, hs, hD, hr.trans h2, rest⟩
/-- the loop's state: what is left, and the store ahead of the one step or behind it -/
structure CpI (B c b d N r : Nat) (gb : Option Nat) (l : List Ver) (rev q vs : Int) (w1 wr : World) (left : Lit → Bool) (ct : Nat) (done : Bool) : Prop where
  rg : wr.ranges Try.prog 9 ptrE b r 1 (dOne d) left ct
  lf : ∀ k, left k = true → k = kl ∧ done = false
  no : done = false → left kl = true
  s0 : done = false → S1 B c b d N gb l rev q vs wr
  s1 : done = true → ∃ gb', S1 B c b d N gb' (cmp l q) rev q (vs - spr l q) wr
  be : Below B w1 wr
  sz : r < wr.heap.size
  ot : ∀ k, k < w1.heap.size → k ≠ c → k ≠ d → some k ≠ gb → wr.heap[k]? = w1.heap[k]?
theorem CpI.dn {B c b d N r ct : Nat} {gb : Option Nat} {l : List Ver} {rev q vs : Int} {w1 wr : World} {left : Lit → Bool} {done : Bool} (h : CpI B c b d N r gb l rev q vs w1 wr left ct done) (n : Nat) : CpI B c b d N r gb l rev q vs w1 (wr.drewN n) left ct done := by
  have hb : Below wr.heap.size wr (wr.drewN n) := bdrN wr n
  exact ⟨ranges_keep h.rg rfl rfl, h.lf, h.no, fun e => (h.s0 e).kept hb, fun e => by obtain ⟨gb', h'⟩ := h.s1 e; exact ⟨gb', h'.kept hb⟩, h.be.trans ⟨rfl, rfl, rfl, Nat.le_refl _, fun _ _ => rfl⟩, h.sz, h.ot⟩
set_option maxRecDepth 100000 in
set_option maxHeartbeats 8000000 in
theorem compact_1 {B c b d N : Nat} {gb : Option Nat} {l : List Ver} {rev fl vs : Int} {w : World} (q : Int) (h : S1 B c b d N gb l rev fl vs w) (hN : N ≤ 1000) (hBs : B ≤ w.heap.size) (h1 : fl ≤ q) (h2 : q ≤ rev) (hne : (cmp l q).length ≠ 0) (hvs : 0 ≤ vs ∧ vs ≤ 100) (hsp : spr l q ≤ 100) :
    Calls Try.prog 23 #[.pointer (some ⟨c, 0, none⟩), .int .i64 q] w fun e w' => e = .returned (.int .i64 0) ∧ (∃ gb', S1 B c b d N gb' (cmp l q) rev q (vs - spr l q) w') ∧ Below B w w' ∧ ∀ k, k < w.heap.size → k ≠ c → k ≠ d → some k ≠ gb → w'.heap[k]? = w.heap[k]? := by
  obtain ⟨c0, c1, c2, c3, c4, c5, c6, c7⟩ := cells8 h.hs
  have f3 := frz h.hs 3
  have d1 : ¬ q < fl := by omega
  have d2 : ¬ q > rev := by omega
  have hlo := h.lo
  obtain ⟨W1, hW1⟩ : ∃ W1, W1 = w.setCell ⟨c, 3, none⟩ (.int .i64 q) := ⟨_, rfl⟩
  have o1 : ∀ k, k ≠ c → W1.heap[k]? = w.heap[k]? := fun k hk => by rw [hW1]; exact set_oth _ _ _ _ hk
  have H1 : Hid (S1 B c b d N gb l rev q vs W1) := by
    have hs1 : W1.heap[c]? = some (obS rev q (.map (some b)) 1 vs) := by rw [hW1]; exact set3f h.hs q
    have hc1 : IsCh B d N gb l W1 := by
      obtain ⟨v, all, k, g1, g2, g3, g4, g5, g6⟩ := h.hc
      refine ⟨v, all, k, g1, g2, g3, g4, (o1 d h.cd.symm).trans g5, ?_⟩
      rw [hW1]
      exact World.ownsRow.kept (row := some c) g6 ⟨rfl, rfl, rfl, by simp [World.setCell], fun q hq hn => set_oth _ _ _ _ (fun e => hn (by rw [e]))⟩ (.inr (fun e => h.gc (by rw [← g1]; exact e)))
    exact ⟨hs1, h.hm.keep (o1 b h.cb.symm), hc1, h.cb, h.cd, h.bd, h.gc, h.gb', h.asc, h.lo⟩
  have HB1 : Hid (Below B w W1) := by rw [hW1]; exact Lib.hid (bel_set w hlo.1 3 _)
  have hz1 : w.heap.size = W1.heap.size := by rw [hW1]; simp [World.setCell]
  have hBs1 : B ≤ W1.heap.size := by omega
  have HW1 := Lib.hid hW1
  have HO1 : Hid ((∀ k, k ≠ c → W1.heap[k]? = w.heap[k]?) ∧ w.heap.size = W1.heap.size) := ⟨o1, hz1⟩
  clear hW1 h1 h2 hz1 o1 hBs h
  go_enter Try.func23, Try.ntmps23
  go_upto_region 6 with (fail)
  rw [← HW1.out]
  clear c0 c1 c2 c3 c4 c5 c6 c7 f3 d1 d2
  obtain ⟨c0, c1, c2, c3, c4, c5, c6, c7⟩ := cells8 H1.out.hs
  go_wp2_with (at_range; refine wpList_range_own _ rfl _ _ rfl 9 77 law Try.underlying52 ptrE b _ (dOne d) rfl H1.out.hm ?_; intro w2 hrg hg2 hs2; clear c0 c1 c2 c3 c4 c5 c6 c7)
  go_frame
  obtain ⟨rb, hrb⟩ : ∃ rb, rb = W1.heap.size := ⟨_, rfl⟩
  rw [← hrb] at hrg ⊢
  have hb2 : Below W1.heap.size W1 w2 := ⟨hg2.os, hg2.tape, hg2.output, hg2.size, fun k hk => hg2.block k hk (by simp)⟩
  have HI0 : Hid (CpI B c b d N rb gb l rev q vs W1 w2 (Maps.has (dOne d)) (Maps.size (dOne d)) false) := ⟨hrg, fun k hk => ⟨has_one hk, rfl⟩, fun _ => rfl, fun _ => H1.out.kept hb2, fun e => (by cases e), hb2.mono hBs1, by rw [hs2, hrb]; omega, fun k hk _ _ _ => hb2.block k hk⟩
  have HRB : Hid (c < rb ∧ b < rb ∧ d < rb ∧ (∀ g, gb = some g → g < rb) ∧ rb = W1.heap.size) := by
    rw [hrb]
    exact ⟨(Array.getElem?_eq_some_iff.1 H1.out.hs).1, H1.out.hm.lt, H1.out.hc.lt, fun g e => (H1.out.hc.base g e).2, rfl⟩
  clear hrg hg2 hs2 hb2 hrb
  go_loopw [5] (fun _ wr => ∃ left ct done, Hid (CpI B c b d N rb gb l rev q vs W1 wr left ct done)) (fun _ wr => wr.rangeLeft b rb)
  case atStart => exact ⟨_, _, _, HI0⟩
  case round =>
    clear HI0
    obtain ⟨left, ct, done, HI⟩ := hrel
    go_wp2_with (at_next; refine wpList_next_ptr _ rfl _ rfl b rb _ (dOne d) left ct rfl HI.out.rg ?_ ?_)
    · intro _ hl0
      have hdn : done = true := by
        cases hd : done with
        | true => rfl
        | false => have := HI.out.no hd; rw [hl0] at this; cases this
      have HF := Lib.hid (HI.out.s1 hdn)
      go_wp2
      go_ret
      exact ⟨rfl, HF.out, HB1.out.trans HI.out.be, fun k h1 h2 h3 h4 => (HI.out.ot k (by rw [← HO1.out.2]; exact h1) h2 h3 h4).trans (HO1.out.1 k h2)⟩
    · intro x p w3 ct' hlx hat hrg3 hlt hg3 hs3 hen
      obtain ⟨hkx, hd0⟩ := HI.out.lf _ hlx
      rw [hkx] at hat hrg3
      obtain rfl : p = some d := pdo_is ((hat (pd (-1))).symm.trans rfl)
      rw [show pv (some d) = .pointer (some ⟨d, 0, none⟩) from rfl] at hen ⊢
      have hlo := H1.out.lo
      have hc3 : ∀ k, k < wr.heap.size → k ≠ rb → w3.heap[k]? = wr.heap[k]? := fun k h1 h2 => hg3.block k h1 (fun e => h2 (by injection e))
      have hS0 := HI.out.s0 hd0
      have hszr := HI.out.sz
      have hrb := HRB.out
      have hS3 : S1 B c b d N gb l rev q vs w3 := by
        refine ⟨(hc3 c (by omega) (by omega)).trans hS0.hs, hS0.hm.keep (hc3 b (by omega) (by omega)), ?_, hS0.cb, hS0.cd, hS0.bd, hS0.gc, hS0.gb', hS0.asc, hS0.lo⟩
        obtain ⟨v, all, k, g1, g2, g3, g4, g5, g6⟩ := hS0.hc
        exact ⟨v, all, k, g1, g2, g3, g4, (hc3 d (by omega) (by omega)).trans g5, World.ownsRow.kept (row := some rb) g6 hg3 (.inr (fun e => by rw [g1] at e; have := hrb.2.2.2.1 rb e; omega))⟩
      have HS3 := Lib.hid hS3
      have HB3 : Hid (Below B W1 w3) := by
        have hr : B ≤ rb := by omega
        exact HI.out.be.trans (bel_grown hg3 hr (by omega))
      have HRG3 := Lib.hid hrg3
      have HZ3 : Hid (w3.heap.size = wr.heap.size) := hs3
      have HC3 := Lib.hid hc3
      have hq : IntKind.i64.wrap (vs - (spr l q : Nat)) = vs - (spr l q : Nat) := by rw [IntKind.wrap_i64]; omega
      have HCC : Hid (Calls Try.prog 38 #[.pointer (some ⟨d, 0, none⟩), .int .i64 q] w3.drew (PtQ B d N gb (cmp l q) (spr l q : Nat) w3.drew)) := Compact_c B d N gb l q w3.drew (hS3.hc.go (bdr w3)) (by omega) (show B ≤ w3.heap.size by omega) hS3.asc
      unfold PtQ at HCC
      have HLT : Hid (w3.rangeLeft b rb = ct' ∧ ct' < wr.rangeLeft b rb) := ⟨hrg3.left_eq, by rw [HI.out.rg.left_eq]; exact hlt⟩
      clear hat hlx hkx hd0 hrg3 hlt hg3 hs3 hc3 hS0 hszr hrb hS3 hlo
      go_upto_region 9 with (fail)
      clear hen
      obtain ⟨c0, c1, c2, c3, c4, c5, c6, c7⟩ := cells8 HS3.out.hs
      go_region_with (go_at_call 38; (with_reducible refine HCC.out.mono ?_); rintro e w4 ⟨rfl, gb4, hc4, hch4, hnb4⟩; have HC4 := Lib.hid hc4; have HH4 := Lib.hid hch4; have HN4 := Lib.hid hnb4; have HS4 : Hid (w4.heap[c]? = some (obS rev q (.map (some b)) 1 vs)) := (hch4.block c (show c < w3.heap.size from (Array.getElem?_eq_some_iff.1 HS3.out.hs).1) HS3.out.cd (fun e => HS3.out.gc e.symm)).trans HS3.out.hs; have k6 := cell_of_row _ _ 6 _ _ _ HS4.out; have f6 := frz HS4.out 6; clear hc4 hch4 hnb4)
      all_goals
        clear c0 c1 c2 c3 c4 c5 c6 c7 k6 f6
        obtain ⟨W5, hW5⟩ : ∃ W5, W5 = w4.setCell ⟨c, 6, none⟩ (.int .i64 (vs - (spr l q : Nat))) := ⟨_, rfl⟩
        have o5 : ∀ k, k ≠ c → W5.heap[k]? = w4.heap[k]? := fun k hk => by rw [hW5]; exact set_oth _ _ _ _ hk
        have hz5 : W5.heap.size = w4.heap.size := by rw [hW5]; simp [World.setCell]
        have hsz4 : w3.heap.size ≤ w4.heap.size := HH4.out.size
        have k4 : ∀ k, k < w3.heap.size → k ≠ d → some k ≠ gb → w4.heap[k]? = w3.heap[k]? := fun k h1 h2 h3 => HH4.out.block k h1 h2 h3
        have hrb := HRB.out
        have hs3 := HS3.out
        have hszr := HI.out.sz
        have hz3 := HZ3.out
        have hgbn : ∀ g, gb4 = some g → gb = some g ∨ w3.heap.size ≤ g := fun g hg => by
          rcases HN4.out with e | e | ⟨q, e, hq⟩
          · exact .inl (by rw [← e]; exact hg)
          · rw [e] at hg; cases hg
          · rw [e] at hg; injection hg with hg; rw [← hg]; exact .inr hq
        have hgbc : gb4 ≠ some c := fun e => by
          rcases hgbn c e with h | h
          · exact hs3.gc h
          · omega
        have hgbb : gb4 ≠ some b := fun e => by
          rcases hgbn b e with h | h
          · exact hs3.gb' h
          · omega
        have HS5 : Hid (S1 B c b d N gb4 (cmp l q) rev q (vs - (spr l q : Nat)) W5) := by
          refine ⟨?_, hs3.hm.keep ((o5 b hs3.cb.symm).trans (k4 b (by omega) hs3.bd (fun e => hs3.gb' e.symm))), ?_, hs3.cb, hs3.cd, hs3.bd, hgbc, hgbb, cmp_asc hs3.asc q, hs3.lo⟩
          · rw [hW5]; exact set6v HS4.out _
          · obtain ⟨v, all, k, g1, g2, g3, g4, g5, g6⟩ := HC4.out
            refine ⟨v, all, k, g1, g2, g3, g4, (o5 d hs3.cd.symm).trans g5, ?_⟩
            rw [hW5]
            exact World.ownsRow.kept (row := some c) g6 ⟨rfl, rfl, rfl, by simp [World.setCell], fun q hq hn => set_oth _ _ _ _ (fun e => hn (by rw [e]))⟩ (.inr (fun e => hgbc (by rw [← g1]; exact e)))
        have HB5 : Hid (Below B W1 W5) := by
          have h4 := HH4.out.below (B := B) (show B ≤ w3.heap.size by omega) hs3.lo.2.2 (fun g e => (hs3.hc.base g e).1)
          have h4' : Below B w3 w4 := ⟨h4.os, h4.tape, h4.output, h4.size, h4.block⟩
          rw [hW5]
          exact Lib.hid ((HB3.out.trans h4').trans (bel_set w4 hs3.lo.1 6 _))
        have HRG5 : Hid (W5.ranges Try.prog 9 ptrE b rb 1 (dOne d) (fun k => left k && !k.sameKey kl) ct') :=
          ranges_keep HRG3.out ((o5 b hs3.cb.symm).trans (k4 b (by omega) hs3.bd (fun e => hs3.gb' e.symm))) ((o5 rb (by omega)).trans (k4 rb (by omega) (by omega) (fun e => by have := hrb.2.2.2.1 rb e.symm; omega)))
        have HI5 : Hid (CpI B c b d N rb gb l rev q vs W1 W5 (fun k => left k && !k.sameKey kl) ct' true) := ⟨HRG5.out, fun k hk => by
          have h1 : left k = true := by cases hk1 : left k with
            | true => rfl
            | false => rw [hk1] at hk; cases hk
          have h2 := (HI.out.lf k h1).1
          subst h2
          rw [show Lit.sameKey kl kl = true from rfl] at hk
          simp at hk, fun e => (by cases e), fun e => (by cases e), fun _ => ⟨gb4, HS5.out⟩, HB5.out, by omega, fun k h1 h2 h3 h4 => by
          have hb := HI.out.be.size
          have hr5 := hrb.2.2.2.2
          rw [o5 k h2, k4 k (by omega) h3 h4, HC3.out k (by omega) (by omega)]
          exact HI.out.ot k h1 h2 h3 h4⟩
        have HM5 : Hid (W5.rangeLeft b rb < wr.rangeLeft b rb) := by
          show _ < _
          rw [HRG5.out.left_eq]; have := HLT.out.2; exact this
        have HLN := Lib.hid (Len_c B d N gb4 (cmp l q) W5 HS5.out.hc (by omega))
        have hln : (((cmp l q).length : Int) == 0) = false := by simpa using hne
        clear o5 hz5 hsz4 k4 hrb hs3 hszr hz3 hgbn hgbc hgbb
        rw [← hW5]
        clear hW5
        go_wp2_with (go_at_call 39; (with_reducible refine HLN.out.mono ?_); rintro e w6 ⟨rfl, n6, rfl⟩)
        go_roundw
        case rel => exact ⟨_, ct', true, Lib.hid (HI5.out.dn n6)⟩
        case measure => exact HM5.out
end Go.Proofs.Ytjceofkcahfhmaa.Mv
namespace Go.Proofs.Ytjceofkcahfhmaa.Mv
open Go.RowKit Go.Lib Go.Maps
open Go.Proofs.Ytjceofkcahfhmaa.Cn
set_option linter.unusedSimpArgs false
set_option linter.unusedVariables false

abbrev va : ByteArray := ⟨#[49]⟩
abbrev vb2 : ByteArray := ⟨#[50]⟩
abbrev l1 : List Ver := [(1, va, false)]
abbrev l2 : List Ver := [(1, va, false), (2, vb2, false)]
theorem S1.upd {B c b d N : Nat} {gb : Option Nat} {l : List Ver} {rev fl vs rev' vs' : Int} {w V : World} (h : S1 B c b d N gb l rev fl vs w) (hs : V.heap[c]? = some (obS rev' fl (.map (some b)) 1 vs')) (ho : ∀ k, k < w.heap.size → k ≠ c → V.heap[k]? = w.heap[k]?) : S1 B c b d N gb l rev' fl vs' V := by
  refine ⟨hs, h.hm.keep (ho b h.hm.lt h.cb.symm), ?_, h.cb, h.cd, h.bd, h.gc, h.gb', h.asc, h.lo⟩
  have hbase := h.hc.base
  have hcl := h.hc.lt
  obtain ⟨v, all, k, g1, g2, g3, g4, g5, g6⟩ := h.hc
  refine ⟨v, all, k, g1, g2, g3, g4, (ho d hcl h.cd.symm).trans g5, g6.1, ?_⟩
  rcases g6.2 with h6 | ⟨g, cap, cur, e1, e2, e3, e4⟩
  · exact .inl h6
  · have hg : gb = some g := by rw [← g1, e1]; rfl
    exact .inr ⟨g, cap, cur, e1, e2, (ho g (hbase g hg).2 (fun e => h.gc (by rw [hg, e]))).trans e3, e4⟩
theorem commit_0 (B c a : Nat) (w : World) (h : w.heap[c]? = some (obS 0 0 (.map none) 0 0)) (ha : w.heap[a]? = some (obC va)) (hac : a ≠ c) (hB : B ≤ c) :
    Calls Try.prog 21 #[.pointer (some ⟨c, 0, none⟩), .slice (some ⟨a, 0, none⟩) 1 1] w fun e w' => e = .returned (.tuple #[.int .i64 1, .int .i64 0]) ∧ (∃ b d gb, S1 B c b d 1 gb l1 1 0 1 w') ∧ Below B w w' := by
  have h0 : (0 : Int) + 1 = 1 := rfl
  have := commit_g B c a va 0 0 0 0 1 (.map none) false w (fun V => ∃ b d gb, S1 B c b d 1 gb l1 1 0 1 V) h ha hac hB (by omega) (by omega) (by omega) rfl
    (Lib.hid fun V hV => has_0 c 0 0 0 0 V ((hV.block c (Array.getElem?_eq_some_iff.1 h).1).trans h))
    (Lib.hid fun V hV _ _ => by
      rw [h0] at hV
      refine (put_0 B c va 1 0 1 V hV hB (by omega)).mono ?_
      rintro e w' ⟨he, b, d, gb, h1, h2⟩
      exact ⟨he, ⟨b, d, gb, h1⟩, h2⟩)
    (Lib.hid fun V ⟨b, d, gb, hV⟩ => ⟨_, hV.hs⟩)
  exact this
theorem commit_1 {B c b d : Nat} {gb : Option Nat} (a : Nat) (w : World) (h : S1 B c b d 1 gb l1 1 0 1 w) (ha : w.heap[a]? = some (obC vb2)) (hac : a ≠ c) :
    Calls Try.prog 21 #[.pointer (some ⟨c, 0, none⟩), .slice (some ⟨a, 0, none⟩) 1 1] w fun e w' => e = .returned (.tuple #[.int .i64 2, .int .i64 0]) ∧ (∃ gb', S1 B c b d 2 gb' l2 2 0 2 w') ∧ Below B w w' := by
  have h0 : (1 : Int) + 1 = 2 := rfl
  have hcl : c < w.heap.size := (Array.getElem?_eq_some_iff.1 h.hs).1
  have := commit_g B c a vb2 1 0 1 1 1 (.map (some b)) true w (fun V => ∃ gb', S1 B c b d 2 gb' l2 2 0 2 V) h.hs ha hac h.lo.1 (by omega) (by omega) (by omega) rfl
    (Lib.hid fun V hV => has_1 (h.kept hV) (by omega))
    (Lib.hid fun V hV ho hz => by
      rw [h0] at hV
      have hS := h.upd hV ho
      refine (put_1 vb2 hS (by omega) (by have := h.lo.1; omega) (by omega) true rfl (fun _ => by show (1 : Int) < 2; omega)).mono ?_
      rintro e w' ⟨he, gb', h1, h2⟩
      exact ⟨he, ⟨gb', h1⟩, h2⟩)
    (Lib.hid fun V ⟨gb', hV⟩ => ⟨_, hV.hs⟩)
  exact this
theorem eqI (b1 b2 : ByteArray) (a c : Int) (d1 d2 : ByteArray) (W : World) : (binOp .eql 49 (.agg #[.string b1, .string d1, .int .i64 a]) (.agg #[.string b2, .string d2, .int .i64 c])).run Try.prog W = .ok (.bool (decide (b1.data.toList = b2.data.toList ∧ d1.data.toList = d2.data.toList ∧ a = c))) W := by
  have hS : Try.prog.underlying 49 = some (.struct (Try.prog.fieldsOf 49)) := by kernel_rfl
  have hp : Try.prog.stoodInHeld 49 = false := by kernel_rfl
  have u9 := Try.underlying9
  have u2 := Try.underlying2
  rw [run_eql_struct, show (10000 : Nat) = 9999 + 1 from rfl, run_equalIn_agg W 9999 49 _ _ hS hp]
  simp only [Program.fieldsOf, Try.underlying49]
  go_simp
  simp only [Lib.toList_data]
  by_cases h1 : a = c <;> by_cases h2 : b1.data = b2.data <;> by_cases h3 : d1.data = d2.data <;> simp [h1, h2, h3]
set_option maxRecDepth 100000 in
set_option maxHeartbeats 8000000 in
theorem awake_c (w : World) : Calls Try.prog 17 #[] w fun e w' => e = .returned (.bool true) ∧ Below w.heap.size w w' := by
  have HN := Lib.hid (New_m w)
  go_enter Try.func17, Try.ntmps17
  go_upto_region 2 with (go_at_call 6; (with_reducible refine HN.out.mono ?_); rintro e w1 ⟨rfl, hs1, hb1⟩; have HS1 := Lib.hid hs1; have HB1 := Lib.hid hb1; clear hs1 hb1)
  obtain ⟨c, hc⟩ : ∃ c, c = w.heap.size + 1 := ⟨_, rfl⟩
  have HC : Hid (w.heap.size ≤ c) := by show _ ≤ _; omega
  rw [← hc] at HS1 ⊢
  obtain ⟨W2, hW2, hk2, hb2⟩ := Cn.new3 w1 (.string kb) (.string va) (.bool false) 80
  have HW2 := Lib.hid hW2
  have HS2 : Hid (W2.heap[c]? = some (obS 0 0 (.map none) 0 0)) := (hb2.block c (Array.getElem?_eq_some_iff.1 HS1.out).1).trans HS1.out
  have hcw : c < w1.heap.size := (Array.getElem?_eq_some_iff.1 HS1.out).1
  have HB2 := Lib.hid (btr HB1.out hb2)
  have HC2 := Lib.hid (commit_0 w.heap.size c w1.heap.size W2 HS2.out hk2 (by omega) HC.out)
  clear hW2 hk2 hb2 hc HN
  go_upto_region 3 with (first | (go_at_call 21; rw [← HW2.out]; (with_reducible refine HC2.out.mono ?_); rintro e w3 ⟨rfl, ⟨b, d, gb, hs3⟩, hb3⟩; have HS3 := Lib.hid hs3; have HB3 := Lib.hid (HB2.out.trans hb3); clear hs3 hb3))
  clear HC2
  obtain ⟨W4, hW4, hk4, hb4⟩ := Cn.new3 w3 (.string kb) (.string vb2) (.bool false) 80
  have HW4 := Lib.hid hW4
  have hcw3 : c < w3.heap.size := (Array.getElem?_eq_some_iff.1 HS3.out.hs).1
  have HB4 := Lib.hid (HB3.out.trans (hb4.mono HB3.out.size))
  have HC4 := Lib.hid (commit_1 w3.heap.size W4 (HS3.out.kept hb4) hk4 (by omega))
  clear hW4 hk4 hb4
  go_upto_region 4 with (first | (go_at_call 21; rw [← HW4.out]; (with_reducible refine HC4.out.mono ?_); rintro e w5 ⟨rfl, ⟨gb5, hs5⟩, hb5⟩; have HS5 := Lib.hid hs5; have HB5 := Lib.hid (HB4.out.trans hb5); clear hs5 hb5))
  clear HC4
  have HG5 := Lib.hid (get_ok 1 HS5.out (by omega) (by omega) (by omega) (by omega) rfl)
  rw [show atV l2 1 = (1, va, false) from rfl] at HG5
  go_upto_region 5 with (go_at_call 25; (with_reducible refine HG5.out.mono ?_); rintro e w6 ⟨rfl, hb6⟩; have HB6 := Lib.hid hb6; clear hb6)
  obtain ⟨W7, hW7, hk7, hb7⟩ := Cn.new3 w6 (.string kb) (.string va) (.int .i64 1) 49
  have HW7 := Lib.hid hW7
  have hb57 := btr HB6.out hb7
  have HS7 := Lib.hid (HS5.out.kept hb57)
  have HX7 := Lib.hid hk7
  have HB7 := Lib.hid (HB5.out.trans (hb57.mono HB5.out.size))
  have HP7 := Lib.hid (compact_1 2 HS7.out (by omega) HB7.out.size (by omega) (by omega) (by decide) (by omega) (by decide))
  clear hW7 hk7 hb7 hb57 HG5
  rw [← HW7.out]
  go_upto_region 6 with (go_at_call 23; (with_reducible refine HP7.out.mono ?_); rintro e w8 ⟨rfl, ⟨gb8, hs8⟩, hb8, ho8⟩; have HS8 := Lib.hid hs8; have HO8 := Lib.hid ho8; have HB8 := Lib.hid (HB7.out.trans hb8); clear hs8 hb8 ho8)
  have HX8 : Hid (w8.heap[w6.heap.size]? = some (.cells #[.string kb, .string va, .int .i64 1] 49 (0, 0))) := by
    have hc5 : c < w5.heap.size := (Array.getElem?_eq_some_iff.1 HS5.out.hs).1
    have hd5 := HS5.out.hc.lt
    have hg5 := HS5.out.hc.base
    have h6 := HB6.out.size
    exact (HO8.out w6.heap.size (Array.getElem?_eq_some_iff.1 HX7.out).1 (by omega) (by omega) (fun e => by have := (hg5 _ e.symm).2; omega)).trans HX7.out
  have HG8 := Lib.hid (get_no (.pointer (some ⟨c, 0, none⟩)) kb 1 9 w8 (by decide) (Lib.hid fun W hW => ref_gone c 2 2 1 _ 1 _ W (HS8.out.kept hW).hs (by omega) (by omega) (by omega)))
  clear HP7 HS7 HX7
  go_upto_region 6 with (fail)
  go_upto_region 7 with (go_at_call 25; (with_reducible refine HG8.out.mono ?_); rintro e w9 ⟨rfl, hb9⟩; have HB9 := Lib.hid hb9; clear hb9)
  obtain ⟨W10, hW10, hk10, hb10⟩ := Cn.new3 w9 (.string ⟨#[]⟩) (.string ⟨#[]⟩) (.int .i64 0) 49
  have HW10 := Lib.hid hW10
  have hb810 := btr HB9.out hb10
  obtain ⟨x0, x1, x2⟩ := Cn.cells3 ((hb810.block _ (Array.getElem?_eq_some_iff.1 HX8.out).1).trans HX8.out)
  have HB10 := Lib.hid (HB8.out.trans (hb810.mono HB8.out.size))
  have heq : ∀ W : World, (binOp .eql 49 (.agg #[.string kb, .string va, .int .i64 1]) (.agg #[.string kb, .string va, .int .i64 1])).run Try.prog W = .ok (.bool true) W := fun W => by rw [eqI]; simp
  clear hW10 hk10 hb10 hb810 HG8
  rw [← HW10.out]
  go_wp2
  go_ret
  exact ⟨rfl, HB10.out⟩
end Go.Proofs.Ytjceofkcahfhmaa.Mv
namespace Go.Proofs.Ytjceofkcahfhmaa.Mv
open Go.RowKit Go.Lib Go.Maps
open Go.Proofs.Ytjceofkcahfhmaa.Cn
set_option linter.unusedSimpArgs false
set_option linter.unusedVariables false

abbrev obN (l0 l9 rev fl : Int) (mp : Value) (ks vs : Int) (od : Value) : Obj := .cells #[.int .i64 l0, .int .i64 l9, .int .i64 rev, .int .i64 fl, mp, .int .i64 ks, .int .i64 vs, od] 54
abbrev Key := List UInt8
def hasK (f : Key → Option Nat) : Lit → Bool
  | .string k => (f k).isSome
  | _ => false
/-- the map holds what f tells -/
structure MapF (D : DataW Unit) (f : Key → Option Nat) : Prop where
  has : ∀ kl, Maps.has D kl = hasK f kl
  at' : ∀ k d, f k = some d → ∀ z, D.atKey (.string k) z = pd (d : Int)
theorem MapF.nil : MapF (.map []) (fun _ => none) := ⟨fun kl => by
  show false = _
  unfold hasK
  split <;> rfl, fun k d h => by cases h⟩
theorem hasK_ne {f : Key → Option Nat} {kl : Lit} {k : Key} {y : Option Nat} (h : kl ≠ .string k) : hasK (fun j => if j = k then y else f j) kl = hasK f kl := by
  unfold hasK
  split
  · rename_i j
    have : j ≠ k := fun e => h (by rw [e])
    show (if j = k then y else f j).isSome = _
    rw [if_neg this]
  · rfl
theorem MapF.put {D : DataW Unit} {f : Key → Option Nat} (h : MapF D f) (hm : IsMap D) (k : Key) (d : Nat) : MapF (D.put (.string k) (pd (d : Int))) (fun j => if j = k then some d else f j) := by
  refine ⟨fun kl => ?_, fun j x hx z => ?_⟩
  · by_cases e : kl = .string k
    · subst e
      rw [has_put_same (k := .string k) hm trivial]
      simp [hasK]
    · rw [has_put_other e, h.has, hasK_ne e]
  · by_cases e : j = k
    · subst e
      rw [if_pos rfl] at hx
      injection hx with hx
      subst hx
      exact atKey_put_same (k := .string j) hm trivial _ _
    · rw [if_neg e] at hx
      rw [atKey_put_other (fun q => e (by injection q))]
      exact h.at' j x hx z
theorem MapF.del {D : DataW Unit} {f : Key → Option Nat} (h : MapF D f) (k : Key) : MapF (D.del (.string k)) (fun j => if j = k then none else f j) := by
  refine ⟨fun kl => ?_, fun j x hx z => ?_⟩
  · by_cases e : kl = .string k
    · subst e
      rw [has_del_same]
      simp [hasK]
    · rw [has_del_other e, h.has, hasK_ne e]
  · by_cases e : j = k
    · subst e
      rw [if_pos rfl] at hx
      cases hx
    · rw [if_neg e] at hx
      rw [atKey_del_other (fun q => e (by injection q))]
      exact h.at' j x hx z
/-- the map in block b holds just those -/
def SetM (b : Nat) (f : Key → Option Nat) (w : World) : Prop := ∃ D, w.ownsMap Try.prog 9 ptrE b (Maps.size D) D ∧ MapF D f
theorem ownsM_tight {w : World} {b n : Nat} {D : DataW Unit} (h : w.ownsMap Try.prog 9 ptrE b n D) : w.ownsMap Try.prog 9 ptrE b (Maps.size D) D := by
  obtain ⟨es, clock, hb, F, hs, rfl⟩ := h
  refine ⟨es, clock, hb, F, ?_, rfl⟩
  rw [Maps.size_eq, length_sorted]; simp
theorem SetM.lt {b : Nat} {f : Key → Option Nat} {w : World} (h : SetM b f w) : b < w.heap.size := by
  obtain ⟨D, h, _⟩ := h; exact h.lt
theorem SetM.keep {b : Nat} {f : Key → Option Nat} {w w' : World} (h : SetM b f w) (hb : w'.heap[b]? = w.heap[b]?) : SetM b f w' := by
  obtain ⟨D, ⟨es, clock, h1, h2⟩, h3⟩ := h
  exact ⟨D, ⟨es, clock, hb.trans h1, h2⟩, h3⟩
theorem SetM.made (w : World) : SetM w.heap.size (fun _ => none) (w.alloc (.map #[] 0)) := ⟨.map [], World.ownsMap_made w _ _ _, MapF.nil⟩
theorem keyS {key : ByteArray} (hk : key.size ≤ maxLen) : keyOf Try.prog 9 (.string key) = some (.string key.data.toList) := Go.WideMaps.keyOf_string_mk Try.underlying9 hk
/-- a look-up, at any key -/
theorem SetM.look {b : Nat} {f : Key → Option Nat} {w : World} (h : SetM b f w) {key : ByteArray} (hk : key.size ≤ maxLen) : (Instr.lookup 52 (.map (some b)) (.string key) false).run Try.prog w = .ok (pv (f key.data.toList)) w := by
  obtain ⟨D, h1, h2⟩ := h
  obtain ⟨v, ps, hr, hv⟩ := World.ownsMap.lookup h1 law Try.underlying52 (zeroP w) ptrE_nil (keyS hk)
  rw [hr]
  obtain ⟨o, rfl, ho⟩ := ptrE_all hv
  have ho : D.atKey (.string key.data.toList) (pd (-1)) = pdo o := ho
  have hh : Maps.has D (.string key.data.toList) = (f key.data.toList).isSome := h2.has _
  cases hf : f key.data.toList with
  | none =>
    rw [hf] at hh
    rw [atKey_of_not_has hh] at ho
    cases o with
    | none => rfl
    | some c => exact absurd ho (fun e => by unfold pdo pd at e; injection e with e; injection e with _ e; omega)
  | some d =>
    rw [h2.at' _ d hf] at ho
    rw [pdo_is ho.symm]
theorem look_nil (w : World) {key : ByteArray} (hk : key.size ≤ maxLen) : (Instr.lookup 52 (.map none) (.string key) false).run Try.prog w = .ok (.pointer none) w :=
  Maps.look_nil false law Try.underlying52 (zeroP w) (keyS hk)
/-- a store -/
theorem SetM.store {b : Nat} {f : Key → Option Nat} {w : World} (h : SetM b f w) {key : ByteArray} (hk : key.size ≤ maxLen) (d : Nat) (hn : ∀ D, w.ownsMap Try.prog 9 ptrE b (Maps.size D) D → MapF D f → Maps.size D < maxLen) :
    ∃ w', (Instr.mapUpdate 52 (.map (some b)) (.string key) (.pointer (some ⟨d, 0, none⟩))).run Try.prog w = .ok () w' ∧ SetM b (fun j => if j = key.data.toList then some d else f j) w' ∧ w.grownBy w' (some b) := by
  obtain ⟨D, h1, h2⟩ := h
  obtain ⟨w', hr, h3, h4⟩ := h1.update law Try.underlying52 (hn D h1 h2) (keyS hk) (ptrE_mk d)
  exact ⟨w', hr, ⟨_, ownsM_tight h3, h2.put h1.isMap _ _⟩, h4⟩
/-- an entry struck -/
theorem SetM.drop {b : Nat} {f : Key → Option Nat} {w : World} (h : SetM b f w) {key : ByteArray} (hk : key.size ≤ maxLen) (ty : TypeId) :
    ∃ w', (Builtin.delete_ #[52, 9] ty #[.map (some b), .string key]).run Try.prog w = .ok (.tuple #[]) w' ∧ SetM b (fun j => if j = key.data.toList then none else f j) w' ∧ w.grownBy w' (some b) := by
  obtain ⟨D, h1, h2⟩ := h
  obtain ⟨w', hr, h3, h4⟩ := h1.drop law Try.underlying52 (keyS hk) ty
  exact ⟨w', hr, ⟨_, ownsM_tight h3, h2.del _⟩, h4.grown⟩
set_option maxRecDepth 100000 in
set_option maxHeartbeats 4000000 in
theorem has_k (key : ByteArray) (c : Nat) (l0 l9 : Int) (mp pv od : Value) (rev fl ks vs r : Int) (t : ByteArray) (g b : Bool) (w : World) (h : w.heap[c]? = some (obN l0 l9 rev fl mp ks vs od))
    (HL : Hid (∀ V, Below w.heap.size w V → (Instr.lookup 52 mp (.string key) false).run Try.prog V = .ok pv V))
    (HA : Hid (∀ V, Below w.heap.size w V → Calls Try.prog 31 #[pv, .int .i64 rev] V fun e w' => e = .returned (.tuple #[.agg #[.int .i64 r, .string t, .bool g], .bool b]) ∧ Below V.heap.size V w')) :
    Calls Try.prog 50 #[.pointer (some ⟨c, 0, none⟩), .string key] w fun e w' => e = .returned (.bool b) ∧ Below w.heap.size w w' := by
  obtain ⟨W1, hW1, hk1, hb1⟩ := new3 w (.int .i64 0) (.string ⟨#[]⟩) (.bool false) 75
  have hcl : c < w.heap.size := (Array.getElem?_eq_some_iff.1 h).1
  have hz1 : w.heap.size < W1.heap.size := (Array.getElem?_eq_some_iff.1 hk1).1
  have HSK : Hid (∀ V : World, Below w.heap.size w V → V.cell? ⟨c, 4, none⟩ = some mp ∧ V.cell? ⟨c, 2, none⟩ = some (.int .i64 rev)) := fun V hV => by
    have h := (hV.block c hcl).trans h
    exact ⟨cell_of_row _ _ 4 _ _ _ h, cell_of_row _ _ 2 _ _ _ h⟩
  obtain ⟨c4, c2⟩ := HSK.out w (Below.refl _ _)
  have HKA := Lib.hid (HSK.out w.drew (bdr w))
  have HKB := Lib.hid (HSK.out W1.drew (btr hb1 (bdr W1)))
  rw [hW1] at HKB
  have HK1 := Lib.hid hk1
  have HB1 := Lib.hid hb1
  have HW1 := Lib.hid hW1
  have l0 := HL.out w.drew (bdr w)
  have l1 := HL.out W1.drew (btr hb1 (bdr W1))
  rw [hW1] at l1
  clear h hW1 hk1 hb1
  go_enter Try.func50, Try.ntmps50
  go_upto_region 1 with (fail)
  go_region_held3 (fun V => V.cell? ⟨c, 4, none⟩ = some mp ∧ V.cell? ⟨c, 2, none⟩ = some (.int .i64 rev))
    (first | (with_reducible exact HKA.out) | (with_reducible exact HKB.out) | (with_reducible exact HK3.out) | (with_reducible exact HK3a.out) | (with_reducible exact HK3r.out) | (with_reducible exact HK3s.out) | (with_reducible exact HK4.out) | (with_reducible exact HK4s.out))
    (first
      | (go_at_call 31; (with_reducible refine (HA.out w.drew (bdr w)).mono ?_); rintro e w3 ⟨rfl, hb3⟩; have hb3' : Below w.heap.size w w3 := ⟨hb3.os, hb3.tape, hb3.output, hb3.size, hb3.block⟩; have HB3 := Lib.hid hb3'; have hs3 := hb3'.size; have HK3 := Lib.hid (HSK.out w3 hb3'); have HK3a := Lib.hid (HSK.out (w3.alloc obZ) (hb3'.alloc hb3'.size _)); have HK3r := Lib.hid (HSK.out (w3.alloc (.cells #[.int .i64 r, .string t, .bool g] 75)) (hb3'.alloc hb3'.size _)); have HK3s := Lib.hid (HSK.out _ ((hb3'.alloc hb3'.size obZ).trans (bel_set3 (B := w.heap.size) (r := w3.heap.size) (w3.alloc obZ) hb3'.size (.int .i64 r) (.string t) (.bool g)))); clear hb3 hb3')
      | (go_at_call 31; rw [← HW1.out]; (with_reducible refine (HA.out W1.drew (btr HB1.out (bdr W1))).mono ?_); rintro e w4 ⟨rfl, hb4⟩; have hb4' : Below W1.heap.size W1 w4 := ⟨hb4.os, hb4.tape, hb4.output, hb4.size, hb4.block⟩; have hb04 : Below w.heap.size w w4 := btr HB1.out hb4'; have HN4 : Hid (w4.heap[w.heap.size]? = some obZ) := (hb4'.block _ hz1).trans HK1.out; have HB4 := Lib.hid hb04; have n0 := cell_of_row _ _ 0 _ _ _ HN4.out; have n1 := cell_of_row _ _ 1 _ _ _ HN4.out; have n2 := cell_of_row _ _ 2 _ _ _ HN4.out; have f0 := frz HN4.out 0; have f1 := frz HN4.out 1; have f2 := frz HN4.out 2; have HK4 := Lib.hid (HSK.out w4 hb04); have HK4s := Lib.hid (HSK.out _ (hb04.trans (bel_set3 (B := w.heap.size) (r := w.heap.size) w4 (Nat.le_refl _) (.int .i64 r) (.string t) (.bool g)))); clear hb4 hb4' hb04))
  all_goals
    first
      | (have HBX := Lib.hid (HB3.out.alloc HB3.out.size (.cells #[.int .i64 r, .string t, .bool g] 75)); go_wp2; go_ret; exact ⟨rfl, HBX.out⟩)
      | (have HBX := Lib.hid (HB4.out.trans (bel_set3 (B := w.heap.size) (r := w.heap.size) w4 (Nat.le_refl _) (.int .i64 r) (.string t) (.bool g))); go_wp2; go_ret; exact ⟨rfl, HBX.out⟩)
/-- a chain of the store: its block, its row's block, its versions -/
abbrev Chn := Nat × Option Nat × List Ver
/-- all chains of a store, each by its own, all apart -/
structure Fam (B c N : Nat) (mb : Option Nat) (f : Key → Option Chn) (w : World) : Prop where
  ch : ∀ k x, f k = some x → IsCh B x.1 N x.2.1 x.2.2 w ∧ Asc x.2.2 ∧ B ≤ x.1 ∧ c ≠ x.1 ∧ mb ≠ some x.1 ∧ x.2.1 ≠ some c ∧ ∀ b, mb = some b → x.2.1 ≠ some b
  ap : ∀ k k' x y, k ≠ k' → f k = some x → f k' = some y → x.1 ≠ y.1 ∧ x.2.1 ≠ some y.1 ∧ y.2.1 ≠ some x.1 ∧ ∀ g, x.2.1 = some g → y.2.1 ≠ some g
theorem isch_keep {B d N : Nat} {gb : Option Nat} {l : List Ver} {w V : World} (h : IsCh B d N gb l w) (hd : V.heap[d]? = w.heap[d]?) (hg : ∀ g, gb = some g → V.heap[g]? = w.heap[g]?) : IsCh B d N gb l V := by
  obtain ⟨v, all, k, g1, g2, g3, g4, g5, g6⟩ := h
  refine ⟨v, all, k, g1, g2, g3, g4, hd.trans g5, g6.1, ?_⟩
  rcases g6.2 with h6 | ⟨g, cap, cur, e1, e2, e3, e4⟩
  · exact .inl h6
  · have hgg : gb = some g := by rw [← g1, e1]; rfl
    exact .inr ⟨g, cap, cur, e1, e2, (hg g hgg).trans e3, e4⟩
theorem Fam.keep {B c N : Nat} {mb : Option Nat} {f : Key → Option Chn} {w V : World} (h : Fam B c N mb f w) (ho : ∀ k, k < w.heap.size → k ≠ c → mb ≠ some k → V.heap[k]? = w.heap[k]?) : Fam B c N mb f V := by
  refine ⟨fun k x hx => ?_, h.ap⟩
  obtain ⟨h1, h2, h3, h4, h5, h6, h7⟩ := h.ch k x hx
  have hb := h1.base
  exact ⟨isch_keep h1 (ho _ h1.lt h4.symm h5) (fun g hg => ho g (hb g hg).2 (fun e => h6 (by rw [hg, e])) (fun e => h7 g e hg)), h2, h3, h4, h5, h6, h7⟩
end Go.Proofs.Ytjceofkcahfhmaa.Mv
namespace Go.Proofs.Ytjceofkcahfhmaa.Mv
open Go.RowKit Go.Lib Go.Maps
open Go.Proofs.Ytjceofkcahfhmaa.Cn
set_option linter.unusedSimpArgs false
set_option linter.unusedVariables false

/-- a key's versions -/
def vrs (f : Key → Option Chn) (k : Key) : List Ver := match f k with
  | some x => x.2.2
  | none => []
def blkOf (f : Key → Option Chn) (k : Key) : Option Nat := (f k).map (·.1)
theorem atB_nil (rev : Int) : atB [] rev = false := rfl
theorem atV_nil (rev : Int) : atV [] rev = zeroV := rfl
/-- the store as it lies: its block c, its map's block, its chains, its numbers -/
structure IsMv (B c N : Nat) (mb : Option Nat) (f : Key → Option Chn) (l0 l9 rev fl ks vs : Int) (od : Value) (w : World) : Prop where
  hs : w.heap[c]? = some (obN l0 l9 rev fl (.map mb) ks vs od)
  mp : (mb = none ∧ ∀ k, f k = none) ∨ ∃ b, mb = some b ∧ B ≤ b ∧ b ≠ c ∧ SetM b (blkOf f) w
  fm : Fam B c N mb f w
  lo : B ≤ c
theorem IsMv.keep {B c N : Nat} {mb : Option Nat} {f : Key → Option Chn} {l0 l9 rev fl ks vs : Int} {od : Value} {w V : World} (h : IsMv B c N mb f l0 l9 rev fl ks vs od w) (ho : ∀ k, k < w.heap.size → V.heap[k]? = w.heap[k]?) : IsMv B c N mb f l0 l9 rev fl ks vs od V := by
  refine ⟨(ho c (Array.getElem?_eq_some_iff.1 h.hs).1).trans h.hs, ?_, h.fm.keep (fun k hk _ _ => ho k hk), h.lo⟩
  rcases h.mp with h1 | ⟨b, h1, h2, h3, h4⟩
  · exact .inl h1
  · exact .inr ⟨b, h1, h2, h3, h4.keep (ho b h4.lt)⟩
theorem IsMv.go {B c N : Nat} {mb : Option Nat} {f : Key → Option Chn} {l0 l9 rev fl ks vs : Int} {od : Value} {w V : World} (h : IsMv B c N mb f l0 l9 rev fl ks vs od w) (hb : Below w.heap.size w V) : IsMv B c N mb f l0 l9 rev fl ks vs od V := h.keep (fun k hk => hb.block k hk)
theorem IsMv.look {B c N : Nat} {mb : Option Nat} {f : Key → Option Chn} {l0 l9 rev fl ks vs : Int} {od : Value} {w : World} (h : IsMv B c N mb f l0 l9 rev fl ks vs od w) {key : ByteArray} (hk : key.size ≤ maxLen) : (Instr.lookup 52 (.map mb) (.string key) false).run Try.prog w = .ok (pv (blkOf f key.data.toList)) w := by
  rcases h.mp with ⟨rfl, h1⟩ | ⟨b, rfl, _, _, h4⟩
  · rw [show blkOf f key.data.toList = none by unfold blkOf; rw [h1]; rfl]
    exact look_nil w hk
  · exact h4.look hk
/-- At, of what the map tells of a key -/
theorem IsMv.at {B c N : Nat} {mb : Option Nat} {f : Key → Option Chn} {l0 l9 rev fl ks vs : Int} {od : Value} {w : World} (h : IsMv B c N mb f l0 l9 rev fl ks vs od w) (hN : N ≤ 1000000) (k : Key) (q : Int) :
    Calls Try.prog 31 #[pv (blkOf f k), .int .i64 q] w fun e w' => e = .returned (vb (atV (vrs f k) q) (atB (vrs f k) q)) ∧ Below w.heap.size w w' := by
  unfold vrs blkOf
  cases hf : f k with
  | none => exact At_nil q w
  | some x =>
    obtain ⟨h1, h2, _⟩ := h.fm.ch k x hf
    exact At_c B x.1 N x.2.1 x.2.2 q w h1 hN h2
theorem has_c {B c N : Nat} {mb : Option Nat} {f : Key → Option Chn} {l0 l9 rev fl ks vs : Int} {od : Value} {w : World} (h : IsMv B c N mb f l0 l9 rev fl ks vs od w) (hN : N ≤ 1000000) {key : ByteArray} (hk : key.size ≤ maxLen) :
    Calls Try.prog 50 #[.pointer (some ⟨c, 0, none⟩), .string key] w fun e w' => e = .returned (.bool (atB (vrs f key.data.toList) rev)) ∧ Below w.heap.size w w' :=
  has_k key c l0 l9 (.map mb) (pv (blkOf f key.data.toList)) od rev fl ks vs (atV (vrs f key.data.toList) rev).1 (atV (vrs f key.data.toList) rev).2.1 (atV (vrs f key.data.toList) rev).2.2 (atB (vrs f key.data.toList) rev) w h.hs (Lib.hid fun V hV => (h.go hV).look hk) (Lib.hid fun V hV => (h.go hV).at hN key.data.toList rev)
/-- what is refused -/
def refE (rev fl q : Int) : Int := if q < 0 ∨ rev < q then 1 else if q < fl then 9 else 0
set_option maxRecDepth 100000 in
set_option maxHeartbeats 2000000 in
theorem ref_c (c : Nat) (l0 l9 rev fl ks vs q : Int) (mp od : Value) (w : World) (h : w.heap[c]? = some (obN l0 l9 rev fl mp ks vs od)) : Calls Try.prog 28 #[.pointer (some ⟨c, 0, none⟩), .int .i64 q] w fun e w' => e = .returned (.int .i64 (refE rev fl q)) ∧ w' = w := by
  obtain ⟨c0, c1, c2, c3, c4, c5, c6, c7⟩ := cells8 h
  unfold refE
  clear h
  by_cases d0 : q < 0
  · rw [if_pos (.inl d0)]
    go_enter Try.func28, Try.ntmps28
    go_wp2
    go_ret
    exact ⟨rfl, rfl⟩
  · by_cases d1 : rev < q
    · have d1' : q > rev := d1
      rw [if_pos (.inr d1)]
      go_enter Try.func28, Try.ntmps28
      go_wp2
      go_ret
      exact ⟨rfl, rfl⟩
    · have d1' : ¬ q > rev := d1
      rw [if_neg (by omega)]
      by_cases d2 : q < fl
      · rw [if_pos d2]
        go_enter Try.func28, Try.ntmps28
        go_wp2
        go_ret
        exact ⟨rfl, rfl⟩
      · rw [if_neg d2]
        go_enter Try.func28, Try.ntmps28
        go_wp2
        go_ret
        exact ⟨rfl, rfl⟩
end Go.Proofs.Ytjceofkcahfhmaa.Mv
namespace Go.Proofs.Ytjceofkcahfhmaa.Mv
open Go.RowKit Go.Lib Go.Maps
open Go.Proofs.Ytjceofkcahfhmaa.Cn
set_option linter.unusedSimpArgs false
set_option linter.unusedVariables false

abbrev ItT := ByteArray × ByteArray × Int
def aggI (x : ItT) : Value := .agg #[.string x.1, .string x.2.1, .int .i64 x.2.2]
def zeroI : ItT := (⟨#[]⟩, ⟨#[]⟩, 0)
/-- what Get answers -/
def getM (f : Key → Option Chn) (rev fl : Int) (key : ByteArray) (q : Int) : ItT × Int :=
  if refE rev fl q ≠ 0 then (zeroI, refE rev fl q) else if atB (vrs f key.data.toList) q = true then ((key, (atV (vrs f key.data.toList) q).2.1, (atV (vrs f key.data.toList) q).1), 0) else (zeroI, 6)
set_option maxRecDepth 100000 in
set_option maxHeartbeats 2000000 in
theorem Get_c {B c N : Nat} {mb : Option Nat} {f : Key → Option Chn} {l0 l9 rev fl ks vs : Int} {od : Value} {w : World} (h : IsMv B c N mb f l0 l9 rev fl ks vs od w) (hN : N ≤ 1000000) {key : ByteArray} (hk : key.size ≤ maxLen) (q : Int) :
    Calls Try.prog 25 #[.pointer (some ⟨c, 0, none⟩), .string key, .int .i64 q] w fun e w' => e = .returned (.tuple #[aggI (getM f rev fl key q).1, .int .i64 (getM f rev fl key q).2]) ∧ Below w.heap.size w w' := by
  unfold getM
  by_cases hr : refE rev fl q ≠ 0
  · rw [if_pos hr]
    exact get_no (.pointer (some ⟨c, 0, none⟩)) key q (refE rev fl q) w hr (Lib.hid fun W hW => ref_c c l0 l9 rev fl ks vs q _ _ W (h.go hW).hs)
  · rw [if_neg hr]
    have hr : refE rev fl q = 0 := Classical.byContradiction hr
    obtain ⟨W0, hW0, hk0, hb0⟩ := Cn.new3 w (.string ⟨#[]⟩) (.string ⟨#[]⟩) (.int .i64 0) 49
    have hz0 : w.heap.size < W0.heap.size := (Array.getElem?_eq_some_iff.1 hk0).1
    have H0 := Lib.hid (h.go hb0)
    have HW0 := Lib.hid hW0
    have HB0 := Lib.hid hb0
    have HK0 := Lib.hid hk0
    have HR := Lib.hid (ref_c c l0 l9 rev fl ks vs q _ _ W0 H0.out.hs)
    rw [hr] at HR
    have HA := Lib.hid (H0.out.at hN key.data.toList q)
    have hld := H0.out.look hk
    clear hW0 hk0 hb0 h hr
    unfold vb aggV at HA
    generalize pv (blkOf f key.data.toList) = pp at HA hld
    obtain ⟨⟨r, t, g⟩, hx⟩ : ∃ x, atV (vrs f key.data.toList) q = x := ⟨_, rfl⟩
    rw [hx] at HA
    rw [hx]
    dsimp only at HA ⊢
    cases hb : atB (vrs f key.data.toList) q with
    | true =>
      rw [hb] at HA
      rw [if_pos rfl]
      clear hb hx
      show Calls _ _ _ w fun e w' => e = .returned (.tuple #[.agg #[.string key, .string t, .int .i64 r], .int .i64 0]) ∧ Below w.heap.size w w'
      go_enter Try.func25, Try.ntmps25
      go_upto_region 1 with (fail)
      rw [← HW0.out]
      go_upto_region 2 with (go_at_call 28; (with_reducible refine HR.out.mono ?_); rintro e w1 ⟨rfl, rfl⟩)
      obtain ⟨c0, c1, c2, c3, c4, c5, c6, c7⟩ := cells8 H0.out.hs
      go_upto_region 5 with (go_at_call 31; (with_reducible refine HA.out.mono ?_); rintro e w2 ⟨rfl, hb2⟩; have HB2 := Lib.hid hb2; clear hb2)
      clear c0 c1 c2 c3 c4 c5 c6 c7
      obtain ⟨W3, hW3, hk3, hb3⟩ := Cn.new3 w2 (.int .i64 r) (.string t) (.bool g) 75
      have HW3 := Lib.hid hW3
      have HK3 : Hid (W3.heap[w.heap.size]? = some (.cells #[.string ⟨#[]⟩, .string ⟨#[]⟩, .int .i64 0] 49 (0, 0))) := (hb3.block _ (by have := HB2.out.size; omega)).trans ((HB2.out.block _ hz0).trans HK0.out)
      have HB3 : Hid (Below w.heap.size w W3) := btr HB0.out (btr HB2.out hb3)
      obtain ⟨x0, x1, x2⟩ := Cn.cells3 hk3
      obtain ⟨y0, y1, y2⟩ := Cn.cells3 HK3.out
      have z0 := frz HK3.out 0
      have z1 := frz HK3.out 1
      have z2 := frz HK3.out 2
      have HH := Lib.hid (st3 HK3.out (.string key) (.string t) (.int .i64 r))
      have HBF := Lib.hid (HB3.out.trans (bel_set3 (B := w.heap.size) (r := w.heap.size) W3 (Nat.le_refl _) (.string key) (.string t) (.int .i64 r)))
      clear hW3 hk3 hb3
      rw [← HW3.out]
      go_wp2
      obtain ⟨d0, d1, d2⟩ := Cn.cells3 HH.out
      clear y0 y1 y2 z0 z1 z2 x0 x1 x2
      (with_reducible refine bodyPost_ret (v := .tuple #[.agg #[.string key, .string t, .int .i64 r], .int .i64 0]) (by simp [results, Try.results25, go_sem, d0, d1, d2]) rfl ⟨rfl, HBF.out⟩)
    | false =>
      rw [hb] at HA
      rw [if_neg (by decide)]
      clear hb hx
      show Calls _ _ _ w fun e w' => e = .returned (.tuple #[.agg #[.string ⟨#[]⟩, .string ⟨#[]⟩, .int .i64 0], .int .i64 6]) ∧ Below w.heap.size w w'
      go_enter Try.func25, Try.ntmps25
      go_upto_region 1 with (fail)
      rw [← HW0.out]
      go_upto_region 2 with (go_at_call 28; (with_reducible refine HR.out.mono ?_); rintro e w1 ⟨rfl, rfl⟩)
      obtain ⟨c0, c1, c2, c3, c4, c5, c6, c7⟩ := cells8 H0.out.hs
      go_upto_region 5 with (go_at_call 31; (with_reducible refine HA.out.mono ?_); rintro e w2 ⟨rfl, hb2⟩; have HB2 := Lib.hid hb2; clear hb2)
      clear c0 c1 c2 c3 c4 c5 c6 c7
      obtain ⟨W3, hW3, hk3, hb3⟩ := Cn.new3 w2 (.int .i64 r) (.string t) (.bool g) 75
      have HW3 := Lib.hid hW3
      have HK3 : Hid (W3.heap[w.heap.size]? = some (.cells #[.string ⟨#[]⟩, .string ⟨#[]⟩, .int .i64 0] 49 (0, 0))) := (hb3.block _ (by have := HB2.out.size; omega)).trans ((HB2.out.block _ hz0).trans HK0.out)
      have HB3 : Hid (Below w.heap.size w W3) := btr HB0.out (btr HB2.out hb3)
      obtain ⟨y0, y1, y2⟩ := Cn.cells3 HK3.out
      have z0 := frz HK3.out 0
      have z1 := frz HK3.out 1
      have z2 := frz HK3.out 2
      have HH := Lib.hid (st3 HK3.out (.string ⟨#[]⟩) (.string ⟨#[]⟩) (.int .i64 0))
      have HBF := Lib.hid (HB3.out.trans (bel_set3 (B := w.heap.size) (r := w.heap.size) W3 (Nat.le_refl _) (.string ⟨#[]⟩) (.string ⟨#[]⟩) (.int .i64 0)))
      clear hW3 hk3 hb3
      rw [← HW3.out]
      go_wp2
      obtain ⟨d0, d1, d2⟩ := Cn.cells3 HH.out
      clear y0 y1 y2 z0 z1 z2
      (with_reducible refine bodyPost_ret (v := .tuple #[.agg #[.string ⟨#[]⟩, .string ⟨#[]⟩, .int .i64 0], .int .i64 6]) (by simp [results, Try.results25, go_sem, d0, d1, d2]) rfl ⟨rfl, HBF.out⟩)
end Go.Proofs.Ytjceofkcahfhmaa.Mv
namespace Go.Proofs.Ytjceofkcahfhmaa.Mv
open Go.RowKit Go.Lib Go.Maps
open Go.Proofs.Ytjceofkcahfhmaa.Cn
set_option linter.unusedSimpArgs false
set_option linter.unusedVariables false

/-- a change: key, value, gone? -/
abbrev ChT := ByteArray × ByteArray × Bool
/-- changes as they lie -/
def RdC (v : Value) (l : List ChT) (w : World) : Prop := ∃ ao cap, v = .slice ao l.length cap ∧ (0 < l.length → ∃ g, ao = some ⟨g, 0, none⟩ ∧ g < w.heap.size ∧ ∀ i (hi : i < l.length), w.cell? ⟨g, i * 3, none⟩ = some (.string l[i].1) ∧ w.cell? ⟨g, i * 3 + 1, none⟩ = some (.string l[i].2.1) ∧ w.cell? ⟨g, i * 3 + 2, none⟩ = some (.bool l[i].2.2))
theorem RdC.go {v : Value} {l : List ChT} {w W : World} (h : RdC v l w) (hb : Below w.heap.size w W) : RdC v l W := by
  obtain ⟨ao, cap, rfl, h⟩ := h
  refine ⟨ao, cap, rfl, fun h0 => ?_⟩
  obtain ⟨g, rfl, hg, hc⟩ := h h0
  refine ⟨g, rfl, Nat.lt_of_lt_of_le hg hb.size, fun i hi => ?_⟩
  obtain ⟨h1, h2, h3⟩ := hc i hi
  have hq := hb.block g hg
  exact ⟨by rw [World.cell?_of_block hq]; exact h1, by rw [World.cell?_of_block hq]; exact h2, by rw [World.cell?_of_block hq]; exact h3⟩
theorem RdC.keep {v : Value} {l : List ChT} {w W : World} (h : RdC v l w) {c : Nat} (hs : w.heap.size ≤ W.heap.size) (ho : ∀ k, k < w.heap.size → v.ownBlock = some k → W.heap[k]? = w.heap[k]?) : RdC v l W := by
  obtain ⟨ao, cap, rfl, h⟩ := h
  refine ⟨ao, cap, rfl, fun h0 => ?_⟩
  obtain ⟨g, rfl, hg, hc⟩ := h h0
  refine ⟨g, rfl, Nat.lt_of_lt_of_le hg hs, fun i hi => ?_⟩
  obtain ⟨h1, h2, h3⟩ := hc i hi
  have hq := ho g hg rfl
  exact ⟨by rw [World.cell?_of_block hq]; exact h1, by rw [World.cell?_of_block hq]; exact h2, by rw [World.cell?_of_block hq]; exact h3⟩
theorem rdc_at {ao : Option Addr} {cap n : Nat} {l : List ChT} {w : World} (h : RdC (.slice ao n cap) l w) (h0 : 0 < l.length) : ∃ g, ao = some ⟨g, 0, none⟩ ∧ g < w.heap.size ∧ ∀ i (hi : i < l.length), w.cell? ⟨g, i * 3, none⟩ = some (.string l[i].1) ∧ w.cell? ⟨g, i * 3 + 1, none⟩ = some (.string l[i].2.1) ∧ w.cell? ⟨g, i * 3 + 2, none⟩ = some (.bool l[i].2.2) := by
  obtain ⟨ao', cp, e, hh⟩ := h
  injection e with e1 e2 e3
  subst e1
  exact hh h0
/-- how many keys have a value behind a change -/
def kwS (f : Key → Option Chn) (rev : Int) (n : Int) (x : ChT) : Int := if x.2.2 = true then n - 1 else if atB (vrs f x.1.data.toList) rev = true then n else n + 1
def kwL (f : Key → Option Chn) (rev n : Int) (l : List ChT) : Int := l.foldl (kwS f rev) n
theorem kwL_snoc {f : Key → Option Chn} {rev n : Int} {l : List ChT} {j : Nat} (hj : j < l.length) : kwL f rev n (l.take (j + 1)) = kwS f rev (kwL f rev n (l.take j)) l[j] := by
  unfold kwL
  rw [List.take_succ_eq_append_getElem hj, List.foldl_append]; rfl
theorem kwL_bd {f : Key → Option Chn} {rev n : Int} : ∀ (l : List ChT), n - l.length ≤ kwL f rev n l ∧ kwL f rev n l ≤ n + l.length := by
  intro l
  induction l generalizing n with
  | nil => exact ⟨by simp [kwL], by simp [kwL]⟩
  | cons x l ih =>
    have h1 : kwL f rev n (x :: l) = kwL f rev (kwS f rev n x) l := rfl
    have h2 : n - 1 ≤ kwS f rev n x ∧ kwS f rev n x ≤ n + 1 := by unfold kwS; split <;> (try split) <;> omega
    have h3 := @ih (kwS f rev n x)
    rw [h1, List.length_cons]
    omega
set_option maxRecDepth 100000 in
set_option maxHeartbeats 4000000 in
theorem keysWith_c {B c N : Nat} {mb : Option Nat} {f : Key → Option Chn} {l0 l9 rev fl ks vs : Int} {od : Value} {w : World} (h : IsMv B c N mb f l0 l9 rev fl ks vs od w) (hN : N ≤ 1000000) (ao : Option Addr) (cap : Nat) (l : List ChT) (hl : RdC (.slice ao l.length cap) l w) (hm : l.length ≤ 1000) (hks : -1000000 ≤ ks ∧ ks ≤ 1000000) (hkk : ∀ x ∈ l, x.1.size ≤ maxLen) :
    Calls Try.prog 35 #[.pointer (some ⟨c, 0, none⟩), .slice ao l.length cap] w fun e w' => e = .returned (.int .i64 (kwL f rev ks l)) ∧ Below w.heap.size w w' := by
  obtain ⟨c0, c1, c2, c3, c4, c5, c6, c7⟩ := cells8 h.hs
  have H := Lib.hid h
  have HLL := Lib.hid hl
  have HKK := Lib.hid hkk
  obtain ⟨n, hn⟩ : ∃ n, n = l.length := ⟨_, rfl⟩
  have HN : Hid (l.length = n) := hn.symm
  rw [← hn] at HLL hm ⊢
  clear h hl hkk hn
  go_enter Try.func35, Try.ntmps35
  go_wp2
  go_loopw [14, 5] (fun iv nv wr => ∃ j : Nat, j ≤ n ∧ iv = .int .i64 (j : Int) ∧ nv = .int .i64 (kwL f rev ks (l.take j)) ∧ Hid (Below w.heap.size w wr)) (fun iv _ _ => n - (intOf iv).toNat)
  case atStart => exact ⟨0, by omega, rfl, rfl, Lib.hid (Below.refl _ _)⟩
  case round =>
    obtain ⟨j, hj, rfl, rfl, HB⟩ := hrel
    clear c0 c1 c2 c3 c4 c5 c6 c7
    by_cases hlt : j < n
    · have HX := Lib.hid (show j < l.length by rw [HN.out]; exact hlt)
      obtain ⟨g, rfl, hg, hat⟩ := rdc_at (HLL.out.go HB.out) (by have := HX.out; omega)
      obtain ⟨a0, a1, a2⟩ := hat j HX.out
      have hj0 : (0 : Int) ≤ (j : Int) := by omega
      have hjl : (j : Int) < (n : Int) := by omega
      have HSN : Hid (kwL f rev ks (l.take (j + 1)) = kwS f rev (kwL f rev ks (l.take j)) (l[j]'HX.out)) := kwL_snoc HX.out
      have hbd := kwL_bd (f := f) (rev := rev) (n := ks) (l.take j)
      rw [List.length_take] at hbd
      have hsz := HKK.out _ (List.getElem_mem HX.out)
      generalize kwL f rev ks (l.take j) = z at HSN hbd ⊢
      obtain ⟨⟨kx, vx, gx⟩, hx⟩ : ∃ x : ChT, l[j]'HX.out = x := ⟨_, rfl⟩
      rw [hx] at a0 a1 a2 HSN hsz
      dsimp only at a0 a1 a2 hsz
      have hz : -1001000 ≤ z ∧ z ≤ 1001000 := by omega
      have q1 : IntKind.i64.wrap (z + 1) = z + 1 := by rw [IntKind.wrap_i64]; omega
      have q2 : IntKind.i64.wrap (z - 1) = z - 1 := by rw [IntKind.wrap_i64]; omega
      obtain ⟨W1, hW1, hk1, hb1⟩ := Cn.new3 wr (.string kx) (.string vx) (.bool gx) 80
      have HW1 := Lib.hid hW1
      have HB1 := Lib.hid (HB.out.trans (hb1.mono HB.out.size))
      obtain ⟨x0, x1, x2⟩ := Cn.cells3 hk1
      have HHW := Lib.hid (has_c (H.out.go HB1.out) hN hsz)
      unfold kwS at HSN
      dsimp only at HSN
      clear hat hx hbd hW1 hk1 hb1 hg
      cases gx with
      | true =>
        rw [if_pos rfl] at HSN
        go_upto_region 5 with (fail)
        rw [← HW1.out]
        go_wp2
        go_roundw
        case rel => exact ⟨j + 1, by omega, by go_num, by rw [HSN.out], HB1⟩
        case measure => simp [intOf]; omega
      | false =>
        rw [if_neg (by decide)] at HSN
        cases hb : atB (vrs f kx.data.toList) rev with
        | true =>
          rw [hb] at HSN HHW
          rw [if_pos rfl] at HSN
          clear hb
          go_upto_region 5 with (fail)
          rw [← HW1.out]
          go_wp2_with (go_at_call 50; (with_reducible refine HHW.out.mono ?_); rintro e w2 ⟨rfl, hb2⟩; have HB2 := Lib.hid (HB1.out.trans (hb2.mono HB1.out.size)); clear hb2)
          go_roundw
          case rel => exact ⟨j + 1, by omega, by go_num, by rw [HSN.out], HB2⟩
          case measure => simp [intOf]; omega
        | false =>
          rw [hb] at HSN HHW
          rw [if_neg (by decide)] at HSN
          clear hb
          go_upto_region 5 with (fail)
          rw [← HW1.out]
          go_wp2_with (go_at_call 50; (with_reducible refine HHW.out.mono ?_); rintro e w2 ⟨rfl, hb2⟩; have HB2 := Lib.hid (HB1.out.trans (hb2.mono HB1.out.size)); clear hb2)
          go_roundw
          case rel => exact ⟨j + 1, by omega, by go_num, by rw [HSN.out], HB2⟩
          case measure => simp [intOf]; omega
    · have hjl : ¬ (j : Int) < (n : Int) := by omega
      have hjn : j = n := by omega
      rw [show l.take j = l by rw [hjn, ← HN.out]; exact List.take_of_length_le (Nat.le_refl _)]
      go_wp2
      go_ret
      exact ⟨rfl, HB.out⟩
end Go.Proofs.Ytjceofkcahfhmaa.Mv
