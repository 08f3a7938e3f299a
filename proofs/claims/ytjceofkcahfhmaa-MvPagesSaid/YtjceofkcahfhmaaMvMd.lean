/- Contracts and plain mathematics of some packages' functions, laid together; conditions as each one says. -/
import Derived.Test.YtjceofkcahfhmaaMvMc
import Derived.Sort.Walk0
import Derived.Sort.EncStr
namespace Go.Proofs.Ytjceofkcahfhmaa.Mv
open Go.RowKit Go.Lib Go.Maps
open Go.Proofs.Ytjceofkcahfhmaa.Cn
set_option linter.unusedSimpArgs false
set_option linter.unusedVariables false

section
variable {P : Program} (w : World) {ops : Array Oper} {rest : List Oper} {o : Oper} {a : Act} {Q : Exit → Act → World → Prop}
/-- the step of a range over the map of chains, with the key's size -/
theorem wpList_next_pz (hg : o.guard = none) (it : Operand) (hop : o.op = Op.next it false)
    (b r n : Nat) (D : DataW Unit) (left : Lit → Bool) (cnt : Nat) (hit : a.eval it = .pointer (some ⟨r, 0, none⟩)) (h : w.ranges Try.prog 9 ptrE b r n D left cnt)
    (hDone : cnt = 0 → (∀ kl, left kl = false) → wpList Try.prog ops Q rest (a.put o.dst (.tuple #[.bool false])) w)
    (hMore : ∀ (x : ByteArray) (p : Option Nat) (w' : World) (cnt' : Nat), x.size ≤ maxLen → left (.string x.data.toList) = true → (∀ zd, D.atKey (.string x.data.toList) zd = pdo p) → w'.ranges Try.prog 9 ptrE b r n D (fun k => left k && !k.sameKey (.string x.data.toList)) cnt' → cnt' < cnt →
      w.grownBy w' (some r) → w'.heap.size = w.heap.size → (Instr.entry (.pointer (some ⟨r, 0, none⟩))).run Try.prog w' = .ok (.tuple #[.string x, pv p]) w' → wpList Try.prog ops Q rest (a.put o.dst (.tuple #[.bool true, .string x, pv p])) w') :
    wpList Try.prog ops Q (o :: rest) a w :=
  wpList_next_ranges (α := ByteArray) (β := Option Nat) w hg it hop 9 law ptrE (fun x => .string x) pv (fun key kl hkey => by obtain ⟨x, rfl, _⟩ := keyOf_str_inv hkey; exact ⟨x, rfl⟩) (fun v y hv => by obtain ⟨c, rfl, _⟩ := ptrE_all hv; exact ⟨c, rfl⟩)
    b r n D left cnt hit h hDone (fun x c kl y w' cnt' hkey hlk hv hat hrg hlt hgr hsz hen => by
      obtain ⟨x', ex, rfl, hsz'⟩ := Go.WideMaps.string_of_keyOf Try.underlying9 hkey
      cases ex
      obtain ⟨c', ec, he⟩ := ptrE_all hv
      have := pv_inj ec
      subst this
      exact hMore x c w' cnt' hsz' hlk (fun zd => (hat zd).trans he) hrg hlt hgr hsz hen)
end
/-- how many versions all chains have -/
def sumV (f : Key → Option Chn) (K : List Key) : Nat := (K.map fun k => (vrs f k).length).sum
theorem sumV_congr {f f' : Key → Option Chn} : ∀ {K : List Key}, (∀ k ∈ K, (vrs f' k).length = (vrs f k).length) → sumV f' K = sumV f K := by
  intro K h
  unfold sumV
  rw [List.map_congr_left h]
theorem sumV_turn {f f' : Key → Option Chn} {key : Key} {s : Nat} : ∀ {K : List Key}, K.Nodup → key ∈ K → (∀ k, k ≠ key → (vrs f' k).length = (vrs f k).length) → (vrs f' key).length + s = (vrs f key).length → sumV f' K + s = sumV f K := by
  intro K
  induction K with
  | nil => intro _ h; cases h
  | cons x K ih =>
    intro hn hm ho he
    obtain ⟨n1, n2⟩ := List.nodup_cons.1 hn
    have e1 : sumV f' (x :: K) = (vrs f' x).length + sumV f' K := by unfold sumV; simp
    have e2 : sumV f (x :: K) = (vrs f x).length + sumV f K := by unfold sumV; simp
    rcases List.mem_cons.1 hm with e | e
    · subst e
      have : sumV f' K = sumV f K := sumV_congr (fun k hk => ho k (fun e => n1 (by rw [← e]; exact hk)))
      omega
    · have h1 := ih n2 e ho he
      have h2 := ho x (fun e' => n1 (by rw [e']; exact e))
      omega
theorem sumV_le {f : Key → Option Chn} {K : List Key} {k : Key} (h : k ∈ K) : (vrs f k).length ≤ sumV f K := by
  induction K with
  | nil => cases h
  | cons x K ih =>
    have e1 : sumV f (x :: K) = (vrs f x).length + sumV f K := by unfold sumV; simp
    rcases List.mem_cons.1 h with e | e
    · subst e; omega
    · have := ih e; omega
theorem spr_len (l : List Ver) (q : Int) : spr l q ≤ l.length := Nat.le_trans (spr_le l q) (cnt_le l q)
/-- a store whose map is being gone over -/
structure CpJ (c N b rb n : Nat) (f : Key → Option Chn) (l0 l9 rev q ks : Int) (od : Value) (K : List Key) (W wr : World) (left : Lit → Bool) (ct : Nat) (D : DataW Unit) (f' : Key → Option Chn) (od' : Value) : Prop where
  is : IsMv 0 c N (some b) f' l0 l9 rev q ks (sumV f' K : Nat) od' wr
  mp : MapF D (blkOf f')
  rg : wr.ranges Try.prog 9 ptrE b rb n D left ct
  vr : ∀ k, vrs f' k = if left (.string k) = true then vrs f k else cmp (vrs f k) q
  so : ∀ k, (f' k).isSome = if left (.string k) = true then (f k).isSome else ((f k).isSome && decide (cmp (vrs f k) q ≠ []))
  fr : Fr (Ow c (some b) f) W wr
  ow : ∀ k, Ow c (some b) f' k → Ow c (some b) f k ∨ W.heap.size ≤ k
  nr : ¬ Ow c (some b) f' rb
  od : (od' = od ∧ ∀ k, (f' k).isSome = (f k).isSome) ∨ od' = .slice none 0 0
theorem own_del {c : Nat} {mb : Option Nat} {f : Key → Option Chn} {key : Key} {k : Nat} (h : Ow c mb (setF f key none) k) : Ow c mb f k := by
  rcases h with e | e | ⟨j, y, hy, e⟩
  · exact .inl e
  · exact .inr (.inl e)
  · by_cases hj : j = key
    · subst hj; rw [setF_same] at hy; cases hy
    · rw [setF_other hj] at hy
      exact .inr (.inr ⟨j, y, hy, e⟩)
theorem Fam.del {B c N : Nat} {mb : Option Nat} {f : Key → Option Chn} {w : World} (h : Fam B c N mb f w) (key : Key) : Fam B c N mb (setF f key none) w := by
  have hs : ∀ j x, setF f key none j = some x → f j = some x := fun j x hx => by
    by_cases hj : j = key
    · subst hj; rw [setF_same] at hx; cases hx
    · rw [setF_other hj] at hx; exact hx
  exact ⟨fun j x hx => h.ch j x (hs j x hx), fun j j' x y hn hx hy => h.ap j j' x y hn (hs j x hx) (hs j' y hy)⟩
theorem vrs_del (f : Key → Option Chn) (key j : Key) : vrs (setF f key none) j = if j = key then [] else vrs f j := by
  unfold vrs
  by_cases hj : j = key
  · subst hj; rw [setF_same, if_pos rfl]
  · rw [setF_other hj, if_neg hj]
theorem blk_del (f : Key → Option Chn) (key : Key) : blkOf (setF f key none) = fun j => if j = key then none else blkOf f j := by
  funext j
  unfold blkOf
  by_cases hj : j = key
  · subst hj; rw [setF_same, if_pos rfl]; rfl
  · rw [setF_other hj, if_neg hj]
theorem sk_lit (left : Lit → Bool) (x j : Key) : (left (.string j) && !(Lit.string j).sameKey (.string x)) = if j = x then false else left (.string j) := by
  by_cases e : j = x
  · subst e
    rw [if_pos rfl, show (Lit.string j).sameKey (.string j) = true from WideAt.sameKey_self (a := .string j) trivial]
    simp
  · rw [if_neg e, sameKey_ne (fun h => e (by injection h))]
    simp
/-- what Compact answers, and leaves -/
def cpE (fl rev q : Int) : Int := if q < fl ∨ rev < q then 1 else 0
def CpS (c N : Nat) (mb : Option Nat) (f : Key → Option Chn) (l0 l9 rev q ks : Int) (od : Value) (K : List Key) (W w' : World) : Prop :=
  ∃ f' od', IsMv 0 c N mb f' l0 l9 rev q ks (sumV f' K : Nat) od' w' ∧ Fr (Ow c mb f) W w' ∧ (∀ k, Ow c mb f' k → Ow c mb f k ∨ W.heap.size ≤ k) ∧ (∀ k, vrs f' k = cmp (vrs f k) q) ∧ (∀ k, (f' k).isSome = ((f k).isSome && decide (cmp (vrs f k) q ≠ []))) ∧ ((od' = od ∧ ∀ k, (f' k).isSome = (f k).isSome) ∨ od' = .slice none 0 0)
def CpQ (c N : Nat) (mb : Option Nat) (f : Key → Option Chn) (l0 l9 rev fl q ks vs : Int) (od : Value) (K : List Key) (w : World) (e : Ending) (w' : World) : Prop :=
  e = .returned (.int .i64 (cpE fl rev q)) ∧ ((cpE fl rev q = 1 ∧ w' = w) ∨ (cpE fl rev q = 0 ∧ CpS c N mb f l0 l9 rev q ks od K w w'))
theorem cmp_nil (q : Int) : cmp [] q = [] := by unfold cmp; simp
set_option maxRecDepth 100000 in
set_option maxHeartbeats 2000000 in
theorem Compact_no {B c N : Nat} {mb : Option Nat} {f : Key → Option Chn} {l0 l9 rev fl ks vs : Int} {od : Value} {w : World} (h : IsMv B c N mb f l0 l9 rev fl ks vs od w) (q : Int) (hq : q < fl ∨ rev < q) :
    Calls Try.prog 23 #[.pointer (some ⟨c, 0, none⟩), .int .i64 q] w fun e w' => e = .returned (.int .i64 1) ∧ w' = w := by
  obtain ⟨c0, c1, c2, c3, c4, c5, c6, c7⟩ := cells8 h.hs
  clear h
  by_cases d0 : q < fl
  · clear hq
    go_enter Try.func23, Try.ntmps23
    go_wp2
    go_ret
    exact ⟨rfl, rfl⟩
  · have d1 : q > rev := by omega
    clear hq
    go_enter Try.func23, Try.ntmps23
    go_wp2
    go_ret
    exact ⟨rfl, rfl⟩
set_option maxRecDepth 100000 in
set_option maxHeartbeats 2000000 in
theorem Compact_0 {c N : Nat} {f : Key → Option Chn} {l0 l9 rev fl ks vs : Int} {od : Value} {w : World} (h : IsMv 0 c N none f l0 l9 rev fl ks vs od w) {K : List Key} (hvs : vs = (sumV f K : Nat)) (q : Int) (h1 : fl ≤ q) (h2 : q ≤ rev) :
    Calls Try.prog 23 #[.pointer (some ⟨c, 0, none⟩), .int .i64 q] w fun e w' => e = .returned (.int .i64 0) ∧ CpS c N none f l0 l9 rev q ks od K w w' := by
  obtain ⟨c0, c1, c2, c3, c4, c5, c6, c7⟩ := cells8 h.hs
  have f3 := frz h.hs 3
  have d1 : ¬ q < fl := by omega
  have d2 : ¬ q > rev := by omega
  have hfn : ∀ k, f k = none := by
    rcases h.mp with ⟨_, e⟩ | ⟨b, e, _⟩
    · exact e
    · cases e
  obtain ⟨W1, hW1⟩ : ∃ W1, W1 = w.setCell ⟨c, 3, none⟩ (.int .i64 q) := ⟨_, rfl⟩
  have HS1 : Hid (W1.heap[c]? = some (obN l0 l9 rev q (.map none) ks vs od)) := by rw [hW1]; exact set3o h.hs q
  have HF1 : Hid (Fr (Ow c none f) w W1) := by rw [hW1]; exact Lib.hid ((Fr.refl _ w).set _ (.inl rfl))
  have H1 : Hid (IsMv 0 c N none f l0 l9 rev q ks vs od W1) := by
    refine h.cells HS1.out (fun k _ hk => ?_)
    rw [hW1]; exact set_oth _ _ _ _ hk
  have HW1 := Lib.hid hW1
  have hr := run_range_nilMap (P := Try.prog) W1 52 9 77 Try.underlying52
  have hn := fun ty => run_next_nilMap (P := Try.prog) W1 ty 0 0 #[]
  have HFN := Lib.hid hfn
  have HVS := Lib.hid hvs
  have HB := Lib.hid ((Below.refl W1.heap.size W1).alloc (Nat.le_refl _) (.mapIter none 0 #[] 0))
  clear hW1 h1 h2 h hfn hvs
  go_enter Try.func23, Try.ntmps23
  go_upto_region 6 with (fail)
  rw [← HW1.out]
  clear c0 c1 c2 c3 c4 c5 c6 c7 f3 d1 d2
  obtain ⟨c0, c1, c2, c3, c4, c5, c6, c7⟩ := cells8 HS1.out
  go_wp2
  refine wp_loop_rounds 1 ?_
  rw [rounds_succ]
  go_wp2
  go_ret
  have hv : ∀ k, vrs f k = [] := fun k => vrs_none (HFN.out k)
  refine ⟨rfl, f, od, ?_, HF1.out.trans (Fr.below HB.out) (fun k hk => .inl hk), fun k hk => .inl hk, fun k => by rw [hv, cmp_nil], fun k => by rw [HFN.out k]; rfl, .inl ⟨rfl, fun _ => rfl⟩⟩
  rw [← HVS.out]
  exact H1.out.go HB.out
end Go.Proofs.Ytjceofkcahfhmaa.Mv
namespace Go.Proofs.Ytjceofkcahfhmaa.Mv
open Go.RowKit Go.Lib Go.Maps
open Go.Proofs.Ytjceofkcahfhmaa.Cn
set_option linter.unusedSimpArgs false
set_option linter.unusedVariables false

theorem blk_some {f : Key → Option Chn} {k : Key} {d : Nat} (h : blkOf f k = some d) : ∃ gb l, f k = some (d, gb, l) := by
  unfold blkOf at h
  cases hf : f k with
  | none => rw [hf] at h; cases h
  | some x =>
    obtain ⟨d', gb, l⟩ := x
    rw [hf] at h
    injection h with h
    exact ⟨gb, l, by rw [← h]⟩
/-- a chain's turn -/
theorem IsMv.turn {c N : Nat} {mb : Option Nat} {f : Key → Option Chn} {l0 l9 rev fl ks vs : Int} {od : Value} {w V : World} {key : Key} {d : Nat} {gb gb' : Option Nat} {l l' : List Ver} (h : IsMv 0 c N mb f l0 l9 rev fl ks vs od w) (hf : f key = some (d, gb, l)) (hi : IsCh 0 d N gb' l' V) (ha : Asc l') (hg : Chg d gb w V) (hn : NewB gb gb' w) : IsMv 0 c N mb (setF f key (some (d, gb', l'))) l0 l9 rev fl ks vs od V := by
  obtain ⟨g1, g2, g3, g4, g5, g6, g7⟩ := h.fm.ch _ _ hf
  have hcl : c < w.heap.size := h.own (.inl rfl)
  refine ⟨(hg.block c hcl g4 (fun e => g6 e.symm)).trans h.hs, ?_, h.fm.put (Nat.le_refl _) hf hcl (fun b e => h.own (.inr (.inl e))) hi ha hg hn, h.lo⟩
  rw [blkOf_set hf]
  rcases h.mp with ⟨e1, e2⟩ | ⟨b, e1, e2, e3, hm⟩
  · have := e2 key; rw [hf] at this; cases this
  · exact .inr ⟨b, e1, e2, e3, hm.keep (hg.block b hm.lt (fun e => g5 (by rw [e1, e])) (fun e => g7 b e1 e.symm))⟩
set_option maxRecDepth 100000 in
set_option maxHeartbeats 8000000 in
theorem Compact_b {c N b : Nat} {f : Key → Option Chn} {l0 l9 rev fl ks vs : Int} {od : Value} {w : World} (h : IsMv 0 c N (some b) f l0 l9 rev fl ks vs od w) {K : List Key} (hK : Dm f K) (hN : N ≤ 1000) (hvs : vs = (sumV f K : Nat)) (hvl : vs ≤ 100000) (q : Int) (h1 : fl ≤ q) (h2 : q ≤ rev) :
    Calls Try.prog 23 #[.pointer (some ⟨c, 0, none⟩), .int .i64 q] w fun e w' => e = .returned (.int .i64 0) ∧ CpS c N (some b) f l0 l9 rev q ks od K w w' := by
  obtain ⟨c0, c1, c2, c3, c4, c5, c6, c7⟩ := cells8 h.hs
  have f3 := frz h.hs 3
  have d1 : ¬ q < fl := by omega
  have d2 : ¬ q > rev := by omega
  have hbl : b < w.heap.size := h.own (.inr (.inl rfl))
  have hcl : c < w.heap.size := h.own (.inl rfl)
  obtain ⟨W1, hW1⟩ : ∃ W1, W1 = w.setCell ⟨c, 3, none⟩ (.int .i64 q) := ⟨_, rfl⟩
  have HS1 : Hid (W1.heap[c]? = some (obN l0 l9 rev q (.map (some b)) ks vs od)) := by rw [hW1]; exact set3o h.hs q
  have HF1 : Hid (Fr (Ow c (some b) f) w W1) := by rw [hW1]; exact Lib.hid ((Fr.refl _ w).set _ (.inl rfl))
  have hz1 : W1.heap.size = w.heap.size := by rw [hW1]; simp [World.setCell]
  have H1 : Hid (IsMv 0 c N (some b) f l0 l9 rev q ks (sumV f K : Nat) od W1) := by
    rw [← hvs]
    refine h.cells HS1.out (fun k _ hk => ?_)
    rw [hW1]; exact set_oth _ _ _ _ hk
  have HW1 := Lib.hid hW1
  have HKK := Lib.hid hK
  have HVL : Hid (sumV f K ≤ 100000) := by show _ ≤ _; omega
  clear hW1 h1 h2 h hvs hvl hK
  obtain ⟨D, hD, HMP⟩ : ∃ D, Hid (W1.ownsMap Try.prog 9 ptrE b (Maps.size D) D) ∧ Hid (MapF D (blkOf f)) := by
    rcases H1.out.mp with ⟨e, _⟩ | ⟨b', e, _, _, D, h1, h2⟩
    · cases e
    · injection e with e; subst e; exact ⟨D, h1, h2⟩
  obtain ⟨n, hn⟩ : ∃ n, n = Maps.size D := ⟨_, rfl⟩
  rw [← hn] at hD
  clear hn
  go_enter Try.func23, Try.ntmps23
  go_upto_region 6 with (fail)
  rw [← HW1.out]
  clear c0 c1 c2 c3 c4 c5 c6 c7 f3 d1 d2
  obtain ⟨c0, c1, c2, c3, c4, c5, c6, c7⟩ := cells8 HS1.out
  go_wp2_with (at_range; refine wpList_range_own _ rfl _ _ rfl 9 77 law Try.underlying52 ptrE b _ D rfl hD.out ?_; intro w2 hrg hg2 hs2; clear c0 c1 c2 c3 c4 c5 c6 c7)
  go_frame
  obtain ⟨rb, hrb⟩ : ∃ rb, rb = W1.heap.size := ⟨_, rfl⟩
  rw [← hrb] at hrg ⊢
  have hb2 : Below W1.heap.size W1 w2 := ⟨hg2.os, hg2.tape, hg2.output, hg2.size, fun k hk => hg2.block k hk (by simp)⟩
  have hha : ∀ k : Key, Maps.has D (.string k) = (f k).isSome := fun k => by
    rw [HMP.out.has]
    show (blkOf f k).isSome = _
    unfold blkOf
    cases f k <;> rfl
  have HI0 : Hid (CpJ c N b rb n f l0 l9 rev q ks od K W1 w2 (Maps.has D) (Maps.size D) D f od) :=
    ⟨H1.out.go hb2, HMP.out, hrg, fun k => by
      rw [hha k]
      cases hfk : f k with
      | none => rw [vrs_none hfk]; simp [cmp_nil]
      | some y => simp, fun k => by
      rw [hha k]
      cases hfk : f k <;> simp, Fr.below hb2, fun k hk => .inl hk, fun e => by have := H1.out.own e; omega, .inl ⟨rfl, fun _ => rfl⟩⟩
  have HRB := Lib.hid hrb
  clear hrg hg2 hs2 hb2 hrb hha
  go_loopw [5] (fun _ wr => ∃ left ct D' f' od', Hid (CpJ c N b rb n f l0 l9 rev q ks od K W1 wr left ct D' f' od')) (fun _ wr => wr.rangeLeft b rb)
  case atStart => exact ⟨_, _, _, _, _, HI0⟩
  case round =>
    clear HI0
    obtain ⟨left, ct, D', f', od', HI⟩ := hrel
    go_wp2_with (at_next; refine wpList_next_pz _ rfl _ rfl b rb n D' left ct rfl HI.out.rg ?_ ?_)
    · intro _ hl0
      go_wp2
      go_ret
      have hi := HI.out
      refine ⟨rfl, f', od', hi.is, HF1.out.trans hi.fr (fun k hk => .inl hk), fun k hk => ?_, fun k => ?_, fun k => ?_, hi.od⟩
      · rcases hi.ow k hk with e | e
        · exact .inl e
        · exact .inr (by omega)
      · rw [hi.vr, hl0]; rfl
      · rw [hi.so, hl0]; rfl
    · intro x p w3 ct' hxs hlx hat hrg3 hlt hg3 hs3 hen
      have hbo : (blkOf f' x.data.toList).isSome = true := by
        have h1 := has_true_of_atKey (fun zd => hat zd)
        rw [HI.out.mp.has] at h1
        exact h1
      obtain ⟨d, hd⟩ := Option.isSome_iff_exists.1 hbo
      obtain ⟨gb, l, hf⟩ := blk_some hd
      obtain rfl : p = some d := pdo_is ((hat (pd (-1))).symm.trans (HI.out.mp.at' _ d hd _))
      rw [show pv (some d) = .pointer (some ⟨d, 0, none⟩) from rfl] at hen ⊢
      have hf3 : Fr (fun k => k = rb) wr w3 := ⟨hg3.os, hg3.tape, hg3.output, hg3.size, fun k h1 h2 => hg3.block k h1 (fun e => h2 (by injection e))⟩
      have H3 := Lib.hid (HI.out.is.fr hf3 (fun k hk e => HI.out.nr (by rw [← e]; exact hk)))
      have hvx : vrs f x.data.toList = l := by
        have := HI.out.vr x.data.toList
        rw [if_pos hlx, vrs_some hf] at this
        exact this.symm
      have hfx : (f x.data.toList).isSome = true := by
        have := HI.out.so x.data.toList
        rw [if_pos hlx, hf] at this
        exact this.symm
      have hxK : x.data.toList ∈ K := by
        have := HKK.out.2 x.data.toList
        rw [hfx] at this
        exact of_decide_eq_true this.symm
      have hsl : l.length ≤ sumV f' K := by
        have := sumV_le (f := f') hxK
        rw [vrs_some hf] at this
        exact this
      have hspl := spr_len l q
      obtain ⟨g1, g2, g3, g4, g5, g6, g7⟩ := H3.out.fm.ch _ _ hf
      obtain ⟨vv, hvv⟩ : ∃ vv : Int, vv = (sumV f' K : Nat) := ⟨_, rfl⟩
      have H3v : Hid (IsMv 0 c N (some b) f' l0 l9 rev q ks vv od' w3) := by rw [hvv]; exact H3
      have hvb : sumV f' K ≤ 100000 := by
        have h1 : sumV f' K ≤ sumV f K := by
          unfold sumV
          have : ∀ k, (vrs f' k).length ≤ (vrs f k).length := fun k => by
            rw [HI.out.vr]
            split
            · exact Nat.le_refl _
            · rw [cmp_len]; omega
          clear HI
          induction K with
          | nil => exact Nat.le_refl _
          | cons y K _ =>
            have hh : ∀ K : List Key, (K.map fun k => (vrs f' k).length).sum ≤ (K.map fun k => (vrs f k).length).sum := by
              intro K
              induction K with
              | nil => exact Nat.le_refl _
              | cons z K ih => simp only [List.map_cons, List.sum_cons]; have := this z; omega
            exact hh _
        have := HVL.out
        omega
      have hqw : IntKind.i64.wrap (vv - (spr l q : Nat)) = vv - (spr l q : Nat) := by rw [IntKind.wrap_i64]; omega
      have HCC : Hid (Calls Try.prog 38 #[.pointer (some ⟨d, 0, none⟩), .int .i64 q] w3.drew (PtQ 0 d N gb (cmp l q) (spr l q : Nat) w3.drew)) := Compact_c 0 d N gb l q w3.drew (g1.go (bdr w3)) (by omega) (Nat.zero_le _) g2
      unfold PtQ at HCC
      have HLT : Hid (ct' < wr.rangeLeft b rb) := by show _ < _; rw [HI.out.rg.left_eq]; exact hlt
      have HRG3 := Lib.hid hrg3
      have HF3 := Lib.hid hf3
      have HFX := Lib.hid hf
      have HAS := Lib.hid (cmp_asc g2 q)
      have HGG : Hid (c ≠ d ∧ b ≠ d ∧ gb ≠ some c ∧ gb ≠ some b ∧ rb ≠ d ∧ gb ≠ some rb ∧ rb ≠ c ∧ rb < wr.heap.size) :=
        ⟨g4, fun e => g5 (by rw [e]), g6, g7 b rfl, fun e => HI.out.nr (.inr (.inr ⟨_, _, hf, .inl e⟩)), fun e => HI.out.nr (.inr (.inr ⟨_, _, hf, .inr e⟩)), fun e => HI.out.nr (.inl e), HI.out.rg.lt⟩
      have HVX := Lib.hid (show vrs f x.data.toList = l ∧ (f x.data.toList).isSome = true ∧ x.data.toList ∈ K ∧ left (.string x.data.toList) = true from ⟨hvx, hfx, hxK, hlx⟩)
      have HVV := Lib.hid hvv
      have hw3s : w3.heap.size = wr.heap.size := hs3
      clear hat hlx hrg3 hlt hg3 hs3 hbo hd hf hf3 hvx hfx hxK g1 g2 g3 g4 g5 g6 g7 hvv hvb hsl hspl
      go_upto_region 9 with (fail)
      clear hen
      obtain ⟨c0, c1, c2, c3, c4, c5, c6, c7⟩ := cells8 H3v.out.hs
      have hc3 : c < w3.heap.size := H3v.out.own (.inl rfl)
      go_region_with (go_at_call 38; (with_reducible refine HCC.out.mono ?_); rintro e w4 ⟨rfl, gb4, hc4, hch4, hnb4⟩; have HC4 := Lib.hid hc4; have HH4 : Hid (Chg d gb w3 w4) := ⟨hch4.os, hch4.tape, hch4.output, hch4.size, hch4.block⟩; have HN4 : Hid (NewB gb gb4 w3) := hnb4; have HS4 : Hid (w4.heap[c]? = some (obN l0 l9 rev q (.map (some b)) ks vv od')) := (HH4.out.block c hc3 HGG.out.1 (fun e => HGG.out.2.2.1 e.symm)).trans H3v.out.hs; have k6 := cell_of_row _ _ 6 _ _ _ HS4.out; have f6 := frz HS4.out 6; clear hc4 hch4 hnb4)
      all_goals
        clear c0 c1 c2 c3 c4 c5 c6 c7 k6 f6
        obtain ⟨W5, hW5⟩ : ∃ W5, W5 = w4.setCell ⟨c, 6, none⟩ (.int .i64 (vv - (spr l q : Nat))) := ⟨_, rfl⟩
        have o5 : ∀ k, k ≠ c → W5.heap[k]? = w4.heap[k]? := fun k hk => by rw [hW5]; exact set_oth _ _ _ _ hk
        have hz5 : W5.heap.size = w4.heap.size := by rw [hW5]; simp [World.setCell]
        have hsz4 : w3.heap.size ≤ w4.heap.size := HH4.out.size
        obtain ⟨q1, q2, q3, q4, q5, q6, q7, q8⟩ := HGG.out
        have H4 := H3v.out.turn HFX.out HC4.out HAS.out HH4.out HN4.out
        have hs5 : W5.heap[c]? = some (obN l0 l9 rev q (.map (some b)) ks (vv - (spr l q : Nat)) od') := by rw [hW5]; exact set6o HS4.out _
        have H5 := Lib.hid (H4.cells hs5 (fun k _ hk => o5 k hk))
        have HRG5 : Hid (W5.ranges Try.prog 9 ptrE b rb n D' (fun k => left k && !k.sameKey (.string x.data.toList)) ct') :=
          ranges_keep HRG3.out ((o5 b (by
            rcases H3v.out.mp with ⟨e, _⟩ | ⟨b', e, _, e3, _⟩
            · cases e
            · injection e with e; rw [e]; exact e3)).trans (HH4.out.block b (H3v.out.own (.inr (.inl rfl))) q2 (fun e => q4 e.symm))) ((o5 rb q7).trans (HH4.out.block rb (by omega) q5 (fun e => q6 e.symm)))
        have HF5 : Hid (Fr (Ow c (some b) f) W1 W5) := by
          have e1 : Fr (Ow c (some b) f) W1 w3 := HI.out.fr.trans HF3.out (fun k hk => by
            have := HRB.out; exact .inr (by rw [hk]; omega))
          have e2 : Fr (Ow c (some b) f') w3 w4 := ⟨HH4.out.os, HH4.out.tape, HH4.out.output, HH4.out.size, fun k h1 h2 => HH4.out.block k h1 (fun e => h2 (.inr (.inr ⟨_, _, HFX.out, .inl e⟩))) (fun e => h2 (.inr (.inr ⟨_, _, HFX.out, .inr e.symm⟩)))⟩
          have e3 : Fr (Ow c (some b) f) W1 w4 := e1.trans e2 HI.out.ow
          rw [hW5]
          exact Lib.hid (e3.set _ (.inl rfl))
        have HO5 : Hid (∀ k, Ow c (some b) (setF f' x.data.toList (some (d, gb4, cmp l q))) k → Ow c (some b) f' k ∨ w3.heap.size ≤ k) := fun k hk =>
          ow_set hk (fun b' e => .inl e) (.inl (.inr (.inr ⟨_, _, HFX.out, .inl rfl⟩))) (fun g' e => by
            rcases HN4.out with e1 | e1 | ⟨q, e1, hq⟩
            · exact .inl (.inr (.inr ⟨_, _, HFX.out, .inr (by rw [← e1]; exact e)⟩))
            · exact absurd e (by show gb4 ≠ _; rw [e1]; exact fun e => by cases e)
            · refine .inr ?_
              have e : gb4 = some g' := e
              rw [e1] at e
              injection e with e
              omega)
        have HO5' : Hid (∀ k, Ow c (some b) (setF f' x.data.toList (some (d, gb4, cmp l q))) k → Ow c (some b) f k ∨ W1.heap.size ≤ k) := fun k hk => by
          rcases HO5.out k hk with e | e
          · exact HI.out.ow k e
          · have := HRB.out; exact .inr (by omega)
        have HNR5 : Hid (¬ Ow c (some b) (setF f' x.data.toList (some (d, gb4, cmp l q))) rb) := fun hk => by
          rcases HO5.out rb hk with e | e
          · exact HI.out.nr e
          · omega
        have HSM : Hid ((sumV (setF f' x.data.toList (some (d, gb4, cmp l q))) K : Nat) = vv - (spr l q : Nat)) := by
          have h1 := sumV_turn (f := f') (f' := setF f' x.data.toList (some (d, gb4, cmp l q))) (key := x.data.toList) (s := spr l q) HKK.out.1 HVX.out.2.2.1 (fun k hk => by rw [vrs_set, if_neg hk]) (by
            rw [vrs_set, if_pos rfl, vrs_some HFX.out, cmp_len]
            have := spr_len l q
            show l.length - spr l q + spr l q = l.length
            omega)
          have h2 := HVV.out
          show _ = _
          omega
        have HBC : Hid (c ≠ b) := fun e => by
          rcases H3v.out.mp with ⟨e1, _⟩ | ⟨b', e1, _, e3, _⟩
          · cases e1
          · injection e1 with e1; exact e3 (by rw [← e1, e])
        have HLN := Lib.hid (Len_c 0 d N gb4 (cmp l q) W5 ((H5.out.fm.ch _ _ (setF_same _ _ _)).1) (by omega))
        have HM5 : Hid (MapF D' (blkOf (setF f' x.data.toList (some (d, gb4, cmp l q))))) := by rw [blkOf_set HFX.out]; exact Lib.hid HI.out.mp
        have HLE : Hid (ct' < wr.rangeLeft b rb) := HLT
        clear o5 hz5 H4 hs5 q1 q2 q3 q4 q5 q6 q7 q8
        rw [← hW5]
        clear hW5
        by_cases hne : (cmp l q).length = 0
        · have hln : (((cmp l q).length : Int) == 0) = true := by rw [hne]; rfl
          have HCN := Lib.hid (List.eq_nil_of_length_eq_zero hne)
          clear hne
          go_wp2_with (first | (go_at_call 39; (with_reducible refine HLN.out.mono ?_); rintro e w6 ⟨rfl, n6, rfl⟩; obtain ⟨c0, c1, c2, c3, c4, c5, c6, c7⟩ := cells8 (H5.out.go (bdrN W5 n6)).hs; have HR6 := Lib.hid (ranges_keep HRG5.out (w' := W5.drewN n6) rfl rfl)) | (at_delete; refine wpList_delete_ranges _ rfl _ _ 52 9 rfl 77 law Try.underlying52 ptrE b rb n _ _ _ rfl HR6.out _ _ rfl (keyS hxs) ?_; intro w7 ct7 hrg7 hle7 ht7; clear c0 c1 c2 c3 c4 c5 c6 c7; have HG7 := Lib.hid ht7.grown; have hs7 := (HG7.out.block c (show c < W5.heap.size from H5.out.own (.inl rfl)) (fun e => (HBC.out (by injection e)))).trans (H5.out.go (bdrN W5 n6)).hs; have c7 := (cells8 hs7).2.2.2.2.2.2.2; have f7 := frz hs7 7; go_frame))
          have hb6 : Below W5.heap.size W5 (W5.drewN n6) := bdrN W5 n6
          rw [strike_twice] at hrg7
          obtain ⟨W8, hW8⟩ : ∃ W8, W8 = w7.setCell ⟨c, 7, none⟩ (.slice none 0 0) := ⟨_, rfl⟩
          have o8 : ∀ k, k ≠ c → W8.heap[k]? = w7.heap[k]? := fun k hk => by rw [hW8]; exact set_oth _ _ _ _ hk
          have hs8 : W8.heap[c]? = some (obN l0 l9 rev q (.map (some b)) ks (vv - (spr l q : Nat)) (.slice none 0 0)) := by rw [hW8]; exact set7o hs7
          have hz7 : W5.heap.size ≤ w7.heap.size := HG7.out.size
          have hrbb : rb ≠ b := hrg7.ne
          have hrbc : rb ≠ c := HGG.out.2.2.2.2.2.2.1
          have hrg8 : W8.ranges Try.prog 9 ptrE b rb n (D'.del (.string x.data.toList)) (fun k => left k && !k.sameKey (.string x.data.toList)) ct7 := ranges_keep hrg7 (o8 b (fun e => HBC.out e.symm)) (o8 rb hrbc)
          have hfm8 : Fam 0 c N (some b) (setF f' x.data.toList (some (d, gb4, cmp l q))) W8 := H5.out.fm.keep (fun k h1 h2 h3 => (o8 k h2).trans (HG7.out.block k h1 h3.symm))
          have hf7 : Fr (Ow c (some b) (setF f' x.data.toList (some (d, gb4, cmp l q)))) W5 w7 := (Fr.below hb6).trans (E' := Ow c (some b) (setF f' x.data.toList (some (d, gb4, cmp l q)))) ⟨HG7.out.os, HG7.out.tape, HG7.out.output, HG7.out.size, fun k h1 h2 => HG7.out.block k h1 (fun e => h2 (.inr (.inl e.symm)))⟩ (fun k hk => .inl hk)
          have hv8 : ∀ k, vrs (setF (setF f' x.data.toList (some (d, gb4, cmp l q))) x.data.toList none) k = vrs (setF f' x.data.toList (some (d, gb4, cmp l q))) k := fun k => by
            rw [vrs_del]
            by_cases e : k = x.data.toList
            · rw [if_pos e, vrs_set, if_pos e]; exact HCN.out.symm
            · rw [if_neg e]
          have HI8 : Hid (CpJ c N b rb n f l0 l9 rev q ks od K W1 W8 (fun k => left k && !k.sameKey (.string x.data.toList)) ct7 (D'.del (.string x.data.toList)) (setF (setF f' x.data.toList (some (d, gb4, cmp l q))) x.data.toList none) (.slice none 0 0)) := by
            have hmd : MapF (D'.del (.string x.data.toList)) (blkOf (setF (setF f' x.data.toList (some (d, gb4, cmp l q))) x.data.toList none)) := by
              rw [blk_del]; exact HM5.out.del _
            refine ⟨⟨?_, .inr ⟨b, rfl, Nat.zero_le _, fun e => HBC.out e.symm, _, ownsM_tight hrg8.owns, hmd⟩, hfm8.del _, Nat.zero_le _⟩, hmd, hrg8, fun k => ?_, fun k => ?_, ?_, fun k hk => HO5'.out k (own_del hk), fun hk => HNR5.out (own_del hk), .inr rfl⟩
            · rw [sumV_congr (f := setF f' x.data.toList (some (d, gb4, cmp l q))) (fun k _ => by rw [hv8]), HSM.out]
              exact hs8
            · rw [hv8, vrs_set, sk_lit]
              by_cases e : k = x.data.toList
              · rw [if_pos e, if_pos e, if_neg (by decide), e, HVX.out.1]
              · rw [if_neg e, if_neg e]; exact HI.out.vr k
            · rw [sk_lit]
              by_cases e : k = x.data.toList
              · subst e
                rw [setF_same, if_pos rfl, if_neg (by decide), HVX.out.1, HCN.out]
                simp
              · rw [setF_other e, setF_other e, if_neg e, ← HI.out.so k]
            · rw [hW8]
              exact (HF5.out.trans hf7 HO5'.out).set _ (.inl rfl)
          have HM8 : Hid (W8.rangeLeft b rb < wr.rangeLeft b rb) := by
            show _ < _
            rw [hrg8.left_eq]; have := HLE.out; omega
          clear o8 hs8 hz7 hrbb hrbc hrg8 hfm8 hf7 hv8 hrg7 hle7 ht7 c7 f7 hs7
          rw [← hW8]
          clear hW8
          exact ⟨⟨_, _, _, _, _, HI8⟩, HM8.out⟩
        · have hln : (((cmp l q).length : Int) == 0) = false := by simpa using hne
          have HCN : Hid (cmp l q ≠ []) := fun e => hne (by rw [e]; rfl)
          clear hne
          go_wp2_with (go_at_call 39; (with_reducible refine HLN.out.mono ?_); rintro e w6 ⟨rfl, n6, rfl⟩)
          have hb6 : Below W5.heap.size W5 (W5.drewN n6) := bdrN W5 n6
          have HI6 : Hid (CpJ c N b rb n f l0 l9 rev q ks od K W1 (W5.drewN n6) (fun k => left k && !k.sameKey (.string x.data.toList)) ct' D' (setF f' x.data.toList (some (d, gb4, cmp l q))) od') := by
            refine ⟨by rw [HSM.out]; exact H5.out.go hb6, HM5.out, ranges_keep HRG5.out rfl rfl, fun k => ?_, fun k => ?_, HF5.out.trans (Fr.below hb6) (fun k hk => .inl hk), HO5'.out, HNR5.out, ?_⟩
            · rw [vrs_set, sk_lit]
              by_cases e : k = x.data.toList
              · rw [if_pos e, if_pos e, if_neg (by decide), e, HVX.out.1]
              · rw [if_neg e, if_neg e]; exact HI.out.vr k
            · rw [some_set, sk_lit]
              by_cases e : k = x.data.toList
              · rw [if_pos e, if_neg (by decide), e, HVX.out.1, HVX.out.2.1, decide_eq_true HCN.out]; simp
              · rw [if_neg e, ← HI.out.so k]; simp [e]
            · rcases HI.out.od with ⟨e1, e2⟩ | e1
              · refine .inl ⟨e1, fun k => ?_⟩
                rw [some_set, e2]
                by_cases e : k = x.data.toList
                · rw [e, HVX.out.2.1]; simp
                · simp [e]
              · exact .inr e1
          have HM6 : Hid ((W5.drewN n6).rangeLeft b rb < wr.rangeLeft b rb) := by
            show _ < _
            rw [HI6.out.rg.left_eq]; exact HLE.out
          go_roundw
          case rel => exact ⟨_, _, _, _, _, HI6⟩
          case measure => exact HM6.out
end Go.Proofs.Ytjceofkcahfhmaa.Mv
namespace Go.Proofs.Ytjceofkcahfhmaa.Mv
open Go.RowKit Go.Lib Go.Maps Go.Shelf Go.Sort
open Go.Proofs.Ytjceofkcahfhmaa.Cn
set_option linter.unusedSimpArgs false
set_option linter.unusedVariables false

/-- keys in order -/
def srt (K : List Key) : List Key := K.mergeSort (fun x y => decide (x ≤ y))
theorem srt_len (K : List Key) : (srt K).length = K.length := List.length_mergeSort K
theorem srt_mem {K : List Key} {k : Key} : k ∈ srt K ↔ k ∈ K := List.mem_mergeSort
theorem srt_pair (K : List Key) : (srt K).Pairwise (fun a b => a ≤ b) := by
  have h := List.pairwise_mergeSort (le := fun x y : Key => decide (x ≤ y)) (fun a b c h1 h2 => decide_eq_true (List.le_trans (of_decide_eq_true h1) (of_decide_eq_true h2))) (fun a b => by
    rcases List.le_total a b with h | h
    · rw [decide_eq_true h]; rfl
    · rw [decide_eq_true h, Bool.or_true]) K
  exact h.imp (fun {a b} h => of_decide_eq_true h)
theorem srt_perm {K K' : List Key} (h : K.Perm K') : srt K = srt K' := by
  refine List.Perm.eq_of_pairwise (le := fun a b => a ≤ b) (fun a b _ _ h1 h2 => List.le_antisymm h1 h2) (srt_pair K) (srt_pair K') ?_
  exact ((List.mergeSort_perm K _).trans h).trans (List.mergeSort_perm K' _).symm
theorem srt_nodup {K : List Key} (h : K.Nodup) : (srt K).Nodup := (List.mergeSort_perm K _).nodup_iff.2 h
/-- the closure's question -/
def kpr (p a x : Key) : Bool := !Op.bytesLess x p && !(Op.bytesLess x a || x == a)
theorem kpr_iff {p a x : Key} : kpr p a x = true ↔ ¬ x < p ∧ a < x := by
  unfold kpr
  rw [bytesLess_eq, bytesLess_eq]
  simp only [Bool.and_eq_true, Bool.not_eq_true', decide_eq_false_iff_not, Bool.or_eq_false_iff, beq_eq_false_iff_ne]
  constructor
  · rintro ⟨h1, h2, h3⟩
    refine ⟨h1, ?_⟩
    rcases List.le_total x a with h | h
    · exact absurd (List.le_antisymm h (List.not_lt.1 h2)) h3
    · exact Classical.byContradiction (fun hh => h3 (List.le_antisymm (List.not_lt.1 hh) h))
  · rintro ⟨h1, h2⟩
    exact ⟨h1, List.lt_asymm h2, fun e => List.lt_irrefl _ (e ▸ h2)⟩
theorem kpr_mono {p a x y : Key} (h : x ≤ y) (hx : kpr p a x = true) : kpr p a y = true := by
  rw [kpr_iff] at hx ⊢
  exact ⟨fun hh => hx.1 (List.lt_of_le_of_lt h hh), Classical.byContradiction (fun hh => absurd hx.2 (List.not_lt.2 (List.le_trans h (List.not_lt.1 hh))))⟩
theorem drop_count {l : List Key} {q : Key → Bool} (h : l.Pairwise (fun a b => q a = true → q b = true)) : l.drop (l.countP fun x => !q x) = l.filter q := by
  induction l with
  | nil => rfl
  | cons x l ih =>
    obtain ⟨h1, h2⟩ := List.pairwise_cons.1 h
    cases hx : q x with
    | true =>
      have hall : ∀ y ∈ l, q y = true := fun y hy => h1 y hy hx
      have h0 : (x :: l).countP (fun x => !q x) = 0 := by
        rw [List.countP_eq_zero]
        intro y hy
        rcases List.mem_cons.1 hy with e | e
        · rw [e, hx]; decide
        · rw [hall y e]; decide
      rw [h0, List.drop_zero, List.filter_cons_of_pos hx, List.filter_eq_self.2 hall]
    | false =>
      rw [List.countP_cons_of_pos (by rw [hx]; rfl), List.drop_succ_cons, List.filter_cons_of_neg (by rw [hx]; decide)]
      exact ih h2
theorem count_range (l : List Key) (q : Key → Bool) : (List.range l.length).countP (fun i => !q (l.getD i [])) = l.countP fun x => !q x := by
  have h : l = (List.range l.length).map (fun i => l.getD i []) := by
    apply List.ext_getElem
    · simp
    · intro i h1 h2
      simp only [List.getElem_map, List.getElem_range]
      rw [List.getD_eq_getElem?_getD, List.getElem?_eq_getElem h1]; rfl
  conv => rhs; rw [h]
  rw [List.countP_map]
  rfl
/-- texts that can be read -/
def RdS (v : Value) (l : List Key) (w : World) : Prop := ∃ ao cap, v = .slice ao l.length cap ∧ l.length ≤ cap ∧ (0 < l.length → ∃ g off, ao = some ⟨g, off, none⟩ ∧ g < w.heap.size ∧ ∀ i (hi : i < l.length), w.cell? ⟨g, off + i, none⟩ = some (encStr l[i]))
theorem RdS.go {v : Value} {l : List Key} {w W : World} (h : RdS v l w) (hb : Below w.heap.size w W) : RdS v l W := by
  obtain ⟨ao, cap, rfl, hc, h⟩ := h
  refine ⟨ao, cap, rfl, hc, fun h0 => ?_⟩
  obtain ⟨g, off, rfl, hg, h⟩ := h h0
  exact ⟨g, off, rfl, Nat.lt_of_lt_of_le hg hb.size, fun i hi => (hb.cell (p := ⟨g, off + i, none⟩) hg).trans (h i hi)⟩
theorem rds_at {ao : Option Addr} {cap n : Nat} {l : List Key} {w : World} (h : RdS (.slice ao n cap) l w) (h0 : 0 < l.length) : ∃ g off, ao = some ⟨g, off, none⟩ ∧ g < w.heap.size ∧ ∀ i (hi : i < l.length), w.cell? ⟨g, off + i, none⟩ = some (encStr l[i]) := by
  obtain ⟨ao', cp, e, _, hh⟩ := h
  injection e with e1 e2 e3
  subst e1
  exact hh h0
/-- the store's own order: none, or its keys -/
def OdOk (c : Nat) (mb : Option Nat) (f : Key → Option Chn) (K : List Key) (od : Value) (w : World) : Prop :=
  od = .slice none 0 0 ∨ ∃ g cap, od = .slice (some ⟨g, 0, none⟩) K.length cap ∧ K.length ≤ cap ∧ g < w.heap.size ∧ ¬ Ow c mb f g ∧ ∀ i (hi : i < (srt K).length), w.cell? ⟨g, 0 + i, none⟩ = some (encStr (srt K)[i])
theorem OdOk.fr {c : Nat} {mb : Option Nat} {f : Key → Option Chn} {K : List Key} {od : Value} {w W : World} {E : Nat → Prop} (h : OdOk c mb f K od w) (hf : Fr E w W) (hE : ∀ g, ¬ Ow c mb f g → g < w.heap.size → od = .slice (some ⟨g, 0, none⟩) K.length (match od with | .slice _ _ cp => cp | _ => 0) → ¬ E g) : OdOk c mb f K od W := by
  rcases h with h | ⟨g, cap, rfl, h1, h2, h3, h4⟩
  · exact .inl h
  · refine .inr ⟨g, cap, rfl, h1, Nat.lt_of_lt_of_le h2 hf.size, h3, fun i hi => ?_⟩
    have hq := hf.block g h2 (hE g h3 h2 rfl)
    rw [World.cell?_of_block hq]
    exact h4 i hi
/-- the blocks of a store, with its order's -/
def Owd (c : Nat) (mb : Option Nat) (f : Key → Option Chn) (od : Value) (k : Nat) : Prop := Ow c mb f k ∨ ∃ n cap, od = .slice (some ⟨k, 0, none⟩) n cap
theorem OdOk.keep {c : Nat} {mb : Option Nat} {f : Key → Option Chn} {K : List Key} {od : Value} {w W : World} {E : Nat → Prop} (h : OdOk c mb f K od w) (hf : Fr E w W) (hE : ∀ g, Owd c mb f od g → ¬ E g) : OdOk c mb f K od W := h.fr hf (fun g _ _ e => hE g (.inr ⟨_, _, e⟩))
set_option maxRecDepth 100000 in
set_option maxHeartbeats 1000000 in
theorem kclo_c (c q1 q2 q3 g cap : Nat) (p a : ByteArray) (K : List Key) (i : Nat) (w : World) (hi : i < K.length) (h0 : w.cell? ⟨q1, 0, none⟩ = some (.pointer (some ⟨c, 0, none⟩))) (h1 : w.cell? ⟨q2, 0, none⟩ = some (.string p)) (h2 : w.cell? ⟨q3, 0, none⟩ = some (.string a)) (h3 : w.cell? ⟨c, 7, none⟩ = some (.slice (some ⟨g, 0, none⟩) K.length cap)) (h4 : w.cell? ⟨g, 0 + i, none⟩ = some (encStr (K.getD i []))) :
    Calls Try.prog 45 (#[.int .i64 i] ++ #[.pointer (some ⟨q1, 0, none⟩), .pointer (some ⟨q2, 0, none⟩), .pointer (some ⟨q3, 0, none⟩)]) w fun e w' => e = .returned (.bool (kpr p.data.toList a.data.toList (K.getD i []))) ∧ ∃ q os', w' = grow (w.drewN q) os' := by
  obtain ⟨n, hn⟩ : ∃ n, n = K.length := ⟨_, rfl⟩
  rw [← hn] at hi h3
  have hiz : (i : Int) < (n : Int) := by omega
  have hi0 : (0 : Int) ≤ (i : Int) := by omega
  generalize hx : K.getD i [] = x at h4 ⊢
  obtain ⟨y, hy⟩ : ∃ y : ByteArray, y = ⟨x.toArray⟩ := ⟨_, rfl⟩
  have hyx : y.toList = x := by rw [hy, Lib.toList_data]
  rw [show encStr x = .string y by rw [hy]] at h4
  rw [Nat.zero_add] at h4
  have hkp : kpr p.data.toList a.data.toList x = (!Op.bytesLess y.toList p.toList && !(Op.bytesLess y.toList a.toList || y.toList == a.toList)) := by
    unfold kpr
    rw [hyx, Lib.toList_data p, Lib.toList_data a]
  rw [hkp]
  clear hn hx hy hyx hkp hi
  cases hb : Op.bytesLess y.toList p.toList with
  | true =>
    go_enter Try.func45, Try.ntmps45
    go_wp2
    go_quiet (fail)
    go_wp2
    go_ret
    exact ⟨rfl, _, #[], by rw [grow_empty]⟩
  | false =>
    go_enter Try.func45, Try.ntmps45
    go_wp2
    go_quiet (fail)
    go_wp2
    go_ret
    exact ⟨by simp [Array.getD, Bool.not_or], _, #[], by rw [grow_empty]⟩
end Go.Proofs.Ytjceofkcahfhmaa.Mv
