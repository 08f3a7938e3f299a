/- Contracts and plain mathematics of some packages' functions, laid together; conditions as each one says. -/
import Derived.Test.YtjceofkcahfhmaaMvO
namespace Go.Proofs.Ytjceofkcahfhmaa.Mv
open Go.RowKit Go.Lib Go.Maps
open Go.Proofs.Ytjceofkcahfhmaa.Cn
set_option linter.unusedSimpArgs false
set_option linter.unusedVariables false

def setF (f : Key → Option Chn) (k : Key) (x : Option Chn) : Key → Option Chn := fun j => if j = k then x else f j
theorem setF_same (f : Key → Option Chn) (k : Key) (x : Option Chn) : setF f k x k = x := by unfold setF; rw [if_pos rfl]
theorem setF_other {f : Key → Option Chn} {k j : Key} {x : Option Chn} (h : j ≠ k) : setF f k x j = f j := by unfold setF; rw [if_neg h]
/-- a chain changed by a call of its own -/
theorem Fam.put {B c N N' : Nat} {mb : Option Nat} {f : Key → Option Chn} {w V : World} {k : Key} {d : Nat} {gb gb' : Option Nat} {l l' : List Ver} (h : Fam B c N mb f w) (hN : N ≤ N') (hf : f k = some (d, gb, l)) (hc : c < w.heap.size) (hb : ∀ b, mb = some b → b < w.heap.size)
    (hi : IsCh B d N' gb' l' V) (ha : Asc l') (hg : Chg d gb w V) (hn : NewB gb gb' w) : Fam B c N' mb (setF f k (some (d, gb', l'))) V := by
  obtain ⟨g1, g2, g3, g4, g5, g6, g7⟩ := h.ch k _ hf
  have hgn : ∀ g, gb' = some g → gb = some g ∨ w.heap.size ≤ g := fun g e => by
    rcases hn with e1 | e1 | ⟨q, e1, hq⟩
    · exact .inl (by rw [← e1]; exact e)
    · rw [e1] at e; cases e
    · rw [e1] at e; injection e with e; rw [← e]; exact .inr hq
  have hlt := fun j x (hx : f j = some x) => (h.ch j x hx).1.lt
  have hbs := fun j x (hx : f j = some x) => (h.ch j x hx).1.base
  have pair : ∀ j y, j ≠ k → f j = some y → d ≠ y.1 ∧ gb' ≠ some y.1 ∧ y.2.1 ≠ some d ∧ ∀ g, gb' = some g → y.2.1 ≠ some g := fun j y hj hy => by
    obtain ⟨p1, p2, p3, p4⟩ := h.ap k j _ y hj.symm hf hy
    refine ⟨p1, fun e => ?_, p3, fun g e e2 => ?_⟩
    · rcases hgn _ e with e1 | e1
      · exact p2 e1
      · have := hlt j y hy; omega
    · rcases hgn _ e with e1 | e1
      · exact p4 g e1 e2
      · have := (hbs j y hy g e2).2; omega
  refine ⟨fun j y hy => ?_, fun j j' x y hjj hx hy => ?_⟩
  · by_cases hj : j = k
    · subst hj
      rw [setF_same] at hy
      injection hy with hy
      subst hy
      refine ⟨hi, ha, g3, g4, g5, fun e => ?_, fun b e1 e2 => ?_⟩
      · rcases hgn _ e with e1 | e1
        · exact g6 e1
        · omega
      · rcases hgn _ e2 with e3 | e3
        · exact g7 b e1 e3
        · have := hb b e1; omega
    · rw [setF_other hj] at hy
      obtain ⟨h1, h2, h3, h4, h5, h6, h7⟩ := h.ch j y hy
      obtain ⟨p1, p2, p3, p4⟩ := h.ap k j _ y (fun e => hj e.symm) hf hy
      refine ⟨(isch_keep h1 (hg.block _ h1.lt (fun e => p1 e.symm) (fun e => p2 e.symm)) (fun g e => hg.block g (h1.base g e).2 (fun e2 => p3 (by rw [e, e2])) (fun e2 => p4 g e2.symm e))).up hN, h2, h3, h4, h5, h6, h7⟩
  · by_cases hj : j = k
    · subst hj
      rw [setF_same] at hx
      injection hx with hx
      subst hx
      rw [setF_other (fun e => hjj e.symm)] at hy
      exact pair j' y (fun e => hjj e.symm) hy
    · rw [setF_other hj] at hx
      by_cases hj' : j' = k
      · subst hj'
        rw [setF_same] at hy
        injection hy with hy
        subst hy
        obtain ⟨p1, p2, p3, p4⟩ := pair j x hj hx
        exact ⟨fun e => p1 e.symm, p3, p2, fun g e1 e2 => p4 g e2 e1⟩
      · rw [setF_other hj'] at hy
        exact h.ap j j' x y hjj hx hy
end Go.Proofs.Ytjceofkcahfhmaa.Mv
namespace Go.Proofs.Ytjceofkcahfhmaa.Mv
open Go.RowKit Go.Lib Go.Maps
open Go.Proofs.Ytjceofkcahfhmaa.Cn
set_option linter.unusedSimpArgs false
set_option linter.unusedVariables false

theorem mapF_S {D : DataW Unit} {fb : Key → Option Nat} {K : List Key} (h : MapF D fb) (hn : K.Nodup) (hk : ∀ k, (fb k).isSome = decide (k ∈ K)) : MapS D K :=
  ⟨fun k => (h.has _).trans (hk k), fun kl hkl => by
    rw [h.has]
    unfold hasK
    split
    · exact absurd rfl (hkl _)
    · rfl, hn⟩
theorem msize {w : World} {b n : Nat} {D : DataW Unit} {fb : Key → Option Nat} {K : List Key} (h1 : w.ownsMap Try.prog 9 ptrE b n D) (h2 : MapF D fb) (hn : K.Nodup) (hk : ∀ k, (fb k).isSome = decide (k ∈ K)) : Maps.size D = K.length := by
  obtain ⟨es, rfl, hp, hk'⟩ := h1.entries law
  exact (mapF_S h2 hn hk).size hp hk'
theorem msize0 {w : World} {b n : Nat} {D : DataW Unit} (h1 : w.ownsMap Try.prog 9 ptrE b n D) (h2 : MapF D (fun _ => none)) : Maps.size D = 0 := msize (K := []) h1 h2 List.nodup_nil (fun k => by simp)
/-- the blocks of a store -/
def Ow (c : Nat) (mb : Option Nat) (f : Key → Option Chn) (k : Nat) : Prop := k = c ∨ mb = some k ∨ ∃ j x, f j = some x ∧ (k = x.1 ∨ x.2.1 = some k)
/-- no block but those of E changes -/
structure Fr (E : Nat → Prop) (w w' : World) : Prop where
  os : w'.os = w.os
  tape : w'.tape = w.tape
  output : w'.output = w.output
  size : w.heap.size ≤ w'.heap.size
  block : ∀ k, k < w.heap.size → ¬ E k → w'.heap[k]? = w.heap[k]?
theorem Fr.below {E : Nat → Prop} {w w' : World} (h : Below w.heap.size w w') : Fr E w w' := ⟨h.os, h.tape, h.output, h.size, fun k hk _ => h.block k hk⟩
theorem Fr.refl (E : Nat → Prop) (w : World) : Fr E w w := ⟨rfl, rfl, rfl, Nat.le_refl _, fun _ _ _ => rfl⟩
theorem Fr.trans {E E' : Nat → Prop} {a b d : World} (h : Fr E a b) (k : Fr E' b d) (hE : ∀ j, E' j → E j ∨ a.heap.size ≤ j) : Fr E a d :=
  ⟨k.os.trans h.os, k.tape.trans h.tape, k.output.trans h.output, Nat.le_trans h.size k.size, fun j hj hn => (k.block j (Nat.lt_of_lt_of_le hj h.size) (fun e => by
    rcases hE j e with e1 | e1
    · exact hn e1
    · omega)).trans (h.block j hj hn)⟩
theorem Fr.mono {E E' : Nat → Prop} {a b : World} (h : Fr E a b) (hE : ∀ j, E j → E' j) : Fr E' a b := ⟨h.os, h.tape, h.output, h.size, fun k hk hn => h.block k hk (fun e => hn (hE k e))⟩
theorem Fr.below0 {E : Nat → Prop} {a b : World} (h : Fr E a b) : Below 0 a b := ⟨h.os, h.tape, h.output, h.size, fun k hk => by omega⟩
theorem Fr.set {E : Nat → Prop} {a b : World} (h : Fr E a b) {c i : Nat} (u : Value) (hc : E c) : Fr E a (b.setCell ⟨c, i, none⟩ u) :=
  ⟨h.os, h.tape, h.output, by rw [show (b.setCell ⟨c, i, none⟩ u).heap.size = b.heap.size by simp [World.setCell]]; exact h.size, fun k hk hn => by
    rw [set_oth b c i u (fun e => hn (by rw [e]; exact hc))]; exact h.block k hk hn⟩
theorem IsMv.own {B c N : Nat} {mb : Option Nat} {f : Key → Option Chn} {l0 l9 rev fl ks vs : Int} {od : Value} {w : World} (h : IsMv B c N mb f l0 l9 rev fl ks vs od w) {k : Nat} (hk : Ow c mb f k) : k < w.heap.size := by
  rcases hk with e | e | ⟨j, x, hx, e | e⟩
  · rw [e]; exact (Array.getElem?_eq_some_iff.1 h.hs).1
  · rcases h.mp with ⟨e1, _⟩ | ⟨b, e1, _, _, hm⟩
    · rw [e1] at e; cases e
    · rw [e1] at e; injection e with e; rw [← e]; exact hm.lt
  · rw [e]; exact (h.fm.ch j x hx).1.lt
  · exact ((h.fm.ch j x hx).1.base k e).2
/-- a call that changes nothing of a store -/
theorem IsMv.fr {B c N : Nat} {mb : Option Nat} {f : Key → Option Chn} {l0 l9 rev fl ks vs : Int} {od : Value} {w V : World} {E : Nat → Prop} (h : IsMv B c N mb f l0 l9 rev fl ks vs od w) (hf : Fr E w V) (hE : ∀ k, Ow c mb f k → ¬ E k) : IsMv B c N mb f l0 l9 rev fl ks vs od V := by
  have hk : ∀ k, Ow c mb f k → V.heap[k]? = w.heap[k]? := fun k h1 => hf.block k (h.own h1) (hE k h1)
  refine ⟨(hk c (.inl rfl)).trans h.hs, ?_, ⟨fun j x hx => ?_, h.fm.ap⟩, h.lo⟩
  · rcases h.mp with h1 | ⟨b, h1, h2, h3, h4⟩
    · exact .inl h1
    · exact .inr ⟨b, h1, h2, h3, h4.keep (hk b (.inr (.inl h1)))⟩
  · obtain ⟨h1, h2, h3, h4, h5, h6, h7⟩ := h.fm.ch j x hx
    exact ⟨isch_keep h1 (hk _ (.inr (.inr ⟨j, x, hx, .inl rfl⟩))) (fun g e => hk _ (.inr (.inr ⟨j, x, hx, .inr e⟩))), h2, h3, h4, h5, h6, h7⟩
end Go.Proofs.Ytjceofkcahfhmaa.Mv
namespace Go.Proofs.Ytjceofkcahfhmaa.Mv
open Go.RowKit Go.Lib Go.Maps
open Go.Proofs.Ytjceofkcahfhmaa.Cn
set_option linter.unusedSimpArgs false
set_option linter.unusedVariables false

theorem blkOf_set {f : Key → Option Chn} {k : Key} {d : Nat} {gb gb' : Option Nat} {l l' : List Ver} (hf : f k = some (d, gb, l)) : blkOf (setF f k (some (d, gb', l'))) = blkOf f := by
  funext j
  unfold blkOf
  by_cases hj : j = k
  · subst hj; rw [setF_same, hf]; rfl
  · rw [setF_other hj]
set_option maxRecDepth 100000 in
set_option maxHeartbeats 8000000 in
theorem put_old {B c N : Nat} {mb : Option Nat} {f : Key → Option Chn} {l0 l9 rev fl ks vs : Int} {od : Value} {w : World} (h : IsMv B c N mb f l0 l9 rev fl ks vs od w) (hN : N ≤ 1000) (hBs : B ≤ w.heap.size) {key : ByteArray} (hk : key.size ≤ maxLen) (v : ByteArray) (g : Bool) {d : Nat} {gb : Option Nat} {l : List Ver} (hf : f key.data.toList = some (d, gb, l)) (hr : 1 ≤ rev ∧ rev ≤ 1000000) (q : Bool) (hl : lastB l = q) (hv : q = true → (lastV l).1 < rev) :
    Calls Try.prog 36 #[.pointer (some ⟨c, 0, none⟩), .agg #[.string key, .string v, .bool g]] w fun e w' => e = .returned (.tuple #[]) ∧ (∃ gb', IsMv B c (N + 1) mb (setF f key.data.toList (some (d, gb', l ++ [(rev, v, g)]))) l0 l9 rev fl ks vs od w' ∧ NewB gb gb' w) ∧ Below B w w' ∧ Fr (Ow c mb f) w w' := by
  obtain ⟨W0, hW0, hk0, hb0⟩ := Cn.new3 w (.string key) (.string v) (.bool g) 80
  have hcl : c < w.heap.size := (Array.getElem?_eq_some_iff.1 h.hs).1
  have hz0 : w.heap.size < W0.heap.size := (Array.getElem?_eq_some_iff.1 hk0).1
  have H0 := Lib.hid (h.go hb0)
  have HW0 := Lib.hid hW0
  have HK0 := Lib.hid hk0
  have HB0 : Hid (Below B w W0) := hb0.mono hBs
  have HZ0 := Lib.hid hb0
  have hld := (H0.out.go (bdr W0)).look hk
  rw [show blkOf f key.data.toList = some d by unfold blkOf; rw [hf]; rfl, show pv (some d) = .pointer (some ⟨d, 0, none⟩) from rfl] at hld
  have H1 := Lib.hid (H0.out.go (bdr W0))
  have HFF := Lib.hid hf
  obtain ⟨c0, c1, c2, c3, c4, c5, c6, c7⟩ := cells8 H0.out.hs
  obtain ⟨x0, x1, x2⟩ := Cn.cells3 hk0
  have hal : Asc l := (h.fm.ch _ _ hf).2.1
  have hasc := putL_asc hal (rev, v, g)
  have hpe : putE l (rev, v, g) = 0 := by
    unfold putE
    rw [if_neg (by show ¬ (rev < 1 ∨ _ < rev); omega), if_neg]
    intro he
    cases hq : q with
    | false =>
      rw [hq] at hl
      have : l = [] := by unfold lastB at hl; have := of_decide_eq_false hl; exact List.eq_nil_of_length_eq_zero (by omega)
      rw [this] at he; simp at he
    | true =>
      rw [hq] at hl
      have h0 : 0 < l.length := of_decide_eq_true hl
      rw [any_last hal rev h0] at he
      have h1 := of_decide_eq_true he
      have h2 := hv hq
      unfold lastV at h2
      rw [getD_at (by omega : l.length - 1 < l.length)] at h2
      omega
  rw [show putL l (rev, v, g) = l ++ [(rev, v, g)] by unfold putL; rw [if_pos hpe]] at hasc
  have HASC := Lib.hid hasc
  clear hW0 hk0 hb0 h hasc hpe hf hal
  go_enter Try.func36, Try.ntmps36
  go_upto_region 1 with (fail)
  rw [← HW0.out]
  go_region
  all_goals
    have HP : Hid (Calls Try.prog 52 #[.pointer (some ⟨d, 0, none⟩), .agg #[.int .i64 rev, .string v, .bool g]] W0.drew.drew (PtQ B d (N + 1) gb (l ++ [(rev, v, g)]) 0 W0.drew.drew)) :=
      put_ok B d N gb l (rev, v, g) W0.drew.drew (((H1.out.go (bdr _)).fm.ch _ _ HFF.out).1) (by omega) (show B ≤ W0.heap.size by omega) hr.1 (by show rev ≤ _; omega) q hl hv
    unfold PtQ at HP
    go_upto_region 8 with (fail)
    go_region_with (go_at_call 52; (with_reducible refine HP.out.mono ?_); rintro e w7 ⟨rfl, gb7, hc7, hch7, hnb7⟩; have HC7 := Lib.hid hc7; have HH7 := Lib.hid hch7; have HN7 := Lib.hid hnb7; clear hc7 hch7 hnb7)
    all_goals
      go_end0
      obtain ⟨g1, g2, g3, g4, g5, g6, g7⟩ := H0.out.fm.ch _ _ HFF.out
      have hcb := g1.base
      have hcl2 : c < W0.heap.size := by omega
      have hch : Chg d gb W0 w7 := ⟨HH7.out.os, HH7.out.tape, HH7.out.output, HH7.out.size, HH7.out.block⟩
      have hnb : NewB gb gb7 W0 := HN7.out
      have hmb : ∀ b, mb = some b → b < W0.heap.size := fun b e => by
        rcases H0.out.mp with ⟨e1, _⟩ | ⟨b', e1, _, _, hm⟩
        · rw [e1] at e; cases e
        · rw [e1] at e; injection e with e; rw [← e]; exact hm.lt
      refine ⟨rfl, ⟨gb7, ⟨(hch.block c hcl2 g4 (fun e => g6 e.symm)).trans H0.out.hs, ?_, H0.out.fm.put (by omega) HFF.out hcl2 hmb HC7.out HASC.out hch hnb, H0.out.lo⟩, ?_⟩, ?_, ?_⟩
      · rw [blkOf_set HFF.out]
        rcases H0.out.mp with ⟨e1, e2⟩ | ⟨b, e1, e2, e3, hm⟩
        · have := e2 key.data.toList; rw [HFF.out] at this; cases this
        · exact .inr ⟨b, e1, e2, e3, hm.keep (hch.block b hm.lt (fun e => g5 (by rw [e1, e])) (fun e => g7 b e1 e.symm))⟩
      · rcases hnb with e1 | e1 | ⟨q, e1, hq⟩
        · exact .inl e1
        · exact .inr (.inl e1)
        · exact .inr (.inr ⟨q, e1, by omega⟩)
      · have hB7 := hch.below (B := B) (show B ≤ W0.heap.size by omega) g3 (fun g e => (hcb g e).1)
        exact HB0.out.trans hB7
      · have hf0 : Fr (Ow c mb f) w W0 := Fr.below HZ0.out
        exact hf0.trans (E' := Ow c mb f) ⟨hch.os, hch.tape, hch.output, hch.size, fun k hk hn => hch.block k hk (fun e => hn (.inr (.inr ⟨_, _, HFF.out, .inl e⟩))) (fun e => hn (.inr (.inr ⟨_, _, HFF.out, .inr e.symm⟩)))⟩ (fun j hj => .inl hj)
end Go.Proofs.Ytjceofkcahfhmaa.Mv
namespace Go.Proofs.Ytjceofkcahfhmaa.Mv
open Go.RowKit Go.Lib Go.Maps
open Go.Proofs.Ytjceofkcahfhmaa.Cn
set_option linter.unusedSimpArgs false
set_option linter.unusedVariables false

theorem blkOf_add {f : Key → Option Chn} {k : Key} {x : Chn} : blkOf (setF f k (some x)) = fun j => if j = k then some x.1 else blkOf f j := by
  funext j
  unfold blkOf
  by_cases hj : j = k
  · subst hj; rw [setF_same, if_pos rfl]; rfl
  · rw [setF_other hj, if_neg hj]
/-- an empty chain that was made above a world M in which all others lie -/
theorem Fam.add {B c N M d : Nat} {mb mb' : Option Nat} {f : Key → Option Chn} {V : World} {k : Key} (h : Fam B c N mb f V) (hM : ∀ j x, f j = some x → x.1 < M ∧ ∀ g, x.2.1 = some g → g < M) (hd : M ≤ d) (hcM : c < M)
    (hmb : ∀ b, mb' = some b → (mb = some b ∨ M ≤ b) ∧ b ≠ d) (hf : f k = none) (hi : IsCh B d N none [] V) (hB : B ≤ d) : Fam B c N mb' (setF f k (some (d, none, []))) V := by
  refine ⟨fun j y hy => ?_, fun j j' x y hjj hx hy => ?_⟩
  · by_cases hj : j = k
    · subst hj
      rw [setF_same] at hy
      injection hy with hy
      subst hy
      exact ⟨hi, List.Pairwise.nil, hB, by show c ≠ d; omega, fun e => (hmb _ e).2 rfl, fun e => (by cases e), fun b _ e => (by cases e)⟩
    · rw [setF_other hj] at hy
      obtain ⟨h1, h2, h3, h4, h5, h6, h7⟩ := h.ch j y hy
      obtain ⟨m1, m2⟩ := hM j y hy
      refine ⟨h1, h2, h3, h4, fun e => ?_, h6, fun b e1 e2 => ?_⟩
      · rcases (hmb _ e).1 with e3 | e3
        · exact h5 e3
        · omega
      · rcases (hmb b e1).1 with e3 | e3
        · exact h7 b e3 e2
        · have := m2 b e2; omega
  · by_cases hj : j = k
    · subst hj
      rw [setF_same] at hx
      injection hx with hx
      subst hx
      rw [setF_other (fun e => hjj e.symm)] at hy
      obtain ⟨m1, m2⟩ := hM j' y hy
      exact ⟨by show d ≠ y.1; omega, fun e => (by cases e), fun e => by have := m2 d e; omega, fun g e => (by cases e)⟩
    · rw [setF_other hj] at hx
      by_cases hj' : j' = k
      · subst hj'
        rw [setF_same] at hy
        injection hy with hy
        subst hy
        obtain ⟨m1, m2⟩ := hM j x hx
        exact ⟨by show x.1 ≠ d; omega, fun e => by have := m2 d e; omega, fun e => (by cases e), fun g e e2 => (by cases e2)⟩
      · rw [setF_other hj'] at hy
        exact h.ap j j' x y hjj hx hy
end Go.Proofs.Ytjceofkcahfhmaa.Mv
namespace Go.Proofs.Ytjceofkcahfhmaa.Mv
open Go.RowKit Go.Lib Go.Maps
open Go.Proofs.Ytjceofkcahfhmaa.Cn
set_option linter.unusedSimpArgs false
set_option linter.unusedVariables false

theorem eq_sn (b : Nat) (w : World) : (binOp BinOp.eql 52 (.map (some b)) (.map none)).run Try.prog w = .ok (.bool false) w := by kernel_rfl
theorem set7o {w : World} {c : Nat} {l0 l9 rev fl ks vs : Int} {mp od : Value} (h : w.heap[c]? = some (obN l0 l9 rev fl mp ks vs od)) : (w.setCell ⟨c, 7, none⟩ (.slice none 0 0)).heap[c]? = some (obN l0 l9 rev fl mp ks vs (.slice none 0 0)) := by
  have := Cn.blk_set h 7 (.slice none 0 0); simpa using this
set_option maxRecDepth 100000 in
set_option maxHeartbeats 8000000 in
theorem put_new1 {B c N b : Nat} {f : Key → Option Chn} {l0 l9 rev fl ks vs : Int} {od : Value} {w : World} (h : IsMv B c N (some b) f l0 l9 rev fl ks vs od w) (hN : N ≤ 1000) (hBs : B ≤ w.heap.size) {key : ByteArray} (hk : key.size ≤ maxLen) (v : ByteArray) (g : Bool) (hf : f key.data.toList = none) (hr : 1 ≤ rev ∧ rev ≤ 1000000)
    (hsz : ∀ D, MapF D (blkOf f) → ∀ V : World, V.ownsMap Try.prog 9 ptrE b (Maps.size D) D → Maps.size D < maxLen) :
    Calls Try.prog 36 #[.pointer (some ⟨c, 0, none⟩), .agg #[.string key, .string v, .bool g]] w fun e w' => e = .returned (.tuple #[]) ∧ (∃ d gb, IsMv B c (N + 1) (some b) (setF f key.data.toList (some (d, gb, [(rev, v, g)]))) l0 l9 rev fl ks vs (.slice none 0 0) w' ∧ w.heap.size ≤ d ∧ ∀ g, gb = some g → w.heap.size ≤ g) ∧ Below B w w' ∧ Fr (Ow c (some b) f) w w' := by
  have hcl : c < w.heap.size := (Array.getElem?_eq_some_iff.1 h.hs).1
  obtain ⟨b', hbe, hBb, hbc, hSM⟩ : ∃ b', (some b : Option Nat) = some b' ∧ B ≤ b' ∧ b' ≠ c ∧ SetM b' (blkOf f) w := by
    rcases h.mp with ⟨e, _⟩ | hh
    · cases e
    · exact hh
  injection hbe with hbe
  subst hbe
  obtain ⟨W0, hW0, hk0, hb0⟩ := Cn.new3 w (.string key) (.string v) (.bool g) 80
  have hz0 : w.heap.size < W0.heap.size := (Array.getElem?_eq_some_iff.1 hk0).1
  have H0 := Lib.hid (h.go hb0)
  have HW0 := Lib.hid hW0
  have HK0 := Lib.hid hk0
  have HB0 : Hid (Below B w W0) := hb0.mono hBs
  have HZ0 := Lib.hid hb0
  have HLO := Lib.hid h.lo
  have HFN := Lib.hid hf
  have HSZ := Lib.hid hsz
  have HM0 := Lib.hid (hSM.keep (hb0.block _ hSM.lt))
  have hbl : b < w.heap.size := hSM.lt
  have hld := (H0.out.go (bdr W0)).look hk
  rw [show blkOf f key.data.toList = none by unfold blkOf; rw [hf]; rfl, show pv none = .pointer none from rfl] at hld
  have hesn := eq_sn
  obtain ⟨c0, c1, c2, c3, c4, c5, c6, c7⟩ := cells8 H0.out.hs
  obtain ⟨x0, x1, x2⟩ := Cn.cells3 hk0
  clear h hW0 hk0 hb0 hSM hf hsz
  go_enter Try.func36, Try.ntmps36
  go_upto_region 1 with (fail)
  rw [← HW0.out]
  go_region
  all_goals
    obtain ⟨W3, hW3⟩ : ∃ W3, W3 = W0.drew := ⟨_, rfl⟩
    have hz3a : W3.heap.size ≤ W0.heap.size := by rw [hW3]; exact Nat.le_refl _
    have hz3b : W0.heap.size ≤ W3.heap.size := by rw [hW3]; exact Nat.le_refl _
    have HH3 : Hid (∀ k : Nat, W3.heap[k]? = W0.heap[k]?) := fun k => by rw [hW3]; rfl
    have HB3 : Hid (Below B w W3) := by rw [hW3]; exact Lib.hid (HB0.out.trans ((bdr W0).mono (by omega)))
    go_upto_region 5 with (fail)
    rw [← hW3]
    clear hW3 c0 c1 c2 c3 c4 c5 c6 c7 x0 x1 x2 hld
    go_upto_region 6 with (go_at_call 51; (with_reducible refine (New_c W3).mono ?_); rintro e w4 ⟨rfl, hc4, hb4⟩; have HC4 := Lib.hid hc4; have HB4 := Lib.hid hb4; clear hc4 hb4)
    have hz4 : W3.heap.size < w4.heap.size := HC4.out.lt
    have HH4 : Hid (∀ k : Nat, k < W0.heap.size → w4.heap[k]? = W0.heap[k]?) := fun k hk => (HB4.out.block k (by omega)).trans (HH3.out k)
    have HS4 := Lib.hid ((HH4.out c (by omega)).trans H0.out.hs)
    have HK4 := Lib.hid ((HH4.out w.heap.size hz0).trans HK0.out)
    have hM4 : SetM b (blkOf f) w4.drew := HM0.out.keep (HH4.out b (by omega))
    obtain ⟨W5, hu, hm5, hg5⟩ := hM4.store hk W3.heap.size (fun D h1 h2 => HSZ.out D h2 _ h1)
    have HM5 := Lib.hid hm5
    have HG5 := Lib.hid hg5
    have hz5 : w4.heap.size ≤ W5.heap.size := hg5.size
    have HH5 : Hid (∀ k : Nat, k < w4.heap.size → k ≠ b → W5.heap[k]? = w4.heap[k]?) := fun k h1 h2 => hg5.block k h1 (fun e => h2 (by injection e))
    obtain ⟨c0, c1, c2, c3, c4, c5, c6, c7⟩ := cells8 HS4.out
    obtain ⟨x0, x1, x2⟩ := Cn.cells3 HK4.out
    clear hM4 hm5 hg5
    go_region
    all_goals
      clear hu c0 c1 c2 c3 c4 c5 c6 c7 x0 x1 x2
      have HS5 := Lib.hid ((HH5.out c (by omega) (fun e => hbc e.symm)).trans HS4.out)
      have f7 := frz HS5.out 7
      have c7 := (cells8 HS5.out).2.2.2.2.2.2.2
      go_upto_region 8 with (fail)
      obtain ⟨W6, hW6⟩ : ∃ W6, W6 = W5.setCell ⟨c, 7, none⟩ (.slice none 0 0) := ⟨_, rfl⟩
      have HS6 := Lib.hid (hW6 ▸ set7o HS5.out : W6.heap[c]? = some (obN l0 l9 rev fl (.map (some b)) ks vs (.slice none 0 0)))
      have HH6 : Hid (∀ k : Nat, k ≠ c → W6.heap[k]? = W5.heap[k]?) := fun k hk => by rw [hW6]; exact set_oth _ _ _ _ hk
      have hz6 : W6.heap.size = W5.heap.size := by rw [hW6]; simp [World.setCell]
      have HM6 : Hid (SetM b (fun j => if j = key.data.toList then some W3.heap.size else blkOf f j) W6) := HM5.out.keep (HH6.out b hbc)
      have HC6 : Hid (IsCh W3.heap.size W3.heap.size 0 none [] W6) := by
        obtain ⟨vv, all, k, h1, h2, h3, h4, h5, h6⟩ := HC4.out
        have he : all = [] := List.eq_nil_of_length_eq_zero (by omega)
        subst he
        refine ⟨vv, [], k, h1, h2, h3, h4, (HH6.out _ (by omega)).trans ((HH5.out _ hz4 (by omega)).trans h5), h6.1, ?_⟩
        rcases h6.2 with h7 | ⟨gg, cap, cur, e1, e2, e3, e4⟩
        · exact .inl h7
        · rw [e1] at h1; cases h1
      have HK6 := Lib.hid ((HH6.out w.heap.size (by omega)).trans ((HH5.out w.heap.size (by omega) (by omega)).trans HK4.out))
      have hb5 := bel_grown (B := B) (w := w4.drew) HG5.out hBb (show B ≤ w4.heap.size by omega)
      have hb5' : Below B w4 W5 := ⟨hb5.os, hb5.tape, hb5.output, hb5.size, hb5.block⟩
      have HB6 : Hid (Below B w W6) := by
        rw [hW6]
        exact Lib.hid (((HB3.out.trans (HB4.out.mono (by omega))).trans hb5').trans (bel_set W5 HLO.out 7 _))
      have HF6 : Hid (Fam B c N (some b) f W6) := H0.out.fm.keep (fun k h1 h2 h3 => (HH6.out k h2).trans ((HH5.out k (by omega) (fun e => h3 (by rw [e]))).trans (HH4.out k h1)))
      have HFA : Hid (Fam B c N (some b) (setF f key.data.toList (some (W3.heap.size, none, []))) W6) := by
        refine Fam.add (M := W0.heap.size) (mb := some b) HF6.out (fun j x hx => ?_) (by omega) (by omega) (fun b' e => ⟨.inl e, by injection e with e; omega⟩) HFN.out ((IsCh.mono HC6.out (by omega)).up (by omega)) (by omega)
        obtain ⟨q1, _⟩ := H0.out.fm.ch j x hx
        exact ⟨q1.lt, fun g e => (q1.base g e).2⟩
      have HP : Hid (Calls Try.prog 52 #[.pointer (some ⟨W3.heap.size, 0, none⟩), .agg #[.int .i64 rev, .string v, .bool g]] W6.drew (PtQ W3.heap.size W3.heap.size 1 none [(rev, v, g)] 0 W6.drew)) :=
        put_ok W3.heap.size W3.heap.size 0 none [] (rev, v, g) W6.drew (HC6.out.go (bdr W6)) (by omega) (show W3.heap.size ≤ W6.heap.size by omega) hr.1 (by show rev ≤ _; omega) false rfl (by simp)
      unfold PtQ at HP
      rw [← hW6]
      clear hW6 c7 f7 hb5 hb5'
      obtain ⟨c0, c1, c2, c3, c4, c5, c6, c7⟩ := cells8 HS6.out
      obtain ⟨x0, x1, x2⟩ := Cn.cells3 HK6.out
      go_region_with (go_at_call 52; (with_reducible refine HP.out.mono ?_); rintro e w7 ⟨rfl, gb, hc7, hch7, hnb7⟩; have HC7 := Lib.hid hc7; have HH7 := Lib.hid hch7; have HN7 := Lib.hid hnb7; clear hc7 hch7 hnb7)
      all_goals
        go_end0
        have hch : Chg W3.heap.size none W6 w7 := ⟨HH7.out.os, HH7.out.tape, HH7.out.output, HH7.out.size, HH7.out.block⟩
        have hnb : NewB none gb W6 := HN7.out
        have hfp := HFA.out.put (N' := N + 1) (k := key.data.toList) (by omega) (setF_same _ _ _) (show c < W6.heap.size by omega) (fun b' e => by injection e with e; omega) ((IsCh.mono HC7.out (by omega)).up (by omega)) (List.pairwise_singleton _ _) hch hnb
        have hss : setF (setF f key.data.toList (some (W3.heap.size, none, []))) key.data.toList (some (W3.heap.size, gb, [(rev, v, g)])) = setF f key.data.toList (some (W3.heap.size, gb, [(rev, v, g)])) := by
          funext j
          by_cases hj : j = key.data.toList
          · subst hj; rw [setF_same, setF_same]
          · rw [setF_other hj, setF_other hj, setF_other hj]
        rw [hss] at hfp
        refine ⟨rfl, ⟨W3.heap.size, gb, ⟨(hch.block c (by omega) (by omega) (fun e => by cases e)).trans HS6.out, ?_, hfp, HLO.out⟩, by omega, fun gx e => ?_⟩, ?_, ?_⟩
        · refine .inr ⟨b, rfl, hBb, hbc, ?_⟩
          rw [blkOf_add]
          exact HM6.out.keep (hch.block b (by omega) (by omega) (fun e => by cases e))
        · rcases hnb with e1 | e1 | ⟨q, e1, hq⟩
          · rw [e1] at e; cases e
          · rw [e1] at e; cases e
          · rw [e1] at e; injection e with e; omega
        · exact HB6.out.trans (hch.below (B := B) (show B ≤ W6.heap.size by omega) (by omega) (fun g e => by cases e))
        · refine ⟨(HB6.out.trans (hch.below (B := B) (show B ≤ W6.heap.size by omega) (by omega) (fun g e => by cases e))).os, (HB6.out.trans (hch.below (B := B) (show B ≤ W6.heap.size by omega) (by omega) (fun g e => by cases e))).tape, (HB6.out.trans (hch.below (B := B) (show B ≤ W6.heap.size by omega) (by omega) (fun g e => by cases e))).output, by have := hch.size; omega, fun k hk hn => ?_⟩
          have hkc : k ≠ c := fun e => hn (.inl e)
          have hkb : k ≠ b := fun e => hn (.inr (.inl (by rw [e])))
          exact (hch.block k (by omega) (by omega) (fun e => by cases e)).trans ((HH6.out k hkc).trans ((HH5.out k (by omega) hkb).trans ((HH4.out k (by omega)).trans (HZ0.out.block k hk))))
end Go.Proofs.Ytjceofkcahfhmaa.Mv
namespace Go.Proofs.Ytjceofkcahfhmaa.Mv
open Go.RowKit Go.Lib Go.Maps
open Go.Proofs.Ytjceofkcahfhmaa.Cn
set_option linter.unusedSimpArgs false
set_option linter.unusedVariables false

theorem set4o {w : World} {c : Nat} {l0 l9 rev fl ks vs : Int} {mp od : Value} (h : w.heap[c]? = some (obN l0 l9 rev fl mp ks vs od)) (u : Value) : (w.setCell ⟨c, 4, none⟩ u).heap[c]? = some (obN l0 l9 rev fl u ks vs od) := by
  have := Cn.blk_set h 4 u; simpa using this
set_option maxRecDepth 100000 in
set_option maxHeartbeats 8000000 in
theorem put_new0 {B c N : Nat} {f : Key → Option Chn} {l0 l9 rev fl ks vs : Int} {od : Value} {w : World} (h : IsMv B c N none f l0 l9 rev fl ks vs od w) (hN : N ≤ 1000) (hBs : B ≤ w.heap.size) {key : ByteArray} (hk : key.size ≤ maxLen) (v : ByteArray) (g : Bool) (hr : 1 ≤ rev ∧ rev ≤ 1000000) :
    Calls Try.prog 36 #[.pointer (some ⟨c, 0, none⟩), .agg #[.string key, .string v, .bool g]] w fun e w' => e = .returned (.tuple #[]) ∧ (∃ b d gb, IsMv B c (N + 1) (some b) (setF f key.data.toList (some (d, gb, [(rev, v, g)]))) l0 l9 rev fl ks vs (.slice none 0 0) w' ∧ w.heap.size ≤ b ∧ w.heap.size ≤ d ∧ ∀ g, gb = some g → w.heap.size ≤ g) ∧ Below B w w' ∧ Fr (Ow c none f) w w' := by
  have hcl : c < w.heap.size := (Array.getElem?_eq_some_iff.1 h.hs).1
  have hfn : ∀ k, f k = none := by
    rcases h.mp with ⟨_, e⟩ | ⟨b, e, _⟩
    · exact e
    · cases e
  obtain ⟨W0, hW0, hk0, hb0⟩ := Cn.new3 w (.string key) (.string v) (.bool g) 80
  have hz0 : w.heap.size < W0.heap.size := (Array.getElem?_eq_some_iff.1 hk0).1
  have H0 := Lib.hid (h.go hb0)
  have HW0 := Lib.hid hW0
  have HK0 := Lib.hid hk0
  have HB0 : Hid (Below B w W0) := hb0.mono hBs
  have HZ0 := Lib.hid hb0
  have HLO := Lib.hid h.lo
  have hBc := h.lo
  have HFN := Lib.hid hfn
  have hl := look_nil W0.drew hk
  have hmm := @run_makeMap Try.prog
  have henn := eq_nn
  obtain ⟨WM, hWM⟩ : ∃ WM, WM = W0.alloc (.map #[] 0) := ⟨_, rfl⟩
  have hbM : Below W0.heap.size W0 WM := by rw [hWM]; exact (Below.refl _ _).alloc (Nat.le_refl _) _
  have hM : SetM W0.heap.size (fun _ => none) WM := by rw [hWM]; exact SetM.made W0
  have hSM := (hbM.block c (by omega)).trans H0.out.hs
  obtain ⟨W3, hW3⟩ : ∃ W3, W3 = (WM.setCell ⟨c, 4, none⟩ (.map (some W0.heap.size))).drew := ⟨_, rfl⟩
  have HS3 : Hid (W3.heap[c]? = some (obN l0 l9 rev fl (.map (some W0.heap.size)) ks vs od)) := by rw [hW3]; exact set4o hSM _
  have HM3 : Hid (SetM W0.heap.size (fun _ => none) W3) := by rw [hW3]; exact hM.keep (set_oth _ _ _ _ (by omega))
  have HO3 : Hid (∀ k : Nat, k < W0.heap.size → k ≠ c → W3.heap[k]? = W0.heap[k]?) := by
    rw [hW3]
    exact Lib.hid (fun k h1 h2 => (set_oth _ _ _ _ h2).trans (hbM.block k h1))
  have HB3 : Hid (Below B w W3) := by
    rw [hW3]
    exact Lib.hid (HB0.out.trans ((hbM.mono (by omega)).trans (bel_set WM hBc 4 _)).drew)
  have hz3 : W0.heap.size < W3.heap.size := HM3.out.lt
  have HK3 : Hid (W3.heap[w.heap.size]? = some (.cells #[.string key, .string v, .bool g] 80 (0, 0))) := (HO3.out _ hz0 (by omega)).trans HK0.out
  have HW3 := Lib.hid hW3
  obtain ⟨c0, c1, c2, c3, c4, c5, c6, c7⟩ := cells8 H0.out.hs
  obtain ⟨x0, x1, x2⟩ := Cn.cells3 HK0.out
  have m4 : (W0.alloc (.map #[] 0)).cell? ⟨c, 4, none⟩ = some (.map none) := by
    have := cell_of_row _ _ 4 _ _ _ hSM
    rw [hWM] at this
    exact this
  have f4 : (W0.alloc (.map #[] 0)).frozen? ⟨c, 4, none⟩ = false := by
    have := frz hSM 4
    rw [hWM] at this
    exact this
  have HWM := Lib.hid hWM
  have hne : c ≠ W0.heap.size := by omega
  clear h hW0 hk0 hb0 hWM hW3 hbM hM hSM hfn
  go_enter Try.func36, Try.ntmps36
  go_upto_region 1 with (fail)
  rw [← HW0.out]
  go_region
  all_goals
    go_upto_region 5 with (fail)
    rw [← HWM.out, ← HW3.out]
    clear c0 c1 c2 c3 c4 c5 c6 c7 x0 x1 x2 m4 f4
    go_upto_region 6 with (go_at_call 51; (with_reducible refine (New_c W3).mono ?_); rintro e w4 ⟨rfl, hc4, hb4⟩; have HC4 := Lib.hid hc4; have HB4 := Lib.hid hb4; clear hc4 hb4)
    have hz4 : W3.heap.size < w4.heap.size := HC4.out.lt
    have HS4 := Lib.hid ((HB4.out.block c (by omega)).trans HS3.out)
    have HK4 := Lib.hid ((HB4.out.block w.heap.size (by omega)).trans HK3.out)
    have hM4 : SetM W0.heap.size (fun _ => none) w4.drew := HM3.out.keep (HB4.out.block _ hz3)
    obtain ⟨W5, hu, hm5, hg5⟩ := hM4.store hk W3.heap.size (fun D h1 h2 => by rw [msize0 h1 h2]; unfold maxLen; omega)
    have HM5 := Lib.hid hm5
    have HG5 := Lib.hid hg5
    have hz5 : w4.heap.size ≤ W5.heap.size := hg5.size
    have HH5 : Hid (∀ k : Nat, k < w4.heap.size → k ≠ W0.heap.size → W5.heap[k]? = w4.heap[k]?) := fun k h1 h2 => hg5.block k h1 (fun e => h2 (by injection e))
    obtain ⟨c0, c1, c2, c3, c4, c5, c6, c7⟩ := cells8 HS4.out
    obtain ⟨x0, x1, x2⟩ := Cn.cells3 HK4.out
    clear hM4 hm5 hg5
    go_region
    all_goals
      clear hu c0 c1 c2 c3 c4 c5 c6 c7 x0 x1 x2
      have HS5 := Lib.hid ((HH5.out c (by omega) hne).trans HS4.out)
      have f7 := frz HS5.out 7
      have c7 := (cells8 HS5.out).2.2.2.2.2.2.2
      go_upto_region 8 with (fail)
      obtain ⟨W6, hW6⟩ : ∃ W6, W6 = W5.setCell ⟨c, 7, none⟩ (.slice none 0 0) := ⟨_, rfl⟩
      have HS6 := Lib.hid (hW6 ▸ set7o HS5.out : W6.heap[c]? = some (obN l0 l9 rev fl (.map (some W0.heap.size)) ks vs (.slice none 0 0)))
      have HH6 : Hid (∀ k : Nat, k ≠ c → W6.heap[k]? = W5.heap[k]?) := fun k hk => by rw [hW6]; exact set_oth _ _ _ _ hk
      have hz6 : W6.heap.size = W5.heap.size := by rw [hW6]; simp [World.setCell]
      have HM6 : Hid (SetM W0.heap.size (fun j => if j = key.data.toList then some W3.heap.size else none) W6) := HM5.out.keep (HH6.out _ (fun e => hne e.symm))
      have HC6 : Hid (IsCh W3.heap.size W3.heap.size 0 none [] W6) := by
        obtain ⟨vv, all, k, h1, h2, h3, h4, h5, h6⟩ := HC4.out
        have he : all = [] := List.eq_nil_of_length_eq_zero (by omega)
        subst he
        refine ⟨vv, [], k, h1, h2, h3, h4, (HH6.out _ (by omega)).trans ((HH5.out _ hz4 (by omega)).trans h5), h6.1, ?_⟩
        rcases h6.2 with h7 | ⟨gg, cap, cur, e1, e2, e3, e4⟩
        · exact .inl h7
        · rw [e1] at h1; cases h1
      have HK6 := Lib.hid ((HH6.out w.heap.size (by omega)).trans ((HH5.out w.heap.size (by omega) (by omega)).trans HK4.out))
      have hb5 := bel_grown (B := B) (w := w4.drew) HG5.out (by omega) (show B ≤ w4.heap.size by omega)
      have hb5' : Below B w4 W5 := ⟨hb5.os, hb5.tape, hb5.output, hb5.size, hb5.block⟩
      have HB6 : Hid (Below B w W6) := by
        rw [hW6]
        exact Lib.hid (((HB3.out.trans (HB4.out.mono (by omega))).trans hb5').trans (bel_set W5 HLO.out 7 _))
      have hall : ∀ j x, f j = some x → False := fun j x hx => by rw [HFN.out j] at hx; cases hx
      have HF6 : Hid (Fam B c N none f W6) := ⟨fun j x hx => (hall j x hx).elim, fun j j' x y _ hx _ => (hall j x hx).elim⟩
      have HFA : Hid (Fam B c N (some W0.heap.size) (setF f key.data.toList (some (W3.heap.size, none, []))) W6) := by
        refine Fam.add (M := W0.heap.size) (mb := none) HF6.out (fun j x hx => (hall j x hx).elim) (by omega) (by omega) (fun b' e => ⟨.inr (by injection e with e; omega), by injection e with e; omega⟩) (HFN.out _) ((IsCh.mono HC6.out (by omega)).up (by omega)) (by omega)
      have HP : Hid (Calls Try.prog 52 #[.pointer (some ⟨W3.heap.size, 0, none⟩), .agg #[.int .i64 rev, .string v, .bool g]] W6.drew (PtQ W3.heap.size W3.heap.size 1 none [(rev, v, g)] 0 W6.drew)) :=
        put_ok W3.heap.size W3.heap.size 0 none [] (rev, v, g) W6.drew (HC6.out.go (bdr W6)) (by omega) (show W3.heap.size ≤ W6.heap.size by omega) hr.1 (by show rev ≤ _; omega) false rfl (by simp)
      unfold PtQ at HP
      rw [← hW6]
      clear hW6 c7 f7 hb5 hb5' hall
      obtain ⟨c0, c1, c2, c3, c4, c5, c6, c7⟩ := cells8 HS6.out
      obtain ⟨x0, x1, x2⟩ := Cn.cells3 HK6.out
      go_region_with (go_at_call 52; (with_reducible refine HP.out.mono ?_); rintro e w7 ⟨rfl, gb, hc7, hch7, hnb7⟩; have HC7 := Lib.hid hc7; have HH7 := Lib.hid hch7; have HN7 := Lib.hid hnb7; clear hc7 hch7 hnb7)
      all_goals
        go_end0
        have hch : Chg W3.heap.size none W6 w7 := ⟨HH7.out.os, HH7.out.tape, HH7.out.output, HH7.out.size, HH7.out.block⟩
        have hnb : NewB none gb W6 := HN7.out
        have hfp := HFA.out.put (N' := N + 1) (k := key.data.toList) (by omega) (setF_same _ _ _) (show c < W6.heap.size by omega) (fun b' e => by injection e with e; omega) ((IsCh.mono HC7.out (by omega)).up (by omega)) (List.pairwise_singleton _ _) hch hnb
        have hss : setF (setF f key.data.toList (some (W3.heap.size, none, []))) key.data.toList (some (W3.heap.size, gb, [(rev, v, g)])) = setF f key.data.toList (some (W3.heap.size, gb, [(rev, v, g)])) := by
          funext j
          by_cases hj : j = key.data.toList
          · subst hj; rw [setF_same, setF_same]
          · rw [setF_other hj, setF_other hj, setF_other hj]
        rw [hss] at hfp
        have hBB := HB6.out.trans (hch.below (B := B) (show B ≤ W6.heap.size by omega) (by omega) (fun g e => by cases e))
        refine ⟨rfl, ⟨W0.heap.size, W3.heap.size, gb, ⟨(hch.block c (by omega) (by omega) (fun e => by cases e)).trans HS6.out, ?_, hfp, HLO.out⟩, by omega, by omega, fun gx e => ?_⟩, hBB, hBB.os, hBB.tape, hBB.output, by have := hch.size; omega, fun k hk hn => ?_⟩
        · refine .inr ⟨W0.heap.size, rfl, by omega, by omega, ?_⟩
          rw [blkOf_add, show (fun j => if j = key.data.toList then some W3.heap.size else blkOf f j) = (fun j => if j = key.data.toList then some W3.heap.size else none) by
            funext j
            unfold blkOf
            rw [HFN.out j]; rfl]
          exact HM6.out.keep (hch.block _ (by omega) (by omega) (fun e => by cases e))
        · rcases hnb with e1 | e1 | ⟨q, e1, hq⟩
          · rw [e1] at e; cases e
          · rw [e1] at e; cases e
          · rw [e1] at e; injection e with e; omega
        · have hkc : k ≠ c := fun e => hn (.inl e)
          exact (hch.block k (by omega) (by omega) (fun e => by cases e)).trans ((HH6.out k hkc).trans ((HH5.out k (by omega) (by omega)).trans ((HB4.out.block k (by omega)).trans ((HO3.out k (by omega) hkc).trans (HZ0.out.block k hk)))))
end Go.Proofs.Ytjceofkcahfhmaa.Mv
namespace Go.Proofs.Ytjceofkcahfhmaa.Mv
open Go.RowKit Go.Lib Go.Maps
open Go.Proofs.Ytjceofkcahfhmaa.Cn
set_option linter.unusedSimpArgs false
set_option linter.unusedVariables false

/-- the keys of a store's chains -/
def Dm (f : Key → Option Chn) (K : List Key) : Prop := K.Nodup ∧ ∀ k, (f k).isSome = decide (k ∈ K)
theorem vrs_none {f : Key → Option Chn} {k : Key} (h : f k = none) : vrs f k = [] := by unfold vrs; rw [h]
theorem vrs_some {f : Key → Option Chn} {k : Key} {x : Chn} (h : f k = some x) : vrs f k = x.2.2 := by unfold vrs; rw [h]
theorem vrs_set (f : Key → Option Chn) (k : Key) (x : Chn) (j : Key) : vrs (setF f k (some x)) j = if j = k then x.2.2 else vrs f j := by
  unfold vrs
  by_cases hj : j = k
  · subst hj; rw [setF_same, if_pos rfl]
  · rw [setF_other hj, if_neg hj]
theorem some_set (f : Key → Option Chn) (k : Key) (x : Chn) (j : Key) : (setF f k (some x) j).isSome = (decide (j = k) || (f j).isSome) := by
  by_cases hj : j = k
  · subst hj; rw [setF_same]; simp
  · rw [setF_other hj]; simp [hj]
/-- what put leaves -/
def PtS (c N : Nat) (mb : Option Nat) (f : Key → Option Chn) (l0 l9 rev fl ks vs : Int) (od : Value) (key : Key) (x : Ver) (w w' : World) : Prop :=
  ∃ mb' f' od', IsMv 0 c (N + 1) mb' f' l0 l9 rev fl ks vs od' w' ∧ Fr (Ow c mb f) w w' ∧ (∀ k, Ow c mb' f' k → Ow c mb f k ∨ w.heap.size ≤ k) ∧ (∀ j, vrs f' j = if j = key then vrs f j ++ [x] else vrs f j) ∧ (∀ j, (f' j).isSome = (decide (j = key) || (f j).isSome)) ∧ (od' = od ∧ (f key).isSome = true ∨ od' = .slice none 0 0)
theorem ow_set {c : Nat} {mb mb' : Option Nat} {f : Key → Option Chn} {key : Key} {x : Chn} {n k : Nat} (h : Ow c mb' (setF f key (some x)) k) (hm : ∀ b, mb' = some b → mb = some b ∨ n ≤ b) (h1 : Ow c mb f x.1 ∨ n ≤ x.1) (h2 : ∀ g, x.2.1 = some g → Ow c mb f g ∨ n ≤ g) : Ow c mb f k ∨ n ≤ k := by
  rcases h with e | e | ⟨j, y, hy, e⟩
  · exact .inl (.inl e)
  · rcases hm k e with e1 | e1
    · exact .inl (.inr (.inl e1))
    · exact .inr e1
  · by_cases hj : j = key
    · subst hj
      rw [setF_same] at hy
      injection hy with hy
      subst hy
      rcases e with e | e
      · rw [e]; exact h1
      · exact h2 k e
    · rw [setF_other hj] at hy
      exact .inl (.inr (.inr ⟨j, y, hy, e⟩))
theorem put_c {c N : Nat} {mb : Option Nat} {f : Key → Option Chn} {l0 l9 rev fl ks vs : Int} {od : Value} {w : World} (h : IsMv 0 c N mb f l0 l9 rev fl ks vs od w) (hN : N ≤ 1000) {K : List Key} (hK : Dm f K) (hKl : K.length ≤ 100000) {key : ByteArray} (hk : key.size ≤ maxLen) (v : ByteArray) (g : Bool) (hr : 1 ≤ rev ∧ rev ≤ 1000000) (hlt : ∀ x ∈ vrs f key.data.toList, x.1 < rev) :
    Calls Try.prog 36 #[.pointer (some ⟨c, 0, none⟩), .agg #[.string key, .string v, .bool g]] w fun e w' => e = .returned (.tuple #[]) ∧ PtS c N mb f l0 l9 rev fl ks vs od key.data.toList (rev, v, g) w w' := by
  cases hf : f key.data.toList with
  | some y =>
    obtain ⟨d, gb, l⟩ := y
    rw [vrs_some hf] at hlt
    refine (put_old h hN (Nat.zero_le _) hk v g hf hr (lastB l) rfl (fun hq => ?_)).mono ?_
    · have h0 : 0 < l.length := by unfold lastB at hq; exact of_decide_eq_true hq
      unfold lastV
      rw [getD_at (by omega : l.length - 1 < l.length)]
      exact hlt _ (List.getElem_mem _)
    · rintro e w' ⟨rfl, ⟨gb', h1, h2⟩, _, h4⟩
      refine ⟨rfl, mb, _, od, h1, h4, fun k hk' => ?_, fun j => ?_, fun j => some_set _ _ _ _, .inl ⟨rfl, by rw [hf]; rfl⟩⟩
      · refine ow_set hk' (fun b e => .inl e) (.inl (.inr (.inr ⟨_, _, hf, .inl rfl⟩))) (fun g' e => ?_)
        rcases h2 with e1 | e1 | ⟨q, e1, hq⟩
        · exact .inl (.inr (.inr ⟨_, _, hf, .inr (by rw [← e1]; exact e)⟩))
        · exact absurd e (by show gb' ≠ _; rw [e1]; exact fun e => by cases e)
        · refine .inr ?_
          have e : gb' = some g' := e
          rw [e1] at e
          injection e with e
          omega
      · rw [vrs_set]
        by_cases hj : j = key.data.toList
        · rw [if_pos hj, if_pos hj, hj, vrs_some hf]
        · rw [if_neg hj, if_neg hj]
  | none =>
    cases hm : mb with
    | none =>
      subst hm
      refine (put_new0 h hN (Nat.zero_le _) hk v g hr).mono ?_
      rintro e w' ⟨rfl, ⟨b, d, gb, h1, hb, hd, hg⟩, _, h4⟩
      refine ⟨rfl, some b, _, _, h1, h4, fun k hk' => ow_set hk' (fun b' e => .inr (by injection e with e; omega)) (.inr hd) (fun g' e => .inr (hg g' e)), fun j => ?_, fun j => some_set _ _ _ _, .inr rfl⟩
      rw [vrs_set]
      by_cases hj : j = key.data.toList
      · rw [if_pos hj, if_pos hj, hj, vrs_none hf]; rfl
      · rw [if_neg hj, if_neg hj]
    | some b =>
      subst hm
      refine (put_new1 h hN (Nat.zero_le _) hk v g hf hr (fun D h1 V h2 => ?_)).mono ?_
      · rw [msize h2 h1 hK.1 (fun k => by rw [← hK.2 k]; unfold blkOf; cases f k <;> rfl)]
        unfold maxLen; omega
      · rintro e w' ⟨rfl, ⟨d, gb, h1, hd, hg⟩, _, h4⟩
        refine ⟨rfl, some b, _, _, h1, h4, fun k hk' => ow_set hk' (fun b' e => .inl e) (.inr hd) (fun g' e => .inr (hg g' e)), fun j => ?_, fun j => some_set _ _ _ _, .inr rfl⟩
        rw [vrs_set]
        by_cases hj : j = key.data.toList
        · rw [if_pos hj, if_pos hj, hj, vrs_none hf]; rfl
        · rw [if_neg hj, if_neg hj]
end Go.Proofs.Ytjceofkcahfhmaa.Mv
namespace Go.Proofs.Ytjceofkcahfhmaa.Mv
open Go.RowKit Go.Lib Go.Maps
open Go.Proofs.Ytjceofkcahfhmaa.Cn
set_option linter.unusedSimpArgs false
set_option linter.unusedVariables false

def keysL (l : List ChT) : List Key := l.map fun x => x.1.data.toList
/-- the versions that changes make of a key -/
def cmV (r : Int) (l : List ChT) (j : Key) : List Ver := (l.filter fun x => decide (x.1.data.toList = j)).map fun x => (r, x.2.1, x.2.2)
theorem cmV_no {r : Int} {l : List ChT} {j : Key} (h : j ∉ keysL l) : cmV r l j = [] := by
  unfold cmV
  rw [List.map_eq_nil_iff, List.filter_eq_nil_iff]
  intro x hx e
  exact h (List.mem_map.2 ⟨x, hx, of_decide_eq_true e⟩)
theorem cmV_snoc {r : Int} {l : List ChT} {n : Nat} (hn : n < l.length) (j : Key) : cmV r (l.take (n + 1)) j = if j = l[n].1.data.toList then cmV r (l.take n) j ++ [(r, l[n].2.1, l[n].2.2)] else cmV r (l.take n) j := by
  unfold cmV
  rw [List.take_succ_eq_append_getElem hn, List.filter_append, List.map_append]
  by_cases h : j = l[n].1.data.toList
  · rw [if_pos h]; simp [h]
  · rw [if_neg h]
    have : ¬ l[n].1.data.toList = j := fun e => h e.symm
    simp [this]
theorem keys_snoc {l : List ChT} {n : Nat} (hn : n < l.length) : keysL (l.take (n + 1)) = keysL (l.take n) ++ [l[n].1.data.toList] := by
  unfold keysL
  rw [List.take_succ_eq_append_getElem hn, List.map_append]; rfl
theorem seen_nodup_aux : ∀ (l : List ChT) (s : List Key), s.Nodup → (l.foldl (fun s x => s.insert x.1.data.toList) s).length = s.length + l.length → (keysL l).Nodup ∧ ∀ k ∈ keysL l, k ∉ s := by
  intro l
  induction l with
  | nil => intro s hs _; exact ⟨List.nodup_nil, fun k hk => by cases hk⟩
  | cons x l ih =>
    intro s hs he
    have hle : ∀ (l : List ChT) (s : List Key), (l.foldl (fun s x => s.insert x.1.data.toList) s).length ≤ s.length + l.length := by
      intro l
      induction l with
      | nil => intro s; exact Nat.le_refl _
      | cons y l ih2 =>
        intro s
        have h1 := ih2 (s.insert y.1.data.toList)
        have h2 : (s.insert y.1.data.toList).length ≤ s.length + 1 := by
          by_cases hk : y.1.data.toList ∈ s
          · rw [List.insert_of_mem hk]; omega
          · rw [List.insert_of_not_mem hk]; simp
        rw [List.foldl_cons, List.length_cons]; omega
    rw [List.foldl_cons, List.length_cons] at he
    have hno : x.1.data.toList ∉ s := by
      intro hm
      rw [List.insert_of_mem hm] at he
      have := hle l s
      omega
    have hins : s.insert x.1.data.toList = x.1.data.toList :: s := List.insert_of_not_mem hno
    rw [hins] at he
    obtain ⟨h1, h2⟩ := ih (x.1.data.toList :: s) (List.nodup_cons.2 ⟨hno, hs⟩) (by rw [List.length_cons]; omega)
    have hkc : keysL (x :: l) = x.1.data.toList :: keysL l := rfl
    refine ⟨?_, fun k hk => ?_⟩
    · rw [hkc]
      exact List.nodup_cons.2 ⟨fun hm => h2 _ hm (List.mem_cons_self ..), h1⟩
    · rw [hkc] at hk
      rcases List.mem_cons.1 hk with e | e
      · rw [e]; exact hno
      · exact fun hs' => h2 k e (List.mem_cons_of_mem _ hs')
theorem right_nodup {f : Key → Option Chn} {rev : Int} {l : List ChT} (h : rightB f rev l = true) : (keysL l).Nodup := by
  unfold rightB at h
  rw [Bool.and_eq_true, Bool.and_eq_true] at h
  have h2 := of_decide_eq_true h.2.2
  exact (seen_nodup_aux l [] List.nodup_nil (by simpa [seenL] using h2)).1
theorem may_right {f : Key → Option Chn} {l0 l9 rev ks vs : Int} {l : List ChT} (h : mayE f l0 l9 rev ks vs l = 0) : rightB f rev l = true := by
  cases hb : rightB f rev l with
  | true => rfl
  | false => unfold mayE at h; rw [if_pos hb] at h; cases h
/-- Commit's loop -/
def CmI (c N : Nat) (mb : Option Nat) (f : Key → Option Chn) (l0 l9 rev fl ks vs : Int) (od : Value) (K : List Key) (l : List ChT) (W wr : World) (j : Nat) : Prop :=
  ∃ mb' f' od', IsMv 0 c (N + j) mb' f' l0 l9 rev fl ks vs od' wr ∧ Fr (Ow c mb f) W wr ∧ (∀ k, Ow c mb' f' k → Ow c mb f k ∨ W.heap.size ≤ k) ∧ (∀ k, vrs f' k = vrs f k ++ cmV rev (l.take j) k) ∧ (∃ K', Dm f' K' ∧ K'.length ≤ K.length + j) ∧ (∀ k, (f' k).isSome = (decide (k ∈ keysL (l.take j)) || (f k).isSome)) ∧ (od' = od ∧ (∀ k, (f' k).isSome = (f k).isSome) ∨ od' = .slice none 0 0)
theorem dm_add {f f' : Key → Option Chn} {K : List Key} {key : Key} (h : Dm f K) (hs : ∀ j, (f' j).isSome = (decide (j = key) || (f j).isSome)) : ∃ K', Dm f' K' ∧ K'.length ≤ K.length + 1 := by
  refine ⟨K.insert key, ⟨?_, fun k => ?_⟩, ?_⟩
  · by_cases hk : key ∈ K
    · rw [List.insert_of_mem hk]; exact h.1
    · rw [List.insert_of_not_mem hk]; exact List.nodup_cons.2 ⟨hk, h.1⟩
  · rw [hs, h.2]
    by_cases hk : k = key
    · simp [hk]
    · by_cases hm : k ∈ K <;> simp [hk, hm, List.mem_insert_iff]
  · by_cases hk : key ∈ K
    · rw [List.insert_of_mem hk]; omega
    · rw [List.insert_of_not_mem hk]; simp
theorem CmI.step {c N : Nat} {mb : Option Nat} {f : Key → Option Chn} {l0 l9 rev fl ks vs : Int} {od : Value} {K : List Key} {l : List ChT} {W wr : World} {j : Nat} (h : CmI c N mb f l0 l9 rev fl ks vs od K l W wr j) (hj : j < l.length) (hnd : (keysL l).Nodup) (hlt : ∀ k, ∀ x ∈ vrs f k, x.1 < rev) (hN : N + j ≤ 1000) (hKl : K.length + j ≤ 100000) (hk : l[j].1.size ≤ maxLen) (hr : 1 ≤ rev ∧ rev ≤ 1000000) {V : World} (hV : Below wr.heap.size wr V) :
    Calls Try.prog 36 #[.pointer (some ⟨c, 0, none⟩), .agg #[.string l[j].1, .string l[j].2.1, .bool l[j].2.2]] V fun e w' => e = .returned (.tuple #[]) ∧ CmI c N mb f l0 l9 rev fl ks vs od K l W w' (j + 1) := by
  obtain ⟨mb1, f1, od1, h1, h2, h3, h4, ⟨K1, h5, h5'⟩, h6, h7⟩ := h
  have hno : l[j].1.data.toList ∉ keysL (l.take j) := by
    intro hm
    have h8 := hnd
    rw [show l = l.take (j + 1) ++ l.drop (j + 1) from (List.take_append_drop _ _).symm] at h8
    unfold keysL at h8
    rw [List.map_append] at h8
    have h9 := (List.nodup_append.1 h8).1
    have h10 : (keysL (l.take (j + 1))).Nodup := h9
    rw [keys_snoc hj] at h10
    exact (List.nodup_append.1 h10).2.2 _ hm _ (List.mem_singleton.2 rfl) rfl
  have hl' : ∀ x ∈ vrs f1 l[j].1.data.toList, x.1 < rev := fun x hx => by
    rw [h4, cmV_no hno, List.append_nil] at hx
    exact hlt _ x hx
  refine (put_c (h1.go hV) hN h5 (by omega) hk l[j].2.1 l[j].2.2 hr hl').mono ?_
  rintro e w' ⟨rfl, mb2, f2, od2, g1, g2, g3, g4, g5, g6⟩
  have hfw : Fr (Ow c mb1 f1) wr w' := (Fr.below hV).trans g2 (fun k hk => .inl hk)
  refine ⟨rfl, mb2, f2, od2, by rw [← Nat.add_assoc]; exact g1, h2.trans hfw h3, fun k hk => ?_, fun k => ?_, ?_, fun k => ?_, ?_⟩
  · rcases g3 k hk with e | e
    · exact h3 k e
    · have := h2.size; have := hV.size; exact .inr (by omega)
  · rw [g4, cmV_snoc hj, h4]
    by_cases hk : k = l[j].1.data.toList
    · rw [if_pos hk, if_pos hk, List.append_assoc]
    · rw [if_neg hk, if_neg hk]
  · obtain ⟨K2, e1, e2⟩ := dm_add h5 g5
    exact ⟨K2, e1, by omega⟩
  · rw [g5, h6, keys_snoc hj]
    by_cases hk : k = l[j].1.data.toList
    · simp [hk]
    · by_cases hm : k ∈ keysL (l.take j) <;> simp [hk, hm]
  · rcases g6 with ⟨e1, e2⟩ | e1
    · rcases h7 with ⟨e3, e4⟩ | e3
      · refine .inl ⟨e1.trans e3, fun k => ?_⟩
        rw [g5, e4]
        by_cases hk : k = l[j].1.data.toList
        · subst hk
          rw [e4] at e2
          rw [e2]; simp
        · simp [hk]
      · exact .inr (e1.trans e3)
    · exact .inr e1
/-- Commit: refused -/
def CmQ (c N : Nat) (mb : Option Nat) (f : Key → Option Chn) (l0 l9 rev fl ks vs : Int) (od : Value) (K : List Key) (l : List ChT) (w : World) (e : Ending) (w' : World) : Prop :=
  (mayE f l0 l9 rev ks vs l ≠ 0 ∧ e = .returned (.tuple #[.int .i64 0, .int .i64 (mayE f l0 l9 rev ks vs l)]) ∧ Below w.heap.size w w') ∨
  (mayE f l0 l9 rev ks vs l = 0 ∧ e = .returned (.tuple #[.int .i64 (rev + 1), .int .i64 0]) ∧ CmI c N mb f l0 l9 (rev + 1) fl (kwL f rev ks l) (vs + l.length) od K l w w' l.length)
theorem set5o {w : World} {c : Nat} {l0 l9 rev fl ks vs : Int} {mp od : Value} (h : w.heap[c]? = some (obN l0 l9 rev fl mp ks vs od)) (u : Int) : (w.setCell ⟨c, 5, none⟩ (.int .i64 u)).heap[c]? = some (obN l0 l9 rev fl mp u vs od) := by
  have := Cn.blk_set h 5 (.int .i64 u); simpa using this
theorem set6o {w : World} {c : Nat} {l0 l9 rev fl ks vs : Int} {mp od : Value} (h : w.heap[c]? = some (obN l0 l9 rev fl mp ks vs od)) (u : Int) : (w.setCell ⟨c, 6, none⟩ (.int .i64 u)).heap[c]? = some (obN l0 l9 rev fl mp ks u od) := by
  have := Cn.blk_set h 6 (.int .i64 u); simpa using this
theorem set2o {w : World} {c : Nat} {l0 l9 rev fl ks vs : Int} {mp od : Value} (h : w.heap[c]? = some (obN l0 l9 rev fl mp ks vs od)) (u : Int) : (w.setCell ⟨c, 2, none⟩ (.int .i64 u)).heap[c]? = some (obN l0 l9 u fl mp ks vs od) := by
  have := Cn.blk_set h 2 (.int .i64 u); simpa using this
theorem set3o {w : World} {c : Nat} {l0 l9 rev fl ks vs : Int} {mp od : Value} (h : w.heap[c]? = some (obN l0 l9 rev fl mp ks vs od)) (u : Int) : (w.setCell ⟨c, 3, none⟩ (.int .i64 u)).heap[c]? = some (obN l0 l9 rev u mp ks vs od) := by
  have := Cn.blk_set h 3 (.int .i64 u); simpa using this
/-- the store's own cells changed -/
theorem IsMv.cells {B c N : Nat} {mb : Option Nat} {f : Key → Option Chn} {l0 l9 rev fl ks vs rev' fl' ks' vs' : Int} {od od' : Value} {w V : World} (h : IsMv B c N mb f l0 l9 rev fl ks vs od w) (hs : V.heap[c]? = some (obN l0 l9 rev' fl' (.map mb) ks' vs' od')) (ho : ∀ k, k < w.heap.size → k ≠ c → V.heap[k]? = w.heap[k]?) : IsMv B c N mb f l0 l9 rev' fl' ks' vs' od' V := by
  refine ⟨hs, ?_, h.fm.keep (fun k h1 h2 _ => ho k h1 h2), h.lo⟩
  rcases h.mp with h1 | ⟨b, h1, h2, h3, h4⟩
  · exact .inl h1
  · exact .inr ⟨b, h1, h2, h3, h4.keep (ho b h4.lt h3)⟩
theorem RdC.fr {ao : Option Addr} {n cap : Nat} {l : List ChT} {w W : World} {E : Nat → Prop} (h : RdC (.slice ao n cap) l w) (hf : Fr E w W) (hE : ∀ g, ao = some ⟨g, 0, none⟩ → ¬ E g) : RdC (.slice ao n cap) l W := by
  obtain ⟨ao', cp, e, hh⟩ := h
  injection e with e1 e2 e3
  subst e1 e2 e3
  refine ⟨ao, cap, rfl, fun h0 => ?_⟩
  obtain ⟨g, rfl, hg, hc⟩ := hh h0
  have hq := hf.block g hg (hE g rfl)
  refine ⟨g, rfl, Nat.lt_of_lt_of_le hg hf.size, fun i hi => ?_⟩
  obtain ⟨h1, h2, h3⟩ := hc i hi
  exact ⟨by rw [World.cell?_of_block hq]; exact h1, by rw [World.cell?_of_block hq]; exact h2, by rw [World.cell?_of_block hq]; exact h3⟩
set_option maxRecDepth 100000 in
set_option maxHeartbeats 8000000 in
theorem Commit_c {c N : Nat} {mb : Option Nat} {f : Key → Option Chn} {l0 l9 rev fl ks vs : Int} {od : Value} {w : World} (h : IsMv 0 c N mb f l0 l9 rev fl ks vs od w) {K : List Key} (hK : Dm f K) (ao : Option Addr) (cap : Nat) (l : List ChT) (hl : RdC (.slice ao l.length cap) l w) (hao : ∀ g, ao = some ⟨g, 0, none⟩ → ¬ Ow c mb f g) (hm : l.length ≤ 100) (hN : N + l.length ≤ 1000) (hKl : K.length + l.length ≤ 100000) (hkk : ∀ x ∈ l, x.1.size ≤ maxLen) (hks : -100000 ≤ ks ∧ ks ≤ 100000) (hvs : -100000 ≤ vs ∧ vs ≤ 100000) (hrev : 0 ≤ rev ∧ rev ≤ 100000) (hlt : ∀ k, ∀ x ∈ vrs f k, x.1 ≤ rev) :
    Calls Try.prog 21 #[.pointer (some ⟨c, 0, none⟩), .slice ao l.length cap] w (CmQ c N mb f l0 l9 rev fl ks vs od K l w) := by
  have hcl : c < w.heap.size := (Array.getElem?_eq_some_iff.1 h.hs).1
  have HKW : Hid (∀ V, Below w.heap.size w V → Calls Try.prog 35 #[.pointer (some ⟨c, 0, none⟩), .slice ao l.length cap] V fun e w' => e = .returned (.int .i64 (kwL f rev ks l)) ∧ Below V.heap.size V w') := fun V hV =>
    keysWith_c (h.go hV) (by omega) ao cap l (hl.go hV) (by omega) ⟨by omega, by omega⟩ hkk
  have HMY := Lib.hid (May_c h (by omega) ao cap l hl (by omega) hkk ⟨by omega, by omega⟩ ⟨by omega, by omega⟩ (by omega))
  by_cases hme : mayE f l0 l9 rev ks vs l = 0
  case neg =>
    have hmz : (mayE f l0 l9 rev ks vs l == 0) = false := by simpa using hme
    have HME := Lib.hid hme
    have HGO : Calls Try.prog 21 #[.pointer (some ⟨c, 0, none⟩), .slice ao l.length cap] w fun e w' => e = .returned (.tuple #[.int .i64 0, .int .i64 (mayE f l0 l9 rev ks vs l)]) ∧ Below w.heap.size w w' := by
      generalize mayE f l0 l9 rev ks vs l = z at *
      obtain ⟨n, hn⟩ : ∃ n, n = l.length := ⟨_, rfl⟩
      rw [← hn] at HMY ⊢
      clear h hl hao hlt hkk hks hvs hrev hn hm hN hKl HKW hK hme
      go_enter Try.func21, Try.ntmps21
      go_wp2_with (go_at_call 20; (with_reducible refine HMY.out.mono ?_); rintro e w1 ⟨rfl, hb1⟩; have HB1 := Lib.hid hb1; clear hb1)
      exact bodyPost_ret (v := .tuple #[.int .i64 0, .int .i64 z]) (by simp [results, Try.results21, go_sem]) rfl ⟨rfl, HB1.out⟩
    exact HGO.mono (fun e w' ⟨h1, h2⟩ => .inl ⟨HME.out, h1, h2⟩)
  case pos =>
    have HGO : Calls Try.prog 21 #[.pointer (some ⟨c, 0, none⟩), .slice ao l.length cap] w fun e w' => e = .returned (.tuple #[.int .i64 (rev + 1), .int .i64 0]) ∧ CmI c N mb f l0 l9 (rev + 1) fl (kwL f rev ks l) (vs + l.length) od K l w w' l.length := by
      rw [hme] at HMY
      have HND := Lib.hid (right_nodup (may_right hme))
      have hq1 : IntKind.i64.wrap (vs + (l.length : Nat)) = vs + (l.length : Nat) := by rw [IntKind.wrap_i64]; omega
      have hq2 : IntKind.i64.wrap (rev + 1) = rev + 1 := by rw [IntKind.wrap_i64]; omega
      have HO := Lib.hid h
      have HA := Lib.hid hl
      have HAO := Lib.hid hao
      have HLT : Hid (∀ k, ∀ x ∈ vrs f k, x.1 < rev + 1) := fun k x hx => by have := hlt k x hx; omega
      have HKK := Lib.hid hkk
      have HK := Lib.hid hK
      have HNN : Hid (N + l.length ≤ 1000 ∧ K.length + l.length ≤ 100000 ∧ 1 ≤ rev + 1 ∧ rev + 1 ≤ 1000000) := ⟨hN, hKl, by omega, by omega⟩
      have HKI : Hid (∀ (W wr V : World) (j : Nat) (hj : j < l.length), CmI c N mb f l0 l9 (rev + 1) fl (kwL f rev ks l) (vs + l.length) od K l W wr j → Below wr.heap.size wr V → Calls Try.prog 36 #[.pointer (some ⟨c, 0, none⟩), .agg #[.string l[j].1, .string l[j].2.1, .bool l[j].2.2]] V fun e w' => e = .returned (.tuple #[]) ∧ CmI c N mb f l0 l9 (rev + 1) fl (kwL f rev ks l) (vs + l.length) od K l W w' (j + 1)) :=
        fun W wr V j hj hi hV => hi.step hj HND.out HLT.out (by have := HNN.out.1; omega) (by have := HNN.out.2.1; omega) (HKK.out _ (List.getElem_mem hj)) HNN.out.2.2 hV
      generalize kwL f rev ks l = r at *
      obtain ⟨n, hn⟩ : ∃ n, n = l.length := ⟨_, rfl⟩
      have HLN : Hid (l.length = n) := hn.symm
      rw [← hn] at HKW HMY HA hq1 hm ⊢
      clear h hl hao hlt hkk hks hvs hrev hn hN hKl hK hme
      go_enter Try.func21, Try.ntmps21
      go_upto_region 2 with (go_at_call 20; (with_reducible refine HMY.out.mono ?_); rintro e w1 ⟨rfl, hb1⟩; have HB1 := Lib.hid hb1; clear hb1)
      have H1 := Lib.hid (HO.out.go HB1.out)
      have HKX := Lib.hid (HKW.out w1 HB1.out)
      obtain ⟨c0, c1, c2, c3, c4, c5, c6, c7⟩ := cells8 H1.out.hs
      go_upto_region 4 with (fail)
      clear c0 c1 c2 c3 c4 c5 c6 c7
      go_upto_region 5 with (go_at_call 35; (with_reducible refine HKX.out.mono ?_); rintro e w2 ⟨rfl, hb2⟩; have HB2 := Lib.hid (btr HB1.out hb2); have H2 := Lib.hid (H1.out.go hb2); obtain ⟨c0, c1, c2, c3, c4, c5, c6, c7⟩ := cells8 H2.out.hs; have f5 := frz H2.out.hs 5; clear hb2)
      clear c0 c1 c2 c3 c4 c5 c6 c7 f5
      obtain ⟨W3, hW3⟩ : ∃ W3, W3 = w2.setCell ⟨c, 5, none⟩ (.int .i64 r) := ⟨_, rfl⟩
      have HS3 : Hid (W3.heap[c]? = some (obN l0 l9 rev fl (.map mb) r vs od)) := by rw [hW3]; exact set5o H2.out.hs r
      have HW3 := Lib.hid hW3
      rw [← hW3]
      clear hW3
      obtain ⟨c0, c1, c2, c3, c4, c5, c6, c7⟩ := cells8 HS3.out
      have f6 := frz HS3.out 6
      go_upto_region 6 with (fail)
      clear c0 c1 c2 c3 c4 c5 c6 c7 f6
      obtain ⟨W4, hW4⟩ : ∃ W4, W4 = W3.setCell ⟨c, 6, none⟩ (.int .i64 (vs + n)) := ⟨_, rfl⟩
      have HS4 : Hid (W4.heap[c]? = some (obN l0 l9 rev fl (.map mb) r (vs + n) od)) := by rw [hW4]; exact set6o HS3.out (vs + n)
      have HW4 := Lib.hid hW4
      rw [← hW4]
      clear hW4
      obtain ⟨c0, c1, c2, c3, c4, c5, c6, c7⟩ := cells8 HS4.out
      have f2 := frz HS4.out 2
      go_upto_region 7 with (fail)
      clear c0 c1 c2 c3 c4 c5 c6 c7 f2
      obtain ⟨W5, hW5⟩ : ∃ W5, W5 = W4.setCell ⟨c, 2, none⟩ (.int .i64 (rev + 1)) := ⟨_, rfl⟩
      have HS5 : Hid (W5.heap[c]? = some (obN l0 l9 (rev + 1) fl (.map mb) r (vs + n) od)) := by rw [hW5]; exact set2o HS4.out (rev + 1)
      have hz5 : W5.heap.size = w2.heap.size := by rw [hW5, HW4.out, HW3.out]; simp [World.setCell]
      have o5 : ∀ k, k ≠ c → W5.heap[k]? = w2.heap[k]? := fun k hk => by
        rw [hW5, set_oth _ _ _ _ hk, HW4.out, set_oth _ _ _ _ hk, HW3.out, set_oth _ _ _ _ hk]
      have HF5 : Hid (Fr (Ow c mb f) w W5) := by
        have h2 : Fr (Ow c mb f) w w2 := Fr.below HB2.out
        rw [hW5, HW4.out, HW3.out]
        exact Lib.hid (((h2.set _ (.inl rfl)).set _ (.inl rfl)).set _ (.inl rfl))
      have H5 : Hid (IsMv 0 c N mb f l0 l9 (rev + 1) fl r (vs + n) od W5) := H2.out.cells HS5.out (fun k _ hk => o5 k hk)
      have HI5 : Hid (CmI c N mb f l0 l9 (rev + 1) fl r (vs + l.length) od K l w W5 0) := by
        refine ⟨mb, f, od, by rw [HLN.out]; exact H5.out, HF5.out, fun k hk => .inl hk, fun k => by simp [cmV], ⟨K, HK.out, by omega⟩, fun k => by simp [keysL], .inl ⟨rfl, fun _ => rfl⟩⟩
      rw [← hW5]
      clear hW5 HW3 HW4 o5 hz5
      go_wp2
      go_loopw [39] (fun iv wr => ∃ j : Nat, j ≤ n ∧ iv = .int .i64 (j : Int) ∧ Hid (CmI c N mb f l0 l9 (rev + 1) fl r (vs + l.length) od K l w wr j)) (fun iv _ => n - (intOf iv).toNat)
      case atStart => exact ⟨0, by omega, rfl, HI5⟩
      case round =>
        obtain ⟨j, hj, rfl, HI⟩ := hrel
        by_cases hlt : j < n
        · have HX := Lib.hid (show j < l.length by rw [HLN.out]; exact hlt)
          have HAR : Hid (RdC (.slice ao n cap) l wr) := by
            obtain ⟨_, _, _, _, g2, _⟩ := HI.out
            exact RdC.fr HA.out g2 HAO.out
          obtain ⟨g, rfl, hg, hat⟩ := rdc_at HAR.out (by have := HX.out; omega)
          obtain ⟨a0, a1, a2⟩ := hat j HX.out
          have hj0 : (0 : Int) ≤ (j : Int) := by omega
          have hjl : (j : Int) < (n : Int) := by omega
          obtain ⟨W7, hW7, hk7, hb7⟩ := Cn.new3 wr (.string (l[j]'HX.out).1) (.string (l[j]'HX.out).2.1) (.bool (l[j]'HX.out).2.2) 80
          have HPP := Lib.hid (HKI.out w wr W7 j HX.out HI.out hb7)
          have HW7 := Lib.hid hW7
          obtain ⟨x0, x1, x2⟩ := Cn.cells3 hk7
          clear hW7 hk7 hb7 hat hg
          generalize (l[j]'HX.out).1 = kx at *
          generalize (l[j]'HX.out).2.1 = vx at *
          generalize (l[j]'HX.out).2.2 = gx at *
          go_upto_region 10 with (fail)
          rw [← HW7.out]
          go_wp2_with (go_at_call 36; (with_reducible refine HPP.out.mono ?_); rintro e w8 ⟨rfl, hq8⟩; have HQ8 := Lib.hid hq8; clear hq8)
          go_roundw
          case rel => exact ⟨j + 1, by omega, by go_num, HQ8⟩
          case measure => simp [intOf]; omega
        · obtain rfl : j = n := by omega
          have hjl : ¬ (j : Int) < (j : Int) := by omega
          obtain ⟨mb', f', od', g1, _⟩ := HI.out
          obtain ⟨c0, c1, c2, c3, c4, c5, c6, c7⟩ := cells8 g1.hs
          have HLJ := HLN
          clear g1 HLN
          go_wp2
          refine bodyPost_ret (v := .tuple #[.int .i64 (rev + 1), .int .i64 0]) (by simp [results, Try.results21, go_sem]) rfl ⟨rfl, ?_⟩
          have := HI.out
          rw [HLJ.out] at this
          exact this
    exact HGO.mono (fun e w' ⟨h1, h2⟩ => .inr ⟨hme, h1, h2⟩)
end Go.Proofs.Ytjceofkcahfhmaa.Mv
