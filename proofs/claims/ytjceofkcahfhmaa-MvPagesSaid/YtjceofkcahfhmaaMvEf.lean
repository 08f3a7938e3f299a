/- Both stores in one world: what a call leaves; no walk. -/
import Derived.Test.YtjceofkcahfhmaaMvEa
import Derived.Test.YtjceofkcahfhmaaMvEe
namespace Go.Proofs.Ytjceofkcahfhmaa.Mv
open Go.RowKit Go.Lib Go.Maps Go.Shelf Go.Sort
open Go.Proofs.Ytjceofkcahfhmaa.Cn
set_option linter.unusedSimpArgs false
set_option linter.unusedVariables false

theorem IsR.cut2 {F G : Nat → Prop} {r : Nat} {A : List (List ItT)} {kl vl fl : Int} {Ns : List Key} {Cs : List (List Ver)} {w : World} (h : IsR F G r A kl vl fl Ns Cs w) : IsR (fun k => F k ∧ k < w.heap.size) (fun k => G k ∧ k < w.heap.size) r A kl vl fl Ns Cs w := by
  obtain ⟨⟨vA, vN, vC, cs, h1, h2, h3, h4, h5, h6, h7, h8⟩, h9, h10⟩ := h.cut
  exact ⟨⟨vA, vN, vC, cs, h1, h2, h3, fun g e => ⟨⟨(h4 g e).1, (h3.lt g e).2⟩, (h4 g e).2⟩, h5, fun g e => ⟨⟨(h6 g e).1, (h5.lt g e).2⟩, (h6 g e).2⟩, h7, h8⟩, ⟨⟨h9.1, (Array.getElem?_eq_some_iff.1 h1).1⟩, h9.2⟩, fun k hk => ⟨h10 k hk, hk.2⟩⟩
theorem owd_lt {c N : Nat} {mb : Option Nat} {f : Key → Option Chn} {l0 l9 rev fl ks vs : Int} {od : Value} {K : List Key} {w : World} (h : IsMv 0 c N mb f l0 l9 rev fl ks vs od w) (ho : OdOk c mb f K od w) {k : Nat} (hk : Owd c mb f od k) : k < w.heap.size := by
  rcases hk with hk | ⟨n, cap, e⟩
  · exact h.own hk
  · rcases ho with e2 | ⟨g, cp, e2, _, hg, _⟩
    · rw [e2] at e; injection e with e; cases e
    · rw [e2] at e; injection e with e; injection e with e; injection e with e; omega
/-- both stores, their blocks apart -/
structure Jw (Z : Nat → Prop) (c r : Nat) (l0 l9 : Int) (X : Sx) (N : Nat) (mb : Option Nat) (od : Value) (F G : Nat → Prop) (w : World) : Prop where
  is : IsMv 0 c N mb X.f l0 l9 X.rev X.fl X.ks X.vs od w
  ok : OdOk c mb X.f X.K od w
  rf : IsR F G r X.A (max l0 1) (max l9 1) X.fl X.Ns X.Cs w
  fb : ∀ k, F k → k < w.heap.size
  gs : ∀ k, G k → k < w.heap.size ∧ ¬ Owd c mb X.f od k
  lo : ∀ k, Owd c mb X.f od k ∨ G k → ¬ Z k
def Jn (Z : Nat → Prop) (c r : Nat) (l0 l9 : Int) (n : Nat) (X : Sx) (w : World) : Prop := Pln n X ∧ ∃ N mb od F G, N ≤ 6 * n ∧ Jw Z c r l0 l9 X N mb od F G w
/-- a later stand -/
def Grw (X X' : Sx) : Prop := X.fl ≤ X'.fl ∧ ∃ t, X'.A = X.A ++ t
theorem Grw.refl (X : Sx) : Grw X X := ⟨Int.le_refl _, [], by simp⟩
theorem Grw.trans {X Y Z : Sx} (h : Grw X Y) (k : Grw Y Z) : Grw X Z := by
  obtain ⟨h1, t, h2⟩ := h
  obtain ⟨k1, s, k2⟩ := k
  exact ⟨Int.le_trans h1 k1, t ++ s, by rw [k2, h2, List.append_assoc]⟩
theorem Jw.go {Z : Nat → Prop} {c r : Nat} {l0 l9 : Int} {X : Sx} {N : Nat} {mb : Option Nat} {od : Value} {F G : Nat → Prop} {w V : World} (h : Jw Z c r l0 l9 X N mb od F G w) (hb : Below w.heap.size w V) : Jw Z c r l0 l9 X N mb od F G V :=
  ⟨h.is.go hb, h.ok.keep (Fr.below (E := fun _ => False) hb) (fun g hg e => e), h.rf.go hb, fun k hk => Nat.lt_of_lt_of_le (h.fb k hk) hb.size, fun k hk => ⟨Nat.lt_of_lt_of_le (h.gs k hk).1 hb.size, (h.gs k hk).2⟩, h.lo⟩
theorem Jn.go {Z : Nat → Prop} {c r n : Nat} {l0 l9 : Int} {X : Sx} {w V : World} (h : Jn Z c r l0 l9 n X w) (hb : Below w.heap.size w V) : Jn Z c r l0 l9 n X V := by
  obtain ⟨hp, N, mb, od, F, G, hN, hJ⟩ := h
  exact ⟨hp, N, mb, od, F, G, hN, hJ.go hb⟩
theorem Jn.up {Z : Nat → Prop} {c r n : Nat} {l0 l9 : Int} {X : Sx} {w : World} (h : Jn Z c r l0 l9 n X w) : Jn Z c r l0 l9 (n + 1) X w := by
  obtain ⟨hp, N, mb, od, F, G, hN, hJ⟩ := h
  exact ⟨hp.up, N, mb, od, F, G, by omega, hJ⟩
theorem Jw.join {Z : Nat → Prop} {c r : Nat} {l0 l9 : Int} {X : Sx} {N : Nat} {mb : Option Nat} {od : Value} {F G : Nat → Prop} {w w1 w2 : World} (h : Jw Z c r l0 l9 X N mb od F G w) (X' : Sx) {N' : Nat} {mb' : Option Nat} {od' : Value} {F' : Nat → Prop}
    (i1 : IsMv 0 c N' mb' X'.f l0 l9 X'.rev X'.fl X'.ks X'.vs od' w1) (o1 : OdOk c mb' X'.f X'.K od' w1) (f1 : Fr (Owd c mb X.f od) w w1) (ow : ∀ k, Ow c mb' X'.f k → Ow c mb X.f k ∨ w.heap.size ≤ k) (oo : ∀ k n cap, od' = .slice (some ⟨k, 0, none⟩) n cap → od = od' ∨ w.heap.size ≤ k)
    (r2 : IsR F' (Fx G w1.heap.size) r X'.A (max l0 1) (max l9 1) X'.fl X'.Ns X'.Cs w2) (f2 : Fr G w1 w2) (hZ : ∀ k, Z k → k < w.heap.size) :
    Jw Z c r l0 l9 X' N' mb' od' (fun k => F' k ∧ k < w2.heap.size) (fun k => Fx G w1.heap.size k ∧ k < w2.heap.size) w2 ∧ Fr (fun k => ¬ Z k) w w2 := by
  have how : ∀ k, Owd c mb' X'.f od' k → Owd c mb X.f od k ∨ w.heap.size ≤ k := fun k hk => by
    rcases hk with hk | ⟨n, cap, e⟩
    · exact (ow k hk).imp .inl id
    · exact (oo k n cap e).imp (fun e2 => .inr ⟨n, cap, e2.trans e⟩) id
  have hG : ∀ k, G k → ¬ Owd c mb' X'.f od' k := fun k hk ho => (how k ho).elim (h.gs k hk).2 (fun e => by have := (h.gs k hk).1; omega)
  have hz := f1.size
  refine ⟨⟨i1.fr f2 (fun k hk hg => hG k hg (.inl hk)), o1.keep f2 (fun g hg hk => hG g hk hg), r2.cut2, fun k hk => hk.2, fun k hk => ⟨hk.2, fun ho => ?_⟩, fun k hk => ?_⟩, ⟨f2.os.trans f1.os, f2.tape.trans f1.tape, f2.output.trans f1.output, Nat.le_trans f1.size f2.size, fun k hk hn => ?_⟩⟩
  · rcases hk.1 with hg | hg
    · exact hG k hg ho
    · have := owd_lt i1 o1 ho; omega
  · rcases hk with hk | hk
    · rcases how k hk with e | e
      · exact h.lo k (.inl e)
      · exact fun z => by have := hZ k z; omega
    · rcases hk.1 with e | e
      · exact h.lo k (.inr e)
      · exact fun z => by have := hZ k z; omega
  · have z := Classical.not_not.1 hn
    have h1 : ¬ Owd c mb X.f od k := fun e => h.lo k (.inl e) z
    have h2 : ¬ G k := fun e => h.lo k (.inr e) z
    exact (f2.block k (by omega) h2).trans (f1.block k hk h1)
/-- both at their start -/
theorem Jn.new {Z : Nat → Prop} {c g : Nat} {k v : Int} {w w1 w2 : World} (h1 : w1.heap[c]? = some (obN k v 0 0 (.map none) 0 0 (.slice none 0 0))) (hZ : ∀ k, Z k → k < c) (hcg : c < g) (hbg : Below w1.heap.size w1 w2) (hgw : w1.heap.size ≤ g) (h2 : w2.heap[g]? = some (.cells #[.slice none 0 0] 40 (0, 0))) (h3 : w2.heap[g + 1]? = some (.cells #[.slice (some ⟨g, 0, none⟩) 1 1, .int .i64 (max k 1), .int .i64 (max v 1), .int .i64 0, .slice none 0 0, .slice none 0 0] 38 (0, 0))) : Jn Z c (g + 1) k v 0 X0 w2 := by
  have hO : ∀ j, Owd c none X0.f (.slice none 0 0) j → j = c := fun j hj => by
    rcases hj with (e | e | ⟨x, y, e, _⟩) | ⟨_, _, e⟩
    · exact e
    · cases e
    · cases e
    · injection e with e; cases e
  have hg1 := (Array.getElem?_eq_some_iff.1 h2).1
  have hg2 := (Array.getElem?_eq_some_iff.1 h3).1
  refine ⟨Pln.new, 0, none, .slice none 0 0, fun j => j = g, fun j => j = g ∨ j = g + 1, Nat.le_refl _, ⟨(mv_new h1).go hbg, .inl rfl, isr_new h2 h3, fun j hj => by omega, fun j hj => ⟨by omega, fun ho => ?_⟩, fun j hj => ?_⟩⟩
  · have := hO j ho; omega
  · rcases hj with hj | hj
    · have := hO j hj; exact fun z => by have := hZ j z; omega
    · exact fun z => by have := hZ j z; omega
theorem Jn.le {Z : Nat → Prop} {c r n m : Nat} {l0 l9 : Int} {X : Sx} {w : World} (h : Jn Z c r l0 l9 n X w) (hm : n ≤ m) : Jn Z c r l0 l9 m X w := by
  induction hm with
  | refl => exact h
  | step _ ih => exact ih.up
theorem Pln.refA {n : Nat} {X : Sx} (h : Pln n X) (hn : n ≤ 40) : X.A.length ≤ 41 := by have := h.len; have := h.b1; omega
end Go.Proofs.Ytjceofkcahfhmaa.Mv
