/- Contracts and plain mathematics of some packages' functions, laid together; conditions as each one says. -/
import Derived.Test.YtpgllcdcpdeicaaGreatDoorJvGv
import Derived.Test.YtpgllcdcpdeicaaGreatDoorJtAll
import Derived.Deep.QuietTactic
import Derived.BigQuiet
import Derived.RegionTactic
import Derived.Deep.RegionHeld3
import Derived.ChangeAlike
namespace Go.Proofs.YtpgllcdcpdeicaaGreatDoor.Jv
open Jt
open Go.RowKit
set_option linter.unusedSimpArgs false
set_option linter.unusedVariables false

/-- a reader at block b: its text, where it stands -/
def Rd (b : Nat) (s : ByteArray) (a : Nat) (w : World) : Prop := w.heap[b]? = some (.cells #[.string s, .int .i64 (a : Int)] 39)
/-- what lies while the next token is asked for: the tables, the token's own block behind what there was -/
def tk0 : Obj := .cells #[.int .i64 0, .int .i64 0, .int .i64 0, .string ⟨#[]⟩, .int .i64 0] 60
def NxE (w W : World) : Prop := Below (w.heap.size + 1) (w.alloc tk0) W
theorem nxe_0 (w : World) : NxE w (w.alloc (.cells #[.int .i64 0, .int .i64 0, .int .i64 0, .string ⟨#[]⟩, .int .i64 0] 60)).drew := (Below.refl _ _).drew
theorem NxE.below {w W : World} (h : NxE w W) : Below w.heap.size w W := ((Below.refl _ _).alloc (Nat.le_refl _) _).trans (Below.mono h (by omega))
theorem NxE.env {w W : World} (h : NxE w W) (hE : Env w) : Env W := hE.go h.below
theorem NxE.lt {w W : World} (h : NxE w W) : w.heap.size + 1 ≤ W.heap.size := by have := Below.size h; simpa using this
theorem NxE.go {w W W' : World} (h : NxE w W) (hb : Below W.heap.size W W') : NxE w W' := Below.trans h (hb.mono h.lt)
theorem NxE.alloc {w W : World} (h : NxE w W) (o : Obj) : NxE w (W.alloc o) := Below.alloc h h.lt o
theorem NxE.setCell {w W : World} (h : NxE w W) {p : Addr} (hp : w.heap.size + 1 ≤ p.block) (v : Value) : NxE w (W.setCell p v) := Below.setCell h hp v
theorem NxE.drew {w W : World} (h : NxE w W) : NxE w W.drew := Below.drew h
theorem NxE.refl (w : World) : NxE w (w.alloc (.cells #[.int .i64 0, .int .i64 0, .int .i64 0, .string ⟨#[]⟩, .int .i64 0] 60)) := Below.refl _ _
theorem NxE.blk {w W : World} (h : NxE w W) : W.heap[w.heap.size]? = some (.cells #[.int .i64 0, .int .i64 0, .int .i64 0, .string ⟨#[]⟩, .int .i64 0] 60) := (Below.block h _ (Nat.lt_succ_self _)).trans (heap_alloc_new _ _)

theorem two_new (w : World) : ((w.alloc (.cells #[.int .i64 0, .int .i64 0, .int .i64 0, .string ⟨#[]⟩, .int .i64 0] 60)).alloc (.cells #[.int .i64 0, .int .i64 0, .int .i64 0, .string ⟨#[]⟩, .int .i64 0] 60)).drew.heap[w.heap.size + 1]? = some (.cells #[.int .i64 0, .int .i64 0, .int .i64 0, .string ⟨#[]⟩, .int .i64 0] 60) := by
  have h := heap_alloc_new (w.alloc (.cells #[.int .i64 0, .int .i64 0, .int .i64 0, .string ⟨#[]⟩, .int .i64 0] 60)) (.cells #[.int .i64 0, .int .i64 0, .int .i64 0, .string ⟨#[]⟩, .int .i64 0] 60)
  have e : (w.alloc (.cells #[.int .i64 0, .int .i64 0, .int .i64 0, .string ⟨#[]⟩, .int .i64 0] 60)).heap.size = w.heap.size + 1 := by simp
  rw [e] at h
  exact h
theorem two_kept {w w3 : World} (hb : Below (((w.alloc (.cells #[.int .i64 0, .int .i64 0, .int .i64 0, .string ⟨#[]⟩, .int .i64 0] 60)).alloc (.cells #[.int .i64 0, .int .i64 0, .int .i64 0, .string ⟨#[]⟩, .int .i64 0] 60)).drew).heap.size (((w.alloc (.cells #[.int .i64 0, .int .i64 0, .int .i64 0, .string ⟨#[]⟩, .int .i64 0] 60)).alloc (.cells #[.int .i64 0, .int .i64 0, .int .i64 0, .string ⟨#[]⟩, .int .i64 0] 60)).drew) w3) :
    w3.heap[w.heap.size + 1]? = some (.cells #[.int .i64 0, .int .i64 0, .int .i64 0, .string ⟨#[]⟩, .int .i64 0] 60) :=
  (hb.block (w.heap.size + 1) (by have := (Array.getElem?_eq_some_iff.1 (two_new w)).1; exact this)).trans (two_new w)
theorem below_cell {B : Nat} {w w' : World} (h : Below B w w') {p : Addr} {v : Value} (hp : p.block < B) (hc : w.cell? p = some v) : w'.cell? p = some v := by
  rw [← hc]; exact World.cell?_of_block (h.block p.block hp)
theorem nxS {w W : World} {b : Nat} {u v : Value} (hbl : b < w.heap.size) (c0 : w.cell? ⟨b, 0, none⟩ = some u) (c1 : w.cell? ⟨b, 1, none⟩ = some v) (h : NxE w W) : W.cell? ⟨b, 0, none⟩ = some u ∧ W.cell? ⟨b, 1, none⟩ = some v ∧ NxE w W := ⟨below_cell h.below hbl c0, below_cell h.below hbl c1, h⟩
end Go.Proofs.YtpgllcdcpdeicaaGreatDoor.Jv
namespace Go.Proofs.YtpgllcdcpdeicaaGreatDoor.Jv
open Jt
open Go.RowKit
set_option linter.unusedSimpArgs false
set_option linter.unusedVariables false

/-- cells from a place on -/
def CsAt (w : World) (g off : Nat) (cs : List Value) : Prop := ∀ j v, cs[j]? = some v → w.cell? ⟨g, off + j, none⟩ = some v
/-- keys as they lie -/
def RdK (P : Nat → Prop) (w : World) (v : Value) (ks : List (List UInt8)) : Prop := ∃ ao cap, v = .slice ao ks.length cap ∧ ks.length ≤ cap ∧ (ks ≠ [] → ∃ g off, ao = some ⟨g, off, none⟩ ∧ P g ∧ g < w.heap.size ∧ CsAt w g off (ks.map fun k => Value.string (mkS k)))
mutual
/-- a value's six cells, and all that hangs on them: in blocks that P holds of -/
def Rep (P : Nat → Prop) (w : World) : JV → List Value → Prop
  | .mk k is n t xs ks, cs => ∃ ao cap vk, cs = [.int .i64 k, .bool is, .int .i64 n, .string (mkS t), .slice ao xs.length cap, vk] ∧ RdK P w vk ks ∧ (xs ≠ [] → ∃ g off, ao = some ⟨g, off, none⟩ ∧ P g ∧ g < w.heap.size ∧ RepL P w xs g off)
def RepL (P : Nat → Prop) (w : World) : List JV → Nat → Nat → Prop
  | [], _, _ => True
  | x :: r, g, off => (∃ cs, CsAt w g off cs ∧ Rep P w x cs) ∧ RepL P w r g (off + 6)
end
theorem rep_len {P : Nat → Prop} {w : World} {x : JV} {cs : List Value} (h : Rep P w x cs) : cs.length = 6 := by
  cases x with
  | mk k is n t xs ks =>
    unfold Rep at h
    obtain ⟨ao, cap, vk, rfl, _⟩ := h
    rfl
def Kep (P : Nat → Prop) (w w' : World) : Prop := w.heap.size ≤ w'.heap.size ∧ ∀ k, P k → k < w.heap.size → w'.heap[k]? = w.heap[k]?
theorem CsAt.keep {P : Nat → Prop} {w w' : World} (h : Kep P w w') {g off : Nat} {cs : List Value} (hp : P g) (hg : g < w.heap.size) (hc : CsAt w g off cs) : CsAt w' g off cs := fun j v hv => by
  rw [World.cell?_of_block (h.2 g hp hg)]; exact hc j v hv
theorem RdK.keep {P : Nat → Prop} {w w' : World} (h : Kep P w w') {v : Value} {ks : List (List UInt8)} (hk : RdK P w v ks) : RdK P w' v ks := by
  obtain ⟨ao, cap, rfl, hcp, hh⟩ := hk
  refine ⟨ao, cap, rfl, hcp, fun hne => ?_⟩
  obtain ⟨g, off, rfl, hp, hg, hc⟩ := hh hne
  exact ⟨g, off, rfl, hp, Nat.lt_of_lt_of_le hg h.1, hc.keep h hp hg⟩
mutual
theorem Rep.keep {P : Nat → Prop} {w w' : World} (h : Kep P w w') : ∀ (x : JV) {cs : List Value}, Rep P w x cs → Rep P w' x cs
  | .mk k is n t xs ks, cs, hr => by
    unfold Rep at hr ⊢
    obtain ⟨ao, cap, vk, rfl, hk, hh⟩ := hr
    refine ⟨ao, cap, vk, rfl, hk.keep h, fun hne => ?_⟩
    obtain ⟨g, off, rfl, hp, hg, hl⟩ := hh hne
    exact ⟨g, off, rfl, hp, Nat.lt_of_lt_of_le hg h.1, RepL.keep h xs hp hg hl⟩
theorem RepL.keep {P : Nat → Prop} {w w' : World} (h : Kep P w w') : ∀ (xs : List JV) {g off : Nat}, P g → g < w.heap.size → RepL P w xs g off → RepL P w' xs g off
  | [], _, _, _, _, _ => by unfold RepL; trivial
  | x :: r, g, off, hp, hg, hr => by
    unfold RepL at hr ⊢
    obtain ⟨⟨cs, hc, hx⟩, hl⟩ := hr
    exact ⟨⟨cs, hc.keep h hp hg, Rep.keep h x hx⟩, RepL.keep h r hp hg hl⟩
end
theorem RdK.mono {P P' : Nat → Prop} {w : World} (h : ∀ k, P k → k < w.heap.size → P' k) {v : Value} {ks : List (List UInt8)} (hk : RdK P w v ks) : RdK P' w v ks := by
  obtain ⟨ao, cap, rfl, hcp, hh⟩ := hk
  refine ⟨ao, cap, rfl, hcp, fun hne => ?_⟩
  obtain ⟨g, off, rfl, hp, hg, hc⟩ := hh hne
  exact ⟨g, off, rfl, h g hp hg, hg, hc⟩
mutual
theorem Rep.mono {P P' : Nat → Prop} {w : World} (h : ∀ k, P k → k < w.heap.size → P' k) : ∀ (x : JV) {cs : List Value}, Rep P w x cs → Rep P' w x cs
  | .mk k is n t xs ks, cs, hr => by
    unfold Rep at hr ⊢
    obtain ⟨ao, cap, vk, rfl, hk, hh⟩ := hr
    refine ⟨ao, cap, vk, rfl, hk.mono h, fun hne => ?_⟩
    obtain ⟨g, off, rfl, hp, hg, hl⟩ := hh hne
    exact ⟨g, off, rfl, h g hp hg, hg, RepL.mono h xs hl⟩
theorem RepL.mono {P P' : Nat → Prop} {w : World} (h : ∀ k, P k → k < w.heap.size → P' k) : ∀ (xs : List JV) {g off : Nat}, RepL P w xs g off → RepL P' w xs g off
  | [], _, _, _ => by unfold RepL; trivial
  | x :: r, g, off, hr => by
    unfold RepL at hr ⊢
    obtain ⟨⟨cs, hc, hx⟩, hl⟩ := hr
    exact ⟨⟨cs, hc, Rep.mono h x hx⟩, RepL.mono h r hl⟩
end
theorem rdk_nil (P : Nat → Prop) (w : World) : RdK P w (.slice none 0 0) [] := ⟨none, 0, rfl, Nat.le_refl _, fun h => absurd rfl h⟩
theorem rep_leaf (P : Nat → Prop) (w : World) (k : Int) (is : Bool) (n : Int) (t : List UInt8) : Rep P w (.mk k is n t [] []) [.int .i64 k, .bool is, .int .i64 n, .string (mkS t), .slice none 0 0, .slice none 0 0] := by
  unfold Rep
  exact ⟨none, 0, .slice none 0 0, rfl, rdk_nil P w, fun h => absurd rfl h⟩
/-- many values, each with its cells -/
def RepA (P : Nat → Prop) (w : World) : List JV → List (List Value) → Prop
  | [], [] => True
  | x :: xs, c :: cs => Rep P w x c ∧ RepA P w xs cs
  | _, _ => False
theorem RepA.len {P : Nat → Prop} {w : World} : ∀ {xs : List JV} {cs : List (List Value)}, RepA P w xs cs → cs.length = xs.length ∧ cs.flatten.length = xs.length * 6
  | [], [], _ => ⟨rfl, rfl⟩
  | x :: xs, c :: cs, h => by
    obtain ⟨h1, h2⟩ := h
    obtain ⟨i1, i2⟩ := RepA.len h2
    have := rep_len h1
    exact ⟨by simp [i1], by rw [List.flatten_cons, List.length_append, i2, this]; simp; omega⟩
  | [], _ :: _, h => h.elim
  | _ :: _, [], h => h.elim
theorem RepA.snoc {P : Nat → Prop} {w : World} {x : JV} {c : List Value} (hx : Rep P w x c) : ∀ {xs : List JV} {cs : List (List Value)}, RepA P w xs cs → RepA P w (xs ++ [x]) (cs ++ [c])
  | [], [], _ => ⟨hx, trivial⟩
  | y :: xs, d :: cs, h => ⟨h.1, RepA.snoc hx h.2⟩
  | [], _ :: _, h => h.elim
  | _ :: _, [], h => h.elim
theorem RepA.keep {P : Nat → Prop} {w w' : World} (h : Kep P w w') : ∀ {xs : List JV} {cs : List (List Value)}, RepA P w xs cs → RepA P w' xs cs
  | [], [], _ => trivial
  | y :: xs, d :: cs, hr => ⟨Rep.keep h y hr.1, RepA.keep h hr.2⟩
  | [], _ :: _, h => h.elim
  | _ :: _, [], h => h.elim
theorem RepA.mono {P P' : Nat → Prop} {w : World} (h : ∀ k, P k → k < w.heap.size → P' k) : ∀ {xs : List JV} {cs : List (List Value)}, RepA P w xs cs → RepA P' w xs cs
  | [], [], _ => trivial
  | y :: xs, d :: cs, hr => ⟨Rep.mono h y hr.1, RepA.mono h hr.2⟩
  | [], _ :: _, h => h.elim
  | _ :: _, [], h => h.elim
theorem RepA.list {P : Nat → Prop} {w : World} {g : Nat} : ∀ {xs : List JV} {cs : List (List Value)} {off : Nat}, RepA P w xs cs → CsAt w g off cs.flatten → RepL P w xs g off
  | [], [], off, _, _ => by unfold RepL; trivial
  | y :: xs, d :: cs, off, hr, hc => by
    unfold RepL
    have hl := rep_len hr.1
    refine ⟨⟨d, fun j v hv => hc j v ?_, hr.1⟩, RepA.list hr.2 (fun j v hv => ?_)⟩
    · rw [List.flatten_cons, List.getElem?_append_left]
      · exact hv
      · rcases Nat.lt_or_ge j d.length with h | h
        · exact h
        · rw [List.getElem?_eq_none h] at hv; cases hv
    · have := hc (6 + j) v (by rw [List.flatten_cons, List.getElem?_append_right (by omega), hl]; rw [show 6 + j - 6 = j by omega]; exact hv)
      rw [show off + 6 + j = off + (6 + j) by omega]
      exact this
  | [], _ :: _, _, h, _ => h.elim
  | _ :: _, [], _, h, _ => h.elim
end Go.Proofs.YtpgllcdcpdeicaaGreatDoor.Jv
namespace Go.Proofs.YtpgllcdcpdeicaaGreatDoor.Jv
open Jt
open Go.RowKit
set_option linter.unusedSimpArgs false
set_option linter.unusedVariables false

theorem gb_refl (w : World) (r : Option Nat) : w.grownBy w r := ⟨rfl, rfl, rfl, Nat.le_refl _, fun _ _ _ => rfl⟩
theorem gb_trans {a b c : World} {r : Option Nat} (h : a.grownBy b r) (k : b.grownBy c r) : a.grownBy c r := ⟨k.os.trans h.os, k.tape.trans h.tape, k.output.trans h.output, Nat.le_trans h.size k.size, fun j hj hr => (k.block j (Nat.lt_of_lt_of_le hj h.size) hr).trans (h.block j hj hr)⟩
theorem gb_below {w w' : World} {r : Option Nat} (h : Below w.heap.size w w') : w.grownBy w' r := ⟨h.os, h.tape, h.output, h.size, fun j hj _ => h.block j hj⟩
theorem gb_set (w : World) (g j : Nat) (v : Value) : w.grownBy (w.setCell ⟨g, j, none⟩ v) (some g) :=
  ⟨rfl, rfl, rfl, by simp [World.setCell], fun k _ hk => Below.heap_setCell _ _ _ _ (fun e => hk (by rw [e]))⟩
theorem gb_bel {w w' : World} {g : Nat} (h : w.grownBy w' (some g)) (hg : g ≤ w.heap.size) : Below g w w' := ⟨h.os, h.tape, h.output, h.size, fun k hk => h.block k (by omega) (fun e => by injection e with e; omega)⟩
theorem Env.gb {w w' : World} {g : Nat} (h : Env w) (hb : w.grownBy w' (some g)) (hg : 4 ≤ g) (hl : g ≤ w.heap.size) : Env w' := by
  refine ⟨h.1.below (gb_bel hb hl) (Nat.le_trans (by decide) hg), ?_⟩
  unfold ET
  rw [World.cell?_of_block (hb.block _ (World.block_lt_of_cell? w _ h.2) (fun e => by injection e with e; have h1 : 0 < 4 := (by decide); have h2 : 0 = g := e; omega))]
  exact h.2
theorem frz {w : World} {g : Nat} {cs : Array Value} {t : TypeId} (h : w.heap[g]? = some (.cells cs t (0, 0))) (i : Nat) : w.frozen? ⟨g, i, none⟩ = false := by simp [World.frozen?, h]
theorem blk_set {w : World} {g : Nat} {cs : Array Value} {t : TypeId} (h : w.heap[g]? = some (.cells cs t (0, 0))) (i : Nat) (u : Value) : (w.setCell ⟨g, i, none⟩ u).heap[g]? = some (.cells (cs.setIfInBounds i u) t (0, 0)) := by
  rw [setCell_eq_setRow w g i cs t (0, 0) u h]
  have := setRow_heap w g cs (cs.setIfInBounds i u) t (0, 0) h
  simpa using this
abbrev obT (k ta tb : Int) (tx : ByteArray) (tn : Int) : Obj := .cells #[.int .i64 k, .int .i64 ta, .int .i64 tb, .string tx, .int .i64 tn] 60
theorem newT (w : World) (k ta tb : Int) (tx : ByteArray) (tn : Int) : ∃ W, W = w.alloc (obT k ta tb tx tn) ∧ W.heap[w.heap.size]? = some (obT k ta tb tx tn) ∧ Below w.heap.size w W := ⟨_, rfl, heap_alloc_new w _, (Below.refl _ _).alloc (Nat.le_refl _) _⟩
theorem Rd.cells {g : Nat} {s : ByteArray} {a : Nat} {w : World} (h : Rd g s a w) : w.cell? ⟨g, 0, none⟩ = some (.string s) ∧ w.cell? ⟨g, 1, none⟩ = some (.int .i64 (a : Int)) := ⟨cell_of_row _ _ 0 _ _ _ h, cell_of_row _ _ 1 _ _ _ h⟩
theorem Rd.lt {g : Nat} {s : ByteArray} {a : Nat} {w : World} (h : Rd g s a w) : g < w.heap.size := (Array.getElem?_eq_some_iff.1 h).1
theorem Rd.go {g : Nat} {s : ByteArray} {a : Nat} {w w' : World} (h : Rd g s a w) (hb : Below w.heap.size w w') : Rd g s a w' := (hb.block _ h.lt).trans h
theorem Rd.al {g : Nat} {s : ByteArray} {a : Nat} {w : World} (h : Rd g s a w) (o : Obj) : Rd g s a (w.alloc o) := h.go ((Below.refl _ _).alloc (Nat.le_refl _) _)
theorem Rd.st {g : Nat} {s : ByteArray} {a : Nat} {w : World} (h : Rd g s a w) {r : Nat} (hr : r ≠ g) (i : Nat) (v : Value) : Rd g s a (w.setCell ⟨r, i, none⟩ v) := (Below.heap_setCell _ _ _ _ (fun e => hr e.symm)).trans h
theorem Rd.st5 {g : Nat} {s : ByteArray} {a : Nat} {w : World} (h : Rd g s a w) {r : Nat} (hr : r ≠ g) (x y z u v : Value) : Rd g s a (((((w.setCell ⟨r, 0, none⟩ x).setCell ⟨r, 1, none⟩ y).setCell ⟨r, 2, none⟩ z).setCell ⟨r, 3, none⟩ u).setCell ⟨r, 4, none⟩ v) := ((((h.st hr 0 x).st hr 1 y).st hr 2 z).st hr 3 u).st hr 4 v
theorem set5 {w : World} {g : Nat} {a b c d e : Value} {t : TypeId} (h : w.heap[g]? = some (.cells #[a, b, c, d, e] t (0, 0))) (x y z u v : Value) : (((((w.setCell ⟨g, 0, none⟩ x).setCell ⟨g, 1, none⟩ y).setCell ⟨g, 2, none⟩ z).setCell ⟨g, 3, none⟩ u).setCell ⟨g, 4, none⟩ v).heap[g]? = some (.cells #[x, y, z, u, v] t (0, 0)) := by
  simpa using blk_set (blk_set (blk_set (blk_set (blk_set h 0 x) 1 y) 2 z) 3 u) 4 v
theorem gb_up {a w w' : World} {g : Nat} (h : a.grownBy w (some g)) (hb : Below a.heap.size w w') : a.grownBy w' (some g) := ⟨hb.os.trans h.os, hb.tape.trans h.tape, hb.output.trans h.output, Nat.le_trans h.size hb.size, fun j hj hr => (hb.block j hj).trans (h.block j hj hr)⟩
theorem bel_set5 {B r : Nat} (w : World) (hr : B ≤ r) (x y z u v : Value) : Below B w (((((w.setCell ⟨r, 0, none⟩ x).setCell ⟨r, 1, none⟩ y).setCell ⟨r, 2, none⟩ z).setCell ⟨r, 3, none⟩ u).setCell ⟨r, 4, none⟩ v) :=
  (((((Below.refl B w).setCell (p := ⟨r, 0, none⟩) hr _).setCell (p := ⟨r, 1, none⟩) hr _).setCell (p := ⟨r, 2, none⟩) hr _).setCell (p := ⟨r, 3, none⟩) hr _).setCell (p := ⟨r, 4, none⟩) hr _
theorem cells5 {w : World} {g : Nat} {a b c d e : Value} {t : TypeId} (h : w.heap[g]? = some (.cells #[a, b, c, d, e] t (0, 0))) : w.cell? ⟨g, 0, none⟩ = some a ∧ w.cell? ⟨g, 1, none⟩ = some b ∧ w.cell? ⟨g, 2, none⟩ = some c ∧ w.cell? ⟨g, 3, none⟩ = some d ∧ w.cell? ⟨g, 4, none⟩ = some e := ⟨cell_of_row _ _ 0 _ _ _ h, cell_of_row _ _ 1 _ _ _ h, cell_of_row _ _ 2 _ _ _ h, cell_of_row _ _ 3 _ _ _ h, cell_of_row _ _ 4 _ _ _ h⟩
set_option maxRecDepth 100000 in
set_option maxHeartbeats 1000000 in
theorem next_y (g a : Nat) (s tx : ByteArray) (k ta tb tn : Int) (w : World) (hR : Rd g s a w) (hE : Env w)
    (HN : Hid (∀ W, Env W → Calls Tryz.prog 33 #[.string s, .int .i64 (a : Int)] W fun e w' => e = .returned (.tuple #[.agg #[.int .i64 k, .int .i64 ta, .int .i64 tb, .string tx, .int .i64 tn], .int .i64 0]) ∧ Below W.heap.size W w')) :
    Calls Tryz.prog 16 #[.pointer (some ⟨g, 0, none⟩)] w fun e w' => e = .returned (.tuple #[.agg #[.int .i64 k, .int .i64 ta, .int .i64 tb, .string tx, .int .i64 tn], .nilIface]) ∧ w'.heap[g]? = some (.cells #[.string s, .int .i64 tb] 39) ∧ w.grownBy w' (some g) := by
  obtain ⟨W0, hW0, hk0, hb0⟩ := newT w 0 0 0 ⟨#[]⟩ 0
  have hgl : g < w.heap.size := (Array.getElem?_eq_some_iff.1 hR).1
  have HW0 := Lib.hid hW0
  have HK0 := Lib.hid hk0
  have HB0 := Lib.hid hb0
  have hR0 : Rd g s a W0 := (hb0.block _ hgl).trans hR
  have HR0 := Lib.hid hR0
  have HE0 : Hid (Env W0.drew) := (hE.go hb0 : Env W0)
  have hz0 : w.heap.size < W0.heap.size := (Array.getElem?_eq_some_iff.1 hk0).1
  obtain ⟨W1, hW1, hk1, hb1⟩ := newT W0 0 0 0 ⟨#[]⟩ 0
  have hz1 : W0.heap.size < W1.heap.size := (Array.getElem?_eq_some_iff.1 hk1).1
  have hg0' : g ≠ W0.heap.size := by omega
  have HR1 : Hid (Rd g s a W1) := (hb1.block _ (by omega)).trans hR0
  have HK1 : Hid (W1.heap[w.heap.size]? = some (obT 0 0 0 ⟨#[]⟩ 0)) := (hb1.block _ hz0).trans hk0
  have HX1 := Lib.hid hk1
  have HE1 : Hid (Env W1.drew) := ((hE.go hb0).go hb1 : Env W1)
  have HB1 : Hid (Below w.heap.size w W1) := hb0.trans (hb1.mono (Nat.le_of_lt hz0))
  have HW1 := Lib.hid hW1
  have c0 := cell_of_row _ _ 0 _ _ _ hR0
  have c1 := cell_of_row _ _ 1 _ _ _ hR0
  have HKA : Hid (W0.drew.cell? ⟨g, 0, none⟩ = some (.string s) ∧ W0.drew.cell? ⟨g, 1, none⟩ = some (.int .i64 (a : Int))) := ⟨cell_of_row _ _ 0 _ _ _ hR0, cell_of_row _ _ 1 _ _ _ hR0⟩
  have HKB : Hid (W1.drew.cell? ⟨g, 0, none⟩ = some (.string s) ∧ W1.drew.cell? ⟨g, 1, none⟩ = some (.int .i64 (a : Int))) := ⟨cell_of_row _ _ 0 _ _ _ HR1.out, cell_of_row _ _ 1 _ _ _ HR1.out⟩
  rw [hW1] at HKB
  clear hW0 hk0 hb0 hR0 hW1 hk1 hb1 hE hR
  go_enter Tryz.func16, Tryz.ntmps16
  go_wp2_with fail
  rw [← HW0.out]
  go_region_held3 (fun V => V.cell? ⟨g, 0, none⟩ = some (.string s) ∧ V.cell? ⟨g, 1, none⟩ = some (.int .i64 (a : Int)))
    (first | (with_reducible exact HKA.out) | (with_reducible exact HKB.out) | (with_reducible exact HK3.out) | (with_reducible exact HK3a.out) | (with_reducible exact HK3r.out) | (with_reducible exact HK3s.out) | (with_reducible exact HK4.out) | (with_reducible exact HK4s.out))
    (first
      | (go_at_call 33; (with_reducible refine (HN.out W0.drew HE0.out).mono ?_); rintro e w3 ⟨rfl, hb3⟩; have hb3' : Below W0.heap.size W0 w3 := ⟨hb3.os, hb3.tape, hb3.output, hb3.size, hb3.block⟩; have HR3 : Hid (Rd g s a w3) := HR0.out.go hb3'; have HT3 : Hid (w3.heap[w.heap.size]? = some (obT 0 0 0 ⟨#[]⟩ 0)) := (hb3'.block _ hz0).trans HK0.out; have HB3 : Hid (Below w.heap.size w w3) := HB0.out.trans (hb3'.mono (Nat.le_of_lt hz0)); have hg3 : g < w3.heap.size := HR3.out.lt; have hg3' : g ≠ w3.heap.size := Nat.ne_of_lt HR3.out.lt; have HK3 := Lib.hid HR3.out.cells; have HK3a := Lib.hid (HR3.out.al (.cells #[.int .i64 0, .int .i64 0, .int .i64 0, .string ⟨#[]⟩, .int .i64 0] 60)).cells; have HK3r := Lib.hid (HR3.out.al (.cells #[.int .i64 k, .int .i64 ta, .int .i64 tb, .string tx, .int .i64 tn] 60)).cells; have HK3s := Lib.hid ((HR3.out.al (.cells #[.int .i64 0, .int .i64 0, .int .i64 0, .string ⟨#[]⟩, .int .i64 0] 60)).st5 (r := w3.heap.size) (Ne.symm hg3') (.int .i64 k) (.int .i64 ta) (.int .i64 tb) (.string tx) (.int .i64 tn)).cells; clear hb3 hb3')
      | (go_at_call 33; rw [← HW1.out]; (with_reducible refine (HN.out W1.drew HE1.out).mono ?_); rintro e w4 ⟨rfl, hb4⟩; have hb4' : Below W1.heap.size W1 w4 := ⟨hb4.os, hb4.tape, hb4.output, hb4.size, hb4.block⟩; have HR4 : Hid (Rd g s a w4) := HR1.out.go hb4'; have HT4 : Hid (w4.heap[w.heap.size]? = some (obT 0 0 0 ⟨#[]⟩ 0)) := (hb4'.block _ (Nat.lt_trans hz0 hz1)).trans HK1.out; have HN4 : Hid (w4.heap[W0.heap.size]? = some (obT 0 0 0 ⟨#[]⟩ 0)) := (hb4'.block _ hz1).trans HX1.out; have HB4 : Hid (Below w.heap.size w w4) := HB1.out.trans (hb4'.mono (Nat.le_of_lt (Nat.lt_trans hz0 hz1))); have n0 := cell_of_row _ _ 0 _ _ _ HN4.out; have n1 := cell_of_row _ _ 1 _ _ _ HN4.out; have n2 := cell_of_row _ _ 2 _ _ _ HN4.out; have n3 := cell_of_row _ _ 3 _ _ _ HN4.out; have n4 := cell_of_row _ _ 4 _ _ _ HN4.out; have f0 := frz HN4.out 0; have f1 := frz HN4.out 1; have f2 := frz HN4.out 2; have f3 := frz HN4.out 3; have f4 := frz HN4.out 4; have HK4 := Lib.hid HR4.out.cells; have HK4s := Lib.hid (HR4.out.st5 (r := W0.heap.size) (Ne.symm hg0') (.int .i64 k) (.int .i64 ta) (.int .i64 tb) (.string tx) (.int .i64 tn)).cells; clear hb4 hb4'))
  · have HTX : Hid ((w3.alloc (.cells #[.int .i64 k, .int .i64 ta, .int .i64 tb, .string tx, .int .i64 tn] 60)).heap[w.heap.size]? = some (obT 0 0 0 ⟨#[]⟩ 0)) := (((Below.refl w3.heap.size w3).alloc (Nat.le_refl _) _).block _ (Array.getElem?_eq_some_iff.1 HT3.out).1).trans HT3.out
    have HBX : Hid (Below w.heap.size w (w3.alloc (.cells #[.int .i64 k, .int .i64 ta, .int .i64 tb, .string tx, .int .i64 tn] 60))) := HB3.out.alloc HB3.out.size _
    have HRX : Hid ((w3.alloc (.cells #[.int .i64 k, .int .i64 ta, .int .i64 tb, .string tx, .int .i64 tn] 60)).heap[w3.heap.size]? = some (obT k ta tb tx tn)) := heap_alloc_new w3 _
    have HPX : Hid (Rd g s a (w3.alloc (.cells #[.int .i64 k, .int .i64 ta, .int .i64 tb, .string tx, .int .i64 tn] 60))) := HR3.out.al _
    have hlw : w.heap.size < w3.heap.size := (Array.getElem?_eq_some_iff.1 HT3.out).1
    clear c0 c1 HK3 HK3a HK3r HK3s HKA HKB
    generalize (w3.alloc (.cells #[.int .i64 k, .int .i64 ta, .int .i64 tb, .string tx, .int .i64 tn] 60)) = wx at HTX HBX HRX HPX ⊢
    generalize hrb : w3.heap.size = rb at HRX hlw ⊢
    have hrn : w.heap.size ≠ rb := by omega
    have hgr : g ≠ rb := by omega
    have hgw : g ≠ w.heap.size := by omega
    clear hrb
    obtain ⟨x0, x1⟩ := HPX.out.cells
    have y1 := frz HPX.out 1
    obtain ⟨r0, r1, r2, r3, r4⟩ := cells5 HRX.out
    obtain ⟨t0, t1, t2, t3, t4⟩ := cells5 HTX.out
    have z0 := frz HTX.out 0
    have z1 := frz HTX.out 1
    have z2 := frz HTX.out 2
    have z3 := frz HTX.out 3
    have z4 := frz HTX.out 4
    have HTY : Hid ((wx.setCell ⟨g, 1, none⟩ (.int .i64 tb)).heap[w.heap.size]? = some (obT 0 0 0 ⟨#[]⟩ 0)) := (Below.heap_setCell _ _ _ _ (fun e => hgw e.symm)).trans HTX.out
    have HPY : Hid ((wx.setCell ⟨g, 1, none⟩ (.int .i64 tb)).heap[g]? = some (.cells #[.string s, .int .i64 tb] 39 (0, 0))) := by
      have := blk_set HPX.out 1 (.int .i64 tb)
      exact Lib.hid (by simpa using this)
    have HH := Lib.hid (set5 HTY.out (.int .i64 k) (.int .i64 ta) (.int .i64 tb) (.string tx) (.int .i64 tn))
    have HPF := Lib.hid (((bel_set5 (B := w.heap.size) (r := w.heap.size) (wx.setCell ⟨g, 1, none⟩ (.int .i64 tb)) (Nat.le_refl _) (.int .i64 k) (.int .i64 ta) (.int .i64 tb) (.string tx) (.int .i64 tn)).block g hgl).trans HPY.out)
    have HGX := Lib.hid (gb_up (gb_trans (gb_below HBX.out) (gb_set wx g 1 (.int .i64 tb))) (bel_set5 (B := w.heap.size) (r := w.heap.size) (wx.setCell ⟨g, 1, none⟩ (.int .i64 tb)) (Nat.le_refl _) (.int .i64 k) (.int .i64 ta) (.int .i64 tb) (.string tx) (.int .i64 tn)))
    go_wp2
    obtain ⟨d0, d1, d2, d3, d4⟩ := cells5 HH.out
    clear x0 x1 y1 r0 r1 r2 r3 r4 t0 t1 t2 t3 t4 z0 z1 z2 z3 z4
    (with_reducible refine bodyPost_ret (v := .tuple #[.agg #[.int .i64 k, .int .i64 ta, .int .i64 tb, .string tx, .int .i64 tn], .nilIface]) (by simp [results, Tryz.results16, go_sem, d0, d1, d2, d3, d4]) rfl ⟨rfl, HPF.out, HGX.out⟩)
  · have HTX : Hid ((((((w4.setCell ⟨W0.heap.size, 0, none⟩ (.int .i64 k)).setCell ⟨W0.heap.size, 1, none⟩ (.int .i64 ta)).setCell ⟨W0.heap.size, 2, none⟩ (.int .i64 tb)).setCell ⟨W0.heap.size, 3, none⟩ (.string tx)).setCell ⟨W0.heap.size, 4, none⟩ (.int .i64 tn)).heap[w.heap.size]? = some (obT 0 0 0 ⟨#[]⟩ 0)) := ((bel_set5 (B := W0.heap.size) w4 (Nat.le_refl _) _ _ _ _ _).block _ hz0).trans HT4.out
    have HBX : Hid (Below w.heap.size w (((((w4.setCell ⟨W0.heap.size, 0, none⟩ (.int .i64 k)).setCell ⟨W0.heap.size, 1, none⟩ (.int .i64 ta)).setCell ⟨W0.heap.size, 2, none⟩ (.int .i64 tb)).setCell ⟨W0.heap.size, 3, none⟩ (.string tx)).setCell ⟨W0.heap.size, 4, none⟩ (.int .i64 tn))) := HB4.out.trans (bel_set5 w4 (Nat.le_of_lt hz0) _ _ _ _ _)
    have HRX : Hid ((((((w4.setCell ⟨W0.heap.size, 0, none⟩ (.int .i64 k)).setCell ⟨W0.heap.size, 1, none⟩ (.int .i64 ta)).setCell ⟨W0.heap.size, 2, none⟩ (.int .i64 tb)).setCell ⟨W0.heap.size, 3, none⟩ (.string tx)).setCell ⟨W0.heap.size, 4, none⟩ (.int .i64 tn)).heap[W0.heap.size]? = some (obT k ta tb tx tn)) := set5 HN4.out _ _ _ _ _
    have HPX : Hid (Rd g s a (((((w4.setCell ⟨W0.heap.size, 0, none⟩ (.int .i64 k)).setCell ⟨W0.heap.size, 1, none⟩ (.int .i64 ta)).setCell ⟨W0.heap.size, 2, none⟩ (.int .i64 tb)).setCell ⟨W0.heap.size, 3, none⟩ (.string tx)).setCell ⟨W0.heap.size, 4, none⟩ (.int .i64 tn))) := HR4.out.st5 (Ne.symm hg0') _ _ _ _ _
    have hlw : w.heap.size < W0.heap.size := hz0
    clear c0 c1 n0 n1 n2 n3 n4 f0 f1 f2 f3 f4 HK4 HK4s HKA HKB
    generalize (((((w4.setCell ⟨W0.heap.size, 0, none⟩ (.int .i64 k)).setCell ⟨W0.heap.size, 1, none⟩ (.int .i64 ta)).setCell ⟨W0.heap.size, 2, none⟩ (.int .i64 tb)).setCell ⟨W0.heap.size, 3, none⟩ (.string tx)).setCell ⟨W0.heap.size, 4, none⟩ (.int .i64 tn)) = wx at HTX HBX HRX HPX ⊢
    generalize hrb : W0.heap.size = rb at HRX hlw ⊢
    have hrn : w.heap.size ≠ rb := by omega
    have hgr : g ≠ rb := by omega
    have hgw : g ≠ w.heap.size := by omega
    clear hrb
    obtain ⟨x0, x1⟩ := HPX.out.cells
    have y1 := frz HPX.out 1
    obtain ⟨r0, r1, r2, r3, r4⟩ := cells5 HRX.out
    obtain ⟨t0, t1, t2, t3, t4⟩ := cells5 HTX.out
    have z0 := frz HTX.out 0
    have z1 := frz HTX.out 1
    have z2 := frz HTX.out 2
    have z3 := frz HTX.out 3
    have z4 := frz HTX.out 4
    have HTY : Hid ((wx.setCell ⟨g, 1, none⟩ (.int .i64 tb)).heap[w.heap.size]? = some (obT 0 0 0 ⟨#[]⟩ 0)) := (Below.heap_setCell _ _ _ _ (fun e => hgw e.symm)).trans HTX.out
    have HPY : Hid ((wx.setCell ⟨g, 1, none⟩ (.int .i64 tb)).heap[g]? = some (.cells #[.string s, .int .i64 tb] 39 (0, 0))) := by
      have := blk_set HPX.out 1 (.int .i64 tb)
      exact Lib.hid (by simpa using this)
    have HH := Lib.hid (set5 HTY.out (.int .i64 k) (.int .i64 ta) (.int .i64 tb) (.string tx) (.int .i64 tn))
    have HPF := Lib.hid (((bel_set5 (B := w.heap.size) (r := w.heap.size) (wx.setCell ⟨g, 1, none⟩ (.int .i64 tb)) (Nat.le_refl _) (.int .i64 k) (.int .i64 ta) (.int .i64 tb) (.string tx) (.int .i64 tn)).block g hgl).trans HPY.out)
    have HGX := Lib.hid (gb_up (gb_trans (gb_below HBX.out) (gb_set wx g 1 (.int .i64 tb))) (bel_set5 (B := w.heap.size) (r := w.heap.size) (wx.setCell ⟨g, 1, none⟩ (.int .i64 tb)) (Nat.le_refl _) (.int .i64 k) (.int .i64 ta) (.int .i64 tb) (.string tx) (.int .i64 tn)))
    go_wp2
    obtain ⟨d0, d1, d2, d3, d4⟩ := cells5 HH.out
    clear x0 x1 y1 r0 r1 r2 r3 r4 t0 t1 t2 t3 t4 z0 z1 z2 z3 z4
    (with_reducible refine bodyPost_ret (v := .tuple #[.agg #[.int .i64 k, .int .i64 ta, .int .i64 tb, .string tx, .int .i64 tn], .nilIface]) (by simp [results, Tryz.results16, go_sem, d0, d1, d2, d3, d4]) rfl ⟨rfl, HPF.out, HGX.out⟩)
end Go.Proofs.YtpgllcdcpdeicaaGreatDoor.Jv
