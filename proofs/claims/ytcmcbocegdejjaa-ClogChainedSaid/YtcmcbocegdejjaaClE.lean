/- What lies in a log behind an entry more: with room, without; a call's world as the loop of Add has it; no walk. -/
import Derived.Test.YtcmcbocegdejjaaClD
namespace Go.Proofs.Ytcmcbocegdejjaa.Cl
open Go.RowKit Go.Lib Go.Shelf Go.Sort
set_option linter.unusedSimpArgs false
set_option linter.unusedVariables false

abbrev obL (m : Int) (v : Value) (fl la : Int) : Obj := .cells #[.int .i64 m, v, .int .i64 fl, .int .i64 la] 62
abbrev obE (x : Ent) : Obj := .cells #[.int .i64 x.1, .string x.2.1, .string x.2.2.1, .bool x.2.2.2] 57
/-- a log on the way of a call: as it is now, what changed since w -/
def Lq (B c : Nat) (gb : Option Nat) (m : Int) (l : List Ent) (fl la : Int) (w W : World) : Prop := ∃ gb', IsLg B c gb' m l fl la W ∧ Ch c gb w W ∧ NewB gb gb' w
theorem Lq.go {B c : Nat} {gb : Option Nat} {m : Int} {l : List Ent} {fl la : Int} {w W V : World} (h : Lq B c gb m l fl la w W) (hb : Below W.heap.size W V) : Lq B c gb m l fl la w V := by
  obtain ⟨gb', h1, h2, h3⟩ := h
  exact ⟨gb', h1.go hb, h2.chain hb, h3⟩
theorem Lq.step {B c : Nat} {gb gb1 : Option Nat} {m : Int} {l : List Ent} {fl la : Int} {w W V : World} (hch : Ch c gb w W) (hn : NewB gb gb1 w) (k : Lq B c gb1 m l fl la W V) : Lq B c gb m l fl la w V := by
  obtain ⟨gb', h1, h2, h3⟩ := k
  exact ⟨gb', h1, hch.trans hn h2, hn.trans h3 hch.size⟩
theorem size_set (w : World) (a : Addr) (v : Value) : (w.setCell a v).heap.size = w.heap.size := by simp [World.setCell]
theorem ap_room {B c g o cap : Nat} {m : Int} {l : List Ent} {fl la : Int} {W WB : World} (hk : W.heap[c]? = some (obL m (.slice (some ⟨g, o, none⟩) l.length cap) fl la)) (ho : OwL B (.slice (some ⟨g, o, none⟩) l.length cap) l W) (hgc : g ≠ c) (hb : Below W.heap.size W WB) (x : Ent) (hc : l.length + 1 ≤ cap) :
    (WB.setCells g (o + l.length * 4) (encE x)).heap[c]? = some (obL m (.slice (some ⟨g, o, none⟩) l.length cap) fl la) ∧ Lq B c (some g) m (l ++ [x]) fl la W ((WB.setCells g (o + l.length * 4) (encE x)).setCell ⟨c, 1, none⟩ (.slice (some ⟨g, o, none⟩) (l.length + 1) cap)) := by
  have hcl : c < W.heap.size := (Array.getElem?_eq_some_iff.1 hk).1
  have hkB := (hb.block c hcl).trans hk
  have hclB : c < WB.heap.size := (Array.getElem?_eq_some_iff.1 hkB).1
  have hkV : (WB.setCells g (o + l.length * 4) (encE x)).heap[c]? = some (obL m (.slice (some ⟨g, o, none⟩) l.length cap) fl la) := by
    rw [World.heap_setCells_other _ _ _ _ hclB (fun e => hgc e.symm)]; exact hkB
  refine ⟨hkV, some g, ⟨⟨.slice (some ⟨g, o, none⟩) (l.length + 1) cap, ?_, ?_, rfl⟩, fun e => hgc (by injection e)⟩, ?_, .inl rfl⟩
  · simpa using blk_set hkV 1 (.slice (some ⟨g, o, none⟩) (l.length + 1) cap)
  · have hS := (ho.go hb).snoc x hc
    revert hS
    generalize WB.setCells g (o + l.length * 4) (encE x) = V
    intro hS
    refine hS.kept (Nat.le_of_eq (size_set _ _ _).symm) (fun q hq => ?_)
    have : g = q := by injection hq
    rw [← this]; exact set_oth _ _ _ _ hgc
  · exact ((Ch.of hb).tr (Ch.sets _ _ _)).tr (Ch.set _ _ _)
theorem ap_grow {B c : Nat} {gb : Option Nat} {m : Int} {l : List Ent} {v v' : Value} {fl la : Int} {W WB V : World} (hB : B ≤ W.heap.size) (hk : W.heap[c]? = some (obL m v fl la)) (hb : Below W.heap.size W WB) (x : Ent) (hown : V.ownsRow WB.heap.size 57 4 v' (l.length + 1) (eC l ++ encE x)) (hgrow : WB.grownBy V none) :
    V.heap[c]? = some (obL m v fl la) ∧ Lq B c gb m (l ++ [x]) fl la W (V.setCell ⟨c, 1, none⟩ v') := by
  have hcl : c < W.heap.size := (Array.getElem?_eq_some_iff.1 hk).1
  have hkB := (hb.block c hcl).trans hk
  have hclB : c < WB.heap.size := (Array.getElem?_eq_some_iff.1 hkB).1
  have hkV : V.heap[c]? = some (obL m v fl la) := (hgrow.block c hclB (by simp)).trans hkB
  have hlt := World.ownsRow.lt hown
  have hs := hb.size
  have ho : OwL WB.heap.size v' (l ++ [x]) V := by
    refine OwL.of_own (T := 57) ?_
    rw [eC_snoc, List.length_append]; exact hown
  have hne : v'.ownBlock ≠ some c := fun e => by have := (hlt c e).1; omega
  refine ⟨hkV, v'.ownBlock, ⟨⟨v', ?_, (ho.mono (by omega)).kept (Nat.le_of_eq (size_set _ _ _).symm) (fun q hq => set_oth _ _ _ _ (fun e => hne (by rw [hq, e]))), rfl⟩, hne⟩, ?_, ?_⟩
  · simpa using blk_set hkV 1 v'
  · refine (((Ch.of hb).tr ?_).tr (Ch.set _ _ _))
    exact ⟨hgrow.os, hgrow.tape, hgrow.output, hgrow.size, fun k hk _ _ => hgrow.block k hk (by simp)⟩
  · cases e : v'.ownBlock with
    | none => exact .inr (.inl rfl)
    | some q => exact .inr (.inr ⟨q, rfl, by have := (hlt q e).1; omega⟩)
theorem ent_cell {W : World} {g : Nat} {x : Ent} (h : W.heap[g]? = some (obE x)) : ∀ j u, (encE x)[j]? = some u → W.cell? ((⟨g, 0, none⟩ : Addr).add j) = some u := World.news_of_block (cs := #[.int .i64 x.1, .string x.2.1, .string x.2.2.1, .bool x.2.2.2]) h
/-- a cell's value -/
def cg (w : World) (a : Addr) : Value := (w.cell? a).getD (.bool false)
def lnV : Value → Nat
  | .slice _ n _ => n
  | _ => 0
end Go.Proofs.Ytcmcbocegdejjaa.Cl
