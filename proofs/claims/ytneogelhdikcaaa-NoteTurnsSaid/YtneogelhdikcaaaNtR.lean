/- Both outboxes beside one another, above the heap as it was; a step of either; no walk. -/
import Derived.Test.YtneogelhdikcaaaNtQ
namespace Go.Proofs.Ytneogelhdikcaaa.Nt
open Go.RowKit Go.Lib Go.Maps
set_option linter.unusedSimpArgs false
set_option linter.unusedVariables false

structure Kb (c : Nat) (gb mb : Option Nat) (d : Nat) (ga nb : Option Nat) (m : Int) (now now2 : List Tx) (all all2 : List Ent) (w W : World) : Prop where
  no : IsNo w.heap.size c gb mb m now all W
  rb : IsRb w.heap.size d ga nb (max m 1) now2 all2 W
  bel : Below w.heap.size w W
  gc : w.heap.size ≤ c
  gd : w.heap.size ≤ d
  ne : c ≠ d
  a1 : gb ≠ some d
  a2 : mb ≠ some d
  a3 : ga ≠ some c
  a4 : nb ≠ some c
  a5 : ∀ g, gb = some g → ga ≠ some g ∧ nb ≠ some g
  a6 : ∀ g, mb = some g → ga ≠ some g ∧ nb ≠ some g
section
variable {c d : Nat} {gb mb ga nb : Option Nat} {m : Int} {now now2 : List Tx} {all all2 : List Ent} {w W V : World}
theorem Kb.go (h : Kb c gb mb d ga nb m now now2 all all2 w W) (hb : Below W.heap.size W V) : Kb c gb mb d ga nb m now now2 all all2 w V :=
  ⟨h.no.go hb, h.rb.go hb, h.bel.trans (hb.mono h.bel.size), h.gc, h.gd, h.ne, h.a1, h.a2, h.a3, h.a4, h.a5, h.a6⟩
theorem newB_ne {gb gb' : Option Nat} {W : World} (hn : NewB gb gb' W) {g : Nat} (hg : g < W.heap.size) (h : gb ≠ some g) : gb' ≠ some g := by
  rcases hn with e | e | ⟨q, e, hq⟩
  · rw [e]; exact h
  · rw [e]; intro e; cases e
  · rw [e]; intro e; injection e with e; omega
theorem Kb.stepP (h : Kb c gb mb d ga nb m now now2 all all2 w W) {gb' mb' : Option Nat} {now' : List Tx} {all' : List Ent} (k : IsNo w.heap.size c gb' mb' m now' all' V) (hc : Ch c gb W V) (hn : NewB gb gb' W) (hm : ∃ b, mb' = some b ∧ W.heap.size ≤ b) : Kb c gb' mb' d ga nb m now' now2 all' all2 w V := by
  have hd := h.rb.lt
  obtain ⟨b, hmb, hb⟩ := hm
  refine ⟨k, h.rb.kept hc.size (hc.block d hd (Ne.symm h.ne) (fun e => h.a1 e.symm)) (fun g hg => hc.block g (h.rb.row g hg).2 (fun e => h.a3 (by rw [hg, e])) (fun e => (h.a5 g e.symm).1 hg)) (fun g hg => hc.block g (h.rb.row2 g hg).2 (fun e => h.a4 (by rw [hg, e])) (fun e => (h.a5 g e.symm).2 hg)), h.bel.trans (hc.below h.bel.size h.gc (fun g hg => (h.no.row g hg).1)), h.gc, h.gd, h.ne, newB_ne hn hd h.a1, ?_, h.a3, h.a4, fun g hg => ⟨fun e => ?_, fun e => ?_⟩, fun g hg => ⟨fun e => ?_, fun e => ?_⟩⟩
  · rw [hmb]; intro e; injection e with e; omega
  · exact newB_ne hn (h.rb.row g e).2 (fun e2 => (h.a5 g e2).1 e) hg
  · exact newB_ne hn (h.rb.row2 g e).2 (fun e2 => (h.a5 g e2).2 e) hg
  · rw [hmb] at hg; injection hg with hg; have := (h.rb.row g e).2; omega
  · rw [hmb] at hg; injection hg with hg; have := (h.rb.row2 g e).2; omega
theorem Kb.stepR (h : Kb c gb mb d ga nb m now now2 all all2 w W) {ga' nb' : Option Nat} {now' : List Tx} {all' : List Ent} (k : IsRb w.heap.size d ga' nb' (max m 1) now' all' V) (hc : Ch d ga W V) (hn : NewB ga ga' W) (hn2 : NewB nb nb' W) : Kb c gb mb d ga' nb' m now now' all all' w V := by
  have hcl := h.no.lt
  refine ⟨h.no.kept hc.size (hc.block c hcl h.ne (fun e => h.a3 e.symm)) (fun g hg => hc.block g (h.no.row g hg).2 (fun e => h.a1 (by rw [hg, e])) (fun e => (h.a5 g hg).1 e.symm)) (fun g hg => hc.block g (h.no.mp.lt g hg) (fun e => h.a2 (by rw [hg, e])) (fun e => (h.a6 g hg).1 e.symm)), k, h.bel.trans (hc.below h.bel.size h.gd (fun g hg => (h.rb.row g hg).1)), h.gc, h.gd, h.ne, h.a1, h.a2, newB_ne hn hcl h.a3, newB_ne hn2 hcl h.a4, fun g hg => ⟨newB_ne hn (h.no.row g hg).2 (h.a5 g hg).1, newB_ne hn2 (h.no.row g hg).2 (h.a5 g hg).2⟩, fun g hg => ⟨newB_ne hn (h.no.mp.lt g hg) (h.a6 g hg).1, newB_ne hn2 (h.no.mp.lt g hg) (h.a6 g hg).2⟩⟩
end
theorem Kb.new {m : Int} {w w1 w2 : World} (h1 : IsNo w.heap.size w.heap.size none none m [] [] w1) (b1 : Below w.heap.size w w1) (h2 : IsRb w1.heap.size w1.heap.size none none (max m 1) [] [] w2) (b2 : Below w1.heap.size w1 w2) : Kb w.heap.size none none w1.heap.size none none m [] [] [] [] w w2 := by
  have hlt := h1.lt
  obtain ⟨vA, vN, hv, ho, e, ho2, e2⟩ := h2.ex
  exact ⟨h1.go b2, ⟨⟨vA, vN, hv, ho.mono b1.size, e, ho2.mono b1.size, e2⟩, h2.ne, h2.nne, h2.ap⟩, b1.trans (b2.mono b1.size), Nat.le_refl _, b1.size, by omega, by simp, by simp, by simp, by simp, (fun g hg => by cases hg), fun g hg => by cases hg⟩
/-- who fires behind j steps of the lists, all that was told by then -/
def nowL (ls : List (List Tx)) (j : Nat) : List Tx := match j with
  | 0 => []
  | k + 1 => canon ((ls.getD k []).take 8)
def allL (f : Nat → Int) (ls : List (List Tx)) : Nat → List Ent
  | 0 => []
  | k + 1 => stepE (allL f ls k) (nowL ls k) (f k) ((ls.getD k []).take 8)
theorem nowL_len (ls : List (List Tx)) (j : Nat) : (nowL ls j).length ≤ 8 := by
  cases j with
  | zero => simp [nowL]
  | succ k =>
    have := canon_len ((ls.getD k []).take 8)
    rw [List.length_take] at this
    show (canon ((ls.getD k []).take 8)).length ≤ 8
    omega
theorem nowL_asc (ls : List (List Tx)) (j : Nat) : Asc (nowL ls j) := by
  cases j with
  | zero => exact asc_nil
  | succ k => exact asc_canon _
theorem allL_len (f : Nat → Int) (ls : List (List Tx)) : ∀ j, (allL f ls j).length ≤ 16 * j
  | 0 => by simp [allL]
  | k + 1 => by
    have h1 := allL_len f ls k
    have h2 := nowL_len ls k
    have h3 := nowL_len ls (k + 1)
    have h4 := told_len (now := nowL ls (k + 1)) (old := nowL ls k)
    show (stepE _ _ _ _).length ≤ _
    rw [stepE_len]
    show _ + (told (nowL ls (k + 1)) (nowL ls k)).length ≤ _
    omega
theorem allL_seq (f : Nat → Int) (ls : List (List Tx)) : ∀ j, Seqs (allL f ls j)
  | 0 => Seqs.nil
  | k + 1 => (allL_seq f ls k).step _ _ _
end Go.Proofs.Ytneogelhdikcaaa.Nt
