/- Contracts of goesOn and join of package utf: for every byte; for every row of bytes of one rune. -/
import Derived.Test.YtkphainopofejaaDoorUtTabs
import Derived.Laws.BitsAllLaws
import Derived.Laws.BitsLemmas
namespace Go.Proofs.YtkphainopofejaaDoor.Ut
open Go.RowKit
set_option linter.unusedSimpArgs false
set_option linter.unusedVariables false

def goB (f : Fst) (i c : Int) : Bool := if i = 1 then decide (f.l ≤ c ∧ c ≤ f.h) else decide (128 ≤ c ∧ c ≤ 191)
theorem andn_all : ∀ n : Fin 256, (bits .andNot .u8 (n.val : Int) 63 == 128) = decide (128 ≤ (n.val : Int) ∧ (n.val : Int) ≤ 191) := by decide +kernel
theorem andn (c : Int) (h0 : 0 ≤ c) (h1 : c ≤ 255) : (bits .andNot .u8 c 63 == 128) = decide (128 ≤ c ∧ c ≤ 191) := by
  have h := andn_all ⟨c.toNat, by omega⟩
  have e : ((c.toNat : Nat) : Int) = c := by omega
  simp only [e] at h
  exact h

theorem goes_c (f : Fst) (i c : Int) (w : World) (h0 : 0 ≤ c) (h1 : c ≤ 255) : Calls Tryd.prog 86 #[fstV f, .int .i64 i, .int .u8 c] w fun e w' => e = .returned (.bool (goB f i c)) ∧ Below w.heap.size w w' := by
  obtain ⟨fa, fb, fs, fl, fh⟩ := f
  unfold fstV goB
  by_cases hi : i = 1
  · subst hi
    by_cases hl : fl ≤ c
    · go_enter Tryd.func86, Tryd.ntmps86
      go_wp2
      go_ret
      exact ⟨ret_bool (by simp [hl]), (Below.refl _ _).alloc (Nat.le_refl _) _⟩
    · have hd : decide (fl ≤ c) = false := by simpa using hl
      have HL := Lib.hid hl
      clear hl
      go_enter Tryd.func86, Tryd.ntmps86
      go_wp2
      go_ret
      exact ⟨ret_bool (by have h := HL.out; simp; try omega), (Below.refl _ _).alloc (Nat.le_refl _) _⟩
  · have hd : (i == 1) = false := by simpa using hi
    have HA := Lib.hid (andn c h0 h1)
    have HI := Lib.hid hi
    clear hi
    go_enter Tryd.func86, Tryd.ntmps86
    go_wp2
    go_ret
    exact ⟨ret_bool (by have h := HI.out; rw [HA.out]; simp), (Below.refl _ _).alloc (Nat.le_refl _) _⟩

/-- these bytes lie at that place -/
def Bts (w : World) (b off : Nat) (zs : List Int) : Prop := ∀ j (hj : j < zs.length), w.cell? ⟨b, off + j, none⟩ = some (.int .u8 zs[j])
theorem Bts.below {w w' : World} {b off : Nat} {zs : List Int} {B : Nat} (h : Bts w b off zs) (hb : Below B w w') (hB : b < B) : Bts w' b off zs := fun j hj => (hb.cell (p := ⟨b, off + j, none⟩) hB).trans (h j hj)
theorem Bts.drewN {w : World} {b off : Nat} {zs : List Int} (h : Bts w b off zs) (n : Nat) : Bts (w.drewN n) b off zs := h
def Byt (zs : List Int) : Prop := ∀ z ∈ zs, 0 ≤ z ∧ z ≤ 255
theorem Byt.at {zs : List Int} (h : Byt zs) (j : Nat) (hj : j < zs.length) : 0 ≤ zs[j] ∧ zs[j] ≤ 255 := h _ (List.getElem_mem hj)
def leadI (n : Nat) : Int := if n ≤ 1 then 0 else if n = 2 then 192 else if n = 3 then 224 else 240
theorem lead_cell {w : World} (h : Tabs w) (n : Nat) (hn : n ≤ 4) : w.cell? ⟨1, n, none⟩ = some (.int .u8 (leadI n)) := by
  obtain ⟨⟨t, f, h0⟩, _⟩ := h
  rw [blk_cell h0 n]
  match n, hn with
  | 0, _ => rfl
  | 1, _ => rfl
  | 2, _ => rfl
  | 3, _ => rfl
  | 4, _ => rfl

theorem xor_all : ∀ n : Fin 256, 128 ≤ n.val → n.val ≤ 191 → bits .xor .u8 (n.val : Int) 128 = (n.val : Int) - 128 := by decide +kernel
theorem xor_t (c : Int) (h0 : 128 ≤ c) (h1 : c ≤ 191) : bits .xor .u8 c 128 = c - 128 := by
  have h := xor_all ⟨c.toNat, by omega⟩ (by simp; omega) (by simp; omega)
  have e : ((c.toNat : Nat) : Int) = c := by omega
  simp only [e] at h
  exact h
theorem xa1 : ∀ n : Fin 256, 0 ≤ n.val → n.val ≤ 127 → bits .xor .u8 (n.val : Int) 0 = (n.val : Int) - 0 := by decide +kernel
theorem xl1 (c : Int) (h0 : 0 ≤ c) (h1 : c ≤ 127) : bits .xor .u8 c 0 = c - 0 := by
  have h := xa1 ⟨c.toNat, by omega⟩ (by simp; try omega) (by simp; omega)
  have e : ((c.toNat : Nat) : Int) = c := by omega
  simp only [e] at h
  exact h
theorem xa2 : ∀ n : Fin 256, 194 ≤ n.val → n.val ≤ 223 → bits .xor .u8 (n.val : Int) 192 = (n.val : Int) - 192 := by decide +kernel
theorem xl2 (c : Int) (h0 : 194 ≤ c) (h1 : c ≤ 223) : bits .xor .u8 c 192 = c - 192 := by
  have h := xa2 ⟨c.toNat, by omega⟩ (by simp; try omega) (by simp; omega)
  have e : ((c.toNat : Nat) : Int) = c := by omega
  simp only [e] at h
  exact h
theorem xa3 : ∀ n : Fin 256, 224 ≤ n.val → n.val ≤ 239 → bits .xor .u8 (n.val : Int) 224 = (n.val : Int) - 224 := by decide +kernel
theorem xl3 (c : Int) (h0 : 224 ≤ c) (h1 : c ≤ 239) : bits .xor .u8 c 224 = c - 224 := by
  have h := xa3 ⟨c.toNat, by omega⟩ (by simp; try omega) (by simp; omega)
  have e : ((c.toNat : Nat) : Int) = c := by omega
  simp only [e] at h
  exact h
theorem xa4 : ∀ n : Fin 256, 240 ≤ n.val → n.val ≤ 244 → bits .xor .u8 (n.val : Int) 240 = (n.val : Int) - 240 := by decide +kernel
theorem xl4 (c : Int) (h0 : 240 ≤ c) (h1 : c ≤ 244) : bits .xor .u8 c 240 = c - 240 := by
  have h := xa4 ⟨c.toNat, by omega⟩ (by simp; try omega) (by simp; omega)
  have e : ((c.toNat : Nat) : Int) = c := by omega
  simp only [e] at h
  exact h
theorem ret_i32 {a b : Int} (h : a = b) : Ending.returned (.int .i32 a) = .returned (.int .i32 b) := by rw [h]

set_option maxRecDepth 100000 in
set_option maxHeartbeats 1000000 in
theorem join1 (b off cap : Nat) (z0 : Int) (w : World) (hT : Tabs w) (c0 : w.cell? ⟨b, off, none⟩ = some (.int .u8 z0)) (hc : 1 ≤ cap) (hm : cap ≤ maxLen) (h0 : 0 ≤ z0) (h0' : z0 ≤ 127) :
    Calls Tryd.prog 87 #[.slice (some ⟨b, off, none⟩) 1 cap] w fun e w' => e = .returned (.int .i32 z0) ∧ Below w.heap.size w w' := by
  unfold maxLen at hm
  have l0 : w.cell? ⟨1, 1, none⟩ = some (.int .u8 0) := lead_cell hT 1 (by omega)
  have hx := xl1 z0 h0 h0'
  rw [Int.sub_zero] at hx
  by_cases hc1 : cap = 1
  · subst hc1
    go_enter Tryd.func87, Tryd.ntmps87
    go_wp2
    go_quiet (fail)
    go_wp2
    refine wp_loop_rounds 1 ?_
    rw [rounds_succ]
    go_wp2
    go_ret
    exact ⟨ret_i32 (by omega), below_drewN (Below.refl _ _) _⟩
  · go_enter Tryd.func87, Tryd.ntmps87
    go_wp2
    go_quiet (fail)
    go_wp2
    refine wp_loop_rounds 1 ?_
    rw [rounds_succ]
    go_wp2
    go_ret
    exact ⟨ret_i32 (by omega), below_drewN (Below.refl _ _) _⟩

set_option maxRecDepth 100000 in
set_option maxHeartbeats 1000000 in
theorem join2 (b off cap : Nat) (z0 z1 : Int) (w : World) (hT : Tabs w) (c0 : w.cell? ⟨b, off, none⟩ = some (.int .u8 z0)) (c1 : w.cell? ⟨b, off + 1, none⟩ = some (.int .u8 z1)) (hc : 2 ≤ cap) (hm : cap ≤ maxLen) (h0 : 194 ≤ z0) (h0' : z0 ≤ 223) (h1 : 128 ≤ z1) (h1' : z1 ≤ 191) :
    Calls Tryd.prog 87 #[.slice (some ⟨b, off, none⟩) 2 cap] w fun e w' => e = .returned (.int .i32 (64 * (z0 - 192) + z1 - 128)) ∧ Below w.heap.size w w' := by
  unfold maxLen at hm
  have l0 : w.cell? ⟨1, 2, none⟩ = some (.int .u8 192) := lead_cell hT 2 (by omega)
  have hx := xl2 z0 h0 h0'
  have e1 := xor_t z1 h1 h1'
  have hc1 : ¬ cap = 1 := by omega
  go_enter Tryd.func87, Tryd.ntmps87
  go_wp2
  go_quiet (fail)
  go_wp2
  refine wp_loop_rounds 2 ?_
  rw [rounds_succ]
  go_wp2
  rw [rounds_succ]
  go_wp2
  go_ret
  exact ⟨ret_i32 (by omega), below_drewN (Below.refl _ _) _⟩

set_option maxRecDepth 100000 in
set_option maxHeartbeats 1000000 in
theorem join3 (b off cap : Nat) (z0 z1 z2 : Int) (w : World) (hT : Tabs w) (c0 : w.cell? ⟨b, off, none⟩ = some (.int .u8 z0)) (c1 : w.cell? ⟨b, off + 1, none⟩ = some (.int .u8 z1)) (c2 : w.cell? ⟨b, off + 2, none⟩ = some (.int .u8 z2)) (hc : 3 ≤ cap) (hm : cap ≤ maxLen) (h0 : 224 ≤ z0) (h0' : z0 ≤ 239) (h1 : 128 ≤ z1) (h1' : z1 ≤ 191) (h2 : 128 ≤ z2) (h2' : z2 ≤ 191) :
    Calls Tryd.prog 87 #[.slice (some ⟨b, off, none⟩) 3 cap] w fun e w' => e = .returned (.int .i32 (64 * (64 * (z0 - 224) + z1 - 128) + z2 - 128)) ∧ Below w.heap.size w w' := by
  unfold maxLen at hm
  have l0 : w.cell? ⟨1, 3, none⟩ = some (.int .u8 224) := lead_cell hT 3 (by omega)
  have hx := xl3 z0 h0 h0'
  have e1 := xor_t z1 h1 h1'
  have e2 := xor_t z2 h2 h2'
  have hc1 : ¬ cap = 1 := by omega
  go_enter Tryd.func87, Tryd.ntmps87
  go_wp2
  go_quiet (fail)
  go_wp2
  refine wp_loop_rounds 3 ?_
  rw [rounds_succ]
  go_wp2
  rw [rounds_succ]
  go_wp2
  rw [rounds_succ]
  go_wp2
  go_ret
  exact ⟨ret_i32 (by omega), below_drewN (Below.refl _ _) _⟩

set_option maxRecDepth 100000 in
set_option maxHeartbeats 1000000 in
theorem join4 (b off cap : Nat) (z0 z1 z2 z3 : Int) (w : World) (hT : Tabs w) (c0 : w.cell? ⟨b, off, none⟩ = some (.int .u8 z0)) (c1 : w.cell? ⟨b, off + 1, none⟩ = some (.int .u8 z1)) (c2 : w.cell? ⟨b, off + 2, none⟩ = some (.int .u8 z2)) (c3 : w.cell? ⟨b, off + 3, none⟩ = some (.int .u8 z3)) (hc : 4 ≤ cap) (hm : cap ≤ maxLen) (h0 : 240 ≤ z0) (h0' : z0 ≤ 244) (h1 : 128 ≤ z1) (h1' : z1 ≤ 191) (h2 : 128 ≤ z2) (h2' : z2 ≤ 191) (h3 : 128 ≤ z3) (h3' : z3 ≤ 191) :
    Calls Tryd.prog 87 #[.slice (some ⟨b, off, none⟩) 4 cap] w fun e w' => e = .returned (.int .i32 (64 * (64 * (64 * (z0 - 240) + z1 - 128) + z2 - 128) + z3 - 128)) ∧ Below w.heap.size w w' := by
  unfold maxLen at hm
  have l0 : w.cell? ⟨1, 4, none⟩ = some (.int .u8 240) := lead_cell hT 4 (by omega)
  have hx := xl4 z0 h0 h0'
  have e1 := xor_t z1 h1 h1'
  have e2 := xor_t z2 h2 h2'
  have e3 := xor_t z3 h3 h3'
  have hc1 : ¬ cap = 1 := by omega
  go_enter Tryd.func87, Tryd.ntmps87
  go_wp2
  go_quiet (fail)
  go_wp2
  refine wp_loop_rounds 4 ?_
  rw [rounds_succ]
  go_wp2
  rw [rounds_succ]
  go_wp2
  rw [rounds_succ]
  go_wp2
  rw [rounds_succ]
  go_wp2
  go_ret
  exact ⟨ret_i32 (by omega), below_drewN (Below.refl _ _) _⟩
end Go.Proofs.YtkphainopofejaaDoor.Ut
