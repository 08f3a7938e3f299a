/- Contracts of the document's own Is, Put and value: for every number; for every row of at most a thousand bytes. -/
import Derived.Test.YtjgbfpkjkglfnaaGreatDoorUtAwake
import Derived.Laws.BytesArg
namespace Go.Proofs.YtjgbfpkjkglfnaaGreatDoor.Ut
open Go.RowKit
set_option linter.unusedSimpArgs false
set_option linter.unusedVariables false

def isR (v : Int) : Bool := decide (0 ≤ v ∧ v ≤ 1114111 ∧ (v < 55296 ∨ 57343 < v))
theorem is_r (v : Int) (w : World) : Calls Tryz.prog 94 #[.int .i64 v] w fun e w' => e = .returned (.bool (isR v)) ∧ w = w' := by
  unfold isR
  rcases (show v < 0 ∨ (0 ≤ v ∧ 1114111 < v) ∨ (0 ≤ v ∧ v ≤ 1114111 ∧ v < 55296) ∨ (0 ≤ v ∧ v ≤ 1114111 ∧ 55296 ≤ v) by omega) with h1 | ⟨h1, h2⟩ | ⟨h1, h2, h3⟩ | ⟨h1, h2, h3⟩
  all_goals
    go_enter Tryz.func94, Tryz.ntmps94
    go_wp2
    go_ret
    exact ⟨ret_bool (by rw [Bool.eq_iff_iff]; simp; omega), rfl⟩

/-- a rune's bytes -/
def putI (v : Int) : List Int :=
  if v < 128 then [v] else if v < 2048 then [192 + v / 64, 128 + v % 64] else if v < 65536 then [224 + v / 4096, 128 + v / 64 % 64, 128 + v % 64] else [240 + v / 262144, 128 + v / 4096 % 64, 128 + v / 64 % 64, 128 + v % 64]
theorem putI_len (v : Int) : 1 ≤ (putI v).length ∧ (putI v).length ≤ 4 := by unfold putI; (repeat' split) <;> simp

/-- a new slice of these bytes, and nothing else -/
def New (zs : List Int) (w : World) (e : Ending) (w' : World) : Prop := ∃ g cap, e = .returned (.slice (some ⟨g, 0, none⟩) zs.length cap) ∧ zs.length ≤ cap ∧ cap ≤ maxLen ∧ g < w'.heap.size ∧ Bts w' g 0 zs ∧ Below w.heap.size w w'

theorem bts_new (w : World) (zs : List Int) (cs : Array Value) (h : ∀ j (hj : j < zs.length), cs[j]? = some (.int .u8 zs[j])) : Bts (w.alloc (.cells cs 5)) w.heap.size 0 zs := by
  intro j hj
  rw [Nat.zero_add, World.cell?_alloc_at _ _ _ _ rfl]
  exact h j hj

set_option maxRecDepth 100000 in
set_option maxHeartbeats 1000000 in
theorem put_r (v : Int) (w : World) (h : isR v = true) : Calls Tryz.prog 95 #[.int .i64 v] w (New (putI v) w) := by
  have hb := of_decide_eq_true h
  obtain ⟨h0, h1, h2⟩ := hb
  have HI := Lib.hid (is_r v w)
  rw [h] at HI
  clear h h2
  rcases (show v < 128 ∨ (128 ≤ v ∧ v < 2048) ∨ (2048 ≤ v ∧ v < 65536) ∨ 65536 ≤ v by omega) with h3 | ⟨h3, h4⟩ | ⟨h3, h4⟩ | h3
  · have HE : Hid (putI v = [v]) := by show putI v = [v]; unfold putI; rw [if_pos h3]
    go_enter Tryz.func95, Tryz.ntmps95
    go_wp2_with (go_at_call 94; refine HI.out.mono ?_; rintro e w' ⟨rfl, rfl⟩)
    go_ret
    rw [HE.out]
    exact ⟨w.heap.size, 1, rfl, by simp, by unfold maxLen; omega, by simp, bts_new w _ _ (fun j hj => by match j, hj with | 0, _ => rfl), (Below.refl _ _).alloc (Nat.le_refl _) _⟩
  · have HE : Hid (putI v = [192 + v / 64, 128 + v % 64]) := by show putI v = [192 + v / 64, 128 + v % 64]; unfold putI; rw [if_neg (by omega), if_pos h4]
    go_enter Tryz.func95, Tryz.ntmps95
    go_wp2_with (go_at_call 94; refine HI.out.mono ?_; rintro e w' ⟨rfl, rfl⟩)
    go_ret
    rw [HE.out]
    exact ⟨w.heap.size, 2, rfl, by simp, by unfold maxLen; omega, by simp, bts_new w _ _ (fun j hj => by match j, hj with | 0, _ => rfl | 1, _ => rfl), (Below.refl _ _).alloc (Nat.le_refl _) _⟩
  · have HE : Hid (putI v = [224 + v / 4096, 128 + v / 64 % 64, 128 + v % 64]) := by show putI v = [224 + v / 4096, 128 + v / 64 % 64, 128 + v % 64]; unfold putI; rw [if_neg (by omega), if_neg (by omega), if_pos h4]
    go_enter Tryz.func95, Tryz.ntmps95
    go_wp2_with (go_at_call 94; refine HI.out.mono ?_; rintro e w' ⟨rfl, rfl⟩)
    go_ret
    rw [HE.out]
    exact ⟨w.heap.size, 3, rfl, by simp, by unfold maxLen; omega, by simp, bts_new w _ _ (fun j hj => by match j, hj with | 0, _ => rfl | 1, _ => rfl | 2, _ => rfl), (Below.refl _ _).alloc (Nat.le_refl _) _⟩
  · have HE : Hid (putI v = [240 + v / 262144, 128 + v / 4096 % 64, 128 + v / 64 % 64, 128 + v % 64]) := by show putI v = [240 + v / 262144, 128 + v / 4096 % 64, 128 + v / 64 % 64, 128 + v % 64]; unfold putI; rw [if_neg (by omega), if_neg (by omega), if_neg (by omega)]
    go_enter Tryz.func95, Tryz.ntmps95
    go_wp2_with (go_at_call 94; refine HI.out.mono ?_; rintro e w' ⟨rfl, rfl⟩)
    go_ret
    rw [HE.out]
    exact ⟨w.heap.size, 4, rfl, by simp, by unfold maxLen; omega, by simp, bts_new w _ _ (fun j hj => by match j, hj with | 0, _ => rfl | 1, _ => rfl | 2, _ => rfl | 3, _ => rfl), (Below.refl _ _).alloc (Nat.le_refl _) _⟩
theorem ret_i64 {a b : Int} (h : a = b) : Ending.returned (.int .i64 a) = .returned (.int .i64 b) := by rw [h]

set_option maxRecDepth 100000 in
set_option maxHeartbeats 2000000 in
theorem value1 (b off m cap : Nat) (z0 : Int) (w : World) (hbw : b < w.heap.size) (c0 : w.cell? ⟨b, off, none⟩ = some (.int .u8 z0)) (hm : 1 ≤ m) (hmm : m ≤ maxLen) (h0 : 0 ≤ z0) (h0' : z0 ≤ 255) :
    Calls Tryz.prog 93 #[.slice (some ⟨b, off, none⟩) m cap, .int .i64 1] w fun e w' => e = .returned (.int .i64 z0) ∧ Below w.heap.size w w' := by
  unfold maxLen at hmm
  have m0 : (0 : Int) < (m : Int) := by omega
  have HB : Hid (b < w.heap.size) := hbw
  go_enter Tryz.func93, Tryz.ntmps93
  go_wp2
  go_region
  generalize hW : (w.alloc (.cells #[.int .i64 0, .int .i64 0, .int .i64 192, .int .i64 224, .int .i64 240] 3)).drew = W1
  have HBL : Hid (Below w.heap.size w W1) := by rw [← hW]; exact ((Below.refl _ _).alloc (Nat.le_refl _) _).drew
  clear hW
  have e0 : W1.cell? ⟨b, off, none⟩ = some (.int .u8 z0) := (HBL.out.cell (p := ⟨b, off, none⟩) HB.out).trans c0
  clear c0
  go_wp2
  refine wp_loop_rounds 1 ?_
  rw [rounds_succ]
  go_wp2
  go_ret
  exact ⟨ret_i64 (by omega), HBL.out⟩

set_option maxRecDepth 100000 in
set_option maxHeartbeats 2000000 in
theorem value2 (b off m cap : Nat) (z0 z1 : Int) (w : World) (hbw : b < w.heap.size) (c0 : w.cell? ⟨b, off, none⟩ = some (.int .u8 z0)) (c1 : w.cell? ⟨b, off + 1, none⟩ = some (.int .u8 z1)) (hm : 2 ≤ m) (hmm : m ≤ maxLen) (h0 : 0 ≤ z0) (h0' : z0 ≤ 255) (h1 : 0 ≤ z1) (h1' : z1 ≤ 255) :
    Calls Tryz.prog 93 #[.slice (some ⟨b, off, none⟩) m cap, .int .i64 2] w fun e w' => e = .returned (.int .i64 (64 * (z0 - 192) + z1 - 128)) ∧ Below w.heap.size w w' := by
  unfold maxLen at hmm
  have m0 : (0 : Int) < (m : Int) := by omega
  have m1 : (1 : Int) < (m : Int) := by omega
  have HB : Hid (b < w.heap.size) := hbw
  go_enter Tryz.func93, Tryz.ntmps93
  go_wp2
  go_region
  generalize hW : (w.alloc (.cells #[.int .i64 0, .int .i64 0, .int .i64 192, .int .i64 224, .int .i64 240] 3)).drew = W1
  have HBL : Hid (Below w.heap.size w W1) := by rw [← hW]; exact ((Below.refl _ _).alloc (Nat.le_refl _) _).drew
  clear hW
  have e0 : W1.cell? ⟨b, off, none⟩ = some (.int .u8 z0) := (HBL.out.cell (p := ⟨b, off, none⟩) HB.out).trans c0
  have e1 : W1.cell? ⟨b, off + 1, none⟩ = some (.int .u8 z1) := (HBL.out.cell (p := ⟨b, off + 1, none⟩) HB.out).trans c1
  clear c0 c1
  go_wp2
  refine wp_loop_rounds 2 ?_
  rw [rounds_succ]
  go_wp2
  rw [rounds_succ]
  go_wp2
  go_ret
  exact ⟨ret_i64 (by omega), HBL.out⟩

set_option maxRecDepth 100000 in
set_option maxHeartbeats 2000000 in
theorem value3 (b off m cap : Nat) (z0 z1 z2 : Int) (w : World) (hbw : b < w.heap.size) (c0 : w.cell? ⟨b, off, none⟩ = some (.int .u8 z0)) (c1 : w.cell? ⟨b, off + 1, none⟩ = some (.int .u8 z1)) (c2 : w.cell? ⟨b, off + 2, none⟩ = some (.int .u8 z2)) (hm : 3 ≤ m) (hmm : m ≤ maxLen) (h0 : 0 ≤ z0) (h0' : z0 ≤ 255) (h1 : 0 ≤ z1) (h1' : z1 ≤ 255) (h2 : 0 ≤ z2) (h2' : z2 ≤ 255) :
    Calls Tryz.prog 93 #[.slice (some ⟨b, off, none⟩) m cap, .int .i64 3] w fun e w' => e = .returned (.int .i64 (64 * (64 * (z0 - 224) + z1 - 128) + z2 - 128)) ∧ Below w.heap.size w w' := by
  unfold maxLen at hmm
  have m0 : (0 : Int) < (m : Int) := by omega
  have m1 : (1 : Int) < (m : Int) := by omega
  have m2 : (2 : Int) < (m : Int) := by omega
  have HB : Hid (b < w.heap.size) := hbw
  go_enter Tryz.func93, Tryz.ntmps93
  go_wp2
  go_region
  generalize hW : (w.alloc (.cells #[.int .i64 0, .int .i64 0, .int .i64 192, .int .i64 224, .int .i64 240] 3)).drew = W1
  have HBL : Hid (Below w.heap.size w W1) := by rw [← hW]; exact ((Below.refl _ _).alloc (Nat.le_refl _) _).drew
  clear hW
  have e0 : W1.cell? ⟨b, off, none⟩ = some (.int .u8 z0) := (HBL.out.cell (p := ⟨b, off, none⟩) HB.out).trans c0
  have e1 : W1.cell? ⟨b, off + 1, none⟩ = some (.int .u8 z1) := (HBL.out.cell (p := ⟨b, off + 1, none⟩) HB.out).trans c1
  have e2 : W1.cell? ⟨b, off + 2, none⟩ = some (.int .u8 z2) := (HBL.out.cell (p := ⟨b, off + 2, none⟩) HB.out).trans c2
  clear c0 c1 c2
  go_wp2
  refine wp_loop_rounds 3 ?_
  rw [rounds_succ]
  go_wp2
  rw [rounds_succ]
  go_wp2
  rw [rounds_succ]
  go_wp2
  go_ret
  exact ⟨ret_i64 (by omega), HBL.out⟩

set_option maxRecDepth 100000 in
set_option maxHeartbeats 2000000 in
theorem value4 (b off m cap : Nat) (z0 z1 z2 z3 : Int) (w : World) (hbw : b < w.heap.size) (c0 : w.cell? ⟨b, off, none⟩ = some (.int .u8 z0)) (c1 : w.cell? ⟨b, off + 1, none⟩ = some (.int .u8 z1)) (c2 : w.cell? ⟨b, off + 2, none⟩ = some (.int .u8 z2)) (c3 : w.cell? ⟨b, off + 3, none⟩ = some (.int .u8 z3)) (hm : 4 ≤ m) (hmm : m ≤ maxLen) (h0 : 0 ≤ z0) (h0' : z0 ≤ 255) (h1 : 0 ≤ z1) (h1' : z1 ≤ 255) (h2 : 0 ≤ z2) (h2' : z2 ≤ 255) (h3 : 0 ≤ z3) (h3' : z3 ≤ 255) :
    Calls Tryz.prog 93 #[.slice (some ⟨b, off, none⟩) m cap, .int .i64 4] w fun e w' => e = .returned (.int .i64 (64 * (64 * (64 * (z0 - 240) + z1 - 128) + z2 - 128) + z3 - 128)) ∧ Below w.heap.size w w' := by
  unfold maxLen at hmm
  have m0 : (0 : Int) < (m : Int) := by omega
  have m1 : (1 : Int) < (m : Int) := by omega
  have m2 : (2 : Int) < (m : Int) := by omega
  have m3 : (3 : Int) < (m : Int) := by omega
  have HB : Hid (b < w.heap.size) := hbw
  go_enter Tryz.func93, Tryz.ntmps93
  go_wp2
  go_region
  generalize hW : (w.alloc (.cells #[.int .i64 0, .int .i64 0, .int .i64 192, .int .i64 224, .int .i64 240] 3)).drew = W1
  have HBL : Hid (Below w.heap.size w W1) := by rw [← hW]; exact ((Below.refl _ _).alloc (Nat.le_refl _) _).drew
  clear hW
  have e0 : W1.cell? ⟨b, off, none⟩ = some (.int .u8 z0) := (HBL.out.cell (p := ⟨b, off, none⟩) HB.out).trans c0
  have e1 : W1.cell? ⟨b, off + 1, none⟩ = some (.int .u8 z1) := (HBL.out.cell (p := ⟨b, off + 1, none⟩) HB.out).trans c1
  have e2 : W1.cell? ⟨b, off + 2, none⟩ = some (.int .u8 z2) := (HBL.out.cell (p := ⟨b, off + 2, none⟩) HB.out).trans c2
  have e3 : W1.cell? ⟨b, off + 3, none⟩ = some (.int .u8 z3) := (HBL.out.cell (p := ⟨b, off + 3, none⟩) HB.out).trans c3
  clear c0 c1 c2 c3
  go_wp2
  refine wp_loop_rounds 4 ?_
  rw [rounds_succ]
  go_wp2
  rw [rounds_succ]
  go_wp2
  rw [rounds_succ]
  go_wp2
  rw [rounds_succ]
  go_wp2
  go_ret
  exact ⟨ret_i64 (by omega), HBL.out⟩

theorem value_r (b off m cap n : Nat) (zs : List Int) (w : World) (hbw : b < w.heap.size) (hB : Bts w b off zs) (hy : Byt zs) (h1 : 1 ≤ n) (h4 : n ≤ 4) (hn : n ≤ zs.length) (hm : zs.length ≤ m) (hmm : m ≤ maxLen) :
    Calls Tryz.prog 93 #[.slice (some ⟨b, off, none⟩) m cap, .int .i64 (n : Int)] w fun e w' => e = .returned (.int .i64 (valT zs n)) ∧ Below w.heap.size w w' := by
  have c0 := bts_at hB 0 (by omega)
  simp only [Nat.add_zero] at c0
  have y0 := byt_at hy 0 (by omega)
  match n, h1, h4 with
  | 1, _, _ => exact value1 b off m cap _ w hbw c0 (by omega) hmm y0.1 y0.2
  | 2, _, _ =>
    have y1 := byt_at hy 1 (by omega)
    exact value2 b off m cap _ _ w hbw c0 (bts_at hB 1 (by omega)) (by omega) hmm y0.1 y0.2 y1.1 y1.2
  | 3, _, _ =>
    have y1 := byt_at hy 1 (by omega)
    have y2 := byt_at hy 2 (by omega)
    exact value3 b off m cap _ _ _ w hbw c0 (bts_at hB 1 (by omega)) (bts_at hB 2 (by omega)) (by omega) hmm y0.1 y0.2 y1.1 y1.2 y2.1 y2.2
  | 4, _, _ =>
    have y1 := byt_at hy 1 (by omega)
    have y2 := byt_at hy 2 (by omega)
    have y3 := byt_at hy 3 (by omega)
    exact value4 b off m cap _ _ _ _ w hbw c0 (bts_at hB 1 (by omega)) (bts_at hB 2 (by omega)) (bts_at hB 3 (by omega)) (by omega) hmm y0.1 y0.2 y1.1 y1.2 y2.1 y2.2 y3.1 y3.2
end Go.Proofs.YtjgbfpkjkglfnaaGreatDoor.Ut
