/- Contracts and plain mathematics of some packages' functions, laid together; conditions as each one says. -/
import Derived.Test.YtpgllcdcpdeicaaGreatDoorUtTabs
import Derived.Laws.BitsAllLaws
import Derived.Laws.BitsLemmas
import Derived.StillTailTactics
import Derived.Deep.RegionHeld3
import Derived.Laws.BytesArg
import Derived.Deep.RegionWith
import Derived.Lib.SmallJoins
import Derived.Laws.IdiomStrings
import Derived.Lib.IndexBytes
namespace Go.Proofs.YtpgllcdcpdeicaaGreatDoor.Ut
open Go.RowKit
set_option linter.unusedSimpArgs false
set_option linter.unusedVariables false

def goB (f : Fst) (i c : Int) : Bool := if i = 1 then decide (f.l ≤ c ∧ c ≤ f.h) else decide (128 ≤ c ∧ c ≤ 191)
theorem andn_all : ∀ n : Fin 256, (bits .andNot .u8 (n.val : Int) 63 == 128) = decide (128 ≤ (n.val : Int) ∧ (n.val : Int) ≤ 191) := by decide +kernel
theorem andn (c : Int) (h0 : 0 ≤ c) (h1 : c ≤ 255) : (bits .andNot .u8 c 63 == 128) = decide (128 ≤ c ∧ c ≤ 191) := by
  have h := andn_all ⟨c.toNat, by omega⟩
  have e : ((c.toNat : Nat) : Int) = c := by omega
  simp only [e] at h
  exact h

theorem goes_c (f : Fst) (i c : Int) (w : World) (h0 : 0 ≤ c) (h1 : c ≤ 255) : Calls Tryz.prog 101 #[fstV f, .int .i64 i, .int .u8 c] w fun e w' => e = .returned (.bool (goB f i c)) ∧ Below w.heap.size w w' := by
  obtain ⟨fa, fb, fs, fl, fh⟩ := f
  unfold fstV goB
  by_cases hi : i = 1
  · subst hi
    by_cases hl : fl ≤ c
    · go_enter Tryz.func101, Tryz.ntmps101
      go_wp2
      go_ret
      exact ⟨ret_bool (by simp [hl]), (Below.refl _ _).alloc (Nat.le_refl _) _⟩
    · have hd : decide (fl ≤ c) = false := by simpa using hl
      have HL := Lib.hid hl
      clear hl
      go_enter Tryz.func101, Tryz.ntmps101
      go_wp2
      go_ret
      exact ⟨ret_bool (by have h := HL.out; simp; try omega), (Below.refl _ _).alloc (Nat.le_refl _) _⟩
  · have hd : (i == 1) = false := by simpa using hi
    have HA := Lib.hid (andn c h0 h1)
    have HI := Lib.hid hi
    clear hi
    go_enter Tryz.func101, Tryz.ntmps101
    go_wp2
    go_ret
    exact ⟨ret_bool (by have h := HI.out; rw [HA.out]; simp), (Below.refl _ _).alloc (Nat.le_refl _) _⟩

/-- these bytes lie at that place -/
def Bts (w : World) (b off : Nat) (zs : List Int) : Prop := ∀ j (hj : j < zs.length), w.cell? ⟨b, off + j, none⟩ = some (.int .u8 zs[j])
theorem Bts.below {w w' : World} {b off : Nat} {zs : List Int} {B : Nat} (h : Bts w b off zs) (hb : Below B w w') (hB : b < B) : Bts w' b off zs := fun j hj => (hb.cell (p := ⟨b, off + j, none⟩) hB).trans (h j hj)
theorem Bts.drewN {w : World} {b off : Nat} {zs : List Int} (h : Bts w b off zs) (n : Nat) : Bts (w.drewN n) b off zs := h
def Byt (zs : List Int) : Prop := ∀ z ∈ zs, 0 ≤ z ∧ z ≤ 255
theorem Byt.at {zs : List Int} (h : Byt zs) (j : Nat) (hj : j < zs.length) : 0 ≤ zs[j] ∧ zs[j] ≤ 255 := h _ (List.getElem_mem hj)
def leadI (n : Nat) : Int := if n ≤ 1 then 0 else if n = 2 then 192 else if n = 3 then 224 else 240
theorem lead_cell {w : World} (h : Tabs w) (n : Nat) (hn : n ≤ 4) : w.cell? ⟨1, n, none⟩ = some (.int .u8 (leadI n)) := by
  obtain ⟨⟨t, f, h0⟩, _⟩ := h
  rw [blk_cell h0 n]
  match n, hn with
  | 0, _ => rfl
  | 1, _ => rfl
  | 2, _ => rfl
  | 3, _ => rfl
  | 4, _ => rfl

theorem xor_all : ∀ n : Fin 256, 128 ≤ n.val → n.val ≤ 191 → bits .xor .u8 (n.val : Int) 128 = (n.val : Int) - 128 := by decide +kernel
theorem xor_t (c : Int) (h0 : 128 ≤ c) (h1 : c ≤ 191) : bits .xor .u8 c 128 = c - 128 := by
  have h := xor_all ⟨c.toNat, by omega⟩ (by simp; omega) (by simp; omega)
  have e : ((c.toNat : Nat) : Int) = c := by omega
  simp only [e] at h
  exact h
theorem xa1 : ∀ n : Fin 256, 0 ≤ n.val → n.val ≤ 127 → bits .xor .u8 (n.val : Int) 0 = (n.val : Int) - 0 := by decide +kernel
theorem xl1 (c : Int) (h0 : 0 ≤ c) (h1 : c ≤ 127) : bits .xor .u8 c 0 = c - 0 := by
  have h := xa1 ⟨c.toNat, by omega⟩ (by simp; try omega) (by simp; omega)
  have e : ((c.toNat : Nat) : Int) = c := by omega
  simp only [e] at h
  exact h
theorem xa2 : ∀ n : Fin 256, 194 ≤ n.val → n.val ≤ 223 → bits .xor .u8 (n.val : Int) 192 = (n.val : Int) - 192 := by decide +kernel
theorem xl2 (c : Int) (h0 : 194 ≤ c) (h1 : c ≤ 223) : bits .xor .u8 c 192 = c - 192 := by
  have h := xa2 ⟨c.toNat, by omega⟩ (by simp; try omega) (by simp; omega)
  have e : ((c.toNat : Nat) : Int) = c := by omega
  simp only [e] at h
  exact h
theorem xa3 : ∀ n : Fin 256, 224 ≤ n.val → n.val ≤ 239 → bits .xor .u8 (n.val : Int) 224 = (n.val : Int) - 224 := by decide +kernel
theorem xl3 (c : Int) (h0 : 224 ≤ c) (h1 : c ≤ 239) : bits .xor .u8 c 224 = c - 224 := by
  have h := xa3 ⟨c.toNat, by omega⟩ (by simp; try omega) (by simp; omega)
  have e : ((c.toNat : Nat) : Int) = c := by omega
  simp only [e] at h
  exact h
theorem xa4 : ∀ n : Fin 256, 240 ≤ n.val → n.val ≤ 244 → bits .xor .u8 (n.val : Int) 240 = (n.val : Int) - 240 := by decide +kernel
theorem xl4 (c : Int) (h0 : 240 ≤ c) (h1 : c ≤ 244) : bits .xor .u8 c 240 = c - 240 := by
  have h := xa4 ⟨c.toNat, by omega⟩ (by simp; try omega) (by simp; omega)
  have e : ((c.toNat : Nat) : Int) = c := by omega
  simp only [e] at h
  exact h
theorem ret_i32 {a b : Int} (h : a = b) : Ending.returned (.int .i32 a) = .returned (.int .i32 b) := by rw [h]

set_option maxRecDepth 100000 in
set_option maxHeartbeats 1000000 in
theorem join1 (b off cap : Nat) (z0 : Int) (w : World) (hT : Tabs w) (c0 : w.cell? ⟨b, off, none⟩ = some (.int .u8 z0)) (hc : 1 ≤ cap) (hm : cap ≤ maxLen) (h0 : 0 ≤ z0) (h0' : z0 ≤ 127) :
    Calls Tryz.prog 102 #[.slice (some ⟨b, off, none⟩) 1 cap] w fun e w' => e = .returned (.int .i32 z0) ∧ Below w.heap.size w w' := by
  unfold maxLen at hm
  have l0 : w.cell? ⟨1, 1, none⟩ = some (.int .u8 0) := lead_cell hT 1 (by omega)
  have hx := xl1 z0 h0 h0'
  rw [Int.sub_zero] at hx
  by_cases hc1 : cap = 1
  · subst hc1
    go_enter Tryz.func102, Tryz.ntmps102
    go_wp2
    go_quiet (fail)
    go_wp2
    refine wp_loop_rounds 1 ?_
    rw [rounds_succ]
    go_wp2
    go_ret
    exact ⟨ret_i32 (by omega), below_drewN (Below.refl _ _) _⟩
  · go_enter Tryz.func102, Tryz.ntmps102
    go_wp2
    go_quiet (fail)
    go_wp2
    refine wp_loop_rounds 1 ?_
    rw [rounds_succ]
    go_wp2
    go_ret
    exact ⟨ret_i32 (by omega), below_drewN (Below.refl _ _) _⟩

set_option maxRecDepth 100000 in
set_option maxHeartbeats 1000000 in
theorem join2 (b off cap : Nat) (z0 z1 : Int) (w : World) (hT : Tabs w) (c0 : w.cell? ⟨b, off, none⟩ = some (.int .u8 z0)) (c1 : w.cell? ⟨b, off + 1, none⟩ = some (.int .u8 z1)) (hc : 2 ≤ cap) (hm : cap ≤ maxLen) (h0 : 194 ≤ z0) (h0' : z0 ≤ 223) (h1 : 128 ≤ z1) (h1' : z1 ≤ 191) :
    Calls Tryz.prog 102 #[.slice (some ⟨b, off, none⟩) 2 cap] w fun e w' => e = .returned (.int .i32 (64 * (z0 - 192) + z1 - 128)) ∧ Below w.heap.size w w' := by
  unfold maxLen at hm
  have l0 : w.cell? ⟨1, 2, none⟩ = some (.int .u8 192) := lead_cell hT 2 (by omega)
  have hx := xl2 z0 h0 h0'
  have e1 := xor_t z1 h1 h1'
  have hc1 : ¬ cap = 1 := by omega
  go_enter Tryz.func102, Tryz.ntmps102
  go_wp2
  go_quiet (fail)
  go_wp2
  refine wp_loop_rounds 2 ?_
  rw [rounds_succ]
  go_wp2
  rw [rounds_succ]
  go_wp2
  go_ret
  exact ⟨ret_i32 (by omega), below_drewN (Below.refl _ _) _⟩

set_option maxRecDepth 100000 in
set_option maxHeartbeats 1000000 in
theorem join3 (b off cap : Nat) (z0 z1 z2 : Int) (w : World) (hT : Tabs w) (c0 : w.cell? ⟨b, off, none⟩ = some (.int .u8 z0)) (c1 : w.cell? ⟨b, off + 1, none⟩ = some (.int .u8 z1)) (c2 : w.cell? ⟨b, off + 2, none⟩ = some (.int .u8 z2)) (hc : 3 ≤ cap) (hm : cap ≤ maxLen) (h0 : 224 ≤ z0) (h0' : z0 ≤ 239) (h1 : 128 ≤ z1) (h1' : z1 ≤ 191) (h2 : 128 ≤ z2) (h2' : z2 ≤ 191) :
    Calls Tryz.prog 102 #[.slice (some ⟨b, off, none⟩) 3 cap] w fun e w' => e = .returned (.int .i32 (64 * (64 * (z0 - 224) + z1 - 128) + z2 - 128)) ∧ Below w.heap.size w w' := by
  unfold maxLen at hm
  have l0 : w.cell? ⟨1, 3, none⟩ = some (.int .u8 224) := lead_cell hT 3 (by omega)
  have hx := xl3 z0 h0 h0'
  have e1 := xor_t z1 h1 h1'
  have e2 := xor_t z2 h2 h2'
  have hc1 : ¬ cap = 1 := by omega
  go_enter Tryz.func102, Tryz.ntmps102
  go_wp2
  go_quiet (fail)
  go_wp2
  refine wp_loop_rounds 3 ?_
  rw [rounds_succ]
  go_wp2
  rw [rounds_succ]
  go_wp2
  rw [rounds_succ]
  go_wp2
  go_ret
  exact ⟨ret_i32 (by omega), below_drewN (Below.refl _ _) _⟩

set_option maxRecDepth 100000 in
set_option maxHeartbeats 1000000 in
theorem join4 (b off cap : Nat) (z0 z1 z2 z3 : Int) (w : World) (hT : Tabs w) (c0 : w.cell? ⟨b, off, none⟩ = some (.int .u8 z0)) (c1 : w.cell? ⟨b, off + 1, none⟩ = some (.int .u8 z1)) (c2 : w.cell? ⟨b, off + 2, none⟩ = some (.int .u8 z2)) (c3 : w.cell? ⟨b, off + 3, none⟩ = some (.int .u8 z3)) (hc : 4 ≤ cap) (hm : cap ≤ maxLen) (h0 : 240 ≤ z0) (h0' : z0 ≤ 244) (h1 : 128 ≤ z1) (h1' : z1 ≤ 191) (h2 : 128 ≤ z2) (h2' : z2 ≤ 191) (h3 : 128 ≤ z3) (h3' : z3 ≤ 191) :
    Calls Tryz.prog 102 #[.slice (some ⟨b, off, none⟩) 4 cap] w fun e w' => e = .returned (.int .i32 (64 * (64 * (64 * (z0 - 240) + z1 - 128) + z2 - 128) + z3 - 128)) ∧ Below w.heap.size w w' := by
  unfold maxLen at hm
  have l0 : w.cell? ⟨1, 4, none⟩ = some (.int .u8 240) := lead_cell hT 4 (by omega)
  have hx := xl4 z0 h0 h0'
  have e1 := xor_t z1 h1 h1'
  have e2 := xor_t z2 h2 h2'
  have e3 := xor_t z3 h3 h3'
  have hc1 : ¬ cap = 1 := by omega
  go_enter Tryz.func102, Tryz.ntmps102
  go_wp2
  go_quiet (fail)
  go_wp2
  refine wp_loop_rounds 4 ?_
  rw [rounds_succ]
  go_wp2
  rw [rounds_succ]
  go_wp2
  rw [rounds_succ]
  go_wp2
  rw [rounds_succ]
  go_wp2
  go_ret
  exact ⟨ret_i32 (by omega), below_drewN (Below.refl _ _) _⟩
end Go.Proofs.YtpgllcdcpdeicaaGreatDoor.Ut
namespace Go.Proofs.YtpgllcdcpdeicaaGreatDoor.Ut
open Go.RowKit
set_option linter.unusedSimpArgs false
set_option linter.unusedVariables false

def lo2 (z : Int) : Int := if z = 224 then 160 else if z = 240 then 144 else 128
def hi2 (z : Int) : Int := if z = 237 then 159 else if z = 244 then 143 else 191
/-- how many bytes a rune has that begins so; none: 0 -/
def szI (z : Int) : Nat := if z ≤ 127 then 1 else if z < 194 then 0 else if z ≤ 223 then 2 else if z ≤ 239 then 3 else if z ≤ 244 then 4 else 0
def gd (zs : List Int) (j : Nat) : Int := zs.getD j 0
/-- may the byte at place j stand there? -/
def okAt (zs : List Int) (j : Nat) : Prop := if j = 1 then lo2 (gd zs 0) ≤ gd zs 1 ∧ gd zs 1 ≤ hi2 (gd zs 0) else 128 ≤ gd zs j ∧ gd zs j ≤ 191
instance (zs : List Int) (j : Nat) : Decidable (okAt zs j) := by unfold okAt; infer_instance
/-- do the bytes up to place h go on? -/
def okTo (zs : List Int) (h : Nat) : Prop := ∀ j, j < h → 1 ≤ j → okAt zs j
instance (zs : List Int) (h : Nat) : Decidable (okTo zs h) := by unfold okTo; infer_instance
def valT (zs : List Int) (n : Nat) : Int :=
  if n = 1 then gd zs 0 else if n = 2 then 64 * (gd zs 0 - 192) + gd zs 1 - 128 else if n = 3 then 64 * (64 * (gd zs 0 - 224) + gd zs 1 - 128) + gd zs 2 - 128
  else 64 * (64 * (64 * (gd zs 0 - 240) + gd zs 1 - 128) + gd zs 2 - 128) + gd zs 3 - 128
/-- the document's answer: the rune and how many bytes; 0: none; -1: a beginning -/
def nextR (zs : List Int) : Int × Int :=
  if szI (gd zs 0) = 0 then (0, 0) else if okTo zs (min zs.length (szI (gd zs 0))) then (if zs.length < szI (gd zs 0) then (0, -1) else (valT zs (szI (gd zs 0)), szI (gd zs 0))) else (0, 0)

theorem row_mem {z : Int} {f : Fst} (h : rowOf z = some f) : f ∈ rowsL ∧ f.a ≤ z ∧ z ≤ f.b := by
  unfold rowOf at h
  have h2 := List.find?_some h
  exact ⟨List.mem_of_find?_eq_some h, of_decide_eq_true h2⟩
theorem row_some {z : Int} {f : Fst} (h0 : 0 ≤ z) (h : rowOf z = some f) : f.s = szI z ∧ 1 ≤ szI z ∧ szI z ≤ 4 ∧ (2 ≤ szI z → f.l = lo2 z ∧ f.h = hi2 z) := by
  obtain ⟨hm, ha, hb⟩ := row_mem h
  simp only [rowsL, List.mem_cons, List.mem_nil_iff, or_false] at hm
  unfold szI lo2 hi2
  rcases hm with rfl | rfl | rfl | rfl | rfl | rfl | rfl | rfl | rfl
  all_goals (simp only at ha hb ⊢; split <;> (try split) <;> (try split) <;> (try split) <;> (try split) <;> first | omega | (refine ⟨by omega, by omega, by omega, fun _ => ⟨?_, ?_⟩⟩ <;> (repeat' split) <;> omega) | skip)
theorem row_none {z : Int} (h0 : 0 ≤ z) (h : rowOf z = none) : szI z = 0 := by
  unfold rowOf at h
  rw [List.find?_eq_none] at h
  have hh : ∀ f ∈ rowsL, ¬ (f.a ≤ z ∧ z ≤ f.b) := fun f hf hc => h f hf (by unfold hitB; simpa using hc)
  simp only [rowsL, List.mem_cons, List.mem_nil_iff, or_false, forall_eq_or_imp, forall_eq] at hh
  unfold szI
  obtain ⟨a0, a1, a2, a3, a4, a5, a6, a7, a8⟩ := hh
  repeat' split
  all_goals omega

def tup3 (r n e : Int) : Ending := .returned (.tuple #[.int .i32 r, .int .i64 n, .int .i64 e])

theorem next_nil (A : Option Addr) (cap : Nat) (w : World) : Calls Tryz.prog 94 #[.slice A 0 cap] w fun e w' => e = tup3 0 0 6 ∧ Below w.heap.size w w' := by
  unfold tup3
  go_enter Tryz.func94, Tryz.ntmps94
  go_wp2
  go_ret3
  exact ⟨rfl, Below.refl _ _⟩

theorem firstOf_no (c : Int) (w : World) (hT : Tabs w) (h0 : 0 ≤ c) (h1 : c ≤ 255) (h : rowOf c = none) : Calls Tryz.prog 100 #[.int .u8 c] w fun e w' => e = .returned (.tuple #[fstV zeroF, .bool false]) ∧ Below w.heap.size w w' :=
  (firstOf_c c w hT h0 h1).mono fun e w' hp => by unfold FPost at hp; rw [h] at hp; exact hp
theorem firstOf_yes (c : Int) (f : Fst) (w : World) (hT : Tabs w) (h0 : 0 ≤ c) (h1 : c ≤ 255) (h : rowOf c = some f) : Calls Tryz.prog 100 #[.int .u8 c] w fun e w' => e = .returned (.tuple #[fstV f, .bool true]) ∧ Below w.heap.size w w' :=
  (firstOf_c c w hT h0 h1).mono fun e w' hp => by unfold FPost at hp; rw [h] at hp; exact hp

theorem next_no (b off n cap : Nat) (z : Int) (w : World) (hT : Tabs w) (hc : w.cell? ⟨b, off, none⟩ = some (.int .u8 z)) (hn : 0 < n) (hm : n ≤ maxLen) (h0 : 0 ≤ z) (h1 : z ≤ 255) (h : rowOf z = none) :
    Calls Tryz.prog 94 #[.slice (some ⟨b, off, none⟩) n cap] w fun e w' => e = tup3 0 0 3 ∧ Below w.heap.size w w' := by
  unfold maxLen at hm
  unfold tup3
  have hn' : (0 : Int) < (n : Int) := by omega
  have hne : ((n : Int) == 0) = false := by simp; omega
  have HF := Lib.hid (firstOf_no z w hT h0 h1 h)
  clear h
  go_enter Tryz.func94, Tryz.ntmps94
  go_wp2_with fail
  refine HF.out.mono ?_
  rintro e w1 ⟨rfl, hb⟩
  simp only [fstV, zeroF]
  have HB := Lib.hid hb
  clear hb
  go_wp2
  go_ret3
  exact ⟨rfl, HB.out.alloc HB.out.size _⟩

theorem okTo_succ {zs : List Int} {k : Nat} (h : okTo zs k) (hk : okAt zs k) : okTo zs (k + 1) := by
  intro j hj h1
  by_cases e : j = k
  · subst e; exact hk
  · exact h j (by omega) h1
theorem go_ok {zs : List Int} {fa fb fs fl fh : Int} {k : Nat} (h1 : 1 ≤ k) (hl : fl = lo2 (gd zs 0)) (hh : fh = hi2 (gd zs 0)) : goB ⟨fa, fb, fs, fl, fh⟩ k (gd zs k) = decide (okAt zs k) := by
  unfold goB okAt
  by_cases e : k = 1
  · subst e; simp [hl, hh]
  · have e2 : ¬ ((k : Int) = 1) := by omega
    simp [e, e2]
theorem gd_at {zs : List Int} {j : Nat} (h : j < zs.length) : zs[j] = gd zs j := by unfold gd; simp [List.getD, List.getElem?_eq_getElem h]
theorem bts_at {w : World} {b off : Nat} {zs : List Int} (h : Bts w b off zs) (j : Nat) (hj : j < zs.length) : w.cell? ⟨b, off + j, none⟩ = some (.int .u8 (gd zs j)) := by rw [← gd_at hj]; exact h j hj
theorem join_c (b off cap n : Nat) (zs : List Int) (w : World) (hT : Tabs w) (hB : Bts w b off zs) (hn : n ≤ zs.length) (hc : n ≤ cap) (hm : cap ≤ 9223372036854775807) (h1 : 1 ≤ n) (h4 : n ≤ 4) (hz : 0 ≤ gd zs 0) (hs : szI (gd zs 0) = n) (hok : okTo zs n) :
    Calls Tryz.prog 102 #[.slice (some ⟨b, off, none⟩) n cap] w fun e w' => e = .returned (.int .i32 (valT zs n)) ∧ Below w.heap.size w w' := by
  have hmm : cap ≤ maxLen := by unfold maxLen; omega
  have hlo : 128 ≤ lo2 (gd zs 0) := by unfold lo2; (repeat' split) <;> omega
  have hhi : hi2 (gd zs 0) ≤ 191 := by unfold hi2; (repeat' split) <;> omega
  have c0 := bts_at hB 0 (by omega)
  simp only [Nat.add_zero] at c0
  have hr : (n = 1 ∧ gd zs 0 ≤ 127) ∨ (n = 2 ∧ 194 ≤ gd zs 0 ∧ gd zs 0 ≤ 223) ∨ (n = 3 ∧ 224 ≤ gd zs 0 ∧ gd zs 0 ≤ 239) ∨ (n = 4 ∧ 240 ≤ gd zs 0 ∧ gd zs 0 ≤ 244) := by
    unfold szI at hs
    (repeat' split at hs) <;> omega
  rcases hr with ⟨rfl, h⟩ | ⟨rfl, h, h'⟩ | ⟨rfl, h, h'⟩ | ⟨rfl, h, h'⟩
  · exact join1 b off cap _ w hT c0 hc hmm hz h
  · have o1 := hok 1 (by omega) (by omega)
    simp only [okAt, if_true] at o1
    exact join2 b off cap _ _ w hT c0 (bts_at hB 1 (by omega)) hc hmm h h' (by omega) (by omega)
  · have o1 := hok 1 (by omega) (by omega)
    have o2 := hok 2 (by omega) (by omega)
    simp only [okAt, if_true] at o1
    simp only [okAt, if_neg (show ¬ (2 : Nat) = 1 by decide)] at o2
    exact join3 b off cap _ _ _ w hT c0 (bts_at hB 1 (by omega)) (bts_at hB 2 (by omega)) hc hmm h h' (by omega) (by omega) (by omega) (by omega)
  · have o1 := hok 1 (by omega) (by omega)
    have o2 := hok 2 (by omega) (by omega)
    have o3 := hok 3 (by omega) (by omega)
    simp only [okAt, if_true] at o1
    simp only [okAt, if_neg (show ¬ (2 : Nat) = 1 by decide)] at o2
    simp only [okAt, if_neg (show ¬ (3 : Nat) = 1 by decide)] at o3
    exact join4 b off cap _ _ _ _ w hT c0 (bts_at hB 1 (by omega)) (bts_at hB 2 (by omega)) (bts_at hB 3 (by omega)) hc hmm h h' (by omega) (by omega) (by omega) (by omega) (by omega) (by omega)
theorem byt_at {zs : List Int} (h : Byt zs) (j : Nat) (hj : j < zs.length) : 0 ≤ gd zs j ∧ gd zs j ≤ 255 := by rw [← gd_at hj]; exact h.at j hj

set_option maxRecDepth 100000 in
set_option maxHeartbeats 4000000 in
theorem next_more (b off n cap s : Nat) (zs : List Int) (z fa fb fl fh : Int) (w : World) (hT : Tabs w) (hB : Bts w b off zs) (hbw : b < w.heap.size) (hy : Byt zs) (hn : Hid (zs.length = n)) (hp : 0 < n) (hm : n ≤ cap) (hcm : cap ≤ maxLen)
    (HZ : Hid (gd zs 0 = z)) (h00 : 0 ≤ z) (h01 : z ≤ 255) (c0 : w.cell? ⟨b, off, none⟩ = some (.int .u8 z)) (HSZ : Hid (szI z = s)) (hs1 : 1 ≤ s) (hs4 : s ≤ 4) (HL : Hid (2 ≤ s → fl = lo2 z ∧ fh = hi2 z))
    (HF : Hid (Calls Tryz.prog 100 #[.int .u8 z] w fun e w' => e = .returned (.tuple #[fstV ⟨fa, fb, s, fl, fh⟩, .bool true]) ∧ Below w.heap.size w w')) (hns : n < s) :
    Calls Tryz.prog 94 #[.slice (some ⟨b, off, none⟩) n cap] w fun e w' => ((e = tup3 0 0 3 ∧ ¬ okTo zs n) ∨ (e = tup3 0 0 11 ∧ okTo zs n)) ∧ Below w.heap.size w w' := by
  unfold maxLen at hcm
  have HB0 := Lib.hid hB
  have HY := Lib.hid hy
  have HT := Lib.hid hT
  have HBW := Lib.hid hbw
  clear hB hy hT hbw
  have hn' : (0 : Int) < (n : Int) := by omega
  have hne : ((n : Int) == 0) = false := by simp; omega
  have hns' : (n : Int) < (s : Int) := by omega
  go_enter Tryz.func94, Tryz.ntmps94
  go_wp2_with fail
  refine HF.out.mono ?_
  rintro e w1 ⟨rfl, hb⟩
  clear HF c0
  have HB := Lib.hid hb
  clear hb
  simp only [fstV]
  go_wp2
  have HD : Hid (∃ Wf, Wf = w1.alloc (.cells #[.int .u8 fa, .int .u8 fb, .int .i64 (s : Int), .int .u8 fl, .int .u8 fh] 179) ∧ Wf.heap[w1.heap.size]? = some (.cells #[.int .u8 fa, .int .u8 fb, .int .i64 (s : Int), .int .u8 fl, .int .u8 fh] 179 (0, 0)) ∧ w1.heap.size < Wf.heap.size ∧ Below w.heap.size w Wf) :=
    ⟨_, rfl, heap_alloc_new _ _, by simp, HB.out.alloc HB.out.size _⟩
  obtain ⟨Wf, hWf, hblk, hgl, hbf⟩ := HD.out
  rw [← hWf]
  clear hWf HD HB
  have HBK := Lib.hid hblk
  have HBF := Lib.hid hbf
  have HGL := Lib.hid hgl
  clear hblk hbf hgl
  revert HBK HGL
  generalize w1.heap.size = g
  intro HBK HGL
  go_loopw [8] (fun i wr => ∃ k : Nat, 1 ≤ k ∧ k ≤ n ∧ i = .int .i64 k ∧ okTo zs k ∧ Below Wf.heap.size Wf wr) (fun i _ => n - (intOf i).toNat)
  case atStart => exact ⟨1, by omega, by omega, rfl, fun j hj h1 => by omega, Below.refl _ _⟩
  case round =>
    obtain ⟨k, hk1, hk, rfl, hok, hW⟩ := hrel
    have HO := Lib.hid hok
    have HW := Lib.hid hW
    have hzk : n ≤ zs.length := by have := hn.out; omega
    clear hok hW
    have d0 : wr.cell? ⟨g, 0, none⟩ = some (.int .u8 fa) := (HW.out.cell (p := ⟨g, 0, none⟩) HGL.out).trans (blk_cell HBK.out 0)
    have d1 : wr.cell? ⟨g, 1, none⟩ = some (.int .u8 fb) := (HW.out.cell (p := ⟨g, 1, none⟩) HGL.out).trans (blk_cell HBK.out 1)
    have d2 : wr.cell? ⟨g, 2, none⟩ = some (.int .i64 (s : Int)) := (HW.out.cell (p := ⟨g, 2, none⟩) HGL.out).trans (blk_cell HBK.out 2)
    have d3 : wr.cell? ⟨g, 3, none⟩ = some (.int .u8 fl) := (HW.out.cell (p := ⟨g, 3, none⟩) HGL.out).trans (blk_cell HBK.out 3)
    have d4 : wr.cell? ⟨g, 4, none⟩ = some (.int .u8 fh) := (HW.out.cell (p := ⟨g, 4, none⟩) HGL.out).trans (blk_cell HBK.out 4)
    have HWW : Hid (Below w.heap.size w wr) := HBF.out.trans (HW.out.mono HBF.out.size)
    by_cases hlt : k < n
    · have HBA : Hid (wr.cell? ⟨b, off + k, none⟩ = some (.int .u8 (gd zs k))) := (HWW.out.cell (p := ⟨b, off + k, none⟩) HBW.out).trans (bts_at HB0.out k (by omega))
      have hby := byt_at HY.out k (by omega)
      have HGO : Hid (goB ⟨fa, fb, s, fl, fh⟩ k (gd zs k) = decide (okAt zs k)) := by
        obtain ⟨hl, hh⟩ := HL.out (by omega)
        exact go_ok hk1 (by rw [HZ.out]; exact hl) (by rw [HZ.out]; exact hh)
      revert HBA hby HGO
      generalize gd zs k = y
      intro HBA hby HGO
      obtain ⟨hy0, hy1⟩ := hby
      have hba := HBA.out
      have hk0' : (0 : Int) ≤ (k : Int) := by omega
      have hkn' : (k : Int) < (n : Int) := by omega
      by_cases hoa : okAt zs k
      · have HGC : Hid (∀ W : World, Calls Tryz.prog 101 #[.agg #[.int .u8 fa, .int .u8 fb, .int .i64 (s : Int), .int .u8 fl, .int .u8 fh], .int .i64 (k : Int), .int .u8 y] W fun e w' => e = .returned (.bool true) ∧ Below W.heap.size W w') := fun W => by
          have h := goes_c ⟨fa, fb, s, fl, fh⟩ k y W hy0 hy1
          rw [HGO.out, decide_eq_true hoa] at h
          exact h
        have HOA := Lib.hid hoa
        clear hoa
        go_wp2
        go_still_tail 6, (by kernel_rfl)
        change wpList _ _ _ _ _ wr.drew
        have HW2 : Hid (Below Wf.heap.size Wf wr.drew) := HW.out.drew
        revert HW2
        generalize wr.drew = w2
        intro HW2
        go_wp2_with (go_at_call 101; refine (HGC.out _).mono ?_; rintro e w3 ⟨rfl, hb3⟩; have HB3 := Lib.hid hb3; clear hb3)
        go_roundw
        case rel => exact ⟨k + 1, by omega, by omega, by go_num, okTo_succ HO.out HOA.out, HW2.out.trans (HB3.out.mono HW2.out.size)⟩
        case measure => simp [intOf]; omega
      · have HGC : Hid (∀ W : World, Calls Tryz.prog 101 #[.agg #[.int .u8 fa, .int .u8 fb, .int .i64 (s : Int), .int .u8 fl, .int .u8 fh], .int .i64 (k : Int), .int .u8 y] W fun e w' => e = .returned (.bool false) ∧ Below W.heap.size W w') := fun W => by
          have h := goes_c ⟨fa, fb, s, fl, fh⟩ k y W hy0 hy1
          rw [HGO.out, decide_eq_false hoa] at h
          exact h
        have HOA := Lib.hid hoa
        clear hoa
        go_wp2
        go_still_tail 6, (by kernel_rfl)
        change wpList _ _ _ _ _ wr.drew
        have HW2 : Hid (Below w.heap.size w wr.drew) := HWW.out.drew
        revert HW2
        generalize wr.drew = w2
        intro HW2
        go_wp2_with (go_at_call 101; refine (HGC.out _).mono ?_; rintro e w3 ⟨rfl, hb3⟩; have HB3 := Lib.hid hb3; clear hb3)
        go_ret3
        exact ⟨Or.inl ⟨rfl, fun h => HOA.out (h k hlt hk1)⟩, HW2.out.trans (HB3.out.mono HW2.out.size)⟩
    · have hkH : k = n := by omega
      subst hkH
      go_wp2
      go_ret3
      exact ⟨Or.inr ⟨rfl, HO.out⟩, HWW.out⟩

set_option maxRecDepth 100000 in
set_option maxHeartbeats 4000000 in
theorem next_all (b off n cap s : Nat) (zs : List Int) (z fa fb fl fh : Int) (w : World) (hT : Tabs w) (hB : Bts w b off zs) (hbw : b < w.heap.size) (hy : Byt zs) (hn : Hid (zs.length = n)) (hp : 0 < n) (hm : n ≤ cap) (hcm : cap ≤ maxLen)
    (HZ : Hid (gd zs 0 = z)) (h00 : 0 ≤ z) (h01 : z ≤ 255) (c0 : w.cell? ⟨b, off, none⟩ = some (.int .u8 z)) (HSZ : Hid (szI z = s)) (hs1 : 1 ≤ s) (hs4 : s ≤ 4) (HL : Hid (2 ≤ s → fl = lo2 z ∧ fh = hi2 z))
    (HF : Hid (Calls Tryz.prog 100 #[.int .u8 z] w fun e w' => e = .returned (.tuple #[fstV ⟨fa, fb, s, fl, fh⟩, .bool true]) ∧ Below w.heap.size w w')) (hns : s < n) :
    Calls Tryz.prog 94 #[.slice (some ⟨b, off, none⟩) n cap] w fun e w' => ((e = tup3 0 0 3 ∧ ¬ okTo zs s) ∨ (e = tup3 (valT zs s) s 0 ∧ okTo zs s)) ∧ Below w.heap.size w w' := by
  unfold maxLen at hcm
  have HB0 := Lib.hid hB
  have HY := Lib.hid hy
  have HT := Lib.hid hT
  have HBW := Lib.hid hbw
  clear hB hy hT hbw
  have hn' : (0 : Int) < (n : Int) := by omega
  have hne : ((n : Int) == 0) = false := by simp; omega
  have hns' : (s : Int) < (n : Int) := by omega
  go_enter Tryz.func94, Tryz.ntmps94
  go_wp2_with fail
  refine HF.out.mono ?_
  rintro e w1 ⟨rfl, hb⟩
  clear HF c0
  have HB := Lib.hid hb
  clear hb
  simp only [fstV]
  go_wp2
  have HD : Hid (∃ Wf, Wf = w1.alloc (.cells #[.int .u8 fa, .int .u8 fb, .int .i64 (s : Int), .int .u8 fl, .int .u8 fh] 179) ∧ Wf.heap[w1.heap.size]? = some (.cells #[.int .u8 fa, .int .u8 fb, .int .i64 (s : Int), .int .u8 fl, .int .u8 fh] 179 (0, 0)) ∧ w1.heap.size < Wf.heap.size ∧ Below w.heap.size w Wf) :=
    ⟨_, rfl, heap_alloc_new _ _, by simp, HB.out.alloc HB.out.size _⟩
  obtain ⟨Wf, hWf, hblk, hgl, hbf⟩ := HD.out
  rw [← hWf]
  clear hWf HD HB
  have HBK := Lib.hid hblk
  have HBF := Lib.hid hbf
  have HGL := Lib.hid hgl
  clear hblk hbf hgl
  revert HBK HGL
  generalize w1.heap.size = g
  intro HBK HGL
  go_loopw [8] (fun i wr => ∃ k : Nat, 1 ≤ k ∧ k ≤ s ∧ i = .int .i64 k ∧ okTo zs k ∧ Below Wf.heap.size Wf wr) (fun i _ => s - (intOf i).toNat)
  case atStart => exact ⟨1, by omega, by omega, rfl, fun j hj h1 => by omega, Below.refl _ _⟩
  case round =>
    obtain ⟨k, hk1, hk, rfl, hok, hW⟩ := hrel
    have HO := Lib.hid hok
    have HW := Lib.hid hW
    have hzk : s ≤ zs.length := by have := hn.out; omega
    clear hok hW
    have d0 : wr.cell? ⟨g, 0, none⟩ = some (.int .u8 fa) := (HW.out.cell (p := ⟨g, 0, none⟩) HGL.out).trans (blk_cell HBK.out 0)
    have d1 : wr.cell? ⟨g, 1, none⟩ = some (.int .u8 fb) := (HW.out.cell (p := ⟨g, 1, none⟩) HGL.out).trans (blk_cell HBK.out 1)
    have d2 : wr.cell? ⟨g, 2, none⟩ = some (.int .i64 (s : Int)) := (HW.out.cell (p := ⟨g, 2, none⟩) HGL.out).trans (blk_cell HBK.out 2)
    have d3 : wr.cell? ⟨g, 3, none⟩ = some (.int .u8 fl) := (HW.out.cell (p := ⟨g, 3, none⟩) HGL.out).trans (blk_cell HBK.out 3)
    have d4 : wr.cell? ⟨g, 4, none⟩ = some (.int .u8 fh) := (HW.out.cell (p := ⟨g, 4, none⟩) HGL.out).trans (blk_cell HBK.out 4)
    have HWW : Hid (Below w.heap.size w wr) := HBF.out.trans (HW.out.mono HBF.out.size)
    by_cases hlt : k < s
    · have HBA : Hid (wr.cell? ⟨b, off + k, none⟩ = some (.int .u8 (gd zs k))) := (HWW.out.cell (p := ⟨b, off + k, none⟩) HBW.out).trans (bts_at HB0.out k (by omega))
      have hby := byt_at HY.out k (by omega)
      have HGO : Hid (goB ⟨fa, fb, s, fl, fh⟩ k (gd zs k) = decide (okAt zs k)) := by
        obtain ⟨hl, hh⟩ := HL.out (by omega)
        exact go_ok hk1 (by rw [HZ.out]; exact hl) (by rw [HZ.out]; exact hh)
      revert HBA hby HGO
      generalize gd zs k = y
      intro HBA hby HGO
      obtain ⟨hy0, hy1⟩ := hby
      have hba := HBA.out
      have hk0' : (0 : Int) ≤ (k : Int) := by omega
      have hkn' : (k : Int) < (n : Int) := by omega
      by_cases hoa : okAt zs k
      · have HGC : Hid (∀ W : World, Calls Tryz.prog 101 #[.agg #[.int .u8 fa, .int .u8 fb, .int .i64 (s : Int), .int .u8 fl, .int .u8 fh], .int .i64 (k : Int), .int .u8 y] W fun e w' => e = .returned (.bool true) ∧ Below W.heap.size W w') := fun W => by
          have h := goes_c ⟨fa, fb, s, fl, fh⟩ k y W hy0 hy1
          rw [HGO.out, decide_eq_true hoa] at h
          exact h
        have HOA := Lib.hid hoa
        clear hoa
        go_wp2
        go_still_tail 6, (by kernel_rfl)
        change wpList _ _ _ _ _ wr.drew
        have HW2 : Hid (Below Wf.heap.size Wf wr.drew) := HW.out.drew
        revert HW2
        generalize wr.drew = w2
        intro HW2
        go_wp2_with (go_at_call 101; refine (HGC.out _).mono ?_; rintro e w3 ⟨rfl, hb3⟩; have HB3 := Lib.hid hb3; clear hb3)
        go_roundw
        case rel => exact ⟨k + 1, by omega, by omega, by go_num, okTo_succ HO.out HOA.out, HW2.out.trans (HB3.out.mono HW2.out.size)⟩
        case measure => simp [intOf]; omega
      · have HGC : Hid (∀ W : World, Calls Tryz.prog 101 #[.agg #[.int .u8 fa, .int .u8 fb, .int .i64 (s : Int), .int .u8 fl, .int .u8 fh], .int .i64 (k : Int), .int .u8 y] W fun e w' => e = .returned (.bool false) ∧ Below W.heap.size W w') := fun W => by
          have h := goes_c ⟨fa, fb, s, fl, fh⟩ k y W hy0 hy1
          rw [HGO.out, decide_eq_false hoa] at h
          exact h
        have HOA := Lib.hid hoa
        clear hoa
        go_wp2
        go_still_tail 6, (by kernel_rfl)
        change wpList _ _ _ _ _ wr.drew
        have HW2 : Hid (Below w.heap.size w wr.drew) := HWW.out.drew
        revert HW2
        generalize wr.drew = w2
        intro HW2
        go_wp2_with (go_at_call 101; refine (HGC.out _).mono ?_; rintro e w3 ⟨rfl, hb3⟩; have HB3 := Lib.hid hb3; clear hb3)
        go_ret3
        exact ⟨Or.inl ⟨rfl, fun h => HOA.out (h k hlt hk1)⟩, HW2.out.trans (HB3.out.mono HW2.out.size)⟩
    · have hkH : k = s := by omega
      subst hkH
      have HTW : Hid (Tabs wr) := HT.out.below HWW.out HT.out.two
      have HBW2 : Hid (Bts wr b off zs) := HB0.out.below HWW.out HBW.out
      have hkc : (k : Int) ≤ (cap : Int) := by omega
      have HJ : Hid (∀ W : World, Tabs W → Bts W b off zs → Calls Tryz.prog 102 #[.slice (some ⟨b, off, none⟩) k cap] W fun e w' => e = .returned (.int .i32 (valT zs k)) ∧ Below W.heap.size W w') :=
        fun W hTW hBW => join_c b off cap k zs W hTW hBW (by omega) (by omega) hcm (by omega) hs4 (by rw [HZ.out]; exact h00) (by rw [HZ.out]; exact HSZ.out) HO.out
      go_wp2_with (go_at_call 102; refine (HJ.out _ HTW.out HBW2.out).mono ?_; rintro e w3 ⟨rfl, hb3⟩; have HB3 := Lib.hid hb3; clear hb3)
      go_ret3
      exact ⟨Or.inr ⟨rfl, HO.out⟩, HWW.out.trans (HB3.out.mono HWW.out.size)⟩

set_option maxRecDepth 100000 in
set_option maxHeartbeats 4000000 in
theorem next_eq (b off cap s : Nat) (zs : List Int) (z fa fb fl fh : Int) (w : World) (hT : Tabs w) (hB : Bts w b off zs) (hbw : b < w.heap.size) (hy : Byt zs) (hn : Hid (zs.length = s)) (hp : 0 < s) (hm : s ≤ cap) (hcm : cap ≤ maxLen)
    (HZ : Hid (gd zs 0 = z)) (h00 : 0 ≤ z) (h01 : z ≤ 255) (c0 : w.cell? ⟨b, off, none⟩ = some (.int .u8 z)) (HSZ : Hid (szI z = s)) (hs1 : 1 ≤ s) (hs4 : s ≤ 4) (HL : Hid (2 ≤ s → fl = lo2 z ∧ fh = hi2 z))
    (HF : Hid (Calls Tryz.prog 100 #[.int .u8 z] w fun e w' => e = .returned (.tuple #[fstV ⟨fa, fb, s, fl, fh⟩, .bool true]) ∧ Below w.heap.size w w'))  :
    Calls Tryz.prog 94 #[.slice (some ⟨b, off, none⟩) s cap] w fun e w' => ((e = tup3 0 0 3 ∧ ¬ okTo zs s) ∨ (e = tup3 (valT zs s) s 0 ∧ okTo zs s)) ∧ Below w.heap.size w w' := by
  unfold maxLen at hcm
  have HB0 := Lib.hid hB
  have HY := Lib.hid hy
  have HT := Lib.hid hT
  have HBW := Lib.hid hbw
  clear hB hy hT hbw
  have hn' : (0 : Int) < (s : Int) := by omega
  have hne : ((s : Int) == 0) = false := by simp; omega
  go_enter Tryz.func94, Tryz.ntmps94
  go_wp2_with fail
  refine HF.out.mono ?_
  rintro e w1 ⟨rfl, hb⟩
  clear HF c0
  have HB := Lib.hid hb
  clear hb
  simp only [fstV]
  go_wp2
  have HD : Hid (∃ Wf, Wf = w1.alloc (.cells #[.int .u8 fa, .int .u8 fb, .int .i64 (s : Int), .int .u8 fl, .int .u8 fh] 179) ∧ Wf.heap[w1.heap.size]? = some (.cells #[.int .u8 fa, .int .u8 fb, .int .i64 (s : Int), .int .u8 fl, .int .u8 fh] 179 (0, 0)) ∧ w1.heap.size < Wf.heap.size ∧ Below w.heap.size w Wf) :=
    ⟨_, rfl, heap_alloc_new _ _, by simp, HB.out.alloc HB.out.size _⟩
  obtain ⟨Wf, hWf, hblk, hgl, hbf⟩ := HD.out
  rw [← hWf]
  clear hWf HD HB
  have HBK := Lib.hid hblk
  have HBF := Lib.hid hbf
  have HGL := Lib.hid hgl
  clear hblk hbf hgl
  revert HBK HGL
  generalize w1.heap.size = g
  intro HBK HGL
  go_loopw [8] (fun i wr => ∃ k : Nat, 1 ≤ k ∧ k ≤ s ∧ i = .int .i64 k ∧ okTo zs k ∧ Below Wf.heap.size Wf wr) (fun i _ => s - (intOf i).toNat)
  case atStart => exact ⟨1, by omega, by omega, rfl, fun j hj h1 => by omega, Below.refl _ _⟩
  case round =>
    obtain ⟨k, hk1, hk, rfl, hok, hW⟩ := hrel
    have HO := Lib.hid hok
    have HW := Lib.hid hW
    have hzk : s ≤ zs.length := by have := hn.out; omega
    clear hok hW
    have d0 : wr.cell? ⟨g, 0, none⟩ = some (.int .u8 fa) := (HW.out.cell (p := ⟨g, 0, none⟩) HGL.out).trans (blk_cell HBK.out 0)
    have d1 : wr.cell? ⟨g, 1, none⟩ = some (.int .u8 fb) := (HW.out.cell (p := ⟨g, 1, none⟩) HGL.out).trans (blk_cell HBK.out 1)
    have d2 : wr.cell? ⟨g, 2, none⟩ = some (.int .i64 (s : Int)) := (HW.out.cell (p := ⟨g, 2, none⟩) HGL.out).trans (blk_cell HBK.out 2)
    have d3 : wr.cell? ⟨g, 3, none⟩ = some (.int .u8 fl) := (HW.out.cell (p := ⟨g, 3, none⟩) HGL.out).trans (blk_cell HBK.out 3)
    have d4 : wr.cell? ⟨g, 4, none⟩ = some (.int .u8 fh) := (HW.out.cell (p := ⟨g, 4, none⟩) HGL.out).trans (blk_cell HBK.out 4)
    have HWW : Hid (Below w.heap.size w wr) := HBF.out.trans (HW.out.mono HBF.out.size)
    by_cases hlt : k < s
    · have HBA : Hid (wr.cell? ⟨b, off + k, none⟩ = some (.int .u8 (gd zs k))) := (HWW.out.cell (p := ⟨b, off + k, none⟩) HBW.out).trans (bts_at HB0.out k (by omega))
      have hby := byt_at HY.out k (by omega)
      have HGO : Hid (goB ⟨fa, fb, s, fl, fh⟩ k (gd zs k) = decide (okAt zs k)) := by
        obtain ⟨hl, hh⟩ := HL.out (by omega)
        exact go_ok hk1 (by rw [HZ.out]; exact hl) (by rw [HZ.out]; exact hh)
      revert HBA hby HGO
      generalize gd zs k = y
      intro HBA hby HGO
      obtain ⟨hy0, hy1⟩ := hby
      have hba := HBA.out
      have hk0' : (0 : Int) ≤ (k : Int) := by omega
      have hkn' : (k : Int) < (s : Int) := by omega
      by_cases hoa : okAt zs k
      · have HGC : Hid (∀ W : World, Calls Tryz.prog 101 #[.agg #[.int .u8 fa, .int .u8 fb, .int .i64 (s : Int), .int .u8 fl, .int .u8 fh], .int .i64 (k : Int), .int .u8 y] W fun e w' => e = .returned (.bool true) ∧ Below W.heap.size W w') := fun W => by
          have h := goes_c ⟨fa, fb, s, fl, fh⟩ k y W hy0 hy1
          rw [HGO.out, decide_eq_true hoa] at h
          exact h
        have HOA := Lib.hid hoa
        clear hoa
        go_wp2
        go_still_tail 6, (by kernel_rfl)
        change wpList _ _ _ _ _ wr.drew
        have HW2 : Hid (Below Wf.heap.size Wf wr.drew) := HW.out.drew
        revert HW2
        generalize wr.drew = w2
        intro HW2
        go_wp2_with (go_at_call 101; refine (HGC.out _).mono ?_; rintro e w3 ⟨rfl, hb3⟩; have HB3 := Lib.hid hb3; clear hb3)
        go_roundw
        case rel => exact ⟨k + 1, by omega, by omega, by go_num, okTo_succ HO.out HOA.out, HW2.out.trans (HB3.out.mono HW2.out.size)⟩
        case measure => simp [intOf]; omega
      · have HGC : Hid (∀ W : World, Calls Tryz.prog 101 #[.agg #[.int .u8 fa, .int .u8 fb, .int .i64 (s : Int), .int .u8 fl, .int .u8 fh], .int .i64 (k : Int), .int .u8 y] W fun e w' => e = .returned (.bool false) ∧ Below W.heap.size W w') := fun W => by
          have h := goes_c ⟨fa, fb, s, fl, fh⟩ k y W hy0 hy1
          rw [HGO.out, decide_eq_false hoa] at h
          exact h
        have HOA := Lib.hid hoa
        clear hoa
        go_wp2
        go_still_tail 6, (by kernel_rfl)
        change wpList _ _ _ _ _ wr.drew
        have HW2 : Hid (Below w.heap.size w wr.drew) := HWW.out.drew
        revert HW2
        generalize wr.drew = w2
        intro HW2
        go_wp2_with (go_at_call 101; refine (HGC.out _).mono ?_; rintro e w3 ⟨rfl, hb3⟩; have HB3 := Lib.hid hb3; clear hb3)
        go_ret3
        exact ⟨Or.inl ⟨rfl, fun h => HOA.out (h k hlt hk1)⟩, HW2.out.trans (HB3.out.mono HW2.out.size)⟩
    · have hkH : k = s := by omega
      subst hkH
      have HTW : Hid (Tabs wr) := HT.out.below HWW.out HT.out.two
      have HBW2 : Hid (Bts wr b off zs) := HB0.out.below HWW.out HBW.out
      have hkc : (k : Int) ≤ (cap : Int) := by omega
      have HJ : Hid (∀ W : World, Tabs W → Bts W b off zs → Calls Tryz.prog 102 #[.slice (some ⟨b, off, none⟩) k cap] W fun e w' => e = .returned (.int .i32 (valT zs k)) ∧ Below W.heap.size W w') :=
        fun W hTW hBW => join_c b off cap k zs W hTW hBW (by omega) (by omega) hcm (by omega) hs4 (by rw [HZ.out]; exact h00) (by rw [HZ.out]; exact HSZ.out) HO.out
      go_wp2_with (go_at_call 102; refine (HJ.out _ HTW.out HBW2.out).mono ?_; rintro e w3 ⟨rfl, hb3⟩; have HB3 := Lib.hid hb3; clear hb3)
      go_ret3
      exact ⟨Or.inr ⟨rfl, HO.out⟩, HWW.out.trans (HB3.out.mono HWW.out.size)⟩

end Go.Proofs.YtpgllcdcpdeicaaGreatDoor.Ut
namespace Go.Proofs.YtpgllcdcpdeicaaGreatDoor.Ut
open Go.RowKit
set_option linter.unusedSimpArgs false
set_option linter.unusedVariables false

/-- a slice that reads as these bytes -/
def Sl (w : World) (A : Option Addr) (zs : List Int) : Prop := zs ≠ [] → ∃ b off, A = some ⟨b, off, none⟩ ∧ b < w.heap.size ∧ Bts w b off zs
theorem Sl.go {w w' : World} {A : Option Addr} {zs : List Int} (h : Sl w A zs) (hb : Below w.heap.size w w') : Sl w' A zs := fun hz => by
  obtain ⟨b, off, e, hl, hB⟩ := h hz
  exact ⟨b, off, e, Nat.lt_of_lt_of_le hl hb.size, hB.below hb hl⟩
def nextE (zs : List Int) : Ending := if zs = [] then tup3 0 0 6 else if (nextR zs).2 = -1 then tup3 0 0 11 else if (nextR zs).2 = 0 then tup3 0 0 3 else tup3 (nextR zs).1 (nextR zs).2 0

theorem next_c (A : Option Addr) (n cap : Nat) (zs : List Int) (w : World) (hT : Tabs w) (hA : Sl w A zs) (hy : Byt zs) (hn : zs.length = n) (hm : n ≤ cap) (hcm : cap ≤ maxLen) :
    Calls Tryz.prog 94 #[.slice A n cap] w fun e w' => e = nextE zs ∧ Below w.heap.size w w' := by
  by_cases hz : zs = []
  · subst hz
    obtain rfl : n = 0 := by simpa using hn.symm
    exact next_nil A cap w
  · obtain ⟨b, off, rfl, hbw, hB⟩ := hA hz
    have hp : 0 < zs.length := List.length_pos_iff.2 hz
    have h0 := byt_at hy 0 hp
    have c0 := bts_at hB 0 hp
    simp only [Nat.add_zero] at c0
    have hE : nextE zs = if (nextR zs).2 = -1 then tup3 0 0 11 else if (nextR zs).2 = 0 then tup3 0 0 3 else tup3 (nextR zs).1 (nextR zs).2 0 := by unfold nextE; rw [if_neg hz]
    cases hr : rowOf (gd zs 0) with
    | none =>
      have hs := row_none h0.1 hr
      have hR : nextR zs = (0, 0) := by unfold nextR; rw [if_pos hs]
      refine (next_no b off n cap _ w hT c0 (by omega) (by omega) h0.1 h0.2 hr).mono fun e w' ⟨he, hb⟩ => ⟨?_, hb⟩
      rw [hE, hR, he]; rfl
    | some f =>
      obtain ⟨hs, hs1, hs4, hlh⟩ := row_some h0.1 hr
      obtain ⟨fa, fb, fs, fl, fh⟩ := f
      simp only at hs hlh
      subst hs
      have HF := Lib.hid (firstOf_yes _ _ w hT h0.1 h0.2 hr)
      have hR : nextR zs = if okTo zs (min zs.length (szI (gd zs 0))) then (if zs.length < szI (gd zs 0) then (0, -1) else (valT zs (szI (gd zs 0)), (szI (gd zs 0) : Int))) else (0, 0) := by
        unfold nextR; rw [if_neg (by omega)]
      have hfin : ∀ (e : Ending), ((e = tup3 0 0 3 ∧ ¬ okTo zs (szI (gd zs 0))) ∨ (e = tup3 (valT zs (szI (gd zs 0))) (szI (gd zs 0)) 0 ∧ okTo zs (szI (gd zs 0)))) → szI (gd zs 0) ≤ n → e = nextE zs := by
        intro e he hle
        rw [hE, hR, show min zs.length (szI (gd zs 0)) = szI (gd zs 0) by omega]
        rcases he with ⟨rfl, hno⟩ | ⟨rfl, hok⟩
        · rw [if_neg hno]; rfl
        · rw [if_pos hok, if_neg (show ¬ zs.length < szI (gd zs 0) by omega)]
          show tup3 (valT zs (szI (gd zs 0))) (szI (gd zs 0)) 0 = if ((szI (gd zs 0) : Nat) : Int) = -1 then tup3 0 0 11 else if ((szI (gd zs 0) : Nat) : Int) = 0 then tup3 0 0 3 else tup3 (valT zs (szI (gd zs 0))) (szI (gd zs 0)) 0
          rw [if_neg (show ¬ ((szI (gd zs 0) : Nat) : Int) = -1 by omega), if_neg (show ¬ ((szI (gd zs 0) : Nat) : Int) = 0 by omega)]
      rcases Nat.lt_trichotomy n (szI (gd zs 0)) with hlt | heq | hgt
      · refine (next_more b off n cap _ zs _ fa fb fl fh w hT hB hbw hy hn (by omega) hm hcm rfl h0.1 h0.2 c0 rfl hs1 hs4 hlh HF.out hlt).mono fun e w' ⟨he, hb⟩ => ⟨?_, hb⟩
        rw [hE, hR, show min zs.length (szI (gd zs 0)) = n by omega, if_pos (show zs.length < szI (gd zs 0) by omega)]
        rcases he with ⟨rfl, hno⟩ | ⟨rfl, hok⟩
        · rw [if_neg hno]; rfl
        · rw [if_pos hok]; rfl
      · subst heq
        exact (next_eq b off cap _ zs _ fa fb fl fh w hT hB hbw hy hn (by omega) hm hcm rfl h0.1 h0.2 c0 rfl hs1 hs4 hlh HF.out).mono fun e w' ⟨he, hb⟩ => ⟨hfin e he (Nat.le_refl _), hb⟩
      · exact (next_all b off n cap _ zs _ fa fb fl fh w hT hB hbw hy hn (by omega) hm hcm rfl h0.1 h0.2 c0 rfl hs1 hs4 hlh HF.out hgt).mono fun e w' ⟨he, hb⟩ => ⟨hfin e he (by omega), hb⟩

theorem nextE_a : nextE [226, 130] = tup3 0 0 11 := by unfold nextE; rw [show nextR [226, 130] = (0, -1) by decide +kernel]; rfl
theorem nextE_b : nextE [226, 65] = tup3 0 0 3 := by unfold nextE; rw [show nextR [226, 65] = (0, 0) by decide +kernel]; rfl
theorem nextE_c : nextE [195, 169] = tup3 233 2 0 := by unfold nextE; rw [show nextR [195, 169] = (233, 2) by decide +kernel]; rfl

/-- Next of two bytes that have just been laid -/
theorem next_two (x y : Int) (w : World) (hT : Tabs w) (hx : 0 ≤ x ∧ x ≤ 255) (hy : 0 ≤ y ∧ y ≤ 255) : Calls Tryz.prog 94 #[.slice (some ⟨w.heap.size, 0, none⟩) 2 2] (w.alloc (.cells #[.int .u8 x, .int .u8 y] 5)) fun e w' => e = nextE [x, y] ∧ Below w.heap.size w w' := by
  refine (next_c (some ⟨w.heap.size, 0, none⟩) 2 2 [x, y] _ (hT.alloc _) ?_ ?_ rfl (Nat.le_refl _) (by unfold maxLen; omega)).mono fun e w' ⟨he, hb⟩ => ⟨he, ((Below.refl _ _).alloc (Nat.le_refl _) _).trans (hb.mono (by simp))⟩
  · intro _
    refine ⟨_, 0, rfl, by simp, fun j hj => ?_⟩
    rw [World.cell?_alloc_at _ _ _ _ rfl]
    match j, hj with
    | 0, _ => rfl
    | 1, _ => rfl
  · intro z hz
    rcases List.mem_cons.1 hz with rfl | hz
    · exact hx
    · rw [List.mem_singleton.1 hz]; exact hy

end Go.Proofs.YtpgllcdcpdeicaaGreatDoor.Ut
namespace Go.Proofs.YtpgllcdcpdeicaaGreatDoor.Ut
open Go.RowKit
set_option linter.unusedSimpArgs false
set_option linter.unusedVariables false

def isR (v : Int) : Bool := decide (0 ≤ v ∧ v ≤ 1114111 ∧ (v < 55296 ∨ 57343 < v))
theorem is_r (v : Int) (w : World) : Calls Tryz.prog 55 #[.int .i64 v] w fun e w' => e = .returned (.bool (isR v)) ∧ w = w' := by
  unfold isR
  rcases (show v < 0 ∨ (0 ≤ v ∧ 1114111 < v) ∨ (0 ≤ v ∧ v ≤ 1114111 ∧ v < 55296) ∨ (0 ≤ v ∧ v ≤ 1114111 ∧ 55296 ≤ v) by omega) with h1 | ⟨h1, h2⟩ | ⟨h1, h2, h3⟩ | ⟨h1, h2, h3⟩
  all_goals
    go_enter Tryz.func55, Tryz.ntmps55
    go_wp2
    go_ret
    exact ⟨ret_bool (by rw [Bool.eq_iff_iff]; simp; omega), rfl⟩

/-- a rune's bytes -/
def putI (v : Int) : List Int :=
  if v < 128 then [v] else if v < 2048 then [192 + v / 64, 128 + v % 64] else if v < 65536 then [224 + v / 4096, 128 + v / 64 % 64, 128 + v % 64] else [240 + v / 262144, 128 + v / 4096 % 64, 128 + v / 64 % 64, 128 + v % 64]
theorem putI_len (v : Int) : 1 ≤ (putI v).length ∧ (putI v).length ≤ 4 := by unfold putI; (repeat' split) <;> simp

/-- a new slice of these bytes, and nothing else -/
def New (zs : List Int) (w : World) (e : Ending) (w' : World) : Prop := ∃ g cap, e = .returned (.slice (some ⟨g, 0, none⟩) zs.length cap) ∧ zs.length ≤ cap ∧ cap ≤ maxLen ∧ g < w'.heap.size ∧ Bts w' g 0 zs ∧ Below w.heap.size w w'

theorem bts_new (w : World) (zs : List Int) (cs : Array Value) (h : ∀ j (hj : j < zs.length), cs[j]? = some (.int .u8 zs[j])) : Bts (w.alloc (.cells cs 5)) w.heap.size 0 zs := by
  intro j hj
  rw [Nat.zero_add, World.cell?_alloc_at _ _ _ _ rfl]
  exact h j hj

set_option maxRecDepth 100000 in
set_option maxHeartbeats 1000000 in
theorem put_r (v : Int) (w : World) (h : isR v = true) : Calls Tryz.prog 54 #[.int .i64 v] w (New (putI v) w) := by
  have hb := of_decide_eq_true h
  obtain ⟨h0, h1, h2⟩ := hb
  have HI := Lib.hid (is_r v w)
  rw [h] at HI
  clear h h2
  rcases (show v < 128 ∨ (128 ≤ v ∧ v < 2048) ∨ (2048 ≤ v ∧ v < 65536) ∨ 65536 ≤ v by omega) with h3 | ⟨h3, h4⟩ | ⟨h3, h4⟩ | h3
  · have HE : Hid (putI v = [v]) := by show putI v = [v]; unfold putI; rw [if_pos h3]
    go_enter Tryz.func54, Tryz.ntmps54
    go_wp2_with (go_at_call 55; refine HI.out.mono ?_; rintro e w' ⟨rfl, rfl⟩)
    go_ret
    rw [HE.out]
    exact ⟨w.heap.size, 1, rfl, by simp, by unfold maxLen; omega, by simp, bts_new w _ _ (fun j hj => by match j, hj with | 0, _ => rfl), (Below.refl _ _).alloc (Nat.le_refl _) _⟩
  · have HE : Hid (putI v = [192 + v / 64, 128 + v % 64]) := by show putI v = [192 + v / 64, 128 + v % 64]; unfold putI; rw [if_neg (by omega), if_pos h4]
    go_enter Tryz.func54, Tryz.ntmps54
    go_wp2_with (go_at_call 55; refine HI.out.mono ?_; rintro e w' ⟨rfl, rfl⟩)
    go_ret
    rw [HE.out]
    exact ⟨w.heap.size, 2, rfl, by simp, by unfold maxLen; omega, by simp, bts_new w _ _ (fun j hj => by match j, hj with | 0, _ => rfl | 1, _ => rfl), (Below.refl _ _).alloc (Nat.le_refl _) _⟩
  · have HE : Hid (putI v = [224 + v / 4096, 128 + v / 64 % 64, 128 + v % 64]) := by show putI v = [224 + v / 4096, 128 + v / 64 % 64, 128 + v % 64]; unfold putI; rw [if_neg (by omega), if_neg (by omega), if_pos h4]
    go_enter Tryz.func54, Tryz.ntmps54
    go_wp2_with (go_at_call 55; refine HI.out.mono ?_; rintro e w' ⟨rfl, rfl⟩)
    go_ret
    rw [HE.out]
    exact ⟨w.heap.size, 3, rfl, by simp, by unfold maxLen; omega, by simp, bts_new w _ _ (fun j hj => by match j, hj with | 0, _ => rfl | 1, _ => rfl | 2, _ => rfl), (Below.refl _ _).alloc (Nat.le_refl _) _⟩
  · have HE : Hid (putI v = [240 + v / 262144, 128 + v / 4096 % 64, 128 + v / 64 % 64, 128 + v % 64]) := by show putI v = [240 + v / 262144, 128 + v / 4096 % 64, 128 + v / 64 % 64, 128 + v % 64]; unfold putI; rw [if_neg (by omega), if_neg (by omega), if_neg (by omega)]
    go_enter Tryz.func54, Tryz.ntmps54
    go_wp2_with (go_at_call 55; refine HI.out.mono ?_; rintro e w' ⟨rfl, rfl⟩)
    go_ret
    rw [HE.out]
    exact ⟨w.heap.size, 4, rfl, by simp, by unfold maxLen; omega, by simp, bts_new w _ _ (fun j hj => by match j, hj with | 0, _ => rfl | 1, _ => rfl | 2, _ => rfl | 3, _ => rfl), (Below.refl _ _).alloc (Nat.le_refl _) _⟩
theorem ret_i64 {a b : Int} (h : a = b) : Ending.returned (.int .i64 a) = .returned (.int .i64 b) := by rw [h]

set_option maxRecDepth 100000 in
set_option maxHeartbeats 2000000 in
theorem value1 (b off m cap : Nat) (z0 : Int) (w : World) (hbw : b < w.heap.size) (c0 : w.cell? ⟨b, off, none⟩ = some (.int .u8 z0)) (hm : 1 ≤ m) (hmm : m ≤ maxLen) (h0 : 0 ≤ z0) (h0' : z0 ≤ 255) :
    Calls Tryz.prog 65 #[.slice (some ⟨b, off, none⟩) m cap, .int .i64 1] w fun e w' => e = .returned (.int .i64 z0) ∧ Below w.heap.size w w' := by
  unfold maxLen at hmm
  have m0 : (0 : Int) < (m : Int) := by omega
  have HB : Hid (b < w.heap.size) := hbw
  go_enter Tryz.func65, Tryz.ntmps65
  go_wp2
  go_region
  generalize hW : (w.alloc (.cells #[.int .i64 0, .int .i64 0, .int .i64 192, .int .i64 224, .int .i64 240] 3)).drew = W1
  have HBL : Hid (Below w.heap.size w W1) := by rw [← hW]; exact ((Below.refl _ _).alloc (Nat.le_refl _) _).drew
  clear hW
  have e0 : W1.cell? ⟨b, off, none⟩ = some (.int .u8 z0) := (HBL.out.cell (p := ⟨b, off, none⟩) HB.out).trans c0
  clear c0
  go_wp2
  refine wp_loop_rounds 1 ?_
  rw [rounds_succ]
  go_wp2
  go_ret
  exact ⟨ret_i64 (by omega), HBL.out⟩

set_option maxRecDepth 100000 in
set_option maxHeartbeats 2000000 in
theorem value2 (b off m cap : Nat) (z0 z1 : Int) (w : World) (hbw : b < w.heap.size) (c0 : w.cell? ⟨b, off, none⟩ = some (.int .u8 z0)) (c1 : w.cell? ⟨b, off + 1, none⟩ = some (.int .u8 z1)) (hm : 2 ≤ m) (hmm : m ≤ maxLen) (h0 : 0 ≤ z0) (h0' : z0 ≤ 255) (h1 : 0 ≤ z1) (h1' : z1 ≤ 255) :
    Calls Tryz.prog 65 #[.slice (some ⟨b, off, none⟩) m cap, .int .i64 2] w fun e w' => e = .returned (.int .i64 (64 * (z0 - 192) + z1 - 128)) ∧ Below w.heap.size w w' := by
  unfold maxLen at hmm
  have m0 : (0 : Int) < (m : Int) := by omega
  have m1 : (1 : Int) < (m : Int) := by omega
  have HB : Hid (b < w.heap.size) := hbw
  go_enter Tryz.func65, Tryz.ntmps65
  go_wp2
  go_region
  generalize hW : (w.alloc (.cells #[.int .i64 0, .int .i64 0, .int .i64 192, .int .i64 224, .int .i64 240] 3)).drew = W1
  have HBL : Hid (Below w.heap.size w W1) := by rw [← hW]; exact ((Below.refl _ _).alloc (Nat.le_refl _) _).drew
  clear hW
  have e0 : W1.cell? ⟨b, off, none⟩ = some (.int .u8 z0) := (HBL.out.cell (p := ⟨b, off, none⟩) HB.out).trans c0
  have e1 : W1.cell? ⟨b, off + 1, none⟩ = some (.int .u8 z1) := (HBL.out.cell (p := ⟨b, off + 1, none⟩) HB.out).trans c1
  clear c0 c1
  go_wp2
  refine wp_loop_rounds 2 ?_
  rw [rounds_succ]
  go_wp2
  rw [rounds_succ]
  go_wp2
  go_ret
  exact ⟨ret_i64 (by omega), HBL.out⟩

set_option maxRecDepth 100000 in
set_option maxHeartbeats 2000000 in
theorem value3 (b off m cap : Nat) (z0 z1 z2 : Int) (w : World) (hbw : b < w.heap.size) (c0 : w.cell? ⟨b, off, none⟩ = some (.int .u8 z0)) (c1 : w.cell? ⟨b, off + 1, none⟩ = some (.int .u8 z1)) (c2 : w.cell? ⟨b, off + 2, none⟩ = some (.int .u8 z2)) (hm : 3 ≤ m) (hmm : m ≤ maxLen) (h0 : 0 ≤ z0) (h0' : z0 ≤ 255) (h1 : 0 ≤ z1) (h1' : z1 ≤ 255) (h2 : 0 ≤ z2) (h2' : z2 ≤ 255) :
    Calls Tryz.prog 65 #[.slice (some ⟨b, off, none⟩) m cap, .int .i64 3] w fun e w' => e = .returned (.int .i64 (64 * (64 * (z0 - 224) + z1 - 128) + z2 - 128)) ∧ Below w.heap.size w w' := by
  unfold maxLen at hmm
  have m0 : (0 : Int) < (m : Int) := by omega
  have m1 : (1 : Int) < (m : Int) := by omega
  have m2 : (2 : Int) < (m : Int) := by omega
  have HB : Hid (b < w.heap.size) := hbw
  go_enter Tryz.func65, Tryz.ntmps65
  go_wp2
  go_region
  generalize hW : (w.alloc (.cells #[.int .i64 0, .int .i64 0, .int .i64 192, .int .i64 224, .int .i64 240] 3)).drew = W1
  have HBL : Hid (Below w.heap.size w W1) := by rw [← hW]; exact ((Below.refl _ _).alloc (Nat.le_refl _) _).drew
  clear hW
  have e0 : W1.cell? ⟨b, off, none⟩ = some (.int .u8 z0) := (HBL.out.cell (p := ⟨b, off, none⟩) HB.out).trans c0
  have e1 : W1.cell? ⟨b, off + 1, none⟩ = some (.int .u8 z1) := (HBL.out.cell (p := ⟨b, off + 1, none⟩) HB.out).trans c1
  have e2 : W1.cell? ⟨b, off + 2, none⟩ = some (.int .u8 z2) := (HBL.out.cell (p := ⟨b, off + 2, none⟩) HB.out).trans c2
  clear c0 c1 c2
  go_wp2
  refine wp_loop_rounds 3 ?_
  rw [rounds_succ]
  go_wp2
  rw [rounds_succ]
  go_wp2
  rw [rounds_succ]
  go_wp2
  go_ret
  exact ⟨ret_i64 (by omega), HBL.out⟩

set_option maxRecDepth 100000 in
set_option maxHeartbeats 2000000 in
theorem value4 (b off m cap : Nat) (z0 z1 z2 z3 : Int) (w : World) (hbw : b < w.heap.size) (c0 : w.cell? ⟨b, off, none⟩ = some (.int .u8 z0)) (c1 : w.cell? ⟨b, off + 1, none⟩ = some (.int .u8 z1)) (c2 : w.cell? ⟨b, off + 2, none⟩ = some (.int .u8 z2)) (c3 : w.cell? ⟨b, off + 3, none⟩ = some (.int .u8 z3)) (hm : 4 ≤ m) (hmm : m ≤ maxLen) (h0 : 0 ≤ z0) (h0' : z0 ≤ 255) (h1 : 0 ≤ z1) (h1' : z1 ≤ 255) (h2 : 0 ≤ z2) (h2' : z2 ≤ 255) (h3 : 0 ≤ z3) (h3' : z3 ≤ 255) :
    Calls Tryz.prog 65 #[.slice (some ⟨b, off, none⟩) m cap, .int .i64 4] w fun e w' => e = .returned (.int .i64 (64 * (64 * (64 * (z0 - 240) + z1 - 128) + z2 - 128) + z3 - 128)) ∧ Below w.heap.size w w' := by
  unfold maxLen at hmm
  have m0 : (0 : Int) < (m : Int) := by omega
  have m1 : (1 : Int) < (m : Int) := by omega
  have m2 : (2 : Int) < (m : Int) := by omega
  have m3 : (3 : Int) < (m : Int) := by omega
  have HB : Hid (b < w.heap.size) := hbw
  go_enter Tryz.func65, Tryz.ntmps65
  go_wp2
  go_region
  generalize hW : (w.alloc (.cells #[.int .i64 0, .int .i64 0, .int .i64 192, .int .i64 224, .int .i64 240] 3)).drew = W1
  have HBL : Hid (Below w.heap.size w W1) := by rw [← hW]; exact ((Below.refl _ _).alloc (Nat.le_refl _) _).drew
  clear hW
  have e0 : W1.cell? ⟨b, off, none⟩ = some (.int .u8 z0) := (HBL.out.cell (p := ⟨b, off, none⟩) HB.out).trans c0
  have e1 : W1.cell? ⟨b, off + 1, none⟩ = some (.int .u8 z1) := (HBL.out.cell (p := ⟨b, off + 1, none⟩) HB.out).trans c1
  have e2 : W1.cell? ⟨b, off + 2, none⟩ = some (.int .u8 z2) := (HBL.out.cell (p := ⟨b, off + 2, none⟩) HB.out).trans c2
  have e3 : W1.cell? ⟨b, off + 3, none⟩ = some (.int .u8 z3) := (HBL.out.cell (p := ⟨b, off + 3, none⟩) HB.out).trans c3
  clear c0 c1 c2 c3
  go_wp2
  refine wp_loop_rounds 4 ?_
  rw [rounds_succ]
  go_wp2
  rw [rounds_succ]
  go_wp2
  rw [rounds_succ]
  go_wp2
  rw [rounds_succ]
  go_wp2
  go_ret
  exact ⟨ret_i64 (by omega), HBL.out⟩

theorem value_r (b off m cap n : Nat) (zs : List Int) (w : World) (hbw : b < w.heap.size) (hB : Bts w b off zs) (hy : Byt zs) (h1 : 1 ≤ n) (h4 : n ≤ 4) (hn : n ≤ zs.length) (hm : zs.length ≤ m) (hmm : m ≤ maxLen) :
    Calls Tryz.prog 65 #[.slice (some ⟨b, off, none⟩) m cap, .int .i64 (n : Int)] w fun e w' => e = .returned (.int .i64 (valT zs n)) ∧ Below w.heap.size w w' := by
  have c0 := bts_at hB 0 (by omega)
  simp only [Nat.add_zero] at c0
  have y0 := byt_at hy 0 (by omega)
  match n, h1, h4 with
  | 1, _, _ => exact value1 b off m cap _ w hbw c0 (by omega) hmm y0.1 y0.2
  | 2, _, _ =>
    have y1 := byt_at hy 1 (by omega)
    exact value2 b off m cap _ _ w hbw c0 (bts_at hB 1 (by omega)) (by omega) hmm y0.1 y0.2 y1.1 y1.2
  | 3, _, _ =>
    have y1 := byt_at hy 1 (by omega)
    have y2 := byt_at hy 2 (by omega)
    exact value3 b off m cap _ _ _ w hbw c0 (bts_at hB 1 (by omega)) (bts_at hB 2 (by omega)) (by omega) hmm y0.1 y0.2 y1.1 y1.2 y2.1 y2.2
  | 4, _, _ =>
    have y1 := byt_at hy 1 (by omega)
    have y2 := byt_at hy 2 (by omega)
    have y3 := byt_at hy 3 (by omega)
    exact value4 b off m cap _ _ _ _ w hbw c0 (bts_at hB 1 (by omega)) (bts_at hB 2 (by omega)) (bts_at hB 3 (by omega)) (by omega) hmm y0.1 y0.2 y1.1 y1.2 y2.1 y2.2 y3.1 y3.2
end Go.Proofs.YtpgllcdcpdeicaaGreatDoor.Ut
namespace Go.Proofs.YtpgllcdcpdeicaaGreatDoor.Ut
open Go.RowKit
set_option linter.unusedSimpArgs false
set_option linter.unusedVariables false

def encOK (zs : List Int) (n : Nat) : Prop := isR (valT zs n) = true ∧ putI (valT zs n) = zs.take n
theorem okTo1 (zs : List Int) : okTo zs 1 := fun j hj h1 => by omega
theorem okTo2 (zs : List Int) : okTo zs 2 ↔ okAt zs 1 := ⟨fun h => h 1 (by omega) (by omega), fun h => okTo_succ (okTo1 zs) h⟩
theorem okTo3 (zs : List Int) : okTo zs 3 ↔ okAt zs 1 ∧ okAt zs 2 := ⟨fun h => ⟨h 1 (by omega) (by omega), h 2 (by omega) (by omega)⟩, fun h => okTo_succ ((okTo2 zs).2 h.1) h.2⟩
theorem okTo4 (zs : List Int) : okTo zs 4 ↔ okAt zs 1 ∧ okAt zs 2 ∧ okAt zs 3 := ⟨fun h => ⟨h 1 (by omega) (by omega), h 2 (by omega) (by omega), h 3 (by omega) (by omega)⟩, fun h => okTo_succ ((okTo3 zs).2 ⟨h.1, h.2.1⟩) h.2.2⟩

theorem isR_iff (v : Int) : isR v = true ↔ 0 ≤ v ∧ v ≤ 1114111 ∧ (v < 55296 ∨ 57343 < v) := by unfold isR; simp

theorem enc1 (z0 : Int) (h0 : 0 ≤ z0) (h1 : z0 ≤ 255) : (isR z0 = true ∧ putI z0 = [z0]) ↔ szI z0 = 1 := by
  rw [isR_iff]
  unfold putI szI
  constructor
  · rintro ⟨_, h⟩
    split at h
    · rw [if_pos (by omega)]
    · split at h
      · simp at h
      · split at h <;> simp at h
  · intro h
    split at h
    · exact ⟨by omega, by rw [if_pos (by omega)]⟩
    · (repeat' split at h) <;> omega
theorem enc2 (z0 z1 v : Int) (hv : v = 64 * (z0 - 192) + z1 - 128) (h0 : 0 ≤ z0) (h1 : z0 ≤ 255) (h2 : 0 ≤ z1) (h3 : z1 ≤ 255) : (isR v = true ∧ putI v = [z0, z1]) ↔ (szI z0 = 2 ∧ lo2 z0 ≤ z1 ∧ z1 ≤ hi2 z0) := by
  rw [isR_iff]
  unfold putI szI lo2 hi2
  constructor
  · rintro ⟨_, h⟩
    split at h
    · simp at h
    · split at h
      · simp only [List.cons.injEq, and_true] at h
        obtain ⟨ha, hb⟩ := h
        rw [if_neg (by omega), if_neg (by omega), if_pos (by omega), if_neg (by omega), if_neg (by omega), if_neg (by omega), if_neg (by omega)]
        omega
      · split at h <;> simp at h
  · rintro ⟨h, hl, hh⟩
    have hr : 194 ≤ z0 ∧ z0 ≤ 223 := by (repeat' split at h) <;> omega
    rw [if_neg (by omega), if_neg (by omega)] at hl
    rw [if_neg (by omega), if_neg (by omega)] at hh
    refine ⟨by omega, ?_⟩
    rw [if_neg (by omega), if_pos (by omega)]
    simp only [List.cons.injEq, and_true]
    omega
theorem enc3 (z0 z1 z2 v : Int) (hv : v = 64 * (64 * (z0 - 224) + z1 - 128) + z2 - 128) (h0 : 0 ≤ z0) (h1 : z0 ≤ 255) (h2 : 0 ≤ z1) (h3 : z1 ≤ 255) (h4 : 0 ≤ z2) (h5 : z2 ≤ 255) :
    (isR v = true ∧ putI v = [z0, z1, z2]) ↔ (szI z0 = 3 ∧ (lo2 z0 ≤ z1 ∧ z1 ≤ hi2 z0) ∧ 128 ≤ z2 ∧ z2 ≤ 191) := by
  rw [isR_iff]
  unfold putI szI lo2 hi2
  constructor
  · rintro ⟨hr, h⟩
    split at h
    · simp at h
    · split at h
      · simp at h
      · split at h
        · simp only [List.cons.injEq, and_true] at h
          obtain ⟨ha, hb, hc⟩ := h
          rw [if_neg (by omega), if_neg (by omega), if_neg (by omega), if_pos (by omega)]
          refine ⟨rfl, ⟨?_, ?_⟩, by omega, by omega⟩
          · (repeat' split) <;> omega
          · (repeat' split) <;> omega
        · simp at h
  · rintro ⟨h, ⟨hl, hh⟩, h6, h7⟩
    have hr : 224 ≤ z0 ∧ z0 ≤ 239 := by (repeat' split at h) <;> omega
    have hl' : 128 ≤ z1 ∧ (z0 = 224 → 160 ≤ z1) := by (repeat' split at hl) <;> omega
    have hh' : z1 ≤ 191 ∧ (z0 = 237 → z1 ≤ 159) := by (repeat' split at hh) <;> omega
    clear hl hh h
    refine ⟨by omega, ?_⟩
    rw [if_neg (by omega), if_neg (by omega), if_pos (by omega)]
    simp only [List.cons.injEq, and_true]
    omega
theorem enc4 (z0 z1 z2 z3 v : Int) (hv : v = 64 * (64 * (64 * (z0 - 240) + z1 - 128) + z2 - 128) + z3 - 128) (h0 : 0 ≤ z0) (h1 : z0 ≤ 255) (h2 : 0 ≤ z1) (h3 : z1 ≤ 255) (h4 : 0 ≤ z2) (h5 : z2 ≤ 255) (h8 : 0 ≤ z3) (h9 : z3 ≤ 255) :
    (isR v = true ∧ putI v = [z0, z1, z2, z3]) ↔ (szI z0 = 4 ∧ (lo2 z0 ≤ z1 ∧ z1 ≤ hi2 z0) ∧ (128 ≤ z2 ∧ z2 ≤ 191) ∧ 128 ≤ z3 ∧ z3 ≤ 191) := by
  rw [isR_iff]
  unfold putI szI lo2 hi2
  constructor
  · rintro ⟨hr, h⟩
    split at h
    · simp at h
    · split at h
      · simp at h
      · split at h
        · simp at h
        · simp only [List.cons.injEq, and_true] at h
          obtain ⟨ha, hb, hc, hd⟩ := h
          rw [if_neg (by omega), if_neg (by omega), if_neg (by omega), if_neg (by omega), if_pos (by omega)]
          refine ⟨rfl, ⟨?_, ?_⟩, by omega, by omega⟩
          · (repeat' split) <;> omega
          · (repeat' split) <;> omega
  · rintro ⟨h, ⟨hl, hh⟩, ⟨h6, h7⟩, h10, h11⟩
    have hr : 240 ≤ z0 ∧ z0 ≤ 244 := by (repeat' split at h) <;> omega
    have hl' : 128 ≤ z1 ∧ (z0 = 240 → 144 ≤ z1) := by (repeat' split at hl) <;> omega
    have hh' : z1 ≤ 191 ∧ (z0 = 244 → z1 ≤ 143) := by (repeat' split at hh) <;> omega
    clear hl hh h
    refine ⟨by omega, ?_⟩
    rw [if_neg (by omega), if_neg (by omega), if_neg (by omega)]
    simp only [List.cons.injEq, and_true]
    omega

theorem enc_iff (zs : List Int) (n : Nat) (hy : Byt zs) (h1 : 1 ≤ n) (h4 : n ≤ 4) (hn : n ≤ zs.length) : encOK zs n ↔ (szI (gd zs 0) = n ∧ okTo zs n) := by
  unfold encOK
  match n, h1, h4 with
  | 1, _, _ =>
    match zs, hn with
    | z0 :: r, _ =>
      have y0 := hy z0 (by simp)
      have := enc1 z0 y0.1 y0.2
      simp only [valT, gd, if_true, List.take_succ_cons, List.take_zero, List.getD_cons_zero]
      rw [this]
      exact ⟨fun h => ⟨h, okTo1 _⟩, fun h => h.1⟩
  | 2, _, _ =>
    match zs, hn with
    | z0 :: z1 :: r, _ =>
      have y0 := hy z0 (by simp)
      have y1 := hy z1 (by simp)
      have := enc2 z0 z1 _ rfl y0.1 y0.2 y1.1 y1.2
      rw [okTo2]
      simp only [valT, gd, okAt, if_true, if_neg (show ¬ (2 : Nat) = 1 by decide), List.take_succ_cons, List.take_zero, List.getD_cons_zero, List.getD_cons_succ]
      exact this
  | 3, _, _ =>
    match zs, hn with
    | z0 :: z1 :: z2 :: r, _ =>
      have y0 := hy z0 (by simp)
      have y1 := hy z1 (by simp)
      have y2 := hy z2 (by simp)
      have := enc3 z0 z1 z2 _ rfl y0.1 y0.2 y1.1 y1.2 y2.1 y2.2
      rw [okTo3]
      simp only [valT, gd, okAt, if_true, if_neg (show ¬ (2 : Nat) = 1 by decide), if_neg (show ¬ (3 : Nat) = 1 by decide), if_neg (show ¬ (3 : Nat) = 2 by decide), List.take_succ_cons, List.take_zero, List.getD_cons_zero, List.getD_cons_succ]
      exact this
  | 4, _, _ =>
    match zs, hn with
    | z0 :: z1 :: z2 :: z3 :: r, _ =>
      have y0 := hy z0 (by simp)
      have y1 := hy z1 (by simp)
      have y2 := hy z2 (by simp)
      have y3 := hy z3 (by simp)
      have := enc4 z0 z1 z2 z3 _ rfl y0.1 y0.2 y1.1 y1.2 y2.1 y2.2 y3.1 y3.2
      rw [okTo4]
      simp only [valT, gd, okAt, if_true, if_neg (show ¬ (2 : Nat) = 1 by decide), if_neg (show ¬ (3 : Nat) = 1 by decide), if_neg (show ¬ (4 : Nat) = 1 by decide), if_neg (show ¬ (4 : Nat) = 2 by decide), if_neg (show ¬ (4 : Nat) = 3 by decide), List.take_succ_cons, List.take_zero, List.getD_cons_zero, List.getD_cons_succ]
      exact this

theorem byte_inj {a b : Int} (ha : 0 ≤ a ∧ a ≤ 255) (hb : 0 ≤ b ∧ b ≤ 255) (h : UInt8.ofNat a.toNat = UInt8.ofNat b.toNat) : a = b := by
  have := congrArg UInt8.toNat h
  simp at this
  omega
theorem nums_inj : ∀ {a b : List Int}, Byt a → Byt b → (a.map fun n => UInt8.ofNat n.toNat) = (b.map fun n => UInt8.ofNat n.toNat) → a = b
  | [], [], _, _, _ => rfl
  | [], _ :: _, _, _, h => by simp at h
  | _ :: _, [], _, _, h => by simp at h
  | x :: a, y :: b, ha, hb, h => by
    simp only [List.map_cons, List.cons.injEq] at h
    rw [byte_inj (ha x (by simp)) (hb y (by simp)) h.1, nums_inj (fun z hz => ha z (by simp [hz])) (fun z hz => hb z (by simp [hz])) h.2]
theorem str_nums (a b : List Int) (ha : Byt a) (hb : Byt b) : ((strOfNums a).toList == (strOfNums b).toList) = decide (a = b) := by
  rw [Lib.toList_data, Lib.toList_data, strOfNums_data, strOfNums_data, Bool.eq_iff_iff]
  simp only [beq_iff_eq, decide_eq_true_eq]
  exact ⟨nums_inj ha hb, fun h => by rw [h]⟩
theorem putI_byt (v : Int) (h : isR v = true) : Byt (putI v) := by
  rw [isR_iff] at h
  intro z hz
  unfold putI at hz
  (repeat' split at hz) <;> simp at hz <;> omega
end Go.Proofs.YtpgllcdcpdeicaaGreatDoor.Ut
namespace Go.Proofs.YtpgllcdcpdeicaaGreatDoor.Ut
open Go.RowKit
set_option linter.unusedSimpArgs false
set_option linter.unusedVariables false

theorem info5 : (Tryz.prog.info? 5).map (fun i => (i.zero, i.size, i.bytes)) = some (some (.int .u8 0), 1, 1) := by kernel_rfl
theorem conv_str {w : World} {b off len cap : Nat} {zs : List Int} (hB : Bts w b off zs) (hn : len = zs.length) : (convert 82 9 (.slice (some ⟨b, off, none⟩) len cap)).run Tryz.prog w = .ok (.string (strOfNums zs)) w := by
  subst hn
  refine run_convert_bytes_arg w 82 5 Tryz.underlying82 Tryz.underlying5 b off zs.length cap zs rfl (fun i hi => ?_) 9 Tryz.underlying9
  rw [hB i hi]
  simp [List.getD, List.getElem?_eq_getElem hi]

def sixL : List Int := [128, 143, 144, 159, 160, 191]
/-- the bytes that are tried: x behind them, then 128s -/
def fillL (zs : List Int) (m : Nat) (x : Int) : List Int := zs ++ x :: List.replicate (m - zs.length - 1) 128
theorem fill_len (zs : List Int) (m : Nat) (x : Int) (h : zs.length < m) : (fillL zs m x).length = m := by unfold fillL; simp; omega
theorem fill_byt (zs : List Int) (m : Nat) (x : Int) (hy : Byt zs) (hx : 0 ≤ x ∧ x ≤ 255) : Byt (fillL zs m x) := by
  intro z hz
  unfold fillL at hz
  rcases List.mem_append.1 hz with hz | hz
  · exact hy z hz
  · rcases List.mem_cons.1 hz with rfl | hz
    · exact hx
    · rw [(List.mem_replicate.1 hz).2]; omega
theorem fill_at_old (zs : List Int) (m : Nat) (x : Int) (j : Nat) (h : j < zs.length) : gd (fillL zs m x) j = gd zs j := by
  unfold gd fillL; simp [List.getD, List.getElem?_append_left h]
theorem fill_at_x (zs : List Int) (m : Nat) (x : Int) (j : Nat) (h : j = zs.length) : gd (fillL zs m x) j = x := by
  subst h; unfold gd fillL; simp [List.getD]
theorem fill_at_new (zs : List Int) (m : Nat) (x : Int) (j : Nat) (h : zs.length < j) (h2 : j < m) : gd (fillL zs m x) j = 128 := by
  unfold gd fillL
  obtain ⟨d, rfl⟩ : ∃ d, j = zs.length + (d + 1) := ⟨j - zs.length - 1, by omega⟩
  have : d < m - zs.length - 1 := by omega
  simp [List.getD, List.getElem?_append_right, List.getElem?_replicate, this]
theorem fill_snoc (zs : List Int) (m : Nat) (x : Int) (k : Nat) (h1 : zs.length ≤ k) (h2 : k < m) : (fillL zs m x).take (k + 1) = (fillL zs m x).take k ++ [if k = zs.length then x else 128] := by
  have hl := fill_len zs m x (by omega)
  rw [List.take_succ_eq_append_getElem (by omega), gd_at]
  by_cases e : k = zs.length
  · rw [if_pos e, fill_at_x zs m x k e]
  · rw [if_neg e, fill_at_new zs m x k (by omega) h2]
theorem fill_old (zs : List Int) (m : Nat) (x : Int) : (fillL zs m x).take zs.length = zs := by unfold fillL; simp

def begP (zs : List Int) : Prop := 1 ≤ zs.length ∧ zs.length ≤ 3 ∧ zs.length < szI (gd zs 0) ∧ okTo zs zs.length
instance (zs : List Int) : Decidable (begP zs) := by unfold begP; infer_instance
theorem six_range {x : Int} (h : x ∈ sixL) : 128 ≤ x ∧ x ≤ 191 := by
  simp only [sixL, List.mem_cons, List.mem_nil_iff, or_false] at h
  omega
theorem beg_yes {zs : List Int} {m : Nat} {x : Int} (hy : Byt zs) (h1 : 1 ≤ zs.length) (h3 : zs.length < m) (h4 : m ≤ 4) (hx : x ∈ sixL) (he : encOK (fillL zs m x) m) : begP zs := by
  have hxr := six_range hx
  rw [enc_iff _ m (fill_byt zs m x hy (by omega)) (by omega) h4 (by rw [fill_len zs m x h3]; exact Nat.le_refl _), fill_at_old zs m x 0 (by omega)] at he
  refine ⟨h1, by omega, by omega, fun j hj hj1 => ?_⟩
  have := he.2 j (by omega) hj1
  unfold okAt at this ⊢
  rw [fill_at_old zs m x j hj, fill_at_old zs m x 0 (by omega)] at this
  by_cases e : j = 1
  · subst e; rw [fill_at_old zs m x 1 hj] at this; exact this
  · rw [if_neg e] at this ⊢; exact this
theorem beg_no {zs : List Int} (hy : Byt zs) (h : ∀ m x, zs.length < m → m ≤ 4 → x ∈ sixL → ¬ encOK (fillL zs m x) m) : ¬ begP zs := by
  rintro ⟨h1, h3, hs, hok⟩
  have hs4 : szI (gd zs 0) ≤ 4 := by unfold szI; (repeat' split) <;> omega
  have hlo : lo2 (gd zs 0) ∈ sixL := by unfold lo2; (repeat' split) <;> simp [sixL]
  have hlr := six_range hlo
  have hlh : lo2 (gd zs 0) ≤ hi2 (gd zs 0) := by unfold lo2 hi2; (repeat' split) <;> omega
  refine h (szI (gd zs 0)) (if zs.length = 1 then lo2 (gd zs 0) else 128) hs hs4 (by split; exact hlo; simp [sixL]) ?_
  have hxr : 0 ≤ (if zs.length = 1 then lo2 (gd zs 0) else 128) ∧ (if zs.length = 1 then lo2 (gd zs 0) else 128) ≤ 255 := by split <;> omega
  rw [enc_iff _ _ (fill_byt zs _ _ hy hxr) (by omega) hs4 (by rw [fill_len zs _ _ hs]; exact Nat.le_refl _), fill_at_old zs _ _ 0 (by omega)]
  refine ⟨rfl, fun j hj hj1 => ?_⟩
  by_cases hjl : j < zs.length
  · have := hok j hjl hj1
    unfold okAt at this ⊢
    rw [fill_at_old zs _ _ j hjl, fill_at_old zs _ _ 0 (by omega)]
    by_cases e : j = 1
    · subst e; rw [fill_at_old zs _ _ 1 hjl]; exact this
    · rw [if_neg e] at this ⊢; exact this
  · unfold okAt
    by_cases e : j = 1
    · subst e
      have el : zs.length = 1 := by omega
      rw [if_pos rfl, fill_at_old zs _ _ 0 (by omega), fill_at_x zs _ _ 1 el.symm, if_pos el]
      exact ⟨Int.le_refl _, hlh⟩
    · rw [if_neg e]
      by_cases e2 : j = zs.length
      · rw [fill_at_x zs _ _ j e2, if_neg (by omega)]; omega
      · rw [fill_at_new zs _ _ j (by omega) hj]; omega

theorem bts_own {w : World} {B g cap n : Nat} {zs : List Int} (h : w.ownsRow B 5 1 (.slice (some ⟨g, 0, none⟩) n cap) n (zs.map (Value.int .u8))) : Bts w g 0 zs := by
  intro j hj
  have hl := h.1
  rw [List.length_map] at hl
  rw [Nat.zero_add, h.cellAt j (by omega)]
  simp [hj]
end Go.Proofs.YtpgllcdcpdeicaaGreatDoor.Ut
namespace Go.Proofs.YtpgllcdcpdeicaaGreatDoor.Ut
open Go.RowKit
set_option linter.unusedSimpArgs false
set_option linter.unusedVariables false

theorem beg_len (A : Option Addr) (n cap : Nat) (w : World) (hm : n ≤ maxLen) (h : n = 0 ∨ 3 < n) : Calls Tryz.prog 66 #[.slice A n cap] w fun e w' => e = .returned (.bool false) ∧ Below w.heap.size w w' := by
  unfold maxLen at hm
  rcases h with rfl | h
  · go_enter Tryz.func66, Tryz.ntmps66
    go_wp2
    go_ret
    exact ⟨rfl, Below.refl _ _⟩
  · have hne : ((n : Int) == 0) = false := by simp; omega
    have h3 : (3 : Int) < (n : Int) := by omega
    go_enter Tryz.func66, Tryz.ntmps66
    go_wp2
    go_ret
    exact ⟨rfl, Below.refl _ _⟩

theorem six_cells (w : World) : ∀ j, j < 6 → (w.alloc (.cells #[.int .u8 128, .int .u8 143, .int .u8 144, .int .u8 159, .int .u8 160, .int .u8 191] 5)).cell? ⟨w.heap.size, j, none⟩ = some (.int .u8 (gd sixL j)) := by
  intro j hj
  rw [World.cell?_alloc_at _ _ _ _ rfl]
  match j, hj with
  | 0, _ | 1, _ | 2, _ | 3, _ | 4, _ | 5, _ => rfl
theorem six_mem (j : Nat) (hj : j < 6) : gd sixL j ∈ sixL := by
  match j, hj with
  | 0, _ | 1, _ | 2, _ | 3, _ | 4, _ | 5, _ => simp [gd, sixL]
theorem six_at {x : Int} (h : x ∈ sixL) : ∃ j, j < 6 ∧ gd sixL j = x := by
  obtain ⟨j, hj, rfl⟩ := List.getElem_of_mem h
  exact ⟨j, hj, (gd_at hj).symm⟩

set_option maxRecDepth 100000 in
set_option maxHeartbeats 8000000 in
theorem beg_walk (b off n cap : Nat) (zs : List Int) (w : World) (hB : Bts w b off zs) (hbw : b < w.heap.size) (hy : Byt zs) (hn : Hid (zs.length = n)) (h1 : 1 ≤ n) (h3 : n ≤ 3) :
    Calls Tryz.prog 66 #[.slice (some ⟨b, off, none⟩) n cap] w fun e w' => e = .returned (.bool (decide (begP zs))) ∧ Below w.heap.size w w' := by
  obtain ⟨i0, hi, hz0, hz1, hz2⟩ := info_parts info5
  have HB0 := Lib.hid hB
  have HBW := Lib.hid hbw
  have HY := Lib.hid hy
  clear hB hbw hy
  have hne : ((n : Int) == 0) = false := by simp; omega
  have h3' : ¬ ((3 : Int) < (n : Int)) := by omega
  go_enter Tryz.func66, Tryz.ntmps66
  go_wp2
  clear hne h3'
  go_loopw [3] (fun i wr => ∃ m : Nat, n < m ∧ m ≤ 5 ∧ i = .int .i64 m ∧ (∀ m' x, n < m' → m' < m → x ∈ sixL → ¬ encOK (fillL zs m' x) m') ∧ Below w.heap.size w wr) (fun i _ => 5 - (intOf i).toNat)
  case atStart => exact ⟨n + 1, by omega, by omega, by go_num, fun m' x ha hb => by omega, Below.refl _ _⟩
  case round =>
    obtain ⟨m, hm1, hm5, rfl, hno, hW⟩ := hrel
    have HN := Lib.hid hno
    have HW := Lib.hid hW
    clear hno hW
    by_cases hlt : m ≤ 4
    · have hlt' : (m : Int) ≤ 4 := by omega
      go_wp2
      have HS : Hid (∀ j, j < 6 → (wr.alloc (.cells #[.int .u8 128, .int .u8 143, .int .u8 144, .int .u8 159, .int .u8 160, .int .u8 191] 5)).cell? ⟨wr.heap.size, j, none⟩ = some (.int .u8 (gd sixL j))) := six_cells wr
      have HBS : Hid (Below w.heap.size w (wr.alloc (.cells #[.int .u8 128, .int .u8 143, .int .u8 144, .int .u8 159, .int .u8 160, .int .u8 191] 5))) := HW.out.alloc HW.out.size _
      have HGS : Hid (wr.heap.size < (wr.alloc (.cells #[.int .u8 128, .int .u8 143, .int .u8 144, .int .u8 159, .int .u8 160, .int .u8 191] 5)).heap.size) := by show wr.heap.size < _; simp
      clear HW
      revert HS HBS HGS
      generalize wr.alloc (.cells #[.int .u8 128, .int .u8 143, .int .u8 144, .int .u8 159, .int .u8 160, .int .u8 191] 5) = W2
      generalize wr.heap.size = g6
      intro HS HBS HGS
      go_loopw [27] (fun i wq => ∃ j : Nat, j ≤ 6 ∧ i = .int .i64 j ∧ (∀ j', j' < j → ¬ encOK (fillL zs m (gd sixL j')) m) ∧ Below W2.heap.size W2 wq) (fun i _ => 6 - (intOf i).toNat)
      case atStart => exact ⟨0, by omega, rfl, fun j' hj => by omega, Below.refl _ _⟩
      case round =>
        rename World => wq
        obtain ⟨j, hj6, rfl, hnj, hQ⟩ := hrel
        have HNJ := Lib.hid hnj
        have HQ := Lib.hid hQ
        clear hnj hQ
        by_cases hjl : j < 6
        · have hcj : wq.cell? ⟨g6, j, none⟩ = some (.int .u8 (gd sixL j)) := (HQ.out.cell (p := ⟨g6, j, none⟩) HGS.out).trans (HS.out j hjl)
          have HM := Lib.hid (six_mem j hjl)
          have HNX : Hid (¬ encOK (fillL zs m (gd sixL j)) m → ∀ j', j' < j + 1 → ¬ encOK (fillL zs m (gd sixL j')) m) := fun h j' hj' => by
            by_cases e : j' = j
            · subst e; exact h
            · exact HNJ.out j' (by omega)
          have HWQ : Hid (Below w.heap.size w wq) := HBS.out.trans (HQ.out.mono HBS.out.size)
          have HBQ : Hid (∀ t (ht : t < zs.length), (wq.alloc (.cells #[] 5)).cell? ((⟨b, off, none⟩ : Addr).add t) = some (.int .u8 zs[t])) := fun t ht => by
            have e : (⟨b, off, none⟩ : Addr).add t = ⟨b, off + t, none⟩ := by unfold Addr.add; split <;> simp_all
            rw [e, World.cell?_alloc_lt _ _ _ (Nat.lt_of_lt_of_le HBW.out HWQ.out.size)]
            exact (HWQ.out.cell (p := ⟨b, off + t, none⟩) HBW.out).trans (HB0.out t ht)
          revert hcj HM HNX
          generalize gd sixL j = x
          intro hcj HM HNX
          go_wp2_with (at_builtin; refine wpList_append_own _ rfl _ _ 82 rfl wq.heap.size 5 i0 (.int .u8 0) 1 1 Tryz.underlying82 hi hz0 hz1 hz2 rfl (by decide) _ _ _ rfl (World.ownsRow_made wq #[] 0 (Nat.le_refl _) (by unfold maxLen; omega) rfl) ⟨b, off, none⟩ n cap (zs.map (Value.int .u8)) rfl ?c1 ?c2 ?c3 ?c4 ?c5 ?c6 ?_)
          case c1 => have := hn.out; rw [List.length_map]; omega
          case c2 =>
            intro t u hu
            have ht : t < zs.length := by have := (List.getElem?_eq_some_iff.1 hu).1; simpa using this
            rw [HBQ.out t ht]
            simpa [List.getElem?_eq_getElem ht] using hu
          case c3 => intro u hu; obtain ⟨q, _, rfl⟩ := List.mem_map.1 hu; rfl
          case c4 => unfold maxLen; omega
          case c5 => omega
          case c6 => simp
          · intro v' w3 hown' hgrow _
            have HST : Hid (w3.ownsRow wq.heap.size 5 1 v' n (((fillL zs m x).take n).map (Value.int .u8))) := by
              show w3.ownsRow wq.heap.size 5 1 v' n (((fillL zs m x).take n).map (Value.int .u8))
              rw [← hn.out, fill_old, hn.out]
              simpa using hown'
            have HB3 : Hid (Below wq.heap.size wq w3) := ((Below.refl _ _).alloc (Nat.le_refl _) _).grown hgrow (by simp) (fun k hk => by simp [Value.ownBlock] at hk; omega)
            clear hown' hgrow HBQ
            go_wp2
            go_loopw [6, 7] (fun v i ws => ∃ k : Nat, n ≤ k ∧ k ≤ m ∧ i = .int .i64 k ∧ ws.ownsRow wq.heap.size 5 1 v k (((fillL zs m x).take k).map (Value.int .u8)) ∧ Below wq.heap.size wq ws) (fun _ i _ => m - (intOf i).toNat)
            case atStart => exact ⟨n, by omega, by omega, rfl, HST.out, HB3.out⟩
            case round =>
              rename World => ws
              clear HST HB3
              obtain ⟨k, hk1, hk2, rfl, hown, hBs⟩ := hrel
              have HO := Lib.hid hown
              have HBs := Lib.hid hBs
              clear hBs
              by_cases hkm : k < m
              · have HSN := Lib.hid (fill_snoc zs m x k (by have := hn.out; omega) hkm)
                rw [show zs.length = n from hn.out] at HSN
                by_cases e : k = n
                · have e' : ((k : Int) == (n : Int)) = true := by simp [e]
                  have e'' : decide (k = n) = true := by simpa using e
                  have HE := Lib.hid e
                  clear e
                  go_wp2_with (at_builtin; refine wpList_append_own _ rfl _ _ 82 rfl wq.heap.size 5 i0 (.int .u8 0) 1 1 Tryz.underlying82 hi hz0 hz1 hz2 rfl (by decide) _ _ _ rfl (hown.alloc _) ⟨ws.heap.size, 0, none⟩ 1 1 [.int .u8 x] rfl rfl ?d1 ?d2 ?d3 ?d4 ?d5 ?_)
                  case d1 =>
                    intro j u hj
                    match j, hj with
                    | 0, hj => simp at hj; subst hj; simp [Addr.add]
                  case d2 => intro u hu; simp at hu; subst hu; rfl
                  case d3 => unfold maxLen; omega
                  case d4 => omega
                  case d5 => have := HBs.out.size; simp; omega
                  · intro v'' w4 hown'' hgrow'' _
                    have HR : Hid (w4.ownsRow wq.heap.size 5 1 v'' (k + 1) (((fillL zs m x).take (k + 1)).map (Value.int .u8)) ∧ Below wq.heap.size wq w4) := by
                      refine ⟨?_, HBs.out.trans (((Below.refl _ _).alloc HBs.out.size _).grown hgrow'' (by have := HBs.out.size; simp; omega) (fun q hq => (HO.out.lt q hq).1))⟩
                      rw [HSN.out, if_pos HE.out, List.map_append]
                      simpa using hown''
                    clear hown'' hgrow'' hown
                    go_wp2
                    go_roundw
                    case rel => exact ⟨k + 1, by omega, by omega, by go_num, HR.out.1, HR.out.2⟩
                    case measure => simp [intOf]; omega
                · have e' : ((k : Int) == (n : Int)) = false := by simp; omega
                  have e'' : decide (k = n) = false := by simpa using e
                  go_wp2_with (at_builtin; refine wpList_append_own _ rfl _ _ 82 rfl wq.heap.size 5 i0 (.int .u8 0) 1 1 Tryz.underlying82 hi hz0 hz1 hz2 rfl (by decide) _ _ _ rfl (hown.alloc _) ⟨ws.heap.size, 0, none⟩ 1 1 [.int .u8 128] rfl rfl ?f1 ?f2 ?f3 ?f4 ?f5 ?_)
                  case f1 =>
                    intro j u hj
                    match j, hj with
                    | 0, hj => simp at hj; subst hj; simp [Addr.add]
                  case f2 => intro u hu; simp at hu; subst hu; rfl
                  case f3 => unfold maxLen; omega
                  case f4 => omega
                  case f5 => have := HBs.out.size; simp; omega
                  · intro v'' w4 hown'' hgrow'' _
                    have HR : Hid (w4.ownsRow wq.heap.size 5 1 v'' (k + 1) (((fillL zs m x).take (k + 1)).map (Value.int .u8)) ∧ Below wq.heap.size wq w4) := by
                      refine ⟨?_, HBs.out.trans (((Below.refl _ _).alloc HBs.out.size _).grown hgrow'' (by have := HBs.out.size; simp; omega) (fun q hq => (HO.out.lt q hq).1))⟩
                      rw [HSN.out, if_neg e, List.map_append]
                      simpa using hown''
                    clear hown'' hgrow'' hown
                    go_wp2
                    go_roundw
                    case rel => exact ⟨k + 1, by omega, by omega, by go_num, HR.out.1, HR.out.2⟩
                    case measure => simp [intOf]; omega
              · obtain rfl : k = m := by omega
                obtain ⟨gc, capc, rfl⟩ := Joins.ownsRow_form hown (by omega)
                have hfl : (fillL zs k x).take k = fillL zs k x := List.take_of_length_le (by have := hn.out; rw [fill_len zs k x (by omega)]; exact Nat.le_refl _)
                have HFB : Hid (Byt (fillL zs k x)) := fill_byt zs k x HY.out (by have := six_range HM.out; omega)
                have HFL : Hid ((fillL zs k x).length = k) := fill_len zs k x (by have := hn.out; omega)
                have HCB : Hid (Bts ws gc 0 (fillL zs k x)) := by rw [hfl] at hown; exact bts_own hown
                have HGC : Hid (gc < ws.heap.size) := (hown.lt gc rfl).2
                have HYN : Hid (encOK (fillL zs k x) k → begP zs) := fun h => beg_yes HY.out (by have := hn.out; omega) (by have := hn.out; omega) hlt HM.out h
                have HWS : Hid (Below w.heap.size w ws) := HWQ.out.trans (HBs.out.mono HWQ.out.size)
                clear hfl hown HO
                revert HFB HFL HCB HYN HNX
                generalize fillL zs k x = cs
                intro HNX HFB HFL HCB HYN
                have HV := Lib.hid (value_r gc 0 k capc k cs ws HGC.out HCB.out HFB.out (by omega) hlt (by have := HFL.out; omega) (by have := HFL.out; omega) (by unfold maxLen; omega))
                have HEN : Hid (encOK cs k ↔ (isR (valT cs k) = true ∧ putI (valT cs k) = cs)) := by
                  show encOK cs k ↔ (isR (valT cs k) = true ∧ putI (valT cs k) = cs)
                  unfold encOK
                  rw [List.take_of_length_le (by have := HFL.out; omega)]
                revert HV HEN
                generalize valT cs k = v
                intro HV HEN
                go_wp2_with fail
                refine HV.out.mono ?_
                rintro e w5 ⟨rfl, hb5⟩
                have HB5 : Hid (Below w.heap.size w w5) := HWS.out.trans (hb5.mono HWS.out.size)
                have HBQ5 : Hid (Below W2.heap.size W2 w5) := HQ.out.trans ((HBs.out.trans (hb5.mono HBs.out.size)).mono HQ.out.size)
                have HC5 : Hid (Bts w5 gc 0 cs) := HCB.out.below hb5 HGC.out
                have HG5 : Hid (gc < w5.heap.size) := Nat.lt_of_lt_of_le HGC.out hb5.size
                clear hb5 HV HCB HGC HWS HBs
                cases hr : isR v with
                | false =>
                  have HNE : Hid (¬ encOK cs k) := fun h => by have := (HEN.out.1 h).1; rw [hr] at this; cases this
                  have HI : Hid (∀ W : World, Calls Tryz.prog 55 #[.int .i64 v] W fun e w' => e = .returned (.bool false) ∧ w' = W) := fun W => by have h := is_r v W; rw [hr] at h; exact h.mono fun e w' hh => ⟨hh.1, hh.2.symm⟩
                  clear hr
                  go_wp2
                  go_quiet ((go_at_call 55; exact Calls.quiet_of_same (HI.out _)))
                  go_wp2
                  go_roundw
                  case rel => exact ⟨j + 1, by omega, by go_num, HNX.out HNE.out, below_drewN HBQ5.out _⟩
                  case measure => simp [intOf]; omega
                | true =>
                  have HI : Hid (∀ W : World, Calls Tryz.prog 55 #[.int .i64 v] W fun e w' => e = .returned (.bool true) ∧ W = w') := fun W => by have h := is_r v W; rw [hr] at h; exact h
                  have HP : Hid (∀ W : World, Calls Tryz.prog 54 #[.int .i64 v] W (New (putI v) W)) := fun W => put_r v W hr
                  have HC5D : Hid (Bts w5.drew gc 0 cs) := HC5.out
                  have HG5D : Hid (gc < w5.drew.heap.size) := HG5.out
                  have hcv : (convert 82 9 (.slice (some ⟨gc, 0, none⟩) k capc)).run Tryz.prog w5.drew = .ok (.string (strOfNums cs)) w5.drew := conv_str (w := w5.drew) HC5.out HFL.out.symm
                  have HQQ := Lib.hid (str_nums (putI v) cs (putI_byt v hr) HFB.out)
                  have HEN2 : Hid (encOK cs k ↔ putI v = cs) := by show encOK cs k ↔ putI v = cs; rw [HEN.out]; exact ⟨fun h => h.2, fun h => ⟨hr, h⟩⟩
                  clear hr HEN
                  revert HP HQQ HEN2
                  generalize putI v = pv
                  intro HP HQQ HEN2
                  by_cases hpe : pv = cs
                  · have hq : ((strOfNums pv).toList == (strOfNums cs).toList) = true := by rw [HQQ.out]; exact decide_eq_true hpe
                    have HPE := Lib.hid hpe
                    clear hpe
                    go_wp2
                    go_region_with (first | (go_at_call 55; refine (HI.out _).mono ?_; rintro e w' ⟨rfl, rfl⟩) | (go_at_call 54; refine (HP.out _).mono ?_; rintro e w' ⟨gp, cp, rfl, hcp, hcm, hgp, hbp, hbl⟩; have hcv1 := conv_str (len := pv.length) (cap := cp) hbp rfl; have hcv2 := conv_str (w := w') (len := k) (cap := capc) (HC5D.out.below hbl HG5D.out) HFL.out.symm; have HBL := Lib.hid hbl; clear hbl hbp))
                    all_goals
                      go_wp2
                      go_ret
                      exact ⟨ret_bool (decide_eq_true (HYN.out (HEN2.out.2 HPE.out))).symm, HB5.out.trans ((Below.drew (Below.refl _ _)).trans (HBL.out.mono HB5.out.size))⟩
                  · have hq : ((strOfNums pv).toList == (strOfNums cs).toList) = false := by rw [HQQ.out]; exact decide_eq_false hpe
                    have HPE := Lib.hid hpe
                    clear hpe
                    go_wp2
                    go_region_with (first | (go_at_call 55; refine (HI.out _).mono ?_; rintro e w' ⟨rfl, rfl⟩) | (go_at_call 54; refine (HP.out _).mono ?_; rintro e w' ⟨gp, cp, rfl, hcp, hcm, hgp, hbp, hbl⟩; have hcv1 := conv_str (len := pv.length) (cap := cp) hbp rfl; have hcv2 := conv_str (w := w') (len := k) (cap := capc) (HC5D.out.below hbl HG5D.out) HFL.out.symm; have HBL := Lib.hid hbl; clear hbl hbp))
                    all_goals
                      go_wp2
                      go_roundw
                      case rel => exact ⟨j + 1, by omega, by go_num, HNX.out (fun h => HPE.out (HEN2.out.1 h)), HBQ5.out.trans ((Below.drew (Below.refl _ _)).trans (HBL.out.mono HBQ5.out.size))⟩
                      case measure => simp [intOf]; omega
        · have HALL : Hid (∀ x, x ∈ sixL → ¬ encOK (fillL zs m x) m) := fun x hx => by
            obtain ⟨j', hj', rfl⟩ := six_at hx
            exact HNJ.out j' (by omega)
          have HWQ : Hid (Below w.heap.size w wq) := HBS.out.trans (HQ.out.mono HBS.out.size)
          go_wp2
          go_roundw
          case rel =>
            refine ⟨m + 1, by omega, by omega, by go_num, fun m' x ha hb hx => ?_, HWQ.out⟩
            by_cases e : m' = m
            · subst e; exact HALL.out x hx
            · exact HN.out m' x ha (by omega) hx
          case measure => simp [intOf]; omega
    · have HNB : Hid (¬ begP zs) := beg_no HY.out (fun m' x ha hb hx => HN.out m' x (by have := hn.out; omega) (by omega) hx)
      have hlt' : ¬ ((m : Int) ≤ 4) := by omega
      go_wp2
      go_ret
      exact ⟨ret_bool (decide_eq_false HNB.out).symm, HW.out⟩

theorem beg_r (A : Option Addr) (n cap : Nat) (zs : List Int) (w : World) (hA : Sl w A zs) (hy : Byt zs) (hn : zs.length = n) (hm : n ≤ maxLen) :
    Calls Tryz.prog 66 #[.slice A n cap] w fun e w' => e = .returned (.bool (decide (begP zs))) ∧ Below w.heap.size w w' := by
  by_cases h : n = 0 ∨ 3 < n
  · refine (beg_len A n cap w hm h).mono fun e w' ⟨he, hb⟩ => ⟨?_, hb⟩
    rw [he]
    exact ret_bool (decide_eq_false (fun hp => by obtain ⟨h1, h3, _⟩ := hp; omega)).symm
  · have hz : zs ≠ [] := fun e => by subst e; simp at hn; omega
    obtain ⟨b, off, rfl, hbw, hB⟩ := hA hz
    exact beg_walk b off n cap zs w hB hbw hy hn (by omega) (by omega)
end Go.Proofs.YtpgllcdcpdeicaaGreatDoor.Ut
namespace Go.Proofs.YtpgllcdcpdeicaaGreatDoor.Ut
open Go.RowKit
set_option linter.unusedSimpArgs false
set_option linter.unusedVariables false

def nextW (zs : List Int) : Int × Int := if zs = [] then (0, 0) else nextR zs
theorem szI_le (z : Int) : szI z ≤ 4 := by unfold szI; (repeat' split) <;> omega
theorem nextW_hit {zs : List Int} {j : Nat} (hy : Byt zs) (h1 : 1 ≤ j) (h4 : j ≤ 4) (hj : j ≤ zs.length) (h : encOK zs j) : nextW zs = (valT zs j, (j : Int)) := by
  rw [enc_iff zs j hy h1 h4 hj] at h
  obtain ⟨hs, hok⟩ := h
  have hz : zs ≠ [] := fun e => by subst e; simp at hj; omega
  unfold nextW nextR
  rw [if_neg hz, if_neg (by omega), show min zs.length (szI (gd zs 0)) = j by omega, if_pos hok, if_neg (by omega), hs]
theorem nextW_beg {zs : List Int} (h : begP zs) : nextW zs = (0, -1) := by
  obtain ⟨h1, h3, hs, hok⟩ := h
  have hz : zs ≠ [] := fun e => by subst e; simp at h1
  unfold nextW nextR
  rw [if_neg hz, if_neg (by omega), show min zs.length (szI (gd zs 0)) = zs.length by omega, if_pos hok, if_pos hs]
theorem nextW_no {zs : List Int} (hy : Byt zs) (hb : ¬ begP zs) (h : ∀ j, 1 ≤ j → j ≤ 4 → j ≤ zs.length → ¬ encOK zs j) : nextW zs = (0, 0) := by
  unfold nextW nextR
  by_cases hz : zs = []
  · rw [if_pos hz]
  · rw [if_neg hz]
    have hp : 0 < zs.length := List.length_pos_iff.2 hz
    by_cases hs : szI (gd zs 0) = 0
    · rw [if_pos hs]
    · rw [if_neg hs]
      have h4 := szI_le (gd zs 0)
      rw [if_neg ?_]
      intro hok
      by_cases hl : zs.length < szI (gd zs 0)
      · rw [show min zs.length (szI (gd zs 0)) = zs.length by omega] at hok
        exact hb ⟨by omega, by omega, hl, hok⟩
      · rw [show min zs.length (szI (gd zs 0)) = szI (gd zs 0) by omega] at hok
        exact h (szI (gd zs 0)) (by omega) h4 (by omega) ((enc_iff zs _ hy (by omega) h4 (by omega)).2 ⟨rfl, hok⟩)

def tup2 (a b : Int) : Ending := .returned (.tuple #[.int .i64 a, .int .i64 b])

set_option maxRecDepth 100000 in
set_option maxHeartbeats 8000000 in
theorem nextr_walk (b off n cap : Nat) (zs : List Int) (w : World) (hB : Bts w b off zs) (hbw : b < w.heap.size) (hy : Byt zs) (hn : Hid (zs.length = n)) (h1 : 1 ≤ n) (hm : n ≤ cap) (hcm : cap ≤ maxLen) :
    Calls Tryz.prog 52 #[.slice (some ⟨b, off, none⟩) n cap] w fun e w' => e = tup2 (nextW zs).1 (nextW zs).2 ∧ Below w.heap.size w w' := by
  unfold maxLen at hcm
  have HB0 := Lib.hid hB
  have HBW := Lib.hid hbw
  have HY := Lib.hid hy
  clear hB hbw hy
  go_enter Tryz.func52, Tryz.ntmps52
  go_wp2
  go_loopw [4] (fun i wr => ∃ k : Nat, 1 ≤ k ∧ k ≤ 5 ∧ k ≤ n + 1 ∧ i = .int .i64 k ∧ (∀ j, 1 ≤ j → j < k → ¬ encOK zs j) ∧ Below w.heap.size w wr) (fun i _ => 5 - (intOf i).toNat)
  case atStart => exact ⟨1, by omega, by omega, by omega, rfl, fun j ha hb => by omega, Below.refl _ _⟩
  case round =>
    obtain ⟨k, hk1, hk5, hkn, rfl, hno, hW⟩ := hrel
    have HN := Lib.hid hno
    have HW := Lib.hid hW
    clear hno hW
    by_cases hlt : k ≤ 4 ∧ k ≤ n
    · obtain ⟨hk4, hkl⟩ := hlt
      have hk4' : (k : Int) ≤ 4 := by omega
      have hkl' : (k : Int) ≤ (n : Int) := by omega
      have hkc' : (k : Int) ≤ (cap : Int) := by omega
      have HBR : Hid (Bts wr b off zs) := HB0.out.below HW.out HBW.out
      have HBWR : Hid (b < wr.heap.size) := Nat.lt_of_lt_of_le HBW.out HW.out.size
      have HV := Lib.hid (value_r b off n cap k zs wr HBWR.out HBR.out HY.out hk1 hk4 (by have := hn.out; omega) (by have := hn.out; omega) (by unfold maxLen; omega))
      have HTK : Hid ((zs.take k).length = k) := by show (zs.take k).length = k; have := hn.out; rw [List.length_take]; omega
      have HHIT : Hid (encOK zs k → nextW zs = (valT zs k, (k : Int))) := fun h => nextW_hit HY.out hk1 hk4 (by have := hn.out; omega) h
      have HEN : Hid (encOK zs k ↔ (isR (valT zs k) = true ∧ putI (valT zs k) = zs.take k)) := Iff.rfl
      have HTB : Hid (Byt (zs.take k)) := fun z hz => HY.out z (List.mem_of_mem_take hz)
      have HTR : Hid (∀ W, Bts W b off zs → Bts W b off (zs.take k)) := fun W h j hj => by
        rw [h j (by rw [List.length_take] at hj; omega)]
        simp
      revert HV HTK HHIT HEN HTB HTR
      generalize valT zs k = v
      generalize zs.take k = cs
      intro HV HTK HHIT HEN HTB HTR
      go_wp2_with fail
      refine HV.out.mono ?_
      rintro e w5 ⟨rfl, hb5⟩
      have HB5 : Hid (Below w.heap.size w w5) := HW.out.trans (hb5.mono HW.out.size)
      have HC5D : Hid (Bts w5.drew b off cs) := HTR.out _ (HBR.out.below hb5.drew HBWR.out)
      have HG5D : Hid (b < w5.drew.heap.size) := Nat.lt_of_lt_of_le HBWR.out hb5.size
      clear hb5 HV HBR HBWR HTR HW
      cases hr : isR v with
      | false =>
        have HNE : Hid (¬ encOK zs k) := fun h => by have := (HEN.out.1 h).1; rw [hr] at this; cases this
        have HI : Hid (∀ W : World, Calls Tryz.prog 55 #[.int .i64 v] W fun e w' => e = .returned (.bool false) ∧ w' = W) := fun W => by have h := is_r v W; rw [hr] at h; exact h.mono fun e w' hh => ⟨hh.1, hh.2.symm⟩
        clear hr
        go_wp2
        go_quiet ((go_at_call 55; exact Calls.quiet_of_same (HI.out _)))
        go_wp2
        go_roundw
        case rel => exact ⟨k + 1, by omega, by omega, by omega, by go_num, fun j ha hb => (by
          by_cases e : j = k
          · subst e; exact HNE.out
          · exact HN.out j ha (by omega)), below_drewN HB5.out _⟩
        case measure => simp [intOf]; omega
      | true =>
        have HI : Hid (∀ W : World, Calls Tryz.prog 55 #[.int .i64 v] W fun e w' => e = .returned (.bool true) ∧ W = w') := fun W => by have h := is_r v W; rw [hr] at h; exact h
        have HP : Hid (∀ W : World, Calls Tryz.prog 54 #[.int .i64 v] W (New (putI v) W)) := fun W => put_r v W hr
        have hcv : (convert 82 9 (.slice (some ⟨b, off, none⟩) k cap)).run Tryz.prog w5.drew = .ok (.string (strOfNums cs)) w5.drew := conv_str HC5D.out HTK.out.symm
        have HQQ := Lib.hid (str_nums (putI v) cs (putI_byt v hr) HTB.out)
        have HEN2 : Hid (encOK zs k ↔ putI v = cs) := by show encOK zs k ↔ putI v = cs; rw [HEN.out]; exact ⟨fun h => h.2, fun h => ⟨hr, h⟩⟩
        clear hr HEN
        revert HP HQQ HEN2
        generalize putI v = pv
        intro HP HQQ HEN2
        by_cases hpe : pv = cs
        · have hq : ((strOfNums pv).toList == (strOfNums cs).toList) = true := by rw [HQQ.out]; exact decide_eq_true hpe
          have HPE := Lib.hid hpe
          clear hpe
          go_wp2
          go_region_with (first | (go_at_call 55; refine (HI.out _).mono ?_; rintro e w' ⟨rfl, rfl⟩) | (go_at_call 54; refine (HP.out _).mono ?_; rintro e w' ⟨gp, cp, rfl, hcp, hcm, hgp, hbp, hbl⟩; have hcv1 := conv_str (len := pv.length) (cap := cp) hbp rfl; have hcv2 := conv_str (w := w') (len := k) (cap := cap) (HC5D.out.below hbl HG5D.out) HTK.out.symm; have HBL := Lib.hid hbl; clear hbl hbp))
          all_goals
            go_wp2
            go_ret2
            refine ⟨?_, HB5.out.trans ((Below.drew (Below.refl _ _)).trans (HBL.out.mono HB5.out.size))⟩
            rw [HHIT.out (HEN2.out.2 HPE.out)]
            rfl
        · have hq : ((strOfNums pv).toList == (strOfNums cs).toList) = false := by rw [HQQ.out]; exact decide_eq_false hpe
          have HPE := Lib.hid hpe
          clear hpe
          go_wp2
          go_region_with (first | (go_at_call 55; refine (HI.out _).mono ?_; rintro e w' ⟨rfl, rfl⟩) | (go_at_call 54; refine (HP.out _).mono ?_; rintro e w' ⟨gp, cp, rfl, hcp, hcm, hgp, hbp, hbl⟩; have hcv1 := conv_str (len := pv.length) (cap := cp) hbp rfl; have hcv2 := conv_str (w := w') (len := k) (cap := cap) (HC5D.out.below hbl HG5D.out) HTK.out.symm; have HBL := Lib.hid hbl; clear hbl hbp))
          all_goals
            go_wp2
            go_roundw
            case rel => exact ⟨k + 1, by omega, by omega, by omega, by go_num, fun j ha hb => (by
              by_cases e : j = k
              · subst e; exact fun h => HPE.out (HEN2.out.1 h)
              · exact HN.out j ha (by omega)), HB5.out.trans ((Below.drew (Below.refl _ _)).trans (HBL.out.mono HB5.out.size))⟩
            case measure => simp [intOf]; omega
    · have HALL : Hid (∀ j, 1 ≤ j → j ≤ 4 → j ≤ zs.length → ¬ encOK zs j) := fun j ha hb hc => HN.out j ha (by have := hn.out; omega)
      have HBR : Hid (Sl wr (some ⟨b, off, none⟩) zs) := fun _ => ⟨b, off, rfl, Nat.lt_of_lt_of_le HBW.out HW.out.size, HB0.out.below HW.out HBW.out⟩
      have HG := Lib.hid (beg_r (some ⟨b, off, none⟩) n cap zs wr HBR.out HY.out hn.out (by unfold maxLen; omega))
      have HNB : Hid (begP zs → nextW zs = (0, -1)) := nextW_beg
      have HNN : Hid (¬ begP zs → nextW zs = (0, 0)) := fun h => nextW_no HY.out h HALL.out
      by_cases hk4 : k ≤ 4
      · have hk4' : (k : Int) ≤ 4 := by omega
        have hkl' : decide ((k : Int) ≤ (n : Int)) = false := by simp; omega
        have hkl2 : decide (k ≤ n) = false := by simp; omega
        by_cases hbg : begP zs
        · rw [decide_eq_true hbg] at HG
          have HBG := Lib.hid hbg
          clear hbg
          go_wp2_with (go_at_call 66; refine HG.out.mono ?_; rintro e w6 ⟨rfl, hb6⟩; have HB6 := Lib.hid hb6; clear hb6)
          go_ret2
          refine ⟨?_, HW.out.trans (HB6.out.mono HW.out.size)⟩
          rw [HNB.out HBG.out]
          rfl
        · rw [decide_eq_false hbg] at HG
          have HBG := Lib.hid hbg
          clear hbg
          go_wp2_with (go_at_call 66; refine HG.out.mono ?_; rintro e w6 ⟨rfl, hb6⟩; have HB6 := Lib.hid hb6; clear hb6)
          go_ret2
          refine ⟨?_, HW.out.trans (HB6.out.mono HW.out.size)⟩
          rw [HNN.out HBG.out]
          rfl
      · have hk4' : ¬ ((k : Int) ≤ 4) := by omega
        have hk42 : decide ((k : Int) ≤ 4) = false := by simp; omega
        by_cases hbg : begP zs
        · rw [decide_eq_true hbg] at HG
          have HBG := Lib.hid hbg
          clear hbg
          go_wp2_with (go_at_call 66; refine HG.out.mono ?_; rintro e w6 ⟨rfl, hb6⟩; have HB6 := Lib.hid hb6; clear hb6)
          go_ret2
          refine ⟨?_, HW.out.trans (HB6.out.mono HW.out.size)⟩
          rw [HNB.out HBG.out]
          rfl
        · rw [decide_eq_false hbg] at HG
          have HBG := Lib.hid hbg
          clear hbg
          go_wp2_with (go_at_call 66; refine HG.out.mono ?_; rintro e w6 ⟨rfl, hb6⟩; have HB6 := Lib.hid hb6; clear hb6)
          go_ret2
          refine ⟨?_, HW.out.trans (HB6.out.mono HW.out.size)⟩
          rw [HNN.out HBG.out]
          rfl

theorem nextr_nil (A : Option Addr) (cap : Nat) (w : World) : Calls Tryz.prog 52 #[.slice A 0 cap] w fun e w' => e = tup2 0 0 ∧ Below w.heap.size w w' := by
  have HG := Lib.hid (beg_len A 0 cap w (by unfold maxLen; omega) (.inl rfl))
  go_enter Tryz.func52, Tryz.ntmps52
  go_wp2
  refine wp_loop_rounds 1 ?_
  rw [rounds_succ]
  go_wp2_with (go_at_call 66; refine HG.out.mono ?_; rintro e w6 ⟨rfl, hb6⟩; have HB6 := Lib.hid hb6; clear hb6)
  go_ret2
  exact ⟨rfl, HB6.out⟩
theorem nextr_c (A : Option Addr) (n cap : Nat) (zs : List Int) (w : World) (hA : Sl w A zs) (hy : Byt zs) (hn : zs.length = n) (hm : n ≤ cap) (hcm : cap ≤ maxLen) :
    Calls Tryz.prog 52 #[.slice A n cap] w fun e w' => e = tup2 (nextW zs).1 (nextW zs).2 ∧ Below w.heap.size w w' := by
  by_cases hz : zs = []
  · subst hz
    obtain rfl : n = 0 := by simpa using hn.symm
    exact nextr_nil A cap w
  · obtain ⟨b, off, rfl, hbw, hB⟩ := hA hz
    have hp : 0 < zs.length := List.length_pos_iff.2 hz
    exact nextr_walk b off n cap zs w hB hbw hy hn (by omega) hm hcm
end Go.Proofs.YtpgllcdcpdeicaaGreatDoor.Ut
namespace Go.Proofs.YtpgllcdcpdeicaaGreatDoor.Ut
open Go.RowKit
set_option linter.unusedSimpArgs false
set_option linter.unusedVariables false

theorem isRune_c (v : Int) (w : World) : Calls Tryz.prog 97 #[.int .i32 v] w fun e w' => e = .returned (.bool (isR v)) ∧ w = w' := by
  unfold isR
  rcases (show v < 0 ∨ (0 ≤ v ∧ 1114111 < v) ∨ (0 ≤ v ∧ v ≤ 1114111 ∧ v < 55296) ∨ (0 ≤ v ∧ v ≤ 1114111 ∧ 55296 ≤ v) by omega) with h1 | ⟨h1, h2⟩ | ⟨h1, h2, h3⟩ | ⟨h1, h2, h3⟩
  all_goals
    go_enter Tryz.func97, Tryz.ntmps97
    go_wp2
    go_ret
    exact ⟨ret_bool (by rw [Bool.eq_iff_iff]; simp; omega), rfl⟩
theorem size1 (v : Int) (w : World) (h1 : v ≤ 127) : Calls Tryz.prog 98 #[.int .i32 v] w fun e w' => e = .returned (.int .i64 1) ∧ w = w' := by
  go_enter Tryz.func98, Tryz.ntmps98
  go_wp2
  go_ret
  exact ⟨rfl, rfl⟩
theorem size2 (v : Int) (w : World) (h0 : 127 < v) (h1 : v ≤ 2047) : Calls Tryz.prog 98 #[.int .i32 v] w fun e w' => e = .returned (.int .i64 2) ∧ w = w' := by
  go_enter Tryz.func98, Tryz.ntmps98
  go_wp2
  go_ret
  exact ⟨rfl, rfl⟩
theorem size3 (v : Int) (w : World) (h0 : 2047 < v) (h1 : v ≤ 65535) : Calls Tryz.prog 98 #[.int .i32 v] w fun e w' => e = .returned (.int .i64 3) ∧ w = w' := by
  go_enter Tryz.func98, Tryz.ntmps98
  go_wp2
  go_ret
  exact ⟨rfl, rfl⟩
theorem size4 (v : Int) (w : World) (h0 : 65535 < v) : Calls Tryz.prog 98 #[.int .i32 v] w fun e w' => e = .returned (.int .i64 4) ∧ w = w' := by
  go_enter Tryz.func98, Tryz.ntmps98
  go_wp2
  go_ret
  exact ⟨rfl, rfl⟩
theorem mk1 : ∀ W : World, (Instr.makeSlice 82 (.int .i64 1) (.int .i64 1)).run Tryz.prog W = .ok (.slice (some ⟨W.heap.size, 0, none⟩) 1 1) (W.alloc (.cells #[.int .u8 0] 5)) := fun _ => by kernel_rfl
theorem mk2 : ∀ W : World, (Instr.makeSlice 82 (.int .i64 2) (.int .i64 2)).run Tryz.prog W = .ok (.slice (some ⟨W.heap.size, 0, none⟩) 2 2) (W.alloc (.cells #[.int .u8 0, .int .u8 0] 5)) := fun _ => by kernel_rfl
theorem mk3 : ∀ W : World, (Instr.makeSlice 82 (.int .i64 3) (.int .i64 3)).run Tryz.prog W = .ok (.slice (some ⟨W.heap.size, 0, none⟩) 3 3) (W.alloc (.cells #[.int .u8 0, .int .u8 0, .int .u8 0] 5)) := fun _ => by kernel_rfl
theorem mk4 : ∀ W : World, (Instr.makeSlice 82 (.int .i64 4) (.int .i64 4)).run Tryz.prog W = .ok (.slice (some ⟨W.heap.size, 0, none⟩) 4 4) (W.alloc (.cells #[.int .u8 0, .int .u8 0, .int .u8 0, .int .u8 0] 5)) := fun _ => by kernel_rfl
theorem tailb (x : Int) (h0 : 0 ≤ x) (h1 : x < 2147483648) : bits .or .u8 128 (bits .and .i32 x 63 % 256) = 128 + x % 64 := by
  have h := bits_mask .i32 31 (by decide) wraps_i32 6 (by decide) x h0 (by omega)
  have e : (2 : Int) ^ 6 - 1 = 63 := by decide
  have e2 : (2 : Int) ^ 6 = 64 := by decide
  rw [e, e2] at h
  rw [h, show x % 64 % 256 = x % 64 by omega]
  exact u8_or128 (x % 64) (by omega) (by omega)
/-- a new slice of these bytes, and OK -/
def New2 (zs : List Int) (w : World) (e : Ending) (w' : World) : Prop := ∃ g cap, e = .returned (.tuple #[.slice (some ⟨g, 0, none⟩) zs.length cap, .int .i64 0]) ∧ zs.length ≤ cap ∧ cap ≤ maxLen ∧ g < w'.heap.size ∧ Bts w' g 0 zs ∧ Below w.heap.size w w'
theorem or0_all : ∀ n : Fin 256, bits .or .u8 0 (n.val : Int) = (n.val : Int) := by decide +kernel
theorem or0 (c : Int) (h0 : 0 ≤ c) (h1 : c ≤ 255) : bits .or .u8 0 c = c := by
  have h := or0_all ⟨c.toNat, by omega⟩
  have e : ((c.toNat : Nat) : Int) = c := by omega
  simp only [e] at h
  exact h
theorem some_int {a b : Int} (h : a = b) : some (Value.int .u8 a) = some (Value.int .u8 b) := by rw [h]
theorem put_no (v : Int) (w : World) (hr : isR v = false) : Calls Tryz.prog 91 #[.int .i32 v] w fun e w' => e = .returned (.tuple #[.slice none 0 0, .int .i64 1]) ∧ w = w' := by
  have HI := Lib.hid (isRune_c v w)
  rw [hr] at HI
  clear hr
  go_enter Tryz.func91, Tryz.ntmps91
  go_wp2_with (go_at_call 97; refine HI.out.mono ?_; rintro e w' ⟨rfl, rfl⟩)
  go_ret2
  exact ⟨rfl, rfl⟩

set_option maxRecDepth 100000 in
set_option maxHeartbeats 2000000 in
theorem put1 (v : Int) (w : World) (hT : Tabs w) (hr : isR v = true) (hv0 : 0 ≤ v) (hv1 : v ≤ 1114111) (h1 : v ≤ 127) : Calls Tryz.prog 91 #[.int .i32 v] w (New2 (putI v) w) := by
  have HI := Lib.hid (isRune_c v w)
  rw [hr] at HI
  have HS := Lib.hid (size1 v w h1)
  have hmk := mk1
  have hl : w.cell? ⟨1, 1, none⟩ = some (.int .u8 0) := lead_cell hT 1 (by omega)
  have h2 : 1 + 1 ≤ w.heap.size := by have := hT.two; omega
  have hl2 : ∀ o : Obj, (w.alloc o).cell? ⟨1, 1, none⟩ = some (.int .u8 0) := fun o => (World.cell?_alloc_lt w o _ (by show 1 < w.heap.size; omega)).trans hl
  clear hr
  go_enter Tryz.func91, Tryz.ntmps91
  go_wp2_with (first | (go_at_call 97; refine HI.out.mono ?_; rintro e w' ⟨rfl, rfl⟩) | (go_at_call 98; refine HS.out.mono ?_; rintro e w' ⟨rfl, rfl⟩))
  refine wp_loop_rounds 1 ?_
  rw [rounds_succ]
  go_wp2
  go_ret2
  have HE : putI v = [v] := by unfold putI; rw [if_pos (by omega)]
  rw [HE]
  refine ⟨w.heap.size, 1, rfl, by simp, by unfold maxLen; omega, by simp, bts_new w _ _ (fun j hj => ?_), (Below.refl _ _).alloc (Nat.le_refl _) _⟩
  match j, hj with
  | 0, _ => exact some_int (b := v) (by exact or0 v (by omega) (by omega))

set_option maxRecDepth 100000 in
set_option maxHeartbeats 2000000 in
theorem put2 (v : Int) (w : World) (hT : Tabs w) (hr : isR v = true) (hv0 : 0 ≤ v) (hv1 : v ≤ 1114111) (h0 : 127 < v) (h1 : v ≤ 2047) : Calls Tryz.prog 91 #[.int .i32 v] w (New2 (putI v) w) := by
  have HI := Lib.hid (isRune_c v w)
  rw [hr] at HI
  have HS := Lib.hid (size2 v w h0 h1)
  have hmk := mk2
  have hl : w.cell? ⟨1, 2, none⟩ = some (.int .u8 192) := lead_cell hT 2 (by omega)
  have h2 : 1 + 1 ≤ w.heap.size := by have := hT.two; omega
  have hl2 : ∀ o : Obj, (w.alloc o).cell? ⟨1, 2, none⟩ = some (.int .u8 192) := fun o => (World.cell?_alloc_lt w o _ (by show 1 < w.heap.size; omega)).trans hl
  clear hr
  go_enter Tryz.func91, Tryz.ntmps91
  go_wp2_with (first | (go_at_call 97; refine HI.out.mono ?_; rintro e w' ⟨rfl, rfl⟩) | (go_at_call 98; refine HS.out.mono ?_; rintro e w' ⟨rfl, rfl⟩))
  refine wp_loop_rounds 2 ?_
  rw [rounds_succ]
  go_wp2
  rw [rounds_succ]
  go_wp2
  go_ret2
  have HE : putI v = [192 + v / 64, 128 + v % 64] := by unfold putI; rw [if_neg (by omega), if_pos (by omega)]
  rw [HE]
  refine ⟨w.heap.size, 2, rfl, by simp, by unfold maxLen; omega, by simp, bts_new w _ _ (fun j hj => ?_), (Below.refl _ _).alloc (Nat.le_refl _) _⟩
  match j, hj with
  | 0, _ => exact some_int (b := 192 + v / 64) (by omega)
  | 1, _ => exact some_int (b := 128 + v % 64) (by rw [tailb _ (by omega) (by omega)]; try omega)

set_option maxRecDepth 100000 in
set_option maxHeartbeats 2000000 in
theorem put3 (v : Int) (w : World) (hT : Tabs w) (hr : isR v = true) (hv0 : 0 ≤ v) (hv1 : v ≤ 1114111) (h0 : 2047 < v) (h1 : v ≤ 65535) : Calls Tryz.prog 91 #[.int .i32 v] w (New2 (putI v) w) := by
  have HI := Lib.hid (isRune_c v w)
  rw [hr] at HI
  have HS := Lib.hid (size3 v w h0 h1)
  have hmk := mk3
  have hl : w.cell? ⟨1, 3, none⟩ = some (.int .u8 224) := lead_cell hT 3 (by omega)
  have h2 : 1 + 1 ≤ w.heap.size := by have := hT.two; omega
  have hl2 : ∀ o : Obj, (w.alloc o).cell? ⟨1, 3, none⟩ = some (.int .u8 224) := fun o => (World.cell?_alloc_lt w o _ (by show 1 < w.heap.size; omega)).trans hl
  clear hr
  go_enter Tryz.func91, Tryz.ntmps91
  go_wp2_with (first | (go_at_call 97; refine HI.out.mono ?_; rintro e w' ⟨rfl, rfl⟩) | (go_at_call 98; refine HS.out.mono ?_; rintro e w' ⟨rfl, rfl⟩))
  refine wp_loop_rounds 3 ?_
  rw [rounds_succ]
  go_wp2
  rw [rounds_succ]
  go_wp2
  rw [rounds_succ]
  go_wp2
  go_ret2
  have HE : putI v = [224 + v / 4096, 128 + v / 64 % 64, 128 + v % 64] := by unfold putI; rw [if_neg (by omega), if_neg (by omega), if_pos (by omega)]
  rw [HE]
  refine ⟨w.heap.size, 3, rfl, by simp, by unfold maxLen; omega, by simp, bts_new w _ _ (fun j hj => ?_), (Below.refl _ _).alloc (Nat.le_refl _) _⟩
  match j, hj with
  | 0, _ => exact some_int (b := 224 + v / 4096) (by omega)
  | 1, _ => exact some_int (b := 128 + v / 64 % 64) (by rw [tailb _ (by omega) (by omega)]; try omega)
  | 2, _ => exact some_int (b := 128 + v % 64) (by rw [tailb _ (by omega) (by omega)]; try omega)

set_option maxRecDepth 100000 in
set_option maxHeartbeats 2000000 in
theorem put4 (v : Int) (w : World) (hT : Tabs w) (hr : isR v = true) (hv0 : 0 ≤ v) (hv1 : v ≤ 1114111) (h0 : 65535 < v) : Calls Tryz.prog 91 #[.int .i32 v] w (New2 (putI v) w) := by
  have HI := Lib.hid (isRune_c v w)
  rw [hr] at HI
  have HS := Lib.hid (size4 v w h0)
  have hmk := mk4
  have hl : w.cell? ⟨1, 4, none⟩ = some (.int .u8 240) := lead_cell hT 4 (by omega)
  have h2 : 1 + 1 ≤ w.heap.size := by have := hT.two; omega
  have hl2 : ∀ o : Obj, (w.alloc o).cell? ⟨1, 4, none⟩ = some (.int .u8 240) := fun o => (World.cell?_alloc_lt w o _ (by show 1 < w.heap.size; omega)).trans hl
  clear hr
  go_enter Tryz.func91, Tryz.ntmps91
  go_wp2_with (first | (go_at_call 97; refine HI.out.mono ?_; rintro e w' ⟨rfl, rfl⟩) | (go_at_call 98; refine HS.out.mono ?_; rintro e w' ⟨rfl, rfl⟩))
  refine wp_loop_rounds 4 ?_
  rw [rounds_succ]
  go_wp2
  rw [rounds_succ]
  go_wp2
  rw [rounds_succ]
  go_wp2
  rw [rounds_succ]
  go_wp2
  go_ret2
  have HE : putI v = [240 + v / 262144, 128 + v / 4096 % 64, 128 + v / 64 % 64, 128 + v % 64] := by unfold putI; rw [if_neg (by omega), if_neg (by omega), if_neg (by omega)]
  rw [HE]
  refine ⟨w.heap.size, 4, rfl, by simp, by unfold maxLen; omega, by simp, bts_new w _ _ (fun j hj => ?_), (Below.refl _ _).alloc (Nat.le_refl _) _⟩
  match j, hj with
  | 0, _ => exact some_int (b := 240 + v / 262144) (by omega)
  | 1, _ => exact some_int (b := 128 + v / 4096 % 64) (by rw [tailb _ (by omega) (by omega)]; try omega)
  | 2, _ => exact some_int (b := 128 + v / 64 % 64) (by rw [tailb _ (by omega) (by omega)]; try omega)
  | 3, _ => exact some_int (b := 128 + v % 64) (by rw [tailb _ (by omega) (by omega)]; try omega)

theorem put_c (v : Int) (w : World) (hT : Tabs w) (hr : isR v = true) : Calls Tryz.prog 91 #[.int .i32 v] w (New2 (putI v) w) := by
  obtain ⟨h0, h1, _⟩ := (isR_iff v).1 hr
  rcases (show v ≤ 127 ∨ (127 < v ∧ v ≤ 2047) ∨ (2047 < v ∧ v ≤ 65535) ∨ 65535 < v by omega) with h | ⟨h, h'⟩ | ⟨h, h'⟩ | h
  · exact put1 v w hT hr h0 h1 h
  · exact put2 v w hT hr h0 h1 h h'
  · exact put3 v w hT hr h0 h1 h h'
  · exact put4 v w hT hr h0 h1 h
end Go.Proofs.YtpgllcdcpdeicaaGreatDoor.Ut
namespace Go.Proofs.YtpgllcdcpdeicaaGreatDoor.Ut
open Go.RowKit
set_option linter.unusedSimpArgs false
set_option linter.unusedVariables false

/-- a text's bytes as numbers -/
def nums (s : ByteArray) : List Int := s.data.toList.map (fun b => (b.toNat : Int))
theorem nums_len (s : ByteArray) : (nums s).length = s.size := by unfold nums; rw [List.length_map, ← Lib.size_eq]
theorem nums_byt (s : ByteArray) : Byt (nums s) := by
  intro z hz
  obtain ⟨b, _, rfl⟩ := List.mem_map.1 hz
  have := b.toNat_lt
  omega
theorem nums_ext (s : ByteArray) (a b : Nat) : nums (s.extract a b) = ((nums s).drop a).take (b - a) := by
  unfold nums; rw [Lib.extract_data, List.map_take, List.map_drop]
theorem bytes_conv (s : ByteArray) (w : World) : ∃ cap W0, (convert 9 82 (.string s)).run Tryz.prog w = .ok (.slice (some ⟨w.heap.size, 0, none⟩) s.size cap) W0 ∧ s.size ≤ cap ∧ (s.size ≤ 1000 → cap ≤ maxLen) ∧ Sl W0 (some ⟨w.heap.size, 0, none⟩) (nums s) ∧ Below w.heap.size w W0 := by
  refine ⟨_, _, run_bytes_of_string w 9 82 5 s Tryz.underlying9 Tryz.underlying82 Tryz.underlying5, grownCap_ge w s.size 0 5, fun h => grownCap_le_maxLen w s.size 0 5 (by unfold maxLen; omega), ?_, ((Below.refl _ _).drew).alloc (Nat.le_refl _) _⟩
  intro _
  refine ⟨_, 0, rfl, by show w.heap.size < (w.drew.alloc _).heap.size; simp, fun j hj => ?_⟩
  have hj' : j < s.size := by rw [nums_len] at hj; exact hj
  have e1 : w.heap.size = w.drew.heap.size := rfl
  rw [Nat.zero_add, e1, World.cell?_alloc_mark, bytesRow_at s _ j hj']
  simp [nums]

/-- only the first four bytes matter -/
theorem gd_take (zs : List Int) (j : Nat) (h : j < 4) : gd (zs.take 4) j = gd zs j := by unfold gd; simp [List.getD, List.getElem?_take, h]
theorem nextR_take (zs : List Int) : nextR (zs.take 4) = nextR zs := by
  have h4 := szI_le (gd zs 0)
  have e0 : gd (zs.take 4) 0 = gd zs 0 := gd_take zs 0 (by omega)
  have hl : (zs.take 4).length = min 4 zs.length := List.length_take
  have hm : min (zs.take 4).length (szI (gd zs 0)) = min zs.length (szI (gd zs 0)) := by omega
  have hlt : ((zs.take 4).length < szI (gd zs 0)) ↔ (zs.length < szI (gd zs 0)) := by omega
  have hoa : ∀ j, j < 4 → (okAt (zs.take 4) j ↔ okAt zs j) := fun j hj => by
    unfold okAt
    rw [e0, gd_take zs j hj, gd_take zs 1 (by omega)]
  have hok : okTo (zs.take 4) (min zs.length (szI (gd zs 0))) ↔ okTo zs (min zs.length (szI (gd zs 0))) :=
    ⟨fun h j hj h1 => (hoa j (by omega)).1 (h j hj h1), fun h j hj h1 => (hoa j (by omega)).2 (h j hj h1)⟩
  have hv : valT (zs.take 4) (szI (gd zs 0)) = valT zs (szI (gd zs 0)) := by
    unfold valT
    rw [e0, gd_take zs 1 (by omega), gd_take zs 2 (by omega), gd_take zs 3 (by omega)]
  unfold nextR
  rw [e0, hm, hv]
  simp only [hok, hlt]
theorem nextW_take (zs : List Int) : nextW (zs.take 4) = nextW zs := by
  unfold nextW
  by_cases h : zs = []
  · subst h; rfl
  · have : zs.take 4 ≠ [] := fun e => by
      have h2 := congrArg List.length e
      rw [List.length_take, List.length_nil] at h2
      have h3 := List.length_pos_iff.2 h
      omega
    rw [if_neg h, if_neg this, nextR_take]
theorem nextW_k (zs : List Int) : (nextW zs).2 ≤ zs.length ∧ (nextW zs).2 ≤ 4 ∧ -1 ≤ (nextW zs).2 := by
  unfold nextW nextR
  have h4 := szI_le (gd zs 0)
  (repeat' split) <;> simp <;> omega
theorem next_key (zs : List Int) (hy : Byt zs) : (zs = [] ∧ nextE zs = tup3 0 0 6 ∧ nextW zs = (0, 0)) ∨ (zs ≠ [] ∧ nextE zs = tup3 0 0 11 ∧ nextW zs = (0, -1)) ∨ (zs ≠ [] ∧ nextE zs = tup3 0 0 3 ∧ nextW zs = (0, 0)) ∨
    (zs ≠ [] ∧ ∃ v k : Int, nextE zs = tup3 v k 0 ∧ nextW zs = (v, k) ∧ 1 ≤ k ∧ 0 ≤ v ∧ v ≤ 1114111) := by
  by_cases hz : zs = []
  · subst hz; exact .inl ⟨rfl, rfl, rfl⟩
  · have hE : nextE zs = if (nextR zs).2 = -1 then tup3 0 0 11 else if (nextR zs).2 = 0 then tup3 0 0 3 else tup3 (nextR zs).1 (nextR zs).2 0 := by unfold nextE; rw [if_neg hz]
    have hW : nextW zs = nextR zs := by unfold nextW; rw [if_neg hz]
    rw [hE, hW]
    have h4 := szI_le (gd zs 0)
    by_cases hs : szI (gd zs 0) = 0
    · have hR : nextR zs = (0, 0) := by unfold nextR; rw [if_pos hs]
      rw [hR]; exact .inr (.inr (.inl ⟨hz, rfl, rfl⟩))
    · by_cases hok : okTo zs (min zs.length (szI (gd zs 0)))
      · by_cases hl : zs.length < szI (gd zs 0)
        · have hR : nextR zs = (0, -1) := by unfold nextR; rw [if_neg hs, if_pos hok, if_pos hl]
          rw [hR]; exact .inr (.inl ⟨hz, rfl, rfl⟩)
        · have hR : nextR zs = (valT zs (szI (gd zs 0)), (szI (gd zs 0) : Int)) := by unfold nextR; rw [if_neg hs, if_pos hok, if_neg hl]
          rw [show min zs.length (szI (gd zs 0)) = szI (gd zs 0) by omega] at hok
          have he := (enc_iff zs _ hy (by omega) h4 (by omega)).2 ⟨rfl, hok⟩
          have hr := (isR_iff _).1 he.1
          rw [hR]
          refine .inr (.inr (.inr ⟨hz, _, _, ?_, rfl, by omega, hr.1, hr.2.1⟩))
          show (if ((szI (gd zs 0) : Nat) : Int) = -1 then tup3 0 0 11 else if ((szI (gd zs 0) : Nat) : Int) = 0 then tup3 0 0 3 else tup3 (valT zs (szI (gd zs 0))) (szI (gd zs 0)) 0) = _
          rw [if_neg (show ¬ ((szI (gd zs 0) : Nat) : Int) = -1 by omega), if_neg (show ¬ ((szI (gd zs 0) : Nat) : Int) = 0 by omega)]
      · have hR : nextR zs = (0, 0) := by unfold nextR; rw [if_neg hs, if_neg hok]
        rw [hR]; exact .inr (.inr (.inl ⟨hz, rfl, rfl⟩))


/-- the walk: how many runes, and where they end; f: how many steps at most -/
def walkP (l : List Int) : Nat → Nat → Nat → Nat × Nat
  | 0, n, p => (n, p)
  | f + 1, n, p => if p < l.length ∧ 0 < (nextW (l.drop p)).2 then walkP l f (n + 1) (p + (nextW (l.drop p)).2.toNat) else (n, p)
def walkL (l : List Int) : Nat × Nat := walkP l l.length 0 0
theorem walkP_stop {l : List Int} {f n p : Nat} (h : ¬ (p < l.length ∧ 0 < (nextW (l.drop p)).2)) : walkP l f n p = (n, p) := by
  cases f with
  | zero => rfl
  | succ f => unfold walkP; rw [if_neg h]
theorem walkP_go {l : List Int} {f n p : Nat} (h : p < l.length) (hk : 0 < (nextW (l.drop p)).2) (hf : l.length ≤ p + f) : ∃ f', walkP l f n p = walkP l f' (n + 1) (p + (nextW (l.drop p)).2.toNat) ∧ l.length ≤ p + (nextW (l.drop p)).2.toNat + f' ∧ p + (nextW (l.drop p)).2.toNat ≤ l.length := by
  obtain ⟨f', rfl⟩ : ∃ f', f = f' + 1 := ⟨f - 1, by omega⟩
  have hb := nextW_k (l.drop p)
  rw [List.length_drop] at hb
  refine ⟨f', ?_, by omega, by omega⟩
  conv => lhs; unfold walkP
  rw [if_pos ⟨h, hk⟩]
/-- what both loops keep -/
def WRel (l : List Int) (w : World) (vn vp : Value) (wr : World) : Prop := ∃ n p f : Nat, vn = .int .i64 n ∧ vp = .int .i64 p ∧ p ≤ l.length ∧ n ≤ p ∧ l.length ≤ p + f ∧ walkP l f n p = walkL l ∧ Below w.heap.size w wr

end Go.Proofs.YtpgllcdcpdeicaaGreatDoor.Ut
namespace Go.Proofs.YtpgllcdcpdeicaaGreatDoor.Ut
open Go.RowKit
set_option linter.unusedSimpArgs false
set_option linter.unusedVariables false

set_option maxRecDepth 100000 in
set_option maxHeartbeats 8000000 in
theorem walk_c (s : ByteArray) (w : World) (hT : Tabs w) (hs : s.size ≤ 1000) : Calls Tryz.prog 86 #[.string s] w fun e w' => e = tup2 (walkL (nums s)).1 (walkL (nums s)).2 ∧ Below w.heap.size w w' := by
  have hl := Lib.hid (nums_len s)
  have HY := Lib.hid (nums_byt s)
  have HT := Lib.hid hT
  clear hT
  go_enter Tryz.func86, Tryz.ntmps86
  go_wp2
  go_loopw [2, 3] (fun vn vp wr => WRel (nums s) w vn vp wr) (fun _ i _ => s.size - (intOf i).toNat)
  case atStart => exact ⟨0, 0, (nums s).length, rfl, rfl, by omega, by omega, by omega, rfl, Below.refl _ _⟩
  case round =>
    obtain ⟨n, p, f, rfl, rfl, hp, hnp, hf, hw, hB⟩ := hrel
    have HW := Lib.hid hw
    have HB := Lib.hid hB
    rw [hl.out] at hp hf
    clear hw hB
    by_cases hlt : p < s.size
    · have hlt' : (p : Int) < (s.size : Int) := by omega
      rcases Nat.lt_trichotomy (p + 4) s.size with h4 | h4 | h4
      · have h4' : (p : Int) + 4 < (s.size : Int) := by omega
        obtain ⟨cap, W0, hrun, hc1, hc2, hSl, hbl⟩ := bytes_conv (s.extract p (p + 4)) wr
        have hsz : (s.extract p (p + 4)).size = 4 := by rw [ByteArray.size_extract]; omega
        have hne : nums (s.extract p (p + 4)) = ((nums s).drop p).take 4 := by
          rw [nums_ext]
          have hd : ((nums s).drop p).length = s.size - p := by rw [List.length_drop, hl.out]
          rcases Nat.lt_or_ge (s.size - p) 4 with h | h
          · rw [List.take_of_length_le (by omega), List.take_of_length_le (by omega)]
          · rw [show p + 4 - p = 4 by omega]
        rw [hsz] at hrun hc1 hc2
        rw [hne] at hSl
        have hy4 : Byt (((nums s).drop p).take 4) := fun z hz => HY.out z (List.mem_of_mem_drop (List.mem_of_mem_take hz))
        have HX := Lib.hid (fun (W : World) (hTW : Tabs W) (hS : Sl W (some ⟨wr.heap.size, 0, none⟩) (((nums s).drop p).take 4)) => next_c (some ⟨wr.heap.size, 0, none⟩) (4) cap (((nums s).drop p).take 4) W hTW hS hy4 (by rw [List.length_take, List.length_drop, hl.out]; omega) hc1 (hc2 (by omega)))
        have HX2 := Lib.hid (HX.out W0 ((HT.out.below HB.out HT.out.two).go hbl) hSl)
        have hkey := next_key (((nums s).drop p).take 4) hy4
        rw [nextW_take] at hkey
        have hk := nextW_k ((nums s).drop p)
        have HST := Lib.hid (@walkP_stop (nums s) f n p)
        have HGO := Lib.hid (@walkP_go (nums s) f n p (by rw [hl.out]; exact hlt))
        have HBL := Lib.hid hbl
        have hzne : ((nums s).drop p).take 4 ≠ [] := fun e => by have := congrArg List.length e; rw [List.length_take, List.length_drop, hl.out, List.length_nil] at this; omega
        clear hsz hne hSl hbl hc1 hc2 HX hy4
        revert HX2 hkey hk HST HGO hzne
        generalize nextW ((nums s).drop p) = q
        generalize ((nums s).drop p).take 4 = z4
        intro HX2 hkey hk HST HGO hzne
        obtain ⟨v, k⟩ := q
        simp only [Prod.mk.injEq] at hkey
        simp only at hk HST HGO
        rw [List.length_drop, hl.out] at hk
        rcases hkey with ⟨hz, _⟩ | ⟨_, hE, hv, hk2⟩ | ⟨_, hE, hv, hk2⟩ | ⟨_, v', k', hE, ⟨hv, hk2⟩, hk1, _, _⟩
        · exact absurd hz hzne
        · have HK : Hid (k ≤ 0) := by show k ≤ 0; omega
          rw [hE] at HX2
          simp only [tup3] at HX2
          clear hE hv hk2 hk hzne HGO
          go_wp2_with (go_at_call 94; refine HX2.out.mono ?_; rintro e w2 ⟨rfl, hb2⟩; have HB2 := Lib.hid hb2; clear hb2)
          go_ret2
          have hfin := HW.out
          rw [HST.out (fun h => by have := HK.out; omega)] at hfin
          have B1 := HB.out.trans (HBL.out.mono HB.out.size)
          refine ⟨?_, B1.trans (HB2.out.mono B1.size)⟩
          rw [← hfin]
          rfl
        · have HK : Hid (k ≤ 0) := by show k ≤ 0; omega
          rw [hE] at HX2
          simp only [tup3] at HX2
          clear hE hv hk2 hk hzne HGO
          go_wp2_with (go_at_call 94; refine HX2.out.mono ?_; rintro e w2 ⟨rfl, hb2⟩; have HB2 := Lib.hid hb2; clear hb2)
          go_ret2
          have hfin := HW.out
          rw [HST.out (fun h => by have := HK.out; omega)] at hfin
          have B1 := HB.out.trans (HBL.out.mono HB.out.size)
          refine ⟨?_, B1.trans (HB2.out.mono B1.size)⟩
          rw [← hfin]
          rfl
        · obtain ⟨d, rfl⟩ : ∃ d : Nat, k' = (d : Int) := ⟨k'.toNat, by omega⟩
          subst hk2
          rw [hE] at HX2
          simp only [tup3] at HX2
          obtain ⟨f', hg1, hg2, hg3⟩ := HGO.out (by omega) (by rw [hl.out]; exact hf)
          have HG1 := Lib.hid hg1
          have HG2 := Lib.hid hg2
          have HG3 := Lib.hid hg3
          clear hE hv hzne HGO hg1 hg2 hg3
          go_wp2_with (go_at_call 94; refine HX2.out.mono ?_; rintro e w2 ⟨rfl, hb2⟩; have HB2 := Lib.hid hb2; clear hb2)
          go_roundw
          case rel =>
            have e : ((d : Int)).toNat = d := by omega
            have g1 := HG1.out
            have g2 := HG2.out
            have g3 := HG3.out
            rw [e] at g1 g2 g3
            have B1 := HB.out.trans (HBL.out.mono HB.out.size)
            exact ⟨n + 1, p + d, f', by go_num, by go_num, g3, by omega, g2, by rw [← g1]; exact HW.out, B1.trans (HB2.out.mono B1.size)⟩
          case measure => simp [intOf]; omega
      · have h4' : (p : Int) + 4 ≤ (s.size : Int) := by omega
        have h4'' : (s.size : Int) ≤ (p : Int) + 4 := by omega
        have H4 := Lib.hid h4
        obtain ⟨cap, W0, hrun, hc1, hc2, hSl, hbl⟩ := bytes_conv (s.extract p (s.size)) wr
        have hsz : (s.extract p (s.size)).size = s.size - p := by rw [ByteArray.size_extract]; omega
        have hne : nums (s.extract p (s.size)) = ((nums s).drop p).take 4 := by
          rw [nums_ext]
          have hd : ((nums s).drop p).length = s.size - p := by rw [List.length_drop, hl.out]
          rcases Nat.lt_or_ge (s.size - p) 4 with h | h
          · rw [List.take_of_length_le (by omega), List.take_of_length_le (by omega)]
          · rw [show s.size - p = 4 by omega]
        rw [hsz] at hrun hc1 hc2
        rw [hne] at hSl
        have hy4 : Byt (((nums s).drop p).take 4) := fun z hz => HY.out z (List.mem_of_mem_drop (List.mem_of_mem_take hz))
        have HX := Lib.hid (fun (W : World) (hTW : Tabs W) (hS : Sl W (some ⟨wr.heap.size, 0, none⟩) (((nums s).drop p).take 4)) => next_c (some ⟨wr.heap.size, 0, none⟩) (s.size - p) cap (((nums s).drop p).take 4) W hTW hS hy4 (by rw [List.length_take, List.length_drop, hl.out]; omega) hc1 (hc2 (by omega)))
        have HX2 := Lib.hid (HX.out W0 ((HT.out.below HB.out HT.out.two).go hbl) hSl)
        have hkey := next_key (((nums s).drop p).take 4) hy4
        rw [nextW_take] at hkey
        have hk := nextW_k ((nums s).drop p)
        have HST := Lib.hid (@walkP_stop (nums s) f n p)
        have HGO := Lib.hid (@walkP_go (nums s) f n p (by rw [hl.out]; exact hlt))
        have HBL := Lib.hid hbl
        have hzne : ((nums s).drop p).take 4 ≠ [] := fun e => by have := congrArg List.length e; rw [List.length_take, List.length_drop, hl.out, List.length_nil] at this; omega
        clear hsz hne hSl hbl hc1 hc2 HX hy4
        revert HX2 hkey hk HST HGO hzne
        generalize nextW ((nums s).drop p) = q
        generalize ((nums s).drop p).take 4 = z4
        intro HX2 hkey hk HST HGO hzne
        obtain ⟨v, k⟩ := q
        simp only [Prod.mk.injEq] at hkey
        simp only at hk HST HGO
        rw [List.length_drop, hl.out] at hk
        rcases hkey with ⟨hz, _⟩ | ⟨_, hE, hv, hk2⟩ | ⟨_, hE, hv, hk2⟩ | ⟨_, v', k', hE, ⟨hv, hk2⟩, hk1, _, _⟩
        · exact absurd hz hzne
        · have HK : Hid (k ≤ 0) := by show k ≤ 0; omega
          rw [hE] at HX2
          simp only [tup3] at HX2
          clear hE hv hk2 hk hzne HGO
          go_wp2_with (go_at_call 94; refine HX2.out.mono ?_; rintro e w2 ⟨rfl, hb2⟩; have HB2 := Lib.hid hb2; clear hb2)
          go_ret2
          have hfin := HW.out
          rw [HST.out (fun h => by have := HK.out; omega)] at hfin
          have B1 := HB.out.trans (HBL.out.mono HB.out.size)
          refine ⟨?_, B1.trans (HB2.out.mono B1.size)⟩
          rw [← hfin]
          rfl
        · have HK : Hid (k ≤ 0) := by show k ≤ 0; omega
          rw [hE] at HX2
          simp only [tup3] at HX2
          clear hE hv hk2 hk hzne HGO
          go_wp2_with (go_at_call 94; refine HX2.out.mono ?_; rintro e w2 ⟨rfl, hb2⟩; have HB2 := Lib.hid hb2; clear hb2)
          go_ret2
          have hfin := HW.out
          rw [HST.out (fun h => by have := HK.out; omega)] at hfin
          have B1 := HB.out.trans (HBL.out.mono HB.out.size)
          refine ⟨?_, B1.trans (HB2.out.mono B1.size)⟩
          rw [← hfin]
          rfl
        · obtain ⟨d, rfl⟩ : ∃ d : Nat, k' = (d : Int) := ⟨k'.toNat, by omega⟩
          subst hk2
          rw [hE] at HX2
          simp only [tup3] at HX2
          obtain ⟨f', hg1, hg2, hg3⟩ := HGO.out (by omega) (by rw [hl.out]; exact hf)
          have HG1 := Lib.hid hg1
          have HG2 := Lib.hid hg2
          have HG3 := Lib.hid hg3
          clear hE hv hzne HGO hg1 hg2 hg3
          go_wp2_with (go_at_call 94; refine HX2.out.mono ?_; rintro e w2 ⟨rfl, hb2⟩; have HB2 := Lib.hid hb2; clear hb2)
          go_roundw
          case rel =>
            have e : ((d : Int)).toNat = d := by omega
            have g1 := HG1.out
            have g2 := HG2.out
            have g3 := HG3.out
            rw [e] at g1 g2 g3
            have B1 := HB.out.trans (HBL.out.mono HB.out.size)
            exact ⟨n + 1, p + d, f', by go_num, by go_num, g3, by omega, g2, by rw [← g1]; exact HW.out, B1.trans (HB2.out.mono B1.size)⟩
          case measure => simp [intOf]; omega
      · have h4' : (s.size : Int) < (p : Int) + 4 := by omega
        obtain ⟨cap, W0, hrun, hc1, hc2, hSl, hbl⟩ := bytes_conv (s.extract p (s.size)) wr
        have hsz : (s.extract p (s.size)).size = s.size - p := by rw [ByteArray.size_extract]; omega
        have hne : nums (s.extract p (s.size)) = ((nums s).drop p).take 4 := by
          rw [nums_ext]
          have hd : ((nums s).drop p).length = s.size - p := by rw [List.length_drop, hl.out]
          rcases Nat.lt_or_ge (s.size - p) 4 with h | h
          · rw [List.take_of_length_le (by omega), List.take_of_length_le (by omega)]
          · rw [show s.size - p = 4 by omega]
        rw [hsz] at hrun hc1 hc2
        rw [hne] at hSl
        have hy4 : Byt (((nums s).drop p).take 4) := fun z hz => HY.out z (List.mem_of_mem_drop (List.mem_of_mem_take hz))
        have HX := Lib.hid (fun (W : World) (hTW : Tabs W) (hS : Sl W (some ⟨wr.heap.size, 0, none⟩) (((nums s).drop p).take 4)) => next_c (some ⟨wr.heap.size, 0, none⟩) (s.size - p) cap (((nums s).drop p).take 4) W hTW hS hy4 (by rw [List.length_take, List.length_drop, hl.out]; omega) hc1 (hc2 (by omega)))
        have HX2 := Lib.hid (HX.out W0 ((HT.out.below HB.out HT.out.two).go hbl) hSl)
        have hkey := next_key (((nums s).drop p).take 4) hy4
        rw [nextW_take] at hkey
        have hk := nextW_k ((nums s).drop p)
        have HST := Lib.hid (@walkP_stop (nums s) f n p)
        have HGO := Lib.hid (@walkP_go (nums s) f n p (by rw [hl.out]; exact hlt))
        have HBL := Lib.hid hbl
        have hzne : ((nums s).drop p).take 4 ≠ [] := fun e => by have := congrArg List.length e; rw [List.length_take, List.length_drop, hl.out, List.length_nil] at this; omega
        clear hsz hne hSl hbl hc1 hc2 HX hy4
        revert HX2 hkey hk HST HGO hzne
        generalize nextW ((nums s).drop p) = q
        generalize ((nums s).drop p).take 4 = z4
        intro HX2 hkey hk HST HGO hzne
        obtain ⟨v, k⟩ := q
        simp only [Prod.mk.injEq] at hkey
        simp only at hk HST HGO
        rw [List.length_drop, hl.out] at hk
        rcases hkey with ⟨hz, _⟩ | ⟨_, hE, hv, hk2⟩ | ⟨_, hE, hv, hk2⟩ | ⟨_, v', k', hE, ⟨hv, hk2⟩, hk1, _, _⟩
        · exact absurd hz hzne
        · have HK : Hid (k ≤ 0) := by show k ≤ 0; omega
          rw [hE] at HX2
          simp only [tup3] at HX2
          clear hE hv hk2 hk hzne HGO
          go_wp2_with (go_at_call 94; refine HX2.out.mono ?_; rintro e w2 ⟨rfl, hb2⟩; have HB2 := Lib.hid hb2; clear hb2)
          go_ret2
          have hfin := HW.out
          rw [HST.out (fun h => by have := HK.out; omega)] at hfin
          have B1 := HB.out.trans (HBL.out.mono HB.out.size)
          refine ⟨?_, B1.trans (HB2.out.mono B1.size)⟩
          rw [← hfin]
          rfl
        · have HK : Hid (k ≤ 0) := by show k ≤ 0; omega
          rw [hE] at HX2
          simp only [tup3] at HX2
          clear hE hv hk2 hk hzne HGO
          go_wp2_with (go_at_call 94; refine HX2.out.mono ?_; rintro e w2 ⟨rfl, hb2⟩; have HB2 := Lib.hid hb2; clear hb2)
          go_ret2
          have hfin := HW.out
          rw [HST.out (fun h => by have := HK.out; omega)] at hfin
          have B1 := HB.out.trans (HBL.out.mono HB.out.size)
          refine ⟨?_, B1.trans (HB2.out.mono B1.size)⟩
          rw [← hfin]
          rfl
        · obtain ⟨d, rfl⟩ : ∃ d : Nat, k' = (d : Int) := ⟨k'.toNat, by omega⟩
          subst hk2
          rw [hE] at HX2
          simp only [tup3] at HX2
          obtain ⟨f', hg1, hg2, hg3⟩ := HGO.out (by omega) (by rw [hl.out]; exact hf)
          have HG1 := Lib.hid hg1
          have HG2 := Lib.hid hg2
          have HG3 := Lib.hid hg3
          clear hE hv hzne HGO hg1 hg2 hg3
          go_wp2_with (go_at_call 94; refine HX2.out.mono ?_; rintro e w2 ⟨rfl, hb2⟩; have HB2 := Lib.hid hb2; clear hb2)
          go_roundw
          case rel =>
            have e : ((d : Int)).toNat = d := by omega
            have g1 := HG1.out
            have g2 := HG2.out
            have g3 := HG3.out
            rw [e] at g1 g2 g3
            have B1 := HB.out.trans (HBL.out.mono HB.out.size)
            exact ⟨n + 1, p + d, f', by go_num, by go_num, g3, by omega, g2, by rw [← g1]; exact HW.out, B1.trans (HB2.out.mono B1.size)⟩
          case measure => simp [intOf]; omega
    · have hfin := HW.out
      rw [walkP_stop (fun h => by rw [hl.out] at h; omega)] at hfin
      have HF := Lib.hid hfin
      clear hfin
      go_wp2
      go_ret2
      refine ⟨?_, HB.out⟩
      rw [← HF.out]
      rfl
end Go.Proofs.YtpgllcdcpdeicaaGreatDoor.Ut
