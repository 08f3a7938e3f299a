/- Contracts and plain mathematics of some packages' functions, laid together; conditions as each one says. -/
import Derived.Test.YtbimncnicioagaaDoorUtTabs
import Derived.Laws.BitsAllLaws
import Derived.Laws.BitsLemmas
import Derived.StillTailTactics
import Derived.Deep.RegionHeld3
import Derived.Laws.BytesArg
import Derived.Deep.RegionWith
import Derived.Lib.SmallJoins
import Derived.Laws.IdiomStrings
import Derived.Lib.IndexBytes
namespace Go.Proofs.YtbimncnicioagaaDoor.Ut
open Go.RowKit
set_option linter.unusedSimpArgs false
set_option linter.unusedVariables false

def goB (f : Fst) (i c : Int) : Bool := if i = 1 then decide (f.l ≤ c ∧ c ≤ f.h) else decide (128 ≤ c ∧ c ≤ 191)
theorem andn_all : ∀ n : Fin 256, (bits .andNot .u8 (n.val : Int) 63 == 128) = decide (128 ≤ (n.val : Int) ∧ (n.val : Int) ≤ 191) := by decide +kernel
theorem andn (c : Int) (h0 : 0 ≤ c) (h1 : c ≤ 255) : (bits .andNot .u8 c 63 == 128) = decide (128 ≤ c ∧ c ≤ 191) := by
  have h := andn_all ⟨c.toNat, by omega⟩
  have e : ((c.toNat : Nat) : Int) = c := by omega
  simp only [e] at h
  exact h

theorem goes_c (f : Fst) (i c : Int) (w : World) (h0 : 0 ≤ c) (h1 : c ≤ 255) : Calls Tryd.prog 80 #[fstV f, .int .i64 i, .int .u8 c] w fun e w' => e = .returned (.bool (goB f i c)) ∧ Below w.heap.size w w' := by
  obtain ⟨fa, fb, fs, fl, fh⟩ := f
  unfold fstV goB
  by_cases hi : i = 1
  · subst hi
    by_cases hl : fl ≤ c
    · go_enter Tryd.func80, Tryd.ntmps80
      go_wp2
      go_ret
      exact ⟨ret_bool (by simp [hl]), (Below.refl _ _).alloc (Nat.le_refl _) _⟩
    · have hd : decide (fl ≤ c) = false := by simpa using hl
      have HL := Lib.hid hl
      clear hl
      go_enter Tryd.func80, Tryd.ntmps80
      go_wp2
      go_ret
      exact ⟨ret_bool (by have h := HL.out; simp; try omega), (Below.refl _ _).alloc (Nat.le_refl _) _⟩
  · have hd : (i == 1) = false := by simpa using hi
    have HA := Lib.hid (andn c h0 h1)
    have HI := Lib.hid hi
    clear hi
    go_enter Tryd.func80, Tryd.ntmps80
    go_wp2
    go_ret
    exact ⟨ret_bool (by have h := HI.out; rw [HA.out]; simp), (Below.refl _ _).alloc (Nat.le_refl _) _⟩

/-- these bytes lie at that place -/
def Bts (w : World) (b off : Nat) (zs : List Int) : Prop := ∀ j (hj : j < zs.length), w.cell? ⟨b, off + j, none⟩ = some (.int .u8 zs[j])
theorem Bts.below {w w' : World} {b off : Nat} {zs : List Int} {B : Nat} (h : Bts w b off zs) (hb : Below B w w') (hB : b < B) : Bts w' b off zs := fun j hj => (hb.cell (p := ⟨b, off + j, none⟩) hB).trans (h j hj)
theorem Bts.drewN {w : World} {b off : Nat} {zs : List Int} (h : Bts w b off zs) (n : Nat) : Bts (w.drewN n) b off zs := h
def Byt (zs : List Int) : Prop := ∀ z ∈ zs, 0 ≤ z ∧ z ≤ 255
theorem Byt.at {zs : List Int} (h : Byt zs) (j : Nat) (hj : j < zs.length) : 0 ≤ zs[j] ∧ zs[j] ≤ 255 := h _ (List.getElem_mem hj)
def leadI (n : Nat) : Int := if n ≤ 1 then 0 else if n = 2 then 192 else if n = 3 then 224 else 240
theorem lead_cell {w : World} (h : Tabs w) (n : Nat) (hn : n ≤ 4) : w.cell? ⟨2, n, none⟩ = some (.int .u8 (leadI n)) := by
  obtain ⟨⟨t, f, h0⟩, _⟩ := h
  rw [blk_cell h0 n]
  match n, hn with
  | 0, _ => rfl
  | 1, _ => rfl
  | 2, _ => rfl
  | 3, _ => rfl
  | 4, _ => rfl

theorem xor_all : ∀ n : Fin 256, 128 ≤ n.val → n.val ≤ 191 → bits .xor .u8 (n.val : Int) 128 = (n.val : Int) - 128 := by decide +kernel
theorem xor_t (c : Int) (h0 : 128 ≤ c) (h1 : c ≤ 191) : bits .xor .u8 c 128 = c - 128 := by
  have h := xor_all ⟨c.toNat, by omega⟩ (by simp; omega) (by simp; omega)
  have e : ((c.toNat : Nat) : Int) = c := by omega
  simp only [e] at h
  exact h
theorem xa1 : ∀ n : Fin 256, 0 ≤ n.val → n.val ≤ 127 → bits .xor .u8 (n.val : Int) 0 = (n.val : Int) - 0 := by decide +kernel
theorem xl1 (c : Int) (h0 : 0 ≤ c) (h1 : c ≤ 127) : bits .xor .u8 c 0 = c - 0 := by
  have h := xa1 ⟨c.toNat, by omega⟩ (by simp; try omega) (by simp; omega)
  have e : ((c.toNat : Nat) : Int) = c := by omega
  simp only [e] at h
  exact h
theorem xa2 : ∀ n : Fin 256, 194 ≤ n.val → n.val ≤ 223 → bits .xor .u8 (n.val : Int) 192 = (n.val : Int) - 192 := by decide +kernel
theorem xl2 (c : Int) (h0 : 194 ≤ c) (h1 : c ≤ 223) : bits .xor .u8 c 192 = c - 192 := by
  have h := xa2 ⟨c.toNat, by omega⟩ (by simp; try omega) (by simp; omega)
  have e : ((c.toNat : Nat) : Int) = c := by omega
  simp only [e] at h
  exact h
theorem xa3 : ∀ n : Fin 256, 224 ≤ n.val → n.val ≤ 239 → bits .xor .u8 (n.val : Int) 224 = (n.val : Int) - 224 := by decide +kernel
theorem xl3 (c : Int) (h0 : 224 ≤ c) (h1 : c ≤ 239) : bits .xor .u8 c 224 = c - 224 := by
  have h := xa3 ⟨c.toNat, by omega⟩ (by simp; try omega) (by simp; omega)
  have e : ((c.toNat : Nat) : Int) = c := by omega
  simp only [e] at h
  exact h
theorem xa4 : ∀ n : Fin 256, 240 ≤ n.val → n.val ≤ 244 → bits .xor .u8 (n.val : Int) 240 = (n.val : Int) - 240 := by decide +kernel
theorem xl4 (c : Int) (h0 : 240 ≤ c) (h1 : c ≤ 244) : bits .xor .u8 c 240 = c - 240 := by
  have h := xa4 ⟨c.toNat, by omega⟩ (by simp; try omega) (by simp; omega)
  have e : ((c.toNat : Nat) : Int) = c := by omega
  simp only [e] at h
  exact h
theorem ret_i32 {a b : Int} (h : a = b) : Ending.returned (.int .i32 a) = .returned (.int .i32 b) := by rw [h]

set_option maxRecDepth 100000 in
set_option maxHeartbeats 1000000 in
theorem join1 (b off cap : Nat) (z0 : Int) (w : World) (hT : Tabs w) (c0 : w.cell? ⟨b, off, none⟩ = some (.int .u8 z0)) (hc : 1 ≤ cap) (hm : cap ≤ maxLen) (h0 : 0 ≤ z0) (h0' : z0 ≤ 127) :
    Calls Tryd.prog 81 #[.slice (some ⟨b, off, none⟩) 1 cap] w fun e w' => e = .returned (.int .i32 z0) ∧ Below w.heap.size w w' := by
  unfold maxLen at hm
  have l0 : w.cell? ⟨2, 1, none⟩ = some (.int .u8 0) := lead_cell hT 1 (by omega)
  have hx := xl1 z0 h0 h0'
  rw [Int.sub_zero] at hx
  by_cases hc1 : cap = 1
  · subst hc1
    go_enter Tryd.func81, Tryd.ntmps81
    go_wp2
    go_quiet (fail)
    go_wp2
    refine wp_loop_rounds 1 ?_
    rw [rounds_succ]
    go_wp2
    go_ret
    exact ⟨ret_i32 (by omega), below_drewN (Below.refl _ _) _⟩
  · go_enter Tryd.func81, Tryd.ntmps81
    go_wp2
    go_quiet (fail)
    go_wp2
    refine wp_loop_rounds 1 ?_
    rw [rounds_succ]
    go_wp2
    go_ret
    exact ⟨ret_i32 (by omega), below_drewN (Below.refl _ _) _⟩

set_option maxRecDepth 100000 in
set_option maxHeartbeats 1000000 in
theorem join2 (b off cap : Nat) (z0 z1 : Int) (w : World) (hT : Tabs w) (c0 : w.cell? ⟨b, off, none⟩ = some (.int .u8 z0)) (c1 : w.cell? ⟨b, off + 1, none⟩ = some (.int .u8 z1)) (hc : 2 ≤ cap) (hm : cap ≤ maxLen) (h0 : 194 ≤ z0) (h0' : z0 ≤ 223) (h1 : 128 ≤ z1) (h1' : z1 ≤ 191) :
    Calls Tryd.prog 81 #[.slice (some ⟨b, off, none⟩) 2 cap] w fun e w' => e = .returned (.int .i32 (64 * (z0 - 192) + z1 - 128)) ∧ Below w.heap.size w w' := by
  unfold maxLen at hm
  have l0 : w.cell? ⟨2, 2, none⟩ = some (.int .u8 192) := lead_cell hT 2 (by omega)
  have hx := xl2 z0 h0 h0'
  have e1 := xor_t z1 h1 h1'
  have hc1 : ¬ cap = 1 := by omega
  go_enter Tryd.func81, Tryd.ntmps81
  go_wp2
  go_quiet (fail)
  go_wp2
  refine wp_loop_rounds 2 ?_
  rw [rounds_succ]
  go_wp2
  rw [rounds_succ]
  go_wp2
  go_ret
  exact ⟨ret_i32 (by omega), below_drewN (Below.refl _ _) _⟩

set_option maxRecDepth 100000 in
set_option maxHeartbeats 1000000 in
theorem join3 (b off cap : Nat) (z0 z1 z2 : Int) (w : World) (hT : Tabs w) (c0 : w.cell? ⟨b, off, none⟩ = some (.int .u8 z0)) (c1 : w.cell? ⟨b, off + 1, none⟩ = some (.int .u8 z1)) (c2 : w.cell? ⟨b, off + 2, none⟩ = some (.int .u8 z2)) (hc : 3 ≤ cap) (hm : cap ≤ maxLen) (h0 : 224 ≤ z0) (h0' : z0 ≤ 239) (h1 : 128 ≤ z1) (h1' : z1 ≤ 191) (h2 : 128 ≤ z2) (h2' : z2 ≤ 191) :
    Calls Tryd.prog 81 #[.slice (some ⟨b, off, none⟩) 3 cap] w fun e w' => e = .returned (.int .i32 (64 * (64 * (z0 - 224) + z1 - 128) + z2 - 128)) ∧ Below w.heap.size w w' := by
  unfold maxLen at hm
  have l0 : w.cell? ⟨2, 3, none⟩ = some (.int .u8 224) := lead_cell hT 3 (by omega)
  have hx := xl3 z0 h0 h0'
  have e1 := xor_t z1 h1 h1'
  have e2 := xor_t z2 h2 h2'
  have hc1 : ¬ cap = 1 := by omega
  go_enter Tryd.func81, Tryd.ntmps81
  go_wp2
  go_quiet (fail)
  go_wp2
  refine wp_loop_rounds 3 ?_
  rw [rounds_succ]
  go_wp2
  rw [rounds_succ]
  go_wp2
  rw [rounds_succ]
  go_wp2
  go_ret
  exact ⟨ret_i32 (by omega), below_drewN (Below.refl _ _) _⟩

set_option maxRecDepth 100000 in
set_option maxHeartbeats 1000000 in
theorem join4 (b off cap : Nat) (z0 z1 z2 z3 : Int) (w : World) (hT : Tabs w) (c0 : w.cell? ⟨b, off, none⟩ = some (.int .u8 z0)) (c1 : w.cell? ⟨b, off + 1, none⟩ = some (.int .u8 z1)) (c2 : w.cell? ⟨b, off + 2, none⟩ = some (.int .u8 z2)) (c3 : w.cell? ⟨b, off + 3, none⟩ = some (.int .u8 z3)) (hc : 4 ≤ cap) (hm : cap ≤ maxLen) (h0 : 240 ≤ z0) (h0' : z0 ≤ 244) (h1 : 128 ≤ z1) (h1' : z1 ≤ 191) (h2 : 128 ≤ z2) (h2' : z2 ≤ 191) (h3 : 128 ≤ z3) (h3' : z3 ≤ 191) :
    Calls Tryd.prog 81 #[.slice (some ⟨b, off, none⟩) 4 cap] w fun e w' => e = .returned (.int .i32 (64 * (64 * (64 * (z0 - 240) + z1 - 128) + z2 - 128) + z3 - 128)) ∧ Below w.heap.size w w' := by
  unfold maxLen at hm
  have l0 : w.cell? ⟨2, 4, none⟩ = some (.int .u8 240) := lead_cell hT 4 (by omega)
  have hx := xl4 z0 h0 h0'
  have e1 := xor_t z1 h1 h1'
  have e2 := xor_t z2 h2 h2'
  have e3 := xor_t z3 h3 h3'
  have hc1 : ¬ cap = 1 := by omega
  go_enter Tryd.func81, Tryd.ntmps81
  go_wp2
  go_quiet (fail)
  go_wp2
  refine wp_loop_rounds 4 ?_
  rw [rounds_succ]
  go_wp2
  rw [rounds_succ]
  go_wp2
  rw [rounds_succ]
  go_wp2
  rw [rounds_succ]
  go_wp2
  go_ret
  exact ⟨ret_i32 (by omega), below_drewN (Below.refl _ _) _⟩
end Go.Proofs.YtbimncnicioagaaDoor.Ut
namespace Go.Proofs.YtbimncnicioagaaDoor.Ut
open Go.RowKit
set_option linter.unusedSimpArgs false
set_option linter.unusedVariables false

def lo2 (z : Int) : Int := if z = 224 then 160 else if z = 240 then 144 else 128
def hi2 (z : Int) : Int := if z = 237 then 159 else if z = 244 then 143 else 191
/-- how many bytes a rune has that begins so; none: 0 -/
def szI (z : Int) : Nat := if z ≤ 127 then 1 else if z < 194 then 0 else if z ≤ 223 then 2 else if z ≤ 239 then 3 else if z ≤ 244 then 4 else 0
def gd (zs : List Int) (j : Nat) : Int := zs.getD j 0
/-- may the byte at place j stand there? -/
def okAt (zs : List Int) (j : Nat) : Prop := if j = 1 then lo2 (gd zs 0) ≤ gd zs 1 ∧ gd zs 1 ≤ hi2 (gd zs 0) else 128 ≤ gd zs j ∧ gd zs j ≤ 191
instance (zs : List Int) (j : Nat) : Decidable (okAt zs j) := by unfold okAt; infer_instance
/-- do the bytes up to place h go on? -/
def okTo (zs : List Int) (h : Nat) : Prop := ∀ j, j < h → 1 ≤ j → okAt zs j
instance (zs : List Int) (h : Nat) : Decidable (okTo zs h) := by unfold okTo; infer_instance
def valT (zs : List Int) (n : Nat) : Int :=
  if n = 1 then gd zs 0 else if n = 2 then 64 * (gd zs 0 - 192) + gd zs 1 - 128 else if n = 3 then 64 * (64 * (gd zs 0 - 224) + gd zs 1 - 128) + gd zs 2 - 128
  else 64 * (64 * (64 * (gd zs 0 - 240) + gd zs 1 - 128) + gd zs 2 - 128) + gd zs 3 - 128
/-- the document's answer: the rune and how many bytes; 0: none; -1: a beginning -/
def nextR (zs : List Int) : Int × Int :=
  if szI (gd zs 0) = 0 then (0, 0) else if okTo zs (min zs.length (szI (gd zs 0))) then (if zs.length < szI (gd zs 0) then (0, -1) else (valT zs (szI (gd zs 0)), szI (gd zs 0))) else (0, 0)

theorem row_mem {z : Int} {f : Fst} (h : rowOf z = some f) : f ∈ rowsL ∧ f.a ≤ z ∧ z ≤ f.b := by
  unfold rowOf at h
  have h2 := List.find?_some h
  exact ⟨List.mem_of_find?_eq_some h, of_decide_eq_true h2⟩
theorem row_some {z : Int} {f : Fst} (h0 : 0 ≤ z) (h : rowOf z = some f) : f.s = szI z ∧ 1 ≤ szI z ∧ szI z ≤ 4 ∧ (2 ≤ szI z → f.l = lo2 z ∧ f.h = hi2 z) := by
  obtain ⟨hm, ha, hb⟩ := row_mem h
  simp only [rowsL, List.mem_cons, List.mem_nil_iff, or_false] at hm
  unfold szI lo2 hi2
  rcases hm with rfl | rfl | rfl | rfl | rfl | rfl | rfl | rfl | rfl
  all_goals (simp only at ha hb ⊢; split <;> (try split) <;> (try split) <;> (try split) <;> (try split) <;> first | omega | (refine ⟨by omega, by omega, by omega, fun _ => ⟨?_, ?_⟩⟩ <;> (repeat' split) <;> omega) | skip)
theorem row_none {z : Int} (h0 : 0 ≤ z) (h : rowOf z = none) : szI z = 0 := by
  unfold rowOf at h
  rw [List.find?_eq_none] at h
  have hh : ∀ f ∈ rowsL, ¬ (f.a ≤ z ∧ z ≤ f.b) := fun f hf hc => h f hf (by unfold hitB; simpa using hc)
  simp only [rowsL, List.mem_cons, List.mem_nil_iff, or_false, forall_eq_or_imp, forall_eq] at hh
  unfold szI
  obtain ⟨a0, a1, a2, a3, a4, a5, a6, a7, a8⟩ := hh
  repeat' split
  all_goals omega

def tup3 (r n e : Int) : Ending := .returned (.tuple #[.int .i32 r, .int .i64 n, .int .i64 e])

theorem next_nil (A : Option Addr) (cap : Nat) (w : World) : Calls Tryd.prog 71 #[.slice A 0 cap] w fun e w' => e = tup3 0 0 6 ∧ Below w.heap.size w w' := by
  unfold tup3
  go_enter Tryd.func71, Tryd.ntmps71
  go_wp2
  go_ret3
  exact ⟨rfl, Below.refl _ _⟩

theorem firstOf_no (c : Int) (w : World) (hT : Tabs w) (h0 : 0 ≤ c) (h1 : c ≤ 255) (h : rowOf c = none) : Calls Tryd.prog 79 #[.int .u8 c] w fun e w' => e = .returned (.tuple #[fstV zeroF, .bool false]) ∧ Below w.heap.size w w' :=
  (firstOf_c c w hT h0 h1).mono fun e w' hp => by unfold FPost at hp; rw [h] at hp; exact hp
theorem firstOf_yes (c : Int) (f : Fst) (w : World) (hT : Tabs w) (h0 : 0 ≤ c) (h1 : c ≤ 255) (h : rowOf c = some f) : Calls Tryd.prog 79 #[.int .u8 c] w fun e w' => e = .returned (.tuple #[fstV f, .bool true]) ∧ Below w.heap.size w w' :=
  (firstOf_c c w hT h0 h1).mono fun e w' hp => by unfold FPost at hp; rw [h] at hp; exact hp

theorem next_no (b off n cap : Nat) (z : Int) (w : World) (hT : Tabs w) (hc : w.cell? ⟨b, off, none⟩ = some (.int .u8 z)) (hn : 0 < n) (hm : n ≤ maxLen) (h0 : 0 ≤ z) (h1 : z ≤ 255) (h : rowOf z = none) :
    Calls Tryd.prog 71 #[.slice (some ⟨b, off, none⟩) n cap] w fun e w' => e = tup3 0 0 3 ∧ Below w.heap.size w w' := by
  unfold maxLen at hm
  unfold tup3
  have hn' : (0 : Int) < (n : Int) := by omega
  have hne : ((n : Int) == 0) = false := by simp; omega
  have HF := Lib.hid (firstOf_no z w hT h0 h1 h)
  clear h
  go_enter Tryd.func71, Tryd.ntmps71
  go_wp2_with fail
  refine HF.out.mono ?_
  rintro e w1 ⟨rfl, hb⟩
  simp only [fstV, zeroF]
  have HB := Lib.hid hb
  clear hb
  go_wp2
  go_ret3
  exact ⟨rfl, HB.out.alloc HB.out.size _⟩

theorem okTo_succ {zs : List Int} {k : Nat} (h : okTo zs k) (hk : okAt zs k) : okTo zs (k + 1) := by
  intro j hj h1
  by_cases e : j = k
  · subst e; exact hk
  · exact h j (by omega) h1
theorem go_ok {zs : List Int} {fa fb fs fl fh : Int} {k : Nat} (h1 : 1 ≤ k) (hl : fl = lo2 (gd zs 0)) (hh : fh = hi2 (gd zs 0)) : goB ⟨fa, fb, fs, fl, fh⟩ k (gd zs k) = decide (okAt zs k) := by
  unfold goB okAt
  by_cases e : k = 1
  · subst e; simp [hl, hh]
  · have e2 : ¬ ((k : Int) = 1) := by omega
    simp [e, e2]
theorem gd_at {zs : List Int} {j : Nat} (h : j < zs.length) : zs[j] = gd zs j := by unfold gd; simp [List.getD, List.getElem?_eq_getElem h]
theorem bts_at {w : World} {b off : Nat} {zs : List Int} (h : Bts w b off zs) (j : Nat) (hj : j < zs.length) : w.cell? ⟨b, off + j, none⟩ = some (.int .u8 (gd zs j)) := by rw [← gd_at hj]; exact h j hj
theorem join_c (b off cap n : Nat) (zs : List Int) (w : World) (hT : Tabs w) (hB : Bts w b off zs) (hn : n ≤ zs.length) (hc : n ≤ cap) (hm : cap ≤ 9223372036854775807) (h1 : 1 ≤ n) (h4 : n ≤ 4) (hz : 0 ≤ gd zs 0) (hs : szI (gd zs 0) = n) (hok : okTo zs n) :
    Calls Tryd.prog 81 #[.slice (some ⟨b, off, none⟩) n cap] w fun e w' => e = .returned (.int .i32 (valT zs n)) ∧ Below w.heap.size w w' := by
  have hmm : cap ≤ maxLen := by unfold maxLen; omega
  have hlo : 128 ≤ lo2 (gd zs 0) := by unfold lo2; (repeat' split) <;> omega
  have hhi : hi2 (gd zs 0) ≤ 191 := by unfold hi2; (repeat' split) <;> omega
  have c0 := bts_at hB 0 (by omega)
  simp only [Nat.add_zero] at c0
  have hr : (n = 1 ∧ gd zs 0 ≤ 127) ∨ (n = 2 ∧ 194 ≤ gd zs 0 ∧ gd zs 0 ≤ 223) ∨ (n = 3 ∧ 224 ≤ gd zs 0 ∧ gd zs 0 ≤ 239) ∨ (n = 4 ∧ 240 ≤ gd zs 0 ∧ gd zs 0 ≤ 244) := by
    unfold szI at hs
    (repeat' split at hs) <;> omega
  rcases hr with ⟨rfl, h⟩ | ⟨rfl, h, h'⟩ | ⟨rfl, h, h'⟩ | ⟨rfl, h, h'⟩
  · exact join1 b off cap _ w hT c0 hc hmm hz h
  · have o1 := hok 1 (by omega) (by omega)
    simp only [okAt, if_true] at o1
    exact join2 b off cap _ _ w hT c0 (bts_at hB 1 (by omega)) hc hmm h h' (by omega) (by omega)
  · have o1 := hok 1 (by omega) (by omega)
    have o2 := hok 2 (by omega) (by omega)
    simp only [okAt, if_true] at o1
    simp only [okAt, if_neg (show ¬ (2 : Nat) = 1 by decide)] at o2
    exact join3 b off cap _ _ _ w hT c0 (bts_at hB 1 (by omega)) (bts_at hB 2 (by omega)) hc hmm h h' (by omega) (by omega) (by omega) (by omega)
  · have o1 := hok 1 (by omega) (by omega)
    have o2 := hok 2 (by omega) (by omega)
    have o3 := hok 3 (by omega) (by omega)
    simp only [okAt, if_true] at o1
    simp only [okAt, if_neg (show ¬ (2 : Nat) = 1 by decide)] at o2
    simp only [okAt, if_neg (show ¬ (3 : Nat) = 1 by decide)] at o3
    exact join4 b off cap _ _ _ _ w hT c0 (bts_at hB 1 (by omega)) (bts_at hB 2 (by omega)) (bts_at hB 3 (by omega)) hc hmm h h' (by omega) (by omega) (by omega) (by omega) (by omega) (by omega)
theorem byt_at {zs : List Int} (h : Byt zs) (j : Nat) (hj : j < zs.length) : 0 ≤ gd zs j ∧ gd zs j ≤ 255 := by rw [← gd_at hj]; exact h.at j hj

set_option maxRecDepth 100000 in
set_option maxHeartbeats 4000000 in
theorem next_more (b off n cap s : Nat) (zs : List Int) (z fa fb fl fh : Int) (w : World) (hT : Tabs w) (hB : Bts w b off zs) (hbw : b < w.heap.size) (hy : Byt zs) (hn : Hid (zs.length = n)) (hp : 0 < n) (hm : n ≤ cap) (hcm : cap ≤ maxLen)
    (HZ : Hid (gd zs 0 = z)) (h00 : 0 ≤ z) (h01 : z ≤ 255) (c0 : w.cell? ⟨b, off, none⟩ = some (.int .u8 z)) (HSZ : Hid (szI z = s)) (hs1 : 1 ≤ s) (hs4 : s ≤ 4) (HL : Hid (2 ≤ s → fl = lo2 z ∧ fh = hi2 z))
    (HF : Hid (Calls Tryd.prog 79 #[.int .u8 z] w fun e w' => e = .returned (.tuple #[fstV ⟨fa, fb, s, fl, fh⟩, .bool true]) ∧ Below w.heap.size w w')) (hns : n < s) :
    Calls Tryd.prog 71 #[.slice (some ⟨b, off, none⟩) n cap] w fun e w' => ((e = tup3 0 0 3 ∧ ¬ okTo zs n) ∨ (e = tup3 0 0 11 ∧ okTo zs n)) ∧ Below w.heap.size w w' := by
  unfold maxLen at hcm
  have HB0 := Lib.hid hB
  have HY := Lib.hid hy
  have HT := Lib.hid hT
  have HBW := Lib.hid hbw
  clear hB hy hT hbw
  have hn' : (0 : Int) < (n : Int) := by omega
  have hne : ((n : Int) == 0) = false := by simp; omega
  have hns' : (n : Int) < (s : Int) := by omega
  go_enter Tryd.func71, Tryd.ntmps71
  go_wp2_with fail
  refine HF.out.mono ?_
  rintro e w1 ⟨rfl, hb⟩
  clear HF c0
  have HB := Lib.hid hb
  clear hb
  simp only [fstV]
  go_wp2
  have HD : Hid (∃ Wf, Wf = w1.alloc (.cells #[.int .u8 fa, .int .u8 fb, .int .i64 (s : Int), .int .u8 fl, .int .u8 fh] 115) ∧ Wf.heap[w1.heap.size]? = some (.cells #[.int .u8 fa, .int .u8 fb, .int .i64 (s : Int), .int .u8 fl, .int .u8 fh] 115 (0, 0)) ∧ w1.heap.size < Wf.heap.size ∧ Below w.heap.size w Wf) :=
    ⟨_, rfl, heap_alloc_new _ _, by simp, HB.out.alloc HB.out.size _⟩
  obtain ⟨Wf, hWf, hblk, hgl, hbf⟩ := HD.out
  rw [← hWf]
  clear hWf HD HB
  have HBK := Lib.hid hblk
  have HBF := Lib.hid hbf
  have HGL := Lib.hid hgl
  clear hblk hbf hgl
  revert HBK HGL
  generalize w1.heap.size = g
  intro HBK HGL
  go_loopw [8] (fun i wr => ∃ k : Nat, 1 ≤ k ∧ k ≤ n ∧ i = .int .i64 k ∧ okTo zs k ∧ Below Wf.heap.size Wf wr) (fun i _ => n - (intOf i).toNat)
  case atStart => exact ⟨1, by omega, by omega, rfl, fun j hj h1 => by omega, Below.refl _ _⟩
  case round =>
    obtain ⟨k, hk1, hk, rfl, hok, hW⟩ := hrel
    have HO := Lib.hid hok
    have HW := Lib.hid hW
    have hzk : n ≤ zs.length := by have := hn.out; omega
    clear hok hW
    have d0 : wr.cell? ⟨g, 0, none⟩ = some (.int .u8 fa) := (HW.out.cell (p := ⟨g, 0, none⟩) HGL.out).trans (blk_cell HBK.out 0)
    have d1 : wr.cell? ⟨g, 1, none⟩ = some (.int .u8 fb) := (HW.out.cell (p := ⟨g, 1, none⟩) HGL.out).trans (blk_cell HBK.out 1)
    have d2 : wr.cell? ⟨g, 2, none⟩ = some (.int .i64 (s : Int)) := (HW.out.cell (p := ⟨g, 2, none⟩) HGL.out).trans (blk_cell HBK.out 2)
    have d3 : wr.cell? ⟨g, 3, none⟩ = some (.int .u8 fl) := (HW.out.cell (p := ⟨g, 3, none⟩) HGL.out).trans (blk_cell HBK.out 3)
    have d4 : wr.cell? ⟨g, 4, none⟩ = some (.int .u8 fh) := (HW.out.cell (p := ⟨g, 4, none⟩) HGL.out).trans (blk_cell HBK.out 4)
    have HWW : Hid (Below w.heap.size w wr) := HBF.out.trans (HW.out.mono HBF.out.size)
    by_cases hlt : k < n
    · have HBA : Hid (wr.cell? ⟨b, off + k, none⟩ = some (.int .u8 (gd zs k))) := (HWW.out.cell (p := ⟨b, off + k, none⟩) HBW.out).trans (bts_at HB0.out k (by omega))
      have hby := byt_at HY.out k (by omega)
      have HGO : Hid (goB ⟨fa, fb, s, fl, fh⟩ k (gd zs k) = decide (okAt zs k)) := by
        obtain ⟨hl, hh⟩ := HL.out (by omega)
        exact go_ok hk1 (by rw [HZ.out]; exact hl) (by rw [HZ.out]; exact hh)
      revert HBA hby HGO
      generalize gd zs k = y
      intro HBA hby HGO
      obtain ⟨hy0, hy1⟩ := hby
      have hba := HBA.out
      have hk0' : (0 : Int) ≤ (k : Int) := by omega
      have hkn' : (k : Int) < (n : Int) := by omega
      by_cases hoa : okAt zs k
      · have HGC : Hid (∀ W : World, Calls Tryd.prog 80 #[.agg #[.int .u8 fa, .int .u8 fb, .int .i64 (s : Int), .int .u8 fl, .int .u8 fh], .int .i64 (k : Int), .int .u8 y] W fun e w' => e = .returned (.bool true) ∧ Below W.heap.size W w') := fun W => by
          have h := goes_c ⟨fa, fb, s, fl, fh⟩ k y W hy0 hy1
          rw [HGO.out, decide_eq_true hoa] at h
          exact h
        have HOA := Lib.hid hoa
        clear hoa
        go_wp2
        go_still_tail 6, (by kernel_rfl)
        change wpList _ _ _ _ _ wr.drew
        have HW2 : Hid (Below Wf.heap.size Wf wr.drew) := HW.out.drew
        revert HW2
        generalize wr.drew = w2
        intro HW2
        go_wp2_with (go_at_call 80; refine (HGC.out _).mono ?_; rintro e w3 ⟨rfl, hb3⟩; have HB3 := Lib.hid hb3; clear hb3)
        go_roundw
        case rel => exact ⟨k + 1, by omega, by omega, by go_num, okTo_succ HO.out HOA.out, HW2.out.trans (HB3.out.mono HW2.out.size)⟩
        case measure => simp [intOf]; omega
      · have HGC : Hid (∀ W : World, Calls Tryd.prog 80 #[.agg #[.int .u8 fa, .int .u8 fb, .int .i64 (s : Int), .int .u8 fl, .int .u8 fh], .int .i64 (k : Int), .int .u8 y] W fun e w' => e = .returned (.bool false) ∧ Below W.heap.size W w') := fun W => by
          have h := goes_c ⟨fa, fb, s, fl, fh⟩ k y W hy0 hy1
          rw [HGO.out, decide_eq_false hoa] at h
          exact h
        have HOA := Lib.hid hoa
        clear hoa
        go_wp2
        go_still_tail 6, (by kernel_rfl)
        change wpList _ _ _ _ _ wr.drew
        have HW2 : Hid (Below w.heap.size w wr.drew) := HWW.out.drew
        revert HW2
        generalize wr.drew = w2
        intro HW2
        go_wp2_with (go_at_call 80; refine (HGC.out _).mono ?_; rintro e w3 ⟨rfl, hb3⟩; have HB3 := Lib.hid hb3; clear hb3)
        go_ret3
        exact ⟨Or.inl ⟨rfl, fun h => HOA.out (h k hlt hk1)⟩, HW2.out.trans (HB3.out.mono HW2.out.size)⟩
    · have hkH : k = n := by omega
      subst hkH
      go_wp2
      go_ret3
      exact ⟨Or.inr ⟨rfl, HO.out⟩, HWW.out⟩

set_option maxRecDepth 100000 in
set_option maxHeartbeats 4000000 in
theorem next_all (b off n cap s : Nat) (zs : List Int) (z fa fb fl fh : Int) (w : World) (hT : Tabs w) (hB : Bts w b off zs) (hbw : b < w.heap.size) (hy : Byt zs) (hn : Hid (zs.length = n)) (hp : 0 < n) (hm : n ≤ cap) (hcm : cap ≤ maxLen)
    (HZ : Hid (gd zs 0 = z)) (h00 : 0 ≤ z) (h01 : z ≤ 255) (c0 : w.cell? ⟨b, off, none⟩ = some (.int .u8 z)) (HSZ : Hid (szI z = s)) (hs1 : 1 ≤ s) (hs4 : s ≤ 4) (HL : Hid (2 ≤ s → fl = lo2 z ∧ fh = hi2 z))
    (HF : Hid (Calls Tryd.prog 79 #[.int .u8 z] w fun e w' => e = .returned (.tuple #[fstV ⟨fa, fb, s, fl, fh⟩, .bool true]) ∧ Below w.heap.size w w')) (hns : s < n) :
    Calls Tryd.prog 71 #[.slice (some ⟨b, off, none⟩) n cap] w fun e w' => ((e = tup3 0 0 3 ∧ ¬ okTo zs s) ∨ (e = tup3 (valT zs s) s 0 ∧ okTo zs s)) ∧ Below w.heap.size w w' := by
  unfold maxLen at hcm
  have HB0 := Lib.hid hB
  have HY := Lib.hid hy
  have HT := Lib.hid hT
  have HBW := Lib.hid hbw
  clear hB hy hT hbw
  have hn' : (0 : Int) < (n : Int) := by omega
  have hne : ((n : Int) == 0) = false := by simp; omega
  have hns' : (s : Int) < (n : Int) := by omega
  go_enter Tryd.func71, Tryd.ntmps71
  go_wp2_with fail
  refine HF.out.mono ?_
  rintro e w1 ⟨rfl, hb⟩
  clear HF c0
  have HB := Lib.hid hb
  clear hb
  simp only [fstV]
  go_wp2
  have HD : Hid (∃ Wf, Wf = w1.alloc (.cells #[.int .u8 fa, .int .u8 fb, .int .i64 (s : Int), .int .u8 fl, .int .u8 fh] 115) ∧ Wf.heap[w1.heap.size]? = some (.cells #[.int .u8 fa, .int .u8 fb, .int .i64 (s : Int), .int .u8 fl, .int .u8 fh] 115 (0, 0)) ∧ w1.heap.size < Wf.heap.size ∧ Below w.heap.size w Wf) :=
    ⟨_, rfl, heap_alloc_new _ _, by simp, HB.out.alloc HB.out.size _⟩
  obtain ⟨Wf, hWf, hblk, hgl, hbf⟩ := HD.out
  rw [← hWf]
  clear hWf HD HB
  have HBK := Lib.hid hblk
  have HBF := Lib.hid hbf
  have HGL := Lib.hid hgl
  clear hblk hbf hgl
  revert HBK HGL
  generalize w1.heap.size = g
  intro HBK HGL
  go_loopw [8] (fun i wr => ∃ k : Nat, 1 ≤ k ∧ k ≤ s ∧ i = .int .i64 k ∧ okTo zs k ∧ Below Wf.heap.size Wf wr) (fun i _ => s - (intOf i).toNat)
  case atStart => exact ⟨1, by omega, by omega, rfl, fun j hj h1 => by omega, Below.refl _ _⟩
  case round =>
    obtain ⟨k, hk1, hk, rfl, hok, hW⟩ := hrel
    have HO := Lib.hid hok
    have HW := Lib.hid hW
    have hzk : s ≤ zs.length := by have := hn.out; omega
    clear hok hW
    have d0 : wr.cell? ⟨g, 0, none⟩ = some (.int .u8 fa) := (HW.out.cell (p := ⟨g, 0, none⟩) HGL.out).trans (blk_cell HBK.out 0)
    have d1 : wr.cell? ⟨g, 1, none⟩ = some (.int .u8 fb) := (HW.out.cell (p := ⟨g, 1, none⟩) HGL.out).trans (blk_cell HBK.out 1)
    have d2 : wr.cell? ⟨g, 2, none⟩ = some (.int .i64 (s : Int)) := (HW.out.cell (p := ⟨g, 2, none⟩) HGL.out).trans (blk_cell HBK.out 2)
    have d3 : wr.cell? ⟨g, 3, none⟩ = some (.int .u8 fl) := (HW.out.cell (p := ⟨g, 3, none⟩) HGL.out).trans (blk_cell HBK.out 3)
    have d4 : wr.cell? ⟨g, 4, none⟩ = some (.int .u8 fh) := (HW.out.cell (p := ⟨g, 4, none⟩) HGL.out).trans (blk_cell HBK.out 4)
    have HWW : Hid (Below w.heap.size w wr) := HBF.out.trans (HW.out.mono HBF.out.size)
    by_cases hlt : k < s
    · have HBA : Hid (wr.cell? ⟨b, off + k, none⟩ = some (.int .u8 (gd zs k))) := (HWW.out.cell (p := ⟨b, off + k, none⟩) HBW.out).trans (bts_at HB0.out k (by omega))
      have hby := byt_at HY.out k (by omega)
      have HGO : Hid (goB ⟨fa, fb, s, fl, fh⟩ k (gd zs k) = decide (okAt zs k)) := by
        obtain ⟨hl, hh⟩ := HL.out (by omega)
        exact go_ok hk1 (by rw [HZ.out]; exact hl) (by rw [HZ.out]; exact hh)
      revert HBA hby HGO
      generalize gd zs k = y
      intro HBA hby HGO
      obtain ⟨hy0, hy1⟩ := hby
      have hba := HBA.out
      have hk0' : (0 : Int) ≤ (k : Int) := by omega
      have hkn' : (k : Int) < (n : Int) := by omega
      by_cases hoa : okAt zs k
      · have HGC : Hid (∀ W : World, Calls Tryd.prog 80 #[.agg #[.int .u8 fa, .int .u8 fb, .int .i64 (s : Int), .int .u8 fl, .int .u8 fh], .int .i64 (k : Int), .int .u8 y] W fun e w' => e = .returned (.bool true) ∧ Below W.heap.size W w') := fun W => by
          have h := goes_c ⟨fa, fb, s, fl, fh⟩ k y W hy0 hy1
          rw [HGO.out, decide_eq_true hoa] at h
          exact h
        have HOA := Lib.hid hoa
        clear hoa
        go_wp2
        go_still_tail 6, (by kernel_rfl)
        change wpList _ _ _ _ _ wr.drew
        have HW2 : Hid (Below Wf.heap.size Wf wr.drew) := HW.out.drew
        revert HW2
        generalize wr.drew = w2
        intro HW2
        go_wp2_with (go_at_call 80; refine (HGC.out _).mono ?_; rintro e w3 ⟨rfl, hb3⟩; have HB3 := Lib.hid hb3; clear hb3)
        go_roundw
        case rel => exact ⟨k + 1, by omega, by omega, by go_num, okTo_succ HO.out HOA.out, HW2.out.trans (HB3.out.mono HW2.out.size)⟩
        case measure => simp [intOf]; omega
      · have HGC : Hid (∀ W : World, Calls Tryd.prog 80 #[.agg #[.int .u8 fa, .int .u8 fb, .int .i64 (s : Int), .int .u8 fl, .int .u8 fh], .int .i64 (k : Int), .int .u8 y] W fun e w' => e = .returned (.bool false) ∧ Below W.heap.size W w') := fun W => by
          have h := goes_c ⟨fa, fb, s, fl, fh⟩ k y W hy0 hy1
          rw [HGO.out, decide_eq_false hoa] at h
          exact h
        have HOA := Lib.hid hoa
        clear hoa
        go_wp2
        go_still_tail 6, (by kernel_rfl)
        change wpList _ _ _ _ _ wr.drew
        have HW2 : Hid (Below w.heap.size w wr.drew) := HWW.out.drew
        revert HW2
        generalize wr.drew = w2
        intro HW2
        go_wp2_with (go_at_call 80; refine (HGC.out _).mono ?_; rintro e w3 ⟨rfl, hb3⟩; have HB3 := Lib.hid hb3; clear hb3)
        go_ret3
        exact ⟨Or.inl ⟨rfl, fun h => HOA.out (h k hlt hk1)⟩, HW2.out.trans (HB3.out.mono HW2.out.size)⟩
    · have hkH : k = s := by omega
      subst hkH
      have HTW : Hid (Tabs wr) := HT.out.below HWW.out HT.out.two
      have HBW2 : Hid (Bts wr b off zs) := HB0.out.below HWW.out HBW.out
      have hkc : (k : Int) ≤ (cap : Int) := by omega
      have HJ : Hid (∀ W : World, Tabs W → Bts W b off zs → Calls Tryd.prog 81 #[.slice (some ⟨b, off, none⟩) k cap] W fun e w' => e = .returned (.int .i32 (valT zs k)) ∧ Below W.heap.size W w') :=
        fun W hTW hBW => join_c b off cap k zs W hTW hBW (by omega) (by omega) hcm (by omega) hs4 (by rw [HZ.out]; exact h00) (by rw [HZ.out]; exact HSZ.out) HO.out
      go_wp2_with (go_at_call 81; refine (HJ.out _ HTW.out HBW2.out).mono ?_; rintro e w3 ⟨rfl, hb3⟩; have HB3 := Lib.hid hb3; clear hb3)
      go_ret3
      exact ⟨Or.inr ⟨rfl, HO.out⟩, HWW.out.trans (HB3.out.mono HWW.out.size)⟩

set_option maxRecDepth 100000 in
set_option maxHeartbeats 4000000 in
theorem next_eq (b off cap s : Nat) (zs : List Int) (z fa fb fl fh : Int) (w : World) (hT : Tabs w) (hB : Bts w b off zs) (hbw : b < w.heap.size) (hy : Byt zs) (hn : Hid (zs.length = s)) (hp : 0 < s) (hm : s ≤ cap) (hcm : cap ≤ maxLen)
    (HZ : Hid (gd zs 0 = z)) (h00 : 0 ≤ z) (h01 : z ≤ 255) (c0 : w.cell? ⟨b, off, none⟩ = some (.int .u8 z)) (HSZ : Hid (szI z = s)) (hs1 : 1 ≤ s) (hs4 : s ≤ 4) (HL : Hid (2 ≤ s → fl = lo2 z ∧ fh = hi2 z))
    (HF : Hid (Calls Tryd.prog 79 #[.int .u8 z] w fun e w' => e = .returned (.tuple #[fstV ⟨fa, fb, s, fl, fh⟩, .bool true]) ∧ Below w.heap.size w w'))  :
    Calls Tryd.prog 71 #[.slice (some ⟨b, off, none⟩) s cap] w fun e w' => ((e = tup3 0 0 3 ∧ ¬ okTo zs s) ∨ (e = tup3 (valT zs s) s 0 ∧ okTo zs s)) ∧ Below w.heap.size w w' := by
  unfold maxLen at hcm
  have HB0 := Lib.hid hB
  have HY := Lib.hid hy
  have HT := Lib.hid hT
  have HBW := Lib.hid hbw
  clear hB hy hT hbw
  have hn' : (0 : Int) < (s : Int) := by omega
  have hne : ((s : Int) == 0) = false := by simp; omega
  go_enter Tryd.func71, Tryd.ntmps71
  go_wp2_with fail
  refine HF.out.mono ?_
  rintro e w1 ⟨rfl, hb⟩
  clear HF c0
  have HB := Lib.hid hb
  clear hb
  simp only [fstV]
  go_wp2
  have HD : Hid (∃ Wf, Wf = w1.alloc (.cells #[.int .u8 fa, .int .u8 fb, .int .i64 (s : Int), .int .u8 fl, .int .u8 fh] 115) ∧ Wf.heap[w1.heap.size]? = some (.cells #[.int .u8 fa, .int .u8 fb, .int .i64 (s : Int), .int .u8 fl, .int .u8 fh] 115 (0, 0)) ∧ w1.heap.size < Wf.heap.size ∧ Below w.heap.size w Wf) :=
    ⟨_, rfl, heap_alloc_new _ _, by simp, HB.out.alloc HB.out.size _⟩
  obtain ⟨Wf, hWf, hblk, hgl, hbf⟩ := HD.out
  rw [← hWf]
  clear hWf HD HB
  have HBK := Lib.hid hblk
  have HBF := Lib.hid hbf
  have HGL := Lib.hid hgl
  clear hblk hbf hgl
  revert HBK HGL
  generalize w1.heap.size = g
  intro HBK HGL
  go_loopw [8] (fun i wr => ∃ k : Nat, 1 ≤ k ∧ k ≤ s ∧ i = .int .i64 k ∧ okTo zs k ∧ Below Wf.heap.size Wf wr) (fun i _ => s - (intOf i).toNat)
  case atStart => exact ⟨1, by omega, by omega, rfl, fun j hj h1 => by omega, Below.refl _ _⟩
  case round =>
    obtain ⟨k, hk1, hk, rfl, hok, hW⟩ := hrel
    have HO := Lib.hid hok
    have HW := Lib.hid hW
    have hzk : s ≤ zs.length := by have := hn.out; omega
    clear hok hW
    have d0 : wr.cell? ⟨g, 0, none⟩ = some (.int .u8 fa) := (HW.out.cell (p := ⟨g, 0, none⟩) HGL.out).trans (blk_cell HBK.out 0)
    have d1 : wr.cell? ⟨g, 1, none⟩ = some (.int .u8 fb) := (HW.out.cell (p := ⟨g, 1, none⟩) HGL.out).trans (blk_cell HBK.out 1)
    have d2 : wr.cell? ⟨g, 2, none⟩ = some (.int .i64 (s : Int)) := (HW.out.cell (p := ⟨g, 2, none⟩) HGL.out).trans (blk_cell HBK.out 2)
    have d3 : wr.cell? ⟨g, 3, none⟩ = some (.int .u8 fl) := (HW.out.cell (p := ⟨g, 3, none⟩) HGL.out).trans (blk_cell HBK.out 3)
    have d4 : wr.cell? ⟨g, 4, none⟩ = some (.int .u8 fh) := (HW.out.cell (p := ⟨g, 4, none⟩) HGL.out).trans (blk_cell HBK.out 4)
    have HWW : Hid (Below w.heap.size w wr) := HBF.out.trans (HW.out.mono HBF.out.size)
    by_cases hlt : k < s
    · have HBA : Hid (wr.cell? ⟨b, off + k, none⟩ = some (.int .u8 (gd zs k))) := (HWW.out.cell (p := ⟨b, off + k, none⟩) HBW.out).trans (bts_at HB0.out k (by omega))
      have hby := byt_at HY.out k (by omega)
      have HGO : Hid (goB ⟨fa, fb, s, fl, fh⟩ k (gd zs k) = decide (okAt zs k)) := by
        obtain ⟨hl, hh⟩ := HL.out (by omega)
        exact go_ok hk1 (by rw [HZ.out]; exact hl) (by rw [HZ.out]; exact hh)
      revert HBA hby HGO
      generalize gd zs k = y
      intro HBA hby HGO
      obtain ⟨hy0, hy1⟩ := hby
      have hba := HBA.out
      have hk0' : (0 : Int) ≤ (k : Int) := by omega
      have hkn' : (k : Int) < (s : Int) := by omega
      by_cases hoa : okAt zs k
      · have HGC : Hid (∀ W : World, Calls Tryd.prog 80 #[.agg #[.int .u8 fa, .int .u8 fb, .int .i64 (s : Int), .int .u8 fl, .int .u8 fh], .int .i64 (k : Int), .int .u8 y] W fun e w' => e = .returned (.bool true) ∧ Below W.heap.size W w') := fun W => by
          have h := goes_c ⟨fa, fb, s, fl, fh⟩ k y W hy0 hy1
          rw [HGO.out, decide_eq_true hoa] at h
          exact h
        have HOA := Lib.hid hoa
        clear hoa
        go_wp2
        go_still_tail 6, (by kernel_rfl)
        change wpList _ _ _ _ _ wr.drew
        have HW2 : Hid (Below Wf.heap.size Wf wr.drew) := HW.out.drew
        revert HW2
        generalize wr.drew = w2
        intro HW2
        go_wp2_with (go_at_call 80; refine (HGC.out _).mono ?_; rintro e w3 ⟨rfl, hb3⟩; have HB3 := Lib.hid hb3; clear hb3)
        go_roundw
        case rel => exact ⟨k + 1, by omega, by omega, by go_num, okTo_succ HO.out HOA.out, HW2.out.trans (HB3.out.mono HW2.out.size)⟩
        case measure => simp [intOf]; omega
      · have HGC : Hid (∀ W : World, Calls Tryd.prog 80 #[.agg #[.int .u8 fa, .int .u8 fb, .int .i64 (s : Int), .int .u8 fl, .int .u8 fh], .int .i64 (k : Int), .int .u8 y] W fun e w' => e = .returned (.bool false) ∧ Below W.heap.size W w') := fun W => by
          have h := goes_c ⟨fa, fb, s, fl, fh⟩ k y W hy0 hy1
          rw [HGO.out, decide_eq_false hoa] at h
          exact h
        have HOA := Lib.hid hoa
        clear hoa
        go_wp2
        go_still_tail 6, (by kernel_rfl)
        change wpList _ _ _ _ _ wr.drew
        have HW2 : Hid (Below w.heap.size w wr.drew) := HWW.out.drew
        revert HW2
        generalize wr.drew = w2
        intro HW2
        go_wp2_with (go_at_call 80; refine (HGC.out _).mono ?_; rintro e w3 ⟨rfl, hb3⟩; have HB3 := Lib.hid hb3; clear hb3)
        go_ret3
        exact ⟨Or.inl ⟨rfl, fun h => HOA.out (h k hlt hk1)⟩, HW2.out.trans (HB3.out.mono HW2.out.size)⟩
    · have hkH : k = s := by omega
      subst hkH
      have HTW : Hid (Tabs wr) := HT.out.below HWW.out HT.out.two
      have HBW2 : Hid (Bts wr b off zs) := HB0.out.below HWW.out HBW.out
      have hkc : (k : Int) ≤ (cap : Int) := by omega
      have HJ : Hid (∀ W : World, Tabs W → Bts W b off zs → Calls Tryd.prog 81 #[.slice (some ⟨b, off, none⟩) k cap] W fun e w' => e = .returned (.int .i32 (valT zs k)) ∧ Below W.heap.size W w') :=
        fun W hTW hBW => join_c b off cap k zs W hTW hBW (by omega) (by omega) hcm (by omega) hs4 (by rw [HZ.out]; exact h00) (by rw [HZ.out]; exact HSZ.out) HO.out
      go_wp2_with (go_at_call 81; refine (HJ.out _ HTW.out HBW2.out).mono ?_; rintro e w3 ⟨rfl, hb3⟩; have HB3 := Lib.hid hb3; clear hb3)
      go_ret3
      exact ⟨Or.inr ⟨rfl, HO.out⟩, HWW.out.trans (HB3.out.mono HWW.out.size)⟩

end Go.Proofs.YtbimncnicioagaaDoor.Ut
namespace Go.Proofs.YtbimncnicioagaaDoor.Ut
open Go.RowKit
set_option linter.unusedSimpArgs false
set_option linter.unusedVariables false

/-- a slice that reads as these bytes -/
def Sl (w : World) (A : Option Addr) (zs : List Int) : Prop := zs ≠ [] → ∃ b off, A = some ⟨b, off, none⟩ ∧ b < w.heap.size ∧ Bts w b off zs
theorem Sl.go {w w' : World} {A : Option Addr} {zs : List Int} (h : Sl w A zs) (hb : Below w.heap.size w w') : Sl w' A zs := fun hz => by
  obtain ⟨b, off, e, hl, hB⟩ := h hz
  exact ⟨b, off, e, Nat.lt_of_lt_of_le hl hb.size, hB.below hb hl⟩
def nextE (zs : List Int) : Ending := if zs = [] then tup3 0 0 6 else if (nextR zs).2 = -1 then tup3 0 0 11 else if (nextR zs).2 = 0 then tup3 0 0 3 else tup3 (nextR zs).1 (nextR zs).2 0

theorem next_c (A : Option Addr) (n cap : Nat) (zs : List Int) (w : World) (hT : Tabs w) (hA : Sl w A zs) (hy : Byt zs) (hn : zs.length = n) (hm : n ≤ cap) (hcm : cap ≤ maxLen) :
    Calls Tryd.prog 71 #[.slice A n cap] w fun e w' => e = nextE zs ∧ Below w.heap.size w w' := by
  by_cases hz : zs = []
  · subst hz
    obtain rfl : n = 0 := by simpa using hn.symm
    exact next_nil A cap w
  · obtain ⟨b, off, rfl, hbw, hB⟩ := hA hz
    have hp : 0 < zs.length := List.length_pos_iff.2 hz
    have h0 := byt_at hy 0 hp
    have c0 := bts_at hB 0 hp
    simp only [Nat.add_zero] at c0
    have hE : nextE zs = if (nextR zs).2 = -1 then tup3 0 0 11 else if (nextR zs).2 = 0 then tup3 0 0 3 else tup3 (nextR zs).1 (nextR zs).2 0 := by unfold nextE; rw [if_neg hz]
    cases hr : rowOf (gd zs 0) with
    | none =>
      have hs := row_none h0.1 hr
      have hR : nextR zs = (0, 0) := by unfold nextR; rw [if_pos hs]
      refine (next_no b off n cap _ w hT c0 (by omega) (by omega) h0.1 h0.2 hr).mono fun e w' ⟨he, hb⟩ => ⟨?_, hb⟩
      rw [hE, hR, he]; rfl
    | some f =>
      obtain ⟨hs, hs1, hs4, hlh⟩ := row_some h0.1 hr
      obtain ⟨fa, fb, fs, fl, fh⟩ := f
      simp only at hs hlh
      subst hs
      have HF := Lib.hid (firstOf_yes _ _ w hT h0.1 h0.2 hr)
      have hR : nextR zs = if okTo zs (min zs.length (szI (gd zs 0))) then (if zs.length < szI (gd zs 0) then (0, -1) else (valT zs (szI (gd zs 0)), (szI (gd zs 0) : Int))) else (0, 0) := by
        unfold nextR; rw [if_neg (by omega)]
      have hfin : ∀ (e : Ending), ((e = tup3 0 0 3 ∧ ¬ okTo zs (szI (gd zs 0))) ∨ (e = tup3 (valT zs (szI (gd zs 0))) (szI (gd zs 0)) 0 ∧ okTo zs (szI (gd zs 0)))) → szI (gd zs 0) ≤ n → e = nextE zs := by
        intro e he hle
        rw [hE, hR, show min zs.length (szI (gd zs 0)) = szI (gd zs 0) by omega]
        rcases he with ⟨rfl, hno⟩ | ⟨rfl, hok⟩
        · rw [if_neg hno]; rfl
        · rw [if_pos hok, if_neg (show ¬ zs.length < szI (gd zs 0) by omega)]
          show tup3 (valT zs (szI (gd zs 0))) (szI (gd zs 0)) 0 = if ((szI (gd zs 0) : Nat) : Int) = -1 then tup3 0 0 11 else if ((szI (gd zs 0) : Nat) : Int) = 0 then tup3 0 0 3 else tup3 (valT zs (szI (gd zs 0))) (szI (gd zs 0)) 0
          rw [if_neg (show ¬ ((szI (gd zs 0) : Nat) : Int) = -1 by omega), if_neg (show ¬ ((szI (gd zs 0) : Nat) : Int) = 0 by omega)]
      rcases Nat.lt_trichotomy n (szI (gd zs 0)) with hlt | heq | hgt
      · refine (next_more b off n cap _ zs _ fa fb fl fh w hT hB hbw hy hn (by omega) hm hcm rfl h0.1 h0.2 c0 rfl hs1 hs4 hlh HF.out hlt).mono fun e w' ⟨he, hb⟩ => ⟨?_, hb⟩
        rw [hE, hR, show min zs.length (szI (gd zs 0)) = n by omega, if_pos (show zs.length < szI (gd zs 0) by omega)]
        rcases he with ⟨rfl, hno⟩ | ⟨rfl, hok⟩
        · rw [if_neg hno]; rfl
        · rw [if_pos hok]; rfl
      · subst heq
        exact (next_eq b off cap _ zs _ fa fb fl fh w hT hB hbw hy hn (by omega) hm hcm rfl h0.1 h0.2 c0 rfl hs1 hs4 hlh HF.out).mono fun e w' ⟨he, hb⟩ => ⟨hfin e he (Nat.le_refl _), hb⟩
      · exact (next_all b off n cap _ zs _ fa fb fl fh w hT hB hbw hy hn (by omega) hm hcm rfl h0.1 h0.2 c0 rfl hs1 hs4 hlh HF.out hgt).mono fun e w' ⟨he, hb⟩ => ⟨hfin e he (by omega), hb⟩

theorem nextE_a : nextE [226, 130] = tup3 0 0 11 := by unfold nextE; rw [show nextR [226, 130] = (0, -1) by decide +kernel]; rfl
theorem nextE_b : nextE [226, 65] = tup3 0 0 3 := by unfold nextE; rw [show nextR [226, 65] = (0, 0) by decide +kernel]; rfl
theorem nextE_c : nextE [195, 169] = tup3 233 2 0 := by unfold nextE; rw [show nextR [195, 169] = (233, 2) by decide +kernel]; rfl

/-- Next of two bytes that have just been laid -/
theorem next_two (x y : Int) (w : World) (hT : Tabs w) (hx : 0 ≤ x ∧ x ≤ 255) (hy : 0 ≤ y ∧ y ≤ 255) : Calls Tryd.prog 71 #[.slice (some ⟨w.heap.size, 0, none⟩) 2 2] (w.alloc (.cells #[.int .u8 x, .int .u8 y] 5)) fun e w' => e = nextE [x, y] ∧ Below w.heap.size w w' := by
  refine (next_c (some ⟨w.heap.size, 0, none⟩) 2 2 [x, y] _ (hT.alloc _) ?_ ?_ rfl (Nat.le_refl _) (by unfold maxLen; omega)).mono fun e w' ⟨he, hb⟩ => ⟨he, ((Below.refl _ _).alloc (Nat.le_refl _) _).trans (hb.mono (by simp))⟩
  · intro _
    refine ⟨_, 0, rfl, by simp, fun j hj => ?_⟩
    rw [World.cell?_alloc_at _ _ _ _ rfl]
    match j, hj with
    | 0, _ => rfl
    | 1, _ => rfl
  · intro z hz
    rcases List.mem_cons.1 hz with rfl | hz
    · exact hx
    · rw [List.mem_singleton.1 hz]; exact hy

end Go.Proofs.YtbimncnicioagaaDoor.Ut
namespace Go.Proofs.YtbimncnicioagaaDoor.Ut
open Go.RowKit
set_option linter.unusedSimpArgs false
set_option linter.unusedVariables false

def isR (v : Int) : Bool := decide (0 ≤ v ∧ v ≤ 1114111 ∧ (v < 55296 ∨ 57343 < v))
/-- a rune's bytes -/
def putI (v : Int) : List Int :=
  if v < 128 then [v] else if v < 2048 then [192 + v / 64, 128 + v % 64] else if v < 65536 then [224 + v / 4096, 128 + v / 64 % 64, 128 + v % 64] else [240 + v / 262144, 128 + v / 4096 % 64, 128 + v / 64 % 64, 128 + v % 64]
theorem putI_len (v : Int) : 1 ≤ (putI v).length ∧ (putI v).length ≤ 4 := by unfold putI; (repeat' split) <;> simp

/-- a new slice of these bytes, and nothing else -/
def New (zs : List Int) (w : World) (e : Ending) (w' : World) : Prop := ∃ g cap, e = .returned (.slice (some ⟨g, 0, none⟩) zs.length cap) ∧ zs.length ≤ cap ∧ cap ≤ maxLen ∧ g < w'.heap.size ∧ Bts w' g 0 zs ∧ Below w.heap.size w w'

theorem bts_new (w : World) (zs : List Int) (cs : Array Value) (h : ∀ j (hj : j < zs.length), cs[j]? = some (.int .u8 zs[j])) : Bts (w.alloc (.cells cs 5)) w.heap.size 0 zs := by
  intro j hj
  rw [Nat.zero_add, World.cell?_alloc_at _ _ _ _ rfl]
  exact h j hj

theorem ret_i64 {a b : Int} (h : a = b) : Ending.returned (.int .i64 a) = .returned (.int .i64 b) := by rw [h]

end Go.Proofs.YtbimncnicioagaaDoor.Ut
namespace Go.Proofs.YtbimncnicioagaaDoor.Ut
open Go.RowKit
set_option linter.unusedSimpArgs false
set_option linter.unusedVariables false

def encOK (zs : List Int) (n : Nat) : Prop := isR (valT zs n) = true ∧ putI (valT zs n) = zs.take n
theorem okTo1 (zs : List Int) : okTo zs 1 := fun j hj h1 => by omega
theorem okTo2 (zs : List Int) : okTo zs 2 ↔ okAt zs 1 := ⟨fun h => h 1 (by omega) (by omega), fun h => okTo_succ (okTo1 zs) h⟩
theorem okTo3 (zs : List Int) : okTo zs 3 ↔ okAt zs 1 ∧ okAt zs 2 := ⟨fun h => ⟨h 1 (by omega) (by omega), h 2 (by omega) (by omega)⟩, fun h => okTo_succ ((okTo2 zs).2 h.1) h.2⟩
theorem okTo4 (zs : List Int) : okTo zs 4 ↔ okAt zs 1 ∧ okAt zs 2 ∧ okAt zs 3 := ⟨fun h => ⟨h 1 (by omega) (by omega), h 2 (by omega) (by omega), h 3 (by omega) (by omega)⟩, fun h => okTo_succ ((okTo3 zs).2 ⟨h.1, h.2.1⟩) h.2.2⟩

theorem isR_iff (v : Int) : isR v = true ↔ 0 ≤ v ∧ v ≤ 1114111 ∧ (v < 55296 ∨ 57343 < v) := by unfold isR; simp

theorem enc1 (z0 : Int) (h0 : 0 ≤ z0) (h1 : z0 ≤ 255) : (isR z0 = true ∧ putI z0 = [z0]) ↔ szI z0 = 1 := by
  rw [isR_iff]
  unfold putI szI
  constructor
  · rintro ⟨_, h⟩
    split at h
    · rw [if_pos (by omega)]
    · split at h
      · simp at h
      · split at h <;> simp at h
  · intro h
    split at h
    · exact ⟨by omega, by rw [if_pos (by omega)]⟩
    · (repeat' split at h) <;> omega
theorem enc2 (z0 z1 v : Int) (hv : v = 64 * (z0 - 192) + z1 - 128) (h0 : 0 ≤ z0) (h1 : z0 ≤ 255) (h2 : 0 ≤ z1) (h3 : z1 ≤ 255) : (isR v = true ∧ putI v = [z0, z1]) ↔ (szI z0 = 2 ∧ lo2 z0 ≤ z1 ∧ z1 ≤ hi2 z0) := by
  rw [isR_iff]
  unfold putI szI lo2 hi2
  constructor
  · rintro ⟨_, h⟩
    split at h
    · simp at h
    · split at h
      · simp only [List.cons.injEq, and_true] at h
        obtain ⟨ha, hb⟩ := h
        rw [if_neg (by omega), if_neg (by omega), if_pos (by omega), if_neg (by omega), if_neg (by omega), if_neg (by omega), if_neg (by omega)]
        omega
      · split at h <;> simp at h
  · rintro ⟨h, hl, hh⟩
    have hr : 194 ≤ z0 ∧ z0 ≤ 223 := by (repeat' split at h) <;> omega
    rw [if_neg (by omega), if_neg (by omega)] at hl
    rw [if_neg (by omega), if_neg (by omega)] at hh
    refine ⟨by omega, ?_⟩
    rw [if_neg (by omega), if_pos (by omega)]
    simp only [List.cons.injEq, and_true]
    omega
theorem enc3 (z0 z1 z2 v : Int) (hv : v = 64 * (64 * (z0 - 224) + z1 - 128) + z2 - 128) (h0 : 0 ≤ z0) (h1 : z0 ≤ 255) (h2 : 0 ≤ z1) (h3 : z1 ≤ 255) (h4 : 0 ≤ z2) (h5 : z2 ≤ 255) :
    (isR v = true ∧ putI v = [z0, z1, z2]) ↔ (szI z0 = 3 ∧ (lo2 z0 ≤ z1 ∧ z1 ≤ hi2 z0) ∧ 128 ≤ z2 ∧ z2 ≤ 191) := by
  rw [isR_iff]
  unfold putI szI lo2 hi2
  constructor
  · rintro ⟨hr, h⟩
    split at h
    · simp at h
    · split at h
      · simp at h
      · split at h
        · simp only [List.cons.injEq, and_true] at h
          obtain ⟨ha, hb, hc⟩ := h
          rw [if_neg (by omega), if_neg (by omega), if_neg (by omega), if_pos (by omega)]
          refine ⟨rfl, ⟨?_, ?_⟩, by omega, by omega⟩
          · (repeat' split) <;> omega
          · (repeat' split) <;> omega
        · simp at h
  · rintro ⟨h, ⟨hl, hh⟩, h6, h7⟩
    have hr : 224 ≤ z0 ∧ z0 ≤ 239 := by (repeat' split at h) <;> omega
    have hl' : 128 ≤ z1 ∧ (z0 = 224 → 160 ≤ z1) := by (repeat' split at hl) <;> omega
    have hh' : z1 ≤ 191 ∧ (z0 = 237 → z1 ≤ 159) := by (repeat' split at hh) <;> omega
    clear hl hh h
    refine ⟨by omega, ?_⟩
    rw [if_neg (by omega), if_neg (by omega), if_pos (by omega)]
    simp only [List.cons.injEq, and_true]
    omega
theorem enc4 (z0 z1 z2 z3 v : Int) (hv : v = 64 * (64 * (64 * (z0 - 240) + z1 - 128) + z2 - 128) + z3 - 128) (h0 : 0 ≤ z0) (h1 : z0 ≤ 255) (h2 : 0 ≤ z1) (h3 : z1 ≤ 255) (h4 : 0 ≤ z2) (h5 : z2 ≤ 255) (h8 : 0 ≤ z3) (h9 : z3 ≤ 255) :
    (isR v = true ∧ putI v = [z0, z1, z2, z3]) ↔ (szI z0 = 4 ∧ (lo2 z0 ≤ z1 ∧ z1 ≤ hi2 z0) ∧ (128 ≤ z2 ∧ z2 ≤ 191) ∧ 128 ≤ z3 ∧ z3 ≤ 191) := by
  rw [isR_iff]
  unfold putI szI lo2 hi2
  constructor
  · rintro ⟨hr, h⟩
    split at h
    · simp at h
    · split at h
      · simp at h
      · split at h
        · simp at h
        · simp only [List.cons.injEq, and_true] at h
          obtain ⟨ha, hb, hc, hd⟩ := h
          rw [if_neg (by omega), if_neg (by omega), if_neg (by omega), if_neg (by omega), if_pos (by omega)]
          refine ⟨rfl, ⟨?_, ?_⟩, by omega, by omega⟩
          · (repeat' split) <;> omega
          · (repeat' split) <;> omega
  · rintro ⟨h, ⟨hl, hh⟩, ⟨h6, h7⟩, h10, h11⟩
    have hr : 240 ≤ z0 ∧ z0 ≤ 244 := by (repeat' split at h) <;> omega
    have hl' : 128 ≤ z1 ∧ (z0 = 240 → 144 ≤ z1) := by (repeat' split at hl) <;> omega
    have hh' : z1 ≤ 191 ∧ (z0 = 244 → z1 ≤ 143) := by (repeat' split at hh) <;> omega
    clear hl hh h
    refine ⟨by omega, ?_⟩
    rw [if_neg (by omega), if_neg (by omega), if_neg (by omega)]
    simp only [List.cons.injEq, and_true]
    omega

theorem enc_iff (zs : List Int) (n : Nat) (hy : Byt zs) (h1 : 1 ≤ n) (h4 : n ≤ 4) (hn : n ≤ zs.length) : encOK zs n ↔ (szI (gd zs 0) = n ∧ okTo zs n) := by
  unfold encOK
  match n, h1, h4 with
  | 1, _, _ =>
    match zs, hn with
    | z0 :: r, _ =>
      have y0 := hy z0 (by simp)
      have := enc1 z0 y0.1 y0.2
      simp only [valT, gd, if_true, List.take_succ_cons, List.take_zero, List.getD_cons_zero]
      rw [this]
      exact ⟨fun h => ⟨h, okTo1 _⟩, fun h => h.1⟩
  | 2, _, _ =>
    match zs, hn with
    | z0 :: z1 :: r, _ =>
      have y0 := hy z0 (by simp)
      have y1 := hy z1 (by simp)
      have := enc2 z0 z1 _ rfl y0.1 y0.2 y1.1 y1.2
      rw [okTo2]
      simp only [valT, gd, okAt, if_true, if_neg (show ¬ (2 : Nat) = 1 by decide), List.take_succ_cons, List.take_zero, List.getD_cons_zero, List.getD_cons_succ]
      exact this
  | 3, _, _ =>
    match zs, hn with
    | z0 :: z1 :: z2 :: r, _ =>
      have y0 := hy z0 (by simp)
      have y1 := hy z1 (by simp)
      have y2 := hy z2 (by simp)
      have := enc3 z0 z1 z2 _ rfl y0.1 y0.2 y1.1 y1.2 y2.1 y2.2
      rw [okTo3]
      simp only [valT, gd, okAt, if_true, if_neg (show ¬ (2 : Nat) = 1 by decide), if_neg (show ¬ (3 : Nat) = 1 by decide), if_neg (show ¬ (3 : Nat) = 2 by decide), List.take_succ_cons, List.take_zero, List.getD_cons_zero, List.getD_cons_succ]
      exact this
  | 4, _, _ =>
    match zs, hn with
    | z0 :: z1 :: z2 :: z3 :: r, _ =>
      have y0 := hy z0 (by simp)
      have y1 := hy z1 (by simp)
      have y2 := hy z2 (by simp)
      have y3 := hy z3 (by simp)
      have := enc4 z0 z1 z2 z3 _ rfl y0.1 y0.2 y1.1 y1.2 y2.1 y2.2 y3.1 y3.2
      rw [okTo4]
      simp only [valT, gd, okAt, if_true, if_neg (show ¬ (2 : Nat) = 1 by decide), if_neg (show ¬ (3 : Nat) = 1 by decide), if_neg (show ¬ (4 : Nat) = 1 by decide), if_neg (show ¬ (4 : Nat) = 2 by decide), if_neg (show ¬ (4 : Nat) = 3 by decide), List.take_succ_cons, List.take_zero, List.getD_cons_zero, List.getD_cons_succ]
      exact this

theorem byte_inj {a b : Int} (ha : 0 ≤ a ∧ a ≤ 255) (hb : 0 ≤ b ∧ b ≤ 255) (h : UInt8.ofNat a.toNat = UInt8.ofNat b.toNat) : a = b := by
  have := congrArg UInt8.toNat h
  simp at this
  omega
theorem nums_inj : ∀ {a b : List Int}, Byt a → Byt b → (a.map fun n => UInt8.ofNat n.toNat) = (b.map fun n => UInt8.ofNat n.toNat) → a = b
  | [], [], _, _, _ => rfl
  | [], _ :: _, _, _, h => by simp at h
  | _ :: _, [], _, _, h => by simp at h
  | x :: a, y :: b, ha, hb, h => by
    simp only [List.map_cons, List.cons.injEq] at h
    rw [byte_inj (ha x (by simp)) (hb y (by simp)) h.1, nums_inj (fun z hz => ha z (by simp [hz])) (fun z hz => hb z (by simp [hz])) h.2]
theorem str_nums (a b : List Int) (ha : Byt a) (hb : Byt b) : ((strOfNums a).toList == (strOfNums b).toList) = decide (a = b) := by
  rw [Lib.toList_data, Lib.toList_data, strOfNums_data, strOfNums_data, Bool.eq_iff_iff]
  simp only [beq_iff_eq, decide_eq_true_eq]
  exact ⟨nums_inj ha hb, fun h => by rw [h]⟩
theorem putI_byt (v : Int) (h : isR v = true) : Byt (putI v) := by
  rw [isR_iff] at h
  intro z hz
  unfold putI at hz
  (repeat' split at hz) <;> simp at hz <;> omega
end Go.Proofs.YtbimncnicioagaaDoor.Ut
namespace Go.Proofs.YtbimncnicioagaaDoor.Ut
open Go.RowKit
set_option linter.unusedSimpArgs false
set_option linter.unusedVariables false

theorem info5 : (Tryd.prog.info? 5).map (fun i => (i.zero, i.size, i.bytes)) = some (some (.int .u8 0), 1, 1) := by kernel_rfl
theorem conv_str {w : World} {b off len cap : Nat} {zs : List Int} (hB : Bts w b off zs) (hn : len = zs.length) : (convert 68 9 (.slice (some ⟨b, off, none⟩) len cap)).run Tryd.prog w = .ok (.string (strOfNums zs)) w := by
  subst hn
  refine run_convert_bytes_arg w 68 5 Tryd.underlying68 Tryd.underlying5 b off zs.length cap zs rfl (fun i hi => ?_) 9 Tryd.underlying9
  rw [hB i hi]
  simp [List.getD, List.getElem?_eq_getElem hi]

def sixL : List Int := [128, 143, 144, 159, 160, 191]
/-- the bytes that are tried: x behind them, then 128s -/
def fillL (zs : List Int) (m : Nat) (x : Int) : List Int := zs ++ x :: List.replicate (m - zs.length - 1) 128
theorem fill_len (zs : List Int) (m : Nat) (x : Int) (h : zs.length < m) : (fillL zs m x).length = m := by unfold fillL; simp; omega
theorem fill_byt (zs : List Int) (m : Nat) (x : Int) (hy : Byt zs) (hx : 0 ≤ x ∧ x ≤ 255) : Byt (fillL zs m x) := by
  intro z hz
  unfold fillL at hz
  rcases List.mem_append.1 hz with hz | hz
  · exact hy z hz
  · rcases List.mem_cons.1 hz with rfl | hz
    · exact hx
    · rw [(List.mem_replicate.1 hz).2]; omega
theorem fill_at_old (zs : List Int) (m : Nat) (x : Int) (j : Nat) (h : j < zs.length) : gd (fillL zs m x) j = gd zs j := by
  unfold gd fillL; simp [List.getD, List.getElem?_append_left h]
theorem fill_at_x (zs : List Int) (m : Nat) (x : Int) (j : Nat) (h : j = zs.length) : gd (fillL zs m x) j = x := by
  subst h; unfold gd fillL; simp [List.getD]
theorem fill_at_new (zs : List Int) (m : Nat) (x : Int) (j : Nat) (h : zs.length < j) (h2 : j < m) : gd (fillL zs m x) j = 128 := by
  unfold gd fillL
  obtain ⟨d, rfl⟩ : ∃ d, j = zs.length + (d + 1) := ⟨j - zs.length - 1, by omega⟩
  have : d < m - zs.length - 1 := by omega
  simp [List.getD, List.getElem?_append_right, List.getElem?_replicate, this]
theorem fill_snoc (zs : List Int) (m : Nat) (x : Int) (k : Nat) (h1 : zs.length ≤ k) (h2 : k < m) : (fillL zs m x).take (k + 1) = (fillL zs m x).take k ++ [if k = zs.length then x else 128] := by
  have hl := fill_len zs m x (by omega)
  rw [List.take_succ_eq_append_getElem (by omega), gd_at]
  by_cases e : k = zs.length
  · rw [if_pos e, fill_at_x zs m x k e]
  · rw [if_neg e, fill_at_new zs m x k (by omega) h2]
theorem fill_old (zs : List Int) (m : Nat) (x : Int) : (fillL zs m x).take zs.length = zs := by unfold fillL; simp

def begP (zs : List Int) : Prop := 1 ≤ zs.length ∧ zs.length ≤ 3 ∧ zs.length < szI (gd zs 0) ∧ okTo zs zs.length
instance (zs : List Int) : Decidable (begP zs) := by unfold begP; infer_instance
theorem six_range {x : Int} (h : x ∈ sixL) : 128 ≤ x ∧ x ≤ 191 := by
  simp only [sixL, List.mem_cons, List.mem_nil_iff, or_false] at h
  omega
theorem beg_yes {zs : List Int} {m : Nat} {x : Int} (hy : Byt zs) (h1 : 1 ≤ zs.length) (h3 : zs.length < m) (h4 : m ≤ 4) (hx : x ∈ sixL) (he : encOK (fillL zs m x) m) : begP zs := by
  have hxr := six_range hx
  rw [enc_iff _ m (fill_byt zs m x hy (by omega)) (by omega) h4 (by rw [fill_len zs m x h3]; exact Nat.le_refl _), fill_at_old zs m x 0 (by omega)] at he
  refine ⟨h1, by omega, by omega, fun j hj hj1 => ?_⟩
  have := he.2 j (by omega) hj1
  unfold okAt at this ⊢
  rw [fill_at_old zs m x j hj, fill_at_old zs m x 0 (by omega)] at this
  by_cases e : j = 1
  · subst e; rw [fill_at_old zs m x 1 hj] at this; exact this
  · rw [if_neg e] at this ⊢; exact this
theorem beg_no {zs : List Int} (hy : Byt zs) (h : ∀ m x, zs.length < m → m ≤ 4 → x ∈ sixL → ¬ encOK (fillL zs m x) m) : ¬ begP zs := by
  rintro ⟨h1, h3, hs, hok⟩
  have hs4 : szI (gd zs 0) ≤ 4 := by unfold szI; (repeat' split) <;> omega
  have hlo : lo2 (gd zs 0) ∈ sixL := by unfold lo2; (repeat' split) <;> simp [sixL]
  have hlr := six_range hlo
  have hlh : lo2 (gd zs 0) ≤ hi2 (gd zs 0) := by unfold lo2 hi2; (repeat' split) <;> omega
  refine h (szI (gd zs 0)) (if zs.length = 1 then lo2 (gd zs 0) else 128) hs hs4 (by split; exact hlo; simp [sixL]) ?_
  have hxr : 0 ≤ (if zs.length = 1 then lo2 (gd zs 0) else 128) ∧ (if zs.length = 1 then lo2 (gd zs 0) else 128) ≤ 255 := by split <;> omega
  rw [enc_iff _ _ (fill_byt zs _ _ hy hxr) (by omega) hs4 (by rw [fill_len zs _ _ hs]; exact Nat.le_refl _), fill_at_old zs _ _ 0 (by omega)]
  refine ⟨rfl, fun j hj hj1 => ?_⟩
  by_cases hjl : j < zs.length
  · have := hok j hjl hj1
    unfold okAt at this ⊢
    rw [fill_at_old zs _ _ j hjl, fill_at_old zs _ _ 0 (by omega)]
    by_cases e : j = 1
    · subst e; rw [fill_at_old zs _ _ 1 hjl]; exact this
    · rw [if_neg e] at this ⊢; exact this
  · unfold okAt
    by_cases e : j = 1
    · subst e
      have el : zs.length = 1 := by omega
      rw [if_pos rfl, fill_at_old zs _ _ 0 (by omega), fill_at_x zs _ _ 1 el.symm, if_pos el]
      exact ⟨Int.le_refl _, hlh⟩
    · rw [if_neg e]
      by_cases e2 : j = zs.length
      · rw [fill_at_x zs _ _ j e2, if_neg (by omega)]; omega
      · rw [fill_at_new zs _ _ j (by omega) hj]; omega

theorem bts_own {w : World} {B g cap n : Nat} {zs : List Int} (h : w.ownsRow B 5 1 (.slice (some ⟨g, 0, none⟩) n cap) n (zs.map (Value.int .u8))) : Bts w g 0 zs := by
  intro j hj
  have hl := h.1
  rw [List.length_map] at hl
  rw [Nat.zero_add, h.cellAt j (by omega)]
  simp [hj]
end Go.Proofs.YtbimncnicioagaaDoor.Ut
namespace Go.Proofs.YtbimncnicioagaaDoor.Ut
open Go.RowKit
set_option linter.unusedSimpArgs false
set_option linter.unusedVariables false

theorem six_cells (w : World) : ∀ j, j < 6 → (w.alloc (.cells #[.int .u8 128, .int .u8 143, .int .u8 144, .int .u8 159, .int .u8 160, .int .u8 191] 5)).cell? ⟨w.heap.size, j, none⟩ = some (.int .u8 (gd sixL j)) := by
  intro j hj
  rw [World.cell?_alloc_at _ _ _ _ rfl]
  match j, hj with
  | 0, _ | 1, _ | 2, _ | 3, _ | 4, _ | 5, _ => rfl
theorem six_mem (j : Nat) (hj : j < 6) : gd sixL j ∈ sixL := by
  match j, hj with
  | 0, _ | 1, _ | 2, _ | 3, _ | 4, _ | 5, _ => simp [gd, sixL]
theorem six_at {x : Int} (h : x ∈ sixL) : ∃ j, j < 6 ∧ gd sixL j = x := by
  obtain ⟨j, hj, rfl⟩ := List.getElem_of_mem h
  exact ⟨j, hj, (gd_at hj).symm⟩

end Go.Proofs.YtbimncnicioagaaDoor.Ut
namespace Go.Proofs.YtbimncnicioagaaDoor.Ut
open Go.RowKit
set_option linter.unusedSimpArgs false
set_option linter.unusedVariables false

def nextW (zs : List Int) : Int × Int := if zs = [] then (0, 0) else nextR zs
theorem szI_le (z : Int) : szI z ≤ 4 := by unfold szI; (repeat' split) <;> omega
theorem nextW_hit {zs : List Int} {j : Nat} (hy : Byt zs) (h1 : 1 ≤ j) (h4 : j ≤ 4) (hj : j ≤ zs.length) (h : encOK zs j) : nextW zs = (valT zs j, (j : Int)) := by
  rw [enc_iff zs j hy h1 h4 hj] at h
  obtain ⟨hs, hok⟩ := h
  have hz : zs ≠ [] := fun e => by subst e; simp at hj; omega
  unfold nextW nextR
  rw [if_neg hz, if_neg (by omega), show min zs.length (szI (gd zs 0)) = j by omega, if_pos hok, if_neg (by omega), hs]
theorem nextW_beg {zs : List Int} (h : begP zs) : nextW zs = (0, -1) := by
  obtain ⟨h1, h3, hs, hok⟩ := h
  have hz : zs ≠ [] := fun e => by subst e; simp at h1
  unfold nextW nextR
  rw [if_neg hz, if_neg (by omega), show min zs.length (szI (gd zs 0)) = zs.length by omega, if_pos hok, if_pos hs]
theorem nextW_no {zs : List Int} (hy : Byt zs) (hb : ¬ begP zs) (h : ∀ j, 1 ≤ j → j ≤ 4 → j ≤ zs.length → ¬ encOK zs j) : nextW zs = (0, 0) := by
  unfold nextW nextR
  by_cases hz : zs = []
  · rw [if_pos hz]
  · rw [if_neg hz]
    have hp : 0 < zs.length := List.length_pos_iff.2 hz
    by_cases hs : szI (gd zs 0) = 0
    · rw [if_pos hs]
    · rw [if_neg hs]
      have h4 := szI_le (gd zs 0)
      rw [if_neg ?_]
      intro hok
      by_cases hl : zs.length < szI (gd zs 0)
      · rw [show min zs.length (szI (gd zs 0)) = zs.length by omega] at hok
        exact hb ⟨by omega, by omega, hl, hok⟩
      · rw [show min zs.length (szI (gd zs 0)) = szI (gd zs 0) by omega] at hok
        exact h (szI (gd zs 0)) (by omega) h4 (by omega) ((enc_iff zs _ hy (by omega) h4 (by omega)).2 ⟨rfl, hok⟩)

def tup2 (a b : Int) : Ending := .returned (.tuple #[.int .i64 a, .int .i64 b])

end Go.Proofs.YtbimncnicioagaaDoor.Ut
namespace Go.Proofs.YtbimncnicioagaaDoor.Ut
open Go.RowKit
set_option linter.unusedSimpArgs false
set_option linter.unusedVariables false

theorem mk1 : ∀ W : World, (Instr.makeSlice 68 (.int .i64 1) (.int .i64 1)).run Tryd.prog W = .ok (.slice (some ⟨W.heap.size, 0, none⟩) 1 1) (W.alloc (.cells #[.int .u8 0] 5)) := fun _ => by kernel_rfl
theorem mk2 : ∀ W : World, (Instr.makeSlice 68 (.int .i64 2) (.int .i64 2)).run Tryd.prog W = .ok (.slice (some ⟨W.heap.size, 0, none⟩) 2 2) (W.alloc (.cells #[.int .u8 0, .int .u8 0] 5)) := fun _ => by kernel_rfl
theorem mk3 : ∀ W : World, (Instr.makeSlice 68 (.int .i64 3) (.int .i64 3)).run Tryd.prog W = .ok (.slice (some ⟨W.heap.size, 0, none⟩) 3 3) (W.alloc (.cells #[.int .u8 0, .int .u8 0, .int .u8 0] 5)) := fun _ => by kernel_rfl
theorem mk4 : ∀ W : World, (Instr.makeSlice 68 (.int .i64 4) (.int .i64 4)).run Tryd.prog W = .ok (.slice (some ⟨W.heap.size, 0, none⟩) 4 4) (W.alloc (.cells #[.int .u8 0, .int .u8 0, .int .u8 0, .int .u8 0] 5)) := fun _ => by kernel_rfl
theorem tailb (x : Int) (h0 : 0 ≤ x) (h1 : x < 2147483648) : bits .or .u8 128 (bits .and .i32 x 63 % 256) = 128 + x % 64 := by
  have h := bits_mask .i32 31 (by decide) wraps_i32 6 (by decide) x h0 (by omega)
  have e : (2 : Int) ^ 6 - 1 = 63 := by decide
  have e2 : (2 : Int) ^ 6 = 64 := by decide
  rw [e, e2] at h
  rw [h, show x % 64 % 256 = x % 64 by omega]
  exact u8_or128 (x % 64) (by omega) (by omega)
/-- a new slice of these bytes, and OK -/
def New2 (zs : List Int) (w : World) (e : Ending) (w' : World) : Prop := ∃ g cap, e = .returned (.tuple #[.slice (some ⟨g, 0, none⟩) zs.length cap, .int .i64 0]) ∧ zs.length ≤ cap ∧ cap ≤ maxLen ∧ g < w'.heap.size ∧ Bts w' g 0 zs ∧ Below w.heap.size w w'
theorem or0_all : ∀ n : Fin 256, bits .or .u8 0 (n.val : Int) = (n.val : Int) := by decide +kernel
theorem or0 (c : Int) (h0 : 0 ≤ c) (h1 : c ≤ 255) : bits .or .u8 0 c = c := by
  have h := or0_all ⟨c.toNat, by omega⟩
  have e : ((c.toNat : Nat) : Int) = c := by omega
  simp only [e] at h
  exact h
theorem some_int {a b : Int} (h : a = b) : some (Value.int .u8 a) = some (Value.int .u8 b) := by rw [h]
end Go.Proofs.YtbimncnicioagaaDoor.Ut
namespace Go.Proofs.YtbimncnicioagaaDoor.Ut
open Go.RowKit
set_option linter.unusedSimpArgs false
set_option linter.unusedVariables false

/-- a text's bytes as numbers -/
def nums (s : ByteArray) : List Int := s.data.toList.map (fun b => (b.toNat : Int))
theorem nums_len (s : ByteArray) : (nums s).length = s.size := by unfold nums; rw [List.length_map, ← Lib.size_eq]
theorem nums_byt (s : ByteArray) : Byt (nums s) := by
  intro z hz
  obtain ⟨b, _, rfl⟩ := List.mem_map.1 hz
  have := b.toNat_lt
  omega
theorem nums_ext (s : ByteArray) (a b : Nat) : nums (s.extract a b) = ((nums s).drop a).take (b - a) := by
  unfold nums; rw [Lib.extract_data, List.map_take, List.map_drop]
theorem bytes_conv (s : ByteArray) (w : World) : ∃ cap W0, (convert 9 68 (.string s)).run Tryd.prog w = .ok (.slice (some ⟨w.heap.size, 0, none⟩) s.size cap) W0 ∧ s.size ≤ cap ∧ (s.size ≤ 1000 → cap ≤ maxLen) ∧ Sl W0 (some ⟨w.heap.size, 0, none⟩) (nums s) ∧ Below w.heap.size w W0 := by
  refine ⟨_, _, run_bytes_of_string w 9 68 5 s Tryd.underlying9 Tryd.underlying68 Tryd.underlying5, grownCap_ge w s.size 0 5, fun h => grownCap_le_maxLen w s.size 0 5 (by unfold maxLen; omega), ?_, ((Below.refl _ _).drew).alloc (Nat.le_refl _) _⟩
  intro _
  refine ⟨_, 0, rfl, by show w.heap.size < (w.drew.alloc _).heap.size; simp, fun j hj => ?_⟩
  have hj' : j < s.size := by rw [nums_len] at hj; exact hj
  have e1 : w.heap.size = w.drew.heap.size := rfl
  rw [Nat.zero_add, e1, World.cell?_alloc_mark, bytesRow_at s _ j hj']
  simp [nums]

/-- only the first four bytes matter -/
theorem gd_take (zs : List Int) (j : Nat) (h : j < 4) : gd (zs.take 4) j = gd zs j := by unfold gd; simp [List.getD, List.getElem?_take, h]
theorem nextR_take (zs : List Int) : nextR (zs.take 4) = nextR zs := by
  have h4 := szI_le (gd zs 0)
  have e0 : gd (zs.take 4) 0 = gd zs 0 := gd_take zs 0 (by omega)
  have hl : (zs.take 4).length = min 4 zs.length := List.length_take
  have hm : min (zs.take 4).length (szI (gd zs 0)) = min zs.length (szI (gd zs 0)) := by omega
  have hlt : ((zs.take 4).length < szI (gd zs 0)) ↔ (zs.length < szI (gd zs 0)) := by omega
  have hoa : ∀ j, j < 4 → (okAt (zs.take 4) j ↔ okAt zs j) := fun j hj => by
    unfold okAt
    rw [e0, gd_take zs j hj, gd_take zs 1 (by omega)]
  have hok : okTo (zs.take 4) (min zs.length (szI (gd zs 0))) ↔ okTo zs (min zs.length (szI (gd zs 0))) :=
    ⟨fun h j hj h1 => (hoa j (by omega)).1 (h j hj h1), fun h j hj h1 => (hoa j (by omega)).2 (h j hj h1)⟩
  have hv : valT (zs.take 4) (szI (gd zs 0)) = valT zs (szI (gd zs 0)) := by
    unfold valT
    rw [e0, gd_take zs 1 (by omega), gd_take zs 2 (by omega), gd_take zs 3 (by omega)]
  unfold nextR
  rw [e0, hm, hv]
  simp only [hok, hlt]
theorem nextW_take (zs : List Int) : nextW (zs.take 4) = nextW zs := by
  unfold nextW
  by_cases h : zs = []
  · subst h; rfl
  · have : zs.take 4 ≠ [] := fun e => by
      have h2 := congrArg List.length e
      rw [List.length_take, List.length_nil] at h2
      have h3 := List.length_pos_iff.2 h
      omega
    rw [if_neg h, if_neg this, nextR_take]
theorem nextW_k (zs : List Int) : (nextW zs).2 ≤ zs.length ∧ (nextW zs).2 ≤ 4 ∧ -1 ≤ (nextW zs).2 := by
  unfold nextW nextR
  have h4 := szI_le (gd zs 0)
  (repeat' split) <;> simp <;> omega
theorem next_key (zs : List Int) (hy : Byt zs) : (zs = [] ∧ nextE zs = tup3 0 0 6 ∧ nextW zs = (0, 0)) ∨ (zs ≠ [] ∧ nextE zs = tup3 0 0 11 ∧ nextW zs = (0, -1)) ∨ (zs ≠ [] ∧ nextE zs = tup3 0 0 3 ∧ nextW zs = (0, 0)) ∨
    (zs ≠ [] ∧ ∃ v k : Int, nextE zs = tup3 v k 0 ∧ nextW zs = (v, k) ∧ 1 ≤ k ∧ 0 ≤ v ∧ v ≤ 1114111) := by
  by_cases hz : zs = []
  · subst hz; exact .inl ⟨rfl, rfl, rfl⟩
  · have hE : nextE zs = if (nextR zs).2 = -1 then tup3 0 0 11 else if (nextR zs).2 = 0 then tup3 0 0 3 else tup3 (nextR zs).1 (nextR zs).2 0 := by unfold nextE; rw [if_neg hz]
    have hW : nextW zs = nextR zs := by unfold nextW; rw [if_neg hz]
    rw [hE, hW]
    have h4 := szI_le (gd zs 0)
    by_cases hs : szI (gd zs 0) = 0
    · have hR : nextR zs = (0, 0) := by unfold nextR; rw [if_pos hs]
      rw [hR]; exact .inr (.inr (.inl ⟨hz, rfl, rfl⟩))
    · by_cases hok : okTo zs (min zs.length (szI (gd zs 0)))
      · by_cases hl : zs.length < szI (gd zs 0)
        · have hR : nextR zs = (0, -1) := by unfold nextR; rw [if_neg hs, if_pos hok, if_pos hl]
          rw [hR]; exact .inr (.inl ⟨hz, rfl, rfl⟩)
        · have hR : nextR zs = (valT zs (szI (gd zs 0)), (szI (gd zs 0) : Int)) := by unfold nextR; rw [if_neg hs, if_pos hok, if_neg hl]
          rw [show min zs.length (szI (gd zs 0)) = szI (gd zs 0) by omega] at hok
          have he := (enc_iff zs _ hy (by omega) h4 (by omega)).2 ⟨rfl, hok⟩
          have hr := (isR_iff _).1 he.1
          rw [hR]
          refine .inr (.inr (.inr ⟨hz, _, _, ?_, rfl, by omega, hr.1, hr.2.1⟩))
          show (if ((szI (gd zs 0) : Nat) : Int) = -1 then tup3 0 0 11 else if ((szI (gd zs 0) : Nat) : Int) = 0 then tup3 0 0 3 else tup3 (valT zs (szI (gd zs 0))) (szI (gd zs 0)) 0) = _
          rw [if_neg (show ¬ ((szI (gd zs 0) : Nat) : Int) = -1 by omega), if_neg (show ¬ ((szI (gd zs 0) : Nat) : Int) = 0 by omega)]
      · have hR : nextR zs = (0, 0) := by unfold nextR; rw [if_neg hs, if_neg hok]
        rw [hR]; exact .inr (.inr (.inl ⟨hz, rfl, rfl⟩))


/-- the walk: how many runes, and where they end; f: how many steps at most -/
def walkP (l : List Int) : Nat → Nat → Nat → Nat × Nat
  | 0, n, p => (n, p)
  | f + 1, n, p => if p < l.length ∧ 0 < (nextW (l.drop p)).2 then walkP l f (n + 1) (p + (nextW (l.drop p)).2.toNat) else (n, p)
def walkL (l : List Int) : Nat × Nat := walkP l l.length 0 0
theorem walkP_stop {l : List Int} {f n p : Nat} (h : ¬ (p < l.length ∧ 0 < (nextW (l.drop p)).2)) : walkP l f n p = (n, p) := by
  cases f with
  | zero => rfl
  | succ f => unfold walkP; rw [if_neg h]
theorem walkP_go {l : List Int} {f n p : Nat} (h : p < l.length) (hk : 0 < (nextW (l.drop p)).2) (hf : l.length ≤ p + f) : ∃ f', walkP l f n p = walkP l f' (n + 1) (p + (nextW (l.drop p)).2.toNat) ∧ l.length ≤ p + (nextW (l.drop p)).2.toNat + f' ∧ p + (nextW (l.drop p)).2.toNat ≤ l.length := by
  obtain ⟨f', rfl⟩ : ∃ f', f = f' + 1 := ⟨f - 1, by omega⟩
  have hb := nextW_k (l.drop p)
  rw [List.length_drop] at hb
  refine ⟨f', ?_, by omega, by omega⟩
  conv => lhs; unfold walkP
  rw [if_pos ⟨h, hk⟩]
/-- what both loops keep -/
def WRel (l : List Int) (w : World) (vn vp : Value) (wr : World) : Prop := ∃ n p f : Nat, vn = .int .i64 n ∧ vp = .int .i64 p ∧ p ≤ l.length ∧ n ≤ p ∧ l.length ≤ p + f ∧ walkP l f n p = walkL l ∧ Below w.heap.size w wr

end Go.Proofs.YtbimncnicioagaaDoor.Ut
namespace Go.Proofs.YtbimncnicioagaaDoor.Ut
open Go.RowKit
set_option linter.unusedSimpArgs false
set_option linter.unusedVariables false

set_option maxRecDepth 100000 in
set_option maxHeartbeats 8000000 in
theorem walk_c (s : ByteArray) (w : World) (hT : Tabs w) (hs : s.size ≤ 1000) : Calls Tryd.prog 55 #[.string s] w fun e w' => e = tup2 (walkL (nums s)).1 (walkL (nums s)).2 ∧ Below w.heap.size w w' := by
  have hl := Lib.hid (nums_len s)
  have HY := Lib.hid (nums_byt s)
  have HT := Lib.hid hT
  clear hT
  go_enter Tryd.func55, Tryd.ntmps55
  go_wp2
  go_loopw [2, 3] (fun vn vp wr => WRel (nums s) w vn vp wr) (fun _ i _ => s.size - (intOf i).toNat)
  case atStart => exact ⟨0, 0, (nums s).length, rfl, rfl, by omega, by omega, by omega, rfl, Below.refl _ _⟩
  case round =>
    obtain ⟨n, p, f, rfl, rfl, hp, hnp, hf, hw, hB⟩ := hrel
    have HW := Lib.hid hw
    have HB := Lib.hid hB
    rw [hl.out] at hp hf
    clear hw hB
    by_cases hlt : p < s.size
    · have hlt' : (p : Int) < (s.size : Int) := by omega
      rcases Nat.lt_trichotomy (p + 4) s.size with h4 | h4 | h4
      · have h4' : (p : Int) + 4 < (s.size : Int) := by omega
        obtain ⟨cap, W0, hrun, hc1, hc2, hSl, hbl⟩ := bytes_conv (s.extract p (p + 4)) wr
        have hsz : (s.extract p (p + 4)).size = 4 := by rw [ByteArray.size_extract]; omega
        have hne : nums (s.extract p (p + 4)) = ((nums s).drop p).take 4 := by
          rw [nums_ext]
          have hd : ((nums s).drop p).length = s.size - p := by rw [List.length_drop, hl.out]
          rcases Nat.lt_or_ge (s.size - p) 4 with h | h
          · rw [List.take_of_length_le (by omega), List.take_of_length_le (by omega)]
          · rw [show p + 4 - p = 4 by omega]
        rw [hsz] at hrun hc1 hc2
        rw [hne] at hSl
        have hy4 : Byt (((nums s).drop p).take 4) := fun z hz => HY.out z (List.mem_of_mem_drop (List.mem_of_mem_take hz))
        have HX := Lib.hid (fun (W : World) (hTW : Tabs W) (hS : Sl W (some ⟨wr.heap.size, 0, none⟩) (((nums s).drop p).take 4)) => next_c (some ⟨wr.heap.size, 0, none⟩) (4) cap (((nums s).drop p).take 4) W hTW hS hy4 (by rw [List.length_take, List.length_drop, hl.out]; omega) hc1 (hc2 (by omega)))
        have HX2 := Lib.hid (HX.out W0 ((HT.out.below HB.out HT.out.two).go hbl) hSl)
        have hkey := next_key (((nums s).drop p).take 4) hy4
        rw [nextW_take] at hkey
        have hk := nextW_k ((nums s).drop p)
        have HST := Lib.hid (@walkP_stop (nums s) f n p)
        have HGO := Lib.hid (@walkP_go (nums s) f n p (by rw [hl.out]; exact hlt))
        have HBL := Lib.hid hbl
        have hzne : ((nums s).drop p).take 4 ≠ [] := fun e => by have := congrArg List.length e; rw [List.length_take, List.length_drop, hl.out, List.length_nil] at this; omega
        clear hsz hne hSl hbl hc1 hc2 HX hy4
        revert HX2 hkey hk HST HGO hzne
        generalize nextW ((nums s).drop p) = q
        generalize ((nums s).drop p).take 4 = z4
        intro HX2 hkey hk HST HGO hzne
        obtain ⟨v, k⟩ := q
        simp only [Prod.mk.injEq] at hkey
        simp only at hk HST HGO
        rw [List.length_drop, hl.out] at hk
        rcases hkey with ⟨hz, _⟩ | ⟨_, hE, hv, hk2⟩ | ⟨_, hE, hv, hk2⟩ | ⟨_, v', k', hE, ⟨hv, hk2⟩, hk1, _, _⟩
        · exact absurd hz hzne
        · have HK : Hid (k ≤ 0) := by show k ≤ 0; omega
          rw [hE] at HX2
          simp only [tup3] at HX2
          clear hE hv hk2 hk hzne HGO
          go_wp2_with (go_at_call 71; refine HX2.out.mono ?_; rintro e w2 ⟨rfl, hb2⟩; have HB2 := Lib.hid hb2; clear hb2)
          go_ret2
          have hfin := HW.out
          rw [HST.out (fun h => by have := HK.out; omega)] at hfin
          have B1 := HB.out.trans (HBL.out.mono HB.out.size)
          refine ⟨?_, B1.trans (HB2.out.mono B1.size)⟩
          rw [← hfin]
          rfl
        · have HK : Hid (k ≤ 0) := by show k ≤ 0; omega
          rw [hE] at HX2
          simp only [tup3] at HX2
          clear hE hv hk2 hk hzne HGO
          go_wp2_with (go_at_call 71; refine HX2.out.mono ?_; rintro e w2 ⟨rfl, hb2⟩; have HB2 := Lib.hid hb2; clear hb2)
          go_ret2
          have hfin := HW.out
          rw [HST.out (fun h => by have := HK.out; omega)] at hfin
          have B1 := HB.out.trans (HBL.out.mono HB.out.size)
          refine ⟨?_, B1.trans (HB2.out.mono B1.size)⟩
          rw [← hfin]
          rfl
        · obtain ⟨d, rfl⟩ : ∃ d : Nat, k' = (d : Int) := ⟨k'.toNat, by omega⟩
          subst hk2
          rw [hE] at HX2
          simp only [tup3] at HX2
          obtain ⟨f', hg1, hg2, hg3⟩ := HGO.out (by omega) (by rw [hl.out]; exact hf)
          have HG1 := Lib.hid hg1
          have HG2 := Lib.hid hg2
          have HG3 := Lib.hid hg3
          clear hE hv hzne HGO hg1 hg2 hg3
          go_wp2_with (go_at_call 71; refine HX2.out.mono ?_; rintro e w2 ⟨rfl, hb2⟩; have HB2 := Lib.hid hb2; clear hb2)
          go_roundw
          case rel =>
            have e : ((d : Int)).toNat = d := by omega
            have g1 := HG1.out
            have g2 := HG2.out
            have g3 := HG3.out
            rw [e] at g1 g2 g3
            have B1 := HB.out.trans (HBL.out.mono HB.out.size)
            exact ⟨n + 1, p + d, f', by go_num, by go_num, g3, by omega, g2, by rw [← g1]; exact HW.out, B1.trans (HB2.out.mono B1.size)⟩
          case measure => simp [intOf]; omega
      · have h4' : (p : Int) + 4 ≤ (s.size : Int) := by omega
        have h4'' : (s.size : Int) ≤ (p : Int) + 4 := by omega
        have H4 := Lib.hid h4
        obtain ⟨cap, W0, hrun, hc1, hc2, hSl, hbl⟩ := bytes_conv (s.extract p (s.size)) wr
        have hsz : (s.extract p (s.size)).size = s.size - p := by rw [ByteArray.size_extract]; omega
        have hne : nums (s.extract p (s.size)) = ((nums s).drop p).take 4 := by
          rw [nums_ext]
          have hd : ((nums s).drop p).length = s.size - p := by rw [List.length_drop, hl.out]
          rcases Nat.lt_or_ge (s.size - p) 4 with h | h
          · rw [List.take_of_length_le (by omega), List.take_of_length_le (by omega)]
          · rw [show s.size - p = 4 by omega]
        rw [hsz] at hrun hc1 hc2
        rw [hne] at hSl
        have hy4 : Byt (((nums s).drop p).take 4) := fun z hz => HY.out z (List.mem_of_mem_drop (List.mem_of_mem_take hz))
        have HX := Lib.hid (fun (W : World) (hTW : Tabs W) (hS : Sl W (some ⟨wr.heap.size, 0, none⟩) (((nums s).drop p).take 4)) => next_c (some ⟨wr.heap.size, 0, none⟩) (s.size - p) cap (((nums s).drop p).take 4) W hTW hS hy4 (by rw [List.length_take, List.length_drop, hl.out]; omega) hc1 (hc2 (by omega)))
        have HX2 := Lib.hid (HX.out W0 ((HT.out.below HB.out HT.out.two).go hbl) hSl)
        have hkey := next_key (((nums s).drop p).take 4) hy4
        rw [nextW_take] at hkey
        have hk := nextW_k ((nums s).drop p)
        have HST := Lib.hid (@walkP_stop (nums s) f n p)
        have HGO := Lib.hid (@walkP_go (nums s) f n p (by rw [hl.out]; exact hlt))
        have HBL := Lib.hid hbl
        have hzne : ((nums s).drop p).take 4 ≠ [] := fun e => by have := congrArg List.length e; rw [List.length_take, List.length_drop, hl.out, List.length_nil] at this; omega
        clear hsz hne hSl hbl hc1 hc2 HX hy4
        revert HX2 hkey hk HST HGO hzne
        generalize nextW ((nums s).drop p) = q
        generalize ((nums s).drop p).take 4 = z4
        intro HX2 hkey hk HST HGO hzne
        obtain ⟨v, k⟩ := q
        simp only [Prod.mk.injEq] at hkey
        simp only at hk HST HGO
        rw [List.length_drop, hl.out] at hk
        rcases hkey with ⟨hz, _⟩ | ⟨_, hE, hv, hk2⟩ | ⟨_, hE, hv, hk2⟩ | ⟨_, v', k', hE, ⟨hv, hk2⟩, hk1, _, _⟩
        · exact absurd hz hzne
        · have HK : Hid (k ≤ 0) := by show k ≤ 0; omega
          rw [hE] at HX2
          simp only [tup3] at HX2
          clear hE hv hk2 hk hzne HGO
          go_wp2_with (go_at_call 71; refine HX2.out.mono ?_; rintro e w2 ⟨rfl, hb2⟩; have HB2 := Lib.hid hb2; clear hb2)
          go_ret2
          have hfin := HW.out
          rw [HST.out (fun h => by have := HK.out; omega)] at hfin
          have B1 := HB.out.trans (HBL.out.mono HB.out.size)
          refine ⟨?_, B1.trans (HB2.out.mono B1.size)⟩
          rw [← hfin]
          rfl
        · have HK : Hid (k ≤ 0) := by show k ≤ 0; omega
          rw [hE] at HX2
          simp only [tup3] at HX2
          clear hE hv hk2 hk hzne HGO
          go_wp2_with (go_at_call 71; refine HX2.out.mono ?_; rintro e w2 ⟨rfl, hb2⟩; have HB2 := Lib.hid hb2; clear hb2)
          go_ret2
          have hfin := HW.out
          rw [HST.out (fun h => by have := HK.out; omega)] at hfin
          have B1 := HB.out.trans (HBL.out.mono HB.out.size)
          refine ⟨?_, B1.trans (HB2.out.mono B1.size)⟩
          rw [← hfin]
          rfl
        · obtain ⟨d, rfl⟩ : ∃ d : Nat, k' = (d : Int) := ⟨k'.toNat, by omega⟩
          subst hk2
          rw [hE] at HX2
          simp only [tup3] at HX2
          obtain ⟨f', hg1, hg2, hg3⟩ := HGO.out (by omega) (by rw [hl.out]; exact hf)
          have HG1 := Lib.hid hg1
          have HG2 := Lib.hid hg2
          have HG3 := Lib.hid hg3
          clear hE hv hzne HGO hg1 hg2 hg3
          go_wp2_with (go_at_call 71; refine HX2.out.mono ?_; rintro e w2 ⟨rfl, hb2⟩; have HB2 := Lib.hid hb2; clear hb2)
          go_roundw
          case rel =>
            have e : ((d : Int)).toNat = d := by omega
            have g1 := HG1.out
            have g2 := HG2.out
            have g3 := HG3.out
            rw [e] at g1 g2 g3
            have B1 := HB.out.trans (HBL.out.mono HB.out.size)
            exact ⟨n + 1, p + d, f', by go_num, by go_num, g3, by omega, g2, by rw [← g1]; exact HW.out, B1.trans (HB2.out.mono B1.size)⟩
          case measure => simp [intOf]; omega
      · have h4' : (s.size : Int) < (p : Int) + 4 := by omega
        obtain ⟨cap, W0, hrun, hc1, hc2, hSl, hbl⟩ := bytes_conv (s.extract p (s.size)) wr
        have hsz : (s.extract p (s.size)).size = s.size - p := by rw [ByteArray.size_extract]; omega
        have hne : nums (s.extract p (s.size)) = ((nums s).drop p).take 4 := by
          rw [nums_ext]
          have hd : ((nums s).drop p).length = s.size - p := by rw [List.length_drop, hl.out]
          rcases Nat.lt_or_ge (s.size - p) 4 with h | h
          · rw [List.take_of_length_le (by omega), List.take_of_length_le (by omega)]
          · rw [show s.size - p = 4 by omega]
        rw [hsz] at hrun hc1 hc2
        rw [hne] at hSl
        have hy4 : Byt (((nums s).drop p).take 4) := fun z hz => HY.out z (List.mem_of_mem_drop (List.mem_of_mem_take hz))
        have HX := Lib.hid (fun (W : World) (hTW : Tabs W) (hS : Sl W (some ⟨wr.heap.size, 0, none⟩) (((nums s).drop p).take 4)) => next_c (some ⟨wr.heap.size, 0, none⟩) (s.size - p) cap (((nums s).drop p).take 4) W hTW hS hy4 (by rw [List.length_take, List.length_drop, hl.out]; omega) hc1 (hc2 (by omega)))
        have HX2 := Lib.hid (HX.out W0 ((HT.out.below HB.out HT.out.two).go hbl) hSl)
        have hkey := next_key (((nums s).drop p).take 4) hy4
        rw [nextW_take] at hkey
        have hk := nextW_k ((nums s).drop p)
        have HST := Lib.hid (@walkP_stop (nums s) f n p)
        have HGO := Lib.hid (@walkP_go (nums s) f n p (by rw [hl.out]; exact hlt))
        have HBL := Lib.hid hbl
        have hzne : ((nums s).drop p).take 4 ≠ [] := fun e => by have := congrArg List.length e; rw [List.length_take, List.length_drop, hl.out, List.length_nil] at this; omega
        clear hsz hne hSl hbl hc1 hc2 HX hy4
        revert HX2 hkey hk HST HGO hzne
        generalize nextW ((nums s).drop p) = q
        generalize ((nums s).drop p).take 4 = z4
        intro HX2 hkey hk HST HGO hzne
        obtain ⟨v, k⟩ := q
        simp only [Prod.mk.injEq] at hkey
        simp only at hk HST HGO
        rw [List.length_drop, hl.out] at hk
        rcases hkey with ⟨hz, _⟩ | ⟨_, hE, hv, hk2⟩ | ⟨_, hE, hv, hk2⟩ | ⟨_, v', k', hE, ⟨hv, hk2⟩, hk1, _, _⟩
        · exact absurd hz hzne
        · have HK : Hid (k ≤ 0) := by show k ≤ 0; omega
          rw [hE] at HX2
          simp only [tup3] at HX2
          clear hE hv hk2 hk hzne HGO
          go_wp2_with (go_at_call 71; refine HX2.out.mono ?_; rintro e w2 ⟨rfl, hb2⟩; have HB2 := Lib.hid hb2; clear hb2)
          go_ret2
          have hfin := HW.out
          rw [HST.out (fun h => by have := HK.out; omega)] at hfin
          have B1 := HB.out.trans (HBL.out.mono HB.out.size)
          refine ⟨?_, B1.trans (HB2.out.mono B1.size)⟩
          rw [← hfin]
          rfl
        · have HK : Hid (k ≤ 0) := by show k ≤ 0; omega
          rw [hE] at HX2
          simp only [tup3] at HX2
          clear hE hv hk2 hk hzne HGO
          go_wp2_with (go_at_call 71; refine HX2.out.mono ?_; rintro e w2 ⟨rfl, hb2⟩; have HB2 := Lib.hid hb2; clear hb2)
          go_ret2
          have hfin := HW.out
          rw [HST.out (fun h => by have := HK.out; omega)] at hfin
          have B1 := HB.out.trans (HBL.out.mono HB.out.size)
          refine ⟨?_, B1.trans (HB2.out.mono B1.size)⟩
          rw [← hfin]
          rfl
        · obtain ⟨d, rfl⟩ : ∃ d : Nat, k' = (d : Int) := ⟨k'.toNat, by omega⟩
          subst hk2
          rw [hE] at HX2
          simp only [tup3] at HX2
          obtain ⟨f', hg1, hg2, hg3⟩ := HGO.out (by omega) (by rw [hl.out]; exact hf)
          have HG1 := Lib.hid hg1
          have HG2 := Lib.hid hg2
          have HG3 := Lib.hid hg3
          clear hE hv hzne HGO hg1 hg2 hg3
          go_wp2_with (go_at_call 71; refine HX2.out.mono ?_; rintro e w2 ⟨rfl, hb2⟩; have HB2 := Lib.hid hb2; clear hb2)
          go_roundw
          case rel =>
            have e : ((d : Int)).toNat = d := by omega
            have g1 := HG1.out
            have g2 := HG2.out
            have g3 := HG3.out
            rw [e] at g1 g2 g3
            have B1 := HB.out.trans (HBL.out.mono HB.out.size)
            exact ⟨n + 1, p + d, f', by go_num, by go_num, g3, by omega, g2, by rw [← g1]; exact HW.out, B1.trans (HB2.out.mono B1.size)⟩
          case measure => simp [intOf]; omega
    · have hfin := HW.out
      rw [walkP_stop (fun h => by rw [hl.out] at h; omega)] at hfin
      have HF := Lib.hid hfin
      clear hfin
      go_wp2
      go_ret2
      refine ⟨?_, HB.out⟩
      rw [← HF.out]
      rfl
end Go.Proofs.YtbimncnicioagaaDoor.Ut
