/- The tables of the library as the walks read them; contracts of Print of package num, and of the document's own Print, of every number; where the tables lie as the program's text lays them. -/
import Derived.Test.YtbafjilhopgjmaaDoorNuHexR
import Derived.WalkSmall
namespace Go.Proofs.YtbafjilhopgjmaaDoor.Nu
open Go.RowKit Go.Sort
set_option linter.unusedSimpArgs false
set_option linter.unusedVariables false

def powV : Array Value := (Lib.pow10Tab.map fun z => Value.int .u64 z).toArray
def brV : Array Value := #[.int .u8 0, .int .u8 1, .int .u8 56, .int .u8 2, .int .u8 57, .int .u8 49, .int .u8 28, .int .u8 3, .int .u8 61, .int .u8 58, .int .u8 42, .int .u8 50, .int .u8 38, .int .u8 29, .int .u8 17, .int .u8 4, .int .u8 62, .int .u8 47, .int .u8 59, .int .u8 36, .int .u8 45, .int .u8 43, .int .u8 51, .int .u8 22, .int .u8 53, .int .u8 39, .int .u8 33, .int .u8 30, .int .u8 24, .int .u8 18, .int .u8 12, .int .u8 5, .int .u8 63, .int .u8 55, .int .u8 48, .int .u8 27, .int .u8 60, .int .u8 41, .int .u8 37, .int .u8 16, .int .u8 46, .int .u8 35, .int .u8 44, .int .u8 21, .int .u8 52, .int .u8 32, .int .u8 23, .int .u8 11, .int .u8 54, .int .u8 26, .int .u8 40, .int .u8 15, .int .u8 34, .int .u8 20, .int .u8 31, .int .u8 10, .int .u8 25, .int .u8 14, .int .u8 19, .int .u8 9, .int .u8 13, .int .u8 8, .int .u8 7, .int .u8 6]
/-- the tables lie as the program's text lays them -/
def Tabs (w : World) : Prop := (∃ t f, w.heap[1]? = some (.cells powV t f)) ∧ ∃ t f, w.heap[5]? = some (.cells brV t f)
theorem Tabs.three {w : World} (h : Tabs w) : max (1 + 1) (5 + 1) ≤ w.heap.size := by
  obtain ⟨⟨t0, f0, h0⟩, t, f, h1⟩ := h
  have a := (Array.getElem?_eq_some_iff.1 h1).1
  have b := (Array.getElem?_eq_some_iff.1 h0).1
  omega
theorem Tabs.go {w w' : World} (h : Tabs w) (hb : Below w.heap.size w w') : Tabs w' := by
  have h3 := h.three
  obtain ⟨⟨t, f, h0⟩, t1, f1, h1⟩ := h
  exact ⟨⟨t, f, (hb.block 1 (by omega)).trans h0⟩, t1, f1, (hb.block 5 (by omega)).trans h1⟩
theorem Tabs.below {B : Nat} {w w' : World} (h : Tabs w) (hb : Below B w w') (hB : w.heap.size ≤ B) : Tabs w' := h.go (hb.mono hB)
theorem gPow : Tryd.prog.globalNamed "internal/strconv.uint64pow10" = some 1 := by kernel_rfl
theorem Tabs.pow {w : World} (h : Tabs w) : Lib.TabIs Tryd.prog w "internal/strconv.uint64pow10" .u64 Lib.pow10Tab := by
  obtain ⟨⟨t, f, h0⟩, _⟩ := h
  unfold Lib.TabIs
  simp only [World.var?, gPow, Option.bind_some, h0]
  rfl
theorem below_grow (w : World) (k : Nat) (os : Array Obj) : Below w.heap.size w (grow (w.drewN k) os) := by
  have h1 := below_drewN (Below.refl w.heap.size w) k
  refine h1.trans ⟨rfl, rfl, rfl, by simp, fun i hi => heap_grow_old _ _ ?_⟩
  have := h1.size
  omega
theorem format_c (n : Int) (w : World) (h0 : -9223372036854775808 ≤ n) (h1 : n ≤ 9223372036854775807) (hT : Tabs w) :
    Calls Tryd.prog 26 #[.int .i64 n, .int .i64 10] w fun e w' => e = .returned (.string (mkS (Lib.itoa n))) ∧ Below w.heap.size w w' := by
  have h : Calls Tryd.prog 26 #[.int .i64 n, .int .i64 10] w fun e w' => e = .returned (.string ⟨(Lib.itoa n).toArray⟩) ∧ ∃ k os, w' = grow (w.drewN k) os := Any.strconv_FormatInt_10 Tryd.laysM173 n h0 h1 w hT.pow
  exact h.mono fun e w' hh => by
    obtain ⟨he, k, os, rfl⟩ := hh
    exact ⟨he, below_grow w k os⟩
theorem print_c (n : Int) (w : World) (h0 : -9223372036854775808 ≤ n) (h1 : n ≤ 9223372036854775807) (hT : Tabs w) :
    Calls Tryd.prog 14 #[.int .i64 n] w fun e w' => e = .returned (.string (mkS (Lib.itoa n))) ∧ Below w.heap.size w w' := by
  have HF := Lib.hid (format_c n w h0 h1 hT)
  clear hT
  go_enter Tryd.func14, Tryd.ntmps14
  go_wp2_with fail
  refine HF.out.mono ?_
  rintro e w1 ⟨rfl, hb1⟩
  have B1 := Lib.hid hb1
  clear hb1
  go_wp2
  go_ret
  exact ⟨rfl, B1.out⟩

theorem one_conv (w : World) (b : UInt8) (x : Int) (hx : x = (b.toNat : Int)) : (convert 56 9 (.slice (some ⟨w.heap.size, 0, none⟩) 1 1)).run Tryd.prog (w.alloc (.cells #[.int .u8 x] 5)) = .ok (.string (mkS [b])) (w.alloc (.cells #[.int .u8 x] 5)) := by
  subst hx
  refine run_convert_bytes_back _ 56 9 5 ⟨w.heap.size, 0, none⟩ 1 [b] Tryd.underlying56 Tryd.underlying5 Tryd.underlying9 (fun j hj => ?_)
  obtain rfl : j = 0 := by simpa using hj
  rw [show (⟨w.heap.size, 0, none⟩ : Addr).add 0 = ⟨w.heap.size, 0, none⟩ from rfl, World.cell?_alloc_at _ _ _ _ rfl]
  rfl
theorem dec_small {u : Nat} (h : u < 10) : Lib.decDigits u = [UInt8.ofNat (48 + u)] := by rw [Lib.decDigits, dif_pos h]
theorem dec_big {u : Nat} (h : ¬ u < 10) : Lib.decDigits u = Lib.decDigits (u / 10) ++ [UInt8.ofNat (48 + u % 10)] := by rw [Lib.decDigits, dif_neg h]
theorem byte_48 (u : Nat) (h : u < 10) : ((UInt8.ofNat (48 + u)).toNat : Int) = 48 + (u : Int) := by
  have : (48 + u) % 256 = 48 + u := Nat.mod_eq_of_lt (by omega)
  simp [this]
theorem dec_len : ∀ (k u : Nat), u < 10 ^ (k + 1) → (Lib.decDigits u).length ≤ k + 1
  | 0, u, h => by rw [dec_small (by omega)]; simp
  | k + 1, u, h => by
    by_cases g : u < 10
    · rw [dec_small g]; simp
    · rw [dec_big g, List.length_append]
      have := dec_len k (u / 10) (by rw [Nat.pow_succ] at h; omega)
      simp; omega

theorem printR_one (u : Nat) (w : World) (h : u < 10) : Calls Tryd.prog 18 #[.int .i64 (u : Int)] w fun e w' => e = .returned (.string (mkS (Lib.decDigits u))) ∧ Below w.heap.size w w' := by
  have hcv := one_conv w (UInt8.ofNat (48 + u)) (48 + (u : Int)) (byte_48 u h).symm
  rw [dec_small h]
  have h' : (u : Int) < 10 := by omega
  have h0 : 0 ≤ (u : Int) := by omega
  generalize mkS [UInt8.ofNat (48 + u)] = y at hcv ⊢
  go_enter Tryd.func18, Tryd.ntmps18
  go_wp2
  go_ret
  exact ⟨rfl, (Below.refl _ _).alloc (Nat.le_refl _) _⟩

set_option maxRecDepth 100000 in
set_option maxHeartbeats 1000000 in
theorem printR_pos : ∀ (f u : Nat) (w : World), u < f → u ≤ 9223372036854775808 → (u : Int) ≤ 9223372036854775807 → Calls Tryd.prog 18 #[.int .i64 (u : Int)] w fun e w' => e = .returned (.string (mkS (Lib.decDigits u))) ∧ Below w.heap.size w w' := by
  intro f
  induction f with
  | zero => intro u w h; omega
  | succ f ih =>
    intro u w hf _ hu
    by_cases h : u < 10
    · exact printR_one u w h
    have e1 : ((u / 10 : Nat) : Int) = (u : Int) / 10 := by omega
    have e2 : ((u % 10 : Nat) : Int) = (u : Int) % 10 := by omega
    have H1 := Lib.hid (fun W => ih (u / 10) W (by omega) (by omega) (by omega))
    have H2 := Lib.hid (fun W => printR_one (u % 10) W (by omega))
    rw [e1] at H1
    rw [e2, dec_small (show u % 10 < 10 by omega)] at H2
    have HE : Hid (mkS (Lib.decDigits (u / 10)) ++ mkS [UInt8.ofNat (48 + u % 10)] = mkS (Lib.decDigits u)) := by
      show _ = mkS (Lib.decDigits u)
      rw [mkS_app, dec_big h]
    have hz1 : (mkS (Lib.decDigits (u / 10))).size ≤ 30 := by
      rw [size_mkS]
      have := dec_len 19 (u / 10) (by have : (10 : Nat) ^ (19 + 1) = 100000000000000000000 := by decide
                                      omega)
      omega
    have hz2 : (mkS [UInt8.ofNat (48 + u % 10)]).size ≤ 1 := by rw [size_mkS]; simp
    have h10 : ¬ (u : Int) < 10 := by omega
    have h0 : 0 ≤ (u : Int) := by omega
    clear e1 e2 ih hf h
    revert H1 H2 HE hz1 hz2
    generalize mkS (Lib.decDigits (u / 10)) = x
    generalize mkS [UInt8.ofNat (48 + u % 10)] = y
    intro H1 H2 HE hz1 hz2
    go_enter Tryd.func18, Tryd.ntmps18
    go_wp2_with fail
    refine (H1.out _).mono ?_
    rintro e w1 ⟨rfl, hb1⟩
    have B1 := Lib.hid hb1
    clear hb1
    go_wp2_with fail
    refine (H2.out _).mono ?_
    rintro e w2 ⟨rfl, hb2⟩
    have B2 := Lib.hid hb2
    clear hb2
    go_wp2
    go_ret
    exact ⟨ret_str HE.out, B1.out.trans (B2.out.mono B1.out.size)⟩
end Go.Proofs.YtbafjilhopgjmaaDoor.Nu
