/- Contracts and plain mathematics of some packages' functions, laid together; conditions as each one says. -/
import Derived.Test.YtbimncnicioagaaDoorNuMb
import Derived.WalkSmall
import Derived.Laws.BitsLemmas
import Derived.Laws.Bits64
namespace Go.Proofs.YtbimncnicioagaaDoor.Nu
open Go.RowKit Go.Sort
set_option linter.unusedSimpArgs false
set_option linter.unusedVariables false

def powV : Array Value := (Lib.pow10Tab.map fun z => Value.int .u64 z).toArray
def brV : Array Value := #[.int .u8 0, .int .u8 1, .int .u8 56, .int .u8 2, .int .u8 57, .int .u8 49, .int .u8 28, .int .u8 3, .int .u8 61, .int .u8 58, .int .u8 42, .int .u8 50, .int .u8 38, .int .u8 29, .int .u8 17, .int .u8 4, .int .u8 62, .int .u8 47, .int .u8 59, .int .u8 36, .int .u8 45, .int .u8 43, .int .u8 51, .int .u8 22, .int .u8 53, .int .u8 39, .int .u8 33, .int .u8 30, .int .u8 24, .int .u8 18, .int .u8 12, .int .u8 5, .int .u8 63, .int .u8 55, .int .u8 48, .int .u8 27, .int .u8 60, .int .u8 41, .int .u8 37, .int .u8 16, .int .u8 46, .int .u8 35, .int .u8 44, .int .u8 21, .int .u8 52, .int .u8 32, .int .u8 23, .int .u8 11, .int .u8 54, .int .u8 26, .int .u8 40, .int .u8 15, .int .u8 34, .int .u8 20, .int .u8 31, .int .u8 10, .int .u8 25, .int .u8 14, .int .u8 19, .int .u8 9, .int .u8 13, .int .u8 8, .int .u8 7, .int .u8 6]
/-- the tables lie as the program's text lays them -/
def Tabs (w : World) : Prop := (∃ t f, w.heap[3]? = some (.cells powV t f)) ∧ ∃ t f, w.heap[5]? = some (.cells brV t f)
theorem Tabs.three {w : World} (h : Tabs w) : max (3 + 1) (5 + 1) ≤ w.heap.size := by
  obtain ⟨⟨t0, f0, h0⟩, t, f, h1⟩ := h
  have a := (Array.getElem?_eq_some_iff.1 h1).1
  have b := (Array.getElem?_eq_some_iff.1 h0).1
  omega
theorem Tabs.go {w w' : World} (h : Tabs w) (hb : Below w.heap.size w w') : Tabs w' := by
  have h3 := h.three
  obtain ⟨⟨t, f, h0⟩, t1, f1, h1⟩ := h
  exact ⟨⟨t, f, (hb.block 3 (by omega)).trans h0⟩, t1, f1, (hb.block 5 (by omega)).trans h1⟩
theorem Tabs.below {B : Nat} {w w' : World} (h : Tabs w) (hb : Below B w w') (hB : w.heap.size ≤ B) : Tabs w' := h.go (hb.mono hB)
theorem gPow : Tryd.prog.globalNamed "internal/strconv.uint64pow10" = some 3 := by kernel_rfl
theorem Tabs.pow {w : World} (h : Tabs w) : Lib.TabIs Tryd.prog w "internal/strconv.uint64pow10" .u64 Lib.pow10Tab := by
  obtain ⟨⟨t, f, h0⟩, _⟩ := h
  unfold Lib.TabIs
  simp only [World.var?, gPow, Option.bind_some, h0]
  rfl
theorem below_grow (w : World) (k : Nat) (os : Array Obj) : Below w.heap.size w (grow (w.drewN k) os) := by
  have h1 := below_drewN (Below.refl w.heap.size w) k
  refine h1.trans ⟨rfl, rfl, rfl, by simp, fun i hi => heap_grow_old _ _ ?_⟩
  have := h1.size
  omega
theorem format_c (n : Int) (w : World) (h0 : -9223372036854775808 ≤ n) (h1 : n ≤ 9223372036854775807) (hT : Tabs w) :
    Calls Tryd.prog 78 #[.int .i64 n, .int .i64 10] w fun e w' => e = .returned (.string (mkS (Lib.itoa n))) ∧ Below w.heap.size w w' := by
  have h : Calls Tryd.prog 78 #[.int .i64 n, .int .i64 10] w fun e w' => e = .returned (.string ⟨(Lib.itoa n).toArray⟩) ∧ ∃ k os, w' = grow (w.drewN k) os := Any.strconv_FormatInt_10 Tryd.laysM173 n h0 h1 w hT.pow
  exact h.mono fun e w' hh => by
    obtain ⟨he, k, os, rfl⟩ := hh
    exact ⟨he, below_grow w k os⟩
theorem one_conv (w : World) (b : UInt8) (x : Int) (hx : x = (b.toNat : Int)) : (convert 68 9 (.slice (some ⟨w.heap.size, 0, none⟩) 1 1)).run Tryd.prog (w.alloc (.cells #[.int .u8 x] 5)) = .ok (.string (mkS [b])) (w.alloc (.cells #[.int .u8 x] 5)) := by
  subst hx
  refine run_convert_bytes_back _ 68 9 5 ⟨w.heap.size, 0, none⟩ 1 [b] Tryd.underlying68 Tryd.underlying5 Tryd.underlying9 (fun j hj => ?_)
  obtain rfl : j = 0 := by simpa using hj
  rw [show (⟨w.heap.size, 0, none⟩ : Addr).add 0 = ⟨w.heap.size, 0, none⟩ from rfl, World.cell?_alloc_at _ _ _ _ rfl]
  rfl
theorem dec_small {u : Nat} (h : u < 10) : Lib.decDigits u = [UInt8.ofNat (48 + u)] := by rw [Lib.decDigits, dif_pos h]
theorem dec_big {u : Nat} (h : ¬ u < 10) : Lib.decDigits u = Lib.decDigits (u / 10) ++ [UInt8.ofNat (48 + u % 10)] := by rw [Lib.decDigits, dif_neg h]
theorem byte_48 (u : Nat) (h : u < 10) : ((UInt8.ofNat (48 + u)).toNat : Int) = 48 + (u : Int) := by
  have : (48 + u) % 256 = 48 + u := Nat.mod_eq_of_lt (by omega)
  simp [this]
theorem dec_len : ∀ (k u : Nat), u < 10 ^ (k + 1) → (Lib.decDigits u).length ≤ k + 1
  | 0, u, h => by rw [dec_small (by omega)]; simp
  | k + 1, u, h => by
    by_cases g : u < 10
    · rw [dec_small g]; simp
    · rw [dec_big g, List.length_append]
      have := dec_len k (u / 10) (by rw [Nat.pow_succ] at h; omega)
      simp; omega

end Go.Proofs.YtbimncnicioagaaDoor.Nu
namespace Go.Proofs.YtbimncnicioagaaDoor.Nu
open Go.RowKit
set_option linter.unusedSimpArgs false
set_option linter.unusedVariables false

theorem tdiv_neg (u : Nat) : (-(u : Int)).tdiv 10 = -((u / 10 : Nat) : Int) := by rw [Int.neg_tdiv]; rfl
theorem tmod_neg (u : Nat) : (-(u : Int)).tmod 10 = -((u % 10 : Nat) : Int) := by rw [Int.neg_tmod]; rfl
end Go.Proofs.YtbimncnicioagaaDoor.Nu
namespace Go.Proofs.YtbimncnicioagaaDoor.Nu
open Go.RowKit
set_option linter.unusedSimpArgs false
set_option linter.unusedVariables false

def hxd (m : Nat) : UInt8 := if m < 10 then UInt8.ofNat (48 + m) else UInt8.ofNat (87 + m)
def hexF : Nat → Nat → List UInt8
  | 0, u => [hxd u]
  | f + 1, u => if u < 16 then [hxd u] else hexF f (u / 16) ++ [hxd (u % 16)]
def hexL (u : Nat) : List UInt8 := hexF u u
theorem hexF_small {u : Nat} (h : u < 16) : ∀ f, hexF f u = [hxd u]
  | 0 => rfl
  | f + 1 => by unfold hexF; rw [if_pos h]
theorem hexF_more {u : Nat} (h : ¬ u < 16) (f : Nat) : hexF (f + 1) u = hexF f (u / 16) ++ [hxd (u % 16)] := by
  show (if u < 16 then [hxd u] else hexF f (u / 16) ++ [hxd (u % 16)]) = _
  rw [if_neg h]
theorem hexF_eq : ∀ (f g u : Nat), u ≤ f → u ≤ g → hexF f u = hexF g u
  | 0, g, u, h1, h2 => by rw [hexF_small (by omega), hexF_small (by omega)]
  | f + 1, 0, u, h1, h2 => by rw [hexF_small (by omega), hexF_small (by omega)]
  | f + 1, g + 1, u, h1, h2 => by
    by_cases h : u < 16
    · rw [hexF_small h, hexF_small h]
    · rw [hexF_more h, hexF_more h, hexF_eq f g (u / 16) (by omega) (by omega)]
theorem hex_one {u : Nat} (h : u < 16) : hexL u = [hxd u] := hexF_small h u
theorem hex_more {u : Nat} (h : ¬ u < 16) : hexL u = hexL (u / 16) ++ [hxd (u % 16)] := by
  obtain ⟨k, rfl⟩ : ∃ k, u = k + 1 := ⟨u - 1, by omega⟩
  show hexF (k + 1) (k + 1) = hexF ((k + 1) / 16) ((k + 1) / 16) ++ [hxd ((k + 1) % 16)]
  rw [hexF_more h, hexF_eq k ((k + 1) / 16) ((k + 1) / 16) (by omega) (Nat.le_refl _)]
theorem hex_len : ∀ (k u : Nat), u < 16 ^ (k + 1) → (hexL u).length ≤ k + 1
  | 0, u, h => by rw [hex_one (by omega)]; simp
  | k + 1, u, h => by
    by_cases g : u < 16
    · rw [hex_one g]; simp
    · rw [hex_more g, List.length_append]
      have := hex_len k (u / 16) (by rw [Nat.pow_succ] at h; omega)
      simp; omega
theorem hex_pos (u : Nat) : 1 ≤ (hexL u).length := by
  by_cases g : u < 16
  · rw [hex_one g]; simp
  · rw [hex_more g]; simp
def sixL : List UInt8 := [48, 49, 50, 51, 52, 53, 54, 55, 56, 57, 97, 98, 99, 100, 101, 102]
theorem six_at : ∀ m : Fin 16, (sixL.drop m.val).take 1 = [hxd m.val] := by decide +kernel
theorem six_sub (m : Nat) (h : m < 16) : (mkS sixL).extract m (m + 1) = mkS [hxd m] := mkS_of (by
  rw [Lib.extract_data, data_mkS, show m + 1 - m = 1 by omega]
  exact six_at ⟨m, h⟩)

theorem puthexR_neg (n : Int) (w : World) (h : n < 0) : Calls Tryd.prog 41 #[.int .i64 n] w fun e w' => e = .returned (.string ⟨#[]⟩) ∧ w = w' := by
  go_enter Tryd.func41, Tryd.ntmps41
  go_wp2
  go_ret
  exact ⟨rfl, rfl⟩
theorem six_lit : (ByteArray.mk #[48, 49, 50, 51, 52, 53, 54, 55, 56, 57, 97, 98, 99, 100, 101, 102]) = mkS sixL := rfl

set_option maxRecDepth 100000 in
set_option maxHeartbeats 1000000 in
theorem puthexR_pos : ∀ (f u : Nat) (w : World), u < f → u ≤ 9223372036854775807 → Calls Tryd.prog 41 #[.int .i64 (u : Int)] w fun e w' => e = .returned (.string (mkS (hexL u))) ∧ w = w' := by
  intro f
  induction f with
  | zero => intro u w h; omega
  | succ f ih =>
    intro u w hf hu
    have h0 : 0 ≤ (u : Int) := by omega
    have hu' : (u : Int) ≤ 9223372036854775807 := by omega
    have hm : (u : Int) % 16 = ((u % 16 : Nat) : Int) := by omega
    have hm16 : u % 16 < 16 := by omega
    have HX := Lib.hid (six_sub (u % 16) hm16)
    by_cases h : u < 16
    · have h' : (u : Int) < 16 := by omega
      have HE : Hid (hexL u = [hxd (u % 16)]) := by show hexL u = _; rw [hex_one h, Nat.mod_eq_of_lt h]
      clear ih hf h hu
      revert hm hm16 HX HE
      generalize u % 16 = m
      intro hm hm16 HX HE
      have hm' : (m : Int) < 16 := by omega
      go_enter Tryd.func41, Tryd.ntmps41
      rw [six_lit]
      generalize hF : mkS sixL = F at HX ⊢
      have hFs : F.size = 16 := by rw [← hF]; rfl
      clear hF
      go_wp2
      go_ret
      exact ⟨ret_str (by rw [HX.out, HE.out]), rfl⟩
    · have h' : ¬ (u : Int) < 16 := by omega
      have e1 : ((u / 16 : Nat) : Int) = (u : Int) / 16 := by omega
      have H1 := Lib.hid (fun W => ih (u / 16) W (by omega) (by omega))
      rw [e1] at H1
      have HE : Hid (mkS (hexL (u / 16)) ++ mkS [hxd (u % 16)] = mkS (hexL u)) := by show _ = mkS (hexL u); rw [mkS_app, hex_more h]
      have hz1 : (mkS (hexL (u / 16))).size ≤ 30 := by
        rw [size_mkS]
        have := hex_len 15 (u / 16) (by have : (16 : Nat) ^ (15 + 1) = 18446744073709551616 := by decide
                                        omega)
        omega
      have hz2 : (mkS [hxd (u % 16)]).size = 1 := by rw [size_mkS]; rfl
      clear ih hf h hu e1
      revert hm hm16 HX HE H1 hz1 hz2
      generalize mkS (hexL (u / 16)) = x
      generalize u % 16 = m
      intro hm hm16 HX H1 HE hz1 hz2
      have hm' : (m : Int) < 16 := by omega
      go_enter Tryd.func41, Tryd.ntmps41
      rw [six_lit]
      generalize hF : mkS sixL = F at HX ⊢
      have hFs : F.size = 16 := by rw [← hF]; rfl
      clear hF
      go_wp2_with fail
      refine (H1.out _).mono ?_
      rintro e w' ⟨rfl, rfl⟩
      go_wp2
      go_ret
      exact ⟨ret_str (by rw [HX.out]; exact HE.out), rfl⟩
end Go.Proofs.YtbimncnicioagaaDoor.Nu
namespace Go.Proofs.YtbimncnicioagaaDoor.Nu
open Go.RowKit
set_option linter.unusedSimpArgs false
set_option linter.unusedVariables false

theorem pow2_c (w : World) : Calls Tryd.prog 91 #[.int .i64 16] w fun e w' => e = .returned (.bool true) ∧ w = w' := by
  go_enter Tryd.func91, Tryd.ntmps91
  go_wp2
  go_ret
  exact ⟨rfl, rfl⟩
theorem and_16 : bits BinOp.and IntKind.u64 16 (IntKind.u64.wrap (-16)) = 16 := by decide +kernel
theorem mul_16 : IntKind.u64.wrap (16 * 285870213051353865) = 4573923408821661840 := by decide +kernel
theorem tz64_c (w : World) (hT : Tabs w) : Calls Tryd.prog 94 #[.int .u64 16] w fun e w' => e = .returned (.int .i64 4) ∧ w = w' := by
  obtain ⟨t, f, h2⟩ := hT.2
  have hc : w.cell? ⟨5, 15, none⟩ = some (.int .u8 4) := cell_of_row w 5 15 brV t f h2
  have e1 := and_16
  have e2 := mul_16
  clear hT h2
  go_enter Tryd.func94, Tryd.ntmps94
  go_wp2
  go_ret
  exact ⟨rfl, rfl⟩
theorem tz_c (w : World) (hT : Tabs w) : Calls Tryd.prog 92 #[.int .u64 16] w fun e w' => e = .returned (.int .i64 4) ∧ w = w' := by
  have H := Lib.hid (tz64_c w hT)
  clear hT
  go_enter Tryd.func92, Tryd.ntmps92
  go_wp2_with fail
  refine H.out.mono ?_
  rintro e w' ⟨rfl, rfl⟩
  go_wp2
  go_ret
  exact ⟨rfl, rfl⟩
theorem wraps63 (n : Int) (h₀ : 0 ≤ n) (h₁ : n < 2 ^ 63) : IntKind.u64.wrap n = n := by rw [IntKind.wrap_u64]; omega
theorem and_15 (v : Int) (h0 : 0 ≤ v) (h1 : v ≤ 9223372036854775807) : bits .and .u64 v 15 = v % 16 := bits_mask .u64 63 (by decide) wraps63 4 (by decide) v h0 (by omega)

def zeros65 : Array Value := Array.replicate 65 (.int .u8 0)
theorem zero56 (w : World) : Sem.run Tryd.prog (zeroValue 131) w = Result.ok (.agg zeros65) w := by kernel_rfl
/-- block g holds just these bytes, and may be written -/
def BRow (w : World) (g : Nat) (l : List UInt8) : Prop := ∀ j (hj : j < l.length), w.cell? ⟨g, j, none⟩ = some (.int .u8 (l[j].toNat : Int)) ∧ w.frozen? ⟨g, j, none⟩ = false
theorem BRow.set {w : World} {g : Nat} {l : List UInt8} (h : BRow w g l) (k : Nat) (b : UInt8) : BRow (w.setCell ⟨g, k, none⟩ (.int .u8 (b.toNat : Int))) g (l.set k b) := by
  intro j hj
  have hj' : j < l.length := by simpa using hj
  refine ⟨?_, (World.frozen?_setCell _ _ _ _).trans (h j hj').2⟩
  by_cases e : k = j
  · subst e
    rw [World.cell?_setCell_same w _ _ (h k hj').1]
    simp
  · rw [World.cell?_setCell_other w _ _ _ (by intro he; injection he; omega), (h j hj').1]
    simp [e]
theorem zero_row (w : World) : BRow (w.alloc (.cells zeros65 131)) w.heap.size (List.replicate 65 0) := by
  intro j hj
  have hj2 : j < 65 := by simpa using hj
  refine ⟨?_, World.frozen?_alloc_at _ _ _ _ rfl⟩
  rw [World.cell?_alloc_at _ _ _ _ rfl, List.getElem_replicate]
  unfold zeros65
  rw [Array.getElem?_replicate, if_pos hj2]
  rfl
theorem row_back {w : World} {g : Nat} {l : List UInt8} (h : BRow w g l) (i n cap : Nat) (hn : i + n = l.length) : (convert 68 9 (.slice (some ⟨g, i, none⟩) n cap)).run Tryd.prog w = .ok (.string (mkS (l.drop i))) w := by
  have hl : n = (l.drop i).length := by rw [List.length_drop]; omega
  subst hl
  exact run_convert_bytes_back w 68 9 5 ⟨g, i, none⟩ cap (l.drop i) Tryd.underlying68 Tryd.underlying5 Tryd.underlying9 (fun j hj => by
    have e : (⟨g, i, none⟩ : Addr).add j = ⟨g, i + j, none⟩ := by unfold Addr.add; split <;> simp_all
    rw [e, List.getElem_drop]
    exact (h (i + j) (by rw [List.length_drop] at hj; omega)).1)
def dig36 : List UInt8 := [48, 49, 50, 51, 52, 53, 54, 55, 56, 57, 97, 98, 99, 100, 101, 102, 103, 104, 105, 106, 107, 108, 109, 110, 111, 112, 113, 114, 115, 116, 117, 118, 119, 120, 121, 122]
theorem dig_lit : (ByteArray.mk #[48, 49, 50, 51, 52, 53, 54, 55, 56, 57, 97, 98, 99, 100, 101, 102, 103, 104, 105, 106, 107, 108, 109, 110, 111, 112, 113, 114, 115, 116, 117, 118, 119, 120, 121, 122]) = mkS dig36 := rfl
theorem dig_at : ∀ m : Fin 16, dig36.getD m.val 0 = hxd m.val := by decide +kernel

theorem len56 : Tryd.prog.arrayLen 131 = 65 := by simp [Program.arrayLen, Tryd.underlying131]
theorem slice_l (g j : Nat) (h : j < 65) (W : World) : (Instr.sliceAt 131 (.pointer (some ⟨g, 0, none⟩)) (some (.int .i64 (j : Int))) none none).run Tryd.prog W = .ok (.slice (some ⟨g, j, none⟩) (65 - j) (65 - j)) W := by
  rw [run_sliceAt_array_l W 131 ⟨g, 0, none⟩ (by simp [Program.arrayLen, Program.elem, Tryd.underlying131]) .i64 (j : Int) (by omega) (by rw [len56]; omega), len56]
  go_simp
  omega
theorem set_drop (r : List UInt8) (j : Nat) (x : UInt8) (h : j < r.length) : (r.set j x).drop j = x :: r.drop (j + 1) := by
  rw [List.drop_set, if_neg (by omega), Nat.sub_self, List.drop_eq_getElem_cons h, List.set_cons_zero]

set_option maxRecDepth 100000 in
set_option maxHeartbeats 1000000 in
theorem fbits_c (u : Nat) (w : World) (hu : u ≤ 9223372036854775807) (hT : Tabs w) : Calls Tryd.prog 88 #[.slice none 0 0, .int .u64 (u : Int), .int .i64 16, .bool false, .bool false] w fun e w' => e = .returned (.tuple #[.slice none 0 0, .string (mkS (hexL u))]) ∧ Below w.heap.size w w' := by
  have HT : Hid (Tabs (w.alloc (.cells zeros65 131))) := hT.go ((Below.refl _ _).alloc (Nat.le_refl _) _)
  have HB := Lib.hid ((Below.refl w.heap.size w).alloc (Nat.le_refl _) (.cells zeros65 131))
  have HR := Lib.hid (zero_row w)
  have HZ := Lib.hid (fun W => zero56 W)
  clear hT
  have hz := HZ.out
  go_enter Tryd.func88, Tryd.ntmps88
  rw [dig_lit]
  generalize hF : mkS dig36 = F
  have HF := Lib.hid hF
  have hFs : F.size = 36 := by rw [← hF]; rfl
  have HX : Hid (∀ (m : Nat) (h : m < F.size), m < 16 → F[m] = hxd m) := fun m h hm => by
    rw [← getD_at F m h, ← hF, data_mkS]
    exact dig_at ⟨m, hm⟩
  clear hF
  go_wp2_with (go_at_call 91; refine (pow2_c _).mono ?_; rintro e w' ⟨rfl, rfl⟩)
  clear hz HZ
  revert HT HB HR
  generalize w.alloc (.cells zeros65 131) = W1
  intro HT HB HR
  refine (tz_c _ HT.out).mono ?_
  rintro e w' ⟨rfl, rfl⟩
  have HL : Hid ((hexL u).length ≤ 65) := by
    show (hexL u).length ≤ 65
    have := hex_len 15 u (by have : (16 : Nat) ^ (15 + 1) = 18446744073709551616 := by decide
                             omega)
    omega
  clear HT
  go_wp2
  go_loopw [1, 13] (fun a b wr => ∃ (v i : Nat) (r : List UInt8), a = .int .u64 (v : Int) ∧ b = .int .i64 (i : Int) ∧ v ≤ 9223372036854775807 ∧ i ≤ 65 ∧ r.length = 65 ∧ (hexL v).length ≤ i ∧ hexL v ++ r.drop i = hexL u ∧ BRow wr w.heap.size r ∧ Below w.heap.size w wr) (fun a _ _ => (intOf a).toNat)
  case atStart => exact ⟨u, 65, List.replicate 65 0, rfl, rfl, hu, by omega, by simp, HL.out, by rw [List.drop_of_length_le (by simp)]; simp, HR.out, HB.out⟩
  case round =>
    clear HL HR HB
    obtain ⟨v, i, r, rfl, rfl, hv, hi, hrl, hlen, heq, hrow, hB⟩ := hrel
    have HRL := Lib.hid hrl
    have HLN := Lib.hid hlen
    have HEQ := Lib.hid heq
    have HR := Lib.hid hrow
    have HB := Lib.hid hB
    have hpos := hex_pos v
    obtain ⟨j, rfl⟩ : ∃ j, i = j + 1 := ⟨i - 1, by omega⟩
    have hj : j < r.length := by omega
    obtain ⟨z, hc⟩ : ∃ z : UInt8, wr.cell? ⟨w.heap.size, j, none⟩ = some (.int .u8 (z.toNat : Int)) := ⟨_, (hrow j hj).1⟩
    have hf : wr.frozen? ⟨w.heap.size, j, none⟩ = false := (hrow j hj).2
    have ej : ((j + 1 : Nat) : Int) - 1 = (j : Int) := by omega
    have ej2 : (j : Int) + 1 - 1 = (j : Int) := by omega
    clear hrl hlen heq hrow hB hpos
    by_cases h16 : v < 16
    · have h16' : ¬ (16 : Int) ≤ (v : Int) := by omega
      have hsl := slice_l w.heap.size j (by omega)
      have hx := HX.out v (by omega) h16
      have hone := hex_one h16
      have HE : Hid ((r.set j F[v]).drop j = hexL u) := by
        show (r.set j F[v]).drop j = hexL u
        rw [set_drop r j _ hj, ← HEQ.out, hone, hx]; rfl
      have hrow2 := HR.out.set j F[v]
      have hcv := row_back hrow2 j (65 - j) (65 - j) (by rw [List.length_set, HRL.out]; omega)
      rw [HE.out] at hcv
      clear hx hone hrow2
      go_wp2
      go_ret2
      exact ⟨rfl, HB.out.setCell (by simp) _⟩
    · have h16' : (16 : Int) ≤ (v : Int) := by omega
      have ha := and_15 (v : Int) (by omega) (by omega)
      go_wp2
      have hm16 : v % 16 < 16 := by omega
      have hx := HX.out (v % 16) (by omega) hm16
      go_roundw
      case rel =>
        have hm := hex_more h16
        refine ⟨v / 16, j, r.set j (hxd (v % 16)), by rw [show ((v / 16 : Nat) : Int) = (v : Int) / 16 by omega], rfl, by omega, by omega, by rw [List.length_set]; exact HRL.out, ?_, ?_, ?_, HB.out.setCell (by simp) _⟩
        · have := HLN.out; rw [hm, List.length_append] at this; simp at this; omega
        · rw [set_drop r j _ hj, ← HEQ.out, hm]; simp
        · have := HR.out.set j (hxd (v % 16)); rw [← hx] at this; rw [← hx]; exact this
      case measure => simp [intOf]; omega
end Go.Proofs.YtbimncnicioagaaDoor.Nu
namespace Go.Proofs.YtbimncnicioagaaDoor.Nu
open Go.RowKit
set_option linter.unusedSimpArgs false
set_option linter.unusedVariables false

theorem fmt16_c (u : Nat) (w : World) (hu : u ≤ 9223372036854775807) (hT : Tabs w) : Calls Tryd.prog 84 #[.int .i64 (u : Int), .int .i64 16] w fun e w' => e = .returned (.string (mkS (hexL u))) ∧ Below w.heap.size w w' := by
  have HF := Lib.hid (fbits_c u w hu hT)
  have h0 : 0 ≤ (u : Int) := by omega
  have h1 : (u : Int) ≤ 9223372036854775807 := by omega
  clear hT
  go_enter Tryd.func84, Tryd.ntmps84
  go_wp2_with fail
  refine HF.out.mono ?_
  rintro e w1 ⟨rfl, hb1⟩
  have B1 := Lib.hid hb1
  clear hb1
  go_wp2
  go_ret
  exact ⟨rfl, B1.out⟩
theorem fmt16_o (u : Nat) (w : World) (hu : u ≤ 9223372036854775807) (hT : Tabs w) : Calls Tryd.prog 78 #[.int .i64 (u : Int), .int .i64 16] w fun e w' => e = .returned (.string (mkS (hexL u))) ∧ Below w.heap.size w w' := by
  have HF := Lib.hid (fmt16_c u w hu hT)
  clear hT
  go_enter Tryd.func78, Tryd.ntmps78
  go_wp2_with fail
  refine HF.out.mono ?_
  rintro e w1 ⟨rfl, hb1⟩
  have B1 := Lib.hid hb1
  clear hb1
  go_wp2
  go_ret
  exact ⟨rfl, B1.out⟩
theorem puthex_pos (u : Nat) (w : World) (hu : u ≤ 9223372036854775807) (hT : Tabs w) : Calls Tryd.prog 69 #[.int .i64 (u : Int)] w fun e w' => e = .returned (.string (mkS (hexL u))) ∧ Below w.heap.size w w' := by
  have HF := Lib.hid (fmt16_o u w hu hT)
  have h0 : 0 ≤ (u : Int) := by omega
  clear hT
  go_enter Tryd.func69, Tryd.ntmps69
  go_wp2_with fail
  refine HF.out.mono ?_
  rintro e w1 ⟨rfl, hb1⟩
  have B1 := Lib.hid hb1
  clear hb1
  go_wp2
  go_ret
  exact ⟨rfl, B1.out⟩
theorem puthex_neg (n : Int) (w : World) (h : n < 0) : Calls Tryd.prog 69 #[.int .i64 n] w fun e w' => e = .returned (.string ⟨#[]⟩) ∧ w = w' := by
  go_enter Tryd.func69, Tryd.ntmps69
  go_wp2
  go_ret
  exact ⟨rfl, rfl⟩

/-- what is read of a number's digits -/
theorem hxd_hv : ∀ m : Fin 16, hvU (hxd m.val) = (m.val : Int) := by decide +kernel
theorem hxd_ok (m : Nat) (h : m < 16) : hvU (hxd m) = (m : Int) ∧ okD 16 (hxd m) = true := by
  have := hxd_hv ⟨m, h⟩
  simp only [] at this
  refine ⟨this, decide_eq_true ?_⟩
  rw [this]; omega
theorem hex_val : ∀ (f u : Nat), u < f → val 16 (hexL u) = (u : Int) ∧ (hexL u).all (okD 16) = true := by
  intro f
  induction f with
  | zero => intro u h; omega
  | succ f ih =>
    intro u hf
    by_cases h : u < 16
    · rw [hex_one h]
      obtain ⟨a, b⟩ := hxd_ok u h
      exact ⟨by rw [val_cons, a]; simp [val], by simp [b]⟩
    · rw [hex_more h]
      obtain ⟨a, b⟩ := hxd_ok (u % 16) (by omega)
      obtain ⟨i1, i2⟩ := ih (u / 16) (by omega)
      refine ⟨by rw [val_snoc, a, i1]; omega, by rw [List.all_append, i2]; simp [b]⟩
theorem dig_ok (m : Nat) (h : m < 10) : hvU (UInt8.ofNat (48 + m)) = (m : Int) ∧ okD 10 (UInt8.ofNat (48 + m)) = true := by
  have e := byte_48 m h
  have hv1 : hvU (UInt8.ofNat (48 + m)) = (m : Int) := by unfold hvU hv; rw [e, if_pos (by omega)]; omega
  refine ⟨hv1, decide_eq_true ?_⟩
  rw [hv1]; omega
theorem dec_val : ∀ (f u : Nat), u < f → val 10 (Lib.decDigits u) = (u : Int) ∧ (Lib.decDigits u).all (okD 10) = true ∧ Lib.decDigits u ≠ [] ∧ (1 ≤ u → (Lib.decDigits u).getD 0 0 ≠ 48) := by
  intro f
  induction f with
  | zero => intro u h; omega
  | succ f ih =>
    intro u hf
    by_cases h : u < 10
    · rw [dec_small h]
      obtain ⟨a, b⟩ := dig_ok u h
      refine ⟨by rw [val_cons, a]; simp [val], by rw [List.all_cons, b]; rfl, by simp, fun h1 => ?_⟩
      show UInt8.ofNat (48 + u) ≠ 48
      intro e
      have := byte_48 u h
      rw [e] at this
      have e48 : ((48 : UInt8).toNat : Int) = 48 := rfl
      omega
    · rw [dec_big h]
      obtain ⟨a, b⟩ := dig_ok (u % 10) (by omega)
      obtain ⟨i1, i2, i3, i4⟩ := ih (u / 10) (by omega)
      refine ⟨by rw [val_snoc, a, i1]; omega, by rw [List.all_append, i2, List.all_cons, b]; rfl, by simp, fun h1 => ?_⟩
      have := i4 (by omega)
      cases e : Lib.decDigits (u / 10) with
      | nil => exact absurd e i3
      | cons c t => rw [e] at this; simpa [List.getD] using this
theorem dec_bad (u : Nat) : badB (Lib.decDigits u) = false := by
  apply decide_eq_false
  rintro ⟨h1, h2⟩
  obtain ⟨_, _, _, h4⟩ := dec_val (u + 1) u (by omega)
  by_cases h : u < 10
  · rw [dec_small h] at h1; simp at h1
  · exact h4 (by omega) h2
theorem itoa_back (n : Int) (h0 : -9223372036854775808 ≤ n) (h1 : n ≤ 9223372036854775807) : pN (Lib.itoa n) = n ∧ pE (Lib.itoa n) = 0 := by
  unfold Lib.itoa
  split
  · rename_i h
    obtain ⟨v1, v2, v3, _⟩ := dec_val (n.natAbs + 1) n.natAbs (by omega)
    have e1 : negB (45 :: Lib.decDigits n.natAbs) = true := by rw [neg_cons]; rfl
    have e2 : bodyL (45 :: Lib.decDigits n.natAbs) = Lib.decDigits n.natAbs := by rw [body_cons]; rfl
    have hr := rd_yes (M := 9223372036854775808) ⟨v3, v2⟩ (by rw [v1]; omega)
    unfold pN pE
    rw [e1, e2, dec_bad, hr.1, hr.2, v1]
    refine ⟨?_, rfl⟩
    show -((n.natAbs : Nat) : Int) = n
    omega
  · rename_i h
    obtain ⟨v1, v2, v3, _⟩ := dec_val (n.toNat + 1) n.toNat (by omega)
    have := p_digits v3 v2 (dec_bad _) (by rw [v1]; omega)
    rw [this.1, this.2, v1]
    exact ⟨by omega, rfl⟩
theorem itoa_len (n : Int) (h0 : -9223372036854775808 ≤ n) (h1 : n ≤ 9223372036854775807) : (mkS (Lib.itoa n)).size ≤ 1000 := by
  have e : (10 : Nat) ^ (19 + 1) = 100000000000000000000 := by decide
  rw [size_mkS]
  unfold Lib.itoa
  split
  · have := dec_len 19 n.natAbs (by omega); simp; omega
  · have := dec_len 19 n.toNat (by omega); omega

theorem aw1 : pN [45, 48] = 0 ∧ pE [45, 48] = 0 := by decide +kernel
theorem aw2 : pN [48, 49] = 0 ∧ pE [48, 49] = 3 := by decide +kernel
theorem aw3 : rdN 16 2147483647 [102, 70] = 255 ∧ rdE 16 2147483647 [102, 70] = 0 := by decide +kernel
theorem aw4 : Lib.itoa (-7) = [45, 55] := by
  unfold Lib.itoa
  rw [if_pos (by decide), show (-7 : Int).natAbs = 7 from rfl, dec_small (by decide)]
  rfl
end Go.Proofs.YtbimncnicioagaaDoor.Nu
